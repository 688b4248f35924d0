/-
  What newCipher makes.
-/
import Derived.Test.YtkannddaihlcdaaAeSched
namespace Go.Proofs.Ytkannddaihlcdaa
open Go.RowKit
namespace Ae
/-- A cipher's cells: S, and a schedule. -/
def cipCells (key : List UInt8) : Array Value := (Lib.byteCells box ++ Sm.nums (ks key)).toArray
def preCells : Array Value := (Lib.byteCells box ++ Sm.nums (List.replicate 60 0)).toArray
def CipAt (w : World) (b : Nat) (key : List UInt8) : Prop := w.heap[b]? = some (.cells (cipCells key) 60 (0, 0))
def zeroCip : Array Value := (Lib.byteCells (List.replicate 256 0) ++ Sm.nums (List.replicate 60 0)).toArray
theorem zeroCipher : (Try.prog.info? 60).map (fun i => (i.zero, i.size)) = some (some (.agg zeroCip), 316) := by kernel_rfl
theorem put_list (l : List Value) (k : Nat) (cs : Array Value) (h : k + l.length ≤ cs.size) :
    (l.zipIdx k).foldl (fun (cs : Array Value) x => cs.setIfInBounds x.snd x.fst) cs = (cs.toList.take k ++ (l ++ cs.toList.drop (k + l.length))).toArray := by
  induction l generalizing k cs with
  | nil => apply Array.ext'; simp
  | cons v l ih =>
    simp only [List.length_cons] at h
    rw [List.zipIdx_cons, List.foldl_cons, ih _ _ (by simp; omega)]
    have e1 : (cs.toList.set k v).take (k + 1) = cs.toList.take k ++ [v] := by
      rw [List.take_succ_eq_append_getElem (by simp; omega), List.take_set_of_le (Nat.le_refl _)]
      simp
    have e2 : (cs.toList.set k v).drop (k + 1 + l.length) = cs.toList.drop (k + (l.length + 1)) := by
      rw [List.drop_set_of_lt (by omega), show k + 1 + l.length = k + (l.length + 1) by omega]
    simp only [Array.toList_setIfInBounds, List.length_cons]
    rw [e1, e2]
    simp
theorem put_row (bx z : Array Value) (h : bx.size ≤ z.size) : Array.foldl (fun (cs : Array Value) x => cs.setIfInBounds x.snd x.fst) z bx.zipIdx 0 bx.size = (bx.toList ++ z.toList.drop bx.size).toArray := by
  have e : bx.size = bx.zipIdx.size := by simp
  have h2 := put_list bx.toList 0 z (by simpa using h)
  rw [show Array.foldl (fun (cs : Array Value) x => cs.setIfInBounds x.snd x.fst) z bx.zipIdx 0 bx.size = Array.foldl (fun (cs : Array Value) x => cs.setIfInBounds x.snd x.fst) z bx.zipIdx 0 bx.zipIdx.size by rw [← e], ← Array.foldl_toList, Array.toList_zipIdx, h2]
  simp
theorem bc_length (n : Nat) : (Lib.byteCells (List.replicate n 0)).length = n := by simp [Lib.byteCells]
theorem nums_rep (n : Nat) : (Sm.nums (List.replicate n 0)).length = n := by simp [Sm.nums]
theorem zeroCip_size : zeroCip.size = 316 := by
  unfold zeroCip; rw [List.size_toArray, List.length_append, bc_length, nums_rep]
theorem put_box : ((Lib.byteCells box).toArray.toList ++ zeroCip.toList.drop 256).toArray = preCells := by
  have h := bc_length 256
  unfold zeroCip preCells
  rw [List.toList_toArray, List.drop_append_of_le_length (by rw [h]; exact Nat.le_refl _), List.drop_of_length_le (by rw [h]; exact Nat.le_refl _)]
  rfl
theorem box_cells_length : (Lib.byteCells box).length = 256 := by rw [Lib.byteCells_length, box_length]
theorem preCells_size : preCells.size = 316 := by
  unfold preCells; rw [List.size_toArray, List.length_append, box_cells_length, nums_rep]
theorem pre_box {w : World} {b : Nat} {t : TypeId} (h : w.heap[b]? = some (.cells preCells t (0, 0))) : BoxAt w b := fun i hi => by
  refine Sm.cells_of h i _ ?_
  unfold preCells
  rw [List.getElem?_toArray, List.getElem?_append_left (by rw [box_cells_length]; exact hi), ← Ae.sub1_box i hi]
  exact Sm.byteCells_get (by rw [box_length]; exact hi)
theorem CipAt.box {w : World} {b : Nat} {key : List UInt8} (h : CipAt w b key) : BoxAt w b := fun i hi => by
  refine Sm.cells_of h i _ ?_
  unfold cipCells
  rw [List.getElem?_toArray, List.getElem?_append_left (by rw [box_cells_length]; exact hi), ← Ae.sub1_box i hi]
  exact Sm.byteCells_get (by rw [box_length]; exact hi)
theorem CipAt.word {w : World} {b : Nat} {key : List UInt8} (h : CipAt w b key) (i : Nat) (hi : i < 60) : w.cell? ⟨b, 256 + i, none⟩ = some (.int .u32 ((ks key).getD i 0 : Nat)) := by
  refine Sm.cells_of h (256 + i) _ ?_
  unfold cipCells
  rw [List.getElem?_toArray, List.getElem?_append_right (by rw [box_cells_length]; omega), box_cells_length, show 256 + i - 256 = i by omega]
  exact Sm.nums_get (by rw [ks_length]; exact hi)
theorem CipAt.low {w w' : World} {b B : Nat} {key : List UInt8} (h : CipAt w b key) (k : Below B w w') (hb : b < B) : CipAt w' b key := (k.block b hb).trans h
theorem infoKey {c : Array Value} (h : c.size = 32) : (Try.prog.info? 25).map (·.size) = some c.size := by rw [h]; kernel_rfl
theorem pre_set (key : List UInt8) : (preCells.toList.take 256 ++ (Sm.nums (ks key) ++ preCells.toList.drop (256 + (Sm.nums (ks key)).length))).toArray = cipCells key := by
  have h1 : (Sm.nums (ks key)).length = 60 := by rw [Sm.nums_length, ks_length]
  have h2 := preCells_size
  rw [h1, List.drop_of_length_le (by rw [Array.length_toList]; omega)]
  unfold preCells cipCells
  rw [List.toList_toArray, List.take_append_of_le_length (by rw [box_cells_length]; exact Nat.le_refl _), List.take_of_length_le (by rw [box_cells_length]; exact Nat.le_refl _), List.append_nil]
end Ae

set_option maxRecDepth 100000 in
set_option maxHeartbeats 4000000 in
theorem newCipher_any (w : World) (key : List UInt8) (hkey : key.length = 32) :
    Calls Try.prog 16 #[.agg (Lib.byteCells key).toArray] w fun e w' => ∃ b, e = .returned (.pointer (some ⟨b, 0, none⟩)) ∧ w.heap.size ≤ b ∧ Ae.CipAt w' b key ∧ Below w.heap.size w w' := by
  obtain ⟨ckl, hck⟩ : ∃ c, c = Lib.byteCells key := ⟨_, rfl⟩
  have hz1 := (zero_of_info Ae.zeroCipher).1
  obtain ⟨z0, hz0⟩ : ∃ z, z = Ae.zeroCip := ⟨_, rfl⟩
  rw [← hz0] at hz1
  rw [← hck]
  have hzs : z0.size = 316 := by rw [hz0]; exact Ae.zeroCip_size
  obtain ⟨bx, hbx⟩ : ∃ c, c = (Lib.byteCells Ae.box).toArray := ⟨_, rfl⟩
  have NB := newBox_any
  rw [← hbx] at NB
  have HNB := Lib.hid NB
  have hbs : bx.size = 256 := by rw [hbx, Sm.bytes_size, Ae.box_length]
  have hpr := Ae.put_row bx z0 (by omega)
  rw [hbs] at hpr
  have HPB : Hid ((bx.toList ++ z0.toList.drop 256).toArray = Ae.preCells) := by
    show _ = _
    rw [hz0, hbx]; exact Ae.put_box
  have g0 := heap_alloc_new w (.cells ckl.toArray 25)
  have b0 : Below w.heap.size w (w.alloc (.cells ckl.toArray 25)) := (Below.refl _ w).alloc (Nat.le_refl _) _
  have s0 : (w.alloc (.cells ckl.toArray 25)).heap.size = w.heap.size + 1 := by simp
  have hckl : ckl.length = 32 := by rw [hck, Lib.byteCells_length, hkey]
  have SCH : Hid (∀ (wx : World) (b : Nat), Ae.BoxAt wx b → b < wx.heap.size → Calls Try.prog 25 #[.agg ckl.toArray, .pointer (some ⟨b, 0, none⟩)] wx fun e w' => e = .returned (.agg (Sm.nums (Ae.ks key)).toArray) ∧ Below wx.heap.size wx w') := fun wx b h1 h2 => by
    rw [hck]; exact schedule_any h1 h2 key hkey
  have hone := Ae.nums_one (Ae.ks key)
  have hsz60 : (Sm.nums (Ae.ks key)).length = 60 := by rw [Sm.nums_length, Ae.ks_length]
  have PS := Lib.hid (Ae.pre_set key)
  clear hz0 hck hbx NB
  go_enter Try.func16, Try.ntmps16
  go_wp2_with fail
  refine (HNB.out _).mono ?_
  rintro e w1 ⟨rfl, k1⟩
  have b1 := Sm.low_low b0 (Nat.le_refl _) k1
  have g1 := (k1.block w.heap.size (by omega)).trans g0
  have s1 := k1.size
  clear g0 k1 b0
  go_wp2_with fail
  rw [HPB.out]
  have g2 := (Below.heap_alloc w1 (.cells Ae.preCells 60) w.heap.size (by omega)).trans g1
  have p2 := heap_alloc_new w1 (.cells Ae.preCells 60)
  have b2 := b1.alloc b1.size (.cells Ae.preCells 60)
  have s2 : (w1.alloc (.cells Ae.preCells 60)).heap.size = w1.heap.size + 1 := by simp
  clear g1 b1 hzs hbs hpr hz1 HNB HPB
  generalize w1.alloc (.cells Ae.preCells 60) = W2 at *
  obtain ⟨M, hM⟩ : ∃ M, M = w1.heap.size := ⟨_, rfl⟩
  rw [← hM] at p2 s1 s2 ⊢
  obtain ⟨pc, hpc⟩ : ∃ c, c = Ae.preCells := ⟨_, rfl⟩
  have hpcs : pc.size = 316 := by rw [hpc]; exact Ae.preCells_size
  have G2 : Hid (W2.drew.heap[w.heap.size]? = some (.cells ckl.toArray 25 (0, 0))) := g2
  have P2 : Hid (W2.drew.heap[M]? = some (.cells Ae.preCells 60 (0, 0))) := p2
  have B2 : Hid (Below w.heap.size w W2.drew) := b2.drew
  have hMs : M < W2.drew.heap.size := by show M < W2.heap.size; omega
  have hNs : w.heap.size < W2.drew.heap.size := by show w.heap.size < W2.heap.size; omega
  clear hM g2 p2 b2 s2
  have hund : Try.prog.underlying 25 = some (.array 32 5) := Try.underlying25
  have hicl : (Try.prog.info? 25).map (·.size) = some ckl.length := by rw [hckl]; kernel_rfl
  have hisc : (Try.prog.info? 58).map (·.size) = some (Sm.nums (Ae.ks key)).length := by rw [hsz60]; kernel_rfl
  have THERE : Hid (∀ wx : World, wx.heap[M]? = some (.cells Ae.preCells 60 (0, 0)) → wx.there M 256 60) := fun wx h j hj => by
    have := Ae.preCells_size
    exact ⟨by rw [Sm.cells_of h (256 + j) _ (Array.getElem?_eq_getElem (by omega))]; rfl, Sm.free_of h _⟩
  have honel : ∀ v ∈ Sm.nums (Ae.ks key), v.oneCell' = true := fun v hv => by
    obtain ⟨x, _, rfl⟩ := List.mem_map.1 hv
    rfl
  obtain ⟨sc, hsc⟩ : ∃ c, c = Sm.nums (Ae.ks key) := ⟨_, rfl⟩
  rw [← hsc] at SCH hsz60 hisc honel PS
  clear hone hpc hpcs
  have HSZ60 := Lib.hid hsz60
  clear hsc
  have HNE : Hid (w.heap.size ≠ M) := by show w.heap.size ≠ M; omega
  go_region_held3 (fun w' => w'.rangeAt w.heap.size 0 ckl ∧ w'.there M 256 60)
    (first | exact ⟨Sm.range_row G2.out, THERE.out _ P2.out⟩ | exact ⟨Sm.range_row G3.out, THERE.out _ P3.out⟩ | exact ⟨World.rangeAt_setCells_apart (Sm.range_row G3.out) _ _ _ (.inl HNE.out), World.there_setCells (THERE.out _ P3.out) _ _ _⟩)
    ((first
      | (go_at_call 25; refine (SCH.out _ M (Ae.pre_box P2.out) hMs).mono ?_; rintro e w3 ⟨rfl, k3⟩; have G3 := Lib.hid ((k3.block w.heap.size hNs).trans G2.out); have P3 := Lib.hid ((k3.block M hMs).trans P2.out); have B3 := Lib.hid (Sm.low_low B2.out (Nat.le_refl _) k3); clear k3)))
  go_wp2
  go_ret
  refine ⟨M, rfl, by omega, ?_, Sm.below_setCells (by omega) _ _ B3.out⟩
  have h := Sm.heap_setCells sc 256 w3 Ae.preCells P3.out (by rw [HSZ60.out, Ae.preCells_size]; exact Nat.le_refl _)
  rw [PS.out] at h
  exact h
end Go.Proofs.Ytkannddaihlcdaa
