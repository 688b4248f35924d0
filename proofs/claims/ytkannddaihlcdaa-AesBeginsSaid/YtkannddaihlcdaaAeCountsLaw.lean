/-
  AesCounts answers true for every key, nonce and number of blocks, and turns nothing of what was there.
-/
import Derived.Test.YtkannddaihlcdaaAeStream
import Derived.Laws.MakeOwn
namespace Go.Proofs.Ytkannddaihlcdaa
open Go.RowKit
namespace Ae
theorem madeN (n : Nat) : madeCells (Value.int .u8 0).cells (n * 1) = Sm.rowB n [] := by
  unfold Sm.rowB Lib.byteCells madeCells
  apply Array.ext'
  simp [Value.cells]
  apply List.ext_getElem (by simp)
  intro i h1 h2
  simp [Nat.mod_one]
theorem makeN (n : Nat) (hn : n ≤ 65536) (W : World) : (Instr.makeSlice 27 (.int .i64 (n : Int)) (.int .i64 (n : Int))).run Try.prog W = .ok (.slice (some ⟨W.heap.size, 0, none⟩) n n) (W.alloc (.cells (Sm.rowB n []) 5)) := by
  obtain ⟨i0, hi, hz0, hz1, hz2⟩ := info_parts info3_u8
  have hr := run_make (P := Try.prog) W 27 5 i0 _ Try.underlying27 hi hz0 .i64 .i64 n n (by omega) (by omega) (by rw [hz2]; omega) (by omega)
  rw [hz1] at hr
  rw [Int.toNat_natCast, madeN] at hr
  exact hr
theorem rowN_nil (n : Nat) : Sm.rowB n [] = (Lib.byteCells (List.replicate n 0)).toArray := by unfold Sm.rowB; simp
theorem convN (n : Nat) {W : World} {M : Nat} (h : W.heap[M]? = some (.cells (Sm.rowB n []) 5 (0, 0))) : (convert 27 9 (.slice (some ⟨M, 0, none⟩) n n)).run Try.prog W = .ok (.string ⟨(List.replicate n 0).toArray⟩) W := by
  rw [rowN_nil] at h
  exact Sm.conv_row (n := n) h (by simp)
/-- A nonce and a count of one byte. -/
def ctrB (nonce : List UInt8) (i : Nat) : List UInt8 := nonce ++ [0, 0, 0, UInt8.ofNat i]
theorem ctrB_length (nonce : List UInt8) (i : Nat) (h : nonce.length = 12) : (ctrB nonce i).length = 16 := by rw [ctrB, List.length_append, h]; rfl
theorem ctrB_set (nonce : List UInt8) (i : Nat) (h : nonce.length = 12) : (nonce ++ List.replicate 4 0).set 15 (UInt8.ofNat i) = ctrB nonce i := by
  rw [List.set_append_right _ _ (by omega), h]; rfl
theorem ctrB_cols (nonce : List UInt8) (i : Nat) (h : nonce.length = 12) (hi : i < 256) : cols (ctrB nonce i) = ctrW nonce i := by
  have hw : ∀ j, j < 3 → Sm.word (ctrB nonce i) j = Sm.word nonce j := fun j hj => by
    unfold Sm.word ctrB
    simp only [List.getD_eq_getElem?_getD]
    rw [List.getElem?_append_left (by omega), List.getElem?_append_left (by omega), List.getElem?_append_left (by omega), List.getElem?_append_left (by omega)]
  have h3 : Sm.word (ctrB nonce i) 3 = i % 4294967296 := by
    unfold Sm.word ctrB
    simp only [List.getD_eq_getElem?_getD]
    rw [List.getElem?_append_right (by omega), List.getElem?_append_right (by omega), List.getElem?_append_right (by omega), List.getElem?_append_right (by omega)]
    simp only [h]
    show Sm.be4 (0 : UInt8).toNat (0 : UInt8).toNat (0 : UInt8).toNat (UInt8.ofNat i).toNat = _
    rw [UInt8.toNat_ofNat']
    unfold Sm.be4
    show 0 * _ + 0 * _ + 0 * _ + i % 256 = _
    omega
  show [Sm.word _ 0, Sm.word _ 1, Sm.word _ 2, Sm.word _ 3] = _
  rw [hw 0 (by decide), hw 1 (by decide), hw 2 (by decide), h3]
  rfl
theorem ctr_block (key nonce : List UInt8) (i : Nat) (h : nonce.length = 12) (hi : i < 256) : block key (ctrB nonce i) = pad key nonce i := by
  rw [block, ctrB_cols nonce i h hi]; rfl
theorem noughts_cut (key nonce : List UInt8) (n i : Nat) (hi : i < n) : ((ByteArray.mk (stream key nonce (List.replicate (16 * n) 0)).toArray).extract (16 * i) (16 * i + 16)) = ⟨(pad key nonce i).toArray⟩ := by
  apply ByteArray.ext
  apply Array.ext'
  rw [ByteArray.data_extract, Array.toList_extract]
  apply List.ext_getElem
  · simp [stream_length, pad_length]; omega
  · intro j h1 h2
    have hj : j < 16 := by simpa [pad_length] using h2
    have e : (16 * i + j) / 16 = i := by omega
    have e2 : (16 * i + j) % 16 = j := by omega
    simp [stream, strF, sbyte, e, e2, List.getD_eq_getElem?_getD, pad_length, hj, show 16 * i + j < 16 * n by omega]
end Ae

set_option maxRecDepth 100000 in
set_option maxHeartbeats 4000000 in
theorem aesCounts_any (w : World) (key nonce : List UInt8) (hkey : key.length = 32) (hnon : nonce.length = 12) (b : UInt8) :
    Calls Try.prog 8 #[.agg (Lib.byteCells key).toArray, .agg (Lib.byteCells nonce).toArray, .int .u8 b.toNat] w fun e w' => e = .returned (.bool true) ∧ Below w.heap.size w w' := by
  obtain ⟨ckl, hck⟩ : ∃ c, c = Lib.byteCells key := ⟨_, rfl⟩
  obtain ⟨cnl, hcn⟩ : ∃ c, c = Lib.byteCells nonce := ⟨_, rfl⟩
  have hckn : ckl.length = 32 := by rw [hck, Lib.byteCells_length, hkey]
  have hcnn : cnl.length = 12 := by rw [hcn, Lib.byteCells_length, hnon]
  have hb := b.toNat_lt
  obtain ⟨n, hn⟩ : ∃ n, n = b.toNat % 41 := ⟨_, rfl⟩
  have hn40 : n ≤ 40 := by omega
  obtain ⟨zs, hzs⟩ : ∃ z : ByteArray, z = ⟨(List.replicate (16 * n) 0).toArray⟩ := ⟨_, rfl⟩
  obtain ⟨so, hso⟩ : ∃ z : ByteArray, z = ⟨(Ae.stream key nonce (List.replicate (16 * n) 0)).toArray⟩ := ⟨_, rfl⟩
  have STR : Hid (∀ wx : World, Calls Try.prog 12 #[.agg ckl.toArray, .agg cnl.toArray, .string zs] wx fun e w' => e = .returned (.string so) ∧ Below wx.heap.size wx w') := by
    intro wx; rw [hck, hcn, hso, hzs]; exact stream_any wx key nonce hkey hnon ⟨(List.replicate (16 * n) 0).toArray⟩ (by show (List.replicate (16 * n) (0 : UInt8)).toArray.size ≤ _; simp; omega)
  have hsz : so.size = 16 * n := by
    rw [hso]; show (Ae.stream key nonce (List.replicate (16 * n) 0)).length = _
    rw [Ae.stream_length, List.length_replicate]
  have CUT : Hid (∀ i, i < n → so.extract (16 * i) (16 * i + 16) = ⟨(Ae.pad key nonce i).toArray⟩) := by
    intro i hi; rw [hso]; exact Ae.noughts_cut key nonce n i hi
  have BLK : Hid (∀ (wx : World) (i : Nat), i < 256 → Calls Try.prog 10 #[.agg ckl.toArray, .agg (Lib.byteCells (Ae.ctrB nonce i)).toArray] wx fun e w' => e = .returned (.agg (Lib.byteCells (Ae.pad key nonce i)).toArray) ∧ Below wx.heap.size wx w') := by
    intro wx i hi
    have h := block_any wx key (Ae.ctrB nonce i) hkey (Ae.ctrB_length nonce i hnon)
    rw [Ae.ctr_block key nonce i hnon hi, ← hck] at h
    exact h
  have hmk : ∀ W : World, (Instr.makeSlice 27 (.int .i64 (16 * (n : Int))) (.int .i64 (16 * (n : Int)))).run Try.prog W = .ok (.slice (some ⟨W.heap.size, 0, none⟩) (16 * n) (16 * n)) (W.alloc (.cells (Sm.rowB (16 * n) []) 5)) := fun W => by
    have h := Ae.makeN (16 * n) (by omega) W
    rw [show ((16 * n : Nat) : Int) = 16 * (n : Int) by omega] at h
    exact h
  have CZ : Hid (∀ (W : World) (M : Nat), W.heap[M]? = some (.cells (Sm.rowB (16 * n) []) 5 (0, 0)) → (convert 27 9 (.slice (some ⟨M, 0, none⟩) (16 * n) (16 * n))).run Try.prog W = .ok (.string zs) W) := fun W M h => by
    rw [hzs]; exact Ae.convN (16 * n) h
  rw [← hck, ← hcn]
  obtain ⟨N, hN⟩ : ∃ N, N = w.heap.size := ⟨_, rfl⟩
  have g1 : ((w.alloc (.cells ckl.toArray 25)).alloc (.cells cnl.toArray 29)).heap[N]? = some (.cells ckl.toArray 25 (0, 0)) := by
    rw [hN, Below.heap_alloc _ _ _ (by simp)]; exact heap_alloc_new w _
  have g2 : ((w.alloc (.cells ckl.toArray 25)).alloc (.cells cnl.toArray 29)).heap[N + 1]? = some (.cells cnl.toArray 29 (0, 0)) := by
    rw [hN]; simpa using heap_alloc_new (w.alloc (.cells ckl.toArray 25)) (.cells cnl.toArray 29)
  have b2 : Below N w ((w.alloc (.cells ckl.toArray 25)).alloc (.cells cnl.toArray 29)) := by
    rw [hN]; exact ((Below.refl _ w).alloc (Nat.le_refl _) _).alloc (by simp) _
  have AW := Lib.hid awake4_any
  have HU1 : Hid (Try.prog.underlying 25 = some (.array 32 5)) := Try.underlying25
  have HU2 : Hid (Try.prog.underlying 29 = some (.array 12 5)) := Try.underlying29
  have HI1 : Hid ((Try.prog.info? 25).map (·.size) = some ckl.length) := by show _ = _; rw [hckn]; kernel_rfl
  have HI2 : Hid ((Try.prog.info? 29).map (·.size) = some cnl.length) := by show _ = _; rw [hcnn]; kernel_rfl
  have HI1a : Hid ((Try.prog.info? 25).map (·.size) = some ckl.toArray.size) := by show _ = _; rw [List.size_toArray]; exact HI1.out
  have HCN := Lib.hid hcn
  have HSZ := Lib.hid hsz
  have HHN := Lib.hid hnon
  obtain ⟨z2, hz2⟩ : ∃ z, z = Sm.rowB 16 [] := ⟨_, rfl⟩
  have hk2 := (zero_of_info Ae.zero16).1
  rw [← hz2] at hk2
  have HZ2 := Lib.hid hz2
  clear hz2 hnon
  have hNn : b.toNat % 41 = n := hn.symm
  have hmod : (b.toNat : Int) % 41 = n := by omega
  clear hck hcn hckn hcnn hkey hzs hso hsz hn
  have HMOD := Lib.hid hmod
  go_enter Try.func8, Try.ntmps8
  go_wp2_with fail
  generalize (w.alloc (.cells ckl.toArray 25)).alloc (.cells cnl.toArray 29) = W2 at *
  refine (AW.out _).mono ?_
  rintro e w3 ⟨rfl, k3⟩
  have hHN : N ≤ w.heap.size := by omega
  have s2 := Sm.lt_of g2
  have b3 := Sm.low_low b2 hHN k3
  have G1 : Hid (w3.drew.heap[N]? = some (.cells ckl.toArray 25 (0, 0))) := (k3.block N (by omega)).trans g1
  have G2 : Hid (w3.drew.heap[N + 1]? = some (.cells cnl.toArray 29 (0, 0))) := (k3.block (N + 1) s2).trans g2
  have B3 : Below N w w3.drew := b3.drew
  rw [← hN]
  have HN := Lib.hid hN
  have hm2 := HMOD.out
  clear g1 g2 b2 k3 s2 hN
  go_wp2_with fail
  clear hm2
  have v16 : IntKind.i64.wrap (16 * (n : Int)) = 16 * (n : Int) := IntWalk.i64_in _ (by omega)
  refine wp_region_held_drew (S := fun w' => w'.rangeAt N 0 ckl ∧ w'.rangeAt (N + 1) 0 cnl) (by kernel_rfl) ⟨Sm.range_row G1.out, Sm.range_row G2.out⟩ (fun hHeld => ?_)
  refine wpAnyH_take (i := 0) (oi := ⟨some 17, _, _, _, _, _⟩) (v := .agg ckl.toArray) rfl (by kernel_rfl) (by kernel_rfl) (by kernel_rfl) (fun _ _ _ h => h) (yieldsIf_load_mid (by rfl) _ _ rfl _ _ rfl ckl _ (fun w hS => hS.1) HU1.out rfl HI1.out) (by assumption) ?_
  simp only [Act.put, List.setIfInBounds_toArray, List.set_cons_zero, List.set_cons_succ]
  refine wpAnyH_take (i := 1) (oi := ⟨some 18, _, _, _, _, _⟩) (v := .agg cnl.toArray) rfl (by kernel_rfl) (by kernel_rfl) (by kernel_rfl) (fun _ _ _ h => h) (yieldsIf_load_mid (by rfl) _ _ rfl _ _ rfl cnl _ (fun w hS => hS.2) HU2.out rfl HI2.out) (by assumption) ?_
  simp only [Act.put, List.setIfInBounds_toArray, List.set_cons_zero, List.set_cons_succ]
  refine wpAnyH_take (i := 2) (oi := ⟨some 19, _, _, _, _, _⟩) (v := .int .i64 (n : Int)) rfl (by kernel_rfl) (by kernel_rfl) (by kernel_rfl) (fun _ _ _ h => h) (Or.inl ⟨by rfl, ?_⟩) (by assumption) ?_
  · intro w hSw; (try dsimp only at hSw); go_simp
  simp only [Act.put, List.setIfInBounds_toArray, List.set_cons_zero, List.set_cons_succ]
  refine wpAnyH_take (i := 3) (oi := ⟨some 20, _, _, _, _, _⟩) (v := .int .i64 (16 * (n : Int))) rfl (by kernel_rfl) (by kernel_rfl) (by kernel_rfl) (fun _ _ _ h => h) (Or.inl ⟨by rfl, ?_⟩) (by assumption) ?_
  · intro w hSw; (try dsimp only at hSw); go_simp
  simp only [Act.put, List.setIfInBounds_toArray, List.set_cons_zero, List.set_cons_succ]
  refine wpAnyH_ready (rs := [4]) (by kernel_rfl) (by simp) ?_
  refine AllReadyH.cons (o := ⟨some 21, _, _, _, _, _⟩) rfl (fun K hK => ?_) AllReadyH.nil
  go_simp
  have hsz4 := Sm.lt_of G2.out
  have hN1 : N + 1 < w3.heap.size := hsz4
  have G1b : Hid ((w3.alloc (.cells (Sm.rowB (16 * n) []) 5)).drew.heap[N]? = some (.cells ckl.toArray 25 (0, 0))) := (Below.heap_alloc w3 (.cells (Sm.rowB (16 * n) []) 5) N (by omega)).trans G1.out
  have G2b : Hid ((w3.alloc (.cells (Sm.rowB (16 * n) []) 5)).drew.heap[N + 1]? = some (.cells cnl.toArray 29 (0, 0))) := (Below.heap_alloc w3 (.cells (Sm.rowB (16 * n) []) 5) (N + 1) hN1).trans G2.out
  have B4 : Below N w (w3.alloc (.cells (Sm.rowB (16 * n) []) 5)).drew := (b3.alloc (by omega) _).drew
  have hcv := CZ.out (w3.alloc (.cells (Sm.rowB (16 * n) []) 5)).drew w3.heap.size (heap_alloc_new w3 _)
  refine hK.out _ _ ⟨Sm.range_row G1b.out, Sm.range_row G2b.out⟩ (fun hHeld => ?_)
  clear hK K
  refine wpAnyH_ready (rs := [5]) (by kernel_rfl) (by simp) ?_
  refine AllReadyH.cons (o := ⟨some 22, _, _, _, _, _⟩) rfl (fun K hK => ?_) AllReadyH.nil
  go_simp
  refine hK.out _ _ ⟨Sm.range_row G1b.out, Sm.range_row G2b.out⟩ (fun hHeld => ?_)
  clear hK K
  refine wpAnyH_ready (rs := [6]) (by kernel_rfl) (by simp) ?_
  refine AllReadyH.cons (o := ⟨some 23, _, _, _, _, _⟩) rfl (fun K hK => ?_) AllReadyH.nil
  go_simp
  refine (STR.out _).mono ?_
  rintro e w5 ⟨rfl, k5⟩
  have s4 := Sm.lt_of G2b.out
  have B5 := Sm.low_low B4 hHN k5
  have G1c := Lib.hid ((k5.block N (by omega)).trans G1b.out)
  have G2c := Lib.hid ((k5.block (N + 1) s4).trans G2b.out)
  clear k5
  refine hK.out _ _ ⟨Sm.range_row G1c.out, Sm.range_row G2c.out⟩ (fun hHeld => ?_)
  clear hK K
  refine wpAnyH_take (i := 7) (oi := ⟨some 8, _, _, _, _, _⟩) (v := .string so) rfl (by kernel_rfl) (by kernel_rfl) (by kernel_rfl) (fun _ _ _ h => h) (Or.inl ⟨by rfl, ?_⟩) (by assumption) ?_
  · intro w hSw; (try dsimp only at hSw); go_simp
  simp only [Act.put, List.setIfInBounds_toArray, List.set_cons_zero, List.set_cons_succ]
  refine wpAnyH_done (by kernel_rfl) ?_ _
  clear hcv v16 G1 G2 G1b G2b B3 b3 B4 s4 hsz4 hN1
  have hso2 : ((so.size : Int) != 16 * (n : Int)) = false := by rw [bne_eq_false_iff_eq, HSZ.out]; omega
  have hso3 : (so.size : Int) = 16 * (n : Int) := by rw [HSZ.out]; omega
  have HSO := Lib.hid hso3
  go_wp2_with fail
  clear hso2 hso3 hmk
  go_loopw [9] (fun i wr => ∃ k : Nat, k ≤ n ∧ i = .int .i64 k ∧ wr.heap[N]? = some (.cells ckl.toArray 25 (0, 0)) ∧ wr.heap[N + 1]? = some (.cells cnl.toArray 29 (0, 0)) ∧ Below N w wr) (fun i _ => n - (intOf i).toNat)
  case atStart => exact ⟨0, by omega, rfl, G1c.out, G2c.out, B5⟩
  case round =>
    clear G1c G2c B5
    obtain ⟨k, hk, rfl, h1, h2, hbw⟩ := hrel
    have H1 := Lib.hid h1
    have H2 := Lib.hid h2
    clear h1 h2
    by_cases hlt : k < n
    · have q1 : (k : Int) < n := by omega
      have q2 : (k : Int) < 256 := by omega
      have q3 : IntKind.u8.wrap (k : Int) = (k : Int) := by rw [IntKind.wrap_u8']; omega
      have lN := Sm.lt_of H2.out
      have g3 : (wr.alloc (.cells z2 22)).drew.heap[wr.heap.size]? = some (.cells (Sm.rowB 16 []) 22 (0, 0)) := by rw [← HZ2.out]; exact heap_alloc_new wr _
      have g1 : (wr.alloc (.cells z2 22)).drew.heap[N]? = some (.cells ckl.toArray 25 (0, 0)) := (Below.heap_alloc wr _ N (by omega)).trans H1.out
      have g2 : (wr.alloc (.cells z2 22)).drew.heap[N + 1]? = some (.cells cnl.toArray 29 (0, 0)) := (Below.heap_alloc wr _ (N + 1) lN).trans H2.out
      have b1 := (hbw.alloc (by omega) (.cells z2 22)).drew
      have hcp := Ae.copy_head (w := (wr.alloc (.cells z2 22)).drew) (M := N + 1) 3 HHN.out g3 (by rw [← HCN.out]; exact g2)
      have hrow := Ae.ctrB_set nonce k HHN.out
      have hbs := Sm.bytes_set (nonce ++ List.replicate 4 0) 15 (UInt8.ofNat k)
      rw [hrow, Ae.ofNat8 _ (by omega)] at hbs
      have hhl : (nonce ++ List.replicate 4 0).length = 16 := by rw [List.length_append, HHN.out]; rfl
      obtain ⟨ch, hch⟩ : ∃ c, c = (Lib.byteCells (nonce ++ List.replicate 4 0)).toArray := ⟨_, rfl⟩
      have hchs : ch.size = 16 := by rw [hch, Sm.bytes_size, hhl]
      obtain ⟨cb, hcb⟩ : ∃ c, c = (Lib.byteCells (Ae.ctrB nonce k)).toArray := ⟨_, rfl⟩
      have hcbs : cb.size = 16 := by rw [hcb, Sm.bytes_size, Ae.ctrB_length _ _ HHN.out]
      rw [← hch] at hcp hbs
      rw [← hcb] at hbs
      have g4 := setRow_heap _ wr.heap.size _ ch _ _ g3
      have n1 := (setRow_other (wr.alloc (.cells z2 22)).drew wr.heap.size N ch (by omega)).trans g1
      have n2 := (setRow_other (wr.alloc (.cells z2 22)).drew wr.heap.size (N + 1) ch (by omega)).trans g2
      have b2 := Sm.below_setRow (N := wr.heap.size) b1 (by omega) ch
      obtain ⟨old, hold⟩ : ∃ v, ch[15]? = some v := ⟨_, Array.getElem?_eq_getElem (by omega)⟩
      have c15 := Sm.cells_of g4 15 old hold
      have z15 := Sm.free_of g4 15
      have g5 := Sm.heap_set g4 15 (.int .u8 (k : Int))
      rw [hbs] at g5
      have n3 := (Below.heap_setCell ((wr.alloc (.cells z2 22)).drew.setRow wr.heap.size ch) ⟨wr.heap.size, 15, none⟩ (.int .u8 (k : Int)) N (by simp; omega)).trans n1
      have n4 := (Below.heap_setCell ((wr.alloc (.cells z2 22)).drew.setRow wr.heap.size ch) ⟨wr.heap.size, 15, none⟩ (.int .u8 (k : Int)) (N + 1) (by simp; omega)).trans n2
      have b3 := b2.setCell (p := ⟨wr.heap.size, 15, none⟩) (by show N ≤ wr.heap.size; omega) (.int .u8 (k : Int))
      have BK : Hid (∀ wx : World, Calls Try.prog 10 #[.agg ckl.toArray, .agg cb] wx fun e w' => e = .returned (.agg (Lib.byteCells (Ae.pad key nonce k)).toArray) ∧ Below wx.heap.size wx w') := fun wx => by rw [hcb]; exact BLK.out wx k (by omega)
      have HG5 := Lib.hid g5
      have HN3 := Lib.hid n3
      have HN4 := Lib.hid n4
      have HIB := Ae.info16 hcbs
      clear hrow hbs hhl hch hchs hcb hcbs g1 g2 g3 n1 n2 g4 g5 n3 n4 hold b1 b2
      go_upto_region 11 with (fail)
      go_region
      clear hcp
      go_upto_region 13 with (fail)
      clear c15 z15
      generalize ((wr.alloc (.cells z2 22)).drew.setRow wr.heap.size ch).setCell ⟨wr.heap.size, 15, none⟩ (.int .u8 (k : Int)) = W4 at *
      have hpl : (Lib.byteCells (Ae.pad key nonce k)).toArray.size = 16 := by rw [Sm.bytes_size, Ae.pad_length]
      have hpo := Sm.bytes_one (Ae.pad key nonce k)
      have hcut := CUT.out k hlt
      obtain ⟨ob, hob⟩ : ∃ b : ByteArray, b = ⟨(Ae.pad key nonce k).toArray⟩ := ⟨_, rfl⟩
      obtain ⟨cp, hcp⟩ : ∃ c, c = (Lib.byteCells (Ae.pad key nonce k)).toArray := ⟨_, rfl⟩
      have CP : Hid (∀ (W : World) (M : Nat), W.heap[M]? = some (.cells cp 22 (0, 0)) → (convert 27 9 (.slice (some ⟨M, 0, none⟩) 16 16)).run Try.prog W = .ok (.string ob) W) := fun W M h => by
        rw [hcp] at h
        rw [hob]
        exact Sm.conv_row h (Ae.pad_length _ _ _)
      rw [← hcp] at BK hpl hpo
      rw [← hob] at hcut
      have HCUT := Lib.hid hcut
      clear hcut hob hcp
      go_wp2_with (first | (with_reducible refine wpList_load_row rfl 25 (.tmp 3) rfl N rfl 25 ckl.toArray (0, 0) _ (by exact HN3.out) Try.underlying25 rfl HI1a.out ?_) | (with_reducible refine wpList_load_row rfl 22 (.tmp 10) rfl wr.heap.size rfl 22 cb (0, 0) _ (by exact HG5.out) Try.underlying22 rfl HIB ?_))
      refine (BK.out _).mono ?_
      rintro e w5 ⟨rfl, k5⟩
      have b5 := Sm.low_low b3 hHN k5
      have n5 := Lib.hid ((k5.block N (Sm.lt_of HN3.out)).trans HN3.out)
      have n6 := Lib.hid ((k5.block (N + 1) (Sm.lt_of HN4.out)).trans HN4.out)
      have hst : (storeCells ⟨w5.heap.size, 0, none⟩ cp.toList).run Try.prog (w5.alloc (.cells z2 22)) = .ok () (w5.alloc (.cells cp 22)) :=
        run_storeCells_new (P := Try.prog) w5 22 z2 cp (Ae.info16 hpl) (by rw [hpl, HZ2.out]; exact Sm.rowB_size (by simp)) hpo
      have g7 := heap_alloc_new w5 (.cells cp 22)
      have n7 := Lib.hid ((Below.heap_alloc w5 (.cells cp 22) N (Sm.lt_of n5.out)).trans n5.out)
      have n8 := Lib.hid ((Below.heap_alloc w5 (.cells cp 22) (N + 1) (Sm.lt_of n6.out)).trans n6.out)
      have b7 := b5.alloc (by have := Sm.lt_of n5.out; omega) (.cells cp 22)
      clear k5 b5 b3 HN3 HN4 HG5 BK
      go_wp2_with fail
      clear hst hpl hpo
      obtain ⟨Q, hQ⟩ : ∃ Q, Q = w5.heap.size := ⟨_, rfl⟩
      rw [← hQ] at g7 ⊢
      generalize w5.alloc (.cells cp 22) = W7 at *
      have G7 : Hid (W7.drew.heap[Q]? = some (.cells cp 22 (0, 0))) := g7
      have hcut := HCUT.out
      have e0 : (16 * (k : Int)).toNat = 16 * k := by omega
      have e1 : (16 * (k : Int) + 16).toNat = 16 * k + 16 := by omega
      have v0 : IntKind.i64.wrap (16 * (k : Int)) = 16 * (k : Int) := IntWalk.i64_in _ (by omega)
      have v1 : IntKind.i64.wrap (16 * (k : Int) + 16) = 16 * (k : Int) + 16 := IntWalk.i64_in _ (by omega)
      have p0 : 0 ≤ 16 * (k : Int) := by omega
      have p1 : 0 ≤ 16 * (k : Int) + 16 := by omega
      have p2 : 16 * (k : Int) + 16 ≤ (so.size : Int) := by rw [HSO.out]; omega
      have p3 : 16 * (k : Int) ≤ 16 * (k : Int) + 16 := by omega
      clear hQ g7
      refine wp_region_noPanic ?_
      refine wp_region_held_drew (S := fun w' => (convert 27 9 (.slice (some ⟨Q, 0, none⟩) 16 16)).run Try.prog w' = .ok (.string ob) w') (by kernel_rfl) (CP.out _ _ G7.out) (fun hHeld => ?_)
      refine wpAnyH_take (i := 0) (oi := ⟨some 43, _, _, _, _, _⟩) (v := .string so) rfl (by kernel_rfl) (by kernel_rfl) (by kernel_rfl) (fun _ _ _ h => h) (Or.inl ⟨by rfl, ?_⟩) (by assumption) ?_
      · intro w hSw; (try dsimp only at hSw); go_simp
      simp only [Act.put, List.setIfInBounds_toArray, List.set_cons_zero, List.set_cons_succ]
      refine wpAnyH_take (i := 1) (oi := ⟨some 44, _, _, _, _, _⟩) (v := .int .i64 (k : Int)) rfl (by kernel_rfl) (by kernel_rfl) (by kernel_rfl) (fun _ _ _ h => h) (Or.inl ⟨by rfl, ?_⟩) (by assumption) ?_
      · intro w hSw; (try dsimp only at hSw); go_simp
      simp only [Act.put, List.setIfInBounds_toArray, List.set_cons_zero, List.set_cons_succ]
      refine wpAnyH_take (i := 2) (oi := ⟨some 45, _, _, _, _, _⟩) (v := .int .i64 (16 * (k : Int))) rfl (by kernel_rfl) (by kernel_rfl) (by kernel_rfl) (fun _ _ _ h => h) (Or.inl ⟨by rfl, ?_⟩) (by assumption) ?_
      · intro w hSw; (try dsimp only at hSw); go_simp
      simp only [Act.put, List.setIfInBounds_toArray, List.set_cons_zero, List.set_cons_succ]
      refine wpAnyH_take (i := 3) (oi := ⟨some 46, _, _, _, _, _⟩) (v := .int .i64 (k : Int)) rfl (by kernel_rfl) (by kernel_rfl) (by kernel_rfl) (fun _ _ _ h => h) (Or.inl ⟨by rfl, ?_⟩) (by assumption) ?_
      · intro w hSw; (try dsimp only at hSw); go_simp
      simp only [Act.put, List.setIfInBounds_toArray, List.set_cons_zero, List.set_cons_succ]
      refine wpAnyH_take (i := 4) (oi := ⟨some 47, _, _, _, _, _⟩) (v := .int .i64 (16 * (k : Int))) rfl (by kernel_rfl) (by kernel_rfl) (by kernel_rfl) (fun _ _ _ h => h) (Or.inl ⟨by rfl, ?_⟩) (by assumption) ?_
      · intro w hSw; (try dsimp only at hSw); go_simp
      simp only [Act.put, List.setIfInBounds_toArray, List.set_cons_zero, List.set_cons_succ]
      refine wpAnyH_take (i := 5) (oi := ⟨some 48, _, _, _, _, _⟩) (v := .int .i64 (16 * (k : Int) + 16)) rfl (by kernel_rfl) (by kernel_rfl) (by kernel_rfl) (fun _ _ _ h => h) (Or.inl ⟨by rfl, ?_⟩) (by assumption) ?_
      · intro w hSw; (try dsimp only at hSw); go_simp
      simp only [Act.put, List.setIfInBounds_toArray, List.set_cons_zero, List.set_cons_succ]
      refine wpAnyH_take (i := 6) (oi := ⟨some 49, _, _, _, _, _⟩) (v := .string ob) rfl (by kernel_rfl) (by kernel_rfl) (by kernel_rfl) (fun _ _ _ h => h) (Or.inl ⟨by rfl, ?_⟩) (by assumption) ?_
      · intro w hSw; (try dsimp only at hSw); go_simp
      simp only [Act.put, List.setIfInBounds_toArray, List.set_cons_zero, List.set_cons_succ]
      refine wpAnyH_take (i := 7) (oi := ⟨some 50, _, _, _, _, _⟩) (v := .slice (some ⟨Q, 0, none⟩) 16 16) rfl (by kernel_rfl) (by kernel_rfl) (by kernel_rfl) (fun _ _ _ h => h) (Or.inl ⟨by rfl, ?_⟩) (by assumption) ?_
      · intro w hSw; (try dsimp only at hSw); go_simp
      simp only [Act.put, List.setIfInBounds_toArray, List.set_cons_zero, List.set_cons_succ]
      refine wpAnyH_take (i := 8) (oi := ⟨some 51, _, _, _, _, _⟩) (v := .string ob) rfl (by kernel_rfl) (by kernel_rfl) (by kernel_rfl) (fun _ _ _ h => h) (Or.inl ⟨by rfl, ?_⟩) (by assumption) ?_
      · intro w hSw; (try dsimp only at hSw); go_simp
      simp only [Act.put, List.setIfInBounds_toArray, List.set_cons_zero, List.set_cons_succ]
      refine wpAnyH_take (i := 9) (oi := ⟨some 52, _, _, _, _, _⟩) (v := .bool false) rfl (by kernel_rfl) (by kernel_rfl) (by kernel_rfl) (fun _ _ _ h => h) (Or.inl ⟨by rfl, ?_⟩) (by assumption) ?_
      · intro w hSw; (try dsimp only at hSw); go_simp
      simp only [Act.put, List.setIfInBounds_toArray, List.set_cons_zero, List.set_cons_succ]
      refine wpAnyH_done (by kernel_rfl) ?_ _
      refine NoPanic.normal ?_
      clear hcut e0 e1 v0 v1 p0 p1 p2 p3
      go_wp2
      go_roundw
      case rel => exact ⟨k + 1, by omega, by go_num, n7.out, n8.out, b7.drew⟩
      case measure => simp [intOf]; omega
    · obtain rfl : k = n := by omega
      have q1 : ¬ (k : Int) < k := by omega
      go_wp2
      go_ret
      exact ⟨rfl, by rw [← HN.out]; exact hbw⟩
end Go.Proofs.Ytkannddaihlcdaa
