/-
  What Stream tells.
-/
import Derived.Test.YtgdnpagmhkkaiaaAeAwake
import Derived.Test.YtgdnpagmhkkaiaaAeStrm
import Derived.Test.YtgdnpagmhkkaiaaMBase
namespace Go.Proofs.Ytgdnpagmhkkaiaa
open Go.RowKit
namespace Ae
theorem info12 {c : Array Value} (h : c.size = 12) : (Try.prog.info? 24).map (·.size) = some c.size := by rw [h]; kernel_rfl
theorem u8_one : (Try.prog.info? 5).map (·.size) = some 1 := by kernel_rfl
/-- What copy makes of a head. -/
theorem copy_head {w : World} {N M : Nat} {nonce : List UInt8} {t : TypeId} (ty : TypeId) (hn : nonce.length = 12) (h : w.heap[N]? = some (.cells (Sm.rowB 16 []) t (0, 0))) (hs : w.heap[M]? = some (.cells (Lib.byteCells nonce).toArray 24 (0, 0))) :
    (Builtin.copy_ #[33, 33] ty #[.slice (some ⟨N, 0, none⟩) 16 16, .slice (some ⟨M, 0, none⟩) 12 12]).run Try.prog w = .ok (.int .i64 12) (w.setRow N (Lib.byteCells (nonce ++ List.replicate 4 0)).toArray) := by
  have r := run_copy_row (P := Try.prog) w 33 33 ty 5 N 0 16 16 ⟨M, 0, none⟩ 12 12 _ t (Lib.byteCells nonce) Try.underlying33 u8_one h (by rw [Lib.byteCells_length, hn]; rfl)
    (fun j v hv => by rw [Addr.add_mid, Nat.zero_add]; exact Sm.cells_of hs j v (by rw [List.getElem?_toArray]; exact hv)) (by rw [Lib.byteCells_length, hn, Sm.rowB_size (by simp)]; decide) (Lib.byteCells_one _)
  have e1 : (Sm.rowB 16 []).toList = Lib.byteCells (List.replicate 16 0) := by unfold Sm.rowB; rfl
  rw [e1, List.take_zero, List.nil_append, Nat.zero_add, Lib.byteCells_length, hn] at r
  rw [Lib.byteCells_append]
  have e2 : (Lib.byteCells (List.replicate 16 0)).drop 12 = Lib.byteCells (List.replicate 4 0) := by
    rw [Lib.byteCells, Lib.byteCells, List.map_replicate, List.map_replicate, List.drop_replicate]
  rw [e2] at r
  exact r
/-- A row of bytes that came of a conversion. -/
def RowX (w : World) (G cap lo hi : Nat) (xs : List UInt8) : Prop := ∃ cur : Array Value, w.heap[G]? = some (.cells cur 5 (lo, hi)) ∧ cur.size = cap ∧ xs.length ≤ cap ∧ ∀ j, j < xs.length → cur[j]? = some (.int .u8 (xs.getD j 0).toNat)
theorem RowX.lt {w : World} {G cap lo hi : Nat} {xs : List UInt8} (h : RowX w G cap lo hi xs) : G < w.heap.size := by
  obtain ⟨cur, h1, _⟩ := h
  exact Sm.lt_of h1
theorem RowX.cell {w : World} {G cap lo hi : Nat} {xs : List UInt8} (h : RowX w G cap lo hi xs) (j : Nat) (hj : j < xs.length) : w.cell? ⟨G, j, none⟩ = some (.int .u8 ((xs.getD j 0).toNat : Int)) := by
  obtain ⟨cur, h1, _, _, h4⟩ := h
  simp only [World.cell?, h1]
  exact h4 j hj
theorem RowX.free {w : World} {G cap lo hi : Nat} {xs : List UInt8} (h : RowX w G cap lo hi xs) (hf : hi = 0 ∨ cap ≤ lo) (j : Nat) (hj : j < xs.length) : w.frozen? ⟨G, j, none⟩ = false := by
  obtain ⟨cur, h1, _, h3, _⟩ := h
  simp only [World.frozen?, h1]
  rcases hf with rfl | h
  · simp
  · simp; omega
theorem RowX.block {w w' : World} {G cap lo hi : Nat} {xs : List UInt8} (h : RowX w G cap lo hi xs) (k : w'.heap[G]? = w.heap[G]?) : RowX w' G cap lo hi xs := by
  obtain ⟨cur, h1, h2⟩ := h
  exact ⟨cur, k.trans h1, h2⟩
theorem RowX.set {w : World} {G cap lo hi : Nat} {xs : List UInt8} (h : RowX w G cap lo hi xs) (k : Nat) (hk : k < xs.length) (x : UInt8) : RowX (w.setCell ⟨G, k, none⟩ (.int .u8 (x.toNat : Int))) G cap lo hi (xs.set k x) := by
  obtain ⟨cur, h1, h2, h3, h4⟩ := h
  refine ⟨_, Sm.heap_set h1 k _, by rw [Array.size_setIfInBounds]; exact h2, by rw [List.length_set]; exact h3, fun j hj => ?_⟩
  rw [List.length_set] at hj
  by_cases e : j = k
  · subst e
    rw [Array.getElem?_setIfInBounds_self_of_lt (by omega)]
    simp [List.getD_eq_getElem?_getD, hj]
  · rw [Array.getElem?_setIfInBounds_ne (by omega), h4 j hj]
    simp [List.getD_eq_getElem?_getD, List.getElem?_set_ne (Ne.symm e)]
theorem RowX.conv {w : World} {G cap lo hi : Nat} {xs : List UInt8} (h : RowX w G cap lo hi xs) (n c : Nat) (hn : xs.length = n) : (convert 33 9 (.slice (some ⟨G, 0, none⟩) n c)).run Try.prog w = .ok (.string ⟨xs.toArray⟩) w := by
  have e := run_convert_bytes_back (P := Try.prog) w 33 9 5 ⟨G, 0, none⟩ c xs Try.underlying33 Try.underlying5 Try.underlying9 (fun j hj => by
    have := h.cell j hj
    rw [List.getD_eq_getElem?_getD, List.getElem?_eq_getElem hj] at this
    rw [Addr.add_mid, Nat.zero_add]
    exact this)
  rw [hn] at e
  exact e
theorem ctr_set (nonce : List UInt8) (j : Nat) : (Sm.nums (ctrW nonce j)).toArray.setIfInBounds 3 (.int .u32 ((((j % 4294967296 : Nat) : Int) + 1) % 4294967296)) = (Sm.nums (ctrW nonce (j + 1))).toArray := by
  rw [show (((j % 4294967296 : Nat) : Int) + 1) % 4294967296 = (((j + 1) % 4294967296 : Nat) : Int) by omega, nums_set]
  rfl
end Ae

set_option maxRecDepth 100000 in
set_option maxHeartbeats 4000000 in
theorem stream_any (w : World) (key nonce : List UInt8) (hkey : key.length = 32) (hnon : nonce.length = 12) (s : ByteArray) (hs : s.size ≤ 1099511627776) :
    Calls Try.prog 5 #[.agg (Lib.byteCells key).toArray, .agg (Lib.byteCells nonce).toArray, .string s] w fun e w' => e = .returned (.string ⟨(Ae.stream key nonce s.data.toList).toArray⟩) ∧ Below w.heap.size w w' := by
  obtain ⟨ck, hck⟩ : ∃ c, c = (Lib.byteCells key).toArray := ⟨_, rfl⟩
  obtain ⟨cn, hcn⟩ : ∃ c, c = (Lib.byteCells nonce).toArray := ⟨_, rfl⟩
  rw [← hck, ← hcn]
  have hckn : ck.size = 32 := by rw [hck, Sm.bytes_size, hkey]
  have NC : Hid (∀ wx : World, Calls Try.prog 9 #[.agg ck] wx fun e w' => ∃ b, e = .returned (.pointer (some ⟨b, 0, none⟩)) ∧ wx.heap.size ≤ b ∧ Ae.CipAt w' b key ∧ Below wx.heap.size wx w') := by
    intro wx; rw [hck]; exact newCipher_any wx key hkey
  have HCN := Lib.hid hcn
  obtain ⟨z2, hz2⟩ : ∃ z, z = Sm.rowB 16 [] := ⟨_, rfl⟩
  obtain ⟨z4, hz4⟩ : ∃ z, z = Sm.rowOf 4 [] := ⟨_, rfl⟩
  have hk2 := (zero_of_info Ae.zero16).1
  have hk4 := (zero_of_info Ae.zeroBlk).1
  rw [← hz2] at hk2
  rw [← hz4] at hk4
  have HZ2 := Lib.hid hz2
  have HZ4 := Lib.hid hz4
  have g0 : ((w.alloc (.cells ck 23)).alloc (.cells cn 24)).heap[w.heap.size]? = some (.cells ck 23 (0, 0)) := by
    rw [Below.heap_alloc _ _ _ (by simp)]; exact heap_alloc_new w _
  have g1 : ((w.alloc (.cells ck 23)).alloc (.cells cn 24)).heap[w.heap.size + 1]? = some (.cells cn 24 (0, 0)) := by
    simpa using heap_alloc_new (w.alloc (.cells ck 23)) (.cells cn 24)
  have b1 : Below w.heap.size w ((w.alloc (.cells ck 23)).alloc (.cells cn 24)) := ((Below.refl _ w).alloc (Nat.le_refl _) _).alloc (by simp) _
  have HI1 := Ae.infoKey hckn
  have G0 := Lib.hid g0
  have HNON := Lib.hid hnon
  clear hck hcn hz2 hz4 hckn g0 hnon
  go_enter Try.func5, Try.ntmps5
  go_wp2_with (with_reducible refine wpList_load_row rfl 23 (.tmp 3) rfl w.heap.size rfl 23 ck (0, 0) _ (by exact G0.out) Try.underlying23 rfl HI1 ?_)
  refine (NC.out _).mono ?_
  rintro e w2 ⟨bc, rfl, hbc, hcip, k2⟩
  have hbl := Sm.lt_of hcip
  have s1 : ((w.alloc (.cells ck 23)).alloc (.cells cn 24)).heap.size = w.heap.size + 1 + 1 := by simp
  rw [s1] at hbc
  have b2 := Sm.low_low b1 (Nat.le_refl _) k2
  have g2 := (k2.block (w.heap.size + 1) (by rw [s1]; omega)).trans g1
  have HCIP := Lib.hid hcip
  clear hcip k2 b1 g1 s1 G0 NC
  go_upto_region 3 with (fail)
  have l2 := Nat.lt_of_lt_of_le hbl (Nat.le_refl w2.heap.size)
  have l1 := Sm.lt_of g2
  have h3 : ((w2.alloc (.cells z2 29)).alloc (.cells z2 29)).heap[w2.heap.size]? = some (.cells (Sm.rowB 16 []) 29 (0, 0)) := by
    rw [Below.heap_alloc _ _ _ (by simp), ← HZ2.out]; exact heap_alloc_new w2 _
  have p3 : ((w2.alloc (.cells z2 29)).alloc (.cells z2 29)).heap[w2.heap.size + 1]? = some (.cells (Sm.rowB 16 []) 29 (0, 0)) := by
    rw [← HZ2.out]; simpa using heap_alloc_new (w2.alloc (.cells z2 29)) (.cells z2 29)
  have k3 : Below w2.heap.size w2 ((w2.alloc (.cells z2 29)).alloc (.cells z2 29)) := ((Below.refl _ w2).alloc (Nat.le_refl _) _).alloc (by simp) _
  have z3 : ((w2.alloc (.cells z2 29)).alloc (.cells z2 29)).heap.size = w2.heap.size + 2 := by simp
  have g3 := (k3.block (w.heap.size + 1) l1).trans g2
  have b3 := Sm.low_low b2 (Nat.le_refl _) k3
  have HC3 := Lib.hid (HCIP.out.low k3 hbl)
  clear k3 g2 HCIP
  generalize (w2.alloc (.cells z2 29)).alloc (.cells z2 29) = W3 at *
  obtain ⟨M, hM⟩ : ∃ M, M = w2.heap.size := ⟨_, rfl⟩
  rw [← hM] at h3 p3 z3 l1 l2 ⊢
  have hMw : w.heap.size ≤ M := by rw [hM]; exact b2.size
  clear hM b2
  have hcp := Ae.copy_head (w := W3.drew) 3 HNON.out h3 (by rw [← HCN.out]; exact g3)
  have h4 : (W3.drew.setRow M (Lib.byteCells (nonce ++ List.replicate 4 0)).toArray).heap[M]? = some (.cells (Lib.byteCells (nonce ++ List.replicate 4 0)).toArray 29 (0, 0)) := setRow_heap _ M _ _ _ _ h3
  have p4 := (setRow_other W3.drew M (M + 1) (Lib.byteCells (nonce ++ List.replicate 4 0)).toArray (by omega)).trans p3
  have c4 : Hid (Ae.CipAt (W3.drew.setRow M (Lib.byteCells (nonce ++ List.replicate 4 0)).toArray) bc key) := (setRow_other W3.drew M bc _ (by omega)).trans HC3.out
  have b4 := Sm.below_setRow b3.drew hMw (Lib.byteCells (nonce ++ List.replicate 4 0)).toArray
  have s4 : (W3.drew.setRow M (Lib.byteCells (nonce ++ List.replicate 4 0)).toArray).heap.size = M + 2 := by rw [size_setRow]; exact z3
  have hhl : (nonce ++ List.replicate 4 0).length = 16 := by rw [List.length_append, HNON.out]; rfl
  have BO : Hid (∀ wx : World, Calls Try.prog 10 #[.agg (Lib.byteCells (nonce ++ List.replicate 4 0)).toArray] wx fun e w' => e = .returned (.agg (Sm.nums (Ae.ctrW nonce 0)).toArray) ∧ Below wx.heap.size wx w') := by
    intro wx; rw [← Ae.ctr_cols nonce HNON.out]; exact blkOf_any wx _ hhl
  have hhs : (Lib.byteCells (nonce ++ List.replicate 4 0)).toArray.size = 16 := by rw [Sm.bytes_size, hhl]
  obtain ⟨ch, hch⟩ : ∃ c, c = (Lib.byteCells (nonce ++ List.replicate 4 0)).toArray := ⟨_, rfl⟩
  rw [← hch] at hcp h4 p4 c4 b4 s4 BO hhs
  have HI2 := Ae.info16 hhs
  clear hch hhl hhs HC3 b3 g3 h3 p3
  go_region
  clear hcp
  generalize W3.drew.setRow M ch = W4 at *
  have H4 := Lib.hid h4
  clear h4
  obtain ⟨cw, hcw⟩ : ∃ c, c = (Sm.nums (Ae.ctrW nonce 0)).toArray := ⟨_, rfl⟩
  rw [← hcw] at BO
  have hcws : cw.size = 4 := by rw [hcw]; rfl
  have hcwo : cw.all (·.oneCell') = true := by rw [hcw]; exact Ae.nums_one _
  have HCW := Lib.hid hcw
  clear hcw
  go_wp2_with (with_reducible refine wpList_load_row rfl 29 (.tmp 8) rfl M rfl 29 ch (0, 0) _ (by exact H4.out) Try.underlying29 rfl HI2 ?_)
  refine (BO.out _).mono ?_
  rintro e w5 ⟨rfl, k5⟩
  have p5 := (k5.block (M + 1) (by omega)).trans p4
  have c5 : Hid (Ae.CipAt w5 bc key) := c4.out.low k5 (by omega)
  have b5 := Sm.low_low b4 (Nat.le_refl _) k5
  have s5 : M + 2 ≤ w5.heap.size := by have := k5.size; omega
  clear k5 p4 c4 b4 H4 BO s4
  have hst : (storeCells ⟨w5.heap.size, 0, none⟩ cw.toList).run Try.prog (w5.alloc (.cells z4 38)) = .ok () (w5.alloc (.cells cw 38)) :=
    run_storeCells_new (P := Try.prog) w5 38 z4 cw (Ae.infoBlk hcws) (by rw [hcws, HZ4.out]; exact Sm.rowOf_size (by simp)) hcwo
  have g6 := heap_alloc_new w5 (.cells cw 38)
  have p6 := (Below.heap_alloc w5 (.cells cw 38) (M + 1) (by omega)).trans p5
  have c6 : Hid (Ae.CipAt (w5.alloc (.cells cw 38)) bc key) := (Below.heap_alloc w5 (.cells cw 38) bc (by omega)).trans c5.out
  have b6 := b5.alloc b5.size (.cells cw 38)
  have s6 : (w5.alloc (.cells cw 38)).heap.size = w5.heap.size + 1 := by simp
  obtain ⟨hcv, hrow, k7⟩ := Sm.conv_rowB (w5.alloc (.cells cw 38)) s
  have hcv2 := hcv
  rw [s6] at hcv2
  have HCV := Lib.hid hcv
  have HROW := Lib.hid hrow
  have K7 := Lib.hid k7
  clear hcv hrow k7
  go_upto_region 6 with (fail)
  clear hst hcv2 HCV
  have g7 := (K7.out.block w5.heap.size (by omega)).trans g6
  have p7 := (K7.out.block (M + 1) (by omega)).trans p6
  have c7 : Hid (Ae.CipAt (Lib.bytesWorld (w5.alloc (.cells cw 38)) 5 s) bc key) := (K7.out.block bc (by omega)).trans c6.out
  have b7 := Sm.low_low b6 (Nat.le_refl _) K7.out
  have hrow := HROW.out
  generalize Lib.bytesWorld (w5.alloc (.cells cw 38)) 5 s = W7 at *
  obtain ⟨cap, hcap⟩ : ∃ c, c = grownCap (w5.alloc (.cells cw 38)) s.size 0 5 := ⟨_, rfl⟩
  rw [← hcap, s6] at hrow
  rw [← hcap]
  obtain ⟨g', cap', cur, lo, hi, hv, -, hheap, hle, hcs, hfr, hcell⟩ := hrow
  simp only [Value.slice.injEq, Option.some.injEq, Addr.mk.injEq, and_true] at hv
  obtain ⟨rfl, -, rfl⟩ := hv
  obtain ⟨Q, hQ⟩ : ∃ Q, Q = w5.heap.size := ⟨_, rfl⟩
  rw [← hQ] at g7 hheap s5 ⊢
  have hw5 : w.heap.size ≤ Q := by rw [hQ]; exact b5.size
  have g7' : W7.heap[Q]? = some (.cells (Sm.nums (Ae.ctrW nonce ((0 + 15) / 16))).toArray 38 (0, 0)) := by rw [g7, HCW.out]
  have p7' : W7.heap[M + 1]? = some (.cells (Lib.byteCells (Ae.padAt key nonce 0)).toArray 29 (0, 0)) := by rw [p7]; rfl
  have hX : Ae.RowX W7 (Q + 1) cap lo hi (Ae.part8 key nonce s.data.toList 0) := by
    rw [Ae.part8_zero]; exact ⟨cur, hheap, hcs, hle, hcell⟩
  have HX0 := Lib.hid hX
  have HG := Lib.hid g7'
  have HP := Lib.hid p7'
  have HB := Lib.hid b7
  have HF := Lib.hid hfr
  have hsz : s.data.toList.length = s.size := rfl
  have HSZ := Lib.hid hsz
  have hkl := Lib.hid (Ae.ks_lt key)
  clear hQ hcap HROW K7 g6 p6 c6 b6 s6 g7 p7 b7 hheap hcs hfr hcell hle hX g7' p7' hsz b5 c5 p5 HCW hcws hcwo
  go_wp2_with fail
  go_loopw [24] (fun i wr => ∃ k : Nat, k ≤ s.size ∧ i = .int .i64 k ∧ Ae.RowX wr (Q + 1) cap lo hi (Ae.part8 key nonce s.data.toList k) ∧ wr.heap[Q]? = some (.cells (Sm.nums (Ae.ctrW nonce ((k + 15) / 16))).toArray 38 (0, 0)) ∧ wr.heap[M + 1]? = some (.cells (Lib.byteCells (Ae.padAt key nonce k)).toArray 29 (0, 0)) ∧ Ae.CipAt wr bc key ∧ Below w.heap.size w wr) (fun i _ => s.size - (intOf i).toNat)
  case atStart => exact ⟨0, by omega, rfl, HX0.out, HG.out, HP.out, c7.out, HB.out⟩
  case round =>
    clear HX0 HG HP c7 HB
    obtain ⟨k, hk, rfl, hx, hg, hp, hc, hbw⟩ := hrel
    have HXR := Lib.hid hx
    have HGR := Lib.hid hg
    have HPR := Lib.hid hp
    have HCR := Lib.hid hc
    clear hx hg hp hc
    by_cases hlt : k < s.size
    · have q1 : (k : Int) < s.size := by omega
      by_cases hm : k % 16 = 0
      · have hb0 : ((k : Int) % 16 == 0) = true := by rw [beq_iff_eq]; omega
        have hkd : (k + 15) / 16 = k / 16 := by omega
        have hkd2 : (k + 1 + 15) / 16 = k / 16 + 1 := by omega
        have hg := HGR.out
        rw [hkd] at hg
        have EN : Hid (∀ wx : World, Ae.CipAt wx bc key → Calls Try.prog 11 #[.pointer (some ⟨bc, 0, none⟩), .agg (Sm.nums (Ae.ctrW nonce (k / 16))).toArray] wx fun e w' => e = .returned (.agg (Sm.nums (Ae.enc (Ae.ks key) (Ae.ctrW nonce (k / 16)))).toArray) ∧ Below wx.heap.size wx w') := fun wx h => enc_any h _ (Ae.ctrW_length _ _) (Ae.ctrW_lt _ _)
        have BY : Hid (∀ wx : World, Calls Try.prog 12 #[.agg (Sm.nums (Ae.enc (Ae.ks key) (Ae.ctrW nonce (k / 16)))).toArray] wx fun e w' => e = .returned (.agg (Lib.byteCells (Ae.padAt key nonce (k + 1))).toArray) ∧ Below wx.heap.size wx w') := fun wx => by
          rw [Ae.padAt_new _ _ _ hm]
          exact bytes_any wx _ (Ae.enc_length _ _) (Ae.enc_lt hkl.out)
        have hcs : (Sm.nums (Ae.ctrW nonce (k / 16))).toArray.size = 4 := rfl
        have hps : (Lib.byteCells (Ae.padAt key nonce (k + 1))).toArray.size = 16 := by rw [Sm.bytes_size, Ae.padAt_length]
        have hps0 : (Lib.byteCells (Ae.padAt key nonce k)).toArray.size = 16 := by rw [Sm.bytes_size, Ae.padAt_length]
        have hpo := Sm.bytes_one (Ae.padAt key nonce (k + 1))
        have hct := Ae.ctr_set nonce (k / 16)
        have hc3 : (Sm.nums (Ae.ctrW nonce (k / 16))).toArray[3]? = some (.int .u32 ((k / 16 % 4294967296 : Nat) : Int)) := rfl
        obtain ⟨cg, hcg⟩ : ∃ c, c = (Sm.nums (Ae.ctrW nonce (k / 16))).toArray := ⟨_, rfl⟩
        obtain ⟨ce, hce⟩ : ∃ c, c = (Sm.nums (Ae.enc (Ae.ks key) (Ae.ctrW nonce (k / 16)))).toArray := ⟨_, rfl⟩
        obtain ⟨cp, hcp⟩ : ∃ c, c = (Lib.byteCells (Ae.padAt key nonce (k + 1))).toArray := ⟨_, rfl⟩
        obtain ⟨co, hco⟩ : ∃ c, c = (Lib.byteCells (Ae.padAt key nonce k)).toArray := ⟨_, rfl⟩
        rw [← hcg, ← hce] at EN
        rw [← hce, ← hcp] at BY
        rw [← hcg] at hg hcs hct hc3
        obtain ⟨ct, hctd⟩ : ∃ c, c = k / 16 % 4294967296 := ⟨_, rfl⟩
        rw [← hctd] at hct hc3
        have hctl : (ct : Int) < 4294967296 := by omega
        rw [← hcp] at hps hpo
        rw [← hco] at hps0
        have hpr := HPR.out
        rw [← hco] at hpr
        have HGQ := Lib.hid hg
        have HPQ := Lib.hid hpr
        have HIG := Ae.infoBlk hcs
        have HIP := Ae.info16 hps
        have hzp : co.size = cp.size := by rw [hps0, hps]
        have HCP := Lib.hid hcp
        have lQ := Sm.lt_of hg
        have lP := Sm.lt_of hpr
        have lC := Sm.lt_of HCR.out
        have lX := HXR.out.lt
        have HCT3 := Lib.hid hct
        have HC3 := Lib.hid hc3
        clear hcg hce hcp hco hg hpr hps hps0 hcs hct hc3 hctd
        go_wp2_with (with_reducible refine wpList_load_row rfl 38 (.tmp 10) rfl Q rfl 38 cg (0, 0) _ (by exact HGQ.out) Try.underlying38 rfl HIG ?_)
        refine (EN.out _ HCR.out).mono ?_
        rintro e w8 ⟨rfl, k8⟩
        go_wp2_with fail
        refine (BY.out _).mono ?_
        rintro e w9 ⟨rfl, k9⟩
        have k89 := Sm.low_low k8 (Nat.le_refl _) k9
        have H9P := Lib.hid ((k89.block (M + 1) lP).trans HPQ.out)
        have H9G := Lib.hid ((k89.block Q lQ).trans HGQ.out)
        have H9C : Hid (Ae.CipAt w9 bc key) := (k89.block bc lC).trans HCR.out
        have H9X := Lib.hid (HXR.out.block (k89.block (Q + 1) lX))
        have b9 := Sm.low_low hbw (Nat.le_refl _) k89
        clear k8 k9 k89
        have g10 := (setRow_other w9 (M + 1) Q cp (by omega)).trans H9G.out
        have c10 := Sm.cells_of g10 3 _ HC3.out
        have z10 := Sm.free_of g10 3
        have P10 := Lib.hid ((Below.heap_setCell (w9.setRow (M + 1) cp) ⟨Q, 3, none⟩ (.int .u32 (((ct : Int) + 1) % 4294967296)) (M + 1) (by simp; omega)).trans (setRow_heap w9 (M + 1) _ cp _ _ H9P.out))
        have G10 := Lib.hid (Sm.heap_set g10 3 (.int .u32 (((ct : Int) + 1) % 4294967296)))
        have C10 : Hid (Ae.CipAt ((w9.setRow (M + 1) cp).setCell ⟨Q, 3, none⟩ (.int .u32 (((ct : Int) + 1) % 4294967296))) bc key) := (Below.heap_setCell _ ⟨Q, 3, none⟩ _ bc (by simp; omega)).trans ((setRow_other w9 (M + 1) bc cp (by omega)).trans H9C.out)
        have X10 := Lib.hid (H9X.out.block ((Below.heap_setCell (w9.setRow (M + 1) cp) ⟨Q, 3, none⟩ (.int .u32 (((ct : Int) + 1) % 4294967296)) (Q + 1) (by simp)).trans (setRow_other w9 (M + 1) (Q + 1) cp (by omega))))
        have b10 := (Sm.below_setRow (N := M + 1) b9 (by omega) cp).setCell (p := ⟨Q, 3, none⟩) hw5 (.int .u32 (((ct : Int) + 1) % 4294967296))
        clear g10 b9
        go_upto_region 12 with (with_reducible refine wpList_store_row rfl 29 (.tmp 9) (.tmp 33) rfl (M + 1) cp rfl rfl 29 _ (by exact H9P.out) HIP hzp hpo ?_)
        clear c10 z10
        generalize (w9.setRow (M + 1) cp).setCell ⟨Q, 3, none⟩ (.int .u32 (((ct : Int) + 1) % 4294967296)) = W11 at *
        have HXT := X10
        have HPT : Hid (W11.heap[M + 1]? = some (.cells (Lib.byteCells (Ae.padAt key nonce (k + 1))).toArray 29 (0, 0))) := by show _ = _; rw [← HCP.out]; exact P10.out
        have HGT : Hid (W11.heap[Q]? = some (.cells (Sm.nums (Ae.ctrW nonce ((k + 1 + 15) / 16))).toArray 38 (0, 0))) := by show _ = _; rw [hkd2, ← HCT3.out]; exact G10.out
        have HCT := C10
        have HBT := b10
        clear X10 P10 G10 C10 b10 HCP HCT3 hkd hkd2 hm EN BY
        have f0 := (HXT.out).cell k (by rw [Ae.part8_length _ _ _ _ (by rw [HSZ.out]; omega), HSZ.out]; exact hlt)
        rw [Ae.part8_get] at f0
        have f1 := (HXT.out).free HF.out k (by rw [Ae.part8_length _ _ _ _ (by rw [HSZ.out]; omega), HSZ.out]; exact hlt)
        have f2 := Sm.row_cell HPT.out (k % 16) (by rw [Ae.padAt_length]; omega)
        rw [Ae.padAt_get] at f2
        have hset := Ae.part8_set key nonce s.data.toList k (by rw [HSZ.out]; exact hlt)
        have HST := Lib.hid hset
        have hxo := Sm.w_xor8 (s.data.toList.getD k 0) (Ae.sbyte key nonce k)
        have y1 := byte_fits (s.data.toList.getD k 0)
        have y2 := byte_fits (Ae.sbyte key nonce k)
        have HXS := Lib.hid (HXT.out.set k (by rw [Ae.part8_length _ _ _ _ (by rw [HSZ.out]; omega), HSZ.out]; exact hlt) (s.data.toList.getD k 0 ^^^ Ae.sbyte key nonce k))
        clear hset
        generalize s.data.toList.getD k 0 = x at *
        generalize Ae.sbyte key nonce k = y at *
        go_wp2_with fail
        go_region
        all_goals go_wp2
        go_roundw
        case rel =>
          refine ⟨k + 1, by omega, by go_num, ?_, ?_, ?_, ?_, ?_⟩
          · rw [← HST.out]; exact HXS.out
          · exact (Below.heap_setCell _ _ _ _ (by simp <;> omega)).trans HGT.out
          · exact (Below.heap_setCell _ _ _ _ (by simp <;> omega)).trans HPT.out
          · exact (Below.heap_setCell _ _ _ _ (by simp <;> omega)).trans HCT.out
          · exact (HBT.setCell (p := ⟨Q + 1, k, none⟩) (by show w.heap.size ≤ Q + 1; omega) _).drew
        case measure => simp [intOf]; omega
      · have hb0 : ((k : Int) % 16 == 0) = false := by rw [beq_eq_false_iff_ne]; omega
        have hi0 : ¬ (k : Int) % 16 = 0 := by omega
        have HXT := HXR
        have HPT : Hid (wr.heap[M + 1]? = some (.cells (Lib.byteCells (Ae.padAt key nonce (k + 1))).toArray 29 (0, 0))) := by show _ = _; rw [Ae.padAt_old _ _ _ hm]; exact HPR.out
        have HGT : Hid (wr.heap[Q]? = some (.cells (Sm.nums (Ae.ctrW nonce ((k + 1 + 15) / 16))).toArray 38 (0, 0))) := by show _ = _; rw [show (k + 1 + 15) / 16 = (k + 15) / 16 by omega]; exact HGR.out
        have HCT := HCR
        have HBT := hbw
        clear HXR HPR HGR HCR hbw hm
        have f0 := (HXT.out).cell k (by rw [Ae.part8_length _ _ _ _ (by rw [HSZ.out]; omega), HSZ.out]; exact hlt)
        rw [Ae.part8_get] at f0
        have f1 := (HXT.out).free HF.out k (by rw [Ae.part8_length _ _ _ _ (by rw [HSZ.out]; omega), HSZ.out]; exact hlt)
        have f2 := Sm.row_cell HPT.out (k % 16) (by rw [Ae.padAt_length]; omega)
        rw [Ae.padAt_get] at f2
        have hset := Ae.part8_set key nonce s.data.toList k (by rw [HSZ.out]; exact hlt)
        have HST := Lib.hid hset
        have hxo := Sm.w_xor8 (s.data.toList.getD k 0) (Ae.sbyte key nonce k)
        have y1 := byte_fits (s.data.toList.getD k 0)
        have y2 := byte_fits (Ae.sbyte key nonce k)
        have HXS := Lib.hid (HXT.out.set k (by rw [Ae.part8_length _ _ _ _ (by rw [HSZ.out]; omega), HSZ.out]; exact hlt) (s.data.toList.getD k 0 ^^^ Ae.sbyte key nonce k))
        clear hset
        generalize s.data.toList.getD k 0 = x at *
        generalize Ae.sbyte key nonce k = y at *
        go_wp2_with fail
        go_region
        all_goals go_wp2
        go_roundw
        case rel =>
          refine ⟨k + 1, by omega, by go_num, ?_, ?_, ?_, ?_, ?_⟩
          · rw [← HST.out]; exact HXS.out
          · exact (Below.heap_setCell _ _ _ _ (by simp <;> omega)).trans HGT.out
          · exact (Below.heap_setCell _ _ _ _ (by simp <;> omega)).trans HPT.out
          · exact (Below.heap_setCell _ _ _ _ (by simp <;> omega)).trans HCT.out
          · exact (HBT.setCell (p := ⟨Q + 1, k, none⟩) (by show w.heap.size ≤ Q + 1; omega) _).drew
        case measure => simp [intOf]; omega
    · obtain rfl : k = s.size := by omega
      have q1 : ¬ (s.size : Int) < s.size := by omega
      have hx := HXR.out
      rw [show Ae.part8 key nonce s.data.toList s.size = Ae.stream key nonce s.data.toList from Ae.part8_all _ _ _] at hx
      have hcv := hx.conv s.size cap (by rw [Ae.stream_length]; rfl)
      clear hlt hk hx HXR HPR HGR HCR
      go_wp2
      go_ret
      exact ⟨rfl, hbw⟩
end Go.Proofs.Ytgdnpagmhkkaiaa
