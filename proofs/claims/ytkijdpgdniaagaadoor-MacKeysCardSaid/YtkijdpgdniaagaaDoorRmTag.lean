/-
  What the document's own Tag does.
-/
import Derived.Test.YtkijdpgdniaagaaDoorRsSum
import Derived.Test.YtkijdpgdniaagaaDoorMcAwake
namespace Go.Proofs.YtkijdpgdniaagaaDoor
open Go.RowKit
namespace Sm
theorem conv_one' {w : World} {N : Nat} {v : Int} {x : UInt8} {t : TypeId} (hv : v = (x.toNat : Int)) (h : w.heap[N]? = some (.cells #[.int .u8 v] t (0, 0))) :
    (convert 31 9 (.slice (some ⟨N, 0, none⟩) 1 1)).run Tryd.prog w = .ok (.string ⟨#[x]⟩) w := by
  subst hv
  have e := run_convert_bytes_back (P := Tryd.prog) w 31 9 5 ⟨N, 0, none⟩ 1 [x] Tryd.underlying31 Tryd.underlying5 Tryd.underlying9 (fun j hj => by
    have : j = 0 := by simpa using hj
    subst this
    rw [Addr.add_mid]
    exact cells_of h 0 _ rfl)
  exact e
theorem heap_row32a (w : World) : (w.alloc (.cells (rowB 32 []) 23)).heap[w.heap.size]? = some (.cells (rowB 32 []) 23 (0, 0)) := heap_alloc_new w _
theorem kb_snoc' (m : UInt8) (l : List UInt8) (k : Nat) (h : k < l.length) : xored m (l.take (k + 1)) = xored m (l.take k) ++ [l.getD k 0 ^^^ m] := by
  rw [List.take_succ_eq_append_getElem h, xored, List.map_append, List.getD_eq_getElem?_getD, List.getElem?_eq_getElem h]
  rfl
end Sm

set_option maxRecDepth 100000 in
set_option maxHeartbeats 4000000 in
theorem rmtag_any (s t : ByteArray) (hs : s.size ≤ 35184372088832) (ht : t.size ≤ 8388608) (w : World) :
    Calls Tryd.prog 27 #[.string s, .string t] w fun e w' => e = .returned (.agg (Lib.byteCells (Sm.tag s.data.toList t.data.toList)).toArray) ∧ Below w.heap.size w w' := by
  have b1 : Below w.heap.size w (w.alloc (.cells (Sm.rowB 32 []) 23)) := (Below.refl _ w).alloc (Nat.le_refl _) _
  have r1 := Sm.heap_row32a w
  have s1 : w.heap.size < (w.alloc (.cells (Sm.rowB 32 []) 23)).heap.size := by simp
  obtain ⟨kb, hkb⟩ : ∃ l, l = Sm.kblock s.data.toList := ⟨_, rfl⟩
  have hlk : kb.length = 64 := by rw [hkb]; exact Sm.kblock_length _
  have hT : Hid (Sm.tag s.data.toList t.data.toList = Sm.sum (Sm.xored 92 kb ++ Sm.sum (Sm.xored 54 kb ++ t.data.toList))) := by rw [hkb]; rfl
  -- the key, or its hash: a text K with these first bytes
  have hK : Hid (∃ K : ByteArray, K.size ≤ 64 ∧ (∀ i, kb.getD i 0 = K.data.toList.getD i 0) ∧ (¬ 64 < s.size → s = K) ∧ (64 < s.size → ByteArray.mk (Sm.sum s.data.toList).toArray = K)) := by
    by_cases h : 64 < s.size
    · refine ⟨ByteArray.mk (Sm.sum s.data.toList).toArray, ?_, fun i => ?_, fun h' => absurd h h', fun _ => rfl⟩
      · have e : (ByteArray.mk (Sm.sum s.data.toList).toArray).size = (Sm.sum s.data.toList).length := rfl
        rw [e, Sm.sum_length]; omega
      · rw [hkb, ← Sm.kblock_long s.data.toList h]
        exact Sm.kblock_get _ (by rw [Sm.sum_length]; omega) i
    · refine ⟨s, by omega, fun i => ?_, fun _ => rfl, fun h' => absurd h' h⟩
      rw [hkb]; exact Sm.kblock_get _ (by show s.size ≤ 64; omega) i
  obtain ⟨K, hK64, hkg, hc1, hc2⟩ := hK.out
  have HKG := Lib.hid hkg
  have HC1 := Lib.hid hc1
  have HC2 := Lib.hid hc2
  have hsl := Sm.sum_length s.data.toList
  clear hkb hkg hc1 hc2 hK
  have RS := Lib.hid (fun wx => rssum_any s hs wx)
  by_cases h64 : 64 < s.size
  · have hi64 : (64 : Int) < s.size := by omega
    go_enter Tryd.func27, Tryd.ntmps27
    go_wp2_with fail
    change Calls _ _ _ (w.alloc (.cells (Sm.rowB 32 []) 23)) _
    generalize w.alloc (.cells (Sm.rowB 32 []) 23) = W1 at *
    refine (RS.out _).mono ?_
    rintro e W2 ⟨rfl, k2⟩
    have b2 := Sm.low_low b1 (Nat.le_refl _) k2
    have r2 := (k2.block _ s1).trans r1
    have hsz32 : (Lib.byteCells (Sm.sum s.data.toList)).toArray.size = 32 := by rw [Sm.bytes_size, hsl]
    have hone := Sm.bytes_one (Sm.sum s.data.toList)
    have hst : ∀ (c : Array Value), c.size = 32 → (storeCells ⟨W2.heap.size, 0, none⟩ (Lib.byteCells (Sm.sum s.data.toList)).toArray.toList).run Tryd.prog (W2.alloc (.cells c 23)) = .ok () (W2.alloc (.cells (Lib.byteCells (Sm.sum s.data.toList)).toArray 23)) := fun c hc =>
      run_storeCells_new (P := Tryd.prog) W2 23 c _ (Sm.info32 hsz32) (by rw [hsz32]; exact hc) hone
    have bX : Below w.heap.size w (W2.alloc (.cells (Lib.byteCells (Sm.sum s.data.toList)).toArray 23)) := b2.alloc b2.size _
    have rX : (W2.alloc (.cells (Lib.byteCells (Sm.sum s.data.toList)).toArray 23)).heap[w.heap.size]? = some (.cells (Sm.rowB 32 []) 23 (0, 0)) := by
      rw [Below.heap_alloc _ _ _ (Sm.lt_of r2)]; exact r2
    have hcv := Sm.conv_row (n := 32) (heap_alloc_new W2 (.cells (Lib.byteCells (Sm.sum s.data.toList)).toArray 23)) hsl
    rw [HC2.out h64] at hcv
    obtain ⟨ch, hch⟩ : ∃ c, c = (Lib.byteCells (Sm.sum s.data.toList)).toArray := ⟨_, rfl⟩
    rw [← hch] at hst bX rX hcv hsz32 ⊢
    clear hch hone r2 b2 k2 r1 b1 s1
    go_upto_region 4 with (fail)
    clear hst hcv
    generalize W2.alloc (.cells ch 23) = WX at *
    clear hi64 h64 hsz32
    obtain ⟨N, hN⟩ : ∃ N, N = w.heap.size := ⟨_, rfl⟩
    rw [← hN] at rX bX ⊢
    have hNw : N ≤ w.heap.size := by omega
    have HN := Lib.hid hN
    have RX := Lib.hid rX
    have hNX : N < WX.heap.size := Sm.lt_of rX
    clear hN rX
    go_wp2_with fail
    go_loopw [6, 7, 8] (fun a b i wr => ∃ (k : Nat) (SI SO : ByteArray), k ≤ 64 ∧ i = .int .i64 k ∧ a = .string SI ∧ b = .string SO ∧ SI.data.toList = Sm.xored 54 (kb.take k) ∧ SO.data.toList = Sm.xored 92 (kb.take k) ∧ SI.size = k ∧ SO.size = k ∧ Below WX.heap.size WX wr) (fun _ _ i _ => 64 - (intOf i).toNat)
    case atStart => exact ⟨0, ⟨#[]⟩, ⟨#[]⟩, by omega, rfl, rfl, rfl, rfl, rfl, rfl, rfl, Below.refl _ _⟩
    case round =>
      obtain ⟨k, SI, SO, hk, rfl, rfl, rfl, hI, hO, hIs, hOs, hbk⟩ := hrel
      have HI := Lib.hid hI
      have HO := Lib.hid hO
      have HIS := Lib.hid hIs
      have HOS := Lib.hid hOs
      have hI64 : SI.size ≤ 64 := by omega
      have hO64 : SO.size ≤ 64 := by omega
      have hsw := hbk.size
      clear hI hO hIs hOs
      by_cases hlt : k < 64
      · have hkI : (k : Int) < 64 := by omega
        have t1 := Lib.hid (Sm.kb_snoc' 54 kb k (by omega))
        have t2 := Lib.hid (Sm.kb_snoc' 92 kb k (by omega))
        have hg := HKG.out k
        obtain ⟨x, hx⟩ : ∃ x, x = kb.getD k 0 := ⟨_, rfl⟩
        rw [← hx] at t1 t2 hg
        obtain ⟨D1, hD1⟩ : ∃ D, D = ByteArray.mk #[x ^^^ 54] := ⟨_, rfl⟩
        obtain ⟨D2, hD2⟩ : ∃ D, D = ByteArray.mk #[x ^^^ 92] := ⟨_, rfl⟩
        have z1 : D1.size ≤ 1 := by rw [hD1]; exact Nat.le_refl _
        have z2 : D2.size ≤ 1 := by rw [hD2]; exact Nat.le_refl _
        have Z1 : Hid (D1.size = 1) := by show _ = _; rw [hD1]; rfl
        have Z2 : Hid (D2.size = 1) := by show _ = _; rw [hD2]; rfl
        have L1 : Hid (D1.data.toList = [x ^^^ 54]) := by show _ = _; rw [hD1]
        have L2 : Hid (D2.data.toList = [x ^^^ 92]) := by show _ = _; rw [hD2]
        have e1 := Sm.w_xor8 x 54
        have e2 := Sm.w_xor8 x 92
        obtain ⟨v1, hv1⟩ : ∃ v, v = bits .xor .u8 (x.toNat : Int) ((54 : UInt8).toNat : Int) := ⟨_, rfl⟩
        obtain ⟨v2, hv2⟩ : ∃ v, v = bits .xor .u8 (x.toNat : Int) ((92 : UInt8).toNat : Int) := ⟨_, rfl⟩
        have hv1b : bits .xor .u8 (x.toNat : Int) 54 = v1 := hv1.symm
        have hv2b : bits .xor .u8 (x.toNat : Int) 92 = v2 := hv2.symm
        rw [← hv1] at e1
        rw [← hv2] at e2
        have hcv1 := Sm.conv_one' e1 (heap_alloc_new wr (.cells #[.int .u8 v1] 5))
        have hcv2 := Sm.conv_one' e2 (heap_alloc_new (wr.alloc (.cells #[.int .u8 v1] 5)) (.cells #[.int .u8 v2] 5))
        rw [← hD1] at hcv1
        rw [← hD2, show (wr.alloc (.cells #[.int .u8 v1] 5)).heap.size = wr.heap.size + 1 by simp] at hcv2
        have b6 : Below WX.heap.size WX ((wr.alloc (.cells #[.int .u8 v1] 5)).alloc (.cells #[.int .u8 v2] 5)) := (hbk.alloc hsw _).alloc (Nat.le_trans hsw (by simp)) _
        have a1 : ¬ 9223372036854775807 < SI.size + D1.size := by omega
        have a2 : ¬ 9223372036854775807 < SO.size + D2.size := by omega
        have hb := byte_fits x
        have fin : (SI ++ D1).data.toList = Sm.xored 54 (kb.take (k + 1)) ∧ (SO ++ D2).data.toList = Sm.xored 92 (kb.take (k + 1)) ∧ (SI ++ D1).size = k + 1 ∧ (SO ++ D2).size = k + 1 :=
          ⟨by rw [append_data, HI.out, L1.out, t1.out], by rw [append_data, HO.out, L2.out, t2.out], by rw [append_size, HIS.out, Z1.out], by rw [append_size, HOS.out, Z2.out]⟩
        have FIN := Lib.hid fin
        clear hD1 hD2 hv1 hv2 e1 e2 fin hx
        by_cases hin : k < K.size
        · have hkK : (k : Int) < K.size := by omega
          have hgx : K[k] = x := by rw [hg, List.getD_eq_getElem?_getD, List.getElem?_eq_getElem (by exact hin)]; rfl
          clear hg
          go_wp2
          go_roundw
          case rel => exact ⟨k + 1, SI ++ D1, SO ++ D2, by omega, by go_num, rfl, rfl, FIN.out.1, FIN.out.2.1, FIN.out.2.2.1, FIN.out.2.2.2, b6⟩
          case measure => simp [intOf]; omega
        · have hkK : ¬ (k : Int) < K.size := by omega
          have hx0 : x = 0 := by rw [hg, List.getD_eq_getElem?_getD, List.getElem?_eq_none (by show K.size ≤ k; omega)]; rfl
          have hv1c : bits .xor .u8 0 54 = v1 := by rw [← hv1b, hx0]; rfl
          have hv2c : bits .xor .u8 0 92 = v2 := by rw [← hv2b, hx0]; rfl
          clear hg hx0 hv1b hv2b
          go_wp2
          go_roundw
          case rel => exact ⟨k + 1, SI ++ D1, SO ++ D2, by omega, by go_num, rfl, rfl, FIN.out.1, FIN.out.2.1, FIN.out.2.2.1, FIN.out.2.2.2, b6⟩
          case measure => simp [intOf]; omega
      · obtain rfl : k = 64 := by omega
        have ht64 : kb.take 64 = kb := List.take_of_length_le (by omega)
        have hI := HI.out
        have hO := HO.out
        rw [ht64] at hI hO
        have b3 : Below N w wr := bX.trans (hbk.mono (by omega))
        have r3 := (hbk.block N hNX).trans RX.out
        have a1 : ¬ 9223372036854775807 < SI.size + t.size := by omega
        have hT2 : Hid (Sm.tag s.data.toList t.data.toList = Sm.sum (SO.data.toList ++ Sm.sum ((SI ++ t).data.toList))) := by
          show _ = _
          rw [append_data, hI, hO]; exact hT.out
        have RS2 := Lib.hid (fun wx => rssum_any (SI ++ t) (by rw [append_size]; omega) wx)
        have R3 := Lib.hid r3
        have hN3 : N < wr.heap.size := Sm.lt_of r3
        clear hI hO ht64 hbk HI HO r3
        go_wp2_with fail
        refine (RS2.out _).mono ?_
        rintro e w4 ⟨rfl, k4⟩
        have b4 := Sm.low_low b3 hNw k4
        have r4 := (k4.block N hN3).trans R3.out
        obtain ⟨hi, hhi⟩ : ∃ h, h = Sm.sum ((SI ++ t).data.toList) := ⟨_, rfl⟩
        have hil : hi.length = 32 := by rw [hhi]; exact Sm.sum_length _
        rw [← hhi] at hT2 ⊢
        have hsz32 : (Lib.byteCells hi).toArray.size = 32 := by rw [Sm.bytes_size, hil]
        have hone := Sm.bytes_one hi
        have hst : ∀ (c : Array Value), c.size = 32 → (storeCells ⟨w4.heap.size, 0, none⟩ (Lib.byteCells hi).toArray.toList).run Tryd.prog (w4.alloc (.cells c 23)) = .ok () (w4.alloc (.cells (Lib.byteCells hi).toArray 23)) := fun c hc =>
          run_storeCells_new (P := Tryd.prog) w4 23 c _ (Sm.info32 hsz32) (by rw [hsz32]; exact hc) hone
        have hs4 : N ≤ w4.heap.size := Nat.le_trans (Nat.le_of_lt hN3) k4.size
        have b5 : Below N w (w4.alloc (.cells (Lib.byteCells hi).toArray 23)) := b4.alloc hs4 _
        have r5 : (w4.alloc (.cells (Lib.byteCells hi).toArray 23)).heap[N]? = some (.cells (Sm.rowB 32 []) 23 (0, 0)) := by
          rw [Below.heap_alloc _ _ _ (Sm.lt_of r4)]; exact r4
        have hcv5 := Sm.conv_row (n := 32) (heap_alloc_new w4 (.cells (Lib.byteCells hi).toArray 23)) hil
        obtain ⟨HB, hHB⟩ : ∃ b, b = ByteArray.mk hi.toArray := ⟨_, rfl⟩
        have hHs : HB.size ≤ 32 := by
          have e : (ByteArray.mk hi.toArray).size = hi.length := rfl
          rw [hHB, e]; omega
        have a2 : ¬ 9223372036854775807 < SO.size + HB.size := by omega
        have hT3 : Hid (Sm.tag s.data.toList t.data.toList = Sm.sum ((SO ++ HB).data.toList)) := by
          show _ = _
          rw [append_data, hHB]; exact hT2.out
        rw [← hHB] at hcv5
        have RS3 := Lib.hid (fun wx => rssum_any (SO ++ HB) (by rw [append_size]; omega) wx)
        have R5 := Lib.hid r5
        have hN5 : N < (w4.alloc (.cells (Lib.byteCells hi).toArray 23)).heap.size := Sm.lt_of r5
        obtain ⟨ci, hci⟩ : ∃ c, c = (Lib.byteCells hi).toArray := ⟨_, rfl⟩
        rw [← hci] at hst b5 R5 hcv5 hsz32 hN5 ⊢
        clear hhi hHB hci hone r5 r4 k4 b4 b3 R3 hT2
        go_wp2_with fail
        clear hst hcv5
        generalize w4.alloc (.cells ci 23) = w5 at *
        refine (RS3.out _).mono ?_
        rintro e w6 ⟨rfl, k6⟩
        have r6 := Lib.hid ((k6.block N hN5).trans R5.out)
        have b6 := Sm.low_low b5 hNw k6
        have hz6 : (Lib.byteCells (Sm.sum ((SO ++ HB).data.toList))).toArray.size = 32 := by rw [Sm.bytes_size, Sm.sum_length]
        have ho6 := Sm.bytes_one (Sm.sum ((SO ++ HB).data.toList))
        have hzz : (Sm.rowB 32 []).size = (Lib.byteCells (Sm.sum ((SO ++ HB).data.toList))).toArray.size := by rw [hz6]; exact Sm.rowB_size (by simp)
        obtain ⟨cs2, hcs2⟩ : ∃ c, c = (Lib.byteCells (Sm.sum ((SO ++ HB).data.toList))).toArray := ⟨_, rfl⟩
        rw [← hcs2] at hz6 ho6 hzz ⊢
        have HC2 : Hid (cs2 = (Lib.byteCells (Sm.tag s.data.toList t.data.toList)).toArray) := by show _ = _; rw [hcs2, hT3.out]
        clear hcs2 k6
        go_wp2_with (with_reducible refine wpList_store_row rfl 23 (.tmp 4) (.tmp 49) rfl N cs2 rfl rfl 23 _ (by exact r6.out) (Sm.info32 hz6) hzz ho6 ?_)
        exact bodyPost_ret (v := .agg cs2) (results_cell_row rfl _ _ N 23 _ (0, 0) _ rfl (setRow_heap _ N _ _ _ _ r6.out) Tryd.underlying23 rfl (Sm.info32 hz6)) rfl ⟨by rw [HC2.out], by rw [← HN.out]; exact Sm.below_setRow b6 (Nat.le_refl _) _⟩
  · have hi64 : ¬ (64 : Int) < s.size := by omega
    go_enter Tryd.func27, Tryd.ntmps27
    go_upto_region 4 with (fail)
    change Code.wp _ _ _ _ (w.alloc (.cells (Sm.rowB 32 []) 23))
    have bX := b1
    have rX := r1
    generalize w.alloc (.cells (Sm.rowB 32 []) 23) = WX at *
    rw [HC1.out h64]
    clear hi64 h64 b1 r1 s1
    obtain ⟨N, hN⟩ : ∃ N, N = w.heap.size := ⟨_, rfl⟩
    rw [← hN] at rX bX ⊢
    have hNw : N ≤ w.heap.size := by omega
    have HN := Lib.hid hN
    have RX := Lib.hid rX
    have hNX : N < WX.heap.size := Sm.lt_of rX
    clear hN rX
    go_wp2_with fail
    go_loopw [6, 7, 8] (fun a b i wr => ∃ (k : Nat) (SI SO : ByteArray), k ≤ 64 ∧ i = .int .i64 k ∧ a = .string SI ∧ b = .string SO ∧ SI.data.toList = Sm.xored 54 (kb.take k) ∧ SO.data.toList = Sm.xored 92 (kb.take k) ∧ SI.size = k ∧ SO.size = k ∧ Below WX.heap.size WX wr) (fun _ _ i _ => 64 - (intOf i).toNat)
    case atStart => exact ⟨0, ⟨#[]⟩, ⟨#[]⟩, by omega, rfl, rfl, rfl, rfl, rfl, rfl, rfl, Below.refl _ _⟩
    case round =>
      obtain ⟨k, SI, SO, hk, rfl, rfl, rfl, hI, hO, hIs, hOs, hbk⟩ := hrel
      have HI := Lib.hid hI
      have HO := Lib.hid hO
      have HIS := Lib.hid hIs
      have HOS := Lib.hid hOs
      have hI64 : SI.size ≤ 64 := by omega
      have hO64 : SO.size ≤ 64 := by omega
      have hsw := hbk.size
      clear hI hO hIs hOs
      by_cases hlt : k < 64
      · have hkI : (k : Int) < 64 := by omega
        have t1 := Lib.hid (Sm.kb_snoc' 54 kb k (by omega))
        have t2 := Lib.hid (Sm.kb_snoc' 92 kb k (by omega))
        have hg := HKG.out k
        obtain ⟨x, hx⟩ : ∃ x, x = kb.getD k 0 := ⟨_, rfl⟩
        rw [← hx] at t1 t2 hg
        obtain ⟨D1, hD1⟩ : ∃ D, D = ByteArray.mk #[x ^^^ 54] := ⟨_, rfl⟩
        obtain ⟨D2, hD2⟩ : ∃ D, D = ByteArray.mk #[x ^^^ 92] := ⟨_, rfl⟩
        have z1 : D1.size ≤ 1 := by rw [hD1]; exact Nat.le_refl _
        have z2 : D2.size ≤ 1 := by rw [hD2]; exact Nat.le_refl _
        have Z1 : Hid (D1.size = 1) := by show _ = _; rw [hD1]; rfl
        have Z2 : Hid (D2.size = 1) := by show _ = _; rw [hD2]; rfl
        have L1 : Hid (D1.data.toList = [x ^^^ 54]) := by show _ = _; rw [hD1]
        have L2 : Hid (D2.data.toList = [x ^^^ 92]) := by show _ = _; rw [hD2]
        have e1 := Sm.w_xor8 x 54
        have e2 := Sm.w_xor8 x 92
        obtain ⟨v1, hv1⟩ : ∃ v, v = bits .xor .u8 (x.toNat : Int) ((54 : UInt8).toNat : Int) := ⟨_, rfl⟩
        obtain ⟨v2, hv2⟩ : ∃ v, v = bits .xor .u8 (x.toNat : Int) ((92 : UInt8).toNat : Int) := ⟨_, rfl⟩
        have hv1b : bits .xor .u8 (x.toNat : Int) 54 = v1 := hv1.symm
        have hv2b : bits .xor .u8 (x.toNat : Int) 92 = v2 := hv2.symm
        rw [← hv1] at e1
        rw [← hv2] at e2
        have hcv1 := Sm.conv_one' e1 (heap_alloc_new wr (.cells #[.int .u8 v1] 5))
        have hcv2 := Sm.conv_one' e2 (heap_alloc_new (wr.alloc (.cells #[.int .u8 v1] 5)) (.cells #[.int .u8 v2] 5))
        rw [← hD1] at hcv1
        rw [← hD2, show (wr.alloc (.cells #[.int .u8 v1] 5)).heap.size = wr.heap.size + 1 by simp] at hcv2
        have b6 : Below WX.heap.size WX ((wr.alloc (.cells #[.int .u8 v1] 5)).alloc (.cells #[.int .u8 v2] 5)) := (hbk.alloc hsw _).alloc (Nat.le_trans hsw (by simp)) _
        have a1 : ¬ 9223372036854775807 < SI.size + D1.size := by omega
        have a2 : ¬ 9223372036854775807 < SO.size + D2.size := by omega
        have hb := byte_fits x
        have fin : (SI ++ D1).data.toList = Sm.xored 54 (kb.take (k + 1)) ∧ (SO ++ D2).data.toList = Sm.xored 92 (kb.take (k + 1)) ∧ (SI ++ D1).size = k + 1 ∧ (SO ++ D2).size = k + 1 :=
          ⟨by rw [append_data, HI.out, L1.out, t1.out], by rw [append_data, HO.out, L2.out, t2.out], by rw [append_size, HIS.out, Z1.out], by rw [append_size, HOS.out, Z2.out]⟩
        have FIN := Lib.hid fin
        clear hD1 hD2 hv1 hv2 e1 e2 fin hx
        by_cases hin : k < K.size
        · have hkK : (k : Int) < K.size := by omega
          have hgx : K[k] = x := by rw [hg, List.getD_eq_getElem?_getD, List.getElem?_eq_getElem (by exact hin)]; rfl
          clear hg
          go_wp2
          go_roundw
          case rel => exact ⟨k + 1, SI ++ D1, SO ++ D2, by omega, by go_num, rfl, rfl, FIN.out.1, FIN.out.2.1, FIN.out.2.2.1, FIN.out.2.2.2, b6⟩
          case measure => simp [intOf]; omega
        · have hkK : ¬ (k : Int) < K.size := by omega
          have hx0 : x = 0 := by rw [hg, List.getD_eq_getElem?_getD, List.getElem?_eq_none (by show K.size ≤ k; omega)]; rfl
          have hv1c : bits .xor .u8 0 54 = v1 := by rw [← hv1b, hx0]; rfl
          have hv2c : bits .xor .u8 0 92 = v2 := by rw [← hv2b, hx0]; rfl
          clear hg hx0 hv1b hv2b
          go_wp2
          go_roundw
          case rel => exact ⟨k + 1, SI ++ D1, SO ++ D2, by omega, by go_num, rfl, rfl, FIN.out.1, FIN.out.2.1, FIN.out.2.2.1, FIN.out.2.2.2, b6⟩
          case measure => simp [intOf]; omega
      · obtain rfl : k = 64 := by omega
        have ht64 : kb.take 64 = kb := List.take_of_length_le (by omega)
        have hI := HI.out
        have hO := HO.out
        rw [ht64] at hI hO
        have b3 : Below N w wr := bX.trans (hbk.mono (by omega))
        have r3 := (hbk.block N hNX).trans RX.out
        have a1 : ¬ 9223372036854775807 < SI.size + t.size := by omega
        have hT2 : Hid (Sm.tag s.data.toList t.data.toList = Sm.sum (SO.data.toList ++ Sm.sum ((SI ++ t).data.toList))) := by
          show _ = _
          rw [append_data, hI, hO]; exact hT.out
        have RS2 := Lib.hid (fun wx => rssum_any (SI ++ t) (by rw [append_size]; omega) wx)
        have R3 := Lib.hid r3
        have hN3 : N < wr.heap.size := Sm.lt_of r3
        clear hI hO ht64 hbk HI HO r3
        go_wp2_with fail
        refine (RS2.out _).mono ?_
        rintro e w4 ⟨rfl, k4⟩
        have b4 := Sm.low_low b3 hNw k4
        have r4 := (k4.block N hN3).trans R3.out
        obtain ⟨hi, hhi⟩ : ∃ h, h = Sm.sum ((SI ++ t).data.toList) := ⟨_, rfl⟩
        have hil : hi.length = 32 := by rw [hhi]; exact Sm.sum_length _
        rw [← hhi] at hT2 ⊢
        have hsz32 : (Lib.byteCells hi).toArray.size = 32 := by rw [Sm.bytes_size, hil]
        have hone := Sm.bytes_one hi
        have hst : ∀ (c : Array Value), c.size = 32 → (storeCells ⟨w4.heap.size, 0, none⟩ (Lib.byteCells hi).toArray.toList).run Tryd.prog (w4.alloc (.cells c 23)) = .ok () (w4.alloc (.cells (Lib.byteCells hi).toArray 23)) := fun c hc =>
          run_storeCells_new (P := Tryd.prog) w4 23 c _ (Sm.info32 hsz32) (by rw [hsz32]; exact hc) hone
        have hs4 : N ≤ w4.heap.size := Nat.le_trans (Nat.le_of_lt hN3) k4.size
        have b5 : Below N w (w4.alloc (.cells (Lib.byteCells hi).toArray 23)) := b4.alloc hs4 _
        have r5 : (w4.alloc (.cells (Lib.byteCells hi).toArray 23)).heap[N]? = some (.cells (Sm.rowB 32 []) 23 (0, 0)) := by
          rw [Below.heap_alloc _ _ _ (Sm.lt_of r4)]; exact r4
        have hcv5 := Sm.conv_row (n := 32) (heap_alloc_new w4 (.cells (Lib.byteCells hi).toArray 23)) hil
        obtain ⟨HB, hHB⟩ : ∃ b, b = ByteArray.mk hi.toArray := ⟨_, rfl⟩
        have hHs : HB.size ≤ 32 := by
          have e : (ByteArray.mk hi.toArray).size = hi.length := rfl
          rw [hHB, e]; omega
        have a2 : ¬ 9223372036854775807 < SO.size + HB.size := by omega
        have hT3 : Hid (Sm.tag s.data.toList t.data.toList = Sm.sum ((SO ++ HB).data.toList)) := by
          show _ = _
          rw [append_data, hHB]; exact hT2.out
        rw [← hHB] at hcv5
        have RS3 := Lib.hid (fun wx => rssum_any (SO ++ HB) (by rw [append_size]; omega) wx)
        have R5 := Lib.hid r5
        have hN5 : N < (w4.alloc (.cells (Lib.byteCells hi).toArray 23)).heap.size := Sm.lt_of r5
        obtain ⟨ci, hci⟩ : ∃ c, c = (Lib.byteCells hi).toArray := ⟨_, rfl⟩
        rw [← hci] at hst b5 R5 hcv5 hsz32 hN5 ⊢
        clear hhi hHB hci hone r5 r4 k4 b4 b3 R3 hT2
        go_wp2_with fail
        clear hst hcv5
        generalize w4.alloc (.cells ci 23) = w5 at *
        refine (RS3.out _).mono ?_
        rintro e w6 ⟨rfl, k6⟩
        have r6 := Lib.hid ((k6.block N hN5).trans R5.out)
        have b6 := Sm.low_low b5 hNw k6
        have hz6 : (Lib.byteCells (Sm.sum ((SO ++ HB).data.toList))).toArray.size = 32 := by rw [Sm.bytes_size, Sm.sum_length]
        have ho6 := Sm.bytes_one (Sm.sum ((SO ++ HB).data.toList))
        have hzz : (Sm.rowB 32 []).size = (Lib.byteCells (Sm.sum ((SO ++ HB).data.toList))).toArray.size := by rw [hz6]; exact Sm.rowB_size (by simp)
        obtain ⟨cs2, hcs2⟩ : ∃ c, c = (Lib.byteCells (Sm.sum ((SO ++ HB).data.toList))).toArray := ⟨_, rfl⟩
        rw [← hcs2] at hz6 ho6 hzz ⊢
        have HC2 : Hid (cs2 = (Lib.byteCells (Sm.tag s.data.toList t.data.toList)).toArray) := by show _ = _; rw [hcs2, hT3.out]
        clear hcs2 k6
        go_wp2_with (with_reducible refine wpList_store_row rfl 23 (.tmp 4) (.tmp 49) rfl N cs2 rfl rfl 23 _ (by exact r6.out) (Sm.info32 hz6) hzz ho6 ?_)
        exact bodyPost_ret (v := .agg cs2) (results_cell_row rfl _ _ N 23 _ (0, 0) _ rfl (setRow_heap _ N _ _ _ _ r6.out) Tryd.underlying23 rfl (Sm.info32 hz6)) rfl ⟨by rw [HC2.out], by rw [← HN.out]; exact Sm.below_setRow b6 (Nat.le_refl _) _⟩
end Go.Proofs.YtkijdpgdniaagaaDoor
