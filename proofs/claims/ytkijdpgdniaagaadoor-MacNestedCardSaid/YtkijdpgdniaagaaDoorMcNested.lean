/-
  MacNested answers true for every key and text, and turns nothing of what was there.
-/
import Derived.Test.YtkijdpgdniaagaaDoorMcAwake
namespace Go.Proofs.YtkijdpgdniaagaaDoor
open Go.RowKit
namespace Sm
theorem made64 : madeCells (Value.int .u8 0).cells (64 * 1) = rowB 64 [] := by kernel_rfl
theorem kb_snoc (m : UInt8) (l : List UInt8) (k : Nat) (h : k < l.length) : xored m (l.take (k + 1)) = xored m (l.take k) ++ [l.getD k 0 ^^^ m] := by
  rw [List.take_succ_eq_append_getElem h, xored, List.map_append, List.getD_eq_getElem?_getD, List.getElem?_eq_getElem h]
  rfl
theorem xored_take_length (m : UInt8) (l : List UInt8) (k : Nat) (h : k ≤ l.length) : (xored m (l.take k)).length = k := by simp [xored]; omega
theorem getD_str (s : ByteArray) (k : Nat) (h : k < s.size) : s.data.toList.getD k 0 = s[k] := by
  rw [List.getD_eq_getElem?_getD, List.getElem?_eq_getElem (by exact h)]
  rfl
theorem getD_past (s : ByteArray) (k : Nat) (h : ¬ k < s.size) : s.data.toList.getD k 0 = 0 := by
  rw [List.getD_eq_getElem?_getD, List.getElem?_eq_none (by show s.size ≤ k; omega)]
  rfl
theorem two_rows {w : World} {N k : Nat} {kb : List UInt8} {x : UInt8} {T : TypeId} (hl : kb.length = 64) (hk : k < 64) (hx : kb.getD k 0 = x)
    (h1 : w.heap[N]? = some (.cells (rowB 64 (xored 54 (kb.take k))) T (0, 0))) (h2 : w.heap[N + 1]? = some (.cells (rowB 64 (xored 92 (kb.take k))) T (0, 0))) {v1 v2 : Int} (e1 : v1 = ((x ^^^ 54).toNat : Int)) (e2 : v2 = ((x ^^^ 92).toNat : Int)) :
    ((w.setCell ⟨N, k, none⟩ (.int .u8 v1)).setCell ⟨N + 1, k, none⟩ (.int .u8 v2)).heap[N]? = some (.cells (rowB 64 (xored 54 (kb.take (k + 1)))) T (0, 0)) ∧
    ((w.setCell ⟨N, k, none⟩ (.int .u8 v1)).setCell ⟨N + 1, k, none⟩ (.int .u8 v2)).heap[N + 1]? = some (.cells (rowB 64 (xored 92 (kb.take (k + 1)))) T (0, 0)) := by
  have l1 := xored_take_length 54 kb k (by omega)
  have l2 := xored_take_length 92 kb k (by omega)
  have s1 := rowB_set (n := 64) (l := xored 54 (kb.take k)) (by omega) (x ^^^ 54)
  have s2 := rowB_set (n := 64) (l := xored 92 (kb.take k)) (by omega) (x ^^^ 92)
  rw [l1] at s1
  rw [l2] at s2
  subst e1 e2 hx
  constructor
  · rw [Below.heap_setCell _ _ _ _ (by show N ≠ N + 1; omega), kb_snoc 54 kb k (by omega), ← s1]
    exact heap_set h1 k _
  · rw [kb_snoc 92 kb k (by omega), ← s2]
    exact heap_set ((Below.heap_setCell w ⟨N, k, none⟩ _ (N + 1) (by show N + 1 ≠ N; omega)).trans h2) k _
theorem tag_short (k t : List UInt8) : tag k t = sum (xored 92 (kblock k) ++ sum (xored 54 (kblock k) ++ t)) := rfl
end Sm

set_option maxRecDepth 100000 in
set_option maxHeartbeats 2000000 in
theorem nested_long {w : World} (hH : Sm.HAt w) (hK : Sm.KAt w) (hsz : 1 < w.heap.size) (s t : ByteArray) (ht : 10000 < t.size) :
    Calls Tryd.prog 11 #[.string s, .string t] w fun e w' => e = .returned (.bool true) ∧ Below w.heap.size w w' := by
  have h1 : (10000 : Int) < t.size := by omega
  have HA := Lib.hid (awake3_any hH hK hsz)
  clear hH hK ht
  go_enter Tryd.func11, Tryd.ntmps11
  go_wp2_with fail
  refine (HA.out).mono ?_
  rintro e w1 ⟨rfl, b1⟩
  go_wp2
  go_ret
  exact ⟨rfl, b1⟩

set_option maxRecDepth 100000 in
set_option maxHeartbeats 4000000 in
theorem nested_any {w : World} (hH : Sm.HAt w) (hK : Sm.KAt w) (hsz : 1 < w.heap.size) (s t : ByteArray) (hss : s.size ≤ 9223372036854775807) (ht : ¬ 10000 < t.size) :
    Calls Tryd.prog 11 #[.string s, .string t] w fun e w' => e = .returned (.bool true) ∧ Below w.heap.size w w' := by
  have h1 : ¬ (10000 : Int) < t.size := by omega
  have HH := Lib.hid hH
  have HK := Lib.hid hK
  clear hH hK
  obtain ⟨i0, hi, hz0, hz1, hz2⟩ := info_parts info3_u8
  have hmk : ∀ wx : World, (Instr.makeSlice 31 (.int .i64 64) (.int .i64 64)).run Tryd.prog wx = .ok (.slice (some ⟨wx.heap.size, 0, none⟩) 64 64) (wx.alloc (.cells (Sm.rowB 64 []) 5)) := fun wx => by
    have h := run_make (P := Tryd.prog) wx 31 5 i0 (.int .u8 0) Tryd.underlying31 hi hz0 .i64 .i64 64 64 (by omega) (by omega) (by rw [hz2]; omega) (by omega)
    rw [hz1, show (64 : Int).toNat = 64 from rfl, Sm.made64] at h
    exact h
  go_enter Tryd.func11, Tryd.ntmps11
  go_wp2_with fail
  refine (awake3_any HH.out HK.out hsz).mono ?_
  rintro e w1 ⟨rfl, b1⟩
  have s1 := b1.size
  have hcut : ∃ K : ByteArray, K.size ≤ 64 ∧ (64 < s.size → s.extract 0 64 = K) ∧ (¬ 64 < s.size → s = K) := by
    by_cases h : 64 < s.size
    · exact ⟨s.extract 0 64, by simp; omega, fun _ => rfl, fun h' => absurd h h'⟩
    · exact ⟨s, by omega, fun h' => absurd h' h, fun _ => rfl⟩
  obtain ⟨K, hK64, hc1, hc2⟩ := hcut
  have HC1 := Lib.hid hc1
  have HC2 := Lib.hid hc2
  clear hc1 hc2
  by_cases hk : 64 < s.size
  all_goals
    have hki : if 64 < s.size then (64 : Int) < s.size else ¬ (64 : Int) < s.size := by split <;> omega
    simp only [hk, if_true, if_false] at hki
    go_upto_region 6 with (fail)
    first
      | rw [HC1.out hk]
      | rw [HC2.out hk]
    clear hk hki HC1 HC2
    have g1 : (w1.alloc (.cells (Sm.rowB 64 []) 5)).heap[w1.heap.size]? = some (.cells (Sm.rowB 64 []) 5 (0, 0)) := heap_alloc_new w1 _
    have g2 : ((w1.alloc (.cells (Sm.rowB 64 []) 5)).alloc (.cells (Sm.rowB 64 []) 5)).heap[w1.heap.size]? = some (.cells (Sm.rowB 64 []) 5 (0, 0)) := by
      rw [Below.heap_alloc _ _ _ (by simp)]; exact g1
    have g3 : ((w1.alloc (.cells (Sm.rowB 64 []) 5)).alloc (.cells (Sm.rowB 64 []) 5)).heap[w1.heap.size + 1]? = some (.cells (Sm.rowB 64 []) 5 (0, 0)) := by
      have := heap_alloc_new (w1.alloc (.cells (Sm.rowB 64 []) 5)) (.cells (Sm.rowB 64 []) 5)
      simpa using this
    have b2 : Below w.heap.size w ((w1.alloc (.cells (Sm.rowB 64 []) 5)).alloc (.cells (Sm.rowB 64 []) 5)) := (b1.alloc b1.size _).alloc (Nat.le_trans b1.size (by simp)) _
    go_upto_region 8 with (fail)
    generalize (w1.alloc (.cells (Sm.rowB 64 []) 5)).alloc (.cells (Sm.rowB 64 []) 5) = W2 at *
    obtain ⟨N, hN⟩ : ∃ N, N = w1.heap.size := ⟨_, rfl⟩
    rw [← hN] at g2 g3 s1 ⊢
    have hlk := Sm.kblock_length K.data.toList
    have hkg := Sm.kblock_get K.data.toList (by exact hK64)
    have hT := Sm.tag_short K.data.toList t.data.toList
    obtain ⟨kb, hkb⟩ : ∃ l, l = Sm.kblock K.data.toList := ⟨_, rfl⟩
    rw [← hkb] at hlk hkg hT
    have HKG := Lib.hid hkg
    have HT := Lib.hid hT
    clear hN g1 b1 hmk hi hz0 hz1 hz2 hkb hkg hT
    go_wp2_with fail
    go_loopw [7] (fun i wr => ∃ k : Nat, k ≤ 64 ∧ i = .int .i64 k ∧ wr.heap[N]? = some (.cells (Sm.rowB 64 (Sm.xored 54 (kb.take k))) 5 (0, 0)) ∧ wr.heap[N + 1]? = some (.cells (Sm.rowB 64 (Sm.xored 92 (kb.take k))) 5 (0, 0)) ∧ Below w.heap.size w wr) (fun i _ => 64 - (intOf i).toNat)
    case atStart => exact ⟨0, by omega, rfl, g2, g3, b2⟩
    case round =>
      clear g2 g3 b2
      obtain ⟨k, hk, rfl, hr1, hr2, hbk⟩ := hrel
      have HR1 := Lib.hid hr1
      have HR2 := Lib.hid hr2
      clear hr1 hr2
      by_cases hlt : k < 64
      · have hl1 := Sm.xored_take_length 54 kb k (by omega)
        have hl2 := Sm.xored_take_length 92 kb k (by omega)
        obtain ⟨o1, ho1⟩ := Sm.rowB_some (n := 64) (l := Sm.xored 54 (kb.take k)) k (by omega) hlt
        obtain ⟨o2, ho2⟩ := Sm.rowB_some (n := 64) (l := Sm.xored 92 (kb.take k)) k (by omega) hlt
        have c1 := Sm.cells_of HR1.out k o1 ho1
        have c2 := Sm.cells_of HR2.out k o2 ho2
        have f1 := Sm.free_of HR1.out k
        have f2 := Sm.free_of HR2.out k
        clear hl1 hl2 ho1 ho2
        have hg := HKG.out k
        by_cases hin : k < K.size
        · have hkK : (k : Int) < K.size := by omega
          have hx := Sm.getD_str K k hin
          rw [hx] at hg
          have hb := byte_fits K[k]
          have HG := Lib.hid hg
          clear hg hx
          go_wp2
          go_roundw
          case rel =>
            have r := Sm.two_rows hlk hlt HG.out HR1.out HR2.out (Sm.w_xor8 K[k] 54) (Sm.w_xor8 K[k] 92)
            exact ⟨k + 1, by omega, by go_num, r.1, r.2, (hbk.setCell (p := ⟨N, k, none⟩) (by show w.heap.size ≤ N; omega) _).setCell (p := ⟨N + 1, k, none⟩) (by show w.heap.size ≤ N + 1; omega) _⟩
          case measure => simp [intOf]; omega
        · have hkK : ¬ (k : Int) < K.size := by omega
          have hx := Sm.getD_past K k hin
          rw [hx] at hg
          have HG := Lib.hid hg
          clear hg hx
          go_wp2
          go_roundw
          case rel =>
            have r := Sm.two_rows hlk hlt HG.out HR1.out HR2.out (Sm.w_xor8 0 54) (Sm.w_xor8 0 92)
            exact ⟨k + 1, by omega, by go_num, r.1, r.2, (hbk.setCell (p := ⟨N, k, none⟩) (by show w.heap.size ≤ N; omega) _).setCell (p := ⟨N + 1, k, none⟩) (by show w.heap.size ≤ N + 1; omega) _⟩
          case measure => simp [intOf]; omega
      · obtain rfl : k = 64 := by omega
        have ht64 : kb.take 64 = kb := List.take_of_length_le (by omega)
        have r1 := HR1.out
        have r2 := HR2.out
        rw [ht64, Sm.rowB_full (by rw [Sm.xored_length, hlk])] at r1 r2
        have hl1 : (Sm.xored 54 kb).length = 64 := by rw [Sm.xored_length, hlk]
        have hl2 : (Sm.xored 92 kb).length = 64 := by rw [Sm.xored_length, hlk]
        have hcv1 := Sm.conv_row (n := 64) r1 hl1
        have R2 := Lib.hid r2
        have hN1 : N + 1 < wr.heap.size := Sm.lt_of r2
        clear r1 r2 ht64 HR1 HR2 HKG
        have eI : ((ByteArray.mk (Sm.xored 54 kb).toArray) ++ t).size = 64 + t.size := by
          rw [append_size]
          have : (ByteArray.mk (Sm.xored 54 kb).toArray).size = (Sm.xored 54 kb).length := rfl
          omega
        go_wp2_with fail
        refine (sum_any ((ByteArray.mk (Sm.xored 54 kb).toArray) ++ t) (HH.out.low hbk (by omega)) (HK.out.low hbk hsz) (by omega) (by omega)).mono ?_
        rintro e w4 ⟨rfl, k4⟩
        have b4 := Sm.low_low hbk (Nat.le_refl _) k4
        have r4 := (k4.block (N + 1) hN1).trans R2.out
        have s4 := k4.size
        have hT2 : Hid (Sm.tag K.data.toList t.data.toList = Sm.sum (Sm.xored 92 kb ++ Sm.sum (((ByteArray.mk (Sm.xored 54 kb).toArray) ++ t).data.toList))) := by
          show _ = _
          rw [append_data]; exact HT.out
        obtain ⟨hi, hhi⟩ : ∃ h, h = Sm.sum (((ByteArray.mk (Sm.xored 54 kb).toArray) ++ t).data.toList) := ⟨_, rfl⟩
        have hil : hi.length = 32 := by rw [hhi]; exact Sm.sum_length _
        rw [← hhi] at hT2 ⊢
        have hsz32 : (Lib.byteCells hi).toArray.size = 32 := by rw [Sm.bytes_size, hil]
        have hone := Sm.bytes_one hi
        have hst : ∀ (c : Array Value), c.size = 32 → (storeCells ⟨w4.heap.size, 0, none⟩ (Lib.byteCells hi).toArray.toList).run Tryd.prog (w4.alloc (.cells c 24)) = .ok () (w4.alloc (.cells (Lib.byteCells hi).toArray 24)) := fun c hc =>
          run_storeCells_new (P := Tryd.prog) w4 24 c _ (Sm.infoHash hsz32) (by rw [hsz32]; exact hc) hone
        have p5 := heap_alloc_new w4 (.cells (Lib.byteCells hi).toArray 24)
        have b5 : Below w.heap.size w (w4.alloc (.cells (Lib.byteCells hi).toArray 24)) := b4.alloc b4.size _
        have r5 : (w4.alloc (.cells (Lib.byteCells hi).toArray 24)).heap[N + 1]? = some (.cells (Lib.byteCells (Sm.xored 92 kb)).toArray 5 (0, 0)) := by
          rw [Below.heap_alloc _ _ _ (Sm.lt_of r4)]; exact r4
        have HP5 := Lib.hid p5
        have HR5 := Lib.hid r5
        obtain ⟨ci, hci⟩ : ∃ c, c = (Lib.byteCells hi).toArray := ⟨_, rfl⟩
        rw [← hci] at HP5 HR5 hst b5 hsz32 ⊢
        have HCI := Lib.hid hci
        clear hci hcv1 hhi hone p5 r5 r4 k4 hbk b4 HT
        go_upto_region 17 with (fail)
        clear hst
        have hW5 : w4.heap.size < (w4.alloc (.cells ci 24)).heap.size := by simp
        generalize w4.alloc (.cells ci 24) = W5 at *
        obtain ⟨M, hM⟩ : ∃ M, M = w4.heap.size := ⟨_, rfl⟩
        rw [← hM] at HP5 hW5 ⊢
        obtain ⟨co, hco⟩ : ∃ c, c = (Lib.byteCells (Sm.tag K.data.toList t.data.toList)).toArray := ⟨_, rfl⟩
        have TAG : Hid (∀ wx : World, Sm.HAt wx → Sm.KAt wx → 1 < wx.heap.size → Calls Tryd.prog 25 #[.string K, .string t] wx fun e w' => e = .returned (.agg co) ∧ Below wx.heap.size wx w') := by
          intro wx h1 h2 h3
          rw [hco]
          exact tag_any K t h1 h2 h3 (by omega) (by omega)
        obtain ⟨XB, hXB⟩ : ∃ b, b = ByteArray.mk (Sm.xored 92 kb).toArray := ⟨_, rfl⟩
        obtain ⟨HB, hHB⟩ : ∃ b, b = ByteArray.mk hi.toArray := ⟨_, rfl⟩
        have hXs : XB.size ≤ 64 := by
          have : (ByteArray.mk (Sm.xored 92 kb).toArray).size = (Sm.xored 92 kb).length := rfl
          rw [hXB]; omega
        have hHs : HB.size ≤ 32 := by
          have : (ByteArray.mk hi.toArray).size = hi.length := rfl
          rw [hHB]; omega
        have eO : (XB ++ HB).size ≤ 1152921504606846976 := by
          rw [append_size]
          omega
        have SUM : Hid (∀ wx : World, Sm.HAt wx → Sm.KAt wx → 1 < wx.heap.size → Calls Tryd.prog 15 #[.string (XB ++ HB)] wx fun e w' => e = .returned (.agg co) ∧ Below wx.heap.size wx w') := by
          intro wx h1 h2 h3
          rw [hco, hT2.out]
          have h := sum_any (XB ++ HB) h1 h2 h3 eO
          rw [append_data] at h
          have e1 : XB.data.toList = Sm.xored 92 kb := by rw [hXB]
          have e2 : HB.data.toList = hi := by rw [hHB]
          rw [e1, e2] at h
          exact h
        have heq := fun w' => Sm.eq_hash (Sm.tag K.data.toList t.data.toList) (Sm.tag K.data.toList t.data.toList) (Sm.tag_length _ _) (Sm.tag_length _ _) w'
        rw [beq_self_eq_true, ← hco] at heq
        have CONV : Hid (∀ wx : World, wx.heap[M]? = some (.cells ci 24 (0, 0)) → (convert 31 9 (.slice (some ⟨M, 0, none⟩) 32 32)).run Tryd.prog wx = .ok (.string HB) wx) := by
          intro wx h
          rw [HCI.out] at h
          rw [hHB]
          exact Sm.conv_row h hil
        have CONV2 : Hid (∀ wx : World, wx.heap[N + 1]? = some (.cells (Lib.byteCells (Sm.xored 92 kb)).toArray 5 (0, 0)) → (convert 31 9 (.slice (some ⟨N + 1, 0, none⟩) 64 64)).run Tryd.prog wx = .ok (.string XB) wx) := fun wx h => by rw [hXB]; exact Sm.conv_row h hl2
        have R5 : Hid (W5.drew.heap[N + 1]? = some (.cells (Lib.byteCells (Sm.xored 92 kb)).toArray 5 (0, 0))) := HR5.out
        have P5 : Hid (W5.drew.heap[M]? = some (.cells ci 24 (0, 0))) := HP5.out
        have B5 : Hid (Below w.heap.size w W5.drew) := b5.drew
        have hab : ¬ 9223372036854775807 < XB.size + HB.size := by omega
        clear hXB hHB hco eO hT2 HR5 HP5 hM b5 hl1 hl2 hil HCI R2 hlk
        go_region_held3 (fun w' => (convert 31 9 (.slice (some ⟨N + 1, 0, none⟩) 64 64)).run Tryd.prog w' = .ok (.string XB) w' ∧ (convert 31 9 (.slice (some ⟨M, 0, none⟩) 32 32)).run Tryd.prog w' = .ok (.string HB) w')
          (first | exact ⟨CONV2.out _ R5.out, CONV.out _ P5.out⟩ | exact ⟨CONV2.out _ R7.out, CONV.out _ P7.out⟩ | exact ⟨CONV2.out _ R8.out, CONV.out _ P8.out⟩)
          ((first
            | (go_at_call 25; refine (TAG.out _ (HH.out.low B5.out (by omega)) (HK.out.low B5.out hsz) (Nat.lt_of_lt_of_le hsz B5.out.size)).mono ?_; rintro e w7 ⟨rfl, k7⟩; have R7 := Lib.hid ((k7.block (N + 1) (Sm.lt_of R5.out)).trans R5.out); have P7 := Lib.hid ((k7.block M (Sm.lt_of P5.out)).trans P5.out); have B7 := Lib.hid (Sm.low_low B5.out (Nat.le_refl _) k7); clear k7)
            | (go_at_call 15; refine (SUM.out _ (HH.out.low B7.out (by omega)) (HK.out.low B7.out hsz) (Nat.lt_of_lt_of_le hsz B7.out.size)).mono ?_; rintro e w8 ⟨rfl, k8⟩; have R8 := Lib.hid ((k8.block (N + 1) (Sm.lt_of R7.out)).trans R7.out); have P8 := Lib.hid ((k8.block M (Sm.lt_of P7.out)).trans P7.out); have B8 := Lib.hid (Sm.low_low B7.out (Nat.le_refl _) k8); clear k8)))
        go_wp2
        go_ret
        exact ⟨rfl, B8.out⟩
end Go.Proofs.YtkijdpgdniaagaaDoor
