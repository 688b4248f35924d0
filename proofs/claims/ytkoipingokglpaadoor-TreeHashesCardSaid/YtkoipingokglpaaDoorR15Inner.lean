/-
  The document's text of an inner node.
-/
import Derived.Test.YtkoipingokglpaaDoorTrB
import Derived.Test.YtkoipingokglpaaDoorR12Ops
namespace Go.Proofs.YtkoipingokglpaaDoor
open Go.RowKit
set_option maxRecDepth 100000 in
set_option maxHeartbeats 4000000 in
theorem r15InnerText_any (w : World) (a b : List UInt8) (ha : a.length = 32) (hb : b.length = 32) :
    Calls Tryd.prog 14 #[.agg (Lib.byteCells a).toArray, .agg (Lib.byteCells b).toArray] w fun e w' => e = .returned (.string (Tr.tx (Tr.innerT a b))) ∧ Below w.heap.size w w' := by
  obtain ⟨N, hN⟩ : ∃ N, N = w.heap.size := ⟨_, rfl⟩
  obtain ⟨w2, hw2⟩ : ∃ w2, w2 = (w.alloc (.cells (Lib.byteCells a).toArray 23)).alloc (.cells (Lib.byteCells b).toArray 23) := ⟨_, rfl⟩
  have b2 : Below w.heap.size w w2 := by rw [hw2]; exact ((Below.refl _ w).alloc (Nat.le_refl _) _).alloc (by simp) _
  have g0 : w2.heap[N]? = some (.cells (Lib.byteCells a).toArray 23 (0, 0)) := by rw [hw2, hN, Below.heap_alloc _ _ _ (by simp)]; exact heap_alloc_new _ _
  have g1 : w2.heap[N + 1]? = some (.cells (Lib.byteCells b).toArray 23 (0, 0)) := by
    have := heap_alloc_new (w.alloc (.cells (Lib.byteCells a).toArray 23)) (.cells (Lib.byteCells b).toArray 23)
    rw [hw2, hN]
    simpa using this
  have hN1 : (w.alloc (.cells (Lib.byteCells a).toArray 23)).heap.size = N + 1 := by rw [hN]; simp
  have C0 : Hid (∀ (wx : World) (k : Nat), Below w2.heap.size w2 wx → k < 32 → wx.cell? ⟨N, k, none⟩ = some (.int .u8 ((a.getD k 0).toNat : Int))) := fun wx k hb hk => (hb.cell (p := ⟨N, k, none⟩) (Sm.lt_of g0)).trans (Sm.row_cell g0 k (by omega))
  have C1 : Hid (∀ (wx : World) (k : Nat), Below w2.heap.size w2 wx → k < 32 → wx.cell? ⟨N + 1, k, none⟩ = some (.int .u8 ((b.getD k 0).toNat : Int))) := fun wx k hb hk => (hb.cell (p := ⟨N + 1, k, none⟩) (Sm.lt_of g1)).trans (Sm.row_cell g1 k (by omega))
  have TA : Hid (∀ k, k < 32 → a.take (k + 1) = a.take k ++ [a.getD k 0]) := fun k hk => by rw [← List.take_append_getElem (show k < a.length by omega), List.getD_eq_getElem?_getD, List.getElem?_eq_getElem (by omega)]; rfl
  have TB : Hid (∀ k, k < 32 → b.take (k + 1) = b.take k ++ [b.getD k 0]) := fun k hk => by rw [← List.take_append_getElem (show k < b.length by omega), List.getD_eq_getElem?_getD, List.getElem?_eq_getElem (by omega)]; rfl
  have HA := Lib.hid ha
  have HBL := Lib.hid hb
  have HB2 := Lib.hid b2
  clear g0 g1 b2 ha hb
  go_enter Tryd.func14, Tryd.ntmps14
  go_upto_region 1 with (fail)
  rw [← hw2, ← hN]
  clear hw2 hN hN1
  go_wp2
  go_loopw [5, 6] (fun s5 s6 wr => ∃ (k : Nat) (t : ByteArray), s6 = .int .i64 k ∧ k ≤ 32 ∧ s5 = .string t ∧ Hid (t = Tr.tx (78 :: a.take k)) ∧ Below w2.heap.size w2 wr) (fun _ s6 _ => 32 - (intOf s6).toNat)
  case atStart => exact ⟨0, _, rfl, by omega, rfl, rfl, Below.refl _ _⟩
  case round =>
    obtain ⟨k, t, rfl, hk, rfl, ht, hb⟩ := hrel
    have HB := Lib.hid hb
    clear hb
    by_cases hlt : k < 32
    · have hki : (k : Int) < 32 := by omega
      have hsuc : IntKind.i64.wrap ((k : Int) + 1) = ((k + 1 : Nat) : Int) := by simp [IntKind.wrap, IntKind.bits, IntKind.signed]; omega
      have x0 := C0.out wr k HB.out hlt
      have hta := TA.out k hlt
      obtain ⟨x, hx⟩ : ∃ x, x = a.getD k 0 := ⟨_, rfl⟩
      rw [← hx] at x0 hta
      have hcv := R12.conv_one wr x ((x.toNat : Nat) : Int) rfl
      have hsz : t.size ≤ 33 := by rw [ht.out, Tr.tx_size, List.length_cons, List.length_take]; omega
      have hsm : t.size + 1 ≤ 9223372036854775807 := by omega
      have HN : Hid (t ++ ⟨#[x]⟩ = Tr.tx (78 :: a.take (k + 1))) := by
        show _ = _
        rw [ht.out, hta]
        exact Tr.tx_tx _ [x]
      have HLT := Lib.hid hlt
      clear hx hta hlt ht hsz
      go_wp2
      go_roundw
      case rel => exact ⟨k + 1, _, rfl, HLT.out, rfl, HN.out, HB.out.alloc HB.out.size _⟩
      case measure => simp only [intOf]; have := HLT.out; omega
    · have hki : ¬ (k : Int) < 32 := by omega
      have hke : k = 32 := by omega
      have HT : Hid (t = Tr.tx (78 :: a)) := by
        have := ht.out
        rw [hke, List.take_of_length_le (by rw [HA.out]; omega)] at this
        exact this
      have HBO := Lib.hid HB.out
      clear ht hk HB
      generalize wr = WL at *
      go_wp2
      go_loopw [5, 7] (fun s5 s7 wr => ∃ (k : Nat) (t : ByteArray), s7 = .int .i64 k ∧ k ≤ 32 ∧ s5 = .string t ∧ Hid (t = Tr.tx (78 :: (a ++ b.take k))) ∧ Below w2.heap.size w2 wr) (fun _ s7 _ => 32 - (intOf s7).toNat)
      case atStart => exact ⟨0, t, rfl, by omega, rfl, by show _ = _; rw [HT.out]; simp, HBO.out⟩
      case round =>
        clear HT HBO
        obtain ⟨k, t, rfl, hk, rfl, ht, hb⟩ := hrel
        have HB := Lib.hid hb
        clear hb
        by_cases hlt : k < 32
        · have hki : (k : Int) < 32 := by omega
          have hsuc : IntKind.i64.wrap ((k : Int) + 1) = ((k + 1 : Nat) : Int) := by simp [IntKind.wrap, IntKind.bits, IntKind.signed]; omega
          have x0 := C1.out wr k HB.out hlt
          have hta := TB.out k hlt
          obtain ⟨x, hx⟩ : ∃ x, x = b.getD k 0 := ⟨_, rfl⟩
          rw [← hx] at x0 hta
          have hcv := R12.conv_one wr x ((x.toNat : Nat) : Int) rfl
          have hsz : t.size ≤ 66 := by rw [ht.out, Tr.tx_size, List.length_cons, List.length_append, List.length_take, HA.out]; omega
          have hsm : t.size + 1 ≤ 9223372036854775807 := by omega
          have HN : Hid (t ++ ⟨#[x]⟩ = Tr.tx (78 :: (a ++ b.take (k + 1)))) := by
            show _ = _
            rw [ht.out, hta]
            have := Tr.tx_tx (78 :: (a ++ b.take k)) [x]
            rw [List.cons_append, List.append_assoc] at this
            exact this
          have HLT := Lib.hid hlt
          clear hx hta hlt ht hsz
          go_wp2
          go_roundw
          case rel => exact ⟨k + 1, _, rfl, HLT.out, rfl, HN.out, HB.out.alloc HB.out.size _⟩
          case measure => simp only [intOf]; have := HLT.out; omega
        · have hki : ¬ (k : Int) < 32 := by omega
          have hke : k = 32 := by omega
          have HT : Hid (t = Tr.tx (Tr.innerT a b)) := by
            have := ht.out
            rw [hke, List.take_of_length_le (by rw [HBL.out]; omega)] at this
            exact this
          clear ht hk
          go_wp2
          go_ret
          exact ⟨by rw [← HT.out]; rfl, HB2.out.trans (HB.out.mono HB2.out.size)⟩
end Go.Proofs.YtkoipingokglpaaDoor
