/-
  What the law's helper xor does.
-/
import Derived.Test.YtkannddaihlcdaaAeCountsLaw
namespace Go.Proofs.Ytkannddaihlcdaa
open Go.RowKit
namespace Ae
def xorF (a b : List UInt8) (i : Nat) : UInt8 := a.getD i 0 ^^^ b.getD i 0
def xorL (a b : List UInt8) : List UInt8 := (List.range (min a.length b.length)).map (xorF a b)
theorem xor_streams (key nonce a b : List UInt8) : xorL (stream key nonce a) (stream key nonce b) = xorL a b := by
  unfold xorL
  rw [stream_length, stream_length]
  apply List.map_congr_left
  intro i hi
  have h := List.mem_range.1 hi
  unfold xorF
  rw [stream_get _ _ _ _ (by omega), stream_get _ _ _ _ (by omega)]
  generalize a.getD i 0 = x
  generalize b.getD i 0 = y
  generalize sbyte key nonce i = z
  rw [UInt8.xor_assoc, UInt8.xor_comm y z, ← UInt8.xor_assoc z z y, UInt8.xor_self, UInt8.zero_xor]
theorem str_get (s : ByteArray) (k : Nat) (h : k < s.size) : s.data.toList.getD k 0 = s[k] := by
  rw [List.getD_eq_getElem?_getD, List.getElem?_eq_getElem (by exact h)]
  rfl
end Ae

set_option maxRecDepth 100000 in
set_option maxHeartbeats 2000000 in
theorem xor_le (w : World) (a b : ByteArray) (ha : a.size ≤ 65536) (hb : b.size ≤ 65536) (h : a.size ≤ b.size) :
    Calls Try.prog 15 #[.string a, .string b] w fun e w' => e = .returned (.string ⟨(Ae.xorL a.data.toList b.data.toList).toArray⟩) ∧ Below w.heap.size w w' := by
  have hX : Hid (Ae.xorL a.data.toList b.data.toList = (List.range a.size).map (Ae.xorF a.data.toList b.data.toList)) := by
    show (List.range (min a.size b.size)).map _ = _
    rw [show min a.size b.size = a.size by omega]
  have hmk := Ae.makeN a.size (by omega)
  have hle : (a.size : Int) ≤ b.size := by omega
  have g1 := heap_alloc_new w (.cells (Sm.rowB a.size []) 5)
  have b1 : Below w.heap.size w (w.alloc (.cells (Sm.rowB a.size []) 5)) := (Below.refl _ w).alloc (Nat.le_refl _) _
  go_enter Try.func15, Try.ntmps15
  go_upto_region 4 with (fail)
  clear hmk
  generalize w.alloc (.cells (Sm.rowB a.size []) 5) = W1 at *
  obtain ⟨N, hN⟩ : ∃ N, N = w.heap.size := ⟨_, rfl⟩
  rw [← hN] at g1 b1 ⊢
  have HN := Lib.hid hN
  clear hN
  go_loopw [7] (fun i wr => ∃ k : Nat, k ≤ a.size ∧ i = .int .i64 k ∧ wr.heap[N]? = some (.cells (Sm.rowB a.size ((List.range k).map (Ae.xorF a.data.toList b.data.toList))) 5 (0, 0)) ∧ Below N w wr) (fun i _ => a.size - (intOf i).toNat)
  case atStart => exact ⟨0, by omega, rfl, g1, b1⟩
  case round =>
    clear g1 b1
    obtain ⟨k, hk, rfl, hr, hbw⟩ := hrel
    have HR := Lib.hid hr
    clear hr
    by_cases hlt : k < a.size
    · have q1 : (k : Int) < a.size := by omega
      have q2 : (k : Int) < b.size := by omega
      have k1 : k < a.size := by omega
      have k2 : k < b.size := by omega
      obtain ⟨old, hold⟩ := Sm.rowB_some (n := a.size) (l := (List.range k).map (Ae.xorF a.data.toList b.data.toList)) k (by simp; omega) hlt
      have hold := Sm.cells_of HR.out k old hold
      have fz := Sm.free_of HR.out k
      have hxf : Hid (Ae.xorF a.data.toList b.data.toList k = a[k] ^^^ b[k]) := by
        show _ = _
        unfold Ae.xorF
        rw [Ae.str_get a k k1, Ae.str_get b k k2]
      have hxo := Sm.w_xor8 a[k] b[k]
      have y1 := byte_fits a[k]
      have y2 := byte_fits b[k]
      have HXO := Lib.hid hxo
      clear hxo
      go_wp2_with fail
      go_region
      all_goals go_wp2
      go_roundw
      case rel =>
        refine ⟨k + 1, by omega, by go_num, ?_, (hbw.setCell (p := ⟨N, k, none⟩) (Nat.le_refl _) _).drew⟩
        have e := Sm.rowB_set (n := a.size) (l := (List.range k).map (Ae.xorF a.data.toList b.data.toList)) (by simp; omega) (a[k] ^^^ b[k])
        rw [List.length_map, List.length_range] at e
        rw [Sm.range_snoc, hxf.out, ← e, ← HXO.out]
        exact Sm.heap_set HR.out k _
      case measure => simp [intOf]; omega
    · obtain rfl : k = a.size := by omega
      have q1 : ¬ (a.size : Int) < a.size := by omega
      have hr := HR.out
      rw [Sm.rowB_full (by simp), ← hX.out] at hr
      have hcv := Sm.conv_row (n := a.size) hr (by rw [hX.out]; simp)
      clear hlt hk hr HR
      go_wp2
      go_ret
      exact ⟨rfl, by rw [← HN.out]; exact hbw⟩

set_option maxRecDepth 100000 in
set_option maxHeartbeats 2000000 in
theorem xor_gt (w : World) (a b : ByteArray) (ha : a.size ≤ 65536) (hb : b.size ≤ 65536) (h : b.size < a.size) :
    Calls Try.prog 15 #[.string a, .string b] w fun e w' => e = .returned (.string ⟨(Ae.xorL a.data.toList b.data.toList).toArray⟩) ∧ Below w.heap.size w w' := by
  have hX : Hid (Ae.xorL a.data.toList b.data.toList = (List.range b.size).map (Ae.xorF a.data.toList b.data.toList)) := by
    show (List.range (min a.size b.size)).map _ = _
    rw [show min a.size b.size = b.size by omega]
  have hmk := Ae.makeN b.size (by omega)
  have hle : ¬ (a.size : Int) ≤ b.size := by omega
  have hlt0 : (b.size : Int) < a.size := by omega
  have g1 := heap_alloc_new w (.cells (Sm.rowB b.size []) 5)
  have b1 : Below w.heap.size w (w.alloc (.cells (Sm.rowB b.size []) 5)) := (Below.refl _ w).alloc (Nat.le_refl _) _
  go_enter Try.func15, Try.ntmps15
  go_upto_region 4 with (fail)
  clear hmk
  generalize w.alloc (.cells (Sm.rowB b.size []) 5) = W1 at *
  obtain ⟨N, hN⟩ : ∃ N, N = w.heap.size := ⟨_, rfl⟩
  rw [← hN] at g1 b1 ⊢
  have HN := Lib.hid hN
  clear hN
  go_loopw [7] (fun i wr => ∃ k : Nat, k ≤ b.size ∧ i = .int .i64 k ∧ wr.heap[N]? = some (.cells (Sm.rowB b.size ((List.range k).map (Ae.xorF a.data.toList b.data.toList))) 5 (0, 0)) ∧ Below N w wr) (fun i _ => b.size - (intOf i).toNat)
  case atStart => exact ⟨0, by omega, rfl, g1, b1⟩
  case round =>
    clear g1 b1
    obtain ⟨k, hk, rfl, hr, hbw⟩ := hrel
    have HR := Lib.hid hr
    clear hr
    by_cases hlt : k < b.size
    · have q1 : (k : Int) < a.size := by omega
      have q2 : (k : Int) < b.size := by omega
      have k1 : k < a.size := by omega
      have k2 : k < b.size := by omega
      obtain ⟨old, hold⟩ := Sm.rowB_some (n := b.size) (l := (List.range k).map (Ae.xorF a.data.toList b.data.toList)) k (by simp; omega) hlt
      have hold := Sm.cells_of HR.out k old hold
      have fz := Sm.free_of HR.out k
      have hxf : Hid (Ae.xorF a.data.toList b.data.toList k = a[k] ^^^ b[k]) := by
        show _ = _
        unfold Ae.xorF
        rw [Ae.str_get a k k1, Ae.str_get b k k2]
      have hxo := Sm.w_xor8 a[k] b[k]
      have y1 := byte_fits a[k]
      have y2 := byte_fits b[k]
      have HXO := Lib.hid hxo
      clear hxo
      go_wp2_with fail
      go_region
      all_goals go_wp2
      go_roundw
      case rel =>
        refine ⟨k + 1, by omega, by go_num, ?_, (hbw.setCell (p := ⟨N, k, none⟩) (Nat.le_refl _) _).drew⟩
        have e := Sm.rowB_set (n := b.size) (l := (List.range k).map (Ae.xorF a.data.toList b.data.toList)) (by simp; omega) (a[k] ^^^ b[k])
        rw [List.length_map, List.length_range] at e
        rw [Sm.range_snoc, hxf.out, ← e, ← HXO.out]
        exact Sm.heap_set HR.out k _
      case measure => simp [intOf]; omega
    · obtain rfl : k = b.size := by omega
      have q1 : ¬ (b.size : Int) < b.size := by omega
      have hr := HR.out
      rw [Sm.rowB_full (by simp), ← hX.out] at hr
      have hcv := Sm.conv_row (n := b.size) hr (by rw [hX.out]; simp)
      clear hlt hk hr HR
      go_wp2
      go_ret
      exact ⟨rfl, by rw [← HN.out]; exact hbw⟩

theorem xor_any (w : World) (a b : ByteArray) (ha : a.size ≤ 65536) (hb : b.size ≤ 65536) :
    Calls Try.prog 15 #[.string a, .string b] w fun e w' => e = .returned (.string ⟨(Ae.xorL a.data.toList b.data.toList).toArray⟩) ∧ Below w.heap.size w w' := by
  rcases Nat.lt_or_ge b.size a.size with h | h
  · exact xor_gt w a b ha hb h
  · exact xor_le w a b ha hb h
end Go.Proofs.Ytkannddaihlcdaa
