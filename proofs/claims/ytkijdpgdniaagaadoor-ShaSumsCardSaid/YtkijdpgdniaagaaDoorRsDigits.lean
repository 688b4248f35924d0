/-
  What the document's Digits does: a hash as digits.
-/
import Derived.Test.YtkijdpgdniaagaaDoorShLow
namespace Go.Proofs.YtkijdpgdniaagaaDoor
open Go.RowKit
namespace Sm
theorem hex_cut (a : Nat) (h : a < 16) (w : World) : (Instr.sliceAt 9 (.string ⟨#[48, 49, 50, 51, 52, 53, 54, 55, 56, 57, 97, 98, 99, 100, 101, 102]⟩) (some (.int .u8 (a : Int))) (some (.int .u8 ((a : Int) + 1))) none).run Tryd.prog w = .ok (.string ⟨#[digit a]⟩) w := by
  obtain rfl | rfl | rfl | rfl | rfl | rfl | rfl | rfl | rfl | rfl | rfl | rfl | rfl | rfl | rfl | rfl : a = 0 ∨ a = 1 ∨ a = 2 ∨ a = 3 ∨ a = 4 ∨ a = 5 ∨ a = 6 ∨ a = 7 ∨ a = 8 ∨ a = 9 ∨ a = 10 ∨ a = 11 ∨ a = 12 ∨ a = 13 ∨ a = 14 ∨ a = 15 := by omega
  all_goals kernel_rfl
theorem row_cell_d {w : World} {N : Nat} {l : List UInt8} {t : TypeId} (h : w.heap[N]? = some (.cells (Lib.byteCells l).toArray t (0, 0))) (k : Nat) (hk : k < l.length) :
    w.cell? ⟨N, k, none⟩ = some (.int .u8 (l.getD k 0).toNat) := cells_of h k _ (by rw [List.getElem?_toArray]; exact byteCells_get hk)
end Sm

set_option maxRecDepth 100000 in
set_option maxHeartbeats 2000000 in
theorem rsdigits_any (l : List UInt8) (hl : l.length = 32) (w : World) :
    Calls Tryd.prog 18 #[.agg (Lib.byteCells l).toArray] w fun e w' => e = .returned (.string ⟨(Sm.digits l).toArray⟩) ∧ Below w.heap.size w w' := by
  obtain ⟨cs, hcs⟩ : ∃ c, c = (Lib.byteCells l).toArray := ⟨_, rfl⟩
  rw [← hcs]
  have HC := Lib.hid hcs
  clear hcs
  go_enter Tryd.func18, Tryd.ntmps18
  go_wp2
  have g1 : (w.alloc (.cells cs 23)).heap[w.heap.size]? = some (.cells (Lib.byteCells l).toArray 23 (0, 0)) := by
    rw [← HC.out]; exact heap_alloc_new w _
  have g2 : Below w.heap.size w (w.alloc (.cells cs 23)) := (Below.refl _ w).alloc (Nat.le_refl _) _
  generalize w.alloc (.cells cs 23) = W1 at *
  obtain ⟨N, hN⟩ : ∃ N, N = w.heap.size := ⟨_, rfl⟩
  rw [← hN] at g1 g2 ⊢
  have HN := Lib.hid hN
  clear hN
  go_loopw [3, 4] (fun s i wr => ∃ (k : Nat) (S : ByteArray), k ≤ 32 ∧ i = .int .i64 k ∧ s = .string S ∧ S.data.toList = Sm.digits (l.take k) ∧ S.size = 2 * k ∧ wr.heap[N]? = some (.cells (Lib.byteCells l).toArray 23 (0, 0)) ∧ Below N w wr) (fun _ i _ => 32 - (intOf i).toNat)
  case atStart => exact ⟨0, ⟨#[]⟩, by omega, rfl, rfl, rfl, rfl, g1, g2⟩
  case round =>
    clear g1 g2
    obtain ⟨k, S, hk, rfl, rfl, hS, hSs, hr, hbk⟩ := hrel
    have HR := Lib.hid hr
    have HS := Lib.hid hS
    have HSS := Lib.hid hSs
    clear hr hS
    by_cases hlt : k < 32
    · have c0 := Sm.row_cell_d HR.out k (by omega)
      have hsn : Sm.digits (l.take (k + 1)) = Sm.digits (l.take k) ++ [Sm.digit ((l.getD k 0).toNat / 16), Sm.digit ((l.getD k 0).toNat % 16)] := by
        rw [← Sm.digits_snoc, List.take_succ_eq_append_getElem (by omega)]
        simp [List.getD_eq_getElem?_getD, show k < l.length by omega]
      have HSN := Lib.hid hsn
      have hx := byte_fits (l.getD k 0)
      clear hsn
      generalize (l.getD k 0).toNat = x at *
      obtain ⟨a, ha⟩ : ∃ a, a = x / 16 := ⟨_, rfl⟩
      obtain ⟨b, hb⟩ : ∃ b, b = x % 16 := ⟨_, rfl⟩
      have hax : (x : Int) / 16 = (a : Int) := by omega
      have hbx : (x : Int) % 16 = (b : Int) := by omega
      have ha16 : a < 16 := by omega
      have hb16 : b < 16 := by omega
      rw [← ha, ← hb] at HSN
      clear ha hb
      have s1 := fun wx => Sm.hex_cut a ha16 wx
      have s2 := fun wx => Sm.hex_cut b hb16 wx
      have w1 : IntKind.u8.wrap ((a : Int) + 1) = (a : Int) + 1 := by rw [IntKind.wrap_u8]; omega
      have w2 : IntKind.u8.wrap ((b : Int) + 1) = (b : Int) + 1 := by rw [IntKind.wrap_u8]; omega
      obtain ⟨D1, hD1⟩ : ∃ D, D = ByteArray.mk #[Sm.digit a] := ⟨_, rfl⟩
      obtain ⟨D2, hD2⟩ : ∃ D, D = ByteArray.mk #[Sm.digit b] := ⟨_, rfl⟩
      rw [← hD1] at s1
      rw [← hD2] at s2
      have z1 : D1.size = 1 := by rw [hD1]; rfl
      have z2 : D2.size = 1 := by rw [hD2]; rfl
      have HD1 := Lib.hid hD1
      have HD2 := Lib.hid hD2
      have a1 : ¬ 9223372036854775807 < S.size + D1.size := by omega
      have a2 : ¬ 9223372036854775807 < (S ++ D1).size + D2.size := by rw [append_size]; omega
      have a3 : ¬ 9223372036854775807 < S.size + D1.size + D2.size := by omega
      have i1 : (k : Int) < 32 := by omega
      have i2 : (0 : Int) ≤ k := by omega
      have Z1 := Lib.hid z1
      have Z2 := Lib.hid z2
      clear hSs hD1 hD2 z1 z2
      go_wp2
      go_quiet (fail)
      go_wp2
      go_roundw
      case rel =>
        refine ⟨k + 1, S ++ D1 ++ D2, by omega, by go_num, rfl, ?_, ?_, HR.out, Sm.below_drewN hbk _⟩
        · rw [append_data, append_data, HS.out, HSN.out, HD1.out, HD2.out, List.append_assoc]; rfl
        · rw [append_size, append_size, HSS.out, Z1.out, Z2.out]; omega
      case measure => simp [intOf]; omega
    · obtain rfl : k = 32 := by omega
      have hd : l.take 32 = l := List.take_of_length_le (by omega)
      have hs := HS.out
      rw [hd] at hs
      have HS2 : Hid (S = ⟨(Sm.digits l).toArray⟩) := by
        show S = _
        rw [← hs]
      clear hs hd HS hSs
      go_wp2
      go_ret
      exact ⟨by rw [HS2.out]; rfl, by rw [← HN.out]; exact hbk⟩
end Go.Proofs.YtkijdpgdniaagaaDoor
