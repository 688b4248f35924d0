/-
  What awake, Len, Twin do.
-/
import Derived.Test.YtkijdpgdniaagaaDoorShDig2
import Derived.ChangeKeysEq
namespace Go.Proofs.YtkijdpgdniaagaaDoor
open Go.RowKit
namespace Sm
theorem sum_abc : digits (sum [97, 98, 99]) = [98, 97, 55, 56, 49, 54, 98, 102, 56, 102, 48, 49, 99, 102, 101, 97, 52, 49, 52, 49, 52, 48, 100, 101, 53, 100, 97, 101, 50, 50, 50, 51, 98, 48, 48, 51, 54, 49, 97, 51, 57, 54, 49, 55, 55, 97, 57, 99, 98, 52, 49, 48, 102, 102, 54, 49, 102, 50, 48, 48, 49, 53, 97, 100] := by decide +kernel
theorem part_byte (l : List UInt8) (i : Nat) (hi : i < l.length) (w : World) : (part 5 (Lib.byteCells l).toArray i).run Tryd.prog w = .ok (.int .u8 (l.getD i 0).toNat) w := by
  have ha : (isAgg 5).run Tryd.prog w = .ok false w := by kernel_rfl
  have hc : (Lib.byteCells l)[i]? = some (.int .u8 (l.getD i 0).toNat) := byteCells_get hi
  simp [part, ha, hc]
theorem eqItems_bytes (d : Nat) (l l' : List UInt8) (w : World) : ∀ is : List Nat, (∀ i ∈ is, i < l.length ∧ i < l'.length) →
    (Op.eqItems (d + 1) 5 1 (Lib.byteCells l).toArray (Lib.byteCells l').toArray is).run Tryd.prog w = .ok (is.all fun i => l.getD i 0 == l'.getD i 0) w
  | [], _ => by simp [Op.eqItems]
  | i :: is, h => by
    have h0 := h i (by simp)
    have ih := eqItems_bytes d l l' w is (fun j hj => h j (by simp [hj]))
    have e : ((((l.getD i 0).toNat : Nat) : Int) == ((l'.getD i 0).toNat : Nat)) = (l.getD i 0 == l'.getD i 0) := by
      rw [Bool.eq_iff_iff, beq_iff_eq, beq_iff_eq]
      exact ⟨fun h => UInt8.toNat_inj.1 (by omega), fun h => by rw [h]⟩
    simp only [Op.eqItems, Sem.run_bind, Nat.mul_one, part_byte l i h0.1, part_byte l' i h0.2, Result.andThen_ok, run_equalIn_int w d 5 .u8 .u8 _ _ Tryd.underlying5, e]
    cases hb : l.getD i 0 == l'.getD i 0
    · simp only [Bool.not_false, if_true, Sem.run_pure, List.all_cons, hb, Bool.false_and]
    · simp only [Bool.not_true, Bool.false_eq_true, if_false, List.all_cons, hb, Bool.true_and]
      exact ih
theorem all_eq (l l' : List UInt8) (h : l.length = 32) (h' : l'.length = 32) : ((List.range 32).all fun i => l.getD i 0 == l'.getD i 0) = (l == l') := by
  rw [Bool.eq_iff_iff, List.all_eq_true, beq_iff_eq]
  constructor
  · intro hi
    apply List.ext_getElem (by omega)
    intro i h1 h2
    have := hi i (List.mem_range.2 (by omega))
    rw [beq_iff_eq] at this
    simpa [List.getD_eq_getElem?_getD, h1, h2] using this
  · rintro rfl i _
    simp
/-- Two hashes, compared. -/
theorem eq_hash (l l' : List UInt8) (h : l.length = 32) (h' : l'.length = 32) (w : World) :
    (Op.equalIn 10000 24 (.agg (Lib.byteCells l).toArray) (.agg (Lib.byteCells l').toArray)).run Tryd.prog w = .ok (l == l') w := by
  have hc : Tryd.prog.cellsOf 5 = 1 := by kernel_rfl
  obtain ⟨i0, hi, _, _, _⟩ := info_parts info3_u8
  have e := run_equalIn_array (P := Tryd.prog) (w := w) 9999 (Lib.byteCells l).toArray (Lib.byteCells l').toArray Tryd.underlying24 hi
  rw [e, hc, eqItems_bytes 9998 l l' w (List.range 32) (fun i hi => by have := List.mem_range.1 hi; omega), all_eq l l' h h']
end Sm
theorem ret_str {a b : ByteArray} (h : a = b) : Ending.returned (.string a) = .returned (.string b) := by rw [h]

set_option maxHeartbeats 1000000 in
theorem awake_any {w : World} (hH : Sm.HAt w) (hK : Sm.KAt w) (hsz : 1 < w.heap.size) :
    Calls Tryd.prog 14 #[] w fun e w' => e = .returned (.bool true) ∧ Below w.heap.size w w' := by
  have hS := sum_any ⟨#[97, 98, 99]⟩ hH hK hsz (by decide)
  have hD := fun w' => digits_any (Sm.sum [97, 98, 99]) (Sm.sum_length _) w'
  rw [Sm.sum_abc] at hD
  have HS := Lib.hid hS
  have HD := Lib.hid hD
  clear hS hD hH hK
  go_enter Tryd.func14, Tryd.ntmps14
  go_wp2_with fail
  refine (HS.out).mono ?_
  rintro e w1 ⟨rfl, hb1⟩
  have hs1 := hb1.size
  go_wp2_with fail
  refine (HD.out _).mono ?_
  rintro e w2 ⟨rfl, hb2⟩
  go_wp2
  go_ret
  exact ⟨rfl, hb1.trans (hb2.mono hs1)⟩

theorem len_any {w : World} {b : Nat} {t : List UInt8} (his : Sm.Is w b t) : Calls Tryd.prog 24 #[.pointer (some ⟨b, 0, none⟩)] w fun e w' => e = .returned (.int .i64 t.length) ∧ w = w' := by
  obtain ⟨wt, h1, h2, h3⟩ := his
  have c := h3.len h1
  clear h2 h3
  go_enter Tryd.func24, Tryd.ntmps24
  go_wp2
  go_ret
  exact ⟨rfl, rfl⟩
theorem len_nil (w : World) : Calls Tryd.prog 24 #[.pointer none] w fun e w' => e = .returned (.int .i64 0) ∧ w = w' := by
  go_enter Tryd.func24, Tryd.ntmps24
  go_wp2
  go_ret
  exact ⟨rfl, rfl⟩
end Go.Proofs.YtkijdpgdniaagaaDoor
