/-
  Two rows of bytes, compared.
-/
import Derived.Test.YtkannddaihlcdaaMem
import Derived.ChangeKeysEq
namespace Go.Proofs.Ytkannddaihlcdaa
open Go.RowKit
namespace Sm
theorem part_byte (l : List UInt8) (i : Nat) (hi : i < l.length) (w : World) : (part 5 (Lib.byteCells l).toArray i).run Try.prog w = .ok (.int .u8 (l.getD i 0).toNat) w := by
  have ha : (isAgg 5).run Try.prog w = .ok false w := by kernel_rfl
  have hc : (Lib.byteCells l)[i]? = some (.int .u8 (l.getD i 0).toNat) := byteCells_get hi
  simp [part, ha, hc]
theorem eqItems_bytes (d : Nat) (l l' : List UInt8) (w : World) : ∀ is : List Nat, (∀ i ∈ is, i < l.length ∧ i < l'.length) →
    (Op.eqItems (d + 1) 5 1 (Lib.byteCells l).toArray (Lib.byteCells l').toArray is).run Try.prog w = .ok (is.all fun i => l.getD i 0 == l'.getD i 0) w
  | [], _ => by simp [Op.eqItems]
  | i :: is, h => by
    have h0 := h i (by simp)
    have ih := eqItems_bytes d l l' w is (fun j hj => h j (by simp [hj]))
    have e : ((((l.getD i 0).toNat : Nat) : Int) == ((l'.getD i 0).toNat : Nat)) = (l.getD i 0 == l'.getD i 0) := by
      rw [Bool.eq_iff_iff, beq_iff_eq, beq_iff_eq]
      exact ⟨fun h => UInt8.toNat_inj.1 (by omega), fun h => by rw [h]⟩
    simp only [Op.eqItems, Sem.run_bind, Nat.mul_one, part_byte l i h0.1, part_byte l' i h0.2, Result.andThen_ok, run_equalIn_int w d 5 .u8 .u8 _ _ Try.underlying5, e]
    cases hb : l.getD i 0 == l'.getD i 0
    · simp only [Bool.not_false, if_true, Sem.run_pure, List.all_cons, hb, Bool.false_and]
    · simp only [Bool.not_true, Bool.false_eq_true, if_false, List.all_cons, hb, Bool.true_and]
      exact ih
theorem all_eq (n : Nat) (l l' : List UInt8) (h : l.length = n) (h' : l'.length = n) : ((List.range n).all fun i => l.getD i 0 == l'.getD i 0) = (l == l') := by
  rw [Bool.eq_iff_iff, List.all_eq_true, beq_iff_eq]
  constructor
  · intro hi
    apply List.ext_getElem (by omega)
    intro i h1 h2
    have := hi i (List.mem_range.2 (by omega))
    rw [beq_iff_eq] at this
    simpa [List.getD_eq_getElem?_getD, h1, h2] using this
  · rintro rfl i _
    simp
/-- Two rows of n bytes, compared. -/
theorem eq_row (n : Nat) {t : TypeId} (ht : Try.prog.underlying t = some (.array n 5)) (l l' : List UInt8) (h : l.length = n) (h' : l'.length = n) (w : World) :
    (Op.equalIn 10000 t (.agg (Lib.byteCells l).toArray) (.agg (Lib.byteCells l').toArray)).run Try.prog w = .ok (l == l') w := by
  have hc : Try.prog.cellsOf 5 = 1 := by kernel_rfl
  obtain ⟨i0, hi, _, _, _⟩ := info_parts info3_u8
  have e := run_equalIn_array (P := Try.prog) (w := w) 9999 (Lib.byteCells l).toArray (Lib.byteCells l').toArray ht hi
  rw [e, hc, eqItems_bytes 9998 l l' w (List.range n) (fun i hi => by have := List.mem_range.1 hi; omega), all_eq n l l' h h']
end Sm
end Go.Proofs.Ytkannddaihlcdaa
