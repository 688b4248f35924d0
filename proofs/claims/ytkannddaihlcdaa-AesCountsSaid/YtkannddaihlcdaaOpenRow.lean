/-
  An argument of n bytes by value, opened.
-/
import Derived.Test.YtkannddaihlcdaaMem
import Derived.ProofKit
import Derived.OpenShut
namespace Go.Proofs.Ytkannddaihlcdaa
open Go.ChangeShapes Go.WideShapes Go.ChangeAt Go.RowKit
namespace Sm
theorem open_row {H : Type} {enc : TypeId × Value → H} {W : World} {sp : Nat → Bool} {held : Bool} {b0 : Nat} {r : Reach} {t : TypeId} {v : Value} {d : DataW H} {ps : List MemPlace} (n : Nat)
    (ht : Try.prog.underlying t = some (.array n 5)) (hc1 : Try.prog.cellsOf 5 = 1) (hc : Try.prog.cellsOf t = n) (hval : Value.okWide Try.prog W r b0 t v) (h : DataW.Trod enc Try.prog W 0 sp held t v d ps) :
    ∃ l : List UInt8, l.length = n ∧ v = .agg (Lib.byteCells l).toArray := by
  have hv : ∃ cs : Array Value, v = .agg cs ∧ cs.size = n := by
    unfold Value.okWide at hval
    rw [ht] at hval
    obtain ⟨cs, h1, h2, _⟩ := hval
    exact ⟨cs, h1, by rw [h2, hc]⟩
  obtain ⟨cs, rfl, hcs⟩ := hv
  obtain ⟨fuel, hf⟩ := h
  obtain ⟨xs, m, _, _, _, hxl, hx⟩ := DataW.trod_array ht hf
  refine ⟨cs.toList.map byteOf, by simp [hcs], ?_⟩
  congr 1
  apply Array.ext'
  rw [List.toList_toArray, Lib.byteCells, List.map_map]
  apply List.ext_getElem (by simp)
  intro i h1 h2
  have hi : i < n := by rw [← hcs]; simpa using h1
  have h3 := hx i hi
  rw [hc1, Nat.mul_one, List.getElem?_eq_getElem (by omega)] at h3
  have e : (cs.toList.drop i).take 1 = [cs.toList[i]] := by
    rw [List.drop_eq_getElem_cons h1]; rfl
  have h3b : DataW.trod enc Try.prog W 0 sp held m 5 ((cs.toList.drop i).take 1) = some xs[i] := h3
  rw [e] at h3b
  obtain ⟨k, hk, _, hw⟩ := DataW.trod_int Try.underlying5 h3b
  have hk1 : cs.toList[i] = .int .u8 k := by simpa using hk
  rw [List.getElem_map, Function.comp, hk1]
  exact byteOf_back hw
end Sm
end Go.Proofs.Ytkannddaihlcdaa
