/-
  An argument of 32 bytes by value, opened.
-/
import Derived.Test.YtiehcplepneajaaGreatDoorShLaid
namespace Go.Proofs.YtiehcplepneajaaGreatDoor
open Go.ChangeShapes Go.WideShapes Go.ChangeAt Go.RowKit
namespace Sm
set_option maxRecDepth 100000 in
theorem open_hash {H : Type} {enc : TypeId × Value → H} {W : World} {sp : Nat → Bool} {held : Bool} {b0 : Nat} {r : Reach} {t : TypeId} {v : Value} {d : DataW H} {ps : List MemPlace}
    (ht : Tryz.prog.underlying t = some (.array 32 5)) (hc1 : Tryz.prog.cellsOf 5 = 1) (hc : Tryz.prog.cellsOf t = 32) (hval : Value.okWide Tryz.prog W r b0 t v) (h : DataW.Trod enc Tryz.prog W 0 sp held t v d ps) :
    ∃ l : List UInt8, l.length = 32 ∧ v = .agg (Lib.byteCells l).toArray := by
  have hv : ∃ cs : Array Value, v = .agg cs ∧ cs.size = 32 := by
    unfold Value.okWide at hval
    rw [ht] at hval
    obtain ⟨cs, h1, h2, _⟩ := hval
    exact ⟨cs, h1, by rw [h2, hc]⟩
  obtain ⟨cs, rfl, hcs⟩ := hv
  obtain ⟨fuel, hf⟩ := h
  obtain ⟨xs, m, _, _, _, hxl, hx⟩ := DataW.trod_array ht hf
  refine ⟨cs.toList.map byteOf, by simp [hcs], ?_⟩
  refine congrArg Value.agg ?_
  apply Array.ext'
  rw [List.toList_toArray, Lib.byteCells, List.map_map]
  apply List.ext_getElem (by simp)
  intro i h1 h2
  have hi : i < 32 := by rw [← hcs]; simpa using h1
  have h3 := hx i hi
  rw [hc1, Nat.mul_one, List.getElem?_eq_getElem (by omega)] at h3
  have e : (cs.toList.drop i).take 1 = [cs.toList[i]] := by
    rw [List.drop_eq_getElem_cons h1]; rfl
  have h3b : DataW.trod enc Tryz.prog W 0 sp held m 5 ((cs.toList.drop i).take 1) = some xs[i] := h3
  rw [e] at h3b
  obtain ⟨n, hn, _, hw⟩ := DataW.trod_int Tryz.underlying5 h3b
  have hn1 : cs.toList[i] = .int .u8 n := by simpa using hn
  rw [List.getElem_map, Function.comp, hn1]
  exact byteOf_back hw
end Sm
end Go.Proofs.YtiehcplepneajaaGreatDoor
