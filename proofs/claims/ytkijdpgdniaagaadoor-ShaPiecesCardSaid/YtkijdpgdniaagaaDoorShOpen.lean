/-
  A []string of a law, opened.
-/
import Derived.Test.YtkijdpgdniaagaaDoorShLaid
import Derived.Test.YtkijdpgdniaagaaDoorShGreat
namespace Go.Proofs.YtkijdpgdniaagaaDoor
open Go.ChangeMaps (open_string shut_string)
open Go.ChangeShapes Go.WideShapes Go.ChangeAt Go.RowKit

theorem empty_small : ByteArray.empty.size ≤ 9223372036854775807 := by decide
theorem cells_str : Tryd.prog.cellsOf 9 = 1 := by kernel_rfl
/-- The pieces, opened. -/
theorem open_pieces {H : Type} {enc : TypeId × Value → H} {W : World} {sp : Nat → Bool} {held : Bool} {b0 : Nat} {r : Reach} {v : Value} {d : DataW H} {ps : List MemPlace}
    (hval : Value.okWide Tryd.prog W r b0 34 v) (h : DataW.Trod enc Tryd.prog W 0 sp held 34 v d ps) :
    ∃ A c l, v = .slice A l.length c ∧ l.length ≤ 9223372036854775807 ∧ (∀ i, (l.getD i ByteArray.empty).size ≤ 9223372036854775807) ∧ Sm.strsAt W A l := by
  obtain ⟨A, len, cap, rfl⟩ := okWide_slice Tryd.underlying34 hval
  obtain ⟨fuel, hf⟩ := h
  rcases open_strings Tryd.underlying34 Tryd.underlying9 cells_str hf with ⟨hcs, _⟩ | ⟨a, len', cap', ss, hcs, _, hl, hm, hz, _, hcell, hws⟩
  · simp [Value.cells] at hcs
    obtain ⟨rfl, rfl, rfl⟩ := hcs
    exact ⟨none, 0, [], rfl, by decide, by intro i; rw [List.getD_nil]; exact empty_small, .inl rfl⟩
  · simp [Value.cells] at hcs
    obtain ⟨rfl, rfl, rfl⟩ := hcs
    have hml : len ≤ ss.length := by rw [hz]; split <;> omega
    unfold maxLen at hm hws
    have hlen : (ss.take len).length = len := by rw [List.length_take]; omega
    have hget : ∀ i, i < len → (ss.take len).getD i ByteArray.empty = ss.getD i ByteArray.empty := fun i hi => by
      rw [List.getD_eq_getElem?_getD, List.getD_eq_getElem?_getD, List.getElem?_take, if_pos hi]
    refine ⟨some a, cap, ss.take len, by rw [hlen], by omega, fun i => ?_, ?_⟩
    · by_cases hi : i < len
      · rw [hget i hi, List.getD_eq_getElem?_getD, List.getElem?_eq_getElem (by omega)]
        have := hws _ (List.getElem_mem (show i < ss.length by omega))
        simp only [Option.getD_some]
        omega
      · rw [List.getD_eq_getElem?_getD, List.getElem?_eq_none (by omega)]
        exact empty_small
    · by_cases h0 : len = 0
      · subst h0; exact .inl (by simp)
      · obtain ⟨b, off, spot⟩ := a
        have hc0 := hcell 0 (by omega)
        have hspot : spot = none := by simpa [Addr.add] using World.cell?_spot hc0
        subst hspot
        have hlt := World.block_lt_of_cell? W _ hc0
        refine .inr ⟨b, off, rfl, by simpa [Addr.add] using hlt, fun i hi => ?_⟩
        rw [hlen] at hi
        have := hcell i (by omega)
        rw [Addr.add_mid] at this
        rw [hget i hi]
        exact this

end Go.Proofs.YtkijdpgdniaagaaDoor
