/-
  Operations that the statements take.
-/
import Derived.Test.YtiehcplepneajaaGreatDoorBaActs
import Derived.Test.YtiehcplepneajaaGreatDoorPaMounts
namespace Go.Proofs.YtiehcplepneajaaGreatDoor
open Go.RowKit
namespace Ba
def Fair (l : List Op) : Prop := l.length ≤ 100 ∧ ∀ j (h : j < l.length), l[j].p.size ≤ 1000 ∧ l[j].v.size ≤ 1000
theorem Fair.mem {l : List Op} (h : Fair l) : ∀ o ∈ l, o.p.size ≤ 1000 ∧ o.v.size ≤ 1000 := fun o ho => by
  obtain ⟨j, hj, rfl⟩ := List.getElem_of_mem ho
  exact h.2 j hj
theorem fair_or (l : List Op) : ∃ g : Bool, g = true ↔ ¬ Fair l := by
  by_cases h : Fair l
  · exact ⟨false, by simp [h]⟩
  · exact ⟨true, by simp [h]⟩
end Ba
namespace Pa
theorem fair_or (l : List Mo) : ∃ g : Bool, g = true ↔ ¬ Fair l := by
  by_cases h : Fair l
  · exact ⟨false, by simp [h]⟩
  · exact ⟨true, by simp [h]⟩
end Pa
end Go.Proofs.YtiehcplepneajaaGreatDoor
