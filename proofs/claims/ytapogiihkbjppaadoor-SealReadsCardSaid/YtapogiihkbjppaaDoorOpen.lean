/-
  An argument that is a slice of items, opened: where its items lie, and that each field is in its range.
-/
import Derived.Test.YtapogiihkbjppaaDoorSpells
import Derived.ProofKit
import Derived.Deep.Slices
import Derived.Deep.Fields
namespace Go.Proofs.YtapogiihkbjppaaDoor
open Go.ChangeMaps (open_string shut_string)
open Go.ChangeShapes Go.WideShapes Go.ChangeAt Go.RowKit Go.Deep Pk

/-- Each field in its range, the text of any length. -/
structure Rng (a : It) : Prop where
  d : a.d < 256
  n : a.n < 2 ^ 64
  i : -9223372036854775808 ≤ a.i ∧ a.i ≤ 9223372036854775807
  s : a.s.size ≤ 9223372036854775807
  b : a.b < 256
  m : -9223372036854775808 ≤ a.m ∧ a.m ≤ 9223372036854775807

theorem mem_total {l : List It} {a : It} (h : a ∈ l) : a.s.size ≤ total l := by
  induction l with
  | nil => simp at h
  | cons b l ih =>
    rw [total_cons]
    rcases List.mem_cons.1 h with rfl | h
    · omega
    · have := ih h; omega
theorem ok_of {l : List It} (h : ∀ a ∈ l, Rng a) (ht : total l ≤ 30000) : ∀ a ∈ l, a.Ok := fun a ha =>
  ⟨(h a ha).d, (h a ha).n, (h a ha).i, by have := mem_total ha; omega, (h a ha).b, (h a ha).m⟩

theorem list_of {P : Nat → It → Prop} (n : Nat) (h : ∀ i, i < n → ∃ a, P i a) : ∃ l : List It, l.length = n ∧ ∀ i (hi : i < l.length), P i l[i] := by
  induction n with
  | zero => exact ⟨[], rfl, fun i hi => by simp at hi⟩
  | succ n ih =>
    obtain ⟨l, hl, hp⟩ := ih fun i hi => h i (by omega)
    obtain ⟨a, ha⟩ := h n (by omega)
    refine ⟨l ++ [a], by simp [hl], fun i hi => ?_⟩
    by_cases hin : i < l.length
    · rw [List.getElem_append_left hin]; exact hp i hin
    · have hie : i = l.length := by simp at hi; omega
      subst hie
      rw [List.getElem_append_right (by omega)]
      simp [hl, ha]

theorem field_at {fs : Array Field} (hfs : (fs.map fun f => f.type) = #[5, 25, 2, 9, 5, 3]) (j : Nat) (t : TypeId) (h : #[5, 25, 2, 9, 5, 3][j]? = some t) :
    ∃ f, fs[j]? = some f ∧ f.type = t := by
  rw [← hfs, Array.getElem?_map] at h
  cases hf : fs[j]? with
  | none => rw [hf] at h; simp at h
  | some f => rw [hf] at h; exact ⟨f, rfl, by simpa using h⟩

end Go.Proofs.YtapogiihkbjppaaDoor
