/-
  path's Right.
-/
import Derived.Test.YtehkbffbehlpnaaPaOf
namespace Go.Proofs.Ytehkbffbehlpnaa
open Go.RowKit
namespace Pa
/-- The first i of the mounts are right. -/
def RightTo (l : List Mo) (i : Nat) : Prop := ∀ j (h : j < l.length), j < i → named l[j].n.data.toList = true ∧ ∀ k (hk : k < l.length), k < j → same l[k].n l[j].n = false
/-- Mounts are right. -/
def Rightly (l : List Mo) : Prop := (1 ≤ l.length ∧ l.length ≤ 4) ∧ RightTo l l.length
theorem RightTo.next {l : List Mo} {i : Nat} (h : RightTo l i) (hi : i < l.length) (hn : named l[i].n.data.toList = true) (hs : ∀ k (hk : k < l.length), k < i → same l[k].n l[i].n = false) : RightTo l (i + 1) := fun j hj hji => by
  by_cases e : j = i
  · subst e; exact ⟨hn, hs⟩
  · exact h j hj (by omega)
/-- The name of the i-th is none of those ahead: there is none of it among them. -/
theorem pos_take {l : List Mo} {i : Nat} (hi : i < l.length) : (pos l[i].n (l.take i) = -1 ∧ ∀ k (hk : k < l.length), k < i → same l[k].n l[i].n = false) ∨ (∃ n : Nat, pos l[i].n (l.take i) = n ∧ n < i ∧ ∃ k, ∃ hk : k < l.length, k < i ∧ same l[k].n l[i].n = true) := by
  have hlen : (l.take i).length = i := by rw [List.length_take]; omega
  rcases pos_cases l[i].n (l.take i) with ⟨h1, -, h2⟩ | ⟨n, hn, h1, -, h2, -⟩
  · refine .inl ⟨h1, fun k hk hki => ?_⟩
    have := h2 k (by omega)
    rwa [List.getElem_take] at this
  · refine .inr ⟨n, h1, by omega, n, by omega, by omega, ?_⟩
    rwa [List.getElem_take] at h2
theorem mosAt.take {w : World} {b off : Nat} {l : List Mo} (h : mosAt w b off l) (i : Nat) : mosAt w b off (l.take i) := fun k hk => by
  have := h k (by rw [List.length_take] at hk; omega)
  rwa [← List.getElem_take] at this
end Pa
theorem not_rightly {g : Bool} (hg : g = true ↔ Pa.Rightly []) : g = false := by
  cases hgc : g
  · rfl
  · have := (hg.1 hgc).1.1; simp at this
end Go.Proofs.Ytehkbffbehlpnaa
