/-
  Mounts: what one is, where a slice of them lies, an argument opened; what the statements' helper calls great.
-/
import Derived.Test.YtiehcplepneajaaGreatDoorPaPath
import Derived.ProofKit
import Derived.Deep.Slices
import Derived.Deep.Fields
namespace Go.Proofs.YtiehcplepneajaaGreatDoor
open Go.ChangeMaps (open_string shut_string)
open Go.ChangeShapes Go.WideShapes Go.ChangeAt Go.RowKit Go.Deep
namespace Pa
/-- A mount. -/
structure Mo where
  n : ByteArray
  s : Bool
def Mo.cells (m : Mo) : List Value := [.string m.n, .bool m.s]
def Mo.Ok (m : Mo) : Prop := m.n.size ≤ 9223372036854775807
def moAt (w : World) (b o : Nat) (m : Mo) : Prop := w.cell? ⟨b, o, none⟩ = some (.string m.n) ∧ w.cell? ⟨b, o + 1, none⟩ = some (.bool m.s)
def mosAt (w : World) (b off : Nat) (l : List Mo) : Prop := ∀ k (hk : k < l.length), moAt w b (off + k * 2) l[k]
def listAt (w : World) (A : Option Addr) (l : List Mo) : Prop := l = [] ∨ ∃ b off, A = some ⟨b, off, none⟩ ∧ b < w.heap.size ∧ mosAt w b off l
theorem moAt.below {w w' : World} {b o B : Nat} {x : Mo} (h : moAt w b o x) (k : Below B w w') (hb : b < B) : moAt w' b o x := by
  have e : ∀ i, w'.cell? ⟨b, i, none⟩ = w.cell? ⟨b, i, none⟩ := fun i => k.cell (p := ⟨b, i, none⟩) hb
  unfold moAt
  simp only [e]
  exact h
theorem mosAt.below {w w' : World} {b off B : Nat} {l : List Mo} (h : mosAt w b off l) (k : Below B w w') (hb : b < B) : mosAt w' b off l := fun j hj => (h j hj).below k hb
theorem listAt.below {w w' : World} {A : Option Addr} {l : List Mo} (h : listAt w A l) (k : Below w.heap.size w w') : listAt w' A l := by
  rcases h with h | ⟨b, off, h1, h2, h3⟩
  · exact .inl h
  · exact .inr ⟨b, off, h1, Nat.lt_of_lt_of_le h2 k.size, h3.below k h2⟩
theorem list_of11 {P : Nat → Mo → Prop} (n : Nat) (h : ∀ i, i < n → ∃ a, P i a) : ∃ l : List Mo, l.length = n ∧ ∀ i (hi : i < l.length), P i l[i] := by
  induction n with
  | zero => exact ⟨[], rfl, fun i hi => by simp at hi⟩
  | succ n ih =>
    obtain ⟨l, hl, hp⟩ := ih fun i hi => h i (by omega)
    obtain ⟨a, ha⟩ := h n (by omega)
    refine ⟨l ++ [a], by simp [hl], fun i hi => ?_⟩
    by_cases hin : i < l.length
    · rw [List.getElem_append_left hin]; exact hp i hin
    · have hie : i = l.length := by simp at hi; omega
      subst hie
      rw [List.getElem_append_right (by omega)]
      simp [hl, ha]
/-- Mounts that the statements take. -/
def Fair (l : List Mo) : Prop := l.length ≤ 100 ∧ ∀ j (h : j < l.length), l[j].n.size ≤ 1000
end Pa
end Go.Proofs.YtiehcplepneajaaGreatDoor
