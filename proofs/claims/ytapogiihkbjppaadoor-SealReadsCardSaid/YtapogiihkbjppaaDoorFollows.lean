/-
  PackFollows answers true for every two lists of items, and turns nothing of what was there.
-/
import Derived.Test.YtapogiihkbjppaaDoorBack
import Derived.Test.YtapogiihkbjppaaDoorOpen
import Derived.Deep.RegionHeld3
namespace Go.Proofs.YtapogiihkbjppaaDoor
open Go.RowKit Pk

theorem itemAt.stp {w w' : World} {b o br : Nat} {a : It} {r : Rd} (h : itemAt w b o a) (k : Stp w w' br r) (hne : b ≠ br) : itemAt w' b o a := by
  have e : ∀ x v, w.cell? ⟨b, x, none⟩ = some v → w'.cell? ⟨b, x, none⟩ = some v := fun x v hx => k.grown.cell (a := ⟨b, x, none⟩) hx (fun e => hne (Option.some.inj e))
  obtain ⟨c0, c1, c2, c3, c4, c5⟩ := h
  exact ⟨e _ _ c0, e _ _ c1, e _ _ c2, e _ _ c3, e _ _ c4, e _ _ c5⟩
theorem itemAt.low {w w' : World} {b o : Nat} {a : It} (h : itemAt w b o a) (k : Below w.heap.size w w') : itemAt w' b o a :=
  h.below k (World.block_lt_of_cell? w _ h.1)

/-- Items that lie in memory, of a list that was made behind block number B. -/
def newAt (w : World) (B : Nat) (A : Option Addr) (l : List It) : Prop := l = [] ∨ ∃ b off, A = some ⟨b, off, none⟩ ∧ B ≤ b ∧ b < w.heap.size ∧ itemsAt w b off l
theorem newAt.list {w : World} {B : Nat} {A : Option Addr} {l : List It} (h : newAt w B A l) : listAt w A l := by
  rcases h with h | ⟨b, off, h1, _, h2, h3⟩
  · exact .inl h
  · exact .inr ⟨b, off, h1, h2, h3⟩
theorem listAt.low {w w' : World} {A : Option Addr} {l : List It} (h : listAt w A l) (k : Below w.heap.size w w') : listAt w' A l := by
  rcases h with h | ⟨b, off, h1, h2, h3⟩
  · exact .inl h
  · exact .inr ⟨b, off, h1, Nat.lt_of_lt_of_le h2 k.size, h3.below k h2⟩
theorem listAt.drewN {w : World} {A : Option Addr} {l : List It} (h : listAt w A l) (n : Nat) : listAt (w.drewN n) A l := h
theorem listAt.lt {w : World} {A : Option Addr} {l : List It} (h : listAt w A l) : l = [] ∨ ∃ b off, A = some ⟨b, off, none⟩ ∧ b < w.heap.size ∧ itemsAt w b off l := h
theorem listAt.from {w w' : World} {A : Option Addr} {l : List It} {B : Nat} (h : listAt w A l) (hB : w.heap.size ≤ B) (k : Below B w w') : listAt w' A l := h.low (k.mono hB)

end Go.Proofs.YtapogiihkbjppaaDoor
