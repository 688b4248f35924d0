/-
  A row of texts, with an offset.
-/
import Derived.Test.YtnmagfodjcookaaGreatMem
import Derived.Test.YtnmagfodjcookaaGreatDkMay
import Derived.Test.YtnmagfodjcookaaGreatDkRefOf
namespace Go.Proofs.YtnmagfodjcookaaGreat
open Go.RowKit
namespace Kp
/-- A row of texts. -/
def StrsAt (w : World) (A : Option Addr) (l : List (List UInt8)) : Prop := ∃ g o, A = some ⟨g, o, none⟩ ∧ g < w.heap.size ∧ ∀ i, i < l.length → w.cell? ⟨g, o + i, none⟩ = some (.string ⟨(l.getD i []).toArray⟩)
theorem StrsAt.below {w w' : World} {A : Option Addr} {l : List (List UInt8)} (h : StrsAt w A l) {B : Nat} (k : Below B w w') (hB : w.heap.size ≤ B) : StrsAt w' A l := by
  obtain ⟨g, o, h1, h2, h3⟩ := h
  exact ⟨g, o, h1, Nat.lt_of_lt_of_le h2 k.size, fun i hi => (k.cell (p := ⟨g, o + i, none⟩) (by show g < B; omega)).trans (h3 i hi)⟩
theorem StrsAt.low {w w' : World} {A : Option Addr} {l : List (List UInt8)} (h : StrsAt w A l) (k : Below w.heap.size w w') : StrsAt w' A l := h.below k (Nat.le_refl _)
theorem StrsAt.of_own {w : World} {B : Nat} {v : Value} {l : List (List UInt8)} (h : w.ownsRow B 9 1 v l.length (l.map Dk.txt)) (h0 : l ≠ []) : ∃ A c, v = .slice A l.length c ∧ l.length ≤ c ∧ StrsAt w A l ∧ ∀ q, v.ownBlock = some q → B ≤ q := by
  have hl : 0 < l.length := List.length_pos_iff.2 h0
  rcases h.2 with ⟨_, e⟩ | ⟨b, c, cur, rfl, hb, h1, h2, h3, h4, h5⟩
  · omega
  · refine ⟨some ⟨b, 0, none⟩, c, rfl, h2, ⟨b, 0, rfl, Sm.lt_of h1, fun i hi => ?_⟩, fun q hq => by simp only [Value.ownBlock, Option.some.injEq] at hq; omega⟩
    have e : cur.toList[i]? = (l.map Dk.txt)[i]? := by rw [← h5, List.getElem?_take, if_pos (by omega)]
    rw [Nat.zero_add]
    simp only [World.cell?, h1]
    rw [← Array.getElem?_toList, e, List.getElem?_map, List.getElem?_eq_getElem hi, List.getD_eq_getElem?_getD, List.getElem?_eq_getElem hi]
    rfl
end Kp
end Go.Proofs.YtnmagfodjcookaaGreat
