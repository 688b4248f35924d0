/-
  RingCounts: what one ring wraps bears its boot, and the numbers 0, 1, 2 and so on.
-/
import Derived.Test.YtibpgmcpcelmpaaGreatDoorRiActs
import Derived.Test.YtibpgmcpcelmpaaGreatDoorRiAwake
import Derived.Test.YtibpgmcpcelmpaaGreatDoorSeRead
namespace Go.Proofs.YtibpgmcpcelmpaaGreatDoor
open Go.RowKit
namespace Ri
theorem listAt.get {w w' : World} {A : Option Addr} {l : List Ac} (h : listAt w A l) (k : Below w.heap.size w w') (j : Nat) (hj : j < l.length) : ∃ b off, A = some ⟨b, off, none⟩ ∧ b < w.heap.size ∧ actAt w' b (off + j * 5) l[j] := by
  rcases h with rfl | ⟨b, off, rfl, hb, hi⟩
  · simp at hj
  · exact ⟨b, off, rfl, hb, (hi j hj).below k hb⟩
theorem below_drewN {w w' : World} {N : Nat} (h : Below N w w') (k : Nat) : Below N w (w'.drewN k) := ⟨h.os, h.tape, h.output, h.size, h.block⟩
theorem listAt.below {w w' : World} {A : Option Addr} {l : List Ac} (h : listAt w A l) (k : Below w.heap.size w w') : listAt w' A l := by
  rcases h with rfl | ⟨b, off, rfl, hb, hi⟩
  · exact .inl rfl
  · exact .inr ⟨b, off, rfl, Nat.lt_of_lt_of_le hb k.size, hi.below k hb⟩
end Ri

end Go.Proofs.YtibpgmcpcelmpaaGreatDoor
