/-
  The document's own batch: when one is right, when operations may be.
-/
import Derived.Test.YtiehcplepneajaaGreatDoorR12Ops
namespace Go.Proofs.YtiehcplepneajaaGreatDoor
open Go.RowKit Pk
namespace R12
/-- The operations of a row from the one at k on: which bars first. -/
theorem bar_drop {l : List Ba.Op} {k : Nat} (hk : k < l.length) : Ba.bar (l.drop k) = if Ba.bars l[k] = 0 then Ba.bar (l.drop (k + 1)) else Ba.bars l[k] := by
  rw [List.drop_eq_getElem_cons hk, Ba.bar]
end R12
namespace Ba
end Ba
end Go.Proofs.YtiehcplepneajaaGreatDoor
