/-
  What the statements' helper bare does.
-/
import Derived.Test.YtapogiihkbjppaaDoorRead
namespace Go.Proofs.YtapogiihkbjppaaDoor
open Go.RowKit Pk

/-- What of an item counts. -/
def bareI (a : It) : It :=
  if a.d = 0 then ⟨0, a.n, 0, ⟨#[]⟩, 0, 0⟩
  else if a.d = 1 then ⟨0, 0, a.i, ⟨#[]⟩, 0, 0⟩
  else if a.d = 2 then ⟨0, 0, 0, a.s, 0, 0⟩
  else if a.d = 3 then ⟨0, 0, 0, ⟨#[]⟩, a.b, 0⟩
  else ⟨0, 0, 0, ⟨#[]⟩, 0, 0⟩

end Go.Proofs.YtapogiihkbjppaaDoor
