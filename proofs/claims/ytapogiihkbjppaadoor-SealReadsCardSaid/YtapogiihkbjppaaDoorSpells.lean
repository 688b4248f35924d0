/-
  PackSpells answers true for every list of items, and turns nothing of what was there.
-/
import Derived.Test.YtapogiihkbjppaaDoorRef
namespace Go.Proofs.YtapogiihkbjppaaDoor
open Go.RowKit Pk

theorem itemAt.single {w : World} {b o : Nat} {a : It} (h : itemAt w b o a) : itemsAt w b o [a] := by
  intro j hj
  have hj0 : j = 0 := by simpa using hj
  subst hj0
  simpa using h

end Go.Proofs.YtapogiihkbjppaaDoor
