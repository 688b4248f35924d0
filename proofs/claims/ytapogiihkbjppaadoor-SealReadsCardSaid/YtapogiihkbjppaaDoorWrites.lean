/-
  What the statements' helpers do: Great, bytes.
-/
import Derived.Test.YtapogiihkbjppaaDoorWr
namespace Go.Proofs.YtapogiihkbjppaaDoor
open Go.RowKit Pk

/-- Items lie where a slice says. -/
def listAt (w : World) (A : Option Addr) (l : List It) : Prop := l = [] ∨ ∃ b off, A = some ⟨b, off, none⟩ ∧ b < w.heap.size ∧ itemsAt w b off l

end Go.Proofs.YtapogiihkbjppaaDoor
