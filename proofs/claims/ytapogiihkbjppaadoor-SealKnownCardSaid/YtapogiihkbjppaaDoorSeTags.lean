/-
  Three tags of the chapter's example, reckoned by the kernel: about another thing, or with another number, it is another.
-/
import Derived.Test.YtapogiihkbjppaaDoorSeAwake
namespace Go.Proofs.YtapogiihkbjppaaDoor.Se
/-- The example's key. -/
def nine : List UInt8 := [9, 0, 0, 0, 0, 0, 0, 0, 0, 0, 0, 0, 0, 0, 0, 0, 0, 0, 0, 0, 0, 0, 0, 0, 0, 0, 0, 0, 0, 0, 0, 0]
def helloL : List UInt8 := [104, 101, 108, 108, 111]
theorem tags_b : (tagOf nine (sealed nine 1 2 3 [97] helloL) [98] == (sealed nine 1 2 3 [97] helloL).tag) = false := by decide +kernel
theorem tags_n : (tagOf nine { sealed nine 1 2 3 [97] helloL with n := 4 } [97] == (sealed nine 1 2 3 [97] helloL).tag) = false := by decide +kernel
end Go.Proofs.YtapogiihkbjppaaDoor.Se
