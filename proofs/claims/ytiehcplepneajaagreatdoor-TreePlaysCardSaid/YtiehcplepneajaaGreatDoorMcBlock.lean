/-
  What mac's xored and blockOf do.
-/
import Derived.Test.YtiehcplepneajaaGreatDoorMcMem
namespace Go.Proofs.YtiehcplepneajaaGreatDoor
open Go.RowKit

namespace Sm
/-- The row of a block into which a key was copied. -/
theorem copy_row (k : List UInt8) : ((rowB 64 []).toList.take 0 ++ Lib.byteCells (k.take k.length) ++ (rowB 64 []).toList.drop (0 + k.length)).toArray = (Lib.byteCells (k ++ List.replicate (64 - k.length) 0)).toArray := by
  have e1 : (rowB 64 []).toList = Lib.byteCells (List.replicate 64 0) := by unfold rowB; rfl
  rw [e1, List.take_length, List.take_zero, List.nil_append, Nat.zero_add, Lib.byteCells_append]
  congr 2
  rw [Lib.byteCells, Lib.byteCells, List.map_replicate, List.map_replicate, List.drop_replicate]
end Sm

end Go.Proofs.YtiehcplepneajaaGreatDoor
