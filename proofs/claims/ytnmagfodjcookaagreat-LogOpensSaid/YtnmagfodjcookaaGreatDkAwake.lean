/-
  A sector of one byte; the wake that each statement on disks asks is met.
-/
import Derived.Test.YtnmagfodjcookaaGreatDkTwo
import Derived.Test.YtnmagfodjcookaaGreatShelf
import Derived.Lib.Repeat
namespace Go.Proofs.YtnmagfodjcookaaGreat
open Go.RowKit
namespace Dk
def full (b : UInt8) : List UInt8 := List.replicate 64 b
theorem repeat_full (b : UInt8) : Lib.repeatL [b] 64 = full b := by
  simp [Lib.repeatL, full]
theorem wake1 : (write (new 2) 0 (full 1)).2 = 0 := by decide +kernel
theorem wake2 : (sync (write (new 2) 0 (full 1)).1).2 = 0 := by decide +kernel
theorem wake3 : readOf (crash (sync (write (new 2) 0 (full 1)).1).1 []) 0 = (full 1, 0) := by decide +kernel
theorem wake4 : readOf (crash (write (new 2) 0 (full 1)).1 []) 0 = (full 0, 0) := by decide +kernel
end Dk
end Go.Proofs.YtnmagfodjcookaaGreat
