/-
  Two tags of the chapter's example, reckoned by the kernel: they differ.
-/
import Derived.Test.YtapogiihkbjppaaGreatDoorRiMath
namespace Go.Proofs.YtapogiihkbjppaaGreatDoor.Ri
theorem tags_apart : (Se.tagOf (key [109] 0) (Se.sealed (key [109] 0) 0 7 0 [97] [120]) [98] == (Se.sealed (key [109] 0) 0 7 0 [97] [120]).tag) = false := by decide +kernel
end Go.Proofs.YtapogiihkbjppaaGreatDoor.Ri
