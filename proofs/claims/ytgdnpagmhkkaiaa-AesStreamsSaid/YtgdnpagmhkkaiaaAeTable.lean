/-
  The standard's example, reckoned.
-/
import Derived.Test.YtgdnpagmhkkaiaaMAes
namespace Go.Proofs.Ytgdnpagmhkkaiaa.Ae
def exKey : List UInt8 := (List.range 32).map UInt8.ofNat
def exBlk : List UInt8 := (List.range 16).map fun i => UInt8.ofNat (17 * i)
theorem ex_block : block exKey exBlk = [142, 162, 183, 202, 81, 103, 69, 191, 234, 252, 73, 144, 75, 73, 96, 137] := by decide +kernel
theorem noughts_block : block (List.replicate 32 0) (List.replicate 16 0) = [220, 149, 192, 120, 162, 64, 137, 137, 173, 72, 162, 20, 146, 132, 32, 135] := by decide +kernel
end Go.Proofs.Ytgdnpagmhkkaiaa.Ae
