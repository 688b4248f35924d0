/-
  Small facts on worlds that a law's walk chains.
-/
import Derived.Test.YtkijdpgdniaagaaDoorShAwake
namespace Go.Proofs.YtkijdpgdniaagaaDoor
open Go.RowKit
namespace Sm
theorem grown_low {w w1 w2 : World} {B b : Nat} (k : Below B w w1) (hB : B ≤ w.heap.size) (h : w1.grownBy w2 (some b)) (hb : B ≤ b) : Below B w w2 := k.trans (grown_from h hb (Nat.le_trans hB k.size))
theorem low_low {w w1 w2 : World} {B : Nat} (k : Below B w w1) (hB : B ≤ w.heap.size) (h : Below w1.heap.size w1 w2) : Below B w w2 := k.trans (h.mono (Nat.le_trans hB k.size))
end Sm
theorem append_data (a b : ByteArray) : (a ++ b).data.toList = a.data.toList ++ b.data.toList := by
  rw [ByteArray.data_append]; simp
theorem append_size (a b : ByteArray) : (a ++ b).size = a.size + b.size := by
  simp
end Go.Proofs.YtkijdpgdniaagaaDoor
