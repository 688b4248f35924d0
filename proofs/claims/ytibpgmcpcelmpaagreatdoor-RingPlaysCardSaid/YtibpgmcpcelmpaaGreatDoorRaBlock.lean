/-
  What the document's Block answers.
-/
import Derived.Test.YtibpgmcpcelmpaaGreatDoorRaSched
import Derived.Test.YtibpgmcpcelmpaaGreatDoorRaOne
namespace Go.Proofs.YtibpgmcpcelmpaaGreatDoor
open Go.RowKit
namespace Ae
/-- The table that the document's all makes, where it lies. -/
theorem all_at {w : World} {N : Nat} {A : Option Addr} {c : Nat} (h : w.ownsRow N 5 1 (.slice A 256 c) 256 (Lib.byteCells (s8 256))) : ∃ gs, A = some ⟨gs, 0, none⟩ ∧ N ≤ gs ∧ BytesAt w gs (s8 256) := by
  rcases h.2 with ⟨_, hn⟩ | ⟨g, cap, cur, hv, hBg, _⟩
  · omega
  · simp only [Value.slice.injEq] at hv
    obtain ⟨rfl, -, rfl⟩ := hv
    refine ⟨g, rfl, hBg, fun j hj => ?_⟩
    have hc := h.cells (g := g) rfl j _ (Sm.byteCells_get hj)
    rw [Addr.add_mid, Nat.zero_add] at hc
    exact hc
theorem row_bytes {w : World} {g : Nat} {l : List UInt8} {t : TypeId} (h : w.heap[g]? = some (.cells (Lib.byteCells l).toArray t (0, 0))) : BytesAt w g l := fun j hj => Sm.row_cell h j hj
theorem infoA16 {c : Array Value} (h : c.size = 16) : (Tryz.prog.info? 168).map (·.size) = some c.size := by rw [h]; kernel_rfl
theorem zeroA16 : (Tryz.prog.info? 168).map (fun i => (i.zero, i.size)) = some (some (.agg (Sm.rowB 16 [])), 16) := by kernel_rfl
end Ae

end Go.Proofs.YtibpgmcpcelmpaaGreatDoor
