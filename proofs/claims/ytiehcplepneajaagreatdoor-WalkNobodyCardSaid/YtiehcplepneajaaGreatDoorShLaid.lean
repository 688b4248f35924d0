/-
  What the listed variables give the walks: the numbers h and k, cell by cell.
-/
import Derived.Test.YtiehcplepneajaaGreatDoorMSha
import Derived.Test.YtiehcplepneajaaGreatDoorRows
import Derived.ProofKit
import Derived.LaidMore
import Derived.OpenShut
import Derived.Stop.Joined
import Derived.Stop.LaidErr
import Derived.Lib.LaidTab
namespace Go.Proofs.YtiehcplepneajaaGreatDoor
open Go.ChangeShapes Go.WideShapes Go.ChangeAt Go.RowKit

theorem Tryz.own : ownKnob Tryz.prog.godebug = none := by kernel_rfl
theorem Tryz.laidOut : laidOutB Tryz.prog = true := by kernel_rfl
theorem gH : Tryz.prog.globalNamed "twinlock/sha.numbersH" = some 0 := by kernel_rfl
theorem gK : Tryz.prog.globalNamed "twinlock/sha.numbersK" = some 1 := by kernel_rfl
theorem tH : (Tryz.prog.globals[0]?).map (·.type) = some 193 := by kernel_rfl
theorem tK : (Tryz.prog.globals[1]?).map (·.type) = some 172 := by kernel_rfl
theorem c32 : Tryz.prog.cellsOf 171 = 1 := by kernel_rfl
theorem cW : Tryz.prog.cellsOf 193 = 8 := by kernel_rfl
theorem c64 : Tryz.prog.cellsOf 172 = 64 := by kernel_rfl
namespace Sm
def laid2 : List (String × DataW Unit) := [("twinlock/sha.numbersH", Rows.laid_twinlock_sha_numbersH), ("twinlock/sha.numbersK", Rows.laid_twinlock_sha_numbersK)]
def ints (l : List Nat) : List Int := l.map fun n : Nat => (n : Int)
theorem ints_getD (l : List Nat) (i : Nat) : (ints l).getD i 0 = ((l.getD i 0 : Nat) : Int) := by
  unfold ints
  rw [List.getD_eq_getElem?_getD, List.getD_eq_getElem?_getD, List.getElem?_map]
  cases l[i]? <;> rfl
theorem ints_length (l : List Nat) : (ints l).length = l.length := by simp [ints]
/-- The door's own heap meets the condition. -/
theorem door_met (os : Os) (args : Array Value) : laidMetH Tryz.prog laid2 ((World.doorLaid Tryz.prog 19 os).forCall (fun _ _ => 0) ⟨#[], args, []⟩).memory :=
  laidMetH_of_parts3 (fuel := 8) (laidMet_of_run' 8 (by kernel_rfl) (by kernel_rfl)) (by kernel_rfl) (by kernel_rfl)
theorem of_laid {W : World} (h : laidMetH Tryz.prog laid2 W) : HAt W ∧ KAt W ∧ 1 < W.heap.size := by
  rw [MakeChecks.laidMetH_plain _ _ _ (by kernel_rfl)] at h
  have h1 : laidMet Tryz.prog (("twinlock/sha.numbersH", Lib.tabData .u32 (ints h0.l)) :: [("twinlock/sha.numbersK", Lib.tabData .u32 (ints ks))]) W := h
  have T1 := Lib.tabIs_of_head gH tH Tryz.underlying193 Tryz.underlying171 c32 cW h1
  have T2 := Lib.tabIs_of_head gK tK Tryz.underlying172 Tryz.underlying171 c32 c64 h1.tail
  have k2 : KAt W := fun i hi => by
    have := T2.cell gK i (by rw [ints_length, ks_length]; exact hi)
    rw [ints_getD] at this
    exact this
  refine ⟨fun i hi => ?_, k2, ?_⟩
  · have := T1.cell gH i (by rw [ints_length]; exact hi)
    rw [ints_getD] at this
    exact this
  · exact World.block_lt_of_cell? W _ (k2 0 (by decide))
end Sm
end Go.Proofs.YtiehcplepneajaaGreatDoor
