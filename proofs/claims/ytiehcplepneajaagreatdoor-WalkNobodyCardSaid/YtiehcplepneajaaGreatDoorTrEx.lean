/-
  The examples of trees, reckoned: the tree of no pair, the one of app/a 1; their roots. No program.
-/
import Derived.Test.YtiehcplepneajaaGreatDoorTrA
namespace Go.Proofs.YtiehcplepneajaaGreatDoor
namespace Tr
open Om (Pr)
/-- The nodes of the tree of no pair, by their heights. -/
def e0 : List UInt8 := [31, 111, 82, 121, 115, 162, 29, 76, 125, 107, 22, 71, 110, 244, 245, 123, 67, 59, 19, 0, 65, 171, 159, 229, 16, 15, 183, 44, 147, 6, 108, 158]
def e1 : List UInt8 := [38, 53, 33, 233, 144, 105, 77, 178, 246, 201, 73, 253, 73, 3, 228, 99, 169, 3, 152, 79, 45, 125, 53, 98, 20, 207, 231, 52, 144, 9, 4, 159]
def e2 : List UInt8 := [49, 63, 37, 40, 241, 99, 192, 84, 230, 51, 61, 32, 87, 33, 191, 211, 107, 234, 83, 138, 216, 201, 194, 74, 43, 63, 78, 49, 107, 147, 237, 11]
def e3 : List UInt8 := [71, 131, 56, 29, 100, 54, 254, 71, 117, 200, 110, 136, 12, 222, 14, 235, 230, 209, 77, 147, 45, 121, 221, 234, 196, 34, 171, 69, 20, 225, 47, 248]
def e4 : List UInt8 := [94, 251, 35, 105, 156, 12, 160, 173, 168, 248, 215, 221, 225, 150, 30, 76, 154, 40, 63, 173, 187, 118, 65, 183, 174, 86, 134, 35, 187, 183, 21, 91]
/-- The nodes above app/a, in the tree of it alone. -/
def o0 : List UInt8 := [114, 236, 85, 49, 251, 204, 207, 18, 98, 73, 205, 211, 248, 3, 191, 155, 212, 108, 249, 10, 184, 218, 73, 131, 76, 247, 112, 220, 160, 199, 89, 237]
def o1 : List UInt8 := [213, 189, 3, 77, 1, 178, 230, 241, 152, 65, 16, 71, 240, 0, 165, 129, 148, 24, 86, 36, 109, 240, 184, 120, 200, 95, 30, 58, 200, 106, 140, 21]
def o2 : List UInt8 := [17, 131, 1, 166, 100, 174, 163, 207, 168, 27, 17, 45, 119, 194, 134, 254, 105, 138, 7, 195, 109, 120, 32, 217, 227, 71, 23, 119, 42, 203, 231, 22]
def o3 : List UInt8 := [130, 205, 20, 198, 122, 52, 247, 184, 96, 210, 224, 14, 82, 52, 222, 190, 108, 185, 154, 8, 80, 119, 114, 253, 251, 47, 254, 116, 76, 225, 61, 89]
def o4 : List UInt8 := [94, 175, 93, 55, 31, 116, 99, 99, 127, 190, 207, 87, 166, 244, 88, 211, 103, 166, 199, 32, 244, 101, 22, 115, 56, 250, 173, 2, 139, 96, 159, 206]
def ab : List UInt8 := [184, 62, 184, 62, 20, 70, 20, 22, 155, 170, 14, 205, 207, 117, 44, 70, 185, 91, 197, 177, 126, 148, 152, 68, 107, 204, 112, 148, 198, 84, 19, 2]
def ba : List UInt8 := [252, 228, 25, 105, 167, 10, 15, 21, 49, 187, 69, 3, 204, 228, 107, 212, 219, 127, 53, 201, 249, 118, 167, 191, 31, 196, 162, 232, 174, 224, 209, 53]
theorem sum_e0 : Sm.sum [76, 0] = e0 := by decide +kernel
theorem sum_e1 : Sm.sum (innerT e0 e0) = e1 := by decide +kernel
theorem sum_e2 : Sm.sum (innerT e1 e1) = e2 := by decide +kernel
theorem sum_e3 : Sm.sum (innerT e2 e2) = e3 := by decide +kernel
theorem sum_e4 : Sm.sum (innerT e3 e3) = e4 := by decide +kernel
theorem sum_o0 : Sm.sum (76 :: Bu.sOne.data.toList) = o0 := by decide +kernel
theorem sum_o1 : Sm.sum (innerT e0 o0) = o1 := by decide +kernel
theorem sum_o2 : Sm.sum (innerT e1 o1) = o2 := by decide +kernel
theorem sum_o3 : Sm.sum (innerT o2 e2) = o3 := by decide +kernel
theorem sum_o4 : Sm.sum (innerT o3 e3) = o4 := by decide +kernel
theorem sum_ab : Sm.sum (innerT e0 e4) = ab := by decide +kernel
theorem sum_ba : Sm.sum (innerT e4 e0) = ba := by decide +kernel
theorem nd_succ (l : List Pr) (h i : Nat) : nd l (h + 1) i = Sm.sum (innerT (nd l h (2 * i)) (nd l h (2 * i + 1))) := rfl
theorem nd_zero (l : List Pr) (i : Nat) : nd l 0 i = Sm.sum (leafT l i) := rfl
theorem leaf_none {l : List Pr} {i : Nat} (h : Bu.part l i = []) : nd l 0 i = e0 := by
  have e : leafT l i = [76, 0] := by unfold leafT; rw [h, Bu.bytesNone]
  rw [nd_zero, e, sum_e0]
theorem none0 (i : Nat) : nd [] 0 i = e0 := leaf_none rfl
theorem none1 (i : Nat) : nd [] 1 i = e1 := by rw [nd_succ, none0, none0, sum_e1]
theorem none2 (i : Nat) : nd [] 2 i = e2 := by rw [nd_succ, none1, none1, sum_e2]
theorem none3 (i : Nat) : nd [] 3 i = e3 := by rw [nd_succ, none2, none2, sum_e3]
theorem rootNone : root [] = e4 := by unfold root; rw [nd_succ, none3, none3, sum_e4]
theorem one_part {i : Nat} (h : i ≠ 3) : Bu.part Bu.one i = [] := Bu.partOther (by omega)
theorem one0 {i : Nat} (h : i ≠ 3) : nd Bu.one 0 i = e0 := leaf_none (one_part h)
theorem one0' : nd Bu.one 0 3 = o0 := by
  have e : leafT Bu.one 3 = 76 :: Bu.sOne.data.toList := by
    unfold leafT
    have : Bu.part Bu.one ((3 : Nat) : Int) = Bu.one := Bu.partOne
    rw [this, Bu.bytesOne]
  rw [nd_zero, e, sum_o0]
theorem one1' : nd Bu.one 1 1 = o1 := by rw [nd_succ, one0 (by decide), one0', sum_o1]
theorem one1 {i : Nat} (h : i ≠ 1) : nd Bu.one 1 i = e1 := by rw [nd_succ, one0 (by omega), one0 (by omega), sum_e1]
theorem one2' : nd Bu.one 2 0 = o2 := by rw [nd_succ, one1 (by decide), one1', sum_o2]
theorem one2 {i : Nat} (h : i ≠ 0) : nd Bu.one 2 i = e2 := by rw [nd_succ, one1 (by omega), one1 (by omega), sum_e2]
theorem one3' : nd Bu.one 3 0 = o3 := by rw [nd_succ, one2', one2 (by decide), sum_o3]
theorem one3 : nd Bu.one 3 1 = e3 := by rw [nd_succ, one2 (by decide), one2 (by decide), sum_e3]
theorem rootOne : root Bu.one = o4 := by unfold root; rw [nd_succ, one3', one3, sum_o4]
theorem roots_ne : o4 ≠ e4 := by decide
theorem e4_ne : e4 ≠ List.replicate 32 0 := by decide
theorem turned_ne : ab ≠ ba := by decide
theorem setOne : setE [] Bu.tA Bu.t1 = 0 := by kernel_rfl
theorem putOne : Om.put Bu.tA Bu.t1 [] = Bu.one := rfl
theorem delOne : Om.del Bu.tA Bu.one = [] := by kernel_rfl
theorem getOne : (Om.get Bu.tA Bu.one).isSome = true := by kernel_rfl
theorem setApp (l : List Pr) : setE l Bu.tApp Bu.t1 = 20 := by
  unfold setE
  rw [if_pos (by kernel_rfl)]
end Tr
end Go.Proofs.YtiehcplepneajaaGreatDoor
