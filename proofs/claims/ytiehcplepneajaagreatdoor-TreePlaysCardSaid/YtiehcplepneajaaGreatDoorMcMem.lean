/-
  Small facts on worlds and rows of bytes, for mac.
-/
import Derived.Test.YtiehcplepneajaaGreatDoorMcMath
import Derived.Test.YtiehcplepneajaaGreatDoorMSha
import Derived.Deep.RegionHeld3
import Derived.Deep.Cut
namespace Go.Proofs.YtiehcplepneajaaGreatDoor.Sm
open Go.RowKit

/-- A block, of which the first k bytes are xored. -/
def half (m : UInt8) (l : List UInt8) (k : Nat) : List UInt8 := xored m (l.take k) ++ l.drop k
theorem half_zero (m : UInt8) (l : List UInt8) : half m l 0 = l := by simp [half, xored]
theorem half_all (m : UInt8) (l : List UInt8) : half m l l.length = xored m l := by simp [half]
theorem half_length (m : UInt8) (l : List UInt8) (k : Nat) : (half m l k).length = l.length := by
  simp [half, xored]; omega
theorem half_get (m : UInt8) (l : List UInt8) (k : Nat) (h : k < l.length) : (half m l k).getD k 0 = l.getD k 0 := by
  have hl : (xored m (l.take k)).length = k := by simp [xored]; omega
  rw [List.getD_eq_getElem?_getD, List.getD_eq_getElem?_getD, half, List.getElem?_append_right (by omega), hl, List.getElem?_drop]
  simp
theorem half_set (m : UInt8) (l : List UInt8) (k : Nat) (h : k < l.length) : (half m l k).set k (l.getD k 0 ^^^ m) = half m l (k + 1) := by
  have hl : (xored m (l.take k)).length = k := by simp [xored]; omega
  have hd : l.drop k = l[k] :: l.drop (k + 1) := List.drop_eq_getElem_cons h
  have e : xored m (l.take k ++ [l[k]]) = xored m (l.take k) ++ [l[k] ^^^ m] := by unfold xored; rw [List.map_append]; rfl
  rw [half, List.set_append_right _ _ (by omega), hl, Nat.sub_self, hd, List.set_cons_zero, half, List.take_succ_eq_append_getElem h, e, List.getD_eq_getElem?_getD, List.getElem?_eq_getElem h, List.append_assoc]
  rfl
end Go.Proofs.YtiehcplepneajaaGreatDoor.Sm
