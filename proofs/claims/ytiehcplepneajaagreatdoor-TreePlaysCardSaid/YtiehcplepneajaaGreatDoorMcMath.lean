/-
  HMAC-SHA256 as plain functions.
-/
import Derived.Test.YtiehcplepneajaaGreatDoorMBase
namespace Go.Proofs.YtiehcplepneajaaGreatDoor.Sm

/-- What of a key goes into its block. -/
def keyed (k : List UInt8) : List UInt8 := if 64 < k.length then sum k else k
/-- A key's block. -/
def kblock (k : List UInt8) : List UInt8 := keyed k ++ List.replicate (64 - (keyed k).length) 0
def xored (m : UInt8) (l : List UInt8) : List UInt8 := l.map (· ^^^ m)
def tag (k t : List UInt8) : List UInt8 := sum (xored 92 (kblock k) ++ sum (xored 54 (kblock k) ++ t))
theorem keyed_le (k : List UInt8) : (keyed k).length ≤ 64 := by
  unfold keyed
  split
  · rw [sum_length]; decide
  · omega
theorem kblock_length (k : List UInt8) : (kblock k).length = 64 := by
  have := keyed_le k
  simp [kblock]; omega
theorem xored_length (m : UInt8) (l : List UInt8) : (xored m l).length = l.length := by simp [xored]
theorem tag_length (k t : List UInt8) : (tag k t).length = 32 := sum_length _
theorem kblock_noughts (k : List UInt8) (n : Nat) (h : k.length + n ≤ 64) : kblock (k ++ List.replicate n 0) = kblock k := by
  have h1 : keyed (k ++ List.replicate n 0) = k ++ List.replicate n 0 := by unfold keyed; rw [if_neg (by simp; omega)]
  have h2 : keyed k = k := by unfold keyed; rw [if_neg (by omega)]
  unfold kblock
  rw [h1, h2, List.append_assoc]
  congr 1
  rw [List.length_append, List.length_replicate, List.replicate_append_replicate]
  congr 1
  omega
theorem kblock_long (k : List UInt8) (h : 64 < k.length) : kblock (sum k) = kblock k := by
  have h1 : keyed k = sum k := if_pos h
  have h2 : keyed (sum k) = sum k := by unfold keyed; rw [if_neg (by rw [sum_length]; decide)]
  unfold kblock
  rw [h1, h2]
theorem tag_noughts (k t : List UInt8) (n : Nat) (h : k.length + n ≤ 64) : tag (k ++ List.replicate n 0) t = tag k t := by
  unfold tag; rw [kblock_noughts k n h]
theorem tag_long (k t : List UInt8) (h : 64 < k.length) : tag (sum k) t = tag k t := by
  unfold tag; rw [kblock_long k h]
theorem kblock_get (k : List UInt8) (h : k.length ≤ 64) (i : Nat) : (kblock k).getD i 0 = k.getD i 0 := by
  have h1 : keyed k = k := by unfold keyed; rw [if_neg (by omega)]
  unfold kblock
  rw [h1, List.getD_eq_getElem?_getD, List.getElem?_append, List.getD_eq_getElem?_getD]
  split
  · rfl
  · rw [List.getElem?_eq_none (l := k) (by omega), List.getElem?_replicate]
    split <;> rfl
end Go.Proofs.YtiehcplepneajaaGreatDoor.Sm
