/-
  What a row of acts does to a disk.
-/
import Derived.Test.YtnmagfodjcookaaGreatDkActs
namespace Go.Proofs.YtnmagfodjcookaaGreat
open Go.RowKit
namespace Dk
def doAct (M : Md) (a : Ac) : Md :=
  if a.d = 0 then (write M a.i (data a)).1 else if a.d = 1 then (sync M).1 else if a.d = 2 then { M with fuse := a.n } else if a.d = 3 then crash M a.keep else if a.d = 4 then (spoil M a.i a.n a.x.data.toList).1 else M
def runs (M : Md) (l : List Ac) : Md := l.foldl doAct M
theorem runs_take (M : Md) {l : List Ac} {k : Nat} (h : k < l.length) : runs M (l.take (k + 1)) = doAct (runs M (l.take k)) l[k] := by
  rw [List.take_succ_eq_append_getElem h, runs, List.foldl_append]
  rfl
theorem waits_doAct (M : Md) (a : Ac) : waits (doAct M a) ≤ waits M + 1 := by
  unfold doAct
  split
  · exact waits_write _ _ _
  · split
    · exact Nat.le_trans (waits_sync M) (Nat.le_succ _)
    · split
      · exact Nat.le_succ (waits M)
      · split
        · rw [waits_crash]; exact Nat.zero_le _
        · split
          · rw [waits_spoil]; exact Nat.le_succ _
          · exact Nat.le_succ _
theorem waits_runs (M : Md) (l : List Ac) : waits (runs M l) ≤ waits M + l.length := by
  induction l generalizing M with
  | nil => exact Nat.le_refl _
  | cons a l ih =>
    have h1 := ih (doAct M a)
    have h2 := waits_doAct M a
    rw [List.length_cons]
    show waits (runs (doAct M a) l) ≤ _
    omega
theorem doAct_0 {M : Md} {a : Ac} (h : a.d = 0) : doAct M a = (write M a.i (data a)).1 := by simp [doAct, h]
theorem doAct_1 {M : Md} {a : Ac} (h : a.d = 1) : doAct M a = (sync M).1 := by simp [doAct, h]
theorem doAct_2 {M : Md} {a : Ac} (h : a.d = 2) : doAct M a = { M with fuse := a.n } := by simp [doAct, h]
theorem doAct_3 {M : Md} {a : Ac} (h : a.d = 3) : doAct M a = crash M a.keep := by simp [doAct, h]
theorem doAct_4 {M : Md} {a : Ac} (h : a.d = 4) : doAct M a = (spoil M a.i a.n a.x.data.toList).1 := by simp [doAct, h]
theorem doAct_else {M : Md} {a : Ac} (h : a.d ≠ 0 ∧ a.d ≠ 1 ∧ a.d ≠ 2 ∧ a.d ≠ 3 ∧ a.d ≠ 4) : doAct M a = M := by simp [doAct, h]
theorem len_doAct (M : Md) (a : Ac) : (doAct M a).lasts.length = M.lasts.length := by
  unfold doAct
  split
  · rw [lasts_write]
  · split
    · exact len_sync M
    · split
      · rfl
      · split
        · exact len_crash _ _
        · split
          · exact len_spoil _ _ _ _
          · rfl
theorem len_runs (M : Md) (l : List Ac) : (runs M l).lasts.length = M.lasts.length := by
  induction l generalizing M with
  | nil => rfl
  | cons a l ih => exact (ih _).trans (len_doAct _ _)
theorem sized_data {a : Ac} : (⟨(data a).toArray⟩ : ByteArray).data.toList = data a := by simp
end Dk
end Go.Proofs.YtnmagfodjcookaaGreat
