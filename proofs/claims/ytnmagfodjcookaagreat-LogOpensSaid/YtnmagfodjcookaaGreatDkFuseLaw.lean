/-
  DiskFuse: a fuse of n lets just n acts be done.
-/
import Derived.Test.YtnmagfodjcookaaGreatDkRun
namespace Go.Proofs.YtnmagfodjcookaaGreat
open Go.RowKit
namespace Dk
/-- What one act leaves: the disk, the fuse that is left, whether the power is off; what it answers. -/
def isAct (M : Md) (a : Ac) : Bool := if a.d = 0 then there M a.i && decide ((data a).length = 64) else if a.d = 1 then true else false
def got (M : Md) (a : Ac) : Int := if a.d = 0 then (write M a.i (data a)).2 else if a.d = 1 then (sync M).2 else if a.d = 5 then (readOf M a.i).2 else 0
def fuseStep (M : Md) (a : Ac) : Md := if a.d = 0 then (write M a.i (data a)).1 else if a.d = 1 then (sync M).1 else M
theorem fs0 {M : Md} {a : Ac} (h : a.d = 0) : fuseStep M a = (write M a.i (data a)).1 := by simp [fuseStep, h]
theorem fs1 {M : Md} {a : Ac} (h : a.d = 1) : fuseStep M a = (sync M).1 := by simp [fuseStep, h]
theorem fs5 {M : Md} {a : Ac} (h : a.d ≠ 0 ∧ a.d ≠ 1) : fuseStep M a = M := by simp [fuseStep, h]
/-- The power is off, and the fuse is at its end, or as much of it is left. -/
def Burns (M : Md) (left : Nat) (off : Bool) : Prop := M.off = off ∧ (off = false → M.fuse = (left : Int))
theorem act_off (M : Md) (b : Bool) (h : M.off = b) : (act M).1.off = (if M.fuse = 0 then true else b) := by
  unfold act
  split
  · rfl
  · split <;> exact h
theorem act_burns {M : Md} {left : Nat} (h : Burns M left false) : (left = 0 → (act M).2 = false ∧ Burns (act M).1 0 true) ∧ (left ≠ 0 → (act M).2 = true ∧ Burns (act M).1 (left - 1) false) := by
  obtain ⟨h1, h2⟩ := h
  have h2 := h2 rfl
  constructor
  · intro e
    have : M.fuse = 0 := by rw [h2, e]; rfl
    exact ⟨by simp [act, this], by simp [act, this], fun e => by cases e⟩
  · intro e
    have n0 : M.fuse ≠ 0 := by rw [h2]; omega
    have n1 : M.fuse > 0 := by rw [h2]; omega
    refine ⟨by simp [act, n0, n1], by simp [act, n0, n1, h1], fun _ => ?_⟩
    simp only [act, n0, if_false, n1, if_true]
    rw [h2]; omega
theorem burns_put {M : Md} {left : Nat} {off : Bool} (h : Burns M left off) (i : Nat) (b : List UInt8) : Burns (put M i b) left off := h
theorem burns_synced {M : Md} {left : Nat} {off : Bool} (h : Burns M left off) : Burns (synced M) left off := h
/-- What becomes of the count that the statement keeps. -/
def nOff (act_ : Bool) (left : Nat) (off : Bool) : Bool := off || (act_ && decide (left = 0))
def nLeft (act_ : Bool) (left : Nat) (off : Bool) : Nat := if act_ && !off && !decide (left = 0) then left - 1 else left
theorem write_burns {M : Md} {left : Nat} {off : Bool} (h : Burns M left off) (i : Int) (s : List UInt8) :
    Burns (write M i s).1 (nLeft (there M i && decide (s.length = 64)) left off) (nOff (there M i && decide (s.length = 64)) left off) ∧
    (write M i s).2 = (if nOff (there M i && decide (s.length = 64)) left off then 14 else if there M i && decide (s.length = 64) then 0 else 1) := by
  cases off
  · have h1 := h.1
    cases hc : there M i && decide (s.length = 64)
    · simp [write, h1, hc, nLeft, nOff]
      exact h
    · by_cases h0 : left = 0
      · obtain ⟨e1, e2⟩ := (act_burns h).1 h0
        subst h0
        simp [write, h1, hc, e1, nLeft, nOff]
        exact e2
      · obtain ⟨e1, e2⟩ := (act_burns h).2 h0
        simp [write, h1, hc, e1, nLeft, nOff, h0]
        exact burns_put e2 _ _
  · have h1 := h.1
    simp [write, h1, nLeft, nOff]
    exact h
theorem sync_burns {M : Md} {left : Nat} {off : Bool} (h : Burns M left off) :
    Burns (sync M).1 (nLeft true left off) (nOff true left off) ∧ (sync M).2 = (if nOff true left off then 14 else 0) := by
  cases off
  · have h1 := h.1
    by_cases h0 : left = 0
    · obtain ⟨e1, e2⟩ := (act_burns h).1 h0
      subst h0
      simp [sync, h1, e1, nLeft, nOff]
      exact e2
    · obtain ⟨e1, e2⟩ := (act_burns h).2 h0
      simp [sync, h1, e1, nLeft, nOff, h0]
      exact burns_synced e2
  · have h1 := h.1
    simp [sync, h1, nLeft, nOff]
    exact h
theorem read_burns {M : Md} {left : Nat} {off : Bool} (h : Burns M left off) (i : Int) : (readOf M i).2 = (if off then 14 else if there M i then 0 else 1) := by
  have h1 := h.1
  cases off
  · cases ht : there M i <;> simp [readOf, h1, ht]
  · simp [readOf, h1]
end Dk
end Go.Proofs.YtnmagfodjcookaaGreat
