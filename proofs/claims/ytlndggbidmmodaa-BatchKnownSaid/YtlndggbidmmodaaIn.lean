/-
  What the calls of a pack reader do, said of the plain reader: for every reader that lies in memory.
-/
import Derived.Test.YtlndggbidmmodaaNumber
import Derived.Test.YtlndggbidmmodaaModel
import Derived.Deep.QuietTactic
import Derived.BigQuiet
namespace Go.Proofs.Ytlndggbidmmodaa
open Go.RowKit Pk

/-- A reader lies in block b. -/
def inAt (w : World) (b : Nat) (r : Rd) : Prop := w.heap[b]? = some (.cells #[.string r.s, .int .i64 r.pos, .int .i64 r.f] 108 (0, 0))
/-- Of what was there, block b alone may have turned; in it there is r. -/
structure Stp (w w' : World) (b : Nat) (r : Rd) : Prop where
  grown : w.grownBy w' (some b)
  inAt : inAt w' b r

theorem inAt.cell {w : World} {b : Nat} {r : Rd} (h : inAt w b r) :
    w.cell? ⟨b, 0, none⟩ = some (.string r.s) ∧ w.cell? ⟨b, 1, none⟩ = some (.int .i64 r.pos) ∧ w.cell? ⟨b, 2, none⟩ = some (.int .i64 r.f) := by
  unfold inAt at h
  simp [World.cell?, h]
theorem inAt.free {w : World} {b : Nat} {r : Rd} (h : inAt w b r) (o : Nat) : w.frozen? ⟨b, o, none⟩ = false := by
  unfold inAt at h
  simp [World.frozen?, h]
theorem inAt.lt {w : World} {b : Nat} {r : Rd} (h : inAt w b r) : b < w.heap.size := (Array.getElem?_eq_some_iff.1 h).1
theorem inAt.drewN {w : World} {b : Nat} {r : Rd} (h : inAt w b r) (n : Nat) : inAt (w.drewN n) b r := h

theorem grown_refl (w : World) (r : Option Nat) : w.grownBy w r := ⟨rfl, rfl, rfl, Nat.le_refl _, fun _ _ _ => rfl⟩
theorem grown_trans {a b c : World} {r : Option Nat} (h : a.grownBy b r) (k : b.grownBy c r) : a.grownBy c r :=
  ⟨k.os.trans h.os, k.tape.trans h.tape, k.output.trans h.output, Nat.le_trans h.size k.size, fun i hi hn => (k.block i (Nat.lt_of_lt_of_le hi h.size) hn).trans (h.block i hi hn)⟩
theorem grown_set {a w : World} {b : Nat} (h : a.grownBy w (some b)) (o : Nat) (v : Value) : a.grownBy (w.setCell ⟨b, o, none⟩ v) (some b) :=
  grown_trans h ⟨rfl, rfl, rfl, by simp, fun k _ hn => Below.heap_setCell _ _ _ _ (fun e => hn (by rw [e]))⟩
theorem grown_drewN {a w : World} {r : Option Nat} (h : a.grownBy w r) (n : Nat) : a.grownBy (w.drewN n) r := ⟨h.os, h.tape, h.output, h.size, h.block⟩
theorem grown_below {a w : World} {r : Option Nat} (h : Below a.heap.size a w) : a.grownBy w r := ⟨h.os, h.tape, h.output, h.size, fun k hk _ => h.block k hk⟩

theorem Stp.after {a w w' : World} {b : Nat} {r : Rd} (h : Stp w w' b r) (k : a.grownBy w (some b)) : Stp a w' b r := ⟨grown_trans k h.grown, h.inAt⟩

theorem rest_nil (w : World) : Calls Try.prog 84 #[.pointer none] w fun e w' => e = .returned (.string ⟨#[]⟩) ∧ w = w' := by
  go_enter Try.func84, Try.ntmps84
  go_wp2
  go_ret
  exact ⟨rfl, rfl⟩

set_option maxHeartbeats 400000 in
theorem rest_in {w : World} {b : Nat} {r : Rd} (hin : inAt w b r) (hr : r.Ok) :
    Calls Try.prog 84 #[.pointer (some ⟨b, 0, none⟩)] w fun e w' => e = .returned (.string (r.s.extract r.pos r.s.size)) ∧ ∃ n, w' = w.drewN n := by
  obtain ⟨c0, c1, c2⟩ := hin.cell
  have h1 := hr.pos
  have h2 := hr.lim
  clear hr hin c2
  go_enter Try.func84, Try.ntmps84
  go_wp2
  go_quiet (fail)
  go_wp2
  go_ret
  exact ⟨rfl, _, rfl⟩

set_option maxHeartbeats 400000 in
theorem step_ok {w : World} {b : Nat} {r : Rd} (hin : inAt w b r) (hr : r.Ok) (hf : r.f = 0) (sz : Int) (h0 : 0 ≤ sz) (hb : sz ≤ 9223372036854775807 - 281474976710656) :
    Calls Try.prog 85 #[.pointer (some ⟨b, 0, none⟩), .int .i64 sz, .int .i64 0] w fun e w' => e = .returned (.bool true) ∧ Stp w w' b (r.go sz.toNat 0) := by
  obtain ⟨c0, c1, c2⟩ := hin.cell
  have hz := hin.free
  have h1 := hr.pos
  have h2 := hr.lim
  rw [hf] at c2
  have f1 := hz 1
  have f2 := hz 2
  clear hz
  have Hf := Lib.hid hf
  have Hin := Lib.hid hin
  clear hin hf c0 hr
  go_enter Try.func85, Try.ntmps85
  go_wp2
  go_ret
  refine ⟨rfl, grown_set (grown_set (grown_refl _ _) _ _) _ _, ?_⟩
  unfold inAt
  rw [heap_set (heap_set Hin.out 2 _) 1 _, go_ok Hf.out]
  have e : ((r.pos + sz.toNat : Nat) : Int) = r.pos + sz := by omega
  simp [e, Hf.out]

set_option maxHeartbeats 400000 in
theorem step_bad {w : World} {b : Nat} {r : Rd} (hin : inAt w b r) (sz : Int) (k ev : Nat) (hbad : r.f ≠ 0 ∨ ev ≠ 0) :
    Calls Try.prog 85 #[.pointer (some ⟨b, 0, none⟩), .int .i64 sz, .int .i64 ev] w fun e w' => e = .returned (.bool false) ∧ Stp w w' b (r.go k ev) := by
  obtain ⟨c0, c1, c2⟩ := hin.cell
  have f2 := hin.free 2
  have Hin := Lib.hid hin
  clear hin c0 c1
  by_cases hf : r.f = 0
  · have h3 : ¬ ((ev : Int) = 0) := by omega
    have h3' : ((ev : Int) == 0) = false := by rw [beq_eq_false_iff_ne]; exact h3
    rw [hf] at c2
    have Hf := Lib.hid hf
    clear hf
    go_enter Try.func85, Try.ntmps85
    go_wp2
    go_ret
    refine ⟨rfl, grown_set (grown_refl _ _) _ _, ?_⟩
    unfold inAt
    rw [heap_set Hin.out 2 _]
    unfold Rd.go
    rw [if_pos Hf.out, if_neg (by omega)]
    simp
  · have h3' : ((r.f : Int) == 0) = false := by rw [beq_eq_false_iff_ne]; omega
    have h3 : ¬ ((r.f : Int) = 0) := by omega
    go_enter Try.func85, Try.ntmps85
    go_wp2
    go_ret
    refine ⟨rfl, grown_refl _ _, ?_⟩
    unfold Rd.go
    rw [if_neg hf]
    exact Hin.out

theorem step_nil (w : World) (sz ev : Int) : Calls Try.prog 85 #[.pointer none, .int .i64 sz, .int .i64 ev] w fun e w' => e = .returned (.bool false) ∧ w = w' := by
  go_enter Try.func85, Try.ntmps85
  go_wp2
  go_ret
  exact ⟨rfl, rfl⟩

theorem fault_nil (w : World) : Calls Try.prog 87 #[.pointer none] w fun e w' => e = .returned (.tuple #[.int .i64 0, .int .i64 0]) ∧ w = w' := by
  go_enter Try.func87, Try.ntmps87
  go_wp2
  go_ret2
  exact ⟨rfl, rfl⟩

set_option maxHeartbeats 400000 in
theorem fault_in {w : World} {b : Nat} {r : Rd} (hin : inAt w b r) :
    Calls Try.prog 87 #[.pointer (some ⟨b, 0, none⟩)] w fun e w' => e = .returned (.tuple #[.int .i64 r.fault.1, .int .i64 r.fault.2]) ∧ ∃ n, w' = w.drewN n := by
  obtain ⟨c0, c1, c2⟩ := hin.cell
  clear hin c0
  unfold Rd.fault
  by_cases hf : r.f = 0
  · rw [hf] at c2
    rw [if_pos hf]
    clear hf
    go_enter Try.func87, Try.ntmps87
    go_wp2
    go_ret2
    exact ⟨rfl, 0, rfl⟩
  · have h3' : ((r.f : Int) == 0) = false := by rw [beq_eq_false_iff_ne]; omega
    have h3 : ¬ ((r.f : Int) = 0) := by omega
    rw [if_neg hf]
    go_enter Try.func87, Try.ntmps87
    go_wp2
    go_quiet (fail)
    go_wp2
    go_ret2
    exact ⟨rfl, _, rfl⟩
end Go.Proofs.Ytlndggbidmmodaa
