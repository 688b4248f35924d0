/-
  Byte of a reader that has failed: it only reads.
-/
import Derived.Test.YtdcbamddioofnaaWakes
namespace Go.Proofs.Ytdcbamddioofnaa
open Go.RowKit Pk

set_option maxHeartbeats 400000 in
theorem step_stuck {w : World} {b : Nat} {r : Rd} (hin : inAt w b r) (hf : r.f ≠ 0) (sz : Int) (ev : Nat) :
    Calls Try.prog 24 #[.pointer (some ⟨b, 0, none⟩), .int .i64 sz, .int .i64 ev] w fun e w' => e = .returned (.bool false) ∧ w = w' := by
  obtain ⟨c0, c1, c2⟩ := hin.cell
  clear hin c0 c1
  have h3' : ((r.f : Int) == 0) = false := by rw [beq_eq_false_iff_ne]; omega
  have h3 : ¬ ((r.f : Int) = 0) := by omega
  clear hf
  go_enter Try.func24, Try.ntmps24
  go_wp2
  go_ret
  exact ⟨rfl, rfl⟩

set_option maxHeartbeats 400000 in
theorem byte_stuck {w : World} {b : Nat} {r : Rd} (hin : inAt w b r) (hr : r.Ok) (hf : r.f ≠ 0) :
    Calls Try.prog 12 #[.pointer (some ⟨b, 0, none⟩)] w fun e w' => e = .returned (.int .u8 0) ∧ ∃ n, w' = w.drewN n := by
  have H0 := @rest_in w b r hin hr
  generalize r.s.extract r.pos r.s.size = t at *
  have H := Lib.hid H0
  have HF := Lib.hid hf
  clear H0 hf
  by_cases hl : t.toList.isEmpty = true
  · go_enter Try.func12, Try.ntmps12
    go_wp2_with fail
    refine (H.out).mono ?_
    rintro e w1 ⟨rfl, n, rfl⟩
    go_wp2_with fail
    refine (step_stuck (hin.drewN n) HF.out 1 7).mono ?_
    rintro e w1 ⟨rfl, rfl⟩
    go_wp2
    go_ret
    exact ⟨rfl, n, rfl⟩
  · have hl2 : t.toList.isEmpty = false := by simpa using hl
    clear hl
    go_enter Try.func12, Try.ntmps12
    go_wp2_with fail
    refine (H.out).mono ?_
    rintro e w1 ⟨rfl, n, rfl⟩
    go_wp2_with fail
    refine (step_stuck (hin.drewN n) HF.out 1 0).mono ?_
    rintro e w1 ⟨rfl, rfl⟩
    go_wp2
    go_ret
    exact ⟨rfl, n, rfl⟩
theorem q_joined {P : Program} {f : FuncId} {xs : Array Value} {w : World} {i j : Nat} {r : Value} (h : Calls P f xs (w.drewN (i + j)) fun e w' => e = .returned r ∧ ∃ k, w' = (w.drewN (i + j)).drewN k) :
    Calls P f xs (w.drewN (i + j)) fun e w' => e = .returned r ∧ ∃ k, w' = w.drewN (i + k) := h.mono fun _ _ ⟨h1, k, h2⟩ => ⟨h1, j + k, by rw [h2, World.drewN_drewN, Nat.add_assoc]⟩
end Go.Proofs.Ytdcbamddioofnaa
