/-
  What the document's square, cube, behind, rot do.
-/
import Derived.Test.YtkijdpgdniaagaaDoorRsMath
import Derived.Test.YtkijdpgdniaagaaDoorShelf
import Derived.Test.YtkijdpgdniaagaaDoorShMem
import Derived.Deep.Cut
namespace Go.Proofs.YtkijdpgdniaagaaDoor
open Go.RowKit

theorem mul64_any (x y : Nat) (hx : x < 18446744073709551616) (hy : y < 18446744073709551616) (w : World) :
    Calls Tryd.prog 48 #[.int .u64 x, .int .u64 y] w fun e w' => e = .returned (.tuple #[.int .u64 (x * y / 18446744073709551616 : Nat), .int .u64 (x * y % 18446744073709551616 : Nat)]) ∧ w = w' :=
  (bits_Mul64 x y hx hy w).mono fun _ _ ⟨h1, h2⟩ => ⟨h1, h2.symm⟩

set_option maxHeartbeats 1000000 in
theorem square_any (m p : Nat) (hm : m < 18446744073709551616) (hp : p < 18446744073709551616) (w : World) :
    Calls Tryd.prog 45 #[.int .u64 m, .int .u64 p] w fun e w' => e = .returned (.bool (Sm.squareB m p)) ∧ w = w' := by
  have HM := Lib.hid (fun wx => mul64_any m m hm hm wx)
  have hs : Sm.squareB m p = (decide (m * m / 18446744073709551616 < p) || (m * m / 18446744073709551616 == p && m * m % 18446744073709551616 == 0)) := rfl
  rw [hs]
  clear hs
  generalize m * m / 18446744073709551616 = h at *
  generalize m * m % 18446744073709551616 = l at *
  by_cases h1 : h < p
  · have e : (decide (h < p) || (h == p && l == 0)) = true := by simp [h1]
    rw [e]
    clear e
    go_enter Tryd.func45, Tryd.ntmps45
    go_wp2_with fail
    refine (HM.out _).mono ?_
    rintro e w' ⟨rfl, rfl⟩
    go_wp2
    go_ret
    exact ⟨rfl, rfl⟩
  · by_cases h2 : h = p
    · subst h2
      by_cases h3 : l = 0
      · subst h3
        have e : (decide (h < h) || (h == h && (0 : Nat) == 0)) = true := by simp
        rw [e]
        clear e
        go_enter Tryd.func45, Tryd.ntmps45
        go_wp2_with fail
        refine (HM.out _).mono ?_
        rintro e w' ⟨rfl, rfl⟩
        go_wp2
        go_ret
        exact ⟨rfl, rfl⟩
      · have h3i : ((l : Int) == 0) = false := by rw [beq_eq_false_iff_ne]; omega
        have e : (decide (h < h) || (h == h && l == 0)) = false := by simp [h3]
        rw [e]
        clear e h3
        go_enter Tryd.func45, Tryd.ntmps45
        go_wp2_with fail
        refine (HM.out _).mono ?_
        rintro e w' ⟨rfl, rfl⟩
        go_wp2
        go_ret
        exact ⟨rfl, rfl⟩
    · have h2i : ((h : Int) == (p : Int)) = false := by rw [beq_eq_false_iff_ne]; omega
      have e : (decide (h < p) || (h == p && l == 0)) = false := by simp [h1, h2]
      rw [e]
      clear e h2
      go_enter Tryd.func45, Tryd.ntmps45
      go_wp2_with fail
      refine (HM.out _).mono ?_
      rintro e w' ⟨rfl, rfl⟩
      go_wp2
      go_ret
      exact ⟨rfl, rfl⟩

theorem cube_top {m : Nat} (hm : m < 68719476736) : m * m / 18446744073709551616 * m + m * m % 18446744073709551616 * m / 18446744073709551616 < 1152921504606846976 ∧ m * m / 18446744073709551616 < 18446744073709551616 ∧ m * m / 18446744073709551616 * m < 18446744073709551616 := by
  have h1 : m * m < 68719476736 * 68719476736 := Nat.mul_lt_mul'' hm hm
  have h2 : m * m / 18446744073709551616 < 256 := by omega
  have h3 : m * m / 18446744073709551616 * m < 256 * 68719476736 := Nat.mul_lt_mul'' h2 hm
  have h4 : m * m % 18446744073709551616 * m < 18446744073709551616 * 68719476736 := Nat.mul_lt_mul'' (Nat.mod_lt _ (by decide)) hm
  refine ⟨by omega, by omega, by omega⟩

set_option maxHeartbeats 1000000 in
theorem cube_any (m p : Nat) (hm : m < 68719476736) (hp : p < 400) (w : World) :
    Calls Tryd.prog 44 #[.int .u64 m, .int .u64 p] w fun e w' => e = .returned (.bool (Sm.cubeB m p)) ∧ w = w' := by
  obtain ⟨ht, hh, hhm⟩ := cube_top hm
  have HM := Lib.hid (fun wx => mul64_any m m (by omega) (by omega) wx)
  have hl : m * m % 18446744073709551616 < 18446744073709551616 := Nat.mod_lt _ (by decide)
  have hs : Sm.cubeB m p = (decide (m * m / 18446744073709551616 * m + m * m % 18446744073709551616 * m / 18446744073709551616 < p * 4294967296) ||
    (m * m / 18446744073709551616 * m + m * m % 18446744073709551616 * m / 18446744073709551616 == p * 4294967296 && m * m % 18446744073709551616 * m % 18446744073709551616 == 0)) := rfl
  rw [hs]
  clear hs
  generalize m * m / 18446744073709551616 = h at *
  generalize m * m % 18446744073709551616 = l at *
  have HM2 := Lib.hid (fun wx => mul64_any h m hh (by omega) wx)
  have HM3 := Lib.hid (fun wx => mul64_any l m hl (by omega) wx)
  have hq : h * m % 18446744073709551616 = h * m := Nat.mod_eq_of_lt hhm
  rw [hq] at HM2
  generalize h * m / 18446744073709551616 = x at *
  generalize h * m = y at *
  generalize l * m / 18446744073709551616 = z at *
  generalize l * m % 18446744073709551616 = v at *
  obtain ⟨q, hqp⟩ : ∃ q, q = p * 4294967296 := ⟨_, rfl⟩
  have hqi : (p : Int) * 4294967296 = (q : Int) := by omega
  have hqw : IntKind.u64.wrap ((p : Int) * 2 ^ 32) = (q : Int) := by
    rw [IntKind.wrap_u64]; omega
  rw [← hqp]
  obtain ⟨s, hs⟩ : ∃ s, s = y + z := ⟨_, rfl⟩
  have hsi : (y : Int) + (z : Int) = (s : Int) := by omega
  have hs0 : (y : Int) + (z : Int) < 18446744073709551616 := by omega
  rw [← hs]
  clear hq hh hhm hl hs ht hqp
  have W : ∀ b : Bool, (s < q ∧ b = true) ∨ (s = q ∧ v = 0 ∧ b = true) ∨ (s = q ∧ ¬ v = 0 ∧ b = false) ∨ (¬ s < q ∧ ¬ s = q ∧ b = false) → Calls Tryd.prog 44 #[.int .u64 m, .int .u64 p] w fun e w' => e = .returned (.bool b) ∧ w = w' := by
    intro b hb
    rcases hb with ⟨h1, rfl⟩ | ⟨rfl, rfl, rfl⟩ | ⟨rfl, h3, rfl⟩ | ⟨h1, h2, rfl⟩
    · go_enter Tryd.func44, Tryd.ntmps44
      go_wp2_with fail
      refine (HM.out _).mono ?_
      rintro e w' ⟨rfl, rfl⟩
      go_wp2_with fail
      refine (HM2.out _).mono ?_
      rintro e w' ⟨rfl, rfl⟩
      go_wp2_with fail
      refine (HM3.out _).mono ?_
      rintro e w' ⟨rfl, rfl⟩
      go_wp2
      go_ret
      exact ⟨rfl, rfl⟩
    · go_enter Tryd.func44, Tryd.ntmps44
      go_wp2_with fail
      refine (HM.out _).mono ?_
      rintro e w' ⟨rfl, rfl⟩
      go_wp2_with fail
      refine (HM2.out _).mono ?_
      rintro e w' ⟨rfl, rfl⟩
      go_wp2_with fail
      refine (HM3.out _).mono ?_
      rintro e w' ⟨rfl, rfl⟩
      go_wp2
      go_ret
      exact ⟨rfl, rfl⟩
    · have h3i : ((v : Int) == 0) = false := by rw [beq_eq_false_iff_ne]; omega
      clear h3
      go_enter Tryd.func44, Tryd.ntmps44
      go_wp2_with fail
      refine (HM.out _).mono ?_
      rintro e w' ⟨rfl, rfl⟩
      go_wp2_with fail
      refine (HM2.out _).mono ?_
      rintro e w' ⟨rfl, rfl⟩
      go_wp2_with fail
      refine (HM3.out _).mono ?_
      rintro e w' ⟨rfl, rfl⟩
      go_wp2
      go_ret
      exact ⟨rfl, rfl⟩
    · have h2i : ((s : Int) == (q : Int)) = false := by rw [beq_eq_false_iff_ne]; omega
      clear h2
      go_enter Tryd.func44, Tryd.ntmps44
      go_wp2_with fail
      refine (HM.out _).mono ?_
      rintro e w' ⟨rfl, rfl⟩
      go_wp2_with fail
      refine (HM2.out _).mono ?_
      rintro e w' ⟨rfl, rfl⟩
      go_wp2_with fail
      refine (HM3.out _).mono ?_
      rintro e w' ⟨rfl, rfl⟩
      go_wp2
      go_ret
      exact ⟨rfl, rfl⟩
  refine W _ ?_
  by_cases h1 : s < q
  · exact .inl ⟨h1, by simp [h1]⟩
  · by_cases h2 : s = q
    · by_cases h3 : v = 0
      · exact .inr (.inl ⟨h2, h3, by simp [h2, h3]⟩)
      · exact .inr (.inr (.inl ⟨h2, h3, by simp [h2, h3]⟩))
    · exact .inr (.inr (.inr ⟨h1, h2, by simp [h1, h2]⟩))
end Go.Proofs.YtkijdpgdniaagaaDoor
