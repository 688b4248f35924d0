/-
  Texts that belong together, laid into one.
-/
import Derived.Test.YtiehcplepneajaaGreatDoorMBase
import Derived.Test.YtiehcplepneajaaGreatDoorMSha
import Derived.Test.YtiehcplepneajaaGreatDoorMcAwake
import Derived.Shelf.Bits.Mul64
import Derived.Test.YtiehcplepneajaaGreatDoorProg
import Derived.Deep.Cut
import Derived.Deep.RegionHeld3
/-
  The document's own SHA-256: the primes, and the bits behind the point of their roots, as plain functions; its numbers are those of the program.
-/
namespace Go.Proofs.YtiehcplepneajaaGreatDoor.Sm

/-- The primes among the first n numbers from 2 on. -/
def upTo : Nat → List Nat
  | 0 => []
  | n + 1 => if (upTo n).any (fun q => (2 + n) % q == 0) then upTo n else upTo n ++ [2 + n]
def ps : List Nat := [2, 3, 5, 7, 11, 13, 17, 19, 23, 29, 31, 37, 41, 43, 47, 53, 59, 61, 67, 71, 73, 79, 83, 89, 97, 101, 103, 107, 109, 113, 127, 131, 137, 139, 149, 151, 157, 163, 167, 173, 179, 181, 191, 193, 197, 199, 211, 223, 227, 229, 233, 239, 241, 251, 257, 263, 269, 271, 277, 281, 283, 293, 307, 311]
theorem ps_length : ps.length = 64 := by decide
theorem upTo_309 : upTo 309 = ps.take 63 := by decide +kernel
theorem upTo_310 : upTo 310 = ps := by decide +kernel
theorem upTo_mono (n k : Nat) : (upTo n).length ≤ (upTo (n + k)).length := by
  induction k with
  | zero => exact Nat.le_refl _
  | succ k ih =>
    refine Nat.le_trans ih ?_
    rw [← Nat.add_assoc, upTo]
    split
    · exact Nat.le_refl _
    · simp
theorem upTo_short {n : Nat} (h : n < 310) : (upTo n).length < 64 := by
  have := upTo_mono n (309 - n)
  rw [show n + (309 - n) = 309 by omega, upTo_309] at this
  simp [ps] at this
  omega
theorem upTo_ok (n : Nat) : ∀ q ∈ upTo n, 2 ≤ q ∧ q < 2 + n := by
  induction n with
  | zero => intro q h; cases h
  | succ n ih =>
    intro q hq
    rw [upTo] at hq
    split at hq
    · have := ih q hq; omega
    · rcases List.mem_append.1 hq with h | h
      · have := ih q h; omega
      · simp at h; omega

def cubeB (m p : Nat) : Bool := decide (m * m / 18446744073709551616 * m + m * m % 18446744073709551616 * m / 18446744073709551616 < p * 4294967296) ||
  (m * m / 18446744073709551616 * m + m * m % 18446744073709551616 * m / 18446744073709551616 == p * 4294967296 && m * m % 18446744073709551616 * m % 18446744073709551616 == 0)
def squareB (m p : Nat) : Bool := decide (m * m / 18446744073709551616 < p) || (m * m / 18446744073709551616 == p && m * m % 18446744073709551616 == 0)
def takes (three : Bool) (p m : Nat) : Bool := if three then decide (m < 68719476736) && cubeB m p else squareB m p
def nxt (three : Bool) (p n d : Nat) : Nat := if takes three p (n + d) then n + d else n
/-- The root behind the first j bits. -/
def root (three : Bool) (p : Nat) : Nat → Nat
  | 0 => 0
  | j + 1 => nxt three p (root three p j) (2 ^ (36 - j))
theorem nxt_le (three : Bool) (p n d : Nat) : nxt three p n d ≤ n + d := by unfold nxt; split <;> omega
theorem root_le (three : Bool) (p j : Nat) (h : j ≤ 37) : root three p j + 2 ^ (37 - j) ≤ 2 ^ 37 := by
  induction j with
  | zero => simp [root]
  | succ j ih =>
    have h1 := ih (by omega)
    have h2 := nxt_le three p (root three p j) (2 ^ (36 - j))
    rw [show 37 - j = (36 - j) + 1 by omega, Nat.pow_succ] at h1
    rw [root, show 37 - (j + 1) = 36 - j by omega]
    omega
def roots (three : Bool) (n : Nat) : List Nat := (List.range n).map fun i => root three (ps.getD i 0) 37 % 4294967296
theorem roots_ks : roots true 64 = ks := by decide +kernel
theorem roots_h0 : roots false 8 = h0.l := by decide +kernel
theorem roots_get (three : Bool) (n i : Nat) (h : i < n) : (roots three n).getD i 0 = root three (ps.getD i 0) 37 % 4294967296 := by
  simp [roots, h]
theorem ks_root (i : Nat) (h : i < 64) : ks.getD i 0 = root true (ps.getD i 0) 37 % 4294967296 := by rw [← roots_ks, roots_get _ _ _ h]
theorem h0_root (i : Nat) (h : i < 8) : h0.l.getD i 0 = root false (ps.getD i 0) 37 % 4294967296 := by rw [← roots_h0, roots_get _ _ _ h]
theorem ps_ok (i : Nat) (h : i < 64) : 2 ≤ ps.getD i 0 ∧ ps.getD i 0 < 400 := by
  have : ∀ x ∈ ps, 2 ≤ x ∧ x < 400 := by decide
  have hm : ps.getD i 0 ∈ ps := by
    rw [List.getD_eq_getElem?_getD, List.getElem?_eq_getElem (by rw [ps_length]; exact h)]
    exact List.getElem_mem _
  exact this _ hm
end Go.Proofs.YtiehcplepneajaaGreatDoor.Sm

/-
  The library function math/bits.Mul64: the shelf contract, laid at this translation.
-/
namespace Go.Proofs.YtiehcplepneajaaGreatDoor
open Go.Shelf
def lays264_ren : Go.Shelf.Ren := ⟨fun | 264 => 170 | n => n, fun | 53 => 159 | 46 => 81 | n => n, fun | n => n⟩
theorem lays264 : Go.Proofs.Lays.n264 Tryz.prog lays264_ren := {
  mixed := by kernel_rfl
  f264 := Tryz.func170.trans (congrArg some (by kernel_rfl))
  t46 := Tryz.underlying81
  a46 := Tryz.isAgg81
  z46 := Tryz.sizeOf81
  v46 := Tryz.zeroValue81
  t53 := Tryz.underlying159
  a53 := Tryz.isAgg159
  z53 := Tryz.sizeOf159
  v53 := Tryz.zeroValue159 }
open Go.RowKit Go.Lib in
theorem bits_Mul64 (x y : Nat) (hx : x < 18446744073709551616) (hy : y < 18446744073709551616) (w : World) :
    Calls Tryz.prog 170 #[.int .u64 x, .int .u64 y] w fun e w' => e = .returned (.tuple #[.int .u64 ((x * y / 18446744073709551616 : Nat) : Int), .int .u64 ((x * y % 18446744073709551616 : Nat) : Int)]) ∧ w' = w := Go.Proofs.Any.bits_Mul64 lays264 x y hx hy w
end Go.Proofs.YtiehcplepneajaaGreatDoor

/-
  What the document's square, cube, behind, rot do.
-/
namespace Go.Proofs.YtiehcplepneajaaGreatDoor
open Go.RowKit

theorem mul64_any (x y : Nat) (hx : x < 18446744073709551616) (hy : y < 18446744073709551616) (w : World) :
    Calls Tryz.prog 170 #[.int .u64 x, .int .u64 y] w fun e w' => e = .returned (.tuple #[.int .u64 (x * y / 18446744073709551616 : Nat), .int .u64 (x * y % 18446744073709551616 : Nat)]) ∧ w = w' :=
  (bits_Mul64 x y hx hy w).mono fun _ _ ⟨h1, h2⟩ => ⟨h1, h2.symm⟩

set_option maxRecDepth 100000 in
set_option maxHeartbeats 1000000 in
theorem square_any (m p : Nat) (hm : m < 18446744073709551616) (hp : p < 18446744073709551616) (w : World) :
    Calls Tryz.prog 149 #[.int .u64 m, .int .u64 p] w fun e w' => e = .returned (.bool (Sm.squareB m p)) ∧ w = w' := by
  have HM := Lib.hid (fun wx => mul64_any m m hm hm wx)
  have hs : Sm.squareB m p = (decide (m * m / 18446744073709551616 < p) || (m * m / 18446744073709551616 == p && m * m % 18446744073709551616 == 0)) := rfl
  rw [hs]
  clear hs
  generalize m * m / 18446744073709551616 = h at *
  generalize m * m % 18446744073709551616 = l at *
  by_cases h1 : h < p
  · have e : (decide (h < p) || (h == p && l == 0)) = true := by simp [h1]
    rw [e]
    clear e
    go_enter Tryz.func149, Tryz.ntmps149
    go_wp2_with fail
    refine (HM.out _).mono ?_
    rintro e w' ⟨rfl, rfl⟩
    go_wp2
    go_ret
    exact ⟨rfl, rfl⟩
  · by_cases h2 : h = p
    · subst h2
      by_cases h3 : l = 0
      · subst h3
        have e : (decide (h < h) || (h == h && (0 : Nat) == 0)) = true := by simp
        rw [e]
        clear e
        go_enter Tryz.func149, Tryz.ntmps149
        go_wp2_with fail
        refine (HM.out _).mono ?_
        rintro e w' ⟨rfl, rfl⟩
        go_wp2
        go_ret
        exact ⟨rfl, rfl⟩
      · have h3i : ((l : Int) == 0) = false := by rw [beq_eq_false_iff_ne]; omega
        have e : (decide (h < h) || (h == h && l == 0)) = false := by simp [h3]
        rw [e]
        clear e h3
        go_enter Tryz.func149, Tryz.ntmps149
        go_wp2_with fail
        refine (HM.out _).mono ?_
        rintro e w' ⟨rfl, rfl⟩
        go_wp2
        go_ret
        exact ⟨rfl, rfl⟩
    · have h2i : ((h : Int) == (p : Int)) = false := by rw [beq_eq_false_iff_ne]; omega
      have e : (decide (h < p) || (h == p && l == 0)) = false := by simp [h1, h2]
      rw [e]
      clear e h2
      go_enter Tryz.func149, Tryz.ntmps149
      go_wp2_with fail
      refine (HM.out _).mono ?_
      rintro e w' ⟨rfl, rfl⟩
      go_wp2
      go_ret
      exact ⟨rfl, rfl⟩

theorem cube_top {m : Nat} (hm : m < 68719476736) : m * m / 18446744073709551616 * m + m * m % 18446744073709551616 * m / 18446744073709551616 < 1152921504606846976 ∧ m * m / 18446744073709551616 < 18446744073709551616 ∧ m * m / 18446744073709551616 * m < 18446744073709551616 := by
  have h1 : m * m < 68719476736 * 68719476736 := Nat.mul_lt_mul'' hm hm
  have h2 : m * m / 18446744073709551616 < 256 := by omega
  have h3 : m * m / 18446744073709551616 * m < 256 * 68719476736 := Nat.mul_lt_mul'' h2 hm
  have h4 : m * m % 18446744073709551616 * m < 18446744073709551616 * 68719476736 := Nat.mul_lt_mul'' (Nat.mod_lt _ (by decide)) hm
  refine ⟨by omega, by omega, by omega⟩

set_option maxRecDepth 100000 in
set_option maxHeartbeats 1000000 in
theorem cube_any (m p : Nat) (hm : m < 68719476736) (hp : p < 400) (w : World) :
    Calls Tryz.prog 148 #[.int .u64 m, .int .u64 p] w fun e w' => e = .returned (.bool (Sm.cubeB m p)) ∧ w = w' := by
  obtain ⟨ht, hh, hhm⟩ := cube_top hm
  have HM := Lib.hid (fun wx => mul64_any m m (by omega) (by omega) wx)
  have hl : m * m % 18446744073709551616 < 18446744073709551616 := Nat.mod_lt _ (by decide)
  have hs : Sm.cubeB m p = (decide (m * m / 18446744073709551616 * m + m * m % 18446744073709551616 * m / 18446744073709551616 < p * 4294967296) ||
    (m * m / 18446744073709551616 * m + m * m % 18446744073709551616 * m / 18446744073709551616 == p * 4294967296 && m * m % 18446744073709551616 * m % 18446744073709551616 == 0)) := rfl
  rw [hs]
  clear hs
  generalize m * m / 18446744073709551616 = h at *
  generalize m * m % 18446744073709551616 = l at *
  have HM2 := Lib.hid (fun wx => mul64_any h m hh (by omega) wx)
  have HM3 := Lib.hid (fun wx => mul64_any l m hl (by omega) wx)
  have hq : h * m % 18446744073709551616 = h * m := Nat.mod_eq_of_lt hhm
  rw [hq] at HM2
  generalize h * m / 18446744073709551616 = x at *
  generalize h * m = y at *
  generalize l * m / 18446744073709551616 = z at *
  generalize l * m % 18446744073709551616 = v at *
  obtain ⟨q, hqp⟩ : ∃ q, q = p * 4294967296 := ⟨_, rfl⟩
  have hqi : (p : Int) * 4294967296 = (q : Int) := by omega
  have hqw : IntKind.u64.wrap ((p : Int) * 2 ^ 32) = (q : Int) := by
    rw [IntKind.wrap_u64]; omega
  rw [← hqp]
  obtain ⟨s, hs⟩ : ∃ s, s = y + z := ⟨_, rfl⟩
  have hsi : (y : Int) + (z : Int) = (s : Int) := by omega
  have hs0 : (y : Int) + (z : Int) < 18446744073709551616 := by omega
  rw [← hs]
  clear hq hh hhm hl hs ht hqp
  have W : ∀ b : Bool, (s < q ∧ b = true) ∨ (s = q ∧ v = 0 ∧ b = true) ∨ (s = q ∧ ¬ v = 0 ∧ b = false) ∨ (¬ s < q ∧ ¬ s = q ∧ b = false) → Calls Tryz.prog 148 #[.int .u64 m, .int .u64 p] w fun e w' => e = .returned (.bool b) ∧ w = w' := by
    intro b hb
    rcases hb with ⟨h1, rfl⟩ | ⟨rfl, rfl, rfl⟩ | ⟨rfl, h3, rfl⟩ | ⟨h1, h2, rfl⟩
    · go_enter Tryz.func148, Tryz.ntmps148
      go_wp2_with fail
      refine (HM.out _).mono ?_
      rintro e w' ⟨rfl, rfl⟩
      go_wp2_with fail
      refine (HM2.out _).mono ?_
      rintro e w' ⟨rfl, rfl⟩
      go_wp2_with fail
      refine (HM3.out _).mono ?_
      rintro e w' ⟨rfl, rfl⟩
      go_wp2
      go_ret
      exact ⟨rfl, rfl⟩
    · go_enter Tryz.func148, Tryz.ntmps148
      go_wp2_with fail
      refine (HM.out _).mono ?_
      rintro e w' ⟨rfl, rfl⟩
      go_wp2_with fail
      refine (HM2.out _).mono ?_
      rintro e w' ⟨rfl, rfl⟩
      go_wp2_with fail
      refine (HM3.out _).mono ?_
      rintro e w' ⟨rfl, rfl⟩
      go_wp2
      go_ret
      exact ⟨rfl, rfl⟩
    · have h3i : ((v : Int) == 0) = false := by rw [beq_eq_false_iff_ne]; omega
      clear h3
      go_enter Tryz.func148, Tryz.ntmps148
      go_wp2_with fail
      refine (HM.out _).mono ?_
      rintro e w' ⟨rfl, rfl⟩
      go_wp2_with fail
      refine (HM2.out _).mono ?_
      rintro e w' ⟨rfl, rfl⟩
      go_wp2_with fail
      refine (HM3.out _).mono ?_
      rintro e w' ⟨rfl, rfl⟩
      go_wp2
      go_ret
      exact ⟨rfl, rfl⟩
    · have h2i : ((s : Int) == (q : Int)) = false := by rw [beq_eq_false_iff_ne]; omega
      clear h2
      go_enter Tryz.func148, Tryz.ntmps148
      go_wp2_with fail
      refine (HM.out _).mono ?_
      rintro e w' ⟨rfl, rfl⟩
      go_wp2_with fail
      refine (HM2.out _).mono ?_
      rintro e w' ⟨rfl, rfl⟩
      go_wp2_with fail
      refine (HM3.out _).mono ?_
      rintro e w' ⟨rfl, rfl⟩
      go_wp2
      go_ret
      exact ⟨rfl, rfl⟩
  refine W _ ?_
  by_cases h1 : s < q
  · exact .inl ⟨h1, by simp [h1]⟩
  · by_cases h2 : s = q
    · by_cases h3 : v = 0
      · exact .inr (.inl ⟨h2, h3, by simp [h2, h3]⟩)
      · exact .inr (.inr (.inl ⟨h2, h3, by simp [h2, h3]⟩))
    · exact .inr (.inr (.inr ⟨h1, h2, by simp [h1, h2]⟩))
end Go.Proofs.YtiehcplepneajaaGreatDoor

/-
  What the document's behind and rot do.
-/
namespace Go.Proofs.YtiehcplepneajaaGreatDoor
open Go.RowKit
namespace Sm
theorem w_rot (x n : Nat) (hx : x < 4294967296) : bits .or .u32 ((x / 2 ^ n : Nat) : Int) ((x * 2 ^ (32 - n) % 4294967296 : Nat) : Int) = (rot x n : Nat) := by
  rw [w_or (Nat.lt_of_le_of_lt (Nat.div_le_self _ _) hx) (Nat.mod_lt _ (by decide)), rot, Nat.or_comm]
end Sm

set_option maxRecDepth 100000 in
set_option maxHeartbeats 400000 in
theorem rsrot_any (x n : Nat) (hx : x < 4294967296) (h1 : 1 ≤ n) (h2 : n ≤ 31) (w : World) :
    Calls Tryz.prog 150 #[.int .u32 x, .int .u64 n] w fun e w' => e = .returned (.int .u32 (Sm.rot x n)) ∧ w = w' := by
  go_enter Tryz.func150, Tryz.ntmps150
  go_wp2
  go_ret
  refine ⟨ret_u32 ?_, rfl⟩
  rw [← Sm.w_rot x n hx]
  have e3 : ((x : Int) * 2 ^ (32 - n)) = ((x * 2 ^ (32 - n) : Nat) : Int) := by push_cast; rfl
  have e4 : ((x : Int) / 2 ^ n) = ((x / 2 ^ n : Nat) : Int) := by push_cast; rfl
  simp only [e3, e4]
  rfl

set_option maxRecDepth 100000 in
set_option maxHeartbeats 2000000 in
theorem behind_any (p : Nat) (three : Bool) (hp : p < 400) (w : World) :
    Calls Tryz.prog 122 #[.int .u64 p, .bool three] w fun e w' => e = .returned (.int .u32 (Sm.root three p 37 % 4294967296 : Nat)) ∧ w = w' := by
  go_enter Tryz.func122, Tryz.ntmps122
  go_wp2
  go_loop [5, 6] (fun n k => ∃ (j : Nat) (kv : Int), j ≤ 37 ∧ kv = 36 - j ∧ k = .int .i64 kv ∧ n = .int .u64 (Sm.root three p j)) (fun _ k => (intOf k + 1).toNat)
  case atStart => exact ⟨0, 36, by omega, by omega, rfl, rfl⟩
  case round =>
    obtain ⟨j, kv, hj, hkv, rfl, rfl⟩ := hrel
    by_cases hlt : j < 37
    · have hle := Sm.root_le three p j hj
      have hn : Sm.root three p (j + 1) = Sm.nxt three p (Sm.root three p j) (2 ^ (36 - j)) := rfl
      obtain ⟨d, hd⟩ : ∃ d : Nat, d = 36 - j := ⟨_, rfl⟩
      obtain rfl : kv = (d : Int) := by omega
      rw [← hd] at hn
      rw [show 37 - j = d + 1 by omega, Nat.pow_succ] at hle
      have HD := Lib.hid hd
      have hd36 : d ≤ 36 := by omega
      have hp2 : (2 : Int) ^ d = ((2 ^ d : Nat) : Int) := by push_cast; rfl
      have hpos : 0 < 2 ^ d := Nat.two_pow_pos d
      unfold Sm.nxt at hn
      generalize Sm.root three p j = r at *
      generalize 2 ^ d = pw at *
      have hm : r + pw < 137438953472 := by omega
      have hmi : (r : Int) + (pw : Int) = ((r + pw : Nat) : Int) := by omega
      have hmw : (r : Int) + (pw : Int) < 18446744073709551616 := by omega
      obtain ⟨m, hmd⟩ : ∃ m, m = r + pw := ⟨_, rfl⟩
      rw [← hmd] at hn hm hmi
      have HJ : Hid (j + 1 ≤ 37) := hlt
      have HK : Hid ((d : Int) - 1 = 36 - ((j + 1 : Nat) : Int)) := by show _ = _; omega
      clear hmd hd hkv hlt hj hle hpos
      have fin : ∀ v : Nat, Sm.root three p (j + 1) = v → (∃ (j' : Nat) (kv : Int), j' ≤ 37 ∧ kv = 36 - j' ∧ Value.int .i64 ((d : Int) - 1) = .int .i64 kv ∧ Value.int .u64 (v : Int) = .int .u64 (Sm.root three p j')) :=
        fun v hv => ⟨j + 1, (d : Int) - 1, HJ.out, HK.out, rfl, by rw [hv]⟩
      have FIN := Lib.hid fin
      clear fin
      cases three
      case true =>
        by_cases hm2 : m < 68719476736
        · have hm3 : (m : Int) < 68719476736 := by omega
          have hC := fun wx => cube_any m p hm2 hp wx
          have ht : Sm.takes true p m = Sm.cubeB m p := by simp [Sm.takes, hm2]
          rw [ht] at hn
          cases hc : Sm.cubeB m p
          case true =>
            rw [hc] at hn hC
            have HN : Hid (Sm.root true p (j + 1) = m) := by show _ = _; simpa using hn
            have HC := Lib.hid hC
            clear hn hC ht hc
            go_wp2_with fail
            refine (HC.out _).mono ?_
            rintro e w' ⟨rfl, rfl⟩
            go_wp2
            go_round
            case rel => exact FIN.out m HN.out
            case measure => simp [intOf]
          case false =>
            rw [hc] at hn hC
            have HN : Hid (Sm.root true p (j + 1) = r) := by show _ = _; simpa using hn
            have HC := Lib.hid hC
            clear hn hC ht hc
            go_wp2_with fail
            refine (HC.out _).mono ?_
            rintro e w' ⟨rfl, rfl⟩
            go_wp2
            go_round
            case rel => exact FIN.out r HN.out
            case measure => simp [intOf]
        · have hm3 : ¬ (m : Int) < 68719476736 := by omega
          have ht : Sm.takes true p m = false := by simp [Sm.takes, hm2]
          rw [ht] at hn
          have HN : Hid (Sm.root true p (j + 1) = r) := by show _ = _; simpa using hn
          clear hn ht
          go_wp2
          go_round
          case rel => exact FIN.out r HN.out
          case measure => simp [intOf]
      case false =>
        have hC := fun wx => square_any m p (by omega) (by omega) wx
        have ht : Sm.takes false p m = Sm.squareB m p := rfl
        rw [ht] at hn
        cases hc : Sm.squareB m p
        case true =>
          rw [hc] at hn hC
          have HN : Hid (Sm.root false p (j + 1) = m) := by show _ = _; simpa using hn
          have HC := Lib.hid hC
          clear hn hC ht hc
          go_wp2_with fail
          refine (HC.out _).mono ?_
          rintro e w' ⟨rfl, rfl⟩
          go_wp2
          go_round
          case rel => exact FIN.out m HN.out
          case measure => simp [intOf]
        case false =>
          rw [hc] at hn hC
          have HN : Hid (Sm.root false p (j + 1) = r) := by show _ = _; simpa using hn
          have HC := Lib.hid hC
          clear hn hC ht hc
          go_wp2_with fail
          refine (HC.out _).mono ?_
          rintro e w' ⟨rfl, rfl⟩
          go_wp2
          go_round
          case rel => exact FIN.out r HN.out
          case measure => simp [intOf]
    · obtain rfl : j = 37 := by omega
      obtain rfl : kv = -1 := by omega
      have hle := Sm.root_le three p 37 (by omega)
      obtain ⟨r, hr⟩ : ∃ r, r = Sm.root three p 37 := ⟨_, rfl⟩
      rw [← hr] at hle ⊢
      have HR := Lib.hid hr
      clear hr
      go_wp2
      go_ret
      exact ⟨ret_u32 (by rw [← HR.out]), rfl⟩
end Go.Proofs.YtiehcplepneajaaGreatDoor

/-
  The eight words, put one on: a region of the document's turn.
-/
namespace Go.Proofs.YtiehcplepneajaaGreatDoor
open Go.RowKit
namespace Sm
theorem eight_one (a b c d e f g h : Int) : (#[Value.int .u32 a, .int .u32 b, .int .u32 c, .int .u32 d, .int .u32 e, .int .u32 f, .int .u32 g, .int .u32 h] : Array Value).all (·.oneCell') = true := by
  rw [Array.all_eq_true_iff_forall_mem]
  intro v hv
  simp only [List.mem_toArray, List.mem_cons, List.not_mem_nil, or_false] at hv
  rcases hv with rfl | rfl | rfl | rfl | rfl | rfl | rfl | rfl <;> rfl
theorem info8 {c : Array Value} (h : c.size = 8) : (Tryz.prog.info? 173).map (·.size) = some c.size := by rw [h]; kernel_rfl
end Sm
noncomputable def r19 : Code := (Tryz.f123.body.bind (Sm.region? 19)).getD .skip

set_option maxRecDepth 100000 in
set_option maxHeartbeats 4000000 in
theorem r19_any {w : World} {N4 : Nat} {u : Sm.V} {y1 y2 : Nat} (K : Act → World → Prop) (h1 : y1 < 4294967296) (h2 : y2 < 4294967296) (hd : u.d < 4294967296)
    (a4 : w.cell? ⟨N4, 3, none⟩ = some (.int .u32 u.d)) {old : Array Value} (hold : old.size = 8) (hrow : Hid (w.heap[N4]? = some (.cells old 173 (0, 0))))
    {c0 c1 c2 c3 c4 c5 c6 c7 c8 c9 c10 c11 c13 c22 c23 c24 c25 c26 c27 c28 c29 c30 c31 c32 c33 c34 c35 c36 c37 c38 c39 c40 c41 c42 c43 c44 c45 c46 c47 c48 c49 c50 c51 c52 c53 c54 c55 c56 c57 c58 c59 c60 c61 c62 c63 c64 c65 c66 c67 c68 c69 c70 c71 c72 c73 c74 c75 c76 c77 c78 c79 c80 c81 c82 c83 c84 c85 c86 c87 c88 c89 c90 c91 c92 c93 c94 c95 c96 c97 c98 c99 c100 c101 c102 c103 c104 c105 c106 c107 c108 c109 c110 c111 c112 c113 c114 c115 c116 c117 c118 c119 c120 c121 c122 c123 c124 c125 c126 c127 c128 c129 c130 c131 c132 c133 c134 c135 c136 c137 c138 c139 c140 c141 c142 c143 c144 c145 c146 c147 c148 c149 c150 c151 c152 c153 c154 c155 c156 c157 c158 c159 c160 c161 c162 c163 c164 c165 c166 c167 c168 c169 c170 c171 c172 c173 c174 c175 c176 c177 c178 c179 c180 c181 c182 c183 c184 c185 c186 c187 c188 c189 c190 c191 c192 c193 c194 c195 : Value}
    (h : ∀ x168 x169 x170 x171 x172 x173 x174 x175 x176 x177 x178 x179 x180 x181 : Value, K ⟨List.toArray ((c0 : Value) :: (c1 : Value) :: (c2 : Value) :: (c3 : Value) :: (c4 : Value) :: (c5 : Value) :: (c6 : Value) :: (c7 : Value) :: (c8 : Value) :: (c9 : Value) :: (c10 : Value) :: (c11 : Value) :: (.pointer (some ⟨N4, 0, none⟩) : Value) :: (c13 : Value) :: (.int .u32 (u.a : Nat) : Value) :: (.int .u32 (u.b : Nat) : Value) :: (.int .u32 (u.c : Nat) : Value) :: (.int .u32 (u.e : Nat) : Value) :: (.int .u32 (u.f : Nat) : Value) :: (.int .u32 (u.g : Nat) : Value) :: (.int .u32 (y1 : Nat) : Value) :: (.int .u32 (y2 : Nat) : Value) :: (c22 : Value) :: (c23 : Value) :: (c24 : Value) :: (c25 : Value) :: (c26 : Value) :: (c27 : Value) :: (c28 : Value) :: (c29 : Value) :: (c30 : Value) :: (c31 : Value) :: (c32 : Value) :: (c33 : Value) :: (c34 : Value) :: (c35 : Value) :: (c36 : Value) :: (c37 : Value) :: (c38 : Value) :: (c39 : Value) :: (c40 : Value) :: (c41 : Value) :: (c42 : Value) :: (c43 : Value) :: (c44 : Value) :: (c45 : Value) :: (c46 : Value) :: (c47 : Value) :: (c48 : Value) :: (c49 : Value) :: (c50 : Value) :: (c51 : Value) :: (c52 : Value) :: (c53 : Value) :: (c54 : Value) :: (c55 : Value) :: (c56 : Value) :: (c57 : Value) :: (c58 : Value) :: (c59 : Value) :: (c60 : Value) :: (c61 : Value) :: (c62 : Value) :: (c63 : Value) :: (c64 : Value) :: (c65 : Value) :: (c66 : Value) :: (c67 : Value) :: (c68 : Value) :: (c69 : Value) :: (c70 : Value) :: (c71 : Value) :: (c72 : Value) :: (c73 : Value) :: (c74 : Value) :: (c75 : Value) :: (c76 : Value) :: (c77 : Value) :: (c78 : Value) :: (c79 : Value) :: (c80 : Value) :: (c81 : Value) :: (c82 : Value) :: (c83 : Value) :: (c84 : Value) :: (c85 : Value) :: (c86 : Value) :: (c87 : Value) :: (c88 : Value) :: (c89 : Value) :: (c90 : Value) :: (c91 : Value) :: (c92 : Value) :: (c93 : Value) :: (c94 : Value) :: (c95 : Value) :: (c96 : Value) :: (c97 : Value) :: (c98 : Value) :: (c99 : Value) :: (c100 : Value) :: (c101 : Value) :: (c102 : Value) :: (c103 : Value) :: (c104 : Value) :: (c105 : Value) :: (c106 : Value) :: (c107 : Value) :: (c108 : Value) :: (c109 : Value) :: (c110 : Value) :: (c111 : Value) :: (c112 : Value) :: (c113 : Value) :: (c114 : Value) :: (c115 : Value) :: (c116 : Value) :: (c117 : Value) :: (c118 : Value) :: (c119 : Value) :: (c120 : Value) :: (c121 : Value) :: (c122 : Value) :: (c123 : Value) :: (c124 : Value) :: (c125 : Value) :: (c126 : Value) :: (c127 : Value) :: (c128 : Value) :: (c129 : Value) :: (c130 : Value) :: (c131 : Value) :: (c132 : Value) :: (c133 : Value) :: (c134 : Value) :: (c135 : Value) :: (c136 : Value) :: (c137 : Value) :: (c138 : Value) :: (c139 : Value) :: (c140 : Value) :: (c141 : Value) :: (c142 : Value) :: (c143 : Value) :: (c144 : Value) :: (c145 : Value) :: (c146 : Value) :: (c147 : Value) :: (c148 : Value) :: (c149 : Value) :: (c150 : Value) :: (c151 : Value) :: (c152 : Value) :: (c153 : Value) :: (c154 : Value) :: (c155 : Value) :: (c156 : Value) :: (c157 : Value) :: (c158 : Value) :: (c159 : Value) :: (c160 : Value) :: (c161 : Value) :: (c162 : Value) :: (c163 : Value) :: (c164 : Value) :: (c165 : Value) :: (c166 : Value) :: (c167 : Value) :: (x168 : Value) :: (x169 : Value) :: (x170 : Value) :: (x171 : Value) :: (x172 : Value) :: (x173 : Value) :: (x174 : Value) :: (x175 : Value) :: (x176 : Value) :: (x177 : Value) :: (x178 : Value) :: (x179 : Value) :: (x180 : Value) :: (x181 : Value) :: (c182 : Value) :: (c183 : Value) :: (c184 : Value) :: (c185 : Value) :: (c186 : Value) :: (c187 : Value) :: (c188 : Value) :: (c189 : Value) :: (c190 : Value) :: (c191 : Value) :: (c192 : Value) :: (c193 : Value) :: (c194 : Value) :: (c195 : Value) :: []), []⟩ (w.setRow N4 #[Value.int .u32 (((y1 : Int) + (y2 : Int)) % 4294967296), .int .u32 (u.a : Nat), .int .u32 (u.b : Nat), .int .u32 (u.c : Nat), .int .u32 (((u.d : Int) + (y1 : Int)) % 4294967296), .int .u32 (u.e : Nat), .int .u32 (u.f : Nat), .int .u32 (u.g : Nat)])) :
    Code.wp Tryz.prog r19 (Exit.then K fun _ _ _ => False) ⟨List.toArray ((c0 : Value) :: (c1 : Value) :: (c2 : Value) :: (c3 : Value) :: (c4 : Value) :: (c5 : Value) :: (c6 : Value) :: (c7 : Value) :: (c8 : Value) :: (c9 : Value) :: (c10 : Value) :: (c11 : Value) :: (.pointer (some ⟨N4, 0, none⟩) : Value) :: (c13 : Value) :: (.int .u32 (u.a : Nat) : Value) :: (.int .u32 (u.b : Nat) : Value) :: (.int .u32 (u.c : Nat) : Value) :: (.int .u32 (u.e : Nat) : Value) :: (.int .u32 (u.f : Nat) : Value) :: (.int .u32 (u.g : Nat) : Value) :: (.int .u32 (y1 : Nat) : Value) :: (.int .u32 (y2 : Nat) : Value) :: (c22 : Value) :: (c23 : Value) :: (c24 : Value) :: (c25 : Value) :: (c26 : Value) :: (c27 : Value) :: (c28 : Value) :: (c29 : Value) :: (c30 : Value) :: (c31 : Value) :: (c32 : Value) :: (c33 : Value) :: (c34 : Value) :: (c35 : Value) :: (c36 : Value) :: (c37 : Value) :: (c38 : Value) :: (c39 : Value) :: (c40 : Value) :: (c41 : Value) :: (c42 : Value) :: (c43 : Value) :: (c44 : Value) :: (c45 : Value) :: (c46 : Value) :: (c47 : Value) :: (c48 : Value) :: (c49 : Value) :: (c50 : Value) :: (c51 : Value) :: (c52 : Value) :: (c53 : Value) :: (c54 : Value) :: (c55 : Value) :: (c56 : Value) :: (c57 : Value) :: (c58 : Value) :: (c59 : Value) :: (c60 : Value) :: (c61 : Value) :: (c62 : Value) :: (c63 : Value) :: (c64 : Value) :: (c65 : Value) :: (c66 : Value) :: (c67 : Value) :: (c68 : Value) :: (c69 : Value) :: (c70 : Value) :: (c71 : Value) :: (c72 : Value) :: (c73 : Value) :: (c74 : Value) :: (c75 : Value) :: (c76 : Value) :: (c77 : Value) :: (c78 : Value) :: (c79 : Value) :: (c80 : Value) :: (c81 : Value) :: (c82 : Value) :: (c83 : Value) :: (c84 : Value) :: (c85 : Value) :: (c86 : Value) :: (c87 : Value) :: (c88 : Value) :: (c89 : Value) :: (c90 : Value) :: (c91 : Value) :: (c92 : Value) :: (c93 : Value) :: (c94 : Value) :: (c95 : Value) :: (c96 : Value) :: (c97 : Value) :: (c98 : Value) :: (c99 : Value) :: (c100 : Value) :: (c101 : Value) :: (c102 : Value) :: (c103 : Value) :: (c104 : Value) :: (c105 : Value) :: (c106 : Value) :: (c107 : Value) :: (c108 : Value) :: (c109 : Value) :: (c110 : Value) :: (c111 : Value) :: (c112 : Value) :: (c113 : Value) :: (c114 : Value) :: (c115 : Value) :: (c116 : Value) :: (c117 : Value) :: (c118 : Value) :: (c119 : Value) :: (c120 : Value) :: (c121 : Value) :: (c122 : Value) :: (c123 : Value) :: (c124 : Value) :: (c125 : Value) :: (c126 : Value) :: (c127 : Value) :: (c128 : Value) :: (c129 : Value) :: (c130 : Value) :: (c131 : Value) :: (c132 : Value) :: (c133 : Value) :: (c134 : Value) :: (c135 : Value) :: (c136 : Value) :: (c137 : Value) :: (c138 : Value) :: (c139 : Value) :: (c140 : Value) :: (c141 : Value) :: (c142 : Value) :: (c143 : Value) :: (c144 : Value) :: (c145 : Value) :: (c146 : Value) :: (c147 : Value) :: (c148 : Value) :: (c149 : Value) :: (c150 : Value) :: (c151 : Value) :: (c152 : Value) :: (c153 : Value) :: (c154 : Value) :: (c155 : Value) :: (c156 : Value) :: (c157 : Value) :: (c158 : Value) :: (c159 : Value) :: (c160 : Value) :: (c161 : Value) :: (c162 : Value) :: (c163 : Value) :: (c164 : Value) :: (c165 : Value) :: (c166 : Value) :: (c167 : Value) :: (c168 : Value) :: (c169 : Value) :: (c170 : Value) :: (c171 : Value) :: (c172 : Value) :: (c173 : Value) :: (c174 : Value) :: (c175 : Value) :: (c176 : Value) :: (c177 : Value) :: (c178 : Value) :: (c179 : Value) :: (c180 : Value) :: (c181 : Value) :: (c182 : Value) :: (c183 : Value) :: (c184 : Value) :: (c185 : Value) :: (c186 : Value) :: (c187 : Value) :: (c188 : Value) :: (c189 : Value) :: (c190 : Value) :: (c191 : Value) :: (c192 : Value) :: (c193 : Value) :: (c194 : Value) :: (c195 : Value) :: []), []⟩ w := by
  have H := Lib.hid h
  have h1i : (y1 : Int) < 4294967296 := by omega
  have h2i : (y2 : Int) < 4294967296 := by omega
  have hdi : (u.d : Int) < 4294967296 := by omega
  have hs8 : (#[Value.int .u32 (((y1 : Int) + (y2 : Int)) % 4294967296), .int .u32 (u.a : Nat), .int .u32 (u.b : Nat), .int .u32 (u.c : Nat), .int .u32 (((u.d : Int) + (y1 : Int)) % 4294967296), .int .u32 (u.e : Nat), .int .u32 (u.f : Nat), .int .u32 (u.g : Nat)] : Array Value).size = 8 := rfl
  have ho8 := Sm.eight_one (((y1 : Int) + (y2 : Int)) % 4294967296) (u.a : Nat) (u.b : Nat) (u.c : Nat) (((u.d : Int) + (y1 : Int)) % 4294967296) (u.e : Nat) (u.f : Nat) (u.g : Nat)
  have hoo : old.size = (#[Value.int .u32 (((y1 : Int) + (y2 : Int)) % 4294967296), .int .u32 (u.a : Nat), .int .u32 (u.b : Nat), .int .u32 (u.c : Nat), .int .u32 (((u.d : Int) + (y1 : Int)) % 4294967296), .int .u32 (u.e : Nat), .int .u32 (u.f : Nat), .int .u32 (u.g : Nat)] : Array Value).size := hold
  clear h
  conv => arg 2; whnf
  go_wp2_with (first
    | (with_reducible refine wpList_build_eq rfl 173 _ rfl #[Value.int .u32 (((y1 : Int) + (y2 : Int)) % 4294967296), .int .u32 (u.a : Nat), .int .u32 (u.b : Nat), .int .u32 (u.c : Nat), .int .u32 (((u.d : Int) + (y1 : Int)) % 4294967296), .int .u32 (u.e : Nat), .int .u32 (u.f : Nat), .int .u32 (u.g : Nat)] (by kernel_rfl) ?_)
    | (with_reducible refine wpList_store_row rfl 173 (.tmp 12) (.tmp 181) rfl N4 _ rfl rfl 173 _ (by exact hrow.out) (Sm.info8 hs8) hoo ho8 ?_))
  exact H.out _ _ _ _ _ _ _ _ _ _ _ _ _ _

noncomputable def r23 : Code := (Tryz.f123.body.bind (Sm.region? 23)).getD .skip

set_option maxRecDepth 100000 in
set_option maxHeartbeats 2000000 in
theorem r23_any {w : World} {N0 N4 j x y : Nat} (K : Act → World → Prop) (hj : j < 8)
    (a1 : w.cell? ⟨N4, j, none⟩ = some (.int .u32 (x : Nat))) (a2 : w.cell? ⟨N0, j, none⟩ = some (.int .u32 (y : Nat))) (f1 : w.frozen? ⟨N4, j, none⟩ = false)
    {c0 c1 c2 c4 c5 c6 c7 c8 c9 c10 c11 c13 c14 c15 c16 c17 c18 c19 c20 c21 c23 c24 c25 c26 c27 c28 c29 c30 c31 c32 c33 c34 c35 c36 c37 c38 c39 c40 c41 c42 c43 c44 c45 c46 c47 c48 c49 c50 c51 c52 c53 c54 c55 c56 c57 c58 c59 c60 c61 c62 c63 c64 c65 c66 c67 c68 c69 c70 c71 c72 c73 c74 c75 c76 c77 c78 c79 c80 c81 c82 c83 c84 c85 c86 c87 c88 c89 c90 c91 c92 c93 c94 c95 c96 c97 c98 c99 c100 c101 c102 c103 c104 c105 c106 c107 c108 c109 c110 c111 c112 c113 c114 c115 c116 c117 c118 c119 c120 c121 c122 c123 c124 c125 c126 c127 c128 c129 c130 c131 c132 c133 c134 c135 c136 c137 c138 c139 c140 c141 c142 c143 c144 c145 c146 c147 c148 c149 c150 c151 c152 c153 c154 c155 c156 c157 c158 c159 c160 c161 c162 c163 c164 c165 c166 c167 c168 c169 c170 c171 c172 c173 c174 c175 c176 c177 c178 c179 c180 c181 c182 c183 c184 c185 c186 c187 c188 c189 c190 c191 c192 c193 c194 c195 : Value}
    (h : ∀ x186 x187 x188 x189 x190 x191 x192 x193 x194 : Value, K ⟨List.toArray ((c0 : Value) :: (c1 : Value) :: (c2 : Value) :: (.pointer (some ⟨N0, 0, none⟩) : Value) :: (c4 : Value) :: (c5 : Value) :: (c6 : Value) :: (c7 : Value) :: (c8 : Value) :: (c9 : Value) :: (c10 : Value) :: (c11 : Value) :: (.pointer (some ⟨N4, 0, none⟩) : Value) :: (c13 : Value) :: (c14 : Value) :: (c15 : Value) :: (c16 : Value) :: (c17 : Value) :: (c18 : Value) :: (c19 : Value) :: (c20 : Value) :: (c21 : Value) :: (.int .i64 j : Value) :: (c23 : Value) :: (c24 : Value) :: (c25 : Value) :: (c26 : Value) :: (c27 : Value) :: (c28 : Value) :: (c29 : Value) :: (c30 : Value) :: (c31 : Value) :: (c32 : Value) :: (c33 : Value) :: (c34 : Value) :: (c35 : Value) :: (c36 : Value) :: (c37 : Value) :: (c38 : Value) :: (c39 : Value) :: (c40 : Value) :: (c41 : Value) :: (c42 : Value) :: (c43 : Value) :: (c44 : Value) :: (c45 : Value) :: (c46 : Value) :: (c47 : Value) :: (c48 : Value) :: (c49 : Value) :: (c50 : Value) :: (c51 : Value) :: (c52 : Value) :: (c53 : Value) :: (c54 : Value) :: (c55 : Value) :: (c56 : Value) :: (c57 : Value) :: (c58 : Value) :: (c59 : Value) :: (c60 : Value) :: (c61 : Value) :: (c62 : Value) :: (c63 : Value) :: (c64 : Value) :: (c65 : Value) :: (c66 : Value) :: (c67 : Value) :: (c68 : Value) :: (c69 : Value) :: (c70 : Value) :: (c71 : Value) :: (c72 : Value) :: (c73 : Value) :: (c74 : Value) :: (c75 : Value) :: (c76 : Value) :: (c77 : Value) :: (c78 : Value) :: (c79 : Value) :: (c80 : Value) :: (c81 : Value) :: (c82 : Value) :: (c83 : Value) :: (c84 : Value) :: (c85 : Value) :: (c86 : Value) :: (c87 : Value) :: (c88 : Value) :: (c89 : Value) :: (c90 : Value) :: (c91 : Value) :: (c92 : Value) :: (c93 : Value) :: (c94 : Value) :: (c95 : Value) :: (c96 : Value) :: (c97 : Value) :: (c98 : Value) :: (c99 : Value) :: (c100 : Value) :: (c101 : Value) :: (c102 : Value) :: (c103 : Value) :: (c104 : Value) :: (c105 : Value) :: (c106 : Value) :: (c107 : Value) :: (c108 : Value) :: (c109 : Value) :: (c110 : Value) :: (c111 : Value) :: (c112 : Value) :: (c113 : Value) :: (c114 : Value) :: (c115 : Value) :: (c116 : Value) :: (c117 : Value) :: (c118 : Value) :: (c119 : Value) :: (c120 : Value) :: (c121 : Value) :: (c122 : Value) :: (c123 : Value) :: (c124 : Value) :: (c125 : Value) :: (c126 : Value) :: (c127 : Value) :: (c128 : Value) :: (c129 : Value) :: (c130 : Value) :: (c131 : Value) :: (c132 : Value) :: (c133 : Value) :: (c134 : Value) :: (c135 : Value) :: (c136 : Value) :: (c137 : Value) :: (c138 : Value) :: (c139 : Value) :: (c140 : Value) :: (c141 : Value) :: (c142 : Value) :: (c143 : Value) :: (c144 : Value) :: (c145 : Value) :: (c146 : Value) :: (c147 : Value) :: (c148 : Value) :: (c149 : Value) :: (c150 : Value) :: (c151 : Value) :: (c152 : Value) :: (c153 : Value) :: (c154 : Value) :: (c155 : Value) :: (c156 : Value) :: (c157 : Value) :: (c158 : Value) :: (c159 : Value) :: (c160 : Value) :: (c161 : Value) :: (c162 : Value) :: (c163 : Value) :: (c164 : Value) :: (c165 : Value) :: (c166 : Value) :: (c167 : Value) :: (c168 : Value) :: (c169 : Value) :: (c170 : Value) :: (c171 : Value) :: (c172 : Value) :: (c173 : Value) :: (c174 : Value) :: (c175 : Value) :: (c176 : Value) :: (c177 : Value) :: (c178 : Value) :: (c179 : Value) :: (c180 : Value) :: (c181 : Value) :: (c182 : Value) :: (c183 : Value) :: (c184 : Value) :: (c185 : Value) :: (x186 : Value) :: (x187 : Value) :: (x188 : Value) :: (x189 : Value) :: (x190 : Value) :: (x191 : Value) :: (x192 : Value) :: (x193 : Value) :: (x194 : Value) :: (c195 : Value) :: []), []⟩ (w.setCell ⟨N4, j, none⟩ (.int .u32 (((x : Int) + (y : Int)) % 4294967296))).drew) :
    Code.wp Tryz.prog r23 (Exit.then K fun _ _ _ => False) ⟨List.toArray ((c0 : Value) :: (c1 : Value) :: (c2 : Value) :: (.pointer (some ⟨N0, 0, none⟩) : Value) :: (c4 : Value) :: (c5 : Value) :: (c6 : Value) :: (c7 : Value) :: (c8 : Value) :: (c9 : Value) :: (c10 : Value) :: (c11 : Value) :: (.pointer (some ⟨N4, 0, none⟩) : Value) :: (c13 : Value) :: (c14 : Value) :: (c15 : Value) :: (c16 : Value) :: (c17 : Value) :: (c18 : Value) :: (c19 : Value) :: (c20 : Value) :: (c21 : Value) :: (.int .i64 j : Value) :: (c23 : Value) :: (c24 : Value) :: (c25 : Value) :: (c26 : Value) :: (c27 : Value) :: (c28 : Value) :: (c29 : Value) :: (c30 : Value) :: (c31 : Value) :: (c32 : Value) :: (c33 : Value) :: (c34 : Value) :: (c35 : Value) :: (c36 : Value) :: (c37 : Value) :: (c38 : Value) :: (c39 : Value) :: (c40 : Value) :: (c41 : Value) :: (c42 : Value) :: (c43 : Value) :: (c44 : Value) :: (c45 : Value) :: (c46 : Value) :: (c47 : Value) :: (c48 : Value) :: (c49 : Value) :: (c50 : Value) :: (c51 : Value) :: (c52 : Value) :: (c53 : Value) :: (c54 : Value) :: (c55 : Value) :: (c56 : Value) :: (c57 : Value) :: (c58 : Value) :: (c59 : Value) :: (c60 : Value) :: (c61 : Value) :: (c62 : Value) :: (c63 : Value) :: (c64 : Value) :: (c65 : Value) :: (c66 : Value) :: (c67 : Value) :: (c68 : Value) :: (c69 : Value) :: (c70 : Value) :: (c71 : Value) :: (c72 : Value) :: (c73 : Value) :: (c74 : Value) :: (c75 : Value) :: (c76 : Value) :: (c77 : Value) :: (c78 : Value) :: (c79 : Value) :: (c80 : Value) :: (c81 : Value) :: (c82 : Value) :: (c83 : Value) :: (c84 : Value) :: (c85 : Value) :: (c86 : Value) :: (c87 : Value) :: (c88 : Value) :: (c89 : Value) :: (c90 : Value) :: (c91 : Value) :: (c92 : Value) :: (c93 : Value) :: (c94 : Value) :: (c95 : Value) :: (c96 : Value) :: (c97 : Value) :: (c98 : Value) :: (c99 : Value) :: (c100 : Value) :: (c101 : Value) :: (c102 : Value) :: (c103 : Value) :: (c104 : Value) :: (c105 : Value) :: (c106 : Value) :: (c107 : Value) :: (c108 : Value) :: (c109 : Value) :: (c110 : Value) :: (c111 : Value) :: (c112 : Value) :: (c113 : Value) :: (c114 : Value) :: (c115 : Value) :: (c116 : Value) :: (c117 : Value) :: (c118 : Value) :: (c119 : Value) :: (c120 : Value) :: (c121 : Value) :: (c122 : Value) :: (c123 : Value) :: (c124 : Value) :: (c125 : Value) :: (c126 : Value) :: (c127 : Value) :: (c128 : Value) :: (c129 : Value) :: (c130 : Value) :: (c131 : Value) :: (c132 : Value) :: (c133 : Value) :: (c134 : Value) :: (c135 : Value) :: (c136 : Value) :: (c137 : Value) :: (c138 : Value) :: (c139 : Value) :: (c140 : Value) :: (c141 : Value) :: (c142 : Value) :: (c143 : Value) :: (c144 : Value) :: (c145 : Value) :: (c146 : Value) :: (c147 : Value) :: (c148 : Value) :: (c149 : Value) :: (c150 : Value) :: (c151 : Value) :: (c152 : Value) :: (c153 : Value) :: (c154 : Value) :: (c155 : Value) :: (c156 : Value) :: (c157 : Value) :: (c158 : Value) :: (c159 : Value) :: (c160 : Value) :: (c161 : Value) :: (c162 : Value) :: (c163 : Value) :: (c164 : Value) :: (c165 : Value) :: (c166 : Value) :: (c167 : Value) :: (c168 : Value) :: (c169 : Value) :: (c170 : Value) :: (c171 : Value) :: (c172 : Value) :: (c173 : Value) :: (c174 : Value) :: (c175 : Value) :: (c176 : Value) :: (c177 : Value) :: (c178 : Value) :: (c179 : Value) :: (c180 : Value) :: (c181 : Value) :: (c182 : Value) :: (c183 : Value) :: (c184 : Value) :: (c185 : Value) :: (c186 : Value) :: (c187 : Value) :: (c188 : Value) :: (c189 : Value) :: (c190 : Value) :: (c191 : Value) :: (c192 : Value) :: (c193 : Value) :: (c194 : Value) :: (c195 : Value) :: []), []⟩ w := by
  have H := Lib.hid h
  clear h
  conv => arg 2; whnf
  go_region
  exact H.out _ _ _ _ _ _ _ _ _
end Go.Proofs.YtiehcplepneajaaGreatDoor

/-
  What the document's turn does: the words behind a block.
-/
namespace Go.Proofs.YtiehcplepneajaaGreatDoor
open Go.RowKit
namespace Sm
theorem nums_one (l : List Nat) : (nums l).toArray.all (·.oneCell') = true := by
  rw [Array.all_eq_true_iff_forall_mem]
  intro v hv
  obtain ⟨x, _, rfl⟩ := List.mem_map.1 (by simpa [nums] using hv : v ∈ nums l)
  rfl
theorem nums_set (z : V) (j x : Nat) (hj : j < 8) : (nums z.l).toArray.setIfInBounds j (.int .u32 (x : Nat)) = (nums (V.of (z.l.set j x)).l).toArray := by
  obtain rfl | rfl | rfl | rfl | rfl | rfl | rfl | rfl : j = 0 ∨ j = 1 ∨ j = 2 ∨ j = 3 ∨ j = 4 ∨ j = 5 ∨ j = 6 ∨ j = 7 := by omega
  all_goals rfl
theorem w_t1c {u : V} (h : u.Ok) (k w : Nat) :
    IntKind.u32.wrap (IntKind.u32.wrap (IntKind.u32.wrap (IntKind.u32.wrap ((u.h : Int) + bits .xor .u32 (bits .xor .u32 (rot u.e 6 : Nat) (rot u.e 11 : Nat)) (rot u.e 25 : Nat)) + bits .xor .u32 (bits .and .u32 (u.e : Int) u.f) (bits .and .u32 (bits .xor .u32 4294967295 (u.e : Int)) u.g)) + k) + w) = (t1 u k w : Nat) := by
  rw [show (4294967295 : Int) = IntKind.u32.max from rfl, w_ch h.e h.f h.g, w_x3 (rot_lt h.e) (rot_lt h.e) (rot_lt h.e), IntKind.wrap_u32, IntKind.wrap_u32, IntKind.wrap_u32, IntKind.wrap_u32]
  unfold t1 add sum1
  omega
theorem w_mulb4 (a b c d : UInt8) : ((a.toNat : Int) * 16777216 + (b.toNat : Int) * 65536 + (c.toNat : Int) * 256 + (d.toNat : Int)) = (be4 a.toNat b.toNat c.toNat d.toNat : Nat) := by
  unfold be4; omega
end Sm

set_option maxRecDepth 100000 in
set_option maxHeartbeats 8000000 in
theorem rsturn_any (w : World) (v : Sm.V) (hv : v.Ok) (blk : List UInt8) (b o cap : Nat) (hb : b < w.heap.size) (hc : ∀ j, j < 64 → w.cell? ⟨b, o + j, none⟩ = some (.int .u8 (blk.getD j 0).toNat)) :
    Calls Tryz.prog 123 #[.agg (Sm.nums v.l).toArray, .agg (Sm.nums Sm.ks).toArray, .slice (some ⟨b, o, none⟩) 64 cap] w fun e w' => e = .returned (.agg (Sm.nums (Sm.turn v blk).l).toArray) ∧ Below w.heap.size w w' := by
  have HC := Lib.hid hc
  have HV := Lib.hid hv
  have hks : (Sm.nums Sm.ks).toArray.size = 64 := by rw [List.size_toArray, Sm.nums_length, Sm.ks_length]
  have hvs : (Sm.nums v.l).toArray.size = 8 := rfl
  clear hc hv
  obtain ⟨ca, hca⟩ : ∃ c, c = (Sm.nums v.l).toArray := ⟨_, rfl⟩
  obtain ⟨ck, hck⟩ : ∃ c, c = (Sm.nums Sm.ks).toArray := ⟨_, rfl⟩
  rw [← hca] at hvs ⊢
  rw [← hck] at hks ⊢
  have HCA := Lib.hid hca
  have HCK := Lib.hid hck
  clear hca hck
  go_enter Tryz.func123, Tryz.ntmps123
  have g1 : ((((w.alloc (.cells ca 173)).alloc (.cells ck 172)).alloc (.cells (Sm.rowOf 8 []) 173)).alloc (.cells (Sm.rowOf 64 []) 172)).heap[w.heap.size + 1 + 1 + 1]? = some (.cells (Sm.rowOf 64 []) 172 (0, 0)) := by
    have := heap_alloc_new (((w.alloc (.cells ca 173)).alloc (.cells ck 172)).alloc (.cells (Sm.rowOf 8 []) 173)) (.cells (Sm.rowOf 64 []) 172)
    simpa using this
  have g2 : ((((w.alloc (.cells ca 173)).alloc (.cells ck 172)).alloc (.cells (Sm.rowOf 8 []) 173)).alloc (.cells (Sm.rowOf 64 []) 172)).heap[w.heap.size + 1 + 1]? = some (.cells (Sm.rowOf 8 []) 173 (0, 0)) := by
    rw [Below.heap_alloc _ _ _ (by simp)]
    have := heap_alloc_new ((w.alloc (.cells ca 173)).alloc (.cells ck 172)) (.cells (Sm.rowOf 8 []) 173)
    simpa using this
  have g3 : ((((w.alloc (.cells ca 173)).alloc (.cells ck 172)).alloc (.cells (Sm.rowOf 8 []) 173)).alloc (.cells (Sm.rowOf 64 []) 172)).heap[w.heap.size + 1]? = some (.cells ck 172 (0, 0)) := by
    rw [Below.heap_alloc _ _ _ (by simp; try omega), Below.heap_alloc _ _ _ (by simp)]
    have := heap_alloc_new (w.alloc (.cells ca 173)) (.cells ck 172)
    simpa using this
  have g4 : ((((w.alloc (.cells ca 173)).alloc (.cells ck 172)).alloc (.cells (Sm.rowOf 8 []) 173)).alloc (.cells (Sm.rowOf 64 []) 172)).heap[w.heap.size]? = some (.cells ca 173 (0, 0)) := by
    rw [Below.heap_alloc _ _ _ (by simp; try omega), Below.heap_alloc _ _ _ (by simp; try omega), Below.heap_alloc _ _ _ (by simp)]
    exact heap_alloc_new w _
  have g5 : Below w.heap.size w ((((w.alloc (.cells ca 173)).alloc (.cells ck 172)).alloc (.cells (Sm.rowOf 8 []) 173)).alloc (.cells (Sm.rowOf 64 []) 172)) :=
    ((((Below.refl _ w).alloc (Nat.le_refl _) _).alloc (by simp) _).alloc (by simp; try omega) _).alloc (by simp; try omega) _
  go_wp2_with fail
  change Code.wp _ _ _ _ ((((w.alloc (.cells ca 173)).alloc (.cells ck 172)).alloc (.cells (Sm.rowOf 8 []) 173)).alloc (.cells (Sm.rowOf 64 []) 172))
  generalize (((w.alloc (.cells ca 173)).alloc (.cells ck 172)).alloc (.cells (Sm.rowOf 8 []) 173)).alloc (.cells (Sm.rowOf 64 []) 172) = W1 at *
  obtain ⟨N0, hN0⟩ : ∃ N, N = w.heap.size := ⟨_, rfl⟩
  obtain ⟨N1, hN1⟩ : ∃ N, N = w.heap.size + 1 := ⟨_, rfl⟩
  obtain ⟨N2, hN2⟩ : ∃ N, N = w.heap.size + 1 + 1 := ⟨_, rfl⟩
  obtain ⟨N3, hN3⟩ : ∃ N, N = w.heap.size + 1 + 1 + 1 := ⟨_, rfl⟩
  rw [← hN3] at g1 ⊢
  rw [← hN2] at g2 ⊢
  rw [← hN1] at g3 ⊢
  rw [← hN0] at g4 g5 hb ⊢
  have h01 : N0 < N1 := by omega
  have h12 : N1 < N2 := by omega
  have h23 : N2 < N3 := by omega
  have HN0 := Lib.hid hN0
  have G2 := Lib.hid g2
  have G3 := Lib.hid g3
  have G4 := Lib.hid g4
  have hs1 : N3 < W1.heap.size := Sm.lt_of g1
  have hcw : ∀ j, j < 64 → W1.cell? ⟨b, o + j, none⟩ = some (.int .u8 (blk.getD j 0).toNat) := fun j hj => (g5.cell (p := ⟨b, o + j, none⟩) hb).trans (HC.out j hj)
  have HCW := Lib.hid hcw
  clear hN0 hN1 hN2 hN3 g2 g3 g4 hcw HC
  have hne : b ≠ N3 := by omega
  have hbs : b < N3 := by omega
  go_loopw [8] (fun i wr => ∃ k : Nat, k ≤ 16 ∧ i = .int .i64 k ∧ wr.heap[N3]? = some (.cells (Sm.rowOf 64 ((List.range k).map (Sm.word blk))) 172 (0, 0)) ∧ Below N3 W1 wr) (fun i _ => 16 - (intOf i).toNat)
  case atStart => exact ⟨0, by omega, rfl, g1, Below.refl _ _⟩
  case round =>
    obtain ⟨k, hk, rfl, hrow, hbk⟩ := hrel
    have HR := Lib.hid hrow
    clear hrow g1
    by_cases hlt : k < 16
    · have c0 : wr.cell? ⟨b, o + 4 * k, none⟩ = some (.int .u8 (blk.getD (4 * k) 0).toNat) := (hbk.cell (p := ⟨b, o + 4 * k, none⟩) hbs).trans (HCW.out (4 * k) (by omega))
      have c1 : wr.cell? ⟨b, o + (4 * k + 1), none⟩ = some (.int .u8 (blk.getD (4 * k + 1) 0).toNat) := (hbk.cell (p := ⟨b, o + (4 * k + 1), none⟩) hbs).trans (HCW.out (4 * k + 1) (by omega))
      have c2 : wr.cell? ⟨b, o + (4 * k + 2), none⟩ = some (.int .u8 (blk.getD (4 * k + 2) 0).toNat) := (hbk.cell (p := ⟨b, o + (4 * k + 2), none⟩) hbs).trans (HCW.out (4 * k + 2) (by omega))
      have c3 : wr.cell? ⟨b, o + (4 * k + 3), none⟩ = some (.int .u8 (blk.getD (4 * k + 3) 0).toNat) := (hbk.cell (p := ⟨b, o + (4 * k + 3), none⟩) hbs).trans (HCW.out (4 * k + 3) (by omega))
      have fz := Sm.free_of HR.out k
      obtain ⟨old, hold⟩ := Sm.rowOf_some (n := 64) (l := (List.range k).map (Sm.word blk)) k (by simp; try omega) (by omega)
      have hold := Sm.cells_of HR.out k old hold
      have b0 := byte_fits (blk.getD (4 * k) 0)
      have b1 := byte_fits (blk.getD (4 * k + 1) 0)
      have b2 := byte_fits (blk.getD (4 * k + 2) 0)
      have b3 := byte_fits (blk.getD (4 * k + 3) 0)
      generalize hx0 : blk.getD (4 * k) 0 = x0 at *
      generalize hx1 : blk.getD (4 * k + 1) 0 = x1 at *
      generalize hx2 : blk.getD (4 * k + 2) 0 = x2 at *
      generalize hx3 : blk.getD (4 * k + 3) 0 = x3 at *
      have HX0 := Lib.hid hx0
      have HX1 := Lib.hid hx1
      have HX2 := Lib.hid hx2
      have HX3 := Lib.hid hx3
      clear hx0 hx1 hx2 hx3
      go_wp2
      go_region
      all_goals go_wp2
      go_roundw
      case rel =>
        refine ⟨k + 1, by omega, by go_num, ?_, (hbk.setCell (p := ⟨N3, k, none⟩) (Nat.le_refl _) _).drew⟩
        have h := Sm.heap_set HR.out k (.int .u32 (Sm.word blk k))
        have e := Sm.rowOf_set (n := 64) (l := (List.range k).map (Sm.word blk)) (by simp; omega) (Sm.word blk k)
        rw [List.length_map, List.length_range] at e
        rw [e, ← Sm.words_range] at h
        refine Eq.trans (congrArg (fun v => (wr.setCell ⟨N3, k, none⟩ (.int .u32 v)).heap[N3]?) ?_) h
        rw [Sm.word, HX0.out, HX1.out, HX2.out, HX3.out]
        exact Sm.w_mulb4 x0 x1 x2 x3
      case measure => simp [intOf]; omega
    · obtain rfl : k = 16 := by omega
      go_wp2
      rw [show ((16 : Nat) : Int) = 16 from rfl]
      obtain ⟨w1, hw1⟩ : ∃ w1, w1 = wr := ⟨_, rfl⟩
      rw [← hw1] at HR hbk ⊢
      clear hw1
      go_loopw [9] (fun i wq => ∃ j : Nat, 16 ≤ j ∧ j ≤ 64 ∧ i = .int .i64 j ∧ wq.heap[N3]? = some (.cells (Sm.rowOf 64 (Sm.words blk (j - 16))) 172 (0, 0)) ∧ Below N3 W1 wq) (fun i _ => 64 - (intOf i).toNat)
      case atStart => exact ⟨16, by omega, by omega, rfl, HR.out, hbk⟩
      case round =>
        clear HR hbk
        obtain ⟨j, hj1, hj2, rfl, hrow, hbk⟩ := hrel
        have HR := Lib.hid hrow
        clear hrow
        by_cases hlt : j < 64
        · have hlen : (Sm.words blk (j - 16)).length = j := by rw [Sm.words_length]; omega
          have hall := Sm.words_lt blk (j - 16)
          have q1 := Sm.cells_of HR.out (j - 15) _ (Sm.rowOf_get (by omega))
          have q2 := Sm.cells_of HR.out (j - 2) _ (Sm.rowOf_get (by omega))
          have q3 := Sm.cells_of HR.out (j - 16) _ (Sm.rowOf_get (by omega))
          have q4 := Sm.cells_of HR.out (j - 7) _ (Sm.rowOf_get (by omega))
          obtain ⟨old, hold⟩ := Sm.rowOf_some (n := 64) (l := Sm.words blk (j - 16)) j (by omega) hlt
          have hold := Sm.cells_of HR.out j old hold
          have fz := Sm.free_of HR.out j
          have HLEN := Lib.hid hlen
          obtain ⟨L, hL⟩ : ∃ L, L = Sm.words blk (j - 16) := ⟨_, rfl⟩
          rw [← hL] at q1 q2 q3 q4 hall
          have l1 := Sm.getD_lt hall (j - 15)
          have l2 := Sm.getD_lt hall (j - 2)
          have l3 := Sm.getD_lt hall (j - 16)
          have l4 := Sm.getD_lt hall (j - 7)
          have hnx : Sm.next L = Sm.add (Sm.add (Sm.add (L.getD (j - 16) 0) (Sm.s0 (L.getD (j - 15) 0))) (L.getD (j - 7) 0)) (Sm.s1 (L.getD (j - 2) 0)) := by
            unfold Sm.next; rw [hL, HLEN.out]
          have HL := Lib.hid hL
          have HNX := Lib.hid hnx
          clear hL hlen hall hnx
          generalize L.getD (j - 15) 0 = x1 at *
          generalize L.getD (j - 2) 0 = x2 at *
          generalize L.getD (j - 16) 0 = x3 at *
          generalize L.getD (j - 7) 0 = x4 at *
          have R1 : Hid (∀ wx : World, Calls Tryz.prog 150 #[.int .u32 (x1 : Nat), .int .u64 7] wx fun e w' => e = .returned (.int .u32 (Sm.rot x1 7 : Nat)) ∧ wx = w') := fun wx => rsrot_any x1 7 l1 (by decide) (by decide) wx
          have R2 : Hid (∀ wx : World, Calls Tryz.prog 150 #[.int .u32 (x1 : Nat), .int .u64 18] wx fun e w' => e = .returned (.int .u32 (Sm.rot x1 18 : Nat)) ∧ wx = w') := fun wx => rsrot_any x1 18 l1 (by decide) (by decide) wx
          have R3 : Hid (∀ wx : World, Calls Tryz.prog 150 #[.int .u32 (x2 : Nat), .int .u64 17] wx fun e w' => e = .returned (.int .u32 (Sm.rot x2 17 : Nat)) ∧ wx = w') := fun wx => rsrot_any x2 17 l2 (by decide) (by decide) wx
          have R4 : Hid (∀ wx : World, Calls Tryz.prog 150 #[.int .u32 (x2 : Nat), .int .u64 19] wx fun e w' => e = .returned (.int .u32 (Sm.rot x2 19 : Nat)) ∧ wx = w') := fun wx => rsrot_any x2 19 l2 (by decide) (by decide) wx
          have sA : Hid (∀ v : Value, (wr.drew.setCell ⟨N3, j, none⟩ v).cell? ⟨N3, j - 16, none⟩ = some (.int .u32 x3)) := fun v =>
            (World.cell?_setCell_other wr.drew ⟨N3, j, none⟩ ⟨N3, j - 16, none⟩ v (by intro e; injection e with _ e2; omega)).trans q3
          have sB : Hid (∀ v : Value, (wr.drew.setCell ⟨N3, j, none⟩ v).cell? ⟨N3, j - 7, none⟩ = some (.int .u32 x4)) := fun v =>
            (World.cell?_setCell_other wr.drew ⟨N3, j, none⟩ ⟨N3, j - 7, none⟩ v (by intro e; injection e with _ e2; omega)).trans q4
          have Q3 := Lib.hid q3
          have Q4 := Lib.hid q4
          go_upto_region 11 with (fail)
          have i1 : (16 : Int) ≤ j := by omega
          have i2 : (0 : Int) ≤ (j : Int) - 16 := by omega
          have i3 : (j : Int) - 16 < 64 := by omega
          have i4 : ((j : Int) - 16).toNat = j - 16 := by omega
          have i5 : (7 : Int) ≤ j := by omega
          have i6 : (0 : Int) ≤ (j : Int) - 7 := by omega
          have i7 : (j : Int) - 7 < 64 := by omega
          have i8 : ((j : Int) - 7).toNat = j - 7 := by omega
          have i9 : (0 : Int) ≤ (j : Int) := by omega
          have i10 : (j : Int) < 64 := by omega
          have i11 : IntKind.i64.wrap ((j : Int) - 16) = (j : Int) - 16 := by rw [IntKind.wrap_i64]; omega
          have i12 : IntKind.i64.wrap ((j : Int) - 7) = (j : Int) - 7 := by rw [IntKind.wrap_i64]; omega
          go_region_held3 (fun w' => w'.cell? ⟨N3, j - 16, none⟩ = some (.int .u32 x3) ∧ w'.cell? ⟨N3, j - 7, none⟩ = some (.int .u32 x4))
            (first | exact ⟨Q3.out, Q4.out⟩ | exact ⟨sA.out _, sB.out _⟩)
            ((first
              | (go_at_call 150; (with_reducible refine (R1.out _).mono ?_); rintro e w' ⟨rfl, rfl⟩)
              | (go_at_call 150; (with_reducible refine (R2.out _).mono ?_); rintro e w' ⟨rfl, rfl⟩)
              | (go_at_call 150; (with_reducible refine (R3.out _).mono ?_); rintro e w' ⟨rfl, rfl⟩)
              | (go_at_call 150; (with_reducible refine (R4.out _).mono ?_); rintro e w' ⟨rfl, rfl⟩)))
          all_goals go_wp2
          go_roundw
          case rel =>
            refine ⟨j + 1, by omega, by omega, by go_num, ?_, (hbk.setCell (p := ⟨N3, j, none⟩) (Nat.le_refl _) _).drew⟩
            have h := Sm.heap_set HR.out j (.int .u32 (Sm.next L : Nat))
            have e := Sm.rowOf_set (n := 64) (l := Sm.words blk (j - 16)) (by rw [HLEN.out]; exact hlt) (Sm.next L)
            rw [HLEN.out] at e
            rw [e] at h
            have e2 : Sm.words blk (j + 1 - 16) = Sm.words blk (j - 16) ++ [Sm.next L] := by
              rw [show j + 1 - 16 = (j - 16) + 1 by omega, HL.out]; rfl
            rw [e2]
            refine Eq.trans (congrArg (fun v => (wr.setCell ⟨N3, j, none⟩ (.int .u32 v)).heap[N3]?) ?_) h
            rw [HNX.out, Sm.w_s0 l1, Sm.w_s1 l2]
            unfold Sm.add
            omega
          case measure => simp [intOf]; omega
        · obtain rfl : j = 64 := by omega
          have hlw : (Sm.words blk 48).length = 64 := by rw [Sm.words_length]
          have hfull := Sm.rowOf_full (n := 64) (l := Sm.words blk 48) hlw
          have hr : wr.heap[N3]? = some (.cells (Sm.rowOf 64 (Sm.words blk 48)) 172 (0, 0)) := HR.out
          rw [hfull] at hr
          have HRW := Lib.hid hr
          have R4 := Lib.hid ((hbk.block N0 (by omega)).trans G4.out)
          have R3 := Lib.hid ((hbk.block N1 (by omega)).trans G3.out)
          have R2 := Lib.hid ((hbk.block N2 (by omega)).trans G2.out)
          have bk : Below N0 w wr := g5.trans (hbk.mono (by omega))
          have hsw : N3 < wr.heap.size := Nat.lt_of_lt_of_le hs1 hbk.size
          clear hfull hr HR hbk g5 HCW
          obtain ⟨w2, hw2⟩ : ∃ w2, w2 = wr := ⟨_, rfl⟩
          rw [← hw2] at HRW R2 R3 R4 bk hsw ⊢
          clear hw2
          have hvone : ca.all (·.oneCell') = true := by rw [HCA.out]; exact Sm.nums_one _
          have hst : ∀ (c : Array Value), c.size = 8 → (storeCells ⟨w2.heap.size, 0, none⟩ ca.toList).run Tryz.prog (w2.alloc (.cells c 173)) = .ok () (w2.alloc (.cells ca 173)) := fun c hc =>
            run_storeCells_new (P := Tryz.prog) w2 173 c _ (Sm.info8 hvs) (by rw [hvs]; exact hc) hvone
          have q1 := heap_alloc_new w2 (.cells ca 173)
          have q2 : (w2.alloc (.cells ca 173)).heap[N0]? = some (.cells ca 173 (0, 0)) := by rw [Below.heap_alloc _ _ _ (by omega)]; exact R4.out
          have q3 : (w2.alloc (.cells ca 173)).heap[N1]? = some (.cells ck 172 (0, 0)) := by rw [Below.heap_alloc _ _ _ (by omega)]; exact R3.out
          have q4 : (w2.alloc (.cells ca 173)).heap[N2]? = some (.cells (Sm.rowOf 8 []) 173 (0, 0)) := by rw [Below.heap_alloc _ _ _ (by omega)]; exact R2.out
          have q5 : (w2.alloc (.cells ca 173)).heap[N3]? = some (.cells (Sm.nums (Sm.words blk 48)).toArray 172 (0, 0)) := by rw [Below.heap_alloc _ _ _ (by omega)]; exact HRW.out
          have b2 : Below N0 w (w2.alloc (.cells ca 173)) := bk.alloc (by omega) _
          have RA := Lib.hid R4.out
          clear R2 R3 R4 HRW bk
          go_wp2_with (with_reducible refine wpList_load_row rfl 173 (.tmp 3) rfl N0 rfl 173 ca (0, 0) _ (by exact RA.out) Tryz.underlying173 rfl (Sm.info8 hvs) ?_)
          clear hst RA
          generalize w2.alloc (.cells ca 173) = W3 at *
          obtain ⟨N4, hN4⟩ : ∃ N, N = w2.heap.size := ⟨_, rfl⟩
          rw [← hN4] at q1 hsw ⊢
          have hs4 : N4 < W3.heap.size := Sm.lt_of q1
          rw [HCA.out] at q1
          have Q2 := Lib.hid q2
          have Q3 := Lib.hid q3
          have Q4 := Lib.hid q4
          have Q5 := Lib.hid q5
          clear q2 q3 q4 q5 hN4
          go_loopw [13] (fun i wr => ∃ k : Nat, k ≤ 64 ∧ i = .int .i64 k ∧ wr.heap[N4]? = some (.cells (Sm.nums (Sm.rounds v Sm.ks (Sm.words blk 48) k).l).toArray 173 (0, 0)) ∧ Below N4 W3 wr) (fun i _ => 64 - (intOf i).toNat)
          case atStart => exact ⟨0, by omega, rfl, q1, Below.refl _ _⟩
          case round =>
            clear q1
            obtain ⟨k, hk, rfl, hrow, hbk⟩ := hrel
            have HR := Lib.hid hrow
            clear hrow
            by_cases hlt : k < 64
            · have hok := Sm.rounds_ok HV.out Sm.ks (Sm.words blk 48) k
              have HRD : Hid (Sm.rounds v Sm.ks (Sm.words blk 48) (k + 1) = Sm.round (Sm.rounds v Sm.ks (Sm.words blk 48) k) (Sm.ks.getD k 0) ((Sm.words blk 48).getD k 0)) := rfl
              generalize Sm.rounds v Sm.ks (Sm.words blk 48) k = u at *
              have hck : wr.cell? ⟨N1, k, none⟩ = some (.int .u32 (Sm.ks.getD k 0 : Nat)) := by
                refine Sm.cells_of ((hbk.block N1 (by omega)).trans Q3.out) k _ ?_
                rw [HCK.out, List.getElem?_toArray]
                exact Sm.nums_get (by rw [Sm.ks_length]; exact hlt)
              have hcw : wr.cell? ⟨N3, k, none⟩ = some (.int .u32 ((Sm.words blk 48).getD k 0 : Nat)) := by
                refine Sm.cells_of ((hbk.block N3 (by omega)).trans Q5.out) k _ ?_
                rw [List.getElem?_toArray]
                exact Sm.nums_get (by rw [Sm.words_length]; exact hlt)
              have lk := Sm.getD_lt Sm.ks_lt k
              have lw := Sm.getD_lt (Sm.words_lt blk 48) k
              generalize Sm.ks.getD k 0 = xk at *
              generalize (Sm.words blk 48).getD k 0 = xw at *
              have a1 := Sm.cells_of HR.out 0 (.int .u32 u.a) rfl
              have a2 := Sm.cells_of HR.out 1 (.int .u32 u.b) rfl
              have a3 := Sm.cells_of HR.out 2 (.int .u32 u.c) rfl
              have a4 := Sm.cells_of HR.out 3 (.int .u32 u.d) rfl
              have a5 := Sm.cells_of HR.out 4 (.int .u32 u.e) rfl
              have a6 := Sm.cells_of HR.out 5 (.int .u32 u.f) rfl
              have a7 := Sm.cells_of HR.out 6 (.int .u32 u.g) rfl
              have a8 := Sm.cells_of HR.out 7 (.int .u32 u.h) rfl
              have R1 : Hid (∀ wx : World, Calls Tryz.prog 150 #[.int .u32 (u.e : Nat), .int .u64 6] wx fun e w' => e = .returned (.int .u32 (Sm.rot u.e 6 : Nat)) ∧ wx = w') := fun wx => rsrot_any u.e 6 hok.e (by decide) (by decide) wx
              have R2 : Hid (∀ wx : World, Calls Tryz.prog 150 #[.int .u32 (u.e : Nat), .int .u64 11] wx fun e w' => e = .returned (.int .u32 (Sm.rot u.e 11 : Nat)) ∧ wx = w') := fun wx => rsrot_any u.e 11 hok.e (by decide) (by decide) wx
              have R3 : Hid (∀ wx : World, Calls Tryz.prog 150 #[.int .u32 (u.e : Nat), .int .u64 25] wx fun e w' => e = .returned (.int .u32 (Sm.rot u.e 25 : Nat)) ∧ wx = w') := fun wx => rsrot_any u.e 25 hok.e (by decide) (by decide) wx
              have R4 : Hid (∀ wx : World, Calls Tryz.prog 150 #[.int .u32 (u.a : Nat), .int .u64 2] wx fun e w' => e = .returned (.int .u32 (Sm.rot u.a 2 : Nat)) ∧ wx = w') := fun wx => rsrot_any u.a 2 hok.a (by decide) (by decide) wx
              have R5 : Hid (∀ wx : World, Calls Tryz.prog 150 #[.int .u32 (u.a : Nat), .int .u64 13] wx fun e w' => e = .returned (.int .u32 (Sm.rot u.a 13 : Nat)) ∧ wx = w') := fun wx => rsrot_any u.a 13 hok.a (by decide) (by decide) wx
              have R6 : Hid (∀ wx : World, Calls Tryz.prog 150 #[.int .u32 (u.a : Nat), .int .u64 22] wx fun e w' => e = .returned (.int .u32 (Sm.rot u.a 22 : Nat)) ∧ wx = w') := fun wx => rsrot_any u.a 22 hok.a (by decide) (by decide) wx
              have HOK := Lib.hid hok
              have hk0 : (k : Int) < 64 := by omega
              have hsg : IntKind.u32.signed = false := rfl
              clear hok
              go_wp2_with fail
              go_quiet (fail)
              generalize hwx : wr.drewN _ = wx
              have HA2 : Hid (wx.heap[N4]? = some (.cells (Sm.nums u.l).toArray 173 (0, 0))) := by rw [← hwx]; exact HR.out
              have b8 : wx.cell? ⟨N4, 7, none⟩ = some (.int .u32 u.h) := by rw [← hwx]; exact a8
              have b4 : wx.cell? ⟨N4, 3, none⟩ = some (.int .u32 u.d) := by rw [← hwx]; exact a4
              have bk : wx.cell? ⟨N1, k, none⟩ = some (.int .u32 xk) := by rw [← hwx]; exact hck
              have bw : wx.cell? ⟨N3, k, none⟩ = some (.int .u32 xw) := by rw [← hwx]; exact hcw
              have hb2 : Below N4 W3 wx := by rw [← hwx]; exact Sm.below_drewN hbk _
              clear hwx a1 a2 a3 a4 a5 a6 a7 a8 hck hcw hbk HR
              go_wp2_with fail
              have C8 := Lib.hid b8
              have CK := Lib.hid bk
              have CW := Lib.hid bw
              have D4 := Lib.hid b4
              have B2 := Lib.hid hb2
              clear b8 bk bw b4 hb2
              go_region_held3 (fun w' => w'.cell? ⟨N4, 7, none⟩ = some (.int .u32 u.h) ∧ w'.cell? ⟨N1, k, none⟩ = some (.int .u32 xk) ∧ w'.cell? ⟨N3, k, none⟩ = some (.int .u32 xw))
                (exact ⟨C8.out, CK.out, CW.out⟩)
                ((first
                  | (go_at_call 150; (with_reducible refine (R1.out _).mono ?_); rintro e w' ⟨rfl, rfl⟩)
                  | (go_at_call 150; (with_reducible refine (R2.out _).mono ?_); rintro e w' ⟨rfl, rfl⟩)
                  | (go_at_call 150; (with_reducible refine (R3.out _).mono ?_); rintro e w' ⟨rfl, rfl⟩)))
              generalize hwy : wx.drew = wy
              have HA3 : Hid (wy.heap[N4]? = some (.cells (Sm.nums u.l).toArray 173 (0, 0))) := by rw [← hwy]; exact HA2.out
              have d4 : wy.cell? ⟨N4, 3, none⟩ = some (.int .u32 u.d) := by rw [← hwy]; exact D4.out
              have hb3 : Below N4 W3 wy := by rw [← hwy]; exact B2.out.drew
              clear hwy HA2 D4 B2 C8 CK CW
              rw [Sm.w_t1c HOK.out]
              obtain ⟨y1, hy1⟩ : ∃ y, y = Sm.t1 u xk xw := ⟨_, rfl⟩
              rw [← hy1]
              have HY1 := Lib.hid hy1
              clear hy1
              go_wp2_with fail
              refine (R4.out _).mono ?_
              rintro e w' ⟨rfl, rfl⟩
              go_wp2_with fail
              refine (R5.out _).mono ?_
              rintro e w' ⟨rfl, rfl⟩
              go_wp2_with fail
              refine (R6.out _).mono ?_
              rintro e w' ⟨rfl, rfl⟩
              go_upto_region 19 with (fail)
              rw [Sm.w_t2 HOK.out]
              obtain ⟨y2, hy2⟩ : ∃ y, y = Sm.t2 u := ⟨_, rfl⟩
              rw [← hy2]
              have HY2 := Lib.hid hy2
              clear hy2 R1 R2 R3 R4 R5 R6
              have hy1b : y1 < 4294967296 := by rw [HY1.out]; exact Sm.add_lt _ _
              have hy2b : y2 < 4294967296 := by rw [HY2.out]; exact Sm.add_lt _ _
              refine wp_then (r19_any _ hy1b hy2b HOK.out.d d4 (old := (Sm.nums u.l).toArray) rfl HA3 ?_)
              intro x168 x169 x170 x171 x172 x173 x174 x175 x176 x177 x178 x179 x180 x181
              have e1 : ((y1 : Int) + (y2 : Int)) % 4294967296 = (Sm.add y1 y2 : Nat) := by unfold Sm.add; omega
              have e2 : ((u.d : Int) + (y1 : Int)) % 4294967296 = (Sm.add u.d y1 : Nat) := by unfold Sm.add; omega
              rw [e1, e2]
              have hfin : (wy.setRow N4 (Sm.nums (Sm.round u xk xw).l).toArray).heap[N4]? = some (.cells (Sm.nums (Sm.round u xk xw).l).toArray 173 (0, 0)) := setRow_heap wy N4 _ _ _ _ HA3.out
              have hfb : Below N4 W3 (wy.setRow N4 (Sm.nums (Sm.round u xk xw).l).toArray) := Sm.below_setRow hb3 (Nat.le_refl _) _
              have hro : (Sm.nums (Sm.round u xk xw).l).toArray = #[Value.int .u32 (Sm.add y1 y2 : Nat), .int .u32 (u.a : Nat), .int .u32 (u.b : Nat), .int .u32 (u.c : Nat), .int .u32 (Sm.add u.d y1 : Nat), .int .u32 (u.e : Nat), .int .u32 (u.f : Nat), .int .u32 (u.g : Nat)] := by
                rw [HY1.out, HY2.out]; rfl
              rw [← hro]
              generalize wy.setRow N4 (Sm.nums (Sm.round u xk xw).l).toArray = wz at *
              have HFIN := Lib.hid hfin
              clear hfin hro e1 e2 HA3 d4 hb3
              go_wp2
              go_roundw
              case rel => exact ⟨k + 1, by omega, by go_num, by rw [HRD.out]; exact HFIN.out, hfb⟩
              case measure => simp [intOf]; omega
            · obtain rfl : k = 64 := by omega
              generalize hu : Sm.rounds v Sm.ks (Sm.words blk 48) 64 = u at *
              have HU := Lib.hid hu
              clear hu
              have R2 := Lib.hid ((hbk.block N2 (by omega)).trans Q4.out)
              have R0 := Lib.hid ((hbk.block N0 (by omega)).trans Q2.out)
              have bb : Below N0 w wr := b2.trans (hbk.mono (by omega))
              have hsr : N4 < wr.heap.size := Nat.lt_of_lt_of_le hs4 hbk.size
              clear hbk Q2 Q3 Q4 Q5
              go_wp2
              rw [show ((64 : Nat) : Int) = 64 from rfl]
              obtain ⟨w5, hw5⟩ : ∃ w5, w5 = wr := ⟨_, rfl⟩
              rw [← hw5] at HR R2 R0 bb hsr ⊢
              clear hw5
              go_loopw [22] (fun i wq => ∃ j : Nat, j ≤ 8 ∧ i = .int .i64 j ∧ wq.heap[N4]? = some (.cells (Sm.nums (Sm.mix u v j).l).toArray 173 (0, 0)) ∧ Below N4 w5 wq) (fun i _ => 8 - (intOf i).toNat)
              case atStart => exact ⟨0, by omega, rfl, HR.out, Below.refl _ _⟩
              case round =>
                clear HR
                obtain ⟨j, hj, rfl, hrow, hbk⟩ := hrel
                have HR := Lib.hid hrow
                clear hrow
                by_cases hlt : j < 8
                · have ca1 := Sm.cells_of HR.out j (.int .u32 ((Sm.mix u v j).l.getD j 0 : Nat)) (by rw [List.getElem?_toArray]; exact Sm.nums_get hlt)
                  have ca2 : wr.cell? ⟨N0, j, none⟩ = some (.int .u32 (v.l.getD j 0 : Nat)) := by
                    refine Sm.cells_of ((hbk.block N0 (by omega)).trans R0.out) j _ ?_
                    rw [HCA.out, List.getElem?_toArray]
                    exact Sm.nums_get hlt
                  have cf := Sm.free_of HR.out j
                  have HST : Hid (Sm.mix u v (j + 1) = Sm.V.of ((Sm.mix u v j).l.set j (Sm.add ((Sm.mix u v j).l.getD j 0) (v.l.getD j 0)))) := rfl
                  generalize Sm.mix u v j = z at *
                  generalize hxz : z.l.getD j 0 = x at *
                  generalize v.l.getD j 0 = y at *
                  have HXZ := Lib.hid hxz
                  clear hxz
                  have hji : (j : Int) < 8 := by omega
                  go_wp2_with fail
                  refine wp_then (r23_any _ hlt ca1 ca2 cf ?_)
                  intro x186 x187 x188 x189 x190 x191 x192 x193 x194
                  rw [show ((x : Int) + y) % 4294967296 = (Sm.add x y : Nat) by unfold Sm.add; omega]
                  have hN4 := (hbk.setCell (p := ⟨N4, j, none⟩) (Nat.le_refl _) (.int .u32 (Sm.add x y : Nat))).drew
                  have hh4 : (wr.setCell ⟨N4, j, none⟩ (.int .u32 (Sm.add x y : Nat))).drew.heap[N4]? = some (.cells (Sm.nums (Sm.mix u v (j + 1)).l).toArray 173 (0, 0)) := by
                    rw [HST.out, ← Sm.nums_set z j _ hlt]
                    exact Sm.heap_set HR.out j _
                  generalize (wr.setCell ⟨N4, j, none⟩ (.int .u32 (Sm.add x y : Nat))).drew = wz at *
                  have HH4 := Lib.hid hh4
                  clear hh4 ca1 ca2 cf
                  go_wp2
                  go_roundw
                  case rel => exact ⟨j + 1, by omega, by go_num, HH4.out, hN4⟩
                  case measure => simp [intOf]; omega
                · obtain rfl : j = 8 := by omega
                  have hr : wr.heap[N4]? = some (.cells (Sm.nums (Sm.turn v blk).l).toArray 173 (0, 0)) := by
                    have h := HR.out
                    rw [Sm.mix_all, ← HU.out] at h
                    unfold Sm.turn
                    exact h
                  have HR8 := Lib.hid hr
                  have HR2 := Lib.hid ((hbk.block N2 (by omega)).trans R2.out)
                  have hsz8 : (Sm.nums (Sm.turn v blk).l).toArray.size = 8 := by rw [List.size_toArray, Sm.nums_length]; rfl
                  have hz8 : (Sm.rowOf 8 []).size = (Sm.nums (Sm.turn v blk).l).toArray.size := by rw [hsz8]; exact Sm.rowOf_size (by simp)
                  have hone8 := Sm.nums_one (Sm.turn v blk).l
                  have bfin : Below N0 w wr := bb.trans (hbk.mono (by omega))
                  clear hr HR R2 R0 bb hbk
                  obtain ⟨cs, hcs⟩ : ∃ c, c = (Sm.nums (Sm.turn v blk).l).toArray := ⟨_, rfl⟩
                  rw [← hcs] at HR8 hsz8 hz8 hone8
                  have HCS := Lib.hid hcs
                  clear hcs
                  go_wp2_with (first | (with_reducible refine wpList_load_row rfl 173 (.tmp 12) rfl N4 rfl 173 cs (0, 0) _ (by exact HR8.out) Tryz.underlying173 rfl (Sm.info8 hsz8) ?_) | (with_reducible refine wpList_store_row rfl 173 (.tmp 6) (.tmp 195) rfl N2 cs rfl rfl 173 _ (by exact HR2.out) (Sm.info8 hsz8) hz8 hone8 ?_))
                  exact bodyPost_ret (v := .agg cs) (results_cell_row rfl _ _ N2 173 _ (0, 0) _ rfl (setRow_heap _ N2 _ _ _ _ HR2.out) Tryz.underlying173 rfl (Sm.info8 hsz8)) rfl ⟨by rw [HCS.out], by rw [← HN0.out]; exact Sm.below_setRow bfin (by omega) _⟩
end Go.Proofs.YtiehcplepneajaaGreatDoor

/-
  What the document's primes does: the first 64.
-/
namespace Go.Proofs.YtiehcplepneajaaGreatDoor
open Go.RowKit
namespace Sm
/-- Numbers of 64 bits as cells. -/
def u64s (l : List Nat) : List Value := l.map fun n : Nat => Value.int .u64 (n : Int)
theorem u64s_get {l : List Nat} {i : Nat} (h : i < l.length) : (u64s l)[i]? = some (.int .u64 (l.getD i 0 : Nat)) := by
  simp [u64s, h]
theorem u64s_length (l : List Nat) : (u64s l).length = l.length := by simp [u64s]
theorem info_u64 : (Tryz.prog.info? 159).map (fun i => (i.zero, i.size, i.bytes)) = some (some (.int .u64 0), 1, 8) := by kernel_rfl
/-- Is none of these a divisor? -/
def free (q : Nat) (l : List Nat) : Bool := !l.any fun x => q % x == 0
theorem free_nil (q : Nat) : free q [] = true := rfl
theorem free_snoc (q : Nat) (l : List Nat) (x : Nat) : free q (l ++ [x]) = (free q l && !(q % x == 0)) := by
  simp [free, List.any_append]
theorem take_snoc (l : List Nat) (i : Nat) (h : i < l.length) : l.take (i + 1) = l.take i ++ [l.getD i 0] := by
  rw [List.take_succ_eq_append_getElem h, List.getD_eq_getElem?_getD, List.getElem?_eq_getElem h]; rfl
theorem upTo_next (m : Nat) : upTo (m + 1) = if free (2 + m) (upTo m) then upTo m ++ [2 + m] else upTo m := by
  rw [upTo, free]
  cases (upTo m).any fun q => (2 + m) % q == 0 <;> rfl
theorem own_cell {w : World} {B : Nat} {A : Option Addr} {n c : Nat} {l : List Nat} (h : w.ownsRow B 159 1 (.slice A n c) n (u64s l)) (hn : l.length = n) (i : Nat) (hi : i < n) :
    ∃ g, A = some ⟨g, 0, none⟩ ∧ w.cell? ⟨g, i, none⟩ = some (.int .u64 (l.getD i 0 : Nat)) := by
  rcases h.2 with ⟨hv, hn0⟩ | ⟨g, cap, cur, hv, _⟩
  · omega
  · simp only [Value.slice.injEq] at hv
    obtain ⟨rfl, _, rfl⟩ := hv
    refine ⟨g, rfl, ?_⟩
    have := h.cells (g := g) rfl i _ (u64s_get (by omega))
    rw [Addr.add_mid, Nat.zero_add] at this
    exact this
end Sm

set_option maxRecDepth 100000 in
set_option maxHeartbeats 2000000 in
theorem primes_any (w : World) :
    Calls Tryz.prog 121 #[.int .i64 64] w fun e w' => ∃ A c, e = .returned (.slice A 64 c) ∧ w'.ownsRow w.heap.size 159 1 (.slice A 64 c) 64 (Sm.u64s Sm.ps) ∧ Below w.heap.size w w' := by
  obtain ⟨i0, hi, hz0, hz1, hz2⟩ := info_parts Sm.info_u64
  obtain ⟨N, hN⟩ : ∃ N, N = w.heap.size := ⟨_, rfl⟩
  have g1 : w.ownsRow N 159 1 (.slice none 0 0) 0 (Sm.u64s (Sm.upTo 0)) := ⟨rfl, .inl ⟨rfl, rfl⟩⟩
  rw [← hN]
  have HN := Lib.hid hN
  clear hN
  go_enter Tryz.func121, Tryz.ntmps121
  go_wp2
  go_loopw [3, 4] (fun v q wr => ∃ (m n : Nat) (A : Option Addr) (c : Nat), m ≤ 310 ∧ q = .int .u64 ((2 + m : Nat) : Int) ∧ n = (Sm.upTo m).length ∧ v = .slice A n c ∧ wr.ownsRow N 159 1 (.slice A n c) n (Sm.u64s (Sm.upTo m)) ∧ Below N w wr) (fun _ q _ => 312 - (intOf q).toNat)
  case atStart => exact ⟨0, 0, none, 0, by omega, rfl, rfl, rfl, g1, by rw [HN.out]; exact Below.refl _ _⟩
  case round =>
    clear g1
    obtain ⟨m, n, A, c, hm, rfl, hn, rfl, hown, hbk⟩ := hrel
    have HO := Lib.hid hown
    clear hown
    by_cases hlt : m < 310
    · have hsh := Sm.upTo_short hlt
      have hok := Sm.upTo_ok m
      have hn64 : n < 64 := by omega
      have hnx := Sm.upTo_next m
      have hcell := fun i hi => Sm.own_cell HO.out hn.symm i hi
      have HC := Lib.hid hcell
      have HOK := Lib.hid hok
      have HNX := Lib.hid hnx
      have HNL := Lib.hid hn
      have hn1 : n ≤ (Sm.upTo m).length := by omega
      have hn2 : (Sm.upTo m).length ≤ n := by omega
      clear hcell hok hnx hn hsh
      obtain ⟨q, hq⟩ : ∃ q, q = 2 + m := ⟨_, rfl⟩
      rw [← hq] at HNX ⊢
      have hqm : 2 ≤ q ∧ q < 312 := by omega
      have HQ := Lib.hid hq
      clear hq
      obtain ⟨l, hl⟩ : ∃ l, l = Sm.upTo m := ⟨_, rfl⟩
      rw [← hl] at HC HNX HOK HNL HO hn1 hn2
      have HL := Lib.hid hl
      clear hl
      go_wp2
      obtain ⟨wo, hwo⟩ : ∃ wo : World, wo = wr := ⟨_, rfl⟩
      rw [← hwo] at hbk HO HC ⊢
      clear hwo
      go_loop [5, 6] (fun b i => ∃ k : Nat, k ≤ n ∧ i = .int .i64 k ∧ b = .bool (Sm.free q (l.take k))) (fun _ i => n - (intOf i).toNat)
      case atStart => exact ⟨0, by omega, rfl, rfl⟩
      case round =>
        obtain ⟨k, hk, rfl, rfl⟩ := hrel
        by_cases hkn : k < n
        · obtain ⟨g, rfl, hc⟩ := HC.out k hkn
          have hsn := Sm.take_snoc l k (by omega)
          have hx2 : 2 ≤ l.getD k 0 ∧ l.getD k 0 < 2 + m := HOK.out _ (by
            rw [List.getD_eq_getElem?_getD, List.getElem?_eq_getElem (by omega)]; exact List.getElem_mem _)
          have hfs := Sm.free_snoc q (l.take k) (l.getD k 0)
          rw [← hsn] at hfs
          clear hsn
          generalize l.getD k 0 = x at *
          have hmod : (q : Int) % (x : Int) = ((q % x : Nat) : Int) := by omega
          generalize q % x = r at *
          have hx0 : (0 : Int) < x := by omega
          generalize Sm.free q (l.take k) = fr at *
          by_cases hr : r = 0
          · subst hr
            have HF : Hid (Sm.free q (l.take (k + 1)) = false) := by show _ = _; rw [hfs]; simp
            clear hfs
            go_wp2
            go_round
            case rel => exact ⟨k + 1, by omega, by go_num, by rw [HF.out]⟩
            case measure => simp [intOf]; omega
          · have HF : Hid (Sm.free q (l.take (k + 1)) = fr) := by show _ = _; rw [hfs]; simp [hr]
            have hri : ((r : Int) == 0) = false := by rw [beq_eq_false_iff_ne]; omega
            clear hfs hr
            go_wp2
            go_round
            case rel => exact ⟨k + 1, by omega, by go_num, by rw [HF.out]⟩
            case measure => simp [intOf]; omega
        · obtain rfl : k = n := by omega
          rw [List.take_of_length_le (by omega)]
          have hrr : Hid (Sm.upTo (m + 1) = if Sm.free q l then l ++ [q] else l) := HNX.out
          generalize Sm.free q l = fr at *
          cases fr
          case false =>
            go_wp2
            go_roundw
            case rel =>
              have e : Sm.upTo (m + 1) = l := hrr.out
              exact ⟨m + 1, k, A, c, by omega, by have := HQ.out; go_num, by rw [e]; exact HNL.out, rfl, by rw [e]; exact HO.out, hbk⟩
            case measure => have := HQ.out; simp [intOf]; omega
          case true =>
            have hone : ∀ u ∈ [Value.int .u64 (q : Int)], u.oneCell' = true := by intro u hu; simp at hu; subst hu; rfl
            have hbs := hbk.size
            have hNs : N ≤ wo.heap.size := by have := HN.out; omega
            go_wp2_with (at_builtin; refine wpList_append_own _ rfl (.tmp 27) (.tmp 29) 169 rfl N 159 i0 (.int .u64 0) 1 8 Tryz.underlying169 hi hz0 hz1 hz2 rfl (by decide) (.slice A k c) k _ rfl (HO.out.alloc _) ⟨wo.heap.size, 0, none⟩ 1 1 [.int .u64 (q : Int)] rfl rfl ?c1 hone ?c3 ?c4 ?c5 ?_)
            case c3 => unfold maxLen; omega
            case c4 => omega
            case c5 => first | omega | (simp; omega)
            · intro v' w1 hown' hgrow _
              obtain ⟨A', c', rfl⟩ := Sm.own_shape hown'
              have HO2 := Lib.hid hown'
              have hb0 : Below N wo (wo.alloc (.cells #[.int .u64 (q : Int)] 159)) := (Below.refl N wo).alloc hNs _
              have hb1 : Below N (wo.alloc (.cells #[.int .u64 (q : Int)] 159)) w1 := (Below.refl N _).grown hgrow (by simp; omega) (fun j hj => (HO.out.lt j hj).1)
              have hb2 : Below N w w1 := (hbk.trans hb0).trans hb1
              clear hown' hgrow hb0 hb1
              go_wp2
              go_roundw
              case rel =>
                have e : Sm.upTo (m + 1) = l ++ [q] := hrr.out
                refine ⟨m + 1, k + 1, A', c', by omega, by have := HQ.out; go_num, by rw [e, List.length_append]; simp; omega, rfl, ?_, hb2⟩
                rw [e]
                have h := HO2.out
                rw [show Sm.u64s l ++ [Value.int .u64 (q : Int)] = Sm.u64s (l ++ [q]) by simp [Sm.u64s]] at h
                exact h
              case measure => have := HQ.out; simp [intOf]; omega
    · obtain rfl : m = 310 := by omega
      rw [Sm.upTo_310] at HO hn
      rw [Sm.ps_length] at hn
      subst hn
      go_wp2
      go_ret
      exact ⟨A, c, rfl, HO.out, hbk⟩
end Go.Proofs.YtiehcplepneajaaGreatDoor

/-
  A row of bytes that came of a conversion of a text, and grows: for the document's sha.
-/

/-
  What the document's Sum does: a text's hash.
-/
namespace Go.Proofs.YtiehcplepneajaaGreatDoor
open Go.RowKit
namespace Sm
/-- The padded text, and its blocks. -/
def padded (t : List UInt8) : List UInt8 := t ++ pad t.length
theorem padded_length (t : List UInt8) : (padded t).length = t.length + ((119 - t.length % 64) % 64 + 9) := by
  rw [padded, List.length_append, pad_length]
theorem range_row2 {w : World} {h : Nat} {cs : List Value} {t : TypeId} (hb : w.heap[h]? = some (.cells cs.toArray t (0, 0))) : w.rangeAt h 0 cs := fun j v hv => by
  rw [Nat.zero_add]
  exact cells_of hb j v (by rw [List.getElem?_toArray]; exact hv)
theorem grown_setRow (w : World) (b : Nat) (c : Array Value) : w.grownBy (w.setRow b c) (some b) :=
  ⟨rfl, rfl, rfl, by rw [size_setRow]; exact Nat.le_refl _, fun i _ hn => setRow_other _ _ _ _ (fun e => hn (by rw [e]))⟩
theorem info32 {c : Array Value} (h : c.size = 32) : (Tryz.prog.info? 35).map (·.size) = some c.size := by rw [h]; kernel_rfl
theorem RowB.shape {w : World} {B : Nat} {v : Value} {xs : List UInt8} (h : RowB w B v xs) : ∃ A c, v = .slice A xs.length c := by
  obtain ⟨g, cap, _, _, _, h1, _⟩ := h
  exact ⟨_, cap, h1⟩
def sliceLen : Value → Nat
  | .slice _ n _ => n
  | _ => 0
theorem pad_two (t : List UInt8) : padded t = (t ++ [128]) ++ List.replicate ((119 - t.length % 64) % 64) 0 ++ be8 (t.length * 8) := by
  simp [padded, pad]
theorem rep_snoc (n : Nat) : List.replicate n (0 : UInt8) ++ [0] = List.replicate (n + 1) 0 := by
  rw [List.replicate_succ']
theorem sum_padded (t : List UInt8) : sum t = outN (st (padded t)).l := rfl
theorem h0_of : (⟨h0.l.getD 0 0, h0.l.getD 1 0, h0.l.getD 2 0, h0.l.getD 3 0, h0.l.getD 4 0, h0.l.getD 5 0, h0.l.getD 6 0, h0.l.getD 7 0⟩ : V) = h0 := rfl
end Sm

set_option maxRecDepth 100000 in
set_option maxHeartbeats 8000000 in
theorem rssum_any (s : ByteArray) (hs : s.size ≤ 35184372088832) (w : World) :
    Calls Tryz.prog 87 #[.string s] w fun e w' => e = .returned (.agg (Lib.byteCells (Sm.sum s.data.toList)).toArray) ∧ Below w.heap.size w w' := by
  have b1 : Below w.heap.size w (w.alloc (.cells (Sm.rowB 32 []) 35)) := (Below.refl _ w).alloc (Nat.le_refl _) _
  have r1 : (w.alloc (.cells (Sm.rowB 32 []) 35)).heap[w.heap.size]? = some (.cells (Sm.rowB 32 []) 35 (0, 0)) := heap_alloc_new w _
  have s1 : w.heap.size < (w.alloc (.cells (Sm.rowB 32 []) 35)).heap.size := by simp
  go_enter Tryz.func87, Tryz.ntmps87
  go_wp2_with fail
  change Calls _ _ _ (w.alloc (.cells (Sm.rowB 32 []) 35)) _
  generalize w.alloc (.cells (Sm.rowB 32 []) 35) = W1 at *
  refine (primes_any W1).mono ?_
  rintro e W2 ⟨A, c, rfl, hown, k2⟩
  have b2 := Sm.low_low b1 (Nat.le_refl _) k2
  have r2 := (k2.block _ s1).trans r1
  have s2 := k2.size
  have HO := Lib.hid hown
  clear hown k2 r1 b1
  go_wp2_with fail
  have hA0 := Sm.own_cell HO.out Sm.ps_length 0 (by omega)
  obtain ⟨g, rfl, _⟩ := hA0
  have hp2 : ∀ i, i < 64 → W2.cell? ⟨g, i, none⟩ = some (.int .u64 (Sm.ps.getD i 0 : Nat)) := fun i hi => by
    obtain ⟨g', e, h⟩ := Sm.own_cell HO.out Sm.ps_length i hi
    have e2 : g = g' := by have := Option.some.inj e; injection this
    rw [e2]; exact h
  have hg2 : g < W2.heap.size := World.block_lt_of_cell? W2 _ (hp2 0 (by omega))
  have b3 : Below w.heap.size w ((W2.alloc (.cells (Sm.rowOf 64 []) 172)).alloc (.cells (Sm.rowOf 8 []) 173)) := (b2.alloc b2.size _).alloc (Nat.le_trans b2.size (by simp)) _
  have k3 : Below W2.heap.size W2 ((W2.alloc (.cells (Sm.rowOf 64 []) 172)).alloc (.cells (Sm.rowOf 8 []) 173)) := ((Below.refl _ W2).alloc (Nat.le_refl _) _).alloc (by simp) _
  have q3 : ((W2.alloc (.cells (Sm.rowOf 64 []) 172)).alloc (.cells (Sm.rowOf 8 []) 173)).heap[W2.heap.size]? = some (.cells (Sm.rowOf 64 []) 172 (0, 0)) := by
    rw [Below.heap_alloc _ _ _ (by simp)]; exact heap_alloc_new W2 _
  have p3 : ((W2.alloc (.cells (Sm.rowOf 64 []) 172)).alloc (.cells (Sm.rowOf 8 []) 173)).heap[W2.heap.size + 1]? = some (.cells (Sm.rowOf 8 []) 173 (0, 0)) := by
    have := heap_alloc_new (W2.alloc (.cells (Sm.rowOf 64 []) 172)) (.cells (Sm.rowOf 8 []) 173)
    simpa using this
  change Code.wp _ _ _ _ ((W2.alloc (.cells (Sm.rowOf 64 []) 172)).alloc (.cells (Sm.rowOf 8 []) 173))
  generalize (W2.alloc (.cells (Sm.rowOf 64 []) 172)).alloc (.cells (Sm.rowOf 8 []) 173) = W3 at *
  have r3 := (k3.block w.heap.size (by omega)).trans r2
  have HP := Lib.hid (fun i hi => (k3.cell (p := ⟨g, i, none⟩) hg2).trans (hp2 i hi))
  obtain ⟨N, hN⟩ : ∃ N, N = w.heap.size := ⟨_, rfl⟩
  obtain ⟨M, hM⟩ : ∃ M, M = W2.heap.size := ⟨_, rfl⟩
  rw [← hM] at q3 p3 hg2 ⊢
  rw [← hN] at r3 b3 ⊢
  have hNM : N < M := by omega
  have hNw : N ≤ w.heap.size := by omega
  have HN := Lib.hid hN
  have R3 := Lib.hid r3
  have hs3 : M + 1 < W3.heap.size := Sm.lt_of p3
  have hgne : g ≠ M := by omega
  clear hp2 k3 r3 hN hM r2 b2 s1 s2 HO
  have nf : ∀ x y : Nat, x < y → y ≠ x := fun x y h => by omega
  go_loopw [6] (fun i wr => ∃ k : Nat, k ≤ 64 ∧ i = .int .i64 k ∧ wr.heap[M]? = some (.cells (Sm.rowOf 64 (Sm.ks.take k)) 172 (0, 0)) ∧ wr.heap[M + 1]? = some (.cells (Sm.rowOf 8 (Sm.h0.l.take k)) 173 (0, 0)) ∧ Below M W3 wr) (fun i _ => 64 - (intOf i).toNat)
  case atStart => exact ⟨0, by omega, rfl, q3, p3, Below.refl _ _⟩
  case round =>
    clear q3 p3 nf
    obtain ⟨k, hk, rfl, hr1, hr2, hbk⟩ := hrel
    have HR1 := Lib.hid hr1
    have HR2 := Lib.hid hr2
    clear hr1 hr2
    by_cases hlt : k < 64
    · have hki : (k : Int) < 64 := by omega
      have hpk : wr.cell? ⟨g, k, none⟩ = some (.int .u64 (Sm.ps.getD k 0 : Nat)) := (hbk.cell (p := ⟨g, k, none⟩) hg2).trans (HP.out k hlt)
      have hpok := Sm.ps_ok k hlt
      have hkr := Sm.ks_root k hlt
      have B1 : Hid (∀ wx : World, Calls Tryz.prog 122 #[.int .u64 (Sm.ps.getD k 0 : Nat), .bool true] wx fun e w' => e = .returned (.int .u32 (Sm.ks.getD k 0 : Nat)) ∧ wx = w') := fun wx => by
        rw [hkr]; exact behind_any (Sm.ps.getD k 0) true hpok.2 wx
      have l1 : (Sm.ks.take k).length = k := by rw [List.length_take, Sm.ks_length]; omega
      have e1 := Lib.hid (Sm.rowOf_set (n := 64) (l := Sm.ks.take k) (by omega) (Sm.ks.getD k 0))
      have t1 : Hid (Sm.ks.take (k + 1) = Sm.ks.take k ++ [Sm.ks.getD k 0]) := Sm.take_snoc _ _ (by rw [Sm.ks_length]; exact hlt)
      have L1 := Lib.hid l1
      obtain ⟨o1, ho1⟩ := Sm.rowOf_some (n := 64) (l := Sm.ks.take k) k (by omega) hlt
      have c1 := Sm.cells_of HR1.out k o1 ho1
      have f1 := Sm.free_of HR1.out k
      clear ho1 l1 hkr
      by_cases h8 : k < 8
      · have h8i : (k : Int) < 8 := by omega
        have hhr := Sm.h0_root k h8
        have B2 : Hid (∀ wx : World, Calls Tryz.prog 122 #[.int .u64 (Sm.ps.getD k 0 : Nat), .bool false] wx fun e w' => e = .returned (.int .u32 (Sm.h0.l.getD k 0 : Nat)) ∧ wx = w') := fun wx => by
          rw [hhr]; exact behind_any (Sm.ps.getD k 0) false hpok.2 wx
        have l2 : (Sm.h0.l.take k).length = k := by rw [List.length_take]; show min k 8 = k; omega
        have e2 := Lib.hid (Sm.rowOf_set (n := 8) (l := Sm.h0.l.take k) (by omega) (Sm.h0.l.getD k 0))
        have t2 : Hid (Sm.h0.l.take (k + 1) = Sm.h0.l.take k ++ [Sm.h0.l.getD k 0]) := Sm.take_snoc _ _ h8
        have L2 := Lib.hid l2
        obtain ⟨o2, ho2⟩ := Sm.rowOf_some (n := 8) (l := Sm.h0.l.take k) k (by omega) h8
        have c2 := Sm.cells_of HR2.out k o2 ho2
        have f2 := Sm.free_of HR2.out k
        clear ho2 l2 hhr hpok
        generalize Sm.ps.getD k 0 = pk at *
        generalize Sm.ks.getD k 0 = xk at *
        generalize Sm.h0.l.getD k 0 = xh at *
        go_wp2_with fail
        refine (B1.out _).mono ?_
        rintro e w' ⟨rfl, rfl⟩
        go_wp2_with fail
        refine (B2.out _).mono ?_
        rintro e w' ⟨rfl, rfl⟩
        go_wp2
        go_roundw
        case rel =>
          refine ⟨k + 1, by omega, by go_num, ?_, ?_, (hbk.setCell (p := ⟨M, k, none⟩) (Nat.le_refl _) _).setCell (p := ⟨M + 1, k, none⟩) (by show M ≤ M + 1; omega) _⟩
          · have e := e1.out
            rw [L1.out] at e
            rw [Below.heap_setCell _ _ _ _ (by show M ≠ M + 1; omega), t1.out, ← e]
            exact Sm.heap_set HR1.out k _
          · have e := e2.out
            rw [L2.out] at e
            rw [t2.out, ← e]
            exact Sm.heap_set ((Below.heap_setCell wr ⟨M, k, none⟩ _ (M + 1) (by show M + 1 ≠ M; omega)).trans HR2.out) k _
        case measure => simp [intOf]; omega
      · have h8i : ¬ (k : Int) < 8 := by omega
        have t2 : Hid (Sm.h0.l.take (k + 1) = Sm.h0.l.take k) := by
          show _ = _
          rw [List.take_of_length_le (by show 8 ≤ k + 1; omega), List.take_of_length_le (by show 8 ≤ k; omega)]
        clear hpok
        generalize Sm.ps.getD k 0 = pk at *
        generalize Sm.ks.getD k 0 = xk at *
        go_wp2_with fail
        refine (B1.out _).mono ?_
        rintro e w' ⟨rfl, rfl⟩
        go_wp2
        go_roundw
        case rel =>
          refine ⟨k + 1, by omega, by go_num, ?_, ?_, hbk.setCell (p := ⟨M, k, none⟩) (Nat.le_refl _) _⟩
          · have e := e1.out
            rw [L1.out] at e
            rw [t1.out, ← e]
            exact Sm.heap_set HR1.out k _
          · rw [Below.heap_setCell _ _ _ _ (by show M + 1 ≠ M; omega), t2.out]
            exact HR2.out
        case measure => simp [intOf]; omega
    · obtain rfl : k = 64 := by omega
      have ht1 : Sm.ks.take 64 = Sm.ks := List.take_of_length_le (by rw [Sm.ks_length]; exact Nat.le_refl _)
      have ht2 : Sm.h0.l.take 64 = Sm.h0.l := List.take_of_length_le (by show 8 ≤ 64; omega)
      have q4 := HR1.out
      have p4 := HR2.out
      rw [ht1, Sm.rowOf_full Sm.ks_length] at q4
      rw [ht2, Sm.rowOf_full (by rfl)] at p4
      have r4 := (hbk.block N hNM).trans R3.out
      have b4 : Below N w wr := b3.trans (hbk.mono (by omega))
      have hs4 := hbk.size
      clear HR1 HR2 HP R3 ht1 ht2 hbk b3
      obtain ⟨W4, hW4⟩ : ∃ W, W = wr := ⟨_, rfl⟩
      rw [← hW4] at q4 p4 r4 b4 hs4 ⊢
      clear hW4
      obtain ⟨hcv, hrow5, hb5⟩ := Sm.conv_rowB W4 s
      obtain ⟨W5, hW5⟩ : ∃ W, W = Lib.bytesWorld W4 5 s := ⟨_, rfl⟩
      obtain ⟨cp, hcp⟩ : ∃ c, c = grownCap W4 s.size 0 5 := ⟨_, rfl⟩
      rw [← hW5, ← hcp] at hcv hrow5
      rw [← hW5] at hb5
      have b5 := Sm.low_low b4 (by omega) hb5
      have q5 := (hb5.block M (by omega)).trans q4
      have p5 := (hb5.block (M + 1) (by omega)).trans p4
      have r5 := (hb5.block N (by omega)).trans r4
      have hs5 := hb5.size
      have k6 : Below W5.heap.size W5 (W5.alloc (.cells #[.int .u8 128] 5)) := (Below.refl _ W5).alloc (Nat.le_refl _) _
      have hR6 := hrow5.low k6 (Nat.le_refl _)
      have hx6 : (W5.alloc (.cells #[.int .u8 128] 5)).cell? ⟨W5.heap.size, 0, none⟩ = some (.int .u8 ((128 : UInt8).toNat : Int)) := Sm.cells_of (heap_alloc_new W5 _) 0 _ rfl
      have HR6 := Lib.hid hR6
      have HX6 := Lib.hid hx6
      have K6 := Lib.hid k6
      have Q5 := Lib.hid q5
      have P5 := Lib.hid p5
      have R5 := Lib.hid r5
      have hsl : s.data.toList.length = s.size := rfl
      clear hW5 hcp hrow5 hb5 q4 p4 r4 b4 hR6 hx6 k6 q5 p5 r5
      go_wp2_with (at_builtin; refine Sm.wpList_append_byte rfl (.tmp 35) (.tmp 36) rfl (.slice (some ⟨W4.heap.size, 0, none⟩) s.size cp) s.data.toList rfl HR6.out 128 W5.heap.size rfl HX6.out (by omega) (by simp; omega) ?_; intro v7 W7 hR7 hb7)
      have b7 : Below N w W7 := (b5.trans (K6.out.mono (by omega))).trans (hb7.mono (by omega))
      have kk : Below W4.heap.size W5 W7 := (K6.out.mono (by omega)).trans hb7
      have q7 := (kk.block M (by omega)).trans Q5.out
      have p7 := (kk.block (M + 1) (by omega)).trans P5.out
      have r7 := (kk.block N (by omega)).trans R5.out
      have hs7 := Nat.le_trans hs5 kk.size
      obtain ⟨L, hL⟩ : ∃ L, L = W4.heap.size := ⟨_, rfl⟩
      rw [← hL] at hR7 hs4 hs5 hs7
      have hML : M + 1 < L := by omega
      have HL := Lib.hid hL
      have HR7 := Lib.hid hR7
      have Q7 := Lib.hid q7
      have P7 := Lib.hid p7
      have R7 := Lib.hid r7
      clear hL hR7 q7 p7 r7 kk hb7 HX6 HR6 K6 Q5 P5 R5 hcv
      have hs1 : (s.data.toList ++ [128]).length = s.size + 1 := by rw [List.length_append]; rfl
      obtain ⟨A7, c7, rfl⟩ := HR7.out.shape
      obtain ⟨T0, hT0⟩ : ∃ T, T = s.data.toList ++ [128] := ⟨_, rfl⟩
      rw [← hT0] at HR7 hs1 ⊢
      have HT0 := Lib.hid hT0
      obtain ⟨n0, hn0⟩ : ∃ n, n = T0.length := ⟨_, rfl⟩
      have HR7b : Hid (Sm.RowB W7 L (.slice A7 n0 c7) (T0 ++ List.replicate 0 0)) := by
        show Sm.RowB _ _ _ _
        rw [hn0, List.replicate_zero, List.append_nil]; exact HR7.out
      have hn0s : n0 = s.size + 1 := by omega
      rw [← hn0]
      obtain ⟨Z, hZ⟩ : ∃ Z, Z = (119 - s.size % 64) % 64 := ⟨_, rfl⟩
      have HZ := Lib.hid hZ
      have hZ64 : Z < 64 := by omega
      have hZn : ∀ z, z ≤ Z → ((n0 + z) % 64 = 56 ↔ z = Z) := fun z hz => by omega
      have HZN := Lib.hid hZn
      have HN0 := Lib.hid hn0s
      have HNT := Lib.hid hn0
      clear hT0 hZ hZn hn0s hn0 HR7 hs1
      go_wp2_with fail
      go_loopw [7] (fun v wr => ∃ (z n : Nat) (A : Option Addr) (c : Nat), z ≤ Z ∧ n = n0 + z ∧ v = .slice A n c ∧ Sm.RowB wr L (.slice A n c) (T0 ++ List.replicate z 0) ∧ Below L W7 wr) (fun v _ => (n0 + Z) - Sm.sliceLen v)
      case atStart => exact ⟨0, n0, A7, c7, by omega, rfl, rfl, HR7b.out, Below.refl _ _⟩
      case round =>
        clear HR7b
        obtain ⟨z, n, A, c, hz, hn, rfl, hrow, hbk⟩ := hrel
        have HR := Lib.hid hrow
        have hiff := HZN.out z hz
        have hnl : n ≤ 35184372089000 := by have := HN0.out; omega
        have HNN := Lib.hid hn
        rw [← hn] at hiff
        clear hrow hn
        have hmr : (n : Int) % 64 = ((n % 64 : Nat) : Int) := by omega
        generalize n % 64 = r at *
        by_cases hzz : z = Z
        · have hr56 : r = 56 := hiff.2 hzz
          subst hr56
          go_wp2
          have hRw := HR.out
          rw [hzz] at hRw
          have hlen : (T0 ++ List.replicate Z 0).length = n := by
            rw [List.length_append, List.length_replicate, ← HNT.out]; have := HNN.out; omega
          obtain ⟨T1, hT1⟩ : ∃ T, T = T0 ++ List.replicate Z 0 := ⟨_, rfl⟩
          rw [← hT1] at hRw hlen
          have hPAD : Hid (Sm.padded s.data.toList = T1 ++ Sm.be8 (s.size * 8)) := by
            show _ = _
            rw [Sm.pad_two, hT1, HT0.out, HZ.out]; rfl
          have HRW := Lib.hid hRw
          have HLEN := Lib.hid hlen
          have hsn : s.size ≤ 35184372088832 := hs
          obtain ⟨W8, hW8⟩ : ∃ W, W = wr := ⟨_, rfl⟩
          rw [← hW8] at HRW hbk ⊢
          have b8 : Below N w W8 := b7.trans (hbk.mono (by omega))
          have Q8 := Lib.hid ((hbk.block M (by omega)).trans Q7.out)
          have P8 := Lib.hid ((hbk.block (M + 1) (by omega)).trans P7.out)
          have R8 := Lib.hid ((hbk.block N (by omega)).trans R7.out)
          have hs8 := Nat.le_trans hs7 hbk.size
          clear hW8 hRw hlen hT1 HR hbk b7 Q7 P7 R7 hs7 hiff hmr hzz HZN HZ HT0 HNT HN0
          have hstart : Sm.RowB W8 L (.slice A n c) (T1 ++ (Sm.be8 (s.size * 8)).take 0) := by
            rw [List.take_zero, List.append_nil]; exact HRW.out
          go_loopw [7, 9] (fun v i wr => ∃ (j m : Nat) (kv : Int) (A : Option Addr) (c : Nat), j ≤ 8 ∧ kv = 7 - j ∧ i = .int .i64 kv ∧ m = n + j ∧ v = .slice A m c ∧ Sm.RowB wr L (.slice A m c) (T1 ++ (Sm.be8 (s.size * 8)).take j) ∧ Below L W8 wr) (fun _ i _ => (intOf i + 1).toNat)
          case atStart => exact ⟨0, n, 7, A, c, by omega, by omega, rfl, rfl, rfl, hstart, Below.refl _ _⟩
          case round =>
            clear hstart
            obtain ⟨j, m, kv, A', c', hj, hkv, rfl, hm, rfl, hrow, hbk⟩ := hrel
            have HR := Lib.hid hrow
            have HM := Lib.hid hm
            have hml : m ≤ 35184372089100 := by omega
            clear hrow hm
            by_cases hlt : j < 8
            · obtain ⟨d, hd⟩ : ∃ d : Nat, d = 7 - j := ⟨_, rfl⟩
              obtain rfl : kv = (d : Int) := by omega
              have hd8 : d < 8 := by omega
              have hdi : (0 : Int) ≤ d := by omega
              have hX : ((s.size : Int) * 8 / 2 ^ (8 * d) % 256) = ((UInt8.ofNat (s.size * 8 / 2 ^ (8 * d))).toNat : Int) := by
                rw [UInt8.toNat_ofNat']; push_cast; rfl
              have HX := Lib.hid hX
              have hst : Hid ((Sm.be8 (s.size * 8)).take (j + 1) = (Sm.be8 (s.size * 8)).take j ++ [UInt8.ofNat (s.size * 8 / 2 ^ (8 * d))]) := by
                show _ = _
                rw [Sm.be8_step _ _ hlt, show 56 - 8 * j = 8 * d by omega]
              have hsw := hbk.size
              have HKV := Lib.hid hkv
              have HD := Lib.hid hd
              have k6 : Below wr.heap.size wr (wr.alloc (.cells #[.int .u8 ((s.size : Int) * 8 / 2 ^ (8 * d) % 256)] 5)) := (Below.refl _ wr).alloc (Nat.le_refl _) _
              have HR6 := Lib.hid (HR.out.low k6 (Nat.le_refl _))
              have HX6 : Hid ((wr.alloc (.cells #[.int .u8 ((s.size : Int) * 8 / 2 ^ (8 * d) % 256)] 5)).cell? ⟨wr.heap.size, 0, none⟩ = some (.int .u8 ((UInt8.ofNat (s.size * 8 / 2 ^ (8 * d))).toNat : Int))) := by
                show _ = _
                rw [← HX.out]
                exact Sm.cells_of (heap_alloc_new wr _) 0 _ rfl
              have hxl : (T1 ++ (Sm.be8 (s.size * 8)).take j).length = m := by
                rw [List.length_append, HLEN.out, List.length_take, Sm.be8_length, HM.out]; omega
              have K6 := Lib.hid k6
              have HXL := Lib.hid hxl
              have HJ : Hid ((d : Int) - 1 = 7 - ((j + 1 : Nat) : Int)) := by show _ = _; omega
              clear hX hd hkv k6 hxl
              go_wp2_with (at_builtin; refine Sm.wpList_append_byte rfl (.tmp 53) (.tmp 60) rfl (.slice A' m c') (T1 ++ (Sm.be8 (s.size * 8)).take j) rfl HR6.out (UInt8.ofNat (s.size * 8 / 2 ^ (8 * d))) wr.heap.size rfl HX6.out (by have := HXL.out; omega) (by simp; omega) ?_; intro v9 W9 hR9 hb9)
              rw [List.append_assoc, ← hst.out] at hR9
              have hlen9 : (T1 ++ (Sm.be8 (s.size * 8)).take (j + 1)).length = m + 1 := by
                rw [List.length_append, HLEN.out, List.length_take, Sm.be8_length, HM.out]; omega
              obtain ⟨A9, c9, rfl⟩ := hR9.shape
              rw [hlen9] at hR9 ⊢
              have HR9 := Lib.hid hR9
              have HB9 := Lib.hid ((hbk.trans (K6.out.mono (by omega))).trans hb9)
              clear hR9 hb9 hlen9
              go_wp2
              go_roundw
              case rel => exact ⟨j + 1, m + 1, (d : Int) - 1, A9, c9, by omega, HJ.out, rfl, by have := HM.out; omega, rfl, HR9.out, HB9.out⟩
              case measure => simp [intOf]
            · obtain rfl : j = 8 := by omega
              obtain rfl : kv = -1 := by omega
              have hpl := Sm.padded_length s.data.toList
              have hrw := HR.out
              rw [List.take_of_length_le (by rw [Sm.be8_length]; omega), ← hPAD.out] at hrw
              obtain ⟨PT, hPT⟩ : ∃ P, P = Sm.padded s.data.toList := ⟨_, rfl⟩
              have HSUM : Hid (Sm.sum s.data.toList = Sm.outN (Sm.st PT).l) := by show _ = _; rw [hPT]; exact Sm.sum_padded _
              have hpm : PT.length = m := by rw [hPT, hPAD.out, List.length_append, HLEN.out, Sm.be8_length, HM.out]
              have hm64 : m % 64 = 0 := by
                have e : (Sm.padded s.data.toList).length = m := by rw [← hPT]; exact hpm
                rw [hpl] at e
                have e2 : s.data.toList.length = s.size := rfl
                omega
              rw [← hPT] at hrw
              obtain ⟨W9, hW9⟩ : ∃ W, W = wr := ⟨_, rfl⟩
              rw [← hW9] at hrw hbk ⊢
              have b9 : Below N w W9 := b8.trans (hbk.mono (by omega))
              have q9 := (hbk.block M (by omega)).trans Q8.out
              have p9 := (hbk.block (M + 1) (by omega)).trans P8.out
              have r9 := (hbk.block N (by omega)).trans R8.out
              have hs9 := Nat.le_trans hs8 hbk.size
              obtain ⟨gb, cap, cur, lo, hi, hA', hgb, hrow9, hle9, hcs9, hfr9, hcell9⟩ := hrw
              have hA2 : A' = some ⟨gb, 0, none⟩ := by injection hA'
              have hc2 : c' = cap := by injection hA'
              subst hA2
              subst hc2
              have hgb9 : gb < W9.heap.size := Sm.lt_of hrow9
              have HCELL : Hid (∀ j, j < m → W9.cell? ⟨gb, j, none⟩ = some (.int .u8 (PT.getD j 0).toNat)) := fun j hj => by
                have h := hcell9 j (by omega)
                simp only [World.cell?, hrow9]
                exact h
              have hcapm : m ≤ c' := by omega
              have hgbM : gb ≠ M + 1 := by omega
              have HPM := Lib.hid hpm
              have Q9 := Lib.hid q9
              have P9 := Lib.hid p9
              have R9 := Lib.hid r9
              have hM1 : M + 1 < W9.heap.size := by omega
              have hMM : M < W9.heap.size := by omega
              have hN9 : N < W9.heap.size := by omega
              clear hW9 HR hbk b8 Q8 P8 R8 hs8 hA' hrow9 hle9 hcs9 hfr9 hcell9 hpl q9 r9 hPT HRW hPAD HLEN hpm hkv
              obtain ⟨ck, hck⟩ : ∃ c, c = Sm.nums Sm.ks := ⟨_, rfl⟩
              have HCK := Lib.hid hck
              have HI64 : Hid ((Tryz.prog.info? 172).map (·.size) = some ck.length) := by show _ = _; rw [hck, Sm.nums_length, Sm.ks_length]; kernel_rfl
              have HU64 : Hid (Tryz.prog.underlying 172 = some (.array 64 171)) := Tryz.underlying172
              have HU8 : Hid (Tryz.prog.underlying 173 = some (.array 8 171)) := Tryz.underlying173
              clear hck
              go_wp2_with fail
              go_loopw [10] (fun a wr => ∃ (i at' : Nat), i ≤ m / 64 ∧ at' = 64 * i ∧ a = .int .i64 at' ∧ wr.heap[M + 1]? = some (.cells (Sm.nums (Sm.feed Sm.h0 i PT).l).toArray 173 (0, 0)) ∧ W9.grownBy wr (some (M + 1))) (fun a _ => m - (intOf a).toNat)
              case atStart => exact ⟨0, 0, by omega, rfl, rfl, p9, Sm.grown_refl _ _⟩
              case round =>
                clear p9
                obtain ⟨i, at', hi, hat, rfl, hrv, hgr⟩ := hrel
                have HAT := Lib.hid hat
                by_cases hlt : i < m / 64
                · have h1i : (at' : Int) < m := by omega
                  have h2i : (at' : Int) + 64 ≤ m := by omega
                  have h3i : (0 : Int) ≤ at' := by omega
                  have hamx : at' ≤ 35184372089100 := by omega
                  have haw : IntKind.i64.wrap ((at' : Int) + 64) = (at' : Int) + 64 := by rw [IntKind.wrap_i64]; omega
                  have hsz : at' + 64 ≤ m := by omega
                  have j1 : (0 : Int) ≤ (at' : Int) + 64 := by omega
                  have j2 : (at' : Int) + 64 ≤ c' := by omega
                  have j3 : ((at' : Int) + 64).toNat = at' + 64 := by omega
                  have j4 : ¬ c' = at' := by omega
                  have j5 : at' + 64 - at' = 64 := by omega
                  have hok := Sm.feed_ok Sm.h0_ok i PT
                  have HFD : Hid (Sm.feed Sm.h0 (i + 1) PT = Sm.turn (Sm.feed Sm.h0 i PT) ((PT.drop (64 * i)).take 64)) := Sm.feed_snoc _ _ _
                  have hcw : ∀ j, j < 64 → wr.drew.cell? ⟨gb, at' + j, none⟩ = some (.int .u8 (((PT.drop (64 * i)).take 64).getD j 0).toNat) := fun j hj => by
                    have h := (Sm.grown_cell hgr hgb9 hgbM (o := at' + j)).trans (HCELL.out (at' + j) (by omega))
                    have e : ((PT.drop (64 * i)).take 64).getD j 0 = PT.getD (at' + j) 0 := by
                      rw [List.getD_eq_getElem?_getD, List.getElem?_take, if_pos hj, List.getElem?_drop, ← HAT.out, List.getD_eq_getElem?_getD]
                    rw [e]; exact h
                  have hgw : gb < wr.drew.heap.size := Nat.lt_of_lt_of_le hgb9 hgr.size
                  have hT := rsturn_any wr.drew (Sm.feed Sm.h0 i PT) hok ((PT.drop (64 * i)).take 64) gb at' (c' - at') hgw hcw
                  obtain ⟨cv, hcv⟩ : ∃ c, c = Sm.nums (Sm.feed Sm.h0 i PT).l := ⟨_, rfl⟩
                  rw [← hcv, ← HCK.out] at hT
                  rw [← hcv] at hrv
                  have TURN := Lib.hid hT
                  have HCV : Hid (cv.toArray.size = 8) := by show _ = _; rw [hcv, List.size_toArray, Sm.nums_length]; rfl
                  have HI8 : Hid ((Tryz.prog.info? 173).map (·.size) = some cv.length) := by show _ = _; rw [hcv, Sm.nums_length]; kernel_rfl
                  have HC8 : Hid ((Sm.nums (Sm.turn (Sm.feed Sm.h0 i PT) ((PT.drop (64 * i)).take 64)).l).toArray.size = 8) := by show _ = _; rw [List.size_toArray, Sm.nums_length]; rfl
                  have HO8 := Lib.hid (Sm.nums_one (Sm.turn (Sm.feed Sm.h0 i PT) ((PT.drop (64 * i)).take 64)).l)
                  have RV0 : Hid (wr.drew.heap[M + 1]? = some (.cells cv.toArray 173 (0, 0))) := hrv
                  have RV : Hid (wr.drew.rangeAt (M + 1) 0 cv) := Sm.range_row2 RV0.out
                  have hqk : wr.drew.heap[M]? = some (.cells (Sm.nums Sm.ks).toArray 172 (0, 0)) := (hgr.block M hMM (by intro e; have := Option.some.inj e; omega)).trans Q9.out
                  rw [← HCK.out] at hqk
                  have RK : Hid (wr.drew.rangeAt M 0 ck) := Sm.range_row2 hqk
                  have HM1 : Hid (M + 1 < wr.drew.heap.size) := Sm.lt_of RV0.out
                  have hgr : W9.grownBy wr.drew (some (M + 1)) := grown_drew hgr
                  clear hrv hok hcw hgw hT hcv hqk hat
                  go_upto_region 21 with (fail)
                  refine wp_region_noPanic ?_
                  refine wp_region_held_drew (S := fun _ => True) (by kernel_rfl) trivial (fun hHeld => ?_)
                  refine wpAnyH_take (i := 2) (oi := ⟨some 70, _, _, _, _, _⟩) (v := (.slice (some ⟨gb, 0, none⟩) m c')) rfl (by kernel_rfl) (by kernel_rfl) (by kernel_rfl) (fun _ _ _ h => h) (Or.inl ⟨by rfl, ?_⟩) (by assumption) ?_
                  · intro w hSw; (try dsimp only at hSw); go_simp
                  simp only [Act.put, List.setIfInBounds_toArray, List.set_cons_zero, List.set_cons_succ]
                  refine wpAnyH_take (i := 3) (oi := ⟨some 71, _, _, _, _, _⟩) (v := (.int .i64 at')) rfl (by kernel_rfl) (by kernel_rfl) (by kernel_rfl) (fun _ _ _ h => h) (Or.inl ⟨by rfl, ?_⟩) (by assumption) ?_
                  · intro w hSw; (try dsimp only at hSw); go_simp
                  simp only [Act.put, List.setIfInBounds_toArray, List.set_cons_zero, List.set_cons_succ]
                  refine wpAnyH_take (i := 4) (oi := ⟨some 72, _, _, _, _, _⟩) (v := (.int .i64 at')) rfl (by kernel_rfl) (by kernel_rfl) (by kernel_rfl) (fun _ _ _ h => h) (Or.inl ⟨by rfl, ?_⟩) (by assumption) ?_
                  · intro w hSw; (try dsimp only at hSw); go_simp
                  simp only [Act.put, List.setIfInBounds_toArray, List.set_cons_zero, List.set_cons_succ]
                  refine wpAnyH_take (i := 5) (oi := ⟨some 73, _, _, _, _, _⟩) (v := (.int .i64 ((at' : Int) + 64))) rfl (by kernel_rfl) (by kernel_rfl) (by kernel_rfl) (fun _ _ _ h => h) (Or.inl ⟨by rfl, ?_⟩) (by assumption) ?_
                  · intro w hSw; (try dsimp only at hSw); go_simp
                  simp only [Act.put, List.setIfInBounds_toArray, List.set_cons_zero, List.set_cons_succ]
                  refine wpAnyH_take (i := 6) (oi := ⟨some 74, _, _, _, _, _⟩) (v := (.slice (some ⟨gb, at', none⟩) 64 (c' - at'))) rfl (by kernel_rfl) (by kernel_rfl) (by kernel_rfl) (fun _ _ _ h => h) (Or.inl ⟨by rfl, ?_⟩) (by assumption) ?_
                  · intro w hSw; (try dsimp only at hSw); go_simp
                  simp only [Act.put, List.setIfInBounds_toArray, List.set_cons_zero, List.set_cons_succ]
                  refine wpAnyH_ready (rs := [0, 1]) (by kernel_rfl) (by simp) ?_
                  refine AllReadyH.cons (o := ⟨some 68, _, _, _, _, _⟩) rfl (fun K hK => ?_) (AllReadyH.cons (o := ⟨some 69, _, _, _, _, _⟩) rfl (fun K hK => ?_) AllReadyH.nil)
                  · rw [if_pos (by rfl)]
                    refine wp_load_mid 173 (.tmp 5) rfl (M + 1) 0 rfl cv _ RV.out HU8.out rfl HI8.out ?_
                    simp only [Act.put, List.setIfInBounds_toArray, List.set_cons_zero, List.set_cons_succ]
                    refine hK.out _ _ trivial (fun _ => ?_)
                    clear hK K
                    refine wpAnyH_ready (rs := [1]) (by kernel_rfl) (by simp) ?_
                    refine AllReadyH.cons (o := ⟨some 69, _, _, _, _, _⟩) rfl (fun K hK => ?_) AllReadyH.nil
                    rw [if_pos (by rfl)]
                    refine wp_load_mid 172 (.tmp 4) rfl M 0 rfl ck _ RK.out HU64.out rfl HI64.out ?_
                    simp only [Act.put, List.setIfInBounds_toArray, List.set_cons_zero, List.set_cons_succ]
                    refine hK.out _ _ trivial (fun _ => ?_)
                    clear hK K
                    refine wpAnyH_ready (rs := [7]) (by kernel_rfl) (by simp) ?_
                    refine AllReadyH.cons (o := ⟨some 75, _, _, _, _, _⟩) rfl (fun K hK => ?_) AllReadyH.nil
                    go_simp
                    refine (TURN.out).mono ?_
                    rintro e W11 ⟨rfl, k11⟩
                    have r11 := (k11.block (M + 1) HM1.out).trans RV0.out
                    have HR11 := Lib.hid r11
                    have HG11 := Lib.hid (Sm.grown_below hgr (k11.mono hgr.size))
                    clear r11 k11
                    refine hK.out _ _ trivial (fun _ => ?_)
                    clear hK K
                    refine wpAnyH_ready (rs := [8]) (by kernel_rfl) (by simp) ?_
                    refine AllReadyH.cons (o := ⟨none, _, _, _, _, _⟩) rfl (fun K hK => ?_) AllReadyH.nil
                    rw [if_pos (by rfl)]
                    refine wp_store_row 173 (.tmp 5) (.tmp 75) rfl (M + 1) _ rfl rfl 173 _ HR11.out (Sm.info8 HC8.out) (HCV.out.trans HC8.out.symm) HO8.out ?_
                    simp only [Act.put]
                    refine hK.out _ _ trivial (fun _ => ?_)
                    clear hK K
                    refine wpAnyH_done (by kernel_rfl) ?_ _
                    refine NoPanic.normal ?_
                    have hfin := setRow_heap W11 (M + 1) _ (Sm.nums (Sm.turn (Sm.feed Sm.h0 i PT) ((PT.drop (64 * i)).take 64)).l).toArray _ _ HR11.out
                    have hgf := Sm.grown_trans HG11.out (Sm.grown_setRow W11 (M + 1) (Sm.nums (Sm.turn (Sm.feed Sm.h0 i PT) ((PT.drop (64 * i)).take 64)).l).toArray)
                    rw [← HFD.out] at hfin hgf ⊢
                    generalize W11.setRow (M + 1) (Sm.nums (Sm.feed Sm.h0 (i + 1) PT).l).toArray = W12 at *
                    have HFIN := Lib.hid hfin
                    clear hfin HR11 HG11
                    go_wp2
                    go_roundw
                    case rel => exact ⟨i + 1, at' + 64, by omega, by have := HAT.out; omega, by go_num, HFIN.out, hgf⟩
                    case measure => simp [intOf]; omega
                  · rw [if_pos (by rfl)]
                    refine wp_load_mid 172 (.tmp 4) rfl M 0 rfl ck _ RK.out HU64.out rfl HI64.out ?_
                    simp only [Act.put, List.setIfInBounds_toArray, List.set_cons_zero, List.set_cons_succ]
                    refine hK.out _ _ trivial (fun _ => ?_)
                    clear hK K
                    refine wpAnyH_ready (rs := [0]) (by kernel_rfl) (by simp) ?_
                    refine AllReadyH.cons (o := ⟨some 68, _, _, _, _, _⟩) rfl (fun K hK => ?_) AllReadyH.nil
                    rw [if_pos (by rfl)]
                    refine wp_load_mid 173 (.tmp 5) rfl (M + 1) 0 rfl cv _ RV.out HU8.out rfl HI8.out ?_
                    simp only [Act.put, List.setIfInBounds_toArray, List.set_cons_zero, List.set_cons_succ]
                    refine hK.out _ _ trivial (fun _ => ?_)
                    clear hK K
                    refine wpAnyH_ready (rs := [7]) (by kernel_rfl) (by simp) ?_
                    refine AllReadyH.cons (o := ⟨some 75, _, _, _, _, _⟩) rfl (fun K hK => ?_) AllReadyH.nil
                    go_simp
                    refine (TURN.out).mono ?_
                    rintro e W11 ⟨rfl, k11⟩
                    have r11 := (k11.block (M + 1) HM1.out).trans RV0.out
                    have HR11 := Lib.hid r11
                    have HG11 := Lib.hid (Sm.grown_below hgr (k11.mono hgr.size))
                    clear r11 k11
                    refine hK.out _ _ trivial (fun _ => ?_)
                    clear hK K
                    refine wpAnyH_ready (rs := [8]) (by kernel_rfl) (by simp) ?_
                    refine AllReadyH.cons (o := ⟨none, _, _, _, _, _⟩) rfl (fun K hK => ?_) AllReadyH.nil
                    rw [if_pos (by rfl)]
                    refine wp_store_row 173 (.tmp 5) (.tmp 75) rfl (M + 1) _ rfl rfl 173 _ HR11.out (Sm.info8 HC8.out) (HCV.out.trans HC8.out.symm) HO8.out ?_
                    simp only [Act.put]
                    refine hK.out _ _ trivial (fun _ => ?_)
                    clear hK K
                    refine wpAnyH_done (by kernel_rfl) ?_ _
                    refine NoPanic.normal ?_
                    have hfin := setRow_heap W11 (M + 1) _ (Sm.nums (Sm.turn (Sm.feed Sm.h0 i PT) ((PT.drop (64 * i)).take 64)).l).toArray _ _ HR11.out
                    have hgf := Sm.grown_trans HG11.out (Sm.grown_setRow W11 (M + 1) (Sm.nums (Sm.turn (Sm.feed Sm.h0 i PT) ((PT.drop (64 * i)).take 64)).l).toArray)
                    rw [← HFD.out] at hfin hgf ⊢
                    generalize W11.setRow (M + 1) (Sm.nums (Sm.feed Sm.h0 (i + 1) PT).l).toArray = W12 at *
                    have HFIN := Lib.hid hfin
                    clear hfin HR11 HG11
                    go_wp2
                    go_roundw
                    case rel => exact ⟨i + 1, at' + 64, by omega, by have := HAT.out; omega, by go_num, HFIN.out, hgf⟩
                    case measure => simp [intOf]; omega
                · obtain rfl : i = m / 64 := by omega
                  have hatm : at' = m := by omega
                  have hst : Sm.feed Sm.h0 (m / 64) PT = Sm.st PT := by unfold Sm.st; rw [HPM.out]
                  rw [hst] at hrv
                  have h1i : ¬ (at' : Int) < m := by omega
                  have b10 : Below N w wr := b9.trans (Sm.grown_from hgr (by omega) (by omega))
                  have r10 := (hgr.block N hN9 (by intro e; have := Option.some.inj e; omega)).trans R9.out
                  have hv5 := Sm.st_ok PT
                  obtain ⟨v5, hv5e⟩ : ∃ v, v = Sm.st PT := ⟨_, rfl⟩
                  rw [← hv5e] at hrv hv5
                  have HSM : Hid (Sm.sum s.data.toList = Sm.outN v5.l) := by show _ = _; rw [hv5e]; exact HSUM.out
                  have hs10 := hgr.size
                  clear hst hv5e hgr hat
                  obtain ⟨WA, hWA⟩ : ∃ W, W = wr := ⟨_, rfl⟩
                  rw [← hWA] at hrv b10 r10 hs10 ⊢
                  have g1 : (WA.alloc (.cells (Sm.rowB 32 []) 35)).heap[WA.heap.size]? = some (.cells (Sm.rowB 32 []) 35 (0, 0)) := heap_alloc_new WA _
                  have g2 : Below WA.heap.size WA (WA.alloc (.cells (Sm.rowB 32 []) 35)) := (Below.refl _ WA).alloc (Nat.le_refl _) _
                  have g3 : (WA.alloc (.cells (Sm.rowB 32 []) 35)).heap[M + 1]? = some (.cells (Sm.nums v5.l).toArray 173 (0, 0)) := (g2.block (M + 1) (by omega)).trans hrv
                  have g4 := (g2.block N (by omega)).trans r10
                  have b11 : Below N w (WA.alloc (.cells (Sm.rowB 32 []) 35)) := b10.trans (g2.mono (by omega))
                  clear hWA hrv r10 b10 g2
                  go_wp2_with fail
                  change Code.wp _ _ _ _ (WA.alloc (.cells (Sm.rowB 32 []) 35))
                  generalize WA.alloc (.cells (Sm.rowB 32 []) 35) = WB at *
                  obtain ⟨O, hO⟩ : ∃ O, O = WA.heap.size := ⟨_, rfl⟩
                  rw [← hO] at g1 hs10 ⊢
                  have hMO : M + 1 < O := by omega
                  have G3 := Lib.hid g3
                  have G4 := Lib.hid g4
                  have HO := Lib.hid hO
                  have hs11 : O < WB.heap.size := Sm.lt_of g1
                  clear hO g3 g4
                  go_loopw [12] (fun i wr => ∃ k : Nat, k ≤ 32 ∧ i = .int .i64 k ∧ wr.heap[O]? = some (.cells (Sm.rowB 32 ((List.range k).map (Sm.outB v5.l))) 35 (0, 0)) ∧ Below O WB wr) (fun i _ => 32 - (intOf i).toNat)
                  case atStart => exact ⟨0, by omega, rfl, g1, Below.refl _ _⟩
                  case round =>
                    clear g1
                    obtain ⟨k, hk, rfl, hrow, hbk⟩ := hrel
                    have HR := Lib.hid hrow
                    clear hrow
                    by_cases hlt : k < 32
                    · have hki : (k : Int) < 32 := by omega
                      have cw : wr.cell? ⟨M + 1, k / 4, none⟩ = some (.int .u32 (v5.l.getD (k / 4) 0 : Nat)) := by
                        refine Sm.cells_of ((hbk.block (M + 1) (by omega)).trans G3.out) (k / 4) _ ?_
                        rw [List.getElem?_toArray]
                        exact Sm.nums_get (by show k / 4 < 8; omega)
                      obtain ⟨old, hold⟩ := Sm.rowB_some (n := 32) (l := (List.range k).map (Sm.outB v5.l)) k (by simp; omega) hlt
                      have hold := Sm.cells_of HR.out k old hold
                      have hfz := Sm.free_of HR.out k
                      have hx : Hid (Sm.outB v5.l k = UInt8.ofNat (v5.l.getD (k / 4) 0 / 2 ^ (24 - k % 4 * 8))) := rfl
                      generalize v5.l.getD (k / 4) 0 = x at *
                      have hX : ((x : Int) / 2 ^ (24 - 8 * (k % 4)) % 256) = ((UInt8.ofNat (x / 2 ^ (24 - k % 4 * 8))).toNat : Int) := by
                        rw [UInt8.toNat_ofNat', Nat.mul_comm 8]; push_cast; rfl
                      have HX := Lib.hid hX
                      have hk4 : 0 ≤ 24 - 8 * ((k : Int) % 4) := by omega
                      clear hX
                      go_wp2
                      go_roundw
                      case rel =>
                        refine ⟨k + 1, by omega, by go_num, ?_, ?_⟩
                        · have e := Sm.rowB_set (n := 32) (l := (List.range k).map (Sm.outB v5.l)) (by simp; omega) (Sm.outB v5.l k)
                          rw [List.length_map, List.length_range] at e
                          rw [HX.out, Sm.range_snoc, ← e, hx.out]
                          exact Sm.heap_set HR.out k _
                        · exact hbk.setCell (p := ⟨O, k, none⟩) (Nat.le_refl _) _
                      case measure => simp [intOf]; omega
                    · obtain rfl : k = 32 := by omega
                      have hlen32 : ((List.range 32).map (Sm.outB v5.l)).length = 32 := by simp
                      have hfull := Sm.rowB_full (n := 32) hlen32
                      have hr : wr.heap[O]? = some (.cells (Lib.byteCells (Sm.sum s.data.toList)).toArray 35 (0, 0)) := by rw [HR.out, hfull, HSM.out, Sm.outN_eq]
                      have hsz32 : (Lib.byteCells (Sm.sum s.data.toList)).toArray.size = 32 := by rw [List.size_toArray, Lib.byteCells_length, Sm.sum_length]
                      have hr0 := (hbk.block N (by omega)).trans G4.out
                      have HR8 := Lib.hid hr
                      have HR0 := Lib.hid hr0
                      have hone := Sm.bytes_one (Sm.sum s.data.toList)
                      have hz32 : (Sm.rowB 32 []).size = (Lib.byteCells (Sm.sum s.data.toList)).toArray.size := by rw [hsz32]; exact Sm.rowB_size (by simp)
                      have bfin : Below N w wr := b11.trans (hbk.mono (by omega))
                      clear hr hr0 hfull hlen32 hbk HR
                      obtain ⟨cs2, hcs2⟩ : ∃ c, c = (Lib.byteCells (Sm.sum s.data.toList)).toArray := ⟨_, rfl⟩
                      rw [← hcs2] at HR8 hsz32 hone hz32
                      have HC2 := Lib.hid hcs2
                      clear hcs2
                      go_wp2_with (first | (with_reducible refine wpList_load_row rfl 35 (.tmp 11) rfl O rfl 35 cs2 (0, 0) _ (by exact HR8.out) Tryz.underlying35 rfl (Sm.info32 hsz32) ?_) | (with_reducible refine wpList_store_row rfl 35 (.tmp 2) (.tmp 93) rfl N cs2 rfl rfl 35 _ (by exact HR0.out) (Sm.info32 hsz32) hz32 hone ?_))
                      exact bodyPost_ret (v := .agg cs2) (results_cell_row rfl _ _ N 35 _ (0, 0) _ rfl (setRow_heap _ N _ _ _ _ HR0.out) Tryz.underlying35 rfl (Sm.info32 hsz32)) rfl ⟨by rw [HC2.out], by rw [← HN.out]; exact Sm.below_setRow bfin (Nat.le_refl _) _⟩
        · have hr56 : r ≠ 56 := fun h => hzz (hiff.1 h)
          have hrb : ((r : Int) == 56) = false := by rw [beq_eq_false_iff_ne]; omega
          have hsw := hbk.size
          have k6 : Below wr.heap.size wr (wr.alloc (.cells #[.int .u8 0] 5)) := (Below.refl _ wr).alloc (Nat.le_refl _) _
          have HR6 := Lib.hid (HR.out.low k6 (Nat.le_refl _))
          have HX6 : Hid ((wr.alloc (.cells #[.int .u8 0] 5)).cell? ⟨wr.heap.size, 0, none⟩ = some (.int .u8 ((0 : UInt8).toNat : Int))) := Sm.cells_of (heap_alloc_new wr _) 0 _ rfl
          have hxl : (T0 ++ List.replicate z 0).length = n := by rw [List.length_append, List.length_replicate, ← HNT.out]; exact HNN.out.symm
          have K6 := Lib.hid k6
          have HXL := Lib.hid hxl
          clear hiff hr56 k6 hxl
          go_wp2_with (at_builtin; refine Sm.wpList_append_byte rfl (.tmp 42) (.tmp 43) rfl (.slice A n c) (T0 ++ List.replicate z 0) rfl HR6.out 0 wr.heap.size rfl HX6.out (by have := HXL.out; omega) (by simp; omega) ?_; intro v8 W8 hR8 hb8)
          obtain ⟨A8, c8, rfl⟩ := hR8.shape
          have HR8 := Lib.hid hR8
          have HB8 := Lib.hid ((hbk.trans (K6.out.mono (by omega))).trans hb8)
          clear hR8 hb8
          go_wp2
          go_roundw
          case rel =>
            have e := HNN.out
            have e2 := HXL.out
            refine ⟨z + 1, (T0 ++ List.replicate z 0 ++ [0]).length, A8, c8, by omega, by rw [List.length_append, e2]; simp; omega, rfl, ?_, HB8.out⟩
            have h := HR8.out
            rw [List.append_assoc, Sm.rep_snoc] at h ⊢
            exact h
          case measure =>
            have e := HNN.out
            have e3 : (T0 ++ List.replicate z 0 ++ [0]).length = n + 1 := by rw [List.length_append, HXL.out]; rfl
            show n0 + Z - (T0 ++ List.replicate z 0 ++ [0]).length < n0 + Z - n
            omega
end Go.Proofs.YtiehcplepneajaaGreatDoor

/-
  What the document's own Tag does.
-/
namespace Go.Proofs.YtiehcplepneajaaGreatDoor
open Go.RowKit
namespace Sm
theorem conv_one' {w : World} {N : Nat} {v : Int} {x : UInt8} {t : TypeId} (hv : v = (x.toNat : Int)) (h : w.heap[N]? = some (.cells #[.int .u8 v] t (0, 0))) :
    (convert 127 9 (.slice (some ⟨N, 0, none⟩) 1 1)).run Tryz.prog w = .ok (.string ⟨#[x]⟩) w := by
  subst hv
  have e := run_convert_bytes_back (P := Tryz.prog) w 127 9 5 ⟨N, 0, none⟩ 1 [x] Tryz.underlying127 Tryz.underlying5 Tryz.underlying9 (fun j hj => by
    have : j = 0 := by simpa using hj
    subst this
    rw [Addr.add_mid]
    exact cells_of h 0 _ rfl)
  exact e
theorem heap_row32a (w : World) : (w.alloc (.cells (rowB 32 []) 35)).heap[w.heap.size]? = some (.cells (rowB 32 []) 35 (0, 0)) := heap_alloc_new w _
theorem kb_snoc' (m : UInt8) (l : List UInt8) (k : Nat) (h : k < l.length) : xored m (l.take (k + 1)) = xored m (l.take k) ++ [l.getD k 0 ^^^ m] := by
  rw [List.take_succ_eq_append_getElem h, xored, List.map_append, List.getD_eq_getElem?_getD, List.getElem?_eq_getElem h]
  rfl
end Sm

end Go.Proofs.YtiehcplepneajaaGreatDoor
