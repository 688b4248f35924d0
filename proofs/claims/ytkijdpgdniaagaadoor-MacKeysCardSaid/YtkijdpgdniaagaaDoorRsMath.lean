/-
  The document's own SHA-256: the primes, and the bits behind the point of their roots, as plain functions; its numbers are those of the program.
-/
import Derived.Test.YtkijdpgdniaagaaDoorShMath
namespace Go.Proofs.YtkijdpgdniaagaaDoor.Sm

/-- The primes among the first n numbers from 2 on. -/
def upTo : Nat → List Nat
  | 0 => []
  | n + 1 => if (upTo n).any (fun q => (2 + n) % q == 0) then upTo n else upTo n ++ [2 + n]
def ps : List Nat := [2, 3, 5, 7, 11, 13, 17, 19, 23, 29, 31, 37, 41, 43, 47, 53, 59, 61, 67, 71, 73, 79, 83, 89, 97, 101, 103, 107, 109, 113, 127, 131, 137, 139, 149, 151, 157, 163, 167, 173, 179, 181, 191, 193, 197, 199, 211, 223, 227, 229, 233, 239, 241, 251, 257, 263, 269, 271, 277, 281, 283, 293, 307, 311]
theorem ps_length : ps.length = 64 := by decide
theorem upTo_309 : upTo 309 = ps.take 63 := by decide +kernel
theorem upTo_310 : upTo 310 = ps := by decide +kernel
theorem upTo_mono (n k : Nat) : (upTo n).length ≤ (upTo (n + k)).length := by
  induction k with
  | zero => exact Nat.le_refl _
  | succ k ih =>
    refine Nat.le_trans ih ?_
    rw [← Nat.add_assoc, upTo]
    split
    · exact Nat.le_refl _
    · simp
theorem upTo_short {n : Nat} (h : n < 310) : (upTo n).length < 64 := by
  have := upTo_mono n (309 - n)
  rw [show n + (309 - n) = 309 by omega, upTo_309] at this
  simp [ps] at this
  omega
theorem upTo_ok (n : Nat) : ∀ q ∈ upTo n, 2 ≤ q ∧ q < 2 + n := by
  induction n with
  | zero => intro q h; cases h
  | succ n ih =>
    intro q hq
    rw [upTo] at hq
    split at hq
    · have := ih q hq; omega
    · rcases List.mem_append.1 hq with h | h
      · have := ih q h; omega
      · simp at h; omega

def cubeB (m p : Nat) : Bool := decide (m * m / 18446744073709551616 * m + m * m % 18446744073709551616 * m / 18446744073709551616 < p * 4294967296) ||
  (m * m / 18446744073709551616 * m + m * m % 18446744073709551616 * m / 18446744073709551616 == p * 4294967296 && m * m % 18446744073709551616 * m % 18446744073709551616 == 0)
def squareB (m p : Nat) : Bool := decide (m * m / 18446744073709551616 < p) || (m * m / 18446744073709551616 == p && m * m % 18446744073709551616 == 0)
def takes (three : Bool) (p m : Nat) : Bool := if three then decide (m < 68719476736) && cubeB m p else squareB m p
def nxt (three : Bool) (p n d : Nat) : Nat := if takes three p (n + d) then n + d else n
/-- The root behind the first j bits. -/
def root (three : Bool) (p : Nat) : Nat → Nat
  | 0 => 0
  | j + 1 => nxt three p (root three p j) (2 ^ (36 - j))
theorem nxt_le (three : Bool) (p n d : Nat) : nxt three p n d ≤ n + d := by unfold nxt; split <;> omega
theorem root_le (three : Bool) (p j : Nat) (h : j ≤ 37) : root three p j + 2 ^ (37 - j) ≤ 2 ^ 37 := by
  induction j with
  | zero => simp [root]
  | succ j ih =>
    have h1 := ih (by omega)
    have h2 := nxt_le three p (root three p j) (2 ^ (36 - j))
    rw [show 37 - j = (36 - j) + 1 by omega, Nat.pow_succ] at h1
    rw [root, show 37 - (j + 1) = 36 - j by omega]
    omega
def roots (three : Bool) (n : Nat) : List Nat := (List.range n).map fun i => root three (ps.getD i 0) 37 % 4294967296
theorem roots_ks : roots true 64 = ks := by decide +kernel
theorem roots_h0 : roots false 8 = h0.l := by decide +kernel
theorem roots_get (three : Bool) (n i : Nat) (h : i < n) : (roots three n).getD i 0 = root three (ps.getD i 0) 37 % 4294967296 := by
  simp [roots, h]
theorem ks_root (i : Nat) (h : i < 64) : ks.getD i 0 = root true (ps.getD i 0) 37 % 4294967296 := by rw [← roots_ks, roots_get _ _ _ h]
theorem h0_root (i : Nat) (h : i < 8) : h0.l.getD i 0 = root false (ps.getD i 0) 37 % 4294967296 := by rw [← roots_h0, roots_get _ _ _ h]
theorem ps_ok (i : Nat) (h : i < 64) : 2 ≤ ps.getD i 0 ∧ ps.getD i 0 < 400 := by
  have : ∀ x ∈ ps, 2 ≤ x ∧ x < 400 := by decide
  have hm : ps.getD i 0 ∈ ps := by
    rw [List.getD_eq_getElem?_getD, List.getElem?_eq_getElem (by rw [ps_length]; exact h)]
    exact List.getElem_mem _
  exact this _ hm
end Go.Proofs.YtkijdpgdniaagaaDoor.Sm
