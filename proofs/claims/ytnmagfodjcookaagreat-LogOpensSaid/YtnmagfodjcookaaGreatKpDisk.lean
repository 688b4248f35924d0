/-
  Kept on a disk: what Open reads, what Put writes; the next slot, with old and new sectors mixed.
-/
import Derived.Test.YtnmagfodjcookaaGreatDkTwo
import Derived.Test.YtnmagfodjcookaaGreatDkLook
import Derived.Test.YtnmagfodjcookaaGreatKpMath
namespace Go.Proofs.YtnmagfodjcookaaGreat
namespace Kp
open Dk (lookOf)
/-- What a Kept says of itself. -/
structure Md where
  from_ : Int
  text : List UInt8
  gen : Nat
  next : Nat
  seen : Nat
  broken : Bool
def looks (f : Nat → List UInt8) : List (List UInt8 × Int) := (List.range 20).map fun j => lookOf (f j)
def place (f : Nat → List UInt8) : List (List UInt8) := (List.range 20).map fun j => (lookOf (f j)).1
def bad (f : Nat → List UInt8) : Bool := (List.range 20).any fun j => decide ((lookOf (f j)).2 = 2)
def sees (M : Dk.Md) (a : Int) (j : Nat) : List UInt8 := Dk.seen M (a.toNat + j)
def openErr (M : Dk.Md) (a : Int) : Int := if a < 0 ∨ (M.lasts.length : Int) - 20 < a then 1 else if M.off then 14 else if bad (sees M a) then 9 else 0
def opened (f : Nat → List UInt8) (a : Int) : Md := ⟨a, (find (place f)).1.1, (find (place f)).1.2, (find (place f)).2, greatest (place f), false⟩
/-- Bodies, closed, are written from a sector on; the first error. -/
def puts : Dk.Md → Int → List (List UInt8) → Dk.Md × Int
  | M, _, [] => (M, 0)
  | M, i, b :: l => if (Dk.write M i (Dk.closed b)).2 = 0 then puts (Dk.write M i (Dk.closed b)).1 (i + 1) l else Dk.write M i (Dk.closed b)
def save (M : Dk.Md) (i : Int) (l : List (List UInt8)) : Dk.Md × Int := if (puts M i l).2 = 0 then Dk.sync (puts M i l).1 else puts M i l
def put (K : Md) (M : Dk.Md) (t : List UInt8) : Md × Dk.Md × Int :=
  if K.broken then (K, M, 11) else if 400 < t.length then (K, M, 3) else if K.seen = 18446744073709551615 then (K, M, 6)
  else if (save M (K.from_ + K.next * 10) (bodies t (K.seen + 1))).2 = 0 then
    (⟨K.from_, t, K.seen + 1, 1 - K.next, K.seen + 1, false⟩, (save M (K.from_ + K.next * 10) (bodies t (K.seen + 1))).1, 0)
  else ({ K with broken := true }, (save M (K.from_ + K.next * 10) (bodies t (K.seen + 1))).1, (save M (K.from_ + K.next * 10) (bodies t (K.seen + 1))).2)
theorem puts_append : ∀ (l m : List (List UInt8)) (M : Dk.Md) (i : Int), (puts M i l).2 = 0 → puts M i (l ++ m) = puts (puts M i l).1 (i + l.length) m
  | [], m, M, i, _ => by simp [puts]
  | b :: l, m, M, i, h => by
    rw [puts] at h
    split at h
    · rename_i h1
      rw [List.cons_append, puts, if_pos h1, puts_append l m _ _ h, puts, if_pos h1, List.length_cons]
      congr 1
      push_cast
      omega
    · rename_i h1
      exact absurd h h1
theorem puts_stop : ∀ (l m : List (List UInt8)) (M : Dk.Md) (i : Int), (puts M i l).2 ≠ 0 → puts M i (l ++ m) = puts M i l
  | [], m, M, i, h => by simp [puts] at h
  | b :: l, m, M, i, h => by
    rw [puts] at h
    rw [List.cons_append, puts, puts]
    split
    · rename_i h1
      rw [if_pos h1] at h
      exact puts_stop l m _ _ h
    · rfl
theorem waits_puts : ∀ (l : List (List UInt8)) (M : Dk.Md) (i : Int), Dk.waits (puts M i l).1 ≤ Dk.waits M + l.length
  | [], M, i => by simp [puts]
  | b :: l, M, i => by
    rw [puts, List.length_cons]
    have h1 := Dk.waits_write M i (Dk.closed b)
    split
    · have := waits_puts l (Dk.write M i (Dk.closed b)).1 (i + 1)
      omega
    · omega
theorem waits_save (M : Dk.Md) (i : Int) (l : List (List UInt8)) : Dk.waits (save M i l).1 ≤ Dk.waits M + l.length := by
  have h1 := waits_puts l M i
  unfold save
  split
  · have := Dk.waits_sync (puts M i l).1
    omega
  · exact h1
theorem bodies_le {t : List UInt8} (g : Nat) (h : t.length ≤ 400) : (bodies t g).length ≤ 9 := by rw [bodies_length]; exact parts_le h
theorem waits_put (K : Md) (M : Dk.Md) (t : List UInt8) : Dk.waits (put K M t).2.1 ≤ Dk.waits M + 9 := by
  unfold put
  split
  · exact Nat.le_add_right _ _
  · split
    · exact Nat.le_add_right _ _
    · split
      · exact Nat.le_add_right _ _
      · have h1 := waits_save M (K.from_ + K.next * 10) (bodies t (K.seen + 1))
        have h2 := bodies_le (K.seen + 1) (show t.length ≤ 400 by omega)
        split
        · simp only; omega
        · simp only; omega
theorem len_puts : ∀ (l : List (List UInt8)) (M : Dk.Md) (i : Int), (puts M i l).1.lasts.length = M.lasts.length
  | [], M, i => rfl
  | b :: l, M, i => by
    rw [puts]
    split
    · rw [len_puts l, Dk.lasts_write]
    · rw [Dk.lasts_write]
theorem len_save (M : Dk.Md) (i : Int) (l : List (List UInt8)) : (save M i l).1.lasts.length = M.lasts.length := by
  unfold save
  split
  · rw [Dk.len_sync, len_puts]
  · exact len_puts l M i
theorem len_put (K : Md) (M : Dk.Md) (t : List UInt8) : (put K M t).2.1.lasts.length = M.lasts.length := by
  unfold put
  split
  · rfl
  · split
    · rfl
    · split
      · rfl
      · split <;> exact len_save _ _ _
end Kp
end Go.Proofs.YtnmagfodjcookaaGreat
