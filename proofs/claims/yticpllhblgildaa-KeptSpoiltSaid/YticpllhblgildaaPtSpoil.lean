/-
  A sound sector, spoilt: it is no sound one, and no blank one.
-/
import Derived.Test.YticpllhblgildaaKpMath
import Derived.Test.YticpllhblgildaaDkSound
namespace Go.Proofs.Yticpllhblgildaa
namespace Kp
theorem shift_xor (x y k : Nat) : (x ^^^ y) * 2 ^ k = x * 2 ^ k ^^^ y * 2 ^ k := by rw [← Nat.shiftLeft_eq, ← Nat.shiftLeft_eq, ← Nat.shiftLeft_eq, Nat.shiftLeft_xor_distrib]
theorem xor4 (p q u v : Nat) : (p ^^^ q) ^^^ (u ^^^ v) = (p ^^^ u) ^^^ (q ^^^ v) := by
  rw [Nat.xor_assoc, Nat.xor_assoc, ← Nat.xor_assoc q u v, Nat.xor_comm q u, Nat.xor_assoc u q v]
theorem num_zip : ∀ (a b : List UInt8), a.length = b.length → Dk.num (List.zipWith (· ^^^ ·) a b) = Dk.num a ^^^ Dk.num b
  | [], [], _ => by simp [Dk.num]
  | [], _ :: _, h => by simp at h
  | _ :: _, [], h => by simp at h
  | a :: l, b :: m, h => by
    have ih := num_zip l m (by simpa using h)
    have d : ∀ x y : Nat, (x ^^^ y) * 256 = x * 256 ^^^ y * 256 := fun x y => by
      rw [show (256 : Nat) = 2 ^ 8 from rfl]; exact shift_xor x y 8
    show ((a ^^^ b).toNat ^^^ Dk.num (List.zipWith (· ^^^ ·) l m) * 256) = (a.toNat ^^^ Dk.num l * 256) ^^^ (b.toNat ^^^ Dk.num m * 256)
    rw [ih, UInt8.toNat_xor, d]
    exact xor4 _ _ _ _
theorem xored_parts {s : List UInt8} {a : Nat} {x : List UInt8} (h : a + x.length ≤ s.length) : Dk.xored s a x = s.take a ++ (List.zipWith (· ^^^ ·) ((s.drop a).take x.length) x ++ s.drop (a + x.length)) := by
  refine List.ext_getElem? fun k => ?_
  have hz : (List.zipWith (· ^^^ ·) ((s.drop a).take x.length) x).length = x.length := by simp; omega
  have ht : (s.take a).length = a := by rw [List.length_take]; omega
  by_cases hk : k < s.length
  · rw [Dk.xored, List.getElem?_map, List.getElem?_range hk, Option.map_some]
    by_cases h1 : k < a
    · rw [if_neg (by omega), List.getElem?_append_left (by omega), List.getElem?_take, if_pos h1, List.getD_eq_getElem?_getD, List.getElem?_eq_getElem hk]; rfl
    · rw [List.getElem?_append_right (by omega), ht]
      by_cases h2 : k < a + x.length
      · rw [if_pos ⟨by omega, h2⟩, List.getElem?_append_left (by omega), List.getElem?_zipWith, List.getElem?_take, if_pos (by omega), List.getElem?_drop, show a + (k - a) = k by omega, List.getElem?_eq_getElem hk, List.getElem?_eq_getElem (by omega), List.getD_eq_getElem?_getD, List.getD_eq_getElem?_getD, List.getElem?_eq_getElem hk, List.getElem?_eq_getElem (by omega)]
        rfl
      · rw [if_neg (by omega), List.getElem?_append_right (by omega), hz, List.getElem?_drop, show a + x.length + (k - a - x.length) = k by omega, List.getD_eq_getElem?_getD, List.getElem?_eq_getElem hk]; rfl
  · rw [List.getElem?_eq_none (by rw [Dk.xored_length]; omega), List.getElem?_eq_none (by simp; omega)]
theorem num_xored {s : List UInt8} {a : Nat} {x : List UInt8} (h : a + x.length ≤ s.length) : Dk.num (Dk.xored s a x) = Dk.num s ^^^ Dk.num x * 2 ^ (8 * a) := by
  have ht : (s.take a).length = a := by rw [List.length_take]; omega
  have hm : ((s.drop a).take x.length).length = x.length := by rw [List.length_take, List.length_drop]; omega
  have hz : (List.zipWith (· ^^^ ·) ((s.drop a).take x.length) x).length = x.length := by rw [List.length_zipWith, hm]; omega
  have e : s = s.take a ++ ((s.drop a).take x.length ++ s.drop (a + x.length)) := by
    rw [← List.drop_drop, List.take_append_drop, List.take_append_drop]
  rw [xored_parts h, Dk.num_append, Dk.num_append, num_zip _ _ hm, hz, ht]
  conv => rhs; rw [e]
  rw [Dk.num_append, Dk.num_append, ht, hm, shift_xor, shift_xor, shift_xor]
  generalize Dk.num (s.take a) = p
  generalize Dk.num ((s.drop a).take x.length) * 2 ^ (8 * a) = q
  generalize Dk.num x * 2 ^ (8 * a) = u
  generalize Dk.num (s.drop (a + x.length)) * 2 ^ (8 * x.length) * 2 ^ (8 * a) = v
  rw [Nat.xor_assoc q u v, Nat.xor_comm u v, ← Nat.xor_assoc q v u, ← Nat.xor_assoc p]
theorem closed_at {b : List UInt8} (h : b.length = 60) {k : Nat} (hk : k < 60) : (Dk.closed b).getD k 0 = b.getD k 0 := by
  rw [Dk.closed, List.getD_eq_getElem?_getD, List.getD_eq_getElem?_getD, List.getElem?_append_left (by omega)]
/-- Two bytes that are not 0, more than four apart: spoilt, neither sound nor blank. -/
theorem spoilt_two {b : List UInt8} (hb : b.length = 60) {k1 k2 : Nat} (h1 : k1 + 4 ≤ k2) (h2 : k2 < 60) (n1 : b.getD k1 0 ≠ 0) (n2 : b.getD k2 0 ≠ 0) {a : Nat} {x : List UInt8} (hx : x.length ≤ 4) (ha : a + x.length ≤ 64) (hne : Dk.xored (Dk.closed b) a x ≠ Dk.closed b) :
    (Dk.lookOf (Dk.xored (Dk.closed b) a x)).2 = 2 := by
  have hc : (Dk.closed b).length = 64 := by rw [Dk.closed_length, hb]
  have hl : (Dk.xored (Dk.closed b) a x).length = 64 := by rw [Dk.xored_length, hc]
  have e := num_xored (s := Dk.closed b) (a := a) (x := x) (by omega)
  have hp : Dk.num x < 2 ^ 32 := by
    have h1 := num_lt x
    have h2 : 256 ^ x.length ≤ 256 ^ 4 := Nat.pow_le_pow_right (by decide) hx
    exact Nat.lt_of_lt_of_le h1 h2
  have h0 : Dk.num x ≠ 0 := fun h0 => by
    rw [h0, Nat.zero_mul, Nat.xor_zero] at e
    exact hne (Dk.num_inj (by rw [hl, hc]) e)
  have h3 := Dk.look_turned hb hl hp (by omega) e h0
  have h4 : Dk.xored (Dk.closed b) a x ≠ List.replicate 64 0 := fun hz => by
    have at_ : ∀ k, k < 64 → ¬ (a ≤ k ∧ k < a + x.length) → (Dk.closed b).getD k 0 = 0 := fun k hk hno => by
      have h3 := congrArg (fun l => l.getD k 0) hz
      rw [Dk.xored, List.getD_eq_getElem?_getD, List.getElem?_map, List.getElem?_range (by omega), Option.map_some, if_neg hno, List.getD_eq_getElem?_getD (l := List.replicate 64 0), List.getElem?_replicate, if_pos hk] at h3
      exact h3
    by_cases hk : a ≤ k1 ∧ k1 < a + x.length
    · have h5 := at_ k2 (by omega) (by omega)
      rw [closed_at hb h2] at h5
      exact n2 h5
    · have h5 := at_ k1 (by omega) hk
      rw [closed_at hb (by omega)] at h5
      exact n1 h5
  have h5 := h3
  unfold Dk.lookOf at h5 ⊢
  rw [if_neg h4] at h5 ⊢
  split
  · rename_i hq; rw [if_pos hq] at h5; exact absurd rfl h5
  · rfl
end Kp
end Go.Proofs.Yticpllhblgildaa
