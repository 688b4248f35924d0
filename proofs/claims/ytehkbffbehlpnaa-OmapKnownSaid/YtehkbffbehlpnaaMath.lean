/-
  Plain facts on how a number is written and read again: lists of bytes and natural numbers alone, no program.
-/
import Derived.IntWalk
namespace Go.Proofs.Ytehkbffbehlpnaa.Pk

/-- What a number's reading tells, with x read out of k bytes so far: the number, how many bytes, the error (0, 7: too short, 8: no form). -/
def dec (x k : Nat) : List UInt8 → Nat × Nat × Nat
  | [] => if k < 10 then (0, 0, 7) else (0, 0, 8)
  | b :: r => if k < 10 then
      (if 127 < b.toNat then dec (x + b.toNat % 128 * 2 ^ (7 * k)) (k + 1) r
       else if (0 < k ∧ b.toNat = 0) ∨ (k = 9 ∧ 1 < b.toNat) then (0, 0, 8)
       else (x + b.toNat * 2 ^ (7 * k), k + 1, 0))
    else (0, 0, 8)

/-- A number's bytes. -/
def enc (n : Nat) : List UInt8 := if 127 < n then UInt8.ofNat (n % 128 + 128) :: enc (n / 128) else [UInt8.ofNat n]
termination_by n
decreasing_by omega

theorem dec_ten (x : Nat) (l : List UInt8) : dec x 10 l = (0, 0, 8) := by cases l <;> simp [dec]

theorem enc_small {n : Nat} (h : ¬ 127 < n) : enc n = [UInt8.ofNat n] := by rw [enc, if_neg h]
theorem enc_big {n : Nat} (h : 127 < n) : enc n = UInt8.ofNat (n % 128 + 128) :: enc (n / 128) := by rw [enc, if_pos h]

theorem ofNat_toNat {n : Nat} (h : n < 256) : (UInt8.ofNat n).toNat = n := by
  rw [UInt8.toNat_ofNat']; exact Nat.mod_eq_of_lt h

theorem enc_ne (n : Nat) : enc n ≠ [] := by rw [enc]; split <;> simp

theorem pow_step (k : Nat) : 2 ^ (7 * (k + 1)) = 128 * 2 ^ (7 * k) := by
  rw [Nat.mul_add, Nat.pow_add]; omega

theorem pow_le {k m : Nat} (h : m ≤ k) : 2 ^ (7 * m) ≤ 2 ^ (7 * k) := Nat.pow_le_pow_right (by decide) (by omega)

theorem k_lt (k n : Nat) (h1 : 128 ≤ n) (h : n * 2 ^ (7 * k) < 2 ^ 64) : k < 9 := by
  rcases Nat.lt_or_ge k 9 with h' | h'
  · exact h'
  · have h2 := pow_le h'
    have h3 : 128 * 2 ^ (7 * k) ≤ n * 2 ^ (7 * k) := Nat.mul_le_mul_right _ h1
    have h4 : 128 * 2 ^ (7 * 9) ≤ 128 * 2 ^ (7 * k) := Nat.mul_le_mul_left _ h2
    omega

theorem one_of_nine (k n : Nat) (h : n * 2 ^ (7 * k) < 2 ^ 64) (hk : k = 9) : ¬ 1 < n := by
  subst hk; omega

theorem split_low (n P : Nat) : n % 128 * P + n / 128 * (128 * P) = n * P := by
  have h := Nat.mod_add_div n 128
  have e : n / 128 * (128 * P) = (128 * (n / 128)) * P := by
    rw [← Nat.mul_assoc, Nat.mul_comm (n / 128) 128]
  rw [e, ← Nat.add_mul, h]

theorem high_le (n P : Nat) : n / 128 * (128 * P) ≤ n * P := by
  have := split_low n P; omega

theorem room_of (k : Nat) (h : k ≤ 8) : 2 ^ 64 = 2 ^ (57 - 7 * k) * (128 * 2 ^ (7 * k)) := by
  have e : 128 * 2 ^ (7 * k) = 2 ^ (7 + 7 * k) := by rw [Nat.pow_add]
  rw [e, ← Nat.pow_add]
  congr 1
  omega

theorem roomy (n Q D : Nat) (h : n * D < Q * D) : n * D + D ≤ Q * D := by
  have h1 : n < Q := Nat.lt_of_mul_lt_mul_right h
  have h2 : (n + 1) * D ≤ Q * D := Nat.mul_le_mul_right _ h1
  rw [Nat.add_mul, Nat.one_mul] at h2
  exact h2

theorem dec_enc (n : Nat) : ∀ (x k : Nat) (r : List UInt8), n * 2 ^ (7 * k) < 2 ^ 64 → (0 < k → 0 < n) → k < 10 →
    dec x k (enc n ++ r) = (x + n * 2 ^ (7 * k), k + (enc n).length, 0) := by
  induction n using Nat.strongRecOn with
  | ind n ih =>
    intro x k r h hp hk
    by_cases hn : 127 < n
    · rw [enc_big hn]
      have hk9 := k_lt k n (by omega) h
      have ht : (UInt8.ofNat (n % 128 + 128)).toNat = n % 128 + 128 := ofNat_toNat (by omega)
      have hm : (n % 128 + 128) % 128 = n % 128 := by omega
      rw [List.cons_append, dec, if_pos hk, ht, if_pos (by omega), hm]
      rw [ih (n / 128) (by omega) _ _ r (by rw [pow_step]; exact Nat.lt_of_le_of_lt (high_le n _) h) (fun _ => by omega) (by omega)]
      have := split_low n (2 ^ (7 * k))
      rw [pow_step, List.length_cons, Nat.add_assoc, this]
      simp; omega
    · rw [enc_small hn]
      have ht : (UInt8.ofNat n).toNat = n := ofNat_toNat (by omega)
      have h1 := one_of_nine k n h
      rw [List.cons_append, dec, if_pos hk, ht, if_neg hn, if_neg (by omega)]
      simp

theorem dec_cut (n : Nat) : ∀ (x k j : Nat), n * 2 ^ (7 * k) < 2 ^ 64 → k < 10 → j < (enc n).length →
    dec x k ((enc n).take j) = (0, 0, 7) := by
  induction n using Nat.strongRecOn with
  | ind n ih =>
    intro x k j h hk hj
    cases j with
    | zero => simp [dec, hk]
    | succ j =>
      by_cases hn : 127 < n
      · rw [enc_big hn] at hj ⊢
        have hk9 := k_lt k n (by omega) h
        have ht : (UInt8.ofNat (n % 128 + 128)).toNat = n % 128 + 128 := ofNat_toNat (by omega)
        rw [List.take_succ_cons, dec, if_pos hk, ht, if_pos (by omega)]
        exact ih (n / 128) (by omega) _ _ j (by rw [pow_step]; exact Nat.lt_of_le_of_lt (high_le n _) h) (by omega) (by simpa using hj)
      · rw [enc_small hn] at hj; simp at hj

/-- What is told without an error: the bytes are a number's. -/
theorem dec_inv (l : List UInt8) : ∀ (x k v s : Nat), dec x k l = (v, s, 0) →
    ∃ n r, v = x + n * 2 ^ (7 * k) ∧ s = k + (enc n).length ∧ l = enc n ++ r ∧ n * 2 ^ (7 * k) < 2 ^ 64 ∧ s ≤ 10 ∧ (0 < k → 0 < n) := by
  induction l with
  | nil => intro x k v s h; unfold dec at h; split at h <;> simp at h
  | cons b r ih =>
    intro x k v s h
    unfold dec at h
    have hb : b.toNat < 256 := b.toNat_lt
    by_cases hk : k < 10
    · rw [if_pos hk] at h
      by_cases h1 : 127 < b.toNat
      · rw [if_pos h1] at h
        obtain ⟨n, r', hv, hs, hl, hn, h10, hp⟩ := ih _ _ _ _ h
        have hn0 : 0 < n := hp (by omega)
        have hlen : 0 < (enc n).length := List.length_pos_iff.2 (enc_ne n)
        have hk8 : k ≤ 8 := by omega
        have hbig : 127 < b.toNat % 128 + 128 * n := by omega
        have hd : (b.toNat % 128 + 128 * n) / 128 = n := by omega
        have hm : (b.toNat % 128 + 128 * n) % 128 = b.toNat % 128 := by omega
        have he : enc (b.toNat % 128 + 128 * n) = b :: enc n := by
          rw [enc_big hbig, hd, hm]
          congr 1
          rw [show b.toNat % 128 + 128 = b.toNat from by omega]
          exact UInt8.ofNat_toNat
        rw [pow_step] at hv hn
        refine ⟨b.toNat % 128 + 128 * n, r', ?_, ?_, ?_, ?_, h10, fun _ => by omega⟩
        · have := split_low (b.toNat % 128 + 128 * n) (2 ^ (7 * k))
          rw [hd, hm] at this
          rw [hv, ← this]; omega
        · rw [he, hs, List.length_cons]; omega
        · rw [he, hl]; rfl
        · have h2 := split_low (b.toNat % 128 + 128 * n) (2 ^ (7 * k))
          rw [hd, hm] at h2
          have hq := room_of k hk8
          have h3 := roomy n (2 ^ (57 - 7 * k)) (128 * 2 ^ (7 * k)) (by rw [← hq]; exact hn)
          have h4 : b.toNat % 128 * 2 ^ (7 * k) ≤ 127 * 2 ^ (7 * k) := Nat.mul_le_mul_right _ (by omega)
          have h5 : 0 < 2 ^ (7 * k) := Nat.pow_pos (by decide)
          rw [← h2, hq]
          generalize 2 ^ (7 * k) = P at *
          generalize 2 ^ (57 - 7 * k) = Q at *
          omega
      · rw [if_neg h1] at h
        by_cases h2 : (0 < k ∧ b.toNat = 0) ∨ (k = 9 ∧ 1 < b.toNat)
        · rw [if_pos h2] at h; simp at h
        · rw [if_neg h2] at h
          simp only [Prod.mk.injEq, and_true] at h
          have he : enc b.toNat = [b] := by rw [enc_small h1, UInt8.ofNat_toNat]
          refine ⟨b.toNat, r, h.1.symm, by rw [he, ← h.2]; rfl, by rw [he]; rfl, ?_, by omega, fun hk0 => by omega⟩
          rcases Nat.lt_or_ge k 9 with h3 | h3
          · have h4 := pow_le (show k ≤ 8 by omega)
            have h5 : b.toNat * 2 ^ (7 * k) ≤ 127 * 2 ^ (7 * 8) := Nat.mul_le_mul (by omega) h4
            omega
          · obtain rfl : k = 9 := by omega
            have h5 : b.toNat * 2 ^ (7 * 9) ≤ 1 * 2 ^ (7 * 9) := Nat.mul_le_mul_right _ (by omega)
            omega
    · rw [if_neg hk] at h; simp at h

/-- A reading that fails tells noughts. -/
theorem dec_err (l : List UInt8) : ∀ (x k : Nat), (dec x k l).2.2 = 0 ∨ dec x k l = (0, 0, 7) ∨ dec x k l = (0, 0, 8) := by
  induction l with
  | nil => intro x k; unfold dec; split <;> simp
  | cons b r ih =>
    intro x k
    unfold dec
    split
    · split
      · exact ih _ _
      · split <;> simp
    · simp

theorem dec_bd (l : List UInt8) : (dec 0 0 l).1 < 2 ^ 64 ∧ (dec 0 0 l).2.1 ≤ 10 ∧ (dec 0 0 l).2.1 ≤ l.length ∧ (dec 0 0 l).2.2 ≤ 8 := by
  rcases dec_err l 0 0 with h | h | h
  · obtain ⟨n, r, hv, hs, hl, hn, h10, _⟩ := dec_inv l 0 0 (dec 0 0 l).1 (dec 0 0 l).2.1 (Prod.ext rfl (Prod.ext rfl h))
    refine ⟨by simp at hv hn; omega, h10, ?_, by omega⟩
    have := congrArg List.length hl
    rw [List.length_append] at this
    omega
  · rw [h]; simp
  · rw [h]; simp

#print axioms dec_inv
end Go.Proofs.Ytehkbffbehlpnaa.Pk
