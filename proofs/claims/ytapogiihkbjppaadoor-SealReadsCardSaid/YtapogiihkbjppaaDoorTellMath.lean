/-
  How the document's own reader finds a number (the first byte below 128, and whether the bytes up to it are some number's) and how 'dec' does: they tell the same.
-/
import Derived.Test.YtapogiihkbjppaaDoorMPack
namespace Go.Proofs.YtapogiihkbjppaaDoor.Pk

/-- The number that bytes stand for, low ones first, modulo 2^64. -/
def valF : List UInt8 → Nat
  | [] => 0
  | b :: r => (128 * valF r + b.toNat % 128) % 2 ^ 64

theorem valF_lt (l : List UInt8) : valF l < 2 ^ 64 := by cases l <;> simp [valF]; omega

theorem valF_enc (n : Nat) : n < 2 ^ 64 → valF (enc n) = n := by
  induction n using Nat.strongRecOn with
  | ind n ih =>
    intro h
    by_cases hn : 127 < n
    · rw [enc_big hn, valF, ih (n / 128) (by omega) (by omega), ofNat_toNat (by omega)]
      omega
    · rw [enc_small hn, valF, valF, ofNat_toNat (by omega)]
      omega

/-- All but the last byte of a number are 128 or more, the last is less. -/
theorem enc_get (n : Nat) : n < 2 ^ 64 → ∀ (j : Nat) (hj : j < (enc n).length), (j + 1 < (enc n).length → 128 ≤ (enc n)[j].toNat) ∧ (j + 1 = (enc n).length → (enc n)[j].toNat < 128) := by
  induction n using Nat.strongRecOn with
  | ind n ih =>
    intro h j hj
    by_cases hn : 127 < n
    · have e := enc_big hn
      have hp := List.length_pos_iff.2 (enc_ne (n / 128))
      have hl : (enc n).length = (enc (n / 128)).length + 1 := by rw [e]; rfl
      cases j with
      | zero =>
        have hg : (enc n)[0] = UInt8.ofNat (n % 128 + 128) := by simp only [e, List.getElem_cons_zero]
        rw [hg, ofNat_toNat (by omega)]
        omega
      | succ j =>
        have hg : (enc n)[j + 1] = (enc (n / 128))[j]'(by omega) := by simp only [e, List.getElem_cons_succ]
        rw [hg]
        have := ih (n / 128) (by omega) (by omega) j (by omega)
        omega
    · have e := enc_small hn
      have hl : (enc n).length = 1 := by rw [e]; rfl
      have hj0 : j = 0 := by omega
      subst hj0
      have hg : (enc n)[0] = UInt8.ofNat n := by simp only [e, List.getElem_cons_zero]
      rw [hg, ofNat_toNat (by omega)]
      omega

theorem dec_big {b : UInt8} (h : 128 ≤ b.toNat) (x k : Nat) (r : List UInt8) (hk : k < 10) : dec x k (b :: r) = dec (x + b.toNat % 128 * 2 ^ (7 * k)) (k + 1) r := by
  rw [dec, if_pos hk, if_pos (by omega)]

/-- Great bytes alone, and too few of them. -/
theorem dec_few (l : List UInt8) : ∀ x k, (∀ b ∈ l, 128 ≤ b.toNat) → k + l.length < 10 → dec x k l = (0, 0, 7) := by
  induction l with
  | nil => intro x k _ hk; simp at hk; simp [dec, hk]
  | cons b r ih =>
    intro x k hb hk
    rw [List.length_cons] at hk
    rw [dec_big (hb b (by simp)) x k r (by omega)]
    exact ih _ _ (fun c hc => hb c (by simp [hc])) (by omega)

/-- Ten great bytes. -/
theorem dec_many (l : List UInt8) : ∀ x k, k ≤ 10 → 10 ≤ k + l.length → (∀ j (hj : j < l.length), k + j < 10 → 128 ≤ l[j].toNat) → dec x k l = (0, 0, 8) := by
  induction l with
  | nil =>
    intro x k h1 h2 _
    have : k = 10 := by simp at h2; omega
    subst this
    exact dec_ten _ _
  | cons b r ih =>
    intro x k h1 h2 hb
    by_cases hk : k = 10
    · subst hk; exact dec_ten _ _
    · rw [dec_big (by have := hb 0 (by simp) (by omega); simpa using this) x k r (by omega)]
      refine ih _ _ (by omega) (by rw [List.length_cons] at h2; omega) fun j hj hkj => ?_
      have := hb (j + 1) (by simp; omega) (by omega)
      simpa using this

/-- A byte below 128 among the first: not too short. -/
theorem dec_not7 (l : List UInt8) : ∀ x k n, n < l.length → k + n < 10 → (∀ j (hj : j < l.length), j < n → 128 ≤ l[j].toNat) → (∀ hn : n < l.length, l[n].toNat < 128) → (dec x k l).2.2 ≠ 7 := by
  induction l with
  | nil => intro x k n hn; simp at hn
  | cons b r ih =>
    intro x k n hn hk hb hl
    cases n with
    | zero =>
      have h0 : b.toNat < 128 := hl (by simp)
      rw [dec, if_pos (by omega), if_neg (by omega)]
      split <;> simp
    | succ n =>
      rw [dec_big (by have := hb 0 (by simp) (by omega); simpa using this) x k r (by omega)]
      rw [List.length_cons] at hn
      refine ih _ _ n (by omega) (by omega) (fun j hj hjn => ?_) (fun h => ?_)
      · have := hb (j + 1) (by simp; omega) (by omega)
        simpa using this
      · have := hl (by simp; omega)
        simpa using this

/-- The first byte below 128 is the n-th behind the first: the bytes up to it decide. -/
theorem dec_first {l : List UInt8} {n : Nat} (hn : n < l.length) (h10 : n < 10) (hb : ∀ j (hj : j < l.length), j < n → 128 ≤ l[j].toNat) (hl : ∀ h : n < l.length, l[n].toNat < 128) :
    dec 0 0 l = if enc (valF (l.take (n + 1))) = l.take (n + 1) then (valF (l.take (n + 1)), n + 1, 0) else (0, 0, 8) := by
  by_cases he : enc (valF (l.take (n + 1))) = l.take (n + 1)
  · rw [if_pos he]
    have h := dec_enc (valF (l.take (n + 1))) 0 0 (l.drop (n + 1)) (by have := valF_lt (l.take (n + 1)); simpa using this) (by omega) (by omega)
    rw [he, List.take_append_drop] at h
    rw [h, List.length_take]
    simp; omega
  · rw [if_neg he]
    have h7 := dec_not7 l 0 0 n hn (by omega) hb hl
    rcases dec_err l 0 0 with h | h | h
    · exfalso
      obtain ⟨v, tail, _, _, hlt, hv, _⟩ := dec_inv l 0 0 (dec 0 0 l).1 (dec 0 0 l).2.1 (Prod.ext rfl (Prod.ext rfl h))
      have hv64 : v < 2 ^ 64 := by simpa using hv
      have hpos := List.length_pos_iff.2 (enc_ne v)
      have hget : ∀ j (hj : j < (enc v).length) (hj2 : j < l.length), l[j] = (enc v)[j] := by
        intro j hj hj2
        simp only [hlt]
        rw [List.getElem_append_left hj]
      have hll : (enc v).length ≤ l.length := by have := congrArg List.length hlt; rw [List.length_append] at this; omega
      have hlen : (enc v).length = n + 1 := by
        have hlast := (enc_get v hv64 ((enc v).length - 1) (by omega)).2 (by omega)
        rw [← hget _ (by omega) (by omega)] at hlast
        rcases Nat.lt_trichotomy ((enc v).length - 1) n with h1 | h1 | h1
        · have := hb _ (by omega) h1; omega
        · omega
        · have h2 := (enc_get v hv64 n (by omega)).1 (by omega)
          rw [← hget n (by omega) hn] at h2
          have := hl hn
          omega
      have ht : l.take (n + 1) = enc v := by rw [hlt, ← hlen, List.take_left]
      rw [ht, valF_enc v hv64] at he
      exact he rfl
    · rw [h] at h7; exact absurd rfl h7
    · exact h
end Go.Proofs.YtapogiihkbjppaaDoor.Pk
