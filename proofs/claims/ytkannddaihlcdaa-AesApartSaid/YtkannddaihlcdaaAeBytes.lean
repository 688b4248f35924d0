/-
  AES on bytes: what twice, the turns and mixed do to a word's bytes; each word is its bytes'.
-/
import Derived.Test.YtkannddaihlcdaaAeMath
namespace Go.Proofs.Ytkannddaihlcdaa.Ae
open Sm (be4 be4_lt)

theorem join_xor (h h' l l' : Nat) (hl : l < 256) (hl' : l' < 256) : (h * 256 + l) ^^^ (h' * 256 + l') = (h ^^^ h') * 256 + (l ^^^ l') := by
  have hx : l ^^^ l' < 2 ^ 8 := Nat.xor_lt_two_pow (by omega) (by omega)
  rw [Nat.mul_comm h, Nat.mul_comm h', Nat.mul_comm (h ^^^ h'), show (256 : Nat) = 2 ^ 8 from rfl]
  apply Nat.eq_of_testBit_eq
  intro i
  rw [Nat.testBit_xor, Nat.testBit_two_pow_mul_add _ (by omega), Nat.testBit_two_pow_mul_add _ (by omega), Nat.testBit_two_pow_mul_add _ hx]
  split <;> simp [Nat.testBit_xor]
theorem join_and (h h' l l' : Nat) (hl : l < 256) (hl' : l' < 256) : (h * 256 + l) &&& (h' * 256 + l') = (h &&& h') * 256 + (l &&& l') := by
  have hx : l &&& l' < 2 ^ 8 := Nat.and_lt_two_pow _ (by omega)
  rw [Nat.mul_comm h, Nat.mul_comm h', Nat.mul_comm (h &&& h'), show (256 : Nat) = 2 ^ 8 from rfl]
  apply Nat.eq_of_testBit_eq
  intro i
  rw [Nat.testBit_and, Nat.testBit_two_pow_mul_add _ (by omega), Nat.testBit_two_pow_mul_add _ (by omega), Nat.testBit_two_pow_mul_add _ hx]
  split <;> simp [Nat.testBit_and]
theorem be4_join (a b c d : Nat) : be4 a b c d = ((a * 256 + b) * 256 + c) * 256 + d := by unfold be4; omega
theorem be4_xor {a b c d a' b' c' d' : Nat} (hb : b < 256) (hc : c < 256) (hd : d < 256) (hb' : b' < 256) (hc' : c' < 256) (hd' : d' < 256) :
    be4 a b c d ^^^ be4 a' b' c' d' = be4 (a ^^^ a') (b ^^^ b') (c ^^^ c') (d ^^^ d') := by
  rw [be4_join, be4_join, be4_join, join_xor _ _ _ _ hd hd', join_xor _ _ _ _ hc hc', join_xor _ _ _ _ hb hb']
theorem be4_and {a b c d a' b' c' d' : Nat} (hb : b < 256) (hc : c < 256) (hd : d < 256) (hb' : b' < 256) (hc' : c' < 256) (hd' : d' < 256) :
    be4 a b c d &&& be4 a' b' c' d' = be4 (a &&& a') (b &&& b') (c &&& c') (d &&& d') := by
  rw [be4_join, be4_join, be4_join, join_and _ _ _ _ hd hd', join_and _ _ _ _ hc hc', join_and _ _ _ _ hb hb']
theorem byteAt_be4 {a b c d : Nat} (ha : a < 256) (hb : b < 256) (hc : c < 256) (hd : d < 256) :
    byteAt (be4 a b c d) 0 = a ∧ byteAt (be4 a b c d) 1 = b ∧ byteAt (be4 a b c d) 2 = c ∧ byteAt (be4 a b c d) 3 = d := by
  unfold byteAt be4
  simp only [Nat.mul_zero, Nat.sub_zero, Nat.mul_one, Nat.reduceMul, Nat.reduceSub, Nat.reducePow, Nat.div_one]
  omega
theorem be4_byteAt {x : Nat} (h : x < 4294967296) : be4 (byteAt x 0) (byteAt x 1) (byteAt x 2) (byteAt x 3) = x := by
  unfold byteAt be4
  simp only [Nat.mul_zero, Nat.sub_zero, Nat.mul_one, Nat.reduceMul, Nat.reduceSub, Nat.reducePow, Nat.div_one]
  omega
theorem be4_inj {a b c d a' b' c' d' : Nat} (_ha : a < 256) (hb : b < 256) (hc : c < 256) (hd : d < 256) (_ha' : a' < 256) (hb' : b' < 256) (hc' : c' < 256) (hd' : d' < 256)
    (h : be4 a b c d = be4 a' b' c' d') : a = a' ∧ b = b' ∧ c = c' ∧ d = d' := by unfold be4 at h; omega

/-- A byte, times 2. -/
def xt (x : Nat) : Nat := x * 2 % 256 ^^^ x / 128 % 2 * 27
theorem xt_lt (x : Nat) : xt x < 256 := xor8_lt (Nat.mod_lt _ (by decide)) (by omega)
theorem xt_xor (x y : Nat) : xt (x ^^^ y) = xt x ^^^ xt y := by
  have h1 : (x ^^^ y) * 2 % 256 = (x * 2 % 256) ^^^ (y * 2 % 256) := by
    have : ∀ z : Nat, z * 2 = z <<< 1 := fun z => by rw [Nat.shiftLeft_eq]
    rw [this, this, this, Nat.shiftLeft_xor_distrib, show (256 : Nat) = 2 ^ 8 from rfl, Nat.xor_mod_two_pow]
  have h2 : (x ^^^ y) / 128 % 2 = (x / 128 % 2) ^^^ (y / 128 % 2) := by
    have : ∀ z : Nat, z / 128 = z >>> 7 := fun z => by rw [Nat.shiftRight_eq_div_pow]
    rw [this, this, this, Nat.shiftRight_xor_distrib, show (x >>> 7 ^^^ y >>> 7) % 2 = (x >>> 7 ^^^ y >>> 7) % 2 ^ 1 from rfl, Nat.xor_mod_two_pow]
  have h3 : ∀ b c : Nat, b < 2 → c < 2 → (b ^^^ c) * 27 = b * 27 ^^^ c * 27 := by
    intro b c hb hc
    have hb' : b = 0 ∨ b = 1 := by omega
    have hc' : c = 0 ∨ c = 1 := by omega
    rcases hb' with rfl | rfl <;> rcases hc' with rfl | rfl <;> rfl
  unfold xt
  rw [h1, h2, h3 _ _ (Nat.mod_lt _ (by decide)) (Nat.mod_lt _ (by decide))]
  generalize x * 2 % 256 = p
  generalize y * 2 % 256 = q
  generalize x / 128 % 2 * 27 = r
  generalize y / 128 % 2 * 27 = s
  rw [Nat.xor_assoc, Nat.xor_assoc, ← Nat.xor_assoc q, Nat.xor_comm q r, Nat.xor_assoc]
theorem and127 : ∀ x : Fin 256, x.val &&& 127 = x.val % 128 := by decide +kernel
theorem and128 : ∀ x : Fin 256, x.val &&& 128 = x.val / 128 * 128 := by decide +kernel
theorem xt_byte : ∀ x : Fin 256, (x.val % 128 * 2) ^^^ (x.val / 128 * 27) = xt x.val := by decide +kernel
theorem twice_be4 {a b c d : Nat} (ha : a < 256) (hb : b < 256) (hc : c < 256) (hd : d < 256) : twice (be4 a b c d) = be4 (xt a) (xt b) (xt c) (xt d) := by
  have m1 : be4 a b c d &&& 2139062143 = be4 (a % 128) (b % 128) (c % 128) (d % 128) := by
    rw [show (2139062143 : Nat) = be4 127 127 127 127 from rfl, be4_and hb hc hd (by decide) (by decide) (by decide), and127 ⟨a, ha⟩, and127 ⟨b, hb⟩, and127 ⟨c, hc⟩, and127 ⟨d, hd⟩]
  have m2 : be4 a b c d &&& 2155905152 = be4 (a / 128 * 128) (b / 128 * 128) (c / 128 * 128) (d / 128 * 128) := by
    rw [show (2155905152 : Nat) = be4 128 128 128 128 from rfl, be4_and hb hc hd (by decide) (by decide) (by decide), and128 ⟨a, ha⟩, and128 ⟨b, hb⟩, and128 ⟨c, hc⟩, and128 ⟨d, hd⟩]
  have m3 : be4 (a % 128) (b % 128) (c % 128) (d % 128) * 2 % 4294967296 = be4 (a % 128 * 2) (b % 128 * 2) (c % 128 * 2) (d % 128 * 2) := by unfold be4; omega
  have m4 : be4 (a / 128 * 128) (b / 128 * 128) (c / 128 * 128) (d / 128 * 128) / 128 * 27 % 4294967296 = be4 (a / 128 * 27) (b / 128 * 27) (c / 128 * 27) (d / 128 * 27) := by unfold be4; omega
  unfold twice
  rw [m1, m2, m3, m4, be4_xor (by omega) (by omega) (by omega) (by omega) (by omega) (by omega), xt_byte ⟨a, ha⟩, xt_byte ⟨b, hb⟩, xt_byte ⟨c, hc⟩, xt_byte ⟨d, hd⟩]
theorem rotl8_be4 {a b c d : Nat} (ha : a < 256) (hb : b < 256) (hc : c < 256) (hd : d < 256) : rotl (be4 a b c d) 8 = be4 b c d a := by
  unfold rotl
  have h1 : be4 a b c d * 2 ^ 8 % 4294967296 = ((b * 256 + c) * 256 + d) * 2 ^ 8 := by unfold be4; omega
  have h2 : be4 a b c d / 2 ^ (32 - 8) = a := by unfold be4; omega
  rw [h1, h2, Sm.or_top _ _ 8 (by omega)]
  unfold be4; omega
theorem rotl16_be4 {a b c d : Nat} (ha : a < 256) (hb : b < 256) (hc : c < 256) (hd : d < 256) : rotl (be4 a b c d) 16 = be4 c d a b := by
  unfold rotl
  have h1 : be4 a b c d * 2 ^ 16 % 4294967296 = (c * 256 + d) * 2 ^ 16 := by unfold be4; omega
  have h2 : be4 a b c d / 2 ^ (32 - 16) = a * 256 + b := by unfold be4; omega
  rw [h1, h2, Sm.or_top _ _ 16 (by omega)]
  unfold be4; omega
theorem rotl24_be4 {a b c d : Nat} (ha : a < 256) (hb : b < 256) (hc : c < 256) (hd : d < 256) : rotl (be4 a b c d) 24 = be4 d a b c := by
  unfold rotl
  have h1 : be4 a b c d * 2 ^ 24 % 4294967296 = d * 2 ^ 24 := by unfold be4; omega
  have h2 : be4 a b c d / 2 ^ (32 - 24) = (a * 256 + b) * 256 + c := by unfold be4; omega
  rw [h1, h2, Sm.or_top _ _ 24 (by omega)]
  unfold be4; omega
/-- A column's byte, mixed: it, and the three behind it. -/
def mx (a b c d : Nat) : Nat := xt (a ^^^ b) ^^^ b ^^^ c ^^^ d
theorem mx_lt {a b c d : Nat} (hb : b < 256) (hc : c < 256) (hd : d < 256) : mx a b c d < 256 := xor8_lt (xor8_lt (xor8_lt (xt_lt _) hb) hc) hd
theorem mixed_be4 {a b c d : Nat} (ha : a < 256) (hb : b < 256) (hc : c < 256) (hd : d < 256) : mixed (be4 a b c d) = be4 (mx a b c d) (mx b c d a) (mx c d a b) (mx d a b c) := by
  have x1 := xor8_lt ha hb
  have x2 := xor8_lt hb hc
  have x3 := xor8_lt hc hd
  have x4 := xor8_lt hd ha
  unfold mixed
  rw [rotl8_be4 ha hb hc hd, rotl16_be4 ha hb hc hd, rotl24_be4 ha hb hc hd, be4_xor hb hc hd hc hd ha, twice_be4 x1 x2 x3 x4,
    be4_xor (xt_lt _) (xt_lt _) (xt_lt _) hc hd ha, be4_xor (xor8_lt (xt_lt _) hc) (xor8_lt (xt_lt _) hd) (xor8_lt (xt_lt _) ha) hd ha hb,
    be4_xor (xor8_lt (xor8_lt (xt_lt _) hc) hd) (xor8_lt (xor8_lt (xt_lt _) hd) ha) (xor8_lt (xor8_lt (xt_lt _) ha) hb) ha hb hc]
  rfl
end Go.Proofs.Ytkannddaihlcdaa.Ae
