/-
  Texts that belong together, laid into one.
-/
import Derived.Test.YtibpgmcpcelmpaaGreatDoorMAes
import Derived.Test.YtibpgmcpcelmpaaGreatDoorMBase
import Derived.IntWalk
import Derived.Deep.RegionLaw
/-
  AES on bytes: what twice, the turns and mixed do to a word's bytes; each word is its bytes'.
-/
namespace Go.Proofs.YtibpgmcpcelmpaaGreatDoor.Ae
open Sm (be4 be4_lt)

theorem join_xor (h h' l l' : Nat) (hl : l < 256) (hl' : l' < 256) : (h * 256 + l) ^^^ (h' * 256 + l') = (h ^^^ h') * 256 + (l ^^^ l') := by
  have hx : l ^^^ l' < 2 ^ 8 := Nat.xor_lt_two_pow (by omega) (by omega)
  rw [Nat.mul_comm h, Nat.mul_comm h', Nat.mul_comm (h ^^^ h'), show (256 : Nat) = 2 ^ 8 from rfl]
  apply Nat.eq_of_testBit_eq
  intro i
  rw [Nat.testBit_xor, Nat.testBit_two_pow_mul_add _ (by omega), Nat.testBit_two_pow_mul_add _ (by omega), Nat.testBit_two_pow_mul_add _ hx]
  split <;> simp [Nat.testBit_xor]
theorem join_and (h h' l l' : Nat) (hl : l < 256) (hl' : l' < 256) : (h * 256 + l) &&& (h' * 256 + l') = (h &&& h') * 256 + (l &&& l') := by
  have hx : l &&& l' < 2 ^ 8 := Nat.and_lt_two_pow _ (by omega)
  rw [Nat.mul_comm h, Nat.mul_comm h', Nat.mul_comm (h &&& h'), show (256 : Nat) = 2 ^ 8 from rfl]
  apply Nat.eq_of_testBit_eq
  intro i
  rw [Nat.testBit_and, Nat.testBit_two_pow_mul_add _ (by omega), Nat.testBit_two_pow_mul_add _ (by omega), Nat.testBit_two_pow_mul_add _ hx]
  split <;> simp [Nat.testBit_and]
theorem be4_join (a b c d : Nat) : be4 a b c d = ((a * 256 + b) * 256 + c) * 256 + d := by unfold be4; omega
theorem be4_xor {a b c d a' b' c' d' : Nat} (hb : b < 256) (hc : c < 256) (hd : d < 256) (hb' : b' < 256) (hc' : c' < 256) (hd' : d' < 256) :
    be4 a b c d ^^^ be4 a' b' c' d' = be4 (a ^^^ a') (b ^^^ b') (c ^^^ c') (d ^^^ d') := by
  rw [be4_join, be4_join, be4_join, join_xor _ _ _ _ hd hd', join_xor _ _ _ _ hc hc', join_xor _ _ _ _ hb hb']
theorem be4_and {a b c d a' b' c' d' : Nat} (hb : b < 256) (hc : c < 256) (hd : d < 256) (hb' : b' < 256) (hc' : c' < 256) (hd' : d' < 256) :
    be4 a b c d &&& be4 a' b' c' d' = be4 (a &&& a') (b &&& b') (c &&& c') (d &&& d') := by
  rw [be4_join, be4_join, be4_join, join_and _ _ _ _ hd hd', join_and _ _ _ _ hc hc', join_and _ _ _ _ hb hb']
theorem byteAt_be4 {a b c d : Nat} (ha : a < 256) (hb : b < 256) (hc : c < 256) (hd : d < 256) :
    byteAt (be4 a b c d) 0 = a ∧ byteAt (be4 a b c d) 1 = b ∧ byteAt (be4 a b c d) 2 = c ∧ byteAt (be4 a b c d) 3 = d := by
  unfold byteAt be4
  simp only [Nat.mul_zero, Nat.sub_zero, Nat.mul_one, Nat.reduceMul, Nat.reduceSub, Nat.reducePow, Nat.div_one]
  omega
theorem be4_byteAt {x : Nat} (h : x < 4294967296) : be4 (byteAt x 0) (byteAt x 1) (byteAt x 2) (byteAt x 3) = x := by
  unfold byteAt be4
  simp only [Nat.mul_zero, Nat.sub_zero, Nat.mul_one, Nat.reduceMul, Nat.reduceSub, Nat.reducePow, Nat.div_one]
  omega
theorem be4_inj {a b c d a' b' c' d' : Nat} (_ha : a < 256) (hb : b < 256) (hc : c < 256) (hd : d < 256) (_ha' : a' < 256) (hb' : b' < 256) (hc' : c' < 256) (hd' : d' < 256)
    (h : be4 a b c d = be4 a' b' c' d') : a = a' ∧ b = b' ∧ c = c' ∧ d = d' := by unfold be4 at h; omega

/-- A byte, times 2. -/
def xt (x : Nat) : Nat := x * 2 % 256 ^^^ x / 128 % 2 * 27
theorem xt_lt (x : Nat) : xt x < 256 := xor8_lt (Nat.mod_lt _ (by decide)) (by omega)
theorem xt_xor (x y : Nat) : xt (x ^^^ y) = xt x ^^^ xt y := by
  have h1 : (x ^^^ y) * 2 % 256 = (x * 2 % 256) ^^^ (y * 2 % 256) := by
    have : ∀ z : Nat, z * 2 = z <<< 1 := fun z => by rw [Nat.shiftLeft_eq]
    rw [this, this, this, Nat.shiftLeft_xor_distrib, show (256 : Nat) = 2 ^ 8 from rfl, Nat.xor_mod_two_pow]
  have h2 : (x ^^^ y) / 128 % 2 = (x / 128 % 2) ^^^ (y / 128 % 2) := by
    have : ∀ z : Nat, z / 128 = z >>> 7 := fun z => by rw [Nat.shiftRight_eq_div_pow]
    rw [this, this, this, Nat.shiftRight_xor_distrib, show (x >>> 7 ^^^ y >>> 7) % 2 = (x >>> 7 ^^^ y >>> 7) % 2 ^ 1 from rfl, Nat.xor_mod_two_pow]
  have h3 : ∀ b c : Nat, b < 2 → c < 2 → (b ^^^ c) * 27 = b * 27 ^^^ c * 27 := by
    intro b c hb hc
    have hb' : b = 0 ∨ b = 1 := by omega
    have hc' : c = 0 ∨ c = 1 := by omega
    rcases hb' with rfl | rfl <;> rcases hc' with rfl | rfl <;> rfl
  unfold xt
  rw [h1, h2, h3 _ _ (Nat.mod_lt _ (by decide)) (Nat.mod_lt _ (by decide))]
  generalize x * 2 % 256 = p
  generalize y * 2 % 256 = q
  generalize x / 128 % 2 * 27 = r
  generalize y / 128 % 2 * 27 = s
  rw [Nat.xor_assoc, Nat.xor_assoc, ← Nat.xor_assoc q, Nat.xor_comm q r, Nat.xor_assoc]
theorem and127 : ∀ x : Fin 256, x.val &&& 127 = x.val % 128 := by decide +kernel
theorem and128 : ∀ x : Fin 256, x.val &&& 128 = x.val / 128 * 128 := by decide +kernel
theorem xt_byte : ∀ x : Fin 256, (x.val % 128 * 2) ^^^ (x.val / 128 * 27) = xt x.val := by decide +kernel
theorem twice_be4 {a b c d : Nat} (ha : a < 256) (hb : b < 256) (hc : c < 256) (hd : d < 256) : twice (be4 a b c d) = be4 (xt a) (xt b) (xt c) (xt d) := by
  have m1 : be4 a b c d &&& 2139062143 = be4 (a % 128) (b % 128) (c % 128) (d % 128) := by
    rw [show (2139062143 : Nat) = be4 127 127 127 127 from rfl, be4_and hb hc hd (by decide) (by decide) (by decide), and127 ⟨a, ha⟩, and127 ⟨b, hb⟩, and127 ⟨c, hc⟩, and127 ⟨d, hd⟩]
  have m2 : be4 a b c d &&& 2155905152 = be4 (a / 128 * 128) (b / 128 * 128) (c / 128 * 128) (d / 128 * 128) := by
    rw [show (2155905152 : Nat) = be4 128 128 128 128 from rfl, be4_and hb hc hd (by decide) (by decide) (by decide), and128 ⟨a, ha⟩, and128 ⟨b, hb⟩, and128 ⟨c, hc⟩, and128 ⟨d, hd⟩]
  have m3 : be4 (a % 128) (b % 128) (c % 128) (d % 128) * 2 % 4294967296 = be4 (a % 128 * 2) (b % 128 * 2) (c % 128 * 2) (d % 128 * 2) := by unfold be4; omega
  have m4 : be4 (a / 128 * 128) (b / 128 * 128) (c / 128 * 128) (d / 128 * 128) / 128 * 27 % 4294967296 = be4 (a / 128 * 27) (b / 128 * 27) (c / 128 * 27) (d / 128 * 27) := by unfold be4; omega
  unfold twice
  rw [m1, m2, m3, m4, be4_xor (by omega) (by omega) (by omega) (by omega) (by omega) (by omega), xt_byte ⟨a, ha⟩, xt_byte ⟨b, hb⟩, xt_byte ⟨c, hc⟩, xt_byte ⟨d, hd⟩]
theorem rotl8_be4 {a b c d : Nat} (ha : a < 256) (hb : b < 256) (hc : c < 256) (hd : d < 256) : rotl (be4 a b c d) 8 = be4 b c d a := by
  unfold rotl
  have h1 : be4 a b c d * 2 ^ 8 % 4294967296 = ((b * 256 + c) * 256 + d) * 2 ^ 8 := by unfold be4; omega
  have h2 : be4 a b c d / 2 ^ (32 - 8) = a := by unfold be4; omega
  rw [h1, h2, Sm.or_top _ _ 8 (by omega)]
  unfold be4; omega
theorem rotl16_be4 {a b c d : Nat} (ha : a < 256) (hb : b < 256) (hc : c < 256) (hd : d < 256) : rotl (be4 a b c d) 16 = be4 c d a b := by
  unfold rotl
  have h1 : be4 a b c d * 2 ^ 16 % 4294967296 = (c * 256 + d) * 2 ^ 16 := by unfold be4; omega
  have h2 : be4 a b c d / 2 ^ (32 - 16) = a * 256 + b := by unfold be4; omega
  rw [h1, h2, Sm.or_top _ _ 16 (by omega)]
  unfold be4; omega
theorem rotl24_be4 {a b c d : Nat} (ha : a < 256) (hb : b < 256) (hc : c < 256) (hd : d < 256) : rotl (be4 a b c d) 24 = be4 d a b c := by
  unfold rotl
  have h1 : be4 a b c d * 2 ^ 24 % 4294967296 = d * 2 ^ 24 := by unfold be4; omega
  have h2 : be4 a b c d / 2 ^ (32 - 24) = (a * 256 + b) * 256 + c := by unfold be4; omega
  rw [h1, h2, Sm.or_top _ _ 24 (by omega)]
  unfold be4; omega
/-- A column's byte, mixed: it, and the three behind it. -/
def mx (a b c d : Nat) : Nat := xt (a ^^^ b) ^^^ b ^^^ c ^^^ d
theorem mx_lt {a b c d : Nat} (hb : b < 256) (hc : c < 256) (hd : d < 256) : mx a b c d < 256 := xor8_lt (xor8_lt (xor8_lt (xt_lt _) hb) hc) hd
theorem mixed_be4 {a b c d : Nat} (ha : a < 256) (hb : b < 256) (hc : c < 256) (hd : d < 256) : mixed (be4 a b c d) = be4 (mx a b c d) (mx b c d a) (mx c d a b) (mx d a b c) := by
  have x1 := xor8_lt ha hb
  have x2 := xor8_lt hb hc
  have x3 := xor8_lt hc hd
  have x4 := xor8_lt hd ha
  unfold mixed
  rw [rotl8_be4 ha hb hc hd, rotl16_be4 ha hb hc hd, rotl24_be4 ha hb hc hd, be4_xor hb hc hd hc hd ha, twice_be4 x1 x2 x3 x4,
    be4_xor (xt_lt _) (xt_lt _) (xt_lt _) hc hd ha, be4_xor (xor8_lt (xt_lt _) hc) (xor8_lt (xt_lt _) hd) (xor8_lt (xt_lt _) ha) hd ha hb,
    be4_xor (xor8_lt (xor8_lt (xt_lt _) hc) hd) (xor8_lt (xor8_lt (xt_lt _) hd) ha) (xor8_lt (xor8_lt (xt_lt _) ha) hb) ha hb hc]
  rfl
end Go.Proofs.YtibpgmcpcelmpaaGreatDoor.Ae

/-
  The document's own AES, as plain functions: bytes multiplied, mirrors looked for; its S is the table.
-/
namespace Go.Proofs.YtibpgmcpcelmpaaGreatDoor.Ae

/-- A byte times 2, i times. -/
def xtN (a : Nat) : Nat → Nat
  | 0 => a
  | i + 1 => xt (xtN a i)
theorem xtN_lt {a : Nat} (h : a < 256) (i : Nat) : xtN a i < 256 := by
  cases i with
  | zero => exact h
  | succ i => exact xt_lt _
/-- What was added behind i bits. -/
def tmN (a b : Nat) : Nat → Nat
  | 0 => 0
  | i + 1 => if b / 2 ^ i % 2 = 1 then tmN a b i ^^^ xtN a i else tmN a b i
theorem tmN_lt {a b : Nat} (h : a < 256) (i : Nat) : tmN a b i < 256 := by
  induction i with
  | zero => exact (by decide : 0 < 256)
  | succ i ih =>
    unfold tmN
    split
    · exact xor8_lt ih (xtN_lt h i)
    · exact ih
def tm (a b : Nat) : Nat := tmN a b 8
theorem tm_lt {a b : Nat} (h : a < 256) : tm a b < 256 := tmN_lt h 8
theorem tm_1 (a : Nat) : tm a 1 = a := by
  show 0 ^^^ a = a
  exact Nat.zero_xor a
theorem tm_2 (a : Nat) : tm a 2 = xt a := by
  show 0 ^^^ xt a = xt a
  exact Nat.zero_xor _
theorem tm_3 (a : Nat) : tm a 3 = a ^^^ xt a := by
  show (0 ^^^ a) ^^^ xt a = _
  rw [Nat.zero_xor]
/-- A byte's mirror, looked for among those below i. -/
def mir (b : Nat) : Nat → Nat
  | 0 => 0
  | i + 1 => if tm b (i + 1) = 1 then i + 1 else mir b i
theorem mir_lt (b i : Nat) : mir b i < i + 1 := by
  induction i with
  | zero => exact Nat.zero_lt_one
  | succ i ih =>
    unfold mir
    split <;> omega
theorem mir_all : (List.range 256).all (fun b => ofM (mir b 255) == boxL.getD b 0) = true := by decide +kernel
theorem mir_sub (b : Nat) (h : b < 256) : ofM (mir b 255) = sub1 b := by
  have h1 := List.all_eq_true.1 mir_all b (List.mem_range.2 h)
  rw [beq_iff_eq] at h1
  exact h1
end Go.Proofs.YtibpgmcpcelmpaaGreatDoor.Ae

/-
  What the document's times, left, S do.
-/
namespace Go.Proofs.YtibpgmcpcelmpaaGreatDoor
open Go.RowKit
namespace Ae
theorem w_and1 (y : Nat) (h : y < 256) : bits .and .u8 (y : Int) 1 = ((y % 2 : Nat) : Int) := by
  have := u8_and_nat y 1 h (by decide)
  rw [Nat.and_one_is_mod] at this
  exact this
theorem xt_high (x : Nat) (h1 : 128 ≤ x) (h2 : x < 256) : xt x = (x * 2 % 256) ^^^ 27 := by
  unfold xt; rw [show x / 128 % 2 * 27 = 27 by omega]
theorem xt_low (x : Nat) (h1 : x < 128) : xt x = x * 2 % 256 := by
  unfold xt; rw [show x / 128 % 2 * 27 = 0 by omega, Nat.xor_zero]
end Ae

set_option maxRecDepth 100000 in
set_option maxHeartbeats 2000000 in
theorem times_any (a b : Nat) (ha : a < 256) (hb : b < 256) (w : World) :
    Calls Tryz.prog 116 #[.int .u8 a, .int .u8 b] w fun e w' => e = .returned (.int .u8 (Ae.tm a b : Nat)) ∧ w = w' := by
  go_enter Tryz.func116, Tryz.ntmps116
  go_wp2
  go_loop [0, 1, 5, 6] (fun x y n i => ∃ k : Nat, k ≤ 8 ∧ i = .int .i64 k ∧ x = .int .u8 (Ae.xtN a k : Nat) ∧ y = .int .u8 (b / 2 ^ k : Nat) ∧ n = .int .u8 (Ae.tmN a b k : Nat)) (fun _ _ _ i => 8 - (intOf i).toNat)
  case atStart => exact ⟨0, by omega, rfl, rfl, by simp, rfl⟩
  case round =>
    obtain ⟨k, hk, rfl, rfl, rfl, rfl⟩ := hrel
    by_cases hlt : k < 8
    · have q1 : (k : Int) < 8 := by omega
      have hx := Ae.xtN_lt ha k
      have hn := Ae.tmN_lt (b := b) ha k
      have hy : b / 2 ^ k < 256 := Nat.lt_of_le_of_lt (Nat.div_le_self _ _) hb
      have HT : Hid (Ae.tmN a b (k + 1) = if b / 2 ^ k % 2 = 1 then Ae.tmN a b k ^^^ Ae.xtN a k else Ae.tmN a b k) := rfl
      have HX : Hid (Ae.xtN a (k + 1) = Ae.xt (Ae.xtN a k)) := rfl
      have HY : Hid (b / 2 ^ (k + 1) = b / 2 ^ k / 2) := by show _ = _; rw [Nat.pow_succ, Nat.div_div_eq_div_mul]
      generalize Ae.tmN a b k = n at *
      generalize Ae.xtN a k = x at *
      generalize b / 2 ^ k = y at *
      have hw := Ae.w_and1 y hy
      have xi : (x : Int) < 256 := by omega
      have yi : (y : Int) < 256 := by omega
      by_cases h1 : y % 2 = 1
      · rw [h1] at hw
        rw [if_pos h1] at HT
        by_cases h2 : 128 ≤ x
        · have h2i : (128 : Int) ≤ x := by omega
          have HX2 := Lib.hid (Ae.xt_high x h2 hx)
          clear h1 h2
          go_wp2
          go_round
          case rel =>
            refine ⟨k + 1, by omega, by go_num, ?_, ?_, ?_⟩
            · rw [HX.out, HX2.out, ← Ae.w_xor8 (Nat.mod_lt _ (by decide)) (by decide)]
              congr 2
            · rw [HY.out]; go_num
            · rw [HT.out, ← Ae.w_xor8 hn hx]
          case measure => simp [intOf]; omega
        · have h2i : ¬ (128 : Int) ≤ x := by omega
          have HX2 := Lib.hid (Ae.xt_low x (by omega))
          clear h1 h2
          go_wp2
          go_round
          case rel =>
            refine ⟨k + 1, by omega, by go_num, ?_, ?_, ?_⟩
            · rw [HX.out, HX2.out]; go_num
            · rw [HY.out]; go_num
            · rw [HT.out, ← Ae.w_xor8 hn hx]
          case measure => simp [intOf]; omega
      · have h0 : y % 2 = 0 := by omega
        rw [h0] at hw
        rw [if_neg h1] at HT
        by_cases h2 : 128 ≤ x
        · have h2i : (128 : Int) ≤ x := by omega
          have HX2 := Lib.hid (Ae.xt_high x h2 hx)
          clear h1 h2 h0
          go_wp2
          go_round
          case rel =>
            refine ⟨k + 1, by omega, by go_num, ?_, ?_, ?_⟩
            · rw [HX.out, HX2.out, ← Ae.w_xor8 (Nat.mod_lt _ (by decide)) (by decide)]
              congr 2
            · rw [HY.out]; go_num
            · rw [HT.out]
          case measure => simp [intOf]; omega
        · have h2i : ¬ (128 : Int) ≤ x := by omega
          have HX2 := Lib.hid (Ae.xt_low x (by omega))
          clear h1 h2 h0
          go_wp2
          go_round
          case rel =>
            refine ⟨k + 1, by omega, by go_num, ?_, ?_, ?_⟩
            · rw [HX.out, HX2.out]; go_num
            · rw [HY.out]; go_num
            · rw [HT.out]
          case measure => simp [intOf]; omega
    · obtain rfl : k = 8 := by omega
      have q1 : ¬ ((8 : Nat) : Int) < 8 := by omega
      go_wp2
      go_ret
      exact ⟨rfl, rfl⟩

set_option maxHeartbeats 400000 in
theorem left_any (b n : Nat) (hb : b < 256) (h1 : 1 ≤ n) (h2 : n ≤ 7) (w : World) :
    Calls Tryz.prog 133 #[.int .u8 b, .int .u64 n] w fun e w' => e = .returned (.int .u8 (Ae.rot8 b n : Nat)) ∧ w = w' := by
  go_enter Tryz.func133, Tryz.ntmps133
  go_wp2
  go_ret
  refine ⟨ret_u8 ?_, rfl⟩
  have e3 : ((b : Int) * 2 ^ n) = ((b * 2 ^ n : Nat) : Int) := by push_cast; rfl
  have e4 : ((b : Int) / 2 ^ (8 - n)) = ((b / 2 ^ (8 - n) : Nat) : Int) := by push_cast; rfl
  rw [e3, e4, show ((b * 2 ^ n : Nat) : Int) % 256 = ((b * 2 ^ n % 256 : Nat) : Int) by omega]
  exact u8_or_nat _ _ (Nat.mod_lt _ (by decide)) (Nat.lt_of_le_of_lt (Nat.div_le_self _ _) hb)

set_option maxRecDepth 100000 in
set_option maxHeartbeats 2000000 in
theorem refS_any (b : Nat) (hb : b < 256) (w : World) :
    Calls Tryz.prog 115 #[.int .u8 b] w fun e w' => e = .returned (.int .u8 (Ae.sub1 b : Nat)) ∧ w = w' := by
  have HS := Lib.hid (Ae.mir_sub b hb)
  have TM := Lib.hid (fun (c : Nat) (hc : c < 256) (wx : World) => times_any b c hb hc wx)
  go_enter Tryz.func115, Tryz.ntmps115
  go_wp2_with fail
  go_loop [3, 4] (fun m i => ∃ k : Nat, k ≤ 255 ∧ i = .int .i64 ((k : Int) + 1) ∧ m = .int .u8 (Ae.mir b k : Nat)) (fun _ i => 257 - (intOf i).toNat)
  case atStart => exact ⟨0, by omega, rfl, rfl⟩
  case round =>
    obtain ⟨k, hk, rfl, rfl⟩ := hrel
    by_cases hlt : k < 255
    · have q1 : (k : Int) + 1 < 256 := by omega
      have q2 : IntKind.u8.wrap ((k : Int) + 1) = ((k + 1 : Nat) : Int) := by rw [IntKind.wrap_u8']; omega
      have HM : Hid (Ae.mir b (k + 1) = if Ae.tm b (k + 1) = 1 then k + 1 else Ae.mir b k) := rfl
      have T1 : Hid (∀ wx : World, Calls Tryz.prog 116 #[.int .u8 b, .int .u8 ((k : Int) + 1)] wx fun e w' => e = .returned (.int .u8 (Ae.tm b (k + 1) : Nat)) ∧ wx = w') := fun wx => by
        have h := TM.out (k + 1) (by omega) wx
        rw [show ((k + 1 : Nat) : Int) = (k : Int) + 1 by omega] at h
        exact h
      generalize Ae.mir b k = m at *
      by_cases h1 : Ae.tm b (k + 1) = 1
      · rw [if_pos h1] at HM
        rw [h1] at T1
        clear h1
        go_wp2_with fail
        refine (T1.out _).mono ?_
        rintro e w' ⟨rfl, rfl⟩
        go_wp2
        go_round
        case rel => exact ⟨k + 1, by omega, by go_num, by rw [HM.out]; go_num⟩
        case measure => simp [intOf]; omega
      · rw [if_neg h1] at HM
        have hz : ((Ae.tm b (k + 1) : Int) == 1) = false := by rw [beq_eq_false_iff_ne]; omega
        have hz2 : ¬ (Ae.tm b (k + 1) : Int) = 1 := by omega
        generalize Ae.tm b (k + 1) = y at *
        clear h1
        go_wp2_with fail
        refine (T1.out _).mono ?_
        rintro e w' ⟨rfl, rfl⟩
        go_wp2
        go_round
        case rel => exact ⟨k + 1, by omega, by go_num, by rw [HM.out]⟩
        case measure => simp [intOf]; omega
    · obtain rfl : k = 255 := by omega
      have q1 : ¬ ((255 : Nat) : Int) + 1 < 256 := by omega
      have hm : Ae.mir b 255 < 256 := Ae.mir_lt b 255
      have HSS := HS.out
      have l1 := Ae.rot8_lt (n := 1) hm
      have l2 := Ae.rot8_lt (n := 2) hm
      have l3 := Ae.rot8_lt (n := 3) hm
      have l4 := Ae.rot8_lt (n := 4) hm
      have HO : Hid (Ae.sub1 b = Ae.mir b 255 ^^^ Ae.rot8 (Ae.mir b 255) 1 ^^^ Ae.rot8 (Ae.mir b 255) 2 ^^^ Ae.rot8 (Ae.mir b 255) 3 ^^^ Ae.rot8 (Ae.mir b 255) 4 ^^^ 99) := HSS.symm
      clear HSS HS
      generalize Ae.mir b 255 = m at *
      have L1 : Hid (∀ wx : World, Calls Tryz.prog 133 #[.int .u8 m, .int .u64 1] wx fun e w' => e = .returned (.int .u8 (Ae.rot8 m 1 : Nat)) ∧ wx = w') := fun wx => left_any m 1 hm (by decide) (by decide) wx
      have L2 : Hid (∀ wx : World, Calls Tryz.prog 133 #[.int .u8 m, .int .u64 2] wx fun e w' => e = .returned (.int .u8 (Ae.rot8 m 2 : Nat)) ∧ wx = w') := fun wx => left_any m 2 hm (by decide) (by decide) wx
      have L3 : Hid (∀ wx : World, Calls Tryz.prog 133 #[.int .u8 m, .int .u64 3] wx fun e w' => e = .returned (.int .u8 (Ae.rot8 m 3 : Nat)) ∧ wx = w') := fun wx => left_any m 3 hm (by decide) (by decide) wx
      have L4 : Hid (∀ wx : World, Calls Tryz.prog 133 #[.int .u8 m, .int .u64 4] wx fun e w' => e = .returned (.int .u8 (Ae.rot8 m 4 : Nat)) ∧ wx = w') := fun wx => left_any m 4 hm (by decide) (by decide) wx
      have HL := Lib.hid hm
      go_wp2_with fail
      refine (L1.out _).mono ?_
      rintro e w' ⟨rfl, rfl⟩
      go_wp2_with fail
      refine (L2.out _).mono ?_
      rintro e w' ⟨rfl, rfl⟩
      go_wp2_with fail
      refine (L3.out _).mono ?_
      rintro e w' ⟨rfl, rfl⟩
      go_wp2_with fail
      refine (L4.out _).mono ?_
      rintro e w' ⟨rfl, rfl⟩
      go_wp2
      go_ret
      refine ⟨ret_u8 ?_, rfl⟩
      rw [HO.out, Ae.w_xor8 hm l1, Ae.w_xor8 (Ae.xor8_lt hm l1) l2, Ae.w_xor8 (Ae.xor8_lt (Ae.xor8_lt hm l1) l2) l3, Ae.w_xor8 (Ae.xor8_lt (Ae.xor8_lt (Ae.xor8_lt hm l1) l2) l3) l4]
      exact Ae.w_xor8 (b := 99) (Ae.xor8_lt (Ae.xor8_lt (Ae.xor8_lt (Ae.xor8_lt hm l1) l2) l3) l4) (by decide)
end Go.Proofs.YtibpgmcpcelmpaaGreatDoor

/-
  What the document's all makes: S of each byte, in a slice of its own.
-/
namespace Go.Proofs.YtibpgmcpcelmpaaGreatDoor
open Go.RowKit
namespace Ae
def s8 (k : Nat) : List UInt8 := (List.range k).map fun i => UInt8.ofNat (sub1 i)
theorem s8_length (k : Nat) : (s8 k).length = k := by simp [s8]
theorem s8_snoc (k : Nat) : Lib.byteCells (s8 (k + 1)) = Lib.byteCells (s8 k) ++ [.int .u8 (sub1 k : Nat)] := by
  rw [s8, Sm.range_snoc, Lib.byteCells_append]
  congr 1
  show [Value.int .u8 ((UInt8.ofNat (sub1 k)).toNat : Int)] = _
  rw [UInt8.toNat_ofNat', Nat.mod_eq_of_lt (sub1_lt k)]
theorem s8_get (i : Nat) (h : i < 256) : ((s8 256).getD i 0).toNat = sub1 i := by
  have : (s8 256)[i]? = some (UInt8.ofNat (sub1 i)) := by simp [s8, h]
  rw [List.getD_eq_getElem?_getD, this]
  show (UInt8.ofNat (sub1 i)).toNat = _
  rw [UInt8.toNat_ofNat', Nat.mod_eq_of_lt (sub1_lt i)]
end Ae

set_option maxRecDepth 100000 in
set_option maxHeartbeats 2000000 in
theorem refAll_any (w : World) :
    Calls Tryz.prog 91 #[] w fun e w' => ∃ A c, e = .returned (.slice A 256 c) ∧ w'.ownsRow w.heap.size 5 1 (.slice A 256 c) 256 (Lib.byteCells (Ae.s8 256)) ∧ Below w.heap.size w w' := by
  obtain ⟨i0, hi, hz0, hz1, hz2⟩ := info_parts info3_u8
  have SS := Lib.hid (fun (b : Nat) (hb : b < 256) (wx : World) => refS_any b hb wx)
  obtain ⟨N, hN⟩ : ∃ N, N = w.heap.size := ⟨_, rfl⟩
  rw [← hN]
  have HN := Lib.hid hN
  have hNw : N ≤ w.heap.size := by omega
  clear hN
  go_enter Tryz.func91, Tryz.ntmps91
  go_wp2_with fail
  go_loopw [1, 2] (fun v i wr => ∃ (k : Nat) (A : Option Addr) (c : Nat), k ≤ 256 ∧ i = .int .i64 k ∧ v = .slice A k c ∧ wr.ownsRow N 5 1 (.slice A k c) k (Lib.byteCells (Ae.s8 k)) ∧ Below N w wr) (fun _ i _ => 256 - (intOf i).toNat)
  case atStart => exact ⟨0, none, 0, by omega, rfl, rfl, ⟨rfl, .inl ⟨rfl, rfl⟩⟩, Below.refl _ _⟩
  case round =>
    obtain ⟨k, A, c, hk, rfl, rfl, hown, hbw⟩ := hrel
    have HO := Lib.hid hown
    clear hown
    by_cases hlt : k < 256
    · have q1 : (k : Int) < 256 := by omega
      have q2 : IntKind.u8.wrap (k : Int) = (k : Int) := by rw [IntKind.wrap_u8']; omega
      have hNs : N ≤ wr.heap.size := Nat.le_trans hNw hbw.size
      have hone : ∀ u ∈ [Value.int .u8 (Ae.sub1 k : Nat)], u.oneCell' = true := by intro u hu; simp at hu; subst hu; rfl
      go_wp2_with fail
      refine (SS.out k hlt _).mono ?_
      rintro e w' ⟨rfl, rfl⟩
      have HSN := Lib.hid (Ae.s8_snoc k)
      generalize Ae.sub1 k = y at *
      go_wp2_with (at_builtin; refine wpList_append_own _ rfl (.tmp 7) (.tmp 11) 85 rfl N 5 i0 (.int .u8 0) 1 1 Tryz.underlying85 hi hz0 hz1 hz2 rfl (by decide) (.slice A k c) k _ rfl (HO.out.alloc _) ⟨wr.heap.size, 0, none⟩ 1 1 [.int .u8 (y : Nat)] rfl rfl ?c1 hone ?c3 ?c4 ?c5 ?_)
      case c1 =>
        intro j u hj
        match j, hj with
        | 0, hj => simp at hj; subst hj; simp [Addr.add]
      case c3 => unfold maxLen; omega
      case c4 => omega
      case c5 => first | omega | (simp; omega)
      · intro v' w1 hown' hgrow _
        obtain ⟨A', c', rfl⟩ := Sm.own_shape hown'
        have HO2 := Lib.hid hown'
        have hb0 : Below N wr (wr.alloc (.cells #[.int .u8 (y : Nat)] 5)) := (Below.refl N wr).alloc hNs _
        have hb1 : Below N (wr.alloc (.cells #[.int .u8 (y : Nat)] 5)) w1 := (Below.refl N _).grown hgrow (by simp; omega) (fun j hj => (HO.out.lt j hj).1)
        have hb2 : Below N w w1 := (hbw.trans hb0).trans hb1
        clear hown' hgrow hb0 hb1
        go_wp2
        go_roundw
        case rel =>
          refine ⟨k + 1, A', c', by omega, by go_num, rfl, ?_, hb2⟩
          rw [HSN.out]
          exact HO2.out
        case measure => simp [intOf]; omega
    · obtain rfl : k = 256 := by omega
      have q1 : ¬ ((256 : Nat) : Int) < 256 := by omega
      go_wp2
      go_ret
      exact ⟨A, c, rfl, HO.out, hbw⟩
end Go.Proofs.YtibpgmcpcelmpaaGreatDoor

/-
  What the document's with does: a block's bytes, a round's words xored.
-/
namespace Go.Proofs.YtibpgmcpcelmpaaGreatDoor
open Go.RowKit
namespace Ae
/-- Just these bytes lie at the head of block g. -/
def BytesAt (w : World) (g : Nat) (l : List UInt8) : Prop := ∀ j, j < l.length → w.cell? ⟨g, j, none⟩ = some (.int .u8 ((l.getD j 0).toNat : Int))
/-- The first n of these words lie as slices of four bytes in block G. -/
def WsAt (w : World) (G : Nat) (ws : List Nat) (n : Nat) : Prop :=
  ∀ j, j < n → ∃ g c, w.cell? ⟨G, j, none⟩ = some (.slice (some ⟨g, 0, none⟩) 4 c) ∧ ∀ m, m < 4 → w.cell? ⟨g, m, none⟩ = some (.int .u8 (byteAt (ws.getD j 0) m : Nat))
theorem cell_lt {w : World} {g o : Nat} {v : Value} (h : w.cell? ⟨g, o, none⟩ = some v) : g < w.heap.size := by
  rcases Nat.lt_or_ge g w.heap.size with h1 | h1
  · exact h1
  · simp [World.cell?, Array.getElem?_eq_none h1] at h
theorem BytesAt.keep {w w' : World} {g : Nat} {l : List UInt8} {B : Nat} (h : BytesAt w g l) (hg : g < B) (k : Below B w w') : BytesAt w' g l := fun j hj => (k.cell (p := ⟨g, j, none⟩) hg).trans (h j hj)
theorem WsAt.keep {w w' : World} {G : Nat} {ws : List Nat} {n : Nat} {B : Nat} (h : WsAt w G ws n) (hB : w.heap.size ≤ B) (k : Below B w w') : WsAt w' G ws n := fun j hj => by
  obtain ⟨g, c, h1, h2⟩ := h j hj
  refine ⟨g, c, (k.cell (p := ⟨G, j, none⟩) (Nat.lt_of_lt_of_le (cell_lt h1) hB)).trans h1, fun m hm => ?_⟩
  exact (k.cell (p := ⟨g, m, none⟩) (Nat.lt_of_lt_of_le (cell_lt (h2 m hm)) hB)).trans (h2 m hm)
theorem byteAt_xor {x y : Nat} (hx : x < 4294967296) (hy : y < 4294967296) (j : Nat) (hj : j < 4) : byteAt (x ^^^ y) j = byteAt x j ^^^ byteAt y j := by
  have l : ∀ z i, byteAt z i < 256 := byteAt_lt
  have e : x ^^^ y = Sm.be4 (byteAt x 0 ^^^ byteAt y 0) (byteAt x 1 ^^^ byteAt y 1) (byteAt x 2 ^^^ byteAt y 2) (byteAt x 3 ^^^ byteAt y 3) := by
    have h := be4_xor (a := byteAt x 0) (a' := byteAt y 0) (l x 1) (l x 2) (l x 3) (l y 1) (l y 2) (l y 3)
    rw [be4_byteAt hx, be4_byteAt hy] at h
    exact h
  obtain ⟨h0, h1, h2, h3⟩ := byteAt_be4 (xor8_lt (l x 0) (l y 0)) (xor8_lt (l x 1) (l y 1)) (xor8_lt (l x 2) (l y 2)) (xor8_lt (l x 3) (l y 3))
  rw [← e] at h0 h1 h2 h3
  obtain rfl | rfl | rfl | rfl : j = 0 ∨ j = 1 ∨ j = 2 ∨ j = 3 := by omega
  · exact h0
  · exact h1
  · exact h2
  · exact h3
/-- A block's words, a round's words xored. -/
def withW (b ws : List Nat) (r : Nat) : List Nat := (List.range 4).map fun i => b.getD i 0 ^^^ ws.getD (4 * r + i) 0
theorem withW_get (b ws : List Nat) (r i : Nat) (hi : i < 4) : (withW b ws r).getD i 0 = b.getD i 0 ^^^ ws.getD (4 * r + i) 0 := by
  simp [withW, List.getD_eq_getElem?_getD, hi]
theorem outB_with (b ws : List Nat) (r i : Nat) (hb : ∀ x ∈ b, x < 4294967296) (hw : ∀ x ∈ ws, x < 4294967296) (hi : i < 16) :
    outB (withW b ws r) i = outB b i ^^^ UInt8.ofNat (byteAt (ws.getD (4 * r + i / 4) 0) (i % 4)) := by
  apply UInt8.toNat_inj.1
  rw [UInt8.toNat_xor, outB, outB, UInt8.toNat_ofNat', UInt8.toNat_ofNat', UInt8.toNat_ofNat', withW_get _ _ _ _ (by omega), byteAt_xor (getD_lt hb _) (getD_lt hw _) _ (by omega),
    Nat.mod_eq_of_lt (byteAt_lt _ _), Nat.mod_eq_of_lt (byteAt_lt _ _), Nat.mod_eq_of_lt (xor8_lt (byteAt_lt _ _) (byteAt_lt _ _))]
theorem bytes_get (b : List Nat) (i : Nat) (hi : i < 16) : (bytes b).getD i 0 = outB b i := by simp [bytes, List.getD_eq_getElem?_getD, hi]
end Ae

set_option maxRecDepth 100000 in
set_option maxHeartbeats 4000000 in
theorem with_any {w : World} {gb G : Nat} {b ws : List Nat} (c C : Nat) (r : Nat) (hbb : Ae.BytesAt w gb (Ae.bytes b)) (hws : Ae.WsAt w G ws 60) (hr : r ≤ 14) (hb : ∀ x ∈ b, x < 4294967296) (hw : ∀ x ∈ ws, x < 4294967296) :
    Calls Tryz.prog 117 #[.slice (some ⟨gb, 0, none⟩) 16 c, .slice (some ⟨G, 0, none⟩) 60 C, .int .i64 r] w fun e w' => ∃ g' c', e = .returned (.slice (some ⟨g', 0, none⟩) 16 c') ∧ w.heap.size ≤ g' ∧ Ae.BytesAt w' g' (Ae.bytes (Ae.withW b ws r)) ∧ Below w.heap.size w w' := by
  obtain ⟨i0, hi, hz0, hz1, hz2⟩ := info_parts info3_u8
  obtain ⟨N, hN⟩ : ∃ N, N = w.heap.size := ⟨_, rfl⟩
  have HBB := Lib.hid hbb
  have HWS := Lib.hid hws
  have HB := Lib.hid hb
  have HW := Lib.hid hw
  have hgb : gb < N := by rw [hN]; exact Ae.cell_lt (hbb 0 (by rw [Ae.bytes_length]; decide))
  have hNw : N ≤ w.heap.size := by omega
  rw [← hN]
  have HN := Lib.hid hN
  clear hbb hws hb hw hN
  go_enter Tryz.func117, Tryz.ntmps117
  go_wp2_with fail
  go_loopw [7, 8] (fun v i wr => ∃ (k : Nat) (A : Option Addr) (c : Nat), k ≤ 16 ∧ i = .int .i64 k ∧ v = .slice A k c ∧ wr.ownsRow N 5 1 (.slice A k c) k (Lib.byteCells ((List.range k).map (Ae.outB (Ae.withW b ws r)))) ∧ Below N w wr) (fun _ i _ => 16 - (intOf i).toNat)
  case atStart => exact ⟨0, none, 0, by omega, rfl, rfl, ⟨rfl, .inl ⟨rfl, rfl⟩⟩, Below.refl _ _⟩
  case round =>
    obtain ⟨k, A, c1, hk, rfl, rfl, hown, hbw⟩ := hrel
    have HO := Lib.hid hown
    clear hown
    by_cases hlt : k < 16
    · have q1 : (k : Int) < 16 := by omega
      have hNs : N ≤ wr.heap.size := Nat.le_trans hNw hbw.size
      have cb := (HBB.out.keep hgb hbw) k (by rw [Ae.bytes_length]; exact hlt)
      rw [Ae.bytes_get _ _ hlt] at cb
      obtain ⟨g, cg, cw0, cm⟩ := HWS.out (4 * r + k / 4) (by omega)
      have cx0 := cm (k % 4) (Nat.mod_lt _ (by decide))
      have hgN : g < N := by rw [HN.out]; exact Ae.cell_lt cx0
      have hGN : G < N := by rw [HN.out]; exact Ae.cell_lt cw0
      have cw := (hbw.cell (p := ⟨G, 4 * r + k / 4, none⟩) hGN).trans cw0
      have cx := (hbw.cell (p := ⟨g, k % 4, none⟩) hgN).trans cx0
      clear cw0 cx0
      have hout := Ae.outB_with b ws r k HB.out HW.out hlt
      have hxl := Ae.byteAt_lt (ws.getD (4 * r + k / 4) 0) (k % 4)
      clear cm
      have HOUT := Lib.hid hout
      clear hout
      generalize Ae.byteAt (ws.getD (4 * r + k / 4) 0) (k % 4) = y at *
      generalize Ae.outB b k = x at *
      have hx := x.toNat_lt
      have xi : (x.toNat : Int) < 256 := by omega
      have yi : (y : Int) < 256 := by omega
      have e1 : (4 * (r : Int) + (k : Int) / 4).toNat = 4 * r + k / 4 := by omega
      have e2 : ((k : Int) % 4).toNat = k % 4 := by omega
      have u1 : 4 * (r : Int) + (k : Int) / 4 < 60 := by omega
      have u2 : (k : Int) % 4 < 4 := by omega
      have u3 : 0 ≤ 4 * (r : Int) + (k : Int) / 4 := by omega
      have u4 : 0 ≤ (k : Int) % 4 := by omega
      have rr : (r : Int) ≤ 14 := by omega
      obtain ⟨z, hz⟩ : ∃ z, z = Ae.outB (Ae.withW b ws r) k := ⟨_, rfl⟩
      have hxo : bits .xor .u8 (x.toNat : Int) (y : Int) = (z.toNat : Int) := by
        rw [Ae.w_xor8 hx hxl, hz, HOUT.out, UInt8.toNat_xor, UInt8.toNat_ofNat', Nat.mod_eq_of_lt hxl]
      have HZ := Lib.hid hz
      clear hz
      have cbd : wr.drew.cell? ⟨gb, k, none⟩ = some (.int .u8 (x.toNat : Int)) := cb
      have cwd : wr.drew.cell? ⟨G, 4 * r + k / 4, none⟩ = some (.slice (some ⟨g, 0, none⟩) 4 cg) := cw
      have cxd : wr.drew.cell? ⟨g, k % 4, none⟩ = some (.int .u8 (y : Nat)) := cx
      have v1 : IntKind.i64.wrap (4 * (r : Int)) = 4 * (r : Int) := IntWalk.i64_in _ (by omega)
      have v2 : IntKind.i64.wrap (4 * (r : Int) + (k : Int) / 4) = 4 * (r : Int) + (k : Int) / 4 := IntWalk.i64_in _ (by omega)
      have v3 : IntKind.i64.wrap ((k : Int) / 4) = (k : Int) / 4 := IntWalk.i64_in _ (by omega)
      have v4 : IntKind.i64.wrap ((k : Int) % 4) = (k : Int) % 4 := IntWalk.i64_in _ (by omega)
      have v5 : (k : Int).tmod 4 = (k : Int) % 4 := Int.tmod_eq_emod_of_nonneg (by omega)
      clear cb cw cx
      have hone : ∀ u ∈ [Value.int .u8 (z.toNat : Int)], u.oneCell' = true := by intro u hu; simp at hu; subst hu; rfl
      go_wp2_with fail
      have CB := Lib.hid cbd
      have CW := Lib.hid cwd
      have CX := Lib.hid cxd
      have HXO := Lib.hid hxo
      have lg := Ae.cell_lt cxd
      have lG := Ae.cell_lt cwd
      have lb := Ae.cell_lt cbd
      clear cbd cwd cxd
      refine wp_region_noPanic ?_
      refine wp_region_held_drew (S := fun w' => w'.cell? ⟨gb, k, none⟩ = some (.int .u8 (x.toNat : Int)) ∧ w'.cell? ⟨G, 4 * r + k / 4, none⟩ = some (.slice (some ⟨g, 0, none⟩) 4 cg) ∧ w'.cell? ⟨g, k % 4, none⟩ = some (.int .u8 (y : Nat))) (by kernel_rfl) ⟨CB.out, CW.out, CX.out⟩ (fun hHeld => ?_)
      refine wpAnyH_take (i := 0) (oi := ⟨some 13, _, _, _, _, _⟩) (v := .slice A k c1) rfl (by kernel_rfl) (by kernel_rfl) (by kernel_rfl) (fun _ _ _ h => h) (Or.inl ⟨by rfl, ?_⟩) (by assumption) ?_
      · intro w hSw; (try dsimp only at hSw); go_simp
      simp only [Act.put, List.setIfInBounds_toArray, List.set_cons_zero, List.set_cons_succ]
      refine wpAnyH_take (i := 1) (oi := ⟨some 14, _, _, _, _, _⟩) (v := .slice (some ⟨gb, 0, none⟩) 16 c) rfl (by kernel_rfl) (by kernel_rfl) (by kernel_rfl) (fun _ _ _ h => h) (Or.inl ⟨by rfl, ?_⟩) (by assumption) ?_
      · intro w hSw; (try dsimp only at hSw); go_simp
      simp only [Act.put, List.setIfInBounds_toArray, List.set_cons_zero, List.set_cons_succ]
      refine wpAnyH_take (i := 2) (oi := ⟨some 15, _, _, _, _, _⟩) (v := .int .i64 ((k : Int))) rfl (by kernel_rfl) (by kernel_rfl) (by kernel_rfl) (fun _ _ _ h => h) (Or.inl ⟨by rfl, ?_⟩) (by assumption) ?_
      · intro w hSw; (try dsimp only at hSw); go_simp
      simp only [Act.put, List.setIfInBounds_toArray, List.set_cons_zero, List.set_cons_succ]
      refine wpAnyH_take (i := 3) (oi := ⟨some 16, _, _, _, _, _⟩) (v := .pointer (some ⟨gb, k, none⟩)) rfl (by kernel_rfl) (by kernel_rfl) (by kernel_rfl) (fun _ _ _ h => h) (Or.inl ⟨by rfl, ?_⟩) (by assumption) ?_
      · intro w hSw; (try dsimp only at hSw); go_simp
      simp only [Act.put, List.setIfInBounds_toArray, List.set_cons_zero, List.set_cons_succ]
      refine wpAnyH_take (i := 4) (oi := ⟨some 17, _, _, _, _, _⟩) (v := .int .u8 (x.toNat : Int)) rfl (by kernel_rfl) (by kernel_rfl) (by kernel_rfl) (fun _ _ _ h => h) (Or.inl ⟨by rfl, ?_⟩) (by assumption) ?_
      · intro w hSw; (try dsimp only at hSw); go_simp
      simp only [Act.put, List.setIfInBounds_toArray, List.set_cons_zero, List.set_cons_succ]
      refine wpAnyH_take (i := 5) (oi := ⟨some 18, _, _, _, _, _⟩) (v := .slice (some ⟨G, 0, none⟩) 60 C) rfl (by kernel_rfl) (by kernel_rfl) (by kernel_rfl) (fun _ _ _ h => h) (Or.inl ⟨by rfl, ?_⟩) (by assumption) ?_
      · intro w hSw; (try dsimp only at hSw); go_simp
      simp only [Act.put, List.setIfInBounds_toArray, List.set_cons_zero, List.set_cons_succ]
      refine wpAnyH_take (i := 6) (oi := ⟨some 19, _, _, _, _, _⟩) (v := .int .i64 ((r : Int))) rfl (by kernel_rfl) (by kernel_rfl) (by kernel_rfl) (fun _ _ _ h => h) (Or.inl ⟨by rfl, ?_⟩) (by assumption) ?_
      · intro w hSw; (try dsimp only at hSw); go_simp
      simp only [Act.put, List.setIfInBounds_toArray, List.set_cons_zero, List.set_cons_succ]
      refine wpAnyH_take (i := 7) (oi := ⟨some 20, _, _, _, _, _⟩) (v := .int .i64 (4 * (r : Int))) rfl (by kernel_rfl) (by kernel_rfl) (by kernel_rfl) (fun _ _ _ h => h) (Or.inl ⟨by rfl, ?_⟩) (by assumption) ?_
      · intro w hSw; (try dsimp only at hSw); go_simp
      simp only [Act.put, List.setIfInBounds_toArray, List.set_cons_zero, List.set_cons_succ]
      refine wpAnyH_take (i := 8) (oi := ⟨some 21, _, _, _, _, _⟩) (v := .int .i64 ((k : Int))) rfl (by kernel_rfl) (by kernel_rfl) (by kernel_rfl) (fun _ _ _ h => h) (Or.inl ⟨by rfl, ?_⟩) (by assumption) ?_
      · intro w hSw; (try dsimp only at hSw); go_simp
      simp only [Act.put, List.setIfInBounds_toArray, List.set_cons_zero, List.set_cons_succ]
      refine wpAnyH_take (i := 9) (oi := ⟨some 22, _, _, _, _, _⟩) (v := .int .i64 ((k : Int) / 4)) rfl (by kernel_rfl) (by kernel_rfl) (by kernel_rfl) (fun _ _ _ h => h) (Or.inl ⟨by rfl, ?_⟩) (by assumption) ?_
      · intro w hSw; (try dsimp only at hSw); go_simp
      simp only [Act.put, List.setIfInBounds_toArray, List.set_cons_zero, List.set_cons_succ]
      refine wpAnyH_take (i := 10) (oi := ⟨some 23, _, _, _, _, _⟩) (v := .int .i64 (4 * (r : Int) + (k : Int) / 4)) rfl (by kernel_rfl) (by kernel_rfl) (by kernel_rfl) (fun _ _ _ h => h) (Or.inl ⟨by rfl, ?_⟩) (by assumption) ?_
      · intro w hSw; (try dsimp only at hSw); go_simp
      simp only [Act.put, List.setIfInBounds_toArray, List.set_cons_zero, List.set_cons_succ]
      refine wpAnyH_take (i := 11) (oi := ⟨some 24, _, _, _, _, _⟩) (v := .pointer (some ⟨G, 4 * r + k / 4, none⟩)) rfl (by kernel_rfl) (by kernel_rfl) (by kernel_rfl) (fun _ _ _ h => h) (Or.inl ⟨by rfl, ?_⟩) (by assumption) ?_
      · intro w hSw; (try dsimp only at hSw); go_simp
      simp only [Act.put, List.setIfInBounds_toArray, List.set_cons_zero, List.set_cons_succ]
      refine wpAnyH_take (i := 12) (oi := ⟨some 25, _, _, _, _, _⟩) (v := .slice (some ⟨g, 0, none⟩) 4 cg) rfl (by kernel_rfl) (by kernel_rfl) (by kernel_rfl) (fun _ _ _ h => h) (Or.inl ⟨by rfl, ?_⟩) (by assumption) ?_
      · intro w hSw; (try dsimp only at hSw); go_simp
      simp only [Act.put, List.setIfInBounds_toArray, List.set_cons_zero, List.set_cons_succ]
      refine wpAnyH_take (i := 13) (oi := ⟨some 26, _, _, _, _, _⟩) (v := .int .i64 ((k : Int))) rfl (by kernel_rfl) (by kernel_rfl) (by kernel_rfl) (fun _ _ _ h => h) (Or.inl ⟨by rfl, ?_⟩) (by assumption) ?_
      · intro w hSw; (try dsimp only at hSw); go_simp
      simp only [Act.put, List.setIfInBounds_toArray, List.set_cons_zero, List.set_cons_succ]
      refine wpAnyH_take (i := 14) (oi := ⟨some 27, _, _, _, _, _⟩) (v := .int .i64 ((k : Int) % 4)) rfl (by kernel_rfl) (by kernel_rfl) (by kernel_rfl) (fun _ _ _ h => h) (Or.inl ⟨by rfl, ?_⟩) (by assumption) ?_
      · intro w hSw; (try dsimp only at hSw); go_simp
      simp only [Act.put, List.setIfInBounds_toArray, List.set_cons_zero, List.set_cons_succ]
      refine wpAnyH_take (i := 15) (oi := ⟨some 28, _, _, _, _, _⟩) (v := .pointer (some ⟨g, k % 4, none⟩)) rfl (by kernel_rfl) (by kernel_rfl) (by kernel_rfl) (fun _ _ _ h => h) (Or.inl ⟨by rfl, ?_⟩) (by assumption) ?_
      · intro w hSw; (try dsimp only at hSw); go_simp
      simp only [Act.put, List.setIfInBounds_toArray, List.set_cons_zero, List.set_cons_succ]
      refine wpAnyH_take (i := 16) (oi := ⟨some 29, _, _, _, _, _⟩) (v := .int .u8 (y : Nat)) rfl (by kernel_rfl) (by kernel_rfl) (by kernel_rfl) (fun _ _ _ h => h) (Or.inl ⟨by rfl, ?_⟩) (by assumption) ?_
      · intro w hSw; (try dsimp only at hSw); go_simp
      simp only [Act.put, List.setIfInBounds_toArray, List.set_cons_zero, List.set_cons_succ]
      refine wpAnyH_take (i := 17) (oi := ⟨some 30, _, _, _, _, _⟩) (v := .int .u8 (z.toNat : Int)) rfl (by kernel_rfl) (by kernel_rfl) (by kernel_rfl) (fun _ _ _ h => h) (Or.inl ⟨by rfl, ?_⟩) (by assumption) ?_
      · intro w hSw; (try dsimp only at hSw); go_simp
      simp only [Act.put, List.setIfInBounds_toArray, List.set_cons_zero, List.set_cons_succ]
      refine wpAnyH_ready (rs := [18]) (by kernel_rfl) (by simp) ?_
      refine AllReadyH.cons (o := ⟨some 31, _, _, _, _, _⟩) rfl (fun K hK => ?_) AllReadyH.nil
      go_simp
      have CB2 : Hid ((wr.alloc (.cells #[.int .u8 (z.toNat : Int)] 5)).drew.cell? ⟨gb, k, none⟩ = some (.int .u8 (x.toNat : Int))) := (World.cell?_alloc_lt wr _ ⟨gb, k, none⟩ lb).trans CB.out
      have CW2 : Hid ((wr.alloc (.cells #[.int .u8 (z.toNat : Int)] 5)).drew.cell? ⟨G, 4 * r + k / 4, none⟩ = some (.slice (some ⟨g, 0, none⟩) 4 cg)) := (World.cell?_alloc_lt wr _ ⟨G, 4 * r + k / 4, none⟩ lG).trans CW.out
      have CX2 : Hid ((wr.alloc (.cells #[.int .u8 (z.toNat : Int)] 5)).drew.cell? ⟨g, k % 4, none⟩ = some (.int .u8 (y : Nat))) := (World.cell?_alloc_lt wr _ ⟨g, k % 4, none⟩ lg).trans CX.out
      have hown2 : (wr.alloc (.cells #[.int .u8 (z.toNat : Int)] 5)).drew.ownsRow N 5 1 (.slice A k c1) k (Lib.byteCells ((List.range k).map (Ae.outB (Ae.withW b ws r)))) := HO.out.alloc _
      have hnew : ∀ j u, [Value.int .u8 (z.toNat : Int)][j]? = some u → (wr.alloc (.cells #[.int .u8 (z.toNat : Int)] 5)).drew.cell? ((⟨wr.heap.size, 0, none⟩ : Addr).add j) = some u := by
        intro j u hj
        match j, hj with
        | 0, hj => simp at hj; subst hj; simp [Addr.add]
      have hsz2 : N ≤ (wr.alloc (.cells #[.int .u8 (z.toNat : Int)] 5)).drew.heap.size := by show N ≤ (wr.alloc (.cells #[.int .u8 (z.toNat : Int)] 5)).heap.size; simp; omega
      have hb0 : Below N wr (wr.alloc (.cells #[.int .u8 (z.toNat : Int)] 5)).drew := ((Below.refl N wr).alloc hNs _).drew
      refine hK.out _ _ ⟨CB2.out, CW2.out, CX2.out⟩ (fun hHeld => ?_)
      clear hK K
      have HOW2 := Lib.hid hown2
      have HNEW := Lib.hid hnew
      clear hown2 hnew
      refine wpAnyH_ready (rs := [19]) (by kernel_rfl) (by simp) ?_
      refine AllReadyH.cons (o := ⟨some 32, _, _, _, _, _⟩) rfl (fun K hK => ?_) AllReadyH.nil
      refine Sm.step_append_own rfl (.tmp 13) (.tmp 31) 85 rfl N 5 i0 (.int .u8 0) 1 1 Tryz.underlying85 hi hz0 hz1 hz2 rfl (by decide) (.slice A k c1) k _ rfl HOW2.out ⟨wr.heap.size, 0, none⟩ 1 1 [.int .u8 (z.toNat : Int)] rfl rfl HNEW.out hone (by unfold maxLen; omega) (by omega) hsz2 ?_
      intro A' c' w1 hown' hgrow
      have HO2 := Lib.hid hown'
      have hb1 : Below N (wr.alloc (.cells #[.int .u8 (z.toNat : Int)] 5)).drew w1 := (Below.refl N _).grown hgrow hsz2 (fun j hj => (HO.out.lt j hj).1)
      have hb2 : Below N w w1 := (hbw.trans hb0).trans hb1
      have CB3 := Lib.hid ((hb1.cell (p := ⟨gb, k, none⟩) hgb).trans CB2.out)
      have CW3 := Lib.hid ((hb1.cell (p := ⟨G, 4 * r + k / 4, none⟩) hGN).trans CW2.out)
      have CX3 := Lib.hid ((hb1.cell (p := ⟨g, k % 4, none⟩) hgN).trans CX2.out)
      clear hown' hgrow hb0 hb1
      refine hK.out _ _ ⟨CB3.out, CW3.out, CX3.out⟩ (fun hHeld => ?_)
      clear hK K
      simp only [Act.put, List.setIfInBounds_toArray, List.set_cons_zero, List.set_cons_succ]
      refine wpAnyH_take (i := 20) (oi := ⟨some 7, _, _, _, _, _⟩) (v := .slice A' (k + 1) c') rfl (by kernel_rfl) (by kernel_rfl) (by kernel_rfl) (fun _ _ _ h => h) (Or.inl ⟨by rfl, ?_⟩) (by assumption) ?_
      · intro w hSw; (try dsimp only at hSw); go_simp
      simp only [Act.put, List.setIfInBounds_toArray, List.set_cons_zero, List.set_cons_succ]
      refine wpAnyH_done (by kernel_rfl) ?_ _
      refine NoPanic.normal ?_
      clear v1 v2 v3 v4 v5 e1 e2 u1 u2 u3 u4 hHeld
      go_wp2
      go_roundw
      case rel =>
        refine ⟨k + 1, A', c', by omega, by go_num, rfl, ?_, hb2⟩
        rw [Sm.range_snoc, Lib.byteCells_append, ← HZ.out]
        exact HO2.out
      case measure => simp [intOf]; omega
    · obtain rfl : k = 16 := by omega
      have q1 : ¬ ((16 : Nat) : Int) < 16 := by omega
      rcases HO.out.2 with ⟨hv, hn0⟩ | ⟨g', cap, cur, hv, hBg, hh, hn2, hc2, hs2, ht2⟩
      · omega
      · simp only [Value.slice.injEq] at hv
        obtain ⟨rfl, -, rfl⟩ := hv
        have hby : Ae.BytesAt wr g' (Ae.bytes (Ae.withW b ws r)) := fun j hj => by
          have hj16 : j < 16 := by rw [Ae.bytes_length] at hj; exact hj
          have hcell := HO.out.cells (g := g') rfl j _ (Sm.byteCells_get (by simpa using hj16))
          rw [Addr.add_mid, Nat.zero_add] at hcell
          exact hcell
        clear hh ht2 hs2
        go_wp2
        go_ret
        exact ⟨g', ⟨c1, rfl⟩, hBg, hby, hbw⟩
end Go.Proofs.YtibpgmcpcelmpaaGreatDoor

/-
  Words as slices of four bytes, and what the steps of the schedule do to bytes.
-/
namespace Go.Proofs.YtibpgmcpcelmpaaGreatDoor
open Go.RowKit
namespace Ae
theorem info_bytes : (Tryz.prog.info? 85).map (fun i => (i.zero, i.size, i.bytes)) = some (some (.slice none 0 0), 1, 24) := by kernel_rfl
/-- Four bytes lie at the head of block g, a block of bytes that may be written. -/
def FAt (w : World) (g : Nat) (f : Nat → Nat) : Prop := ∃ cur : Array Value, w.heap[g]? = some (.cells cur 5 (0, 0)) ∧ ∀ m, m < 4 → cur[m]? = some (.int .u8 (f m : Nat))
theorem FAt.lt {w : World} {g : Nat} {f : Nat → Nat} (h : FAt w g f) : g < w.heap.size := by
  obtain ⟨cur, h1, _⟩ := h
  exact Sm.lt_of h1
theorem FAt.cell {w : World} {g : Nat} {f : Nat → Nat} (h : FAt w g f) (m : Nat) (hm : m < 4) : w.cell? ⟨g, m, none⟩ = some (.int .u8 (f m : Nat)) := by
  obtain ⟨cur, h1, h2⟩ := h
  exact Sm.cells_of h1 m _ (h2 m hm)
theorem FAt.free {w : World} {g : Nat} {f : Nat → Nat} (h : FAt w g f) (m : Nat) : w.frozen? ⟨g, m, none⟩ = false := by
  obtain ⟨cur, h1, h2⟩ := h
  exact Sm.free_of h1 m
theorem FAt.block {w w' : World} {g : Nat} {f : Nat → Nat} (h : FAt w g f) (k : w'.heap[g]? = w.heap[g]?) : FAt w' g f := by
  obtain ⟨cur, h1, h2⟩ := h
  exact ⟨cur, k.trans h1, h2⟩
theorem FAt.set {w : World} {g : Nat} {f f' : Nat → Nat} (h : FAt w g f) (k : Nat) (hk : k < 4) (hf : ∀ m, m < 4 → m ≠ k → f' m = f m) : FAt (w.setCell ⟨g, k, none⟩ (.int .u8 (f' k : Nat))) g f' := by
  obtain ⟨cur, h1, h2⟩ := h
  refine ⟨_, Sm.heap_set h1 k _, fun m hm => ?_⟩
  have hs : k < cur.size := (Array.getElem?_eq_some_iff.1 (h2 k hk)).1
  by_cases e : m = k
  · subst e
    rw [Array.getElem?_setIfInBounds_self_of_lt hs]
  · rw [Array.getElem?_setIfInBounds_ne (Ne.symm e), h2 m hm, hf m hm e]
theorem FAt.ext {w : World} {g : Nat} {f f' : Nat → Nat} (h : FAt w g f) (e : ∀ m, m < 4 → f' m = f m) : FAt w g f' := by
  obtain ⟨cur, h1, h2⟩ := h
  exact ⟨cur, h1, fun m hm => by rw [h2 m hm, e m hm]⟩
/-- These values are slices of these words' bytes, each in a block from N on. -/
def Words (w : World) (N : Nat) (xs : List Value) (ws : List Nat) : Prop :=
  xs.length = ws.length ∧ ∀ j, j < ws.length → ∃ g c, xs[j]? = some (.slice (some ⟨g, 0, none⟩) 4 c) ∧ N ≤ g ∧ FAt w g (byteAt (ws.getD j 0))
theorem Words.keep {w w' : World} {N : Nat} {xs : List Value} {ws : List Nat} {B : Nat} (h : Words w N xs ws) (hB : w.heap.size ≤ B) (k : Below B w w') : Words w' N xs ws :=
  ⟨h.1, fun j hj => by
    obtain ⟨g, c, h1, h2, h3⟩ := h.2 j hj
    exact ⟨g, c, h1, h2, h3.block (k.block g (Nat.lt_of_lt_of_le h3.lt hB))⟩⟩
theorem own_ne {w : World} {base n size g : Nat} {e t : TypeId} {v : Value} {ys : List Value} {cur : Array Value} {fr : Nat × Nat} (ho : w.ownsRow base e size v n ys) (h : w.heap[g]? = some (.cells cur t fr)) (hne : t ≠ e) : some g ≠ v.ownBlock := by
  rcases ho.2 with ⟨rfl, _⟩ | ⟨g', cap, cur', rfl, _, hh, _⟩
  · simp [Value.ownBlock]
  · intro e2
    have e3 : g = g' := by simpa [Value.ownBlock] using e2
    subst e3
    rw [h] at hh
    injection hh with hh
    injection hh with _ ht
    exact hne ht
/-- An append to the outer row leaves the words: their blocks are of bytes. -/
theorem Words.grown {w w' : World} {N : Nat} {xs : List Value} {ws : List Nat} {base n : Nat} {v : Value} {ys : List Value} (h : Words w N xs ws) (ho : w.ownsRow base 85 1 v n ys) (k : w.grownBy w' v.ownBlock) : Words w' N xs ws :=
  ⟨h.1, fun j hj => by
    obtain ⟨g, c, h1, h2, h3⟩ := h.2 j hj
    refine ⟨g, c, h1, h2, h3.block (k.block g h3.lt ?_)⟩
    obtain ⟨cur, h4, _⟩ := h3
    rcases ho.2 with ⟨rfl, _⟩ | ⟨g', cap, cur', rfl, _, hh, _⟩
    · simp [Value.ownBlock]
    · intro e
      have e2 : g = g' := by simpa [Value.ownBlock] using e
      subst e2
      rw [h4] at hh
      injection hh with hh
      injection hh with _ ht
      exact absurd ht (by decide)⟩
theorem Words.snoc {w : World} {N : Nat} {xs : List Value} {ws : List Nat} {g c x : Nat} (h : Words w N xs ws) (hg : N ≤ g) (hx : FAt w g (byteAt x)) : Words w N (xs ++ [.slice (some ⟨g, 0, none⟩) 4 c]) (ws ++ [x]) :=
  ⟨by simp [h.1], fun j hj => by
    rw [List.length_append, List.length_singleton] at hj
    by_cases e : j < ws.length
    · obtain ⟨g', c', h1, h2, h3⟩ := h.2 j e
      refine ⟨g', c', by rw [List.getElem?_append_left (by rw [h.1]; exact e)]; exact h1, h2, ?_⟩
      rw [List.getD_eq_getElem?_getD, List.getElem?_append_left e, ← List.getD_eq_getElem?_getD]
      exact h3
    · obtain rfl : j = ws.length := by omega
      refine ⟨g, c, by rw [List.getElem?_append_right (by rw [h.1]; exact Nat.le_refl _), h.1, Nat.sub_self]; rfl, hg, ?_⟩
      rw [List.getD_eq_getElem?_getD, List.getElem?_append_right (Nat.le_refl _), Nat.sub_self]
      exact hx⟩
theorem byte_word (l : List UInt8) (i m : Nat) (hm : m < 4) : byteAt (Sm.word l i) m = (l.getD (4 * i + m) 0).toNat := by
  obtain ⟨h0, h1, h2, h3⟩ := byteAt_be4 (UInt8.toNat_lt (l.getD (4 * i) 0)) (UInt8.toNat_lt (l.getD (4 * i + 1) 0)) (UInt8.toNat_lt (l.getD (4 * i + 2) 0)) (UInt8.toNat_lt (l.getD (4 * i + 3) 0))
  obtain rfl | rfl | rfl | rfl : m = 0 ∨ m = 1 ∨ m = 2 ∨ m = 3 := by omega
  · exact h0
  · exact h1
  · exact h2
  · exact h3
theorem byte_sub (x m : Nat) (hm : m < 4) : byteAt (subW x) m = sub1 (byteAt x m) := by
  obtain ⟨h0, h1, h2, h3⟩ := byteAt_be4 (sub1_lt (byteAt x 0)) (sub1_lt (byteAt x 1)) (sub1_lt (byteAt x 2)) (sub1_lt (byteAt x 3))
  obtain rfl | rfl | rfl | rfl : m = 0 ∨ m = 1 ∨ m = 2 ∨ m = 3 := by omega
  · exact h0
  · exact h1
  · exact h2
  · exact h3
theorem byte_rotl {x : Nat} (hx : x < 4294967296) (m : Nat) (hm : m < 4) : byteAt (rotl x 8) m = byteAt x ((m + 1) % 4) := by
  have l : ∀ z i, byteAt z i < 256 := byteAt_lt
  have e := rotl8_be4 (l x 0) (l x 1) (l x 2) (l x 3)
  rw [be4_byteAt hx] at e
  obtain ⟨h0, h1, h2, h3⟩ := byteAt_be4 (l x 1) (l x 2) (l x 3) (l x 0)
  rw [← e] at h0 h1 h2 h3
  obtain rfl | rfl | rfl | rfl : m = 0 ∨ m = 1 ∨ m = 2 ∨ m = 3 := by omega
  · exact h0
  · exact h1
  · exact h2
  · exact h3
theorem pow2_small : ∀ n : Fin 7, pow2 n.val = xtN 1 n.val := by decide +kernel
theorem byte_pow (n m : Nat) (hn : n < 7) (hm : m < 4) : byteAt (pow2 n * 2 ^ 24 % 4294967296) m = if m = 0 then xtN 1 n else 0 := by
  have hl : pow2 n < 256 := by rw [pow2_small ⟨n, hn⟩]; exact xtN_lt (by decide) n
  have e : pow2 n * 2 ^ 24 % 4294967296 = Sm.be4 (pow2 n) 0 0 0 := by unfold Sm.be4; omega
  obtain ⟨h0, h1, h2, h3⟩ := byteAt_be4 (b := 0) (c := 0) (d := 0) hl (by decide) (by decide) (by decide)
  rw [e]
  obtain rfl | rfl | rfl | rfl : m = 0 ∨ m = 1 ∨ m = 2 ∨ m = 3 := by omega
  · rw [h0, if_pos rfl]; exact pow2_small ⟨n, hn⟩
  · rw [h1, if_neg (by decide)]
  · rw [h2, if_neg (by decide)]
  · rw [h3, if_neg (by decide)]
end Ae
end Go.Proofs.YtibpgmcpcelmpaaGreatDoor
