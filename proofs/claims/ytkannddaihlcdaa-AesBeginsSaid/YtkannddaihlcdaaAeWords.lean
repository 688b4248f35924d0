/-
  What word, byteAt, twice, the two turns, ofMirror and mixed do.
-/
import Derived.Test.YtkannddaihlcdaaAeMath
import Derived.Test.YtkannddaihlcdaaProg
import Derived.WalkLawsBesides
import Derived.Lib.Hide
import Derived.Outline
namespace Go.Proofs.Ytkannddaihlcdaa
open Go.RowKit

theorem ret_u32 {a b : Int} (h : a = b) : Ending.returned (.int .u32 a) = .returned (.int .u32 b) := by rw [h]
theorem ret_u8 {a b : Int} (h : a = b) : Ending.returned (.int .u8 a) = .returned (.int .u8 b) := by rw [h]

theorem word_any (a b c d : Nat) (ha : a < 256) (hb : b < 256) (hc : c < 256) (hd : d < 256) (w : World) :
    Calls Try.prog 28 #[.int .u8 a, .int .u8 b, .int .u8 c, .int .u8 d] w fun e w' => e = .returned (.int .u32 (Sm.be4 a b c d : Nat)) ∧ w = w' := by
  go_enter Try.func28, Try.ntmps28
  go_wp2
  go_ret
  refine ⟨ret_u32 ?_, rfl⟩
  rw [show (a : Int) * 16777216 = ((a * 16777216 : Nat) : Int) by omega, show (b : Int) * 65536 = ((b * 65536 : Nat) : Int) by omega, show (c : Int) * 256 = ((c * 256 : Nat) : Int) by omega,
    Sm.w_or (by omega) (by omega), Sm.w_or (Sm.or_lt (by omega) (by omega)) (by omega), Sm.w_or (Sm.or_lt (Sm.or_lt (by omega) (by omega)) (by omega)) (by omega), Sm.be4_or _ _ _ _ ha hb hc hd]

theorem byteAt_any (x i : Nat) (_hx : x < 4294967296) (hi : i < 4) (w : World) :
    Calls Try.prog 29 #[.int .u32 x, .int .i64 i] w fun e w' => e = .returned (.int .u8 (Ae.byteAt x i : Nat)) ∧ w = w' := by
  go_enter Try.func29, Try.ntmps29
  go_wp2
  go_ret
  refine ⟨ret_u8 ?_, rfl⟩
  unfold Ae.byteAt
  rw [Int.natCast_emod, Int.natCast_ediv, Int.natCast_pow]
  rfl

theorem twice_any (x : Nat) (hx : x < 4294967296) (w : World) :
    Calls Try.prog 33 #[.int .u32 x] w fun e w' => e = .returned (.int .u32 (Ae.twice x : Nat)) ∧ w = w' := by
  go_enter Try.func33, Try.ntmps33
  go_wp2
  go_ret
  refine ⟨ret_u32 ?_, rfl⟩
  have e1 : bits .andNot .u32 (x : Int) 2155905152 = ((x &&& 2139062143 : Nat) : Int) := u32_andNot_nat x 2155905152 hx (by decide)
  have e2 : bits .and .u32 (x : Int) 2155905152 = ((x &&& 2155905152 : Nat) : Int) := Sm.w_and (b := 2155905152) hx (by decide)
  rw [e1, e2]
  unfold Ae.twice
  generalize x &&& 2139062143 = y
  generalize x &&& 2155905152 = z
  rw [show ((y : Int) * 2 % 4294967296) = ((y * 2 % 4294967296 : Nat) : Int) by omega, show ((z : Int) / 128 * 27 % 4294967296) = ((z / 128 * 27 % 4294967296 : Nat) : Int) by omega]
  exact Sm.w_xor (Nat.mod_lt _ (by decide)) (Nat.mod_lt _ (by decide))

theorem and31 (x : Nat) (h : x < 18446744073709551616) : bits .and .u64 (x : Int) 31 = ((x % 32 : Nat) : Int) := by
  have := bits_mask .u64 64 (by decide) (fun n h0 h1 => by simp [IntKind.wrap, IntKind.bits, IntKind.signed]; omega) 5 (by decide) (x : Int) (by omega) (by omega)
  simpa using this
theorem and7 (x : Nat) (h : x < 18446744073709551616) : bits .and .u64 (x : Int) 7 = ((x % 8 : Nat) : Int) := by
  have := bits_mask .u64 64 (by decide) (fun n h0 h1 => by simp [IntKind.wrap, IntKind.bits, IntKind.signed]; omega) 3 (by decide) (x : Int) (by omega) (by omega)
  simpa using this

set_option maxHeartbeats 400000 in
theorem rotl32_any (x n : Nat) (hx : x < 4294967296) (h1 : 1 ≤ n) (h2 : n ≤ 31) (w : World) :
    Calls Try.prog 36 #[.int .u32 x, .int .i64 n] w fun e w' => e = .returned (.int .u32 (Ae.rotl x n : Nat)) ∧ w = w' := by
  have hk : bits .and .u64 (n : Int) 31 = (n : Int) := by rw [and31 _ (by omega)]; omega
  go_enter Try.func36, Try.ntmps36
  go_wp2
  go_ret
  refine ⟨ret_u32 ?_, rfl⟩
  have e3 : ((x : Int) * 2 ^ n) = ((x * 2 ^ n : Nat) : Int) := by push_cast; rfl
  have e4 : ((x : Int) / 2 ^ (32 - n)) = ((x / 2 ^ (32 - n) : Nat) : Int) := by push_cast; rfl
  rw [e3, e4, show ((x * 2 ^ n : Nat) : Int) % 4294967296 = ((x * 2 ^ n % 4294967296 : Nat) : Int) by omega]
  exact Sm.w_or (Nat.mod_lt _ (by decide)) (Nat.lt_of_le_of_lt (Nat.div_le_self _ _) hx)

set_option maxHeartbeats 400000 in
theorem rotl8_any (x n : Nat) (hx : x < 256) (h1 : 1 ≤ n) (h2 : n ≤ 7) (w : World) :
    Calls Try.prog 38 #[.int .u8 x, .int .i64 n] w fun e w' => e = .returned (.int .u8 (Ae.rot8 x n : Nat)) ∧ w = w' := by
  have hk : bits .and .u64 (n : Int) 7 = (n : Int) := by rw [and7 _ (by omega)]; omega
  go_enter Try.func38, Try.ntmps38
  go_wp2
  go_ret
  refine ⟨ret_u8 ?_, rfl⟩
  have e3 : ((x : Int) * 2 ^ n) = ((x * 2 ^ n : Nat) : Int) := by push_cast; rfl
  have e4 : ((x : Int) / 2 ^ (8 - n)) = ((x / 2 ^ (8 - n) : Nat) : Int) := by push_cast; rfl
  rw [e3, e4, show ((x * 2 ^ n : Nat) : Int) % 256 = ((x * 2 ^ n % 256 : Nat) : Int) by omega]
  exact u8_or_nat _ _ (Nat.mod_lt _ (by decide)) (Nat.lt_of_le_of_lt (Nat.div_le_self _ _) hx)

set_option maxHeartbeats 400000 in
theorem ofMirror_any (m : Nat) (hm : m < 256) (w : World) :
    Calls Try.prog 34 #[.int .u8 m] w fun e w' => e = .returned (.int .u8 (Ae.ofM m : Nat)) ∧ w = w' := by
  have R := Lib.hid (fun (n : Nat) (h1 : 1 ≤ n) (h2 : n ≤ 7) (wx : World) => rotl8_any m n hm h1 h2 wx)
  have HM := Lib.hid hm
  have l1 := Ae.rot8_lt (n := 1) hm
  have l2 := Ae.rot8_lt (n := 2) hm
  have l3 := Ae.rot8_lt (n := 3) hm
  have l4 := Ae.rot8_lt (n := 4) hm
  have HO : Hid (Ae.ofM m = m ^^^ Ae.rot8 m 1 ^^^ Ae.rot8 m 2 ^^^ Ae.rot8 m 3 ^^^ Ae.rot8 m 4 ^^^ 99) := rfl
  go_enter Try.func34, Try.ntmps34
  go_wp2_with fail
  refine (R.out 1 (by decide) (by decide) _).mono ?_
  rintro e w' ⟨rfl, rfl⟩
  go_wp2_with fail
  refine (R.out 2 (by decide) (by decide) _).mono ?_
  rintro e w' ⟨rfl, rfl⟩
  go_wp2_with fail
  refine (R.out 3 (by decide) (by decide) _).mono ?_
  rintro e w' ⟨rfl, rfl⟩
  go_wp2_with fail
  refine (R.out 4 (by decide) (by decide) _).mono ?_
  rintro e w' ⟨rfl, rfl⟩
  go_wp2
  go_ret
  refine ⟨ret_u8 ?_, rfl⟩
  rw [HO.out, Ae.w_xor8 hm l1, Ae.w_xor8 (Ae.xor8_lt hm l1) l2, Ae.w_xor8 (Ae.xor8_lt (Ae.xor8_lt hm l1) l2) l3, Ae.w_xor8 (Ae.xor8_lt (Ae.xor8_lt (Ae.xor8_lt hm l1) l2) l3) l4]
  exact Ae.w_xor8 (b := 99) (Ae.xor8_lt (Ae.xor8_lt (Ae.xor8_lt (Ae.xor8_lt hm l1) l2) l3) l4) (by decide)

set_option maxHeartbeats 400000 in
theorem mixed_any (x : Nat) (hx : x < 4294967296) (w : World) :
    Calls Try.prog 26 #[.int .u32 x] w fun e w' => e = .returned (.int .u32 (Ae.mixed x : Nat)) ∧ w = w' := by
  have R := Lib.hid (fun (n : Nat) (h1 : 1 ≤ n) (h2 : n ≤ 31) (wx : World) => rotl32_any x n hx h1 h2 wx)
  have l1 := Ae.rotl_lt (n := 8) hx
  have l2 := Ae.rotl_lt (n := 16) hx
  have l3 := Ae.rotl_lt (n := 24) hx
  have X1 := Ae.w_xor hx l1
  have l4 := Ae.twice_lt (x ^^^ Ae.rotl x 8)
  have T := Lib.hid (twice_any (x ^^^ Ae.rotl x 8) (Sm.xor_lt hx l1))
  have HO : Hid (Ae.mixed x = Ae.twice (x ^^^ Ae.rotl x 8) ^^^ Ae.rotl x 8 ^^^ Ae.rotl x 16 ^^^ Ae.rotl x 24) := rfl
  go_enter Try.func26, Try.ntmps26
  go_wp2_with fail
  refine (R.out 8 (by decide) (by decide) _).mono ?_
  rintro e w' ⟨rfl, rfl⟩
  go_wp2_with fail
  refine (T.out _).mono ?_
  rintro e w' ⟨rfl, rfl⟩
  go_wp2_with fail
  refine (R.out 16 (by decide) (by decide) _).mono ?_
  rintro e w' ⟨rfl, rfl⟩
  go_wp2_with fail
  refine (R.out 24 (by decide) (by decide) _).mono ?_
  rintro e w' ⟨rfl, rfl⟩
  go_wp2
  go_ret
  refine ⟨ret_u32 ?_, rfl⟩
  rw [HO.out, Ae.w_xor l4 l1, Ae.w_xor (Sm.xor_lt l4 l1) l2]
  exact Ae.w_xor (Sm.xor_lt (Sm.xor_lt l4 l1) l2) l3
end Go.Proofs.Ytkannddaihlcdaa
