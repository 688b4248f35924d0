/-
  What kept's none, partsOf and generation tell.
-/
import Derived.Test.YtnmagfodjcookaaGreatMem
import Derived.Test.YtnmagfodjcookaaGreatShMath
import Derived.Test.YtnmagfodjcookaaGreatKpMath
namespace Go.Proofs.YtnmagfodjcookaaGreat
open Go.RowKit
namespace Kp
theorem text_ne {s : ByteArray} (h : ¬ s.size = 0) : s.toList.isEmpty = false := by
  rw [Lib.toList_data, Bool.eq_false_iff]
  intro h2
  exact h (by rw [List.isEmpty_iff] at h2; show s.data.toList.length = 0; rw [h2]; rfl)
theorem text_none {s : ByteArray} (h : s.size = 0) : s.toList.isEmpty = true := by
  rw [Lib.toList_data]; exact List.isEmpty_iff.2 (List.eq_nil_of_length_eq_zero h)
theorem num_take {l : List UInt8} {i : Nat} (h : i < l.length) : Dk.num (l.take (i + 1)) = Dk.num (l.take i) + l[i].toNat * 2 ^ (8 * i) := by
  have hl : (l.take i).length = i := by rw [List.length_take]; omega
  have hlt : Dk.num (l.take i) < 2 ^ (8 * i) := by
    have := num_lt (l.take i)
    rw [hl] at this
    rwa [Nat.pow_mul]
  rw [List.take_succ_eq_append_getElem h, Dk.num_append, hl, Dk.num, Dk.num, Nat.zero_mul, Nat.xor_zero]
  apply Nat.eq_of_testBit_eq
  intro k
  have e := Nat.testBit_two_pow_mul_add (i := 8 * i) (b := Dk.num (l.take i)) l[i].toNat hlt k
  rw [Nat.add_comm, Nat.mul_comm] at e
  rw [e, Nat.testBit_xor, Nat.testBit_mul_two_pow]
  by_cases hk : k < 8 * i
  · simp [hk, show ¬ (8 * i ≤ k) by omega]
  · have : (Dk.num (l.take i)).testBit k = false := Nat.testBit_lt_two_pow (Nat.lt_of_lt_of_le hlt (Nat.pow_le_pow_right (n := 2) (by decide) (show 8 * i ≤ k by omega)))
    simp [hk, this, show 8 * i ≤ k by omega]
theorem or_take {l : List UInt8} {i : Nat} (h : i < l.length) : Dk.num (l.take i) ||| l[i].toNat * 2 ^ (8 * i) = Dk.num (l.take (i + 1)) := by
  have hl : (l.take i).length = i := by rw [List.length_take]; omega
  have hlt : Dk.num (l.take i) < 2 ^ (8 * i) := by
    have := num_lt (l.take i)
    rw [hl] at this
    rwa [Nat.pow_mul]
  rw [num_take h, Nat.or_comm, Nat.mul_comm, Nat.add_comm]
  exact (Nat.two_pow_add_eq_or_of_lt hlt _).symm
theorem ofInt64 {a : Nat} (h : a < 18446744073709551616) : (BitVec.ofInt 64 (a : Int)).toNat = a := by
  rw [BitVec.ofInt_natCast, BitVec.toNat_ofNat]; exact Nat.mod_eq_of_lt h
theorem wrap64n {a : Nat} (h : a < 18446744073709551616) : IntKind.u64.wrap (a : Int) = (a : Int) := by rw [IntKind.wrap_u64]; omega
theorem or64 {a b : Nat} (ha : a < 18446744073709551616) (hb : b < 18446744073709551616) : bits .or .u64 (a : Int) (b : Int) = ((a ||| b : Nat) : Int) := by
  show IntKind.u64.wrap ((BitVec.ofInt 64 (a : Int) ||| BitVec.ofInt 64 (b : Int)).toNat : Int) = _
  rw [BitVec.toNat_or, ofInt64 ha, ofInt64 hb]
  exact wrap64n (Nat.or_lt_two_pow (n := 64) ha hb)
theorem gen_step {l : List UInt8} {i : Nat} (h : i < l.length) (h8 : i < 8) :
    bits .or .u64 (Dk.num (l.take i) : Nat) (IntKind.u64.wrap (IntKind.u64.wrap (l[i].toNat : Int) * 2 ^ (8 * i))) = (Dk.num (l.take (i + 1)) : Nat) := by
  have hb := l[i].toNat_lt
  have h1 : IntKind.u64.wrap (l[i].toNat : Int) = (l[i].toNat : Int) := wrap64n (by omega)
  have hlt : ∀ k, k ≤ 8 → Dk.num (l.take k) < 18446744073709551616 := fun k hk => by
    have h2 := num_lt (l.take k)
    have h3 : 256 ^ (l.take k).length ≤ 256 ^ 8 := Nat.pow_le_pow_right (by decide) (by rw [List.length_take]; omega)
    exact Nat.lt_of_lt_of_le h2 h3
  have h4 : l[i].toNat * 2 ^ (8 * i) < 18446744073709551616 := by
    have h5 : l[i].toNat * 2 ^ (8 * i) ≤ 255 * 2 ^ 56 := Nat.mul_le_mul (by omega) (Nat.pow_le_pow_right (by decide) (by omega))
    have h6 : 255 * 2 ^ 56 < 18446744073709551616 := by decide
    omega
  have h7 : (l[i].toNat : Int) * 2 ^ (8 * i) = ((l[i].toNat * 2 ^ (8 * i) : Nat) : Int) := by push_cast; rfl
  rw [h1, h7, wrap64n h4, or64 (hlt i (by omega)) h4, or_take h]
end Kp
end Go.Proofs.YtnmagfodjcookaaGreat
