/-
  What mac's Key, Equal, and the law's awake do.
-/
import Derived.Test.YtiehcplepneajaaGreatDoorMcBlock
namespace Go.Proofs.YtiehcplepneajaaGreatDoor
open Go.RowKit
namespace Sm
theorem tag_jefe : digits (tag [74, 101, 102, 101] [119, 104, 97, 116, 32, 100, 111, 32, 121, 97, 32, 119, 97, 110, 116, 32, 102, 111, 114, 32, 110, 111, 116, 104, 105, 110, 103, 63]) = [53, 98, 100, 99, 99, 49, 52, 54, 98, 102, 54, 48, 55, 53, 52, 101, 54, 97, 48, 52, 50, 52, 50, 54, 48, 56, 57, 53, 55, 53, 99, 55, 53, 97, 48, 48, 51, 102, 48, 56, 57, 100, 50, 55, 51, 57, 56, 51, 57, 100, 101, 99, 53, 56, 98, 57, 54, 52, 101, 99, 51, 56, 52, 51] := by decide +kernel
theorem w_or8 (a b : UInt8) : bits .or .u8 (a.toNat : Int) (b.toNat : Int) = ((a ||| b).toNat : Int) := by
  show IntKind.u8.wrap ((BitVec.ofInt 8 (a.toNat : Int) ||| BitVec.ofInt 8 (b.toNat : Int)).toNat : Int) = _
  rw [BitVec.toNat_or, ofInt8 a, ofInt8 b, ← UInt8.toNat_or]
  have := (a ||| b).toNat_lt
  rw [IntKind.wrap_u8]; omega
/-- What the first k bytes differ by. -/
def other (l l' : List UInt8) : Nat → UInt8
  | 0 => 0
  | k + 1 => other l l' k ||| (l.getD k 0 ^^^ l'.getD k 0)
theorem or_zero (a b : UInt8) : (a ||| b) = 0 ↔ a = 0 ∧ b = 0 := by
  rw [← UInt8.toNat_inj, ← UInt8.toNat_inj, ← UInt8.toNat_inj, UInt8.toNat_or]
  show a.toNat ||| b.toNat = 0 ↔ _
  exact Nat.or_eq_zero_iff
theorem xor_zero (a b : UInt8) : (a ^^^ b) = 0 ↔ a = b := UInt8.xor_eq_zero_iff
theorem other_zero (l l' : List UInt8) (k : Nat) : other l l' k = 0 ↔ ∀ i, i < k → l.getD i 0 = l'.getD i 0 := by
  induction k with
  | zero => simp [other]
  | succ k ih =>
    rw [other, or_zero, ih, xor_zero]
    constructor
    · rintro ⟨h1, h2⟩ i hi
      by_cases e : i = k
      · rw [e]; exact h2
      · exact h1 i (by omega)
    · exact fun h => ⟨fun i hi => h i (by omega), h k (by omega)⟩
theorem other_all (l l' : List UInt8) (h : l.length = 32) (h' : l'.length = 32) : other l l' 32 = 0 ↔ l = l' := by
  rw [other_zero]
  constructor
  · intro hi
    apply List.ext_getElem (by omega)
    intro i h1 h2
    have := hi i (by omega)
    simpa [List.getD_eq_getElem?_getD, h1, h2] using this
  · rintro rfl i _
    rfl
end Sm

theorem jefe_small : (ByteArray.mk #[119, 104, 97, 116, 32, 100, 111, 32, 121, 97, 32, 119, 97, 110, 116, 32, 102, 111, 114, 32, 110, 111, 116, 104, 105, 110, 103, 63]).size ≤ 1152921504606846912 := by decide
end Go.Proofs.YtiehcplepneajaaGreatDoor
