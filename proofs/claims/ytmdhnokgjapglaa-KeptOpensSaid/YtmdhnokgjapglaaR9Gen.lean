/-
  The document's kept: a sector's generation, a record's sectors.
-/
import Derived.Test.YtmdhnokgjapglaaKpOne
import Derived.Test.YtmdhnokgjapglaaDkRLook
namespace Go.Proofs.Ytmdhnokgjapglaa
open Go.RowKit
namespace Kp
theorem num_drop {l : List UInt8} {k : Nat} (h : k < l.length) : Dk.num (l.drop k) = l[k].toNat + Dk.num (l.drop (k + 1)) * 256 := by
  rw [List.drop_eq_getElem_cons h, Dk.num_cons]
theorem num_small {l : List UInt8} {j : Nat} (h : l.length ≤ j) : Dk.num l < 256 ^ j := Nat.lt_of_lt_of_le (num_lt l) (Nat.pow_le_pow_right (by decide) h)
end Kp
set_option maxRecDepth 100000 in
set_option maxHeartbeats 1000000 in
theorem r9gen_any (w : World) (s : ByteArray) (hs : s.size = 60) : Calls Try.prog 40 #[.string s] w fun e w' => e = .returned (.int .u64 (Kp.gen s.data.toList : Nat)) ∧ w = w' := by
  obtain ⟨l, hl⟩ : ∃ l, l = s.data.toList.take 8 := ⟨_, rfl⟩
  have htl : s.data.toList.length = s.size := by simp
  have hl8 : l.length = 8 := by rw [hl, List.length_take]; omega
  have hg : Kp.gen s.data.toList = Dk.num l := by rw [Kp.gen, hl]
  rw [hg]
  have HL := Lib.hid hl
  have HL8 := Lib.hid hl8
  clear hg hl hl8 htl
  go_enter Try.func40, Try.ntmps40
  go_wp2
  go_loopw [3, 4] (fun s3 s4 wr => ∃ j : Nat, s4 = .int .i64 (7 - (j : Int)) ∧ j ≤ 8 ∧ s3 = .int .u64 (Dk.num (l.drop (8 - j)) : Nat) ∧ w = wr) (fun _ s4 _ => (intOf s4 + 1).toNat)
  case atStart => exact ⟨0, rfl, Nat.zero_le _, by rw [List.drop_of_length_le (by rw [HL8.out]; omega)]; rfl, rfl⟩
  case round =>
    obtain ⟨j, rfl, hj, rfl, rfl⟩ := hrel
    by_cases hlt : j < 8
    · obtain ⟨k, hk⟩ : ∃ k : Nat, k = 7 - j := ⟨_, rfl⟩
      have hki : (7 : Int) - (j : Int) = (k : Int) := by omega
      rw [hki]
      have h0 : (0 : Int) ≤ (k : Int) := by omega
      have hk0 : k < s.size := by omega
      have hks : (k : Int) < (s.size : Int) := by omega
      have hnx := Kp.num_drop (l := l) (k := k) (by rw [HL8.out]; omega)
      have hsm := Kp.num_small (l := l.drop (k + 1)) (j := 7) (by rw [List.length_drop, HL8.out]; omega)
      have hlk : l[k]'(by rw [HL8.out]; omega) = s[k]'hk0 := by
        have : l[k]? = s.data.toList[k]? := by rw [HL.out, List.getElem?_take, if_pos (by omega)]
        rw [List.getElem?_eq_getElem (by rw [HL8.out]; omega), List.getElem?_eq_getElem (by simpa using (show k < s.size by omega))] at this
        exact Option.some.inj this
      rw [hlk] at hnx
      have e8 : 8 - j = k + 1 := by omega
      rw [e8]
      obtain ⟨X, hX⟩ : ∃ X, X = Dk.num (l.drop (k + 1)) := ⟨_, rfl⟩
      rw [← hX] at hnx hsm ⊢
      have hb := (s[k]'hk0).toNat_lt
      have hX2 : X < 72057594037927936 := hsm
      have v1 : IntKind.u64.wrap ((X : Int) * 256) = (X : Int) * 256 := by rw [IntKind.wrap_u64]; omega
      have v2 : IntKind.u64.wrap (((s[k]'hk0).toNat : Int)) = ((s[k]'hk0).toNat : Int) := by rw [IntKind.wrap_u64]; omega
      have v3 : IntKind.u64.wrap ((X : Int) * 256 + ((s[k]'hk0).toNat : Int)) = (X : Int) * 256 + ((s[k]'hk0).toNat : Int) := by rw [IntKind.wrap_u64]; omega
      have v4 : IntKind.i64.wrap ((k : Int) - 1) = (k : Int) - 1 := IntWalk.i64_in _ (by omega)
      have HNX := Lib.hid hnx
      have HK := Lib.hid hk
      clear hnx hX hsm hlk hk e8 hki
      go_wp2
      refine ⟨⟨j + 1, ?_, by omega, ?_, trivial⟩, ?_⟩
      · have := HK.out
        exact congrArg (Value.int .i64) (by push_cast; omega)
      · have := HK.out
        rw [show 8 - (j + 1) = k by omega, HNX.out]
        exact congrArg (Value.int .u64) (by push_cast; omega)
      · simp only [intOf]; omega
    · have hj8 : j = 8 := by omega
      subst hj8
      have h0 : ¬ (0 : Int) ≤ 7 - ((8 : Nat) : Int) := by omega
      go_wp2
      go_ret
      exact ⟨by simp, rfl⟩
end Go.Proofs.Ytmdhnokgjapglaa
