/-
  The document's log: a number in eight bytes, written and read; how many parts a record has.
-/
import Derived.Test.YtnmagfodjcookaaGreatDkRLook
import Derived.Test.YtnmagfodjcookaaGreatPtMath
import Derived.Laws.ResultCell
namespace Go.Proofs.YtnmagfodjcookaaGreat
open Go.RowKit
namespace Pt
theorem num_drop {l : List UInt8} {k : Nat} (h : k < l.length) : Dk.num (l.drop k) = l[k].toNat + Dk.num (l.drop (k + 1)) * 256 := by
  rw [List.drop_eq_getElem_cons h, Dk.num_cons]
theorem num_small {l : List UInt8} {j : Nat} (h : l.length ≤ j) : Dk.num l < 256 ^ j := Nat.lt_of_lt_of_le (Kp.num_lt l) (Nat.pow_le_pow_right (by decide) h)
theorem low_next (k g : Nat) : Kp.low (k + 1) g = Kp.low k g ++ [UInt8.ofNat (g / 256 ^ k % 256)] := Sm.range_snoc
theorem low_cast (g k : Nat) : IntKind.u8.wrap ((g : Int) / 2 ^ (8 * k)) = ((UInt8.ofNat (g / 256 ^ k % 256)).toNat : Int) := by
  obtain ⟨q, hq⟩ : ∃ q, q = g / 2 ^ (8 * k) := ⟨_, rfl⟩
  have h1 : (g : Int) / 2 ^ (8 * k) = (q : Int) := by rw [hq]; push_cast; rfl
  rw [h1, IntKind.wrap_u8, UInt8.toNat_ofNat', show (256 : Nat) ^ k = 2 ^ (8 * k) by rw [Nat.pow_mul], ← hq]
  omega
end Pt
set_option maxRecDepth 100000 in
set_option maxHeartbeats 1000000 in
theorem r10eight_any (w : World) (g : Nat) : Calls Tryz.prog 68 #[.int .u64 g] w fun e w' => e = .returned (.string ⟨(Kp.eight g).toArray⟩) ∧ Below w.heap.size w w' := by
  go_enter Tryz.func68, Tryz.ntmps68
  go_wp2_with fail
  go_loopw [3, 4] (fun s3 s4 wx => ∃ (k : Nat) (b : ByteArray), s4 = .int .i64 k ∧ k ≤ 8 ∧ s3 = .string b ∧ b.data.toList = Kp.low k g ∧ Below w.heap.size w wx) (fun _ s4 _ => 8 - (intOf s4).toNat)
  case atStart => exact ⟨0, ⟨#[]⟩, rfl, by omega, rfl, rfl, Below.refl _ _⟩
  case round =>
    obtain ⟨k, b, rfl, hk, rfl, hbl, hbk⟩ := hrel
    have HB := Lib.hid hbl
    have HBK := Lib.hid hbk
    have hbs : b.size = k := by
      have := congrArg List.length hbl
      rw [Kp.low_length] at this
      simpa using this
    clear hbl hbk
    by_cases hk8 : k < 8
    · have hk8i : (k : Int) < 8 := by omega
      have hsuc : IntKind.i64.wrap ((k : Int) + 1) = ((k + 1 : Nat) : Int) := by rw [IntWalk.i64_in _ (by omega)]; omega
      have v8 : IntKind.i64.wrap (8 * (k : Int)) = 8 * (k : Int) := IntWalk.i64_in _ (by omega)
      have p1 : (0 : Int) ≤ 8 * (k : Int) := by omega
      have hlc := Pt.low_cast g k
      obtain ⟨xb, hxb⟩ : ∃ x : UInt8, x = UInt8.ofNat (g / 256 ^ k % 256) := ⟨_, rfl⟩
      rw [← hxb] at hlc
      have HXB := Lib.hid hxb
      have hcat : b.size + (ByteArray.mk #[xb]).size ≤ 9223372036854775807 := by show b.size + 1 ≤ _; omega
      have hcv := Sm.conv_row (l := [xb]) (n := 1) (heap_alloc_new wr (.cells #[.int .u8 (xb.toNat : Int)] 5)) rfl
      clear hxb
      have hbl3 := (HBK.out.alloc HBK.out.size (.cells #[.int .u8 (xb.toNat : Int)] 5))
      have hb3 : (b ++ (⟨#[xb]⟩ : ByteArray)).data.toList = Kp.low (k + 1) g := by
        rw [Pt.low_next, ← HXB.out, ← HB.out]; simp
      have HB3 := Lib.hid hb3
      have HBL3 := Lib.hid hbl3
      clear hb3 hbl3
      go_wp2_with fail
      exact ⟨⟨k + 1, b ++ ⟨#[xb]⟩, by push_cast; rfl, by omega, rfl, HB3.out, HBL3.out⟩, by simp only [intOf]; omega⟩
    · have hk8i : ¬ (k : Int) < 8 := by omega
      have hk8e : k = 8 := by omega
      subst hk8e
      have hbe : b = ⟨(Kp.eight g).toArray⟩ := by
        have := HB.out
        show b = ⟨(Kp.low 8 g).toArray⟩
        rw [← this]
      have HBE := Lib.hid hbe
      clear hbe hbs
      go_wp2
      go_ret
      exact ⟨by rw [HBE.out]; rfl, HBK.out⟩
set_option maxRecDepth 100000 in
set_option maxHeartbeats 1000000 in
theorem r10number_any (w : World) (s : ByteArray) (hs : s.size = 60) (o : Nat) (ho : o + 8 ≤ 60) : Calls Tryz.prog 52 #[.string s, .int .i64 (o : Int)] w fun e w' => e = .returned (.int .u64 (Dk.num ((s.data.toList.drop o).take 8) : Nat)) ∧ w = w' := by
  obtain ⟨l, hl⟩ : ∃ l, l = (s.data.toList.drop o).take 8 := ⟨_, rfl⟩
  have htl : s.data.toList.length = s.size := by simp
  have hl8 : l.length = 8 := by rw [hl, List.length_take, List.length_drop]; omega
  rw [← hl]
  have HL := Lib.hid hl
  have HL8 := Lib.hid hl8
  clear hl hl8 htl
  go_enter Tryz.func52, Tryz.ntmps52
  go_wp2
  go_loopw [5, 6] (fun s3 s4 wr => ∃ j : Nat, s4 = .int .i64 (7 - (j : Int)) ∧ j ≤ 8 ∧ s3 = .int .u64 (Dk.num (l.drop (8 - j)) : Nat) ∧ w = wr) (fun _ s4 _ => (intOf s4 + 1).toNat)
  case atStart => exact ⟨0, rfl, Nat.zero_le _, by rw [List.drop_of_length_le (by rw [HL8.out]; omega)]; rfl, rfl⟩
  case round =>
    obtain ⟨j, rfl, hj, rfl, rfl⟩ := hrel
    by_cases hlt : j < 8
    · obtain ⟨k, hk⟩ : ∃ k : Nat, k = 7 - j := ⟨_, rfl⟩
      have hki : (7 : Int) - (j : Int) = (k : Int) := by omega
      rw [hki]
      obtain ⟨q, hq⟩ : ∃ q : Nat, q = o + k := ⟨_, rfl⟩
      have v0 : IntKind.i64.wrap ((o : Int) + (k : Int)) = (q : Int) := by rw [IntWalk.i64_in _ (by omega), hq]; push_cast; rfl
      have h0 : (0 : Int) ≤ (k : Int) := by omega
      have h0q : (0 : Int) ≤ (q : Int) := by omega
      have hk0 : q < s.size := by omega
      have hks : (q : Int) < (s.size : Int) := by omega
      have hnx := Pt.num_drop (l := l) (k := k) (by rw [HL8.out]; omega)
      have hsm := Pt.num_small (l := l.drop (k + 1)) (j := 7) (by rw [List.length_drop, HL8.out]; omega)
      have hlk : l[k]'(by rw [HL8.out]; omega) = s[q]'hk0 := by
        have : l[k]? = s.data.toList[q]? := by rw [HL.out, List.getElem?_take, if_pos (by omega), List.getElem?_drop, hq]
        rw [List.getElem?_eq_getElem (by rw [HL8.out]; omega), List.getElem?_eq_getElem (by simpa using (show q < s.size by omega))] at this
        exact Option.some.inj this
      rw [hlk] at hnx
      have e8 : 8 - j = k + 1 := by omega
      rw [e8]
      obtain ⟨X, hX⟩ : ∃ X, X = Dk.num (l.drop (k + 1)) := ⟨_, rfl⟩
      rw [← hX] at hnx hsm ⊢
      have hb := (s[q]'hk0).toNat_lt
      have hX2 : X < 72057594037927936 := hsm
      have v1 : IntKind.u64.wrap ((X : Int) * 256) = (X : Int) * 256 := by rw [IntKind.wrap_u64]; omega
      have v2 : IntKind.u64.wrap (((s[q]'hk0).toNat : Int)) = ((s[q]'hk0).toNat : Int) := by rw [IntKind.wrap_u64]; omega
      have v3 : IntKind.u64.wrap ((X : Int) * 256 + ((s[q]'hk0).toNat : Int)) = (X : Int) * 256 + ((s[q]'hk0).toNat : Int) := by rw [IntKind.wrap_u64]; omega
      have v4 : IntKind.i64.wrap ((k : Int) - 1) = (k : Int) - 1 := IntWalk.i64_in _ (by omega)
      have HNX := Lib.hid hnx
      have HK := Lib.hid hk
      clear hnx hX hsm hlk hk e8 hki hq
      go_wp2
      refine ⟨⟨j + 1, ?_, by omega, ?_, trivial⟩, ?_⟩
      · have := HK.out
        exact congrArg (Value.int .i64) (by push_cast; omega)
      · have := HK.out
        rw [show 8 - (j + 1) = k by omega, HNX.out]
        exact congrArg (Value.int .u64) (by push_cast; omega)
      · simp only [intOf]; omega
    · have hj8 : j = 8 := by omega
      subst hj8
      have h0 : ¬ (0 : Int) ≤ 7 - ((8 : Nat) : Int) := by omega
      go_wp2
      go_ret
      exact ⟨by simp, rfl⟩
set_option maxRecDepth 100000 in
set_option maxHeartbeats 1000000 in
theorem r10Parts_any (w : World) (t : ByteArray) (ht : t.size ≤ 1099511627776) : Calls Tryz.prog 54 #[.string t] w fun e w' => e = .returned (.int .i64 (Pt.parts 32 t.data.toList : Nat)) ∧ w = w' := by
  have htl : t.data.toList.length = t.size := by simp
  obtain ⟨P, hP⟩ : ∃ P, P = Pt.parts 32 t.data.toList := ⟨_, rfl⟩
  have hP1 : 1 ≤ P := by rw [hP]; exact Pt.parts_pos _ _
  have hPs : P ≤ t.size / 32 + 1 := by rw [hP]; unfold Pt.parts; rw [htl]; omega
  have HLT : Hid (∀ n, n ≤ P → (n = 0 ∨ 32 * n < t.size) → n < P) := fun n h1 h2 => by
    rcases h2 with h2 | h2
    · omega
    · have := Pt.len_le (n := 32) (by decide) t.data.toList
      rw [← hP, htl] at this
      omega
  have HGE : Hid (∀ n, n ≤ P → 1 ≤ n → t.size ≤ 32 * n → n = P) := fun n h1 h2 h3 => by
    have := Pt.parts_le (n := 32) (m := n) (by decide) (t := t.data.toList) (by rw [htl]; exact h3) h2
    rw [← hP] at this
    omega
  rw [← hP]
  clear hP htl
  go_enter Tryz.func54, Tryz.ntmps54
  go_wp2
  go_loopw [3] (fun s3 wr => ∃ n : Nat, s3 = .int .i64 n ∧ n ≤ P ∧ w = wr) (fun s3 _ => P - (intOf s3).toNat)
  case atStart => exact ⟨0, rfl, Nat.zero_le _, rfl⟩
  case round =>
    obtain ⟨n, rfl, hn, rfl⟩ := hrel
    have hsuc : IntKind.i64.wrap ((n : Int) + 1) = ((n + 1 : Nat) : Int) := by rw [IntWalk.i64_in _ (by omega)]; omega
    have v1 : IntKind.i64.wrap (32 * (n : Int)) = 32 * (n : Int) := IntWalk.i64_in _ (by omega)
    by_cases h0 : n = 0
    · subst h0
      have hl := HLT.out 0 hn (.inl rfl)
      have HL := Lib.hid hl
      clear HLT HGE
      go_wp2
      go_roundw
      case rel => exact ⟨1, rfl, by have := HL.out; omega, trivial⟩
      case measure => simp [intOf]; omega
    · have hnb : ((n : Int) == 0) = false := beq_eq_false_iff_ne.2 (by omega)
      by_cases h1 : 32 * n < t.size
      · have h1i : 32 * (n : Int) < (t.size : Int) := by omega
        have hl := HLT.out n hn (.inr h1)
        have HL := Lib.hid hl
        clear HLT HGE
        go_wp2
        go_roundw
        case rel => exact ⟨n + 1, rfl, by have := HL.out; omega, trivial⟩
        case measure => simp [intOf]; have := HL.out; omega
      · have h1i : ¬ 32 * (n : Int) < (t.size : Int) := by omega
        have he := HGE.out n hn (by omega) (by omega)
        have HE := Lib.hid he
        clear HLT HGE he
        go_wp2
        go_ret
        exact ⟨by rw [HE.out]; rfl, rfl⟩
end Go.Proofs.YtnmagfodjcookaaGreat
