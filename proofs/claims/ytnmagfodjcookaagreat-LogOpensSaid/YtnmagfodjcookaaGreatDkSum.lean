/-
  disk's Sum is the document's, and so is the document's own.
-/
import Derived.Test.YtnmagfodjcookaaGreatDkAwake
import Derived.Test.YtnmagfodjcookaaGreatDkSumMath
import Derived.Test.YtnmagfodjcookaaGreatShMath
namespace Go.Proofs.YtnmagfodjcookaaGreat
open Go.RowKit
namespace Dk
theorem steps_succ (k x : Nat) : steps (k + 1) x = step (steps k x) := steps_add k 1 x
theorem half_cast (x : Nat) : (x : Int) / 2 = ((x / 2 : Nat) : Int) := by omega
theorem step_and (x : Nat) (h : x < 4294967296) : bits .xor .u32 ((x : Int) / 2) (bits .and .u32 3988292384 (-bits .and .u32 (x : Int) 1 % 4294967296)) = (step x : Nat) := by
  have e1 : bits .and .u32 (x : Int) 1 = ((x % 2 : Nat) : Int) := by
    have := Sm.w_and (a := x) (b := 1) h (by decide)
    rw [Nat.and_one_is_mod] at this; exact this
  rw [e1, half_cast]
  have h2 : x % 2 = 0 ∨ x % 2 = 1 := by omega
  have hl : x / 2 < 4294967296 := by omega
  unfold step
  rcases h2 with h2 | h2
  · rw [h2, if_neg (by decide)]
    have e4 : bits .and .u32 3988292384 (-((0 : Nat) : Int) % 4294967296) = ((0 : Nat) : Int) := by decide +kernel
    rw [e4]
    exact Sm.w_xor hl (by decide)
  · rw [h2, if_pos rfl]
    have e4 : bits .and .u32 3988292384 (-((1 : Nat) : Int) % 4294967296) = ((fold : Nat) : Int) := by decide +kernel
    rw [e4]
    exact Sm.w_xor hl (by decide)
theorem feed_bits (x : Nat) (b : UInt8) (h : x < 4294967296) : bits .xor .u32 (x : Int) ((b.toNat : Int) % 4294967296) = ((x ^^^ b.toNat : Nat) : Int) := by
  have hb := b.toNat_lt
  have e : (b.toNat : Int) % 4294967296 = (b.toNat : Int) := by omega
  rw [e]
  exact Sm.w_xor h (by omega)
theorem sum_bits (l : List UInt8) : bits .xor .u32 IntKind.u32.max ((l.foldl feed ones : Nat) : Int) = ((sum l : Nat) : Int) := by
  have h := foldl_lt l ones_lt
  have e : IntKind.u32.max = ((4294967295 : Nat) : Int) := by decide
  rw [e, Sm.w_xor (by decide) h, Nat.xor_comm]; rfl
theorem sum_bits2 (l : List UInt8) : bits .xor .u32 ((l.foldl feed ones : Nat) : Int) 4294967295 = ((sum l : Nat) : Int) := by
  have h := foldl_lt l ones_lt
  exact Sm.w_xor (b := 4294967295) h (by decide)
theorem take_feed {l : List UInt8} {i : Nat} (h : i < l.length) (x : Nat) : (l.take (i + 1)).foldl feed x = feed ((l.take i).foldl feed x) l[i] := by
  rw [List.take_succ_eq_append_getElem h, List.foldl_append]; rfl
end Dk
set_option maxRecDepth 100000 in
set_option maxHeartbeats 1500000 in
theorem dkSum_any (w : World) (s : ByteArray) (hs : s.size ≤ 9223372036854775807) : Calls Tryz.prog 89 #[.string s] w fun e w' => e = .returned (.int .u32 (Dk.sum s.data.toList : Nat)) ∧ w = w' := by
  go_enter Tryz.func89, Tryz.ntmps89
  go_wp2
  go_loopw [3, 7] (fun s3 s7 wr => ∃ i : Nat, s7 = .int .i64 i ∧ i ≤ s.size ∧ s3 = .int .u32 ((s.data.toList.take i).foldl Dk.feed Dk.ones : Nat) ∧ w = wr) (fun _ s7 _ => s.size - (intOf s7).toNat)
  case atStart => exact ⟨0, rfl, Nat.zero_le _, rfl, rfl⟩
  case round =>
    obtain ⟨i, rfl, hi, rfl, rfl⟩ := hrel
    by_cases hil : i < s.size
    · have hii : (i : Int) < (s.size : Int) := by omega
      have hsuc : IntKind.i64.wrap ((i : Int) + 1) = ((i + 1 : Nat) : Int) := by simp [IntKind.wrap, IntKind.bits, IntKind.signed]; omega
      obtain ⟨X, hX⟩ : ∃ X, X = (s.data.toList.take i).foldl Dk.feed Dk.ones := ⟨_, rfl⟩
      have hXl : X < 4294967296 := by rw [hX]; exact Dk.foldl_lt _ Dk.ones_lt
      have HX := Lib.hid hX
      rw [← hX]
      clear hX
      go_wp2
      go_loopw [3, 16] (fun s3 s16 wr => ∃ k : Nat, s16 = .int .i64 k ∧ k ≤ 8 ∧ s3 = .int .u32 (Dk.steps k (X ^^^ (s[i]'hil).toNat) : Nat) ∧ w = wr) (fun _ s16 _ => 8 - (intOf s16).toNat)
      case atStart =>
        refine ⟨0, rfl, by omega, ?_, rfl⟩
        exact congrArg (Value.int .u32) (Dk.feed_bits X _ hXl)
      case round =>
        obtain ⟨k, rfl, hk, rfl, rfl⟩ := hrel
        by_cases hk8 : k < 8
        · have hki : (k : Int) < 8 := by omega
          have hsuk : IntKind.i64.wrap ((k : Int) + 1) = ((k + 1 : Nat) : Int) := by simp [IntKind.wrap, IntKind.bits, IntKind.signed]; omega
          obtain ⟨Y, hY⟩ : ∃ Y, Y = Dk.steps k (X ^^^ (s[i]'hil).toNat) := ⟨_, rfl⟩
          have hYl : Y < 4294967296 := by rw [hY]; exact Dk.steps_lt _ (Nat.xor_lt_two_pow hXl (by have := (s[i]'hil).toNat_lt; omega))
          have HY := Lib.hid hY
          rw [← hY]
          clear hY
          go_wp2
          go_roundw
          case rel =>
            refine ⟨k + 1, rfl, by omega, ?_, by trivial⟩
            rw [Dk.step_and Y hYl, Dk.steps_succ, ← HY.out]
          case measure => simp [intOf]; omega
        · have hki : ¬ (k : Int) < 8 := by omega
          have hk8e : k = 8 := by omega
          have HK := Lib.hid hk8e
          clear hk8e
          go_wp2
          go_roundw
          case rel =>
            refine ⟨i + 1, rfl, by omega, ?_, by trivial⟩
            rw [Dk.take_feed (by simpa using hil), ← HX.out, HK.out]
            rfl
          case measure => simp [intOf]; omega
    · have hii : ¬ (i : Int) < (s.size : Int) := by omega
      have hie : s.data.toList.take i = s.data.toList := List.take_of_length_le (by simp; omega)
      rw [hie]
      obtain ⟨Z, hZ⟩ : ∃ Z, Z = s.data.toList.foldl Dk.feed Dk.ones := ⟨_, rfl⟩
      have hf := Dk.sum_bits s.data.toList
      rw [← hZ] at hf ⊢
      have HF := Lib.hid hf
      clear hZ hf hie
      go_wp2
      go_ret
      refine ⟨?_, rfl⟩
      simp
      exact HF.out
set_option maxRecDepth 100000 in
set_option maxHeartbeats 1500000 in
theorem r7Sum_any (w : World) (s : ByteArray) (hs : s.size ≤ 9223372036854775807) : Calls Tryz.prog 69 #[.string s] w fun e w' => e = .returned (.int .u32 (Dk.sum s.data.toList : Nat)) ∧ w = w' := by
  go_enter Tryz.func69, Tryz.ntmps69
  go_wp2
  go_loopw [3, 4] (fun s3 s7 wr => ∃ i : Nat, s7 = .int .i64 i ∧ i ≤ s.size ∧ s3 = .int .u32 ((s.data.toList.take i).foldl Dk.feed Dk.ones : Nat) ∧ w = wr) (fun _ s7 _ => s.size - (intOf s7).toNat)
  case atStart => exact ⟨0, rfl, Nat.zero_le _, rfl, rfl⟩
  case round =>
    obtain ⟨i, rfl, hi, rfl, rfl⟩ := hrel
    by_cases hil : i < s.size
    · have hii : (i : Int) < (s.size : Int) := by omega
      have hsuc : IntKind.i64.wrap ((i : Int) + 1) = ((i + 1 : Nat) : Int) := by simp [IntKind.wrap, IntKind.bits, IntKind.signed]; omega
      obtain ⟨X, hX⟩ : ∃ X, X = (s.data.toList.take i).foldl Dk.feed Dk.ones := ⟨_, rfl⟩
      have hXl : X < 4294967296 := by rw [hX]; exact Dk.foldl_lt _ Dk.ones_lt
      have HX := Lib.hid hX
      rw [← hX]
      clear hX
      go_wp2
      go_loopw [3, 5, 6] (fun s3 s16 s6 wr => ∃ k : Nat, s16 = .int .i64 k ∧ k ≤ 8 ∧ s3 = .int .u32 (Dk.steps k (X ^^^ (s[i]'hil).toNat) : Nat) ∧ w = wr) (fun _ s16 _ _ => 8 - (intOf s16).toNat)
      case atStart =>
        refine ⟨0, rfl, by omega, ?_, rfl⟩
        exact congrArg (Value.int .u32) (Dk.feed_bits X _ hXl)
      case round =>
        obtain ⟨k, rfl, hk, rfl, rfl⟩ := hrel
        by_cases hk8 : k < 8
        · have hki : (k : Int) < 8 := by omega
          have hsuk : IntKind.i64.wrap ((k : Int) + 1) = ((k + 1 : Nat) : Int) := by simp [IntKind.wrap, IntKind.bits, IntKind.signed]; omega
          obtain ⟨Y, hY⟩ : ∃ Y, Y = Dk.steps k (X ^^^ (s[i]'hil).toNat) := ⟨_, rfl⟩
          have hYl : Y < 4294967296 := by rw [hY]; exact Dk.steps_lt _ (Nat.xor_lt_two_pow hXl (by have := (s[i]'hil).toNat_lt; omega))
          have HY := Lib.hid hY
          rw [← hY]
          clear hY
          by_cases h1 : Y % 2 = 1
          · have h1i : (Y : Int) % 2 = 1 := by omega
            go_wp2
            go_roundw
            case rel =>
              refine ⟨k + 1, rfl, by omega, ?_, by trivial⟩
              rw [Dk.steps_succ, ← HY.out, Dk.half_cast, show (3988292384 : Int) = ((Dk.fold : Nat) : Int) from rfl, Sm.w_xor (by omega) (by decide)]
              unfold Dk.step
              rw [if_pos h1]
            case measure => simp [intOf]; omega
          · have h1i : ¬ (Y : Int) % 2 = 1 := by omega
            go_wp2
            go_roundw
            case rel =>
              refine ⟨k + 1, rfl, by omega, ?_, by trivial⟩
              rw [Dk.steps_succ, ← HY.out, Dk.half_cast]
              unfold Dk.step
              rw [if_neg h1, Nat.xor_zero]
            case measure => simp [intOf]; omega
        · have hki : ¬ (k : Int) < 8 := by omega
          have hk8e : k = 8 := by omega
          have HK := Lib.hid hk8e
          clear hk8e
          go_wp2
          go_roundw
          case rel =>
            refine ⟨i + 1, rfl, by omega, ?_, by trivial⟩
            rw [Dk.take_feed (by simpa using hil), ← HX.out, HK.out]
            rfl
          case measure => simp [intOf]; omega
    · have hii : ¬ (i : Int) < (s.size : Int) := by omega
      have hie : s.data.toList.take i = s.data.toList := List.take_of_length_le (by simp; omega)
      rw [hie]
      obtain ⟨Z, hZ⟩ : ∃ Z, Z = s.data.toList.foldl Dk.feed Dk.ones := ⟨_, rfl⟩
      have hf := Dk.sum_bits2 s.data.toList
      rw [← hZ] at hf ⊢
      have HF := Lib.hid hf
      clear hZ hf hie
      go_wp2
      go_ret
      refine ⟨?_, rfl⟩
      simp
      exact HF.out
end Go.Proofs.YtnmagfodjcookaaGreat
