/-
  What the document's behind and rot do.
-/
import Derived.Test.YtkijdpgdniaagaaDoorRsBehind
namespace Go.Proofs.YtkijdpgdniaagaaDoor
open Go.RowKit
namespace Sm
theorem w_rot (x n : Nat) (hx : x < 4294967296) : bits .or .u32 ((x / 2 ^ n : Nat) : Int) ((x * 2 ^ (32 - n) % 4294967296 : Nat) : Int) = (rot x n : Nat) := by
  rw [w_or (Nat.lt_of_le_of_lt (Nat.div_le_self _ _) hx) (Nat.mod_lt _ (by decide)), rot, Nat.or_comm]
end Sm

set_option maxHeartbeats 400000 in
theorem rsrot_any (x n : Nat) (hx : x < 4294967296) (h1 : 1 ≤ n) (h2 : n ≤ 31) (w : World) :
    Calls Tryd.prog 46 #[.int .u32 x, .int .u64 n] w fun e w' => e = .returned (.int .u32 (Sm.rot x n)) ∧ w = w' := by
  go_enter Tryd.func46, Tryd.ntmps46
  go_wp2
  go_ret
  refine ⟨ret_u32 ?_, rfl⟩
  rw [← Sm.w_rot x n hx]
  have e3 : ((x : Int) * 2 ^ (32 - n)) = ((x * 2 ^ (32 - n) : Nat) : Int) := by push_cast; rfl
  have e4 : ((x : Int) / 2 ^ n) = ((x / 2 ^ n : Nat) : Int) := by push_cast; rfl
  simp only [e3, e4]
  rfl

set_option maxHeartbeats 2000000 in
theorem behind_any (p : Nat) (three : Bool) (hp : p < 400) (w : World) :
    Calls Tryd.prog 31 #[.int .u64 p, .bool three] w fun e w' => e = .returned (.int .u32 (Sm.root three p 37 % 4294967296 : Nat)) ∧ w = w' := by
  go_enter Tryd.func31, Tryd.ntmps31
  go_wp2
  go_loop [5, 6] (fun n k => ∃ (j : Nat) (kv : Int), j ≤ 37 ∧ kv = 36 - j ∧ k = .int .i64 kv ∧ n = .int .u64 (Sm.root three p j)) (fun _ k => (intOf k + 1).toNat)
  case atStart => exact ⟨0, 36, by omega, by omega, rfl, rfl⟩
  case round =>
    obtain ⟨j, kv, hj, hkv, rfl, rfl⟩ := hrel
    by_cases hlt : j < 37
    · have hle := Sm.root_le three p j hj
      have hn : Sm.root three p (j + 1) = Sm.nxt three p (Sm.root three p j) (2 ^ (36 - j)) := rfl
      obtain ⟨d, hd⟩ : ∃ d : Nat, d = 36 - j := ⟨_, rfl⟩
      obtain rfl : kv = (d : Int) := by omega
      rw [← hd] at hn
      rw [show 37 - j = d + 1 by omega, Nat.pow_succ] at hle
      have HD := Lib.hid hd
      have hd36 : d ≤ 36 := by omega
      have hp2 : (2 : Int) ^ d = ((2 ^ d : Nat) : Int) := by push_cast; rfl
      have hpos : 0 < 2 ^ d := Nat.two_pow_pos d
      unfold Sm.nxt at hn
      generalize Sm.root three p j = r at *
      generalize 2 ^ d = pw at *
      have hm : r + pw < 137438953472 := by omega
      have hmi : (r : Int) + (pw : Int) = ((r + pw : Nat) : Int) := by omega
      have hmw : (r : Int) + (pw : Int) < 18446744073709551616 := by omega
      obtain ⟨m, hmd⟩ : ∃ m, m = r + pw := ⟨_, rfl⟩
      rw [← hmd] at hn hm hmi
      have HJ : Hid (j + 1 ≤ 37) := hlt
      have HK : Hid ((d : Int) - 1 = 36 - ((j + 1 : Nat) : Int)) := by show _ = _; omega
      clear hmd hd hkv hlt hj hle hpos
      have fin : ∀ v : Nat, Sm.root three p (j + 1) = v → (∃ (j' : Nat) (kv : Int), j' ≤ 37 ∧ kv = 36 - j' ∧ Value.int .i64 ((d : Int) - 1) = .int .i64 kv ∧ Value.int .u64 (v : Int) = .int .u64 (Sm.root three p j')) :=
        fun v hv => ⟨j + 1, (d : Int) - 1, HJ.out, HK.out, rfl, by rw [hv]⟩
      have FIN := Lib.hid fin
      clear fin
      cases three
      case true =>
        by_cases hm2 : m < 68719476736
        · have hm3 : (m : Int) < 68719476736 := by omega
          have hC := fun wx => cube_any m p hm2 hp wx
          have ht : Sm.takes true p m = Sm.cubeB m p := by simp [Sm.takes, hm2]
          rw [ht] at hn
          cases hc : Sm.cubeB m p
          case true =>
            rw [hc] at hn hC
            have HN : Hid (Sm.root true p (j + 1) = m) := by show _ = _; simpa using hn
            have HC := Lib.hid hC
            clear hn hC ht hc
            go_wp2_with fail
            refine (HC.out _).mono ?_
            rintro e w' ⟨rfl, rfl⟩
            go_wp2
            go_round
            case rel => exact FIN.out m HN.out
            case measure => simp [intOf]
          case false =>
            rw [hc] at hn hC
            have HN : Hid (Sm.root true p (j + 1) = r) := by show _ = _; simpa using hn
            have HC := Lib.hid hC
            clear hn hC ht hc
            go_wp2_with fail
            refine (HC.out _).mono ?_
            rintro e w' ⟨rfl, rfl⟩
            go_wp2
            go_round
            case rel => exact FIN.out r HN.out
            case measure => simp [intOf]
        · have hm3 : ¬ (m : Int) < 68719476736 := by omega
          have ht : Sm.takes true p m = false := by simp [Sm.takes, hm2]
          rw [ht] at hn
          have HN : Hid (Sm.root true p (j + 1) = r) := by show _ = _; simpa using hn
          clear hn ht
          go_wp2
          go_round
          case rel => exact FIN.out r HN.out
          case measure => simp [intOf]
      case false =>
        have hC := fun wx => square_any m p (by omega) (by omega) wx
        have ht : Sm.takes false p m = Sm.squareB m p := rfl
        rw [ht] at hn
        cases hc : Sm.squareB m p
        case true =>
          rw [hc] at hn hC
          have HN : Hid (Sm.root false p (j + 1) = m) := by show _ = _; simpa using hn
          have HC := Lib.hid hC
          clear hn hC ht hc
          go_wp2_with fail
          refine (HC.out _).mono ?_
          rintro e w' ⟨rfl, rfl⟩
          go_wp2
          go_round
          case rel => exact FIN.out m HN.out
          case measure => simp [intOf]
        case false =>
          rw [hc] at hn hC
          have HN : Hid (Sm.root false p (j + 1) = r) := by show _ = _; simpa using hn
          have HC := Lib.hid hC
          clear hn hC ht hc
          go_wp2_with fail
          refine (HC.out _).mono ?_
          rintro e w' ⟨rfl, rfl⟩
          go_wp2
          go_round
          case rel => exact FIN.out r HN.out
          case measure => simp [intOf]
    · obtain rfl : j = 37 := by omega
      obtain rfl : kv = -1 := by omega
      have hle := Sm.root_le three p 37 (by omega)
      obtain ⟨r, hr⟩ : ∃ r, r = Sm.root three p 37 := ⟨_, rfl⟩
      rw [← hr] at hle ⊢
      have HR := Lib.hid hr
      clear hr
      go_wp2
      go_ret
      exact ⟨ret_u32 (by rw [← HR.out]), rfl⟩
end Go.Proofs.YtkijdpgdniaagaaDoor
