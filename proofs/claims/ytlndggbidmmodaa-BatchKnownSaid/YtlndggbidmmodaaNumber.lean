/-
  What pack's number reads of a text is what the plain reading 'dec' tells of its bytes: for every text.
-/
import Derived.Test.YtlndggbidmmodaaMath
import Derived.Test.YtlndggbidmmodaaProg
import Derived.WalkKit
import Derived.Lib.Strings
import Derived.Lib.Hide
namespace Go.Proofs.Ytlndggbidmmodaa
open Go.RowKit
namespace Pk

theorem mask127 (b : UInt8) : bits .and .u8 (b.toNat : Int) 127 = ((b.toNat % 128 : Nat) : Int) := by
  have h := b.toNat_lt
  have e := bits_mask .u8 8 (by decide) wraps_u8 7 (by decide) (b.toNat : Int) (by omega) (by omega)
  rw [show ((2 : Int) ^ 7 - 1) = 127 from rfl, show ((2 : Int) ^ 7) = 128 from rfl] at e
  rw [e]; omega

/-- The or of a number and a digit ahead of it is their sum. -/
theorem or_add (X d k : Nat) (hX : X < 2 ^ (7 * k)) (h : X + d * 2 ^ (7 * k) < 2 ^ 64) :
    bits .or .u64 (X : Int) ((d * 2 ^ (7 * k) : Nat) : Int) = ((X + d * 2 ^ (7 * k) : Nat) : Int) := by
  rw [bits_or_u64_nat X (d * 2 ^ (7 * k)) (by omega) (by omega)]
  congr 1
  rw [Nat.or_comm, Nat.mul_comm d, ← Nat.two_pow_add_eq_or_of_lt hX, Nat.add_comm]

/-- What a digit adds, as the machine has it. -/
theorem digit (b : UInt8) (X k : Nat) (hX : X < 2 ^ 64) :
    bits .or .u64 (X : Int) (IntKind.u64.wrap (IntKind.u64.wrap (bits .and .u8 (b.toNat : Int) 127) * 2 ^ (7 * k))) = ((X ||| (b.toNat % 128 * 2 ^ (7 * k) % 2 ^ 64) : Nat) : Int) := by
  rw [mask127, IntKind.wrap_u64, IntKind.wrap_u64]
  have e : ((b.toNat % 128 : Nat) : Int) % 18446744073709551616 = ((b.toNat % 128 : Nat) : Int) := by omega
  rw [e]
  have e2 : ((b.toNat % 128 : Nat) : Int) * 2 ^ (7 * k) % 18446744073709551616 = ((b.toNat % 128 * 2 ^ (7 * k) % 2 ^ 64 : Nat) : Int) := by
    simp [Int.natCast_mul, Int.natCast_pow]
  rw [e2]
  exact bits_or_u64_nat X _ (by omega) (by omega)

theorem sum_of (X d k : Nat) (hX : X < 2 ^ (7 * k)) (h : d * 2 ^ (7 * k) < 2 ^ 64) : (X ||| (d * 2 ^ (7 * k) % 2 ^ 64)) = X + d * 2 ^ (7 * k) := by
  rw [Nat.mod_eq_of_lt h, Nat.or_comm, Nat.mul_comm d, ← Nat.two_pow_add_eq_or_of_lt hX, Nat.add_comm]

theorem lt_of (X k : Nat) (hk : k ≤ 9) (hX : k ≤ 9 → X < 2 ^ (7 * k)) : X < 2 ^ 64 := by
  have h1 := hX hk
  have h2 := pow_le hk
  omega

theorem low_room (d k : Nat) (hk : k ≤ 8) (hd : d ≤ 127) : d * 2 ^ (7 * k) < 2 ^ 64 := by
  have h4 := pow_le hk
  have h5 : d * 2 ^ (7 * k) ≤ 127 * 2 ^ (7 * 8) := Nat.mul_le_mul hd h4
  omega

theorem drop_at {s : ByteArray} {k : Nat} (h : k < s.size) : s.data.toList.drop k = s[k] :: s.data.toList.drop (k + 1) := by
  have h1 : k < s.data.toList.length := by simpa using h
  rw [List.drop_eq_getElem_cons h1]
  rfl

theorem or_lt (a b : Nat) (ha : a < 2 ^ 64) (hb : b < 2 ^ 64) : a ||| b < 2 ^ 64 := Nat.or_lt_two_pow ha hb

/-- A round that goes on. -/
theorem dec_on {s : ByteArray} {X k : Nat} (h : k < s.size) (hk : k < 10) (hX : k ≤ 9 → X < 2 ^ (7 * k)) (hb : (127 : Int) < s[k].toNat)
    (hd : dec 0 0 s.data.toList = dec X k (s.data.toList.drop k)) :
    ∃ X' : Nat, (k + 1 ≤ 9 → X' < 2 ^ (7 * (k + 1))) ∧
      bits .or .u64 (X : Int) (IntKind.u64.wrap (IntKind.u64.wrap (bits .and .u8 (s[k].toNat : Int) 127) * 2 ^ (7 * k))) = (X' : Int) ∧
      dec 0 0 s.data.toList = dec X' (k + 1) (s.data.toList.drop (k + 1)) := by
  have hX64 := lt_of X k (by omega) hX
  refine ⟨_, ?_, digit _ X k hX64, ?_⟩
  · intro h9
    have h1 := low_room (s[k].toNat % 128) k (by omega) (by omega)
    rw [sum_of X _ k (hX (by omega)) h1, pow_step]
    have h2 : s[k].toNat % 128 * 2 ^ (7 * k) ≤ 127 * 2 ^ (7 * k) := Nat.mul_le_mul_right _ (by omega)
    have h3 := hX (by omega)
    omega
  · by_cases h9 : k = 9
    · subst h9
      rw [hd, drop_at h, dec, if_pos (by omega), if_pos (by omega), dec_ten, dec_ten]
    · have h1 := low_room (s[k].toNat % 128) k (by omega) (by omega)
      rw [sum_of X _ k (hX (by omega)) h1, hd, drop_at h, dec, if_pos hk, if_pos (by omega)]

/-- A last byte that is none. -/
theorem dec_bad {s : ByteArray} {X k : Nat} (h : k < s.size) (hk : k < 10) (hb : ¬ (127 : Int) < s[k].toNat)
    (hbad : (0 < k ∧ s[k].toNat = 0) ∨ (k = 9 ∧ 1 < s[k].toNat))
    (hd : dec 0 0 s.data.toList = dec X k (s.data.toList.drop k)) : dec 0 0 s.data.toList = (0, 0, 8) := by
  rw [hd, drop_at h, dec, if_pos hk, if_neg (by omega), if_pos hbad]

/-- A last byte. -/
theorem dec_good {s : ByteArray} {X k : Nat} (h : k < s.size) (hk : k < 10) (hX : k ≤ 9 → X < 2 ^ (7 * k)) (hb : ¬ (127 : Int) < s[k].toNat)
    (hbad : ¬ ((0 < k ∧ s[k].toNat = 0) ∨ (k = 9 ∧ 1 < s[k].toNat)))
    (hd : dec 0 0 s.data.toList = dec X k (s.data.toList.drop k)) :
    (dec 0 0 s.data.toList).1 = bits .or .u64 (X : Int) (IntKind.u64.wrap (IntKind.u64.wrap (bits .and .u8 (s[k].toNat : Int) 127) * 2 ^ (7 * k))) ∧ (dec 0 0 s.data.toList).2 = (k + 1, 0) := by
  have hX64 := lt_of X k (by omega) hX
  have h1 : s[k].toNat % 128 * 2 ^ (7 * k) < 2 ^ 64 := by
    rcases Nat.lt_or_ge k 9 with h8 | h8
    · exact low_room _ k (by omega) (by omega)
    · obtain rfl : k = 9 := by omega
      have : s[9].toNat % 128 * 2 ^ (7 * 9) ≤ 1 * 2 ^ (7 * 9) := Nat.mul_le_mul_right _ (by omega)
      omega
  rw [digit _ X k hX64, sum_of X _ k (hX (by omega)) h1, hd, drop_at h, dec, if_pos hk, if_neg (by omega), if_neg hbad]
  rw [show s[k].toNat % 128 = s[k].toNat from by omega]
  exact ⟨rfl, rfl⟩

theorem ret_int {k : IntKind} {a b : Int} (h : a = b) : Ending.returned (.int k a) = .returned (.int k b) := by rw [h]
theorem ret_int3 {k1 k2 k3 : IntKind} {a b c a' b' c' : Int} (h1 : a = a') (h2 : b = b') (h3 : c = c') : Ending.returned (.tuple #[.int k1 a, .int k2 b, .int k3 c]) = .returned (.tuple #[.int k1 a', .int k2 b', .int k3 c']) := by rw [h1, h2, h3]

end Pk
open Pk

theorem heap_set {w : World} {b : Nat} {c : Array Value} {e : TypeId} {fz : Nat × Nat} (h : w.heap[b]? = some (.cells c e fz)) (o : Nat) (v : Value) :
    (w.setCell ⟨b, o, none⟩ v).heap[b]? = some (.cells (c.setIfInBounds o v) e fz) := by
  simp [World.setCell, Array.getElem?_modify, h]

set_option maxHeartbeats 400000 in
theorem number_any (s : ByteArray) (w : World) (hs : s.size ≤ maxLen) :
    Calls Try.prog 94 #[.string s] w fun e w' =>
      e = .returned (.tuple #[.int .u64 (Pk.dec 0 0 s.data.toList).1, .int .i64 (Pk.dec 0 0 s.data.toList).2.1, .int .i64 (Pk.dec 0 0 s.data.toList).2.2]) ∧ w = w' := by
  unfold maxLen at hs
  go_enter Try.func94, Try.ntmps94
  go_wp2
  go_loop [2, 3] (fun n i => ∃ k X : Nat, k ≤ s.size ∧ k ≤ 10 ∧ (k ≤ 9 → X < 2 ^ (7 * k)) ∧ i = .int .i64 k ∧ n = .int .u64 X ∧ Pk.dec 0 0 s.data.toList = Pk.dec X k (s.data.toList.drop k)) (fun _ i => 10 - (intOf i).toNat)
  case atStart => exact ⟨0, 0, by omega, by omega, by omega, rfl, rfl, rfl⟩
  case round =>
    obtain ⟨k, X, hk, hk10, hX, rfl, rfl, hd⟩ := hrel
    have HD := Lib.hid hd
    have HX := Lib.hid hX
    clear hd hX
    by_cases h10 : k = 10
    · subst h10
      go_wp2
      go_ret3
      have := HD.out
      rw [Pk.dec_ten] at this
      rw [this]
      exact ⟨rfl, rfl⟩
    · have hk9 : k < 10 := by omega
      by_cases hlt : k < s.size
      · have hne : ((k : Int) == (s.size : Int)) = false := by rw [beq_eq_false_iff_ne]; omega
        by_cases hb : (127 : Int) < s[k].toNat
        · go_wp2
          go_round
          obtain ⟨X', h1, h2, h3⟩ := Pk.dec_on hlt hk9 HX.out hb HD.out
          case rel => exact ⟨k + 1, X', by omega, by omega, h1, by go_num, by rw [h2], h3⟩
          case measure => simp [intOf]; omega
        · by_cases hbad : (0 < k ∧ s[k].toNat = 0) ∨ (k = 9 ∧ 1 < s[k].toNat)
          · have hr := Lib.hid (Pk.dec_bad hlt hk9 hb hbad HD.out)
            clear HD HX
            rcases hbad with ⟨h0, h1⟩ | ⟨h0, h1⟩
            · go_wp2
              go_ret3
              rw [hr.out]
              exact ⟨rfl, rfl⟩
            · subst h0
              have h2 : ((s[9].toNat : Int) == 0) = false := by rw [beq_eq_false_iff_ne]; omega
              have h3 : (1 : Int) < s[9].toNat := by omega
              go_wp2
              go_ret3
              rw [hr.out]
              exact ⟨rfl, rfl⟩
          · have hr := Lib.hid (Pk.dec_good hlt hk9 HX.out hb hbad HD.out)
            clear HD HX
            go_wp2
            · exfalso
              have h4 : (k : Int) + 1 = 10 := by assumption
              have h6 : ¬ s[k].toNat = 0 := by assumption
              have h5 : ((s[k].toNat : Int) == 0) = true ∨ (1 : Int) < s[k].toNat := by assumption
              rcases h5 with h5 | h5
              · have := WalkArith.int_eq h5
                omega
              · omega
            all_goals
              go_ret3
              have hq := hr.out
              rw [hq.2, hq.1]
              exact ⟨ret_int3 rfl (by omega) rfl, rfl⟩
      · obtain rfl : k = s.size := by omega
        go_wp2
        go_ret3
        have := HD.out
        rw [List.drop_of_length_le (by simp), Pk.dec, if_pos hk9] at this
        rw [this]
        exact ⟨rfl, rfl⟩
end Go.Proofs.Ytlndggbidmmodaa
