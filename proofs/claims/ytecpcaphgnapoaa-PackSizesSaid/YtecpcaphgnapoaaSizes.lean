/-
  PackSizes answers true for every number, integer and text, and turns nothing of what was there.
-/
import Derived.Test.YtecpcaphgnapoaaWrites
namespace Go.Proofs.Ytecpcaphgnapoaa
open Go.RowKit Pk

/-- The bytes of one item that lies in a block of its own. -/
theorem bytes_one (a : It) (ha : a.Ok) {w : World} {C : Array Value} (hC : C = #[.int .u8 a.d, .int .u64 a.n, .int .i64 a.i, .string a.s, .int .u8 a.b, .int .i64 a.m]) :
    Calls Try.prog 30 #[.slice (some ⟨w.heap.size, 0, none⟩) 1 1] (w.alloc (.cells C 24)) fun e w' => e = .returned (.string ⟨(encI a).toArray⟩) ∧ Below w.heap.size w w' := by
  subst hC
  have hb : Below w.heap.size w (w.alloc (.cells #[.int .u8 a.d, .int .u64 a.n, .int .i64 a.i, .string a.s, .int .u8 a.b, .int .i64 a.m] 24)) := (Below.refl _ w).alloc (Nat.le_refl _) _
  have hn := heap_alloc_new w (.cells #[.int .u8 a.d, .int .u64 a.n, .int .i64 a.i, .string a.s, .int .u8 a.b, .int .i64 a.m] 24)
  refine (bytes_any (some ⟨w.heap.size, 0, none⟩) 1 [a] (by simpa using ha) (.inr ⟨w.heap.size, 0, rfl, by simp, ?_⟩) (by have := ha.s; simp [total]; omega)).mono ?_
  · intro k hk
    have hk0 : k = 0 := by simpa using hk
    subst hk0
    exact ⟨cells_of hn 0 _ rfl, cells_of hn 1 _ rfl, cells_of hn 2 _ rfl, cells_of hn 3 _ rfl, cells_of hn 4 _ rfl, cells_of hn 5 _ rfl⟩
  · rintro e w' ⟨rfl, h⟩
    exact ⟨by simp [encs], hb.trans (h.mono (by simp))⟩

theorem shl_one (k : Nat) (hk : k ≤ 9) : IntKind.u64.wrap ((2 : Int) ^ (7 * k)) = ((2 ^ (7 * k) : Nat) : Int) := by
  rw [IntKind.wrap_u64]
  have h := pow_le (k := 9) (m := k) hk
  have e : ((2 : Int) ^ (7 * k)) = ((2 ^ (7 * k) : Nat) : Int) := by simp [Int.natCast_pow]
  rw [e]
  generalize 2 ^ (7 * k) = P at *
  omega

theorem okNum (n : Nat) (hn : n < 2 ^ 64) : It.Ok ⟨0, n, 0, ⟨#[]⟩, 0, 0⟩ := ⟨by simp, hn, by simp, by show 0 ≤ _; omega, by simp, by simp⟩
theorem okInt (i : Int) (hi : -9223372036854775808 ≤ i ∧ i ≤ 9223372036854775807) : It.Ok ⟨1, 0, i, ⟨#[]⟩, 0, 0⟩ := ⟨by simp, by simp, hi, by show 0 ≤ _; omega, by simp, by simp⟩
theorem okText (s : ByteArray) (h : s.size ≤ 30000) : It.Ok ⟨2, 0, 0, s, 0, 0⟩ := ⟨by simp, by simp, by simp, by show s.size ≤ _; omega, by simp, by simp⟩

set_option maxRecDepth 100000 in
theorem sizes_big (n : Nat) (i : Int) (s : ByteArray) (w : World) (h : 30000 < s.size) :
    Calls Try.prog 9 #[.int .u64 n, .int .i64 i, .string s] w fun e w' => e = .returned (.bool true) ∧ Below w.heap.size w w' := by
  have h1 : (30000 : Int) < s.size := by omega
  go_enter Try.func9, Try.ntmps9
  go_wp2_with fail
  refine (wakes_any _).mono ?_
  rintro e w1 ⟨rfl, hb⟩
  go_wp2
  go_ret
  exact ⟨rfl, hb⟩

set_option maxHeartbeats 4000000 in
set_option maxRecDepth 100000 in
theorem sizes_small (n : Nat) (hn : n < 2 ^ 64) (i : Int) (hi : -9223372036854775808 ≤ i ∧ i ≤ 9223372036854775807) (s : ByteArray) (w : World) (h : s.size ≤ 30000) :
    Calls Try.prog 9 #[.int .u64 n, .int .i64 i, .string s] w fun e w' => e = .returned (.bool true) ∧ Below w.heap.size w w' := by
  have h0 : ¬ (30000 : Int) < s.size := by omega
  have hlen := enc_len hn
  have hpos := List.length_pos_iff.2 (enc_ne n)
  have A1 := okNum n hn
  have HE := Lib.hid (enc_size n)
  have E1 : encI ⟨0, n, 0, ⟨#[]⟩, 0, 0⟩ = enc n := rfl
  have B1 := Lib.hid (fun w C hC => @bytes_one ⟨0, n, 0, ⟨#[]⟩, 0, 0⟩ A1 w C hC)
  rw [E1] at B1
  have E2 : encI ⟨1, 0, i, ⟨#[]⟩, 0, 0⟩ = enc (zig i) := rfl
  have B2 := Lib.hid (fun w C hC => @bytes_one ⟨1, 0, i, ⟨#[]⟩, 0, 0⟩ (okInt i hi) w C hC)
  rw [E2] at B2
  have E3 : encI ⟨1, 0, -1 - i, ⟨#[]⟩, 0, 0⟩ = enc (zig (-1 - i)) := rfl
  have B3 := Lib.hid (fun w C hC => @bytes_one ⟨1, 0, -1 - i, ⟨#[]⟩, 0, 0⟩ (okInt (-1 - i) (by omega)) w C hC)
  rw [E3] at B3
  have E4 : encI ⟨2, 0, 0, s, 0, 0⟩ = enc s.size ++ s.data.toList := rfl
  have B4 := Lib.hid (fun w C hC => @bytes_one ⟨2, 0, 0, s, 0, 0⟩ (okText s h) w C hC)
  rw [E4] at B4
  have E5 : encI ⟨0, s.size, 0, ⟨#[]⟩, 0, 0⟩ = enc s.size := rfl
  have B5 := Lib.hid (fun w C hC => @bytes_one ⟨0, s.size, 0, ⟨#[]⟩, 0, 0⟩ (okNum s.size (by omega)) w C hC)
  rw [E5] at B5
  have hpair := zig_pair i
  have hes := enc_len (n := s.size) (by omega)
  clear E1 E2 E3 E4 E5
  obtain ⟨i1, i2⟩ := hi
  generalize enc n = en at *
  generalize enc (zig i) = ea at *
  generalize enc (zig (-1 - i)) = eb at *
  generalize enc s.size = es at *
  have hab : ((ea.length : Int) == (eb.length : Int)) = true := beq_iff_eq.2 (by omega)
  have g1 : (1 : Int) ≤ en.length := by omega
  have g2 : (en.length : Int) ≤ 10 := by omega
  have HP := Lib.hid hpair
  clear hpair
  go_enter Try.func9, Try.ntmps9
  go_wp2_with fail
  refine (B1.out _ _ (by simp)).mono ?_
  rintro e w1 ⟨rfl, hb1⟩
  go_wp2_with fail
  go_loop [8] (fun i => ∃ k : Nat, 1 ≤ k ∧ k ≤ 10 ∧ i = .int .i64 k) (fun i => 10 - (intOf i).toNat)
  case atStart => exact ⟨1, by omega, by omega, rfl⟩
  case round =>
    obtain ⟨k, hk1, hk2, rfl⟩ := hrel
    by_cases hk : k < 10
    · have hiff := HE.out k hk1
      have hsh := shl_one k (by omega)
      by_cases hle : en.length ≤ k
      · have hle1 : (en.length : Int) ≤ k := by omega
        have hnk : decide ((n : Int) < IntKind.u64.wrap (2 ^ (7 * k))) = true := by rw [hsh, decide_eq_true_eq]; have := hiff.1 hle; omega
        clear hiff hsh
        go_wp2_with fail
        go_round
        case rel => exact ⟨k + 1, by omega, by omega, by go_num⟩
        case measure => simp [intOf]; omega
      · have hle1 : ¬ (en.length : Int) ≤ k := by omega
        have hnk : decide ((n : Int) < IntKind.u64.wrap (2 ^ (7 * k))) = false := by rw [hsh, decide_eq_false_iff_not]; have := fun x => hle (hiff.2 x); omega
        clear hiff hsh
        go_wp2_with fail
        go_round
        case rel => exact ⟨k + 1, by omega, by omega, by go_num⟩
        case measure => simp [intOf]; omega
    · obtain rfl : k = 10 := by omega
      go_wp2_with fail
      refine (B2.out _ _ (by simp)).mono ?_
      rintro e w2 ⟨rfl, hb2⟩
      go_wp2_with fail
      refine (B3.out _ _ (by simp)).mono ?_
      rintro e w3 ⟨rfl, hb3⟩
      go_wp2_with fail
      refine (B4.out _ _ (by simp)).mono ?_
      rintro e w4 ⟨rfl, hb4⟩
      go_wp2_with fail
      refine (B5.out _ _ (by simp)).mono ?_
      rintro e w5 ⟨rfl, hb5⟩
      have hes1 : (es.length : Int) ≤ 10 := by omega
      have hts0 : (es.length : Int) + s.size = (s.size : Int) + es.length := by omega
      have hts : ((es.length : Int) + s.size == (s.size : Int) + es.length) = true := beq_iff_eq.2 (by omega)
      go_wp2_with fail
      refine (wakes_any _).mono ?_
      rintro e w6 ⟨rfl, hb6⟩
      go_wp2
      go_ret
      exact ⟨rfl, chainO (chainO (chainO (chainO (chainO hb1 (Nat.le_refl _) hb2) (Nat.le_refl _) hb3) (Nat.le_refl _) hb4) (Nat.le_refl _) hb5) (Nat.le_refl _) hb6⟩

theorem sizes_any (n : Nat) (hn : n < 2 ^ 64) (i : Int) (hi : -9223372036854775808 ≤ i ∧ i ≤ 9223372036854775807) (s : ByteArray) (w : World) :
    Calls Try.prog 9 #[.int .u64 n, .int .i64 i, .string s] w fun e w' => e = .returned (.bool true) ∧ Below w.heap.size w w' := by
  by_cases hbig : 30000 < s.size
  · exact sizes_big n i s w hbig
  · exact sizes_small n hn i hi s w (by omega)
end Go.Proofs.Ytecpcaphgnapoaa
