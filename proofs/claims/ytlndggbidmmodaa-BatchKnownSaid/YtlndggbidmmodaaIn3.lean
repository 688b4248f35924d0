/-
  What the reading calls of a pack reader do, further (Most, Int, Byte, Left, End), and of a nil reader.
-/
import Derived.Test.YtlndggbidmmodaaIn2
namespace Go.Proofs.Ytlndggbidmmodaa
open Go.RowKit Pk

set_option maxHeartbeats 400000 in
theorem most_in {w : World} {b : Nat} {r : Rd} (hin : inAt w b r) (hr : r.Ok) (m : Int) (hm : -9223372036854775808 ≤ m ∧ m ≤ 9223372036854775807) :
    Calls Try.prog 68 #[.pointer (some ⟨b, 0, none⟩), .int .i64 m] w fun e w' => e = .returned (.int .i64 (r.most m).1) ∧ Stp w w' b (r.most m).2 := by
  have hb := cnt_bd r.rest m
  have H0 := fun w => count_any (r.s.extract r.pos r.s.size) m w (extract_le r hr) hm
  rw [extract_rest] at H0
  unfold Rd.most
  obtain ⟨v, sz, er, hd⟩ : ∃ v sz er, cnt r.rest m = (v, sz, er) := ⟨_, _, _, rfl⟩
  rw [hd] at hb H0 ⊢
  simp only at hb H0 ⊢
  clear hd
  have H := Lib.hid H0
  clear H0
  by_cases h0 : r.f = 0 ∧ er = 0
  · obtain ⟨hf, rfl⟩ := h0
    rw [pass_true hf rfl, if_pos rfl]
    have Hf := Lib.hid hf
    clear hf
    go_enter Try.func68, Try.ntmps68
    go_wp2_with fail
    refine (rest_in hin hr).mono ?_
    rintro e w1 ⟨rfl, n, rfl⟩
    go_wp2_with fail
    refine (H.out _).mono ?_
    rintro e w1 ⟨rfl, rfl⟩
    go_wp2_with fail
    refine (step_ok (hin.drewN n) hr Hf.out _ (by omega) (by omega)).mono ?_
    rintro e w1 ⟨rfl, hst⟩
    go_wp2
    go_ret
    have e : ((sz : Nat) : Int).toNat = sz := Int.toNat_natCast sz
    rw [e] at hst
    exact ⟨rfl, hst.after (grown_drewN (grown_refl _ _) n)⟩
  · have hbad : r.f ≠ 0 ∨ er ≠ 0 := by omega
    rw [pass_false hbad, if_neg (by decide)]
    clear h0
    have Hbad := Lib.hid hbad
    clear hbad
    go_enter Try.func68, Try.ntmps68
    go_wp2_with fail
    refine (rest_in hin hr).mono ?_
    rintro e w1 ⟨rfl, n, rfl⟩
    go_wp2_with fail
    refine (H.out _).mono ?_
    rintro e w1 ⟨rfl, rfl⟩
    go_wp2_with fail
    refine (step_bad (hin.drewN n) _ sz er Hbad.out).mono ?_
    rintro e w1 ⟨rfl, hst⟩
    go_wp2
    go_ret
    exact ⟨rfl, hst.after (grown_drewN (grown_refl _ _) n)⟩

set_option maxHeartbeats 400000 in
theorem left_in {w : World} {b : Nat} {r : Rd} (hin : inAt w b r) (hr : r.Ok) :
    Calls Try.prog 89 #[.pointer (some ⟨b, 0, none⟩)] w fun e w' => e = .returned (.int .i64 r.rest.length) ∧ ∃ n, w' = w.drewN n := by
  rw [Rd.rest_length]
  go_enter Try.func89, Try.ntmps89
  go_wp2_with fail
  refine (rest_in hin hr).mono ?_
  rintro e w1 ⟨rfl, n, rfl⟩
  go_wp2
  go_ret
  exact ⟨rfl, n, rfl⟩

set_option maxHeartbeats 400000 in
theorem fin_in {w : World} {b : Nat} {r : Rd} (hin : inAt w b r) (hr : r.Ok) :
    Calls Try.prog 70 #[.pointer (some ⟨b, 0, none⟩)] w fun e w' => e = .returned (.int .i64 r.fin) ∧ ∃ n, w' = w.drewN n := by
  have H0 := @fault_in w b r hin
  unfold Rd.fin
  unfold Rd.fault at H0
  by_cases hf : r.f = 0
  · rw [if_neg (by omega)]
    rw [if_pos hf] at H0
    have H := Lib.hid H0
    clear H0 hf
    by_cases hl : r.rest = []
    · rw [if_pos hl]
      have hl' : ((r.rest.length : Nat) : Int) = 0 := by rw [hl]; rfl
      have H2 := fun n => left_in (hin.drewN n) hr
      rw [hl'] at H2
      have H2 := Lib.hid H2
      clear hl hl'
      go_enter Try.func70, Try.ntmps70
      go_wp2_with fail
      refine (H.out).mono ?_
      rintro e w1 ⟨rfl, n, rfl⟩
      go_wp2_with fail
      refine (H2.out n).mono ?_
      rintro e w1 ⟨rfl, m, rfl⟩
      go_wp2
      go_ret
      exact ⟨rfl, n + m, by simp [World.drewN]⟩
    · rw [if_neg hl]
      have hl' : (0 : Int) < ((r.rest.length : Nat) : Int) := by have := List.length_pos_iff.2 hl; omega
      have H2 := fun n => left_in (hin.drewN n) hr
      have H2 := Lib.hid H2
      clear hl
      go_enter Try.func70, Try.ntmps70
      go_wp2_with fail
      refine (H.out).mono ?_
      rintro e w1 ⟨rfl, n, rfl⟩
      go_wp2_with fail
      refine (H2.out n).mono ?_
      rintro e w1 ⟨rfl, m, rfl⟩
      go_wp2
      go_ret
      exact ⟨rfl, n + m, by simp [World.drewN]⟩
  · rw [if_pos hf]
    rw [if_neg hf] at H0
    have H := Lib.hid H0
    have h3' : ((r.f : Int) == 0) = false := by rw [beq_eq_false_iff_ne]; omega
    have h3 : ¬ ((r.f : Int) = 0) := by omega
    clear H0
    go_enter Try.func70, Try.ntmps70
    go_wp2_with fail
    refine (H.out).mono ?_
    rintro e w1 ⟨rfl, n, rfl⟩
    go_wp2
    go_ret
    exact ⟨rfl, n, rfl⟩

set_option maxHeartbeats 400000 in
theorem byte_in {w : World} {b : Nat} {r : Rd} (hin : inAt w b r) (hr : r.Ok) :
    Calls Try.prog 86 #[.pointer (some ⟨b, 0, none⟩)] w fun e w' => e = .returned (.int .u8 r.byte.1) ∧ Stp w w' b r.byte.2 := by
  unfold Rd.byte
  by_cases hl : r.rest = []
  · rw [if_pos hl]
    have he : r.s.extract r.pos r.s.size = ⟨#[]⟩ := by
      apply ByteArray.ext
      apply Array.ext'
      rw [extract_rest, hl]
    have H0 := @rest_in w b r hin hr
    rw [he] at H0
    have H := Lib.hid H0
    clear H0 he hl
    rw [pass_false (.inr (by decide)), if_neg (by decide)]
    go_enter Try.func86, Try.ntmps86
    go_wp2_with fail
    refine (H.out).mono ?_
    rintro e w1 ⟨rfl, n, rfl⟩
    go_wp2_with fail
    refine (step_bad (hin.drewN n) 1 1 7 (.inr (by decide))).mono ?_
    rintro e w1 ⟨rfl, hst⟩
    go_wp2
    go_ret
    exact ⟨rfl, hst.after (grown_drewN (grown_refl _ _) n)⟩
  · rw [if_neg hl]
    have H0 := @rest_in w b r hin hr
    have hx := extract_rest r
    obtain ⟨x, l, hxl⟩ := List.exists_cons_of_ne_nil hl
    rw [hxl] at hx
    generalize r.s.extract r.pos r.s.size = t at *
    have hne : t.toList.isEmpty = false := by rw [Lib.toList_data, hx]; rfl
    have hsz : 0 < t.size := by
      have : t.data.toList.length = l.length + 1 := by rw [hx]; rfl
      simp at this; omega
    have hx0 : t[0] = x := by
      have : t.data.toList[0]'(by rw [hx]; simp) = x := by simp only [hx, List.getElem_cons_zero]
      exact this
    rw [hxl]
    have H := Lib.hid H0
    have HX := Lib.hid hx0
    have HX2 := Lib.hid hx
    clear H0 hx0 hx hxl hl
    by_cases hf : r.f = 0
    · rw [pass_true hf rfl, if_pos rfl]
      have Hf := Lib.hid hf
      clear hf
      go_enter Try.func86, Try.ntmps86
      go_wp2_with fail
      refine (H.out).mono ?_
      rintro e w1 ⟨rfl, n, rfl⟩
      go_wp2_with fail
      refine (step_ok (hin.drewN n) hr Hf.out 1 (by omega) (by omega)).mono ?_
      rintro e w1 ⟨rfl, hst⟩
      go_wp2
      go_ret
      exact ⟨by rw [List.headD_cons, ← HX.out]; rfl, hst.after (grown_drewN (grown_refl _ _) n)⟩
    · rw [pass_false (.inl hf), if_neg (by decide)]
      have Hf := Lib.hid hf
      clear hf
      go_enter Try.func86, Try.ntmps86
      go_wp2_with fail
      refine (H.out).mono ?_
      rintro e w1 ⟨rfl, n, rfl⟩
      go_wp2_with fail
      refine (step_bad (hin.drewN n) 1 1 0 (.inl Hf.out)).mono ?_
      rintro e w1 ⟨rfl, hst⟩
      go_wp2
      go_ret
      exact ⟨rfl, hst.after (grown_drewN (grown_refl _ _) n)⟩

theorem i64_xor_zero (a : Nat) (ha : a < 9223372036854775808) : bits .xor .i64 (a : Int) 0 = (a : Int) := by
  show IntKind.i64.wrap ((BitVec.ofInt 64 (a : Int) ^^^ BitVec.ofInt 64 0).toNat : Int) = _
  have h1 : BitVec.ofInt 64 0 = 0#64 := by decide
  have h2 : (BitVec.ofInt 64 (a : Int)).toNat = a := by
    rw [BitVec.ofInt_natCast, BitVec.toNat_ofNat]; exact Nat.mod_eq_of_lt (by omega)
  rw [h1, BitVec.xor_zero, h2]
  exact IntWalk.i64_in _ (by omega)
theorem i64_xor_ones (a : Nat) (ha : a < 9223372036854775808) : bits .xor .i64 (a : Int) (-1) = -(a : Int) - 1 := by
  show IntKind.i64.wrap ((BitVec.ofInt 64 (a : Int) ^^^ BitVec.ofInt 64 (-1)).toNat : Int) = _
  have h1 : BitVec.ofInt 64 (-1) = BitVec.allOnes 64 := by decide
  have h2 : (BitVec.ofInt 64 (a : Int)).toNat = a := by
    rw [BitVec.ofInt_natCast, BitVec.toNat_ofNat]; exact Nat.mod_eq_of_lt (by omega)
  rw [h1, BitVec.xor_allOnes, BitVec.toNat_not, h2, IntKind.wrap_i64]
  omega

theorem zag_xor (v : Nat) (hb : v < 2 ^ 64) : bits .xor .i64 ((v : Int) / 2) (wrap64 (-wrap64 (bits .and .u64 (v : Int) 1))) = zag v := by
  have h1 : bits .and .u64 (v : Int) 1 = ((v % 2 : Nat) : Int) := by
    have := bits_and_u64_nat v 1 (by omega) (by omega)
    rw [Nat.and_one_is_mod] at this
    exact this
  rw [h1]
  have hd : (v : Int) / 2 = ((v / 2 : Nat) : Int) := by omega
  rw [hd]
  unfold zag
  by_cases h : v % 2 = 0
  · rw [h, if_pos rfl]
    rw [show wrap64 (-wrap64 ((0 : Nat) : Int)) = 0 from by unfold wrap64; omega]
    exact i64_xor_zero _ (by omega)
  · have h2 : v % 2 = 1 := by omega
    rw [h2, if_neg (by decide)]
    rw [show wrap64 (-wrap64 ((1 : Nat) : Int)) = -1 from by unfold wrap64; omega]
    exact i64_xor_ones _ (by omega)

end Go.Proofs.Ytlndggbidmmodaa
