/-
  What the reading calls of a pack reader do (Num, Most, Int, Byte, Left, End), said of the plain reader.
-/
import Derived.Test.YtdcbamddioofnaaIn
namespace Go.Proofs.Ytdcbamddioofnaa
open Go.RowKit Pk

set_option maxHeartbeats 400000 in
theorem count_any (s : ByteArray) (m : Int) (w : World) (hs : s.size ≤ maxLen) (hm : -9223372036854775808 ≤ m ∧ m ≤ 9223372036854775807) :
    Calls Try.prog 25 #[.string s, .int .i64 m] w fun e w' =>
      e = .returned (.tuple #[.int .i64 (cnt s.data.toList m).1, .int .i64 (cnt s.data.toList m).2.1, .int .i64 (cnt s.data.toList m).2.2]) ∧ w = w' := by
  have hb := dec_bd s.data.toList
  have H0 := number_any s w hs
  have he := dec_err s.data.toList 0 0
  unfold cnt
  obtain ⟨v, sz, er, hd⟩ : ∃ v sz er, dec 0 0 s.data.toList = (v, sz, er) := ⟨_, _, _, rfl⟩
  rw [hd] at hb H0 he ⊢
  simp only at hb H0 he ⊢
  clear hd hs
  have H := Lib.hid H0
  clear H0
  obtain ⟨hb1, hb2, -, hb4⟩ := hb
  obtain ⟨hm1, hm2⟩ := hm
  by_cases h0 : er = 0
  · subst h0
    clear he
    by_cases h1 : m < 0
    · rw [if_pos ⟨rfl, .inl h1⟩]
      go_enter Try.func25, Try.ntmps25
      go_wp2_with (go_at_call 22; refine (H.out).mono ?_; rintro e w' ⟨rfl, rfl⟩)
      go_ret3
      exact ⟨rfl, rfl⟩
    · have h1' : 0 ≤ m := by omega
      have hw : IntKind.u64.wrap m = m := IntWalk.u64_in m (by omega)
      by_cases h2 : m < (v : Int)
      · rw [if_pos ⟨rfl, .inr h2⟩]
        go_enter Try.func25, Try.ntmps25
        go_wp2_with (go_at_call 22; refine (H.out).mono ?_; rintro e w' ⟨rfl, rfl⟩)
        go_ret3
        exact ⟨rfl, rfl⟩
      · rw [if_neg (by omega)]
        have h2' : (v : Int) ≤ m := by omega
        go_enter Try.func25, Try.ntmps25
        go_wp2_with (go_at_call 22; refine (H.out).mono ?_; rintro e w' ⟨rfl, rfl⟩)
        go_ret3
        exact ⟨rfl, rfl⟩
  · rw [if_neg (by omega)]
    have h3 : ¬ ((er : Int) = 0) := by omega
    have h3' : ((er : Int) == 0) = false := by rw [beq_eq_false_iff_ne]; exact h3
    have hz : v = 0 ∧ sz = 0 := by
      simp only [Prod.mk.injEq] at he
      omega
    obtain ⟨rfl, rfl⟩ := hz
    clear he
    go_enter Try.func25, Try.ntmps25
    go_wp2_with (go_at_call 22; refine (H.out).mono ?_; rintro e w' ⟨rfl, rfl⟩)
    go_ret3
    exact ⟨rfl, rfl⟩

theorem extract_rest (r : Rd) : (r.s.extract r.pos r.s.size).data.toList = r.rest := by
  have h : (r.s.extract r.pos r.s.size).data.toList = (r.s.data.toList.drop r.pos).take (r.s.size - r.pos) := by
    simp
  rw [h, List.take_of_length_le (by simp)]
  rfl

theorem extract_le (r : Rd) (hr : r.Ok) : (r.s.extract r.pos r.s.size).size ≤ maxLen := by
  have h2 := hr.lim
  rw [ByteArray.size_extract]
  unfold maxLen
  omega

set_option maxHeartbeats 400000 in
theorem num_in {w : World} {b : Nat} {r : Rd} (hin : inAt w b r) (hr : r.Ok) :
    Calls Try.prog 9 #[.pointer (some ⟨b, 0, none⟩)] w fun e w' => e = .returned (.int .u64 r.num.1) ∧ Stp w w' b r.num.2 := by
  have hb := dec_bd r.rest
  have H0 := fun w => number_any (r.s.extract r.pos r.s.size) w (extract_le r hr)
  rw [extract_rest] at H0
  unfold Rd.num
  obtain ⟨v, sz, er, hd⟩ : ∃ v sz er, dec 0 0 r.rest = (v, sz, er) := ⟨_, _, _, rfl⟩
  rw [hd] at hb H0 ⊢
  simp only at hb H0 ⊢
  clear hd
  have H := Lib.hid H0
  clear H0
  by_cases h0 : r.f = 0 ∧ er = 0
  · obtain ⟨hf, rfl⟩ := h0
    rw [pass_true hf rfl, if_pos rfl]
    have Hf := Lib.hid hf
    clear hf
    go_enter Try.func9, Try.ntmps9
    go_wp2_with fail
    refine (rest_in hin hr).mono ?_
    rintro e w1 ⟨rfl, n, rfl⟩
    go_wp2_with fail
    refine (H.out _).mono ?_
    rintro e w1 ⟨rfl, rfl⟩
    go_wp2_with fail
    refine (step_ok (hin.drewN n) hr Hf.out _ (by omega) (by omega)).mono ?_
    rintro e w1 ⟨rfl, hst⟩
    go_wp2
    go_ret
    have e : ((sz : Nat) : Int).toNat = sz := Int.toNat_natCast sz
    rw [e] at hst
    exact ⟨rfl, hst.after (grown_drewN (grown_refl _ _) n)⟩
  · have hbad : r.f ≠ 0 ∨ er ≠ 0 := by omega
    rw [pass_false hbad, if_neg (by decide)]
    clear h0
    have Hbad := Lib.hid hbad
    clear hbad
    go_enter Try.func9, Try.ntmps9
    go_wp2_with fail
    refine (rest_in hin hr).mono ?_
    rintro e w1 ⟨rfl, n, rfl⟩
    go_wp2_with fail
    refine (H.out _).mono ?_
    rintro e w1 ⟨rfl, rfl⟩
    go_wp2_with fail
    refine (step_bad (hin.drewN n) _ sz er Hbad.out).mono ?_
    rintro e w1 ⟨rfl, hst⟩
    go_wp2
    go_ret
    exact ⟨rfl, hst.after (grown_drewN (grown_refl _ _) n)⟩
end Go.Proofs.Ytdcbamddioofnaa
