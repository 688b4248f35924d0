/-
  What the reading calls of a pack reader do (Num, Most, Int, Byte, Left, End), said of the plain reader.
-/
import Derived.Test.YtlndggbidmmodaaIn
namespace Go.Proofs.Ytlndggbidmmodaa
open Go.RowKit Pk

set_option maxHeartbeats 400000 in
theorem count_any (s : ByteArray) (m : Int) (w : World) (hs : s.size ≤ maxLen) (hm : -9223372036854775808 ≤ m ∧ m ≤ 9223372036854775807) :
    Calls Try.prog 83 #[.string s, .int .i64 m] w fun e w' =>
      e = .returned (.tuple #[.int .i64 (cnt s.data.toList m).1, .int .i64 (cnt s.data.toList m).2.1, .int .i64 (cnt s.data.toList m).2.2]) ∧ w = w' := by
  have hb := dec_bd s.data.toList
  have H0 := number_any s w hs
  have he := dec_err s.data.toList 0 0
  unfold cnt
  obtain ⟨v, sz, er, hd⟩ : ∃ v sz er, dec 0 0 s.data.toList = (v, sz, er) := ⟨_, _, _, rfl⟩
  rw [hd] at hb H0 he ⊢
  simp only at hb H0 he ⊢
  clear hd hs
  have H := Lib.hid H0
  clear H0
  obtain ⟨hb1, hb2, -, hb4⟩ := hb
  obtain ⟨hm1, hm2⟩ := hm
  by_cases h0 : er = 0
  · subst h0
    clear he
    by_cases h1 : m < 0
    · rw [if_pos ⟨rfl, .inl h1⟩]
      go_enter Try.func83, Try.ntmps83
      go_wp2_with (go_at_call 94; refine (H.out).mono ?_; rintro e w' ⟨rfl, rfl⟩)
      go_ret3
      exact ⟨rfl, rfl⟩
    · have h1' : 0 ≤ m := by omega
      have hw : IntKind.u64.wrap m = m := IntWalk.u64_in m (by omega)
      by_cases h2 : m < (v : Int)
      · rw [if_pos ⟨rfl, .inr h2⟩]
        go_enter Try.func83, Try.ntmps83
        go_wp2_with (go_at_call 94; refine (H.out).mono ?_; rintro e w' ⟨rfl, rfl⟩)
        go_ret3
        exact ⟨rfl, rfl⟩
      · rw [if_neg (by omega)]
        have h2' : (v : Int) ≤ m := by omega
        go_enter Try.func83, Try.ntmps83
        go_wp2_with (go_at_call 94; refine (H.out).mono ?_; rintro e w' ⟨rfl, rfl⟩)
        go_ret3
        exact ⟨rfl, rfl⟩
  · rw [if_neg (by omega)]
    have h3 : ¬ ((er : Int) = 0) := by omega
    have h3' : ((er : Int) == 0) = false := by rw [beq_eq_false_iff_ne]; exact h3
    have hz : v = 0 ∧ sz = 0 := by
      simp only [Prod.mk.injEq] at he
      omega
    obtain ⟨rfl, rfl⟩ := hz
    clear he
    go_enter Try.func83, Try.ntmps83
    go_wp2_with (go_at_call 94; refine (H.out).mono ?_; rintro e w' ⟨rfl, rfl⟩)
    go_ret3
    exact ⟨rfl, rfl⟩

theorem extract_rest (r : Rd) : (r.s.extract r.pos r.s.size).data.toList = r.rest := by
  have h : (r.s.extract r.pos r.s.size).data.toList = (r.s.data.toList.drop r.pos).take (r.s.size - r.pos) := by
    simp
  rw [h, List.take_of_length_le (by simp)]
  rfl

theorem extract_le (r : Rd) (hr : r.Ok) : (r.s.extract r.pos r.s.size).size ≤ maxLen := by
  have h2 := hr.lim
  rw [ByteArray.size_extract]
  unfold maxLen
  omega

end Go.Proofs.Ytlndggbidmmodaa
