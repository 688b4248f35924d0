/-
  What the calls of a pack reader do that copy a text (Of, Text), and what each call of a nil reader tells.
-/
import Derived.Test.YtlndggbidmmodaaIn3
import Derived.Test.YtlndggbidmmodaaShelf
namespace Go.Proofs.Ytlndggbidmmodaa
open Go.RowKit Pk

set_option maxHeartbeats 400000 in
theorem clone_any (s : ByteArray) (w : World) (hlim : s.size ≤ 281474976710656) :
    Calls Try.prog 41 #[.string s] w fun e w' => e = .returned (.string s) ∧ Below w.heap.size w w' := by
  go_enter Try.func41, Try.ntmps41
  go_wp2_with (go_at_call 64; refine (stringslite_Clone _ _ hlim).mono ?_; rintro e w1 ⟨rfl, hb⟩)
  go_ret
  exact ⟨rfl, hb⟩

set_option maxHeartbeats 400000 in
theorem of_any (s : ByteArray) (w : World) (hlim : s.size ≤ 281474976710656) :
    Calls Try.prog 47 #[.string s] w fun e w' => ∃ b, w.heap.size ≤ b ∧ e = .returned (.pointer (some ⟨b, 0, none⟩)) ∧ inAt w' b ⟨s, 0, 0⟩ ∧ Below w.heap.size w w' := by
  go_enter Try.func47, Try.ntmps47
  go_wp2_with (go_at_call 41; refine (clone_any _ _ hlim).mono ?_; rintro e w1 ⟨rfl, hb⟩)
  go_ret
  exact ⟨w1.heap.size, hb.size, rfl, heap_alloc_new w1 _, hb.alloc hb.size _⟩

theorem Stp.below {w w1 w2 : World} {b : Nat} {r : Rd} (h : Stp w w1 b r) (k : Below w1.heap.size w1 w2) : Stp w w2 b r :=
  ⟨grown_trans h.grown (grown_below k), (k.block b h.inAt.lt).trans h.inAt⟩

theorem size_take (l : List UInt8) (a n : Nat) (h : n ≤ 281474976710656) : (ByteArray.mk ((l.drop a).take n).toArray).size ≤ 281474976710656 := by
  show ((l.drop a).take n).toArray.size ≤ _
  simp
  omega

theorem text_of (r : Rd) (a n : Nat) :
    (r.s.extract r.pos r.s.size).extract a (a + n) = ⟨((r.rest.drop a).take n).toArray⟩ := by
  apply ByteArray.ext
  apply Array.ext'
  rw [Lib.extract_data, extract_rest]
  simp

set_option maxHeartbeats 400000 in
theorem text_in {w : World} {b : Nat} {r : Rd} (hin : inAt w b r) (hr : r.Ok) (m : Int) (hm : -9223372036854775808 ≤ m ∧ m ≤ 9223372036854775807) :
    Calls Try.prog 88 #[.pointer (some ⟨b, 0, none⟩), .int .i64 m] w fun e w' => e = .returned (.string ⟨(r.text m).1.toArray⟩) ∧ Stp w w' b (r.text m).2 := by
  have hb := cnt_bd r.rest m
  have H0 := fun w => count_any (r.s.extract r.pos r.s.size) m w (extract_le r hr) hm
  rw [extract_rest] at H0
  have ht := @terr_room r.rest m
  have htb := terr_bd r.rest m
  have htx := text_of r
  have hlen := r.rest_length
  have hsz : (r.s.extract r.pos r.s.size).size = r.s.size - r.pos := by simp
  have hlim := hr.lim
  have hpos := hr.pos
  unfold Rd.text
  have hT : terr r.rest m = if (cnt r.rest m).2.2 = 0 ∧ r.rest.length - (cnt r.rest m).2.1 < (cnt r.rest m).1 then 7 else (cnt r.rest m).2.2 := rfl
  obtain ⟨v, sz, er, hd⟩ : ∃ v sz er, cnt r.rest m = (v, sz, er) := ⟨_, _, _, rfl⟩
  rw [hd] at hb H0 ht hT ⊢
  simp only at hb H0 ht hT ⊢
  clear hd
  have H := Lib.hid H0
  clear H0
  have H1 := Lib.hid (@rest_in w b r hin hr)
  generalize r.s.extract r.pos r.s.size = t at *
  have HT := Lib.hid htx
  clear htx
  by_cases h0 : er = 0
  · subst h0
    by_cases h1 : r.rest.length - sz < v
    · rw [if_pos ⟨rfl, h1⟩] at hT
      rw [hT, pass_false (.inr (by decide)), if_neg (by decide)]
      have hg : (t.size : Int) - sz < v := by omega
      have hz1 : (t.size : Int) ≤ 281474976710656 := by omega
      have hz2 : (sz : Int) ≤ 10 := by omega
      clear ht hlen hsz hT htb
      have Hin := Lib.hid hin
      clear hin
      go_enter Try.func88, Try.ntmps88
      go_wp2_with fail
      refine (H1.out).mono ?_
      rintro e w1 ⟨rfl, n, rfl⟩
      go_wp2_with fail
      refine (H.out _).mono ?_
      rintro e w1 ⟨rfl, rfl⟩
      go_wp2_with fail
      refine (step_bad (Hin.out.drewN n) _ (sz + v) 7 (.inr (by decide))).mono ?_
      rintro e w1 ⟨rfl, hst⟩
      go_wp2
      go_ret
      exact ⟨rfl, hst.after (grown_drewN (grown_refl _ _) n)⟩
    · rw [if_neg (by omega)] at hT
      have hroom := (ht hT).1
      rw [hT]
      have hg : (v : Int) ≤ (t.size : Int) - sz := by omega
      have hv1 : (sz : Int) + v ≤ t.size := by omega
      have hv2 : (sz : Int) ≤ sz + v := by omega
      have hv3 : (0 : Int) ≤ sz := by omega
      have hz1 : (t.size : Int) ≤ 281474976710656 := by omega
      have hx := HT.out sz v
      clear ht hlen hsz hT htb
      by_cases hf : r.f = 0
      · rw [pass_true hf rfl, if_pos rfl]
        have Hf := Lib.hid hf
        have HX := Lib.hid hx
        clear hf hx
        go_enter Try.func88, Try.ntmps88
        go_wp2_with fail
        refine (H1.out).mono ?_
        rintro e w1 ⟨rfl, n, rfl⟩
        go_wp2_with fail
        refine (H.out _).mono ?_
        rintro e w1 ⟨rfl, rfl⟩
        go_wp2_with fail
        refine (step_ok (hin.drewN n) hr Hf.out _ (by omega) (by omega)).mono ?_
        rintro e w1 ⟨rfl, hst⟩
        have hsl := fun W => @run_slice_string Try.prog W 9 t .i64 .i64 sz (sz + v) Try.underlying9 hv3 hv2 hv1
        rw [show ((sz : Int)).toNat = sz from Int.toNat_natCast sz, show ((sz : Int) + v).toNat = sz + v from by omega, HX.out] at hsl
        go_wp2_with fail
        refine (clone_any _ _ (size_take _ _ _ (by omega))).mono ?_
        rintro e w2 ⟨rfl, hb2⟩
        go_wp2
        go_ret
        have e : ((sz : Int) + v).toNat = sz + v := by omega
        rw [e] at hst
        exact ⟨rfl, (hst.below hb2).after (grown_drewN (grown_refl _ _) n)⟩
      · rw [pass_false (.inl hf), if_neg (by decide)]
        have Hf := Lib.hid hf
        clear hf hx
        go_enter Try.func88, Try.ntmps88
        go_wp2_with fail
        refine (H1.out).mono ?_
        rintro e w1 ⟨rfl, n, rfl⟩
        go_wp2_with fail
        refine (H.out _).mono ?_
        rintro e w1 ⟨rfl, rfl⟩
        go_wp2_with fail
        refine (step_bad (hin.drewN n) _ (sz + v) 0 (.inl Hf.out)).mono ?_
        rintro e w1 ⟨rfl, hst⟩
        go_wp2
        go_ret
        exact ⟨rfl, hst.after (grown_drewN (grown_refl _ _) n)⟩
  · rw [if_neg (by omega)] at hT
    have hbad : r.f ≠ 0 ∨ er ≠ 0 := .inr h0
    rw [hT, pass_false hbad, if_neg (by decide)]
    have h3 : ¬ ((er : Int) = 0) := by omega
    have h3' : ((er : Int) == 0) = false := by rw [beq_eq_false_iff_ne]; exact h3
    have Hbad := Lib.hid hbad
    clear hbad h0 ht hlen hsz hT htb
    go_enter Try.func88, Try.ntmps88
    go_wp2_with fail
    refine (H1.out).mono ?_
    rintro e w1 ⟨rfl, n, rfl⟩
    go_wp2_with fail
    refine (H.out _).mono ?_
    rintro e w1 ⟨rfl, rfl⟩
    go_wp2_with fail
    refine (step_bad (hin.drewN n) _ (sz + v) er Hbad.out).mono ?_
    rintro e w1 ⟨rfl, hst⟩
    go_wp2
    go_ret
    exact ⟨rfl, hst.after (grown_drewN (grown_refl _ _) n)⟩

/-! The same, where what the plain reader tells is known. -/
theorem most_eq {w : World} {b : Nat} {r r' : Rd} {v : Nat} {m : Int} (hin : inAt w b r) (hr : r.Ok) (hm : -9223372036854775808 ≤ m ∧ m ≤ 9223372036854775807) (h : r.most m = (v, r')) :
    Calls Try.prog 68 #[.pointer (some ⟨b, 0, none⟩), .int .i64 m] w fun e w' => e = .returned (.int .i64 v) ∧ Stp w w' b r' := by
  have := most_in hin hr m hm
  rw [h] at this
  exact this
theorem text_eq {w : World} {b : Nat} {r r' : Rd} {l : List UInt8} {m : Int} (hin : inAt w b r) (hr : r.Ok) (hm : -9223372036854775808 ≤ m ∧ m ≤ 9223372036854775807) (h : r.text m = (l, r')) :
    Calls Try.prog 88 #[.pointer (some ⟨b, 0, none⟩), .int .i64 m] w fun e w' => e = .returned (.string ⟨l.toArray⟩) ∧ Stp w w' b r' := by
  have := text_in hin hr m hm
  rw [h] at this
  exact this
theorem byte_eq {w : World} {b : Nat} {r r' : Rd} {v : Nat} (hin : inAt w b r) (hr : r.Ok) (h : r.byte = (v, r')) :
    Calls Try.prog 86 #[.pointer (some ⟨b, 0, none⟩)] w fun e w' => e = .returned (.int .u8 v) ∧ Stp w w' b r' := by
  have := byte_in hin hr
  rw [h] at this
  exact this
theorem left_eq {w : World} {b : Nat} {r : Rd} {k : Nat} (hin : inAt w b r) (hr : r.Ok) (h : r.rest.length = k) :
    Calls Try.prog 89 #[.pointer (some ⟨b, 0, none⟩)] w fun e w' => e = .returned (.int .i64 k) ∧ ∃ n, w' = w.drewN n := by
  have := left_in hin hr
  rw [h] at this
  exact this
theorem fault_eq {w : World} {b : Nat} {r : Rd} {f p : Nat} (hin : inAt w b r) (h : r.fault = (f, p)) :
    Calls Try.prog 87 #[.pointer (some ⟨b, 0, none⟩)] w fun e w' => e = .returned (.tuple #[.int .i64 f, .int .i64 p]) ∧ ∃ n, w' = w.drewN n := by
  have := @fault_in w b r hin
  rw [h] at this
  exact this
theorem fin_eq {w : World} {b : Nat} {r : Rd} {f : Nat} (hin : inAt w b r) (hr : r.Ok) (h : r.fin = f) :
    Calls Try.prog 70 #[.pointer (some ⟨b, 0, none⟩)] w fun e w' => e = .returned (.int .i64 f) ∧ ∃ n, w' = w.drewN n := by
  have := fin_in hin hr
  rw [h] at this
  exact this

/-! A nil reader. -/
theorem most_nil (m : Int) (w : World) (hm : -9223372036854775808 ≤ m ∧ m ≤ 9223372036854775807) : Calls Try.prog 68 #[.pointer none, .int .i64 m] w fun e w' => e = .returned (.int .i64 0) ∧ w = w' := by
  have H := Lib.hid (count_any ⟨#[]⟩ m w (by decide) hm)
  go_enter Try.func68, Try.ntmps68
  go_wp2_with fail
  refine (rest_nil _).mono ?_
  rintro e w1 ⟨rfl, rfl⟩
  go_wp2_with fail
  refine (H.out).mono ?_
  rintro e w1 ⟨rfl, rfl⟩
  go_wp2_with fail
  refine (step_nil _ _ _).mono ?_
  rintro e w1 ⟨rfl, rfl⟩
  go_wp2
  go_ret
  exact ⟨rfl, rfl⟩

theorem cnt_nil (m : Int) : cnt [] m = (0, 0, 7) := by simp [cnt, dec]

theorem text_nil (m : Int) (w : World) (hm : -9223372036854775808 ≤ m ∧ m ≤ 9223372036854775807) : Calls Try.prog 88 #[.pointer none, .int .i64 m] w fun e w' => e = .returned (.string ⟨#[]⟩) ∧ w = w' := by
  have H0 := count_any ⟨#[]⟩ m w (by decide) hm
  rw [show (ByteArray.mk #[]).data.toList = [] from rfl, cnt_nil] at H0
  have H := Lib.hid H0
  clear H0
  go_enter Try.func88, Try.ntmps88
  go_wp2_with fail
  refine (rest_nil _).mono ?_
  rintro e w1 ⟨rfl, rfl⟩
  go_wp2_with fail
  refine (H.out).mono ?_
  rintro e w1 ⟨rfl, rfl⟩
  go_wp2_with fail
  refine (step_nil _ _ _).mono ?_
  rintro e w1 ⟨rfl, rfl⟩
  go_wp2
  go_ret
  exact ⟨rfl, rfl⟩

theorem byte_nil (w : World) : Calls Try.prog 86 #[.pointer none] w fun e w' => e = .returned (.int .u8 0) ∧ w = w' := by
  go_enter Try.func86, Try.ntmps86
  go_wp2_with fail
  refine (rest_nil _).mono ?_
  rintro e w1 ⟨rfl, rfl⟩
  go_wp2_with fail
  refine (step_nil _ _ _).mono ?_
  rintro e w1 ⟨rfl, rfl⟩
  go_wp2
  go_ret
  exact ⟨rfl, rfl⟩

theorem left_nil (w : World) : Calls Try.prog 89 #[.pointer none] w fun e w' => e = .returned (.int .i64 0) ∧ w = w' := by
  go_enter Try.func89, Try.ntmps89
  go_wp2_with fail
  refine (rest_nil _).mono ?_
  rintro e w1 ⟨rfl, rfl⟩
  go_wp2
  go_ret
  exact ⟨rfl, rfl⟩

theorem fin_nil (w : World) : Calls Try.prog 70 #[.pointer none] w fun e w' => e = .returned (.int .i64 0) ∧ w = w' := by
  go_enter Try.func70, Try.ntmps70
  go_wp2_with fail
  refine (fault_nil _).mono ?_
  rintro e w1 ⟨rfl, rfl⟩
  go_wp2_with fail
  refine (left_nil _).mono ?_
  rintro e w1 ⟨rfl, rfl⟩
  go_wp2
  go_ret
  exact ⟨rfl, rfl⟩
end Go.Proofs.Ytlndggbidmmodaa
