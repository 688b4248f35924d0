/-
  What the calls of the document's own reader do, further: Byte, Text.
-/
import Derived.Test.YtapogiihkbjppaaDoorTell2
namespace Go.Proofs.YtapogiihkbjppaaDoor
open Go.RowKit Pk

theorem byte_pos {r : Rd} (hf : r.f = 0) (h : r.pos < r.s.size) : r.byte = (r.s[r.pos].toNat, ⟨r.s, r.pos + 1, 0⟩) := by
  have hd : r.rest = r.s[r.pos] :: r.s.data.toList.drop (r.pos + 1) := drop_at h
  unfold Rd.byte
  have e : (if r.s[r.pos] :: r.s.data.toList.drop (r.pos + 1) = [] then 7 else 0) = 0 := if_neg (by simp)
  rw [hd, e, pass_true hf rfl, go_ok hf]
  simp [hf]
theorem byte_end {r : Rd} (hf : r.f = 0) (_hr : r.Ok) (h : ¬ r.pos < r.s.size) : r.byte = (0, ⟨r.s, r.pos, 7⟩) := by
  have hl := r.rest_length
  have hd : r.rest = [] := List.eq_nil_of_length_eq_zero (by omega)
  unfold Rd.byte
  rw [if_pos hd, pass_false (.inr (by decide))]
  unfold Rd.go
  rw [if_pos hf, if_neg (by decide)]
  rfl

theorem rinAt.drewN {w : World} {b : Nat} {r : Rd} (h : rinAt w b r) (n : Nat) : rinAt (w.drewN n) b r := h
theorem RStp.drewN {w w' : World} {b : Nat} {r : Rd} (h : RStp w w' b r) (n : Nat) : RStp w (w'.drewN n) b r := ⟨grown_drewN h.grown n, h.inAt⟩

theorem text_cases (r : Rd) (m : Int) : (r.most m).2.f ≠ 0 ∧ r.text m = ([], (r.most m).2) ∨
    ∃ v sz, r.f = 0 ∧ r.most m = (v, ⟨r.s, r.pos + sz, 0⟩) ∧ sz ≤ r.rest.length ∧ sz ≤ 10 ∧
      (r.rest.length - sz < v ∧ r.text m = ([], ⟨r.s, r.pos, 7⟩) ∨ sz + v ≤ r.rest.length ∧ r.text m = ((r.rest.drop sz).take v, ⟨r.s, r.pos + sz + v, 0⟩)) := by
  by_cases hf : r.f = 0
  · have hb := cnt_bd r.rest m
    have hT : terr r.rest m = if (cnt r.rest m).2.2 = 0 ∧ r.rest.length - (cnt r.rest m).2.1 < (cnt r.rest m).1 then 7 else (cnt r.rest m).2.2 := rfl
    unfold Rd.most Rd.text
    obtain ⟨v, sz, er, hd⟩ : ∃ v sz er, cnt r.rest m = (v, sz, er) := ⟨_, _, _, rfl⟩
    rw [hd] at hb hT ⊢
    simp only at hb hT ⊢
    obtain ⟨hb1, hb2, hb3, hb4⟩ := hb
    by_cases he : er = 0
    · subst he
      right
      refine ⟨v, sz, hf, ?_, hb3, hb2, ?_⟩
      · rw [pass_true hf rfl, if_pos rfl, go_ok hf, hf]
      · by_cases h1 : r.rest.length - sz < v
        · left
          rw [if_pos ⟨rfl, h1⟩] at hT
          rw [hT, pass_false (.inr (by decide))]
          refine ⟨h1, ?_⟩
          unfold Rd.go
          rw [if_pos hf, if_neg (by decide)]
          rfl
        · right
          rw [if_neg (fun h => h1 h.2)] at hT
          rw [hT, pass_true hf rfl, if_pos rfl, go_ok hf, hf, Nat.add_assoc]
          exact ⟨by omega, rfl⟩
    · left
      rw [if_neg (fun h => he h.1)] at hT
      rw [hT, pass_false (.inr he)]
      unfold Rd.go
      simp only [if_pos hf, if_neg he]
      exact ⟨he, rfl⟩
  · left
    rw [fail_most hf, fail_text hf]
    exact ⟨hf, rfl⟩

set_option maxHeartbeats 1000000 in
theorem rtext_in {w : World} {b : Nat} {r : Rd} (hin : rinAt w b r) (hr : r.Ok) (m : Int) (hm : -9223372036854775808 ≤ m ∧ m ≤ 9223372036854775807) :
    Calls Tryd.prog 41 #[.pointer (some ⟨b, 0, none⟩), .int .i64 m] w fun e w' => e = .returned (.string ⟨(r.text m).1.toArray⟩) ∧ RStp w w' b (r.text m).2 := by
  obtain ⟨c0, c1, c2⟩ := hin.cell
  have H := Lib.hid (rmost_in hin hr m hm)
  have hl := r.rest_length
  have hp := hr.pos
  have hlim := hr.lim
  obtain ⟨hm1, hm2⟩ := hm
  rcases text_cases r m with ⟨hf, ht⟩ | ⟨v, sz, hf, hmost, hsz, hsz2, ⟨hv, ht⟩ | ⟨hv, ht⟩⟩
  · rw [ht]
    have h3' : (((r.most m).2.f : Int) == 0) = false := by rw [beq_eq_false_iff_ne]; omega
    have h3 : ¬ (((r.most m).2.f : Int) = 0) := by omega
    clear ht hf hr hin
    generalize (r.most m).1 = v at *
    generalize (r.most m).2 = r2 at *
    go_enter Tryd.func41, Tryd.ntmps41
    go_wp2_with fail
    refine (H.out).mono ?_
    rintro e w1 ⟨rfl, hst⟩
    obtain ⟨a0, a1, a2⟩ := hst.inAt.cell
    have HST := Lib.hid hst
    clear hst
    go_wp2_with fail
    go_quiet (fail)
    go_wp2
    go_ret
    exact ⟨rfl, HST.out.drewN _⟩
  · rw [ht]
    rw [hmost] at H
    have hlt : (r.s.size : Int) - (r.pos + sz : Nat) < v := by omega
    clear ht hf hr hin hmost
    go_enter Tryd.func41, Tryd.ntmps41
    go_wp2_with fail
    refine (H.out).mono ?_
    rintro e w1 ⟨rfl, hst⟩
    have h1 := hst.inAt
    obtain ⟨a0, a1, a2⟩ := h1.cell
    have f1 := h1.free 1
    have f2 := h1.free 2
    have H1 := Lib.hid h1
    have HST := Lib.hid hst
    clear hst h1
    simp only at a0 a1 a2
    go_wp2_with fail
    go_quiet (fail)
    go_wp2
    go_ret
    refine ⟨rfl, grown_set (grown_set (HST.out.drewN _).grown _ _) _ _, ?_⟩
    unfold rinAt
    rw [heap_set (heap_set (H1.out.drewN _) 1 _) 2 _]
    simp
  · rw [ht]
    rw [hmost] at H
    have hlt : ¬ ((r.s.size : Int) - (r.pos + sz : Nat) < v) := by omega
    have hex : r.s.extract (r.pos + sz) (r.pos + sz + v) = ⟨((r.rest.drop sz).take v).toArray⟩ := by
      apply ByteArray.ext
      apply Array.ext'
      rw [Lib.extract_data, Nat.add_sub_cancel_left]
      show _ = ((r.s.data.toList.drop r.pos).drop sz).take v
      rw [List.drop_drop]
    have g1 : (0 : Int) ≤ (r.pos : Int) + sz := by omega
    have g2 : (r.pos : Int) + sz ≤ (r.pos : Int) + sz + v := by omega
    have g3 : (r.pos : Int) + sz + v ≤ r.s.size := by omega
    have hsl := fun W => @run_slice_string Tryd.prog W 9 r.s .i64 .i64 ((r.pos : Int) + sz) ((r.pos : Int) + sz + v) Tryd.underlying9 g1 g2 g3
    rw [show ((r.pos : Int) + sz).toNat = r.pos + sz from by omega, show ((r.pos : Int) + sz + v).toNat = r.pos + sz + v from by omega, hex] at hsl
    have hsub : (r.pos : Int) + sz + v - v = (r.pos : Int) + sz := by omega
    clear ht hf hr hin hmost hex
    go_enter Tryd.func41, Tryd.ntmps41
    go_wp2_with fail
    refine (H.out).mono ?_
    rintro e w1 ⟨rfl, hst⟩
    have h1 := hst.inAt
    obtain ⟨a0, a1, a2⟩ := h1.cell
    have f1 := h1.free 1
    have f2 := h1.free 2
    have H1 := Lib.hid h1
    have HST := Lib.hid hst
    clear hst h1
    simp only at a0 a1 a2
    go_wp2_with fail
    go_quiet (fail)
    go_wp2_with fail
    go_quiet (fail)
    go_wp2
    go_ret
    refine ⟨rfl, grown_drewN (grown_set (HST.out.drewN _).grown _ _) _, rinAt.drewN ?_ _⟩
    unfold rinAt
    rw [heap_set (H1.out.drewN _) 1 _]
    simp
end Go.Proofs.YtapogiihkbjppaaDoor
