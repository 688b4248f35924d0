/-
  What the calls of the document's own reader do (Num, Most, Text, Byte), and Zag, said of the plain reader.
-/
import Derived.Test.YtapogiihkbjppaaDoorTell
import Derived.Test.YtapogiihkbjppaaDoorCutMath
import Derived.Test.YtapogiihkbjppaaDoorSame
namespace Go.Proofs.YtapogiihkbjppaaDoor
open Go.RowKit Pk

structure RStp (w w' : World) (b : Nat) (r : Rd) : Prop where
  grown : w.grownBy w' (some b)
  inAt : rinAt w' b r

theorem rinAt.free {w : World} {b : Nat} {r : Rd} (h : rinAt w b r) (o : Nat) : w.frozen? ⟨b, o, none⟩ = false := by
  unfold rinAt at h
  simp [World.frozen?, h]
theorem rinAt.cell {w : World} {b : Nat} {r : Rd} (h : rinAt w b r) :
    w.cell? ⟨b, 0, none⟩ = some (.string r.s) ∧ w.cell? ⟨b, 1, none⟩ = some (.int .i64 r.pos) ∧ w.cell? ⟨b, 2, none⟩ = some (.int .i64 r.f) := ⟨cells_of h 0 _ rfl, cells_of h 1 _ rfl, cells_of h 2 _ rfl⟩

set_option maxHeartbeats 1000000 in
theorem rnum_in {w : World} {b : Nat} {r : Rd} (hin : rinAt w b r) (hr : r.Ok) :
    Calls Tryd.prog 40 #[.pointer (some ⟨b, 0, none⟩)] w fun e w' => e = .returned (.int .u64 r.num.1) ∧ RStp w w' b r.num.2 := by
  obtain ⟨c0, c1, c2⟩ := hin.cell
  have HIN := Lib.hid hin
  by_cases hf : r.f = 0
  · have hb := dec_bd r.rest
    have he := dec_err r.rest 0 0
    have H0 := next_in hin hr
    unfold Rd.num
    obtain ⟨v, sz, er, hd⟩ : ∃ v sz er, dec 0 0 r.rest = (v, sz, er) := ⟨_, _, _, rfl⟩
    rw [hd] at hb H0 he ⊢
    simp only at hb H0 he ⊢
    have H := Lib.hid H0
    have HO := Lib.hid hr
    have hp := hr.pos
    have hlim := hr.lim
    rw [hf] at c2
    have HF := Lib.hid hf
    have Hval : Hid ((if r.pass er = true then v else 0) = v) := by
      by_cases h0 : er = 0
      · show _ = _; rw [pass_true hf h0, if_pos rfl]
      · show _ = _
        rw [pass_false (.inr h0), if_neg (by decide)]
        simp only [Prod.mk.injEq] at he
        omega
    have Hgo : Hid (r.go sz er = ⟨r.s, r.pos + sz, er⟩) := by
      show _ = _
      unfold Rd.go
      rw [if_pos hf]
      by_cases h0 : er = 0
      · rw [if_pos h0, hf, h0]
      · rw [if_neg h0]
        have : sz = 0 := by simp only [Prod.mk.injEq] at he; omega
        rw [this]
        rfl
    obtain ⟨hb1, hb2, hb3, hb4⟩ := hb
    rw [Hval.out, Hgo.out]
    clear H0 hd he hin hr hf
    go_enter Tryd.func40, Tryd.ntmps40
    go_wp2_with fail
    refine (H.out).mono ?_
    rintro e w1 ⟨rfl, hbl⟩
    have h1 := HIN.out.low hbl
    obtain ⟨a0, a1, a2⟩ := h1.cell
    have f1 := h1.free 1
    have f2 := h1.free 2
    have H1 := Lib.hid h1
    have HBL := Lib.hid hbl
    clear h1 hbl
    go_wp2
    go_ret
    refine ⟨rfl, grown_set (grown_set (grown_below HBL.out) _ _) _ _, ?_⟩
    unfold rinAt
    rw [heap_set (heap_set H1.out 2 _) 1 _]
    simp
  · have h3' : ((r.f : Int) == 0) = false := by rw [beq_eq_false_iff_ne]; omega
    have h3 : ¬ ((r.f : Int) = 0) := by omega
    rw [fail_num hf]
    go_enter Tryd.func40, Tryd.ntmps40
    go_wp2
    go_ret
    exact ⟨rfl, grown_refl _ _, HIN.out⟩

set_option maxHeartbeats 1000000 in
theorem rmost_in {w : World} {b : Nat} {r : Rd} (hin : rinAt w b r) (hr : r.Ok) (m : Int) (hm : -9223372036854775808 ≤ m ∧ m ≤ 9223372036854775807) :
    Calls Tryd.prog 39 #[.pointer (some ⟨b, 0, none⟩), .int .i64 m] w fun e w' => e = .returned (.int .i64 (r.most m).1) ∧ RStp w w' b (r.most m).2 := by
  obtain ⟨c0, c1, c2⟩ := hin.cell
  have H0 := rnum_in hin hr
  have hok := hr.num
  have H := Lib.hid H0
  obtain ⟨hm1, hm2⟩ := hm
  by_cases hf : r.num.2.f = 0
  · obtain ⟨g1, g2, g3⟩ := go_fine hf
    have hv : r.num.1 = (dec 0 0 r.rest).1 := by unfold Rd.num; simp only; rw [pass_true g1 g2, if_pos rfl]
    have hvb := (dec_bd r.rest).1
    rw [← hv] at hvb
    by_cases hbad : m < 0 ∨ m < (r.num.1 : Int)
    · have hc : cnt r.rest m = (0, 0, 8) := by unfold cnt; exact if_pos ⟨g2, by rw [← hv]; exact hbad⟩
      have hmost : r.most m = (0, ⟨r.s, r.pos, 8⟩) := by
        unfold Rd.most
        rw [hc, pass_false (.inr (by decide))]
        unfold Rd.go
        rw [if_pos g1, if_neg (by decide)]
        rfl
      rw [hmost]
      have hs : r.num.2.s = r.s := go_s r _ _
      generalize r.num.1 = v at *
      generalize hr2 : r.num.2 = r2 at *
      have HS := Lib.hid hs
      have HF := Lib.hid hf
      have hd : m < 0 ∨ (0 ≤ m ∧ IntKind.u64.wrap m = m ∧ m < (v : Int)) := by
        by_cases hm0 : m < 0
        · exact .inl hm0
        · exact .inr ⟨by omega, IntWalk.u64_in m (by omega), by omega⟩
      clear hbad hc hmost H0 hv g1 g2 g3 hok hs hf hr2
      rcases hd with hd | ⟨hd1, hd2, hd3⟩
      all_goals
        go_enter Tryd.func39, Tryd.ntmps39
        go_wp2_with fail
        refine (H.out).mono ?_
        rintro e w1 ⟨rfl, hst⟩
        have h1 := hst.inAt
        obtain ⟨a0, a1, a2⟩ := h1.cell
        rw [HF.out] at a2
        have f1 := h1.free 1
        have f2 := h1.free 2
        have H1 := Lib.hid h1
        have HST := Lib.hid hst
        clear h1 hst
        go_wp2
        go_ret
        refine ⟨rfl, grown_set (grown_set HST.out.grown _ _) _ _, ?_⟩
        unfold rinAt
        rw [heap_set (heap_set H1.out 1 _) 2 _]
        simp [HS.out]
    · have hc : cnt r.rest m = dec 0 0 r.rest := by unfold cnt; exact if_neg (fun hx => by rw [← hv] at hx; exact hbad hx.2)
      have hmost : r.most m = (r.num.1, r.num.2) := by
        unfold Rd.most Rd.num
        rw [hc]
      rw [hmost]
      generalize r.num.1 = v at *
      generalize hr2 : r.num.2 = r2 at *
      have HF := Lib.hid hf
      have d1 : 0 ≤ m := by omega
      have d2 : IntKind.u64.wrap m = m := IntWalk.u64_in m (by omega)
      have d3 : (v : Int) ≤ m := by omega
      clear hbad hc hmost H0 hv g1 g2 g3 hok hf hr2
      go_enter Tryd.func39, Tryd.ntmps39
      go_wp2_with fail
      refine (H.out).mono ?_
      rintro e w1 ⟨rfl, hst⟩
      have h1 := hst.inAt
      obtain ⟨a0, a1, a2⟩ := h1.cell
      rw [HF.out] at a2
      have HST := Lib.hid hst
      clear h1 hst
      go_wp2
      go_ret
      exact ⟨rfl, HST.out⟩
  · have hmost : r.most m = (0, r.num.2) := by
      have hg : r.f ≠ 0 ∨ (dec 0 0 r.rest).2.2 ≠ 0 := by
        by_cases h1 : r.f = 0
        · right
          intro h2
          apply hf
          show (r.go _ _).f = 0
          rw [h2, go_ok h1]
          exact h1
        · exact .inl h1
      by_cases h1 : r.f = 0
      · have h2 : (dec 0 0 r.rest).2.2 ≠ 0 := by rcases hg with h | h; exact absurd h1 h; exact h
        have hc : cnt r.rest m = dec 0 0 r.rest := by unfold cnt; exact if_neg (fun hx => h2 hx.1)
        unfold Rd.most Rd.num
        rw [hc, pass_false hg, if_neg (by decide)]
      · rw [fail_most h1, fail_num h1]
    rw [hmost]
    have h3' : ((r.num.2.f : Int) == 0) = false := by rw [beq_eq_false_iff_ne]; omega
    have h3 : ¬ ((r.num.2.f : Int) = 0) := by omega
    generalize r.num.1 = v at *
    generalize hr2 : r.num.2 = r2 at *
    clear hmost H0 hok hf hr2
    go_enter Tryd.func39, Tryd.ntmps39
    go_wp2_with fail
    refine (H.out).mono ?_
    rintro e w1 ⟨rfl, hst⟩
    obtain ⟨a0, a1, a2⟩ := hst.inAt.cell
    have HST := Lib.hid hst
    clear hst
    go_wp2
    go_ret
    exact ⟨rfl, HST.out⟩
end Go.Proofs.YtapogiihkbjppaaDoor
