/-
  BatchFits.
-/
import Derived.Test.YtlndggbidmmodaaBaAwake
import Derived.Test.YtlndggbidmmodaaBaGreat
namespace Go.Proofs.Ytlndggbidmmodaa
open Go.RowKit Pk
namespace Ba
theorem may_zero {m : List Pa.Mo} : ∀ {l : List Op}, R12.may m l = 0 → ∀ o ∈ l, bars o = 0
  | [], _, o, ho => by simp at ho
  | x :: r, h, o, ho => by
    unfold R12.may at h
    by_cases h1 : x.k ≠ 1 ∧ x.k ≠ 2
    · rw [if_pos h1] at h; omega
    · rw [if_neg h1] at h
      have h3 := R12.of3_nonneg m x.p.data.toList
      by_cases h2 : (Pa.of3 m x.p.data.toList).2.2 = 0
      · rw [if_neg (show ¬ (Pa.of3 m x.p.data.toList).2.2 ≠ 0 by omega)] at h
        by_cases h4 : value x = 0
        · rw [if_neg (show ¬ value x ≠ 0 by omega)] at h
          have hp : Pa.ok x.p.data.toList = true := by
            cases hh : Pa.ok x.p.data.toList with
            | true => rfl
            | false => rw [Pa.of_bad hh] at h2; simp at h2
          rcases List.mem_cons.1 ho with e | e
          · rw [e]; unfold bars; rw [if_neg h1, if_neg (by rw [hp]; decide)]; exact h4
          · exact may_zero h o e
        · rw [if_pos h4] at h; exact absurd h h4
      · rw [if_pos h2] at h; omega
theorem may_right {m : List Pa.Mo} : ∀ {l : List Op}, (∀ o ∈ l, bars o = 0) → R12.may m l = 0 ∨ R12.may m l = 21
  | [], _ => .inl rfl
  | x :: r, h => by
    have hx := h x (by simp)
    obtain ⟨hk, hp, -, -⟩ := bars_ok hx
    have hv : value x = 0 := by
      unfold bars at hx
      rw [if_neg (by omega), if_neg (by rw [hp]; decide)] at hx
      exact hx
    unfold R12.may
    rw [if_neg (by omega)]
    cases hf : Pa.first (Pa.nameOf x.p.data.toList) m with
    | none =>
      rw [Pa.of_none hp hf]
      exact .inr rfl
    | some y =>
      rw [Pa.of_some hp hf, if_neg (by simp), if_neg (by omega)]
      exact may_right fun o ho => h o (by simp [ho])
theorem fits_one {m : List Pa.Mo} {l : List Op} {ix ep : Int} (h : mayE m l = 0) (n : 1 ≤ ix ∧ ix ≤ 4611686018427387904 ∧ 1 ≤ ep) : right ⟨ix, ep, l⟩ = 0 := by
  unfold mayE at h
  by_cases h0 : l.length = 0
  · rw [if_pos h0] at h; omega
  · rw [if_neg h0] at h
    by_cases h4 : 4 < l.length
    · rw [if_pos h4] at h; omega
    · rw [if_neg h4] at h
      exact right_of ⟨n.1, n.2.1⟩ n.2.2 (by simp only; omega) (may_zero h)
theorem fits_two {m : List Pa.Mo} {l : List Op} {ix ep : Int} (h : right ⟨ix, ep, l⟩ = 0) : (1 ≤ ix ∧ ix ≤ 4611686018427387904 ∧ 1 ≤ ep) ∧ (mayE m l = 0 ∨ mayE m l = 21 ∨ (mayE m l = 1 ∧ l.length = 0)) := by
  obtain ⟨h1, h2, h3, h4⟩ := right_ok h
  simp only at h1 h2 h3 h4
  refine ⟨⟨h1.1, h1.2, h2⟩, ?_⟩
  unfold mayE
  by_cases h0 : l.length = 0
  · rw [if_pos h0]; exact .inr (.inr ⟨rfl, h0⟩)
  · rw [if_neg h0, if_neg (by omega)]
    rcases may_right (m := m) h4 with e | e <;> rw [e]
    · exact .inl rfl
    · exact .inr (.inl rfl)
end Ba
set_option maxRecDepth 100000 in
set_option maxHeartbeats 8000000 in
theorem batchfits_any (w : World) {A : Option Addr} (c : Nat) {m : List Pa.Mo} (hlc : m.length ≤ 9223372036854775807) (hm : Pa.listAt w A m) {C : Option Addr} (d : Nat) {l : List Ba.Op} (hl : l.length ≤ 9223372036854775807) (hit : Ba.listAt w C l) (hok : ∀ o ∈ l, o.Ok) (ix ep : Int) (hix : -9223372036854775808 ≤ ix ∧ ix ≤ 9223372036854775807) (hep : -9223372036854775808 ≤ ep ∧ ep ≤ 9223372036854775807) :
    Calls Try.prog 9 #[.slice A m.length c, .slice C l.length d, .int .i64 ix, .int .i64 ep] w fun e w' => e = .returned (.bool true) ∧ Below w.heap.size w w' := by
  have AW := Lib.hid (fun wx => awake12_any wx)
  obtain ⟨gm, hgm⟩ := Pa.fair_or m
  have GM := Lib.hid (great11_any (c := c) hm gm hgm)
  obtain ⟨gr, hgr⟩ := Ba.fair_or l
  have GO := Lib.hid (greatOps_any (c := d) hit gr hgr)
  cases gm
  · cases gr
    · have hfair : Ba.Fair l := by
        by_cases h : Ba.Fair l
        · exact h
        · exact absurd (hgr.2 h) (by decide)
      have MA := Lib.hid (baMay_any c hm hlc d hit hl (fun o ho => by have := (hfair.mem o ho).1; omega))
      have RI0 : Hid (∀ wx, Below w.heap.size w wx → Calls Try.prog 22 #[.agg #[.int .i64 ix, .int .i64 ep, .slice C l.length d]] wx fun e w' => e = .returned (.int .i64 (Ba.right ⟨ix, ep, l⟩ : Nat)) ∧ Below wx.heap.size wx w') := fun wx hb => baRight_any ⟨ix, ep, l⟩ d (hit.below hb) ⟨hix, hep, hok, hl⟩ (fun o ho => by have := (hfair.mem o ho).1; omega)
      have F1 : Hid (Ba.mayE m l = 0 → (1 ≤ ix ∧ ix ≤ 4611686018427387904 ∧ 1 ≤ ep) → Ba.right ⟨ix, ep, l⟩ = 0) := Ba.fits_one
      have F2 : Hid (Ba.right ⟨ix, ep, l⟩ = 0 → (1 ≤ ix ∧ ix ≤ 4611686018427387904 ∧ 1 ≤ ep) ∧ (Ba.mayE m l = 0 ∨ Ba.mayE m l = 21 ∨ (Ba.mayE m l = 1 ∧ l.length = 0))) := Ba.fits_two
      obtain ⟨E, hE⟩ : ∃ E, E = Ba.mayE m l := ⟨_, rfl⟩
      obtain ⟨R, hR⟩ : ∃ E, E = Ba.right ⟨ix, ep, l⟩ := ⟨_, rfl⟩
      rw [← hE] at MA F1 F2
      rw [← hR] at RI0 F1 F2
      clear hE hR hgm hgr hfair hit hm hok hlc
      by_cases hR : R = 0
      · obtain ⟨hn, hE⟩ := F2.out hR
        have r1 : ((R : Int) == 0) = true := by rw [hR]; rfl
        have r2 : ((R : Int) != 0) = false := by rw [hR]; rfl
        have n1 : ¬ ix < 1 := by omega
        have n2 : ix ≤ 4611686018427387904 := by omega
        have n3 : ¬ ep < 1 := by omega
        have n4 : (1 : Int) ≤ ix := by omega
        have n5 : (1 : Int) ≤ ep := by omega
        rcases hE with hE | hE | ⟨hE, hl0⟩
        · have e1 : ((E : Int) == 0) = true := by rw [hE]; rfl
          have e2 : ((E : Int) != 0) = false := by rw [hE]; rfl
          have e3 : ((E : Int) != 1) = true := by rw [hE]; rfl
          clear hE hR F1 F2 hn
          go_enter Try.func9, Try.ntmps9
          go_wp2_with fail
          refine GM.out.mono ?_
          rintro e w1 ⟨rfl, rfl⟩
          go_wp2_with fail
          refine GO.out.mono ?_
          rintro e w1 ⟨rfl, rfl⟩
          go_wp2_with fail
          refine MA.out.mono ?_
          rintro e w2 ⟨rfl, b2⟩
          have RI := Lib.hid (RI0.out _ b2)
          have B2 := Lib.hid b2
          clear b2 MA
          go_wp2_with fail
          refine RI.out.mono ?_
          rintro e w3 ⟨rfl, b3⟩
          have B3 := Lib.hid (B2.out.trans (b3.mono B2.out.size))
          clear b3 B2 RI RI0
          go_wp2_with fail
          refine (AW.out _).mono ?_
          rintro e w4 ⟨rfl, b4⟩
          go_wp2_with fail
          go_ret
          exact ⟨rfl, B3.out.trans (b4.mono B3.out.size)⟩
        · have e1 : ((E : Int) == 0) = false := by rw [hE]; rfl
          have e2 : ((E : Int) != 0) = true := by rw [hE]; rfl
          have e3 : ((E : Int) != 1) = true := by rw [hE]; rfl
          have e4 : ((E : Int) != 21) = false := by rw [hE]; rfl
          clear hE hR F1 F2 hn
          go_enter Try.func9, Try.ntmps9
          go_wp2_with fail
          refine GM.out.mono ?_
          rintro e w1 ⟨rfl, rfl⟩
          go_wp2_with fail
          refine GO.out.mono ?_
          rintro e w1 ⟨rfl, rfl⟩
          go_wp2_with fail
          refine MA.out.mono ?_
          rintro e w2 ⟨rfl, b2⟩
          have RI := Lib.hid (RI0.out _ b2)
          have B2 := Lib.hid b2
          clear b2 MA
          go_wp2_with fail
          refine RI.out.mono ?_
          rintro e w3 ⟨rfl, b3⟩
          have B3 := Lib.hid (B2.out.trans (b3.mono B2.out.size))
          clear b3 B2 RI RI0
          go_wp2_with fail
          refine (AW.out _).mono ?_
          rintro e w4 ⟨rfl, b4⟩
          go_wp2_with fail
          go_ret
          exact ⟨rfl, B3.out.trans (b4.mono B3.out.size)⟩
        · have e1 : ((E : Int) == 0) = false := by rw [hE]; rfl
          have e2 : ((E : Int) != 0) = true := by rw [hE]; rfl
          have e3 : ((E : Int) != 1) = false := by rw [hE]; rfl
          have e4 : ((E : Int) != 21) = true := by rw [hE]; rfl
          have hl1 : ((l.length : Int) == 0) = true := by rw [hl0]; rfl
          clear hE hR F1 F2 hn hl0
          go_enter Try.func9, Try.ntmps9
          go_wp2_with fail
          refine GM.out.mono ?_
          rintro e w1 ⟨rfl, rfl⟩
          go_wp2_with fail
          refine GO.out.mono ?_
          rintro e w1 ⟨rfl, rfl⟩
          go_wp2_with fail
          refine MA.out.mono ?_
          rintro e w2 ⟨rfl, b2⟩
          have RI := Lib.hid (RI0.out _ b2)
          have B2 := Lib.hid b2
          clear b2 MA
          go_wp2_with fail
          refine RI.out.mono ?_
          rintro e w3 ⟨rfl, b3⟩
          have B3 := Lib.hid (B2.out.trans (b3.mono B2.out.size))
          clear b3 B2 RI RI0
          go_wp2_with fail
          refine (AW.out _).mono ?_
          rintro e w4 ⟨rfl, b4⟩
          go_wp2_with fail
          go_ret
          exact ⟨rfl, B3.out.trans (b4.mono B3.out.size)⟩
      · have r1 : ((R : Int) == 0) = false := by rw [beq_eq_false_iff_ne]; omega
        have r2 : ((R : Int) != 0) = true := by rw [bne_iff_ne]; omega
        by_cases hE : E = 0
        · have e1 : ((E : Int) == 0) = true := by rw [hE]; rfl
          have hnn : ¬ (1 ≤ ix ∧ ix ≤ 4611686018427387904 ∧ 1 ≤ ep) := fun h => hR (F1.out hE h)
          clear hE hR F1 F2
          by_cases n1 : ix < 1
          · have n4 : ¬ (1 : Int) ≤ ix := by omega
            clear hnn
            go_enter Try.func9, Try.ntmps9
            go_wp2_with fail
            refine GM.out.mono ?_
            rintro e w1 ⟨rfl, rfl⟩
            go_wp2_with fail
            refine GO.out.mono ?_
            rintro e w1 ⟨rfl, rfl⟩
            go_wp2_with fail
            refine MA.out.mono ?_
            rintro e w2 ⟨rfl, b2⟩
            have RI := Lib.hid (RI0.out _ b2)
            have B2 := Lib.hid b2
            clear b2 MA
            go_wp2_with fail
            refine RI.out.mono ?_
            rintro e w3 ⟨rfl, b3⟩
            have B3 := Lib.hid (B2.out.trans (b3.mono B2.out.size))
            clear b3 B2 RI RI0
            go_wp2_with fail
            refine (AW.out _).mono ?_
            rintro e w4 ⟨rfl, b4⟩
            go_wp2_with fail
            go_ret
            exact ⟨rfl, B3.out.trans (b4.mono B3.out.size)⟩
          · have n4 : (1 : Int) ≤ ix := by omega
            by_cases n2 : ix ≤ 4611686018427387904
            · by_cases n3 : ep < 1
              · have n5 : ¬ (1 : Int) ≤ ep := by omega
                clear hnn
                go_enter Try.func9, Try.ntmps9
                go_wp2_with fail
                refine GM.out.mono ?_
                rintro e w1 ⟨rfl, rfl⟩
                go_wp2_with fail
                refine GO.out.mono ?_
                rintro e w1 ⟨rfl, rfl⟩
                go_wp2_with fail
                refine MA.out.mono ?_
                rintro e w2 ⟨rfl, b2⟩
                have RI := Lib.hid (RI0.out _ b2)
                have B2 := Lib.hid b2
                clear b2 MA
                go_wp2_with fail
                refine RI.out.mono ?_
                rintro e w3 ⟨rfl, b3⟩
                have B3 := Lib.hid (B2.out.trans (b3.mono B2.out.size))
                clear b3 B2 RI RI0
                go_wp2_with fail
                refine (AW.out _).mono ?_
                rintro e w4 ⟨rfl, b4⟩
                go_wp2_with fail
                go_ret
                exact ⟨rfl, B3.out.trans (b4.mono B3.out.size)⟩
              · have n5 : (1 : Int) ≤ ep := by omega
                exact absurd ⟨n4, n2, n5⟩ hnn
            · have n6 : (4611686018427387904 : Int) < ix := by omega
              clear hnn
              go_enter Try.func9, Try.ntmps9
              go_wp2_with fail
              refine GM.out.mono ?_
              rintro e w1 ⟨rfl, rfl⟩
              go_wp2_with fail
              refine GO.out.mono ?_
              rintro e w1 ⟨rfl, rfl⟩
              go_wp2_with fail
              refine MA.out.mono ?_
              rintro e w2 ⟨rfl, b2⟩
              have RI := Lib.hid (RI0.out _ b2)
              have B2 := Lib.hid b2
              clear b2 MA
              go_wp2_with fail
              refine RI.out.mono ?_
              rintro e w3 ⟨rfl, b3⟩
              have B3 := Lib.hid (B2.out.trans (b3.mono B2.out.size))
              clear b3 B2 RI RI0
              go_wp2_with fail
              refine (AW.out _).mono ?_
              rintro e w4 ⟨rfl, b4⟩
              go_wp2_with fail
              go_ret
              exact ⟨rfl, B3.out.trans (b4.mono B3.out.size)⟩
        · have e1 : ((E : Int) == 0) = false := by rw [beq_eq_false_iff_ne]; omega
          clear hE hR F1 F2
          by_cases n1 : ix < 1
          · have n4 : ¬ (1 : Int) ≤ ix := by omega
            go_enter Try.func9, Try.ntmps9
            go_wp2_with fail
            refine GM.out.mono ?_
            rintro e w1 ⟨rfl, rfl⟩
            go_wp2_with fail
            refine GO.out.mono ?_
            rintro e w1 ⟨rfl, rfl⟩
            go_wp2_with fail
            refine MA.out.mono ?_
            rintro e w2 ⟨rfl, b2⟩
            have RI := Lib.hid (RI0.out _ b2)
            have B2 := Lib.hid b2
            clear b2 MA
            go_wp2_with fail
            refine RI.out.mono ?_
            rintro e w3 ⟨rfl, b3⟩
            have B3 := Lib.hid (B2.out.trans (b3.mono B2.out.size))
            clear b3 B2 RI RI0
            go_wp2_with fail
            refine (AW.out _).mono ?_
            rintro e w4 ⟨rfl, b4⟩
            go_wp2_with fail
            go_ret
            exact ⟨rfl, B3.out.trans (b4.mono B3.out.size)⟩
          · have n4 : (1 : Int) ≤ ix := by omega
            by_cases n2 : ix ≤ 4611686018427387904
            · by_cases n3 : ep < 1
              · have n5 : ¬ (1 : Int) ≤ ep := by omega
                go_enter Try.func9, Try.ntmps9
                go_wp2_with fail
                refine GM.out.mono ?_
                rintro e w1 ⟨rfl, rfl⟩
                go_wp2_with fail
                refine GO.out.mono ?_
                rintro e w1 ⟨rfl, rfl⟩
                go_wp2_with fail
                refine MA.out.mono ?_
                rintro e w2 ⟨rfl, b2⟩
                have RI := Lib.hid (RI0.out _ b2)
                have B2 := Lib.hid b2
                clear b2 MA
                go_wp2_with fail
                refine RI.out.mono ?_
                rintro e w3 ⟨rfl, b3⟩
                have B3 := Lib.hid (B2.out.trans (b3.mono B2.out.size))
                clear b3 B2 RI RI0
                go_wp2_with fail
                refine (AW.out _).mono ?_
                rintro e w4 ⟨rfl, b4⟩
                go_wp2_with fail
                go_ret
                exact ⟨rfl, B3.out.trans (b4.mono B3.out.size)⟩
              · have n5 : (1 : Int) ≤ ep := by omega
                go_enter Try.func9, Try.ntmps9
                go_wp2_with fail
                refine GM.out.mono ?_
                rintro e w1 ⟨rfl, rfl⟩
                go_wp2_with fail
                refine GO.out.mono ?_
                rintro e w1 ⟨rfl, rfl⟩
                go_wp2_with fail
                refine MA.out.mono ?_
                rintro e w2 ⟨rfl, b2⟩
                have RI := Lib.hid (RI0.out _ b2)
                have B2 := Lib.hid b2
                clear b2 MA
                go_wp2_with fail
                refine RI.out.mono ?_
                rintro e w3 ⟨rfl, b3⟩
                have B3 := Lib.hid (B2.out.trans (b3.mono B2.out.size))
                clear b3 B2 RI RI0
                go_wp2_with fail
                refine (AW.out _).mono ?_
                rintro e w4 ⟨rfl, b4⟩
                go_wp2_with fail
                go_ret
                exact ⟨rfl, B3.out.trans (b4.mono B3.out.size)⟩
            · have n6 : (4611686018427387904 : Int) < ix := by omega
              go_enter Try.func9, Try.ntmps9
              go_wp2_with fail
              refine GM.out.mono ?_
              rintro e w1 ⟨rfl, rfl⟩
              go_wp2_with fail
              refine GO.out.mono ?_
              rintro e w1 ⟨rfl, rfl⟩
              go_wp2_with fail
              refine MA.out.mono ?_
              rintro e w2 ⟨rfl, b2⟩
              have RI := Lib.hid (RI0.out _ b2)
              have B2 := Lib.hid b2
              clear b2 MA
              go_wp2_with fail
              refine RI.out.mono ?_
              rintro e w3 ⟨rfl, b3⟩
              have B3 := Lib.hid (B2.out.trans (b3.mono B2.out.size))
              clear b3 B2 RI RI0
              go_wp2_with fail
              refine (AW.out _).mono ?_
              rintro e w4 ⟨rfl, b4⟩
              go_wp2_with fail
              go_ret
              exact ⟨rfl, B3.out.trans (b4.mono B3.out.size)⟩
    · clear hgm hgr hit hm hok
      go_enter Try.func9, Try.ntmps9
      go_wp2_with fail
      refine GM.out.mono ?_
      rintro e w1 ⟨rfl, rfl⟩
      go_wp2_with fail
      refine GO.out.mono ?_
      rintro e w1 ⟨rfl, rfl⟩
      go_wp2_with fail
      refine (AW.out _).mono ?_
      rintro e w2 ⟨rfl, b2⟩
      go_wp2_with fail
      go_ret
      exact ⟨rfl, b2⟩
  · clear hgm hgr hit hm hok GO
    go_enter Try.func9, Try.ntmps9
    go_wp2_with fail
    refine GM.out.mono ?_
    rintro e w1 ⟨rfl, rfl⟩
    go_wp2_with fail
    refine (AW.out _).mono ?_
    rintro e w2 ⟨rfl, b2⟩
    go_wp2_with fail
    go_ret
    exact ⟨rfl, b2⟩
end Go.Proofs.Ytlndggbidmmodaa
