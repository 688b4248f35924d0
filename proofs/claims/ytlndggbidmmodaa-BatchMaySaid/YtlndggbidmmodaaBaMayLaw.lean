/-
  BatchMay.
-/
import Derived.Test.YtlndggbidmmodaaR12May
import Derived.Test.YtlndggbidmmodaaBaAwake
import Derived.Test.YtlndggbidmmodaaBaGreat
namespace Go.Proofs.Ytlndggbidmmodaa
open Go.RowKit Pk
set_option maxRecDepth 100000 in
set_option maxHeartbeats 4000000 in
theorem batchmay_any (w : World) {A : Option Addr} (c : Nat) {m : List Pa.Mo} (hml : m.length ≤ 9223372036854775807) (hm : Pa.listAt w A m) {C : Option Addr} (d : Nat) {l : List Ba.Op} (hl : l.length ≤ 9223372036854775807) (hit : Ba.listAt w C l) :
    Calls Try.prog 3 #[.slice A m.length c, .slice C l.length d] w fun e w' => e = .returned (.bool true) ∧ Below w.heap.size w w' := by
  have AW := Lib.hid (fun wx => awake12_any wx)
  obtain ⟨gm, hgm⟩ := Pa.fair_or m
  have GM := Lib.hid (great11_any (c := c) hm gm hgm)
  obtain ⟨gr, hgr⟩ := Ba.fair_or l
  have GO := Lib.hid (greatOps_any (c := d) hit gr hgr)
  cases gm
  · cases gr
    · have hfair : Ba.Fair l := by
        by_cases h : Ba.Fair l
        · exact h
        · exact absurd (hgr.2 h) (by decide)
      have MA := Lib.hid (baMay_any c hm hml d hit hl (fun o ho => by have := (hfair.mem o ho).1; omega))
      have MR : Hid (∀ wx, Below w.heap.size w wx → Calls Try.prog 15 #[.slice A m.length c, .slice C l.length d] wx fun e w' => e = .returned (.int .i64 (Ba.mayE m l : Nat)) ∧ Below wx.heap.size wx w') := fun wx hb => r12May_any c (hm.below hb) hml d (hit.below hb) hl (fun o ho => by have := (hfair.mem o ho).1; omega)
      obtain ⟨E, hE⟩ : ∃ E, E = Ba.mayE m l := ⟨_, rfl⟩
      rw [← hE] at MA MR
      have hee : ((E : Int) == (E : Int)) = true := by simp
      clear hm hit hgm hgr hfair hE
      go_enter Try.func3, Try.ntmps3
      go_wp2_with fail
      refine GM.out.mono ?_
      rintro e w1 ⟨rfl, rfl⟩
      go_wp2_with fail
      refine GO.out.mono ?_
      rintro e w1 ⟨rfl, rfl⟩
      go_wp2_with fail
      refine MA.out.mono ?_
      rintro e w2 ⟨rfl, b2⟩
      have MR2 := Lib.hid (MR.out _ b2)
      have B2 := Lib.hid b2
      clear b2 MA MR
      go_wp2_with fail
      refine MR2.out.mono ?_
      rintro e w3 ⟨rfl, b3⟩
      have B3 := Lib.hid (B2.out.trans (b3.mono B2.out.size))
      clear b3 B2 MR2
      go_wp2_with fail
      refine (AW.out _).mono ?_
      rintro e w4 ⟨rfl, b4⟩
      go_wp2_with fail
      go_ret
      exact ⟨rfl, B3.out.trans (b4.mono B3.out.size)⟩
    · clear hm hit hgm hgr
      go_enter Try.func3, Try.ntmps3
      go_wp2_with fail
      refine GM.out.mono ?_
      rintro e w1 ⟨rfl, rfl⟩
      go_wp2_with fail
      refine GO.out.mono ?_
      rintro e w1 ⟨rfl, rfl⟩
      go_wp2_with fail
      refine (AW.out _).mono ?_
      rintro e w2 ⟨rfl, b2⟩
      go_wp2_with fail
      go_ret
      exact ⟨rfl, b2⟩
  · clear hm hit hgm hgr GO
    go_enter Try.func3, Try.ntmps3
    go_wp2_with fail
    refine GM.out.mono ?_
    rintro e w1 ⟨rfl, rfl⟩
    go_wp2_with fail
    refine (AW.out _).mono ?_
    rintro e w2 ⟨rfl, b2⟩
    go_wp2_with fail
    go_ret
    exact ⟨rfl, b2⟩
end Go.Proofs.Ytlndggbidmmodaa
