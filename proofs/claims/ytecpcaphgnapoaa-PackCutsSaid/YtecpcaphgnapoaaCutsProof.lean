/-
  PackCuts: for every list of items and every cut the law answers true, and its arguments read behind the call as they read before. No condition.
-/
import Derived.Test.YtecpcaphgnapoaaRows
import Derived.Test.YtecpcaphgnapoaaCuts
namespace Go.Proofs.Ytecpcaphgnapoaa
open Go.ChangeMaps (open_string shut_string)
open Go.ChangeShapes Go.WideShapes Go.ChangeAt Go.RowKit Pk

set_option maxRecDepth 100000 in
theorem cuts_great (w : World) (A : Option Addr) (c : Nat) (l : List It) (cut : Int) (hl : l.length ≤ 9223372036854775807) (hs : ∀ a ∈ l, a.s.size ≤ 9223372036854775807) (hit : listAt w A l) (hg : great l = true) :
    Calls Try.prog 7 #[.slice A l.length c, .int .i64 cut] w fun e w' => e = .returned (.bool true) ∧ Below w.heap.size w w' := by
  have H := great_any w A c l hl hs hit
  rw [hg] at H
  have HG := Lib.hid H
  clear H hg
  go_enter Try.func7, Try.ntmps7
  go_wp2_with fail
  refine (HG.out).mono ?_
  rintro e w1 ⟨rfl, rfl⟩
  go_wp2_with fail
  refine (wakes_any _).mono ?_
  rintro e w2 ⟨rfl, hb⟩
  go_wp2
  go_ret
  exact ⟨rfl, hb⟩

theorem cuts_any (w : World) (A : Option Addr) (c : Nat) (l : List It) (cut : Int) (hcb : -9223372036854775808 ≤ cut ∧ cut ≤ 9223372036854775807) (hl : l.length ≤ 9223372036854775807) (hr : ∀ a ∈ l, Rng a) (hit : listAt w A l) :
    Calls Try.prog 7 #[.slice A l.length c, .int .i64 cut] w fun e w' => e = .returned (.bool true) ∧ Below w.heap.size w w' := by
  by_cases hg : great l = true
  · exact cuts_great w A c l cut hl (fun a ha => (hr a ha).s) hit hg
  · have hg' : great l = false := by simpa using hg
    exact cuts_some w A c l cut hcb hg' (ok_of hr (not_great hg').2) hit

set_option maxRecDepth 100000 in
theorem packCuts_lifted (os : Os) (started : os.Started) (H : Type) (enc : TypeId × Value → H) :
    ReturnsInHanded {} Try.checked os 7 .any (Rows.packCutsSpec.pre6 enc Try.prog Try.f7 Rows.packCutsRow.domain false) (Rows.packCutsSpec.post enc Try.prog Try.f7 false true false false) := by
  refine returnsInHanded_of_change (C := Try.checked) Try.own started (by kernel_rfl) Try.func7
    (ChangeSpec.witness6 (enc := enc) (C := Try.checked) false ⟨#[], #[.slice none 0 0, .int .i64 0], []⟩ 8 (by kernel_rfl) (by kernel_rfl) (by kernel_rfl) (by kernel_rfl)) ?_
  intro W base args ds gs before hval0 hW hcnd _
  have hval : ∀ (j : Nat) t v, Try.f7.params[j]? = some t → args[j]? = some v → Value.okWide Try.prog W .any base t v := hval0
  have hW' := hW
  have hlt := hW'.lt
  obtain ⟨p, q, hA0, hV, rfl, hfz, hnd⟩ := hW
  have hA : DataW.TrodAll enc Try.prog W 0 (fun _ => true) true Try.f7.params.toList args.toList ds p := hA0
  rw [Try.params7] at hA hval
  obtain ⟨v0, v1, d0, d1, p0, p1, rfl, rfl, rfl, h0, h1⟩ := trodAll_two hA
  obtain ⟨rfl, rfl⟩ := trodVars_none hV
  obtain ⟨b, rfl, rfl, rfl, wb⟩ := open_int Try.underlying3 (hval 1 3 v1 rfl rfl) h1
  simp only [List.append_nil] at hW' hlt
  have hi : -9223372036854775808 ≤ b ∧ b ≤ 9223372036854775807 := by simpa [Lit.wf, IntKind.min, IntKind.max, IntKind.signed, IntKind.bits] using wb
  obtain ⟨A, c, l, rfl, hc, hm, hit, hr⟩ := open_items (hval 0 32 v0 rfl rfl) h0
  refine (cuts_any W A c l b hi (by omega) hr hit).mono fun e W' ⟨he, hw⟩ => ?_
  subst he
  have hA' := trodAll_mk2 (Below.trod Try.laidOut (by kernel_rfl) (of_decide_eq_true (by kernel_rfl)) h0 hw hlt) (shut_int (enc := enc) (P := Try.prog) (w := W') (base := 0) (spare := fun b => decide (b < W.heap.size)) (held := true) Try.underlying3 wb)
  simp only [List.append_nil] at hA'
  exact ⟨_, rfl, ⟨_, _, _, [], p0, [], hW', trodAll_mk1 (shut_bool Try.underlying4 _), hA', rfl, hw.frame _, fun h => by cases h⟩⟩

theorem packCuts_holds : Rows.PackCutsSaid :=
  OpenClaim.holds_of_wide 7 Try.f7 rfl rfl rfl rfl rfl rfl rfl ⟨rfl, rfl, rfl, rfl, rfl⟩ rfl rfl rfl rfl rfl (by kernel_rfl) Try.func7 (by kernel_rfl)
    (of_decide_eq_true (by kernel_rfl)) (by unfold Func.isWrapper; first | (rw [if_pos (by decide +kernel)]; kernel_rfl) | (rw [if_neg (by decide +kernel)]; exact ⟨rfl, rfl⟩))
    (fun os started H enc _ => packCuts_lifted os started H enc)
#print axioms packCuts_holds
end Go.Proofs.Ytecpcaphgnapoaa
