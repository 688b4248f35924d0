/-
  PackFollows: for every two lists of items the law answers true, and its arguments read behind the call as they read before. No condition.
-/
import Derived.Test.YtecpcaphgnapoaaRows
import Derived.Test.YtecpcaphgnapoaaFollows
namespace Go.Proofs.Ytecpcaphgnapoaa
open Go.ChangeMaps (open_string shut_string)
open Go.ChangeShapes Go.WideShapes Go.ChangeAt Go.RowKit Pk

set_option maxRecDepth 100000 in
theorem follows_great (w : World) (A A' : Option Addr) (c c' : Nat) (l m : List It) (hl : l.length ≤ 9223372036854775807) (hm : m.length ≤ 9223372036854775807) (hsl : ∀ a ∈ l, a.s.size ≤ 9223372036854775807) (hsm : ∀ a ∈ m, a.s.size ≤ 9223372036854775807)
    (hil : listAt w A l) (him : listAt w A' m) (hg : great l = true ∨ great m = true) :
    Calls Try.prog 8 #[.slice A l.length c, .slice A' m.length c'] w fun e w' => e = .returned (.bool true) ∧ Below w.heap.size w w' := by
  have H1 := great_any w A c l hl hsl hil
  have H2 := great_any w A' c' m hm hsm him
  by_cases h1 : great l = true
  · rw [h1] at H1
    have HG1 := Lib.hid H1
    clear H1 H2 hg h1
    go_enter Try.func8, Try.ntmps8
    go_wp2_with fail
    refine (HG1.out).mono ?_
    rintro e w1 ⟨rfl, rfl⟩
    go_wp2_with fail
    refine (wakes_any _).mono ?_
    rintro e w2 ⟨rfl, hb⟩
    go_wp2
    go_ret
    exact ⟨rfl, hb⟩
  · have h1' : great l = false := by simpa using h1
    have h2 : great m = true := by rcases hg with h | h; exact absurd h h1; exact h
    rw [h1'] at H1
    rw [h2] at H2
    have HG1 := Lib.hid H1
    have HG2 := Lib.hid H2
    clear H1 H2 hg h1 h1' h2
    go_enter Try.func8, Try.ntmps8
    go_wp2_with fail
    refine (HG1.out).mono ?_
    rintro e w1 ⟨rfl, rfl⟩
    go_wp2_with fail
    refine (HG2.out).mono ?_
    rintro e w1 ⟨rfl, rfl⟩
    go_wp2_with fail
    refine (wakes_any _).mono ?_
    rintro e w2 ⟨rfl, hb⟩
    go_wp2
    go_ret
    exact ⟨rfl, hb⟩

theorem follows_any (w : World) (A A' : Option Addr) (c c' : Nat) (l m : List It) (hl : l.length ≤ 9223372036854775807) (hm : m.length ≤ 9223372036854775807) (hrl : ∀ a ∈ l, Rng a) (hrm : ∀ a ∈ m, Rng a) (hil : listAt w A l) (him : listAt w A' m) :
    Calls Try.prog 8 #[.slice A l.length c, .slice A' m.length c'] w fun e w' => e = .returned (.bool true) ∧ Below w.heap.size w w' := by
  by_cases hg : great l = true ∨ great m = true
  · exact follows_great w A A' c c' l m hl hm (fun a ha => (hrl a ha).s) (fun a ha => (hrm a ha).s) hil him hg
  · have h1 : great l = false := by simpa using fun h => hg (.inl h)
    have h2 : great m = false := by simpa using fun h => hg (.inr h)
    exact follows_some w A A' c c' l m h1 h2 (ok_of hrl (not_great h1).2) (ok_of hrm (not_great h2).2) hil him

set_option maxRecDepth 100000 in
theorem packFollows_lifted (os : Os) (started : os.Started) (H : Type) (enc : TypeId × Value → H) :
    ReturnsInHanded {} Try.checked os 8 .any (Rows.packFollowsSpec.pre6 enc Try.prog Try.f8 Rows.packFollowsRow.domain false) (Rows.packFollowsSpec.post enc Try.prog Try.f8 false true false false) := by
  refine returnsInHanded_of_change (C := Try.checked) Try.own started (by kernel_rfl) Try.func8
    (ChangeSpec.witness6 (enc := enc) (C := Try.checked) false ⟨#[], #[.slice none 0 0, .slice none 0 0], []⟩ 8 (by kernel_rfl) (by kernel_rfl) (by kernel_rfl) (by kernel_rfl)) ?_
  intro W base args ds gs before hval0 hW hcnd _
  have hval : ∀ (j : Nat) t v, Try.f8.params[j]? = some t → args[j]? = some v → Value.okWide Try.prog W .any base t v := hval0
  have hW' := hW
  have hlt := hW'.lt
  obtain ⟨p, q, hA0, hV, rfl, hfz, hnd⟩ := hW
  have hA : DataW.TrodAll enc Try.prog W 0 (fun _ => true) true Try.f8.params.toList args.toList ds p := hA0
  rw [Try.params8] at hA hval
  obtain ⟨v0, v1, d0, d1, p0, p1, rfl, rfl, rfl, h0, h1⟩ := trodAll_two hA
  obtain ⟨rfl, rfl⟩ := trodVars_none hV
  simp only [List.append_nil] at hW' hlt
  obtain ⟨A, c, l, rfl, hc, hm, hit, hr⟩ := open_items (hval 0 32 v0 rfl rfl) h0
  obtain ⟨A', c', m, rfl, hc', hm', hit', hr'⟩ := open_items (hval 1 32 v1 rfl rfl) h1
  refine (follows_any W A A' c c' l m (by omega) (by omega) hr hr' hit hit').mono fun e W' ⟨he, hw⟩ => ?_
  subst he
  exact ⟨_, rfl, ⟨_, _, _, [], p0 ++ p1, [], hW', trodAll_mk1 (shut_bool Try.underlying4 _), trodAll_mk2 (Below.trod Try.laidOut (by kernel_rfl) (of_decide_eq_true (by kernel_rfl)) h0 hw (fun x hx => hlt x (List.mem_append_left _ hx))) (Below.trod Try.laidOut (by kernel_rfl) (of_decide_eq_true (by kernel_rfl)) h1 hw (fun x hx => hlt x (List.mem_append_right _ hx))), rfl, hw.frame _, fun h => by cases h⟩⟩

theorem packFollows_holds : Rows.PackFollowsSaid :=
  OpenClaim.holds_of_wide 8 Try.f8 rfl rfl rfl rfl rfl rfl rfl ⟨rfl, rfl, rfl, rfl, rfl⟩ rfl rfl rfl rfl rfl (by kernel_rfl) Try.func8 (by kernel_rfl)
    (of_decide_eq_true (by kernel_rfl)) (by unfold Func.isWrapper; first | (rw [if_pos (by decide +kernel)]; kernel_rfl) | (rw [if_neg (by decide +kernel)]; exact ⟨rfl, rfl⟩))
    (fun os started H enc _ => packFollows_lifted os started H enc)
#print axioms packFollows_holds
end Go.Proofs.Ytecpcaphgnapoaa
