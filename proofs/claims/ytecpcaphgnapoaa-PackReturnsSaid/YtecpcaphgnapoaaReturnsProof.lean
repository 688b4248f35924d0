/-
  PackReturns: for every list of items and every two texts the law answers true, and its arguments read behind the call as they read before. No condition.
-/
import Derived.Test.YtecpcaphgnapoaaRows
import Derived.Test.YtecpcaphgnapoaaReturns
namespace Go.Proofs.Ytecpcaphgnapoaa
open Go.ChangeMaps (open_string shut_string)
open Go.ChangeShapes Go.WideShapes Go.ChangeAt Go.RowKit Pk

set_option maxRecDepth 100000 in
theorem returns_great (w : World) (A : Option Addr) (c : Nat) (l : List It) (s t : ByteArray) (hl : l.length ≤ 9223372036854775807) (hsl : ∀ a ∈ l, a.s.size ≤ 9223372036854775807) (hil : listAt w A l) (hg : great l = true ∨ 30000 < s.size ∨ 30000 < t.size) :
    Calls Try.prog 6 #[.slice A l.length c, .string s, .string t] w fun e w' => e = .returned (.bool true) ∧ Below w.heap.size w w' := by
  have H1 := great_any w A c l hl hsl hil
  by_cases h1 : great l = true
  · rw [h1] at H1
    have HG1 := Lib.hid H1
    clear H1 hg h1
    go_enter Try.func6, Try.ntmps6
    go_wp2_with fail
    refine (HG1.out).mono ?_
    rintro e w1 ⟨rfl, rfl⟩
    go_wp2_with fail
    refine (wakes_any _).mono ?_
    rintro e w2 ⟨rfl, hb⟩
    go_wp2
    go_ret
    exact ⟨rfl, hb⟩
  · have h1' : great l = false := by simpa using h1
    rw [h1'] at H1
    have HG1 := Lib.hid H1
    have hst : (30000 : Int) < s.size ∨ (¬ (30000 : Int) < s.size ∧ (30000 : Int) < t.size) := by
      rcases hg with h | h | h
      · exact absurd h h1
      · exact .inl (by omega)
      · omega
    clear H1 hg h1 h1'
    rcases hst with hst | ⟨hst1, hst2⟩
    all_goals
      go_enter Try.func6, Try.ntmps6
      go_wp2_with fail
      refine (HG1.out).mono ?_
      rintro e w1 ⟨rfl, rfl⟩
      go_wp2_with fail
      refine (wakes_any _).mono ?_
      rintro e w2 ⟨rfl, hb⟩
      go_wp2
      go_ret
      exact ⟨rfl, hb⟩

theorem returns_any (w : World) (A : Option Addr) (c : Nat) (l : List It) (s t : ByteArray) (hl : l.length ≤ 9223372036854775807) (hrl : ∀ a ∈ l, Rng a) (hil : listAt w A l) :
    Calls Try.prog 6 #[.slice A l.length c, .string s, .string t] w fun e w' => e = .returned (.bool true) ∧ Below w.heap.size w w' := by
  by_cases hg : great l = true ∨ 30000 < s.size ∨ 30000 < t.size
  · exact returns_great w A c l s t hl (fun a ha => (hrl a ha).s) hil hg
  · have h1 : great l = false := by simpa using fun h => hg (.inl h)
    exact returns_some w A c l s t h1 (ok_of hrl (not_great h1).2) hil (by omega) (by omega)

set_option maxRecDepth 100000 in
theorem packReturns_lifted (os : Os) (started : os.Started) (H : Type) (enc : TypeId × Value → H) :
    ReturnsInHanded {} Try.checked os 6 .any (Rows.packReturnsSpec.pre6 enc Try.prog Try.f6 Rows.packReturnsRow.domain false) (Rows.packReturnsSpec.post enc Try.prog Try.f6 false true false false) := by
  refine returnsInHanded_of_change (C := Try.checked) Try.own started (by kernel_rfl) Try.func6
    (ChangeSpec.witness6 (enc := enc) (C := Try.checked) false ⟨#[], #[.slice none 0 0, .string ⟨#[]⟩, .string ⟨#[]⟩], []⟩ 8 (by kernel_rfl) (by kernel_rfl) (by kernel_rfl) (by kernel_rfl)) ?_
  intro W base args ds gs before hval0 hW hcnd _
  have hval : ∀ (j : Nat) t v, Try.f6.params[j]? = some t → args[j]? = some v → Value.okWide Try.prog W .any base t v := hval0
  have hW' := hW
  have hlt := hW'.lt
  obtain ⟨p, q, hA0, hV, rfl, hfz, hnd⟩ := hW
  have hA : DataW.TrodAll enc Try.prog W 0 (fun _ => true) true Try.f6.params.toList args.toList ds p := hA0
  rw [Try.params6] at hA hval
  obtain ⟨v0, v1, v2, d0, d1, d2, p0, p1, p2, rfl, rfl, rfl, h0, h1, h2⟩ := trodAll_three hA
  obtain ⟨rfl, rfl⟩ := trodVars_none hV
  obtain ⟨s, rfl, rfl, rfl, ws⟩ := open_string Try.underlying9 (hval 1 9 v1 rfl rfl) h1
  obtain ⟨t, rfl, rfl, rfl, wt⟩ := open_string Try.underlying9 (hval 2 9 v2 rfl rfl) h2
  simp only [List.append_nil] at hW' hlt
  obtain ⟨A, c, l, rfl, hc, hm, hit, hr⟩ := open_items (hval 0 32 v0 rfl rfl) h0
  refine (returns_any W A c l s t (by omega) hr hit).mono fun e W' ⟨he, hw⟩ => ?_
  subst he
  have hA' := trodAll_mk3 (Below.trod Try.laidOut (by kernel_rfl) (of_decide_eq_true (by kernel_rfl)) h0 hw hlt) (shut_string (enc := enc) (P := Try.prog) (w := W') (base := 0) (sp := fun b => decide (b < W.heap.size)) (held := true) Try.underlying9 ws) (shut_string Try.underlying9 wt)
  simp only [List.append_nil] at hA'
  exact ⟨_, rfl, ⟨_, _, _, [], p0, [], hW', trodAll_mk1 (shut_bool Try.underlying4 _), hA', rfl, hw.frame _, fun h => by cases h⟩⟩

theorem packReturns_holds : Rows.PackReturnsSaid :=
  OpenClaim.holds_of_wide 6 Try.f6 rfl rfl rfl rfl rfl rfl rfl ⟨rfl, rfl, rfl, rfl, rfl⟩ rfl rfl rfl rfl rfl (by kernel_rfl) Try.func6 (by kernel_rfl)
    (of_decide_eq_true (by kernel_rfl)) (by unfold Func.isWrapper; first | (rw [if_pos (by decide +kernel)]; kernel_rfl) | (rw [if_neg (by decide +kernel)]; exact ⟨rfl, rfl⟩))
    (fun os started H enc _ => packReturns_lifted os started H enc)
#print axioms packReturns_holds
end Go.Proofs.Ytecpcaphgnapoaa
