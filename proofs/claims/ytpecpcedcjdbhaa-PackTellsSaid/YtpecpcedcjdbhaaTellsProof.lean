/-
  PackTells: for every text, every list of items, bare or not, the law answers true, and its arguments read behind the call as they read before. No condition.
-/
import Derived.Test.YtpecpcedcjdbhaaRows
import Derived.Test.YtpecpcedcjdbhaaTells
namespace Go.Proofs.Ytpecpcedcjdbhaa
open Go.ChangeMaps (open_string shut_string)
open Go.ChangeShapes Go.WideShapes Go.ChangeAt Go.RowKit Pk

set_option maxRecDepth 100000 in
theorem tells_great (w : World) (A : Option Addr) (c : Nat) (l : List It) (s : ByteArray) (b : Bool) (hl : l.length ≤ 9223372036854775807) (hsl : ∀ a ∈ l, a.s.size ≤ 9223372036854775807) (hil : listAt w A l) (hg : great l = true ∨ 30000 < s.size) :
    Calls Try.prog 5 #[.string s, .slice A l.length c, .bool b] w fun e w' => e = .returned (.bool true) ∧ Below w.heap.size w w' := by
  have H1 := great_any w A c l hl hsl hil
  by_cases h1 : great l = true
  · rw [h1] at H1
    have HG1 := Lib.hid H1
    clear H1 hg h1
    go_enter Try.func5, Try.ntmps5
    go_wp2_with fail
    refine (HG1.out).mono ?_
    rintro e w1 ⟨rfl, rfl⟩
    go_wp2_with fail
    refine (wakes_any _).mono ?_
    rintro e w2 ⟨rfl, hb⟩
    go_wp2
    go_ret
    exact ⟨rfl, hb⟩
  · have h1' : great l = false := by simpa using h1
    rw [h1'] at H1
    have HG1 := Lib.hid H1
    have hst : (30000 : Int) < s.size := by
      rcases hg with h | h
      · exact absurd h h1
      · omega
    clear H1 hg h1 h1'
    go_enter Try.func5, Try.ntmps5
    go_wp2_with fail
    refine (HG1.out).mono ?_
    rintro e w1 ⟨rfl, rfl⟩
    go_wp2_with fail
    refine (wakes_any _).mono ?_
    rintro e w2 ⟨rfl, hb⟩
    go_wp2
    go_ret
    exact ⟨rfl, hb⟩

theorem tells_any (w : World) (A : Option Addr) (c : Nat) (l : List It) (s : ByteArray) (b : Bool) (hl : l.length ≤ 9223372036854775807) (hrl : ∀ a ∈ l, Rng a) (hil : listAt w A l) :
    Calls Try.prog 5 #[.string s, .slice A l.length c, .bool b] w fun e w' => e = .returned (.bool true) ∧ Below w.heap.size w w' := by
  by_cases hg : great l = true ∨ 30000 < s.size
  · exact tells_great w A c l s b hl (fun a ha => (hrl a ha).s) hil hg
  · have h1 : great l = false := by simpa using fun h => hg (.inl h)
    cases b
    · exact tells_plain w A c l s h1 (ok_of hrl (not_great h1).2) hil (by omega)
    · exact tells_bare w A c l s h1 (ok_of hrl (not_great h1).2) hil (by omega)

set_option maxRecDepth 100000 in
theorem packTells_lifted (os : Os) (started : os.Started) (H : Type) (enc : TypeId × Value → H) :
    ReturnsInHanded {} Try.checked os 5 .any (Rows.packTellsSpec.pre6 enc Try.prog Try.f5 Rows.packTellsRow.domain false) (Rows.packTellsSpec.post enc Try.prog Try.f5 false true false false) := by
  refine returnsInHanded_of_change (C := Try.checked) Try.own started (by kernel_rfl) Try.func5
    (ChangeSpec.witness6 (enc := enc) (C := Try.checked) false ⟨#[], #[.string ⟨#[]⟩, .slice none 0 0, .bool false], []⟩ 8 (by kernel_rfl) (by kernel_rfl) (by kernel_rfl) (by kernel_rfl)) ?_
  intro W base args ds gs before hval0 hW hcnd _
  have hval : ∀ (j : Nat) t v, Try.f5.params[j]? = some t → args[j]? = some v → Value.okWide Try.prog W .any base t v := hval0
  have hW' := hW
  have hlt := hW'.lt
  obtain ⟨p, q, hA0, hV, rfl, hfz, hnd⟩ := hW
  have hA : DataW.TrodAll enc Try.prog W 0 (fun _ => true) true Try.f5.params.toList args.toList ds p := hA0
  rw [Try.params5] at hA hval
  obtain ⟨v0, v1, v2, d0, d1, d2, p0, p1, p2, rfl, rfl, rfl, h0, h1, h2⟩ := trodAll_three hA
  obtain ⟨rfl, rfl⟩ := trodVars_none hV
  obtain ⟨s, rfl, rfl, rfl, ws⟩ := open_string Try.underlying9 (hval 0 9 v0 rfl rfl) h0
  obtain ⟨x, rfl, rfl, rfl⟩ := open_bool Try.underlying4 (hval 2 4 v2 rfl rfl) h2
  simp only [List.append_nil, List.nil_append] at hW' hlt
  obtain ⟨A, c, l, rfl, hc, hm, hit, hr⟩ := open_items (hval 1 32 v1 rfl rfl) h1
  refine (tells_any W A c l s x (by omega) hr hit).mono fun e W' ⟨he, hw⟩ => ?_
  subst he
  have hA' := trodAll_mk3 (shut_string (enc := enc) (P := Try.prog) (w := W') (base := 0) (sp := fun b => decide (b < W.heap.size)) (held := true) Try.underlying9 ws) (Below.trod Try.laidOut (by kernel_rfl) (of_decide_eq_true (by kernel_rfl)) h1 hw hlt) (shut_bool Try.underlying4 x)
  simp only [List.append_nil, List.nil_append] at hA'
  exact ⟨_, rfl, ⟨_, _, _, [], p1, [], hW', trodAll_mk1 (shut_bool Try.underlying4 _), hA', rfl, hw.frame _, fun h => by cases h⟩⟩

theorem packTells_holds : Rows.PackTellsSaid :=
  OpenClaim.holds_of_wide 5 Try.f5 rfl rfl rfl rfl rfl rfl rfl ⟨rfl, rfl, rfl, rfl, rfl⟩ rfl rfl rfl rfl rfl (by kernel_rfl) Try.func5 (by kernel_rfl)
    (of_decide_eq_true (by kernel_rfl)) (by unfold Func.isWrapper; first | (rw [if_pos (by decide +kernel)]; kernel_rfl) | (rw [if_neg (by decide +kernel)]; exact ⟨rfl, rfl⟩))
    (fun os started H enc _ => packTells_lifted os started H enc)
#print axioms packTells_holds
end Go.Proofs.Ytpecpcedcjdbhaa
