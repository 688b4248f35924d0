/-
  PackSpells: for every list of items the law answers true, and its argument reads behind the call as it read before. No condition.
-/
import Derived.Test.YtecpcaphgnapoaaRows
import Derived.Test.YtecpcaphgnapoaaOpen
namespace Go.Proofs.Ytecpcaphgnapoaa
open Go.ChangeMaps (open_string shut_string)
open Go.ChangeShapes Go.WideShapes Go.ChangeAt Go.RowKit Pk

set_option maxHeartbeats 1000000 in
theorem spells_nil (w : World) (A : Option Addr) (c : Nat) :
    Calls Try.prog 4 #[.slice A 0 c] w fun e w' => e = .returned (.bool true) ∧ Below w.heap.size w w' := by
  have hb0 : Below w.heap.size w (w.alloc (.cells #[.pointer none, .int .i64 0] 29)) := (Below.refl _ w).alloc (Nat.le_refl _) _
  go_enter Try.func4, Try.ntmps4
  go_wp2_with fail
  refine (great_none _ A c).mono ?_
  rintro e w1 ⟨rfl, rfl⟩
  go_wp2_with fail
  refine wp_loop_rounds 1 ?_
  rw [rounds_succ]
  go_wp2_with fail
  refine (oString_nil _).mono ?_
  rintro e w5 ⟨rfl, rfl⟩
  go_wp2_with fail
  refine (wakes_any _).mono ?_
  rintro e w6 ⟨rfl, hb6⟩
  go_wp2
  go_ret
  exact ⟨rfl, chainO hb0 (Nat.le_refl _) hb6⟩

theorem spells_any (w : World) (A : Option Addr) (c : Nat) (l : List It) (hc : l.length ≤ c) (hm : c ≤ 9223372036854775807) (hr : ∀ a ∈ l, Rng a) (hit : listAt w A l) :
    Calls Try.prog 4 #[.slice A l.length c] w fun e w' => e = .returned (.bool true) ∧ Below w.heap.size w w' := by
  by_cases hg : great l = true
  · exact spells_great w A c l (by omega) (fun a ha => (hr a ha).s) hit hg
  · have hg' : great l = false := by simpa using hg
    rcases hit with rfl | ⟨b, off, rfl, hb, hit⟩
    · exact spells_nil w A c
    · exact spells_some w b off c l hc hb (ok_of hr (not_great hg').2) hit hg'

set_option maxRecDepth 100000 in
theorem packSpells_lifted (os : Os) (started : os.Started) (H : Type) (enc : TypeId × Value → H) :
    ReturnsInHanded {} Try.checked os 4 .any (Rows.packSpellsSpec.pre6 enc Try.prog Try.f4 Rows.packSpellsRow.domain false) (Rows.packSpellsSpec.post enc Try.prog Try.f4 false true false false) := by
  refine returnsInHanded_of_change (C := Try.checked) Try.own started (by kernel_rfl) Try.func4
    (ChangeSpec.witness6 (enc := enc) (C := Try.checked) false ⟨#[], #[.slice none 0 0], []⟩ 8 (by kernel_rfl) (by kernel_rfl) (by kernel_rfl) (by kernel_rfl)) ?_
  intro W base args ds gs before hval0 hW hcnd _
  have hval : ∀ (j : Nat) t v, Try.f4.params[j]? = some t → args[j]? = some v → Value.okWide Try.prog W .any base t v := hval0
  have hW' := hW
  have hlt := hW'.lt
  obtain ⟨p, q, hA0, hV, rfl, hfz, hnd⟩ := hW
  have hA : DataW.TrodAll enc Try.prog W 0 (fun _ => true) true Try.f4.params.toList args.toList ds p := hA0
  rw [Try.params4] at hA hval
  obtain ⟨v0, d0, rfl, rfl, h0⟩ := trodAll_one hA
  obtain ⟨rfl, rfl⟩ := trodVars_none hV
  simp only [List.append_nil] at hW' hlt
  obtain ⟨A, c, l, rfl, hc, hm, hit, hr⟩ := open_items (hval 0 32 v0 rfl rfl) h0
  refine (spells_any W A c l hc hm hr hit).mono fun e W' ⟨he, hw⟩ => ?_
  subst he
  exact ⟨_, rfl, ⟨_, _, _, [], p, [], hW', trodAll_mk1 (shut_bool Try.underlying4 _), trodAll_mk1 (Below.trod Try.laidOut (by kernel_rfl) (of_decide_eq_true (by kernel_rfl)) h0 hw hlt), rfl, hw.frame _, fun h => by cases h⟩⟩

theorem packSpells_holds : Rows.PackSpellsSaid :=
  OpenClaim.holds_of_wide 4 Try.f4 rfl rfl rfl rfl rfl rfl rfl ⟨rfl, rfl, rfl, rfl, rfl⟩ rfl rfl rfl rfl rfl (by kernel_rfl) Try.func4 (by kernel_rfl)
    (of_decide_eq_true (by kernel_rfl)) (by unfold Func.isWrapper; first | (rw [if_pos (by decide +kernel)]; kernel_rfl) | (rw [if_neg (by decide +kernel)]; exact ⟨rfl, rfl⟩))
    (fun os started H enc _ => packSpells_lifted os started H enc)
#print axioms packSpells_holds
end Go.Proofs.Ytecpcaphgnapoaa
