/-
  KeptLasts: behind every crash there is what was put last, or, if a Put was broken off, that or the new one, whole. No condition.
-/
import Derived.Test.YticpllhblgildaaKpLasts
import Derived.Test.YticpllhblgildaaRows
import Derived.ProofKit
namespace Go.Proofs.Yticpllhblgildaa
open Go.ChangeMaps (open_string shut_string)
open Go.ChangeShapes Go.WideShapes Go.ChangeAt Go.RowKit

theorem keptLasts_own : ownKnob Try.prog.godebug = none := by kernel_rfl
theorem keptLasts_laidOut : laidOutB Try.prog = true := by kernel_rfl
set_option maxRecDepth 100000 in
theorem keptLasts_lifted (os : Os) (started : os.Started) (H : Type) (enc : TypeId × Value → H) :
    ReturnsInHanded {} Try.checked os 6 .any (Rows.keptLastsSpec.pre6 enc Try.prog Try.f6 Rows.keptLastsRow.domain false) (Rows.keptLastsSpec.post enc Try.prog Try.f6 false true false false) := by
  refine returnsInHanded_of_change (C := Try.checked) keptLasts_own started (by kernel_rfl) Try.func6
    (ChangeSpec.witness6 (enc := enc) (C := Try.checked) false ⟨#[], #[.slice none 0 0], []⟩ 8 (by kernel_rfl) (by kernel_rfl) (by kernel_rfl) (by kernel_rfl)) ?_
  intro W base args ds gs before hval0 hW hcnd _
  have hval : ∀ (j : Nat) t v, Try.f6.params[j]? = some t → args[j]? = some v → Value.okWide Try.prog W .any base t v := hval0
  have hW' := hW
  obtain ⟨p, q, hA0, hV, rfl, hfz, hnd⟩ := hW
  have hA : DataW.TrodAll enc Try.prog W 0 (fun _ => true) true Try.f6.params.toList args.toList ds p := hA0
  rw [Try.params6] at hA hval
  have hlt := hW'.lt
  obtain ⟨v0, d0, rfl, rfl, h0⟩ := trodAll_one hA
  obtain ⟨rfl, rfl⟩ := trodVars_none hV
  simp only [List.append_nil] at hW'
  have t0 := fun (W' : World) (hw : Below W.heap.size W W') => Below.trod (t := 36) keptLasts_laidOut (by kernel_rfl) (of_decide_eq_true (by kernel_rfl)) h0 hw (fun x hx => hlt x (by simp [hx]))
  obtain ⟨A0, c0, l0, rfl, hlc0, hc0, hil0, hok0⟩ := Kp.open_acts9 (hval 0 36 v0 rfl rfl) h0
  have fin : ∀ e W2, (e = Ending.returned (.bool true) ∧ Below W.heap.size W W2) → ∃ v, e = .returned v ∧ Rows.keptLastsSpec.post enc Try.prog Try.f6 false true false false W #[.slice A0 l0.length c0] v W2 := fun e W2 ⟨he, hw⟩ => by
    subst he
    exact ⟨_, rfl, ⟨_, _, _, [], _, [], hW', trodAll_mk1 (shut_bool Try.underlying4 _), trodAll_mk1 (t0 W2 hw), rfl, hw.frame _, fun h => by cases h⟩⟩
  exact (keptlasts_any W A0 c0 l0 (Nat.le_trans hlc0 hc0) hil0 hok0).mono fin

theorem keptLasts_holds : Rows.KeptLastsSaid :=
  OpenClaim.holds_of_wide 6 Try.f6 rfl rfl rfl rfl rfl rfl rfl ⟨rfl, rfl, rfl, rfl, rfl⟩ rfl rfl rfl rfl rfl (by kernel_rfl) Try.func6 (by kernel_rfl)
    (of_decide_eq_true (by kernel_rfl)) (by unfold Func.isWrapper; first | (rw [if_pos (by decide +kernel)]; kernel_rfl) | (rw [if_neg (by decide +kernel)]; exact ⟨rfl, rfl⟩))
    (fun os started H enc _ => keptLasts_lifted os started H enc)
#print axioms keptLasts_holds
end Go.Proofs.Yticpllhblgildaa
