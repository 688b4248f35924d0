/-
  KeptAgain: a record that is opened again, as often as one likes, keeps what was put last; each opened one may go on. No condition.
-/
import Derived.Test.YticpllhblgildaaKpAgain
import Derived.Test.YticpllhblgildaaOpenStrs
import Derived.Test.YticpllhblgildaaRows
import Derived.ProofKit
namespace Go.Proofs.Yticpllhblgildaa
open Go.ChangeMaps (open_string shut_string)
open Go.ChangeShapes Go.WideShapes Go.ChangeAt Go.RowKit

theorem keptAgain_own : ownKnob Try.prog.godebug = none := by kernel_rfl
theorem keptAgain_laidOut : laidOutB Try.prog = true := by kernel_rfl
set_option maxRecDepth 100000 in
theorem keptAgain_lifted (os : Os) (started : os.Started) (H : Type) (enc : TypeId × Value → H) :
    ReturnsInHanded {} Try.checked os 9 .any (Rows.keptAgainSpec.pre6 enc Try.prog Try.f9 Rows.keptAgainRow.domain false) (Rows.keptAgainSpec.post enc Try.prog Try.f9 false true false false) := by
  refine returnsInHanded_of_change (C := Try.checked) keptAgain_own started (by kernel_rfl) Try.func9
    (ChangeSpec.witness6 (enc := enc) (C := Try.checked) false ⟨#[], #[.slice none 0 0], []⟩ 8 (by kernel_rfl) (by kernel_rfl) (by kernel_rfl) (by kernel_rfl)) ?_
  intro W base args ds gs before hval0 hW hcnd _
  have hval : ∀ (j : Nat) t v, Try.f9.params[j]? = some t → args[j]? = some v → Value.okWide Try.prog W .any base t v := hval0
  have hW' := hW
  obtain ⟨p, q, hA0, hV, rfl, hfz, hnd⟩ := hW
  have hA : DataW.TrodAll enc Try.prog W 0 (fun _ => true) true Try.f9.params.toList args.toList ds p := hA0
  rw [Try.params9] at hA hval
  have hlt := hW'.lt
  obtain ⟨v0, d0, rfl, rfl, h0⟩ := trodAll_one hA
  obtain ⟨rfl, rfl⟩ := trodVars_none hV
  simp only [List.append_nil] at hW'
  have t0 := fun (W' : World) (hw : Below W.heap.size W W') => Below.trod (t := 38) keptAgain_laidOut (by kernel_rfl) (of_decide_eq_true (by kernel_rfl)) h0 hw (fun x hx => hlt x (by simp [hx]))
  obtain ⟨A0, c0, l0, rfl, hl0, hsl0, hil0⟩ := St.open_strs (hval 0 38 v0 rfl rfl) h0
  have fin : ∀ e W2, (e = Ending.returned (.bool true) ∧ Below W.heap.size W W2) → ∃ v, e = .returned v ∧ Rows.keptAgainSpec.post enc Try.prog Try.f9 false true false false W #[.slice A0 l0.length c0] v W2 := fun e W2 ⟨he, hw⟩ => by
    subst he
    exact ⟨_, rfl, ⟨_, _, _, [], _, [], hW', trodAll_mk1 (shut_bool Try.underlying4 _), trodAll_mk1 (t0 W2 hw), rfl, hw.frame _, fun h => by cases h⟩⟩
  exact (keptagain_any W A0 c0 l0 hsl0 hil0 hl0).mono fin

theorem keptAgain_holds : Rows.KeptAgainSaid :=
  OpenClaim.holds_of_wide 9 Try.f9 rfl rfl rfl rfl rfl rfl rfl ⟨rfl, rfl, rfl, rfl, rfl⟩ rfl rfl rfl rfl rfl (by kernel_rfl) Try.func9 (by kernel_rfl)
    (of_decide_eq_true (by kernel_rfl)) (by unfold Func.isWrapper; first | (rw [if_pos (by decide +kernel)]; kernel_rfl) | (rw [if_neg (by decide +kernel)]; exact ⟨rfl, rfl⟩))
    (fun os started H enc _ => keptAgain_lifted os started H enc)
#print axioms keptAgain_holds
end Go.Proofs.Yticpllhblgildaa
