/-
  BatchCut: of a batch's bytes no proper beginning is one's: it ends too early; nor are they with anything behind: bytes are left. No condition.
-/
import Derived.Test.YtlndggbidmmodaaBaCutLaw
import Derived.Test.YtlndggbidmmodaaRows
import Derived.ProofKit
namespace Go.Proofs.Ytlndggbidmmodaa
open Go.ChangeMaps (open_string shut_string)
open Go.ChangeShapes Go.WideShapes Go.ChangeAt Go.RowKit

theorem batchCut_own : ownKnob Try.prog.godebug = none := by kernel_rfl
theorem batchCut_laidOut : laidOutB Try.prog = true := by kernel_rfl
set_option maxRecDepth 100000 in
theorem batchCut_lifted (os : Os) (started : os.Started) (H : Type) (enc : TypeId × Value → H) :
    ReturnsInHanded {} Try.checked os 8 .any (Rows.batchCutSpec.pre6 enc Try.prog Try.f8 Rows.batchCutRow.domain false) (Rows.batchCutSpec.post enc Try.prog Try.f8 false true false false) := by
  refine returnsInHanded_of_change (C := Try.checked) batchCut_own started (by kernel_rfl) Try.func8
    (ChangeSpec.witness6 (enc := enc) (C := Try.checked) false ⟨#[], #[.agg #[.int .i64 0, .int .i64 0, .slice none 0 0], .int .i64 0, .string ⟨#[]⟩], []⟩ 8 (by kernel_rfl) (by kernel_rfl) (by kernel_rfl) (by kernel_rfl)) ?_
  intro W base args ds gs before hval0 hW hcnd _
  have hval : ∀ (j : Nat) t v, Try.f8.params[j]? = some t → args[j]? = some v → Value.okWide Try.prog W .any base t v := hval0
  have hW' := hW
  obtain ⟨p, q, hA0, hV, rfl, hfz, hnd⟩ := hW
  have hA : DataW.TrodAll enc Try.prog W 0 (fun _ => true) true Try.f8.params.toList args.toList ds p := hA0
  rw [Try.params8] at hA hval
  have hlt := hW'.lt
  obtain ⟨v0, v1, v2, d0, d1, d2, p0, p1, p2, rfl, rfl, rfl, h0, h1, h2⟩ := trodAll_three hA
  obtain ⟨rfl, rfl⟩ := trodVars_none hV
  simp only [List.append_nil] at hW'
  have t0 := fun (W' : World) (hw : Below W.heap.size W W') => Below.trod (t := 31) batchCut_laidOut (by kernel_rfl) (of_decide_eq_true (by kernel_rfl)) h0 hw (fun x hx => hlt x (by simp [hx]))
  have t1 := fun (W' : World) (hw : Below W.heap.size W W') => Below.trod (t := 3) batchCut_laidOut (by kernel_rfl) (of_decide_eq_true (by kernel_rfl)) h1 hw (fun x hx => hlt x (by simp [hx]))
  have t2 := fun (W' : World) (hw : Below W.heap.size W W') => Below.trod (t := 9) batchCut_laidOut (by kernel_rfl) (of_decide_eq_true (by kernel_rfl)) h2 hw (fun x hx => hlt x (by simp [hx]))
  obtain ⟨x0, A0, c0, rfl, hil0, hok0⟩ := Ba.open_bt (hval 0 31 v0 rfl rfl) h0
  obtain ⟨n1, rfl, rfl, rfl, wn1⟩ := open_int Try.underlying3 (hval 1 3 v1 rfl rfl) h1
  obtain ⟨s2, rfl, rfl, rfl, ws2⟩ := open_string Try.underlying9 (hval 2 9 v2 rfl rfl) h2
  have fin : ∀ e W2, (e = Ending.returned (.bool true) ∧ Below W.heap.size W W2) → ∃ v, e = .returned v ∧ Rows.batchCutSpec.post enc Try.prog Try.f8 false true false false W #[.agg #[.int .i64 x0.ix, .int .i64 x0.ep, .slice A0 x0.ops.length c0], .int .i64 n1, .string s2] v W2 := fun e W2 ⟨he, hw⟩ => by
    subst he
    exact ⟨_, rfl, ⟨_, _, _, [], _, [], hW', trodAll_mk1 (shut_bool Try.underlying4 _), trodAll_mk3 (t0 W2 hw) (t1 W2 hw) (t2 W2 hw), rfl, hw.frame _, fun h => by cases h⟩⟩
  exact (batchcut_any W x0 c0 hil0 hok0 n1 s2).mono fin

theorem batchCut_holds : Rows.BatchCutSaid :=
  OpenClaim.holds_of_wide 8 Try.f8 rfl rfl rfl rfl rfl rfl rfl ⟨rfl, rfl, rfl, rfl, rfl⟩ rfl rfl rfl rfl rfl (by kernel_rfl) Try.func8 (by kernel_rfl)
    (of_decide_eq_true (by kernel_rfl)) (by unfold Func.isWrapper; first | (rw [if_pos (by decide +kernel)]; kernel_rfl) | (rw [if_neg (by decide +kernel)]; exact ⟨rfl, rfl⟩))
    (fun os started H enc _ => batchCut_lifted os started H enc)
#print axioms batchCut_holds
end Go.Proofs.Ytlndggbidmmodaa
