/-
  BatchBytes: whether a batch is right, its bytes, and what of it is shipped, are the document's; it stays as it is. No condition.
-/
import Derived.Test.YtlndggbidmmodaaBaBytesLaw
import Derived.Test.YtlndggbidmmodaaRows
import Derived.ProofKit
namespace Go.Proofs.Ytlndggbidmmodaa
open Go.ChangeMaps (open_string shut_string)
open Go.ChangeShapes Go.WideShapes Go.ChangeAt Go.RowKit

theorem batchBytes_own : ownKnob Try.prog.godebug = none := by kernel_rfl
theorem batchBytes_laidOut : laidOutB Try.prog = true := by kernel_rfl
set_option maxRecDepth 100000 in
theorem batchBytes_lifted (os : Os) (started : os.Started) (H : Type) (enc : TypeId × Value → H) :
    ReturnsInHanded {} Try.checked os 4 .any (Rows.batchBytesSpec.pre6 enc Try.prog Try.f4 Rows.batchBytesRow.domain false) (Rows.batchBytesSpec.post enc Try.prog Try.f4 false true false false) := by
  refine returnsInHanded_of_change (C := Try.checked) batchBytes_own started (by kernel_rfl) Try.func4
    (ChangeSpec.witness6 (enc := enc) (C := Try.checked) false ⟨#[], #[.slice none 0 0, .agg #[.int .i64 0, .int .i64 0, .slice none 0 0]], []⟩ 8 (by kernel_rfl) (by kernel_rfl) (by kernel_rfl) (by kernel_rfl)) ?_
  intro W base args ds gs before hval0 hW hcnd _
  have hval : ∀ (j : Nat) t v, Try.f4.params[j]? = some t → args[j]? = some v → Value.okWide Try.prog W .any base t v := hval0
  have hW' := hW
  obtain ⟨p, q, hA0, hV, rfl, hfz, hnd⟩ := hW
  have hA : DataW.TrodAll enc Try.prog W 0 (fun _ => true) true Try.f4.params.toList args.toList ds p := hA0
  rw [Try.params4] at hA hval
  have hlt := hW'.lt
  obtain ⟨v0, v1, d0, d1, p0, p1, rfl, rfl, rfl, h0, h1⟩ := trodAll_two hA
  obtain ⟨rfl, rfl⟩ := trodVars_none hV
  simp only [List.append_nil] at hW'
  have t0 := fun (W' : World) (hw : Below W.heap.size W W') => Below.trod (t := 22) batchBytes_laidOut (by kernel_rfl) (of_decide_eq_true (by kernel_rfl)) h0 hw (fun x hx => hlt x (by simp [hx]))
  have t1 := fun (W' : World) (hw : Below W.heap.size W W') => Below.trod (t := 31) batchBytes_laidOut (by kernel_rfl) (of_decide_eq_true (by kernel_rfl)) h1 hw (fun x hx => hlt x (by simp [hx]))
  obtain ⟨A0, c0, l0, rfl, hlc0, hc0, hil0, hok0⟩ := Pa.open_mounts (hval 0 22 v0 rfl rfl) h0
  obtain ⟨x1, A1, c1, rfl, hil1, hok1⟩ := Ba.open_bt (hval 1 31 v1 rfl rfl) h1
  have fin : ∀ e W2, (e = Ending.returned (.bool true) ∧ Below W.heap.size W W2) → ∃ v, e = .returned v ∧ Rows.batchBytesSpec.post enc Try.prog Try.f4 false true false false W #[.slice A0 l0.length c0, .agg #[.int .i64 x1.ix, .int .i64 x1.ep, .slice A1 x1.ops.length c1]] v W2 := fun e W2 ⟨he, hw⟩ => by
    subst he
    exact ⟨_, rfl, ⟨_, _, _, [], _, [], hW', trodAll_mk1 (shut_bool Try.underlying4 _), trodAll_mk2 (t0 W2 hw) (t1 W2 hw), rfl, hw.frame _, fun h => by cases h⟩⟩
  exact (batchbytes_any W c0 (Nat.le_trans hlc0 hc0) hil0 x1 c1 hil1 hok1).mono fin

theorem batchBytes_holds : Rows.BatchBytesSaid :=
  OpenClaim.holds_of_wide 4 Try.f4 rfl rfl rfl rfl rfl rfl rfl ⟨rfl, rfl, rfl, rfl, rfl⟩ rfl rfl rfl rfl rfl (by kernel_rfl) Try.func4 (by kernel_rfl)
    (of_decide_eq_true (by kernel_rfl)) (by unfold Func.isWrapper; first | (rw [if_pos (by decide +kernel)]; kernel_rfl) | (rw [if_neg (by decide +kernel)]; exact ⟨rfl, rfl⟩))
    (fun os started H enc _ => batchBytes_lifted os started H enc)
#print axioms batchBytes_holds
end Go.Proofs.Ytlndggbidmmodaa
