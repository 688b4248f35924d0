/-
  AesCounts: for every key, nonce and number of blocks the law answers true, and its arguments read behind the call as they read before. No condition.
-/
import Derived.Test.YtkannddaihlcdaaRows
import Derived.Test.YtkannddaihlcdaaAeCountsLaw
import Derived.Test.YtkannddaihlcdaaOpenRow
import Derived.ProofKit
namespace Go.Proofs.Ytkannddaihlcdaa
open Go.ChangeMaps (open_string shut_string)
open Go.ChangeShapes Go.WideShapes Go.ChangeAt Go.RowKit

theorem aesCounts_own : ownKnob Try.prog.godebug = none := by kernel_rfl
theorem aesCounts_laidOut : laidOutB Try.prog = true := by kernel_rfl
set_option maxRecDepth 100000 in
theorem aesCounts_lifted (os : Os) (started : os.Started) (H : Type) (enc : TypeId × Value → H) :
    ReturnsInHanded {} Try.checked os 8 .any (Rows.aesCountsSpec.pre6 enc Try.prog Try.f8 Rows.aesCountsRow.domain false) (Rows.aesCountsSpec.post enc Try.prog Try.f8 false true false false) := by
  refine returnsInHanded_of_change (C := Try.checked) aesCounts_own started (by kernel_rfl) Try.func8
    (ChangeSpec.witness6 (enc := enc) (C := Try.checked) false ⟨#[], #[.agg (List.replicate 32 (.int .u8 0)).toArray, .agg (List.replicate 12 (.int .u8 0)).toArray, .int .u8 0], []⟩ 8 (by kernel_rfl) (by kernel_rfl) (by kernel_rfl) (by kernel_rfl)) ?_
  intro W base args ds gs before hval0 hW hcnd _
  have hval : ∀ (j : Nat) t v, Try.f8.params[j]? = some t → args[j]? = some v → Value.okWide Try.prog W .any base t v := hval0
  have hW' := hW
  obtain ⟨p, q, hA0, hV, rfl, hfz, hnd⟩ := hW
  have hA : DataW.TrodAll enc Try.prog W 0 (fun _ => true) true Try.f8.params.toList args.toList ds p := hA0
  rw [Try.params8] at hA hval
  have hlt := hW'.lt
  obtain ⟨v0, v1, v2, d0, d1, d2, p0, p1, p2, rfl, rfl, rfl, h0, h1, h2⟩ := trodAll_three hA
  obtain ⟨rfl, rfl⟩ := trodVars_none hV
  simp only [List.append_nil] at hW'
  have t0 := fun (W' : World) (hw : Below W.heap.size W W') => Below.trod (t := 25) aesCounts_laidOut (by kernel_rfl) (of_decide_eq_true (by kernel_rfl)) h0 hw (fun x hx => hlt x (by simp [hx]))
  have t1 := fun (W' : World) (hw : Below W.heap.size W W') => Below.trod (t := 29) aesCounts_laidOut (by kernel_rfl) (of_decide_eq_true (by kernel_rfl)) h1 hw (fun x hx => hlt x (by simp [hx]))
  have t2 := fun (W' : World) (hw : Below W.heap.size W W') => Below.trod (t := 5) aesCounts_laidOut (by kernel_rfl) (of_decide_eq_true (by kernel_rfl)) h2 hw (fun x hx => hlt x (by simp [hx]))
  obtain ⟨l0, hl0, rfl⟩ := Sm.open_row 32 Try.underlying25 (show Try.prog.cellsOf 5 = 1 by kernel_rfl) (show Try.prog.cellsOf 25 = 32 by kernel_rfl) (hval 0 25 v0 rfl rfl) h0
  obtain ⟨l1, hl1, rfl⟩ := Sm.open_row 12 Try.underlying29 (show Try.prog.cellsOf 5 = 1 by kernel_rfl) (show Try.prog.cellsOf 29 = 12 by kernel_rfl) (hval 1 29 v1 rfl rfl) h1
  obtain ⟨n2, rfl, rfl, rfl, wn2⟩ := open_int Try.underlying5 (hval 2 5 v2 rfl rfl) h2
  have e2 := Sm.byteOf_back wn2
  have fin : ∀ e W2, (e = Ending.returned (.bool true) ∧ Below W.heap.size W W2) → ∃ v, e = .returned v ∧ Rows.aesCountsSpec.post enc Try.prog Try.f8 false true false false W #[.agg (Lib.byteCells l0).toArray, .agg (Lib.byteCells l1).toArray, .int .u8 n2] v W2 := fun e W2 ⟨he, hw⟩ => by
    subst he
    exact ⟨_, rfl, ⟨_, _, _, [], _, [], hW', trodAll_mk1 (shut_bool Try.underlying4 _), trodAll_mk3 (t0 W2 hw) (t1 W2 hw) (t2 W2 hw), rfl, hw.frame _, fun h => by cases h⟩⟩
  have M := aesCounts_any W l0 l1 hl0 hl1 (Sm.byteOf (.int .u8 n2))
  rw [← e2] at M
  exact M.mono fun e W2 h => fin e W2 h

theorem aesCounts_holds : Rows.AesCountsSaid :=
  OpenClaim.holds_of_wide 8 Try.f8 rfl rfl rfl rfl rfl rfl rfl ⟨rfl, rfl, rfl, rfl, rfl⟩ rfl rfl rfl rfl rfl (by kernel_rfl) Try.func8 (by kernel_rfl)
    (of_decide_eq_true (by kernel_rfl)) (by unfold Func.isWrapper; first | (rw [if_pos (by decide +kernel)]; kernel_rfl) | (rw [if_neg (by decide +kernel)]; exact ⟨rfl, rfl⟩))
    (fun os started H enc _ => aesCounts_lifted os started H enc)
#print axioms aesCounts_holds
end Go.Proofs.Ytkannddaihlcdaa
