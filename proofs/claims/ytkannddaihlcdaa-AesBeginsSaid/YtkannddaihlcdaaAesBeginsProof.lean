/-
  AesBegins: for every key, nonce, two texts and any place the law answers true, and its arguments read behind the call as they read before. No condition.
-/
import Derived.Test.YtkannddaihlcdaaRows
import Derived.Test.YtkannddaihlcdaaAeBeginsLaw
import Derived.Test.YtkannddaihlcdaaOpenRow
import Derived.ProofKit
namespace Go.Proofs.Ytkannddaihlcdaa
open Go.ChangeMaps (open_string shut_string)
open Go.ChangeShapes Go.WideShapes Go.ChangeAt Go.RowKit

theorem aesBegins_own : ownKnob Try.prog.godebug = none := by kernel_rfl
theorem aesBegins_laidOut : laidOutB Try.prog = true := by kernel_rfl
set_option maxRecDepth 100000 in
theorem aesBegins_lifted (os : Os) (started : os.Started) (H : Type) (enc : TypeId × Value → H) :
    ReturnsInHanded {} Try.checked os 7 .any (Rows.aesBeginsSpec.pre6 enc Try.prog Try.f7 Rows.aesBeginsRow.domain false) (Rows.aesBeginsSpec.post enc Try.prog Try.f7 false true false false) := by
  refine returnsInHanded_of_change (C := Try.checked) aesBegins_own started (by kernel_rfl) Try.func7
    (ChangeSpec.witness6 (enc := enc) (C := Try.checked) false ⟨#[], #[.agg (List.replicate 32 (.int .u8 0)).toArray, .agg (List.replicate 12 (.int .u8 0)).toArray, .string ⟨#[]⟩, .string ⟨#[]⟩, .int .u16 0], []⟩ 8 (by kernel_rfl) (by kernel_rfl) (by kernel_rfl) (by kernel_rfl)) ?_
  intro W base args ds gs before hval0 hW hcnd _
  have hval : ∀ (j : Nat) t v, Try.f7.params[j]? = some t → args[j]? = some v → Value.okWide Try.prog W .any base t v := hval0
  have hW' := hW
  obtain ⟨p, q, hA0, hV, rfl, hfz, hnd⟩ := hW
  have hA : DataW.TrodAll enc Try.prog W 0 (fun _ => true) true Try.f7.params.toList args.toList ds p := hA0
  rw [Try.params7] at hA hval
  have hlt := hW'.lt
  obtain ⟨v0, v1, v2, v3, v4, d0, d1, d2, d3, d4, p0, p1, p2, p3, p4, rfl, rfl, rfl, h0, h1, h2, h3, h4⟩ := Sm.trodAll_five hA
  obtain ⟨rfl, rfl⟩ := trodVars_none hV
  simp only [List.append_nil] at hW'
  have t0 := fun (W' : World) (hw : Below W.heap.size W W') => Below.trod (t := 25) aesBegins_laidOut (by kernel_rfl) (of_decide_eq_true (by kernel_rfl)) h0 hw (fun x hx => hlt x (by simp [hx]))
  have t1 := fun (W' : World) (hw : Below W.heap.size W W') => Below.trod (t := 29) aesBegins_laidOut (by kernel_rfl) (of_decide_eq_true (by kernel_rfl)) h1 hw (fun x hx => hlt x (by simp [hx]))
  have t2 := fun (W' : World) (hw : Below W.heap.size W W') => Below.trod (t := 9) aesBegins_laidOut (by kernel_rfl) (of_decide_eq_true (by kernel_rfl)) h2 hw (fun x hx => hlt x (by simp [hx]))
  have t3 := fun (W' : World) (hw : Below W.heap.size W W') => Below.trod (t := 9) aesBegins_laidOut (by kernel_rfl) (of_decide_eq_true (by kernel_rfl)) h3 hw (fun x hx => hlt x (by simp [hx]))
  have t4 := fun (W' : World) (hw : Below W.heap.size W W') => Below.trod (t := 34) aesBegins_laidOut (by kernel_rfl) (of_decide_eq_true (by kernel_rfl)) h4 hw (fun x hx => hlt x (by simp [hx]))
  obtain ⟨l0, hl0, rfl⟩ := Sm.open_row 32 Try.underlying25 (show Try.prog.cellsOf 5 = 1 by kernel_rfl) (show Try.prog.cellsOf 25 = 32 by kernel_rfl) (hval 0 25 v0 rfl rfl) h0
  obtain ⟨l1, hl1, rfl⟩ := Sm.open_row 12 Try.underlying29 (show Try.prog.cellsOf 5 = 1 by kernel_rfl) (show Try.prog.cellsOf 29 = 12 by kernel_rfl) (hval 1 29 v1 rfl rfl) h1
  obtain ⟨s2, rfl, rfl, rfl, ws2⟩ := open_string Try.underlying9 (hval 2 9 v2 rfl rfl) h2
  obtain ⟨s3, rfl, rfl, rfl, ws3⟩ := open_string Try.underlying9 (hval 3 9 v3 rfl rfl) h3
  obtain ⟨n4, rfl, rfl, rfl, wn4⟩ := open_int Try.underlying34 (hval 4 34 v4 rfl rfl) h4
  have fin : ∀ e W2, (e = Ending.returned (.bool true) ∧ Below W.heap.size W W2) → ∃ v, e = .returned v ∧ Rows.aesBeginsSpec.post enc Try.prog Try.f7 false true false false W #[.agg (Lib.byteCells l0).toArray, .agg (Lib.byteCells l1).toArray, .string s2, .string s3, .int .u16 n4] v W2 := fun e W2 ⟨he, hw⟩ => by
    subst he
    exact ⟨_, rfl, ⟨_, _, _, [], _, [], hW', trodAll_mk1 (shut_bool Try.underlying4 _), Sm.trodAll_mk5 (t0 W2 hw) (t1 W2 hw) (t2 W2 hw) (t3 W2 hw) (t4 W2 hw), rfl, hw.frame _, fun h => by cases h⟩⟩
  have hu : 0 ≤ n4 ∧ n4 ≤ 65535 := by simpa [Lit.wf, IntKind.min, IntKind.max, IntKind.signed, IntKind.bits] using wn4
  obtain ⟨m, rfl⟩ : ∃ m : Nat, n4 = m := ⟨n4.toNat, by omega⟩
  exact (aesBegins_any W l0 l1 hl0 hl1 s2 s3 m (by omega)).mono fun e W2 h => fin e W2 h

theorem aesBegins_holds : Rows.AesBeginsSaid :=
  OpenClaim.holds_of_wide 7 Try.f7 rfl rfl rfl rfl rfl rfl rfl ⟨rfl, rfl, rfl, rfl, rfl⟩ rfl rfl rfl rfl rfl (by kernel_rfl) Try.func7 (by kernel_rfl)
    (of_decide_eq_true (by kernel_rfl)) (by unfold Func.isWrapper; first | (rw [if_pos (by decide +kernel)]; kernel_rfl) | (rw [if_neg (by decide +kernel)]; exact ⟨rfl, rfl⟩))
    (fun os started H enc _ => aesBegins_lifted os started H enc)
#print axioms aesBegins_holds
end Go.Proofs.Ytkannddaihlcdaa
