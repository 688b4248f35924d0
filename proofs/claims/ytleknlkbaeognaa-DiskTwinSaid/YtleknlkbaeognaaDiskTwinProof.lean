/-
  DiskTwin: a twin is the same, and goes its own way. No condition.
-/
import Derived.Test.YtleknlkbaeognaaDkTwinLaw
import Derived.Test.YtleknlkbaeognaaOpenRow
import Derived.Test.YtleknlkbaeognaaRows
import Derived.ProofKit
namespace Go.Proofs.Ytleknlkbaeognaa
open Go.ChangeMaps (open_string shut_string)
open Go.ChangeShapes Go.WideShapes Go.ChangeAt Go.RowKit

theorem diskTwin_own : ownKnob Try.prog.godebug = none := by kernel_rfl
theorem diskTwin_laidOut : laidOutB Try.prog = true := by kernel_rfl
set_option maxRecDepth 100000 in
theorem diskTwin_lifted (os : Os) (started : os.Started) (H : Type) (enc : TypeId × Value → H) :
    ReturnsInHanded {} Try.checked os 9 .any (Rows.diskTwinSpec.pre6 enc Try.prog Try.f9 Rows.diskTwinRow.domain false) (Rows.diskTwinSpec.post enc Try.prog Try.f9 false true false false) := by
  refine returnsInHanded_of_change (C := Try.checked) diskTwin_own started (by kernel_rfl) Try.func9
    (ChangeSpec.witness6 (enc := enc) (C := Try.checked) false ⟨#[], #[.int .u8 0, .slice none 0 0, .slice none 0 0, .slice none 0 0], []⟩ 8 (by kernel_rfl) (by kernel_rfl) (by kernel_rfl) (by kernel_rfl)) ?_
  intro W base args ds gs before hval0 hW hcnd _
  have hval : ∀ (j : Nat) t v, Try.f9.params[j]? = some t → args[j]? = some v → Value.okWide Try.prog W .any base t v := hval0
  have hW' := hW
  obtain ⟨p, q, hA0, hV, rfl, hfz, hnd⟩ := hW
  have hA : DataW.TrodAll enc Try.prog W 0 (fun _ => true) true Try.f9.params.toList args.toList ds p := hA0
  rw [Try.params9] at hA hval
  have hlt := hW'.lt
  obtain ⟨v0, v1, v2, v3, d0, d1, d2, d3, p0, p1, p2, p3, rfl, rfl, rfl, h0, h1, h2, h3⟩ := trodAll_four hA
  obtain ⟨rfl, rfl⟩ := trodVars_none hV
  simp only [List.append_nil] at hW'
  have t0 := fun (W' : World) (hw : Below W.heap.size W W') => Below.trod (t := 5) diskTwin_laidOut (by kernel_rfl) (of_decide_eq_true (by kernel_rfl)) h0 hw (fun x hx => hlt x (by simp [hx]))
  have t1 := fun (W' : World) (hw : Below W.heap.size W W') => Below.trod (t := 39) diskTwin_laidOut (by kernel_rfl) (of_decide_eq_true (by kernel_rfl)) h1 hw (fun x hx => hlt x (by simp [hx]))
  have t2 := fun (W' : World) (hw : Below W.heap.size W W') => Below.trod (t := 39) diskTwin_laidOut (by kernel_rfl) (of_decide_eq_true (by kernel_rfl)) h2 hw (fun x hx => hlt x (by simp [hx]))
  have t3 := fun (W' : World) (hw : Below W.heap.size W W') => Below.trod (t := 39) diskTwin_laidOut (by kernel_rfl) (of_decide_eq_true (by kernel_rfl)) h3 hw (fun x hx => hlt x (by simp [hx]))
  obtain ⟨n0, rfl, rfl, rfl, wn0⟩ := open_int Try.underlying5 (hval 0 5 v0 rfl rfl) h0
  have e0 := Sm.byteOf_back wn0
  obtain ⟨A1, c1, l1, rfl, hlc1, hc1, hil1, hok1⟩ := Dk.open_acts (hval 1 39 v1 rfl rfl) h1
  obtain ⟨A2, c2, l2, rfl, hlc2, hc2, hil2, hok2⟩ := Dk.open_acts (hval 2 39 v2 rfl rfl) h2
  obtain ⟨A3, c3, l3, rfl, hlc3, hc3, hil3, hok3⟩ := Dk.open_acts (hval 3 39 v3 rfl rfl) h3
  have fin : ∀ e W2, (e = Ending.returned (.bool true) ∧ Below W.heap.size W W2) → ∃ v, e = .returned v ∧ Rows.diskTwinSpec.post enc Try.prog Try.f9 false true false false W #[.int .u8 n0, .slice A1 l1.length c1, .slice A2 l2.length c2, .slice A3 l3.length c3] v W2 := fun e W2 ⟨he, hw⟩ => by
    subst he
    exact ⟨_, rfl, ⟨_, _, _, [], _, [], hW', trodAll_mk1 (shut_bool Try.underlying4 _), trodAll_mk4 (t0 W2 hw) (t1 W2 hw) (t2 W2 hw) (t3 W2 hw), rfl, hw.frame _, fun h => by cases h⟩⟩
  rw [e0] at *
  exact (disktwin_any W _ ⟨hlc1, hc1⟩ ⟨hlc2, hc2⟩ ⟨hlc3, hc3⟩ hil1 hil2 hil3 hok1 hok2 hok3).mono fin

theorem diskTwin_holds : Rows.DiskTwinSaid :=
  OpenClaim.holds_of_wide 9 Try.f9 rfl rfl rfl rfl rfl rfl rfl ⟨rfl, rfl, rfl, rfl, rfl⟩ rfl rfl rfl rfl rfl (by kernel_rfl) Try.func9 (by kernel_rfl)
    (of_decide_eq_true (by kernel_rfl)) (by unfold Func.isWrapper; first | (rw [if_pos (by decide +kernel)]; kernel_rfl) | (rw [if_neg (by decide +kernel)]; exact ⟨rfl, rfl⟩))
    (fun os started H enc _ => diskTwin_lifted os started H enc)
#print axioms diskTwin_holds
end Go.Proofs.Ytleknlkbaeognaa
