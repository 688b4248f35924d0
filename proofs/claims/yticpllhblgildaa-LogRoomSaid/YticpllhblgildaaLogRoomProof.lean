/-
  LogRoom: the room falls by the parts of each record that fits, all others are refused, and no sector outside the log is touched. No condition. No condition.
-/
import Derived.Test.YticpllhblgildaaLgRoom
import Derived.Test.YticpllhblgildaaOpenRow
import Derived.Test.YticpllhblgildaaRows
import Derived.ProofKit
namespace Go.Proofs.Yticpllhblgildaa
open Go.ChangeMaps (open_string shut_string)
open Go.ChangeShapes Go.WideShapes Go.ChangeAt Go.RowKit

theorem logRoom_own : ownKnob Try.prog.godebug = none := by kernel_rfl
theorem logRoom_laidOut : laidOutB Try.prog = true := by kernel_rfl
set_option maxRecDepth 100000 in
theorem logRoom_lifted (os : Os) (started : os.Started) (H : Type) (enc : TypeId × Value → H) :
    ReturnsInHanded {} Try.checked os 14 .any (Rows.logRoomSpec.pre6 enc Try.prog Try.f14 Rows.logRoomRow.domain false) (Rows.logRoomSpec.post enc Try.prog Try.f14 false true false false) := by
  refine returnsInHanded_of_change (C := Try.checked) logRoom_own started (by kernel_rfl) Try.func14
    (ChangeSpec.witness6 (enc := enc) (C := Try.checked) false ⟨#[], #[.int .u8 0, .slice none 0 0], []⟩ 8 (by kernel_rfl) (by kernel_rfl) (by kernel_rfl) (by kernel_rfl)) ?_
  intro W base args ds gs before hval0 hW hcnd _
  have hval : ∀ (j : Nat) t v, Try.f14.params[j]? = some t → args[j]? = some v → Value.okWide Try.prog W .any base t v := hval0
  have hW' := hW
  obtain ⟨p, q, hA0, hV, rfl, hfz, hnd⟩ := hW
  have hA : DataW.TrodAll enc Try.prog W 0 (fun _ => true) true Try.f14.params.toList args.toList ds p := hA0
  rw [Try.params14] at hA hval
  have hlt := hW'.lt
  obtain ⟨v0, v1, d0, d1, p0, p1, rfl, rfl, rfl, h0, h1⟩ := trodAll_two hA
  obtain ⟨rfl, rfl⟩ := trodVars_none hV
  simp only [List.append_nil] at hW'
  have t0 := fun (W' : World) (hw : Below W.heap.size W W') => Below.trod (t := 5) logRoom_laidOut (by kernel_rfl) (of_decide_eq_true (by kernel_rfl)) h0 hw (fun x hx => hlt x (by simp [hx]))
  have t1 := fun (W' : World) (hw : Below W.heap.size W W') => Below.trod (t := 38) logRoom_laidOut (by kernel_rfl) (of_decide_eq_true (by kernel_rfl)) h1 hw (fun x hx => hlt x (by simp [hx]))
  obtain ⟨n0, rfl, rfl, rfl, wn0⟩ := open_int Try.underlying5 (hval 0 5 v0 rfl rfl) h0
  have e0 := Sm.byteOf_back wn0
  obtain ⟨A1, c1, l1, rfl, hl1, hsl1, hil1⟩ := St.open_strs (hval 1 38 v1 rfl rfl) h1
  have fin : ∀ e W2, (e = Ending.returned (.bool true) ∧ Below W.heap.size W W2) → ∃ v, e = .returned v ∧ Rows.logRoomSpec.post enc Try.prog Try.f14 false true false false W #[.int .u8 n0, .slice A1 l1.length c1] v W2 := fun e W2 ⟨he, hw⟩ => by
    subst he
    exact ⟨_, rfl, ⟨_, _, _, [], _, [], hW', trodAll_mk1 (shut_bool Try.underlying4 _), trodAll_mk2 (t0 W2 hw) (t1 W2 hw), rfl, hw.frame _, fun h => by cases h⟩⟩
  have M := logroom_any W (Sm.byteOf (.int .u8 n0)).toNat (UInt8.toNat_lt _) A1 c1 l1 hil1 hsl1
  rw [← e0] at M
  exact M.mono fin

theorem logRoom_holds : Rows.LogRoomSaid :=
  OpenClaim.holds_of_wide 14 Try.f14 rfl rfl rfl rfl rfl rfl rfl ⟨rfl, rfl, rfl, rfl, rfl⟩ rfl rfl rfl rfl rfl (by kernel_rfl) Try.func14 (by kernel_rfl)
    (of_decide_eq_true (by kernel_rfl)) (by unfold Func.isWrapper; first | (rw [if_pos (by decide +kernel)]; kernel_rfl) | (rw [if_neg (by decide +kernel)]; exact ⟨rfl, rfl⟩))
    (fun os started H enc _ => logRoom_lifted os started H enc)
#print axioms logRoom_holds
end Go.Proofs.Yticpllhblgildaa
