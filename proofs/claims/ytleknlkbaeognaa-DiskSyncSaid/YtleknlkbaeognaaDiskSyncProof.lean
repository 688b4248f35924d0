/-
  DiskSync: what is synced is there behind every crash, whatever was done ahead. No condition.
-/
import Derived.Test.YtleknlkbaeognaaDkSyncLaw
import Derived.Test.YtleknlkbaeognaaOpenRow
import Derived.Test.YtleknlkbaeognaaRows
import Derived.ProofKit
namespace Go.Proofs.Ytleknlkbaeognaa
open Go.ChangeMaps (open_string shut_string)
open Go.ChangeShapes Go.WideShapes Go.ChangeAt Go.RowKit

theorem diskSync_own : ownKnob Try.prog.godebug = none := by kernel_rfl
theorem diskSync_laidOut : laidOutB Try.prog = true := by kernel_rfl
set_option maxRecDepth 100000 in
theorem diskSync_lifted (os : Os) (started : os.Started) (H : Type) (enc : TypeId × Value → H) :
    ReturnsInHanded {} Try.checked os 7 .any (Rows.diskSyncSpec.pre6 enc Try.prog Try.f7 Rows.diskSyncRow.domain false) (Rows.diskSyncSpec.post enc Try.prog Try.f7 false true false false) := by
  refine returnsInHanded_of_change (C := Try.checked) diskSync_own started (by kernel_rfl) Try.func7
    (ChangeSpec.witness6 (enc := enc) (C := Try.checked) false ⟨#[], #[.int .u8 0, .slice none 0 0, .int .u8 0, .int .u8 0, .slice none 0 0], []⟩ 8 (by kernel_rfl) (by kernel_rfl) (by kernel_rfl) (by kernel_rfl)) ?_
  intro W base args ds gs before hval0 hW hcnd _
  have hval : ∀ (j : Nat) t v, Try.f7.params[j]? = some t → args[j]? = some v → Value.okWide Try.prog W .any base t v := hval0
  have hW' := hW
  obtain ⟨p, q, hA0, hV, rfl, hfz, hnd⟩ := hW
  have hA : DataW.TrodAll enc Try.prog W 0 (fun _ => true) true Try.f7.params.toList args.toList ds p := hA0
  rw [Try.params7] at hA hval
  have hlt := hW'.lt
  obtain ⟨v0, v1, v2, v3, v4, d0, d1, d2, d3, d4, p0, p1, p2, p3, p4, rfl, rfl, rfl, h0, h1, h2, h3, h4⟩ := Sm.trodAll_five hA
  obtain ⟨rfl, rfl⟩ := trodVars_none hV
  simp only [List.append_nil] at hW'
  have t0 := fun (W' : World) (hw : Below W.heap.size W W') => Below.trod (t := 5) diskSync_laidOut (by kernel_rfl) (of_decide_eq_true (by kernel_rfl)) h0 hw (fun x hx => hlt x (by simp [hx]))
  have t1 := fun (W' : World) (hw : Below W.heap.size W W') => Below.trod (t := 39) diskSync_laidOut (by kernel_rfl) (of_decide_eq_true (by kernel_rfl)) h1 hw (fun x hx => hlt x (by simp [hx]))
  have t2 := fun (W' : World) (hw : Below W.heap.size W W') => Below.trod (t := 5) diskSync_laidOut (by kernel_rfl) (of_decide_eq_true (by kernel_rfl)) h2 hw (fun x hx => hlt x (by simp [hx]))
  have t3 := fun (W' : World) (hw : Below W.heap.size W W') => Below.trod (t := 5) diskSync_laidOut (by kernel_rfl) (of_decide_eq_true (by kernel_rfl)) h3 hw (fun x hx => hlt x (by simp [hx]))
  have t4 := fun (W' : World) (hw : Below W.heap.size W W') => Below.trod (t := 35) diskSync_laidOut (by kernel_rfl) (of_decide_eq_true (by kernel_rfl)) h4 hw (fun x hx => hlt x (by simp [hx]))
  obtain ⟨n0, rfl, rfl, rfl, wn0⟩ := open_int Try.underlying5 (hval 0 5 v0 rfl rfl) h0
  have e0 := Sm.byteOf_back wn0
  obtain ⟨A1, c1, l1, rfl, hlc1, hc1, hil1, hok1⟩ := Dk.open_acts (hval 1 39 v1 rfl rfl) h1
  obtain ⟨n2, rfl, rfl, rfl, wn2⟩ := open_int Try.underlying5 (hval 2 5 v2 rfl rfl) h2
  have e2 := Sm.byteOf_back wn2
  obtain ⟨n3, rfl, rfl, rfl, wn3⟩ := open_int Try.underlying5 (hval 3 5 v3 rfl rfl) h3
  have e3 := Sm.byteOf_back wn3
  obtain ⟨A4, c4, l4, rfl, hil4⟩ := Dk.open_ints7 (hval 4 35 v4 rfl rfl) h4
  have fin : ∀ e W2, (e = Ending.returned (.bool true) ∧ Below W.heap.size W W2) → ∃ v, e = .returned v ∧ Rows.diskSyncSpec.post enc Try.prog Try.f7 false true false false W #[.int .u8 n0, .slice A1 l1.length c1, .int .u8 n2, .int .u8 n3, .slice A4 l4.length c4] v W2 := fun e W2 ⟨he, hw⟩ => by
    subst he
    exact ⟨_, rfl, ⟨_, _, _, [], _, [], hW', trodAll_mk1 (shut_bool Try.underlying4 _), Sm.trodAll_mk5 (t0 W2 hw) (t1 W2 hw) (t2 W2 hw) (t3 W2 hw) (t4 W2 hw), rfl, hw.frame _, fun h => by cases h⟩⟩
  rw [e0, e2, e3] at *
  exact (disksync_any W _ _ _ (Nat.le_trans hlc1 hc1) hil1 hok1 hil4).mono fin

theorem diskSync_holds : Rows.DiskSyncSaid :=
  OpenClaim.holds_of_wide 7 Try.f7 rfl rfl rfl rfl rfl rfl rfl ⟨rfl, rfl, rfl, rfl, rfl⟩ rfl rfl rfl rfl rfl (by kernel_rfl) Try.func7 (by kernel_rfl)
    (of_decide_eq_true (by kernel_rfl)) (by unfold Func.isWrapper; first | (rw [if_pos (by decide +kernel)]; kernel_rfl) | (rw [if_neg (by decide +kernel)]; exact ⟨rfl, rfl⟩))
    (fun os started H enc _ => diskSync_lifted os started H enc)
#print axioms diskSync_holds
end Go.Proofs.Ytleknlkbaeognaa
