/-
  WalkNobody: for every two numbers, two hashes and row of pairs the law answers true, and its arguments read behind the call as they read before. The condition is the row's own: the two listed variables hold what the program's text lays in them; the card ties that to the text.
-/
import Derived.Test.YtiehcplepneajaaGreatDoorShLaid
import Derived.Test.YtiehcplepneajaaGreatDoorWkNobodyLaw
import Derived.Test.YtiehcplepneajaaGreatDoorShOpenHash
import Derived.Test.YtiehcplepneajaaGreatDoorMBase
import Derived.Test.YtiehcplepneajaaGreatDoorOmActs
import Derived.Test.YtiehcplepneajaaGreatDoorCards
import Derived.Test.YtiehcplepneajaaGreatDoorTie
namespace Go.Proofs.YtiehcplepneajaaGreatDoor
open Go.ChangeMaps (open_string shut_string)
open Go.ChangeShapes Go.WideShapes Go.ChangeAt Go.RowKit

set_option maxRecDepth 100000 in
theorem walkNobody_lifted (os : Os) (started : os.Started) (H : Type) (enc : TypeId × Value → H) :
    ReturnsInHanded {} Tryz.checked os 4 .any (fun w args => (Rows.walkNobodySpec.pre enc Tryz.prog Tryz.f4 [] false w args ∧ laidMetH Tryz.prog Sm.laid2 w) ∧ sizedMet enc Tryz.prog Tryz.f4 (OpenSpec.ofChange Rows.walkNobodySpec) false w args)
      (Rows.walkNobodySpec.post enc Tryz.prog Tryz.f4 false true false false) := by
  refine returnsInHanded_of_change_and (C := Tryz.checked) (X := fun w _ => laidMetH Tryz.prog Sm.laid2 w) (fun _ _ _ hh h => h.of_heap hh) Tryz.own started (by kernel_rfl) Tryz.func4
    (ChangeSpec.witness_shaped (enc := enc) (C := Tryz.checked) (os := os) (X := fun w _ => laidMetH Tryz.prog Sm.laid2 w) false (World.doorLaid Tryz.prog 19 os) #[.int .i64 0, .int .i64 0, .agg (List.replicate 32 (.int .u8 0)).toArray, .agg (List.replicate 32 (.int .u8 0)).toArray, .slice none 0 0] 8 rfl (World.shaped_of_RefB (by kernel_rfl) (by kernel_rfl)) (by kernel_rfl) (by kernel_rfl) (by kernel_rfl) (Sm.door_met os _)) ?_
  intro W base args ds gs before hval0 hW _ _ hL _
  have hval : ∀ (j : Nat) t v, Tryz.f4.params[j]? = some t → args[j]? = some v → Value.okWide Tryz.prog W .any base t v := hval0
  have hW' := hW
  obtain ⟨p, q, hA0, hV, rfl, hfz, hnd⟩ := hW
  have hA : DataW.TrodAll enc Tryz.prog W 0 (fun _ => true) true Tryz.f4.params.toList args.toList ds p := hA0
  rw [Tryz.params4] at hA hval
  have hlt := hW'.lt
  obtain ⟨v0, v1, v2, v3, v4, d0, d1, d2, d3, d4, p0, p1, p2, p3, p4, rfl, rfl, rfl, h0, h1, h2, h3, h4⟩ := Sm.trodAll_five hA
  obtain ⟨rfl, rfl⟩ := trodVars_none hV
  have t0 := fun (W' : World) (hw : Below W.heap.size W W') => Below.trod (t := 3) Tryz.laidOut (by kernel_rfl) (of_decide_eq_true (by kernel_rfl)) h0 hw (fun x hx => hlt x (by simp [hx]))
  have t1 := fun (W' : World) (hw : Below W.heap.size W W') => Below.trod (t := 3) Tryz.laidOut (by kernel_rfl) (of_decide_eq_true (by kernel_rfl)) h1 hw (fun x hx => hlt x (by simp [hx]))
  have t2 := fun (W' : World) (hw : Below W.heap.size W W') => Below.trod (t := 36) Tryz.laidOut (by kernel_rfl) (of_decide_eq_true (by kernel_rfl)) h2 hw (fun x hx => hlt x (by simp [hx]))
  have t3 := fun (W' : World) (hw : Below W.heap.size W W') => Below.trod (t := 36) Tryz.laidOut (by kernel_rfl) (of_decide_eq_true (by kernel_rfl)) h3 hw (fun x hx => hlt x (by simp [hx]))
  have t4 := fun (W' : World) (hw : Below W.heap.size W W') => Below.trod (t := 22) Tryz.laidOut (by kernel_rfl) (of_decide_eq_true (by kernel_rfl)) h4 hw (fun x hx => hlt x (by simp [hx]))
  obtain ⟨n0, rfl, rfl, rfl, wn0⟩ := open_int Tryz.underlying3 (hval 0 3 v0 rfl rfl) h0
  obtain ⟨n1, rfl, rfl, rfl, wn1⟩ := open_int Tryz.underlying3 (hval 1 3 v1 rfl rfl) h1
  obtain ⟨l2, hl2, rfl⟩ := Sm.open_hash Tryz.underlying36 (show Tryz.prog.cellsOf 5 = 1 by kernel_rfl) (show Tryz.prog.cellsOf 36 = 32 by kernel_rfl) (hval 2 36 v2 rfl rfl) h2
  obtain ⟨l3, hl3, rfl⟩ := Sm.open_hash Tryz.underlying36 (show Tryz.prog.cellsOf 5 = 1 by kernel_rfl) (show Tryz.prog.cellsOf 36 = 32 by kernel_rfl) (hval 3 36 v3 rfl rfl) h3
  obtain ⟨A4, c4, l4, rfl, hl4, hil4, hok4⟩ := Om.open_prs (hval 4 22 v4 rfl rfl) h4
  obtain ⟨hH, hK, hsz⟩ := Sm.of_laid hL
  have fin : ∀ e W2, (e = Ending.returned (.bool true) ∧ Below W.heap.size W W2) → ∃ v, e = .returned v ∧ Rows.walkNobodySpec.post enc Tryz.prog Tryz.f4 false true false false W #[.int .i64 n0, .int .i64 n1, .agg (Lib.byteCells l2).toArray, .agg (Lib.byteCells l3).toArray, .slice A4 l4.length c4] v W2 := fun e W2 ⟨he, hw⟩ => by
    subst he
    exact ⟨_, rfl, ⟨_, _, _, [], _, [], hW', trodAll_mk1 (shut_bool Tryz.underlying4 _), Sm.trodAll_mk5 (t0 W2 hw) (t1 W2 hw) (t2 W2 hw) (t3 W2 hw) (t4 W2 hw), rfl, hw.frame _, fun h => by cases h⟩⟩
  exact (walkNobody_any ⟨hH, hK, hsz⟩ n0 n1 hl2 hl3 c4 hil4).mono fun e W2 h => fin e W2 h

theorem walkNobody_row : Rows.WalkNobodySaid :=
  OpenClaim.holds_of_wide 4 Tryz.f4 rfl rfl rfl rfl rfl rfl rfl ⟨rfl, rfl, rfl, rfl, rfl⟩ rfl rfl rfl rfl rfl (by kernel_rfl) Tryz.func4 (by kernel_rfl)
    (of_decide_eq_true (by kernel_rfl)) (by unfold Func.isWrapper; first | (rw [if_pos (by decide +kernel)]; kernel_rfl) | (rw [if_neg (by decide +kernel)]; exact ⟨rfl, rfl⟩))
    (fun os started H enc _ => walkNobody_lifted os started H enc)

theorem walkNobody_holds : Rows.WalkNobodyCardSaid :=
  Claim7.holds_tied_plain_at .later [] [.data, .data] true (true, "f8931eccb57cb17666cd6908a1225bff7da5dfc1eadf2744edfb2c3050a1b32a") false
    walkNobody_row (fun _ h => by cases h) (by kernel_rfl) (fun _ h => by cases h) walkNobody_row_tie rfl ⟨rfl, rfl⟩ (by kernel_rfl) rfl
    (fun f fn hf hfn => by
      obtain rfl : f = 4 := Option.some.inj ((show Tryz.prog.funcNamed "twinlock/twinlocklaw16.WalkNobody" = some 4 by kernel_rfl).symm.trans hf) |>.symm
      obtain rfl : fn = Tryz.f4 := (Option.some.inj (Tryz.func4.symm.trans hfn)).symm
      exact ⟨by kernel_rfl, fun j t ht => by
        rw [Tryz.params4] at ht
        have hm : t ∈ [3, 3, 36, 36, 22] := by simpa using Array.mem_of_getElem? ht
        have hall : ([3, 3, 36, 36, 22].all fun u => !Tryz.prog.wantsStandIn u) = true := by kernel_rfl
        exact (show Tryz.prog.wantsStandIn t = false by simpa using List.all_eq_true.1 hall t hm)⟩)
    (by kernel_rfl)
#print axioms walkNobody_holds
end Go.Proofs.YtiehcplepneajaaGreatDoor
