/-
  MacKeys: for every key and label the law answers true, and its arguments read behind the call as they read before. The condition is the row's own: the two listed variables hold what the program's text lays in them; the card ties that to the text.
-/
import Derived.Test.YtkijdpgdniaagaaDoorShLaid
import Derived.Test.YtkijdpgdniaagaaDoorMcKeysLaw
import Derived.Test.YtkijdpgdniaagaaDoorShOpenHash
import Derived.Test.YtkijdpgdniaagaaDoorCards
import Derived.Test.YtkijdpgdniaagaaDoorTie
namespace Go.Proofs.YtkijdpgdniaagaaDoor
open Go.ChangeMaps (open_string shut_string)
open Go.ChangeShapes Go.WideShapes Go.ChangeAt Go.RowKit

set_option maxRecDepth 100000 in
theorem macKeys_lifted (os : Os) (started : os.Started) (H : Type) (enc : TypeId × Value → H) :
    ReturnsInHanded {} Tryd.checked os 10 .any (fun w args => (Rows.macKeysSpec.pre enc Tryd.prog Tryd.f10 [] false w args ∧ laidMetH Tryd.prog Sm.laid2 w) ∧ sizedMet enc Tryd.prog Tryd.f10 (OpenSpec.ofChange Rows.macKeysSpec) false w args)
      (Rows.macKeysSpec.post enc Tryd.prog Tryd.f10 false true false false) := by
  refine returnsInHanded_of_change_and (C := Tryd.checked) (X := fun w _ => laidMetH Tryd.prog Sm.laid2 w) (fun _ _ _ hh h => h.of_heap hh) Tryd.own started (by kernel_rfl) Tryd.func10
    (ChangeSpec.witness_shaped (enc := enc) (C := Tryd.checked) (os := os) (X := fun w _ => laidMetH Tryd.prog Sm.laid2 w) false (World.doorLaid Tryd.prog 19 os) #[.agg (List.replicate 32 (.int .u8 0)).toArray, .string ⟨#[]⟩] 8 rfl (World.shaped_of_RefB (by kernel_rfl) (by kernel_rfl)) (by kernel_rfl) (by kernel_rfl) (by kernel_rfl) (Sm.door_met os _)) ?_
  intro W base args ds gs before hval0 hW _ _ hL _
  have hval : ∀ (j : Nat) t v, Tryd.f10.params[j]? = some t → args[j]? = some v → Value.okWide Tryd.prog W .any base t v := hval0
  have hW' := hW
  obtain ⟨p, q, hA0, hV, rfl, hfz, hnd⟩ := hW
  have hA : DataW.TrodAll enc Tryd.prog W 0 (fun _ => true) true Tryd.f10.params.toList args.toList ds p := hA0
  rw [Tryd.params10] at hA hval
  have hlt := hW'.lt
  obtain ⟨v0, v1, d0, d1, p0, p1, rfl, rfl, rfl, h0, h1⟩ := trodAll_two hA
  obtain ⟨rfl, rfl⟩ := trodVars_none hV
  have t0 := fun (W' : World) (hw : Below W.heap.size W W') => Below.trod (t := 45) Tryd.laidOut (by kernel_rfl) (of_decide_eq_true (by kernel_rfl)) h0 hw (fun x hx => hlt x (by simp [hx]))
  have t1 := fun (W' : World) (hw : Below W.heap.size W W') => Below.trod (t := 9) Tryd.laidOut (by kernel_rfl) (of_decide_eq_true (by kernel_rfl)) h1 hw (fun x hx => hlt x (by simp [hx]))
  obtain ⟨l0, hl0, rfl⟩ := Sm.open_hash Tryd.underlying45 (show Tryd.prog.cellsOf 5 = 1 by kernel_rfl) (show Tryd.prog.cellsOf 45 = 32 by kernel_rfl) (hval 0 45 v0 rfl rfl) h0
  obtain ⟨s1, rfl, rfl, rfl, ws1⟩ := open_string Tryd.underlying9 (hval 1 9 v1 rfl rfl) h1
  obtain ⟨hH, hK, hsz⟩ := Sm.of_laid hL
  have fin : ∀ e W2, (e = Ending.returned (.bool true) ∧ Below W.heap.size W W2) → ∃ v, e = .returned v ∧ Rows.macKeysSpec.post enc Tryd.prog Tryd.f10 false true false false W #[.agg (Lib.byteCells l0).toArray, .string s1] v W2 := fun e W2 ⟨he, hw⟩ => by
    subst he
    exact ⟨_, rfl, ⟨_, _, _, [], _, [], hW', trodAll_mk1 (shut_bool Tryd.underlying4 _), trodAll_mk2 (t0 W2 hw) (t1 W2 hw), rfl, hw.frame _, fun h => by cases h⟩⟩
  by_cases hg : 3000 < s1.size
  · exact (keys_great hH hK hsz l0 s1 hg).mono fun e W2 h => fin e W2 h
  · exact (keys_any hH hK hsz l0 hl0 s1 hg).mono fun e W2 h => fin e W2 h

theorem macKeys_row : Rows.MacKeysSaid :=
  OpenClaim.holds_of_wide 10 Tryd.f10 rfl rfl rfl rfl rfl rfl rfl ⟨rfl, rfl, rfl, rfl, rfl⟩ rfl rfl rfl rfl rfl (by kernel_rfl) Tryd.func10 (by kernel_rfl)
    (of_decide_eq_true (by kernel_rfl)) (by unfold Func.isWrapper; first | (rw [if_pos (by decide +kernel)]; kernel_rfl) | (rw [if_neg (by decide +kernel)]; exact ⟨rfl, rfl⟩))
    (fun os started H enc _ => macKeys_lifted os started H enc)

theorem macKeys_holds : Rows.MacKeysCardSaid :=
  Claim7.holds_tied_plain_at .later [] [.data, .data] true (true, "a332aa8d40b9406829396b9f79347fda003ad8b01a3b0c887f767f4d41db46a2") false
    macKeys_row (fun _ h => by cases h) (by kernel_rfl) (fun _ h => by cases h) macKeys_row_tie rfl ⟨rfl, rfl⟩ (by kernel_rfl) rfl
    (fun f fn hf hfn => by
      obtain rfl : f = 10 := Option.some.inj ((show Tryd.prog.funcNamed "twinlock/twinlocklaw03.MacKeys" = some 10 by kernel_rfl).symm.trans hf) |>.symm
      obtain rfl : fn = Tryd.f10 := (Option.some.inj (Tryd.func10.symm.trans hfn)).symm
      exact ⟨by kernel_rfl, fun j t ht => by
        rw [Tryd.params10] at ht
        have hm : t ∈ [45, 9] := by simpa using Array.mem_of_getElem? ht
        have hall : ([45, 9].all fun u => !Tryd.prog.wantsStandIn u) = true := by kernel_rfl
        exact (show Tryd.prog.wantsStandIn t = false by simpa using List.all_eq_true.1 hall t hm)⟩)
    (by kernel_rfl)
#print axioms macKeys_holds
end Go.Proofs.YtkijdpgdniaagaaDoor
