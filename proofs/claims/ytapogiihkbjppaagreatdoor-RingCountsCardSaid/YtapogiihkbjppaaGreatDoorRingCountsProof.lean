/-
  What one ring wraps bears its boot, and the numbers 0, 1, 2 and so on; what could not be wrapped counts nothing. The condition is the row's own: the two listed variables hold what the program's text lays in them; the card ties that to the text.
-/
import Derived.Test.YtapogiihkbjppaaGreatDoorShLaid
import Derived.Test.YtapogiihkbjppaaGreatDoorRiCountsLaw
import Derived.Test.YtapogiihkbjppaaGreatDoorCards
import Derived.Test.YtapogiihkbjppaaGreatDoorTie
namespace Go.Proofs.YtapogiihkbjppaaGreatDoor
open Go.ChangeMaps (open_string shut_string)
open Go.ChangeShapes Go.WideShapes Go.ChangeAt Go.RowKit

set_option maxRecDepth 100000 in
theorem ringCounts_lifted (os : Os) (started : os.Started) (H : Type) (enc : TypeId × Value → H) :
    ReturnsInHanded {} Tryz.checked os 8 .any (fun w args => (Rows.ringCountsSpec.pre enc Tryz.prog Tryz.f8 [] false w args ∧ laidMetH Tryz.prog Sm.laid2 w) ∧ sizedMet enc Tryz.prog Tryz.f8 (OpenSpec.ofChange Rows.ringCountsSpec) false w args)
      (Rows.ringCountsSpec.post enc Tryz.prog Tryz.f8 false true false false) := by
  refine returnsInHanded_of_change_and (C := Tryz.checked) (X := fun w _ => laidMetH Tryz.prog Sm.laid2 w) (fun _ _ _ hh h => h.of_heap hh) Tryz.own started (by kernel_rfl) Tryz.func8
    (ChangeSpec.witness_shaped (enc := enc) (C := Tryz.checked) (os := os) (X := fun w _ => laidMetH Tryz.prog Sm.laid2 w) false (World.doorLaid Tryz.prog 19 os) #[.string ⟨#[]⟩, .int .u32 0, .slice none 0 0] 8 rfl (World.shaped_of_RefB (by kernel_rfl) (by kernel_rfl)) (by kernel_rfl) (by kernel_rfl) (by kernel_rfl) (Sm.door_met os _)) ?_
  intro W base args ds gs before hval0 hW _ _ hL _
  have hval : ∀ (j : Nat) t v, Tryz.f8.params[j]? = some t → args[j]? = some v → Value.okWide Tryz.prog W .any base t v := hval0
  have hW' := hW
  obtain ⟨p, q, hA0, hV, rfl, hfz, hnd⟩ := hW
  have hA : DataW.TrodAll enc Tryz.prog W 0 (fun _ => true) true Tryz.f8.params.toList args.toList ds p := hA0
  rw [Tryz.params8] at hA hval
  have hlt := hW'.lt
  obtain ⟨v0, v1, v2, d0, d1, d2, p0, p1, p2, rfl, rfl, rfl, h0, h1, h2⟩ := trodAll_three hA
  obtain ⟨rfl, rfl⟩ := trodVars_none hV
  have t0 := fun (W' : World) (hw : Below W.heap.size W W') => Below.trod (t := 9) Tryz.laidOut (by kernel_rfl) (of_decide_eq_true (by kernel_rfl)) h0 hw (fun x hx => hlt x (by simp [hx]))
  have t1 := fun (W' : World) (hw : Below W.heap.size W W') => Below.trod (t := 26) Tryz.laidOut (by kernel_rfl) (of_decide_eq_true (by kernel_rfl)) h1 hw (fun x hx => hlt x (by simp [hx]))
  have t2 := fun (W' : World) (hw : Below W.heap.size W W') => Below.trod (t := 35) Tryz.laidOut (by kernel_rfl) (of_decide_eq_true (by kernel_rfl)) h2 hw (fun x hx => hlt x (by simp [hx]))
  obtain ⟨s0, rfl, rfl, rfl, ws0⟩ := open_string Tryz.underlying9 (hval 0 9 v0 rfl rfl) h0
  obtain ⟨n1, rfl, rfl, rfl, wn1⟩ := open_int Tryz.underlying26 (hval 1 26 v1 rfl rfl) h1
  obtain ⟨A2, c2, l2, rfl, hl2, hc2, hsl2, hil2⟩ := Ri.open_acts (hval 2 35 v2 rfl rfl) h2
  obtain ⟨hH, hK, hsz⟩ := Sm.of_laid hL
  have fin : ∀ e W2, (e = Ending.returned (.bool true) ∧ Below W.heap.size W W2) → ∃ v, e = .returned v ∧ Rows.ringCountsSpec.post enc Tryz.prog Tryz.f8 false true false false W #[.string s0, .int .u32 n1, .slice A2 l2.length c2] v W2 := fun e W2 ⟨he, hw⟩ => by
    subst he
    exact ⟨_, rfl, ⟨_, _, _, [], _, [], hW', trodAll_mk1 (shut_bool Tryz.underlying4 _), trodAll_mk3 (t0 W2 hw) (t1 W2 hw) (t2 W2 hw), rfl, hw.frame _, fun h => by cases h⟩⟩
  have hi1 : 0 ≤ n1 ∧ n1 ≤ 4294967295 := by simpa [Lit.wf, IntKind.min, IntKind.max, IntKind.signed, IntKind.bits] using wn1
  obtain ⟨m1, rfl⟩ : ∃ m : Nat, n1 = m := ⟨n1.toNat, by omega⟩
  exact (ringCounts_any hH hK hsz s0 m1 (by omega) A2 c2 l2 (by omega) hil2 hsl2).mono fun e W2 h => fin e W2 h

theorem ringCounts_row : Rows.RingCountsSaid :=
  OpenClaim.holds_of_wide 8 Tryz.f8 rfl rfl rfl rfl rfl rfl rfl ⟨rfl, rfl, rfl, rfl, rfl⟩ rfl rfl rfl rfl rfl (by kernel_rfl) Tryz.func8 (by kernel_rfl)
    (of_decide_eq_true (by kernel_rfl)) (by unfold Func.isWrapper; first | (rw [if_pos (by decide +kernel)]; kernel_rfl) | (rw [if_neg (by decide +kernel)]; exact ⟨rfl, rfl⟩))
    (fun os started H enc _ => ringCounts_lifted os started H enc)

theorem ringCounts_holds : Rows.RingCountsCardSaid :=
  Claim7.holds_tied_plain_at .later [] [.data, .data] true (true, "392f71f407e2e20f3a98f910072e8de5b7e6cf7ce8953fcc9f20d7f2229e8e34") false
    ringCounts_row (fun _ h => by cases h) (by kernel_rfl) (fun _ h => by cases h) ringCounts_row_tie rfl ⟨rfl, rfl⟩ (by kernel_rfl) rfl
    (fun f fn hf hfn => by
      obtain rfl : f = 8 := Option.some.inj ((show Tryz.prog.funcNamed "twinlock/twinlocklaw06.RingCounts" = some 8 by kernel_rfl).symm.trans hf) |>.symm
      obtain rfl : fn = Tryz.f8 := (Option.some.inj (Tryz.func8.symm.trans hfn)).symm
      exact ⟨by kernel_rfl, fun j t ht => by
        rw [Tryz.params8] at ht
        have hm : t ∈ [9, 26, 35] := by simpa using Array.mem_of_getElem? ht
        have hall : ([9, 26, 35].all fun u => !Tryz.prog.wantsStandIn u) = true := by kernel_rfl
        exact (show Tryz.prog.wantsStandIn t = false by simpa using List.all_eq_true.1 hall t hm)⟩)
    (by kernel_rfl)
#print axioms ringCounts_holds
end Go.Proofs.YtapogiihkbjppaaGreatDoor
