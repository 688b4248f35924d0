/-
  What a ring wrapped it opens ever after, rotated or not; so does another ring of the same master that has come as far; one that has not come as far refuses. The condition is the row's own: the two listed variables hold what the program's text lays in them; the card ties that to the text.
-/
import Derived.Test.YtapogiihkbjppaaGreatDoorShLaid
import Derived.Test.YtapogiihkbjppaaGreatDoorRiLastsLaw
import Derived.Test.YtapogiihkbjppaaGreatDoorSeOpenArg
import Derived.Test.YtapogiihkbjppaaGreatDoorRiTrod
import Derived.Test.YtapogiihkbjppaaGreatDoorMBase
import Derived.Test.YtapogiihkbjppaaGreatDoorCards
import Derived.Test.YtapogiihkbjppaaGreatDoorTie
namespace Go.Proofs.YtapogiihkbjppaaGreatDoor
open Go.ChangeMaps (open_string shut_string)
open Go.ChangeShapes Go.WideShapes Go.ChangeAt Go.RowKit

set_option maxRecDepth 100000 in
theorem ringLasts_lifted (os : Os) (started : os.Started) (H : Type) (enc : TypeId × Value → H) :
    ReturnsInHanded {} Tryz.checked os 7 .any (fun w args => (Rows.ringLastsSpec.pre enc Tryz.prog Tryz.f7 [] false w args ∧ laidMetH Tryz.prog Sm.laid2 w) ∧ sizedMet enc Tryz.prog Tryz.f7 (OpenSpec.ofChange Rows.ringLastsSpec) false w args)
      (Rows.ringLastsSpec.post enc Tryz.prog Tryz.f7 false true false false) := by
  refine returnsInHanded_of_change_and (C := Tryz.checked) (X := fun w _ => laidMetH Tryz.prog Sm.laid2 w) (fun _ _ _ hh h => h.of_heap hh) Tryz.own started (by kernel_rfl) Tryz.func7
    (ChangeSpec.witness_shaped (enc := enc) (C := Tryz.checked) (os := os) (X := fun w _ => laidMetH Tryz.prog Sm.laid2 w) false (World.doorLaid Tryz.prog 19 os) #[.string ⟨#[]⟩, .int .i64 0, .int .u32 0, .int .u32 0, .slice none 0 0, .slice none 0 0, .string ⟨#[]⟩] 8 rfl (World.shaped_of_RefB (by kernel_rfl) (by kernel_rfl)) (by kernel_rfl) (by kernel_rfl) (by kernel_rfl) (Sm.door_met os _)) ?_
  intro W base args ds gs before hval0 hW _ _ hL _
  have hval : ∀ (j : Nat) t v, Tryz.f7.params[j]? = some t → args[j]? = some v → Value.okWide Tryz.prog W .any base t v := hval0
  have hW' := hW
  obtain ⟨p, q, hA0, hV, rfl, hfz, hnd⟩ := hW
  have hA : DataW.TrodAll enc Tryz.prog W 0 (fun _ => true) true Tryz.f7.params.toList args.toList ds p := hA0
  rw [Tryz.params7] at hA hval
  have hlt := hW'.lt
  obtain ⟨v0, v1, v2, v3, v4, v5, v6, d0, d1, d2, d3, d4, d5, d6, p0, p1, p2, p3, p4, p5, p6, rfl, rfl, rfl, h0, h1, h2, h3, h4, h5, h6⟩ := Ri.trodAll_seven hA
  obtain ⟨rfl, rfl⟩ := trodVars_none hV
  have t0 := fun (W' : World) (hw : Below W.heap.size W W') => Below.trod (t := 9) Tryz.laidOut (by kernel_rfl) (of_decide_eq_true (by kernel_rfl)) h0 hw (fun x hx => hlt x (by simp [hx]))
  have t1 := fun (W' : World) (hw : Below W.heap.size W W') => Below.trod (t := 3) Tryz.laidOut (by kernel_rfl) (of_decide_eq_true (by kernel_rfl)) h1 hw (fun x hx => hlt x (by simp [hx]))
  have t2 := fun (W' : World) (hw : Below W.heap.size W W') => Below.trod (t := 26) Tryz.laidOut (by kernel_rfl) (of_decide_eq_true (by kernel_rfl)) h2 hw (fun x hx => hlt x (by simp [hx]))
  have t3 := fun (W' : World) (hw : Below W.heap.size W W') => Below.trod (t := 26) Tryz.laidOut (by kernel_rfl) (of_decide_eq_true (by kernel_rfl)) h3 hw (fun x hx => hlt x (by simp [hx]))
  have t4 := fun (W' : World) (hw : Below W.heap.size W W') => Below.trod (t := 39) Tryz.laidOut (by kernel_rfl) (of_decide_eq_true (by kernel_rfl)) h4 hw (fun x hx => hlt x (by simp [hx]))
  have t5 := fun (W' : World) (hw : Below W.heap.size W W') => Below.trod (t := 69) Tryz.laidOut (by kernel_rfl) (of_decide_eq_true (by kernel_rfl)) h5 hw (fun x hx => hlt x (by simp [hx]))
  have t6 := fun (W' : World) (hw : Below W.heap.size W W') => Below.trod (t := 9) Tryz.laidOut (by kernel_rfl) (of_decide_eq_true (by kernel_rfl)) h6 hw (fun x hx => hlt x (by simp [hx]))
  obtain ⟨s0, rfl, rfl, rfl, ws0⟩ := open_string Tryz.underlying9 (hval 0 9 v0 rfl rfl) h0
  obtain ⟨n1, rfl, rfl, rfl, wn1⟩ := open_int Tryz.underlying3 (hval 1 3 v1 rfl rfl) h1
  obtain ⟨n2, rfl, rfl, rfl, wn2⟩ := open_int Tryz.underlying26 (hval 2 26 v2 rfl rfl) h2
  obtain ⟨n3, rfl, rfl, rfl, wn3⟩ := open_int Tryz.underlying26 (hval 3 26 v3 rfl rfl) h3
  obtain ⟨A4, c4, l4, rfl, hl4, hsl4, hil4⟩ := Ri.open_strs (hval 4 39 v4 rfl rfl) h4
  obtain ⟨A5, c5, l5, rfl, hl5, hil5⟩ := Ri.open_u8s (hval 5 69 v5 rfl rfl) h5
  obtain ⟨s6, rfl, rfl, rfl, ws6⟩ := open_string Tryz.underlying9 (hval 6 9 v6 rfl rfl) h6
  obtain ⟨hH, hK, hsz⟩ := Sm.of_laid hL
  have fin : ∀ e W2, (e = Ending.returned (.bool true) ∧ Below W.heap.size W W2) → ∃ v, e = .returned v ∧ Rows.ringLastsSpec.post enc Tryz.prog Tryz.f7 false true false false W #[.string s0, .int .i64 n1, .int .u32 n2, .int .u32 n3, .slice A4 l4.length c4, .slice A5 l5.length c5, .string s6] v W2 := fun e W2 ⟨he, hw⟩ => by
    subst he
    exact ⟨_, rfl, ⟨_, _, _, [], _, [], hW', trodAll_mk1 (shut_bool Tryz.underlying4 _), Ri.trodAll_mk7 (t0 W2 hw) (t1 W2 hw) (t2 W2 hw) (t3 W2 hw) (t4 W2 hw) (t5 W2 hw) (t6 W2 hw), rfl, hw.frame _, fun h => by cases h⟩⟩
  have hi2 : 0 ≤ n2 ∧ n2 ≤ 4294967295 := by simpa [Lit.wf, IntKind.min, IntKind.max, IntKind.signed, IntKind.bits] using wn2
  have hi3 : 0 ≤ n3 ∧ n3 ≤ 4294967295 := by simpa [Lit.wf, IntKind.min, IntKind.max, IntKind.signed, IntKind.bits] using wn3
  obtain ⟨m2, rfl⟩ : ∃ m : Nat, n2 = m := ⟨n2.toNat, by omega⟩
  obtain ⟨m3, rfl⟩ : ∃ m : Nat, n3 = m := ⟨n3.toNat, by omega⟩
  exact (ringLasts_any hH hK hsz s0 n1 m2 m3 (by omega) A4 c4 l4 hl4 hsl4 hil4 A5 c5 l5 hl5 hil5 s6).mono fun e W2 h => fin e W2 h

theorem ringLasts_row : Rows.RingLastsSaid :=
  OpenClaim.holds_of_wide 7 Tryz.f7 rfl rfl rfl rfl rfl rfl rfl ⟨rfl, rfl, rfl, rfl, rfl⟩ rfl rfl rfl rfl rfl (by kernel_rfl) Tryz.func7 (by kernel_rfl)
    (of_decide_eq_true (by kernel_rfl)) (by unfold Func.isWrapper; first | (rw [if_pos (by decide +kernel)]; kernel_rfl) | (rw [if_neg (by decide +kernel)]; exact ⟨rfl, rfl⟩))
    (fun os started H enc _ => ringLasts_lifted os started H enc)

theorem ringLasts_holds : Rows.RingLastsCardSaid :=
  Claim7.holds_tied_plain_at .later [] [.data, .data] true (true, "392f71f407e2e20f3a98f910072e8de5b7e6cf7ce8953fcc9f20d7f2229e8e34") false
    ringLasts_row (fun _ h => by cases h) (by kernel_rfl) (fun _ h => by cases h) ringLasts_row_tie rfl ⟨rfl, rfl⟩ (by kernel_rfl) rfl
    (fun f fn hf hfn => by
      obtain rfl : f = 7 := Option.some.inj ((show Tryz.prog.funcNamed "twinlock/twinlocklaw06.RingLasts" = some 7 by kernel_rfl).symm.trans hf) |>.symm
      obtain rfl : fn = Tryz.f7 := (Option.some.inj (Tryz.func7.symm.trans hfn)).symm
      exact ⟨by kernel_rfl, fun j t ht => by
        rw [Tryz.params7] at ht
        have hm : t ∈ [9, 3, 26, 26, 39, 69, 9] := by simpa using Array.mem_of_getElem? ht
        have hall : ([9, 3, 26, 26, 39, 69, 9].all fun u => !Tryz.prog.wantsStandIn u) = true := by kernel_rfl
        exact (show Tryz.prog.wantsStandIn t = false by simpa using List.all_eq_true.1 hall t hm)⟩)
    (by kernel_rfl)
#print axioms ringLasts_holds
end Go.Proofs.YtapogiihkbjppaaGreatDoor
