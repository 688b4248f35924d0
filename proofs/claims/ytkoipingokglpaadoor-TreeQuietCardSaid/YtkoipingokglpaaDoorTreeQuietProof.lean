/-
  TreeQuiet: for every row of acts and every act the law answers true, and its arguments read behind the call as they read before. The condition is the row's own: the two listed variables hold what the program's text lays in them; the card ties that to the text.
-/
import Derived.Test.YtkoipingokglpaaDoorShLaid
import Derived.Test.YtkoipingokglpaaDoorTrQuietLaw
import Derived.Test.YtkoipingokglpaaDoorTrE
import Derived.Test.YtkoipingokglpaaDoorCards
import Derived.Test.YtkoipingokglpaaDoorTie
namespace Go.Proofs.YtkoipingokglpaaDoor
open Go.ChangeMaps (open_string shut_string)
open Go.ChangeShapes Go.WideShapes Go.ChangeAt Go.RowKit

set_option maxRecDepth 100000 in
theorem treeQuiet_lifted (os : Os) (started : os.Started) (H : Type) (enc : TypeId × Value → H) :
    ReturnsInHanded {} Tryd.checked os 7 .any (fun w args => (Rows.treeQuietSpec.pre enc Tryd.prog Tryd.f7 [] false w args ∧ laidMetH Tryd.prog Sm.laid2 w) ∧ sizedMet enc Tryd.prog Tryd.f7 (OpenSpec.ofChange Rows.treeQuietSpec) false w args)
      (Rows.treeQuietSpec.post enc Tryd.prog Tryd.f7 false true false false) := by
  refine returnsInHanded_of_change_and (C := Tryd.checked) (X := fun w _ => laidMetH Tryd.prog Sm.laid2 w) (fun _ _ _ hh h => h.of_heap hh) Tryd.own started (by kernel_rfl) Tryd.func7
    (ChangeSpec.witness_shaped (enc := enc) (C := Tryd.checked) (os := os) (X := fun w _ => laidMetH Tryd.prog Sm.laid2 w) false (World.doorLaid Tryd.prog 19 os) #[.slice none 0 0, .agg #[.int .u8 0, .string ⟨#[]⟩, .string ⟨#[]⟩]] 8 rfl (World.shaped_of_RefB (by kernel_rfl) (by kernel_rfl)) (by kernel_rfl) (by kernel_rfl) (by kernel_rfl) (Sm.door_met os _)) ?_
  intro W base args ds gs before hval0 hW _ _ hL _
  have hval : ∀ (j : Nat) t v, Tryd.f7.params[j]? = some t → args[j]? = some v → Value.okWide Tryd.prog W .any base t v := hval0
  have hW' := hW
  obtain ⟨p, q, hA0, hV, rfl, hfz, hnd⟩ := hW
  have hA : DataW.TrodAll enc Tryd.prog W 0 (fun _ => true) true Tryd.f7.params.toList args.toList ds p := hA0
  rw [Tryd.params7] at hA hval
  have hlt := hW'.lt
  obtain ⟨v0, v1, d0, d1, p0, p1, rfl, rfl, rfl, h0, h1⟩ := trodAll_two hA
  obtain ⟨rfl, rfl⟩ := trodVars_none hV
  have t0 := fun (W' : World) (hw : Below W.heap.size W W') => Below.trod (t := 44) Tryd.laidOut (by kernel_rfl) (of_decide_eq_true (by kernel_rfl)) h0 hw (fun x hx => hlt x (by simp [hx]))
  have t1 := fun (W' : World) (hw : Below W.heap.size W W') => Below.trod (t := 53) Tryd.laidOut (by kernel_rfl) (of_decide_eq_true (by kernel_rfl)) h1 hw (fun x hx => hlt x (by simp [hx]))
  obtain ⟨A0, c0, l0, rfl, hl0, hil0, hok0⟩ := Tr.open_acs (hval 0 44 v0 rfl rfl) h0
  obtain ⟨a1, rfl, hok1⟩ := Tr.open_ac (hval 1 53 v1 rfl rfl) h1
  obtain ⟨hH, hK, hsz⟩ := Sm.of_laid hL
  have fin : ∀ e W2, (e = Ending.returned (.bool true) ∧ Below W.heap.size W W2) → ∃ v, e = .returned v ∧ Rows.treeQuietSpec.post enc Tryd.prog Tryd.f7 false true false false W #[.slice A0 l0.length c0, .agg #[.int .u8 (a1.d : Int), .string a1.p, .string a1.v]] v W2 := fun e W2 ⟨he, hw⟩ => by
    subst he
    exact ⟨_, rfl, ⟨_, _, _, [], _, [], hW', trodAll_mk1 (shut_bool Tryd.underlying4 _), trodAll_mk2 (t0 W2 hw) (t1 W2 hw), rfl, hw.frame _, fun h => by cases h⟩⟩
  exact (treeQuiet_any ⟨hH, hK, hsz⟩ c0 hil0 a1 hok1).mono fun e W2 h => fin e W2 h

theorem treeQuiet_row : Rows.TreeQuietSaid :=
  OpenClaim.holds_of_wide 7 Tryd.f7 rfl rfl rfl rfl rfl rfl rfl ⟨rfl, rfl, rfl, rfl, rfl⟩ rfl rfl rfl rfl rfl (by kernel_rfl) Tryd.func7 (by kernel_rfl)
    (of_decide_eq_true (by kernel_rfl)) (by unfold Func.isWrapper; first | (rw [if_pos (by decide +kernel)]; kernel_rfl) | (rw [if_neg (by decide +kernel)]; exact ⟨rfl, rfl⟩))
    (fun os started H enc _ => treeQuiet_lifted os started H enc)

theorem treeQuiet_holds : Rows.TreeQuietCardSaid :=
  Claim7.holds_tied_plain_at .later [] [.data, .data] true (true, "5691d363ba182d9958887843bb969d9a43d0d151c273b9946942d6d501856da6") false
    treeQuiet_row (fun _ h => by cases h) (by kernel_rfl) (fun _ h => by cases h) treeQuiet_row_tie rfl ⟨rfl, rfl⟩ (by kernel_rfl) rfl
    (fun f fn hf hfn => by
      obtain rfl : f = 7 := Option.some.inj ((show Tryd.prog.funcNamed "twinlock/twinlocklaw15.TreeQuiet" = some 7 by kernel_rfl).symm.trans hf) |>.symm
      obtain rfl : fn = Tryd.f7 := (Option.some.inj (Tryd.func7.symm.trans hfn)).symm
      exact ⟨by kernel_rfl, fun j t ht => by
        rw [Tryd.params7] at ht
        have hm : t ∈ [44, 53] := by simpa using Array.mem_of_getElem? ht
        have hall : ([44, 53].all fun u => !Tryd.prog.wantsStandIn u) = true := by kernel_rfl
        exact (show Tryd.prog.wantsStandIn t = false by simpa using List.all_eq_true.1 hall t hm)⟩)
    (by kernel_rfl)
#print axioms treeQuiet_holds
end Go.Proofs.YtkoipingokglpaaDoor
