/-
  ShaTwin: for every text and all pieces the law answers true, and its arguments read behind the call as they read before. The condition is the row's own: the two listed variables hold what the program's text lays in them; the card ties that to the text.
-/
import Derived.Test.YtfnnoennmlnjeaaDoorShLaid
import Derived.Test.YtfnnoennmlnjeaaDoorShTwinLaw
import Derived.Test.YtfnnoennmlnjeaaDoorCards
import Derived.Test.YtfnnoennmlnjeaaDoorTie
namespace Go.Proofs.YtfnnoennmlnjeaaDoor
open Go.ChangeMaps (open_string shut_string)
open Go.ChangeShapes Go.WideShapes Go.ChangeAt Go.RowKit

theorem empty_small : ByteArray.empty.size ≤ 9223372036854775807 := by decide
theorem cells_str : Tryd.prog.cellsOf 9 = 1 := by kernel_rfl
/-- The pieces, opened. -/
theorem open_pieces {H : Type} {enc : TypeId × Value → H} {W : World} {sp : Nat → Bool} {held : Bool} {b0 : Nat} {r : Reach} {v : Value} {d : DataW H} {ps : List MemPlace}
    (hval : Value.okWide Tryd.prog W r b0 39 v) (h : DataW.Trod enc Tryd.prog W 0 sp held 39 v d ps) :
    ∃ A c l, v = .slice A l.length c ∧ l.length ≤ 9223372036854775807 ∧ (∀ i, (l.getD i ByteArray.empty).size ≤ 9223372036854775807) ∧ Sm.strsAt W A l := by
  obtain ⟨A, len, cap, rfl⟩ := okWide_slice Tryd.underlying39 hval
  obtain ⟨fuel, hf⟩ := h
  rcases open_strings Tryd.underlying39 Tryd.underlying9 cells_str hf with ⟨hcs, _⟩ | ⟨a, len', cap', ss, hcs, _, hl, hm, hz, _, hcell, hws⟩
  · simp [Value.cells] at hcs
    obtain ⟨rfl, rfl, rfl⟩ := hcs
    exact ⟨none, 0, [], rfl, by decide, by intro i; rw [List.getD_nil]; exact empty_small, .inl rfl⟩
  · simp [Value.cells] at hcs
    obtain ⟨rfl, rfl, rfl⟩ := hcs
    have hml : len ≤ ss.length := by rw [hz]; split <;> omega
    unfold maxLen at hm hws
    have hlen : (ss.take len).length = len := by rw [List.length_take]; omega
    have hget : ∀ i, i < len → (ss.take len).getD i ByteArray.empty = ss.getD i ByteArray.empty := fun i hi => by
      rw [List.getD_eq_getElem?_getD, List.getD_eq_getElem?_getD, List.getElem?_take, if_pos hi]
    refine ⟨some a, cap, ss.take len, by rw [hlen], by omega, fun i => ?_, ?_⟩
    · by_cases hi : i < len
      · rw [hget i hi, List.getD_eq_getElem?_getD, List.getElem?_eq_getElem (by omega)]
        have := hws _ (List.getElem_mem (show i < ss.length by omega))
        simp only [Option.getD_some]
        omega
      · rw [List.getD_eq_getElem?_getD, List.getElem?_eq_none (by omega)]
        exact empty_small
    · by_cases h0 : len = 0
      · subst h0; exact .inl (by simp)
      · obtain ⟨b, off, spot⟩ := a
        have hc0 := hcell 0 (by omega)
        have hspot : spot = none := by simpa [Addr.add] using World.cell?_spot hc0
        subst hspot
        have hlt := World.block_lt_of_cell? W _ hc0
        refine .inr ⟨b, off, rfl, by simpa [Addr.add] using hlt, fun i hi => ?_⟩
        rw [hlen] at hi
        have := hcell i (by omega)
        rw [Addr.add_mid] at this
        rw [hget i hi]
        exact this

set_option maxRecDepth 100000 in
theorem shaTwin_lifted (os : Os) (started : os.Started) (H : Type) (enc : TypeId × Value → H) :
    ReturnsInHanded {} Tryd.checked os 8 .any (fun w args => (Rows.shaTwinSpec.pre enc Tryd.prog Tryd.f8 [] false w args ∧ laidMetH Tryd.prog Sm.laid2 w) ∧ sizedMet enc Tryd.prog Tryd.f8 (OpenSpec.ofChange Rows.shaTwinSpec) false w args)
      (Rows.shaTwinSpec.post enc Tryd.prog Tryd.f8 false true false false) := by
  refine returnsInHanded_of_change_and (C := Tryd.checked) (X := fun w _ => laidMetH Tryd.prog Sm.laid2 w) (fun _ _ _ hh h => h.of_heap hh) Tryd.own started (by kernel_rfl) Tryd.func8
    (ChangeSpec.witness_shaped (enc := enc) (C := Tryd.checked) (os := os) (X := fun w _ => laidMetH Tryd.prog Sm.laid2 w) false (World.doorLaid Tryd.prog 19 os) #[.string ⟨#[]⟩, .slice none 0 0] 8 rfl (World.shaped_of_RefB (by kernel_rfl) (by kernel_rfl)) (by kernel_rfl) (by kernel_rfl) (by kernel_rfl) (Sm.door_met os _)) ?_
  intro W base args ds gs before hval0 hW _ _ hL _
  have hval : ∀ (j : Nat) t v, Tryd.f8.params[j]? = some t → args[j]? = some v → Value.okWide Tryd.prog W .any base t v := hval0
  have hW' := hW
  obtain ⟨p, q, hA0, hV, rfl, hfz, hnd⟩ := hW
  have hA : DataW.TrodAll enc Tryd.prog W 0 (fun _ => true) true Tryd.f8.params.toList args.toList ds p := hA0
  rw [Tryd.params8] at hA hval
  have hlt := hW'.lt
  obtain ⟨v0, v1, d0, d1, p0, p1, rfl, rfl, rfl, h0, h1⟩ := trodAll_two hA
  obtain ⟨rfl, rfl⟩ := trodVars_none hV
  obtain ⟨s, rfl, rfl, rfl, ws⟩ := open_string Tryd.underlying9 (hval 0 9 v0 rfl rfl) h0
  obtain ⟨hH, hK, hsz⟩ := Sm.of_laid hL
  simp only [List.append_nil, List.nil_append] at hW' hlt
  obtain ⟨A, c, l, rfl, hl, hsl, hil⟩ := open_pieces (hval 1 39 v1 rfl rfl) h1
  have fin : ∀ e W', (e = Ending.returned (.bool true) ∧ Below W.heap.size W W') → ∃ v, e = .returned v ∧ Rows.shaTwinSpec.post enc Tryd.prog Tryd.f8 false true false false W #[.string s, .slice A l.length c] v W' := fun e W' ⟨he, hw⟩ => by
    subst he
    have hA' := trodAll_mk2 (shut_string (enc := enc) (P := Tryd.prog) (w := W') (base := 0) (sp := fun b => decide (b < W.heap.size)) (held := true) Tryd.underlying9 ws) (Below.trod Tryd.laidOut (by kernel_rfl) (of_decide_eq_true (by kernel_rfl)) h1 hw hlt)
    simp only [List.nil_append] at hA'
    exact ⟨_, rfl, ⟨_, _, _, [], p1, [], hW', trodAll_mk1 (shut_bool Tryd.underlying4 _), hA', rfl, hw.frame _, fun h => by cases h⟩⟩
  by_cases hg : 20000 < s.size
  · exact (twinlaw_long hH hK hsz s hg A l.length c).mono fun e W' h => fin e W' h
  · exact (twinlaw_any hH hK hsz s hg A c l hl hsl hil).mono fun e W' h => fin e W' h

theorem shaTwin_row : Rows.ShaTwinSaid :=
  OpenClaim.holds_of_wide 8 Tryd.f8 rfl rfl rfl rfl rfl rfl rfl ⟨rfl, rfl, rfl, rfl, rfl⟩ rfl rfl rfl rfl rfl (by kernel_rfl) Tryd.func8 (by kernel_rfl)
    (of_decide_eq_true (by kernel_rfl)) (by unfold Func.isWrapper; first | (rw [if_pos (by decide +kernel)]; kernel_rfl) | (rw [if_neg (by decide +kernel)]; exact ⟨rfl, rfl⟩))
    (fun os started H enc _ => shaTwin_lifted os started H enc)

theorem shaTwin_holds : Rows.ShaTwinCardSaid :=
  Claim7.holds_tied_plain_at .later [] [.data, .data] true (true, "3b8671e5f2ca530c203112c820ca18c3ad279818729cdff014cbceec7edb3499") false
    shaTwin_row (fun _ h => by cases h) (by kernel_rfl) (fun _ h => by cases h) shaTwin_row_tie rfl ⟨rfl, rfl⟩ (by kernel_rfl) rfl
    (fun f fn hf hfn => by
      obtain rfl : f = 8 := Option.some.inj ((show Tryd.prog.funcNamed "twinlock/twinlocklaw02.ShaTwin" = some 8 by kernel_rfl).symm.trans hf) |>.symm
      obtain rfl : fn = Tryd.f8 := (Option.some.inj (Tryd.func8.symm.trans hfn)).symm
      exact ⟨by kernel_rfl, fun j t ht => by
        rw [Tryd.params8] at ht
        have hm : t ∈ [9, 39] := by simpa using Array.mem_of_getElem? ht
        have hall : ([9, 39].all fun u => !Tryd.prog.wantsStandIn u) = true := by kernel_rfl
        exact (show Tryd.prog.wantsStandIn t = false by simpa using List.all_eq_true.1 hall t hm)⟩)
    (by kernel_rfl)
#print axioms shaTwin_holds
end Go.Proofs.YtfnnoennmlnjeaaDoor
