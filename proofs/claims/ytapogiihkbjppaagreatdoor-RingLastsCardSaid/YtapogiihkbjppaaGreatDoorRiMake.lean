/-
  ring's key: the function that makes it, handed to its Once.
-/
import Derived.Test.YtapogiihkbjppaaGreatDoorRiKey
import Derived.Test.YtapogiihkbjppaaGreatDoorRiOnce
namespace Go.Proofs.YtapogiihkbjppaaGreatDoor
open Go.RowKit
namespace Ri
theorem types_made : 22 ≠ 113 ∧ 3 ≠ 113 ∧ 106 ≠ 113 ∧ 66 ≠ 113 := by decide
end Ri
set_option maxRecDepth 100000 in
set_option maxHeartbeats 1600000 in
theorem rgMake_any {w : World} (hH : Sm.HAt w) (hK : Sm.KAt w) (hsz : 1 < w.heap.size) {pr pi pk r g : Nat} (M : ByteArray) (hM : M.size ≤ 1152921504606846976) (i : Int) {cg cr : Array Value}
    (h1 : w.heap[pr]? = some (.cells #[.pointer (some ⟨r, 0, none⟩)] 22 (0, 0))) (h2 : w.heap[pi]? = some (.cells #[.int .i64 i] 3 (0, 0))) (h3 : w.heap[pk]? = some (.cells #[.pointer (some ⟨g, 0, none⟩)] 106 (0, 0)))
    (h4 : w.heap[r]? = some (.cells cr 66 (0, 0))) (hcr : cr[0]? = some (.string M)) (h5 : w.heap[g]? = some (.cells cg 113 (0, 0))) (hcg : cg.size = 35) :
    Calls Tryz.prog 54 #[.pointer (some ⟨pr, 0, none⟩), .pointer (some ⟨pi, 0, none⟩), .pointer (some ⟨pk, 0, none⟩)] w fun e w' => e = .returned (.tuple #[]) ∧
      w'.heap[g]? = some (.cells (cg.toList.take 3 ++ Lib.byteCells (Ri.key M.data.toList i)).toArray 113 (0, 0)) ∧ w.grownBy w' (some g) := by
  have HH := Lib.hid hH
  have HK := Lib.hid hK
  obtain ⟨N, hN⟩ : ∃ N, N = w.heap.size := ⟨_, rfl⟩
  have l1 := Sm.lt_of h1
  have l2 := Sm.lt_of h2
  have l3 := Sm.lt_of h3
  have l4 := Sm.lt_of h4
  have l5 := Sm.lt_of h5
  have n1 := Ri.ne_type h1 h5 Ri.types_made.1
  have n2 := Ri.ne_type h2 h5 Ri.types_made.2.1
  have n3 := Ri.ne_type h3 h5 Ri.types_made.2.2.1
  have n4 := Ri.ne_type h4 h5 Ri.types_made.2.2.2
  obtain ⟨co, hco⟩ : ∃ c, c = Lib.byteCells (Ri.key M.data.toList i) := ⟨_, rfl⟩
  have hcol : co.length = 32 := by rw [hco, Lib.byteCells_length, Ri.key_length]
  have hone : co.toArray.all (·.oneCell') = true := by rw [hco]; exact Sm.bytes_one _
  have hick := Ri.infoKey hcol
  have KEY : Hid (∀ wx : World, Sm.HAt wx → Sm.KAt wx → 1 < wx.heap.size → Calls Tryz.prog 21 #[.string M, .int .i64 i] wx fun e w' => e = .returned (.agg co.toArray) ∧ Below wx.heap.size wx w') := fun wx a b c => by
    rw [hco]; exact rgKey_any a b c M hM i
  rw [← hco]
  have H1 : Hid (w.drew.heap[pr]? = some (.cells #[.pointer (some ⟨r, 0, none⟩)] 22 (0, 0))) := h1
  have H2 : Hid (w.drew.heap[pi]? = some (.cells #[.int .i64 i] 3 (0, 0))) := h2
  have H3 : Hid (w.drew.heap[pk]? = some (.cells #[.pointer (some ⟨g, 0, none⟩)] 106 (0, 0))) := h3
  have H4 : Hid (w.drew.heap[r]? = some (.cells cr 66 (0, 0))) := h4
  have H5 : Hid (w.drew.heap[g]? = some (.cells cg 113 (0, 0))) := h5
  have HCR := Lib.hid hcr
  have HN := Lib.hid hN
  have HHd : Hid (Sm.HAt w.drew) := hH
  have HKd : Hid (Sm.KAt w.drew) := hK
  have hszd : 1 < w.drew.heap.size := hsz
  clear h1 h2 h3 h4 h5 hcr hco hN hH hK
  go_enter Tryz.func54, Tryz.ntmps54
  go_wp2_with fail
  refine wp_region_held_drew (S := fun w' => w'.heap[pr]? = some (.cells #[.pointer (some ⟨r, 0, none⟩)] 22 (0, 0)) ∧ w'.heap[pi]? = some (.cells #[.int .i64 i] 3 (0, 0)) ∧ w'.heap[pk]? = some (.cells #[.pointer (some ⟨g, 0, none⟩)] 106 (0, 0)) ∧ w'.heap[r]? = some (.cells cr 66 (0, 0))) (by kernel_rfl) ⟨H1.out, H2.out, H3.out, H4.out⟩ (fun hHeld => ?_)
  refine wpAnyH_take (i := 0) (oi := ⟨some 3, _, _, _, _, _⟩) (v := .pointer (some ⟨g, 0, none⟩)) rfl (by kernel_rfl) (by kernel_rfl) (by kernel_rfl) (fun _ _ _ h => h) (Or.inl ⟨by rfl, ?_⟩) (by assumption) ?_
  · intro w hSw; (try dsimp only at hSw); have c := Sm.cells_of hSw.2.2.1 0 _ rfl; go_simp
  simp only [Act.put, List.setIfInBounds_toArray, List.set_cons_zero, List.set_cons_succ]
  refine wpAnyH_take (i := 1) (oi := ⟨some 4, _, _, _, _, _⟩) (v := .pointer (some ⟨r, 0, none⟩)) rfl (by kernel_rfl) (by kernel_rfl) (by kernel_rfl) (fun _ _ _ h => h) (Or.inl ⟨by rfl, ?_⟩) (by assumption) ?_
  · intro w hSw; (try dsimp only at hSw); have c := Sm.cells_of hSw.1 0 _ rfl; go_simp
  simp only [Act.put, List.setIfInBounds_toArray, List.set_cons_zero, List.set_cons_succ]
  refine wpAnyH_take (i := 2) (oi := ⟨some 5, _, _, _, _, _⟩) (v := .pointer (some ⟨r, 0, none⟩)) rfl (by kernel_rfl) (by kernel_rfl) (by kernel_rfl) (fun _ _ _ h => h) (Or.inl ⟨by rfl, ?_⟩) (by assumption) ?_
  · intro w hSw; (try dsimp only at hSw); go_simp
  simp only [Act.put, List.setIfInBounds_toArray, List.set_cons_zero, List.set_cons_succ]
  refine wpAnyH_take (i := 3) (oi := ⟨some 6, _, _, _, _, _⟩) (v := .pointer (some ⟨r, 0, none⟩)) rfl (by kernel_rfl) (by kernel_rfl) (by kernel_rfl) (fun _ _ _ h => h) (Or.inl ⟨by rfl, ?_⟩) (by assumption) ?_
  · intro w hSw; (try dsimp only at hSw); have c := Sm.cells_of hSw.2.2.2 0 _ HCR.out; go_simp
  simp only [Act.put, List.setIfInBounds_toArray, List.set_cons_zero, List.set_cons_succ]
  refine wpAnyH_take (i := 4) (oi := ⟨some 7, _, _, _, _, _⟩) (v := .string M) rfl (by kernel_rfl) (by kernel_rfl) (by kernel_rfl) (fun _ _ _ h => h) (Or.inl ⟨by rfl, ?_⟩) (by assumption) ?_
  · intro w hSw; (try dsimp only at hSw); have c := Sm.cells_of hSw.2.2.2 0 _ HCR.out; go_simp
  simp only [Act.put, List.setIfInBounds_toArray, List.set_cons_zero, List.set_cons_succ]
  refine wpAnyH_take (i := 5) (oi := ⟨some 8, _, _, _, _, _⟩) (v := .int .i64 i) rfl (by kernel_rfl) (by kernel_rfl) (by kernel_rfl) (fun _ _ _ h => h) (Or.inl ⟨by rfl, ?_⟩) (by assumption) ?_
  · intro w hSw; (try dsimp only at hSw); have c := Sm.cells_of hSw.2.1 0 _ rfl; go_simp
  simp only [Act.put, List.setIfInBounds_toArray, List.set_cons_zero, List.set_cons_succ]
  refine wpAnyH_ready (rs := [6]) (by kernel_rfl) (by simp) ?_
  refine AllReadyH.cons (o := ⟨some 9, _, _, _, _, _⟩) rfl (fun K hK => ?_) AllReadyH.nil
  go_simp
  refine (KEY.out _ HHd.out HKd.out hszd).mono ?_
  rintro e w5 ⟨rfl, k5⟩
  have P1 := Lib.hid ((k5.block pr l1).trans H1.out)
  have P2 := Lib.hid ((k5.block pi l2).trans H2.out)
  have P3 := Lib.hid ((k5.block pk l3).trans H3.out)
  have P4 := Lib.hid ((k5.block r l4).trans H4.out)
  have P5 := Lib.hid ((k5.block g l5).trans H5.out)
  have G5 : Hid (w.grownBy w5 (some g)) := Sm.grown_below (Sm.grown_drewN (Sm.grown_refl w (some g)) 1) k5
  clear k5 H1 H2 H3 H4 H5
  refine hK.out _ _ ⟨P1.out, P2.out, P3.out, P4.out⟩ (fun hHeld => ?_)
  clear hK K
  refine wpAnyH_take (i := 7) (oi := ⟨some 10, _, _, _, _, _⟩) (v := .pointer (some ⟨g, 0, none⟩)) rfl (by kernel_rfl) (by kernel_rfl) (by kernel_rfl) (fun _ _ _ h => h) (Or.inl ⟨by rfl, ?_⟩) (by assumption) ?_
  · intro w hSw; (try dsimp only at hSw); go_simp
  simp only [Act.put, List.setIfInBounds_toArray, List.set_cons_zero, List.set_cons_succ]
  refine wpAnyH_take (i := 8) (oi := ⟨some 11, _, _, _, _, _⟩) (v := .pointer (some ⟨g, 3, none⟩)) rfl (by kernel_rfl) (by kernel_rfl) (by kernel_rfl) (fun _ _ _ h => h) (Or.inl ⟨by rfl, ?_⟩) (by assumption) ?_
  · intro w hSw; (try dsimp only at hSw); go_simp
  simp only [Act.put, List.setIfInBounds_toArray, List.set_cons_zero, List.set_cons_succ]
  have ht5 : w5.there g 3 co.toArray.size := fun j hj => by
    rw [List.size_toArray, hcol] at hj
    exact ⟨by rw [Sm.cells_of P5.out (3 + j) _ (Array.getElem?_eq_getElem (by omega))]; rfl, Sm.free_of P5.out _⟩
  have HT5 := Lib.hid ht5
  clear ht5
  refine wpAnyH_ready (rs := [9]) (by kernel_rfl) (by simp) ?_
  refine AllReadyH.cons (o := ⟨none, _, _, _, _, _⟩) rfl (fun K hK => ?_) AllReadyH.nil
  rw [if_pos (by simp [Region.wanted])]
  refine wp_store_mid 50 (.tmp 11) (.tmp 9) rfl g 3 co.toArray rfl rfl HT5.out hick hone ?_
  refine hK.out _ _ ⟨Sm.other_setCells n1 P1.out, Sm.other_setCells n2 P2.out, Sm.other_setCells n3 P3.out, Sm.other_setCells n4 P4.out⟩ (fun hHeld => ?_)
  clear hK K
  refine wpAnyH_done (by kernel_rfl) ?_ _
  simp only [Act.put]
  have p8 := Sm.heap_setCells co 3 w5 cg P5.out (by rw [hcg, hcol]; exact Nat.le_refl _)
  rw [List.drop_of_length_le (by simp [hcg, hcol]), List.append_nil] at p8
  have P8 := Lib.hid p8
  have G8 : Hid (w.grownBy (w5.setCells g 3 co) (some g)) := Sm.grown_setCells G5.out co 3
  clear p8
  go_wp2
  go_end0
  exact ⟨rfl, P8.out, G8.out⟩
end Go.Proofs.YtapogiihkbjppaaGreatDoor
