/-
  ShaSums answers true for every text, and turns nothing of what was there.
-/
import Derived.Test.YtkijdpgdniaagaaDoorRsSum
import Derived.Test.YtkijdpgdniaagaaDoorRsDigits
namespace Go.Proofs.YtkijdpgdniaagaaDoor
open Go.RowKit

set_option maxRecDepth 100000 in
set_option maxHeartbeats 1000000 in
theorem sums_great {w : World} (hH : Sm.HAt w) (hK : Sm.KAt w) (hsz : 1 < w.heap.size) (s : ByteArray) (hs : 5000 < s.size) :
    Calls Tryd.prog 3 #[.string s] w fun e w' => e = .returned (.bool true) ∧ Below w.heap.size w w' := by
  have hi : (5000 : Int) < s.size := by omega
  have HA := Lib.hid (awake_any hH hK hsz)
  clear hH hK hs
  go_enter Tryd.func3, Tryd.ntmps3
  go_wp2_with fail
  refine (HA.out).mono ?_
  rintro e w1 ⟨rfl, b1⟩
  go_wp2
  go_ret
  exact ⟨rfl, b1⟩

set_option maxRecDepth 100000 in
set_option maxHeartbeats 4000000 in
theorem sums_any {w : World} (hH : Sm.HAt w) (hK : Sm.KAt w) (hsz : 1 < w.heap.size) (s : ByteArray) (hs : ¬ 5000 < s.size) :
    Calls Tryd.prog 3 #[.string s] w fun e w' => e = .returned (.bool true) ∧ Below w.heap.size w w' := by
  have hi : ¬ (5000 : Int) < s.size := by omega
  have HH := Lib.hid hH
  have HK := Lib.hid hK
  clear hH hK
  have hhl := Sm.sum_length s.data.toList
  obtain ⟨XA, hXA⟩ : ∃ b, b = ByteArray.mk (Sm.digits (Sm.sum s.data.toList)).toArray := ⟨_, rfl⟩
  have hself : (XA.toList == XA.toList) = true := by rw [beq_iff_eq]
  have heq := fun w' => Sm.eq_hash (Sm.sum s.data.toList) (Sm.sum s.data.toList) hhl hhl w'
  rw [beq_self_eq_true] at heq
  obtain ⟨ca, hca⟩ : ∃ c, c = Lib.byteCells (Sm.sum s.data.toList) := ⟨_, rfl⟩
  have hza : ca.toArray.size = 32 := by rw [hca, List.size_toArray, Lib.byteCells_length, hhl]
  have hone : ca.toArray.all (·.oneCell') = true := by rw [hca]; exact Sm.bytes_one _
  have DA : Hid (∀ wx : World, Calls Tryd.prog 17 #[.agg ca.toArray] wx fun e w' => e = .returned (.string XA) ∧ Below wx.heap.size wx w') := fun wx => by rw [hca, hXA]; exact digits_any _ hhl wx
  have RA : Hid (∀ wx : World, Calls Tryd.prog 18 #[.agg ca.toArray] wx fun e w' => e = .returned (.string XA) ∧ Below wx.heap.size wx w') := fun wx => by rw [hca, hXA]; exact rsdigits_any _ hhl wx
  have SA : Hid (∀ wx : World, Sm.HAt wx → Sm.KAt wx → 1 < wx.heap.size → Calls Tryd.prog 15 #[.string s] wx fun e w' => e = .returned (.agg ca.toArray) ∧ Below wx.heap.size wx w') := fun wx h1 h2 h3 => by rw [hca]; exact sum_any s h1 h2 h3 (by omega)
  have RS : Hid (∀ wx : World, Calls Tryd.prog 16 #[.string s] wx fun e w' => e = .returned (.agg ca.toArray) ∧ Below wx.heap.size wx w') := fun wx => by rw [hca]; exact rssum_any s (by omega) wx
  rw [← hca] at heq
  have hund : Tryd.prog.underlying 24 = some (.array 32 5) := Tryd.underlying24
  have hia : (Tryd.prog.info? 24).map (·.size) = some ca.length := by rw [Sm.infoHash hza]; simp
  have HUND := Lib.hid hund
  have HIA := Lib.hid hia
  clear hca hXA hund hia hhl
  go_enter Tryd.func3, Tryd.ntmps3
  go_wp2_with fail
  refine (awake_any HH.out HK.out hsz).mono ?_
  rintro e W1 ⟨rfl, b1⟩
  go_wp2_with fail
  refine (SA.out _ (HH.out.low b1 (by omega)) (HK.out.low b1 hsz) (Nat.lt_of_lt_of_le hsz b1.size)).mono ?_
  rintro e W2 ⟨rfl, k2⟩
  have b2 := Sm.low_low b1 (Nat.le_refl _) k2
  have hst : ∀ (c : Array Value), c.size = 32 → (storeCells ⟨W2.heap.size, 0, none⟩ ca.toArray.toList).run Tryd.prog (W2.alloc (.cells c 24)) = .ok () (W2.alloc (.cells ca.toArray 24)) := fun c hc =>
    run_storeCells_new (P := Tryd.prog) W2 24 c _ (Sm.infoHash hza) (by rw [hza]; exact hc) hone
  have b3 : Below w.heap.size w (W2.alloc (.cells ca.toArray 24)) := b2.alloc b2.size _
  have r3 := heap_alloc_new W2 (.cells ca.toArray 24)
  clear k2 b1
  go_upto_region 6 with (fail)
  clear hst
  generalize W2.alloc (.cells ca.toArray 24) = W3 at *
  obtain ⟨N, hN⟩ : ∃ N, N = W2.heap.size := ⟨_, rfl⟩
  rw [← hN] at r3 ⊢
  have R3 : Hid (W3.drew.heap[N]? = some (.cells ca.toArray 24 (0, 0))) := r3
  have b3 : Below w.heap.size w W3.drew := b3.drew
  clear hN r3
  refine wp_region_held_drew (S := fun w' => w'.rangeAt N 0 ca) (by kernel_rfl) (Sm.range_row2 R3.out) (fun hHeld => ?_)
  refine wpAnyH_take (i := 0) (oi := ⟨some 11, _, _, _, _, _⟩) (v := .agg ca.toArray) rfl (by kernel_rfl) (by kernel_rfl) (by kernel_rfl) (fun _ _ _ h => h) (yieldsIf_load_mid (by rfl) _ _ rfl _ _ rfl ca _ (fun w hS => hS) HUND.out rfl HIA.out) (by assumption) ?_
  simp only [Act.put, List.setIfInBounds_toArray, List.set_cons_zero, List.set_cons_succ]
  refine wpAnyH_take (i := 1) (oi := ⟨some 12, _, _, _, _, _⟩) (v := .string s) rfl (by kernel_rfl) (by kernel_rfl) (by kernel_rfl) (fun _ _ _ h => h) (Or.inl ⟨by rfl, ?_⟩) (by assumption) ?_
  · intro w hSw; (try dsimp only at hSw); go_simp
  simp only [Act.put, List.setIfInBounds_toArray, List.set_cons_zero, List.set_cons_succ]
  refine wpAnyH_ready (rs := [2]) (by kernel_rfl) (by simp) ?_
  refine AllReadyH.cons (o := ⟨some 13, _, _, _, _, _⟩) rfl (fun K hK => ?_) AllReadyH.nil
  go_simp
  refine (RS.out _).mono ?_
  rintro e W4 ⟨rfl, k4⟩
  have b4 := Sm.low_low b3 (Nat.le_refl _) k4
  have R4 := Lib.hid ((k4.block N (Sm.lt_of R3.out)).trans R3.out)
  clear k4
  refine hK.out _ _ (Sm.range_row2 R4.out) (fun hHeld => ?_)
  clear hK K
  refine wpAnyH_take (i := 3) (oi := ⟨some 14, _, _, _, _, _⟩) (v := .bool true) rfl (by kernel_rfl) (by kernel_rfl) (by kernel_rfl) (fun _ _ _ h => h) (Or.inl ⟨by rfl, ?_⟩) (by assumption) ?_
  · intro w hSw; (try dsimp only at hSw); go_simp
  simp only [Act.put, List.setIfInBounds_toArray, List.set_cons_zero, List.set_cons_succ]
  refine wpAnyH_take (i := 4) (oi := ⟨some 15, _, _, _, _, _⟩) (v := .bool true) rfl (by kernel_rfl) (by kernel_rfl) (by kernel_rfl) (fun _ _ _ h => h) (Or.inl ⟨by rfl, ?_⟩) (by assumption) ?_
  · intro w hSw; (try dsimp only at hSw); go_simp
  simp only [Act.put, List.setIfInBounds_toArray, List.set_cons_zero, List.set_cons_succ]
  refine wpAnyH_take (i := 5) (oi := ⟨some 16, _, _, _, _, _⟩) (v := .agg ca.toArray) rfl (by kernel_rfl) (by kernel_rfl) (by kernel_rfl) (fun _ _ _ h => h) (yieldsIf_load_mid (by rfl) _ _ rfl _ _ rfl ca _ (fun w hS => hS) HUND.out rfl HIA.out) (by assumption) ?_
  simp only [Act.put, List.setIfInBounds_toArray, List.set_cons_zero, List.set_cons_succ]
  refine wpAnyH_take (i := 7) (oi := ⟨some 18, _, _, _, _, _⟩) (v := .agg ca.toArray) rfl (by kernel_rfl) (by kernel_rfl) (by kernel_rfl) (fun _ _ _ h => h) (yieldsIf_load_mid (by rfl) _ _ rfl _ _ rfl ca _ (fun w hS => hS) HUND.out rfl HIA.out) (by assumption) ?_
  simp only [Act.put, List.setIfInBounds_toArray, List.set_cons_zero, List.set_cons_succ]
  refine wpAnyH_ready (rs := [6]) (by kernel_rfl) (by simp) ?_
  refine AllReadyH.cons (o := ⟨some 17, _, _, _, _, _⟩) rfl (fun K hK => ?_) AllReadyH.nil
  go_simp
  refine (DA.out _).mono ?_
  rintro e W5 ⟨rfl, k5⟩
  have b5 := Sm.low_low b4 (Nat.le_refl _) k5
  have R5 := Lib.hid ((k5.block N (Sm.lt_of R4.out)).trans R4.out)
  clear k5
  refine hK.out _ _ (Sm.range_row2 R5.out) (fun hHeld => ?_)
  clear hK K
  refine wpAnyH_ready (rs := [8]) (by kernel_rfl) (by simp) ?_
  refine AllReadyH.cons (o := ⟨some 19, _, _, _, _, _⟩) rfl (fun K hK => ?_) AllReadyH.nil
  go_simp
  refine (RA.out _).mono ?_
  rintro e W6 ⟨rfl, k6⟩
  have b6 := Sm.low_low b5 (Nat.le_refl _) k6
  have R6 := Lib.hid ((k6.block N (Sm.lt_of R5.out)).trans R5.out)
  clear k6
  refine hK.out _ _ (Sm.range_row2 R6.out) (fun hHeld => ?_)
  clear hK K
  refine wpAnyH_take (i := 9) (oi := ⟨some 20, _, _, _, _, _⟩) (v := .bool true) rfl (by kernel_rfl) (by kernel_rfl) (by kernel_rfl) (fun _ _ _ h => h) (Or.inl ⟨by rfl, ?_⟩) (by assumption) ?_
  · intro w hSw; (try dsimp only at hSw); go_simp
  simp only [Act.put, List.setIfInBounds_toArray, List.set_cons_zero, List.set_cons_succ]
  refine wpAnyH_take (i := 10) (oi := ⟨some 21, _, _, _, _, _⟩) (v := .bool true) rfl (by kernel_rfl) (by kernel_rfl) (by kernel_rfl) (fun _ _ _ h => h) (Or.inl ⟨by rfl, ?_⟩) (by assumption) ?_
  · intro w hSw; (try dsimp only at hSw); go_simp
  simp only [Act.put, List.setIfInBounds_toArray, List.set_cons_zero, List.set_cons_succ]
  refine wpAnyH_take (i := 11) (oi := ⟨some 2, _, _, _, _, _⟩) (v := .bool true) rfl (by kernel_rfl) (by kernel_rfl) (by kernel_rfl) (fun _ _ _ h => h) (Or.inl ⟨by rfl, ?_⟩) (by assumption) ?_
  · intro w hSw; (try dsimp only at hSw); go_simp
  simp only [Act.put, List.setIfInBounds_toArray, List.set_cons_zero, List.set_cons_succ]
  refine wpAnyH_done (by kernel_rfl) ?_ _
  go_wp2
  go_ret
  exact ⟨rfl, b6⟩
end Go.Proofs.YtkijdpgdniaagaaDoor
