/-
  MacKeys answers true for every key and label, and turns nothing of what was there.
-/
import Derived.Test.YtkijdpgdniaagaaDoorRmTag
namespace Go.Proofs.YtkijdpgdniaagaaDoor
open Go.RowKit
namespace Sm
/-- Two keys, compared. -/
theorem eq_key (l l' : List UInt8) (h : l.length = 32) (h' : l'.length = 32) (w : World) :
    (Op.equalIn 10000 45 (.agg (Lib.byteCells l).toArray) (.agg (Lib.byteCells l').toArray)).run Tryd.prog w = .ok (l == l') w := by
  have hc : Tryd.prog.cellsOf 5 = 1 := by kernel_rfl
  obtain ⟨i0, hi, _, _, _⟩ := info_parts info3_u8
  have e := run_equalIn_array (P := Tryd.prog) (w := w) 9999 (Lib.byteCells l).toArray (Lib.byteCells l').toArray Tryd.underlying45 hi
  rw [e, hc, eqItems_bytes 9998 l l' w (List.range 32) (fun i hi => by have := List.mem_range.1 hi; omega), all_eq l l' h h']
end Sm

set_option maxRecDepth 100000 in
set_option maxHeartbeats 1000000 in
theorem keys_great {w : World} (hH : Sm.HAt w) (hK : Sm.KAt w) (hsz : 1 < w.heap.size) (l : List UInt8) (t : ByteArray) (ht : 3000 < t.size) :
    Calls Tryd.prog 10 #[.agg (Lib.byteCells l).toArray, .string t] w fun e w' => e = .returned (.bool true) ∧ Below w.heap.size w w' := by
  have h1i : (3000 : Int) < t.size := by omega
  have HH := Lib.hid hH
  have HK := Lib.hid hK
  obtain ⟨cs, hcs⟩ : ∃ c, c = (Lib.byteCells l).toArray := ⟨_, rfl⟩
  rw [← hcs]
  have b0 : Below w.heap.size w (w.alloc (.cells cs 45)) := (Below.refl _ w).alloc (Nat.le_refl _) _
  clear hH hK ht hcs
  go_enter Tryd.func10, Tryd.ntmps10
  go_wp2_with fail
  generalize w.alloc (.cells cs 45) = w0 at *
  refine (awake3_any (HH.out.low b0 (by omega)) (HK.out.low b0 hsz) (Nat.lt_of_lt_of_le hsz b0.size)).mono ?_
  rintro e w1 ⟨rfl, k1⟩
  have b1 := Sm.low_low b0 (Nat.le_refl _) k1
  clear k1
  go_wp2
  go_ret
  exact ⟨rfl, b1⟩

set_option maxRecDepth 100000 in
set_option maxHeartbeats 4000000 in
theorem keys_any {w : World} (hH : Sm.HAt w) (hK : Sm.KAt w) (hsz : 1 < w.heap.size) (l : List UInt8) (hl : l.length = 32) (t : ByteArray) (ht : ¬ 3000 < t.size) :
    Calls Tryd.prog 10 #[.agg (Lib.byteCells l).toArray, .string t] w fun e w' => e = .returned (.bool true) ∧ Below w.heap.size w w' := by
  have h1i : ¬ (3000 : Int) < t.size := by omega
  have HH := Lib.hid hH
  have HK := Lib.hid hK
  clear hH hK
  obtain ⟨KB, hKB⟩ : ∃ b, b = ByteArray.mk l.toArray := ⟨_, rfl⟩
  have hKBs : KB.size = 32 := by
    have e : (ByteArray.mk l.toArray).size = l.length := rfl
    rw [hKB, e, hl]
  have hKBl : KB.data.toList = l := by rw [hKB]
  have heq := fun w' => Sm.eq_key (Sm.tag l t.data.toList) (Sm.tag l t.data.toList) (Sm.tag_length _ _) (Sm.tag_length _ _) w'
  rw [beq_self_eq_true] at heq
  obtain ⟨co, hco⟩ : ∃ c, c = (Lib.byteCells (Sm.tag l t.data.toList)).toArray := ⟨_, rfl⟩
  rw [← hco] at heq
  obtain ⟨cl, hcl⟩ : ∃ c, c = Lib.byteCells l := ⟨_, rfl⟩
  have hz : cl.toArray.size = 32 := by rw [hcl, List.size_toArray, Lib.byteCells_length, hl]
  have KEY : Hid (∀ wx : World, Sm.HAt wx → Sm.KAt wx → 1 < wx.heap.size → Calls Tryd.prog 28 #[.agg cl.toArray, .string t] wx fun e w' => e = .returned (.agg co) ∧ Below wx.heap.size wx w') := fun wx h1 h2 h3 => by rw [hcl, hco]; exact key_any l hl t h1 h2 h3 (by omega)
  have RM : Hid (∀ wx : World, Calls Tryd.prog 27 #[.string KB, .string t] wx fun e w' => e = .returned (.agg co) ∧ Below wx.heap.size wx w') := fun wx => by
    have h := rmtag_any KB t (by omega) (by omega) wx
    rw [hKBl, ← hco] at h; exact h
  have TAG : Hid (∀ wx : World, Sm.HAt wx → Sm.KAt wx → 1 < wx.heap.size → Calls Tryd.prog 25 #[.string KB, .string t] wx fun e w' => e = .returned (.agg co) ∧ Below wx.heap.size wx w') := fun wx h1 h2 h3 => by
    have h := tag_any KB t h1 h2 h3 (by omega) (by omega)
    rw [hKBl, ← hco] at h; exact h
  have HUND : Hid (Tryd.prog.underlying 45 = some (.array 32 5)) := Tryd.underlying45
  have HIA : Hid ((Tryd.prog.info? 45).map (·.size) = some cl.length) := by show _ = _; rw [Sm.infoKey hz]; simp
  have CONV : Hid (∀ (wx : World) (N : Nat), wx.heap[N]? = some (.cells cl.toArray 45 (0, 0)) → (convert 31 9 (.slice (some ⟨N, 0, none⟩) 32 32)).run Tryd.prog wx = .ok (.string KB) wx) := by
    intro wx N h
    rw [hcl] at h
    rw [hKB]
    exact Sm.conv_row h hl
  rw [← hcl]
  clear hco hcl hKB hKBl hl
  have b0 : Below w.heap.size w (w.alloc (.cells cl.toArray 45)) := (Below.refl _ w).alloc (Nat.le_refl _) _
  have r0 := heap_alloc_new w (.cells cl.toArray 45)
  go_enter Tryd.func10, Tryd.ntmps10
  go_wp2_with fail
  generalize w.alloc (.cells cl.toArray 45) = w0 at *
  obtain ⟨N, hN⟩ : ∃ N, N = w.heap.size := ⟨_, rfl⟩
  rw [← hN] at r0 ⊢
  refine (awake3_any (HH.out.low b0 (by omega)) (HK.out.low b0 hsz) (Nat.lt_of_lt_of_le hsz b0.size)).mono ?_
  rintro e w1 ⟨rfl, k1⟩
  have b1 := Sm.low_low b0 (Nat.le_refl _) k1
  have r1 := (k1.block N (Sm.lt_of r0)).trans r0
  have R3 : Hid (w1.drew.heap[N]? = some (.cells cl.toArray 45 (0, 0))) := r1
  have b3 : Below w.heap.size w w1.drew := b1.drew
  have HN := Lib.hid hN
  clear k1 r0 r1 hN b0 b1
  go_upto_region 5 with (fail)
  refine wp_region_held_drew (S := fun w' => w'.rangeAt N 0 cl ∧ (convert 31 9 (.slice (some ⟨N, 0, none⟩) 32 32)).run Tryd.prog w' = .ok (.string KB) w') (by kernel_rfl) ⟨Sm.range_row2 R3.out, CONV.out _ _ R3.out⟩ (fun hHeld => ?_)
  refine wpAnyH_take (i := 0) (oi := ⟨some 10, _, _, _, _, _⟩) (v := .agg cl.toArray) rfl (by kernel_rfl) (by kernel_rfl) (by kernel_rfl) (fun _ _ _ h => h) (yieldsIf_load_mid (by rfl) _ _ rfl _ _ rfl cl _ (fun w hS => hS.1) HUND.out rfl HIA.out) (by assumption) ?_
  simp only [Act.put, List.setIfInBounds_toArray, List.set_cons_zero, List.set_cons_succ]
  refine wpAnyH_take (i := 1) (oi := ⟨some 11, _, _, _, _, _⟩) (v := .string t) rfl (by kernel_rfl) (by kernel_rfl) (by kernel_rfl) (fun _ _ _ h => h) (Or.inl ⟨by rfl, ?_⟩) (by assumption) ?_
  · intro w hSw; (try dsimp only at hSw); go_simp
  simp only [Act.put, List.setIfInBounds_toArray, List.set_cons_zero, List.set_cons_succ]
  refine wpAnyH_take (i := 3) (oi := ⟨some 13, _, _, _, _, _⟩) (v := (.slice (some ⟨N, 0, none⟩) 32 32)) rfl (by kernel_rfl) (by kernel_rfl) (by kernel_rfl) (fun _ _ _ h => h) (Or.inl ⟨by rfl, ?_⟩) (by assumption) ?_
  · intro w hSw; (try dsimp only at hSw); go_simp
  simp only [Act.put, List.setIfInBounds_toArray, List.set_cons_zero, List.set_cons_succ]
  refine wpAnyH_take (i := 4) (oi := ⟨some 14, _, _, _, _, _⟩) (v := .string KB) rfl (by kernel_rfl) (by kernel_rfl) (by kernel_rfl) (fun _ _ _ h => h) (Or.inl ⟨by rfl, ?_⟩) (by assumption) ?_
  · intro w hSw; (try dsimp only at hSw); go_simp
  simp only [Act.put, List.setIfInBounds_toArray, List.set_cons_zero, List.set_cons_succ]
  refine wpAnyH_take (i := 5) (oi := ⟨some 15, _, _, _, _, _⟩) (v := .string t) rfl (by kernel_rfl) (by kernel_rfl) (by kernel_rfl) (fun _ _ _ h => h) (Or.inl ⟨by rfl, ?_⟩) (by assumption) ?_
  · intro w hSw; (try dsimp only at hSw); go_simp
  simp only [Act.put, List.setIfInBounds_toArray, List.set_cons_zero, List.set_cons_succ]
  refine wpAnyH_ready (rs := [2]) (by kernel_rfl) (by simp) ?_
  refine AllReadyH.cons (o := ⟨some 12, _, _, _, _, _⟩) rfl (fun K hK => ?_) AllReadyH.nil
  go_simp
  refine (KEY.out _ (HH.out.low b3 (by omega)) (HK.out.low b3 hsz) (Nat.lt_of_lt_of_le hsz b3.size)).mono ?_
  rintro e W4 ⟨rfl, k4⟩
  have b4 := Sm.low_low b3 (Nat.le_refl _) k4
  have R4 := Lib.hid ((k4.block N (Sm.lt_of R3.out)).trans R3.out)
  clear k4
  refine hK.out _ _ ⟨Sm.range_row2 R4.out, CONV.out _ _ R4.out⟩ (fun hHeld => ?_)
  clear hK K
  refine wpAnyH_ready (rs := [6]) (by kernel_rfl) (by simp) ?_
  refine AllReadyH.cons (o := ⟨some 16, _, _, _, _, _⟩) rfl (fun K hK => ?_) AllReadyH.nil
  go_simp
  refine (RM.out _).mono ?_
  rintro e W5 ⟨rfl, k5⟩
  have b5 := Sm.low_low b4 (Nat.le_refl _) k5
  have R5 := Lib.hid ((k5.block N (Sm.lt_of R4.out)).trans R4.out)
  clear k5
  refine hK.out _ _ ⟨Sm.range_row2 R5.out, CONV.out _ _ R5.out⟩ (fun hHeld => ?_)
  clear hK K
  refine wpAnyH_take (i := 7) (oi := ⟨some 17, _, _, _, _, _⟩) (v := .bool true) rfl (by kernel_rfl) (by kernel_rfl) (by kernel_rfl) (fun _ _ _ h => h) (Or.inl ⟨by rfl, ?_⟩) (by assumption) ?_
  · intro w hSw; (try dsimp only at hSw); go_simp
  simp only [Act.put, List.setIfInBounds_toArray, List.set_cons_zero, List.set_cons_succ]
  refine wpAnyH_take (i := 8) (oi := ⟨some 18, _, _, _, _, _⟩) (v := .bool true) rfl (by kernel_rfl) (by kernel_rfl) (by kernel_rfl) (fun _ _ _ h => h) (Or.inl ⟨by rfl, ?_⟩) (by assumption) ?_
  · intro w hSw; (try dsimp only at hSw); go_simp
  simp only [Act.put, List.setIfInBounds_toArray, List.set_cons_zero, List.set_cons_succ]
  refine wpAnyH_take (i := 9) (oi := ⟨some 19, _, _, _, _, _⟩) (v := .agg cl.toArray) rfl (by kernel_rfl) (by kernel_rfl) (by kernel_rfl) (fun _ _ _ h => h) (yieldsIf_load_mid (by rfl) _ _ rfl _ _ rfl cl _ (fun w hS => hS.1) HUND.out rfl HIA.out) (by assumption) ?_
  simp only [Act.put, List.setIfInBounds_toArray, List.set_cons_zero, List.set_cons_succ]
  refine wpAnyH_take (i := 10) (oi := ⟨some 20, _, _, _, _, _⟩) (v := .string t) rfl (by kernel_rfl) (by kernel_rfl) (by kernel_rfl) (fun _ _ _ h => h) (Or.inl ⟨by rfl, ?_⟩) (by assumption) ?_
  · intro w hSw; (try dsimp only at hSw); go_simp
  simp only [Act.put, List.setIfInBounds_toArray, List.set_cons_zero, List.set_cons_succ]
  refine wpAnyH_take (i := 12) (oi := ⟨some 22, _, _, _, _, _⟩) (v := (.slice (some ⟨N, 0, none⟩) 32 32)) rfl (by kernel_rfl) (by kernel_rfl) (by kernel_rfl) (fun _ _ _ h => h) (Or.inl ⟨by rfl, ?_⟩) (by assumption) ?_
  · intro w hSw; (try dsimp only at hSw); go_simp
  simp only [Act.put, List.setIfInBounds_toArray, List.set_cons_zero, List.set_cons_succ]
  refine wpAnyH_take (i := 13) (oi := ⟨some 23, _, _, _, _, _⟩) (v := .string KB) rfl (by kernel_rfl) (by kernel_rfl) (by kernel_rfl) (fun _ _ _ h => h) (Or.inl ⟨by rfl, ?_⟩) (by assumption) ?_
  · intro w hSw; (try dsimp only at hSw); go_simp
  simp only [Act.put, List.setIfInBounds_toArray, List.set_cons_zero, List.set_cons_succ]
  refine wpAnyH_take (i := 14) (oi := ⟨some 24, _, _, _, _, _⟩) (v := .string t) rfl (by kernel_rfl) (by kernel_rfl) (by kernel_rfl) (fun _ _ _ h => h) (Or.inl ⟨by rfl, ?_⟩) (by assumption) ?_
  · intro w hSw; (try dsimp only at hSw); go_simp
  simp only [Act.put, List.setIfInBounds_toArray, List.set_cons_zero, List.set_cons_succ]
  refine wpAnyH_ready (rs := [11]) (by kernel_rfl) (by simp) ?_
  refine AllReadyH.cons (o := ⟨some 21, _, _, _, _, _⟩) rfl (fun K hK => ?_) AllReadyH.nil
  go_simp
  refine (KEY.out _ (HH.out.low b5 (by omega)) (HK.out.low b5 hsz) (Nat.lt_of_lt_of_le hsz b5.size)).mono ?_
  rintro e W6 ⟨rfl, k6⟩
  have b6 := Sm.low_low b5 (Nat.le_refl _) k6
  have R6 := Lib.hid ((k6.block N (Sm.lt_of R5.out)).trans R5.out)
  clear k6
  refine hK.out _ _ ⟨Sm.range_row2 R6.out, CONV.out _ _ R6.out⟩ (fun hHeld => ?_)
  clear hK K
  refine wpAnyH_ready (rs := [15]) (by kernel_rfl) (by simp) ?_
  refine AllReadyH.cons (o := ⟨some 25, _, _, _, _, _⟩) rfl (fun K hK => ?_) AllReadyH.nil
  go_simp
  refine (TAG.out _ (HH.out.low b6 (by omega)) (HK.out.low b6 hsz) (Nat.lt_of_lt_of_le hsz b6.size)).mono ?_
  rintro e W7 ⟨rfl, k7⟩
  have b7 := Sm.low_low b6 (Nat.le_refl _) k7
  have R7 := Lib.hid ((k7.block N (Sm.lt_of R6.out)).trans R6.out)
  clear k7
  refine hK.out _ _ ⟨Sm.range_row2 R7.out, CONV.out _ _ R7.out⟩ (fun hHeld => ?_)
  clear hK K
  refine wpAnyH_take (i := 16) (oi := ⟨some 26, _, _, _, _, _⟩) (v := .bool true) rfl (by kernel_rfl) (by kernel_rfl) (by kernel_rfl) (fun _ _ _ h => h) (Or.inl ⟨by rfl, ?_⟩) (by assumption) ?_
  · intro w hSw; (try dsimp only at hSw); go_simp
  simp only [Act.put, List.setIfInBounds_toArray, List.set_cons_zero, List.set_cons_succ]
  refine wpAnyH_take (i := 17) (oi := ⟨some 27, _, _, _, _, _⟩) (v := .bool true) rfl (by kernel_rfl) (by kernel_rfl) (by kernel_rfl) (fun _ _ _ h => h) (Or.inl ⟨by rfl, ?_⟩) (by assumption) ?_
  · intro w hSw; (try dsimp only at hSw); go_simp
  simp only [Act.put, List.setIfInBounds_toArray, List.set_cons_zero, List.set_cons_succ]
  refine wpAnyH_take (i := 18) (oi := ⟨some 4, _, _, _, _, _⟩) (v := .bool true) rfl (by kernel_rfl) (by kernel_rfl) (by kernel_rfl) (fun _ _ _ h => h) (Or.inl ⟨by rfl, ?_⟩) (by assumption) ?_
  · intro w hSw; (try dsimp only at hSw); go_simp
  simp only [Act.put, List.setIfInBounds_toArray, List.set_cons_zero, List.set_cons_succ]
  refine wpAnyH_done (by kernel_rfl) ?_ _
  go_wp2
  go_ret
  exact ⟨rfl, b7⟩
end Go.Proofs.YtkijdpgdniaagaaDoor
