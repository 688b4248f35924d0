/-
  AesApart answers true for every key and two blocks, and turns nothing of what was there.
-/
import Derived.Test.YtkannddaihlcdaaAeAwake
import Derived.Test.YtkannddaihlcdaaAeInj
import Derived.Test.YtkannddaihlcdaaEqRow
namespace Go.Proofs.Ytkannddaihlcdaa
open Go.RowKit

set_option maxRecDepth 100000 in
set_option maxHeartbeats 2000000 in
theorem aesApart_any (w : World) (key l m : List UInt8) (hkey : key.length = 32) (hl : l.length = 16) (hm : m.length = 16) :
    Calls Try.prog 9 #[.agg (Lib.byteCells key).toArray, .agg (Lib.byteCells l).toArray, .agg (Lib.byteCells m).toArray] w fun e w' => e = .returned (.bool true) ∧ Below w.heap.size w w' := by
  have hE1 := fun wx => Sm.eq_row 16 Try.underlying22 (Ae.block key l) (Ae.block key m) (Ae.block_length _ _) (Ae.block_length _ _) wx
  have hE2 := fun wx => Sm.eq_row 16 Try.underlying22 l m hl hm wx
  have hbe : (Ae.block key l == Ae.block key m) = (l == m) := by
    rw [Bool.eq_iff_iff, beq_iff_eq, beq_iff_eq]; exact Ae.block_inj hl hm
  rw [hbe] at hE1
  have B1 : Hid (∀ wx : World, Calls Try.prog 10 #[.agg (Lib.byteCells key).toArray, .agg (Lib.byteCells l).toArray] wx fun e w' => e = .returned (.agg (Lib.byteCells (Ae.block key l)).toArray) ∧ Below wx.heap.size wx w') := fun wx => block_any wx key l hkey hl
  have B2 : Hid (∀ wx : World, Calls Try.prog 10 #[.agg (Lib.byteCells key).toArray, .agg (Lib.byteCells m).toArray] wx fun e w' => e = .returned (.agg (Lib.byteCells (Ae.block key m)).toArray) ∧ Below wx.heap.size wx w') := fun wx => block_any wx key m hkey hm
  obtain ⟨q, hq⟩ : ∃ q, q = (l == m) := ⟨_, rfl⟩
  rw [← hq] at hE1 hE2
  obtain ⟨ck, hck⟩ : ∃ c, c = Lib.byteCells key := ⟨_, rfl⟩
  obtain ⟨cl, hcl⟩ : ∃ c, c = Lib.byteCells l := ⟨_, rfl⟩
  obtain ⟨cm, hcm⟩ : ∃ c, c = Lib.byteCells m := ⟨_, rfl⟩
  obtain ⟨x, hx⟩ : ∃ c, c = (Lib.byteCells (Ae.block key l)).toArray := ⟨_, rfl⟩
  obtain ⟨y, hy⟩ : ∃ c, c = (Lib.byteCells (Ae.block key m)).toArray := ⟨_, rfl⟩
  have hckn : ck.length = 32 := by rw [hck, Lib.byteCells_length, hkey]
  have hcln : cl.length = 16 := by rw [hcl, Lib.byteCells_length, hl]
  have hcmn : cm.length = 16 := by rw [hcm, Lib.byteCells_length, hm]
  rw [← hck, ← hcl, ← hx] at B1
  rw [← hck, ← hcm, ← hy] at B2
  rw [← hx, ← hy] at hE1
  rw [← hcl, ← hcm] at hE2
  rw [← hck, ← hcl, ← hcm]
  have HU1 : Hid (Try.prog.underlying 25 = some (.array 32 5)) := Try.underlying25
  have HU2 : Hid (Try.prog.underlying 22 = some (.array 16 5)) := Try.underlying22
  have HI1 : Hid ((Try.prog.info? 25).map (·.size) = some ck.length) := by show _ = _; rw [hckn]; kernel_rfl
  have HI2 : Hid ((Try.prog.info? 22).map (·.size) = some cl.length) := by show _ = _; rw [hcln]; kernel_rfl
  have HI3 : Hid ((Try.prog.info? 22).map (·.size) = some cm.length) := by show _ = _; rw [hcmn]; kernel_rfl
  obtain ⟨N, hN⟩ : ∃ N, N = w.heap.size := ⟨_, rfl⟩
  have g1 : (((w.alloc (.cells ck.toArray 25)).alloc (.cells cl.toArray 22)).alloc (.cells cm.toArray 22)).heap[N]? = some (.cells ck.toArray 25 (0, 0)) := by
    rw [hN, Below.heap_alloc _ _ _ (by simp; omega), Below.heap_alloc _ _ _ (by simp)]; exact heap_alloc_new w _
  have g2 : (((w.alloc (.cells ck.toArray 25)).alloc (.cells cl.toArray 22)).alloc (.cells cm.toArray 22)).heap[N + 1]? = some (.cells cl.toArray 22 (0, 0)) := by
    rw [hN, Below.heap_alloc _ _ _ (by simp)]; simpa using heap_alloc_new (w.alloc (.cells ck.toArray 25)) (.cells cl.toArray 22)
  have g3 : (((w.alloc (.cells ck.toArray 25)).alloc (.cells cl.toArray 22)).alloc (.cells cm.toArray 22)).heap[N + 2]? = some (.cells cm.toArray 22 (0, 0)) := by
    rw [hN]; simpa using heap_alloc_new ((w.alloc (.cells ck.toArray 25)).alloc (.cells cl.toArray 22)) (.cells cm.toArray 22)
  have b3 : Below N w (((w.alloc (.cells ck.toArray 25)).alloc (.cells cl.toArray 22)).alloc (.cells cm.toArray 22)) := by
    rw [hN]; exact (((Below.refl _ w).alloc (Nat.le_refl _) _).alloc (by simp) _).alloc (by simp; omega) _
  have AW := Lib.hid awake4_any
  clear hq hck hcl hcm hx hy hckn hcln hcmn hbe
  go_enter Try.func9, Try.ntmps9
  go_wp2_with fail
  generalize ((w.alloc (.cells ck.toArray 25)).alloc (.cells cl.toArray 22)).alloc (.cells cm.toArray 22) = W3 at *
  refine (AW.out _).mono ?_
  rintro e w4 ⟨rfl, k4⟩
  have hHN : N ≤ w.heap.size := by omega
  have s3 := Sm.lt_of g3
  have b4 := Sm.low_low b3 hHN k4
  have G1 : Hid (w4.drew.heap[N]? = some (.cells ck.toArray 25 (0, 0))) := (k4.block N (by omega)).trans g1
  have G2 : Hid (w4.drew.heap[N + 1]? = some (.cells cl.toArray 22 (0, 0))) := (k4.block (N + 1) (by omega)).trans g2
  have G3 : Hid (w4.drew.heap[N + 2]? = some (.cells cm.toArray 22 (0, 0))) := (k4.block (N + 2) s3).trans g3
  have HN := Lib.hid hN
  have B4 : Below N w w4.drew := b4.drew
  rw [← hN]
  clear g1 g2 g3 b3 k4 b4 s3 hN
  go_wp2_with fail
  refine wp_region_held_drew (S := fun w' => w'.rangeAt N 0 ck ∧ w'.rangeAt (N + 1) 0 cl ∧ w'.rangeAt (N + 2) 0 cm) (by kernel_rfl) ⟨Sm.range_row G1.out, Sm.range_row G2.out, Sm.range_row G3.out⟩ (fun hHeld => ?_)
  refine wpAnyH_take (i := 0) (oi := ⟨some 9, _, _, _, _, _⟩) (v := .agg ck.toArray) rfl (by kernel_rfl) (by kernel_rfl) (by kernel_rfl) (fun _ _ _ h => h) (yieldsIf_load_mid (by rfl) _ _ rfl _ _ rfl ck _ (fun w hS => hS.1) HU1.out rfl HI1.out) (by assumption) ?_
  simp only [Act.put, List.setIfInBounds_toArray, List.set_cons_zero, List.set_cons_succ]
  refine wpAnyH_take (i := 1) (oi := ⟨some 10, _, _, _, _, _⟩) (v := .agg cl.toArray) rfl (by kernel_rfl) (by kernel_rfl) (by kernel_rfl) (fun _ _ _ h => h) (yieldsIf_load_mid (by rfl) _ _ rfl _ _ rfl cl _ (fun w hS => hS.2.1) HU2.out rfl HI2.out) (by assumption) ?_
  simp only [Act.put, List.setIfInBounds_toArray, List.set_cons_zero, List.set_cons_succ]
  refine wpAnyH_take (i := 3) (oi := ⟨some 12, _, _, _, _, _⟩) (v := .agg ck.toArray) rfl (by kernel_rfl) (by kernel_rfl) (by kernel_rfl) (fun _ _ _ h => h) (yieldsIf_load_mid (by rfl) _ _ rfl _ _ rfl ck _ (fun w hS => hS.1) HU1.out rfl HI1.out) (by assumption) ?_
  simp only [Act.put, List.setIfInBounds_toArray, List.set_cons_zero, List.set_cons_succ]
  refine wpAnyH_take (i := 4) (oi := ⟨some 13, _, _, _, _, _⟩) (v := .agg cm.toArray) rfl (by kernel_rfl) (by kernel_rfl) (by kernel_rfl) (fun _ _ _ h => h) (yieldsIf_load_mid (by rfl) _ _ rfl _ _ rfl cm _ (fun w hS => hS.2.2) HU2.out rfl HI3.out) (by assumption) ?_
  simp only [Act.put, List.setIfInBounds_toArray, List.set_cons_zero, List.set_cons_succ]
  refine wpAnyH_take (i := 7) (oi := ⟨some 16, _, _, _, _, _⟩) (v := .agg cl.toArray) rfl (by kernel_rfl) (by kernel_rfl) (by kernel_rfl) (fun _ _ _ h => h) (yieldsIf_load_mid (by rfl) _ _ rfl _ _ rfl cl _ (fun w hS => hS.2.1) HU2.out rfl HI2.out) (by assumption) ?_
  simp only [Act.put, List.setIfInBounds_toArray, List.set_cons_zero, List.set_cons_succ]
  refine wpAnyH_take (i := 8) (oi := ⟨some 17, _, _, _, _, _⟩) (v := .agg cm.toArray) rfl (by kernel_rfl) (by kernel_rfl) (by kernel_rfl) (fun _ _ _ h => h) (yieldsIf_load_mid (by rfl) _ _ rfl _ _ rfl cm _ (fun w hS => hS.2.2) HU2.out rfl HI3.out) (by assumption) ?_
  simp only [Act.put, List.setIfInBounds_toArray, List.set_cons_zero, List.set_cons_succ]
  refine wpAnyH_take (i := 9) (oi := ⟨some 18, _, _, _, _, _⟩) (v := .bool q) rfl (by kernel_rfl) (by kernel_rfl) (by kernel_rfl) (fun _ _ _ h => h) (Or.inl ⟨by rfl, ?_⟩) (by assumption) ?_
  · intro w hSw; (try dsimp only at hSw); go_simp
  simp only [Act.put, List.setIfInBounds_toArray, List.set_cons_zero, List.set_cons_succ]
  refine wpAnyH_ready (rs := [2]) (by kernel_rfl) (by simp) ?_
  refine AllReadyH.cons (o := ⟨some 11, _, _, _, _, _⟩) rfl (fun K hK => ?_) AllReadyH.nil
  go_simp
  refine (B1.out _).mono ?_
  rintro e W5 ⟨rfl, k5⟩
  have s4 := Sm.lt_of G3.out
  have B5 := Sm.low_low B4 hHN k5
  have G1b := Lib.hid ((k5.block N (by omega)).trans G1.out)
  have G2b := Lib.hid ((k5.block (N + 1) (by omega)).trans G2.out)
  have G3b := Lib.hid ((k5.block (N + 2) s4).trans G3.out)
  have s5 := Sm.lt_of G3b.out
  clear k5
  refine hK.out _ _ ⟨Sm.range_row G1b.out, Sm.range_row G2b.out, Sm.range_row G3b.out⟩ (fun hHeld => ?_)
  clear hK K
  refine wpAnyH_ready (rs := [5]) (by kernel_rfl) (by simp) ?_
  refine AllReadyH.cons (o := ⟨some 14, _, _, _, _, _⟩) rfl (fun K hK => ?_) AllReadyH.nil
  go_simp
  refine (B2.out _).mono ?_
  rintro e W6 ⟨rfl, k6⟩
  have B6 := Sm.low_low B5 hHN k6
  have G1c := Lib.hid ((k6.block N (by omega)).trans G1b.out)
  have G2c := Lib.hid ((k6.block (N + 1) (by omega)).trans G2b.out)
  have G3c := Lib.hid ((k6.block (N + 2) s5).trans G3b.out)
  clear k6
  refine hK.out _ _ ⟨Sm.range_row G1c.out, Sm.range_row G2c.out, Sm.range_row G3c.out⟩ (fun hHeld => ?_)
  clear hK K
  refine wpAnyH_take (i := 6) (oi := ⟨some 15, _, _, _, _, _⟩) (v := .bool q) rfl (by kernel_rfl) (by kernel_rfl) (by kernel_rfl) (fun _ _ _ h => h) (Or.inl ⟨by rfl, ?_⟩) (by assumption) ?_
  · intro w hSw; (try dsimp only at hSw); go_simp
  simp only [Act.put, List.setIfInBounds_toArray, List.set_cons_zero, List.set_cons_succ]
  refine wpAnyH_take (i := 10) (oi := ⟨some 19, _, _, _, _, _⟩) (v := .bool true) rfl (by kernel_rfl) (by kernel_rfl) (by kernel_rfl) (fun _ _ _ h => h) (Or.inl ⟨by rfl, ?_⟩) (by assumption) ?_
  · intro w hSw; (try dsimp only at hSw); go_simp
  simp only [Act.put, List.setIfInBounds_toArray, List.set_cons_zero, List.set_cons_succ]
  refine wpAnyH_take (i := 11) (oi := ⟨some 6, _, _, _, _, _⟩) (v := .bool true) rfl (by kernel_rfl) (by kernel_rfl) (by kernel_rfl) (fun _ _ _ h => h) (Or.inl ⟨by rfl, ?_⟩) (by assumption) ?_
  · intro w hSw; (try dsimp only at hSw); go_simp
  simp only [Act.put, List.setIfInBounds_toArray, List.set_cons_zero, List.set_cons_succ]
  refine wpAnyH_done (by kernel_rfl) ?_ _
  go_wp2
  go_ret
  exact ⟨rfl, by rw [← HN.out]; exact B6⟩
end Go.Proofs.Ytkannddaihlcdaa
