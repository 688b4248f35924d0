/-
  AesBlocks: a block, enciphered, is the document's.
-/
import Derived.Test.YtaoceongfndplaaRaBlock
import Derived.Test.YtaoceongfndplaaAeOne
import Derived.Test.YtaoceongfndplaaAeAwake
import Derived.Test.YtaoceongfndplaaMBase
namespace Go.Proofs.Ytaoceongfndplaa
open Go.RowKit

set_option maxRecDepth 100000 in
set_option maxHeartbeats 2000000 in
theorem aesBlocks_any (w : World) (key l : List UInt8) (hkey : key.length = 32) (hl : l.length = 16) :
    Calls Try.prog 3 #[.agg (Lib.byteCells key).toArray, .agg (Lib.byteCells l).toArray] w fun e w' => e = .returned (.bool true) ∧ Below w.heap.size w w' := by
  have hE1 := fun wx => Sm.eq_row 16 Try.underlying24 (Ae.block key l) (Ae.block key l) (Ae.block_length _ _) (Ae.block_length _ _) wx
  rw [show (Ae.block key l == Ae.block key l) = true by rw [beq_iff_eq]] at hE1
  have B1 : Hid (∀ wx : World, Calls Try.prog 6 #[.agg (Lib.byteCells key).toArray, .agg (Lib.byteCells l).toArray] wx fun e w' => e = .returned (.agg (Lib.byteCells (Ae.block key l)).toArray) ∧ Below wx.heap.size wx w') := fun wx => block_any wx key l hkey hl
  have B2 : Hid (∀ wx : World, Calls Try.prog 7 #[.agg (Lib.byteCells key).toArray, .agg (Lib.byteCells l).toArray] wx fun e w' => e = .returned (.agg (Lib.byteCells (Ae.block key l)).toArray) ∧ Below wx.heap.size wx w') := fun wx => refBlock_any wx key l hkey hl
  obtain ⟨ck, hck⟩ : ∃ c, c = Lib.byteCells key := ⟨_, rfl⟩
  obtain ⟨cl, hcl⟩ : ∃ c, c = Lib.byteCells l := ⟨_, rfl⟩
  obtain ⟨x, hx⟩ : ∃ c, c = (Lib.byteCells (Ae.block key l)).toArray := ⟨_, rfl⟩
  have hckn : ck.length = 32 := by rw [hck, Lib.byteCells_length, hkey]
  have hcln : cl.length = 16 := by rw [hcl, Lib.byteCells_length, hl]
  rw [← hck, ← hcl, ← hx] at B1 B2
  rw [← hx] at hE1
  rw [← hck, ← hcl]
  have HU1 : Hid (Try.prog.underlying 23 = some (.array 32 5)) := Try.underlying23
  have HU2 : Hid (Try.prog.underlying 24 = some (.array 16 5)) := Try.underlying24
  have HI1 : Hid ((Try.prog.info? 23).map (·.size) = some ck.length) := by show _ = _; rw [hckn]; kernel_rfl
  have HI2 : Hid ((Try.prog.info? 24).map (·.size) = some cl.length) := by show _ = _; rw [hcln]; kernel_rfl
  obtain ⟨N, hN⟩ : ∃ N, N = w.heap.size := ⟨_, rfl⟩
  have g1 : ((w.alloc (.cells ck.toArray 23)).alloc (.cells cl.toArray 24)).heap[N]? = some (.cells ck.toArray 23 (0, 0)) := by
    rw [hN, Below.heap_alloc _ _ _ (by simp)]; exact heap_alloc_new w _
  have g2 : ((w.alloc (.cells ck.toArray 23)).alloc (.cells cl.toArray 24)).heap[N + 1]? = some (.cells cl.toArray 24 (0, 0)) := by
    rw [hN]; simpa using heap_alloc_new (w.alloc (.cells ck.toArray 23)) (.cells cl.toArray 24)
  have b3 : Below N w ((w.alloc (.cells ck.toArray 23)).alloc (.cells cl.toArray 24)) := by
    rw [hN]; exact ((Below.refl _ w).alloc (Nat.le_refl _) _).alloc (by simp) _
  have AW := Lib.hid awake4_any
  clear hck hcl hx hckn hcln
  go_enter Try.func3, Try.ntmps3
  go_wp2_with fail
  generalize (w.alloc (.cells ck.toArray 23)).alloc (.cells cl.toArray 24) = W3 at *
  refine (AW.out _).mono ?_
  rintro e w4 ⟨rfl, k4⟩
  have hHN : N ≤ w.heap.size := by omega
  have s3 := Sm.lt_of g2
  have b4 := Sm.low_low b3 hHN k4
  have G1 : Hid (w4.drew.heap[N]? = some (.cells ck.toArray 23 (0, 0))) := (k4.block N (by omega)).trans g1
  have G2 : Hid (w4.drew.heap[N + 1]? = some (.cells cl.toArray 24 (0, 0))) := (k4.block (N + 1) s3).trans g2
  have HN := Lib.hid hN
  have B4 : Below N w w4.drew := b4.drew
  rw [← hN]
  clear g1 g2 b3 k4 b4 s3 hN
  go_wp2_with fail
  refine wp_region_held_drew (S := fun w' => w'.rangeAt N 0 ck ∧ w'.rangeAt (N + 1) 0 cl) (by kernel_rfl) ⟨Sm.range_row G1.out, Sm.range_row G2.out⟩ (fun hHeld => ?_)
  refine wpAnyH_take (i := 0) (oi := ⟨some 7, _, _, _, _, _⟩) (v := .agg ck.toArray) rfl (by kernel_rfl) (by kernel_rfl) (by kernel_rfl) (fun _ _ _ h => h) (yieldsIf_load_mid (by rfl) _ _ rfl _ _ rfl ck _ (fun w hS => hS.1) HU1.out rfl HI1.out) (by assumption) ?_
  simp only [Act.put, List.setIfInBounds_toArray, List.set_cons_zero, List.set_cons_succ]
  refine wpAnyH_take (i := 1) (oi := ⟨some 8, _, _, _, _, _⟩) (v := .agg cl.toArray) rfl (by kernel_rfl) (by kernel_rfl) (by kernel_rfl) (fun _ _ _ h => h) (yieldsIf_load_mid (by rfl) _ _ rfl _ _ rfl cl _ (fun w hS => hS.2) HU2.out rfl HI2.out) (by assumption) ?_
  simp only [Act.put, List.setIfInBounds_toArray, List.set_cons_zero, List.set_cons_succ]
  refine wpAnyH_take (i := 3) (oi := ⟨some 10, _, _, _, _, _⟩) (v := .agg ck.toArray) rfl (by kernel_rfl) (by kernel_rfl) (by kernel_rfl) (fun _ _ _ h => h) (yieldsIf_load_mid (by rfl) _ _ rfl _ _ rfl ck _ (fun w hS => hS.1) HU1.out rfl HI1.out) (by assumption) ?_
  simp only [Act.put, List.setIfInBounds_toArray, List.set_cons_zero, List.set_cons_succ]
  refine wpAnyH_take (i := 4) (oi := ⟨some 11, _, _, _, _, _⟩) (v := .agg cl.toArray) rfl (by kernel_rfl) (by kernel_rfl) (by kernel_rfl) (fun _ _ _ h => h) (yieldsIf_load_mid (by rfl) _ _ rfl _ _ rfl cl _ (fun w hS => hS.2) HU2.out rfl HI2.out) (by assumption) ?_
  simp only [Act.put, List.setIfInBounds_toArray, List.set_cons_zero, List.set_cons_succ]
  refine wpAnyH_ready (rs := [2]) (by kernel_rfl) (by simp) ?_
  refine AllReadyH.cons (o := ⟨some 9, _, _, _, _, _⟩) rfl (fun K hK => ?_) AllReadyH.nil
  go_simp
  refine (B1.out _).mono ?_
  rintro e W5 ⟨rfl, k5⟩
  have s4 := Sm.lt_of G2.out
  have B5 := Sm.low_low B4 hHN k5
  have G1b := Lib.hid ((k5.block N (by omega)).trans G1.out)
  have G2b := Lib.hid ((k5.block (N + 1) s4).trans G2.out)
  have s5 := Sm.lt_of G2b.out
  clear k5
  refine hK.out _ _ ⟨Sm.range_row G1b.out, Sm.range_row G2b.out⟩ (fun hHeld => ?_)
  clear hK K
  refine wpAnyH_ready (rs := [5]) (by kernel_rfl) (by simp) ?_
  refine AllReadyH.cons (o := ⟨some 12, _, _, _, _, _⟩) rfl (fun K hK => ?_) AllReadyH.nil
  go_simp
  refine (B2.out _).mono ?_
  rintro e W6 ⟨rfl, k6⟩
  have B6 := Sm.low_low B5 hHN k6
  have G1c := Lib.hid ((k6.block N (by omega)).trans G1b.out)
  have G2c := Lib.hid ((k6.block (N + 1) s5).trans G2b.out)
  clear k6
  refine hK.out _ _ ⟨Sm.range_row G1c.out, Sm.range_row G2c.out⟩ (fun hHeld => ?_)
  clear hK K
  refine wpAnyH_take (i := 6) (oi := ⟨some 13, _, _, _, _, _⟩) (v := .bool true) rfl (by kernel_rfl) (by kernel_rfl) (by kernel_rfl) (fun _ _ _ h => h) (Or.inl ⟨by rfl, ?_⟩) (by assumption) ?_
  · intro w hSw; (try dsimp only at hSw); go_simp
  simp only [Act.put, List.setIfInBounds_toArray, List.set_cons_zero, List.set_cons_succ]
  refine wpAnyH_take (i := 7) (oi := ⟨some 4, _, _, _, _, _⟩) (v := .bool true) rfl (by kernel_rfl) (by kernel_rfl) (by kernel_rfl) (fun _ _ _ h => h) (Or.inl ⟨by rfl, ?_⟩) (by assumption) ?_
  · intro w hSw; (try dsimp only at hSw); go_simp
  simp only [Act.put, List.setIfInBounds_toArray, List.set_cons_zero, List.set_cons_succ]
  refine wpAnyH_done (by kernel_rfl) ?_ _
  go_wp2
  go_ret
  exact ⟨rfl, by rw [← HN.out]; exact B6⟩
end Go.Proofs.Ytaoceongfndplaa
