/-
  What Block tells.
-/
import Derived.Test.YtgdnpagmhkkaiaaAeRounds
namespace Go.Proofs.Ytgdnpagmhkkaiaa
open Go.RowKit

set_option maxRecDepth 100000 in
set_option maxHeartbeats 2000000 in
theorem block_any (w : World) (key l : List UInt8) (hkey : key.length = 32) (hl : l.length = 16) :
    Calls Try.prog 8 #[.agg (Lib.byteCells key).toArray, .agg (Lib.byteCells l).toArray] w fun e w' => e = .returned (.agg (Lib.byteCells (Ae.block key l)).toArray) ∧ Below w.heap.size w w' := by
  obtain ⟨ck, hck⟩ : ∃ c, c = Lib.byteCells key := ⟨_, rfl⟩
  obtain ⟨cl, hcl⟩ : ∃ c, c = Lib.byteCells l := ⟨_, rfl⟩
  obtain ⟨z0, hz0⟩ : ∃ z, z = Sm.rowB 16 [] := ⟨_, rfl⟩
  have hz1 := (zero_of_info Ae.zero16).1
  rw [← hz0] at hz1
  have hckn : ck.length = 32 := by rw [hck, Lib.byteCells_length, hkey]
  have hcln : cl.length = 16 := by rw [hcl, Lib.byteCells_length, hl]
  have hzn : z0.size = 16 := by rw [hz0]; exact Sm.rowB_size (by simp)
  rw [← hck, ← hcl]
  have NC : Hid (∀ wx : World, Calls Try.prog 9 #[.agg ck.toArray] wx fun e w' => ∃ b, e = .returned (.pointer (some ⟨b, 0, none⟩)) ∧ wx.heap.size ≤ b ∧ Ae.CipAt w' b key ∧ Below wx.heap.size wx w') := by
    intro wx; rw [hck]; exact newCipher_any wx key hkey
  have BO : Hid (∀ wx : World, Calls Try.prog 10 #[.agg cl.toArray] wx fun e w' => e = .returned (.agg (Sm.nums (Ae.cols l)).toArray) ∧ Below wx.heap.size wx w') := by
    intro wx; rw [hcl]; exact blkOf_any wx l hl
  obtain ⟨co, hco⟩ : ∃ c, c = Sm.nums (Ae.cols l) := ⟨_, rfl⟩
  obtain ⟨ce, hce⟩ : ∃ c, c = Sm.nums (Ae.enc (Ae.ks key) (Ae.cols l)) := ⟨_, rfl⟩
  obtain ⟨cr, hcr⟩ : ∃ c, c = Lib.byteCells (Ae.block key l) := ⟨_, rfl⟩
  rw [← hco] at BO
  have EN : Hid (∀ (wx : World) (b : Nat), Ae.CipAt wx b key → Calls Try.prog 11 #[.pointer (some ⟨b, 0, none⟩), .agg co.toArray] wx fun e w' => e = .returned (.agg ce.toArray) ∧ Below wx.heap.size wx w') := by
    intro wx b h; rw [hco, hce]; exact enc_any h _ (Ae.cols_length l) (Ae.cols_lt l)
  have BY : Hid (∀ wx : World, Calls Try.prog 12 #[.agg ce.toArray] wx fun e w' => e = .returned (.agg cr.toArray) ∧ Below wx.heap.size wx w') := by
    intro wx; rw [hce, hcr]; exact bytes_any wx _ (Ae.enc_length _ _) (Ae.enc_lt (Ae.ks_lt key))
  have hcrn : cr.length = 16 := by rw [hcr, Lib.byteCells_length, Ae.block_length]
  have honer : cr.toArray.all (·.oneCell') = true := by rw [hcr]; exact Sm.bytes_one _
  have HCR := Lib.hid hcr
  obtain ⟨N, hN⟩ : ∃ N, N = w.heap.size := ⟨_, rfl⟩
  have g1 : (((w.alloc (.cells ck.toArray 23)).alloc (.cells cl.toArray 29)).alloc (.cells z0 29)).heap[N]? = some (.cells ck.toArray 23 (0, 0)) := by
    rw [hN, Below.heap_alloc _ _ _ (by simp; omega), Below.heap_alloc _ _ _ (by simp)]; exact heap_alloc_new w _
  have g2 : (((w.alloc (.cells ck.toArray 23)).alloc (.cells cl.toArray 29)).alloc (.cells z0 29)).heap[N + 1]? = some (.cells cl.toArray 29 (0, 0)) := by
    rw [hN, Below.heap_alloc _ _ _ (by simp)]; simpa using heap_alloc_new (w.alloc (.cells ck.toArray 23)) (.cells cl.toArray 29)
  have g3 : (((w.alloc (.cells ck.toArray 23)).alloc (.cells cl.toArray 29)).alloc (.cells z0 29)).heap[N + 2]? = some (.cells z0 29 (0, 0)) := by
    rw [hN]; simpa using heap_alloc_new ((w.alloc (.cells ck.toArray 23)).alloc (.cells cl.toArray 29)) (.cells z0 29)
  have b3 : Below N w (((w.alloc (.cells ck.toArray 23)).alloc (.cells cl.toArray 29)).alloc (.cells z0 29)) := by
    rw [hN]; exact (((Below.refl _ w).alloc (Nat.le_refl _) _).alloc (by simp) _).alloc (by simp; omega) _
  clear hck hcl hz0 hco hce hcr
  go_enter Try.func8, Try.ntmps8
  go_upto_region 1 with (fail)
  clear hz1
  generalize ((w.alloc (.cells ck.toArray 23)).alloc (.cells cl.toArray 29)).alloc (.cells z0 29) = W3 at *
  rw [← hN]
  have HN := Lib.hid hN
  clear hN
  have G1 : Hid (W3.drew.heap[N]? = some (.cells ck.toArray 23 (0, 0))) := g1
  have G2 : Hid (W3.drew.heap[N + 1]? = some (.cells cl.toArray 29 (0, 0))) := g2
  have G3 : Hid (W3.drew.heap[N + 2]? = some (.cells z0 29 (0, 0))) := g3
  have B3 : Below N w W3.drew := b3.drew
  have s3 := Sm.lt_of G3.out
  clear g1 g2 g3 b3
  have HU1 : Hid (Try.prog.underlying 23 = some (.array 32 5)) := Try.underlying23
  have HU2 : Hid (Try.prog.underlying 29 = some (.array 16 5)) := Try.underlying29
  have HI1 : Hid ((Try.prog.info? 23).map (·.size) = some ck.length) := by show _ = _; rw [hckn]; kernel_rfl
  have HI2 : Hid ((Try.prog.info? 29).map (·.size) = some cl.length) := by show _ = _; rw [hcln]; kernel_rfl
  have HI3 : Hid ((Try.prog.info? 29).map (·.size) = some cr.toArray.size) := by show _ = _; rw [List.size_toArray, hcrn]; kernel_rfl
  have HZN := Lib.hid hzn
  have HCRN := Lib.hid hcrn
  have HON := Lib.hid honer
  clear hckn hcln hzn hcrn honer
  refine wp_region_held_drew (S := fun w' => w'.rangeAt N 0 ck ∧ w'.rangeAt (N + 1) 0 cl) (by kernel_rfl) ⟨Sm.range_row G1.out, Sm.range_row G2.out⟩ (fun hHeld => ?_)
  refine wpAnyH_take (i := 0) (oi := ⟨some 5, _, _, _, _, _⟩) (v := .agg ck.toArray) rfl (by kernel_rfl) (by kernel_rfl) (by kernel_rfl) (fun _ _ _ h => h) (yieldsIf_load_mid (by rfl) _ _ rfl _ _ rfl ck _ (fun w hS => hS.1) HU1.out rfl HI1.out) (by assumption) ?_
  simp only [Act.put, List.setIfInBounds_toArray, List.set_cons_zero, List.set_cons_succ]
  refine wpAnyH_take (i := 2) (oi := ⟨some 7, _, _, _, _, _⟩) (v := .agg cl.toArray) rfl (by kernel_rfl) (by kernel_rfl) (by kernel_rfl) (fun _ _ _ h => h) (yieldsIf_load_mid (by rfl) _ _ rfl _ _ rfl cl _ (fun w hS => hS.2) HU2.out rfl HI2.out) (by assumption) ?_
  simp only [Act.put, List.setIfInBounds_toArray, List.set_cons_zero, List.set_cons_succ]
  refine wpAnyH_ready (rs := [1]) (by kernel_rfl) (by simp) ?_
  refine AllReadyH.cons (o := ⟨some 6, _, _, _, _, _⟩) rfl (fun K hK => ?_) AllReadyH.nil
  go_simp
  refine (NC.out _).mono ?_
  rintro e W4 ⟨bc, rfl, hbc, hcip, k4⟩
  have B4 := Sm.low_low B3 (by rw [HN.out]; exact Nat.le_refl _) k4
  have G1b := Lib.hid ((k4.block N (by omega)).trans G1.out)
  have G2b := Lib.hid ((k4.block (N + 1) (by omega)).trans G2.out)
  have G3b := Lib.hid ((k4.block (N + 2) (by omega)).trans G3.out)
  have s4 := Sm.lt_of G3b.out
  have HCIP := Lib.hid hcip
  clear k4 hcip
  refine hK.out _ _ ⟨Sm.range_row G1b.out, Sm.range_row G2b.out⟩ (fun hHeld => ?_)
  clear hK K
  refine wpAnyH_ready (rs := [3]) (by kernel_rfl) (by simp) ?_
  refine AllReadyH.cons (o := ⟨some 8, _, _, _, _, _⟩) rfl (fun K hK => ?_) AllReadyH.nil
  go_simp
  refine (BO.out _).mono ?_
  rintro e W5 ⟨rfl, k5⟩
  have B5 := Sm.low_low B4 (by rw [HN.out]; exact Nat.le_refl _) k5
  have G1c := Lib.hid ((k5.block N (by omega)).trans G1b.out)
  have G2c := Lib.hid ((k5.block (N + 1) (by omega)).trans G2b.out)
  have G3c := Lib.hid ((k5.block (N + 2) s4).trans G3b.out)
  have HC5 := Lib.hid (HCIP.out.low k5 (Sm.lt_of HCIP.out))
  have s5 := Sm.lt_of G3c.out
  clear k5
  refine hK.out _ _ ⟨Sm.range_row G1c.out, Sm.range_row G2c.out⟩ (fun hHeld => ?_)
  clear hK K
  refine wpAnyH_ready (rs := [4]) (by kernel_rfl) (by simp) ?_
  refine AllReadyH.cons (o := ⟨some 9, _, _, _, _, _⟩) rfl (fun K hK => ?_) AllReadyH.nil
  go_simp
  refine (EN.out _ _ HC5.out).mono ?_
  rintro e W6 ⟨rfl, k6⟩
  have B6 := Sm.low_low B5 (by rw [HN.out]; exact Nat.le_refl _) k6
  have G1d := Lib.hid ((k6.block N (by omega)).trans G1c.out)
  have G2d := Lib.hid ((k6.block (N + 1) (by omega)).trans G2c.out)
  have G3d := Lib.hid ((k6.block (N + 2) s5).trans G3c.out)
  have s6 := Sm.lt_of G3d.out
  clear k6
  refine hK.out _ _ ⟨Sm.range_row G1d.out, Sm.range_row G2d.out⟩ (fun hHeld => ?_)
  clear hK K
  refine wpAnyH_ready (rs := [5]) (by kernel_rfl) (by simp) ?_
  refine AllReadyH.cons (o := ⟨some 10, _, _, _, _, _⟩) rfl (fun K hK => ?_) AllReadyH.nil
  go_simp
  refine (BY.out _).mono ?_
  rintro e W7 ⟨rfl, k7⟩
  have B7 := Sm.low_low B6 (by rw [HN.out]; exact Nat.le_refl _) k7
  have G1e := Lib.hid ((k7.block N (by omega)).trans G1d.out)
  have G2e := Lib.hid ((k7.block (N + 1) (by omega)).trans G2d.out)
  have G3e := Lib.hid ((k7.block (N + 2) s6).trans G3d.out)
  clear k7
  refine hK.out _ _ ⟨Sm.range_row G1e.out, Sm.range_row G2e.out⟩ (fun hHeld => ?_)
  clear hK K
  refine wpAnyH_ready (rs := [6]) (by kernel_rfl) (by simp) ?_
  refine AllReadyH.cons (o := ⟨none, _, _, _, _, _⟩) rfl (fun K hK => ?_) AllReadyH.nil
  rw [if_pos (by simp [Region.wanted])]
  refine wp_store_mid 29 (.tmp 4) (.tmp 10) rfl (N + 2) 0 cr.toArray rfl rfl (Sm.there_row G3e.out (by rw [HZN.out, List.size_toArray, HCRN.out])) HI3.out HON.out ?_
  refine hK.out _ _ ⟨World.rangeAt_setCells_apart (Sm.range_row G1e.out) _ _ _ (.inl (by omega)), World.rangeAt_setCells_apart (Sm.range_row G2e.out) _ _ _ (.inl (by omega))⟩ (fun hHeld => ?_)
  clear hK K
  refine wpAnyH_done (by kernel_rfl) ?_ _
  have HR8 := Lib.hid (Sm.heap_setAll (vs := cr) G3e.out (by rw [HZN.out, HCRN.out]))
  have B8 : Below N w (W7.setCells (N + 2) 0 cr) := Sm.below_setCells (by omega) _ _ B7
  simp only [Act.put]
  go_wp2
  exact bodyPost_ret (v := .agg cr.toArray) (results_cell_row rfl _ _ (N + 2) 29 _ (0, 0) _ rfl HR8.out Try.underlying29 rfl HI3.out) rfl ⟨by rw [HCR.out], by rw [← HN.out]; exact B8⟩
end Go.Proofs.Ytgdnpagmhkkaiaa
