/-
  AesKnown answers true, and turns nothing of what was there.
-/
import Derived.Test.YtkannddaihlcdaaAeStream
import Derived.Laws.MakeOwn
namespace Go.Proofs.Ytkannddaihlcdaa
open Go.RowKit
namespace Ae
theorem noughts_stream : stream (List.replicate 32 0) (List.replicate 12 0) (List.replicate 16 0) = [220, 149, 192, 120, 162, 64, 137, 137, 173, 72, 162, 20, 146, 132, 32, 135] := by decide +kernel
theorem zero12 : (Try.prog.info? 29).map (fun i => (i.zero, i.size)) = some (some (.agg (Sm.rowB 12 [])), 12) := by kernel_rfl
theorem made16 : madeCells (Value.int .u8 0).cells (16 * 1) = Sm.rowB 16 [] := by kernel_rfl
theorem make16 (W : World) : (Instr.makeSlice 27 (.int .i64 16) (.int .i64 16)).run Try.prog W = .ok (.slice (some ⟨W.heap.size, 0, none⟩) 16 16) (W.alloc (.cells (Sm.rowB 16 []) 5)) := by
  obtain ⟨i0, hi, hz0, hz1, hz2⟩ := info_parts info3_u8
  have hr := run_make (P := Try.prog) W 27 5 i0 _ Try.underlying27 hi hz0 .i64 .i64 16 16 (by omega) (by omega) (by rw [hz2]; decide) (by omega)
  rw [hz1] at hr
  rw [show (16 : Int).toNat = 16 from rfl, made16] at hr
  exact hr
theorem rowB_nil (n : Nat) : Sm.rowB n [] = (Lib.byteCells (List.replicate n 0)).toArray := by unfold Sm.rowB; simp
theorem conv16 (W : World) : (convert 27 9 (.slice (some ⟨W.heap.size, 0, none⟩) 16 16)).run Try.prog (W.alloc (.cells (Sm.rowB 16 []) 5)) = .ok (.string ⟨(List.replicate 16 0).toArray⟩) (W.alloc (.cells (Sm.rowB 16 []) 5)) := by
  have g := heap_alloc_new W (.cells (Sm.rowB 16 []) 5)
  rw [rowB_nil] at g ⊢
  exact Sm.conv_row (n := 16) g (by simp)
end Ae

set_option maxRecDepth 100000 in
set_option maxHeartbeats 4000000 in
theorem aesKnown_any (w : World) : Calls Try.prog 3 #[] w fun e w' => e = .returned (.bool true) ∧ Below w.heap.size w w' := by
  have hk1 := (zero_of_info Ae.zeroKey).1
  have hk2 := (zero_of_info Ae.zero16).1
  have hk3 := (zero_of_info Ae.zero12).1
  have BK := fun wx => block_any wx (List.replicate 32 0) (List.replicate 16 0) (by simp) (by simp)
  have S1 := fun wx => stream_any wx (List.replicate 32 0) (List.replicate 12 0) (by simp) (by simp) ⟨#[]⟩ (by decide)
  have S2 := fun wx => stream_any wx (List.replicate 32 0) (List.replicate 12 0) (by simp) (by simp) ⟨(List.replicate 16 0).toArray⟩ (by decide)
  rw [Ae.noughts_block, ← Ae.rowB_nil, ← Ae.rowB_nil] at BK
  rw [← Ae.rowB_nil, ← Ae.rowB_nil] at S1 S2
  have S1' : ∀ wx : World, Calls Try.prog 12 #[.agg (Sm.rowB 32 []), .agg (Sm.rowB 12 []), .string ⟨#[]⟩] wx fun e w' => e = .returned (.string ⟨#[]⟩) ∧ Below wx.heap.size wx w' := S1
  have S2' : ∀ wx : World, Calls Try.prog 12 #[.agg (Sm.rowB 32 []), .agg (Sm.rowB 12 []), .string ⟨(List.replicate 16 0).toArray⟩] wx fun e w' => e = .returned (.string ⟨#[220, 149, 192, 120, 162, 64, 137, 137, 173, 72, 162, 20, 146, 132, 32, 135]⟩) ∧ Below wx.heap.size wx w' := fun wx =>
    (S2 wx).mono fun e w' ⟨h1, h2⟩ => ⟨by rw [h1]; show Ending.returned (.string ⟨(Ae.stream (List.replicate 32 0) (List.replicate 12 0) (List.replicate 16 0)).toArray⟩) = _; rw [Ae.noughts_stream], h2⟩
  have hmk := Ae.make16
  have hcv := Ae.conv16
  obtain ⟨z1, hz1⟩ : ∃ z, z = Sm.rowB 32 [] := ⟨_, rfl⟩
  obtain ⟨z2, hz2⟩ : ∃ z, z = Sm.rowB 16 [] := ⟨_, rfl⟩
  obtain ⟨z3, hz3⟩ : ∃ z, z = Sm.rowB 12 [] := ⟨_, rfl⟩
  obtain ⟨zs, hzs⟩ : ∃ b : ByteArray, b = ⟨(List.replicate 16 0).toArray⟩ := ⟨_, rfl⟩
  rw [← hz1] at hk1
  rw [← hz2] at hk2 hmk
  rw [← hz3] at hk3
  rw [← hz2, ← hzs] at hcv
  rw [← hz1, ← hz2] at BK
  rw [← hz1, ← hz3] at S1'
  rw [← hz1, ← hz3, ← hzs] at S2'
  have HS1 := Lib.hid S1'
  have HS2 := Lib.hid S2'
  have HBK := Lib.hid BK
  have AW := Lib.hid awake4_any
  obtain ⟨cr, hcr⟩ : ∃ c, c = (Lib.byteCells [220, 149, 192, 120, 162, 64, 137, 137, 173, 72, 162, 20, 146, 132, 32, 135]).toArray := ⟨_, rfl⟩
  rw [← hcr] at HBK
  have hcrn : cr.size = 16 := by rw [hcr]; rfl
  have hcro : cr.all (·.oneCell') = true := by rw [hcr]; exact Sm.bytes_one _
  have hz2n : z2.size = 16 := by rw [hz2]; exact Sm.rowB_size (by simp)
  have CONV : Hid (∀ (wx : World) (N : Nat), wx.heap[N]? = some (.cells cr 22 (0, 0)) → (convert 27 9 (.slice (some ⟨N, 0, none⟩) 16 16)).run Try.prog wx = .ok (.string ⟨#[220, 149, 192, 120, 162, 64, 137, 137, 173, 72, 162, 20, 146, 132, 32, 135]⟩) wx) := by
    intro wx N h
    rw [hcr] at h
    exact Sm.conv_row h rfl
  clear S1 S2 S1' S2' BK hz1 hz2 hz3 hzs hcr
  go_enter Try.func3, Try.ntmps3
  go_wp2_with fail
  refine (HBK.out _).mono ?_
  rintro e w1 ⟨rfl, k1⟩
  have hst : (storeCells ⟨w1.heap.size, 0, none⟩ cr.toList).run Try.prog (w1.alloc (.cells z2 22)) = .ok () (w1.alloc (.cells cr 22)) :=
    run_storeCells_new (P := Try.prog) w1 22 z2 cr (Ae.info16 hcrn) (by rw [hcrn, hz2n]) hcro
  have g1 := heap_alloc_new w1 (.cells cr 22)
  have b1 := k1.alloc k1.size (.cells cr 22)
  have s1 : (w1.alloc (.cells cr 22)).heap.size = w1.heap.size + 1 := by simp
  clear k1 hz2n hcro
  go_wp2_with fail
  clear hst hcrn
  generalize w1.alloc (.cells cr 22) = W2 at *
  obtain ⟨N, hN⟩ : ∃ N, N = w1.heap.size := ⟨_, rfl⟩
  rw [← hN] at g1 s1 ⊢
  have hNw : N < W2.drew.heap.size := by show N < W2.heap.size; omega
  have P2 : Hid (W2.drew.heap[N]? = some (.cells cr 22 (0, 0))) := g1
  have B2 : Hid (Below w.heap.size w W2.drew) := b1.drew
  clear hN g1 b1 s1
  refine wp_region_held_drew (S := fun w' => (convert 27 9 (.slice (some ⟨N, 0, none⟩) 16 16)).run Try.prog w' = .ok (.string (⟨#[220, 149, 192, 120, 162, 64, 137, 137, 173, 72, 162, 20, 146, 132, 32, 135]⟩ : ByteArray)) w') (by kernel_rfl) (CONV.out _ _ P2.out) (fun hHeld => ?_)
  refine wpAnyH_ready (rs := [0]) (by kernel_rfl) (by simp) ?_
  refine AllReadyH.cons (o := ⟨some 5, _, _, _, _, _⟩) rfl (fun K hK => ?_) AllReadyH.nil
  go_simp
  refine (AW.out _).mono ?_
  rintro e w3 ⟨rfl, k3⟩
  have P3 := Lib.hid ((k3.block N hNw).trans P2.out)
  have B3 := Lib.hid (Sm.low_low B2.out (Nat.le_refl _) k3)
  have s3 := Sm.lt_of P3.out
  clear k3
  refine hK.out _ _ (CONV.out _ _ P3.out) (fun hHeld => ?_)
  clear hK K
  refine wpAnyH_take (i := 1) (oi := ⟨some 6, _, _, _, _, _⟩) (v := .bool true) rfl (by kernel_rfl) (by kernel_rfl) (by kernel_rfl) (fun _ _ _ h => h) (Or.inl ⟨by rfl, ?_⟩) (by assumption) ?_
  · intro w hSw; (try dsimp only at hSw); go_simp
  simp only [Act.put, List.setIfInBounds_toArray, List.set_cons_zero, List.set_cons_succ]
  refine wpAnyH_take (i := 2) (oi := ⟨some 7, _, _, _, _, _⟩) (v := (.slice (some ⟨N, 0, none⟩) 16 16)) rfl (by kernel_rfl) (by kernel_rfl) (by kernel_rfl) (fun _ _ _ h => h) (Or.inl ⟨by rfl, ?_⟩) (by assumption) ?_
  · intro w hSw; (try dsimp only at hSw); go_simp
  simp only [Act.put, List.setIfInBounds_toArray, List.set_cons_zero, List.set_cons_succ]
  refine wpAnyH_take (i := 3) (oi := ⟨some 8, _, _, _, _, _⟩) (v := .string (⟨#[220, 149, 192, 120, 162, 64, 137, 137, 173, 72, 162, 20, 146, 132, 32, 135]⟩ : ByteArray)) rfl (by kernel_rfl) (by kernel_rfl) (by kernel_rfl) (fun _ _ _ h => h) (Or.inl ⟨by rfl, ?_⟩) (by assumption) ?_
  · intro w hSw; (try dsimp only at hSw); go_simp
  simp only [Act.put, List.setIfInBounds_toArray, List.set_cons_zero, List.set_cons_succ]
  refine wpAnyH_take (i := 4) (oi := ⟨some 9, _, _, _, _, _⟩) (v := .bool true) rfl (by kernel_rfl) (by kernel_rfl) (by kernel_rfl) (fun _ _ _ h => h) (Or.inl ⟨by rfl, ?_⟩) (by assumption) ?_
  · intro w hSw; (try dsimp only at hSw); go_simp
  simp only [Act.put, List.setIfInBounds_toArray, List.set_cons_zero, List.set_cons_succ]
  refine wpAnyH_take (i := 5) (oi := ⟨some 10, _, _, _, _, _⟩) (v := .bool true) rfl (by kernel_rfl) (by kernel_rfl) (by kernel_rfl) (fun _ _ _ h => h) (Or.inl ⟨by rfl, ?_⟩) (by assumption) ?_
  · intro w hSw; (try dsimp only at hSw); go_simp
  simp only [Act.put, List.setIfInBounds_toArray, List.set_cons_zero, List.set_cons_succ]
  refine wpAnyH_take (i := 6) (oi := ⟨some 11, _, _, _, _, _⟩) (v := .bool true) rfl (by kernel_rfl) (by kernel_rfl) (by kernel_rfl) (fun _ _ _ h => h) (Or.inl ⟨by rfl, ?_⟩) (by assumption) ?_
  · intro w hSw; (try dsimp only at hSw); go_simp
  simp only [Act.put, List.setIfInBounds_toArray, List.set_cons_zero, List.set_cons_succ]
  refine wpAnyH_take (i := 7) (oi := ⟨some 12, _, _, _, _, _⟩) (v := .agg z1) rfl (by kernel_rfl) (by kernel_rfl) (by kernel_rfl) (fun _ _ _ h => h) (Or.inl ⟨by rfl, ?_⟩) (by assumption) ?_
  · intro w hSw; (try dsimp only at hSw); go_simp
  simp only [Act.put, List.setIfInBounds_toArray, List.set_cons_zero, List.set_cons_succ]
  refine wpAnyH_take (i := 8) (oi := ⟨some 13, _, _, _, _, _⟩) (v := .agg z3) rfl (by kernel_rfl) (by kernel_rfl) (by kernel_rfl) (fun _ _ _ h => h) (Or.inl ⟨by rfl, ?_⟩) (by assumption) ?_
  · intro w hSw; (try dsimp only at hSw); go_simp
  simp only [Act.put, List.setIfInBounds_toArray, List.set_cons_zero, List.set_cons_succ]
  refine wpAnyH_ready (rs := [9]) (by kernel_rfl) (by simp) ?_
  refine AllReadyH.cons (o := ⟨some 14, _, _, _, _, _⟩) rfl (fun K hK => ?_) AllReadyH.nil
  go_simp
  refine (HS1.out _).mono ?_
  rintro e w4 ⟨rfl, k4⟩
  have P4 := Lib.hid ((k4.block N s3).trans P3.out)
  have B4 := Lib.hid (Sm.low_low B3.out (Nat.le_refl _) k4)
  have s4 := Sm.lt_of P4.out
  clear k4
  refine hK.out _ _ (CONV.out _ _ P4.out) (fun hHeld => ?_)
  clear hK K
  refine wpAnyH_take (i := 10) (oi := ⟨some 15, _, _, _, _, _⟩) (v := .bool true) rfl (by kernel_rfl) (by kernel_rfl) (by kernel_rfl) (fun _ _ _ h => h) (Or.inl ⟨by rfl, ?_⟩) (by assumption) ?_
  · intro w hSw; (try dsimp only at hSw); go_simp
  simp only [Act.put, List.setIfInBounds_toArray, List.set_cons_zero, List.set_cons_succ]
  refine wpAnyH_take (i := 11) (oi := ⟨some 16, _, _, _, _, _⟩) (v := .bool true) rfl (by kernel_rfl) (by kernel_rfl) (by kernel_rfl) (fun _ _ _ h => h) (Or.inl ⟨by rfl, ?_⟩) (by assumption) ?_
  · intro w hSw; (try dsimp only at hSw); go_simp
  simp only [Act.put, List.setIfInBounds_toArray, List.set_cons_zero, List.set_cons_succ]
  refine wpAnyH_take (i := 12) (oi := ⟨some 17, _, _, _, _, _⟩) (v := .bool true) rfl (by kernel_rfl) (by kernel_rfl) (by kernel_rfl) (fun _ _ _ h => h) (Or.inl ⟨by rfl, ?_⟩) (by assumption) ?_
  · intro w hSw; (try dsimp only at hSw); go_simp
  simp only [Act.put, List.setIfInBounds_toArray, List.set_cons_zero, List.set_cons_succ]
  refine wpAnyH_take (i := 13) (oi := ⟨some 18, _, _, _, _, _⟩) (v := .agg z1) rfl (by kernel_rfl) (by kernel_rfl) (by kernel_rfl) (fun _ _ _ h => h) (Or.inl ⟨by rfl, ?_⟩) (by assumption) ?_
  · intro w hSw; (try dsimp only at hSw); go_simp
  simp only [Act.put, List.setIfInBounds_toArray, List.set_cons_zero, List.set_cons_succ]
  refine wpAnyH_take (i := 14) (oi := ⟨some 19, _, _, _, _, _⟩) (v := .agg z3) rfl (by kernel_rfl) (by kernel_rfl) (by kernel_rfl) (fun _ _ _ h => h) (Or.inl ⟨by rfl, ?_⟩) (by assumption) ?_
  · intro w hSw; (try dsimp only at hSw); go_simp
  simp only [Act.put, List.setIfInBounds_toArray, List.set_cons_zero, List.set_cons_succ]
  refine wpAnyH_take (i := 18) (oi := ⟨some 23, _, _, _, _, _⟩) (v := (.slice (some ⟨N, 0, none⟩) 16 16)) rfl (by kernel_rfl) (by kernel_rfl) (by kernel_rfl) (fun _ _ _ h => h) (Or.inl ⟨by rfl, ?_⟩) (by assumption) ?_
  · intro w hSw; (try dsimp only at hSw); go_simp
  simp only [Act.put, List.setIfInBounds_toArray, List.set_cons_zero, List.set_cons_succ]
  refine wpAnyH_take (i := 19) (oi := ⟨some 24, _, _, _, _, _⟩) (v := .string (⟨#[220, 149, 192, 120, 162, 64, 137, 137, 173, 72, 162, 20, 146, 132, 32, 135]⟩ : ByteArray)) rfl (by kernel_rfl) (by kernel_rfl) (by kernel_rfl) (fun _ _ _ h => h) (Or.inl ⟨by rfl, ?_⟩) (by assumption) ?_
  · intro w hSw; (try dsimp only at hSw); go_simp
  simp only [Act.put, List.setIfInBounds_toArray, List.set_cons_zero, List.set_cons_succ]
  refine wpAnyH_ready (rs := [15]) (by kernel_rfl) (by simp) ?_
  refine AllReadyH.cons (o := ⟨some 20, _, _, _, _, _⟩) rfl (fun K hK => ?_) AllReadyH.nil
  go_simp
  have P5 := Lib.hid ((Below.heap_alloc w4 (.cells z2 5) N s4).trans P4.out)
  have B5 := Lib.hid (B4.out.alloc B4.out.size (.cells z2 5))
  refine hK.out _ _ (CONV.out _ _ P5.out) (fun hHeld => ?_)
  clear hK K
  refine wpAnyH_ready (rs := [16]) (by kernel_rfl) (by simp) ?_
  refine AllReadyH.cons (o := ⟨some 21, _, _, _, _, _⟩) rfl (fun K hK => ?_) AllReadyH.nil
  go_simp
  refine hK.out _ _ (CONV.out _ _ P5.out) (fun hHeld => ?_)
  clear hK K
  refine wpAnyH_ready (rs := [17]) (by kernel_rfl) (by simp) ?_
  refine AllReadyH.cons (o := ⟨some 22, _, _, _, _, _⟩) rfl (fun K hK => ?_) AllReadyH.nil
  go_simp
  refine (HS2.out _).mono ?_
  rintro e w6 ⟨rfl, k6⟩
  have P6 := Lib.hid ((k6.block N (Sm.lt_of P5.out)).trans P5.out)
  have B6 := Lib.hid (Sm.low_low B5.out (Nat.le_refl _) k6)
  clear k6
  refine hK.out _ _ (CONV.out _ _ P6.out) (fun hHeld => ?_)
  clear hK K
  refine wpAnyH_take (i := 20) (oi := ⟨some 25, _, _, _, _, _⟩) (v := .bool true) rfl (by kernel_rfl) (by kernel_rfl) (by kernel_rfl) (fun _ _ _ h => h) (Or.inl ⟨by rfl, ?_⟩) (by assumption) ?_
  · intro w hSw; (try dsimp only at hSw); go_simp
  simp only [Act.put, List.setIfInBounds_toArray, List.set_cons_zero, List.set_cons_succ]
  refine wpAnyH_take (i := 21) (oi := ⟨some 26, _, _, _, _, _⟩) (v := .bool true) rfl (by kernel_rfl) (by kernel_rfl) (by kernel_rfl) (fun _ _ _ h => h) (Or.inl ⟨by rfl, ?_⟩) (by assumption) ?_
  · intro w hSw; (try dsimp only at hSw); go_simp
  simp only [Act.put, List.setIfInBounds_toArray, List.set_cons_zero, List.set_cons_succ]
  refine wpAnyH_take (i := 22) (oi := ⟨some 0, _, _, _, _, _⟩) (v := .bool true) rfl (by kernel_rfl) (by kernel_rfl) (by kernel_rfl) (fun _ _ _ h => h) (Or.inl ⟨by rfl, ?_⟩) (by assumption) ?_
  · intro w hSw; (try dsimp only at hSw); go_simp
  simp only [Act.put, List.setIfInBounds_toArray, List.set_cons_zero]
  refine wpAnyH_done (by kernel_rfl) ?_ _
  go_wp2
  go_ret
  exact ⟨rfl, B6.out⟩
end Go.Proofs.Ytkannddaihlcdaa
