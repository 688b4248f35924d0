/-
  The document's own disk: New.
-/
import Derived.Test.YtnmagfodjcookaaGreatDkRefSpoil
namespace Go.Proofs.YtnmagfodjcookaaGreat
open Go.RowKit
namespace Dk
theorem made64' : madeCells (Value.int .u8 0).cells (64 * 1) = (Lib.byteCells blank).toArray := by kernel_rfl
theorem info3_u8' : (Tryz.prog.info? 5).map (fun i => (i.zero, i.size, i.bytes)) = some (some (.int .u8 0), 1, 1) := by kernel_rfl
end Dk
set_option maxRecDepth 100000 in
theorem r7New_bad (w : World) (n : Int) (h : n < 1 ∨ 4096 < n) :
    Calls Tryz.prog 8 #[.int .i64 n] w fun e w' => ∃ v, e = .returned (.tuple #[v, .int .i64 1]) ∧ Below w.heap.size w w' := by
  have b2 : Below w.heap.size w (w.alloc (.cells #[.slice none 0 0, .slice none 0 0, .int .i64 0, .bool false] 33)) := (Below.refl _ w).alloc (Nat.le_refl _) _
  have b3 : Hid (∀ a b c d : Value, Below w.heap.size w (((((w.alloc (.cells #[.slice none 0 0, .slice none 0 0, .int .i64 0, .bool false] 33)).setCell ⟨w.heap.size, 0, none⟩ a).setCell ⟨w.heap.size, 1, none⟩ b).setCell ⟨w.heap.size, 2, none⟩ c).setCell ⟨w.heap.size, 3, none⟩ d)) := fun a b c d => Dk.set4_below b2 (Nat.le_refl _) _ _ _ _
  have B2 := Lib.hid b2
  clear b2
  by_cases h1 : n < 1
  · go_enter Tryz.func8, Tryz.ntmps8
    go_wp2
    refine bodyPost_ret (v := .tuple #[.agg #[.slice none 0 0, .slice none 0 0, .int .i64 0, .bool false], .int .i64 1]) ((results_cell_tmp rfl _ _ _).trans (by go_simp)) rfl ?_
    first | exact ⟨_, rfl, B2.out⟩ | exact ⟨⟨_, rfl⟩, B2.out⟩
  · have h2 : 4096 < n := by omega
    clear h
    go_enter Tryz.func8, Tryz.ntmps8
    go_wp2
    refine bodyPost_ret (v := .tuple #[.agg #[.slice none 0 0, .slice none 0 0, .int .i64 0, .bool false], .int .i64 1]) ((results_cell_tmp rfl _ _ _).trans (by go_simp)) rfl ?_
    first | exact ⟨_, rfl, B2.out⟩ | exact ⟨⟨_, rfl⟩, B2.out⟩
set_option maxRecDepth 100000 in
set_option maxHeartbeats 2000000 in
theorem r7New_any (w : World) (fp : Nat → Prop) (hfp : ∀ k, fp k → k < w.heap.size) (n : Nat) (hn : 1 ≤ n ∧ n ≤ 4096) :
    Calls Tryz.prog 8 #[.int .i64 (n : Int)] w fun e w' => ∃ v, e = .returned (.tuple #[v, .int .i64 0]) ∧ Dk.RefAt w' fp v (Dk.new n) ∧ Below w.heap.size w w' := by
  have HFP := Lib.hid hfp
  clear hfp
  obtain ⟨i0, hi0, hz0, hz1, hz2⟩ := info_parts Dk.info3_u8'
  obtain ⟨zb, hzb⟩ : ∃ z, z = (Lib.byteCells Dk.blank).toArray := ⟨_, rfl⟩
  obtain ⟨bB, hbB⟩ : ∃ b : ByteArray, b = ⟨Dk.blank.toArray⟩ := ⟨_, rfl⟩
  have hmk : ∀ wx : World, (Instr.makeSlice 65 (.int .i64 64) (.int .i64 64)).run Tryz.prog wx = .ok (.slice (some ⟨wx.heap.size, 0, none⟩) 64 64) (wx.alloc (.cells zb 5)) := fun wx => by
    have h := run_make (P := Tryz.prog) wx 65 5 i0 (.int .u8 0) Tryz.underlying65 hi0 hz0 .i64 .i64 64 64 (by omega) (by omega) (by rw [hz2]; omega) (by omega)
    rw [hz1, show (64 : Int).toNat = 64 from rfl, Dk.made64', ← hzb] at h
    exact h
  have hcv : ∀ wx : World, (convert 65 9 (.slice (some ⟨wx.heap.size, 0, none⟩) 64 64)).run Tryz.prog (wx.alloc (.cells zb 5)) = .ok (.string bB) (wx.alloc (.cells zb 5)) := fun wx => by
    rw [hzb, hbB]
    exact Sm.conv_row (heap_alloc_new wx _) (by simp [Dk.blank])
  have HBB := Lib.hid hbB
  clear hi0 hz0 hz1 hz2 i0 hzb hbB
  obtain ⟨N, hN⟩ : ∃ N, N = w.heap.size := ⟨_, rfl⟩
  obtain ⟨w1, hw1⟩ : ∃ x, x = (w.alloc (.cells #[.slice none 0 0, .slice none 0 0, .int .i64 0, .bool false] 33)).alloc (.cells #[.slice none 0 0, .slice none 0 0, .int .i64 (-1), .bool false] 33) := ⟨_, rfl⟩
  have b1 : Below w.heap.size w w1 := by rw [hw1]; exact ((Below.refl _ w).alloc (Nat.le_refl _) _).alloc (by simp) _
  have r1 : w1.heap[N]? = some (.cells #[.slice none 0 0, .slice none 0 0, .int .i64 0, .bool false] 33 (0, 0)) := by rw [hw1, hN, Below.heap_alloc _ _ _ (by simp)]; exact heap_alloc_new w _
  have g1 : w1.heap[N + 1]? = some (.cells #[.slice none 0 0, .slice none 0 0, .int .i64 (-1), .bool false] 33 (0, 0)) := by
    have := heap_alloc_new (w.alloc (.cells #[.slice none 0 0, .slice none 0 0, .int .i64 0, .bool false] 33)) (.cells #[.slice none 0 0, .slice none 0 0, .int .i64 (-1), .bool false] 33)
    rw [World.size_alloc] at this
    rw [hw1, hN]; exact this
  have hs1 : w1.heap.size = N + 2 := by rw [hw1, hN]; simp
  have HW1 := Lib.hid hw1
  have HN := Lib.hid hN
  clear hN hw1
  have h1 : ¬ (n : Int) < 1 := by omega
  have h2 : ¬ 4096 < (n : Int) := by omega
  go_enter Tryz.func8, Tryz.ntmps8
  go_upto_region 5 with (fail)
  rw [show (w.alloc (.cells #[.slice none 0 0, .slice none 0 0, .int .i64 0, .bool false] 33)).alloc (.cells #[.slice none 0 0, .slice none 0 0, .int .i64 (-1), .bool false] 33) = w1 from HW1.out.symm, ← HN.out]
  go_loopw [5] (fun s5 wr => ∃ (k : Nat) (A : Option Addr) (c : Nat), s5 = .int .i64 k ∧ k ≤ n ∧ wr.heap[N + 1]? = some (.cells #[.slice A (List.replicate k bB).length c, .slice none 0 0, .int .i64 (-1), .bool false] 33 (0, 0)) ∧ wr.ownsRow (N + 2) 9 1 (.slice A (List.replicate k bB).length c) (List.replicate k bB).length ((List.replicate k bB).map .string) ∧ Below w.heap.size w wr ∧ wr.heap[N]? = some (.cells #[.slice none 0 0, .slice none 0 0, .int .i64 0, .bool false] 33 (0, 0)) ∧ N + 2 ≤ wr.heap.size) (fun s5 _ => n - (intOf s5).toNat)
  case atStart => exact ⟨0, none, 0, rfl, Nat.zero_le _, g1, World.ownsRow_nil _ _ _ _, b1, r1, by omega⟩
  case round =>
    clear b1 r1 g1 hs1
    obtain ⟨k, A, c, rfl, hk, hg, hown, hb, hr, hsz⟩ := hrel
    by_cases hkl : k < n
    · have hki : (k : Int) < (n : Int) := by omega
      have hsuc : IntKind.i64.wrap ((k : Int) + 1) = ((k + 1 : Nat) : Int) := by simp [IntKind.wrap, IntKind.bits, IntKind.signed]; omega
      obtain ⟨L, hL⟩ : ∃ L, L = List.replicate k bB := ⟨_, rfl⟩
      have hLl : L.length = k := by rw [hL]; simp
      have hL1 : L ++ [bB] = List.replicate (k + 1) bB := by rw [hL, ← List.replicate_succ']
      rw [← hL] at hg hown
      have HLL := Lib.hid hLl
      have HL1 := Lib.hid hL1
      clear hL hLl hL1
      go_upto_region 7 with (fail)
      refine wp_region_held_drew (S := (fun _ => True)) (by kernel_rfl) trivial (fun hHeld => ?_)
      replace hb := hb.drew
      replace hg : wr.drew.heap[N + 1]? = _ := hg
      replace hr : wr.drew.heap[N]? = _ := hr
      replace hown := Dk.own_block (w' := wr.drew) hown fun q hq => rfl
      replace hsz : N + 2 ≤ wr.drew.heap.size := hsz
      generalize wr.drew = wd at *
      have x0 := Sm.cells_of hg 0 _ rfl
      refine wpAnyH_take (i := 0) (oi := ⟨some 19, _, _, _, _, _⟩) (v := .pointer (some ⟨N + 1, 0, none⟩)) rfl (by kernel_rfl) (by kernel_rfl) (by kernel_rfl) (fun _ _ _ h => h) (Or.inl ⟨by rfl, ?_⟩) (by assumption) ?_
      · intro w hSw; (try dsimp only at hSw); go_simp
      simp only [Act.put, List.setIfInBounds_toArray, List.set_cons_zero, List.set_cons_succ]
      refine wpAnyH_ready (rs := [1, 2]) (by kernel_rfl) (by simp) ?_
      refine (AllReadyH.cons (o := ⟨some 20, _, _, _, _, _⟩) rfl (fun K hK => ?_) (AllReadyH.cons (o := ⟨some 21, _, _, _, _, _⟩) rfl (fun K hK => ?_) AllReadyH.nil))
      · go_simp
        refine hK.out _ _ trivial (fun hHeld => ?_)
        clear hK K
        refine wpAnyH_ready (rs := [2]) (by kernel_rfl) (by simp) ?_
        refine (AllReadyH.cons (o := ⟨some 21, _, _, _, _, _⟩) rfl (fun K hK => ?_) AllReadyH.nil)
        · go_simp
          have k2 : Below wd.heap.size wd (wd.alloc (.cells zb 5)) := (Below.refl _ wd).alloc (Nat.le_refl _) _
          have x2 := Sm.cells_of ((k2.block (N + 1) (Sm.lt_of hg)).trans hg) 0 _ rfl
          refine hK.out _ _ trivial (fun hHeld => ?_)
          clear hK K k2
          refine wpAnyH_ready (rs := [3]) (by kernel_rfl) (by simp) ?_
          refine (AllReadyH.cons (o := ⟨some 22, _, _, _, _, _⟩) rfl (fun K hK => ?_) AllReadyH.nil)
          · go_simp
            refine hK.out _ _ trivial (fun hHeld => ?_)
            clear hK K
            refine wpAnyH_ready (rs := [4]) (by kernel_rfl) (by simp) ?_
            refine (AllReadyH.cons (o := ⟨some 23, _, _, _, _, _⟩) rfl (fun K hK => ?_) AllReadyH.nil)
            · go_simp
              have k3 : Below wd.heap.size wd ((wd.alloc (.cells zb 5)).alloc (.cells #[.string bB] 9)) := ((Below.refl _ wd).alloc (Nat.le_refl _) _).alloc (by simp) _
              have n3 : ((wd.alloc (.cells zb 5)).alloc (.cells #[.string bB] 9)).heap[wd.heap.size + 1]? = some (.cells #[.string bB] 9 (0, 0)) := by
                have := heap_alloc_new (wd.alloc (.cells zb 5)) (.cells #[.string bB] 9)
                rw [World.size_alloc] at this
                exact this
              generalize (wd.alloc (.cells zb 5)).alloc (.cells #[.string bB] 9) = w3 at *
              have g3 := (k3.block (N + 1) (Sm.lt_of hg)).trans hg
              have r3 := (k3.block N (Sm.lt_of hr)).trans hr
              have b3 := hb.trans (k3.mono hb.size)
              have own3 := Dk.own_block hown fun q hq => k3.block q (Dk.own_blk hown hq).2.1
              have x3 := Sm.cells_of g3 0 _ rfl
              refine hK.out _ _ trivial (fun hHeld => ?_)
              clear hK K
              refine wpAnyH_ready (rs := [5]) (by kernel_rfl) (by simp) ?_
              refine (AllReadyH.cons (o := ⟨some 24, _, _, _, _, _⟩) rfl (fun K hK => ?_) AllReadyH.nil)
              · rw [if_pos (by simp [Region.wanted])]
                refine Dk.wp_append_text (.tmp 20) (.tmp 23) rfl (B := N + 2) (v := .slice A L.length c) (l := L) rfl own3 (b := bB) (N := wd.heap.size + 1) rfl (Sm.cells_of n3 0 _ rfl) (by have := HLL.out; omega) (by have := k3.size; omega) ?_
                intro A' c' w4 hrow hor
                have hgr : ∃ q0 : Option Nat, w3.grownBy w4 q0 ∧ ∀ q, q0 = some q → N + 2 ≤ q := by
                  rcases hor with ⟨_, k⟩ | ⟨_, k⟩
                  · exact ⟨_, k, fun q hq => (Dk.own_blk own3 hq).1⟩
                  · exact ⟨none, k, fun q hq => by cases hq⟩
                obtain ⟨q0, hgr, hq0⟩ := hgr
                have g4 := (hgr.block (N + 1) (Sm.lt_of g3) (fun e => by have := hq0 _ e.symm; omega)).trans g3
                have r4 := (hgr.block N (Sm.lt_of r3) (fun e => by have := hq0 _ e.symm; omega)).trans r3
                have hn0 := HN.out
                have b4 := b3.grown hgr b3.size (fun q hq => by have := hq0 q hq; omega)
                have hs4 := hgr.size
                have hs3 := k3.size
                have ST := Sm.heap_set g4 0 (.slice A' (L ++ [bB]).length c')
                have rs := (Below.heap_setCell w4 ⟨N + 1, 0, none⟩ (.slice A' (L ++ [bB]).length c') N (by simp)).trans r4
                have bs := b4.setCell (p := ⟨N + 1, 0, none⟩) (by simp only; omega) (.slice A' (L ++ [bB]).length c')
                have hrow2 := Dk.own_block (w' := w4.setCell ⟨N + 1, 0, none⟩ (.slice A' (L ++ [bB]).length c')) hrow fun q hq => Below.heap_setCell _ _ _ _ (by have := (Dk.own_blk hrow hq).1; simp only; omega)
                have ss : N + 2 ≤ (w4.setCell ⟨N + 1, 0, none⟩ (.slice A' (L ++ [bB]).length c')).heap.size := by simp; omega
                have f4 := Sm.free_of g4 0
                have c4 := Sm.cells_of g4 0 _ rfl
                clear hn0 hq0 hgr
                refine hK.out _ _ trivial (fun hHeld => ?_)
                clear hK K
                refine wpAnyH_take (i := 6) (oi := ⟨some 25, _, _, _, _, _⟩) (v := .pointer (some ⟨N + 1, 0, none⟩)) rfl (by kernel_rfl) (by kernel_rfl) (by kernel_rfl) (fun _ _ _ h => h) (Or.inl ⟨by rfl, ?_⟩) (by assumption) ?_
                · intro w hSw; (try dsimp only at hSw); go_simp
                simp only [Act.put, List.setIfInBounds_toArray, List.set_cons_zero, List.set_cons_succ]
                refine wpAnyH_ready (rs := [7]) (by kernel_rfl) (by simp) ?_
                refine (AllReadyH.cons (o := ⟨none, _, _, _, _, _⟩) rfl (fun K hK => ?_) AllReadyH.nil)
                go_simp
                have STD : Hid (_ ∧ _ ∧ _ ∧ _ ∧ _) := ⟨ST, hrow2, bs, rs, ss⟩
                refine hK.out _ _ trivial (fun hHeld => ?_)
                clear hK K
                refine wpAnyH_done (by kernel_rfl) ?_ _
                go_wp2
                case roundEnd =>
                  have e2 : L.length + 1 = (L ++ [bB]).length := by simp
                  refine ⟨⟨k + 1, A', c', rfl, hkl, ?_, ?_, ?_, ?_, ?_⟩, by simp [intOf]; omega⟩
                  · rw [e2, ← HL1.out]; exact STD.out.1
                  · rw [e2, ← HL1.out]; exact STD.out.2.1
                  · rw [e2]; exact STD.out.2.2.1
                  · rw [e2]; exact STD.out.2.2.2.1
                  · rw [e2]; exact STD.out.2.2.2.2
      · go_simp
        have k2 : Below wd.heap.size wd (wd.alloc (.cells zb 5)) := (Below.refl _ wd).alloc (Nat.le_refl _) _
        have x2 := Sm.cells_of ((k2.block (N + 1) (Sm.lt_of hg)).trans hg) 0 _ rfl
        refine hK.out _ _ trivial (fun hHeld => ?_)
        clear hK K k2
        refine wpAnyH_ready (rs := [1, 3]) (by kernel_rfl) (by simp) ?_
        refine (AllReadyH.cons (o := ⟨some 20, _, _, _, _, _⟩) rfl (fun K hK => ?_) (AllReadyH.cons (o := ⟨some 22, _, _, _, _, _⟩) rfl (fun K hK => ?_) AllReadyH.nil))
        · go_simp
          refine hK.out _ _ trivial (fun hHeld => ?_)
          clear hK K
          refine wpAnyH_ready (rs := [3]) (by kernel_rfl) (by simp) ?_
          refine (AllReadyH.cons (o := ⟨some 22, _, _, _, _, _⟩) rfl (fun K hK => ?_) AllReadyH.nil)
          · go_simp
            refine hK.out _ _ trivial (fun hHeld => ?_)
            clear hK K
            refine wpAnyH_ready (rs := [4]) (by kernel_rfl) (by simp) ?_
            refine (AllReadyH.cons (o := ⟨some 23, _, _, _, _, _⟩) rfl (fun K hK => ?_) AllReadyH.nil)
            · go_simp
              have k3 : Below wd.heap.size wd ((wd.alloc (.cells zb 5)).alloc (.cells #[.string bB] 9)) := ((Below.refl _ wd).alloc (Nat.le_refl _) _).alloc (by simp) _
              have n3 : ((wd.alloc (.cells zb 5)).alloc (.cells #[.string bB] 9)).heap[wd.heap.size + 1]? = some (.cells #[.string bB] 9 (0, 0)) := by
                have := heap_alloc_new (wd.alloc (.cells zb 5)) (.cells #[.string bB] 9)
                rw [World.size_alloc] at this
                exact this
              generalize (wd.alloc (.cells zb 5)).alloc (.cells #[.string bB] 9) = w3 at *
              have g3 := (k3.block (N + 1) (Sm.lt_of hg)).trans hg
              have r3 := (k3.block N (Sm.lt_of hr)).trans hr
              have b3 := hb.trans (k3.mono hb.size)
              have own3 := Dk.own_block hown fun q hq => k3.block q (Dk.own_blk hown hq).2.1
              have x3 := Sm.cells_of g3 0 _ rfl
              refine hK.out _ _ trivial (fun hHeld => ?_)
              clear hK K
              refine wpAnyH_ready (rs := [5]) (by kernel_rfl) (by simp) ?_
              refine (AllReadyH.cons (o := ⟨some 24, _, _, _, _, _⟩) rfl (fun K hK => ?_) AllReadyH.nil)
              · rw [if_pos (by simp [Region.wanted])]
                refine Dk.wp_append_text (.tmp 20) (.tmp 23) rfl (B := N + 2) (v := .slice A L.length c) (l := L) rfl own3 (b := bB) (N := wd.heap.size + 1) rfl (Sm.cells_of n3 0 _ rfl) (by have := HLL.out; omega) (by have := k3.size; omega) ?_
                intro A' c' w4 hrow hor
                have hgr : ∃ q0 : Option Nat, w3.grownBy w4 q0 ∧ ∀ q, q0 = some q → N + 2 ≤ q := by
                  rcases hor with ⟨_, k⟩ | ⟨_, k⟩
                  · exact ⟨_, k, fun q hq => (Dk.own_blk own3 hq).1⟩
                  · exact ⟨none, k, fun q hq => by cases hq⟩
                obtain ⟨q0, hgr, hq0⟩ := hgr
                have g4 := (hgr.block (N + 1) (Sm.lt_of g3) (fun e => by have := hq0 _ e.symm; omega)).trans g3
                have r4 := (hgr.block N (Sm.lt_of r3) (fun e => by have := hq0 _ e.symm; omega)).trans r3
                have hn0 := HN.out
                have b4 := b3.grown hgr b3.size (fun q hq => by have := hq0 q hq; omega)
                have hs4 := hgr.size
                have hs3 := k3.size
                have ST := Sm.heap_set g4 0 (.slice A' (L ++ [bB]).length c')
                have rs := (Below.heap_setCell w4 ⟨N + 1, 0, none⟩ (.slice A' (L ++ [bB]).length c') N (by simp)).trans r4
                have bs := b4.setCell (p := ⟨N + 1, 0, none⟩) (by simp only; omega) (.slice A' (L ++ [bB]).length c')
                have hrow2 := Dk.own_block (w' := w4.setCell ⟨N + 1, 0, none⟩ (.slice A' (L ++ [bB]).length c')) hrow fun q hq => Below.heap_setCell _ _ _ _ (by have := (Dk.own_blk hrow hq).1; simp only; omega)
                have ss : N + 2 ≤ (w4.setCell ⟨N + 1, 0, none⟩ (.slice A' (L ++ [bB]).length c')).heap.size := by simp; omega
                have f4 := Sm.free_of g4 0
                have c4 := Sm.cells_of g4 0 _ rfl
                clear hn0 hq0 hgr
                refine hK.out _ _ trivial (fun hHeld => ?_)
                clear hK K
                refine wpAnyH_take (i := 6) (oi := ⟨some 25, _, _, _, _, _⟩) (v := .pointer (some ⟨N + 1, 0, none⟩)) rfl (by kernel_rfl) (by kernel_rfl) (by kernel_rfl) (fun _ _ _ h => h) (Or.inl ⟨by rfl, ?_⟩) (by assumption) ?_
                · intro w hSw; (try dsimp only at hSw); go_simp
                simp only [Act.put, List.setIfInBounds_toArray, List.set_cons_zero, List.set_cons_succ]
                refine wpAnyH_ready (rs := [7]) (by kernel_rfl) (by simp) ?_
                refine (AllReadyH.cons (o := ⟨none, _, _, _, _, _⟩) rfl (fun K hK => ?_) AllReadyH.nil)
                go_simp
                have STD : Hid (_ ∧ _ ∧ _ ∧ _ ∧ _) := ⟨ST, hrow2, bs, rs, ss⟩
                refine hK.out _ _ trivial (fun hHeld => ?_)
                clear hK K
                refine wpAnyH_done (by kernel_rfl) ?_ _
                go_wp2
                case roundEnd =>
                  have e2 : L.length + 1 = (L ++ [bB]).length := by simp
                  refine ⟨⟨k + 1, A', c', rfl, hkl, ?_, ?_, ?_, ?_, ?_⟩, by simp [intOf]; omega⟩
                  · rw [e2, ← HL1.out]; exact STD.out.1
                  · rw [e2, ← HL1.out]; exact STD.out.2.1
                  · rw [e2]; exact STD.out.2.2.1
                  · rw [e2]; exact STD.out.2.2.2.1
                  · rw [e2]; exact STD.out.2.2.2.2
        · go_simp
          refine hK.out _ _ trivial (fun hHeld => ?_)
          clear hK K
          refine wpAnyH_ready (rs := [1, 4]) (by kernel_rfl) (by simp) ?_
          refine (AllReadyH.cons (o := ⟨some 20, _, _, _, _, _⟩) rfl (fun K hK => ?_) (AllReadyH.cons (o := ⟨some 23, _, _, _, _, _⟩) rfl (fun K hK => ?_) AllReadyH.nil))
          · go_simp
            refine hK.out _ _ trivial (fun hHeld => ?_)
            clear hK K
            refine wpAnyH_ready (rs := [4]) (by kernel_rfl) (by simp) ?_
            refine (AllReadyH.cons (o := ⟨some 23, _, _, _, _, _⟩) rfl (fun K hK => ?_) AllReadyH.nil)
            · go_simp
              have k3 : Below wd.heap.size wd ((wd.alloc (.cells zb 5)).alloc (.cells #[.string bB] 9)) := ((Below.refl _ wd).alloc (Nat.le_refl _) _).alloc (by simp) _
              have n3 : ((wd.alloc (.cells zb 5)).alloc (.cells #[.string bB] 9)).heap[wd.heap.size + 1]? = some (.cells #[.string bB] 9 (0, 0)) := by
                have := heap_alloc_new (wd.alloc (.cells zb 5)) (.cells #[.string bB] 9)
                rw [World.size_alloc] at this
                exact this
              generalize (wd.alloc (.cells zb 5)).alloc (.cells #[.string bB] 9) = w3 at *
              have g3 := (k3.block (N + 1) (Sm.lt_of hg)).trans hg
              have r3 := (k3.block N (Sm.lt_of hr)).trans hr
              have b3 := hb.trans (k3.mono hb.size)
              have own3 := Dk.own_block hown fun q hq => k3.block q (Dk.own_blk hown hq).2.1
              have x3 := Sm.cells_of g3 0 _ rfl
              refine hK.out _ _ trivial (fun hHeld => ?_)
              clear hK K
              refine wpAnyH_ready (rs := [5]) (by kernel_rfl) (by simp) ?_
              refine (AllReadyH.cons (o := ⟨some 24, _, _, _, _, _⟩) rfl (fun K hK => ?_) AllReadyH.nil)
              · rw [if_pos (by simp [Region.wanted])]
                refine Dk.wp_append_text (.tmp 20) (.tmp 23) rfl (B := N + 2) (v := .slice A L.length c) (l := L) rfl own3 (b := bB) (N := wd.heap.size + 1) rfl (Sm.cells_of n3 0 _ rfl) (by have := HLL.out; omega) (by have := k3.size; omega) ?_
                intro A' c' w4 hrow hor
                have hgr : ∃ q0 : Option Nat, w3.grownBy w4 q0 ∧ ∀ q, q0 = some q → N + 2 ≤ q := by
                  rcases hor with ⟨_, k⟩ | ⟨_, k⟩
                  · exact ⟨_, k, fun q hq => (Dk.own_blk own3 hq).1⟩
                  · exact ⟨none, k, fun q hq => by cases hq⟩
                obtain ⟨q0, hgr, hq0⟩ := hgr
                have g4 := (hgr.block (N + 1) (Sm.lt_of g3) (fun e => by have := hq0 _ e.symm; omega)).trans g3
                have r4 := (hgr.block N (Sm.lt_of r3) (fun e => by have := hq0 _ e.symm; omega)).trans r3
                have hn0 := HN.out
                have b4 := b3.grown hgr b3.size (fun q hq => by have := hq0 q hq; omega)
                have hs4 := hgr.size
                have hs3 := k3.size
                have ST := Sm.heap_set g4 0 (.slice A' (L ++ [bB]).length c')
                have rs := (Below.heap_setCell w4 ⟨N + 1, 0, none⟩ (.slice A' (L ++ [bB]).length c') N (by simp)).trans r4
                have bs := b4.setCell (p := ⟨N + 1, 0, none⟩) (by simp only; omega) (.slice A' (L ++ [bB]).length c')
                have hrow2 := Dk.own_block (w' := w4.setCell ⟨N + 1, 0, none⟩ (.slice A' (L ++ [bB]).length c')) hrow fun q hq => Below.heap_setCell _ _ _ _ (by have := (Dk.own_blk hrow hq).1; simp only; omega)
                have ss : N + 2 ≤ (w4.setCell ⟨N + 1, 0, none⟩ (.slice A' (L ++ [bB]).length c')).heap.size := by simp; omega
                have f4 := Sm.free_of g4 0
                have c4 := Sm.cells_of g4 0 _ rfl
                clear hn0 hq0 hgr
                refine hK.out _ _ trivial (fun hHeld => ?_)
                clear hK K
                refine wpAnyH_take (i := 6) (oi := ⟨some 25, _, _, _, _, _⟩) (v := .pointer (some ⟨N + 1, 0, none⟩)) rfl (by kernel_rfl) (by kernel_rfl) (by kernel_rfl) (fun _ _ _ h => h) (Or.inl ⟨by rfl, ?_⟩) (by assumption) ?_
                · intro w hSw; (try dsimp only at hSw); go_simp
                simp only [Act.put, List.setIfInBounds_toArray, List.set_cons_zero, List.set_cons_succ]
                refine wpAnyH_ready (rs := [7]) (by kernel_rfl) (by simp) ?_
                refine (AllReadyH.cons (o := ⟨none, _, _, _, _, _⟩) rfl (fun K hK => ?_) AllReadyH.nil)
                go_simp
                have STD : Hid (_ ∧ _ ∧ _ ∧ _ ∧ _) := ⟨ST, hrow2, bs, rs, ss⟩
                refine hK.out _ _ trivial (fun hHeld => ?_)
                clear hK K
                refine wpAnyH_done (by kernel_rfl) ?_ _
                go_wp2
                case roundEnd =>
                  have e2 : L.length + 1 = (L ++ [bB]).length := by simp
                  refine ⟨⟨k + 1, A', c', rfl, hkl, ?_, ?_, ?_, ?_, ?_⟩, by simp [intOf]; omega⟩
                  · rw [e2, ← HL1.out]; exact STD.out.1
                  · rw [e2, ← HL1.out]; exact STD.out.2.1
                  · rw [e2]; exact STD.out.2.2.1
                  · rw [e2]; exact STD.out.2.2.2.1
                  · rw [e2]; exact STD.out.2.2.2.2
          · go_simp
            have k3 : Below wd.heap.size wd ((wd.alloc (.cells zb 5)).alloc (.cells #[.string bB] 9)) := ((Below.refl _ wd).alloc (Nat.le_refl _) _).alloc (by simp) _
            have n3 : ((wd.alloc (.cells zb 5)).alloc (.cells #[.string bB] 9)).heap[wd.heap.size + 1]? = some (.cells #[.string bB] 9 (0, 0)) := by
              have := heap_alloc_new (wd.alloc (.cells zb 5)) (.cells #[.string bB] 9)
              rw [World.size_alloc] at this
              exact this
            generalize (wd.alloc (.cells zb 5)).alloc (.cells #[.string bB] 9) = w3 at *
            have g3 := (k3.block (N + 1) (Sm.lt_of hg)).trans hg
            have r3 := (k3.block N (Sm.lt_of hr)).trans hr
            have b3 := hb.trans (k3.mono hb.size)
            have own3 := Dk.own_block hown fun q hq => k3.block q (Dk.own_blk hown hq).2.1
            have x3 := Sm.cells_of g3 0 _ rfl
            refine hK.out _ _ trivial (fun hHeld => ?_)
            clear hK K
            refine wpAnyH_ready (rs := [1]) (by kernel_rfl) (by simp) ?_
            refine (AllReadyH.cons (o := ⟨some 20, _, _, _, _, _⟩) rfl (fun K hK => ?_) AllReadyH.nil)
            · go_simp
              refine hK.out _ _ trivial (fun hHeld => ?_)
              clear hK K
              refine wpAnyH_ready (rs := [5]) (by kernel_rfl) (by simp) ?_
              refine (AllReadyH.cons (o := ⟨some 24, _, _, _, _, _⟩) rfl (fun K hK => ?_) AllReadyH.nil)
              · rw [if_pos (by simp [Region.wanted])]
                refine Dk.wp_append_text (.tmp 20) (.tmp 23) rfl (B := N + 2) (v := .slice A L.length c) (l := L) rfl own3 (b := bB) (N := wd.heap.size + 1) rfl (Sm.cells_of n3 0 _ rfl) (by have := HLL.out; omega) (by have := k3.size; omega) ?_
                intro A' c' w4 hrow hor
                have hgr : ∃ q0 : Option Nat, w3.grownBy w4 q0 ∧ ∀ q, q0 = some q → N + 2 ≤ q := by
                  rcases hor with ⟨_, k⟩ | ⟨_, k⟩
                  · exact ⟨_, k, fun q hq => (Dk.own_blk own3 hq).1⟩
                  · exact ⟨none, k, fun q hq => by cases hq⟩
                obtain ⟨q0, hgr, hq0⟩ := hgr
                have g4 := (hgr.block (N + 1) (Sm.lt_of g3) (fun e => by have := hq0 _ e.symm; omega)).trans g3
                have r4 := (hgr.block N (Sm.lt_of r3) (fun e => by have := hq0 _ e.symm; omega)).trans r3
                have hn0 := HN.out
                have b4 := b3.grown hgr b3.size (fun q hq => by have := hq0 q hq; omega)
                have hs4 := hgr.size
                have hs3 := k3.size
                have ST := Sm.heap_set g4 0 (.slice A' (L ++ [bB]).length c')
                have rs := (Below.heap_setCell w4 ⟨N + 1, 0, none⟩ (.slice A' (L ++ [bB]).length c') N (by simp)).trans r4
                have bs := b4.setCell (p := ⟨N + 1, 0, none⟩) (by simp only; omega) (.slice A' (L ++ [bB]).length c')
                have hrow2 := Dk.own_block (w' := w4.setCell ⟨N + 1, 0, none⟩ (.slice A' (L ++ [bB]).length c')) hrow fun q hq => Below.heap_setCell _ _ _ _ (by have := (Dk.own_blk hrow hq).1; simp only; omega)
                have ss : N + 2 ≤ (w4.setCell ⟨N + 1, 0, none⟩ (.slice A' (L ++ [bB]).length c')).heap.size := by simp; omega
                have f4 := Sm.free_of g4 0
                have c4 := Sm.cells_of g4 0 _ rfl
                clear hn0 hq0 hgr
                refine hK.out _ _ trivial (fun hHeld => ?_)
                clear hK K
                refine wpAnyH_take (i := 6) (oi := ⟨some 25, _, _, _, _, _⟩) (v := .pointer (some ⟨N + 1, 0, none⟩)) rfl (by kernel_rfl) (by kernel_rfl) (by kernel_rfl) (fun _ _ _ h => h) (Or.inl ⟨by rfl, ?_⟩) (by assumption) ?_
                · intro w hSw; (try dsimp only at hSw); go_simp
                simp only [Act.put, List.setIfInBounds_toArray, List.set_cons_zero, List.set_cons_succ]
                refine wpAnyH_ready (rs := [7]) (by kernel_rfl) (by simp) ?_
                refine (AllReadyH.cons (o := ⟨none, _, _, _, _, _⟩) rfl (fun K hK => ?_) AllReadyH.nil)
                go_simp
                have STD : Hid (_ ∧ _ ∧ _ ∧ _ ∧ _) := ⟨ST, hrow2, bs, rs, ss⟩
                refine hK.out _ _ trivial (fun hHeld => ?_)
                clear hK K
                refine wpAnyH_done (by kernel_rfl) ?_ _
                go_wp2
                case roundEnd =>
                  have e2 : L.length + 1 = (L ++ [bB]).length := by simp
                  refine ⟨⟨k + 1, A', c', rfl, hkl, ?_, ?_, ?_, ?_, ?_⟩, by simp [intOf]; omega⟩
                  · rw [e2, ← HL1.out]; exact STD.out.1
                  · rw [e2, ← HL1.out]; exact STD.out.2.1
                  · rw [e2]; exact STD.out.2.2.1
                  · rw [e2]; exact STD.out.2.2.2.1
                  · rw [e2]; exact STD.out.2.2.2.2
    · have hki : ¬ (k : Int) < (n : Int) := by omega
      have hkn : k = n := by omega
      have hlen : (List.replicate k bB).length = n := by simp [hkn]
      have hmap : (List.replicate k bB).map Value.string = (Dk.new n).lasts.map Dk.txt := by
        simp [Dk.new, hkn, HBB.out]
      rw [hlen, hmap] at hown
      rw [hlen] at hg
      have FIN : Hid (∀ a b c' d : Value, Below w.heap.size w ((((wr.setCell ⟨N, 0, none⟩ a).setCell ⟨N, 1, none⟩ b).setCell ⟨N, 2, none⟩ c').setCell ⟨N, 3, none⟩ d) ∧ Dk.RefAt ((((wr.setCell ⟨N, 0, none⟩ a).setCell ⟨N, 1, none⟩ b).setCell ⟨N, 2, none⟩ c').setCell ⟨N, 3, none⟩ d) fp (.agg #[.slice A n c, .slice none 0 0, .int .i64 (-1), .bool false]) (Dk.new n)) := fun a b c' d => by
        have hnw := HN.out
        have b7 : Below w.heap.size w ((((wr.setCell ⟨N, 0, none⟩ a).setCell ⟨N, 1, none⟩ b).setCell ⟨N, 2, none⟩ c').setCell ⟨N, 3, none⟩ d) := Dk.set4_below hb (by omega) _ _ _ _
        have e2 : (Dk.new n).lasts.length = n := by simp [Dk.new]
        have hge : ∀ q, (Value.slice A n c).ownBlock = some q → N + 2 ≤ q ∧ q < wr.heap.size := fun q hq => ⟨(Dk.own_blk hown hq).1, (Dk.own_blk hown hq).2.1⟩
        have ht : Dk.TextsAt wr (N + 2) (.slice A (Dk.new n).lasts.length c) (Dk.new n).lasts := Dk.TextsAt.of_own (e := 9) (by rw [e2]; exact hown)
        refine ⟨b7, A, c, none, 0, [], by rw [e2]; rfl, ?_, Dk.WritesAt.nil _ _, ?_, ?_, ?_, ?_⟩
        · refine ht.more.keep (by simp) fun q _ hq => ?_
          rw [e2] at hq
          have := hge q hq
          rw [Dk.set4_other _ _ _ _ _ _ _ (by omega)]
        · exact Dk.Like.none fun _ => rfl
        · rw [e2]
          intro q hq
          have := hge q hq
          refine ⟨by simp; exact this.2, fun hf => ?_⟩
          have := HFP.out q hf
          omega
        · intro q hq; cases hq
        · exact fun _ => ⟨rfl, rfl⟩
      have x0 := Sm.cells_of hg 0 _ rfl
      have x1 := Sm.cells_of hg 1 _ rfl
      have x2 := Sm.cells_of hg 2 _ rfl
      have x3 := Sm.cells_of hg 3 _ rfl
      have y0 := Sm.cells_of hr 0 _ rfl
      have y1 := Sm.cells_of hr 1 _ rfl
      have y2 := Sm.cells_of hr 2 _ rfl
      have y3 := Sm.cells_of hr 3 _ rfl
      have q0 := Sm.free_of hr 0
      have q1 := Sm.free_of hr 1
      have q2 := Sm.free_of hr 2
      have q3 := Sm.free_of hr 3
      clear hown hb hg hr hmap hlen hcv hmk
      go_wp2
      refine bodyPost_ret (v := .tuple #[.agg #[.slice A n c, .slice none 0 0, .int .i64 (-1), .bool false], .int .i64 0]) ((results_cell_tmp rfl _ _ _).trans (by go_simp)) rfl ⟨_, rfl, (FIN.out _ _ _ _).2, (FIN.out _ _ _ _).1⟩
end Go.Proofs.YtnmagfodjcookaaGreat
