/-
  TreeHashes answers true for every text and every two hashes, and turns nothing of what was there.
-/
import Derived.Test.YtkoipingokglpaaDoorTrE
import Derived.Test.YtkoipingokglpaaDoorR15Inner
import Derived.Test.YtkoipingokglpaaDoorMRs
namespace Go.Proofs.YtkoipingokglpaaDoor
open Go.RowKit
set_option maxRecDepth 100000 in
set_option maxHeartbeats 4000000 in
theorem treeHashes_any {w : World} (G : Tr.Gd w) (p : ByteArray) (hp : p.size ≤ 9223372036854775807) (x y : List UInt8) (hx : x.length = 32) (hy : y.length = 32) :
    Calls Tryd.prog 3 #[.string p, .agg (Lib.byteCells x).toArray, .agg (Lib.byteCells y).toArray] w fun e w' => e = .returned (.bool true) ∧ Below w.heap.size w w' := by
  have AW : Hid (∀ wx : World, Below w.heap.size w wx → Calls Tryd.prog 10 #[] wx fun e w' => e = .returned (.bool true) ∧ Below wx.heap.size wx w') := fun wx hb => awake15_any (G.low hb)
  obtain ⟨N, hN⟩ : ∃ N, N = w.heap.size := ⟨_, rfl⟩
  obtain ⟨w2, hw2⟩ : ∃ w2, w2 = (w.alloc (.cells (Lib.byteCells x).toArray 23)).alloc (.cells (Lib.byteCells y).toArray 23) := ⟨_, rfl⟩
  have b2 : Below w.heap.size w w2 := by rw [hw2]; exact ((Below.refl _ w).alloc (Nat.le_refl _) _).alloc (by simp) _
  have g0 : w2.heap[N]? = some (.cells (Lib.byteCells x).toArray 23 (0, 0)) := by rw [hw2, hN, Below.heap_alloc _ _ _ (by simp)]; exact heap_alloc_new _ _
  have g1 : w2.heap[N + 1]? = some (.cells (Lib.byteCells y).toArray 23 (0, 0)) := by
    have := heap_alloc_new (w.alloc (.cells (Lib.byteCells x).toArray 23)) (.cells (Lib.byteCells y).toArray 23)
    rw [hw2, hN]
    simpa using this
  have hN1 : (w.alloc (.cells (Lib.byteCells x).toArray 23)).heap.size = N + 1 := by rw [hN]; simp
  have zx := Tr.size32 hx
  have zy := Tr.size32 hy
  by_cases hg : 5000 < p.size
  · have hgi : (5000 : Int) < (p.size : Int) := by omega
    obtain ⟨cx, hcx⟩ : ∃ c, c = (Lib.byteCells x).toArray := ⟨_, rfl⟩
    obtain ⟨cy, hcy⟩ : ∃ c, c = (Lib.byteCells y).toArray := ⟨_, rfl⟩
    rw [← hcx] at zx hw2 hN1 ⊢
    rw [← hcy] at zy hw2 ⊢
    clear g0 g1 hcx hcy hx hy G
    go_enter Tryd.func3, Tryd.ntmps3
    go_upto_region 2 with (fail)
    change Code.wp _ _ _ _ ((w.alloc (.cells cx 23)).alloc (.cells cy 23))
    rw [← hw2]
    clear hw2 hN hN1
    go_wp2_with (go_at_call 10; refine (AW.out _ b2).mono ?_; rintro e w3 ⟨rfl, k3⟩)
    go_ret
    exact ⟨rfl, b2.trans (k3.mono b2.size)⟩
  have hgi : ¬ (5000 : Int) < (p.size : Int) := by omega
  obtain ⟨w1, hw1⟩ : ∃ w1, w1 = w2.drew := ⟨_, rfl⟩
  have b1 : Below w.heap.size w w1 := by rw [hw1]; exact b2.drew
  have B1 := Lib.hid b1
  have G0 : Hid (w1.heap[N]? = some (.cells (Lib.byteCells x).toArray 23 (0, 0))) := by rw [hw1]; exact g0
  have G1 : Hid (w1.heap[N + 1]? = some (.cells (Lib.byteCells y).toArray 23 (0, 0))) := by rw [hw1]; exact g1
  have LEAF : Hid (∀ wx : World, Below w.heap.size w wx → Calls Tryd.prog 11 #[.string p] wx fun e w' => e = .returned (Tr.hv (Sm.sum (76 :: p.data.toList))) ∧ Below wx.heap.size wx w') := fun wx hb => by
    have g := G.low hb
    exact tLeaf_any g.H g.K g.sz p (by omega)
  have SUM1 : Hid (∀ wx : World, Calls Tryd.prog 12 #[.string (Tr.tx (76 :: p.data.toList))] wx fun e w' => e = .returned (Tr.hv (Sm.sum (76 :: p.data.toList))) ∧ Below wx.heap.size wx w') := fun wx => by
    have := rssum_any (Tr.tx (76 :: p.data.toList)) (by rw [Tr.tx_size, List.length_cons, Ba.ba_size]; omega) wx
    rw [Tr.tx_list] at this
    exact this
  have INNER : Hid (∀ wx : World, Below w.heap.size w wx → Calls Tryd.prog 13 #[Tr.hv x, Tr.hv y] wx fun e w' => e = .returned (Tr.hv (Sm.sum (Tr.innerT x y))) ∧ Below wx.heap.size wx w') := fun wx hb => by
    have g := G.low hb
    exact tInner_any g.H g.K g.sz x y hx hy
  have IT : Hid (∀ wx : World, Calls Tryd.prog 14 #[Tr.hv x, Tr.hv y] wx fun e w' => e = .returned (.string (Tr.tx (Tr.innerT x y))) ∧ Below wx.heap.size wx w') := fun wx => r15InnerText_any wx x y hx hy
  have SUM2 : Hid (∀ wx : World, Calls Tryd.prog 12 #[.string (Tr.tx (Tr.innerT x y))] wx fun e w' => e = .returned (Tr.hv (Sm.sum (Tr.innerT x y))) ∧ Below wx.heap.size wx w') := fun wx => by
    have := rssum_any (Tr.tx (Tr.innerT x y)) (by rw [Tr.tx_size]; unfold Tr.innerT; rw [List.length_cons, List.length_append, hx, hy]; omega) wx
    rw [Tr.tx_list] at this
    exact this
  have HT1 : Hid ((⟨#[76]⟩ ++ p : ByteArray) = Tr.tx (76 :: p.data.toList)) := Tr.tx_cat [76] p
  have HT2 : Hid (1 + p.size ≤ 9223372036854775807) := by show _ ≤ _; omega
  have HX := Lib.hid hx
  have HY := Lib.hid hy
  have HL1 := Lib.hid (Sm.sum_length (76 :: p.data.toList))
  have HL2 := Lib.hid (Sm.sum_length (Tr.innerT x y))
  generalize Sm.sum (Tr.innerT x y) = h2 at *
  generalize Sm.sum (76 :: p.data.toList) = h1 at *
  generalize Tr.tx (Tr.innerT x y) = T2 at *
  generalize Tr.tx (76 :: p.data.toList) = T at *
  have E1 : Hid ((h1 == h1) = true) := by show _ = _; rw [beq_iff_eq]
  have E2 : Hid ((h2 == h2) = true) := by show _ = _; rw [beq_iff_eq]
  clear g0 g1 b1 b2 hx hy G hg
  go_enter Tryd.func3, Tryd.ntmps3
  go_upto_region 3 with (fail)
  change Code.wp _ _ _ _ ((w.alloc (.cells (Lib.byteCells x).toArray 23)).alloc (.cells (Lib.byteCells y).toArray 23))
  rw [← hw2, ← hN]
  clear hw2 hN hN1 zx zy
  refine wp_region_held_drew (S := fun w' => w'.rangeAt N 0 (Lib.byteCells x) ∧ w'.rangeAt (N + 1) 0 (Lib.byteCells y)) (by kernel_rfl) ⟨hw1 ▸ Sm.range_row G0.out, hw1 ▸ Sm.range_row G1.out⟩ (fun hHeld => ?_)
  rw [← hw1] at hHeld ⊢
  clear hw1
  refine wpAnyH_take (i := 0) (oi := ⟨some 11, _, _, _, _, _⟩) (v := .string p) rfl (by kernel_rfl) (by kernel_rfl) (by kernel_rfl) (fun _ _ _ h => h) (Or.inl ⟨by rfl, ?_⟩) (by assumption) ?_
  · intro w hSw; (try dsimp only at hSw); go_simp
  simp only [Act.put, List.setIfInBounds_toArray, List.set_cons_zero, List.set_cons_succ]
  refine wpAnyH_take (i := 2) (oi := ⟨some 13, _, _, _, _, _⟩) (v := .string p) rfl (by kernel_rfl) (by kernel_rfl) (by kernel_rfl) (fun _ _ _ h => h) (Or.inl ⟨by rfl, ?_⟩) (by assumption) ?_
  · intro w hSw; (try dsimp only at hSw); go_simp
  simp only [Act.put, List.setIfInBounds_toArray, List.set_cons_zero, List.set_cons_succ]
  refine wpAnyH_take (i := 3) (oi := ⟨some 14, _, _, _, _, _⟩) (v := .string T) rfl (by kernel_rfl) (by kernel_rfl) (by kernel_rfl) (fun _ _ _ h => h) (Or.inl ⟨by rfl, ?_⟩) (by assumption) ?_
  · intro w hSw; (try dsimp only at hSw); have q := HT1.out; have q2 := HT2.out; go_simp
  simp only [Act.put, List.setIfInBounds_toArray, List.set_cons_zero, List.set_cons_succ]
  refine wpAnyH_ready (rs := [1]) (by kernel_rfl) (by simp) ?_
  refine (AllReadyH.cons (o := ⟨some 12, _, _, _, _, _⟩) rfl (fun K hK => ?_) AllReadyH.nil)
  go_simp
  refine ((LEAF.out _ B1.out)).mono ?_
  rintro e w2 ⟨rfl, k⟩
  have B2 : Hid (Below w.heap.size w w2) := B1.out.trans (k.mono B1.out.size)
  have G0 := Lib.hid ((k.block N (Sm.lt_of G0.out)).trans G0.out)
  have G1 := Lib.hid ((k.block (N + 1) (Sm.lt_of G1.out)).trans G1.out)
  clear k
  refine hK.out _ _ ⟨Sm.range_row G0.out, Sm.range_row G1.out⟩ (fun hHeld => ?_)
  clear hK K
  refine wpAnyH_ready (rs := [4]) (by kernel_rfl) (by simp) ?_
  refine (AllReadyH.cons (o := ⟨some 15, _, _, _, _, _⟩) rfl (fun K hK => ?_) AllReadyH.nil)
  go_simp
  refine ((SUM1.out _)).mono ?_
  rintro e w3 ⟨rfl, k⟩
  have B3 : Hid (Below w.heap.size w w3) := B2.out.trans (k.mono B2.out.size)
  have G0 := Lib.hid ((k.block N (Sm.lt_of G0.out)).trans G0.out)
  have G1 := Lib.hid ((k.block (N + 1) (Sm.lt_of G1.out)).trans G1.out)
  clear k
  refine hK.out _ _ ⟨Sm.range_row G0.out, Sm.range_row G1.out⟩ (fun hHeld => ?_)
  clear hK K
  refine wpAnyH_take (i := 5) (oi := ⟨some 16, _, _, _, _, _⟩) (v := .bool (h1 == h1)) rfl (by kernel_rfl) (by kernel_rfl) (by kernel_rfl) (fun _ _ _ h => h) (Tr.yields_heq (by rfl) _ _ _ rfl h1 h1 HL1.out HL1.out rfl rfl) (by assumption) ?_
  simp only [Act.put, List.setIfInBounds_toArray, List.set_cons_zero, List.set_cons_succ]
  rw [E1.out]
  refine wpAnyH_take (i := 6) (oi := ⟨some 17, _, _, _, _, _⟩) (v := .bool true) rfl (by kernel_rfl) (by kernel_rfl) (by kernel_rfl) (fun _ _ _ h => h) (Or.inl ⟨by rfl, ?_⟩) (by assumption) ?_
  · intro w hSw; (try dsimp only at hSw); go_simp
  simp only [Act.put, List.setIfInBounds_toArray, List.set_cons_zero, List.set_cons_succ]
  refine wpAnyH_take (i := 7) (oi := ⟨some 18, _, _, _, _, _⟩) (v := .agg (Lib.byteCells x).toArray) rfl (by kernel_rfl) (by kernel_rfl) (by kernel_rfl) (fun _ _ _ h => h) (yieldsIf_load_mid (by rfl) _ _ rfl _ _ rfl (Lib.byteCells x) _ (fun w hS => hS.1) Tryd.underlying23 rfl (Sm.infoHash (Tr.size32 HX.out))) (by assumption) ?_
  simp only [Act.put, List.setIfInBounds_toArray, List.set_cons_zero, List.set_cons_succ]
  refine wpAnyH_take (i := 8) (oi := ⟨some 19, _, _, _, _, _⟩) (v := .agg (Lib.byteCells y).toArray) rfl (by kernel_rfl) (by kernel_rfl) (by kernel_rfl) (fun _ _ _ h => h) (yieldsIf_load_mid (by rfl) _ _ rfl _ _ rfl (Lib.byteCells y) _ (fun w hS => hS.2) Tryd.underlying23 rfl (Sm.infoHash (Tr.size32 HY.out))) (by assumption) ?_
  simp only [Act.put, List.setIfInBounds_toArray, List.set_cons_zero, List.set_cons_succ]
  refine wpAnyH_take (i := 10) (oi := ⟨some 21, _, _, _, _, _⟩) (v := .agg (Lib.byteCells x).toArray) rfl (by kernel_rfl) (by kernel_rfl) (by kernel_rfl) (fun _ _ _ h => h) (yieldsIf_load_mid (by rfl) _ _ rfl _ _ rfl (Lib.byteCells x) _ (fun w hS => hS.1) Tryd.underlying23 rfl (Sm.infoHash (Tr.size32 HX.out))) (by assumption) ?_
  simp only [Act.put, List.setIfInBounds_toArray, List.set_cons_zero, List.set_cons_succ]
  refine wpAnyH_take (i := 11) (oi := ⟨some 22, _, _, _, _, _⟩) (v := .agg (Lib.byteCells y).toArray) rfl (by kernel_rfl) (by kernel_rfl) (by kernel_rfl) (fun _ _ _ h => h) (yieldsIf_load_mid (by rfl) _ _ rfl _ _ rfl (Lib.byteCells y) _ (fun w hS => hS.2) Tryd.underlying23 rfl (Sm.infoHash (Tr.size32 HY.out))) (by assumption) ?_
  simp only [Act.put, List.setIfInBounds_toArray, List.set_cons_zero, List.set_cons_succ]
  refine wpAnyH_ready (rs := [9]) (by kernel_rfl) (by simp) ?_
  refine (AllReadyH.cons (o := ⟨some 20, _, _, _, _, _⟩) rfl (fun K hK => ?_) AllReadyH.nil)
  go_simp
  refine ((INNER.out _ B3.out)).mono ?_
  rintro e w4 ⟨rfl, k⟩
  have B4 : Hid (Below w.heap.size w w4) := B3.out.trans (k.mono B3.out.size)
  have G0 := Lib.hid ((k.block N (Sm.lt_of G0.out)).trans G0.out)
  have G1 := Lib.hid ((k.block (N + 1) (Sm.lt_of G1.out)).trans G1.out)
  clear k
  refine hK.out _ _ ⟨Sm.range_row G0.out, Sm.range_row G1.out⟩ (fun hHeld => ?_)
  clear hK K
  refine wpAnyH_ready (rs := [12]) (by kernel_rfl) (by simp) ?_
  refine (AllReadyH.cons (o := ⟨some 23, _, _, _, _, _⟩) rfl (fun K hK => ?_) AllReadyH.nil)
  go_simp
  refine ((IT.out _)).mono ?_
  rintro e w5 ⟨rfl, k⟩
  have B5 : Hid (Below w.heap.size w w5) := B4.out.trans (k.mono B4.out.size)
  have G0 := Lib.hid ((k.block N (Sm.lt_of G0.out)).trans G0.out)
  have G1 := Lib.hid ((k.block (N + 1) (Sm.lt_of G1.out)).trans G1.out)
  clear k
  refine hK.out _ _ ⟨Sm.range_row G0.out, Sm.range_row G1.out⟩ (fun hHeld => ?_)
  clear hK K
  refine wpAnyH_ready (rs := [13]) (by kernel_rfl) (by simp) ?_
  refine (AllReadyH.cons (o := ⟨some 24, _, _, _, _, _⟩) rfl (fun K hK => ?_) AllReadyH.nil)
  go_simp
  refine ((SUM2.out _)).mono ?_
  rintro e w6 ⟨rfl, k⟩
  have B6 : Hid (Below w.heap.size w w6) := B5.out.trans (k.mono B5.out.size)
  have G0 := Lib.hid ((k.block N (Sm.lt_of G0.out)).trans G0.out)
  have G1 := Lib.hid ((k.block (N + 1) (Sm.lt_of G1.out)).trans G1.out)
  clear k
  refine hK.out _ _ ⟨Sm.range_row G0.out, Sm.range_row G1.out⟩ (fun hHeld => ?_)
  clear hK K
  refine wpAnyH_take (i := 14) (oi := ⟨some 25, _, _, _, _, _⟩) (v := .bool (h2 == h2)) rfl (by kernel_rfl) (by kernel_rfl) (by kernel_rfl) (fun _ _ _ h => h) (Tr.yields_heq (by rfl) _ _ _ rfl h2 h2 HL2.out HL2.out rfl rfl) (by assumption) ?_
  simp only [Act.put, List.setIfInBounds_toArray, List.set_cons_zero, List.set_cons_succ]
  rw [E2.out]
  refine wpAnyH_take (i := 15) (oi := ⟨some 26, _, _, _, _, _⟩) (v := .bool true) rfl (by kernel_rfl) (by kernel_rfl) (by kernel_rfl) (fun _ _ _ h => h) (Or.inl ⟨by rfl, ?_⟩) (by assumption) ?_
  · intro w hSw; (try dsimp only at hSw); go_simp
  simp only [Act.put, List.setIfInBounds_toArray, List.set_cons_zero, List.set_cons_succ]
  refine wpAnyH_take (i := 16) (oi := ⟨some 27, _, _, _, _, _⟩) (v := .bool true) rfl (by kernel_rfl) (by kernel_rfl) (by kernel_rfl) (fun _ _ _ h => h) (Or.inl ⟨by rfl, ?_⟩) (by assumption) ?_
  · intro w hSw; (try dsimp only at hSw); go_simp
  simp only [Act.put, List.setIfInBounds_toArray, List.set_cons_zero, List.set_cons_succ]
  refine wpAnyH_ready (rs := [17]) (by kernel_rfl) (by simp) ?_
  refine (AllReadyH.cons (o := ⟨some 28, _, _, _, _, _⟩) rfl (fun K hK => ?_) AllReadyH.nil)
  go_simp
  refine ((AW.out _ B6.out)).mono ?_
  rintro e w7 ⟨rfl, k⟩
  have B7 : Hid (Below w.heap.size w w7) := B6.out.trans (k.mono B6.out.size)
  have G0 := Lib.hid ((k.block N (Sm.lt_of G0.out)).trans G0.out)
  have G1 := Lib.hid ((k.block (N + 1) (Sm.lt_of G1.out)).trans G1.out)
  clear k
  refine hK.out _ _ ⟨Sm.range_row G0.out, Sm.range_row G1.out⟩ (fun hHeld => ?_)
  clear hK K
  refine wpAnyH_take (i := 18) (oi := ⟨some 29, _, _, _, _, _⟩) (v := .bool true) rfl (by kernel_rfl) (by kernel_rfl) (by kernel_rfl) (fun _ _ _ h => h) (Or.inl ⟨by rfl, ?_⟩) (by assumption) ?_
  · intro w hSw; (try dsimp only at hSw); go_simp
  simp only [Act.put, List.setIfInBounds_toArray, List.set_cons_zero, List.set_cons_succ]
  refine wpAnyH_take (i := 19) (oi := ⟨some 6, _, _, _, _, _⟩) (v := .bool true) rfl (by kernel_rfl) (by kernel_rfl) (by kernel_rfl) (fun _ _ _ h => h) (Or.inl ⟨by rfl, ?_⟩) (by assumption) ?_
  · intro w hSw; (try dsimp only at hSw); go_simp
  simp only [Act.put, List.setIfInBounds_toArray, List.set_cons_zero, List.set_cons_succ]
  refine wpAnyH_done (by kernel_rfl) ?_ _
  go_wp2
  go_ret
  exact ⟨rfl, B7.out⟩
end Go.Proofs.YtkoipingokglpaaDoor
