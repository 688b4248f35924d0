/-
  net's put, where its link has room.
-/
import Derived.Test.YtimbcmcmidnlfaaNtPut
namespace Go.Proofs.Ytimbcmcmidnlfaa
open Go.RowKit
theorem own_set2 {w : World} {B : Nat} {v : Value} {l : List Nt.Pk} (h : Nt.PksAt w B v l) {r : Nat} {cs : Array Value} (hr : w.heap[r]? = some (.cells cs 46 (0, 0))) (x : Value) : Nt.PksAt (w.setCell ⟨r, 2, none⟩ x) B v l := h.turned hr Nt.net_packet (Sm.grown_set (Sm.grown_refl w (some r)) 2 x)
theorem own_drewN2 {w : World} {B e size : Nat} {v : Value} {n : Nat} {xs : List Value} (ho : w.ownsRow B e size v n xs) : w.drew.drew.ownsRow B e size v n xs := Nt.own_keep ho fun _ _ _ => rfl
set_option maxRecDepth 100000 in
set_option maxHeartbeats 2000000 in
theorem ntPut_room {B : Nat} {w0 w : World} {r : Nat} {L : Nat → Prop} {M : Nt.Md} (h : Nt.Own B w0 w r L M) (p : Nt.Pk) (hl : Nt.linked p) (hd : p.d.size ≤ 1099511627776) (hc : Nt.count M.row p.f ≠ 64) :
    Calls Try.prog 33 #[.pointer (some ⟨r, 0, none⟩), .agg p.cells.toArray] w fun e w' => e = .returned (.int .i64 0) ∧ Nt.Step B w0 w w' r L { M with row := M.row ++ [p] } := by
  obtain ⟨A, c, hn, hP, hL, hA, hlc⟩ := h.netBlock
  have hlt := h.lt
  have hlen := h.net.ok.len
  have hM' : Nt.Md.Ok { M with row := M.row ++ [p] } := by
    have := h.net.ok.put hl hd
    unfold Nt.put at this
    rw [if_neg hc] at this
    exact this
  obtain ⟨N, hN⟩ : ∃ N, N = w.heap.size := ⟨_, rfl⟩
  obtain ⟨w1, hw1⟩ : ∃ x, x = w.alloc (.cells p.cells.toArray 25) := ⟨_, rfl⟩
  have b1 : Below w.heap.size w w1 := by rw [hw1]; exact (Below.refl _ w).alloc (Nat.le_refl _) _
  have g0 : w1.heap[N]? = some (.cells p.cells.toArray 25 (0, 0)) := by rw [hw1, hN]; exact heap_alloc_new w _
  have hrN : r < N := by omega
  have hn1 := (b1.block r hlt).trans hn
  have hP1 := hP.low b1
  have hk1 : w.grownBy w1 (some r) := ⟨b1.os, b1.tape, b1.output, b1.size, fun i hi _ => b1.block i hi⟩
  have H := Lib.hid h
  have HM := Lib.hid hM'
  have HN := Lib.hid hN
  have HK1 := Lib.hid hk1
  have HP := Lib.hid hP1
  have HA := Lib.hid hA
  have HL := Lib.hid hL
  have G0 := Lib.hid g0
  have HW1 := Lib.hid hw1
  have hbnd : Nt.count M.row p.f < 64 := by
    have hr := h.net.ok.room
    rcases hl with ⟨e, _⟩ | ⟨e, _⟩ <;> rw [e] at hc ⊢ <;> omega
  have OW : Hid (∀ wx : World, Calls Try.prog 35 #[.agg p.cells.toArray] wx fun e w' => e = .returned (.agg p.cells.toArray) ∧ Below wx.heap.size wx w') := fun wx => ntOwn_any wx p hd
  have CL : Hid (∀ wx : World, Calls Try.prog 58 #[.slice A M.row.length c] wx fun e w' => e = .returned (.slice A M.row.length M.row.length) ∧ wx = w') := fun wx => clipPk_any wx A _ c hlc (by omega) (by
    cases A with
    | none =>
      obtain ⟨A', c', e, _⟩ := hP.shape
      refine .inr ?_
      rcases hP.2 with ⟨e2, _⟩ | ⟨g, cap, cur, e2, _⟩
      · simp only [Value.slice.injEq] at e2; exact ⟨e2.2.1, e2.2.2⟩
      · simp only [Value.slice.injEq] at e2; cases e2.1
    | some a => exact .inl (by simp))
  clear h hM' hN b1 hP hP1 hL hn hA hk1 hlc
  have d0 := Sm.cells_of g0 0 (.int .i64 p.f) rfl
  have c3 := Sm.cells_of hn1 3 _ rfl
  have c4 := Sm.cells_of hn1 4 _ rfl
  have f3 := Sm.free_of hn1 3
  have f4 := Sm.free_of hn1 4
  have HN1 := Lib.hid hn1
  clear g0 hn1
  obtain ⟨cs, hcs⟩ : ∃ cs, cs = p.cells := ⟨_, rfl⟩
  have hcl : cs.length = 3 := by rw [hcs]; rfl
  have HCS := Lib.hid hcs
  have HCL := Lib.hid hcl
  rw [← hcs] at OW G0 HW1 ⊢
  clear hcs hcl hw1
  obtain ⟨f, t, d⟩ := p
  simp only at d0 hc hbnd
  have hst : ∀ (n0 n1 : Nat), True := fun _ _ => trivial
  clear hst
  rcases hl with ⟨e1, e2⟩ | ⟨e1, e2⟩
  · simp only at e1 e2
    subst e1 e2
    obtain ⟨n0, hn0⟩ : ∃ n, n = Nt.count M.row 0 := ⟨_, rfl⟩
    have hb0 : n0 < 64 := by rw [hn0]; exact hbnd
    have hne : ¬ (n0 : Int) = 64 := by omega
    have hinc : IntKind.i64.wrap ((n0 : Int) + 1) = ((n0 + 1 : Nat) : Int) := by simp [IntKind.wrap, IntKind.bits, IntKind.signed]; omega
    rw [← hn0] at c3
    have HN0 := Lib.hid hn0
    clear hn0 hbnd hc
    go_enter Try.func33, Try.ntmps33
    go_upto_region 1 with (fail)
    rw [← HW1.out, ← HN.out]
    go_region
    go_upto_region 3 with (fail)
    go_region
    go_upto_region 4 with (fail)
    clear c3 c4 f3 f4 d0 hne
    have hg2 := Sm.heap_set HN1.out 3 (.int .i64 ((n0 : Int) + 1))
    have hk2 := Sm.grown_set HK1.out 3 (.int .i64 ((n0 : Int) + 1))
    have hP2 := HP.out.turned HN1.out Nt.net_packet (Sm.grown_set (Sm.grown_refl w1 (some r)) 3 (.int .i64 ((n0 : Int) + 1)))
    have hp2 := (Below.heap_setCell w1 ⟨r, 3, none⟩ (.int .i64 ((n0 : Int) + 1)) N (by show N ≠ r; omega)).trans G0.out
    generalize w1.setCell ⟨r, 3, none⟩ (.int .i64 ((n0 : Int) + 1)) = w2 at *
    have hg3 : w2.drew.drew.heap[r]? = some (.cells (#[.bool true, .bool M.parted, .slice A M.row.length c, .int .i64 (Nt.count M.row 0), .int .i64 (Nt.count M.row 1)] |>.setIfInBounds 3 (.int .i64 ((n0 : Int) + 1))) 46 (0, 0)) := hg2
    have hk3 : w.grownBy w2.drew.drew (some r) := Sm.grown_drewN (Sm.grown_drewN hk2 1) 1
    have hP3 : Nt.PksAt w2.drew.drew B (.slice A M.row.length c) M.row := own_drewN2 hP2
    have hp3 : w2.drew.drew.heap[N]? = some (.cells cs.toArray 25 (0, 0)) := hp2
    generalize w2.drew.drew = w3 at *
    clear hg2 hk2 hP2 hp2
    have c2 := Sm.cells_of hg3 2 (.slice A M.row.length c) rfl
    have hrg := Sm.range_row hp3
    refine wp_region_held_drew (S := (fun w' => w'.rangeAt N 0 cs)) (by kernel_rfl) hrg (fun hHeld => ?_)
    refine wpAnyH_take (i := 0) (oi := ⟨some 24, _, _, _, _, _⟩) (v := .pointer (some ⟨r, 0, none⟩)) rfl (by kernel_rfl) (by kernel_rfl) (by kernel_rfl) (fun _ _ _ h => h) (Or.inl ⟨by rfl, ?_⟩) (by assumption) ?_
    · intro w hSw; (try dsimp only at hSw); go_simp
    simp only [Act.put, List.setIfInBounds_toArray, List.set_cons_zero, List.set_cons_succ]
    refine wpAnyH_take (i := 1) (oi := ⟨some 25, _, _, _, _, _⟩) (v := .pointer (some ⟨r, 0, none⟩)) rfl (by kernel_rfl) (by kernel_rfl) (by kernel_rfl) (fun _ _ _ h => h) (Or.inl ⟨by rfl, ?_⟩) (by assumption) ?_
    · intro w hSw; (try dsimp only at hSw); go_simp
    simp only [Act.put, List.setIfInBounds_toArray, List.set_cons_zero, List.set_cons_succ]
    refine wpAnyH_take (i := 2) (oi := ⟨some 26, _, _, _, _, _⟩) (v := .pointer (some ⟨r, 0, none⟩)) rfl (by kernel_rfl) (by kernel_rfl) (by kernel_rfl) (fun _ _ _ h => h) (Or.inl ⟨by rfl, ?_⟩) (by assumption) ?_
    · intro w hSw; (try dsimp only at hSw); go_simp
    simp only [Act.put, List.setIfInBounds_toArray, List.set_cons_zero, List.set_cons_succ]
    refine wpAnyH_take (i := 3) (oi := ⟨some 27, _, _, _, _, _⟩) (v := .pointer (some ⟨r, 2, none⟩)) rfl (by kernel_rfl) (by kernel_rfl) (by kernel_rfl) (fun _ _ _ h => h) (Or.inl ⟨by rfl, ?_⟩) (by assumption) ?_
    · intro w hSw; (try dsimp only at hSw); go_simp
    simp only [Act.put, List.setIfInBounds_toArray, List.set_cons_zero, List.set_cons_succ]
    refine wpAnyH_take (i := 6) (oi := ⟨some 30, _, _, _, _, _⟩) (v := .agg cs.toArray) rfl (by kernel_rfl) (by kernel_rfl) (by kernel_rfl) (fun _ _ _ h => h) (yieldsIf_load_mid (by rfl) _ _ rfl _ _ rfl cs _ (fun w hS => hS) Try.underlying25 rfl (Nt.infoPkL HCL.out)) (by assumption) ?_
    simp only [Act.put, List.setIfInBounds_toArray, List.set_cons_zero, List.set_cons_succ]
    have c2d : w3.drew.cell? ⟨r, 2, none⟩ = some (.slice A M.row.length c) := c2
    refine wpAnyH_ready (rs := [4]) (by kernel_rfl) (by simp) ?_
    refine (AllReadyH.cons (o := ⟨some 28, _, _, _, _, _⟩) rfl (fun K hK => ?_) AllReadyH.nil)
    go_simp
    refine hK.out _ _ hHeld (fun hHeld => ?_)
    clear hK K c2 c2d
    refine wpAnyH_ready (rs := [5]) (by kernel_rfl) (by simp) ?_
    refine (AllReadyH.cons (o := ⟨some 29, _, _, _, _, _⟩) rfl (fun K hK => ?_) AllReadyH.nil)
    go_simp
    refine (CL.out _).mono ?_
    rintro e w4 ⟨rfl, rfl⟩
    refine hK.out _ _ hHeld (fun hHeld => ?_)
    clear hK K
    refine wpAnyH_ready (rs := [7]) (by kernel_rfl) (by simp) ?_
    refine (AllReadyH.cons (o := ⟨some 31, _, _, _, _, _⟩) rfl (fun K hK => ?_) AllReadyH.nil)
    go_simp
    refine (OW.out _).mono ?_
    rintro e w5 ⟨rfl, k5⟩
    have k5 : Below w3.heap.size w3 w5 := (Below.refl _ w3).drew.trans k5
    have hg5 := (k5.block r (Sm.lt_of hg3)).trans hg3
    have hp5 := (k5.block N (Sm.lt_of hp3)).trans hp3
    have hP5 := hP3.low k5
    have hk5 := Sm.grown_below hk3 (k5.mono hk3.size)
    clear k5 hg3 hp3 hP3 hk3
    refine hK.out _ _ (Sm.range_row hp5) (fun hHeld => ?_)
    clear hK K
    refine wpAnyH_ready (rs := [8]) (by kernel_rfl) (by simp) ?_
    refine (AllReadyH.cons (o := ⟨some 32, _, _, _, _, _⟩) rfl (fun K hK => ?_) AllReadyH.nil)
    rw [if_pos (by simp [Region.wanted])]
    rw [HCS.out]
    refine Nt.wp_build_pk (.tmp 31) rfl ⟨0, 1, d⟩ rfl ?_
    have hg6 := (Below.heap_alloc w5 (.cells (Nt.Pk.cells ⟨0, 1, d⟩).toArray 25) r (Sm.lt_of hg5)).trans hg5
    have hp6 := (Below.heap_alloc w5 (.cells (Nt.Pk.cells ⟨0, 1, d⟩).toArray 25) N (Sm.lt_of hp5)).trans hp5
    have k6 : Below w5.heap.size w5 (w5.alloc (.cells (Nt.Pk.cells ⟨0, 1, d⟩).toArray 25)) := (Below.refl _ w5).alloc (Nat.le_refl _) _
    have hP6 := hP5.low k6
    have hk6 := Sm.grown_below hk5 (k6.mono hk5.size)
    have hn6 := heap_alloc_new w5 (.cells (Nt.Pk.cells ⟨0, 1, d⟩).toArray 25)
    obtain ⟨N2, hN2⟩ : ∃ n, n = w5.heap.size := ⟨_, rfl⟩
    rw [← hN2] at hn6 ⊢
    generalize w5.alloc (.cells (Nt.Pk.cells ⟨0, 1, d⟩).toArray 25) = w6 at *
    clear hN2 k6 hg5 hp5 hP5 hk5
    refine hK.out _ _ (Sm.range_row hp6) (fun hHeld => ?_)
    clear hK K
    refine wpAnyH_ready (rs := [9]) (by kernel_rfl) (by simp) ?_
    refine (AllReadyH.cons (o := ⟨some 33, _, _, _, _, _⟩) rfl (fun K hK => ?_) AllReadyH.nil)
    rw [if_pos (by simp [Region.wanted])]
    refine Nt.wp_append_new (.tmp 29) (.tmp 32) rfl (A := A) (c := c) (l := M.row) rfl hP6 ⟨0, 1, d⟩ (N := N2) rfl (Sm.range_row hn6) (by omega) ?_
    intro v7' w7 hP7 hk
    obtain ⟨A7, q7, hv7⟩ := Sm.own_shape hP7
    obtain ⟨n7, hn7⟩ : ∃ n, n = (M.row ++ [(⟨0, 1, d⟩ : Nt.Pk)]).length := ⟨_, rfl⟩
    rw [← hn7] at hv7
    subst hv7
    clear hn7
    have k7 : Below w6.heap.size w6 w7 := ⟨hk.os, hk.tape, hk.output, hk.size, fun i hi => hk.block i hi (by simp)⟩
    have hg7 := (k7.block r (Sm.lt_of hg6)).trans hg6
    have hp7 := (k7.block N (Sm.lt_of hp6)).trans hp6
    have hk7 := Sm.grown_below hk6 (k7.mono hk6.size)
    have hfresh : w.heap.size ≤ w6.heap.size := hk6.size
    have hBw := H.out.size
    have hold := H.out.old
    have hPB := Nt.own_more hP7 (B' := B) (by omega)
    have hLf : ∀ g, (Value.slice A7 n7 q7).ownBlock = some g → ¬ L g := fun g hg hl => by
      have h1 := (Nt.own_blk hP7 hg).1
      have h2 := hold g hl
      omega
    have hset := Sm.heap_set hg7 2 (.slice A7 n7 q7)
    have hkset := Sm.grown_set hk7 2 (.slice A7 n7 q7)
    have ST := Lib.hid (H.out.remade HM.out (hP8 := own_set2 hPB hg7 (.slice A7 n7 q7)) hLf (by
      rw [hset]
      simp only [Nt.cells, Nt.count_append, Nt.count_one]
      rw [HN0.out]; simp) hkset)
    have c7 := Sm.cells_of hg7 2 (.slice A M.row.length c) rfl
    have f7 := Sm.free_of hg7 2
    have rg7 := Sm.range_row hp7
    have rg8 : (w7.setCell ⟨r, 2, none⟩ (.slice A7 n7 q7)).rangeAt N 0 cs := Sm.range_row ((Below.heap_setCell w7 ⟨r, 2, none⟩ (.slice A7 n7 q7) N (by show N ≠ r; omega)).trans hp7)
    clear hg6 hp6 hP6 hk6 hn6 hk k7 hP7 hfresh hBw hold hPB hLf hset hkset hk7 hg7 hp7
    refine hK.out _ _ rg7 (fun hHeld => ?_)
    clear hK K
    refine wpAnyH_take (i := 10) (oi := ⟨some 34, _, _, _, _, _⟩) (v := .pointer (some ⟨r, 0, none⟩)) rfl (by kernel_rfl) (by kernel_rfl) (by kernel_rfl) (fun _ _ _ h => h) (Or.inl ⟨by rfl, ?_⟩) (by assumption) ?_
    · intro w hSw; (try dsimp only at hSw); go_simp
    simp only [Act.put, List.setIfInBounds_toArray, List.set_cons_zero, List.set_cons_succ]
    refine wpAnyH_take (i := 11) (oi := ⟨some 35, _, _, _, _, _⟩) (v := .pointer (some ⟨r, 2, none⟩)) rfl (by kernel_rfl) (by kernel_rfl) (by kernel_rfl) (fun _ _ _ h => h) (Or.inl ⟨by rfl, ?_⟩) (by assumption) ?_
    · intro w hSw; (try dsimp only at hSw); go_simp
    simp only [Act.put, List.setIfInBounds_toArray, List.set_cons_zero, List.set_cons_succ]
    refine wpAnyH_ready (rs := [12]) (by kernel_rfl) (by simp) ?_
    refine (AllReadyH.cons (o := ⟨none, _, _, _, _, _⟩) rfl (fun K hK => ?_) AllReadyH.nil)
    go_simp
    refine hK.out _ _ rg8 (fun hHeld => ?_)
    clear hK K
    refine wpAnyH_done (by kernel_rfl) ?_ _
    go_wp2
    go_ret
    exact ⟨rfl, ST.out⟩
  · simp only at e1 e2
    subst e1 e2
    obtain ⟨n0, hn0⟩ : ∃ n, n = Nt.count M.row 1 := ⟨_, rfl⟩
    have hb0 : n0 < 64 := by rw [hn0]; exact hbnd
    have hne : ¬ (n0 : Int) = 64 := by omega
    have hinc : IntKind.i64.wrap ((n0 : Int) + 1) = ((n0 + 1 : Nat) : Int) := by simp [IntKind.wrap, IntKind.bits, IntKind.signed]; omega
    rw [← hn0] at c4
    have HN0 := Lib.hid hn0
    clear hn0 hbnd hc
    go_enter Try.func33, Try.ntmps33
    go_upto_region 1 with (fail)
    rw [← HW1.out, ← HN.out]
    go_region
    go_upto_region 3 with (fail)
    go_region
    go_upto_region 4 with (fail)
    clear c3 c4 f3 f4 d0 hne
    have hg2 := Sm.heap_set HN1.out 4 (.int .i64 ((n0 : Int) + 1))
    have hk2 := Sm.grown_set HK1.out 4 (.int .i64 ((n0 : Int) + 1))
    have hP2 := HP.out.turned HN1.out Nt.net_packet (Sm.grown_set (Sm.grown_refl w1 (some r)) 4 (.int .i64 ((n0 : Int) + 1)))
    have hp2 := (Below.heap_setCell w1 ⟨r, 4, none⟩ (.int .i64 ((n0 : Int) + 1)) N (by show N ≠ r; omega)).trans G0.out
    generalize w1.setCell ⟨r, 4, none⟩ (.int .i64 ((n0 : Int) + 1)) = w2 at *
    have hg3 : w2.drew.drew.heap[r]? = some (.cells (#[.bool true, .bool M.parted, .slice A M.row.length c, .int .i64 (Nt.count M.row 0), .int .i64 (Nt.count M.row 1)] |>.setIfInBounds 4 (.int .i64 ((n0 : Int) + 1))) 46 (0, 0)) := hg2
    have hk3 : w.grownBy w2.drew.drew (some r) := Sm.grown_drewN (Sm.grown_drewN hk2 1) 1
    have hP3 : Nt.PksAt w2.drew.drew B (.slice A M.row.length c) M.row := own_drewN2 hP2
    have hp3 : w2.drew.drew.heap[N]? = some (.cells cs.toArray 25 (0, 0)) := hp2
    generalize w2.drew.drew = w3 at *
    clear hg2 hk2 hP2 hp2
    have c2 := Sm.cells_of hg3 2 (.slice A M.row.length c) rfl
    have hrg := Sm.range_row hp3
    refine wp_region_held_drew (S := (fun w' => w'.rangeAt N 0 cs)) (by kernel_rfl) hrg (fun hHeld => ?_)
    refine wpAnyH_take (i := 0) (oi := ⟨some 24, _, _, _, _, _⟩) (v := .pointer (some ⟨r, 0, none⟩)) rfl (by kernel_rfl) (by kernel_rfl) (by kernel_rfl) (fun _ _ _ h => h) (Or.inl ⟨by rfl, ?_⟩) (by assumption) ?_
    · intro w hSw; (try dsimp only at hSw); go_simp
    simp only [Act.put, List.setIfInBounds_toArray, List.set_cons_zero, List.set_cons_succ]
    refine wpAnyH_take (i := 1) (oi := ⟨some 25, _, _, _, _, _⟩) (v := .pointer (some ⟨r, 0, none⟩)) rfl (by kernel_rfl) (by kernel_rfl) (by kernel_rfl) (fun _ _ _ h => h) (Or.inl ⟨by rfl, ?_⟩) (by assumption) ?_
    · intro w hSw; (try dsimp only at hSw); go_simp
    simp only [Act.put, List.setIfInBounds_toArray, List.set_cons_zero, List.set_cons_succ]
    refine wpAnyH_take (i := 2) (oi := ⟨some 26, _, _, _, _, _⟩) (v := .pointer (some ⟨r, 0, none⟩)) rfl (by kernel_rfl) (by kernel_rfl) (by kernel_rfl) (fun _ _ _ h => h) (Or.inl ⟨by rfl, ?_⟩) (by assumption) ?_
    · intro w hSw; (try dsimp only at hSw); go_simp
    simp only [Act.put, List.setIfInBounds_toArray, List.set_cons_zero, List.set_cons_succ]
    refine wpAnyH_take (i := 3) (oi := ⟨some 27, _, _, _, _, _⟩) (v := .pointer (some ⟨r, 2, none⟩)) rfl (by kernel_rfl) (by kernel_rfl) (by kernel_rfl) (fun _ _ _ h => h) (Or.inl ⟨by rfl, ?_⟩) (by assumption) ?_
    · intro w hSw; (try dsimp only at hSw); go_simp
    simp only [Act.put, List.setIfInBounds_toArray, List.set_cons_zero, List.set_cons_succ]
    refine wpAnyH_take (i := 6) (oi := ⟨some 30, _, _, _, _, _⟩) (v := .agg cs.toArray) rfl (by kernel_rfl) (by kernel_rfl) (by kernel_rfl) (fun _ _ _ h => h) (yieldsIf_load_mid (by rfl) _ _ rfl _ _ rfl cs _ (fun w hS => hS) Try.underlying25 rfl (Nt.infoPkL HCL.out)) (by assumption) ?_
    simp only [Act.put, List.setIfInBounds_toArray, List.set_cons_zero, List.set_cons_succ]
    have c2d : w3.drew.cell? ⟨r, 2, none⟩ = some (.slice A M.row.length c) := c2
    refine wpAnyH_ready (rs := [4]) (by kernel_rfl) (by simp) ?_
    refine (AllReadyH.cons (o := ⟨some 28, _, _, _, _, _⟩) rfl (fun K hK => ?_) AllReadyH.nil)
    go_simp
    refine hK.out _ _ hHeld (fun hHeld => ?_)
    clear hK K c2 c2d
    refine wpAnyH_ready (rs := [5]) (by kernel_rfl) (by simp) ?_
    refine (AllReadyH.cons (o := ⟨some 29, _, _, _, _, _⟩) rfl (fun K hK => ?_) AllReadyH.nil)
    go_simp
    refine (CL.out _).mono ?_
    rintro e w4 ⟨rfl, rfl⟩
    refine hK.out _ _ hHeld (fun hHeld => ?_)
    clear hK K
    refine wpAnyH_ready (rs := [7]) (by kernel_rfl) (by simp) ?_
    refine (AllReadyH.cons (o := ⟨some 31, _, _, _, _, _⟩) rfl (fun K hK => ?_) AllReadyH.nil)
    go_simp
    refine (OW.out _).mono ?_
    rintro e w5 ⟨rfl, k5⟩
    have k5 : Below w3.heap.size w3 w5 := (Below.refl _ w3).drew.trans k5
    have hg5 := (k5.block r (Sm.lt_of hg3)).trans hg3
    have hp5 := (k5.block N (Sm.lt_of hp3)).trans hp3
    have hP5 := hP3.low k5
    have hk5 := Sm.grown_below hk3 (k5.mono hk3.size)
    clear k5 hg3 hp3 hP3 hk3
    refine hK.out _ _ (Sm.range_row hp5) (fun hHeld => ?_)
    clear hK K
    refine wpAnyH_ready (rs := [8]) (by kernel_rfl) (by simp) ?_
    refine (AllReadyH.cons (o := ⟨some 32, _, _, _, _, _⟩) rfl (fun K hK => ?_) AllReadyH.nil)
    rw [if_pos (by simp [Region.wanted])]
    rw [HCS.out]
    refine Nt.wp_build_pk (.tmp 31) rfl ⟨1, 0, d⟩ rfl ?_
    have hg6 := (Below.heap_alloc w5 (.cells (Nt.Pk.cells ⟨1, 0, d⟩).toArray 25) r (Sm.lt_of hg5)).trans hg5
    have hp6 := (Below.heap_alloc w5 (.cells (Nt.Pk.cells ⟨1, 0, d⟩).toArray 25) N (Sm.lt_of hp5)).trans hp5
    have k6 : Below w5.heap.size w5 (w5.alloc (.cells (Nt.Pk.cells ⟨1, 0, d⟩).toArray 25)) := (Below.refl _ w5).alloc (Nat.le_refl _) _
    have hP6 := hP5.low k6
    have hk6 := Sm.grown_below hk5 (k6.mono hk5.size)
    have hn6 := heap_alloc_new w5 (.cells (Nt.Pk.cells ⟨1, 0, d⟩).toArray 25)
    obtain ⟨N2, hN2⟩ : ∃ n, n = w5.heap.size := ⟨_, rfl⟩
    rw [← hN2] at hn6 ⊢
    generalize w5.alloc (.cells (Nt.Pk.cells ⟨1, 0, d⟩).toArray 25) = w6 at *
    clear hN2 k6 hg5 hp5 hP5 hk5
    refine hK.out _ _ (Sm.range_row hp6) (fun hHeld => ?_)
    clear hK K
    refine wpAnyH_ready (rs := [9]) (by kernel_rfl) (by simp) ?_
    refine (AllReadyH.cons (o := ⟨some 33, _, _, _, _, _⟩) rfl (fun K hK => ?_) AllReadyH.nil)
    rw [if_pos (by simp [Region.wanted])]
    refine Nt.wp_append_new (.tmp 29) (.tmp 32) rfl (A := A) (c := c) (l := M.row) rfl hP6 ⟨1, 0, d⟩ (N := N2) rfl (Sm.range_row hn6) (by omega) ?_
    intro v7' w7 hP7 hk
    obtain ⟨A7, q7, hv7⟩ := Sm.own_shape hP7
    obtain ⟨n7, hn7⟩ : ∃ n, n = (M.row ++ [(⟨1, 0, d⟩ : Nt.Pk)]).length := ⟨_, rfl⟩
    rw [← hn7] at hv7
    subst hv7
    clear hn7
    have k7 : Below w6.heap.size w6 w7 := ⟨hk.os, hk.tape, hk.output, hk.size, fun i hi => hk.block i hi (by simp)⟩
    have hg7 := (k7.block r (Sm.lt_of hg6)).trans hg6
    have hp7 := (k7.block N (Sm.lt_of hp6)).trans hp6
    have hk7 := Sm.grown_below hk6 (k7.mono hk6.size)
    have hfresh : w.heap.size ≤ w6.heap.size := hk6.size
    have hBw := H.out.size
    have hold := H.out.old
    have hPB := Nt.own_more hP7 (B' := B) (by omega)
    have hLf : ∀ g, (Value.slice A7 n7 q7).ownBlock = some g → ¬ L g := fun g hg hl => by
      have h1 := (Nt.own_blk hP7 hg).1
      have h2 := hold g hl
      omega
    have hset := Sm.heap_set hg7 2 (.slice A7 n7 q7)
    have hkset := Sm.grown_set hk7 2 (.slice A7 n7 q7)
    have ST := Lib.hid (H.out.remade HM.out (hP8 := own_set2 hPB hg7 (.slice A7 n7 q7)) hLf (by
      rw [hset]
      simp only [Nt.cells, Nt.count_append, Nt.count_one]
      rw [HN0.out]; simp) hkset)
    have c7 := Sm.cells_of hg7 2 (.slice A M.row.length c) rfl
    have f7 := Sm.free_of hg7 2
    have rg7 := Sm.range_row hp7
    have rg8 : (w7.setCell ⟨r, 2, none⟩ (.slice A7 n7 q7)).rangeAt N 0 cs := Sm.range_row ((Below.heap_setCell w7 ⟨r, 2, none⟩ (.slice A7 n7 q7) N (by show N ≠ r; omega)).trans hp7)
    clear hg6 hp6 hP6 hk6 hn6 hk k7 hP7 hfresh hBw hold hPB hLf hset hkset hk7 hg7 hp7
    refine hK.out _ _ rg7 (fun hHeld => ?_)
    clear hK K
    refine wpAnyH_take (i := 10) (oi := ⟨some 34, _, _, _, _, _⟩) (v := .pointer (some ⟨r, 0, none⟩)) rfl (by kernel_rfl) (by kernel_rfl) (by kernel_rfl) (fun _ _ _ h => h) (Or.inl ⟨by rfl, ?_⟩) (by assumption) ?_
    · intro w hSw; (try dsimp only at hSw); go_simp
    simp only [Act.put, List.setIfInBounds_toArray, List.set_cons_zero, List.set_cons_succ]
    refine wpAnyH_take (i := 11) (oi := ⟨some 35, _, _, _, _, _⟩) (v := .pointer (some ⟨r, 2, none⟩)) rfl (by kernel_rfl) (by kernel_rfl) (by kernel_rfl) (fun _ _ _ h => h) (Or.inl ⟨by rfl, ?_⟩) (by assumption) ?_
    · intro w hSw; (try dsimp only at hSw); go_simp
    simp only [Act.put, List.setIfInBounds_toArray, List.set_cons_zero, List.set_cons_succ]
    refine wpAnyH_ready (rs := [12]) (by kernel_rfl) (by simp) ?_
    refine (AllReadyH.cons (o := ⟨none, _, _, _, _, _⟩) rfl (fun K hK => ?_) AllReadyH.nil)
    go_simp
    refine hK.out _ _ rg8 (fun hHeld => ?_)
    clear hK K
    refine wpAnyH_done (by kernel_rfl) ?_ _
    go_wp2
    go_ret
    exact ⟨rfl, ST.out⟩
end Go.Proofs.Ytimbcmcmidnlfaa
