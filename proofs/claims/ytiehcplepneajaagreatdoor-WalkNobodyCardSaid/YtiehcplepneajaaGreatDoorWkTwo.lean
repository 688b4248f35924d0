/-
  Texts that belong together, laid into one.
-/
import Derived.Test.YtiehcplepneajaaGreatDoorWkOne
import Derived.Deep.RegionHeld3
/-
  walk's ask: a node is asked for, unless it is the base's own.
-/
namespace Go.Proofs.YtiehcplepneajaaGreatDoor
open Go.RowKit
namespace Wk
theorem wp_alloc_hash {o : Oper} {a : Act} {w : World} {K : Act → World → Prop} {Q : Exit → Act → World → Prop} (ho : o.op = .alloc 36)
    (h : K (a.put o.dst (.pointer (some ⟨w.heap.size, 0, none⟩))) (w.alloc (.cells (Sm.rowB 32 []) 36))) : o.wp Tryz.prog a w K Q := by
  have hz : (zeroValue 36).run Tryz.prog w = .ok (.agg (Sm.rowB 32 [])) w := by kernel_rfl
  unfold Oper.wp execOp
  simp only [ho]
  go_simp
  exact h
theorem ask_same {l : List Om.Pr} {S : St} {k : Nat} {x : List UInt8} (h : bn l k = x) : ask l S k x = S := if_pos h
theorem ask_other {l : List Om.Pr} {S : St} {k : Nat} {x : List UInt8} (h : ¬ bn l k = x) : ask l S k x = { S with W := fun j => if j = k then some x else S.W j } := if_neg h
end Wk
set_option maxRecDepth 100000 in
set_option maxHeartbeats 8000000 in
theorem wkAsk_any {w W : World} {r rt mw ms : Nat} {A : Option Addr} {c : Nat} {l : List Om.Pr} {root : List UInt8} {S : Wk.St} (h : Wk.WAt w W r rt mw ms A c l root S) {k : Nat} (hk : k < 31) {x : List UInt8} (hx : x.length = 32) :
    Calls Tryz.prog 55 #[.pointer (some ⟨r, 0, none⟩), Wk.enc (Wk.plc k), .agg (Lib.byteCells x).toArray] W fun e w' => e = .returned (.tuple #[]) ∧ Wk.WAt w w' r rt mw ms A c l root (Wk.ask l S k x) ∧ Wk.Turn w W w' := by
  obtain ⟨N, hN⟩ : ∃ N, N = W.heap.size := ⟨_, rfl⟩
  obtain ⟨cx, hcx⟩ : ∃ c, c = (Lib.byteCells x).toArray := ⟨_, rfl⟩
  obtain ⟨w2, hw2⟩ : ∃ w2, w2 = (W.alloc (.cells #[.int .i64 (Wk.plc k).1, .int .i64 (Wk.plc k).2] 54)).alloc (.cells cx 36) := ⟨_, rfl⟩
  have b2 : Below W.heap.size W w2 := by rw [hw2]; exact ((Below.refl _ W).alloc (Nat.le_refl _) _).alloc (by simp) _
  have g0 : w2.heap[N]? = some (.cells #[.int .i64 (Wk.plc k).1, .int .i64 (Wk.plc k).2] 54 (0, 0)) := by rw [hw2, hN, Below.heap_alloc _ _ _ (by simp)]; exact heap_alloc_new _ _
  have g1 : w2.heap[N + 1]? = some (.cells cx 36 (0, 0)) := by
    have := heap_alloc_new (W.alloc (.cells #[.int .i64 (Wk.plc k).1, .int .i64 (Wk.plc k).2] 54)) (.cells cx 36)
    rw [hw2, hN]
    simpa using this
  have hN1 : (W.alloc (.cells #[.int .i64 (Wk.plc k).1, .int .i64 (Wk.plc k).2] 54)).heap.size = N + 1 := by rw [hN]; simp
  have h2 := h.step b2
  have T2 : Hid (Wk.Turn w W w2) := .of_below b2
  have HC : Hid (∀ wx : World, Below w2.heap.size w2 wx → wx.cell? ⟨r, 0, none⟩ = some (.pointer (some ⟨rt, 0, none⟩)) ∧ wx.cell? ⟨N, 0, none⟩ = some (.int .i64 (Wk.plc k).1) ∧ wx.cell? ⟨N, 1, none⟩ = some (.int .i64 (Wk.plc k).2)) := fun wx hb =>
    ⟨(h2.step hb).cell.1, (hb.cell (p := ⟨N, 0, none⟩) (Sm.lt_of g0)).trans (Sm.cells_of g0 0 _ rfl), (hb.cell (p := ⟨N, 1, none⟩) (Sm.lt_of g0)).trans (Sm.cells_of g0 1 _ rfl)⟩
  have H2 := Lib.hid h2
  obtain ⟨cs, hcs⟩ : ∃ c, c = (Lib.byteCells (Wk.bn l k)).toArray := ⟨_, rfl⟩
  have ND : Hid (∀ wx : World, Below w2.heap.size w2 wx → Calls Tryz.prog 37 #[.pointer (some ⟨rt, 0, none⟩), .int .i64 (Wk.plc k).1, .int .i64 (Wk.plc k).2] wx fun e w' => e = .returned (.tuple #[.agg cs, .bool true]) ∧ Below wx.heap.size wx w') := fun wx hb => by
    rw [hcs]
    exact (H2.out.step hb).ow.nodeC (Wk.lev_le k) (Wk.lev_pl hk).2
  have HZ : Hid (cs.size = 32) := by show _ = _; rw [hcs]; exact Tr.size32 (Wk.bn_length _ _)
  have HO : Hid (cs.all (·.oneCell') = true) := by show _ = _; rw [hcs]; exact Sm.bytes_one _
  have HZX : Hid (cx.size = 32) := by show _ = _; rw [hcx]; exact Tr.size32 hx
  have HG0 := Lib.hid g0
  have HG1 := Lib.hid g1
  have HCS := Lib.hid hcs
  have HCX := Lib.hid hcx
  have HXL := Lib.hid hx
  have HK := Lib.hid hk
  rw [← hcx]
  clear h h2 g0 g1 b2 hcs hcx hx hk
  go_enter Tryz.func55, Tryz.ntmps55
  go_upto_region 1 with (fail)
  change Code.wp _ _ _ _ ((W.alloc (.cells #[.int .i64 (Wk.plc k).1, .int .i64 (Wk.plc k).2] 54)).alloc (.cells cx 36))
  rw [← hw2, ← hN]
  clear hw2 hN hN1
  refine wp_region_held_drew (S := fun w' => Below w2.heap.size w2 w') (by kernel_rfl) (Below.refl _ _).drew (fun hHeld => ?_)
  obtain ⟨wz, hwz⟩ : ∃ W, W = w2.drew := ⟨_, rfl⟩
  have wzB : Hid (Below w2.heap.size w2 wz) := by rw [hwz]; exact (Below.refl _ _).drew
  rw [← hwz] at hHeld ⊢
  clear hwz
  refine wpAnyH_take (i := 0) (oi := ⟨some 9, _, _, _, _, _⟩) (v := .pointer (some ⟨r, 0, none⟩)) rfl (by kernel_rfl) (by kernel_rfl) (by kernel_rfl) (fun _ _ _ h => h) (Or.inl ⟨by rfl, ?_⟩) (by assumption) ?_
  · intro w hSw; (try dsimp only at hSw); go_simp
  simp only [Act.put, List.setIfInBounds_toArray, List.set_cons_zero, List.set_cons_succ]
  refine wpAnyH_take (i := 1) (oi := ⟨some 10, _, _, _, _, _⟩) (v := .pointer (some ⟨r, 0, none⟩)) rfl (by kernel_rfl) (by kernel_rfl) (by kernel_rfl) (fun _ _ _ h => h) (Or.inl ⟨by rfl, ?_⟩) (by assumption) ?_
  · intro w hSw; (try dsimp only at hSw); go_simp
  simp only [Act.put, List.setIfInBounds_toArray, List.set_cons_zero, List.set_cons_succ]
  refine wpAnyH_take (i := 2) (oi := ⟨some 11, _, _, _, _, _⟩) (v := .pointer (some ⟨r, 0, none⟩)) rfl (by kernel_rfl) (by kernel_rfl) (by kernel_rfl) (fun _ _ _ h => h) (Or.inl ⟨by rfl, ?_⟩) (by assumption) ?_
  · intro w hSw; (try dsimp only at hSw); go_simp
  simp only [Act.put, List.setIfInBounds_toArray, List.set_cons_zero, List.set_cons_succ]
  refine wpAnyH_take (i := 3) (oi := ⟨some 12, _, _, _, _, _⟩) (v := .pointer (some ⟨rt, 0, none⟩)) rfl (by kernel_rfl) (by kernel_rfl) (by kernel_rfl) (fun _ _ _ h => h) (Or.inl ⟨by rfl, ?_⟩) (by assumption) ?_
  · intro w hSw; (try dsimp only at hSw); have q1 := (HC.out w hSw).1; go_simp
  simp only [Act.put, List.setIfInBounds_toArray, List.set_cons_zero, List.set_cons_succ]
  refine wpAnyH_take (i := 4) (oi := ⟨some 13, _, _, _, _, _⟩) (v := .pointer (some ⟨N, 0, none⟩)) rfl (by kernel_rfl) (by kernel_rfl) (by kernel_rfl) (fun _ _ _ h => h) (Or.inl ⟨by rfl, ?_⟩) (by assumption) ?_
  · intro w hSw; (try dsimp only at hSw); go_simp
  simp only [Act.put, List.setIfInBounds_toArray, List.set_cons_zero, List.set_cons_succ]
  refine wpAnyH_take (i := 5) (oi := ⟨some 14, _, _, _, _, _⟩) (v := .int .i64 (Wk.plc k).1) rfl (by kernel_rfl) (by kernel_rfl) (by kernel_rfl) (fun _ _ _ h => h) (Or.inl ⟨by rfl, ?_⟩) (by assumption) ?_
  · intro w hSw; (try dsimp only at hSw); have q1 := (HC.out w hSw).2.1; go_simp
  simp only [Act.put, List.setIfInBounds_toArray, List.set_cons_zero, List.set_cons_succ]
  refine wpAnyH_take (i := 6) (oi := ⟨some 15, _, _, _, _, _⟩) (v := .pointer (some ⟨N, 1, none⟩)) rfl (by kernel_rfl) (by kernel_rfl) (by kernel_rfl) (fun _ _ _ h => h) (Or.inl ⟨by rfl, ?_⟩) (by assumption) ?_
  · intro w hSw; (try dsimp only at hSw); go_simp
  simp only [Act.put, List.setIfInBounds_toArray, List.set_cons_zero, List.set_cons_succ]
  refine wpAnyH_take (i := 7) (oi := ⟨some 16, _, _, _, _, _⟩) (v := .int .i64 (Wk.plc k).2) rfl (by kernel_rfl) (by kernel_rfl) (by kernel_rfl) (fun _ _ _ h => h) (Or.inl ⟨by rfl, ?_⟩) (by assumption) ?_
  · intro w hSw; (try dsimp only at hSw); have q1 := (HC.out w hSw).2.2; go_simp
  simp only [Act.put, List.setIfInBounds_toArray, List.set_cons_zero, List.set_cons_succ]
  refine wpAnyH_ready (rs := [8, 12]) (by kernel_rfl) (by simp) ?_
  refine (AllReadyH.cons (o := ⟨some 17, _, _, _, _, _⟩) rfl (fun K hK => ?_) (AllReadyH.cons (o := ⟨some 6, _, _, _, _, _⟩) rfl (fun K hK => ?_) AllReadyH.nil))
  · go_simp
    refine (ND.out _ wzB.out).mono ?_
    rintro e wa ⟨rfl, kk⟩
    have waB : Hid (Below w2.heap.size w2 wa) := wzB.out.trans (kk.mono wzB.out.size)
    clear kk
    refine hK.out _ _ waB.out (fun hHeld => ?_)
    clear hK K
    refine wpAnyH_take (i := 9) (oi := ⟨some 8, _, _, _, _, _⟩) (v := .tuple #[.agg cs, .bool true]) rfl (by kernel_rfl) (by kernel_rfl) (by kernel_rfl) (fun _ _ _ h => h) (Or.inl ⟨by rfl, ?_⟩) (by assumption) ?_
    · intro w hSw; (try dsimp only at hSw); go_simp
    simp only [Act.put, List.setIfInBounds_toArray, List.set_cons_zero, List.set_cons_succ]
    refine wpAnyH_take (i := 10) (oi := ⟨some 18, _, _, _, _, _⟩) (v := .agg cs) rfl (by kernel_rfl) (by kernel_rfl) (by kernel_rfl) (fun _ _ _ h => h) (Or.inl ⟨by rfl, ?_⟩) (by assumption) ?_
    · intro w hSw; (try dsimp only at hSw); go_simp
    simp only [Act.put, List.setIfInBounds_toArray, List.set_cons_zero, List.set_cons_succ]
    refine wpAnyH_take (i := 11) (oi := ⟨some 19, _, _, _, _, _⟩) (v := .bool true) rfl (by kernel_rfl) (by kernel_rfl) (by kernel_rfl) (fun _ _ _ h => h) (Or.inl ⟨by rfl, ?_⟩) (by assumption) ?_
    · intro w hSw; (try dsimp only at hSw); go_simp
    simp only [Act.put, List.setIfInBounds_toArray, List.set_cons_zero, List.set_cons_succ]
    refine wpAnyH_ready (rs := [12]) (by kernel_rfl) (by simp) ?_
    refine (AllReadyH.cons (o := ⟨some 6, _, _, _, _, _⟩) rfl (fun K hK => ?_) AllReadyH.nil)
    rw [if_pos (by simp [Region.wanted])]
    refine Wk.wp_alloc_hash rfl ?_
    have kk : Below wa.heap.size wa (wa.alloc (.cells (Sm.rowB 32 []) 36)) := (Below.refl _ wa).alloc (Nat.le_refl _) _
    have HM := Lib.hid (heap_alloc_new wa (.cells (Sm.rowB 32 []) 36))
    have HMB : Hid (w2.heap.size ≤ wa.heap.size) := waB.out.size
    have wbB : Hid (Below w2.heap.size w2 (wa.alloc (.cells (Sm.rowB 32 []) 36))) := waB.out.trans (kk.mono waB.out.size)
    clear kk
    generalize wa.alloc (.cells (Sm.rowB 32 []) 36) = wb at *
    generalize wa.heap.size = M at *
    refine hK.out _ _ wbB.out (fun hHeld => ?_)
    clear hK K
    try simp only [Act.put]
    refine wpAnyH_ready (rs := [13]) (by kernel_rfl) (by simp) ?_
    refine (AllReadyH.cons (o := ⟨none, _, _, _, _, _⟩) rfl (fun K hK => ?_) AllReadyH.nil)
    rw [if_pos (by simp [Region.wanted])]
    refine wp_store_row 36 (.tmp 6) (.tmp 18) rfl M cs rfl rfl 36 _ HM.out (Sm.infoHash HZ.out) (by rw [HZ.out]; exact Sm.rowB_size (by simp)) HO.out ?_
    have HM2 := Lib.hid (setRow_heap _ M _ cs _ _ HM.out)
    have w6B : Hid (Below w2.heap.size w2 (wb.setRow M cs)) := Sm.below_setRow wbB.out HMB.out cs
    clear HM
    generalize wb.setRow M cs = w6 at *
    refine hK.out _ _ w6B.out (fun hHeld => ?_)
    clear hK K
    try simp only [Act.put]
    refine wpAnyH_take (i := 14) (oi := ⟨some 7, _, _, _, _, _⟩) (v := .bool true) rfl (by kernel_rfl) (by kernel_rfl) (by kernel_rfl) (fun _ _ _ h => h) (Or.inl ⟨by rfl, ?_⟩) (by assumption) ?_
    · intro w hSw; (try dsimp only at hSw); go_simp
    simp only [Act.put, List.setIfInBounds_toArray, List.set_cons_zero, List.set_cons_succ]
    refine wpAnyH_done (by kernel_rfl) ?_ _
    clear hHeld
    have H6 := Lib.hid (H2.out.step w6B.out)
    have X6 := Lib.hid ((w6B.out.block _ (Sm.lt_of HG1.out)).trans HG1.out)
    by_cases hb : Wk.bn l k = x
    · have heq : ∀ wx : World, (Op.equalIn 10000 36 (.agg cs) (.agg cx)).run Tryz.prog wx = .ok true wx := fun wx => by
        have := Sm.eq_hash (Wk.bn l k) x (Wk.bn_length _ _) HXL.out wx
        rw [HCS.out, HCX.out, this, hb]
        simp
      go_wp2_with first
        | (with_reducible refine wpList_load_row rfl 36 (.tmp 6) rfl M rfl 36 cs (0, 0) _ (by exact HM2.out) Tryz.underlying36 rfl (Sm.infoHash HZ.out) ?_)
        | (with_reducible refine wpList_load_row rfl 36 (.tmp 5) rfl (N + 1) rfl 36 cx (0, 0) _ (by exact X6.out) Tryz.underlying36 rfl (Sm.infoHash HZX.out) ?_)
      go_end0
      exact ⟨rfl, by rw [Wk.ask_same hb]; exact H6.out, T2.out.step w6B.out⟩
    · have heq : ∀ wx : World, (Op.equalIn 10000 36 (.agg cs) (.agg cx)).run Tryz.prog wx = .ok false wx := fun wx => by
        have := Sm.eq_hash (Wk.bn l k) x (Wk.bn_length _ _) HXL.out wx
        rw [HCS.out, HCX.out, this, beq_eq_false_iff_ne.2 hb]
      have HBN := Lib.hid hb
      clear hb
      go_upto_region 3 with first
        | (with_reducible refine wpList_load_row rfl 36 (.tmp 6) rfl M rfl 36 cs (0, 0) _ (by exact HM2.out) Tryz.underlying36 rfl (Sm.infoHash HZ.out) ?_)
        | (with_reducible refine wpList_load_row rfl 36 (.tmp 5) rfl (N + 1) rfl 36 cx (0, 0) _ (by exact X6.out) Tryz.underlying36 rfl (Sm.infoHash HZX.out) ?_)
      clear heq
      have HS : Hid ((w6.drew.cell? ⟨r, 33, none⟩ = some (.map (some mw)) ∧ w6.drew.cell? ⟨N, 0, none⟩ = some (.int .i64 (Wk.plc k).1) ∧ w6.drew.cell? ⟨N, 1, none⟩ = some (.int .i64 (Wk.plc k).2)) ∧ w6.drew.rangeAt (N + 1) 0 (Lib.byteCells x)) :=
        ⟨⟨H6.out.cell.2.1, (HC.out _ w6B.out).2⟩, Sm.range_row (t := 36) (show w6.drew.heap[N + 1]? = _ by rw [← HCX.out]; exact X6.out)⟩
      have H7 := Lib.hid (H6.out.step (Below.refl _ _).drew)
      obtain ⟨w8, hup, hm8, ht8⟩ := H7.out.wanted.store (t := 106) (e := 36) (by kernel_rfl) HK.out (Tr.hv x)
      have H8 := Lib.hid (H7.out.turnW (F := fun j => if j = k then some x else S.W j) (hm8.congr fun j _ => by by_cases e : j = k <;> simp [e]) (fun j h hj => by
        by_cases e : j = k
        · rw [if_pos e] at hj; cases hj; exact HXL.out
        · rw [if_neg e] at hj; exact H7.out.wlen j h hj) ht8)
      have T8 := Lib.hid ((T2.out.step (w6B.out.trans ((Below.refl _ _).drew))).trans (Wk.Turn.of_map ht8 H7.out.loww))
      have N6 : w6.drew.heap[N]? = some (.cells #[.int .i64 (Wk.plc k).1, .int .i64 (Wk.plc k).2] 54 (0, 0)) := (w6B.out.block _ (Sm.lt_of HG0.out)).trans HG0.out
      have Y6 : w6.drew.heap[N + 1]? = some (.cells (Lib.byteCells x).toArray 36 (0, 0)) := by rw [← HCX.out]; exact X6.out
      obtain ⟨es0, c0, hmk⟩ := H7.out.wanted.kind
      have n1 : N ≠ mw := fun e => by rw [e, hmk] at N6; cases N6
      have n2 : N + 1 ≠ mw := fun e => by rw [e, hmk] at Y6; cases Y6
      have N8 := (ht8.grown.block N (Sm.lt_of N6) (fun e => n1 (Option.some.inj e))).trans N6
      have Y8 := (ht8.grown.block (N + 1) (Sm.lt_of Y6) (fun e => n2 (Option.some.inj e))).trans Y6
      have HS8 : Hid ((w8.cell? ⟨r, 33, none⟩ = some (.map (some mw)) ∧ w8.cell? ⟨N, 0, none⟩ = some (.int .i64 (Wk.plc k).1) ∧ w8.cell? ⟨N, 1, none⟩ = some (.int .i64 (Wk.plc k).2)) ∧ w8.rangeAt (N + 1) 0 (Lib.byteCells x)) :=
        ⟨⟨H8.out.cell.2.1, Sm.cells_of N8 0 _ rfl, Sm.cells_of N8 1 _ rfl⟩, Sm.range_row Y8⟩
      clear hm8 ht8 N6 Y6 hmk n1 n2 N8 Y8
      refine wp_region_held_drew (S := fun w' => (w'.cell? ⟨r, 33, none⟩ = some (.map (some mw)) ∧ w'.cell? ⟨N, 0, none⟩ = some (.int .i64 (Wk.plc k).1) ∧ w'.cell? ⟨N, 1, none⟩ = some (.int .i64 (Wk.plc k).2)) ∧ w'.rangeAt (N + 1) 0 (Lib.byteCells x)) (by kernel_rfl) HS.out (fun hHeld => ?_)
      refine wpAnyH_take (i := 0) (oi := ⟨some 23, _, _, _, _, _⟩) (v := .pointer (some ⟨r, 0, none⟩)) rfl (by kernel_rfl) (by kernel_rfl) (by kernel_rfl) (fun _ _ _ h => h) (Or.inl ⟨by rfl, ?_⟩) (by assumption) ?_
      · intro w hSw; (try dsimp only at hSw); go_simp
      simp only [Act.put, List.setIfInBounds_toArray, List.set_cons_zero, List.set_cons_succ]
      refine wpAnyH_take (i := 1) (oi := ⟨some 24, _, _, _, _, _⟩) (v := .pointer (some ⟨r, 0, none⟩)) rfl (by kernel_rfl) (by kernel_rfl) (by kernel_rfl) (fun _ _ _ h => h) (Or.inl ⟨by rfl, ?_⟩) (by assumption) ?_
      · intro w hSw; (try dsimp only at hSw); go_simp
      simp only [Act.put, List.setIfInBounds_toArray, List.set_cons_zero, List.set_cons_succ]
      refine wpAnyH_take (i := 2) (oi := ⟨some 25, _, _, _, _, _⟩) (v := .pointer (some ⟨r, 33, none⟩)) rfl (by kernel_rfl) (by kernel_rfl) (by kernel_rfl) (fun _ _ _ h => h) (Or.inl ⟨by rfl, ?_⟩) (by assumption) ?_
      · intro w hSw; (try dsimp only at hSw); go_simp
      simp only [Act.put, List.setIfInBounds_toArray, List.set_cons_zero, List.set_cons_succ]
      refine wpAnyH_take (i := 3) (oi := ⟨some 26, _, _, _, _, _⟩) (v := .map (some mw)) rfl (by kernel_rfl) (by kernel_rfl) (by kernel_rfl) (fun _ _ _ h => h) (Or.inl ⟨by rfl, ?_⟩) (by assumption) ?_
      · intro w hSw; (try dsimp only at hSw); go_simp
      simp only [Act.put, List.setIfInBounds_toArray, List.set_cons_zero, List.set_cons_succ]
      refine wpAnyH_take (i := 4) (oi := ⟨some 27, _, _, _, _, _⟩) (v := (Wk.enc (Wk.plc k))) rfl (by kernel_rfl) (by kernel_rfl) (by kernel_rfl) (fun _ _ _ h => h) (Or.inl ⟨by rfl, ?_⟩) (by assumption) ?_
      · intro w hSw; (try dsimp only at hSw); go_simp
      simp only [Act.put, List.setIfInBounds_toArray, List.set_cons_zero, List.set_cons_succ]
      refine wpAnyH_take (i := 5) (oi := ⟨some 28, _, _, _, _, _⟩) (v := .agg (Lib.byteCells x).toArray) rfl (by kernel_rfl) (by kernel_rfl) (by kernel_rfl) (fun _ _ _ h => h) (yieldsIf_load_mid (by rfl) _ _ rfl _ _ rfl (Lib.byteCells x) _ (fun w hS => hS.2) Tryz.underlying36 rfl (Sm.infoHash (Tr.size32 HXL.out))) (by assumption) ?_
      simp only [Act.put, List.setIfInBounds_toArray, List.set_cons_zero, List.set_cons_succ]
      refine wpAnyH_ready (rs := [6]) (by kernel_rfl) (by simp) ?_
      refine (AllReadyH.cons (o := ⟨none, _, _, _, _, _⟩) rfl (fun K hK => ?_) AllReadyH.nil)
      go_simp
      refine hK.out _ _ HS8.out (fun hHeld => ?_)
      clear hK K
      refine wpAnyH_done (by kernel_rfl) ?_ _
      clear hHeld
      go_wp2
      go_end0
      exact ⟨rfl, by rw [Wk.ask_other HBN.out]; exact H8.out, T8.out⟩
  · rw [if_pos (by simp [Region.wanted])]
    refine Wk.wp_alloc_hash rfl ?_
    have kk : Below wz.heap.size wz (wz.alloc (.cells (Sm.rowB 32 []) 36)) := (Below.refl _ wz).alloc (Nat.le_refl _) _
    have HM := Lib.hid (heap_alloc_new wz (.cells (Sm.rowB 32 []) 36))
    have HMB : Hid (w2.heap.size ≤ wz.heap.size) := wzB.out.size
    have waB : Hid (Below w2.heap.size w2 (wz.alloc (.cells (Sm.rowB 32 []) 36))) := wzB.out.trans (kk.mono wzB.out.size)
    clear kk
    generalize wz.alloc (.cells (Sm.rowB 32 []) 36) = wa at *
    generalize wz.heap.size = M at *
    refine hK.out _ _ waB.out (fun hHeld => ?_)
    clear hK K
    try simp only [Act.put]
    refine wpAnyH_ready (rs := [8]) (by kernel_rfl) (by simp) ?_
    refine (AllReadyH.cons (o := ⟨some 17, _, _, _, _, _⟩) rfl (fun K hK => ?_) AllReadyH.nil)
    go_simp
    refine (ND.out _ waB.out).mono ?_
    rintro e wb ⟨rfl, kk⟩
    have wbB : Hid (Below w2.heap.size w2 wb) := waB.out.trans (kk.mono waB.out.size)
    have HM := Lib.hid ((kk.block _ (Sm.lt_of HM.out)).trans HM.out)
    clear kk
    refine hK.out _ _ wbB.out (fun hHeld => ?_)
    clear hK K
    refine wpAnyH_take (i := 9) (oi := ⟨some 8, _, _, _, _, _⟩) (v := .tuple #[.agg cs, .bool true]) rfl (by kernel_rfl) (by kernel_rfl) (by kernel_rfl) (fun _ _ _ h => h) (Or.inl ⟨by rfl, ?_⟩) (by assumption) ?_
    · intro w hSw; (try dsimp only at hSw); go_simp
    simp only [Act.put, List.setIfInBounds_toArray, List.set_cons_zero, List.set_cons_succ]
    refine wpAnyH_take (i := 10) (oi := ⟨some 18, _, _, _, _, _⟩) (v := .agg cs) rfl (by kernel_rfl) (by kernel_rfl) (by kernel_rfl) (fun _ _ _ h => h) (Or.inl ⟨by rfl, ?_⟩) (by assumption) ?_
    · intro w hSw; (try dsimp only at hSw); go_simp
    simp only [Act.put, List.setIfInBounds_toArray, List.set_cons_zero, List.set_cons_succ]
    refine wpAnyH_take (i := 11) (oi := ⟨some 19, _, _, _, _, _⟩) (v := .bool true) rfl (by kernel_rfl) (by kernel_rfl) (by kernel_rfl) (fun _ _ _ h => h) (Or.inl ⟨by rfl, ?_⟩) (by assumption) ?_
    · intro w hSw; (try dsimp only at hSw); go_simp
    simp only [Act.put, List.setIfInBounds_toArray, List.set_cons_zero, List.set_cons_succ]
    refine wpAnyH_ready (rs := [13]) (by kernel_rfl) (by simp) ?_
    refine (AllReadyH.cons (o := ⟨none, _, _, _, _, _⟩) rfl (fun K hK => ?_) AllReadyH.nil)
    rw [if_pos (by simp [Region.wanted])]
    refine wp_store_row 36 (.tmp 6) (.tmp 18) rfl M cs rfl rfl 36 _ HM.out (Sm.infoHash HZ.out) (by rw [HZ.out]; exact Sm.rowB_size (by simp)) HO.out ?_
    have HM2 := Lib.hid (setRow_heap _ M _ cs _ _ HM.out)
    have w6B : Hid (Below w2.heap.size w2 (wb.setRow M cs)) := Sm.below_setRow wbB.out HMB.out cs
    clear HM
    generalize wb.setRow M cs = w6 at *
    refine hK.out _ _ w6B.out (fun hHeld => ?_)
    clear hK K
    try simp only [Act.put]
    refine wpAnyH_take (i := 14) (oi := ⟨some 7, _, _, _, _, _⟩) (v := .bool true) rfl (by kernel_rfl) (by kernel_rfl) (by kernel_rfl) (fun _ _ _ h => h) (Or.inl ⟨by rfl, ?_⟩) (by assumption) ?_
    · intro w hSw; (try dsimp only at hSw); go_simp
    simp only [Act.put, List.setIfInBounds_toArray, List.set_cons_zero, List.set_cons_succ]
    refine wpAnyH_done (by kernel_rfl) ?_ _
    clear hHeld
    have H6 := Lib.hid (H2.out.step w6B.out)
    have X6 := Lib.hid ((w6B.out.block _ (Sm.lt_of HG1.out)).trans HG1.out)
    by_cases hb : Wk.bn l k = x
    · have heq : ∀ wx : World, (Op.equalIn 10000 36 (.agg cs) (.agg cx)).run Tryz.prog wx = .ok true wx := fun wx => by
        have := Sm.eq_hash (Wk.bn l k) x (Wk.bn_length _ _) HXL.out wx
        rw [HCS.out, HCX.out, this, hb]
        simp
      go_wp2_with first
        | (with_reducible refine wpList_load_row rfl 36 (.tmp 6) rfl M rfl 36 cs (0, 0) _ (by exact HM2.out) Tryz.underlying36 rfl (Sm.infoHash HZ.out) ?_)
        | (with_reducible refine wpList_load_row rfl 36 (.tmp 5) rfl (N + 1) rfl 36 cx (0, 0) _ (by exact X6.out) Tryz.underlying36 rfl (Sm.infoHash HZX.out) ?_)
      go_end0
      exact ⟨rfl, by rw [Wk.ask_same hb]; exact H6.out, T2.out.step w6B.out⟩
    · have heq : ∀ wx : World, (Op.equalIn 10000 36 (.agg cs) (.agg cx)).run Tryz.prog wx = .ok false wx := fun wx => by
        have := Sm.eq_hash (Wk.bn l k) x (Wk.bn_length _ _) HXL.out wx
        rw [HCS.out, HCX.out, this, beq_eq_false_iff_ne.2 hb]
      have HBN := Lib.hid hb
      clear hb
      go_upto_region 3 with first
        | (with_reducible refine wpList_load_row rfl 36 (.tmp 6) rfl M rfl 36 cs (0, 0) _ (by exact HM2.out) Tryz.underlying36 rfl (Sm.infoHash HZ.out) ?_)
        | (with_reducible refine wpList_load_row rfl 36 (.tmp 5) rfl (N + 1) rfl 36 cx (0, 0) _ (by exact X6.out) Tryz.underlying36 rfl (Sm.infoHash HZX.out) ?_)
      clear heq
      have HS : Hid ((w6.drew.cell? ⟨r, 33, none⟩ = some (.map (some mw)) ∧ w6.drew.cell? ⟨N, 0, none⟩ = some (.int .i64 (Wk.plc k).1) ∧ w6.drew.cell? ⟨N, 1, none⟩ = some (.int .i64 (Wk.plc k).2)) ∧ w6.drew.rangeAt (N + 1) 0 (Lib.byteCells x)) :=
        ⟨⟨H6.out.cell.2.1, (HC.out _ w6B.out).2⟩, Sm.range_row (t := 36) (show w6.drew.heap[N + 1]? = _ by rw [← HCX.out]; exact X6.out)⟩
      have H7 := Lib.hid (H6.out.step (Below.refl _ _).drew)
      obtain ⟨w8, hup, hm8, ht8⟩ := H7.out.wanted.store (t := 106) (e := 36) (by kernel_rfl) HK.out (Tr.hv x)
      have H8 := Lib.hid (H7.out.turnW (F := fun j => if j = k then some x else S.W j) (hm8.congr fun j _ => by by_cases e : j = k <;> simp [e]) (fun j h hj => by
        by_cases e : j = k
        · rw [if_pos e] at hj; cases hj; exact HXL.out
        · rw [if_neg e] at hj; exact H7.out.wlen j h hj) ht8)
      have T8 := Lib.hid ((T2.out.step (w6B.out.trans ((Below.refl _ _).drew))).trans (Wk.Turn.of_map ht8 H7.out.loww))
      have N6 : w6.drew.heap[N]? = some (.cells #[.int .i64 (Wk.plc k).1, .int .i64 (Wk.plc k).2] 54 (0, 0)) := (w6B.out.block _ (Sm.lt_of HG0.out)).trans HG0.out
      have Y6 : w6.drew.heap[N + 1]? = some (.cells (Lib.byteCells x).toArray 36 (0, 0)) := by rw [← HCX.out]; exact X6.out
      obtain ⟨es0, c0, hmk⟩ := H7.out.wanted.kind
      have n1 : N ≠ mw := fun e => by rw [e, hmk] at N6; cases N6
      have n2 : N + 1 ≠ mw := fun e => by rw [e, hmk] at Y6; cases Y6
      have N8 := (ht8.grown.block N (Sm.lt_of N6) (fun e => n1 (Option.some.inj e))).trans N6
      have Y8 := (ht8.grown.block (N + 1) (Sm.lt_of Y6) (fun e => n2 (Option.some.inj e))).trans Y6
      have HS8 : Hid ((w8.cell? ⟨r, 33, none⟩ = some (.map (some mw)) ∧ w8.cell? ⟨N, 0, none⟩ = some (.int .i64 (Wk.plc k).1) ∧ w8.cell? ⟨N, 1, none⟩ = some (.int .i64 (Wk.plc k).2)) ∧ w8.rangeAt (N + 1) 0 (Lib.byteCells x)) :=
        ⟨⟨H8.out.cell.2.1, Sm.cells_of N8 0 _ rfl, Sm.cells_of N8 1 _ rfl⟩, Sm.range_row Y8⟩
      clear hm8 ht8 N6 Y6 hmk n1 n2 N8 Y8
      refine wp_region_held_drew (S := fun w' => (w'.cell? ⟨r, 33, none⟩ = some (.map (some mw)) ∧ w'.cell? ⟨N, 0, none⟩ = some (.int .i64 (Wk.plc k).1) ∧ w'.cell? ⟨N, 1, none⟩ = some (.int .i64 (Wk.plc k).2)) ∧ w'.rangeAt (N + 1) 0 (Lib.byteCells x)) (by kernel_rfl) HS.out (fun hHeld => ?_)
      refine wpAnyH_take (i := 0) (oi := ⟨some 23, _, _, _, _, _⟩) (v := .pointer (some ⟨r, 0, none⟩)) rfl (by kernel_rfl) (by kernel_rfl) (by kernel_rfl) (fun _ _ _ h => h) (Or.inl ⟨by rfl, ?_⟩) (by assumption) ?_
      · intro w hSw; (try dsimp only at hSw); go_simp
      simp only [Act.put, List.setIfInBounds_toArray, List.set_cons_zero, List.set_cons_succ]
      refine wpAnyH_take (i := 1) (oi := ⟨some 24, _, _, _, _, _⟩) (v := .pointer (some ⟨r, 0, none⟩)) rfl (by kernel_rfl) (by kernel_rfl) (by kernel_rfl) (fun _ _ _ h => h) (Or.inl ⟨by rfl, ?_⟩) (by assumption) ?_
      · intro w hSw; (try dsimp only at hSw); go_simp
      simp only [Act.put, List.setIfInBounds_toArray, List.set_cons_zero, List.set_cons_succ]
      refine wpAnyH_take (i := 2) (oi := ⟨some 25, _, _, _, _, _⟩) (v := .pointer (some ⟨r, 33, none⟩)) rfl (by kernel_rfl) (by kernel_rfl) (by kernel_rfl) (fun _ _ _ h => h) (Or.inl ⟨by rfl, ?_⟩) (by assumption) ?_
      · intro w hSw; (try dsimp only at hSw); go_simp
      simp only [Act.put, List.setIfInBounds_toArray, List.set_cons_zero, List.set_cons_succ]
      refine wpAnyH_take (i := 3) (oi := ⟨some 26, _, _, _, _, _⟩) (v := .map (some mw)) rfl (by kernel_rfl) (by kernel_rfl) (by kernel_rfl) (fun _ _ _ h => h) (Or.inl ⟨by rfl, ?_⟩) (by assumption) ?_
      · intro w hSw; (try dsimp only at hSw); go_simp
      simp only [Act.put, List.setIfInBounds_toArray, List.set_cons_zero, List.set_cons_succ]
      refine wpAnyH_take (i := 4) (oi := ⟨some 27, _, _, _, _, _⟩) (v := (Wk.enc (Wk.plc k))) rfl (by kernel_rfl) (by kernel_rfl) (by kernel_rfl) (fun _ _ _ h => h) (Or.inl ⟨by rfl, ?_⟩) (by assumption) ?_
      · intro w hSw; (try dsimp only at hSw); go_simp
      simp only [Act.put, List.setIfInBounds_toArray, List.set_cons_zero, List.set_cons_succ]
      refine wpAnyH_take (i := 5) (oi := ⟨some 28, _, _, _, _, _⟩) (v := .agg (Lib.byteCells x).toArray) rfl (by kernel_rfl) (by kernel_rfl) (by kernel_rfl) (fun _ _ _ h => h) (yieldsIf_load_mid (by rfl) _ _ rfl _ _ rfl (Lib.byteCells x) _ (fun w hS => hS.2) Tryz.underlying36 rfl (Sm.infoHash (Tr.size32 HXL.out))) (by assumption) ?_
      simp only [Act.put, List.setIfInBounds_toArray, List.set_cons_zero, List.set_cons_succ]
      refine wpAnyH_ready (rs := [6]) (by kernel_rfl) (by simp) ?_
      refine (AllReadyH.cons (o := ⟨none, _, _, _, _, _⟩) rfl (fun K hK => ?_) AllReadyH.nil)
      go_simp
      refine hK.out _ _ HS8.out (fun hHeld => ?_)
      clear hK K
      refine wpAnyH_done (by kernel_rfl) ?_ _
      clear hHeld
      go_wp2
      go_end0
      exact ⟨rfl, by rw [Wk.ask_other HBN.out]; exact H8.out, T8.out⟩
end Go.Proofs.YtiehcplepneajaaGreatDoor

/-
  walk's take: an answer's hash and its text are taken, if it fits.
-/
namespace Go.Proofs.YtiehcplepneajaaGreatDoor
open Go.RowKit
namespace Wk
/-- What hash is wanted at a pair of numbers. -/
def hit (S : St) (a : Int × Int) : Option (List UInt8) := if 0 ≤ a.1 ∧ a.1 ≤ 4 ∧ 0 ≤ a.2 ∧ a.2 < 2 ^ a.1.toNat then S.W (pl a.1.toNat a.2.toNat) else none
theorem at2_hit (S : St) (a : Int × Int) : at2 (fun k => (S.W k).map Tr.hv) a = (hit S a).map Tr.hv := by
  unfold at2 hit
  split <;> rfl
theorem hit_plc (S : St) {k : Nat} (hk : k < 31) : hit S (plc k) = S.W k := by
  have h1 := lev_le k
  obtain ⟨h2, h3⟩ := lev_pl hk
  unfold hit plc
  simp only [Int.toNat_natCast]
  rw [if_pos ⟨by omega, by omega, by omega, by exact_mod_cast h3⟩, h2]
theorem hit_some {S : St} {a : Int × Int} {x : List UInt8} (h : hit S a = some x) : ∃ k, k < 31 ∧ plc k = a ∧ S.W k = some x := by
  unfold hit at h
  split at h
  · rename_i hp
    exact ⟨_, (plc_of hp).1, (plc_of hp).2, h⟩
  · cases h
theorem zeroH (w : World) : (zeroValue 36).run Tryz.prog w = .ok (.agg (Sm.rowB 32 [])) w := by kernel_rfl
theorem WAt.behindT {w W W1 : World} {r rt mw ms : Nat} {A A' : Option Addr} {c c' : Nat} {l : List Om.Pr} {root : List UInt8} {S : St} (h : WAt w W r rt mw ms A c l root S) (g : Grows W W1 (.slice A (S.T.map Tr.tx).length c) (.slice A' ((S.T.map Tr.tx).length + 1) c')) :
    W1.cell? ⟨r, 35, none⟩ = some (.slice A (S.T.map Tr.tx).length c) ∧ W1.frozen? ⟨r, 35, none⟩ = false := by
  have hb := (g.own.block r (Sm.lt_of h.blk) (fun e => by
    obtain ⟨-, cs, hcs⟩ := h.texts.blk e.symm
    rw [h.blk] at hcs
    exact walk_ne_string (Obj.cells.inj (Option.some.inj hcs)).2.1))
  have h1 := h.cell.2.2.2
  exact ⟨(World.cell?_of_block (a := ⟨r, 35, none⟩) hb).trans h1, Sm.free_of (hb.trans h.blk) 35⟩
theorem rowB_zeros : Sm.rowB 32 [] = (Lib.byteCells Tr.zeros).toArray := by kernel_rfl
end Wk
set_option maxRecDepth 100000 in
set_option maxHeartbeats 8000000 in
theorem wkTake_no {w W : World} {r rt mw ms : Nat} {A : Option Addr} {c : Nat} {l : List Om.Pr} {root : List UInt8} {S : Wk.St} (h : Wk.WAt w W r rt mw ms A c l root S) {a : Int × Int} (ha : Wk.Fits a) {x : List UInt8} (hx : x.length = 32) (t : ByteArray) (hno : Wk.hit S a ≠ some x) :
    Calls Tryz.prog 71 #[.pointer (some ⟨r, 0, none⟩), Wk.enc a, .agg (Lib.byteCells x).toArray, .string t] W fun e w' => e = .returned (.bool false) ∧ Below W.heap.size W w' := by
  obtain ⟨N, hN⟩ : ∃ N, N = W.heap.size := ⟨_, rfl⟩
  obtain ⟨cx, hcx⟩ : ∃ c, c = (Lib.byteCells x).toArray := ⟨_, rfl⟩
  obtain ⟨w2, hw2⟩ : ∃ w2, w2 = (W.alloc (.cells #[.int .i64 a.1, .int .i64 a.2] 54)).alloc (.cells cx 36) := ⟨_, rfl⟩
  have b2 : Below W.heap.size W w2 := by rw [hw2]; exact ((Below.refl _ W).alloc (Nat.le_refl _) _).alloc (by simp) _
  have g0 : w2.heap[N]? = some (.cells #[.int .i64 a.1, .int .i64 a.2] 54 (0, 0)) := by rw [hw2, hN, Below.heap_alloc _ _ _ (by simp)]; exact heap_alloc_new _ _
  have g1 : w2.heap[N + 1]? = some (.cells cx 36 (0, 0)) := by
    have := heap_alloc_new (W.alloc (.cells #[.int .i64 a.1, .int .i64 a.2] 54)) (.cells cx 36)
    rw [hw2, hN]
    simpa using this
  have hN1 : (W.alloc (.cells #[.int .i64 a.1, .int .i64 a.2] 54)).heap.size = N + 1 := by rw [hN]; simp
  have h2 := h.step b2
  have HB2 := Lib.hid b2
  have T2 : Hid (Wk.Turn w W w2) := .of_below b2
  have HC : Hid (∀ wx : World, Below w2.heap.size w2 wx → wx.cell? ⟨r, 33, none⟩ = some (.map (some mw)) ∧ wx.cell? ⟨N, 0, none⟩ = some (.int .i64 a.1) ∧ wx.cell? ⟨N, 1, none⟩ = some (.int .i64 a.2)) := fun wx hb =>
    ⟨(h2.step hb).cell.2.1, (hb.cell (p := ⟨N, 0, none⟩) (Sm.lt_of g0)).trans (Sm.cells_of g0 0 _ rfl), (hb.cell (p := ⟨N, 1, none⟩) (Sm.lt_of g0)).trans (Sm.cells_of g0 1 _ rfl)⟩
  have H2 := Lib.hid h2
  have HZX : Hid (cx.size = 32) := by show _ = _; rw [hcx]; exact Tr.size32 hx
  have HG0 := Lib.hid g0
  have HG1 := Lib.hid g1
  have HCX := Lib.hid hcx
  have HXL := Lib.hid hx
  rw [← hcx]
  cases hh : Wk.hit S a with
  | none =>
    obtain ⟨cs, hcs⟩ : ∃ c, c = Sm.rowB 32 [] := ⟨_, rfl⟩
    have HZ : Hid (cs.size = 32) := by show _ = _; rw [hcs]; exact Sm.rowB_size (by simp)
    have HO : Hid (cs.all (·.oneCell') = true) := by show _ = _; rw [hcs, Wk.rowB_zeros]; exact Sm.bytes_one _
    have LK : Hid (∀ wx : World, Below w2.heap.size w2 wx → (Instr.lookup 106 (.map (some mw)) (Wk.enc a) true).run Tryz.prog wx = .ok (.tuple #[.agg cs, .bool false]) wx) := fun wx hb => by
      have := (h2.step hb).wanted.look_ok (t := 106) (e := 36) (by kernel_rfl) (Wk.zeroH wx) ha
      rw [Wk.at2_hit, hh] at this
      rw [hcs]
      exact this
    clear h h2 g0 g1 b2 hcx hx ha hno hh hcs
    go_enter Tryz.func71, Tryz.ntmps71
    go_upto_region 3 with (fail)
    change Code.wp _ _ _ _ ((W.alloc (.cells #[.int .i64 a.1, .int .i64 a.2] 54)).alloc (.cells cx 36))
    rw [← hw2, ← hN]
    clear hw2 hN hN1
    refine wp_region_held_drew (S := fun w' => Below w2.heap.size w2 w') (by kernel_rfl) (Below.refl _ _).drew (fun hHeld => ?_)
    obtain ⟨wz, hwz⟩ : ∃ W, W = w2.drew := ⟨_, rfl⟩
    have wzB : Hid (Below w2.heap.size w2 wz) := by rw [hwz]; exact (Below.refl _ _).drew
    rw [← hwz] at hHeld ⊢
    clear hwz
    refine wpAnyH_take (i := 0) (oi := ⟨some 14, _, _, _, _, _⟩) (v := .pointer (some ⟨r, 0, none⟩)) rfl (by kernel_rfl) (by kernel_rfl) (by kernel_rfl) (fun _ _ _ h => h) (Or.inl ⟨by rfl, ?_⟩) (by assumption) ?_
    · intro w hSw; (try dsimp only at hSw); go_simp
    simp only [Act.put, List.setIfInBounds_toArray, List.set_cons_zero, List.set_cons_succ]
    refine wpAnyH_take (i := 1) (oi := ⟨some 15, _, _, _, _, _⟩) (v := .pointer (some ⟨r, 0, none⟩)) rfl (by kernel_rfl) (by kernel_rfl) (by kernel_rfl) (fun _ _ _ h => h) (Or.inl ⟨by rfl, ?_⟩) (by assumption) ?_
    · intro w hSw; (try dsimp only at hSw); go_simp
    simp only [Act.put, List.setIfInBounds_toArray, List.set_cons_zero, List.set_cons_succ]
    refine wpAnyH_take (i := 2) (oi := ⟨some 16, _, _, _, _, _⟩) (v := .pointer (some ⟨r, 33, none⟩)) rfl (by kernel_rfl) (by kernel_rfl) (by kernel_rfl) (fun _ _ _ h => h) (Or.inl ⟨by rfl, ?_⟩) (by assumption) ?_
    · intro w hSw; (try dsimp only at hSw); go_simp
    simp only [Act.put, List.setIfInBounds_toArray, List.set_cons_zero, List.set_cons_succ]
    refine wpAnyH_take (i := 3) (oi := ⟨some 17, _, _, _, _, _⟩) (v := .map (some mw)) rfl (by kernel_rfl) (by kernel_rfl) (by kernel_rfl) (fun _ _ _ h => h) (Or.inl ⟨by rfl, ?_⟩) (by assumption) ?_
    · intro w hSw; (try dsimp only at hSw); have q1 := (HC.out w hSw).1; go_simp
    simp only [Act.put, List.setIfInBounds_toArray, List.set_cons_zero, List.set_cons_succ]
    refine wpAnyH_take (i := 4) (oi := ⟨some 18, _, _, _, _, _⟩) (v := (Wk.enc a)) rfl (by kernel_rfl) (by kernel_rfl) (by kernel_rfl) (fun _ _ _ h => h) (Or.inl ⟨by rfl, ?_⟩) (by assumption) ?_
    · intro w hSw; (try dsimp only at hSw); have q1 := (HC.out w hSw).2.1; have q2 := (HC.out w hSw).2.2; go_simp
    simp only [Act.put, List.setIfInBounds_toArray, List.set_cons_zero, List.set_cons_succ]
    refine wpAnyH_take (i := 5) (oi := ⟨some 19, _, _, _, _, _⟩) (v := .tuple #[(.agg cs), .bool false]) rfl (by kernel_rfl) (by kernel_rfl) (by kernel_rfl) (fun _ _ _ h => h) (Or.inl ⟨by rfl, ?_⟩) (by assumption) ?_
    · intro w hSw; (try dsimp only at hSw); have q1 := LK.out w hSw; go_simp
    simp only [Act.put, List.setIfInBounds_toArray, List.set_cons_zero, List.set_cons_succ]
    refine wpAnyH_take (i := 6) (oi := ⟨some 13, _, _, _, _, _⟩) (v := .tuple #[(.agg cs), .bool false]) rfl (by kernel_rfl) (by kernel_rfl) (by kernel_rfl) (fun _ _ _ h => h) (Or.inl ⟨by rfl, ?_⟩) (by assumption) ?_
    · intro w hSw; (try dsimp only at hSw); go_simp
    simp only [Act.put, List.setIfInBounds_toArray, List.set_cons_zero, List.set_cons_succ]
    refine wpAnyH_take (i := 7) (oi := ⟨some 20, _, _, _, _, _⟩) (v := (.agg cs)) rfl (by kernel_rfl) (by kernel_rfl) (by kernel_rfl) (fun _ _ _ h => h) (Or.inl ⟨by rfl, ?_⟩) (by assumption) ?_
    · intro w hSw; (try dsimp only at hSw); go_simp
    simp only [Act.put, List.setIfInBounds_toArray, List.set_cons_zero, List.set_cons_succ]
    refine wpAnyH_take (i := 8) (oi := ⟨some 21, _, _, _, _, _⟩) (v := .bool false) rfl (by kernel_rfl) (by kernel_rfl) (by kernel_rfl) (fun _ _ _ h => h) (Or.inl ⟨by rfl, ?_⟩) (by assumption) ?_
    · intro w hSw; (try dsimp only at hSw); go_simp
    simp only [Act.put, List.setIfInBounds_toArray, List.set_cons_zero, List.set_cons_succ]
    refine wpAnyH_ready (rs := [9]) (by kernel_rfl) (by simp) ?_
    refine (AllReadyH.cons (o := ⟨some 9, _, _, _, _, _⟩) rfl (fun K hK => ?_) AllReadyH.nil)
    rw [if_pos (by simp [Region.wanted])]
    refine Wk.wp_alloc_hash rfl ?_
    have kk : Below wz.heap.size wz (wz.alloc (.cells (Sm.rowB 32 []) 36)) := (Below.refl _ wz).alloc (Nat.le_refl _) _
    have HM := Lib.hid (heap_alloc_new wz (.cells (Sm.rowB 32 []) 36))
    have HMB : Hid (w2.heap.size ≤ wz.heap.size) := wzB.out.size
    have waB : Hid (Below w2.heap.size w2 (wz.alloc (.cells (Sm.rowB 32 []) 36))) := wzB.out.trans (kk.mono wzB.out.size)
    clear kk wzB
    generalize wz.alloc (.cells (Sm.rowB 32 []) 36) = wa at *
    generalize wz.heap.size = M at *
    refine hK.out _ _ waB.out (fun hHeld => ?_)
    clear hK K
    try simp only [Act.put]
    refine wpAnyH_ready (rs := [10]) (by kernel_rfl) (by simp) ?_
    refine (AllReadyH.cons (o := ⟨none, _, _, _, _, _⟩) rfl (fun K hK => ?_) AllReadyH.nil)
    rw [if_pos (by simp [Region.wanted])]
    refine wp_store_row 36 (.tmp 9) (.tmp 20) rfl M cs rfl rfl 36 _ HM.out (Sm.infoHash HZ.out) (by rw [HZ.out]; exact Sm.rowB_size (by simp)) HO.out ?_
    have HM2 := Lib.hid (setRow_heap _ M _ cs _ _ HM.out)
    have w6B : Hid (Below w2.heap.size w2 (wa.setRow M cs)) := Sm.below_setRow waB.out HMB.out cs
    clear HM waB
    generalize wa.setRow M cs = w6 at *
    refine hK.out _ _ w6B.out (fun hHeld => ?_)
    clear hK K
    try simp only [Act.put]
    refine wpAnyH_take (i := 11) (oi := ⟨some 10, _, _, _, _, _⟩) (v := .bool false) rfl (by kernel_rfl) (by kernel_rfl) (by kernel_rfl) (fun _ _ _ h => h) (Or.inl ⟨by rfl, ?_⟩) (by assumption) ?_
    · intro w hSw; (try dsimp only at hSw); go_simp
    simp only [Act.put, List.setIfInBounds_toArray, List.set_cons_zero, List.set_cons_succ]
    refine wpAnyH_done (by kernel_rfl) ?_ _
    clear hHeld
    have H6 := Lib.hid (H2.out.step w6B.out)
    have X6 := Lib.hid ((w6B.out.block _ (Sm.lt_of HG1.out)).trans HG1.out)
    go_wp2_with first
      | (refine Sm.wpList_load_row_g 36 (.tmp 9) rfl M rfl 36 cs (0, 0) _ (by exact HM2.out) Tryz.underlying36 rfl (Sm.infoHash HZ.out) ?_ ?_; rotate_left; rfl)
      | (refine Sm.wpList_load_row_g 36 (.tmp 6) rfl (N + 1) rfl 36 cx (0, 0) _ (by exact X6.out) Tryz.underlying36 rfl (Sm.infoHash HZX.out) ?_ ?_; rotate_left; rfl)
    go_ret
    exact ⟨rfl, HB2.out.trans (w6B.out.mono HB2.out.size)⟩
  | some y =>
    have hyx : y ≠ x := fun e => hno (by rw [hh, e])
    have hyl : y.length = 32 := by
      obtain ⟨k, _, _, e⟩ := Wk.hit_some hh
      exact h.wlen k y e
    obtain ⟨cs, hcs⟩ : ∃ c, c = (Lib.byteCells y).toArray := ⟨_, rfl⟩
    have HZ : Hid (cs.size = 32) := by show _ = _; rw [hcs]; exact Tr.size32 hyl
    have HO : Hid (cs.all (·.oneCell') = true) := by show _ = _; rw [hcs]; exact Sm.bytes_one _
    have LK : Hid (∀ wx : World, Below w2.heap.size w2 wx → (Instr.lookup 106 (.map (some mw)) (Wk.enc a) true).run Tryz.prog wx = .ok (.tuple #[.agg cs, .bool true]) wx) := fun wx hb => by
      have := (h2.step hb).wanted.look_ok (t := 106) (e := 36) (by kernel_rfl) (Wk.zeroH wx) ha
      rw [Wk.at2_hit, hh] at this
      rw [hcs]
      exact this
    have heq : ∀ wx : World, (Op.equalIn 10000 36 (.agg cs) (.agg cx)).run Tryz.prog wx = .ok false wx := fun wx => by
      have := Sm.eq_hash y x hyl hx wx
      rw [hcs, hcx, this, beq_eq_false_iff_ne.2 hyx]
    clear h h2 g0 g1 b2 hcx hx ha hno hh hcs hyx hyl
    go_enter Tryz.func71, Tryz.ntmps71
    go_upto_region 3 with (fail)
    change Code.wp _ _ _ _ ((W.alloc (.cells #[.int .i64 a.1, .int .i64 a.2] 54)).alloc (.cells cx 36))
    rw [← hw2, ← hN]
    clear hw2 hN hN1
    refine wp_region_held_drew (S := fun w' => Below w2.heap.size w2 w') (by kernel_rfl) (Below.refl _ _).drew (fun hHeld => ?_)
    obtain ⟨wz, hwz⟩ : ∃ W, W = w2.drew := ⟨_, rfl⟩
    have wzB : Hid (Below w2.heap.size w2 wz) := by rw [hwz]; exact (Below.refl _ _).drew
    rw [← hwz] at hHeld ⊢
    clear hwz
    refine wpAnyH_take (i := 0) (oi := ⟨some 14, _, _, _, _, _⟩) (v := .pointer (some ⟨r, 0, none⟩)) rfl (by kernel_rfl) (by kernel_rfl) (by kernel_rfl) (fun _ _ _ h => h) (Or.inl ⟨by rfl, ?_⟩) (by assumption) ?_
    · intro w hSw; (try dsimp only at hSw); go_simp
    simp only [Act.put, List.setIfInBounds_toArray, List.set_cons_zero, List.set_cons_succ]
    refine wpAnyH_take (i := 1) (oi := ⟨some 15, _, _, _, _, _⟩) (v := .pointer (some ⟨r, 0, none⟩)) rfl (by kernel_rfl) (by kernel_rfl) (by kernel_rfl) (fun _ _ _ h => h) (Or.inl ⟨by rfl, ?_⟩) (by assumption) ?_
    · intro w hSw; (try dsimp only at hSw); go_simp
    simp only [Act.put, List.setIfInBounds_toArray, List.set_cons_zero, List.set_cons_succ]
    refine wpAnyH_take (i := 2) (oi := ⟨some 16, _, _, _, _, _⟩) (v := .pointer (some ⟨r, 33, none⟩)) rfl (by kernel_rfl) (by kernel_rfl) (by kernel_rfl) (fun _ _ _ h => h) (Or.inl ⟨by rfl, ?_⟩) (by assumption) ?_
    · intro w hSw; (try dsimp only at hSw); go_simp
    simp only [Act.put, List.setIfInBounds_toArray, List.set_cons_zero, List.set_cons_succ]
    refine wpAnyH_take (i := 3) (oi := ⟨some 17, _, _, _, _, _⟩) (v := .map (some mw)) rfl (by kernel_rfl) (by kernel_rfl) (by kernel_rfl) (fun _ _ _ h => h) (Or.inl ⟨by rfl, ?_⟩) (by assumption) ?_
    · intro w hSw; (try dsimp only at hSw); have q1 := (HC.out w hSw).1; go_simp
    simp only [Act.put, List.setIfInBounds_toArray, List.set_cons_zero, List.set_cons_succ]
    refine wpAnyH_take (i := 4) (oi := ⟨some 18, _, _, _, _, _⟩) (v := (Wk.enc a)) rfl (by kernel_rfl) (by kernel_rfl) (by kernel_rfl) (fun _ _ _ h => h) (Or.inl ⟨by rfl, ?_⟩) (by assumption) ?_
    · intro w hSw; (try dsimp only at hSw); have q1 := (HC.out w hSw).2.1; have q2 := (HC.out w hSw).2.2; go_simp
    simp only [Act.put, List.setIfInBounds_toArray, List.set_cons_zero, List.set_cons_succ]
    refine wpAnyH_take (i := 5) (oi := ⟨some 19, _, _, _, _, _⟩) (v := .tuple #[(.agg cs), .bool true]) rfl (by kernel_rfl) (by kernel_rfl) (by kernel_rfl) (fun _ _ _ h => h) (Or.inl ⟨by rfl, ?_⟩) (by assumption) ?_
    · intro w hSw; (try dsimp only at hSw); have q1 := LK.out w hSw; go_simp
    simp only [Act.put, List.setIfInBounds_toArray, List.set_cons_zero, List.set_cons_succ]
    refine wpAnyH_take (i := 6) (oi := ⟨some 13, _, _, _, _, _⟩) (v := .tuple #[(.agg cs), .bool true]) rfl (by kernel_rfl) (by kernel_rfl) (by kernel_rfl) (fun _ _ _ h => h) (Or.inl ⟨by rfl, ?_⟩) (by assumption) ?_
    · intro w hSw; (try dsimp only at hSw); go_simp
    simp only [Act.put, List.setIfInBounds_toArray, List.set_cons_zero, List.set_cons_succ]
    refine wpAnyH_take (i := 7) (oi := ⟨some 20, _, _, _, _, _⟩) (v := (.agg cs)) rfl (by kernel_rfl) (by kernel_rfl) (by kernel_rfl) (fun _ _ _ h => h) (Or.inl ⟨by rfl, ?_⟩) (by assumption) ?_
    · intro w hSw; (try dsimp only at hSw); go_simp
    simp only [Act.put, List.setIfInBounds_toArray, List.set_cons_zero, List.set_cons_succ]
    refine wpAnyH_take (i := 8) (oi := ⟨some 21, _, _, _, _, _⟩) (v := .bool true) rfl (by kernel_rfl) (by kernel_rfl) (by kernel_rfl) (fun _ _ _ h => h) (Or.inl ⟨by rfl, ?_⟩) (by assumption) ?_
    · intro w hSw; (try dsimp only at hSw); go_simp
    simp only [Act.put, List.setIfInBounds_toArray, List.set_cons_zero, List.set_cons_succ]
    refine wpAnyH_ready (rs := [9]) (by kernel_rfl) (by simp) ?_
    refine (AllReadyH.cons (o := ⟨some 9, _, _, _, _, _⟩) rfl (fun K hK => ?_) AllReadyH.nil)
    rw [if_pos (by simp [Region.wanted])]
    refine Wk.wp_alloc_hash rfl ?_
    have kk : Below wz.heap.size wz (wz.alloc (.cells (Sm.rowB 32 []) 36)) := (Below.refl _ wz).alloc (Nat.le_refl _) _
    have HM := Lib.hid (heap_alloc_new wz (.cells (Sm.rowB 32 []) 36))
    have HMB : Hid (w2.heap.size ≤ wz.heap.size) := wzB.out.size
    have waB : Hid (Below w2.heap.size w2 (wz.alloc (.cells (Sm.rowB 32 []) 36))) := wzB.out.trans (kk.mono wzB.out.size)
    clear kk wzB
    generalize wz.alloc (.cells (Sm.rowB 32 []) 36) = wa at *
    generalize wz.heap.size = M at *
    refine hK.out _ _ waB.out (fun hHeld => ?_)
    clear hK K
    try simp only [Act.put]
    refine wpAnyH_ready (rs := [10]) (by kernel_rfl) (by simp) ?_
    refine (AllReadyH.cons (o := ⟨none, _, _, _, _, _⟩) rfl (fun K hK => ?_) AllReadyH.nil)
    rw [if_pos (by simp [Region.wanted])]
    refine wp_store_row 36 (.tmp 9) (.tmp 20) rfl M cs rfl rfl 36 _ HM.out (Sm.infoHash HZ.out) (by rw [HZ.out]; exact Sm.rowB_size (by simp)) HO.out ?_
    have HM2 := Lib.hid (setRow_heap _ M _ cs _ _ HM.out)
    have w6B : Hid (Below w2.heap.size w2 (wa.setRow M cs)) := Sm.below_setRow waB.out HMB.out cs
    clear HM waB
    generalize wa.setRow M cs = w6 at *
    refine hK.out _ _ w6B.out (fun hHeld => ?_)
    clear hK K
    try simp only [Act.put]
    refine wpAnyH_take (i := 11) (oi := ⟨some 10, _, _, _, _, _⟩) (v := .bool true) rfl (by kernel_rfl) (by kernel_rfl) (by kernel_rfl) (fun _ _ _ h => h) (Or.inl ⟨by rfl, ?_⟩) (by assumption) ?_
    · intro w hSw; (try dsimp only at hSw); go_simp
    simp only [Act.put, List.setIfInBounds_toArray, List.set_cons_zero, List.set_cons_succ]
    refine wpAnyH_done (by kernel_rfl) ?_ _
    clear hHeld
    have H6 := Lib.hid (H2.out.step w6B.out)
    have X6 := Lib.hid ((w6B.out.block _ (Sm.lt_of HG1.out)).trans HG1.out)
    go_wp2_with first
      | (refine Sm.wpList_load_row_g 36 (.tmp 9) rfl M rfl 36 cs (0, 0) _ (by exact HM2.out) Tryz.underlying36 rfl (Sm.infoHash HZ.out) ?_ ?_; rotate_left; rfl)
      | (refine Sm.wpList_load_row_g 36 (.tmp 6) rfl (N + 1) rfl 36 cx (0, 0) _ (by exact X6.out) Tryz.underlying36 rfl (Sm.infoHash HZX.out) ?_ ?_; rotate_left; rfl)
    go_ret
    exact ⟨rfl, HB2.out.trans (w6B.out.mono HB2.out.size)⟩
set_option maxRecDepth 100000 in
set_option maxHeartbeats 8000000 in
theorem wkTake_yes {w W : World} {r rt mw ms : Nat} {A : Option Addr} {c : Nat} {l : List Om.Pr} {root : List UInt8} {S : Wk.St} (h : Wk.WAt w W r rt mw ms A c l root S) {k : Nat} (hk : k < 31) {x : List UInt8} (hx : x.length = 32) (t : List UInt8) (hS : S.W k = some x) (hT : S.T.length ≤ 1000000) :
    Calls Tryz.prog 71 #[.pointer (some ⟨r, 0, none⟩), Wk.enc (Wk.plc k), .agg (Lib.byteCells x).toArray, .string (Tr.tx t)] W fun e w' => e = .returned (.bool true) ∧ (∃ A' c', Wk.WAt w w' r rt mw ms A' c' l root (Wk.took S k t)) ∧ Wk.Turn w W w' := by
  have ha := Wk.plc_fits hk
  have hh : Wk.hit S (Wk.plc k) = some x := by rw [Wk.hit_plc S hk, hS]
  obtain ⟨a, hae⟩ : ∃ a, a = Wk.plc k := ⟨_, rfl⟩
  rw [← hae] at ha hh ⊢
  obtain ⟨N, hN⟩ : ∃ N, N = W.heap.size := ⟨_, rfl⟩
  obtain ⟨cx, hcx⟩ : ∃ c, c = (Lib.byteCells x).toArray := ⟨_, rfl⟩
  obtain ⟨w2, hw2⟩ : ∃ w2, w2 = (W.alloc (.cells #[.int .i64 a.1, .int .i64 a.2] 54)).alloc (.cells cx 36) := ⟨_, rfl⟩
  have b2 : Below W.heap.size W w2 := by rw [hw2]; exact ((Below.refl _ W).alloc (Nat.le_refl _) _).alloc (by simp) _
  have g0 : w2.heap[N]? = some (.cells #[.int .i64 a.1, .int .i64 a.2] 54 (0, 0)) := by rw [hw2, hN, Below.heap_alloc _ _ _ (by simp)]; exact heap_alloc_new _ _
  have g1 : w2.heap[N + 1]? = some (.cells cx 36 (0, 0)) := by
    have := heap_alloc_new (W.alloc (.cells #[.int .i64 a.1, .int .i64 a.2] 54)) (.cells cx 36)
    rw [hw2, hN]
    simpa using this
  have hN1 : (W.alloc (.cells #[.int .i64 a.1, .int .i64 a.2] 54)).heap.size = N + 1 := by rw [hN]; simp
  have h2 := h.step b2
  have HB2 := Lib.hid b2
  have T2 : Hid (Wk.Turn w W w2) := .of_below b2
  have HC : Hid (∀ wx : World, Below w2.heap.size w2 wx → wx.cell? ⟨r, 33, none⟩ = some (.map (some mw)) ∧ wx.cell? ⟨N, 0, none⟩ = some (.int .i64 a.1) ∧ wx.cell? ⟨N, 1, none⟩ = some (.int .i64 a.2)) := fun wx hb =>
    ⟨(h2.step hb).cell.2.1, (hb.cell (p := ⟨N, 0, none⟩) (Sm.lt_of g0)).trans (Sm.cells_of g0 0 _ rfl), (hb.cell (p := ⟨N, 1, none⟩) (Sm.lt_of g0)).trans (Sm.cells_of g0 1 _ rfl)⟩
  have H2 := Lib.hid h2
  have HZX : Hid (cx.size = 32) := by show _ = _; rw [hcx]; exact Tr.size32 hx
  have HG0 := Lib.hid g0
  have HG1 := Lib.hid g1
  have HCX := Lib.hid hcx
  have HXL := Lib.hid hx
  rw [← hcx]
  obtain ⟨cs, hcs⟩ : ∃ c, c = (Lib.byteCells x).toArray := ⟨_, rfl⟩
  have HZ : Hid (cs.size = 32) := by show _ = _; rw [hcs]; exact Tr.size32 hx
  have HO : Hid (cs.all (·.oneCell') = true) := by show _ = _; rw [hcs]; exact Sm.bytes_one _
  have LK : Hid (∀ wx : World, Below w2.heap.size w2 wx → (Instr.lookup 106 (.map (some mw)) (Wk.enc a) true).run Tryz.prog wx = .ok (.tuple #[.agg cs, .bool true]) wx) := fun wx hb => by
    have := (h2.step hb).wanted.look_ok (t := 106) (e := 36) (by kernel_rfl) (Wk.zeroH wx) ha
    rw [Wk.at2_hit, hh] at this
    rw [hcs]
    exact this
  have heq : ∀ wx : World, (Op.equalIn 10000 36 (.agg cs) (.agg cx)).run Tryz.prog wx = .ok true wx := fun wx => by
    have := Sm.eq_hash x x hx hx wx
    rw [hcs, hcx, this]
    simp
  have HK := Lib.hid hk
  have HAE := Lib.hid hae
  have HTL := Lib.hid hT
  clear h h2 g0 g1 b2 hcx hx ha hh hcs hS hk hae hT
  go_enter Tryz.func71, Tryz.ntmps71
  go_upto_region 3 with (fail)
  change Code.wp _ _ _ _ ((W.alloc (.cells #[.int .i64 a.1, .int .i64 a.2] 54)).alloc (.cells cx 36))
  rw [← hw2, ← hN]
  clear hw2 hN hN1
  refine wp_region_held_drew (S := fun w' => Below w2.heap.size w2 w') (by kernel_rfl) (Below.refl _ _).drew (fun hHeld => ?_)
  obtain ⟨wz, hwz⟩ : ∃ W, W = w2.drew := ⟨_, rfl⟩
  have wzB : Hid (Below w2.heap.size w2 wz) := by rw [hwz]; exact (Below.refl _ _).drew
  rw [← hwz] at hHeld ⊢
  clear hwz
  refine wpAnyH_take (i := 0) (oi := ⟨some 14, _, _, _, _, _⟩) (v := .pointer (some ⟨r, 0, none⟩)) rfl (by kernel_rfl) (by kernel_rfl) (by kernel_rfl) (fun _ _ _ h => h) (Or.inl ⟨by rfl, ?_⟩) (by assumption) ?_
  · intro w hSw; (try dsimp only at hSw); go_simp
  simp only [Act.put, List.setIfInBounds_toArray, List.set_cons_zero, List.set_cons_succ]
  refine wpAnyH_take (i := 1) (oi := ⟨some 15, _, _, _, _, _⟩) (v := .pointer (some ⟨r, 0, none⟩)) rfl (by kernel_rfl) (by kernel_rfl) (by kernel_rfl) (fun _ _ _ h => h) (Or.inl ⟨by rfl, ?_⟩) (by assumption) ?_
  · intro w hSw; (try dsimp only at hSw); go_simp
  simp only [Act.put, List.setIfInBounds_toArray, List.set_cons_zero, List.set_cons_succ]
  refine wpAnyH_take (i := 2) (oi := ⟨some 16, _, _, _, _, _⟩) (v := .pointer (some ⟨r, 33, none⟩)) rfl (by kernel_rfl) (by kernel_rfl) (by kernel_rfl) (fun _ _ _ h => h) (Or.inl ⟨by rfl, ?_⟩) (by assumption) ?_
  · intro w hSw; (try dsimp only at hSw); go_simp
  simp only [Act.put, List.setIfInBounds_toArray, List.set_cons_zero, List.set_cons_succ]
  refine wpAnyH_take (i := 3) (oi := ⟨some 17, _, _, _, _, _⟩) (v := .map (some mw)) rfl (by kernel_rfl) (by kernel_rfl) (by kernel_rfl) (fun _ _ _ h => h) (Or.inl ⟨by rfl, ?_⟩) (by assumption) ?_
  · intro w hSw; (try dsimp only at hSw); have q1 := (HC.out w hSw).1; go_simp
  simp only [Act.put, List.setIfInBounds_toArray, List.set_cons_zero, List.set_cons_succ]
  refine wpAnyH_take (i := 4) (oi := ⟨some 18, _, _, _, _, _⟩) (v := (Wk.enc a)) rfl (by kernel_rfl) (by kernel_rfl) (by kernel_rfl) (fun _ _ _ h => h) (Or.inl ⟨by rfl, ?_⟩) (by assumption) ?_
  · intro w hSw; (try dsimp only at hSw); have q1 := (HC.out w hSw).2.1; have q2 := (HC.out w hSw).2.2; go_simp
  simp only [Act.put, List.setIfInBounds_toArray, List.set_cons_zero, List.set_cons_succ]
  refine wpAnyH_take (i := 5) (oi := ⟨some 19, _, _, _, _, _⟩) (v := .tuple #[(.agg cs), .bool true]) rfl (by kernel_rfl) (by kernel_rfl) (by kernel_rfl) (fun _ _ _ h => h) (Or.inl ⟨by rfl, ?_⟩) (by assumption) ?_
  · intro w hSw; (try dsimp only at hSw); have q1 := LK.out w hSw; go_simp
  simp only [Act.put, List.setIfInBounds_toArray, List.set_cons_zero, List.set_cons_succ]
  refine wpAnyH_take (i := 6) (oi := ⟨some 13, _, _, _, _, _⟩) (v := .tuple #[(.agg cs), .bool true]) rfl (by kernel_rfl) (by kernel_rfl) (by kernel_rfl) (fun _ _ _ h => h) (Or.inl ⟨by rfl, ?_⟩) (by assumption) ?_
  · intro w hSw; (try dsimp only at hSw); go_simp
  simp only [Act.put, List.setIfInBounds_toArray, List.set_cons_zero, List.set_cons_succ]
  refine wpAnyH_take (i := 7) (oi := ⟨some 20, _, _, _, _, _⟩) (v := (.agg cs)) rfl (by kernel_rfl) (by kernel_rfl) (by kernel_rfl) (fun _ _ _ h => h) (Or.inl ⟨by rfl, ?_⟩) (by assumption) ?_
  · intro w hSw; (try dsimp only at hSw); go_simp
  simp only [Act.put, List.setIfInBounds_toArray, List.set_cons_zero, List.set_cons_succ]
  refine wpAnyH_take (i := 8) (oi := ⟨some 21, _, _, _, _, _⟩) (v := .bool true) rfl (by kernel_rfl) (by kernel_rfl) (by kernel_rfl) (fun _ _ _ h => h) (Or.inl ⟨by rfl, ?_⟩) (by assumption) ?_
  · intro w hSw; (try dsimp only at hSw); go_simp
  simp only [Act.put, List.setIfInBounds_toArray, List.set_cons_zero, List.set_cons_succ]
  refine wpAnyH_ready (rs := [9]) (by kernel_rfl) (by simp) ?_
  refine (AllReadyH.cons (o := ⟨some 9, _, _, _, _, _⟩) rfl (fun K hK => ?_) AllReadyH.nil)
  rw [if_pos (by simp [Region.wanted])]
  refine Wk.wp_alloc_hash rfl ?_
  have kk : Below wz.heap.size wz (wz.alloc (.cells (Sm.rowB 32 []) 36)) := (Below.refl _ wz).alloc (Nat.le_refl _) _
  have HM := Lib.hid (heap_alloc_new wz (.cells (Sm.rowB 32 []) 36))
  have HMB : Hid (w2.heap.size ≤ wz.heap.size) := wzB.out.size
  have waB : Hid (Below w2.heap.size w2 (wz.alloc (.cells (Sm.rowB 32 []) 36))) := wzB.out.trans (kk.mono wzB.out.size)
  clear kk wzB
  generalize wz.alloc (.cells (Sm.rowB 32 []) 36) = wa at *
  generalize wz.heap.size = M at *
  refine hK.out _ _ waB.out (fun hHeld => ?_)
  clear hK K
  try simp only [Act.put]
  refine wpAnyH_ready (rs := [10]) (by kernel_rfl) (by simp) ?_
  refine (AllReadyH.cons (o := ⟨none, _, _, _, _, _⟩) rfl (fun K hK => ?_) AllReadyH.nil)
  rw [if_pos (by simp [Region.wanted])]
  refine wp_store_row 36 (.tmp 9) (.tmp 20) rfl M cs rfl rfl 36 _ HM.out (Sm.infoHash HZ.out) (by rw [HZ.out]; exact Sm.rowB_size (by simp)) HO.out ?_
  have HM2 := Lib.hid (setRow_heap _ M _ cs _ _ HM.out)
  have w6B : Hid (Below w2.heap.size w2 (wa.setRow M cs)) := Sm.below_setRow waB.out HMB.out cs
  clear HM waB
  generalize wa.setRow M cs = w6 at *
  refine hK.out _ _ w6B.out (fun hHeld => ?_)
  clear hK K
  try simp only [Act.put]
  refine wpAnyH_take (i := 11) (oi := ⟨some 10, _, _, _, _, _⟩) (v := .bool true) rfl (by kernel_rfl) (by kernel_rfl) (by kernel_rfl) (fun _ _ _ h => h) (Or.inl ⟨by rfl, ?_⟩) (by assumption) ?_
  · intro w hSw; (try dsimp only at hSw); go_simp
  simp only [Act.put, List.setIfInBounds_toArray, List.set_cons_zero, List.set_cons_succ]
  refine wpAnyH_done (by kernel_rfl) ?_ _
  clear hHeld
  have H6 := Lib.hid (H2.out.step w6B.out)
  have X6 := Lib.hid ((w6B.out.block _ (Sm.lt_of HG1.out)).trans HG1.out)
  go_upto_region 6 with first
    | (refine Sm.wpList_load_row_g 36 (.tmp 9) rfl M rfl 36 cs (0, 0) _ (by exact HM2.out) Tryz.underlying36 rfl (Sm.infoHash HZ.out) ?_ ?_; rotate_left; rfl)
    | (refine Sm.wpList_load_row_g 36 (.tmp 6) rfl (N + 1) rfl 36 cx (0, 0) _ (by exact X6.out) Tryz.underlying36 rfl (Sm.infoHash HZX.out) ?_ ?_; rotate_left; rfl)
  clear heq
  have N6 : w6.drew.heap[N]? = some (.cells #[.int .i64 a.1, .int .i64 a.2] 54 (0, 0)) := (w6B.out.block _ (Sm.lt_of HG0.out)).trans HG0.out
  have H7 := Lib.hid (H6.out.step (Below.refl _ _).drew)
  have HS : Hid (w6.drew.cell? ⟨r, 33, none⟩ = some (.map (some mw)) ∧ w6.drew.cell? ⟨N, 0, none⟩ = some (.int .i64 a.1) ∧ w6.drew.cell? ⟨N, 1, none⟩ = some (.int .i64 a.2)) := ⟨H7.out.cell.2.1, Sm.cells_of N6 0 _ rfl, Sm.cells_of N6 1 _ rfl⟩
  obtain ⟨w8, hdel0, hm8, ht8⟩ := H7.out.wanted.drop (t := 106) (e := 36) (by kernel_rfl) HK.out 0
  have hdel : (Builtin.delete_ #[106, 54] 0 #[.map (some mw), Wk.enc a]).run Tryz.prog w6.drew = .ok (.tuple #[]) w8 := by rw [HAE.out]; exact hdel0
  obtain ⟨es0, c0, hmk⟩ := H7.out.wanted.kind
  have n1 : N ≠ mw := fun e => by rw [e, hmk] at N6; cases N6
  have N8 := (ht8.grown.block N (Sm.lt_of N6) (fun e => n1 (Option.some.inj e))).trans N6
  have H8 := Lib.hid (H7.out.turnW (F := fun j => if j = k then none else S.W j) (hm8.congr fun j _ => by by_cases e : j = k <;> simp [e]) (fun j h hj => by
    by_cases e : j = k
    · rw [if_pos e] at hj; cases hj
    · rw [if_neg e] at hj; exact H7.out.wlen j h hj) ht8)
  have T8 := Lib.hid ((T2.out.step (w6B.out.trans ((Below.refl _ _).drew))).trans (Wk.Turn.of_map ht8 H7.out.loww))
  have HS8 : Hid (w8.cell? ⟨r, 33, none⟩ = some (.map (some mw)) ∧ w8.cell? ⟨N, 0, none⟩ = some (.int .i64 a.1) ∧ w8.cell? ⟨N, 1, none⟩ = some (.int .i64 a.2)) := ⟨H8.out.cell.2.1, Sm.cells_of N8 0 _ rfl, Sm.cells_of N8 1 _ rfl⟩
  clear hdel0 hm8 ht8 N6 N8 hmk n1
  refine wp_region_held_drew (S := fun w' => w'.cell? ⟨r, 33, none⟩ = some (.map (some mw)) ∧ w'.cell? ⟨N, 0, none⟩ = some (.int .i64 a.1) ∧ w'.cell? ⟨N, 1, none⟩ = some (.int .i64 a.2)) (by kernel_rfl) HS.out (fun hHeld => ?_)
  refine wpAnyH_take (i := 0) (oi := ⟨some 29, _, _, _, _, _⟩) (v := .pointer (some ⟨r, 0, none⟩)) rfl (by kernel_rfl) (by kernel_rfl) (by kernel_rfl) (fun _ _ _ h => h) (Or.inl ⟨by rfl, ?_⟩) (by assumption) ?_
  · intro w hSw; (try dsimp only at hSw); go_simp
  simp only [Act.put, List.setIfInBounds_toArray, List.set_cons_zero, List.set_cons_succ]
  refine wpAnyH_take (i := 1) (oi := ⟨some 30, _, _, _, _, _⟩) (v := .pointer (some ⟨r, 0, none⟩)) rfl (by kernel_rfl) (by kernel_rfl) (by kernel_rfl) (fun _ _ _ h => h) (Or.inl ⟨by rfl, ?_⟩) (by assumption) ?_
  · intro w hSw; (try dsimp only at hSw); go_simp
  simp only [Act.put, List.setIfInBounds_toArray, List.set_cons_zero, List.set_cons_succ]
  refine wpAnyH_take (i := 2) (oi := ⟨some 31, _, _, _, _, _⟩) (v := .pointer (some ⟨r, 33, none⟩)) rfl (by kernel_rfl) (by kernel_rfl) (by kernel_rfl) (fun _ _ _ h => h) (Or.inl ⟨by rfl, ?_⟩) (by assumption) ?_
  · intro w hSw; (try dsimp only at hSw); go_simp
  simp only [Act.put, List.setIfInBounds_toArray, List.set_cons_zero, List.set_cons_succ]
  refine wpAnyH_take (i := 3) (oi := ⟨some 32, _, _, _, _, _⟩) (v := .map (some mw)) rfl (by kernel_rfl) (by kernel_rfl) (by kernel_rfl) (fun _ _ _ h => h) (Or.inl ⟨by rfl, ?_⟩) (by assumption) ?_
  · intro w hSw; (try dsimp only at hSw); go_simp
  simp only [Act.put, List.setIfInBounds_toArray, List.set_cons_zero, List.set_cons_succ]
  refine wpAnyH_take (i := 4) (oi := ⟨some 33, _, _, _, _, _⟩) (v := (Wk.enc a)) rfl (by kernel_rfl) (by kernel_rfl) (by kernel_rfl) (fun _ _ _ h => h) (Or.inl ⟨by rfl, ?_⟩) (by assumption) ?_
  · intro w hSw; (try dsimp only at hSw); go_simp
  simp only [Act.put, List.setIfInBounds_toArray, List.set_cons_zero, List.set_cons_succ]
  refine wpAnyH_ready (rs := [5]) (by kernel_rfl) (by simp) ?_
  refine (AllReadyH.cons (o := ⟨none, _, _, _, _, _⟩) rfl (fun K hK => ?_) AllReadyH.nil)
  go_simp
  refine hK.out _ _ HS8.out (fun hHeld => ?_)
  clear hK K
  refine wpAnyH_done (by kernel_rfl) ?_ _
  clear hHeld hdel
  clear HS HS8 H7 H6
  have z5 := H8.out.cell.2.2.2
  have k9 : Below w8.heap.size w8 (w8.alloc (.cells #[.string (Tr.tx t)] 9)) := (Below.refl _ w8).alloc (Nat.le_refl _) _
  have H9 := Lib.hid (H8.out.step k9)
  have T9 := Lib.hid (T8.out.step k9)
  have G9 := Lib.hid (heap_alloc_new w8 (.cells #[.string (Tr.tx t)] 9))
  clear k9
  go_wp2_with (at_builtin; refine Wk.wpList_text rfl (.tmp 38) (.tmp 40) rfl (l := S.T.map Tr.tx) (by rw [List.length_map]; rfl) H9.out.texts (Tr.tx t) rfl (Sm.cells_of G9.out 0 _ rfl) (by rw [List.length_map]; have := HTL.out; omega) (Nat.le_trans H9.out.ow.bel.size (Nat.le_refl _)) ?_; intro A' c' w10 hr10 hg10; obtain ⟨q1, q2⟩ := H9.out.behindT hg10; have P10 := Lib.hid (H9.out.putT hr10 hg10); clear hr10 hg10; rw [List.length_map] at P10 q1 ⊢)
  go_ret
  exact ⟨rfl, ⟨A', c', P10.out.1⟩, T9.out.trans P10.out.2⟩
end Go.Proofs.YtiehcplepneajaaGreatDoor

/-
  walk's Node: a node's kids are taken, if they fit.
-/
namespace Go.Proofs.YtiehcplepneajaaGreatDoor
open Go.RowKit
namespace Wk
theorem plc_pl {v i : Nat} (hv : v ≤ 4) (hi : i < 2 ^ v) : plc (pl v i) = (((v : Nat) : Int), ((i : Nat) : Int)) := by
  obtain ⟨h1, h2, -⟩ := pl_lev hv hi
  unfold plc
  rw [h1, h2]
theorem hash_hard (cs : Array Value) : ¬ soft (.cells cs 36 (0, 0)) := fun h => by
  rcases h.1 with h | h
  · exact absurd h (by decide)
  · exact absurd h (by decide)
end Wk
set_option maxRecDepth 100000 in
set_option maxHeartbeats 8000000 in
theorem wkNode_deep (W : World) (p : Option Addr) (n1 n2 : Int) (hn : 4 ≤ n1) (a b : List UInt8) :
    Calls Tryz.prog 29 #[.pointer p, .int .i64 n1, .int .i64 n2, .agg (Lib.byteCells a).toArray, .agg (Lib.byteCells b).toArray] W fun e w' => e = .returned (.bool false) ∧ Below W.heap.size W w' := by
  have hn2 : n1 ≥ 4 := hn
  have B2 : Hid (Below W.heap.size W ((W.alloc (.cells (Lib.byteCells a).toArray 36)).alloc (.cells (Lib.byteCells b).toArray 36))) := ((Below.refl _ W).alloc (Nat.le_refl _) _).alloc (by simp) _
  go_enter Tryz.func29, Tryz.ntmps29
  go_upto_region 1 with (fail)
  refine wp_region_held_drew (S := fun _ => True) (by kernel_rfl) trivial (fun hHeld => ?_)
  refine wpAnyH_take (i := 0) (oi := ⟨some 11, _, _, _, _, _⟩) (v := .int .i64 n1) rfl (by kernel_rfl) (by kernel_rfl) (by kernel_rfl) (fun _ _ _ h => h) (Or.inl ⟨by rfl, ?_⟩) (by assumption) ?_
  · intro w hSw; (try dsimp only at hSw); go_simp
  simp only [Act.put, List.setIfInBounds_toArray, List.set_cons_zero, List.set_cons_succ]
  refine wpAnyH_take (i := 1) (oi := ⟨some 12, _, _, _, _, _⟩) (v := .bool true) rfl (by kernel_rfl) (by kernel_rfl) (by kernel_rfl) (fun _ _ _ h => h) (Or.inl ⟨by rfl, ?_⟩) (by assumption) ?_
  · intro w hSw; (try dsimp only at hSw); go_simp
  simp only [Act.put, List.setIfInBounds_toArray, List.set_cons_zero, List.set_cons_succ]
  refine wpAnyH_take (i := 2) (oi := ⟨some 13, _, _, _, _, _⟩) (v := .bool true) rfl (by kernel_rfl) (by kernel_rfl) (by kernel_rfl) (fun _ _ _ h => h) (Or.inl ⟨by rfl, ?_⟩) (by assumption) ?_
  · intro w hSw; (try dsimp only at hSw); go_simp
  simp only [Act.put, List.setIfInBounds_toArray, List.set_cons_zero, List.set_cons_succ]
  refine wpAnyH_take (i := 3) (oi := ⟨some 14, _, _, _, _, _⟩) (v := undef) rfl (by kernel_rfl) (by kernel_rfl) (by kernel_rfl) (fun _ _ _ h => h) (Or.inr ⟨by rfl, rfl⟩) (by assumption) ?_
  simp only [Act.put, List.setIfInBounds_toArray, List.set_cons_zero, List.set_cons_succ]
  refine wpAnyH_take (i := 4) (oi := ⟨some 15, _, _, _, _, _⟩) (v := undef) rfl (by kernel_rfl) (by kernel_rfl) (by kernel_rfl) (fun _ _ _ h => h) (Or.inr ⟨by rfl, rfl⟩) (by assumption) ?_
  simp only [Act.put, List.setIfInBounds_toArray, List.set_cons_zero, List.set_cons_succ]
  refine wpAnyH_take (i := 5) (oi := ⟨some 16, _, _, _, _, _⟩) (v := undef) rfl (by kernel_rfl) (by kernel_rfl) (by kernel_rfl) (fun _ _ _ h => h) (Or.inr ⟨by rfl, rfl⟩) (by assumption) ?_
  simp only [Act.put, List.setIfInBounds_toArray, List.set_cons_zero, List.set_cons_succ]
  refine wpAnyH_take (i := 6) (oi := ⟨some 17, _, _, _, _, _⟩) (v := undef) rfl (by kernel_rfl) (by kernel_rfl) (by kernel_rfl) (fun _ _ _ h => h) (Or.inr ⟨by rfl, rfl⟩) (by assumption) ?_
  simp only [Act.put, List.setIfInBounds_toArray, List.set_cons_zero, List.set_cons_succ]
  refine wpAnyH_take (i := 7) (oi := ⟨some 18, _, _, _, _, _⟩) (v := undef) rfl (by kernel_rfl) (by kernel_rfl) (by kernel_rfl) (fun _ _ _ h => h) (Or.inr ⟨by rfl, rfl⟩) (by assumption) ?_
  simp only [Act.put, List.setIfInBounds_toArray, List.set_cons_zero, List.set_cons_succ]
  refine wpAnyH_take (i := 8) (oi := ⟨some 19, _, _, _, _, _⟩) (v := undef) rfl (by kernel_rfl) (by kernel_rfl) (by kernel_rfl) (fun _ _ _ h => h) (Or.inr ⟨by rfl, rfl⟩) (by assumption) ?_
  simp only [Act.put, List.setIfInBounds_toArray, List.set_cons_zero, List.set_cons_succ]
  refine wpAnyH_take (i := 9) (oi := ⟨some 20, _, _, _, _, _⟩) (v := undef) rfl (by kernel_rfl) (by kernel_rfl) (by kernel_rfl) (fun _ _ _ h => h) (Or.inr ⟨by rfl, rfl⟩) (by assumption) ?_
  simp only [Act.put, List.setIfInBounds_toArray, List.set_cons_zero, List.set_cons_succ]
  refine wpAnyH_take (i := 10) (oi := ⟨some 21, _, _, _, _, _⟩) (v := undef) rfl (by kernel_rfl) (by kernel_rfl) (by kernel_rfl) (fun _ _ _ h => h) (Or.inr ⟨by rfl, rfl⟩) (by assumption) ?_
  simp only [Act.put, List.setIfInBounds_toArray, List.set_cons_zero, List.set_cons_succ]
  refine wpAnyH_take (i := 11) (oi := ⟨some 22, _, _, _, _, _⟩) (v := undef) rfl (by kernel_rfl) (by kernel_rfl) (by kernel_rfl) (fun _ _ _ h => h) (Or.inr ⟨by rfl, rfl⟩) (by assumption) ?_
  simp only [Act.put, List.setIfInBounds_toArray, List.set_cons_zero, List.set_cons_succ]
  refine wpAnyH_take (i := 12) (oi := ⟨some 23, _, _, _, _, _⟩) (v := undef) rfl (by kernel_rfl) (by kernel_rfl) (by kernel_rfl) (fun _ _ _ h => h) (Or.inr ⟨by rfl, rfl⟩) (by assumption) ?_
  simp only [Act.put, List.setIfInBounds_toArray, List.set_cons_zero, List.set_cons_succ]
  refine wpAnyH_take (i := 13) (oi := ⟨some 24, _, _, _, _, _⟩) (v := undef) rfl (by kernel_rfl) (by kernel_rfl) (by kernel_rfl) (fun _ _ _ h => h) (Or.inr ⟨by rfl, rfl⟩) (by assumption) ?_
  simp only [Act.put, List.setIfInBounds_toArray, List.set_cons_zero, List.set_cons_succ]
  refine wpAnyH_take (i := 14) (oi := ⟨some 25, _, _, _, _, _⟩) (v := undef) rfl (by kernel_rfl) (by kernel_rfl) (by kernel_rfl) (fun _ _ _ h => h) (Or.inr ⟨by rfl, rfl⟩) (by assumption) ?_
  simp only [Act.put, List.setIfInBounds_toArray, List.set_cons_zero, List.set_cons_succ]
  refine wpAnyH_take (i := 15) (oi := ⟨some 26, _, _, _, _, _⟩) (v := undef) rfl (by kernel_rfl) (by kernel_rfl) (by kernel_rfl) (fun _ _ _ h => h) (Or.inr ⟨by rfl, rfl⟩) (by assumption) ?_
  simp only [Act.put, List.setIfInBounds_toArray, List.set_cons_zero, List.set_cons_succ]
  refine wpAnyH_take (i := 16) (oi := ⟨some 27, _, _, _, _, _⟩) (v := undef) rfl (by kernel_rfl) (by kernel_rfl) (by kernel_rfl) (fun _ _ _ h => h) (Or.inr ⟨by rfl, rfl⟩) (by assumption) ?_
  simp only [Act.put, List.setIfInBounds_toArray, List.set_cons_zero, List.set_cons_succ]
  refine wpAnyH_take (i := 17) (oi := ⟨some 28, _, _, _, _, _⟩) (v := undef) rfl (by kernel_rfl) (by kernel_rfl) (by kernel_rfl) (fun _ _ _ h => h) (Or.inr ⟨by rfl, rfl⟩) (by assumption) ?_
  simp only [Act.put, List.setIfInBounds_toArray, List.set_cons_zero, List.set_cons_succ]
  refine wpAnyH_take (i := 18) (oi := ⟨some 29, _, _, _, _, _⟩) (v := .bool true) rfl (by kernel_rfl) (by kernel_rfl) (by kernel_rfl) (fun _ _ _ h => h) (Or.inl ⟨by rfl, ?_⟩) (by assumption) ?_
  · intro w hSw; (try dsimp only at hSw); go_simp
  simp only [Act.put, List.setIfInBounds_toArray, List.set_cons_zero, List.set_cons_succ]
  refine wpAnyH_done (by kernel_rfl) ?_ _
  go_wp2
  go_ret
  exact ⟨rfl, B2.out.drew⟩
set_option maxRecDepth 100000 in
set_option maxHeartbeats 8000000 in
theorem wkNode_no {w W : World} (G : Tr.Gd w) {r rt mw ms : Nat} {A : Option Addr} {c : Nat} {l : List Om.Pr} {root : List UInt8} {S : Wk.St} (h : Wk.WAt w W r rt mw ms A c l root S) {n1 n2 : Int} (hf : Wk.Fits (n1, n2)) (hn : n1 < 4) {a b : List UInt8} (ha : a.length = 32) (hb : b.length = 32) (hno : Wk.hit S (n1, n2) ≠ some (Sm.sum (Tr.innerT a b))) :
    Calls Tryz.prog 29 #[.pointer (some ⟨r, 0, none⟩), .int .i64 n1, .int .i64 n2, .agg (Lib.byteCells a).toArray, .agg (Lib.byteCells b).toArray] W fun e w' => e = .returned (.bool false) ∧ Below W.heap.size W w' := by
  obtain ⟨N, hN⟩ : ∃ N, N = W.heap.size := ⟨_, rfl⟩
  obtain ⟨w2, hw2⟩ : ∃ w2, w2 = (W.alloc (.cells (Lib.byteCells a).toArray 36)).alloc (.cells (Lib.byteCells b).toArray 36) := ⟨_, rfl⟩
  have b2 : Below W.heap.size W w2 := by rw [hw2]; exact ((Below.refl _ W).alloc (Nat.le_refl _) _).alloc (by simp) _
  have g0 : w2.heap[N]? = some (.cells (Lib.byteCells a).toArray 36 (0, 0)) := by rw [hw2, hN, Below.heap_alloc _ _ _ (by simp)]; exact heap_alloc_new _ _
  have g1 : w2.heap[N + 1]? = some (.cells (Lib.byteCells b).toArray 36 (0, 0)) := by
    have := heap_alloc_new (W.alloc (.cells (Lib.byteCells a).toArray 36)) (.cells (Lib.byteCells b).toArray 36)
    rw [hw2, hN]
    simpa using this
  have hN1 : (W.alloc (.cells (Lib.byteCells a).toArray 36)).heap.size = N + 1 := by rw [hN]; simp
  have H2 := Lib.hid (h.step b2)
  have HB2 := Lib.hid b2
  have T2 : Hid (Wk.Turn w W w2) := .of_below b2
  have HG0 := Lib.hid g0
  have HG1 := Lib.hid g1
  have HLA := Lib.hid ha
  have HLB := Lib.hid hb
  have HE1 : Hid ((⟨#[78]⟩ ++ Tr.tx a : ByteArray) = Tr.tx (78 :: a)) := by have := Tr.tx_cat [78] (Tr.tx a); rw [Tr.tx_list] at this; exact this
  have HE2 : Hid ((Tr.tx (78 :: a) ++ Tr.tx b : ByteArray) = Tr.tx (Tr.innerT a b)) := Tr.tx_tx _ _
  have HZ1 : Hid ((Tr.tx a).size = 32) := by show _ = _; rw [Tr.tx_size, ha]
  have HZ2 : Hid ((Tr.tx b).size = 32) := by show _ = _; rw [Tr.tx_size, hb]
  have HZ3 : Hid ((Tr.tx (78 :: a)).size = 33) := by show _ = _; rw [Tr.tx_size, List.length_cons, ha]
  have IN : Hid (∀ wx : World, Below w2.heap.size w2 wx → Calls Tryz.prog 72 #[.agg (Lib.byteCells a).toArray, .agg (Lib.byteCells b).toArray] wx fun e w' => e = .returned (.agg (Lib.byteCells (Sm.sum (Tr.innerT a b))).toArray) ∧ Below wx.heap.size wx w') := fun wx k => by
    have g := G.low ((H2.out.step k).ow.bel)
    exact tInner_any g.H g.K g.sz a b ha hb
  have TK : Hid (∀ wx : World, Below w2.heap.size w2 wx → Calls Tryz.prog 71 #[.pointer (some ⟨r, 0, none⟩), .agg #[.int .i64 n1, .int .i64 n2], .agg (Lib.byteCells (Sm.sum (Tr.innerT a b))).toArray, .string (Tr.tx (Tr.innerT a b))] wx fun e w' => e = .returned (.bool false) ∧ Below wx.heap.size wx w') := fun wx k => wkTake_no (H2.out.step k) hf (Sm.sum_length _) _ hno
  have hn4 : ¬ (4 : Int) ≤ n1 := by omega
  have hn5 : ¬ n1 ≥ 4 := by omega
  clear h G b2 g0 g1 ha hb hf hno hn
  go_enter Tryz.func29, Tryz.ntmps29
  go_upto_region 1 with (fail)
  change Code.wp _ _ _ _ ((W.alloc (.cells (Lib.byteCells a).toArray 36)).alloc (.cells (Lib.byteCells b).toArray 36))
  rw [← hw2, ← hN]
  clear hw2 hN hN1
  refine wp_region_held_drew (S := fun w' => w'.heap[N]? = some (.cells (Lib.byteCells a).toArray 36 (0, 0)) ∧ w'.heap[N + 1]? = some (.cells (Lib.byteCells b).toArray 36 (0, 0))) (by kernel_rfl) ⟨HG0.out, HG1.out⟩ (fun hHeld => ?_)
  obtain ⟨wz, hwz⟩ : ∃ W, W = w2.drew := ⟨_, rfl⟩
  have wzB : Hid (Below w2.heap.size w2 wz) := by rw [hwz]; exact (Below.refl _ _).drew
  rw [← hwz] at hHeld ⊢
  clear hwz
  refine wpAnyH_take (i := 0) (oi := ⟨some 11, _, _, _, _, _⟩) (v := .int .i64 n1) rfl (by kernel_rfl) (by kernel_rfl) (by kernel_rfl) (fun _ _ _ h => h) (Or.inl ⟨by rfl, ?_⟩) (by assumption) ?_
  · intro w hSw; (try dsimp only at hSw); go_simp
  simp only [Act.put, List.setIfInBounds_toArray, List.set_cons_zero, List.set_cons_succ]
  refine wpAnyH_take (i := 1) (oi := ⟨some 12, _, _, _, _, _⟩) (v := .bool false) rfl (by kernel_rfl) (by kernel_rfl) (by kernel_rfl) (fun _ _ _ h => h) (Or.inl ⟨by rfl, ?_⟩) (by assumption) ?_
  · intro w hSw; (try dsimp only at hSw); go_simp
  simp only [Act.put, List.setIfInBounds_toArray, List.set_cons_zero, List.set_cons_succ]
  refine wpAnyH_take (i := 2) (oi := ⟨some 13, _, _, _, _, _⟩) (v := .bool false) rfl (by kernel_rfl) (by kernel_rfl) (by kernel_rfl) (fun _ _ _ h => h) (Or.inl ⟨by rfl, ?_⟩) (by assumption) ?_
  · intro w hSw; (try dsimp only at hSw); go_simp
  simp only [Act.put, List.setIfInBounds_toArray, List.set_cons_zero, List.set_cons_succ]
  refine wpAnyH_take (i := 3) (oi := ⟨some 14, _, _, _, _, _⟩) (v := .pointer (some ⟨r, 0, none⟩)) rfl (by kernel_rfl) (by kernel_rfl) (by kernel_rfl) (fun _ _ _ h => h) (Or.inl ⟨by rfl, ?_⟩) (by assumption) ?_
  · intro w hSw; (try dsimp only at hSw); go_simp
  simp only [Act.put, List.setIfInBounds_toArray, List.set_cons_zero, List.set_cons_succ]
  refine wpAnyH_take (i := 4) (oi := ⟨some 15, _, _, _, _, _⟩) (v := .int .i64 n1) rfl (by kernel_rfl) (by kernel_rfl) (by kernel_rfl) (fun _ _ _ h => h) (Or.inl ⟨by rfl, ?_⟩) (by assumption) ?_
  · intro w hSw; (try dsimp only at hSw); go_simp
  simp only [Act.put, List.setIfInBounds_toArray, List.set_cons_zero, List.set_cons_succ]
  refine wpAnyH_take (i := 5) (oi := ⟨some 16, _, _, _, _, _⟩) (v := .int .i64 n2) rfl (by kernel_rfl) (by kernel_rfl) (by kernel_rfl) (fun _ _ _ h => h) (Or.inl ⟨by rfl, ?_⟩) (by assumption) ?_
  · intro w hSw; (try dsimp only at hSw); go_simp
  simp only [Act.put, List.setIfInBounds_toArray, List.set_cons_zero, List.set_cons_succ]
  refine wpAnyH_take (i := 6) (oi := ⟨some 17, _, _, _, _, _⟩) (v := .agg #[.int .i64 n1, .int .i64 n2]) rfl (by kernel_rfl) (by kernel_rfl) (by kernel_rfl) (fun _ _ _ h => h) (Or.inl ⟨by rfl, ?_⟩) (by assumption) ?_
  · intro w hSw; (try dsimp only at hSw); go_simp
  simp only [Act.put, List.setIfInBounds_toArray, List.set_cons_zero, List.set_cons_succ]
  refine wpAnyH_take (i := 7) (oi := ⟨some 18, _, _, _, _, _⟩) (v := .agg (Lib.byteCells a).toArray) rfl (by kernel_rfl) (by kernel_rfl) (by kernel_rfl) (fun _ _ _ h => h) (yieldsIf_load_mid (by rfl) _ _ rfl _ _ rfl (Lib.byteCells a) _ (fun w hS => (Sm.range_row hS.1)) Tryz.underlying36 rfl (Sm.infoHash (Tr.size32 HLA.out))) (by assumption) ?_
  simp only [Act.put, List.setIfInBounds_toArray, List.set_cons_zero, List.set_cons_succ]
  refine wpAnyH_take (i := 8) (oi := ⟨some 19, _, _, _, _, _⟩) (v := .agg (Lib.byteCells b).toArray) rfl (by kernel_rfl) (by kernel_rfl) (by kernel_rfl) (fun _ _ _ h => h) (yieldsIf_load_mid (by rfl) _ _ rfl _ _ rfl (Lib.byteCells b) _ (fun w hS => (Sm.range_row hS.2)) Tryz.underlying36 rfl (Sm.infoHash (Tr.size32 HLB.out))) (by assumption) ?_
  simp only [Act.put, List.setIfInBounds_toArray, List.set_cons_zero, List.set_cons_succ]
  refine wpAnyH_take (i := 10) (oi := ⟨some 21, _, _, _, _, _⟩) (v := .slice (some ⟨N, 0, none⟩) 32 32) rfl (by kernel_rfl) (by kernel_rfl) (by kernel_rfl) (fun _ _ _ h => h) (Or.inl ⟨by rfl, ?_⟩) (by assumption) ?_
  · intro w hSw; (try dsimp only at hSw); go_simp
  simp only [Act.put, List.setIfInBounds_toArray, List.set_cons_zero, List.set_cons_succ]
  refine wpAnyH_take (i := 11) (oi := ⟨some 22, _, _, _, _, _⟩) (v := .string (Tr.tx a)) rfl (by kernel_rfl) (by kernel_rfl) (by kernel_rfl) (fun _ _ _ h => h) (Or.inl ⟨by rfl, ?_⟩) (by assumption) ?_
  · intro w hSw; (try dsimp only at hSw); have q1 : (convert 127 9 (.slice (some ⟨N, 0, none⟩) 32 32)).run Tryz.prog w = .ok (.string (Tr.tx a)) w := Sm.conv_row (w := w) hSw.1 HLA.out; go_simp
  simp only [Act.put, List.setIfInBounds_toArray, List.set_cons_zero, List.set_cons_succ]
  refine wpAnyH_take (i := 12) (oi := ⟨some 23, _, _, _, _, _⟩) (v := .string (Tr.tx (78 :: a))) rfl (by kernel_rfl) (by kernel_rfl) (by kernel_rfl) (fun _ _ _ h => h) (Or.inl ⟨by rfl, ?_⟩) (by assumption) ?_
  · intro w hSw; (try dsimp only at hSw); have q1 := HE1.out; have q2 := HZ1.out; go_simp
  simp only [Act.put, List.setIfInBounds_toArray, List.set_cons_zero, List.set_cons_succ]
  refine wpAnyH_take (i := 13) (oi := ⟨some 24, _, _, _, _, _⟩) (v := .slice (some ⟨N + 1, 0, none⟩) 32 32) rfl (by kernel_rfl) (by kernel_rfl) (by kernel_rfl) (fun _ _ _ h => h) (Or.inl ⟨by rfl, ?_⟩) (by assumption) ?_
  · intro w hSw; (try dsimp only at hSw); go_simp
  simp only [Act.put, List.setIfInBounds_toArray, List.set_cons_zero, List.set_cons_succ]
  refine wpAnyH_take (i := 14) (oi := ⟨some 25, _, _, _, _, _⟩) (v := .string (Tr.tx b)) rfl (by kernel_rfl) (by kernel_rfl) (by kernel_rfl) (fun _ _ _ h => h) (Or.inl ⟨by rfl, ?_⟩) (by assumption) ?_
  · intro w hSw; (try dsimp only at hSw); have q1 : (convert 127 9 (.slice (some ⟨N + 1, 0, none⟩) 32 32)).run Tryz.prog w = .ok (.string (Tr.tx b)) w := Sm.conv_row (w := w) hSw.2 HLB.out; go_simp
  simp only [Act.put, List.setIfInBounds_toArray, List.set_cons_zero, List.set_cons_succ]
  refine wpAnyH_take (i := 15) (oi := ⟨some 26, _, _, _, _, _⟩) (v := .string (Tr.tx (Tr.innerT a b))) rfl (by kernel_rfl) (by kernel_rfl) (by kernel_rfl) (fun _ _ _ h => h) (Or.inl ⟨by rfl, ?_⟩) (by assumption) ?_
  · intro w hSw; (try dsimp only at hSw); have q1 := HE2.out; have q2 := HZ2.out; have q3 := HZ3.out; go_simp
  simp only [Act.put, List.setIfInBounds_toArray, List.set_cons_zero, List.set_cons_succ]
  refine wpAnyH_ready (rs := [9]) (by kernel_rfl) (by simp) ?_
  refine (AllReadyH.cons (o := ⟨some 20, _, _, _, _, _⟩) rfl (fun K hK => ?_) AllReadyH.nil)
  go_simp
  refine (IN.out _ wzB.out).mono ?_
  rintro e w3 ⟨rfl, kk⟩
  have w3B : Hid (Below w2.heap.size w2 w3) := wzB.out.trans (kk.mono wzB.out.size)
  have M3 : Hid (w3.heap[N]? = some (.cells (Lib.byteCells a).toArray 36 (0, 0)) ∧ w3.heap[N + 1]? = some (.cells (Lib.byteCells b).toArray 36 (0, 0))) := ⟨(w3B.out.block _ (Sm.lt_of HG0.out)).trans HG0.out, (w3B.out.block _ (Sm.lt_of HG1.out)).trans HG1.out⟩
  clear kk wzB
  refine hK.out _ _ M3.out (fun hHeld => ?_)
  clear hK K
  refine wpAnyH_ready (rs := [16]) (by kernel_rfl) (by simp) ?_
  refine (AllReadyH.cons (o := ⟨some 27, _, _, _, _, _⟩) rfl (fun K hK => ?_) AllReadyH.nil)
  go_simp
  refine (TK.out _ w3B.out).mono ?_
  rintro e w4 ⟨rfl, kk⟩
  have w4B : Hid (Below w2.heap.size w2 w4) := w3B.out.trans (kk.mono w3B.out.size)
  have M4 : Hid (w4.heap[N]? = some (.cells (Lib.byteCells a).toArray 36 (0, 0)) ∧ w4.heap[N + 1]? = some (.cells (Lib.byteCells b).toArray 36 (0, 0))) := ⟨(w4B.out.block _ (Sm.lt_of HG0.out)).trans HG0.out, (w4B.out.block _ (Sm.lt_of HG1.out)).trans HG1.out⟩
  clear kk
  refine hK.out _ _ M4.out (fun hHeld => ?_)
  clear hK K
  refine wpAnyH_take (i := 17) (oi := ⟨some 28, _, _, _, _, _⟩) (v := .bool true) rfl (by kernel_rfl) (by kernel_rfl) (by kernel_rfl) (fun _ _ _ h => h) (Or.inl ⟨by rfl, ?_⟩) (by assumption) ?_
  · intro w hSw; (try dsimp only at hSw); go_simp
  simp only [Act.put, List.setIfInBounds_toArray, List.set_cons_zero, List.set_cons_succ]
  refine wpAnyH_take (i := 18) (oi := ⟨some 29, _, _, _, _, _⟩) (v := .bool true) rfl (by kernel_rfl) (by kernel_rfl) (by kernel_rfl) (fun _ _ _ h => h) (Or.inl ⟨by rfl, ?_⟩) (by assumption) ?_
  · intro w hSw; (try dsimp only at hSw); go_simp
  simp only [Act.put, List.setIfInBounds_toArray, List.set_cons_zero, List.set_cons_succ]
  refine wpAnyH_done (by kernel_rfl) ?_ _
  clear hHeld
  go_wp2
  go_ret
  exact ⟨rfl, HB2.out.trans (w4B.out.mono HB2.out.size)⟩
set_option maxRecDepth 100000 in
set_option maxHeartbeats 8000000 in
theorem wkNode_yes {w W : World} (G : Tr.Gd w) {r rt mw ms : Nat} {A : Option Addr} {c : Nat} {l : List Om.Pr} {root : List UInt8} {S : Wk.St} (h : Wk.WAt w W r rt mw ms A c l root S) {v i : Nat} (hv : v < 4) (hi : i < 2 ^ v) {a b : List UInt8} (ha : a.length = 32) (hb : b.length = 32) (hS : S.W (Wk.pl v i) = some (Sm.sum (Tr.innerT a b))) (hT : S.T.length ≤ 1000000) :
    Calls Tryz.prog 29 #[.pointer (some ⟨r, 0, none⟩), .int .i64 (v : Int), .int .i64 (i : Int), .agg (Lib.byteCells a).toArray, .agg (Lib.byteCells b).toArray] W fun e w' => e = .returned (.bool true) ∧ (∃ A' c', Wk.WAt w w' r rt mw ms A' c' l root (Wk.node l S (Wk.pl v i) a b)) ∧ Wk.Turn w W w' := by
  obtain ⟨N, hN⟩ : ∃ N, N = W.heap.size := ⟨_, rfl⟩
  obtain ⟨w2, hw2⟩ : ∃ w2, w2 = (W.alloc (.cells (Lib.byteCells a).toArray 36)).alloc (.cells (Lib.byteCells b).toArray 36) := ⟨_, rfl⟩
  have b2 : Below W.heap.size W w2 := by rw [hw2]; exact ((Below.refl _ W).alloc (Nat.le_refl _) _).alloc (by simp) _
  have g0 : w2.heap[N]? = some (.cells (Lib.byteCells a).toArray 36 (0, 0)) := by rw [hw2, hN, Below.heap_alloc _ _ _ (by simp)]; exact heap_alloc_new _ _
  have g1 : w2.heap[N + 1]? = some (.cells (Lib.byteCells b).toArray 36 (0, 0)) := by
    have := heap_alloc_new (W.alloc (.cells (Lib.byteCells a).toArray 36)) (.cells (Lib.byteCells b).toArray 36)
    rw [hw2, hN]
    simpa using this
  have hN1 : (W.alloc (.cells (Lib.byteCells a).toArray 36)).heap.size = N + 1 := by rw [hN]; simp
  have H2 := Lib.hid (h.step b2)
  have HB2 := Lib.hid b2
  have T2 : Hid (Wk.Turn w W w2) := .of_below b2
  have HG0 := Lib.hid g0
  have HG1 := Lib.hid g1
  have HLA := Lib.hid ha
  have HLB := Lib.hid hb
  have HE1 : Hid ((⟨#[78]⟩ ++ Tr.tx a : ByteArray) = Tr.tx (78 :: a)) := by have := Tr.tx_cat [78] (Tr.tx a); rw [Tr.tx_list] at this; exact this
  have HE2 : Hid ((Tr.tx (78 :: a) ++ Tr.tx b : ByteArray) = Tr.tx (Tr.innerT a b)) := Tr.tx_tx _ _
  have HZ1 : Hid ((Tr.tx a).size = 32) := by show _ = _; rw [Tr.tx_size, ha]
  have HZ2 : Hid ((Tr.tx b).size = 32) := by show _ = _; rw [Tr.tx_size, hb]
  have HZ3 : Hid ((Tr.tx (78 :: a)).size = 33) := by show _ = _; rw [Tr.tx_size, List.length_cons, ha]
  have IN : Hid (∀ wx : World, Below w2.heap.size w2 wx → Calls Tryz.prog 72 #[.agg (Lib.byteCells a).toArray, .agg (Lib.byteCells b).toArray] wx fun e w' => e = .returned (.agg (Lib.byteCells (Sm.sum (Tr.innerT a b))).toArray) ∧ Below wx.heap.size wx w') := fun wx k => by
    have g := G.low ((H2.out.step k).ow.bel)
    exact tInner_any g.H g.K g.sz a b ha hb
  have hk := (Wk.pl_lev (by omega) hi).2.2
  have hpl := Wk.plc_pl (v := v) (by omega) hi
  have TK : Hid (∀ wx : World, Below w2.heap.size w2 wx → Calls Tryz.prog 71 #[.pointer (some ⟨r, 0, none⟩), .agg #[.int .i64 (v : Int), .int .i64 (i : Int)], .agg (Lib.byteCells (Sm.sum (Tr.innerT a b))).toArray, .string (Tr.tx (Tr.innerT a b))] wx fun e w' => e = .returned (.bool true) ∧ (∃ A' c', Wk.WAt w w' r rt mw ms A' c' l root (Wk.took S (Wk.pl v i) (Tr.innerT a b))) ∧ Wk.Turn w wx w') := fun wx k => by
    have := wkTake_yes (H2.out.step k) hk (Sm.sum_length _) (Tr.innerT a b) hS hT
    rw [hpl] at this
    exact this
  obtain ⟨ka, hka⟩ : ∃ k, k = 2 * i := ⟨_, rfl⟩
  have hi2 : i ≤ 8 := by
    have : 2 ^ v ≤ 2 ^ 3 := Nat.pow_le_pow_right (by decide) (by omega)
    omega
  have hkid := Wk.pl_kid v i
  have hA : ∀ (S' : Wk.St) (A' : Option Addr) (c' : Nat) (wx : World), Wk.WAt w wx r rt mw ms A' c' l root S' → Calls Tryz.prog 55 #[.pointer (some ⟨r, 0, none⟩), .agg #[.int .i64 ((v + 1 : Nat) : Int), .int .i64 (ka : Int)], .agg (Lib.byteCells a).toArray] wx fun e w' => e = .returned (.tuple #[]) ∧ Wk.WAt w w' r rt mw ms A' c' l root (Wk.ask l S' (2 * Wk.pl v i + 1) a) ∧ Wk.Turn w wx w' := fun S' A' c' wx hx => by
    have hh : ka < 2 ^ (v + 1) := by rw [Nat.pow_succ]; omega
    have h1 := wkAsk_any hx (k := Wk.pl (v + 1) ka) (Wk.pl_lev (by omega) hh).2.2 ha
    rw [Wk.plc_pl (by omega) hh] at h1
    rw [← hkid.1, ← hka]
    exact h1
  have hB : ∀ (S' : Wk.St) (A' : Option Addr) (c' : Nat) (wx : World), Wk.WAt w wx r rt mw ms A' c' l root S' → Calls Tryz.prog 55 #[.pointer (some ⟨r, 0, none⟩), .agg #[.int .i64 ((v + 1 : Nat) : Int), .int .i64 ((ka + 1 : Nat) : Int)], .agg (Lib.byteCells b).toArray] wx fun e w' => e = .returned (.tuple #[]) ∧ Wk.WAt w w' r rt mw ms A' c' l root (Wk.ask l S' (2 * Wk.pl v i + 2) b) ∧ Wk.Turn w wx w' := fun S' A' c' wx hx => by
    have hh : ka + 1 < 2 ^ (v + 1) := by rw [Nat.pow_succ]; omega
    have h1 := wkAsk_any hx (k := Wk.pl (v + 1) (ka + 1)) (Wk.pl_lev (by omega) hh).2.2 hb
    rw [Wk.plc_pl (by omega) hh] at h1
    rw [← hkid.2, ← hka]
    exact h1
  have AS := Lib.hid hA
  have BS := Lib.hid hB
  have hadd : IntKind.i64.wrap ((v : Int) + 1) = ((v + 1 : Nat) : Int) := by simp [IntKind.wrap, IntKind.bits, IntKind.signed]; omega
  have hmul : IntKind.i64.wrap (2 * (i : Int)) = (ka : Int) := by simp [IntKind.wrap, IntKind.bits, IntKind.signed]; omega
  have hmul1 : IntKind.i64.wrap ((ka : Int) + 1) = ((ka + 1 : Nat) : Int) := by simp [IntKind.wrap, IntKind.bits, IntKind.signed]; omega
  have hn4 : ¬ (4 : Int) ≤ (v : Int) := by omega
  have hn5 : ¬ (v : Int) ≥ 4 := by omega
  clear h G b2 g0 g1 ha hb hS hT hk hpl hka hi2 hkid hA hB hv hi
  go_enter Tryz.func29, Tryz.ntmps29
  go_upto_region 1 with (fail)
  change Code.wp _ _ _ _ ((W.alloc (.cells (Lib.byteCells a).toArray 36)).alloc (.cells (Lib.byteCells b).toArray 36))
  rw [← hw2, ← hN]
  clear hw2 hN hN1
  refine wp_region_held_drew (S := fun w' => w'.heap[N]? = some (.cells (Lib.byteCells a).toArray 36 (0, 0)) ∧ w'.heap[N + 1]? = some (.cells (Lib.byteCells b).toArray 36 (0, 0))) (by kernel_rfl) ⟨HG0.out, HG1.out⟩ (fun hHeld => ?_)
  obtain ⟨wz, hwz⟩ : ∃ W, W = w2.drew := ⟨_, rfl⟩
  have wzB : Hid (Below w2.heap.size w2 wz) := by rw [hwz]; exact (Below.refl _ _).drew
  rw [← hwz] at hHeld ⊢
  clear hwz
  refine wpAnyH_take (i := 0) (oi := ⟨some 11, _, _, _, _, _⟩) (v := .int .i64 (v : Int)) rfl (by kernel_rfl) (by kernel_rfl) (by kernel_rfl) (fun _ _ _ h => h) (Or.inl ⟨by rfl, ?_⟩) (by assumption) ?_
  · intro w hSw; (try dsimp only at hSw); go_simp
  simp only [Act.put, List.setIfInBounds_toArray, List.set_cons_zero, List.set_cons_succ]
  refine wpAnyH_take (i := 1) (oi := ⟨some 12, _, _, _, _, _⟩) (v := .bool false) rfl (by kernel_rfl) (by kernel_rfl) (by kernel_rfl) (fun _ _ _ h => h) (Or.inl ⟨by rfl, ?_⟩) (by assumption) ?_
  · intro w hSw; (try dsimp only at hSw); go_simp
  simp only [Act.put, List.setIfInBounds_toArray, List.set_cons_zero, List.set_cons_succ]
  refine wpAnyH_take (i := 2) (oi := ⟨some 13, _, _, _, _, _⟩) (v := .bool false) rfl (by kernel_rfl) (by kernel_rfl) (by kernel_rfl) (fun _ _ _ h => h) (Or.inl ⟨by rfl, ?_⟩) (by assumption) ?_
  · intro w hSw; (try dsimp only at hSw); go_simp
  simp only [Act.put, List.setIfInBounds_toArray, List.set_cons_zero, List.set_cons_succ]
  refine wpAnyH_take (i := 3) (oi := ⟨some 14, _, _, _, _, _⟩) (v := .pointer (some ⟨r, 0, none⟩)) rfl (by kernel_rfl) (by kernel_rfl) (by kernel_rfl) (fun _ _ _ h => h) (Or.inl ⟨by rfl, ?_⟩) (by assumption) ?_
  · intro w hSw; (try dsimp only at hSw); go_simp
  simp only [Act.put, List.setIfInBounds_toArray, List.set_cons_zero, List.set_cons_succ]
  refine wpAnyH_take (i := 4) (oi := ⟨some 15, _, _, _, _, _⟩) (v := .int .i64 (v : Int)) rfl (by kernel_rfl) (by kernel_rfl) (by kernel_rfl) (fun _ _ _ h => h) (Or.inl ⟨by rfl, ?_⟩) (by assumption) ?_
  · intro w hSw; (try dsimp only at hSw); go_simp
  simp only [Act.put, List.setIfInBounds_toArray, List.set_cons_zero, List.set_cons_succ]
  refine wpAnyH_take (i := 5) (oi := ⟨some 16, _, _, _, _, _⟩) (v := .int .i64 (i : Int)) rfl (by kernel_rfl) (by kernel_rfl) (by kernel_rfl) (fun _ _ _ h => h) (Or.inl ⟨by rfl, ?_⟩) (by assumption) ?_
  · intro w hSw; (try dsimp only at hSw); go_simp
  simp only [Act.put, List.setIfInBounds_toArray, List.set_cons_zero, List.set_cons_succ]
  refine wpAnyH_take (i := 6) (oi := ⟨some 17, _, _, _, _, _⟩) (v := .agg #[.int .i64 (v : Int), .int .i64 (i : Int)]) rfl (by kernel_rfl) (by kernel_rfl) (by kernel_rfl) (fun _ _ _ h => h) (Or.inl ⟨by rfl, ?_⟩) (by assumption) ?_
  · intro w hSw; (try dsimp only at hSw); go_simp
  simp only [Act.put, List.setIfInBounds_toArray, List.set_cons_zero, List.set_cons_succ]
  refine wpAnyH_take (i := 7) (oi := ⟨some 18, _, _, _, _, _⟩) (v := .agg (Lib.byteCells a).toArray) rfl (by kernel_rfl) (by kernel_rfl) (by kernel_rfl) (fun _ _ _ h => h) (yieldsIf_load_mid (by rfl) _ _ rfl _ _ rfl (Lib.byteCells a) _ (fun w hS => (Sm.range_row hS.1)) Tryz.underlying36 rfl (Sm.infoHash (Tr.size32 HLA.out))) (by assumption) ?_
  simp only [Act.put, List.setIfInBounds_toArray, List.set_cons_zero, List.set_cons_succ]
  refine wpAnyH_take (i := 8) (oi := ⟨some 19, _, _, _, _, _⟩) (v := .agg (Lib.byteCells b).toArray) rfl (by kernel_rfl) (by kernel_rfl) (by kernel_rfl) (fun _ _ _ h => h) (yieldsIf_load_mid (by rfl) _ _ rfl _ _ rfl (Lib.byteCells b) _ (fun w hS => (Sm.range_row hS.2)) Tryz.underlying36 rfl (Sm.infoHash (Tr.size32 HLB.out))) (by assumption) ?_
  simp only [Act.put, List.setIfInBounds_toArray, List.set_cons_zero, List.set_cons_succ]
  refine wpAnyH_take (i := 10) (oi := ⟨some 21, _, _, _, _, _⟩) (v := .slice (some ⟨N, 0, none⟩) 32 32) rfl (by kernel_rfl) (by kernel_rfl) (by kernel_rfl) (fun _ _ _ h => h) (Or.inl ⟨by rfl, ?_⟩) (by assumption) ?_
  · intro w hSw; (try dsimp only at hSw); go_simp
  simp only [Act.put, List.setIfInBounds_toArray, List.set_cons_zero, List.set_cons_succ]
  refine wpAnyH_take (i := 11) (oi := ⟨some 22, _, _, _, _, _⟩) (v := .string (Tr.tx a)) rfl (by kernel_rfl) (by kernel_rfl) (by kernel_rfl) (fun _ _ _ h => h) (Or.inl ⟨by rfl, ?_⟩) (by assumption) ?_
  · intro w hSw; (try dsimp only at hSw); have q1 : (convert 127 9 (.slice (some ⟨N, 0, none⟩) 32 32)).run Tryz.prog w = .ok (.string (Tr.tx a)) w := Sm.conv_row (w := w) hSw.1 HLA.out; go_simp
  simp only [Act.put, List.setIfInBounds_toArray, List.set_cons_zero, List.set_cons_succ]
  refine wpAnyH_take (i := 12) (oi := ⟨some 23, _, _, _, _, _⟩) (v := .string (Tr.tx (78 :: a))) rfl (by kernel_rfl) (by kernel_rfl) (by kernel_rfl) (fun _ _ _ h => h) (Or.inl ⟨by rfl, ?_⟩) (by assumption) ?_
  · intro w hSw; (try dsimp only at hSw); have q1 := HE1.out; have q2 := HZ1.out; go_simp
  simp only [Act.put, List.setIfInBounds_toArray, List.set_cons_zero, List.set_cons_succ]
  refine wpAnyH_take (i := 13) (oi := ⟨some 24, _, _, _, _, _⟩) (v := .slice (some ⟨N + 1, 0, none⟩) 32 32) rfl (by kernel_rfl) (by kernel_rfl) (by kernel_rfl) (fun _ _ _ h => h) (Or.inl ⟨by rfl, ?_⟩) (by assumption) ?_
  · intro w hSw; (try dsimp only at hSw); go_simp
  simp only [Act.put, List.setIfInBounds_toArray, List.set_cons_zero, List.set_cons_succ]
  refine wpAnyH_take (i := 14) (oi := ⟨some 25, _, _, _, _, _⟩) (v := .string (Tr.tx b)) rfl (by kernel_rfl) (by kernel_rfl) (by kernel_rfl) (fun _ _ _ h => h) (Or.inl ⟨by rfl, ?_⟩) (by assumption) ?_
  · intro w hSw; (try dsimp only at hSw); have q1 : (convert 127 9 (.slice (some ⟨N + 1, 0, none⟩) 32 32)).run Tryz.prog w = .ok (.string (Tr.tx b)) w := Sm.conv_row (w := w) hSw.2 HLB.out; go_simp
  simp only [Act.put, List.setIfInBounds_toArray, List.set_cons_zero, List.set_cons_succ]
  refine wpAnyH_take (i := 15) (oi := ⟨some 26, _, _, _, _, _⟩) (v := .string (Tr.tx (Tr.innerT a b))) rfl (by kernel_rfl) (by kernel_rfl) (by kernel_rfl) (fun _ _ _ h => h) (Or.inl ⟨by rfl, ?_⟩) (by assumption) ?_
  · intro w hSw; (try dsimp only at hSw); have q1 := HE2.out; have q2 := HZ2.out; have q3 := HZ3.out; go_simp
  simp only [Act.put, List.setIfInBounds_toArray, List.set_cons_zero, List.set_cons_succ]
  refine wpAnyH_ready (rs := [9]) (by kernel_rfl) (by simp) ?_
  refine (AllReadyH.cons (o := ⟨some 20, _, _, _, _, _⟩) rfl (fun K hK => ?_) AllReadyH.nil)
  go_simp
  refine (IN.out _ wzB.out).mono ?_
  rintro e w3 ⟨rfl, kk⟩
  have w3B : Hid (Below w2.heap.size w2 w3) := wzB.out.trans (kk.mono wzB.out.size)
  have M3 : Hid (w3.heap[N]? = some (.cells (Lib.byteCells a).toArray 36 (0, 0)) ∧ w3.heap[N + 1]? = some (.cells (Lib.byteCells b).toArray 36 (0, 0))) := ⟨(w3B.out.block _ (Sm.lt_of HG0.out)).trans HG0.out, (w3B.out.block _ (Sm.lt_of HG1.out)).trans HG1.out⟩
  clear kk wzB
  refine hK.out _ _ M3.out (fun hHeld => ?_)
  clear hK K
  refine wpAnyH_ready (rs := [16]) (by kernel_rfl) (by simp) ?_
  refine (AllReadyH.cons (o := ⟨some 27, _, _, _, _, _⟩) rfl (fun K hK => ?_) AllReadyH.nil)
  go_simp
  refine (TK.out _ w3B.out).mono ?_
  rintro e w4 ⟨rfl, ⟨A4, c4, h4⟩, t4⟩
  have H4 := Lib.hid h4
  have T4 := Lib.hid ((T2.out.step w3B.out).trans t4)
  have M4 : Hid (w4.heap[N]? = some (.cells (Lib.byteCells a).toArray 36 (0, 0)) ∧ w4.heap[N + 1]? = some (.cells (Lib.byteCells b).toArray 36 (0, 0))) := ⟨t4.hard M3.out.1 (Wk.hash_hard _), t4.hard M3.out.2 (Wk.hash_hard _)⟩
  have HT4 := Lib.hid t4
  clear h4 t4
  refine hK.out _ _ M4.out (fun hHeld => ?_)
  clear hK K
  refine wpAnyH_take (i := 17) (oi := ⟨some 28, _, _, _, _, _⟩) (v := .bool false) rfl (by kernel_rfl) (by kernel_rfl) (by kernel_rfl) (fun _ _ _ h => h) (Or.inl ⟨by rfl, ?_⟩) (by assumption) ?_
  · intro w hSw; (try dsimp only at hSw); go_simp
  simp only [Act.put, List.setIfInBounds_toArray, List.set_cons_zero, List.set_cons_succ]
  refine wpAnyH_take (i := 18) (oi := ⟨some 29, _, _, _, _, _⟩) (v := .bool false) rfl (by kernel_rfl) (by kernel_rfl) (by kernel_rfl) (fun _ _ _ h => h) (Or.inl ⟨by rfl, ?_⟩) (by assumption) ?_
  · intro w hSw; (try dsimp only at hSw); go_simp
  simp only [Act.put, List.setIfInBounds_toArray, List.set_cons_zero, List.set_cons_succ]
  refine wpAnyH_done (by kernel_rfl) ?_ _
  clear hHeld
  have Z1 := Lib.hid (Tr.size32 HLA.out)
  have Z2 := Lib.hid (Tr.size32 HLB.out)
  go_wp2_with first
    | (with_reducible refine wpList_load_row rfl 36 (.tmp 8) rfl N rfl 36 (Lib.byteCells a).toArray (0, 0) _ (by exact M4.out.1) Tryz.underlying36 rfl (Sm.infoHash Z1.out) ?_)
    | (with_reducible refine wpList_load_row rfl 36 (.tmp 9) rfl (N + 1) rfl 36 (Lib.byteCells b).toArray (0, 0) _ (by exact M5.out) Tryz.underlying36 rfl (Sm.infoHash Z2.out) ?_)
    | (go_at_call 55; refine (AS.out _ _ _ _ H4.out).mono ?_; rintro e w5 ⟨rfl, h5, t5⟩; clear AS; have H5 := Lib.hid h5; have T5 := Lib.hid (T4.out.trans t5); have M5 := Lib.hid (t5.hard M4.out.2 (Wk.hash_hard _)); clear h5 t5)
    | (go_at_call 55; refine (BS.out _ _ _ _ H5.out).mono ?_; rintro e w6 ⟨rfl, h6, t6⟩; have H6 := Lib.hid h6; have T6 := Lib.hid (T5.out.trans t6); clear h6 t6)
  go_ret
  exact ⟨rfl, ⟨A4, c4, H6.out⟩, T6.out⟩
end Go.Proofs.YtiehcplepneajaaGreatDoor

/-
  walk's Page: a bucket's pairs are taken, if they fit; and what a bucket has in the end.
-/
namespace Go.Proofs.YtiehcplepneajaaGreatDoor
open Go.RowKit
set_option maxRecDepth 100000 in
set_option maxHeartbeats 4000000 in
theorem wkPage_bad {w : World} (G : Tr.Gd w) (p : Option Addr) (i : Int) {B : Option Addr} {m : List Om.Pr} (q : Nat) (hit : Om.listAt w B m) (hn : m.length ≤ 1000000) (hs : ∀ x ∈ m, x.p.size ≤ 281474976710656) (hp : Bu.pageE i m ≠ 0) :
    Calls Tryz.prog 30 #[.pointer p, .int .i64 i, .slice B m.length q] w fun e w' => e = .returned (.bool false) ∧ Below w.heap.size w w' := by
  have PG := Lib.hid (buPage_any G.H G.K G.sz i q hit hn hs)
  rw [Bu.page_bad (e := Bu.pageE i m) rfl hp] at PG
  have hz : ¬ ((Bu.pageE i m : Nat) : Int) = 0 := by omega
  generalize Bu.pageE i m = E at PG hz
  clear hp hit hs G
  go_enter Tryz.func30, Tryz.ntmps30
  go_wp2_with first
    | (go_at_call 73; refine PG.out.mono ?_; rintro e w1 ⟨rfl, k1⟩; have B1 := Lib.hid k1; clear k1)
  go_ret
  exact ⟨rfl, B1.out⟩
set_option maxRecDepth 100000 in
set_option maxHeartbeats 8000000 in
theorem wkPage_no {w W : World} (G : Tr.Gd w) {r rt mw ms : Nat} {A : Option Addr} {c : Nat} {l : List Om.Pr} {root : List UInt8} {S : Wk.St} (h : Wk.WAt w W r rt mw ms A c l root S) {i : Int} {B : Option Addr} {m : List Om.Pr} (q : Nat) (hit : Om.listAt W B m) (hp : Bu.pageE i m = 0) (hno : Wk.hit S (4, i) ≠ some (Sm.sum (Wk.pageT m))) :
    Calls Tryz.prog 30 #[.pointer (some ⟨r, 0, none⟩), .int .i64 i, .slice B m.length q] W fun e w' => e = .returned (.bool false) ∧ Below W.heap.size W w' := by
  obtain ⟨hi0, hmay, hall, h48⟩ := Bu.pageE_ok hp
  have hfair := (Bu.may_iff.1 hmay).1
  have hpart := Bu.part_same hall
  have gW := G.low h.ow.bel
  have PG : Hid (Calls Tryz.prog 73 #[.int .i64 i, .slice B m.length q] W fun e w' => e = .returned (.tuple #[.string (Tr.tx (Bu.bytes m)), .int .i64 0]) ∧ Below W.heap.size W w') := by
    have := buPage_any gW.H gW.K gW.sz i q hit (by omega) (fun x hx => by have := Bu.fair_len (hfair x hx); rw [Ba.ba_size] at this; omega)
    rw [Bu.page_good hp] at this
    exact this
  have hbl : (Tr.tx (Bu.bytes m)).size ≤ 1000000000000000000 := by
    have q1 := Bu.prsB_len hfair
    have q2 := R12.enc_len (n := m.length) (by omega)
    rw [Tr.tx_size]
    unfold Bu.bytes
    rw [List.length_append]
    omega
  obtain ⟨P, hP⟩ : ∃ t, t = Tr.tx (Bu.bytes m) := ⟨_, rfl⟩
  obtain ⟨T, hT⟩ : ∃ t, t = Tr.tx (Wk.pageT m) := ⟨_, rfl⟩
  have HCAT : Hid ((⟨#[76]⟩ ++ P : ByteArray) = T) := by
    show _ = _
    rw [hP, hT]
    have := Tr.tx_cat [76] (Tr.tx (Bu.bytes m))
    rw [Tr.tx_list] at this
    exact this
  have HPS : Hid (P.size ≤ 1000000000000000000) := by show _ ≤ _; rw [hP]; exact hbl
  have LF : Hid (∀ wx : World, Below W.heap.size W wx → Calls Tryz.prog 74 #[.string P] wx fun e w' => e = .returned (.agg (Lib.byteCells (Sm.sum (Wk.pageT m))).toArray) ∧ Below wx.heap.size wx w') := fun wx k => by
    have g := gW.low k
    have := tLeaf_any g.H g.K g.sz P (by rw [hP]; omega)
    rw [hP, Tr.tx_list] at this
    rw [hP]
    exact this
  have TK : Hid (∀ wx : World, Below W.heap.size W wx → Calls Tryz.prog 71 #[.pointer (some ⟨r, 0, none⟩), .agg #[.int .i64 4, .int .i64 i], .agg (Lib.byteCells (Sm.sum (Wk.pageT m))).toArray, .string T] wx fun e w' => e = .returned (.bool false) ∧ Below wx.heap.size wx w') := fun wx k => wkTake_no (h.step k) (a := (4, i)) ((Wk.fits_iff _).2 ⟨⟨by show _ ≤ (4 : Int); decide, by show (4 : Int) ≤ _; decide⟩, by show _ ≤ i; omega, by show i ≤ _; omega⟩) (Sm.sum_length _) _ hno
  rw [← hP] at PG
  obtain ⟨X, hX⟩ : ∃ x, x = Lib.byteCells (Sm.sum (Wk.pageT m)) := ⟨_, rfl⟩
  rw [← hX] at LF TK
  clear hi0 hmay hall h48 hfair hpart gW hT hX hbl hP hno hp hit h G
  go_enter Tryz.func30, Tryz.ntmps30
  go_wp2_with first
    | (go_at_call 73; refine PG.out.mono ?_; rintro e w1 ⟨rfl, k1⟩; have B1 := Lib.hid k1; clear k1)
    | (go_at_call 74; refine (LF.out _ B1.out).mono ?_; rintro e w2 ⟨rfl, k2⟩; have B2 := Lib.hid (B1.out.trans (k2.mono B1.out.size)); clear k2; have q1 := HCAT.out; have q2 := HPS.out)
    | (go_at_call 71; refine (TK.out _ B2.out).mono ?_; rintro e w3 ⟨rfl, k3⟩; have B3 := Lib.hid (B2.out.trans (k3.mono B2.out.size)); clear k3)
  go_ret
  exact ⟨rfl, B3.out⟩
set_option maxRecDepth 100000 in
set_option maxHeartbeats 8000000 in
theorem wkPage_yes {w W : World} (G : Tr.Gd w) {r rt mw ms : Nat} {A : Option Addr} {c : Nat} {l : List Om.Pr} {root : List UInt8} {S : Wk.St} (h : Wk.WAt w W r rt mw ms A c l root S) {i : Nat} {B : Option Addr} {m : List Om.Pr} (q : Nat) (hk : ∀ W' : World, Wk.Turn w W W' → Om.listAt W' B m) (hp : Bu.pageE (i : Int) m = 0) (hS : S.W (15 + i) = some (Sm.sum (Wk.pageT m))) (hTl : S.T.length ≤ 1000000) :
    Calls Tryz.prog 30 #[.pointer (some ⟨r, 0, none⟩), .int .i64 (i : Int), .slice B m.length q] W fun e w' => e = .returned (.bool true) ∧ (∃ A' c', Wk.WAt w w' r rt mw ms A' c' l root (Wk.page S i m)) ∧ Wk.Turn w W w' := by
  have hit := hk W (.refl _ _)
  obtain ⟨hi0, hmay, hall, h48⟩ := Bu.pageE_ok hp
  have hfair := (Bu.may_iff.1 hmay).1
  have hpart := Bu.part_same hall
  have gW := G.low h.ow.bel
  have PG : Hid (Calls Tryz.prog 73 #[.int .i64 (i : Int), .slice B m.length q] W fun e w' => e = .returned (.tuple #[.string (Tr.tx (Bu.bytes m)), .int .i64 0]) ∧ Below W.heap.size W w') := by
    have := buPage_any gW.H gW.K gW.sz (i : Int) q hit (by omega) (fun x hx => by have := Bu.fair_len (hfair x hx); rw [Ba.ba_size] at this; omega)
    rw [Bu.page_good hp] at this
    exact this
  have hbl : (Tr.tx (Bu.bytes m)).size ≤ 1000000000000000000 := by
    have q1 := Bu.prsB_len hfair
    have q2 := R12.enc_len (n := m.length) (by omega)
    rw [Tr.tx_size]
    unfold Bu.bytes
    rw [List.length_append]
    omega
  obtain ⟨P, hP⟩ : ∃ t, t = Tr.tx (Bu.bytes m) := ⟨_, rfl⟩
  obtain ⟨T, hT⟩ : ∃ t, t = Tr.tx (Wk.pageT m) := ⟨_, rfl⟩
  have HCAT : Hid ((⟨#[76]⟩ ++ P : ByteArray) = T) := by
    show _ = _
    rw [hP, hT]
    have := Tr.tx_cat [76] (Tr.tx (Bu.bytes m))
    rw [Tr.tx_list] at this
    exact this
  have HPS : Hid (P.size ≤ 1000000000000000000) := by show _ ≤ _; rw [hP]; exact hbl
  have LF : Hid (∀ wx : World, Below W.heap.size W wx → Calls Tryz.prog 74 #[.string P] wx fun e w' => e = .returned (.agg (Lib.byteCells (Sm.sum (Wk.pageT m))).toArray) ∧ Below wx.heap.size wx w') := fun wx k => by
    have g := gW.low k
    have := tLeaf_any g.H g.K g.sz P (by rw [hP]; omega)
    rw [hP, Tr.tx_list] at this
    rw [hP]
    exact this
  have hi16 : i < 16 := by omega
  have hpl : Wk.plc (15 + i) = ((4 : Int), (i : Int)) := by
    have := Wk.plc_pl (v := 4) (i := i) (by decide) (by omega)
    exact this
  have TK : Hid (∀ wx : World, Below W.heap.size W wx → Calls Tryz.prog 71 #[.pointer (some ⟨r, 0, none⟩), .agg #[.int .i64 4, .int .i64 (i : Int)], .agg (Lib.byteCells (Sm.sum (Wk.pageT m))).toArray, .string T] wx fun e w' => e = .returned (.bool true) ∧ (∃ A' c', Wk.WAt w w' r rt mw ms A' c' l root (Wk.took S (15 + i) (Wk.pageT m))) ∧ Wk.Turn w wx w') := fun wx k => by
    have := wkTake_yes (h.step k) (k := 15 + i) (by omega) (Sm.sum_length _) (Wk.pageT m) hS hTl
    rw [hpl] at this
    rw [hT]
    exact this
  have PTX : Hid (∀ W3 : World, Wk.Turn w W W3 → Below w.heap.size w W3 → ∀ wx, Below W3.heap.size W3 wx → Calls Tryz.prog 75 #[.slice B m.length q, .int .i64 (i : Int)] wx fun e w' => ∃ D z, e = .returned (.slice D m.length z) ∧ Om.Row w' wx.heap.size D z m ∧ Below wx.heap.size wx w') := fun W3 t b3 wx k => by
    have g := (G.low b3).low k
    have hit3 : Om.listAt wx B m := Om.listAt.below (hk _ t) k
    have := buPart_any g.H g.K g.sz q hit3 (by omega) (fun x hx => by have := Bu.fair_len (hfair x hx); rw [Ba.ba_size, Ba.ba_size] at this; omega) (i : Int)
    rw [hpart] at this
    exact this
  have HB0 := Lib.hid h.ow.bel
  have HI := Lib.hid hi16
  rw [← hP] at PG
  obtain ⟨X, hX⟩ : ∃ x, x = Lib.byteCells (Sm.sum (Wk.pageT m)) := ⟨_, rfl⟩
  rw [← hX] at LF TK
  clear hk hi0 hmay hall h48 hfair hpart gW hT hX hbl hP hp hit h G hS hTl hpl hi16
  go_enter Tryz.func30, Tryz.ntmps30
  go_upto_region 4 with first
    | (go_at_call 73; refine PG.out.mono ?_; rintro e w1 ⟨rfl, k1⟩; have B1 := Lib.hid k1; clear k1)
    | (go_at_call 74; refine (LF.out _ B1.out).mono ?_; rintro e w2 ⟨rfl, k2⟩; have B2 := Lib.hid (B1.out.trans (k2.mono B1.out.size)); clear k2; have q1 := HCAT.out; have q2 := HPS.out)
    | (go_at_call 71; refine (TK.out _ B2.out).mono ?_; rintro e w3 ⟨rfl, ⟨A3, c3, h3⟩, t3⟩; have H3 := Lib.hid h3; have T3 : Hid (Wk.Turn w W w3) := (Wk.Turn.of_below B2.out).trans t3; have M3 : Hid (w3.drew.cell? ⟨r, 34, none⟩ = some (.map (some ms))) := h3.cell.2.2.1; clear h3 t3)
  have PT := Lib.hid (PTX.out w3 T3.out (T3.out.below HB0.out))
  clear PTX TK LF PG HCAT
  refine wp_region_held_drew (S := fun w' => w'.cell? ⟨r, 34, none⟩ = some (.map (some ms))) (by kernel_rfl) M3.out (fun hHeld => ?_)
  obtain ⟨wz, hwz⟩ : ∃ x, x = w3.drew := ⟨_, rfl⟩
  have wzB : Hid (Below w3.heap.size w3 wz) := by rw [hwz]; exact (Below.refl _ _).drew
  rw [← hwz] at hHeld ⊢
  clear hwz
  refine wpAnyH_take (i := 0) (oi := ⟨some 28, _, _, _, _, _⟩) (v := .pointer (some ⟨r, 0, none⟩)) rfl (by kernel_rfl) (by kernel_rfl) (by kernel_rfl) (fun _ _ _ h => h) (Or.inl ⟨by rfl, ?_⟩) (by assumption) ?_
  · intro w hSw; (try dsimp only at hSw); go_simp
  simp only [Act.put, List.setIfInBounds_toArray, List.set_cons_zero, List.set_cons_succ]
  refine wpAnyH_take (i := 1) (oi := ⟨some 29, _, _, _, _, _⟩) (v := .pointer (some ⟨r, 0, none⟩)) rfl (by kernel_rfl) (by kernel_rfl) (by kernel_rfl) (fun _ _ _ h => h) (Or.inl ⟨by rfl, ?_⟩) (by assumption) ?_
  · intro w hSw; (try dsimp only at hSw); go_simp
  simp only [Act.put, List.setIfInBounds_toArray, List.set_cons_zero, List.set_cons_succ]
  refine wpAnyH_take (i := 2) (oi := ⟨some 30, _, _, _, _, _⟩) (v := .pointer (some ⟨r, 34, none⟩)) rfl (by kernel_rfl) (by kernel_rfl) (by kernel_rfl) (fun _ _ _ h => h) (Or.inl ⟨by rfl, ?_⟩) (by assumption) ?_
  · intro w hSw; (try dsimp only at hSw); go_simp
  simp only [Act.put, List.setIfInBounds_toArray, List.set_cons_zero, List.set_cons_succ]
  refine wpAnyH_take (i := 3) (oi := ⟨some 31, _, _, _, _, _⟩) (v := .map (some ms)) rfl (by kernel_rfl) (by kernel_rfl) (by kernel_rfl) (fun _ _ _ h => h) (Or.inl ⟨by rfl, ?_⟩) (by assumption) ?_
  · intro w hSw; (try dsimp only at hSw); go_simp
  simp only [Act.put, List.setIfInBounds_toArray, List.set_cons_zero, List.set_cons_succ]
  refine wpAnyH_take (i := 4) (oi := ⟨some 32, _, _, _, _, _⟩) (v := .int .i64 (i : Int)) rfl (by kernel_rfl) (by kernel_rfl) (by kernel_rfl) (fun _ _ _ h => h) (Or.inl ⟨by rfl, ?_⟩) (by assumption) ?_
  · intro w hSw; (try dsimp only at hSw); go_simp
  simp only [Act.put, List.setIfInBounds_toArray, List.set_cons_zero, List.set_cons_succ]
  refine wpAnyH_take (i := 5) (oi := ⟨some 33, _, _, _, _, _⟩) (v := .slice B m.length q) rfl (by kernel_rfl) (by kernel_rfl) (by kernel_rfl) (fun _ _ _ h => h) (Or.inl ⟨by rfl, ?_⟩) (by assumption) ?_
  · intro w hSw; (try dsimp only at hSw); go_simp
  simp only [Act.put, List.setIfInBounds_toArray, List.set_cons_zero, List.set_cons_succ]
  refine wpAnyH_take (i := 6) (oi := ⟨some 34, _, _, _, _, _⟩) (v := .int .i64 (i : Int)) rfl (by kernel_rfl) (by kernel_rfl) (by kernel_rfl) (fun _ _ _ h => h) (Or.inl ⟨by rfl, ?_⟩) (by assumption) ?_
  · intro w hSw; (try dsimp only at hSw); go_simp
  simp only [Act.put, List.setIfInBounds_toArray, List.set_cons_zero, List.set_cons_succ]
  refine wpAnyH_ready (rs := [7]) (by kernel_rfl) (by simp) ?_
  refine (AllReadyH.cons (o := ⟨some 35, _, _, _, _, _⟩) rfl (fun K hK => ?_) AllReadyH.nil)
  go_simp
  refine (PT.out _ wzB.out).mono ?_
  rintro e w4 ⟨D, z, rfl, hrow, kk⟩
  have w4B : Hid (Below w3.heap.size w3 w4) := wzB.out.trans (kk.mono wzB.out.size)
  have H4 := H3.out.step w4B.out
  obtain ⟨Fs, hst, hpp⟩ := H4.staged
  obtain ⟨w5, hup, hm5, ht5⟩ := hst.store (t := 107) (e := 22) (by kernel_rfl) (by kernel_rfl) HI.out (by decide) (.slice D m.length z)
  have t5 := Wk.Turn.of_map ht5 H4.lows
  have HROW : Om.Row w5 0 D z m := t5.row (hrow.base (Nat.zero_le _))
  have H5 := Lib.hid (H4.turnS (P := fun j => if j = i then some m else S.P j) hm5 (fun j hj => by
    by_cases e : j = i
    · simp only [if_pos e]
      exact ⟨(fun h => by cases h), (fun m' hm' => by cases hm'; exact ⟨D, z, rfl, HROW⟩)⟩
    · simp only [if_neg e]
      refine ⟨(hpp j hj).1, fun m' hm' => ?_⟩
      obtain ⟨B', q', e1, hr⟩ := (hpp j hj).2 m' hm'
      exact ⟨B', q', e1, t5.row hr⟩) ht5)
  have T5 := Lib.hid ((T3.out.step w4B.out).trans t5)
  have M4 := Lib.hid H4.cell.2.2.1
  have M5 := Lib.hid H5.out.cell.2.2.1
  clear hrow kk wzB hst hpp hm5 ht5 t5 HROW H4
  refine hK.out _ _ M4.out (fun hHeld => ?_)
  clear hK K
  refine wpAnyH_ready (rs := [8]) (by kernel_rfl) (by simp) ?_
  refine (AllReadyH.cons (o := ⟨none, _, _, _, _, _⟩) rfl (fun K hK => ?_) AllReadyH.nil)
  go_simp
  refine hK.out _ _ M5.out (fun hHeld => ?_)
  clear hK K
  refine wpAnyH_done (by kernel_rfl) ?_ _
  clear hHeld
  go_wp2
  go_ret
  exact ⟨rfl, ⟨A3, c3, H5.out⟩, T5.out⟩
end Go.Proofs.YtiehcplepneajaaGreatDoor

/-
  walk's pairs: what a bucket has in the end.
-/
namespace Go.Proofs.YtiehcplepneajaaGreatDoor
open Go.RowKit Go.Maps Go.Sort
namespace Wk
/-- v, ok := m[i]. -/
theorem look_ok {P : Program} {k t e : TypeId} {w : World} {b N : Nat} {F : Nat → Option Value} (h : Dk.MapAt P k w b N F) (hk : P.underlying k = some (.int .i64)) (ht : P.underlying t = some (.map k e)) {z : Value} (hz : (zeroValue e).run P w = .ok z w) {i : Nat} (hi : i < N) (hN : N ≤ 4096) :
    (Instr.lookup t (.map (some b)) (.int .i64 (i : Int)) true).run P w = .ok (.tuple #[(F i).getD z, .bool (F i).isSome]) w := by
  obtain ⟨D, h, hR⟩ := h
  obtain ⟨v, ps, hrun, hvv⟩ := h.look_ok (Go.Maps.int_keyed hk) ht hz (show Dk.hv z = some (.held z, []) from rfl) (Dk.keyOf_nat hk (show i ≤ 9223372036854775807 by omega))
  rw [hR.look hi z] at hvv
  simp only [Dk.hv, Option.some.injEq, Prod.mk.injEq, DataW.held.injEq] at hvv
  rw [hrun, hvv.1, hR.has i hi]
/-- What is staged are pages. -/
def Good (S : St) : Prop := ∀ (i : Nat) (m : List Om.Pr), S.P i = some m → Bu.pageE (i : Int) m = 0
theorem Good.page {S : St} (h : Good S) {i : Nat} {m : List Om.Pr} (hp : Bu.pageE (i : Int) m = 0) : Good (page S i m) := fun j m' hm => by
  change (if j = i then some m else S.P j) = some m' at hm
  by_cases e : j = i
  · rw [if_pos e] at hm; cases hm; rw [e]; exact hp
  · rw [if_neg e] at hm; exact h j m' hm
end Wk
set_option maxRecDepth 100000 in
set_option maxHeartbeats 4000000 in
theorem wkPairs_any {w W : World} (G : Tr.Gd w) {r rt mw ms : Nat} {A : Option Addr} {c : Nat} {l : List Om.Pr} {root : List UInt8} {S : Wk.St} (h : Wk.WAt w W r rt mw ms A c l root S) (hG : Wk.Good S) {i : Nat} (hi : i < 16) :
    Calls Tryz.prog 66 #[.pointer (some ⟨r, 0, none⟩), .int .i64 (i : Int)] W fun e w' => ∃ B q, e = .returned (.slice B (Wk.partOf l S i).length q) ∧ Om.Row w' W.heap.size B q (Wk.partOf l S i) ∧ Below W.heap.size W w' := by
  obtain ⟨c0, -, cs, -⟩ := h.cell
  obtain ⟨Fs, hst, hpp⟩ := h.staged
  cases hP : S.P i with
  | none =>
    have LK : Hid ((Instr.lookup 107 (.map (some ms)) (.int .i64 (i : Int)) true).run Tryz.prog W = .ok (.tuple #[.slice none 0 0, .bool false]) W) := by
      have := Wk.look_ok hst (t := 107) (e := 22) (z := .slice none 0 0) (by kernel_rfl) (by kernel_rfl) (by kernel_rfl) hi (by decide)
      rw [(hpp i hi).1 hP] at this
      exact this
    have PA : Hid (Calls Tryz.prog 60 #[.pointer (some ⟨rt, 0, none⟩), .int .i64 (i : Int)] W fun e w' => ∃ B q, e = .returned (.slice B (Wk.partOf l S i).length q) ∧ Om.Row w' W.heap.size B q (Wk.partOf l S i) ∧ Below W.heap.size W w') := by
      have e : Wk.partOf l S i = Bu.part l i := by unfold Wk.partOf; rw [hP]; rfl
      rw [e]
      exact h.ow.pairsC hi
    have q1 := LK.out
    generalize Wk.partOf l S i = M at PA ⊢
    clear h hG hst hpp G hP
    go_enter Tryz.func66, Tryz.ntmps66
    go_wp2_with first
      | (go_at_call 60; refine PA.out.mono ?_; rintro e w1 ⟨B, q, rfl, hr, k1⟩; have HR := Lib.hid hr; have B1 := Lib.hid k1; clear hr k1)
    go_ret
    exact ⟨B, q, rfl, HR.out, B1.out⟩
  | some m =>
    obtain ⟨B0, q0, e0, hrow⟩ := (hpp i hi).2 m hP
    have hp := hG i m hP
    obtain ⟨hi0, hmay, hall, h48⟩ := Bu.pageE_ok hp
    have LK : Hid ((Instr.lookup 107 (.map (some ms)) (.int .i64 (i : Int)) true).run Tryz.prog W = .ok (.tuple #[.slice B0 m.length q0, .bool true]) W) := by
      have := Wk.look_ok hst (t := 107) (e := 22) (z := .slice none 0 0) (by kernel_rfl) (by kernel_rfl) (by kernel_rfl) hi (by decide)
      rw [e0] at this
      exact this
    have PA : Hid (Calls Tryz.prog 75 #[.slice B0 m.length q0, .int .i64 (i : Int)] W fun e w' => ∃ B q, e = .returned (.slice B (Wk.partOf l S i).length q) ∧ Om.Row w' W.heap.size B q (Wk.partOf l S i) ∧ Below W.heap.size W w') := by
      have e : Wk.partOf l S i = m := by unfold Wk.partOf; rw [hP]; rfl
      rw [e]
      have g := G.low h.ow.bel
      have := buPart_any g.H g.K g.sz q0 hrow.listAt (by omega) (fun x hx => by have := Bu.fair_len ((Bu.may_iff.1 hmay).1 x hx); rw [Ba.ba_size, Ba.ba_size] at this; omega) (i : Int)
      rw [Bu.part_same hall] at this
      exact this
    have q1 := LK.out
    generalize Wk.partOf l S i = M at PA ⊢
    generalize m.length = n0 at q1 LK PA
    clear h hG hst hpp G hP e0 hrow hp hi0 hmay hall h48
    go_enter Tryz.func66, Tryz.ntmps66
    go_wp2_with first
      | (go_at_call 75; refine PA.out.mono ?_; rintro e w1 ⟨B, q, rfl, hr, k1⟩; have HR := Lib.hid hr; have B1 := Lib.hid k1; clear hr k1)
    go_ret
    exact ⟨B, q, rfl, HR.out, B1.out⟩
end Go.Proofs.YtiehcplepneajaaGreatDoor

/-
  A nil walk's take, Node, Page.
-/
namespace Go.Proofs.YtiehcplepneajaaGreatDoor
open Go.RowKit
set_option maxRecDepth 100000 in
set_option maxHeartbeats 2000000 in
theorem wkTake_nil (w : World) (cs : Array Value) (a : Int × Int) (t : ByteArray) : Calls Tryz.prog 71 #[.pointer none, Wk.enc a, .agg cs, .string t] w fun e w' => e = .returned (.bool false) ∧ Below w.heap.size w w' := by
  have B2 : Hid (Below w.heap.size w ((w.alloc (.cells #[.int .i64 a.1, .int .i64 a.2] 54)).alloc (.cells cs 36))) := ((Below.refl _ w).alloc (Nat.le_refl _) _).alloc (by simp) _
  go_enter Tryz.func71, Tryz.ntmps71
  go_wp2
  go_ret
  exact ⟨rfl, B2.out⟩
set_option maxRecDepth 100000 in
set_option maxHeartbeats 8000000 in
theorem wkNode_nil4 {W : World} (G : Tr.Gd W) {n1 n2 : Int} (hn : n1 < 4) {a b : List UInt8} (ha : a.length = 32) (hb : b.length = 32) :
    Calls Tryz.prog 29 #[.pointer none, .int .i64 n1, .int .i64 n2, .agg (Lib.byteCells a).toArray, .agg (Lib.byteCells b).toArray] W fun e w' => e = .returned (.bool false) ∧ Below W.heap.size W w' := by
  obtain ⟨N, hN⟩ : ∃ N, N = W.heap.size := ⟨_, rfl⟩
  obtain ⟨w2, hw2⟩ : ∃ w2, w2 = (W.alloc (.cells (Lib.byteCells a).toArray 36)).alloc (.cells (Lib.byteCells b).toArray 36) := ⟨_, rfl⟩
  have b2 : Below W.heap.size W w2 := by rw [hw2]; exact ((Below.refl _ W).alloc (Nat.le_refl _) _).alloc (by simp) _
  have g0 : w2.heap[N]? = some (.cells (Lib.byteCells a).toArray 36 (0, 0)) := by rw [hw2, hN, Below.heap_alloc _ _ _ (by simp)]; exact heap_alloc_new _ _
  have g1 : w2.heap[N + 1]? = some (.cells (Lib.byteCells b).toArray 36 (0, 0)) := by
    have := heap_alloc_new (W.alloc (.cells (Lib.byteCells a).toArray 36)) (.cells (Lib.byteCells b).toArray 36)
    rw [hw2, hN]
    simpa using this
  have hN1 : (W.alloc (.cells (Lib.byteCells a).toArray 36)).heap.size = N + 1 := by rw [hN]; simp
  have HB2 := Lib.hid b2
  have HG0 := Lib.hid g0
  have HG1 := Lib.hid g1
  have HLA := Lib.hid ha
  have HLB := Lib.hid hb
  have HE1 : Hid ((⟨#[78]⟩ ++ Tr.tx a : ByteArray) = Tr.tx (78 :: a)) := by have := Tr.tx_cat [78] (Tr.tx a); rw [Tr.tx_list] at this; exact this
  have HE2 : Hid ((Tr.tx (78 :: a) ++ Tr.tx b : ByteArray) = Tr.tx (Tr.innerT a b)) := Tr.tx_tx _ _
  have HZ1 : Hid ((Tr.tx a).size = 32) := by show _ = _; rw [Tr.tx_size, ha]
  have HZ2 : Hid ((Tr.tx b).size = 32) := by show _ = _; rw [Tr.tx_size, hb]
  have HZ3 : Hid ((Tr.tx (78 :: a)).size = 33) := by show _ = _; rw [Tr.tx_size, List.length_cons, ha]
  have IN : Hid (∀ wx : World, Below w2.heap.size w2 wx → Calls Tryz.prog 72 #[.agg (Lib.byteCells a).toArray, .agg (Lib.byteCells b).toArray] wx fun e w' => e = .returned (.agg (Lib.byteCells (Sm.sum (Tr.innerT a b))).toArray) ∧ Below wx.heap.size wx w') := fun wx k => by
    have g := G.low (HB2.out.trans (k.mono HB2.out.size))
    exact tInner_any g.H g.K g.sz a b ha hb
  have TK : Hid (∀ wx : World, Below w2.heap.size w2 wx → Calls Tryz.prog 71 #[.pointer none, .agg #[.int .i64 n1, .int .i64 n2], .agg (Lib.byteCells (Sm.sum (Tr.innerT a b))).toArray, .string (Tr.tx (Tr.innerT a b))] wx fun e w' => e = .returned (.bool false) ∧ Below wx.heap.size wx w') := fun wx k => wkTake_nil wx _ (n1, n2) _
  have hn4 : ¬ (4 : Int) ≤ n1 := by omega
  have hn5 : ¬ n1 ≥ 4 := by omega
  clear G b2 g0 g1 ha hb hn
  go_enter Tryz.func29, Tryz.ntmps29
  go_upto_region 1 with (fail)
  change Code.wp _ _ _ _ ((W.alloc (.cells (Lib.byteCells a).toArray 36)).alloc (.cells (Lib.byteCells b).toArray 36))
  rw [← hw2, ← hN]
  clear hw2 hN hN1
  refine wp_region_held_drew (S := fun w' => w'.heap[N]? = some (.cells (Lib.byteCells a).toArray 36 (0, 0)) ∧ w'.heap[N + 1]? = some (.cells (Lib.byteCells b).toArray 36 (0, 0))) (by kernel_rfl) ⟨HG0.out, HG1.out⟩ (fun hHeld => ?_)
  obtain ⟨wz, hwz⟩ : ∃ W, W = w2.drew := ⟨_, rfl⟩
  have wzB : Hid (Below w2.heap.size w2 wz) := by rw [hwz]; exact (Below.refl _ _).drew
  rw [← hwz] at hHeld ⊢
  clear hwz
  refine wpAnyH_take (i := 0) (oi := ⟨some 11, _, _, _, _, _⟩) (v := .int .i64 n1) rfl (by kernel_rfl) (by kernel_rfl) (by kernel_rfl) (fun _ _ _ h => h) (Or.inl ⟨by rfl, ?_⟩) (by assumption) ?_
  · intro w hSw; (try dsimp only at hSw); go_simp
  simp only [Act.put, List.setIfInBounds_toArray, List.set_cons_zero, List.set_cons_succ]
  refine wpAnyH_take (i := 1) (oi := ⟨some 12, _, _, _, _, _⟩) (v := .bool false) rfl (by kernel_rfl) (by kernel_rfl) (by kernel_rfl) (fun _ _ _ h => h) (Or.inl ⟨by rfl, ?_⟩) (by assumption) ?_
  · intro w hSw; (try dsimp only at hSw); go_simp
  simp only [Act.put, List.setIfInBounds_toArray, List.set_cons_zero, List.set_cons_succ]
  refine wpAnyH_take (i := 2) (oi := ⟨some 13, _, _, _, _, _⟩) (v := .bool false) rfl (by kernel_rfl) (by kernel_rfl) (by kernel_rfl) (fun _ _ _ h => h) (Or.inl ⟨by rfl, ?_⟩) (by assumption) ?_
  · intro w hSw; (try dsimp only at hSw); go_simp
  simp only [Act.put, List.setIfInBounds_toArray, List.set_cons_zero, List.set_cons_succ]
  refine wpAnyH_take (i := 3) (oi := ⟨some 14, _, _, _, _, _⟩) (v := .pointer none) rfl (by kernel_rfl) (by kernel_rfl) (by kernel_rfl) (fun _ _ _ h => h) (Or.inl ⟨by rfl, ?_⟩) (by assumption) ?_
  · intro w hSw; (try dsimp only at hSw); go_simp
  simp only [Act.put, List.setIfInBounds_toArray, List.set_cons_zero, List.set_cons_succ]
  refine wpAnyH_take (i := 4) (oi := ⟨some 15, _, _, _, _, _⟩) (v := .int .i64 n1) rfl (by kernel_rfl) (by kernel_rfl) (by kernel_rfl) (fun _ _ _ h => h) (Or.inl ⟨by rfl, ?_⟩) (by assumption) ?_
  · intro w hSw; (try dsimp only at hSw); go_simp
  simp only [Act.put, List.setIfInBounds_toArray, List.set_cons_zero, List.set_cons_succ]
  refine wpAnyH_take (i := 5) (oi := ⟨some 16, _, _, _, _, _⟩) (v := .int .i64 n2) rfl (by kernel_rfl) (by kernel_rfl) (by kernel_rfl) (fun _ _ _ h => h) (Or.inl ⟨by rfl, ?_⟩) (by assumption) ?_
  · intro w hSw; (try dsimp only at hSw); go_simp
  simp only [Act.put, List.setIfInBounds_toArray, List.set_cons_zero, List.set_cons_succ]
  refine wpAnyH_take (i := 6) (oi := ⟨some 17, _, _, _, _, _⟩) (v := .agg #[.int .i64 n1, .int .i64 n2]) rfl (by kernel_rfl) (by kernel_rfl) (by kernel_rfl) (fun _ _ _ h => h) (Or.inl ⟨by rfl, ?_⟩) (by assumption) ?_
  · intro w hSw; (try dsimp only at hSw); go_simp
  simp only [Act.put, List.setIfInBounds_toArray, List.set_cons_zero, List.set_cons_succ]
  refine wpAnyH_take (i := 7) (oi := ⟨some 18, _, _, _, _, _⟩) (v := .agg (Lib.byteCells a).toArray) rfl (by kernel_rfl) (by kernel_rfl) (by kernel_rfl) (fun _ _ _ h => h) (yieldsIf_load_mid (by rfl) _ _ rfl _ _ rfl (Lib.byteCells a) _ (fun w hS => (Sm.range_row hS.1)) Tryz.underlying36 rfl (Sm.infoHash (Tr.size32 HLA.out))) (by assumption) ?_
  simp only [Act.put, List.setIfInBounds_toArray, List.set_cons_zero, List.set_cons_succ]
  refine wpAnyH_take (i := 8) (oi := ⟨some 19, _, _, _, _, _⟩) (v := .agg (Lib.byteCells b).toArray) rfl (by kernel_rfl) (by kernel_rfl) (by kernel_rfl) (fun _ _ _ h => h) (yieldsIf_load_mid (by rfl) _ _ rfl _ _ rfl (Lib.byteCells b) _ (fun w hS => (Sm.range_row hS.2)) Tryz.underlying36 rfl (Sm.infoHash (Tr.size32 HLB.out))) (by assumption) ?_
  simp only [Act.put, List.setIfInBounds_toArray, List.set_cons_zero, List.set_cons_succ]
  refine wpAnyH_take (i := 10) (oi := ⟨some 21, _, _, _, _, _⟩) (v := .slice (some ⟨N, 0, none⟩) 32 32) rfl (by kernel_rfl) (by kernel_rfl) (by kernel_rfl) (fun _ _ _ h => h) (Or.inl ⟨by rfl, ?_⟩) (by assumption) ?_
  · intro w hSw; (try dsimp only at hSw); go_simp
  simp only [Act.put, List.setIfInBounds_toArray, List.set_cons_zero, List.set_cons_succ]
  refine wpAnyH_take (i := 11) (oi := ⟨some 22, _, _, _, _, _⟩) (v := .string (Tr.tx a)) rfl (by kernel_rfl) (by kernel_rfl) (by kernel_rfl) (fun _ _ _ h => h) (Or.inl ⟨by rfl, ?_⟩) (by assumption) ?_
  · intro w hSw; (try dsimp only at hSw); have q1 : (convert 127 9 (.slice (some ⟨N, 0, none⟩) 32 32)).run Tryz.prog w = .ok (.string (Tr.tx a)) w := Sm.conv_row (w := w) hSw.1 HLA.out; go_simp
  simp only [Act.put, List.setIfInBounds_toArray, List.set_cons_zero, List.set_cons_succ]
  refine wpAnyH_take (i := 12) (oi := ⟨some 23, _, _, _, _, _⟩) (v := .string (Tr.tx (78 :: a))) rfl (by kernel_rfl) (by kernel_rfl) (by kernel_rfl) (fun _ _ _ h => h) (Or.inl ⟨by rfl, ?_⟩) (by assumption) ?_
  · intro w hSw; (try dsimp only at hSw); have q1 := HE1.out; have q2 := HZ1.out; go_simp
  simp only [Act.put, List.setIfInBounds_toArray, List.set_cons_zero, List.set_cons_succ]
  refine wpAnyH_take (i := 13) (oi := ⟨some 24, _, _, _, _, _⟩) (v := .slice (some ⟨N + 1, 0, none⟩) 32 32) rfl (by kernel_rfl) (by kernel_rfl) (by kernel_rfl) (fun _ _ _ h => h) (Or.inl ⟨by rfl, ?_⟩) (by assumption) ?_
  · intro w hSw; (try dsimp only at hSw); go_simp
  simp only [Act.put, List.setIfInBounds_toArray, List.set_cons_zero, List.set_cons_succ]
  refine wpAnyH_take (i := 14) (oi := ⟨some 25, _, _, _, _, _⟩) (v := .string (Tr.tx b)) rfl (by kernel_rfl) (by kernel_rfl) (by kernel_rfl) (fun _ _ _ h => h) (Or.inl ⟨by rfl, ?_⟩) (by assumption) ?_
  · intro w hSw; (try dsimp only at hSw); have q1 : (convert 127 9 (.slice (some ⟨N + 1, 0, none⟩) 32 32)).run Tryz.prog w = .ok (.string (Tr.tx b)) w := Sm.conv_row (w := w) hSw.2 HLB.out; go_simp
  simp only [Act.put, List.setIfInBounds_toArray, List.set_cons_zero, List.set_cons_succ]
  refine wpAnyH_take (i := 15) (oi := ⟨some 26, _, _, _, _, _⟩) (v := .string (Tr.tx (Tr.innerT a b))) rfl (by kernel_rfl) (by kernel_rfl) (by kernel_rfl) (fun _ _ _ h => h) (Or.inl ⟨by rfl, ?_⟩) (by assumption) ?_
  · intro w hSw; (try dsimp only at hSw); have q1 := HE2.out; have q2 := HZ2.out; have q3 := HZ3.out; go_simp
  simp only [Act.put, List.setIfInBounds_toArray, List.set_cons_zero, List.set_cons_succ]
  refine wpAnyH_ready (rs := [9]) (by kernel_rfl) (by simp) ?_
  refine (AllReadyH.cons (o := ⟨some 20, _, _, _, _, _⟩) rfl (fun K hK => ?_) AllReadyH.nil)
  go_simp
  refine (IN.out _ wzB.out).mono ?_
  rintro e w3 ⟨rfl, kk⟩
  have w3B : Hid (Below w2.heap.size w2 w3) := wzB.out.trans (kk.mono wzB.out.size)
  have M3 : Hid (w3.heap[N]? = some (.cells (Lib.byteCells a).toArray 36 (0, 0)) ∧ w3.heap[N + 1]? = some (.cells (Lib.byteCells b).toArray 36 (0, 0))) := ⟨(w3B.out.block _ (Sm.lt_of HG0.out)).trans HG0.out, (w3B.out.block _ (Sm.lt_of HG1.out)).trans HG1.out⟩
  clear kk wzB
  refine hK.out _ _ M3.out (fun hHeld => ?_)
  clear hK K
  refine wpAnyH_ready (rs := [16]) (by kernel_rfl) (by simp) ?_
  refine (AllReadyH.cons (o := ⟨some 27, _, _, _, _, _⟩) rfl (fun K hK => ?_) AllReadyH.nil)
  go_simp
  refine (TK.out _ w3B.out).mono ?_
  rintro e w4 ⟨rfl, kk⟩
  have w4B : Hid (Below w2.heap.size w2 w4) := w3B.out.trans (kk.mono w3B.out.size)
  have M4 : Hid (w4.heap[N]? = some (.cells (Lib.byteCells a).toArray 36 (0, 0)) ∧ w4.heap[N + 1]? = some (.cells (Lib.byteCells b).toArray 36 (0, 0))) := ⟨(w4B.out.block _ (Sm.lt_of HG0.out)).trans HG0.out, (w4B.out.block _ (Sm.lt_of HG1.out)).trans HG1.out⟩
  clear kk
  refine hK.out _ _ M4.out (fun hHeld => ?_)
  clear hK K
  refine wpAnyH_take (i := 17) (oi := ⟨some 28, _, _, _, _, _⟩) (v := .bool true) rfl (by kernel_rfl) (by kernel_rfl) (by kernel_rfl) (fun _ _ _ h => h) (Or.inl ⟨by rfl, ?_⟩) (by assumption) ?_
  · intro w hSw; (try dsimp only at hSw); go_simp
  simp only [Act.put, List.setIfInBounds_toArray, List.set_cons_zero, List.set_cons_succ]
  refine wpAnyH_take (i := 18) (oi := ⟨some 29, _, _, _, _, _⟩) (v := .bool true) rfl (by kernel_rfl) (by kernel_rfl) (by kernel_rfl) (fun _ _ _ h => h) (Or.inl ⟨by rfl, ?_⟩) (by assumption) ?_
  · intro w hSw; (try dsimp only at hSw); go_simp
  simp only [Act.put, List.setIfInBounds_toArray, List.set_cons_zero, List.set_cons_succ]
  refine wpAnyH_done (by kernel_rfl) ?_ _
  clear hHeld
  go_wp2
  go_ret
  exact ⟨rfl, HB2.out.trans (w4B.out.mono HB2.out.size)⟩
theorem wkNode_nil {W : World} (G : Tr.Gd W) (n1 n2 : Int) {a b : List UInt8} (ha : a.length = 32) (hb : b.length = 32) :
    Calls Tryz.prog 29 #[.pointer none, .int .i64 n1, .int .i64 n2, .agg (Lib.byteCells a).toArray, .agg (Lib.byteCells b).toArray] W fun e w' => e = .returned (.bool false) ∧ Below W.heap.size W w' := by
  by_cases h : n1 < 4
  · exact wkNode_nil4 G h ha hb
  · exact wkNode_deep W none n1 n2 (by omega) a b
set_option maxRecDepth 100000 in
set_option maxHeartbeats 8000000 in
theorem wkPage_nil0 {W : World} (G : Tr.Gd W) {i : Int} {B : Option Addr} {m : List Om.Pr} (q : Nat) (hit : Om.listAt W B m) (hp : Bu.pageE i m = 0) :
    Calls Tryz.prog 30 #[.pointer none, .int .i64 i, .slice B m.length q] W fun e w' => e = .returned (.bool false) ∧ Below W.heap.size W w' := by
  obtain ⟨hi0, hmay, hall, h48⟩ := Bu.pageE_ok hp
  have hfair := (Bu.may_iff.1 hmay).1
  have hpart := Bu.part_same hall
  have gW := G
  have PG : Hid (Calls Tryz.prog 73 #[.int .i64 i, .slice B m.length q] W fun e w' => e = .returned (.tuple #[.string (Tr.tx (Bu.bytes m)), .int .i64 0]) ∧ Below W.heap.size W w') := by
    have := buPage_any gW.H gW.K gW.sz i q hit (by omega) (fun x hx => by have := Bu.fair_len (hfair x hx); rw [Ba.ba_size] at this; omega)
    rw [Bu.page_good hp] at this
    exact this
  have hbl : (Tr.tx (Bu.bytes m)).size ≤ 1000000000000000000 := by
    have q1 := Bu.prsB_len hfair
    have q2 := R12.enc_len (n := m.length) (by omega)
    rw [Tr.tx_size]
    unfold Bu.bytes
    rw [List.length_append]
    omega
  obtain ⟨P, hP⟩ : ∃ t, t = Tr.tx (Bu.bytes m) := ⟨_, rfl⟩
  obtain ⟨T, hT⟩ : ∃ t, t = Tr.tx (Wk.pageT m) := ⟨_, rfl⟩
  have HCAT : Hid ((⟨#[76]⟩ ++ P : ByteArray) = T) := by
    show _ = _
    rw [hP, hT]
    have := Tr.tx_cat [76] (Tr.tx (Bu.bytes m))
    rw [Tr.tx_list] at this
    exact this
  have HPS : Hid (P.size ≤ 1000000000000000000) := by show _ ≤ _; rw [hP]; exact hbl
  have LF : Hid (∀ wx : World, Below W.heap.size W wx → Calls Tryz.prog 74 #[.string P] wx fun e w' => e = .returned (.agg (Lib.byteCells (Sm.sum (Wk.pageT m))).toArray) ∧ Below wx.heap.size wx w') := fun wx k => by
    have g := gW.low k
    have := tLeaf_any g.H g.K g.sz P (by rw [hP]; omega)
    rw [hP, Tr.tx_list] at this
    rw [hP]
    exact this
  have TK : Hid (∀ wx : World, Below W.heap.size W wx → Calls Tryz.prog 71 #[.pointer none, .agg #[.int .i64 4, .int .i64 i], .agg (Lib.byteCells (Sm.sum (Wk.pageT m))).toArray, .string T] wx fun e w' => e = .returned (.bool false) ∧ Below wx.heap.size wx w') := fun wx k => wkTake_nil wx _ (4, i) _
  rw [← hP] at PG
  obtain ⟨X, hX⟩ : ∃ x, x = Lib.byteCells (Sm.sum (Wk.pageT m)) := ⟨_, rfl⟩
  rw [← hX] at LF TK
  clear hi0 hmay hall h48 hfair hpart gW hT hX hbl hP hp hit G
  go_enter Tryz.func30, Tryz.ntmps30
  go_wp2_with first
    | (go_at_call 73; refine PG.out.mono ?_; rintro e w1 ⟨rfl, k1⟩; have B1 := Lib.hid k1; clear k1)
    | (go_at_call 74; refine (LF.out _ B1.out).mono ?_; rintro e w2 ⟨rfl, k2⟩; have B2 := Lib.hid (B1.out.trans (k2.mono B1.out.size)); clear k2; have q1 := HCAT.out; have q2 := HPS.out)
    | (go_at_call 71; refine (TK.out _ B2.out).mono ?_; rintro e w3 ⟨rfl, k3⟩; have B3 := Lib.hid (B2.out.trans (k3.mono B2.out.size)); clear k3)
  go_ret
  exact ⟨rfl, B3.out⟩
theorem wkPage_nil {w : World} (G : Tr.Gd w) (i : Int) {B : Option Addr} {m : List Om.Pr} (q : Nat) (hit : Om.listAt w B m) (hn : m.length ≤ 1000000) (hs : ∀ x ∈ m, x.p.size ≤ 281474976710656) :
    Calls Tryz.prog 30 #[.pointer none, .int .i64 i, .slice B m.length q] w fun e w' => e = .returned (.bool false) ∧ Below w.heap.size w w' := by
  by_cases hp : Bu.pageE i m = 0
  · exact wkPage_nil0 G q hit hp
  · exact wkPage_bad G none i q hit hn hs hp
end Go.Proofs.YtiehcplepneajaaGreatDoor

/-
  walk's Want: what is asked for, the first of it; nil too.
-/
namespace Go.Proofs.YtiehcplepneajaaGreatDoor
open Go.RowKit
theorem wkKeys_any (w : World) (b : Nat) : Calls Tryz.prog 64 #[.map (some b)] w fun e w' => e = .returned (.func (.func 96) #[] #[.pointer (some ⟨w.heap.size, 0, none⟩)]) ∧ w' = w.alloc (.cells #[.map (some b)] 106) := by
  go_enter Tryz.func64, Tryz.ntmps64
  go_wp2
  go_ret
  exact ⟨rfl, rfl⟩
set_option maxHeartbeats 4000000 in
theorem wkSorted_any {w : World} {Bm b : Nat} {G : Nat → Option Value} (hBm : Bm < w.heap.size) (hm : w.cell? ⟨Bm, 0, none⟩ = some (.map (some b))) (hown : Wk.MapAt w b G) :
    Calls Tryz.prog 63 #[.func (.func 96) #[] #[.pointer (some ⟨Bm, 0, none⟩)], .func (.func 65) #[] #[]] w fun e w' => ∃ A c, e = .returned (.slice A (Wk.places G).length c) ∧ (Wk.places G).length ≤ c ∧ (A = none → c = 0) ∧ Wk.askAt w' A (Wk.places G) ∧ Below w.heap.size w w' := by
  have CO : Hid (Calls Tryz.prog 94 #[.func (.func 96) #[] #[.pointer (some ⟨Bm, 0, none⟩)]] w fun e w' => ∃ A c, e = .returned (.slice A (Wk.places G).length c) ∧ (Wk.places G).length ≤ c ∧ (A = none → c = 0) ∧ Below w.heap.size w w' ∧ Calls Tryz.prog 95 #[.slice A (Wk.places G).length c, .func (.func 65) #[] #[]] w' fun e w'' => e = .returned (.tuple #[]) ∧ Wk.askAt w'' A (Wk.places G) ∧ Below w.heap.size w' w'') := by
    refine (wkCollect_any hBm hm hown).mono ?_
    rintro e w' ⟨v, ss, rfl, hp, hrow, hb⟩
    have hl : ss.length = (Wk.places G).length := hp.length_eq
    have hle : (Wk.places G).length ≤ 31 := by
      unfold Wk.places
      exact Nat.le_trans (List.length_filter_le _ _) (by simp)
    rcases hrow.2 with ⟨e1, e2⟩ | ⟨g, cap, cur, e1, -, -, hcap, -⟩
    · subst e1
      refine ⟨none, 0, by rw [← hl, e2], by rw [← hl, e2]; exact Nat.le_refl 0, fun _ => rfl, hb, ?_⟩
      have hr : Wk.ARow w' w.heap.size none 0 ss := by show World.ownsRow _ _ _ _ _ _ _; rw [e2]; rw [e2] at hrow; exact hrow
      have := wkSort_any hr hb.size hp (by omega)
      rw [hl] at this
      exact this
    · subst e1
      refine ⟨some ⟨g, 0, none⟩, cap, by rw [← hl], by rw [← hl]; exact hcap, (fun e => by cases e), hb, ?_⟩
      have hr : Wk.ARow w' w.heap.size (some ⟨g, 0, none⟩) cap ss := hrow
      have := wkSort_any hr hb.size hp (by omega)
      rw [hl] at this
      exact this
  clear hm hown
  go_enter Tryz.func63, Tryz.ntmps63
  go_wp2_with (first
    | (go_at_call 94; refine CO.out.mono ?_; rintro e w1 ⟨A, c, rfl, hle, hA0, hb, SO⟩; have SO2 := Lib.hid SO; clear SO; have HB := Lib.hid hb; clear hb)
    | (go_at_call 95; refine SO2.out.mono ?_; rintro e w2 ⟨rfl, hs, hb2⟩; have HS := Lib.hid hs; clear hs; have HB2 := Lib.hid hb2; clear hb2))
  go_ret
  exact ⟨A, c, rfl, hle, hA0, HS.out, HB.out.trans (HB2.out.mono (Nat.le_refl _))⟩
namespace Wk
theorem places_wants (S : St) : places (fun k => (S.W k).map Tr.hv) = wants S := by
  unfold places wants
  congr 1
  funext k
  show ((S.W k).map Tr.hv).isSome = (S.W k).isSome
  cases S.W k <;> rfl
theorem wants_length (S : St) : (wants S).length ≤ 31 := by
  unfold wants
  exact Nat.le_trans (List.length_filter_le _ _) (by simp)
end Wk
set_option maxHeartbeats 4000000 in
theorem wkWant_any {w W : World} {r rt mw ms : Nat} {A : Option Addr} {c : Nat} {l : List Om.Pr} {root : List UInt8} {S : Wk.St} (h : Wk.WAt w W r rt mw ms A c l root S) (n : Int) :
    Calls Tryz.prog 22 #[.pointer (some ⟨r, 0, none⟩), .int .i64 n] W fun e w' => ∃ B q, e = .returned (.slice B ((Wk.wants S).take n.toNat).length q) ∧ ((Wk.wants S).take n.toNat).length ≤ q ∧ (B = none → q = 0) ∧ Wk.askAt w' B ((Wk.wants S).take n.toNat) ∧ Below W.heap.size W w' := by
  obtain ⟨-, hc, -⟩ := h.cell
  have hmw := h.wanted.lt
  obtain ⟨W1, hW1⟩ : ∃ W1, W1 = W.alloc (.cells #[.map (some mw)] 106) := ⟨_, rfl⟩
  have hb1 : Below W.heap.size W W1 := by rw [hW1]; exact (Below.refl _ W).alloc (Nat.le_refl _) _
  have hN : W1.heap[W.heap.size]? = some (.cells #[.map (some mw)] 106 (0, 0)) := by rw [hW1]; exact heap_alloc_new _ _
  have h1 := h.step hb1
  have SO := Lib.hid (wkSorted_any (Sm.lt_of hN) (Sm.cells_of hN 0 _ rfl) h1.wanted)
  rw [Wk.places_wants] at SO
  have HL := Lib.hid (Wk.wants_length S)
  have HB1 := Lib.hid hb1
  generalize Wk.wants S = L at SO HL ⊢
  have HW1 := Lib.hid hW1
  clear h hmw hb1 hN h1 hW1
  go_enter Tryz.func22, Tryz.ntmps22
  go_wp2_with (first
    | (go_at_call 64; refine (wkKeys_any W mw).mono ?_; rintro e w1 ⟨rfl, e1⟩; rw [← HW1.out] at e1; rw [e1]; clear e1)
    | (go_at_call 63; refine SO.out.mono ?_; rintro e w2 ⟨B, q, rfl, hle, hA0, hs, hb⟩; have HS := Lib.hid hs; clear hs; have HB := Lib.hid hb; clear hb; have HL2 := HL.out))
  go_ret
  have hl : (min (max n 0) (L.length : Int)).toNat = (L.take n.toNat).length := by rw [List.length_take]; omega
  refine ⟨B, q, by rw [hl]; rfl, by rw [← hl]; omega, hA0, HS.out.take _, Sm.low_low HB1.out (Nat.le_refl _) HB.out⟩
set_option maxHeartbeats 4000000 in
theorem wkWant_nil (W : World) (n : Int) : Calls Tryz.prog 22 #[.pointer none, .int .i64 n] W fun e w' => e = .returned (.slice none 0 0) ∧ Below W.heap.size W w' := by
  go_enter Tryz.func22, Tryz.ntmps22
  go_wp2
  go_ret
  exact ⟨rfl, Below.refl _ _⟩
end Go.Proofs.YtiehcplepneajaaGreatDoor
