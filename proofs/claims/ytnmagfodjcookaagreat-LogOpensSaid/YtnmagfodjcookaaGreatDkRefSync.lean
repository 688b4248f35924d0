/-
  The document's own disk: Sync.
-/
import Derived.Test.YtnmagfodjcookaaGreatDkRefWrite
namespace Go.Proofs.YtnmagfodjcookaaGreat
open Go.RowKit
namespace Dk
/-- Texts appended onto an empty row: a copy. -/
theorem wpList_copyT {ops : Array Oper} {rest : List Oper} {o : Oper} {a : Act} {w : World} {Q : Exit → Act → World → Prop} (hgd : o.guard = none) (s x : Operand) (ho : o.op = .call { callee := .builtin .append, args := #[s, x], argTypes := #[30, 30] })
    {A : Option Addr} {c : Nat} {l : List (List UInt8)} (h : TextsAt w 0 (.slice A l.length c) l) (h0 : l ≠ []) (hl : l.length ≤ 4096) (hs : a.eval s = .slice (some ⟨w.heap.size, 0, none⟩) 0 0) (hx : a.eval x = .slice A l.length c)
    (hK : ∀ g c' w', w'.ownsRow w.heap.size 9 1 (.slice (some ⟨g, 0, none⟩) l.length c') l.length (l.map txt) → Below w.heap.size w w' → wpList Tryz.prog ops Q rest (a.put o.dst (.slice (some ⟨g, 0, none⟩) l.length c')) w') : wpList Tryz.prog ops Q (o :: rest) a (w.alloc (.cells #[] 9)) := by
  obtain ⟨i0, hi, hz0, hz1, hz2⟩ := info_parts info3_str
  obtain ⟨A', c', e, h2⟩ := id h
  simp only [Value.slice.injEq] at e
  rcases h2 with h2 | ⟨g, e1, _, e3, _⟩
  · exact absurd h2 h0
  · have hA : A = some ⟨g, 0, none⟩ := e.1.trans e1
    subst hA
    have b1 : Below w.heap.size w (w.alloc (.cells #[] 9)) := (Below.refl _ w).alloc (Nat.le_refl _) _
    refine wpList_append_own _ hgd s x 30 ho w.heap.size 9 i0 (.string ⟨#[]⟩) 1 16 Tryz.underlying30 hi hz0 hz1 hz2 rfl (by decide) (.slice (some ⟨w.heap.size, 0, none⟩) 0 0) 0 [] hs (World.ownsRow_lit w #[] 0 (Nat.le_refl _) (by decide) rfl) ⟨g, 0, none⟩ l.length c (l.map txt) hx (by simp) (h.below b1).cellsAt (by intro u hu; simp at hu; obtain ⟨t, _, rfl⟩ := hu; rfl) (by unfold maxLen; omega) (by omega) (by simp) ?_
    intro v' w' ho' hg _
    rw [Nat.zero_add, List.nil_append] at ho'
    obtain ⟨A2, c2, rfl⟩ := Sm.own_shape ho'
    obtain ⟨g2, rfl, _⟩ := own_cells ho' (by simpa using h0)
    exact hK g2 c2 w' ho' (b1.grown hg (by simp) (fun q hq => by simp [Value.ownBlock] at hq; omega))
theorem laid_take {l : List (List UInt8)} {ws : List (Nat × List UInt8)} {k : Nat} (hk : k < ws.length) : laid l (ws.take (k + 1)) = (laid l (ws.take k)).set (ws.getD k (0, [])).1 (ws.getD k (0, [])).2 := by
  rw [List.take_succ_eq_append_getElem hk, List.getD_eq_getElem?_getD, List.getElem?_eq_getElem hk, Option.getD_some, laid, List.foldl_append]
  rfl
theorem sync_cases (M : Md) (ho : M.off = false) : ((act M).2 = false ∧ sync M = ((act M).1, 14)) ∨ ((act M).2 = true ∧ sync M = (synced (act M).1, 0)) := by
  cases ha : (act M).2 with
  | false => exact .inl ⟨rfl, by simp [sync, ho, ha]⟩
  | true => exact .inr ⟨rfl, by simp [sync, ho, ha]⟩
end Dk
set_option maxRecDepth 100000 in
set_option maxHeartbeats 1000000 in
theorem r7Sync_any (w : World) (fp : Nat → Prop) (v : Value) (M : Dk.Md) (hM : M.Ok) (h : Dk.RefAt w fp v M) (hfp : ∀ k, fp k → k < w.heap.size) (hq : Dk.waits M ≤ 1099511627775) :
    Calls Tryz.prog 62 #[v] w fun e w' => ∃ v', e = .returned (.tuple #[v', .int .i64 (Dk.sync M).2]) ∧ Dk.RefAt w' fp v' (Dk.sync M).1 ∧ Below w.heap.size w w' := by
  have H := Lib.hid h
  obtain ⟨A, c, B, d, ws, rfl, hL, hW, hk, hA, hB, hn⟩ := h
  have hcnt := hk.count
  have h4096 := hM.n
  obtain ⟨N, hN⟩ : ∃ N, N = w.heap.size := ⟨_, rfl⟩
  obtain ⟨f, hf⟩ : ∃ f, f = max M.fuse (-1) := ⟨_, rfl⟩
  obtain ⟨n, hnl⟩ : ∃ n, n = M.lasts.length := ⟨_, rfl⟩
  obtain ⟨m, hml⟩ : ∃ m, m = ws.length := ⟨_, rfl⟩
  rw [← hf, ← hnl, ← hml] at H ⊢
  cases ho : M.off with
  | true =>
    have e : Dk.sync M = (M, 14) := by simp [Dk.sync, ho]
    rw [e]
    rw [ho] at H
    clear hL hW hk hA hB hn hcnt hf hnl hml
    go_enter Tryz.func62, Tryz.ntmps62
    go_wp2
    have b2 : Below w.heap.size w ((w.alloc (.cells #[.slice A n c, .slice B m d, .int .i64 f, .bool true] 33)).alloc (.cells #[.slice A n c, .slice B m d, .int .i64 f, .bool true] 33)) := ((Below.refl _ w).alloc (Nat.le_refl _) _).alloc (by simp) _
    refine bodyPost_ret (v := .tuple #[.agg #[.slice A n c, .slice B m d, .int .i64 f, .bool true], .int .i64 14]) ((results_cell_tmp rfl _ _ _).trans (by go_simp)) rfl ⟨_, rfl, H.out.low b2, b2⟩
  | false =>
    rcases Dk.sync_cases M ho with ⟨ha, e⟩ | ⟨ha, e⟩
    · rw [e]
      rw [ho] at H
      have ACT : Hid (∀ wx, Calls Tryz.prog 36 #[.agg #[.slice A n c, .slice B m d, .int .i64 f, .bool false]] wx fun e w' => e = .returned (.tuple #[.agg #[.slice A n c, .slice B m d, .int .i64 (max (Dk.act M).1.fuse (-1)), .bool (Dk.act M).1.off], .bool (Dk.act M).2]) ∧ Below wx.heap.size wx w') := fun wx => by
        have := r7Act_ref wx A B n c m d M hM
        rw [← hf, ho] at this
        exact this
      obtain ⟨f', hf'⟩ : ∃ x, x = max (Dk.act M).1.fuse (-1) := ⟨_, rfl⟩
      obtain ⟨o', ho'⟩ : ∃ x, x = (Dk.act M).1.off := ⟨_, rfl⟩
      rw [← hf', ← ho', ha] at ACT
      obtain ⟨w1, hw1⟩ : ∃ x, x = (w.alloc (.cells #[.slice A n c, .slice B m d, .int .i64 f, .bool false] 33)).alloc (.cells #[.slice none 0 0, .slice none 0 0, .int .i64 0, .bool false] 33) := ⟨_, rfl⟩
      have b1 : Below N w w1 := by rw [hw1, hN]; exact ((Below.refl _ w).alloc (Nat.le_refl _) _).alloc (by simp) _
      have g1 : w1.heap[N]? = some (.cells #[.slice A n c, .slice B m d, .int .i64 f, .bool false] 33 (0, 0)) := by rw [hw1, hN, Below.heap_alloc _ _ _ (by simp)]; exact heap_alloc_new w _
      have r1 : w1.heap[N + 1]? = some (.cells #[.slice none 0 0, .slice none 0 0, .int .i64 0, .bool false] 33 (0, 0)) := by
        have := heap_alloc_new (w.alloc (.cells #[.slice A n c, .slice B m d, .int .i64 f, .bool false] 33)) (.cells #[.slice none 0 0, .slice none 0 0, .int .i64 0, .bool false] 33)
        rw [World.size_alloc] at this
        rw [hw1, hN]; exact this
      have HW1 := Lib.hid hw1
      have HN := Lib.hid hN
      have x0 := Sm.cells_of g1 0 _ rfl
      have x1 := Sm.cells_of g1 1 _ rfl
      have x2 := Sm.cells_of g1 2 _ rfl
      have x3 := Sm.cells_of g1 3 _ rfl
      have B1 := Lib.hid b1
      have G1 := Lib.hid g1
      have R1 := Lib.hid r1
      have REF : Hid (∀ w', Below w.heap.size w w' → Dk.RefAt w' fp (.agg #[.slice A n c, .slice B m d, .int .i64 f', .bool o']) (Dk.act M).1) := fun w' k => by
        rw [hf', ho', hnl, hml]
        have hR : Dk.RefAt w fp (.agg #[.slice A M.lasts.length c, .slice B ws.length d, .int .i64 (max (Dk.act M).1.fuse (-1)), .bool (Dk.act M).1.off]) (Dk.act M).1 := ⟨A, c, B, d, ws, by rw [Dk.act_lasts], by rw [Dk.act_lasts]; exact hL, hW, hk.act, by rw [Dk.act_lasts]; exact hA, hB, hn⟩
        exact hR.low k
      clear hL hW hk hA hB hn hcnt hf hnl hml h4096 hN hw1 hf' ho' b1 g1 r1
      go_enter Tryz.func62, Tryz.ntmps62
      go_upto_region 1 with (fail)
      rw [← HW1.out, ← HN.out]
      go_wp2_with fail
      refine (ACT.out _).mono ?_
      rintro e w2 ⟨rfl, k2⟩
      have b2 := B1.out.trans (k2.mono (by rw [HN.out]; exact B1.out.size))
      have g2 := (k2.block N (Sm.lt_of G1.out)).trans G1.out
      have r2 := (k2.block (N + 1) (Sm.lt_of R1.out)).trans R1.out
      clear x0 x1 x2 x3 k2
      have B2 := Lib.hid b2
      have x0 := Sm.cells_of g2 0 _ rfl
      have x1 := Sm.cells_of g2 1 _ rfl
      have x2 := Sm.cells_of g2 2 _ rfl
      have x3 := Sm.cells_of g2 3 _ rfl
      have f0 := Sm.free_of g2 0
      have f1 := Sm.free_of g2 1
      have f2 := Sm.free_of g2 2
      have f3 := Sm.free_of g2 3
      have y0 := Sm.cells_of r2 0 _ rfl
      have y1 := Sm.cells_of r2 1 _ rfl
      have y2 := Sm.cells_of r2 2 _ rfl
      have y3 := Sm.cells_of r2 3 _ rfl
      have q0 := Sm.free_of r2 0
      have q1 := Sm.free_of r2 1
      have q2 := Sm.free_of r2 2
      have q3 := Sm.free_of r2 3
      have OUT : Hid (∀ a b c d a' b' c' d' : Value, Below N w ((((((((w2.setCell ⟨N, 0, none⟩ a).setCell ⟨N, 1, none⟩ b).setCell ⟨N, 2, none⟩ c).setCell ⟨N, 3, none⟩ d).setCell ⟨N + 1, 0, none⟩ a').setCell ⟨N + 1, 1, none⟩ b').setCell ⟨N + 1, 2, none⟩ c').setCell ⟨N + 1, 3, none⟩ d')) := fun a b c d a' b' c' d' => Dk.set4_below (Dk.set4_below B2.out (Nat.le_refl _) _ _ _ _) (by omega) _ _ _ _
      clear g2 r2 b2
      go_wp2
      refine bodyPost_ret (v := .tuple #[.agg #[.slice A n c, .slice B m d, .int .i64 f', .bool o'], .int .i64 14]) ((results_cell_tmp rfl _ _ _).trans (by go_simp)) rfl ⟨_, rfl, REF.out _ (by rw [← HN.out]; exact OUT.out _ _ _ _ _ _ _ _), by rw [← HN.out]; exact OUT.out _ _ _ _ _ _ _ _⟩
    · rw [e]
      rw [ho] at H
      have ACT : Hid (∀ wx, Calls Tryz.prog 36 #[.agg #[.slice A n c, .slice B m d, .int .i64 f, .bool false]] wx fun e w' => e = .returned (.tuple #[.agg #[.slice A n c, .slice B m d, .int .i64 (max (Dk.act M).1.fuse (-1)), .bool (Dk.act M).1.off], .bool (Dk.act M).2]) ∧ Below wx.heap.size wx w') := fun wx => by
        have := r7Act_ref wx A B n c m d M hM
        rw [← hf, ho] at this
        exact this
      obtain ⟨f', hf'⟩ : ∃ x, x = max (Dk.act M).1.fuse (-1) := ⟨_, rfl⟩
      obtain ⟨o', ho'⟩ : ∃ x, x = (Dk.act M).1.off := ⟨_, rfl⟩
      rw [← hf', ← ho', ha] at ACT
      obtain ⟨w1, hw1⟩ : ∃ x, x = (w.alloc (.cells #[.slice A n c, .slice B m d, .int .i64 f, .bool false] 33)).alloc (.cells #[.slice none 0 0, .slice none 0 0, .int .i64 0, .bool false] 33) := ⟨_, rfl⟩
      have b1 : Below N w w1 := by rw [hw1, hN]; exact ((Below.refl _ w).alloc (Nat.le_refl _) _).alloc (by simp) _
      have g1 : w1.heap[N]? = some (.cells #[.slice A n c, .slice B m d, .int .i64 f, .bool false] 33 (0, 0)) := by rw [hw1, hN, Below.heap_alloc _ _ _ (by simp)]; exact heap_alloc_new w _
      have r1 : w1.heap[N + 1]? = some (.cells #[.slice none 0 0, .slice none 0 0, .int .i64 0, .bool false] 33 (0, 0)) := by
        have := heap_alloc_new (w.alloc (.cells #[.slice A n c, .slice B m d, .int .i64 f, .bool false] 33)) (.cells #[.slice none 0 0, .slice none 0 0, .int .i64 0, .bool false] 33)
        rw [World.size_alloc] at this
        rw [hw1, hN]; exact this
      have HW1 := Lib.hid hw1
      have HN := Lib.hid hN
      have x0 := Sm.cells_of g1 0 _ rfl
      have x1 := Sm.cells_of g1 1 _ rfl
      have x2 := Sm.cells_of g1 2 _ rfl
      have x3 := Sm.cells_of g1 3 _ rfl
      have B1 := Lib.hid b1
      have G1 := Lib.hid g1
      have R1 := Lib.hid r1
      have HF' := Lib.hid hf'
      have HO' := Lib.hid ho'
      have HNL := Lib.hid hnl
      have HML := Lib.hid hml
      have HL := Lib.hid hL
      have HWR := Lib.hid hW
      have HK := Lib.hid hk
      have HLE : Hid (m ≤ 1099511627775) := by show _ ≤ _; rw [hml, ← hcnt]; exact hq
      have H40 := Lib.hid h4096
      clear hL hW hk hA hB hn hcnt hf hnl hml h4096 hN hw1 hf' ho' b1 g1 r1 hq
      go_enter Tryz.func62, Tryz.ntmps62
      go_upto_region 1 with (fail)
      rw [← HW1.out, ← HN.out]
      go_wp2_with fail
      refine (ACT.out _).mono ?_
      rintro e w2 ⟨rfl, k2⟩
      have b2 := B1.out.trans (k2.mono (by rw [HN.out]; exact B1.out.size))
      have g2 := (k2.block N (Sm.lt_of G1.out)).trans G1.out
      have r2 := (k2.block (N + 1) (Sm.lt_of R1.out)).trans R1.out
      clear x0 x1 x2 x3 k2
      have B2 := Lib.hid b2
      have x0 := Sm.cells_of g2 0 _ rfl
      have x1 := Sm.cells_of g2 1 _ rfl
      have x2 := Sm.cells_of g2 2 _ rfl
      have x3 := Sm.cells_of g2 3 _ rfl
      have f0 := Sm.free_of g2 0
      have f1 := Sm.free_of g2 1
      have f2 := Sm.free_of g2 2
      have f3 := Sm.free_of g2 3
      go_upto_region 6 with (fail)
      have g3 := Dk.set4 g2 rfl (.slice A n c) (.slice B m d) (.int .i64 f') (.bool o')
      have r3 := (Dk.set4_other w2 N (.slice A n c) (.slice B m d) (.int .i64 f') (.bool o') (N + 1) (by omega)).trans r2
      have b3 := Dk.set4_below (B := w.heap.size) (by rw [← HN.out]; exact b2) (Nat.le_of_eq HN.out.symm) (.slice A n c) (.slice B m d) (.int .i64 f') (.bool o')
      clear x0 x1 x2 x3 f0 f1 f2 f3 g2 r2 b2 B2
      generalize ((((w2.setCell ⟨N, 0, none⟩ (.slice A n c)).setCell ⟨N, 1, none⟩ (.slice B m d)).setCell ⟨N, 2, none⟩ (.int .i64 f')).setCell ⟨N, 3, none⟩ (.bool o')) = w3 at *
      have T3 : Hid (Dk.TextsAt w3 0 (.slice A M.lasts.length c) M.lasts) := HL.out.below b3
      have B3 := Lib.hid b3
      have G3 := Lib.hid g3
      have R3 := Lib.hid r3
      have hgs := Sm.lt_of g3
      have x0 := Sm.cells_of g3 0 _ rfl
      clear b3 r3 g3
      go_upto_region 8 with (
        at_builtin
        refine Dk.wpList_copyT rfl _ _ rfl T3.out (by intro e; have := H40.out.1; rw [e] at this; simp at this) H40.out.2 rfl (by rw [← HNL.out]; rfl) ?_
        intro g c4 w4 ho4 k4)
      rw [← HNL.out] at ho4 ⊢
      have g4 := (k4.block N (Sm.lt_of G3.out)).trans G3.out
      have r4 := (k4.block (N + 1) (Sm.lt_of R3.out)).trans R3.out
      have b4 := B3.out.trans (k4.mono B3.out.size)
      obtain ⟨N3, hN3⟩ : ∃ x, x = w3.heap.size := ⟨_, rfl⟩
      have hNN : N + 1 < N3 := by rw [hN3]; exact Sm.lt_of R3.out
      have HNN := Lib.hid hNN
      rw [← hN3] at ho4
      clear x0 hN3 k4 hgs hNN
      go_loopw [6] (fun s6 wr => ∃ k : Nat, s6 = .int .i64 k ∧ k ≤ m ∧ wr.ownsRow N3 9 1 (.slice (some ⟨g, 0, none⟩) n c4) n ((Dk.laid M.lasts (ws.take k)).map Dk.txt) ∧ Below w.heap.size w wr ∧ wr.heap[N]? = some (.cells #[.slice A n c, .slice B m d, .int .i64 f', .bool o'] 33 (0, 0)) ∧ wr.heap[N + 1]? = some (.cells #[.slice none 0 0, .slice none 0 0, .int .i64 0, .bool false] 33 (0, 0))) (fun s6 _ => m - (intOf s6).toNat)
      case atStart => exact ⟨0, rfl, Nat.zero_le _, ho4, b4, g4, r4⟩
      case round =>
        clear ho4 b4 g4 r4
        obtain ⟨k, rfl, hkm, hown, hb, hg, hr⟩ := hrel
        have x0 := Sm.cells_of hg 0 _ rfl
        have x1 := Sm.cells_of hg 1 _ rfl
        by_cases hkl : k < m
        · have hki : (k : Int) < (m : Int) := by omega
          have hsuc : IntKind.i64.wrap ((k : Int) + 1) = ((k + 1 : Nat) : Int) := by have := HLE.out; simp [IntKind.wrap, IntKind.bits, IntKind.signed]; omega
          have hkw : k < ws.length := by rw [← HML.out]; exact hkl
          obtain ⟨gb, rfl, hgl, hc⟩ : ∃ gb, B = some ⟨gb, 0, none⟩ ∧ gb < w.heap.size ∧ ∀ i, i < ws.length → w.cell? ⟨gb, 2 * i, none⟩ = some (.int .i64 ((ws.getD i (0, [])).1 : Nat)) ∧ w.cell? ⟨gb, 2 * i + 1, none⟩ = some (.string ⟨((ws.getD i (0, [])).2).toArray⟩) := by
            obtain ⟨A', c', e, h⟩ := HWR.out
            simp only [Value.slice.injEq] at e
            rcases h with h | ⟨g, e1, _, e3, h⟩
            · rw [h] at hkw; simp at hkw
            · exact ⟨g, e.1.trans e1, e3, h⟩
          obtain ⟨c0, c1⟩ := hc k hkw
          have d0 : wr.cell? ⟨gb, k * 2, none⟩ = some (.int .i64 ((ws.getD k (0, [])).1 : Nat)) := by rw [Nat.mul_comm]; exact (hb.cell (p := ⟨gb, 2 * k, none⟩) hgl).trans c0
          have d1 : wr.cell? ⟨gb, k * 2 + 1, none⟩ = some (.string ⟨((ws.getD k (0, [])).2).toArray⟩) := by rw [Nat.mul_comm]; exact (hb.cell (p := ⟨gb, 2 * k + 1, none⟩) hgl).trans c1
          have hpn : (ws.getD k (0, [])).1 < n := by
            rw [HNL.out, List.getD_eq_getElem?_getD, List.getElem?_eq_getElem hkw]
            exact HK.out.lt _ (List.getElem_mem hkw)
          have E := Lib.hid (Dk.laid_take (l := M.lasts) hkw)
          obtain ⟨⟨j, t⟩, hp⟩ : ∃ p, p = ws.getD k (0, []) := ⟨_, rfl⟩
          rw [← hp] at d0 d1 hpn E
          simp only at d0 d1 hpn E
          obtain ⟨o0, ho0⟩ : ∃ u, wr.cell? ⟨g, j, none⟩ = some u := by
            rw [hown.cellAt j (by omega)]
            exact ⟨_, List.getElem?_eq_getElem (by simp [Dk.laid_length, ← HNL.out]; exact hpn)⟩
          have fz := hown.frozenAt j
          have ⟨st1, st2⟩ := hown.stored j (.string ⟨t.toArray⟩)
          rw [← List.map_set (f := Dk.txt) (a := t), ← E.out] at st1
          have ST1 := Lib.hid st1
          have hge : N3 ≤ g := (Dk.own_blk hown rfl).1
          have hN3 := HNN.out
          have g5 := (st2.block N (Sm.lt_of hg) (by simp; omega)).trans hg
          have r5 := (st2.block (N + 1) (Sm.lt_of hr) (by simp; omega)).trans hr
          have b5 := hb.setCell (p := ⟨g, j, none⟩) (by simp only; rw [← HN.out]; omega) (.string ⟨t.toArray⟩)
          have G5 := Lib.hid g5
          have R5 := Lib.hid r5
          have B5 := Lib.hid b5
          have hji : (j : Int) < (n : Int) := by omega
          clear c0 c1 hc hp hown hb hg hr st1 st2 hge g5 r5 b5
          go_wp2_with fail
          go_region
          go_wp2
          go_roundw
          case rel => exact ⟨k + 1, rfl, hkl, ST1.out, B5.out.drew, G5.out, R5.out⟩
          case measure => simp [intOf]; omega
        · have hki : ¬ (k : Int) < (m : Int) := by omega
          have hkw : ws.take k = ws := List.take_of_length_le (by rw [← HML.out]; omega)
          rw [hkw] at hown
          have FIN : Hid (∀ a b c' d : Value, Below w.heap.size w ((((((wr.setCell ⟨N, 0, none⟩ (.slice (some ⟨g, 0, none⟩) n c4)).setCell ⟨N, 1, none⟩ (.slice none 0 0)).setCell ⟨N + 1, 0, none⟩ a).setCell ⟨N + 1, 1, none⟩ b).setCell ⟨N + 1, 2, none⟩ c').setCell ⟨N + 1, 3, none⟩ d) ∧ Dk.RefAt ((((((wr.setCell ⟨N, 0, none⟩ (.slice (some ⟨g, 0, none⟩) n c4)).setCell ⟨N, 1, none⟩ (.slice none 0 0)).setCell ⟨N + 1, 0, none⟩ a).setCell ⟨N + 1, 1, none⟩ b).setCell ⟨N + 1, 2, none⟩ c').setCell ⟨N + 1, 3, none⟩ d) fp (.agg #[.slice (some ⟨g, 0, none⟩) n c4, .slice none 0 0, .int .i64 f', .bool o']) (Dk.synced (Dk.act M).1)) := fun a b c' d => by
            have hNw : w.heap.size ≤ N := Nat.le_of_eq HN.out.symm
            have b7 : Below w.heap.size w ((((((wr.setCell ⟨N, 0, none⟩ (.slice (some ⟨g, 0, none⟩) n c4)).setCell ⟨N, 1, none⟩ (.slice none 0 0)).setCell ⟨N + 1, 0, none⟩ a).setCell ⟨N + 1, 1, none⟩ b).setCell ⟨N + 1, 2, none⟩ c').setCell ⟨N + 1, 3, none⟩ d) := Dk.set4_below ((hb.setCell (p := ⟨N, 0, none⟩) hNw _).setCell (p := ⟨N, 1, none⟩) hNw _) (by omega) _ _ _ _
            have e1 : (Dk.synced (Dk.act M).1).lasts = Dk.laid M.lasts ws := by rw [HK.out.act.synced, Dk.act_lasts]
            have e2 : (Dk.laid M.lasts ws).length = n := by rw [Dk.laid_length, ← HNL.out]
            have hge : ∀ q, (Value.slice (some ⟨g, 0, none⟩) n c4).ownBlock = some q → N3 ≤ q ∧ q < wr.heap.size := fun q hq => ⟨(Dk.own_blk hown hq).1, (Dk.own_blk hown hq).2.1⟩
            have hn3 := HNN.out
            have ht : Dk.TextsAt wr N3 (.slice (some ⟨g, 0, none⟩) (Dk.laid M.lasts ws).length c4) (Dk.laid M.lasts ws) := Dk.TextsAt.of_own (e := 9) (by rw [e2]; exact hown)
            refine ⟨b7, some ⟨g, 0, none⟩, c4, none, 0, [], by rw [e1, e2, HF'.out, HO'.out]; rfl, ?_, Dk.WritesAt.nil _ _, ?_, ?_, ?_, ?_⟩
            · rw [e1]
              refine ht.more.keep (by simp) fun q _ hq => ?_
              rw [e2] at hq
              have := hge q hq
              rw [Dk.set4_other _ _ _ _ _ _ _ (by omega), Below.heap_setCell _ _ _ _ (by simp only; omega), Below.heap_setCell _ _ _ _ (by simp only; omega)]
            · exact Dk.Like.none fun _ => rfl
            · rw [e1, e2]
              intro q hq
              have := hge q hq
              refine ⟨by simp; exact this.2, fun hf => ?_⟩
              have := hfp q hf
              omega
            · intro q hq; cases hq
            · exact fun _ => ⟨rfl, rfl⟩
          have x2 := Sm.cells_of hg 2 _ rfl
          have x3 := Sm.cells_of hg 3 _ rfl
          have f0 := Sm.free_of hg 0
          have f1 := Sm.free_of hg 1
          have f2 := Sm.free_of hg 2
          have f3 := Sm.free_of hg 3
          have y0 := Sm.cells_of hr 0 _ rfl
          have y1 := Sm.cells_of hr 1 _ rfl
          have y2 := Sm.cells_of hr 2 _ rfl
          have y3 := Sm.cells_of hr 3 _ rfl
          have q0 := Sm.free_of hr 0
          have q1 := Sm.free_of hr 1
          have q2 := Sm.free_of hr 2
          have q3 := Sm.free_of hr 3
          clear hown hb hg hr hkw
          go_wp2
          refine bodyPost_ret (v := .tuple #[.agg #[.slice (some ⟨g, 0, none⟩) n c4, .slice none 0 0, .int .i64 f', .bool o'], .int .i64 0]) ((results_cell_tmp rfl _ _ _).trans (by go_simp)) rfl ⟨_, rfl, (FIN.out _ _ _ _).2, (FIN.out _ _ _ _).1⟩
end Go.Proofs.YtnmagfodjcookaaGreat
