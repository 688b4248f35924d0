/-
  The document's own disk: Write.
-/
import Derived.Test.YtnmagfodjcookaaGreatDkRefAt
namespace Go.Proofs.YtnmagfodjcookaaGreat
open Go.RowKit
namespace Dk
/-- Writes appended onto none: a copy. -/
theorem run_copyW {w : World} {B : Option Addr} {d : Nat} {ws : List (Nat × List UInt8)} (h : WritesAt w 0 (.slice B ws.length d) ws) (hn : ws = [] → B = none ∧ d = 0) (hl : ws.length ≤ 1099511627776) (ty : TypeId) :
    ∃ v' w', (Builtin.append_ #[31, 31] ty #[.slice none 0 0, .slice B ws.length d]).run Tryz.prog w = .ok v' w' ∧ w'.ownsRow w.heap.size 87 2 v' ws.length (flatW ws) ∧ w.grownBy w' none := by
  obtain ⟨i0, hi, hz0, hz1, hz2⟩ := info_parts info3_write
  by_cases he : ws = []
  · obtain ⟨rfl, rfl⟩ := hn he
    subst he
    exact ⟨.slice none 0 0, w, by simp [Builtin.append_, run_underlying Tryz.underlying31, sizeOf, typeInfo, hi, Builtin.lenOf, Builtin.firstCells], World.ownsRow_nil _ _ _ _, ⟨rfl, rfl, rfl, Nat.le_refl _, fun _ _ _ => rfl⟩⟩
  · obtain ⟨A', c', e, h2⟩ := id h
    simp only [Value.slice.injEq] at e
    rcases h2 with h2 | ⟨g, e1, _, _, _⟩
    · exact absurd h2 he
    · have hB : B = some ⟨g, 0, none⟩ := e.1.trans e1
      subst hB
      obtain ⟨v', w', hr, ho, hg, _⟩ := run_append_own (P := Tryz.prog) w w.heap.size 31 ty 87 i0 _ 2 24 Tryz.underlying31 hi hz0 hz1 hz2 rfl (by decide) (.slice none 0 0) 0 [] (World.ownsRow_nil _ _ _ _) ⟨g, 0, none⟩ ws.length d (flatW ws) (flatW_length ws) h.cellsAt (flatW_single ws) (by unfold maxLen; omega) (by omega) (Nat.le_refl _)
      refine ⟨v', w', hr, ?_, hg⟩
      rw [Nat.zero_add, List.nil_append] at ho
      exact ho
theorem wpList_copyW {ops : Array Oper} {rest : List Oper} {o : Oper} {a : Act} {w : World} {Q : Exit → Act → World → Prop} (hgd : o.guard = none) (s x : Operand) (ho : o.op = .call { callee := .builtin .append, args := #[s, x], argTypes := #[31, 31] })
    {B : Option Addr} {d : Nat} {ws : List (Nat × List UInt8)} (h : WritesAt w 0 (.slice B ws.length d) ws) (hn : ws = [] → B = none ∧ d = 0) (hl : ws.length ≤ 1099511627776) (hs : a.eval s = .slice none 0 0) (hx : a.eval x = .slice B ws.length d)
    (hK : ∀ v' w', w'.ownsRow w.heap.size 87 2 v' ws.length (flatW ws) → w.grownBy w' none → wpList Tryz.prog ops Q rest (a.put o.dst v') w') : wpList Tryz.prog ops Q (o :: rest) a w :=
  wpList_plain hgd fun _ hK' => by
    obtain ⟨v', w', hr, h1, h2⟩ := run_copyW h hn hl o.type
    unfold Oper.wp execOp
    simp only [ho, resolve, invoke, builtin, Sem.run_bind, Sem.run_pure, Result.andThen_ok, List.map_toArray, List.map_cons, List.map_nil, hs, hx, hr]
    exact hK' _ _ (hK v' w' h1 h2)
theorem write_cases (M : Md) (i : Int) (b : List UInt8) (ho : M.off = false) : (¬ (0 ≤ i ∧ i < M.lasts.length ∧ b.length = 64) ∧ write M i b = (M, 1)) ∨ ((0 ≤ i ∧ i < M.lasts.length ∧ b.length = 64) ∧ (act M).2 = false ∧ write M i b = ((act M).1, 14)) ∨ ((0 ≤ i ∧ i < M.lasts.length ∧ b.length = 64) ∧ (act M).2 = true ∧ write M i b = (put (act M).1 i.toNat b, 0)) := by
  by_cases h : 0 ≤ i ∧ i < M.lasts.length ∧ b.length = 64
  · cases ha : (act M).2 with
    | false => exact .inr (.inl ⟨h, rfl, by simp [write, ho, there, h, ha]⟩)
    | true => exact .inr (.inr ⟨h, rfl, by simp [write, ho, there, h, ha]⟩)
  · refine .inl ⟨h, ?_⟩
    have : (there M i && decide (b.length = 64)) = false := by
      simp [there]; omega
    simp only [write, ho, this]
    rfl
theorem Like.act {M : Md} {ws : List (Nat × List UInt8)} (h : Like M ws) : Like (act M).1 ws := ⟨fun i => by rw [act_W]; exact h.waits i, fun p hp => by rw [act_lasts]; exact h.lt p hp⟩
end Dk
set_option maxRecDepth 100000 in
set_option maxHeartbeats 1000000 in
theorem r7Write_any (w : World) (fp : Nat → Prop) (v : Value) (M : Dk.Md) (hM : M.Ok) (h : Dk.RefAt w fp v M) (hfp : ∀ k, fp k → k < w.heap.size) (hq : Dk.waits M ≤ 1099511627775) (i : Int) (s : ByteArray) :
    Calls Tryz.prog 14 #[v, .int .i64 i, .string s] w fun e w' => ∃ v', e = .returned (.tuple #[v', .int .i64 (Dk.write M i s.data.toList).2]) ∧ Dk.RefAt w' fp v' (Dk.write M i s.data.toList).1 ∧ Below w.heap.size w w' := by
  have H := Lib.hid h
  have hss : s.data.toList.length = s.size := by simp
  obtain ⟨A, c, B, d, ws, rfl, hL, hW, hk, hA, hB, hn⟩ := h
  have hcnt := hk.count
  have h4096 := hM.n.2
  obtain ⟨N, hN⟩ : ∃ N, N = w.heap.size := ⟨_, rfl⟩
  obtain ⟨f, hf⟩ : ∃ f, f = max M.fuse (-1) := ⟨_, rfl⟩
  obtain ⟨n, hnl⟩ : ∃ n, n = M.lasts.length := ⟨_, rfl⟩
  obtain ⟨m, hml⟩ : ∃ m, m = ws.length := ⟨_, rfl⟩
  rw [← hf, ← hnl, ← hml] at H ⊢
  cases ho : M.off with
  | true =>
    have e : Dk.write M i s.data.toList = (M, 14) := by simp [Dk.write, ho]
    rw [e]
    rw [ho] at H
    clear hL hW hk hA hB hn hcnt hf hnl hml
    go_enter Tryz.func14, Tryz.ntmps14
    go_wp2
    have b2 : Below w.heap.size w ((w.alloc (.cells #[.slice A n c, .slice B m d, .int .i64 f, .bool true] 33)).alloc (.cells #[.slice A n c, .slice B m d, .int .i64 f, .bool true] 33)) := ((Below.refl _ w).alloc (Nat.le_refl _) _).alloc (by simp) _
    refine bodyPost_ret (v := .tuple #[.agg #[.slice A n c, .slice B m d, .int .i64 f, .bool true], .int .i64 14]) ((results_cell_tmp rfl _ _ _).trans (by go_simp)) rfl ⟨_, rfl, H.out.low b2, b2⟩
  | false =>
    rcases Dk.write_cases M i s.data.toList ho with ⟨hx, e⟩ | ⟨⟨h0, h1, h64⟩, ha, e⟩ | ⟨⟨h0, h1, h64⟩, ha, e⟩
    · rw [e]
      rw [ho] at H
      rw [hss, ← hnl] at hx
      have OUT : Hid (∀ w', Below w.heap.size w w' → Dk.RefAt w' fp (.agg #[.slice A n c, .slice B m d, .int .i64 f, .bool false]) M) := fun w' k => H.out.low k
      have B2 : Hid (Below w.heap.size w ((w.alloc (.cells #[.slice A n c, .slice B m d, .int .i64 f, .bool false] 33)).alloc (.cells #[.slice A n c, .slice B m d, .int .i64 f, .bool false] 33))) := ((Below.refl _ w).alloc (Nat.le_refl _) _).alloc (by simp) _
      clear hL hW hk hA hB hn hcnt hf hnl hml h4096
      by_cases hi0 : i < 0
      · go_enter Tryz.func14, Tryz.ntmps14
        go_wp2
        refine bodyPost_ret (v := .tuple #[.agg #[.slice A n c, .slice B m d, .int .i64 f, .bool false], .int .i64 1]) ((results_cell_tmp rfl _ _ _).trans (by go_simp)) rfl ⟨_, rfl, OUT.out _ B2.out, B2.out⟩
      · by_cases hi1 : (n : Int) ≤ i
        · go_enter Tryz.func14, Tryz.ntmps14
          go_wp2
          refine bodyPost_ret (v := .tuple #[.agg #[.slice A n c, .slice B m d, .int .i64 f, .bool false], .int .i64 1]) ((results_cell_tmp rfl _ _ _).trans (by go_simp)) rfl ⟨_, rfl, OUT.out _ B2.out, B2.out⟩
        · have hs64 : ((s.size : Int) == 64) = false := beq_eq_false_iff_ne.2 (by omega)
          go_enter Tryz.func14, Tryz.ntmps14
          go_wp2
          refine bodyPost_ret (v := .tuple #[.agg #[.slice A n c, .slice B m d, .int .i64 f, .bool false], .int .i64 1]) ((results_cell_tmp rfl _ _ _).trans (by go_simp)) rfl ⟨_, rfl, OUT.out _ B2.out, B2.out⟩
    · rw [e]
      rw [ho] at H
      have ACT : Hid (∀ wx, Calls Tryz.prog 36 #[.agg #[.slice A n c, .slice B m d, .int .i64 f, .bool false]] wx fun e w' => e = .returned (.tuple #[.agg #[.slice A n c, .slice B m d, .int .i64 (max (Dk.act M).1.fuse (-1)), .bool (Dk.act M).1.off], .bool (Dk.act M).2]) ∧ Below wx.heap.size wx w') := fun wx => by
        have := r7Act_ref wx A B n c m d M hM
        rw [← hf, ho] at this
        exact this
      rw [hss] at h64
      rw [← hnl] at h1
      have hs64 : ((s.size : Int) == 64) = true := by rw [beq_iff_eq]; omega
      have hs65 : (s.size : Int) = 64 := by omega
      obtain ⟨f', hf'⟩ : ∃ x, x = max (Dk.act M).1.fuse (-1) := ⟨_, rfl⟩
      obtain ⟨o', ho'⟩ : ∃ x, x = (Dk.act M).1.off := ⟨_, rfl⟩
      rw [← hf', ← ho', ha] at ACT
      obtain ⟨w1, hw1⟩ : ∃ x, x = (w.alloc (.cells #[.slice A n c, .slice B m d, .int .i64 f, .bool false] 33)).alloc (.cells #[.slice none 0 0, .slice none 0 0, .int .i64 0, .bool false] 33) := ⟨_, rfl⟩
      have b1 : Below N w w1 := by rw [hw1, hN]; exact ((Below.refl _ w).alloc (Nat.le_refl _) _).alloc (by simp) _
      have g1 : w1.heap[N]? = some (.cells #[.slice A n c, .slice B m d, .int .i64 f, .bool false] 33 (0, 0)) := by rw [hw1, hN, Below.heap_alloc _ _ _ (by simp)]; exact heap_alloc_new w _
      have r1 : w1.heap[N + 1]? = some (.cells #[.slice none 0 0, .slice none 0 0, .int .i64 0, .bool false] 33 (0, 0)) := by
        have := heap_alloc_new (w.alloc (.cells #[.slice A n c, .slice B m d, .int .i64 f, .bool false] 33)) (.cells #[.slice none 0 0, .slice none 0 0, .int .i64 0, .bool false] 33)
        rw [World.size_alloc] at this
        rw [hw1, hN]; exact this
      have HW1 := Lib.hid hw1
      have HN := Lib.hid hN
      have x0 := Sm.cells_of g1 0 _ rfl
      have x1 := Sm.cells_of g1 1 _ rfl
      have x2 := Sm.cells_of g1 2 _ rfl
      have x3 := Sm.cells_of g1 3 _ rfl
      have HS0 : w.heap.size + 1 = N + 1 := by rw [hN]
      have REF : Hid (∀ w', Below w.heap.size w w' → Dk.RefAt w' fp (.agg #[.slice A n c, .slice B m d, .int .i64 f', .bool o']) (Dk.act M).1) := fun w' k => by
        rw [hf', ho', hnl, hml]
        have hR : Dk.RefAt w fp (.agg #[.slice A M.lasts.length c, .slice B ws.length d, .int .i64 (max (Dk.act M).1.fuse (-1)), .bool (Dk.act M).1.off]) (Dk.act M).1 := ⟨A, c, B, d, ws, by rw [Dk.act_lasts], by rw [Dk.act_lasts]; exact hL, hW, hk.act, by rw [Dk.act_lasts]; exact hA, hB, hn⟩
        exact hR.low k
      have B1 := Lib.hid b1
      have G1 := Lib.hid g1
      have R1 := Lib.hid r1
      clear hL hW hk hA hB hn hcnt hf hnl hml h4096 hN hw1 hf' ho' b1 g1 r1
      go_enter Tryz.func14, Tryz.ntmps14
      go_upto_region 1 with (fail)
      rw [← HW1.out, ← HN.out]
      go_wp2_with fail
      refine (ACT.out _).mono ?_
      rintro e w2 ⟨rfl, k2⟩
      have b2 := B1.out.trans (k2.mono (by rw [HN.out]; exact B1.out.size))
      have g2 := (k2.block N (Sm.lt_of G1.out)).trans G1.out
      have r2 := (k2.block (N + 1) (Sm.lt_of R1.out)).trans R1.out
      clear x0 x1 x2 x3 k2
      have B2 := Lib.hid b2
      have x0 := Sm.cells_of g2 0 _ rfl
      have x1 := Sm.cells_of g2 1 _ rfl
      have x2 := Sm.cells_of g2 2 _ rfl
      have x3 := Sm.cells_of g2 3 _ rfl
      have f0 := Sm.free_of g2 0
      have f1 := Sm.free_of g2 1
      have f2 := Sm.free_of g2 2
      have f3 := Sm.free_of g2 3
      have y0 := Sm.cells_of r2 0 _ rfl
      have y1 := Sm.cells_of r2 1 _ rfl
      have y2 := Sm.cells_of r2 2 _ rfl
      have y3 := Sm.cells_of r2 3 _ rfl
      have q0 := Sm.free_of r2 0
      have q1 := Sm.free_of r2 1
      have q2 := Sm.free_of r2 2
      have q3 := Sm.free_of r2 3
      have OUT : Hid (∀ a b c d a' b' c' d' : Value, Below N w ((((((((w2.setCell ⟨N, 0, none⟩ a).setCell ⟨N, 1, none⟩ b).setCell ⟨N, 2, none⟩ c).setCell ⟨N, 3, none⟩ d).setCell ⟨N + 1, 0, none⟩ a').setCell ⟨N + 1, 1, none⟩ b').setCell ⟨N + 1, 2, none⟩ c').setCell ⟨N + 1, 3, none⟩ d')) := fun a b c d a' b' c' d' => Dk.set4_below (Dk.set4_below B2.out (Nat.le_refl _) _ _ _ _) (by omega) _ _ _ _
      clear g2 r2 b2
      go_wp2
      refine bodyPost_ret (v := .tuple #[.agg #[.slice A n c, .slice B m d, .int .i64 f', .bool o'], .int .i64 14]) ((results_cell_tmp rfl _ _ _).trans (by go_simp)) rfl ⟨_, rfl, REF.out _ (by rw [← HN.out]; exact OUT.out _ _ _ _ _ _ _ _), by rw [← HN.out]; exact OUT.out _ _ _ _ _ _ _ _⟩
    · rw [e]
      rw [ho] at H
      have ACT : Hid (∀ wx, Calls Tryz.prog 36 #[.agg #[.slice A n c, .slice B m d, .int .i64 f, .bool false]] wx fun e w' => e = .returned (.tuple #[.agg #[.slice A n c, .slice B m d, .int .i64 (max (Dk.act M).1.fuse (-1)), .bool (Dk.act M).1.off], .bool (Dk.act M).2]) ∧ Below wx.heap.size wx w') := fun wx => by
        have := r7Act_ref wx A B n c m d M hM
        rw [← hf, ho] at this
        exact this
      rw [hss] at h64
      rw [← hnl] at h1
      have hs64 : ((s.size : Int) == 64) = true := by rw [beq_iff_eq]; omega
      have hs65 : (s.size : Int) = 64 := by omega
      obtain ⟨f', hf'⟩ : ∃ x, x = max (Dk.act M).1.fuse (-1) := ⟨_, rfl⟩
      obtain ⟨o', ho'⟩ : ∃ x, x = (Dk.act M).1.off := ⟨_, rfl⟩
      rw [← hf', ← ho', ha] at ACT
      obtain ⟨w1, hw1⟩ : ∃ x, x = (w.alloc (.cells #[.slice A n c, .slice B m d, .int .i64 f, .bool false] 33)).alloc (.cells #[.slice none 0 0, .slice none 0 0, .int .i64 0, .bool false] 33) := ⟨_, rfl⟩
      have b1 : Below N w w1 := by rw [hw1, hN]; exact ((Below.refl _ w).alloc (Nat.le_refl _) _).alloc (by simp) _
      have g1 : w1.heap[N]? = some (.cells #[.slice A n c, .slice B m d, .int .i64 f, .bool false] 33 (0, 0)) := by rw [hw1, hN, Below.heap_alloc _ _ _ (by simp)]; exact heap_alloc_new w _
      have r1 : w1.heap[N + 1]? = some (.cells #[.slice none 0 0, .slice none 0 0, .int .i64 0, .bool false] 33 (0, 0)) := by
        have := heap_alloc_new (w.alloc (.cells #[.slice A n c, .slice B m d, .int .i64 f, .bool false] 33)) (.cells #[.slice none 0 0, .slice none 0 0, .int .i64 0, .bool false] 33)
        rw [World.size_alloc] at this
        rw [hw1, hN]; exact this
      have HW1 := Lib.hid hw1
      have HN := Lib.hid hN
      have x0 := Sm.cells_of g1 0 _ rfl
      have x1 := Sm.cells_of g1 1 _ rfl
      have x2 := Sm.cells_of g1 2 _ rfl
      have x3 := Sm.cells_of g1 3 _ rfl
      have HS0 : w.heap.size + 1 = N + 1 := by rw [hN]
      have B1 := Lib.hid b1
      have G1 := Lib.hid g1
      have R1 := Lib.hid r1
      have HF' := Lib.hid hf'
      have HO' := Lib.hid ho'
      have HNL := Lib.hid hnl
      have HML := Lib.hid hml
      have HL := Lib.hid hL
      have HWR := Lib.hid hW
      have HK := Lib.hid hk
      have HA := Lib.hid hA
      have HNI := Lib.hid hn
      have HLE : Hid (m ≤ 1099511627775) := by show _ ≤ _; rw [hml, ← hcnt]; exact hq
      clear hL hW hk hA hB hn hcnt hf hnl hml h4096 hN hw1 hf' ho' b1 g1 r1 hq
      go_enter Tryz.func14, Tryz.ntmps14
      go_upto_region 1 with (fail)
      rw [← HW1.out, ← HN.out]
      go_wp2_with fail
      refine (ACT.out _).mono ?_
      rintro e w2 ⟨rfl, k2⟩
      have b2 := B1.out.trans (k2.mono (by rw [HN.out]; exact B1.out.size))
      have g2 := (k2.block N (Sm.lt_of G1.out)).trans G1.out
      have r2 := (k2.block (N + 1) (Sm.lt_of R1.out)).trans R1.out
      clear x0 x1 x2 x3 k2
      have B2 := Lib.hid b2
      have x0 := Sm.cells_of g2 0 _ rfl
      have x1 := Sm.cells_of g2 1 _ rfl
      have x2 := Sm.cells_of g2 2 _ rfl
      have x3 := Sm.cells_of g2 3 _ rfl
      have f0 := Sm.free_of g2 0
      have f1 := Sm.free_of g2 1
      have f2 := Sm.free_of g2 2
      have f3 := Sm.free_of g2 3
      go_upto_region 8 with (fail)
      have g3 := Dk.set4 g2 rfl (.slice A n c) (.slice B m d) (.int .i64 f') (.bool o')
      have r3 := (Dk.set4_other w2 N (.slice A n c) (.slice B m d) (.int .i64 f') (.bool o') (N + 1) (by omega)).trans r2
      have b3 := Dk.set4_below (B := w.heap.size) (by rw [← HN.out]; exact b2) (Nat.le_of_eq HN.out.symm) (.slice A n c) (.slice B m d) (.int .i64 f') (.bool o')
      clear x0 x1 x2 x3 f0 f1 f2 f3 g2 r2 b2 B2
      generalize ((((w2.setCell ⟨N, 0, none⟩ (.slice A n c)).setCell ⟨N, 1, none⟩ (.slice B m d)).setCell ⟨N, 2, none⟩ (.int .i64 f')).setCell ⟨N, 3, none⟩ (.bool o')) = w3 at *
      have W3 : Hid (Dk.WritesAt w3 0 (.slice B ws.length d) ws) := HWR.out.below b3
      have B3 := Lib.hid b3
      have G3 := Lib.hid g3
      have R3 := Lib.hid r3
      have x1 := Sm.cells_of g3 1 _ rfl
      clear b3 r3 g3
      go_upto_region 10 with (
        at_builtin
        refine Dk.wpList_copyW rfl _ _ rfl W3.out HNI.out (by rw [← HML.out]; have := HLE.out; omega) rfl (by rw [← HML.out]; rfl) ?_
        intro v4 w4 ho4 gr4)
      rw [← HML.out] at ho4
      obtain ⟨A4, c4, rfl⟩ := Sm.own_shape ho4
      have hN1 := Sm.lt_of R3.out
      have g4 := (gr4.block N (by omega) (by simp)).trans G3.out
      have r4 := (gr4.block (N + 1) hN1 (by simp)).trans R3.out
      have b4 := B3.out.grown gr4 (by rw [← HN.out]; omega) (fun q hq => by cases hq)
      have HO4 := Lib.hid ho4
      have HS4 := Lib.hid gr4.size
      have B4 := Lib.hid b4
      have R4 := Lib.hid r4
      have G4 := Lib.hid g4
      have HN1 := Lib.hid hN1
      obtain ⟨i0, hie, hz0, hz1, hz2⟩ := info_parts Dk.info3_write
      have HIE := Lib.hid hie
      clear ho4 gr4 r4 g4 b4 hie x1
      obtain ⟨k, rfl⟩ : ∃ k : Nat, i = (k : Int) := ⟨i.toNat, by omega⟩
      have NEW : Hid (∀ j u, [Value.int .i64 (k : Int), .string s][j]? = some u → (w4.alloc (.cells #[.int .i64 (k : Int), .string s] 87)).cell? ((⟨w4.heap.size, 0, none⟩ : Addr).add j) = some u) := fun j u hj => by
        have h0 := heap_alloc_new w4 (.cells #[.int .i64 (k : Int), .string s] 87)
        rw [Addr.add_mid]
        match j, hj with
        | 0, hj => simp at hj; subst hj; exact Sm.cells_of h0 0 _ rfl
        | 1, hj => simp at hj; subst hj; exact Sm.cells_of h0 1 _ rfl
      go_upto_region 11 with (
        at_builtin
        refine wpList_append_own _ rfl _ _ 31 rfl w3.heap.size 87 i0 _ 2 24 Tryz.underlying31 HIE.out hz0 hz1 hz2 rfl (by decide) (.slice A4 m c4) m (Dk.flatW ws) rfl (HO4.out.alloc _) ⟨w4.heap.size, 0, none⟩ 1 1 [.int .i64 (k : Int), .string s] rfl rfl NEW.out (by intro u hu; simp at hu; rcases hu with rfl | rfl <;> rfl) (by have := HLE.out; unfold maxLen; omega) (by have := HLE.out; omega) (by have := HS4.out; simp; omega) ?_
        intro v5 w5 ho5 gr5 _
        obtain ⟨A5, c5, rfl⟩ := Sm.own_shape ho5
        have hs4 := HS4.out
        have hn1 := HN1.out
        have hge : ∀ q, (Value.slice A4 m c4).ownBlock = some q → w3.heap.size ≤ q := fun q hq => (Dk.own_blk HO4.out hq).1
        have b45 : Below (N + 2) w4 w5 := ((Below.refl _ w4).alloc (by omega) _).grown gr5 (by simp; omega) (fun q hq => by have := hge q hq; omega)
        have b5 := B4.out.trans (b45.mono (by rw [← HN.out]; omega))
        have g5 := (b45.block N (by omega)).trans G4.out
        have r5 := (b45.block (N + 1) (by omega)).trans R4.out
        have B5 := Lib.hid b5
        have G5 := Lib.hid g5
        have R5 := Lib.hid r5
        have HO5 := Lib.hid ho5
        have x1 := Sm.cells_of g5 1 _ rfl
        have f1 := Sm.free_of g5 1
        clear ho5 gr5 hge b45 b5 g5 r5)
      have g6 := Sm.heap_set G5.out 1 (.slice A5 (m + 1) c5)
      have r6 := (Below.heap_setCell w5 ⟨N, 1, none⟩ (.slice A5 (m + 1) c5) (N + 1) (by simp)).trans R5.out
      have b6 := B5.out.setCell (p := ⟨N, 1, none⟩) (Nat.le_of_eq HN.out.symm) (.slice A5 (m + 1) c5)
      have HH : ∀ q, w3.heap.size ≤ q → (w5.setCell ⟨N, 1, none⟩ (.slice A5 (m + 1) c5)).heap[q]? = w5.heap[q]? := fun q hq => Below.heap_setCell _ _ _ _ (by have := HN1.out; simp; omega)
      have hsz : (w5.setCell ⟨N, 1, none⟩ (.slice A5 (m + 1) c5)).heap.size = w5.heap.size := by simp
      generalize w5.setCell ⟨N, 1, none⟩ (.slice A5 (m + 1) c5) = w6 at *
      have FIN : Hid (∀ a b c' d : Value, Below w.heap.size w ((((w6.setCell ⟨N + 1, 0, none⟩ a).setCell ⟨N + 1, 1, none⟩ b).setCell ⟨N + 1, 2, none⟩ c').setCell ⟨N + 1, 3, none⟩ d) ∧ Dk.RefAt ((((w6.setCell ⟨N + 1, 0, none⟩ a).setCell ⟨N + 1, 1, none⟩ b).setCell ⟨N + 1, 2, none⟩ c').setCell ⟨N + 1, 3, none⟩ d) fp (.agg #[.slice A n c, .slice A5 (m + 1) c5, .int .i64 f', .bool o']) (Dk.put (Dk.act M).1 k s.data.toList)) := fun a b c' d => by
        have b7 : Below w.heap.size w ((((w6.setCell ⟨N + 1, 0, none⟩ a).setCell ⟨N + 1, 1, none⟩ b).setCell ⟨N + 1, 2, none⟩ c').setCell ⟨N + 1, 3, none⟩ d) := Dk.set4_below b6 (by rw [← HN.out]; omega) _ _ _ _
        have e1 : (Dk.put (Dk.act M).1 k s.data.toList).lasts = M.lasts := by rw [← Dk.act_lasts M]; rfl
        have e2 : (ws ++ [(k, s.data.toList)]).length = m + 1 := by rw [List.length_append, ← HML.out]; rfl
        have e3 : Dk.flatW (ws ++ [(k, s.data.toList)]) = Dk.flatW ws ++ [.int .i64 (k : Int), .string s] := by rw [Dk.flatW_append]; rfl
        have hge : ∀ q, (Value.slice A5 (m + 1) c5).ownBlock = some q → w3.heap.size ≤ q ∧ q < w5.heap.size := fun q hq => ⟨(Dk.own_blk HO5.out hq).1, (Dk.own_blk HO5.out hq).2.1⟩
        have hn1 := HN1.out
        have hw5 : Dk.WritesAt w5 w3.heap.size (.slice A5 (ws ++ [(k, s.data.toList)]).length c5) (ws ++ [(k, s.data.toList)]) := Dk.WritesAt.of_own (e := 87) (by rw [e2, e3]; exact HO5.out)
        refine ⟨b7, A, c, A5, c5, ws ++ [(k, s.data.toList)], by rw [e1, e2, HNL.out, HF'.out, HO'.out]; rfl, ?_, ?_, ?_, ?_, ?_, ?_⟩
        · rw [e1]; exact HL.out.below b7
        · refine hw5.more.keep ?_ ?_
          · simp [hsz]
          · intro q _ hq
            rw [e2] at hq
            have := hge q hq
            rw [Dk.set4_other _ _ _ _ _ _ _ (by omega)]
            exact HH q this.1
        · exact HK.out.act.put (by rw [Dk.act_lasts, ← HNL.out]; omega) rfl (fun j => rfl)
        · rw [e1]; exact fun q hq => ⟨Nat.lt_of_lt_of_le (HA.out q hq).1 b7.size, (HA.out q hq).2⟩
        · intro q hq
          rw [e2] at hq
          have := hge q hq
          refine ⟨by simp [hsz]; exact this.2, fun hf => ?_⟩
          have := hfp q hf
          have := B3.out.size
          omega
        · intro h; simp at h
      have x0 := Sm.cells_of g6 0 _ rfl
      have x1 := Sm.cells_of g6 1 _ rfl
      have x2 := Sm.cells_of g6 2 _ rfl
      have x3 := Sm.cells_of g6 3 _ rfl
      have y0 := Sm.cells_of r6 0 _ rfl
      have y1 := Sm.cells_of r6 1 _ rfl
      have y2 := Sm.cells_of r6 2 _ rfl
      have y3 := Sm.cells_of r6 3 _ rfl
      have q0 := Sm.free_of r6 0
      have q1 := Sm.free_of r6 1
      have q2 := Sm.free_of r6 2
      have q3 := Sm.free_of r6 3
      clear g6 r6 b6 HH hsz
      go_wp2
      refine bodyPost_ret (v := .tuple #[.agg #[.slice A n c, .slice A5 (m + 1) c5, .int .i64 f', .bool o'], .int .i64 0]) ((results_cell_tmp rfl _ _ _).trans (by go_simp)) rfl ⟨_, rfl, (FIN.out _ _ _ _).2, (FIN.out _ _ _ _).1⟩
end Go.Proofs.YtnmagfodjcookaaGreat
