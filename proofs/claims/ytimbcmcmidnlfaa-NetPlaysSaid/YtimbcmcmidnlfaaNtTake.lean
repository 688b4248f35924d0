/-
  net's Take; Post and Take of none.
-/
import Derived.Test.YtimbcmcmidnlfaaNtOps
namespace Go.Proofs.Ytimbcmcmidnlfaa
open Go.RowKit
set_option maxRecDepth 100000 in
theorem ntTake_none {w : World} {v : Value} (h : Nt.None w v) (i : Int) : Calls Try.prog 13 #[v, .int .i64 i] w fun e w' => e = .returned (.tuple #[.agg Nt.zero.cells.toArray, .int .i64 2]) ∧ Below w.heap.size w w' := by
  have b1 : Below w.heap.size w (w.alloc (.cells #[.int .i64 0, .int .i64 0, .string ⟨#[]⟩] 25)) := (Below.refl _ w).alloc (Nat.le_refl _) _
  have FI := Lib.hid (ntFind_none (w := w.alloc (.cells #[.int .i64 0, .int .i64 0, .string ⟨#[]⟩] 25)) (v := v) (by
    rcases h with rfl | ⟨b, rfl, h⟩
    · exact .inl rfl
    · exact .inr ⟨b, rfl, (b1.block b (Sm.lt_of h)).trans h⟩) i)
  have B1 := Lib.hid b1
  clear h b1
  unfold Nt.zero Nt.Pk.cells
  simp only
  go_enter Try.func13, Try.ntmps13
  go_wp2_with fail
  refine FI.out.mono ?_
  rintro e w1 ⟨rfl, rfl⟩
  go_wp2
  refine bodyPost_ret (v := .tuple #[.agg #[.int .i64 0, .int .i64 0, .string ⟨#[]⟩], .int .i64 2]) ((results_cell_tmp rfl _ _ _).trans (by go_simp)) rfl ⟨rfl, ?_⟩
  exact B1.out
set_option maxRecDepth 100000 in
theorem ntPost_none {w : World} {v : Value} (h : Nt.None w v) (p : Nt.Pk) : Calls Try.prog 11 #[v, .agg p.cells.toArray] w fun e w' => e = .returned (.int .i64 2) ∧ Below w.heap.size w w' := by
  obtain ⟨f, t, d⟩ := p
  have b1 : Below w.heap.size w (w.alloc (.cells #[.int .i64 f, .int .i64 t, .string d] 25)) := (Below.refl _ w).alloc (Nat.le_refl _) _
  have NO := Lib.hid (ntNone_is (w := w.alloc (.cells #[.int .i64 f, .int .i64 t, .string d] 25)) (v := v) (by
    rcases h with rfl | ⟨b, rfl, h⟩
    · exact .inl rfl
    · exact .inr ⟨b, rfl, (b1.block b (Sm.lt_of h)).trans h⟩))
  have B1 := Lib.hid b1
  clear h b1
  unfold Nt.Pk.cells
  simp only
  go_enter Try.func11, Try.ntmps11
  go_wp2_with fail
  refine NO.out.mono ?_
  rintro e w1 ⟨rfl, rfl⟩
  go_wp2
  go_ret
  exact ⟨rfl, B1.out⟩
section
variable {B : Nat} {w0 w : World} {r : Nat} {L : Nat → Prop} {M : Nt.Md}
set_option maxRecDepth 100000 in
set_option maxHeartbeats 1000000 in
theorem ntTake_any (h : Nt.Own B w0 w r L M) (i : Int) :
    Calls Try.prog 13 #[.pointer (some ⟨r, 0, none⟩), .int .i64 i] w fun e w' => e = .returned (.tuple #[.agg (Nt.take M i).2.1.cells.toArray, .int .i64 (Nt.take M i).2.2]) ∧ Nt.Step B w0 w w' r L (Nt.take M i).1 := by
  have hlt := h.lt
  obtain ⟨N, hN⟩ : ∃ N, N = w.heap.size := ⟨_, rfl⟩
  obtain ⟨w1, hw1⟩ : ∃ x, x = w.alloc (.cells #[.int .i64 0, .int .i64 0, .string ⟨#[]⟩] 25) := ⟨_, rfl⟩
  have b1 : Below w.heap.size w w1 := by rw [hw1]; exact (Below.refl _ w).alloc (Nat.le_refl _) _
  have g1 : w1.heap[N]? = some (.cells #[.int .i64 0, .int .i64 0, .string ⟨#[]⟩] 25 (0, 0)) := by rw [hw1, hN]; exact heap_alloc_new w _
  have h1 := h.low b1
  have ST1 := Lib.hid (Nt.Step.ofLow h b1)
  have FI := Lib.hid (ntFind_any h1 i)
  have G1 := Lib.hid g1
  have HW1 := Lib.hid hw1
  have HN := Lib.hid hN
  have hrN : Hid (r < N) := by show r < N; omega
  have b3 : Hid (∀ x y z : Value, Below N w1 (((w1.setCell ⟨N, 0, none⟩ x).setCell ⟨N, 1, none⟩ y).setCell ⟨N, 2, none⟩ z)) := fun x y z =>
    (((Below.refl N w1).setCell (p := ⟨N, 0, none⟩) (Nat.le_refl _) _).setCell (p := ⟨N, 1, none⟩) (Nat.le_refl _) _).setCell (p := ⟨N, 2, none⟩) (Nat.le_refl _) _
  have OUT : Hid (∀ x y z : Value, Nt.Step B w0 w (((w1.setCell ⟨N, 0, none⟩ x).setCell ⟨N, 1, none⟩ y).setCell ⟨N, 2, none⟩ z) r L M) := fun x y z => by
    refine Nt.Step.ofLow h (b1.trans ?_)
    have := b3.out x y z
    rw [hN] at this ⊢
    exact this
  by_cases ht : Nt.there M i = true
  · obtain ⟨k, rfl⟩ : ∃ k : Nat, i = (k : Int) := ⟨i.toNat, by have := Nt.there_iff.1 ht; omega⟩
    have hk : k < M.row.length := by have := Nt.there_iff.1 ht; omega
    rw [if_pos ht] at FI
    obtain ⟨A, c, hn, hP, -, -, -⟩ := h1.netBlock
    have hlen := h.net.ok.len
    have c1 := Sm.cells_of hn 1 (.bool M.parted) rfl
    cases hpa : M.parted with
    | true =>
      have e : Nt.take M k = (M, Nt.zero, 14) := by simp [Nt.take, ht, hpa]
      rw [e]
      rw [hpa] at c1
      have x0 := Sm.cells_of g1 0 _ rfl
      have x1 := Sm.cells_of g1 1 _ rfl
      have x2 := Sm.cells_of g1 2 _ rfl
      have f0 := Sm.free_of g1 0
      have f1 := Sm.free_of g1 1
      have f2 := Sm.free_of g1 2
      clear h h1 e hn hP b1 g1 hw1 hN
      unfold Nt.zero Nt.Pk.cells
      simp only
      go_enter Try.func13, Try.ntmps13
      go_wp2_with fail
      rw [← HW1.out, ← HN.out]
      refine FI.out.mono ?_
      rintro e w2 ⟨rfl, rfl⟩
      go_wp2
      refine bodyPost_ret (v := .tuple #[.agg #[.int .i64 0, .int .i64 0, .string ⟨#[]⟩], .int .i64 14]) ((results_cell_tmp rfl _ _ _).trans (by go_simp)) rfl ⟨rfl, OUT.out _ _ _⟩
    | false =>
      have e : Nt.take M k = (Nt.drop M k, M.row[k], 0) := by
        have ha := Nt.at_get hk
        simp only [Nt.take, ht, hpa, if_true, Int.toNat_natCast, ha]; rfl
      rw [e]
      rw [hpa] at c1
      have c2 := Sm.cells_of hn 2 _ rfl
      obtain ⟨g, rfl, hgl, x0, x1, x2⟩ := hP.get hk
      obtain ⟨p, hp⟩ : ∃ p, p = M.row[k] := ⟨_, rfl⟩
      have hpd : p.d.size ≤ 1099511627776 := by rw [hp]; exact h.net.ok.data _ (List.getElem_mem hk)
      rw [← hp] at x0 x1 x2 ⊢
      have OW : Hid (∀ wx : World, Calls Try.prog 35 #[.agg p.cells.toArray] wx fun e w' => e = .returned (.agg p.cells.toArray) ∧ Below wx.heap.size wx w') := fun wx => ntOwn_any wx p hpd
      have DR : Hid (∀ (wx : World) (L' : Nat → Prop), Nt.Own B w0 wx r L' M → Calls Try.prog 36 #[.pointer (some ⟨r, 0, none⟩), .int .i64 (k : Int)] wx fun e w' => e = .returned (.tuple #[]) ∧ Nt.Step B w0 wx w' r L' (Nt.drop M k)) := fun wx L' hx => ntDrop_any hx k hk
      have H := Lib.hid h
      have B1 := Lib.hid b1
      have hki : (k : Int) < (M.row.length : Int) := by omega
      clear h h1 e hn hP hp b1 g1 hw1 hN hpd hpa
      obtain ⟨f, t, d⟩ := p
      unfold Nt.Pk.cells at *
      simp only at *
      go_enter Try.func13, Try.ntmps13
      go_wp2_with fail
      rw [← HW1.out, ← HN.out]
      refine FI.out.mono ?_
      rintro e w2 ⟨rfl, rfl⟩
      go_wp2_with fail
      refine (OW.out _).mono ?_
      rintro e w3 ⟨rfl, k3⟩
      have b3' := B1.out.trans (k3.mono B1.out.size)
      have g3 := (k3.block N (Sm.lt_of G1.out)).trans G1.out
      go_wp2_with fail
      have b4' : Below w3.heap.size w3 (w3.alloc (.cells #[.int .i64 f, .int .i64 t, .string d] 25)) := (Below.refl _ w3).alloc (Nat.le_refl _) _
      have b4 := b3'.trans (b4'.mono b3'.size)
      have g4 := (b4'.block N (Sm.lt_of g3)).trans g3
      have g5 := heap_alloc_new w3 (.cells #[.int .i64 f, .int .i64 t, .string d] 25)
      have hN3 := Sm.lt_of g3
      obtain ⟨N2, hN2⟩ : ∃ n, n = w3.heap.size := ⟨_, rfl⟩
      rw [← hN2] at g5 hN3 ⊢
      have hrN' : r < N := hrN.out
      have hNw : N = w.heap.size := HN.out
      clear k3 g3 b3' b4' hN2
      generalize w3.alloc (.cells #[.int .i64 f, .int .i64 t, .string d] 25) = w4 at *
      have o4 : Nt.Own B w0 w4 r (fun q => L q ∨ q = N) M := H.out.label b4 (fun q hq => by
        rcases hq with hq | rfl
        · exact ⟨Nat.lt_of_lt_of_le (H.out.old q hq) b4.size, .inl hq⟩
        · exact ⟨Sm.lt_of g4, .inr (by omega)⟩)
      refine (DR.out w4 _ o4).mono ?_
      rintro e w5 ⟨rfl, st5⟩
      have g6 := (st5.turned.block N (Sm.lt_of g4) (fun e => by have := Option.some.inj e; omega)).trans g4
      have g7 := (st5.turned.block N2 (Sm.lt_of g5) (fun e => by have := Option.some.inj e; omega)).trans g5
      have k5 : w.grownBy w5 (some r) := Sm.grown_trans ⟨b4.os, b4.tape, b4.output, b4.size, fun i hi _ => b4.block i hi⟩ st5.turned
      have o5 := st5.own
      have gN : w5.grownBy (((w5.setCell ⟨N, 0, none⟩ (.int .i64 f)).setCell ⟨N, 1, none⟩ (.int .i64 t)).setCell ⟨N, 2, none⟩ (.string d)) (some N) := Sm.grown_set (Sm.grown_set (Sm.grown_set (Sm.grown_refl w5 (some N)) 0 _) 1 _) 2 _
      have o6 := o5.other (b := some N) (fun e => by have := Option.some.inj e; omega) (fun q hq => by
        have := Option.some.inj hq
        subst this
        refine ⟨?_, .inl (.inr rfl)⟩
        have := H.out.size
        omega) gN
      have ST6 : Hid (Nt.Step B w0 w (((w5.setCell ⟨N, 0, none⟩ (.int .i64 f)).setCell ⟨N, 1, none⟩ (.int .i64 t)).setCell ⟨N, 2, none⟩ (.string d)) r L (Nt.drop M k)) := by
        refine ⟨o6.label (Below.refl _ _) fun q hq => ⟨o6.old q (.inl hq), .inl (.inl hq)⟩, Sm.grown_below k5 ?_⟩
        exact ⟨gN.os, gN.tape, gN.output, gN.size, fun i hi => gN.block i (by have := k5.size; omega) (fun h => by have := Option.some.inj h; omega)⟩
      have x0 := Sm.cells_of g7 0 _ rfl
      have x1 := Sm.cells_of g7 1 _ rfl
      have x2 := Sm.cells_of g7 2 _ rfl
      have y0 := Sm.cells_of g6 0 _ rfl
      have y1 := Sm.cells_of g6 1 _ rfl
      have y2 := Sm.cells_of g6 2 _ rfl
      have f0 := Sm.free_of g6 0
      have f1 := Sm.free_of g6 1
      have f2 := Sm.free_of g6 2
      clear o4 o5 o6 gN k5 st5 g6 g7 g4 g5 b4 hNw hN3 hrN'
      go_wp2
      refine bodyPost_ret (v := .tuple #[.agg #[.int .i64 f, .int .i64 t, .string d], .int .i64 0]) ((results_cell_tmp rfl _ _ _).trans (by go_simp)) rfl ⟨rfl, ST6.out⟩
  · have e : Nt.take M i = (M, Nt.zero, 4) := by simp [Nt.take, ht]
    rw [e]
    rw [if_neg ht] at FI
    have x0 := Sm.cells_of g1 0 _ rfl
    have x1 := Sm.cells_of g1 1 _ rfl
    have x2 := Sm.cells_of g1 2 _ rfl
    have f0 := Sm.free_of g1 0
    have f1 := Sm.free_of g1 1
    have f2 := Sm.free_of g1 2
    clear h h1 e b1 g1 hw1 hN
    unfold Nt.zero Nt.Pk.cells
    simp only
    go_enter Try.func13, Try.ntmps13
    go_wp2_with fail
    rw [← HW1.out, ← HN.out]
    refine FI.out.mono ?_
    rintro e w2 ⟨rfl, rfl⟩
    go_wp2
    refine bodyPost_ret (v := .tuple #[.agg #[.int .i64 0, .int .i64 0, .string ⟨#[]⟩], .int .i64 4]) ((results_cell_tmp rfl _ _ _).trans (by go_simp)) rfl ⟨rfl, OUT.out _ _ _⟩
end
end Go.Proofs.Ytimbcmcmidnlfaa
