/-
  The document's own net: Post, Dup, Lose, Take.
-/
import Derived.Test.YtimbcmcmidnlfaaNtRef
namespace Go.Proofs.Ytimbcmcmidnlfaa
open Go.RowKit
namespace Nt
/-- What the document's Lose tells: the packet, too. -/
def loseP (R : Md) (i : Int) : Md × Pk × Int := if there R i then (drop R i.toNat, at_ R i, 0) else (R, zero, 4)
theorem loseP_fst (R : Md) (i : Int) : (loseP R i).1 = (lose R i).1 := by unfold loseP lose; split <;> rfl
theorem loseP_snd (R : Md) (i : Int) : (loseP R i).2.2 = (lose R i).2 := by unfold loseP lose; split <;> rfl
theorem heap_set3 (w : World) (N : Nat) (x y z : Value) (i : Nat) (h : i ≠ N) : (((w.setCell ⟨N, 0, none⟩ x).setCell ⟨N, 1, none⟩ y).setCell ⟨N, 2, none⟩ z).heap[i]? = w.heap[i]? := by
  rw [Below.heap_setCell _ _ _ _ h, Below.heap_setCell _ _ _ _ h, Below.heap_setCell _ _ _ _ h]
end Nt
section
variable {B : Nat} {w0 w : World} {r rw : Nat} {v : Value} {X : Nat → Prop} {M R : Nt.Md}
set_option maxRecDepth 100000 in
set_option maxHeartbeats 1000000 in
theorem r8Post_any (h : Nt.Both B w0 w r rw v X M R) (p : Nt.Pk) (hd : p.d.size ≤ 1099511627776) :
    Calls Try.prog 37 #[.pointer (some ⟨rw, 0, none⟩), .agg p.cells.toArray] w fun e w' => e = .returned (.int .i64 (Nt.post R p).2) ∧ Nt.RPost B w0 w r rw v X M (Nt.post R p).1 w' := by
  have b1 : Below w.heap.size w (w.alloc (.cells p.cells.toArray 25)) := (Below.refl _ w).alloc (Nat.le_refl _) _
  have g1 := heap_alloc_new w (.cells p.cells.toArray 25)
  have H1 := Lib.hid (h.low b1)
  have B1 := Lib.hid b1
  obtain ⟨N, hN⟩ : ∃ N, N = w.heap.size := ⟨_, rfl⟩
  obtain ⟨w1, hw1⟩ : ∃ x, x = w.alloc (.cells p.cells.toArray 25) := ⟨_, rfl⟩
  rw [← hw1] at g1 H1 B1
  rw [← hN] at g1
  have HW1 := Lib.hid hw1
  have HN := Lib.hid hN
  have x0 := Sm.cells_of g1 0 (.int .i64 p.f) rfl
  have x1 := Sm.cells_of g1 1 (.int .i64 p.t) rfl
  have x2 := Sm.cells_of g1 2 (.string p.d) rfl
  by_cases hl : Nt.linked p
  · have e : Nt.post R p = Nt.put R p := by simp [Nt.post, hl]
    rw [e]
    have PU := Lib.hid (r8put_any H1.out p hl hd)
    clear h b1 g1 hw1 hN e
    generalize Nt.put R p = MP at *
    obtain ⟨f, t, d⟩ := p
    unfold Nt.Pk.cells at PU HW1 ⊢
    simp only at x0 x1 x2 PU HW1 ⊢
    rcases hl with ⟨e1, e2⟩ | ⟨e1, e2⟩
    all_goals
      simp only at e1 e2
      subst e1 e2
      go_enter Try.func37, Try.ntmps37
      go_wp2_with fail
      rw [← HW1.out, ← HN.out]
      refine PU.out.mono ?_
      rintro e w2 ⟨rfl, p2⟩
      have P2 := Lib.hid (Nt.RPost.behind B1.out p2)
      clear p2 x0 x1 x2
      go_wp2
      go_ret
      exact ⟨rfl, P2.out⟩
  · have e : Nt.post R p = (R, 1) := by simp [Nt.post, hl]
    rw [e]
    have SM := Lib.hid (h.same B1.out)
    clear h b1 g1 hw1 hN e
    obtain ⟨f, t, d⟩ := p
    unfold Nt.Pk.cells at HW1 ⊢
    simp only at x0 x1 x2 HW1 ⊢
    have hl2 : ¬ ((f = 0 ∧ t = 1) ∨ (f = 1 ∧ t = 0)) := hl
    clear hl
    by_cases hf0 : f = 0
    · subst hf0
      have ht1 : (t == 1) = false := beq_eq_false_iff_ne.2 (by omega)
      go_enter Try.func37, Try.ntmps37
      go_wp2
      go_ret
      exact ⟨rfl, by rw [← HW1.out]; exact SM.out⟩
    · have hfb : (f == 0) = false := beq_eq_false_iff_ne.2 hf0
      by_cases hf1 : f = 1
      · subst hf1
        have ht0 : (t == 0) = false := beq_eq_false_iff_ne.2 (by omega)
        go_enter Try.func37, Try.ntmps37
        go_wp2
        go_ret
        exact ⟨rfl, by rw [← HW1.out]; exact SM.out⟩
      · have hfc : (f == 1) = false := beq_eq_false_iff_ne.2 hf1
        go_enter Try.func37, Try.ntmps37
        go_wp2
        go_ret
        exact ⟨rfl, by rw [← HW1.out]; exact SM.out⟩
set_option maxRecDepth 100000 in
theorem r8Dup_any (h : Nt.Both B w0 w r rw v X M R) (i : Int) :
    Calls Try.prog 40 #[.pointer (some ⟨rw, 0, none⟩), .int .i64 i] w fun e w' => e = .returned (.int .i64 (Nt.dup R i).2) ∧ Nt.RPost B w0 w r rw v X M (Nt.dup R i).1 w' := by
  obtain ⟨Av, cv, hv⟩ := h.shape
  subst hv
  have hlen := h.rok.len
  have c0 := Sm.cells_of h.ref 0 _ rfl
  have SM := Lib.hid (h.same (Below.refl _ w))
  by_cases ht : Nt.there R i = true
  · obtain ⟨k, rfl⟩ : ∃ k : Nat, i = (k : Int) := ⟨i.toNat, by have := Nt.there_iff.1 ht; omega⟩
    have hk : k < R.row.length := by have := Nt.there_iff.1 ht; omega
    have e : Nt.dup R k = Nt.put R R.row[k] := by simp only [Nt.dup, ht, if_true, Nt.at_get hk]
    rw [e]
    obtain ⟨g, hg, hgl, x0, x1, x2⟩ := h.row.get hk
    subst hg
    obtain ⟨p, hp⟩ : ∃ p, p = R.row[k] := ⟨_, rfl⟩
    rw [← hp] at x0 x1 x2 ⊢
    have PU := Lib.hid (r8put_any h p (by rw [hp]; exact h.rok.links _ (List.getElem_mem hk)) (by rw [hp]; exact h.rok.data _ (List.getElem_mem hk)))
    have hki : (k : Int) < (R.row.length : Int) := by omega
    clear h e hp
    generalize Nt.put R p = MP at *
    obtain ⟨f, t, d⟩ := p
    unfold Nt.Pk.cells at PU
    simp only at x0 x1 x2 PU
    go_enter Try.func40, Try.ntmps40
    go_wp2_with fail
    refine PU.out.mono ?_
    rintro e w2 ⟨rfl, st⟩
    have ST := Lib.hid st
    clear st c0 x0 x1 x2
    go_wp2
    go_ret
    exact ⟨rfl, ST.out⟩
  · have e : Nt.dup R i = (R, 4) := by simp [Nt.dup, ht]
    rw [e]
    have hti : ¬ (0 ≤ i ∧ i < (R.row.length : Int)) := fun x => ht (Nt.there_iff.2 x)
    clear h e
    by_cases hi : i < 0
    · go_enter Try.func40, Try.ntmps40
      go_wp2
      go_ret
      exact ⟨rfl, SM.out⟩
    · have hil : (R.row.length : Int) ≤ i := by omega
      go_enter Try.func40, Try.ntmps40
      go_wp2
      go_ret
      exact ⟨rfl, SM.out⟩
set_option maxRecDepth 100000 in
set_option maxHeartbeats 2000000 in
theorem r8Lose_any (h : Nt.Both B w0 w r rw v X M R) (i : Int) :
    Calls Try.prog 39 #[.pointer (some ⟨rw, 0, none⟩), .int .i64 i] w fun e w' => e = .returned (.tuple #[.agg (Nt.loseP R i).2.1.cells.toArray, .int .i64 (Nt.loseP R i).2.2]) ∧ Nt.RPost B w0 w r rw v X M (Nt.loseP R i).1 w' := by
  obtain ⟨Av, cv, hv⟩ := h.shape
  subst hv
  have hlen := h.rok.len
  obtain ⟨N, hN⟩ : ∃ N, N = w.heap.size := ⟨_, rfl⟩
  obtain ⟨w1, hw1⟩ : ∃ x, x = w.alloc (.cells #[.int .i64 0, .int .i64 0, .string ⟨#[]⟩] 25) := ⟨_, rfl⟩
  have b1 : Below w.heap.size w w1 := by rw [hw1]; exact (Below.refl _ w).alloc (Nat.le_refl _) _
  have g1 : w1.heap[N]? = some (.cells #[.int .i64 0, .int .i64 0, .string ⟨#[]⟩] 25 (0, 0)) := by rw [hw1, hN]; exact heap_alloc_new w _
  have h1 := h.low b1
  have c0 := Sm.cells_of h1.ref 0 _ rfl
  have G1 := Lib.hid g1
  have HW1 := Lib.hid hw1
  have HN := Lib.hid hN
  have b3 : Hid (∀ x y z : Value, Below N w1 (((w1.setCell ⟨N, 0, none⟩ x).setCell ⟨N, 1, none⟩ y).setCell ⟨N, 2, none⟩ z)) := fun x y z =>
    (((Below.refl N w1).setCell (p := ⟨N, 0, none⟩) (Nat.le_refl _) _).setCell (p := ⟨N, 1, none⟩) (Nat.le_refl _) _).setCell (p := ⟨N, 2, none⟩) (Nat.le_refl _) _
  have OUT : Hid (∀ x y z : Value, Nt.RPost B w0 w r rw (.slice Av R.row.length cv) X M R (((w1.setCell ⟨N, 0, none⟩ x).setCell ⟨N, 1, none⟩ y).setCell ⟨N, 2, none⟩ z)) := fun x y z => by
    refine h.same (b1.trans ?_)
    have := b3.out x y z
    rw [hN] at this ⊢
    exact this
  by_cases ht : Nt.there R i = true
  · obtain ⟨k, rfl⟩ : ∃ k : Nat, i = (k : Int) := ⟨i.toNat, by have := Nt.there_iff.1 ht; omega⟩
    have hk : k < R.row.length := by have := Nt.there_iff.1 ht; omega
    have e : Nt.loseP R k = (Nt.drop R k, R.row[k], 0) := by
      have ha := Nt.at_get hk
      simp only [Nt.loseP, ht, if_true, Int.toNat_natCast, ha]
    have HEP := Lib.hid e
    have HRD := Lib.hid (h.rok.drop k)
    obtain ⟨n, hn⟩ : ∃ n, n = R.row.length := ⟨_, rfl⟩
    rw [← hn] at c0 hlen h h1 ⊢
    obtain ⟨g, hg, hgl, x0, x1, x2⟩ := h1.row.get hk
    subst hg
    obtain ⟨p, hp⟩ : ∃ p, p = R.row[k] := ⟨_, rfl⟩
    rw [← hp] at x0 x1 x2 HEP
    have H := Lib.hid h
    have H1 := Lib.hid h1
    have B1 := Lib.hid b1
    have HNE := Lib.hid hn
    have HKR := Lib.hid hk
    have hki : (k : Int) < (n : Int) := by omega
    have hcap : n ≤ cv := by have := h.row.block.1; omega
    have hkc : (k : Int) ≤ (cv : Int) := by omega
    have hkb : (0 : Int) ≤ (k : Int) + 1 := by omega
    have hkd : (k : Int) + 1 ≤ (n : Int) := by omega
    have hk1 : IntKind.i64.wrap ((k : Int) + 1) = ((k + 1 : Nat) : Int) := by simp [IntKind.wrap, IntKind.bits, IntKind.signed]; omega
    obtain ⟨a2, ha2⟩ : ∃ a : Addr, a = if cv = k + 1 then ⟨g, 0, none⟩ else ⟨g, (k + 1) * 3, none⟩ := ⟨_, rfl⟩
    have hab : (if cv = k + 1 then some (⟨g, 0, none⟩ : Addr) else some ⟨g, (k + 1) * 3, none⟩) = some a2 := by rw [ha2]; split <;> rfl
    have HA2 := Lib.hid ha2
    obtain ⟨i0, hi, hz0, hz1, hz2⟩ := info_parts Nt.info3_packet
    have HI := Lib.hid hi
    clear h h1 e hp b1 g1 hw1 hN hn ha2 hi
    obtain ⟨f, t, d⟩ := p
    simp only at x0 x1 x2
    go_enter Try.func39, Try.ntmps39
    go_upto_region 1 with (fail)
    rw [← HW1.out, ← HN.out]
    go_upto_region 5 with (fail)
    have k2 : Below w1.heap.size w1 (w1.alloc (.cells #[.int .i64 f, .int .i64 t, .string d] 25)) := (Below.refl _ w1).alloc (Nat.le_refl _) _
    have h2 := H1.out.low k2
    have g2 := (k2.block N (Sm.lt_of G1.out)).trans G1.out
    have n2 := heap_alloc_new w1 (.cells #[.int .i64 f, .int .i64 t, .string d] 25)
    have c2 := Sm.cells_of h2.ref 0 (.slice (some ⟨g, 0, none⟩) n cv) rfl
    have b2 := B1.out.trans (k2.mono B1.out.size)
    have hNlt := Sm.lt_of G1.out
    obtain ⟨N2, hN2⟩ : ∃ m, m = w1.heap.size := ⟨_, rfl⟩
    rw [← hN2] at n2 hNlt ⊢
    clear k2 hN2 c0 x0 x1 x2
    generalize w1.alloc (.cells #[.int .i64 f, .int .i64 t, .string d] 25) = w2 at *
    have H2 := Lib.hid h2
    have B2 := Lib.hid b2
    have r2 : Nt.PksAt w2 B (.slice (some ⟨g, 0, none⟩) n cv) R.row := h2.row
    have HF2 := Lib.hid (r2.front k)
    have HB2 := Lib.hid (Nat.le_refl w2.heap.size)
    have HT2 := Lib.hid (Nt.flat_length (R.row.take k))
    have HTL : Hid ((Nt.flat (R.row.take k)).length = k * 3) := by show _ = _; rw [Nt.flat_length, List.length_take, Nat.min_eq_left (by have := HKR.out; omega)]
    have HDL : Hid ((Nt.flat (R.row.drop (k + 1))).length = (n - (k + 1)) * 3) := by show _ = _; rw [Nt.flat_length, List.length_drop, HNE.out]
    have G2 := Lib.hid g2
    have N22 := Lib.hid n2
    clear HT2 h2 b2 r2
    go_upto_region 6 with (
      at_builtin
      refine wpList_append_own _ rfl _ _ 37 rfl w2.heap.size 25 i0 _ 3 32 Try.underlying37 HI.out hz0 hz1 hz2 rfl (by decide) (.slice none 0 0) 0 [] rfl (World.ownsRow_nil _ _ _ _) ⟨g, 0, none⟩ k cv (Nt.flat (R.row.take k)) rfl HTL.out HF2.out (Nt.flat_single _) (by unfold maxLen; omega) (by omega) (Nat.le_refl _) ?_
      intro v5 w5 own5 gr5 _)
    have k5 : Below w2.heap.size w2 w5 := (Below.refl _ w2).grown gr5 (Nat.le_refl _) (fun q hq => by cases hq)
    simp only [Nat.zero_add, List.nil_append] at own5
    obtain ⟨A5, c5, hv5⟩ := Sm.own_shape own5
    subst hv5
    have h5 := H2.out.low k5
    have c5x := Sm.cells_of h5.ref 0 (.slice (some ⟨g, 0, none⟩) n cv) rfl
    have r5 : Nt.PksAt w5 B (.slice (some ⟨g, 0, none⟩) n cv) R.row := h5.row
    have HF5 := Lib.hid (r5.back2 k HA2.out)
    have HB5 := Lib.hid k5.size
    have HO5 := Lib.hid own5
    have K5 := Lib.hid k5
    clear c2 g2 n2 HF2 HB2 HTL own5 gr5 k5 r5
    go_upto_region 7 with (
      at_builtin
      refine wpList_append_own _ rfl _ _ 37 rfl w2.heap.size 25 i0 _ 3 32 Try.underlying37 HI.out hz0 hz1 hz2 rfl (by decide) (.slice A5 k c5) k (Nt.flat (R.row.take k)) rfl HO5.out a2 (n - (k + 1)) (cv - (k + 1)) (Nt.flat (R.row.drop (k + 1))) rfl HDL.out HF5.out (Nt.flat_single _) (by unfold maxLen; omega) (by omega) HB5.out ?_
      intro v6 w6 own6 gr6 _
      have k6 := K5.out.grown gr6 HB5.out (fun q hq => (Nt.own_blk HO5.out hq).1)
      have h6 := H2.out.low k6
      have g6 := (k6.block N (Sm.lt_of G2.out)).trans G2.out
      have n6 := (k6.block N2 (Sm.lt_of N22.out)).trans N22.out
      obtain ⟨A6, c6, hv6⟩ := Sm.own_shape own6
      obtain ⟨n6', hn6'⟩ : ∃ m, m = k + (n - (k + 1)) := ⟨_, rfl⟩
      rw [← hn6'] at hv6
      subst hv6
      have own6 : Nt.PksAt w6 w2.heap.size (.slice A6 n6' c6) (Nt.drop R k).row := by
        show w6.ownsRow _ _ _ _ (R.row.eraseIdx k).length (Nt.flat (R.row.eraseIdx k))
        rw [List.eraseIdx_eq_take_drop_succ, Nt.flat_append, List.length_append, List.length_take, List.length_drop, Nat.min_eq_left (by have := HKR.out; omega), ← HNE.out]
        exact own6
      have OWN6 := Lib.hid own6
      have H6 := Lib.hid h6
      have K6 := Lib.hid k6
      have G6 := Lib.hid g6
      have N6 := Lib.hid n6
      have q6 := Sm.cells_of h6.ref 0 (.slice (some ⟨g, 0, none⟩) n cv) rfl
      have f6 := Sm.free_of h6.ref 0
      clear own6 gr6 k6 h6 g6 n6 c5x hn6')
    have hrwlt := Sm.lt_of H.out.ref
    have hNw : N = w.heap.size := HN.out
    have hNrw : N ≠ rw := by omega
    have hw1w := B1.out.size
    have hN2rw : N2 ≠ rw := by omega
    have hNN2 : N ≠ N2 := by omega
    have hN2w2 := Sm.lt_of N22.out
    have hr7 := Sm.heap_set H6.out.ref 0 (.slice A6 n6' c6)
    have g7 := (Below.heap_setCell w6 ⟨rw, 0, none⟩ (.slice A6 n6' c6) N hNrw).trans G6.out
    have n7 := (Below.heap_setCell w6 ⟨rw, 0, none⟩ (.slice A6 n6' c6) N2 hN2rw).trans N6.out
    have hhp : ∀ i, i ≠ rw → (w6.setCell ⟨rw, 0, none⟩ (.slice A6 n6' c6)).heap[i]? = w6.heap[i]? := fun i h => Below.heap_setCell _ _ _ _ h
    have hsz : (w6.setCell ⟨rw, 0, none⟩ (.slice A6 n6' c6)).heap.size = w6.heap.size := by simp
    have hos : (w6.setCell ⟨rw, 0, none⟩ (.slice A6 n6' c6)).os = w6.os ∧ (w6.setCell ⟨rw, 0, none⟩ (.slice A6 n6' c6)).tape = w6.tape ∧ (w6.setCell ⟨rw, 0, none⟩ (.slice A6 n6' c6)).output = w6.output := ⟨rfl, rfl, rfl⟩
    generalize w6.setCell ⟨rw, 0, none⟩ (.slice A6 n6' c6) = w7 at *
    have PO : Hid (Nt.RPost B w0 w r rw (.slice (some ⟨g, 0, none⟩) n cv) X M (Nt.drop R k) (((w7.setCell ⟨N, 0, none⟩ (.int .i64 f)).setCell ⟨N, 1, none⟩ (.int .i64 t)).setCell ⟨N, 2, none⟩ (.string d))) := by
      have hfr : ∀ q, (Value.slice A6 n6' c6).ownBlock = some q → w2.heap.size ≤ q := fun q hq => (Nt.own_blk OWN6.out hq).1
      have hb2 := B2.out.size
      have hk6 := K6.out.size
      refine H.out.remade (v' := .slice A6 n6' c6) HRD.out (Nt.own_more (Nt.own_at OWN6.out fun q hq => ?_) ?_) ?_ (fun i hi h1 h2 => ?_) ?_ (fun q hq => .inr ?_) ?_ ?_ ?_
      · have := hfr q hq
        rw [Nt.heap_set3 _ _ _ _ _ _ (by omega)]
        exact hhp q (by omega)
      · have := H.out.own.size; omega
      · rw [Nt.heap_set3 _ _ _ _ _ _ hNrw.symm]
        exact hr7
      · rw [Nt.heap_set3 _ _ _ _ _ _ (by omega), hhp i h1, K6.out.block i (by omega)]
        exact B2.out.block i hi
      · simp; omega
      · have := hfr q hq; omega
      · exact (hos.1.trans K6.out.os).trans B2.out.os
      · exact (hos.2.1.trans K6.out.tape).trans B2.out.tape
      · exact (hos.2.2.trans K6.out.output).trans B2.out.output
    have x0 := Sm.cells_of n7 0 _ rfl
    have x1 := Sm.cells_of n7 1 _ rfl
    have x2 := Sm.cells_of n7 2 _ rfl
    have y0 := Sm.cells_of g7 0 _ rfl
    have y1 := Sm.cells_of g7 1 _ rfl
    have y2 := Sm.cells_of g7 2 _ rfl
    have f0 := Sm.free_of g7 0
    have f1 := Sm.free_of g7 1
    have f2 := Sm.free_of g7 2
    clear hhp hsz hos hr7 g7 n7 hNw hw1w hN2w2 q6 f6
    go_wp2
    refine bodyPost_ret (v := .tuple #[.agg #[.int .i64 f, .int .i64 t, .string d], .int .i64 0]) ((results_cell_tmp rfl _ _ _).trans (by go_simp)) rfl ⟨by rw [HEP.out]; rfl, by rw [HEP.out]; exact PO.out⟩
  · have e : Nt.loseP R i = (R, Nt.zero, 4) := by simp [Nt.loseP, ht]
    rw [e]
    have hti : ¬ (0 ≤ i ∧ i < (R.row.length : Int)) := fun x => ht (Nt.there_iff.2 x)
    have x0 := Sm.cells_of g1 0 _ rfl
    have x1 := Sm.cells_of g1 1 _ rfl
    have x2 := Sm.cells_of g1 2 _ rfl
    have f0 := Sm.free_of g1 0
    have f1 := Sm.free_of g1 1
    have f2 := Sm.free_of g1 2
    clear h h1 e b1 g1 hw1 hN
    unfold Nt.zero Nt.Pk.cells
    simp only
    by_cases hi : i < 0
    · go_enter Try.func39, Try.ntmps39
      go_upto_region 1 with (fail)
      rw [← HW1.out, ← HN.out]
      go_wp2
      refine bodyPost_ret (v := .tuple #[.agg #[.int .i64 0, .int .i64 0, .string ⟨#[]⟩], .int .i64 4]) ((results_cell_tmp rfl _ _ _).trans (by go_simp)) rfl ⟨rfl, OUT.out _ _ _⟩
    · have hil : (R.row.length : Int) ≤ i := by omega
      go_enter Try.func39, Try.ntmps39
      go_upto_region 1 with (fail)
      rw [← HW1.out, ← HN.out]
      go_wp2
      refine bodyPost_ret (v := .tuple #[.agg #[.int .i64 0, .int .i64 0, .string ⟨#[]⟩], .int .i64 4]) ((results_cell_tmp rfl _ _ _).trans (by go_simp)) rfl ⟨rfl, OUT.out _ _ _⟩
set_option maxRecDepth 100000 in
set_option maxHeartbeats 2000000 in
theorem r8Take_any (h : Nt.Both B w0 w r rw v X M R) (i : Int) :
    Calls Try.prog 38 #[.pointer (some ⟨rw, 0, none⟩), .int .i64 i] w fun e w' => e = .returned (.tuple #[.agg (Nt.take R i).2.1.cells.toArray, .int .i64 (Nt.take R i).2.2]) ∧ Nt.RPost B w0 w r rw v X M (Nt.take R i).1 w' := by
  obtain ⟨Av, cv, hv⟩ := h.shape
  subst hv
  have hlen := h.rok.len
  obtain ⟨N, hN⟩ : ∃ N, N = w.heap.size := ⟨_, rfl⟩
  obtain ⟨w1, hw1⟩ : ∃ x, x = w.alloc (.cells #[.int .i64 0, .int .i64 0, .string ⟨#[]⟩] 25) := ⟨_, rfl⟩
  have b1 : Below w.heap.size w w1 := by rw [hw1]; exact (Below.refl _ w).alloc (Nat.le_refl _) _
  have g1 : w1.heap[N]? = some (.cells #[.int .i64 0, .int .i64 0, .string ⟨#[]⟩] 25 (0, 0)) := by rw [hw1, hN]; exact heap_alloc_new w _
  have h1 := h.low b1
  have c0 := Sm.cells_of h1.ref 0 (.slice Av R.row.length cv) rfl
  have c1 := Sm.cells_of h1.ref 1 (.bool R.parted) rfl
  have HW1 := Lib.hid hw1
  have HN := Lib.hid hN
  have hnot : ∀ Mx : Nt.Md × Nt.Pk × Int, Mx = Mx := fun _ => rfl
  clear hnot
  by_cases hd : Nt.there R i = true ∧ R.parted = true
  · obtain ⟨ht, hp⟩ := hd
    have e : Nt.take R i = (R, Nt.zero, 14) := by simp [Nt.take, ht, hp]
    rw [e]
    have hti := Nt.there_iff.1 ht
    rw [hp] at c1
    have b3 : Below N w1 (((w1.setCell ⟨N, 0, none⟩ (.int .i64 0)).setCell ⟨N, 1, none⟩ (.int .i64 0)).setCell ⟨N, 2, none⟩ (.string ⟨#[]⟩)) :=
      (((Below.refl N w1).setCell (p := ⟨N, 0, none⟩) (Nat.le_refl _) _).setCell (p := ⟨N, 1, none⟩) (Nat.le_refl _) _).setCell (p := ⟨N, 2, none⟩) (Nat.le_refl _) _
    have OUT : Hid (Nt.RPost B w0 w r rw (.slice Av R.row.length cv) X M R (((w1.setCell ⟨N, 0, none⟩ (.int .i64 0)).setCell ⟨N, 1, none⟩ (.int .i64 0)).setCell ⟨N, 2, none⟩ (.string ⟨#[]⟩))) :=
      h.same (b1.trans (by rw [hN] at b3 ⊢; exact b3))
    have x0 := Sm.cells_of g1 0 _ rfl
    have x1 := Sm.cells_of g1 1 _ rfl
    have x2 := Sm.cells_of g1 2 _ rfl
    have f0 := Sm.free_of g1 0
    have f1 := Sm.free_of g1 1
    have f2 := Sm.free_of g1 2
    have hi0 := hti.1
    have hi1 := hti.2
    clear h h1 e b1 b3 g1 hw1 hN hti
    unfold Nt.zero Nt.Pk.cells
    simp only
    go_enter Try.func38, Try.ntmps38
    go_upto_region 1 with (fail)
    rw [← HW1.out, ← HN.out]
    go_wp2
    refine bodyPost_ret (v := .tuple #[.agg #[.int .i64 0, .int .i64 0, .string ⟨#[]⟩], .int .i64 14]) ((results_cell_tmp rfl _ _ _).trans (by go_simp)) rfl ⟨rfl, OUT.out⟩
  · have e : Nt.take R i = Nt.loseP R i := by
      unfold Nt.take Nt.loseP
      by_cases ht : Nt.there R i = true
      · rw [if_pos ht, if_pos ht, if_neg (fun hp => hd ⟨ht, hp⟩)]
      · rw [if_neg ht, if_neg ht]
    rw [e]
    have hm : Nt.Both B w0 w1 r rw (.slice Av R.row.length cv) (fun q => X q ∨ q = N) M R := h.mark b1 (fun q hq => by
      rcases hq with hq | rfl
      · exact ⟨Nat.lt_of_lt_of_le (h.own.old q (.inr hq)) b1.size, .inl hq⟩
      · exact ⟨Sm.lt_of g1, .inr (by omega)⟩)
    have LO := Lib.hid (r8Lose_any hm i)
    obtain ⟨pk, hpk⟩ : ∃ p, p = (Nt.loseP R i).2.1 := ⟨_, rfl⟩
    obtain ⟨er, her⟩ : ∃ x, x = (Nt.loseP R i).2.2 := ⟨_, rfl⟩
    obtain ⟨R', hR'⟩ : ∃ x, x = (Nt.loseP R i).1 := ⟨_, rfl⟩
    rw [← hpk, ← her, ← hR'] at LO ⊢
    have hrN : N ≠ rw := by have := Sm.lt_of h.ref; omega
    have hrN2 : N ≠ r := by have := h.own.lt; omega
    have hBN : B ≤ N := by have := h.own.size; omega
    have hvN : (Value.slice Av R.row.length cv).ownBlock ≠ some N := fun e => by have := h.vlt e; omega
    have H := Lib.hid h
    have G1 := Lib.hid g1
    have B1 := Lib.hid b1
    obtain ⟨f, t, d⟩ := pk
    unfold Nt.Pk.cells at LO ⊢
    simp only at LO ⊢
    have HD := Lib.hid hd
    have hti : ¬ (0 ≤ i ∧ i < (R.row.length : Int)) ∨ R.parted = false := by
      by_cases ht : 0 ≤ i ∧ i < (R.row.length : Int)
      · right
        cases hp : R.parted
        · rfl
        · exact absurd ⟨Nt.there_iff.2 ht, hp⟩ hd
      · exact .inl ht
    have HT := Lib.hid hti
    have FIN : Hid (∀ w2 : World, Nt.RPost B w0 w1 r rw (.slice Av R.row.length cv) (fun q => X q ∨ q = N) M R' w2 → w2.heap[N]? = some (.cells #[.int .i64 0, .int .i64 0, .string ⟨#[]⟩] 25 (0, 0)) ∧ Nt.RPost B w0 w r rw (.slice Av R.row.length cv) X M R' (((w2.setCell ⟨N, 0, none⟩ (.int .i64 f)).setCell ⟨N, 1, none⟩ (.int .i64 t)).setCell ⟨N, 2, none⟩ (.string d))) := fun w2 p2 => by
      obtain ⟨v', p1, p3, p4⟩ := p2
      have gN := (p3 N (Sm.lt_of G1.out) hrN hvN).trans G1.out
      refine ⟨gN, v', ?_, fun i hi h1 h2 => ?_, ?_⟩
      · have gs := Sm.grown_set (Sm.grown_set (Sm.grown_set (Sm.grown_refl w2 (some N)) 0 (.int .i64 f)) 1 (.int .i64 t)) 2 (.string d)
        have p5 := p1.other (b := N) (.inr rfl) hrN2 hrN hBN gs
        exact p5.mark (Below.refl _ _) fun q hq => ⟨p5.own.old q (.inr (.inl hq)), .inl (.inl hq)⟩
      · rw [Nt.heap_set3 _ _ _ _ _ _ (by have := HN.out; omega), p3 i (Nat.lt_of_lt_of_le hi B1.out.size) h1 h2]
        exact B1.out.block i hi
      · have := B1.out.size; simp; omega
    clear h h1 e b1 g1 hw1 hN hd hti hpk her hR' hm
    by_cases hi0 : 0 ≤ i
    · by_cases hi1 : i < (R.row.length : Int)
      · have hp : R.parted = false := by
          rcases HT.out with x | x
          · exact absurd ⟨hi0, hi1⟩ x
          · exact x
        rw [hp] at c1
        clear hp
        go_enter Try.func38, Try.ntmps38
        go_upto_region 1 with (fail)
        rw [← HW1.out, ← HN.out]
        go_wp2_with fail
        refine LO.out.mono ?_
        rintro e w2 ⟨rfl, p2⟩
        obtain ⟨gN, PF⟩ := FIN.out w2 p2
        have PF := Lib.hid PF
        have y0 := Sm.cells_of gN 0 _ rfl
        have y1 := Sm.cells_of gN 1 _ rfl
        have y2 := Sm.cells_of gN 2 _ rfl
        have f0 := Sm.free_of gN 0
        have f1 := Sm.free_of gN 1
        have f2 := Sm.free_of gN 2
        clear p2 gN c0 c1
        go_wp2
        refine bodyPost_ret (v := .tuple #[.agg #[.int .i64 f, .int .i64 t, .string d], .int .i64 er]) ((results_cell_tmp rfl _ _ _).trans (by go_simp)) rfl ⟨rfl, PF.out⟩
      · go_enter Try.func38, Try.ntmps38
        go_upto_region 1 with (fail)
        rw [← HW1.out, ← HN.out]
        go_wp2_with fail
        refine LO.out.mono ?_
        rintro e w2 ⟨rfl, p2⟩
        obtain ⟨gN, PF⟩ := FIN.out w2 p2
        have PF := Lib.hid PF
        have y0 := Sm.cells_of gN 0 _ rfl
        have y1 := Sm.cells_of gN 1 _ rfl
        have y2 := Sm.cells_of gN 2 _ rfl
        have f0 := Sm.free_of gN 0
        have f1 := Sm.free_of gN 1
        have f2 := Sm.free_of gN 2
        clear p2 gN c0 c1
        go_wp2
        refine bodyPost_ret (v := .tuple #[.agg #[.int .i64 f, .int .i64 t, .string d], .int .i64 er]) ((results_cell_tmp rfl _ _ _).trans (by go_simp)) rfl ⟨rfl, PF.out⟩
    · go_enter Try.func38, Try.ntmps38
      go_upto_region 1 with (fail)
      rw [← HW1.out, ← HN.out]
      go_wp2_with fail
      refine LO.out.mono ?_
      rintro e w2 ⟨rfl, p2⟩
      obtain ⟨gN, PF⟩ := FIN.out w2 p2
      have PF := Lib.hid PF
      have y0 := Sm.cells_of gN 0 _ rfl
      have y1 := Sm.cells_of gN 1 _ rfl
      have y2 := Sm.cells_of gN 2 _ rfl
      have f0 := Sm.free_of gN 0
      have f1 := Sm.free_of gN 1
      have f2 := Sm.free_of gN 2
      clear p2 gN c0 c1
      go_wp2
      refine bodyPost_ret (v := .tuple #[.agg #[.int .i64 f, .int .i64 t, .string d], .int .i64 er]) ((results_cell_tmp rfl _ _ _).trans (by go_simp)) rfl ⟨rfl, PF.out⟩
end
end Go.Proofs.Ytimbcmcmidnlfaa
