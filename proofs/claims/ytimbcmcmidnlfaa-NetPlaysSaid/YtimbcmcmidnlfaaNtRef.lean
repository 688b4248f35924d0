/-
  The document's own net, beside the program's: put.
-/
import Derived.Test.YtimbcmcmidnlfaaNtFind
namespace Go.Proofs.Ytimbcmcmidnlfaa
open Go.RowKit
namespace Nt
/-- A net and the document's own, beside one another; neither's packets lie in the blocks X. -/
structure Both (B : Nat) (w0 w : World) (r rw : Nat) (v : Value) (X : Nat → Prop) (M R : Md) : Prop where
  own : Own B w0 w r (fun q => v.ownBlock = some q ∨ X q) M
  ref : w.heap[rw]? = some (.cells #[v, .bool R.parted] 39 (0, 0))
  row : PksAt w B v R.row
  rok : R.Ok
  high : B ≤ rw
  apart : ∀ q, X q → v.ownBlock ≠ some q
theorem ref_types : 39 ≠ 46 ∧ 39 ≠ 25 := by decide
theorem own_at {w w' : World} {B e size : Nat} {v : Value} {n : Nat} {xs : List Value} (ho : w.ownsRow B e size v n xs) (k : ∀ q, v.ownBlock = some q → w'.heap[q]? = w.heap[q]?) : w'.ownsRow B e size v n xs :=
  ⟨ho.1, ho.2.imp id fun ⟨g, cap, cur, hv, hb, hg, rest⟩ => ⟨g, cap, cur, hv, hb, (k g (by rw [hv]; rfl)).trans hg, rest⟩⟩
/-- What a call upon the document's net leaves. -/
def RPost (B : Nat) (w0 w : World) (r rw : Nat) (v : Value) (X : Nat → Prop) (M R' : Md) (w' : World) : Prop :=
  ∃ v', Both B w0 w' r rw v' X M R' ∧ (∀ i, i < w.heap.size → i ≠ rw → v.ownBlock ≠ some i → w'.heap[i]? = w.heap[i]?) ∧ w.heap.size ≤ w'.heap.size
section
variable {B : Nat} {w0 w w' : World} {r rw : Nat} {v : Value} {X : Nat → Prop} {M R : Md}
theorem Both.low (h : Both B w0 w r rw v X M R) (k : Below w.heap.size w w') : Both B w0 w' r rw v X M R :=
  ⟨h.own.low k, (k.block rw (Sm.lt_of h.ref)).trans h.ref, h.row.low k, h.rok, h.high, h.apart⟩
theorem Both.ne_r (h : Both B w0 w r rw v X M R) : rw ≠ r := by
  obtain ⟨cs, hr⟩ := h.own.block
  exact type_ne h.ref hr ref_types.1
theorem Both.ne_v (h : Both B w0 w r rw v X M R) : v.ownBlock ≠ some rw := fun e => by
  obtain ⟨_, cs, hb⟩ := own_blk h.row e
  exact type_ne h.ref hb ref_types.2 rfl
theorem Both.vlt (h : Both B w0 w r rw v X M R) {q : Nat} (e : v.ownBlock = some q) : q < w.heap.size := by
  obtain ⟨_, cs, hb⟩ := own_blk h.row e
  exact Sm.lt_of hb
theorem Both.net {M' : Md} (h : Both B w0 w r rw v X M R) (s : Step B w0 w w' r (fun q => v.ownBlock = some q ∨ X q) M') : Both B w0 w' r rw v X M' R :=
  ⟨s.own, (s.turned.block rw (Sm.lt_of h.ref) (fun e => h.ne_r (Option.some.inj e))).trans h.ref, h.row.step h.own s, h.rok, h.high, h.apart⟩
/-- New blocks are told apart. -/
theorem Both.mark (h : Both B w0 w r rw v X M R) (k : Below w.heap.size w w') {X' : Nat → Prop} (hX : ∀ q, X' q → q < w'.heap.size ∧ (X q ∨ w.heap.size ≤ q)) : Both B w0 w' r rw v X' M R := by
  have hl := h.low k
  refine ⟨h.own.label k fun q hq => ?_, hl.ref, hl.row, hl.rok, hl.high, fun q hq e => ?_⟩
  · rcases hq with e | e
    · exact ⟨Nat.lt_of_lt_of_le (h.vlt e) k.size, .inl (.inl e)⟩
    · exact ⟨(hX q e).1, (hX q e).2.imp .inr id⟩
  · rcases (hX q hq).2 with e2 | e2
    · exact h.apart q e2 e
    · have := h.vlt e; omega
/-- A block that is told apart is turned. -/
theorem Both.other (h : Both B w0 w r rw v X M R) {b : Nat} (hb : X b) (h1 : b ≠ r) (h2 : b ≠ rw) (h3 : B ≤ b) (k : w.grownBy w' (some b)) : Both B w0 w' r rw v X M R :=
  ⟨h.own.other (fun e => h1 (Option.some.inj e)) (fun q hq => by have := Option.some.inj hq; subst this; exact ⟨h3, .inl (.inr hb)⟩) k,
    (k.block rw (Sm.lt_of h.ref) (fun e => h2 (Option.some.inj e).symm)).trans h.ref,
    own_at h.row fun q hq => k.block q (h.vlt hq) (fun e => by have := Option.some.inj e; subst this; exact h.apart _ hb hq), h.rok, h.high, h.apart⟩
theorem Both.remade (h : Both B w0 w r rw v X M R) {R' : Md} {v' : Value} (hok : R'.Ok) (hp : PksAt w' B v' R'.row) (hr : w'.heap[rw]? = some (.cells #[v', .bool R'.parted] 39 (0, 0)))
    (hf : ∀ i, i < w.heap.size → i ≠ rw → v.ownBlock ≠ some i → w'.heap[i]? = w.heap[i]?) (hs : w.heap.size ≤ w'.heap.size) (hq : ∀ q, v'.ownBlock = some q → v.ownBlock = some q ∨ w.heap.size ≤ q) (h1 : w'.os = w.os) (h2 : w'.tape = w.tape) (h3 : w'.output = w.output) :
    RPost B w0 w r rw v X M R' w' := by
  have hX : ∀ q, X q → q < w.heap.size := fun q e => h.own.old q (.inr e)
  refine ⟨v', ⟨⟨⟨h.own.net.ok, ?_, h.own.net.high⟩, h.own.base, ?_, fun q e => ?_⟩, hr, hp, hok, h.high, fun q e1 e2 => ?_⟩, hf, hs⟩
  · obtain ⟨u, g1, g2, g3⟩ := h.own.net.net
    have hvr : v.ownBlock ≠ some r := fun e => by
      obtain ⟨_, cs, hb⟩ := own_blk h.row e
      exact type_ne hb g1 net_packet rfl
    refine ⟨u, (hf r (Sm.lt_of g1) h.ne_r.symm hvr).trans g1, own_at g2 (fun g hg => ?_), fun g hg hl => ?_⟩
    · obtain ⟨_, cs, hb⟩ := own_blk g2 hg
      exact hf g (Sm.lt_of hb) (fun e2 => type_ne hb h.ref ref_types.2.symm e2) (fun e => g3 g hg (.inl e))
    · rcases hl with hl | hl
      · rcases hq g hl with e | e
        · exact g3 g hg (.inl e)
        · obtain ⟨_, cs, hb⟩ := own_blk g2 hg
          have := Sm.lt_of hb
          omega
      · exact g3 g hg (.inr hl)
  · refine h.own.below.trans ⟨h1, h2, h3, hs, fun i hi => hf i (by have := h.own.size; omega) (fun e => by have := h.high; omega) (fun e => by have := (own_blk h.row e).1; omega)⟩
  · rcases e with e | e
    · obtain ⟨_, cs, hb⟩ := own_blk hp e; exact Sm.lt_of hb
    · exact Nat.lt_of_lt_of_le (hX q e) hs
  · rcases hq q e2 with e | e
    · exact h.apart q e1 e
    · have := hX q e1; omega
theorem Both.same (h : Both B w0 w r rw v X M R) (k : Below w.heap.size w w') : RPost B w0 w r rw v X M R w' :=
  ⟨v, h.low k, fun i hi _ _ => k.block i hi, k.size⟩
theorem Both.shape (h : Both B w0 w r rw v X M R) : ∃ A c, v = .slice A R.row.length c := by
  obtain ⟨A, c, e, _⟩ := h.row.shape
  exact ⟨A, c, e⟩
/-- A call's post, from an earlier world. -/
theorem RPost.behind {w1 : World} (k : Below w.heap.size w w1) {R' : Md} (p : RPost B w0 w1 r rw v X M R' w') : RPost B w0 w r rw v X M R' w' := by
  obtain ⟨v', p1, p2, p3⟩ := p
  exact ⟨v', p1, fun i hi h1 h2 => (p2 i (Nat.lt_of_lt_of_le hi k.size) h1 h2).trans (k.block i hi), Nat.le_trans k.size p3⟩
end
end Nt
set_option maxRecDepth 100000 in
set_option maxHeartbeats 2000000 in
theorem r8put_any {B : Nat} {w0 w : World} {r rw : Nat} {v : Value} {X : Nat → Prop} {M R : Nt.Md} (h : Nt.Both B w0 w r rw v X M R) (p : Nt.Pk) (hl : Nt.linked p) (hd : p.d.size ≤ 1099511627776) :
    Calls Try.prog 61 #[.pointer (some ⟨rw, 0, none⟩), .agg p.cells.toArray] w fun e w' => e = .returned (.int .i64 (Nt.put R p).2) ∧ Nt.RPost B w0 w r rw v X M (Nt.put R p).1 w' := by
  obtain ⟨Av, cv, hv⟩ := h.shape
  subst hv
  have hlen := h.rok.len
  have hcnt : Nt.count R.row p.f ≤ 64 := by
    have hr := h.rok.room
    rcases hl with ⟨e, _⟩ | ⟨e, _⟩ <;> rw [e]
    · exact hr.1
    · exact hr.2
  have HPO := Lib.hid (h.rok.put hl hd)
  obtain ⟨N, hN⟩ : ∃ N, N = w.heap.size := ⟨_, rfl⟩
  obtain ⟨w1, hw1⟩ : ∃ x, x = w.alloc (.cells p.cells.toArray 25) := ⟨_, rfl⟩
  have b1 : Below w.heap.size w w1 := by rw [hw1]; exact (Below.refl _ w).alloc (Nat.le_refl _) _
  have g1 : w1.heap[N]? = some (.cells p.cells.toArray 25 (0, 0)) := by rw [hw1, hN]; exact heap_alloc_new w _
  have B1 := Lib.hid b1
  have G1 := Lib.hid g1
  have HW1 := Lib.hid hw1
  have HN := Lib.hid hN
  have H := Lib.hid h
  have hrl : ∃ n, n = R.row.length := ⟨_, rfl⟩
  obtain ⟨n, hn⟩ := hrl
  have HNL := Lib.hid hn
  clear hl hd b1 g1 hw1 hN h
  have hrow : Hid (∀ k, (hk : k < R.row.length) → R.row[k].f = R.row[k].f) := fun k hk => rfl
  clear hrow
  go_enter Try.func61, Try.ntmps61
  go_upto_region 3 with (fail)
  rw [← HW1.out, ← HN.out]
  rw [← hn] at hlen
  go_loopw [5, 6] (fun s5 s6 wr => ∃ k : Nat, s6 = .int .i64 k ∧ k ≤ n ∧ s5 = .int .i64 (Nt.count (R.row.take k) p.f : Nat) ∧ Below w.heap.size w wr ∧ wr.heap[N]? = some (.cells p.cells.toArray 25 (0, 0))) (fun _ s6 _ => n - (intOf s6).toNat)
  case atStart => exact ⟨0, rfl, Nat.zero_le _, rfl, B1.out, G1.out⟩
  case round =>
    clear B1 G1
    obtain ⟨k, rfl, hk, rfl, hb, hg⟩ := hrel
    have hh := H.out.low hb
    have y0 := Sm.cells_of hh.ref 0 (.slice Av n cv) (by rw [hn]; rfl)
    have d0 := Sm.cells_of hg 0 (.int .i64 p.f) rfl
    by_cases hkl : k < n
    · have hki : (k : Int) < (n : Int) := by omega
      have hkr : k < R.row.length := by omega
      have hsuc : IntKind.i64.wrap ((k : Int) + 1) = ((k + 1 : Nat) : Int) := by simp [IntKind.wrap, IntKind.bits, IntKind.signed]; omega
      obtain ⟨g, hga, -, x0, -, -⟩ := hh.row.get hkr
      subst hga
      have hst := Nt.count_step8 hkr p.f
      have hct := Nt.count_le (R.row.take k) p.f
      have htk : (R.row.take k).length ≤ 128 := by rw [List.length_take]; omega
      obtain ⟨qf, hqf⟩ : ∃ x, x = R.row[k].f := ⟨_, rfl⟩
      rw [← hqf] at x0 hst
      obtain ⟨m, hm⟩ : ∃ m, m = Nt.count (R.row.take k) p.f := ⟨_, rfl⟩
      rw [← hm] at hst hct ⊢
      have HST := Lib.hid hst
      have hsm : IntKind.i64.wrap ((m : Int) + 1) = ((m + 1 : Nat) : Int) := by simp [IntKind.wrap, IntKind.bits, IntKind.signed]; omega
      have HBB := Lib.hid hb
      have HGG := Lib.hid hg
      obtain ⟨pf, hpf⟩ : ∃ x, x = p.f := ⟨_, rfl⟩
      rw [← hpf] at d0 HST
      have HPF := Lib.hid hpf
      clear hqf hm hst hb hg hh hn hcnt hpf
      by_cases he : qf = pf
      · subst he
        go_upto_region 5 with (fail)
        go_region
        go_wp2
        go_roundw
        case rel => exact ⟨k + 1, rfl, hkl, by rw [← HPF.out, HST.out, if_pos rfl]; simp, HBB.out.drew, HGG.out⟩
        case measure => simp [intOf]; omega
      · have hbq : (qf == pf) = false := beq_eq_false_iff_ne.2 he
        go_upto_region 5 with (fail)
        go_region
        go_wp2
        go_roundw
        case rel => exact ⟨k + 1, rfl, hkl, by rw [← HPF.out, HST.out, if_neg he]; rfl, HBB.out.drew, HGG.out⟩
        case measure => simp [intOf]; omega
    · have hki : ¬ (k : Int) < (n : Int) := by omega
      have hke : R.row.take k = R.row := List.take_of_length_le (by omega)
      rw [hke]
      by_cases hc : Nt.count R.row p.f = 64
      · have e : Nt.put R p = (R, 6) := by simp [Nt.put, hc]
        rw [hc]
        have HEP := Lib.hid e
        have SM := Lib.hid (H.out.same hb)
        clear e hke hg hh d0
        go_wp2
        go_ret
        exact ⟨by rw [HEP.out]; rfl, by rw [HEP.out]; exact SM.out⟩
      · have e : Nt.put R p = ({ R with row := R.row ++ [p] }, 0) := by simp [Nt.put, hc]
        have HEP := Lib.hid e
        have HE := Lib.hid (show (Nt.Md.Ok { R with row := R.row ++ [p] }) by have := HPO.out; rw [e] at this; exact this)
        obtain ⟨m, hm⟩ : ∃ m, m = Nt.count R.row p.f := ⟨_, rfl⟩
        rw [← hm] at hcnt hc ⊢
        have hm64 : ¬ (64 : Int) ≤ (m : Int) := by omega
        obtain ⟨ps, hps⟩ : ∃ ps, ps = p.cells := ⟨_, rfl⟩
        have hpl : ps.length = 3 := by rw [hps]; rfl
        rw [← hps] at hg ⊢
        have HPS := Lib.hid hps
        have HPL := Lib.hid hpl
        have HB := Lib.hid hb
        have HG := Lib.hid hg
        have HH := Lib.hid hh
        have hrg := Sm.range_row hg
        have HEQ := Lib.hid hn
        clear hke e hm hps hpl hb hg hh d0 hn
        go_upto_region 9 with (fail)
        have y0d : wr.drew.cell? ⟨rw, 0, none⟩ = some (.slice Av n cv) := y0
        clear y0
        refine wp_region_held_drew (S := (fun w' => w'.rangeAt N 0 ps)) (by kernel_rfl) hrg (fun hHeld => ?_)
        refine wpAnyH_take (i := 0) (oi := ⟨some 31, _, _, _, _, _⟩) (v := .pointer (some ⟨rw, 0, none⟩)) rfl (by kernel_rfl) (by kernel_rfl) (by kernel_rfl) (fun _ _ _ h => h) (Or.inl ⟨by rfl, ?_⟩) (by assumption) ?_
        · intro w hSw; (try dsimp only at hSw); go_simp
        simp only [Act.put, List.setIfInBounds_toArray, List.set_cons_zero, List.set_cons_succ]
        refine wpAnyH_take (i := 1) (oi := ⟨some 32, _, _, _, _, _⟩) (v := .pointer (some ⟨rw, 0, none⟩)) rfl (by kernel_rfl) (by kernel_rfl) (by kernel_rfl) (fun _ _ _ h => h) (Or.inl ⟨by rfl, ?_⟩) (by assumption) ?_
        · intro w hSw; (try dsimp only at hSw); go_simp
        simp only [Act.put, List.setIfInBounds_toArray, List.set_cons_zero, List.set_cons_succ]
        refine wpAnyH_take (i := 2) (oi := ⟨some 33, _, _, _, _, _⟩) (v := .pointer (some ⟨rw, 0, none⟩)) rfl (by kernel_rfl) (by kernel_rfl) (by kernel_rfl) (fun _ _ _ h => h) (Or.inl ⟨by rfl, ?_⟩) (by assumption) ?_
        · intro w hSw; (try dsimp only at hSw); go_simp
        simp only [Act.put, List.setIfInBounds_toArray, List.set_cons_zero, List.set_cons_succ]
        refine wpAnyH_take (i := 3) (oi := ⟨some 34, _, _, _, _, _⟩) (v := .pointer (some ⟨rw, 0, none⟩)) rfl (by kernel_rfl) (by kernel_rfl) (by kernel_rfl) (fun _ _ _ h => h) (Or.inl ⟨by rfl, ?_⟩) (by assumption) ?_
        · intro w hSw; (try dsimp only at hSw); go_simp
        simp only [Act.put, List.setIfInBounds_toArray, List.set_cons_zero, List.set_cons_succ]
        refine wpAnyH_take (i := 5) (oi := ⟨some 36, _, _, _, _, _⟩) (v := .agg ps.toArray) rfl (by kernel_rfl) (by kernel_rfl) (by kernel_rfl) (fun _ _ _ h => h) (yieldsIf_load_mid (by rfl) _ _ rfl _ _ rfl ps _ (fun w hS => hS) Try.underlying25 rfl (Nt.infoPkL HPL.out)) (by assumption) ?_
        simp only [Act.put, List.setIfInBounds_toArray, List.set_cons_zero, List.set_cons_succ]
        refine wpAnyH_ready (rs := [4, 6]) (by kernel_rfl) (by simp) ?_
        refine (AllReadyH.cons (o := ⟨some 35, _, _, _, _, _⟩) rfl (fun K hK => ?_) (AllReadyH.cons (o := ⟨some 37, _, _, _, _, _⟩) rfl (fun K hK => ?_) AllReadyH.nil))
        · go_simp
          refine hK.out _ _ hHeld (fun hHeld => ?_)
          clear hK K
          refine wpAnyH_ready (rs := [6]) (by kernel_rfl) (by simp) ?_
          refine (AllReadyH.cons (o := ⟨some 37, _, _, _, _, _⟩) rfl (fun K hK => ?_) AllReadyH.nil)
          rw [if_pos (by simp [Region.wanted])]
          rw [HPS.out]
          refine Nt.wp_build_pk (.tmp 36) rfl p rfl ?_
          have k6 : Below wr.heap.size wr (wr.drew.alloc (.cells p.cells.toArray 25)) := (Below.refl _ wr).drew.alloc (Nat.le_refl _) _
          have hh6 := HH.out.low k6
          have hg6 := (k6.block N (Sm.lt_of HG.out)).trans HG.out
          have hn6 := heap_alloc_new wr.drew (.cells p.cells.toArray 25)
          obtain ⟨N2, hN2⟩ : ∃ n, n = wr.drew.heap.size := ⟨_, rfl⟩
          rw [← hN2] at hn6 ⊢
          have b6 := HB.out.trans (k6.mono HB.out.size)
          clear hN2 k6
          generalize wr.drew.alloc (.cells p.cells.toArray 25) = w6 at *
          refine hK.out _ _ (Sm.range_row hg6) (fun hHeld => ?_)
          clear hK K
          refine wpAnyH_ready (rs := [7]) (by kernel_rfl) (by simp) ?_
          refine (AllReadyH.cons (o := ⟨some 38, _, _, _, _, _⟩) rfl (fun K hK => ?_) AllReadyH.nil)
          rw [if_pos (by simp [Region.wanted])]
          have hrow6 : Nt.PksAt w6 B (.slice Av n cv) R.row := by have := hh6.row; rw [← HEQ.out] at this; exact this
          refine Nt.wp_append_pk (.tmp 35) (.tmp 37) rfl (v := .slice Av n cv) rfl hrow6 hh6.own.size p rfl (Sm.range_row hn6) (by have := HEQ.out; omega) ?_
          intro v7 w7 q7 hd7
          have hw7 : w6.heap.size ≤ w7.heap.size ∧ (∀ i, i < w6.heap.size → (Value.slice Av n cv).ownBlock ≠ some i → w7.heap[i]? = w6.heap[i]?) ∧ w7.os = w6.os ∧ w7.tape = w6.tape ∧ w7.output = w6.output ∧ (∀ q, v7.ownBlock = some q → (Value.slice Av n cv).ownBlock = some q ∨ w6.heap.size ≤ q) := by
            rcases hd7 with ⟨e1, k⟩ | ⟨e1, k⟩
            · exact ⟨k.size, fun i hi hne => k.block i hi (fun e => hne e.symm), k.os, k.tape, k.output, fun q hq => .inl (by rw [← e1]; exact hq)⟩
            · exact ⟨k.size, fun i hi _ => k.block i hi (by simp), k.os, k.tape, k.output, fun q hq => .inr (e1 q hq)⟩
          obtain ⟨z1, z2, z3, z4, z5, z6⟩ := hw7
          have hvw : (Value.slice Av n cv).ownBlock ≠ some rw := by have := hh6.ne_v; rw [← HEQ.out] at this; exact this
          have hr7 := (z2 rw (Sm.lt_of hh6.ref) hvw).trans hh6.ref
          have hNv : (Value.slice Av n cv).ownBlock ≠ some N := fun e => by
            have h0 : Nt.PksAt w B (.slice Av n cv) R.row := by have := H.out.row; rw [← HEQ.out] at this; exact this
            obtain ⟨_, cs, hb⟩ := Nt.own_blk h0 e
            have := Sm.lt_of hb
            have := HN.out
            omega
          have hg7 := (z2 N (Sm.lt_of hg6) hNv).trans hg6
          have hNrw : N ≠ rw := by have := Sm.lt_of H.out.ref; have := HN.out; omega
          obtain ⟨A7, c7, hv7⟩ := Sm.own_shape q7
          obtain ⟨n7, hn7⟩ : ∃ x, x = (R.row ++ [p]).length := ⟨_, rfl⟩
          rw [← hn7] at hv7
          subst hv7
          clear hn7
          have hst := Sm.heap_set hr7 0 (.slice A7 n7 c7)
          have hg8 := (Below.heap_setCell w7 ⟨rw, 0, none⟩ (.slice A7 n7 c7) N hNrw).trans hg7
          have q8 : Nt.PksAt (w7.setCell ⟨rw, 0, none⟩ (.slice A7 n7 c7)) B (.slice A7 n7 c7) (R.row ++ [p]) := q7.turned hr7 Nt.ref_types.2.symm (Sm.grown_set (Sm.grown_refl w7 (some rw)) 0 _)
          have PO := Lib.hid (H.out.remade (R' := { R with row := R.row ++ [p] }) (v' := .slice A7 n7 c7) (w' := w7.setCell ⟨rw, 0, none⟩ (.slice A7 n7 c7)) HE.out q8 (by rw [hst]; rfl) (fun i hi h1 h2 => by
            rw [Below.heap_setCell _ _ _ _ h1, z2 i (by have := b6.size; omega) (by rw [HEQ.out]; exact h2)]
            exact b6.block i hi) (by have := b6.size; simp; omega) (fun q hq => by
              rcases z6 q hq with e | e
              · exact .inl (by rw [HEQ.out] at e; exact e)
              · exact .inr (by have := b6.size; omega)) (z3.trans b6.os) (z4.trans b6.tape) (z5.trans b6.output))
          have c7 := Sm.cells_of hr7 0 _ rfl
          have f7 := Sm.free_of hr7 0
          have r7x := Sm.range_row hg7
          have r8x := Sm.range_row hg8
          clear z1 z2 z3 z4 z5 z6 hd7 q7 q8 hst hr7 hg7 hg8 hh6 hg6 hn6 b6 hrow6 hvw hNv hNrw
          refine hK.out _ _ r7x (fun hHeld => ?_)
          clear hK K
          refine wpAnyH_take (i := 8) (oi := ⟨some 39, _, _, _, _, _⟩) (v := .pointer (some ⟨rw, 0, none⟩)) rfl (by kernel_rfl) (by kernel_rfl) (by kernel_rfl) (fun _ _ _ h => h) (Or.inl ⟨by rfl, ?_⟩) (by assumption) ?_
          · intro w hSw; (try dsimp only at hSw); go_simp
          simp only [Act.put, List.setIfInBounds_toArray, List.set_cons_zero, List.set_cons_succ]
          refine wpAnyH_take (i := 9) (oi := ⟨some 40, _, _, _, _, _⟩) (v := .pointer (some ⟨rw, 0, none⟩)) rfl (by kernel_rfl) (by kernel_rfl) (by kernel_rfl) (fun _ _ _ h => h) (Or.inl ⟨by rfl, ?_⟩) (by assumption) ?_
          · intro w hSw; (try dsimp only at hSw); go_simp
          simp only [Act.put, List.setIfInBounds_toArray, List.set_cons_zero, List.set_cons_succ]
          refine wpAnyH_ready (rs := [10]) (by kernel_rfl) (by simp) ?_
          refine (AllReadyH.cons (o := ⟨none, _, _, _, _, _⟩) rfl (fun K hK => ?_) AllReadyH.nil)
          go_simp
          refine hK.out _ _ r8x (fun hHeld => ?_)
          clear hK K
          refine wpAnyH_done (by kernel_rfl) ?_ _
          go_wp2
          go_ret
          exact ⟨by rw [HEP.out]; rfl, by rw [HEP.out]; exact PO.out⟩
        · rw [if_pos (by simp [Region.wanted])]
          rw [HPS.out]
          refine Nt.wp_build_pk (.tmp 36) rfl p rfl ?_
          have k6 : Below wr.heap.size wr (wr.drew.alloc (.cells p.cells.toArray 25)) := (Below.refl _ wr).drew.alloc (Nat.le_refl _) _
          have hh6 := HH.out.low k6
          have hg6 := (k6.block N (Sm.lt_of HG.out)).trans HG.out
          have hn6 := heap_alloc_new wr.drew (.cells p.cells.toArray 25)
          obtain ⟨N2, hN2⟩ : ∃ n, n = wr.drew.heap.size := ⟨_, rfl⟩
          rw [← hN2] at hn6 ⊢
          have b6 := HB.out.trans (k6.mono HB.out.size)
          clear hN2 k6
          generalize wr.drew.alloc (.cells p.cells.toArray 25) = w6 at *
          refine hK.out _ _ (Sm.range_row hg6) (fun hHeld => ?_)
          clear hK K
          have y6 : w6.cell? ⟨rw, 0, none⟩ = some (.slice Av n cv) := Sm.cells_of hh6.ref 0 (.slice Av n cv) (by rw [HEQ.out]; rfl)
          refine wpAnyH_ready (rs := [4]) (by kernel_rfl) (by simp) ?_
          refine (AllReadyH.cons (o := ⟨some 35, _, _, _, _, _⟩) rfl (fun K hK => ?_) AllReadyH.nil)
          go_simp
          refine hK.out _ _ hHeld (fun hHeld => ?_)
          clear hK K
          clear y6
          refine wpAnyH_ready (rs := [7]) (by kernel_rfl) (by simp) ?_
          refine (AllReadyH.cons (o := ⟨some 38, _, _, _, _, _⟩) rfl (fun K hK => ?_) AllReadyH.nil)
          rw [if_pos (by simp [Region.wanted])]
          have hrow6 : Nt.PksAt w6 B (.slice Av n cv) R.row := by have := hh6.row; rw [← HEQ.out] at this; exact this
          refine Nt.wp_append_pk (.tmp 35) (.tmp 37) rfl (v := .slice Av n cv) rfl hrow6 hh6.own.size p rfl (Sm.range_row hn6) (by have := HEQ.out; omega) ?_
          intro v7 w7 q7 hd7
          have hw7 : w6.heap.size ≤ w7.heap.size ∧ (∀ i, i < w6.heap.size → (Value.slice Av n cv).ownBlock ≠ some i → w7.heap[i]? = w6.heap[i]?) ∧ w7.os = w6.os ∧ w7.tape = w6.tape ∧ w7.output = w6.output ∧ (∀ q, v7.ownBlock = some q → (Value.slice Av n cv).ownBlock = some q ∨ w6.heap.size ≤ q) := by
            rcases hd7 with ⟨e1, k⟩ | ⟨e1, k⟩
            · exact ⟨k.size, fun i hi hne => k.block i hi (fun e => hne e.symm), k.os, k.tape, k.output, fun q hq => .inl (by rw [← e1]; exact hq)⟩
            · exact ⟨k.size, fun i hi _ => k.block i hi (by simp), k.os, k.tape, k.output, fun q hq => .inr (e1 q hq)⟩
          obtain ⟨z1, z2, z3, z4, z5, z6⟩ := hw7
          have hvw : (Value.slice Av n cv).ownBlock ≠ some rw := by have := hh6.ne_v; rw [← HEQ.out] at this; exact this
          have hr7 := (z2 rw (Sm.lt_of hh6.ref) hvw).trans hh6.ref
          have hNv : (Value.slice Av n cv).ownBlock ≠ some N := fun e => by
            have h0 : Nt.PksAt w B (.slice Av n cv) R.row := by have := H.out.row; rw [← HEQ.out] at this; exact this
            obtain ⟨_, cs, hb⟩ := Nt.own_blk h0 e
            have := Sm.lt_of hb
            have := HN.out
            omega
          have hg7 := (z2 N (Sm.lt_of hg6) hNv).trans hg6
          have hNrw : N ≠ rw := by have := Sm.lt_of H.out.ref; have := HN.out; omega
          obtain ⟨A7, c7, hv7⟩ := Sm.own_shape q7
          obtain ⟨n7, hn7⟩ : ∃ x, x = (R.row ++ [p]).length := ⟨_, rfl⟩
          rw [← hn7] at hv7
          subst hv7
          clear hn7
          have hst := Sm.heap_set hr7 0 (.slice A7 n7 c7)
          have hg8 := (Below.heap_setCell w7 ⟨rw, 0, none⟩ (.slice A7 n7 c7) N hNrw).trans hg7
          have q8 : Nt.PksAt (w7.setCell ⟨rw, 0, none⟩ (.slice A7 n7 c7)) B (.slice A7 n7 c7) (R.row ++ [p]) := q7.turned hr7 Nt.ref_types.2.symm (Sm.grown_set (Sm.grown_refl w7 (some rw)) 0 _)
          have PO := Lib.hid (H.out.remade (R' := { R with row := R.row ++ [p] }) (v' := .slice A7 n7 c7) (w' := w7.setCell ⟨rw, 0, none⟩ (.slice A7 n7 c7)) HE.out q8 (by rw [hst]; rfl) (fun i hi h1 h2 => by
            rw [Below.heap_setCell _ _ _ _ h1, z2 i (by have := b6.size; omega) (by rw [HEQ.out]; exact h2)]
            exact b6.block i hi) (by have := b6.size; simp; omega) (fun q hq => by
              rcases z6 q hq with e | e
              · exact .inl (by rw [HEQ.out] at e; exact e)
              · exact .inr (by have := b6.size; omega)) (z3.trans b6.os) (z4.trans b6.tape) (z5.trans b6.output))
          have c7 := Sm.cells_of hr7 0 _ rfl
          have f7 := Sm.free_of hr7 0
          have r7x := Sm.range_row hg7
          have r8x := Sm.range_row hg8
          clear z1 z2 z3 z4 z5 z6 hd7 q7 q8 hst hr7 hg7 hg8 hh6 hg6 hn6 b6 hrow6 hvw hNv hNrw
          refine hK.out _ _ r7x (fun hHeld => ?_)
          clear hK K
          refine wpAnyH_take (i := 8) (oi := ⟨some 39, _, _, _, _, _⟩) (v := .pointer (some ⟨rw, 0, none⟩)) rfl (by kernel_rfl) (by kernel_rfl) (by kernel_rfl) (fun _ _ _ h => h) (Or.inl ⟨by rfl, ?_⟩) (by assumption) ?_
          · intro w hSw; (try dsimp only at hSw); go_simp
          simp only [Act.put, List.setIfInBounds_toArray, List.set_cons_zero, List.set_cons_succ]
          refine wpAnyH_take (i := 9) (oi := ⟨some 40, _, _, _, _, _⟩) (v := .pointer (some ⟨rw, 0, none⟩)) rfl (by kernel_rfl) (by kernel_rfl) (by kernel_rfl) (fun _ _ _ h => h) (Or.inl ⟨by rfl, ?_⟩) (by assumption) ?_
          · intro w hSw; (try dsimp only at hSw); go_simp
          simp only [Act.put, List.setIfInBounds_toArray, List.set_cons_zero, List.set_cons_succ]
          refine wpAnyH_ready (rs := [10]) (by kernel_rfl) (by simp) ?_
          refine (AllReadyH.cons (o := ⟨none, _, _, _, _, _⟩) rfl (fun K hK => ?_) AllReadyH.nil)
          go_simp
          refine hK.out _ _ r8x (fun hHeld => ?_)
          clear hK K
          refine wpAnyH_done (by kernel_rfl) ?_ _
          go_wp2
          go_ret
          exact ⟨by rw [HEP.out]; rfl, by rw [HEP.out]; exact PO.out⟩
end Go.Proofs.Ytimbcmcmidnlfaa
