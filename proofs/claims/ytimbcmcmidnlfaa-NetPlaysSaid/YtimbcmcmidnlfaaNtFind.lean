/-
  A packet looked up in a row; whether links have no more than their room; append of one packet onto a row of the call's own.
-/
import Derived.Test.YtimbcmcmidnlfaaNtParted
import Derived.BigQuiet
namespace Go.Proofs.Ytimbcmcmidnlfaa
open Go.RowKit
namespace Nt
theorem PksAt.range {w : World} {B : Nat} {g n c : Nat} {l : List Pk} (h : PksAt w B (.slice (some ⟨g, 0, none⟩) n c) l) {k : Nat} (hk : k < l.length) : w.rangeAt g (k * 3) l[k].cells := fun j v hv => by
  have hj : j < 3 := (List.getElem?_eq_some_iff.1 hv).1
  obtain ⟨g', e, _, x0, x1, x2⟩ := h.get hk
  simp only [Option.some.injEq, Addr.mk.injEq] at e
  obtain ⟨rfl, _⟩ := e
  match j, hj with
  | 0, _ => simp [Pk.cells] at hv; subst hv; exact x0
  | 1, _ => simp [Pk.cells] at hv; subst hv; exact x1
  | 2, _ => simp [Pk.cells] at hv; subst hv; exact x2
theorem own_rebase {w : World} {B B' e size n : Nat} {xs : List Value} (h : w.ownsRow B e size (.slice none 0 0) n xs) : w.ownsRow B' e size (.slice none 0 0) n xs := by
  refine ⟨h.1, ?_⟩
  rcases h.2 with h2 | ⟨g, cap, cur, e, _⟩
  · exact .inl h2
  · cases e
theorem count_step8 {l : List Pk} {k : Nat} (h : k < l.length) (f : Int) : count (l.take (k + 1)) f = count (l.take k) f + (if l[k].f = f then 1 else 0) := by
  rw [List.take_succ_eq_append_getElem h, count_append, count_one]
/-- append, onto a row of the call's own: in its block, or in a new one. -/
theorem run_append_pk {w : World} {B : Nat} {v : Value} {l : List Pk} (h : PksAt w B v l) (hB : B ≤ w.heap.size) (p : Pk) {N : Nat} (hN : w.rangeAt N 0 p.cells) (hl : l.length ≤ 1099511627776) (ty : TypeId) :
    ∃ v' w', (Builtin.append_ #[37, 37] ty #[v, .slice (some ⟨N, 0, none⟩) 1 1]).run Try.prog w = .ok v' w' ∧ PksAt w' B v' (l ++ [p]) ∧
      ((v'.ownBlock = v.ownBlock ∧ w.grownBy w' v.ownBlock) ∨ ((∀ q, v'.ownBlock = some q → w.heap.size ≤ q) ∧ w.grownBy w' none)) := by
  obtain ⟨i0, hi, hz0, hz1, hz2⟩ := info_parts info3_packet
  have hnews : ∀ j u, p.cells[j]? = some u → w.cell? ((⟨N, 0, none⟩ : Addr).add j) = some u := fun j u hj => by rw [Addr.add_mid]; exact hN j u hj
  have hone : ∀ u ∈ p.cells, u.oneCell' = true := by rw [← flat_one]; exact flat_single _
  have hfl : flat (l ++ [p]) = flat l ++ p.cells := by rw [flat_append, flat_one]
  have fin : ∀ {b v' w'}, w'.ownsRow b 25 3 v' (l.length + 1) (flat l ++ p.cells) → PksAt w' b v' (l ++ [p]) := fun ho => by
    unfold PksAt
    rw [hfl, List.length_append]
    exact ho
  rcases h.2 with ⟨rfl, h0⟩ | ⟨g, cap, cur, rfl, hb, hg, h1, h2, h3, h4⟩
  · obtain ⟨v', w', hr, ho, hgr, _⟩ := run_append_own (P := Try.prog) w w.heap.size 37 ty 25 i0 _ 3 32 Try.underlying37 hi hz0 hz1 hz2 rfl (by decide) (.slice none 0 0) l.length (flat l) (own_rebase h) ⟨N, 0, none⟩ 1 1 p.cells rfl hnews hone (by unfold maxLen; omega) (by omega) (Nat.le_refl _)
    exact ⟨v', w', hr, fin (own_more ho hB), .inr ⟨fun q hq => (own_blk ho hq).1, hgr⟩⟩
  · by_cases hr : l.length + 1 ≤ cap
    · obtain ⟨v', w', hrun, ho, hgr, _⟩ := run_append_own (P := Try.prog) w B 37 ty 25 i0 _ 3 32 Try.underlying37 hi hz0 hz1 hz2 rfl (by decide) (.slice (some ⟨g, 0, none⟩) l.length cap) l.length (flat l) h ⟨N, 0, none⟩ 1 1 p.cells rfl hnews hone (by unfold maxLen; omega) (by omega) hB
      have hrun2 := run_append_room (P := Try.prog) w 37 ty 25 i0 Try.underlying37 hi g l.length cap cur hg ⟨N, 0, none⟩ 1 1 p.cells (by rw [hz1]; rfl) hnews hone hr (by rw [hz1, h3]; show l.length * 3 + 3 ≤ cap * 3; omega)
      have e := hrun.symm.trans hrun2
      injection e with e1 e2
      exact ⟨v', w', hrun, fin ho, .inl ⟨by rw [e1]; rfl, hgr⟩⟩
    · obtain ⟨v', w', hrun, ho, hgr⟩ := run_append_arg_grows (P := Try.prog) w 37 ty 25 i0 _ 3 32 Try.underlying37 hi hz0 hz1 hz2 rfl (by decide) ⟨g, 0, none⟩ l.length cap (flat l) (flat_length l) h.cellsAt ⟨N, 0, none⟩ 1 1 p.cells rfl hnews (by omega) (by unfold maxLen; omega) (by omega)
      exact ⟨v', w', hrun, fin (own_more ho hB), .inr ⟨fun q hq => (own_blk ho hq).1, hgr⟩⟩
theorem wp_append_pk {o : Oper} {a : Act} {w : World} {K : Act → World → Prop} {Q : Exit → Act → World → Prop} (s x : Operand) (ho : o.op = .call { callee := .builtin .append, args := #[s, x], argTypes := #[37, 37] })
    {B : Nat} {v : Value} {l : List Pk} (hs : a.eval s = v) (h : PksAt w B v l) (hB : B ≤ w.heap.size) (p : Pk) {N : Nat} (hx : a.eval x = .slice (some ⟨N, 0, none⟩) 1 1) (hN : w.rangeAt N 0 p.cells) (hl : l.length ≤ 1099511627776)
    (hK : ∀ v' w', PksAt w' B v' (l ++ [p]) → ((v'.ownBlock = v.ownBlock ∧ w.grownBy w' v.ownBlock) ∨ ((∀ q, v'.ownBlock = some q → w.heap.size ≤ q) ∧ w.grownBy w' none)) → K (a.put o.dst v') w') : o.wp Try.prog a w K Q := by
  obtain ⟨v', w', hr, h1, h2⟩ := run_append_pk h hB p hN hl o.type
  unfold Oper.wp execOp
  simp only [ho, resolve, invoke, builtin, Sem.run_bind, Sem.run_pure, Result.andThen_ok, List.map_toArray, List.map_cons, List.map_nil, hs, hx, hr]
  exact hK v' w' h1 h2
theorem wpList_append_pk {ops : Array Oper} {rest : List Oper} {o : Oper} {a : Act} {w : World} {Q : Exit → Act → World → Prop} (hgd : o.guard = none) (s x : Operand) (ho : o.op = .call { callee := .builtin .append, args := #[s, x], argTypes := #[37, 37] })
    {B : Nat} {v : Value} {l : List Pk} (hs : a.eval s = v) (h : PksAt w B v l) (hB : B ≤ w.heap.size) (p : Pk) {N : Nat} (hx : a.eval x = .slice (some ⟨N, 0, none⟩) 1 1) (hN : w.rangeAt N 0 p.cells) (hl : l.length ≤ 1099511627776)
    (hK : ∀ v' w', PksAt w' B v' (l ++ [p]) → ((v'.ownBlock = v.ownBlock ∧ w.grownBy w' v.ownBlock) ∨ ((∀ q, v'.ownBlock = some q → w.heap.size ≤ q) ∧ w.grownBy w' none)) → wpList Try.prog ops Q rest (a.put o.dst v') w') : wpList Try.prog ops Q (o :: rest) a w :=
  wpList_plain hgd fun _ hK' => wp_append_pk s x ho hs h hB p hx hN hl fun v' w' h1 h2 => hK' _ _ (hK v' w' h1 h2)
/-- A net beside a row of the call's own, to which a packet was appended. -/
theorem Own.push {B : Nat} {w0 w w' : World} {r : Nat} {M : Md} {v v' : Value} {l l' : List Pk} (h : Own B w0 w r (fun q => v.ownBlock = some q) M) (hp : PksAt w B v l) (hp' : PksAt w' B v' l')
    (hd : (v'.ownBlock = v.ownBlock ∧ w.grownBy w' v.ownBlock) ∨ ((∀ q, v'.ownBlock = some q → w.heap.size ≤ q) ∧ w.grownBy w' none)) : Own B w0 w' r (fun q => v'.ownBlock = some q) M := by
  rcases hd with ⟨e, k⟩ | ⟨hq, k⟩
  · rw [e]
    refine h.other (fun e2 => ?_) (fun q hq => ⟨(own_blk hp hq).1, .inl hq⟩) k
    obtain ⟨_, cs, hb⟩ := own_blk hp e2
    obtain ⟨cs2, hr⟩ := h.block
    exact type_ne hb hr net_packet rfl
  · have hb : Below w.heap.size w w' := ⟨k.os, k.tape, k.output, k.size, fun i hi => k.block i hi (by simp)⟩
    exact h.label hb fun q hq2 => ⟨by obtain ⟨_, cs, hbk⟩ := own_blk hp' hq2; exact Sm.lt_of hbk, .inr (hq q hq2)⟩
end Nt
set_option maxRecDepth 100000 in
set_option maxHeartbeats 1000000 in
theorem find8_any {w : World} {B : Nat} {A : Option Addr} {c : Nat} {l : List Nt.Pk} (h : Nt.PksAt w B (.slice A l.length c) l) (p : Nt.Pk) (hp : p ∈ l) (hl : l.length ≤ 1099511627776) :
    Calls Try.prog 22 #[.slice A l.length c, .agg p.cells.toArray] w fun e w' => ∃ (k : Nat) (hk : k < l.length), l[k] = p ∧ e = .returned (.int .i64 (k : Int)) ∧ Below w.heap.size w w' := by
  obtain ⟨N, hN⟩ : ∃ N, N = w.heap.size := ⟨_, rfl⟩
  obtain ⟨ps, hps⟩ : ∃ ps, ps = p.cells := ⟨_, rfl⟩
  have b1 : Below w.heap.size w (w.alloc (.cells ps.toArray 25)) := (Below.refl _ w).alloc (Nat.le_refl _) _
  have h1 := h.low b1
  have g1 := heap_alloc_new w (.cells ps.toArray 25)
  have HPS := Lib.hid hps
  have HPL := Lib.hid hp
  have B1 := Lib.hid b1
  have hcl : ps.length = 3 := by rw [hps]; rfl
  have HCL := Lib.hid hcl
  rw [← hps]
  clear h hps hp b1 hcl
  go_enter Try.func22, Try.ntmps22
  go_wp2
  rw [← hN] at g1 ⊢
  have HN := Lib.hid hN
  clear hN
  generalize w.alloc (.cells ps.toArray 25) = w1 at *
  go_loopw [5] (fun s5 wr => ∃ k : Nat, s5 = .int .i64 k ∧ k ≤ l.length ∧ (∀ j (hj : j < l.length), j < k → l[j] ≠ p) ∧ Below w.heap.size w wr ∧ wr.heap[N]? = some (.cells ps.toArray 25 (0, 0)) ∧ Nt.PksAt wr B (.slice A l.length c) l) (fun s5 _ => l.length - (intOf s5).toNat)
  case atStart => exact ⟨0, rfl, Nat.zero_le _, fun j _ h => absurd h (Nat.not_lt_zero _), B1.out, g1, h1⟩
  case round =>
    clear h1 g1 B1
    obtain ⟨k, rfl, hk, hne, hb, hg, hrow⟩ := hrel
    have HNE := Lib.hid hne
    clear hne
    by_cases hkl : k < l.length
    · have hki : (k : Int) < (l.length : Int) := by omega
      have hsuc : IntKind.i64.wrap ((k : Int) + 1) = ((k + 1 : Nat) : Int) := by simp [IntKind.wrap, IntKind.bits, IntKind.signed]; omega
      obtain ⟨g, rfl, hgl, -, -, -⟩ := hrow.get hkl
      have hrg := hrow.range hkl
      obtain ⟨xs, hxs⟩ : ∃ xs, xs = l[k].cells := ⟨_, rfl⟩
      have hxl : xs.length = 3 := by rw [hxs]; rfl
      rw [← hxs] at hrg
      have HXS := Lib.hid hxs
      have HXL := Lib.hid hxl
      have hpr := Sm.range_row hg
      have HB := Lib.hid hb
      have HG := Lib.hid hg
      have HROW := Lib.hid hrow
      clear hxs hxl hb hg hrow
      go_upto_region 4 with (fail)
      have hS0 : (fun w' => w'.rangeAt N 0 ps ∧ w'.rangeAt g (k * 3) xs) wr.drew := ⟨hpr, hrg⟩
      refine wp_region_held_drew (S := (fun w' => w'.rangeAt N 0 ps ∧ w'.rangeAt g (k * 3) xs)) (by kernel_rfl) hS0 (fun hHeld => ?_)
      refine wpAnyH_take (i := 0) (oi := ⟨some 12, _, _, _, _, _⟩) (v := .slice (some ⟨g, 0, none⟩) l.length c) rfl (by kernel_rfl) (by kernel_rfl) (by kernel_rfl) (fun _ _ _ h => h) (Or.inl ⟨by rfl, ?_⟩) (by assumption) ?_
      · intro w hSw; (try dsimp only at hSw); go_simp
      simp only [Act.put, List.setIfInBounds_toArray, List.set_cons_zero, List.set_cons_succ]
      refine wpAnyH_take (i := 1) (oi := ⟨some 13, _, _, _, _, _⟩) (v := .int .i64 (k : Int)) rfl (by kernel_rfl) (by kernel_rfl) (by kernel_rfl) (fun _ _ _ h => h) (Or.inl ⟨by rfl, ?_⟩) (by assumption) ?_
      · intro w hSw; (try dsimp only at hSw); go_simp
      simp only [Act.put, List.setIfInBounds_toArray, List.set_cons_zero, List.set_cons_succ]
      refine wpAnyH_take (i := 2) (oi := ⟨some 14, _, _, _, _, _⟩) (v := .pointer (some ⟨g, k * 3, none⟩)) rfl (by kernel_rfl) (by kernel_rfl) (by kernel_rfl) (fun _ _ _ h => h) (Or.inl ⟨by rfl, ?_⟩) (by assumption) ?_
      · intro w hSw; (try dsimp only at hSw); go_simp
      simp only [Act.put, List.setIfInBounds_toArray, List.set_cons_zero, List.set_cons_succ]
      refine wpAnyH_take (i := 3) (oi := ⟨some 15, _, _, _, _, _⟩) (v := .agg xs.toArray) rfl (by kernel_rfl) (by kernel_rfl) (by kernel_rfl) (fun _ _ _ h => h) (yieldsIf_load_mid (by rfl) _ _ rfl _ _ rfl xs _ (fun w hS => hS.2) Try.underlying25 rfl (Nt.infoPkL HXL.out)) (by assumption) ?_
      simp only [Act.put, List.setIfInBounds_toArray, List.set_cons_zero, List.set_cons_succ]
      refine wpAnyH_take (i := 4) (oi := ⟨some 16, _, _, _, _, _⟩) (v := .agg ps.toArray) rfl (by kernel_rfl) (by kernel_rfl) (by kernel_rfl) (fun _ _ _ h => h) (yieldsIf_load_mid (by rfl) _ _ rfl _ _ rfl ps _ (fun w hS => hS.1) Try.underlying25 rfl (Nt.infoPkL HCL.out)) (by assumption) ?_
      simp only [Act.put, List.setIfInBounds_toArray, List.set_cons_zero, List.set_cons_succ]
      refine wpAnyH_ready (rs := [5]) (by kernel_rfl) (by simp) ?_
      refine (AllReadyH.cons (o := ⟨some 17, _, _, _, _, _⟩) rfl (fun K hK => ?_) AllReadyH.nil)
      rw [if_pos (by simp [Region.wanted])]
      refine Nt.wp_eql_pk 25 (.tmp 15) (.tmp 16) rfl l[k] p (by rw [← HXS.out]; rfl) (by rw [← HPS.out]; rfl) ?_
      refine hK.out _ _ hHeld (fun hHeld => ?_)
      clear hK K
      refine wpAnyH_done (by kernel_rfl) ?_ _
      clear hHeld hS0 hpr hrg
      by_cases he : l[k] = p
      · rw [decide_eq_true he]
        go_wp2
        go_ret
        exact ⟨k, hkl, he, rfl, HB.out.drew⟩
      · rw [decide_eq_false he]
        go_wp2
        go_roundw
        case rel =>
          refine ⟨k + 1, rfl, hkl, fun j hj hjk => ?_, HB.out.drew, HG.out, HROW.out.low ((Below.refl _ _).drew)⟩
          by_cases e : j = k
          · subst e; exact he
          · exact HNE.out j hj (by omega)
        case measure => simp [intOf]; omega
    · exfalso
      obtain ⟨j, hj, e⟩ := List.getElem_of_mem HPL.out
      exact HNE.out j hj (by omega) e
set_option maxRecDepth 100000 in
set_option maxHeartbeats 1000000 in
theorem fits8_any {w : World} {B : Nat} {A : Option Addr} {c : Nat} {M : Nt.Md} (hok : M.Ok) (h : Nt.PksAt w B (.slice A M.row.length c) M.row) :
    Calls Try.prog 23 #[.slice A M.row.length c] w fun e w' => e = .returned (.bool true) ∧ Below w.heap.size w w' := by
  have hlen := hok.len
  have HL := Lib.hid hok.links
  have HR := Lib.hid hok.room
  clear hok
  generalize M.row = l at *
  obtain ⟨N, hN⟩ : ∃ N, N = w.heap.size := ⟨_, rfl⟩
  have b1 : Below w.heap.size w (w.alloc (.cells #[.int .i64 0, .int .i64 0] 44)) := (Below.refl _ w).alloc (Nat.le_refl _) _
  have g1 := heap_alloc_new w (.cells #[.int .i64 0, .int .i64 0] 44)
  have H := Lib.hid h
  have B1 := Lib.hid b1
  clear b1 h
  go_enter Try.func23, Try.ntmps23
  go_wp2
  rw [← hN] at g1 ⊢
  have HN := Lib.hid hN
  clear hN
  generalize w.alloc (.cells #[.int .i64 0, .int .i64 0] 44) = w1 at *
  go_loopw [4] (fun s4 wr => ∃ k : Nat, s4 = .int .i64 k ∧ k ≤ l.length ∧ Below w.heap.size w wr ∧ wr.heap[N]? = some (.cells #[.int .i64 (Nt.count (l.take k) 0 : Nat), .int .i64 (Nt.count (l.take k) 1 : Nat)] 44 (0, 0))) (fun s4 _ => l.length - (intOf s4).toNat)
  case atStart => exact ⟨0, rfl, Nat.zero_le _, B1.out, g1⟩
  case round =>
    clear g1 B1
    obtain ⟨k, rfl, hk, hb, hg⟩ := hrel
    have HB := Lib.hid hb
    by_cases hkl : k < l.length
    · have hki : (k : Int) < (l.length : Int) := by omega
      have hsuc : IntKind.i64.wrap ((k : Int) + 1) = ((k + 1 : Nat) : Int) := by simp [IntKind.wrap, IntKind.bits, IntKind.signed]; omega
      obtain ⟨g, rfl, hgl, x0, x1, -⟩ := (H.out.low hb).get hkl
      have hlk := HL.out _ (List.getElem_mem hkl)
      have hs0 := Nt.count_step8 hkl 0
      have hs1 := Nt.count_step8 hkl 1
      have hc0 := Nt.count_le (l.take k) 0
      have hc1 := Nt.count_le (l.take k) 1
      have htk : (l.take k).length ≤ 128 := by rw [List.length_take]; omega
      obtain ⟨p, hp⟩ : ∃ p, p = l[k] := ⟨_, rfl⟩
      rw [← hp] at x0 x1 hlk hs0 hs1
      have hNg : g ≠ N := by
        obtain ⟨_, _, _, cur, hgc⟩ := (H.out.low hb).block
        exact Nt.type_ne hgc hg (by decide)
      obtain ⟨n0, hn0⟩ : ∃ n, n = Nt.count (l.take k) 0 := ⟨_, rfl⟩
      obtain ⟨n1, hn1⟩ : ∃ n, n = Nt.count (l.take k) 1 := ⟨_, rfl⟩
      rw [← hn0] at hs0 hc0 hg
      rw [← hn1] at hs1 hc1 hg
      have hw0 : IntKind.i64.wrap ((n0 : Int) + 1) = ((n0 + 1 : Nat) : Int) := by simp [IntKind.wrap, IntKind.bits, IntKind.signed]; omega
      have hw1 : IntKind.i64.wrap ((n1 : Int) + 1) = ((n1 + 1 : Nat) : Int) := by simp [IntKind.wrap, IntKind.bits, IntKind.signed]; omega
      have y0 := Sm.cells_of hg 0 _ rfl
      have y1 := Sm.cells_of hg 1 _ rfl
      have f0 := Sm.free_of hg 0
      have f1 := Sm.free_of hg 1
      have HG := Lib.hid hg
      have HS0 := Lib.hid hs0
      have HS1 := Lib.hid hs1
      clear hp hn0 hn1 hg hs0 hs1 hb hc0 hc1 htk
      obtain ⟨f, t, d⟩ := p
      simp only at x0 x1
      rcases hlk with ⟨e1, e2⟩ | ⟨e1, e2⟩
      · simp only at e1 e2
        subst e1 e2
        go_upto_region 5 with (fail)
        go_quiet (fail)
        go_wp2
        go_roundw
        case rel =>
          have e0 := HS0.out
          have e1 := HS1.out
          simp only [if_true, show ¬ ((0 : Int) = 1) by decide, if_false, Nat.add_zero] at e0 e1
          refine ⟨k + 1, rfl, hkl, (Sm.below_drewN HB.out nq).setCell (p := ⟨N, 0, none⟩) (by rw [HN.out]; exact Nat.le_refl _) _, ?_⟩
          have hh : (wr.drewN nq).heap[N]? = some (.cells #[.int .i64 (n0 : Int), .int .i64 (n1 : Int)] 44 (0, 0)) := HG.out
          rw [Sm.heap_set hh, e0, e1]
          simp
        case measure => simp [intOf]; omega
      · simp only at e1 e2
        subst e1 e2
        go_upto_region 5 with (fail)
        go_quiet (fail)
        go_wp2
        go_roundw
        case rel =>
          have e0 := HS0.out
          have e1 := HS1.out
          simp only [if_true, show ¬ ((1 : Int) = 0) by decide, if_false, Nat.add_zero] at e0 e1
          refine ⟨k + 1, rfl, hkl, (Sm.below_drewN HB.out nq).setCell (p := ⟨N, 1, none⟩) (by rw [HN.out]; exact Nat.le_refl _) _, ?_⟩
          have hh : (wr.drewN nq).heap[N]? = some (.cells #[.int .i64 (n0 : Int), .int .i64 (n1 : Int)] 44 (0, 0)) := HG.out
          rw [Sm.heap_set hh, e0, e1]
          simp
        case measure => simp [intOf]; omega
    · have hki : ¬ (k : Int) < (l.length : Int) := by omega
      have hke : l.take k = l := List.take_of_length_le (by omega)
      rw [hke] at hg
      have hr := HR.out
      have y0 := Sm.cells_of hg 0 _ rfl
      have y1 := Sm.cells_of hg 1 _ rfl
      have hi0 : ((Nt.count l 0 : Nat) : Int) ≤ 64 := by omega
      have hi1 : ((Nt.count l 1 : Nat) : Int) ≤ 64 := by omega
      clear hke hg hb
      generalize Nt.count l 0 = n0 at *
      generalize Nt.count l 1 = n1 at *
      go_wp2
      go_ret
      exact ⟨by simp, HB.out⟩
end Go.Proofs.Ytimbcmcmidnlfaa
