/-
  LogPlays: a Log tells what the document's does.
-/
import Derived.Test.YtnmagfodjcookaaGreatW10Does
import Derived.Test.YtnmagfodjcookaaGreatW10Stands
namespace Go.Proofs.YtnmagfodjcookaaGreat
open Go.RowKit
namespace Lg
theorem W10.new {B : Nat} {w0 w : World} {r : Nat} {fp : Nat → Prop} {M : Dk.Md} {d0 d1 d2 d3 : Value} (h : Dk.Own B w0 w r fp M) (hr : Dk.RefAt w fp (.agg #[d0, d1, d2, d3]) M) (a nn : Int) (ep : Nat) :
    W10 (fun _ => none) B w0 (w.alloc (.cells #[.pointer (some ⟨r, 0, none⟩), .pointer none, d0, d1, d2, d3, .int .i64 0, .int .i64 0, .int .u64 0, .slice none 0 0, .int .i64 0, .int .u64 0, .int .u64 0, .bool false, .int .i64 a, .int .i64 nn, .int .u64 (ep : Nat), .int .i64 0] 41)) w.heap.size r fp M M d0 d1 d2 d3 none (fun _ => False) (zero 0 0 0) (zero 0 0 0) (.int .i64 0) (.int .i64 0) (.int .u64 0) (.slice none 0 0) (.int .i64 0) (.int .u64 0) (.int .u64 0) (.bool false) a nn ep 0 := by
  have k : Below w.heap.size w (w.alloc (.cells #[.pointer (some ⟨r, 0, none⟩), .pointer none, d0, d1, d2, d3, .int .i64 0, .int .i64 0, .int .u64 0, .slice none 0 0, .int .i64 0, .int .u64 0, .int .u64 0, .bool false, .int .i64 a, .int .i64 nn, .int .u64 (ep : Nat), .int .i64 0] 41)) := (Below.refl _ w).alloc (Nat.le_refl _) _
  refine ⟨h.low k, refTurned hr (f := fp) (Dk.Turned.of_below k (Nat.le_refl _)) (fun q e => ?_), heap_alloc_new w _, fun e => by have := h.lt _ e; omega, h.size, fun q e => e.elim, fun q e => (by cases e), fun q b e => (by cases e)⟩
  rcases e with e | e | e
  · exact .inl e
  · exact .inr (Nat.le_of_eq e.symm)
  · exact e.elim
end Lg
set_option maxRecDepth 100000 in
set_option maxHeartbeats 16000000 in
theorem logplays_any (w : World) (s : Nat) (hs256 : s < 256) (a nn : Int) (hnn : -9223372036854775808 ≤ nn ∧ nn ≤ 9223372036854775807) (ep : Nat) (hep : ep < 18446744073709551616) (A : Option Addr) (c : Nat) (l : List Lg.Ac) (hl : l.length ≤ 9223372036854775807) (hit : Lg.listAt w A l) (hs : ∀ x ∈ l, x.Ok w) :
    Calls Tryz.prog 3 #[.int .u8 (s : Int), .int .i64 a, .int .i64 nn, .int .u64 (ep : Int), .slice A l.length c] w fun e w' => e = .returned (.bool true) ∧ Below w.heap.size w w' := by
  have AW := Lib.hid (awake10_any w)
  have HIT := Lib.hid hit
  have HS := Lib.hid hs
  by_cases hbad : ¬ Lg.Fair l
  · have GR : Hid (∀ wx, Below w.heap.size w wx → Calls Tryz.prog 6 #[.slice A l.length c] wx fun e w' => e = .returned (.bool true) ∧ wx = w') := fun wx hwx => great10_any hl (by
      rcases HIT.out with h | ⟨b, o, h1, h2, h3⟩
      · exact .inl h
      · exact .inr ⟨b, o, h1, Nat.lt_of_lt_of_le h2 hwx.size, h3.below hwx h2⟩) HS.out true ⟨fun _ => hbad, fun _ => rfl⟩
    clear hit hs
    go_enter Tryz.func3, Tryz.ntmps3
    go_wp2_with (first
      | (go_at_call 5; refine AW.out.mono ?_; rintro e w1 ⟨rfl, k1⟩)
      | (go_at_call 6; refine (GR.out _ k1).mono ?_; rintro e w2 ⟨rfl, rfl⟩))
    go_ret
    exact ⟨rfl, k1⟩
  have hfair := Classical.not_not.1 hbad
  have FA := Lib.hid hfair
  have GR : Hid (∀ wx, Below w.heap.size w wx → Calls Tryz.prog 6 #[.slice A l.length c] wx fun e w' => e = .returned (.bool false) ∧ wx = w') := fun wx hwx => great10_any hl (by
      rcases HIT.out with h | ⟨b, o, h1, h2, h3⟩
      · exact .inl h
      · exact .inr ⟨b, o, h1, Nat.lt_of_lt_of_le h2 hwx.size, h3.below hwx h2⟩) HS.out false ⟨fun h => (by cases h), fun h => absurd FA.out h⟩
  have h60 := hfair.1
  obtain ⟨m0, hm0⟩ : ∃ m, m = s % 60 := ⟨_, rfl⟩
  obtain ⟨N, hN⟩ : ∃ n, n = 1 + m0 := ⟨_, rfl⟩
  have hn60 : 1 ≤ N ∧ N ≤ 60 := by omega
  have q1 : (s : Int).tmod 60 = (m0 : Int) := by rw [Int.tmod_eq_emod_of_nonneg (by omega), hm0]; omega
  have q2 : IntKind.u8.wrap (m0 : Int) = (m0 : Int) := by rw [IntKind.wrap_u8]; omega
  have q3 : IntKind.i64.wrap (m0 : Int) = (m0 : Int) := IntWalk.i64_in _ (by omega)
  have q4 : IntKind.i64.wrap (1 + (m0 : Int)) = (N : Int) := by rw [IntWalk.i64_in _ (by omega)]; omega
  have HNN := Lib.hid hnn
  have HEP := Lib.hid hep
  clear hit hs hfair hbad hN hm0 hnn hep
  go_enter Tryz.func3, Tryz.ntmps3
  go_upto_region 6 with (first
    | (go_at_call 5; refine AW.out.mono ?_; rintro e w1 ⟨rfl, k1⟩)
    | (go_at_call 6; refine (GR.out _ k1).mono ?_; rintro e w2 ⟨rfl, rfl⟩))
  have ND := Lib.hid (Dk.new_in k1 (Nat.le_refl _) N (by omega))
  go_upto_region 7 with (go_at_call 7; refine ND.out.mono ?_; rintro e w2 ⟨r, fp, rfl, o2, -, -⟩)
  have NR := Lib.hid (r7New_any w2 fp o2.lt N (by omega))
  have O2 := Lib.hid o2
  clear o2 k1 q1 q2 q3 q4
  go_wp2_with fail
  refine NR.out.mono ?_
  rintro e w3 ⟨v, rfl, href, k3⟩
  obtain ⟨sA, sn, sc, sB, sm, sd, f, o, rfl⟩ := Lg.quad href
  go_upto_region 8 with (fail)
  have b4 : Below w3.heap.size w3 (w3.alloc (.cells #[.slice sA sn sc, .slice sB sm sd, .int .i64 f, .bool o] 33)) := (Below.refl _ w3).alloc (Nat.le_refl _) _
  have o4 := (O2.out.low k3).low b4
  have r4 := href.low b4
  have g4 := heap_alloc_new w3 (.cells #[.slice sA sn sc, .slice sB sm sd, .int .i64 f, .bool o] 33)
  obtain ⟨P, hP⟩ : ∃ P, P = w3.heap.size := ⟨_, rfl⟩
  rw [← hP] at g4 ⊢
  clear hP b4 href k3
  generalize w3.alloc (.cells #[.slice sA sn sc, .slice sB sm sd, .int .i64 f, .bool o] 33) = w4 at *
  have x0 := Sm.cells_of g4 0 _ rfl; have x1 := Sm.cells_of g4 1 _ rfl; have x2 := Sm.cells_of g4 2 _ rfl; have x3 := Sm.cells_of g4 3 _ rfl
  have HO4 := Lib.hid o4
  have HR4 := Lib.hid r4
  clear o4 r4 g4
  go_upto_region 9 with (fail)
  have WN := Lg.W10.new HO4.out HR4.out a nn ep
  obtain ⟨X, hX⟩ : ∃ X, X = w4.heap.size := ⟨_, rfl⟩
  rw [← hX] at WN ⊢
  clear hX x0 x1 x2 x3
  generalize w4.alloc (.cells #[.pointer (some ⟨r, 0, none⟩), .pointer none, .slice sA sn sc, .slice sB sm sd, .int .i64 f, .bool o, .int .i64 0, .int .i64 0, .int .u64 0, .slice none 0 0, .int .i64 0, .int .u64 0, .int .u64 0, .bool false, .int .i64 a, .int .i64 nn, .int .u64 (ep : Nat), .int .i64 0] 41) = w5 at *
  have OP1 := Lib.hid (w10open_any WN (by rw [Dk.waits_new]; omega) HNN.out HEP.out)
  clear WN
  go_upto_region 11 with (go_at_call 9; refine OP1.out.mono ?_; rintro e w6 ⟨rfl, hop, _⟩)
  obtain ⟨lo, bl, L, q0, q1, q2, q3, q4, q5, q6, q7, n, W6, iff6⟩ := hop
  cases lo with
  | none =>
    have x1 := Sm.cells_of (W6.lit (lp := .pointer none) rfl) 1 (.pointer none) rfl
    have HB6 := Lib.hid W6.disk.below
    have ST := Lib.hid (w10stands_any W6 iff6)
    have hs6 := W6.disk.size
    clear W6 iff6 OP1
    go_wp2_with (first
      | (go_at_call 10; refine (lgAdd_nil _ _).mono ?_; rintro e w7 ⟨rfl, rfl⟩)
      | (go_at_call 11; refine ST.out.mono ?_; rintro e w8 ⟨rfl, k8⟩))
    go_ret
    exact ⟨rfl, HB6.out.trans (k8.mono hs6)⟩
  | some k =>
    obtain ⟨-, fine6, -⟩ := W6.log k rfl
    have hpos : 0 ≤ a ∧ 1 ≤ nn ∧ a + nn ≤ 4096 := by
      have h1 := fine6.low
      have h2 := fine6.pos
      have h3 := fine6.len
      omega
    have HPOS := Lib.hid hpos
    have x1 := Sm.cells_of (W6.lit (lp := .pointer (some ⟨k, 0, none⟩)) rfl) 1 (.pointer (some ⟨k, 0, none⟩)) rfl
    have H6 := Lib.hid W6
    have I6 := Lib.hid iff6
    clear W6 iff6 fine6 hpos OP1
    go_upto_region 13 with (fail)
    clear x1
    go_wp2_with fail
    go_loopw [17] (fun s17 wr => ∃ (i : Nat) (fp : Nat → Prop) (M : Dk.Md) (d0 d1 d2 d3 : Value) (lo : Option Nat) (bl : Nat → Prop) (L : Lg.Md) (q0 q1 q2 q3 q4 q5 q6 q7 : Value) (ep : Nat) (n : Int), s17 = .int .i64 i ∧ i ≤ l.length ∧ Lg.W10 (fun _ => none) w.heap.size w wr X r fp M M d0 d1 d2 d3 lo bl L L q0 q1 q2 q3 q4 q5 q6 q7 a nn ep n ∧ (lo = none ↔ n ≠ 0) ∧ ep < 18446744073709551616 ∧ Dk.waits M ≤ 33 * i) (fun s17 _ => l.length - (intOf s17).toNat)
    case atStart => exact ⟨0, fp, _, _, _, _, _, some k, bl, L, q0, q1, q2, q3, q4, q5, q6, q7, ep, n, rfl, Nat.zero_le _, H6.out, I6.out, HEP.out, by rw [Dk.waits_new]; omega⟩
    case round =>
      clear H6 I6 HEP
      obtain ⟨i, fp, M, d0, d1, d2, d3, lo, bl, L, q0, q1, q2, q3, q4, q5, q6, q7, ep, n, rfl, hi, hw, hif, hep, hwt⟩ := hrel
      by_cases hlt : i < l.length
      · have hki : (i : Int) < (l.length : Int) := by omega
        have hsuc : IntKind.i64.wrap ((i : Int) + 1) = ((i + 1 : Nat) : Int) := by simp [IntKind.wrap, IntKind.bits, IntKind.signed]; omega
        obtain ⟨gb, ob, hA, hgl, hat⟩ : ∃ gb ob, A = some ⟨gb, ob, none⟩ ∧ gb < w.heap.size ∧ Lg.actsAt w gb ob l := by
          rcases HIT.out with h | ⟨gb, ob, h1, h2, h3⟩
          · rw [h] at hlt; simp at hlt
          · exact ⟨gb, ob, h1, h2, h3⟩
        subst hA
        obtain ⟨c0, c1, c2, c3, c4, c5⟩ := (hat i hlt).below hw.disk.below hgl
        have hsm := (FA.out.2 i hlt).1
        obtain ⟨x, hx⟩ : ∃ x, x = l[i] := ⟨_, rfl⟩
        have hok := HS.out _ (List.getElem_mem hlt)
        rw [← hx] at c0 c1 c2 c3 c4 c5 hok hsm
        obtain ⟨kA, kc, hkv, -⟩ := id hok.keep
        have DO := Lib.hid (w10does_any hw hif rfl (by omega) HPOS.out hep x hok hsm)
        unfold Lg.Ac.cells at DO
        rw [hkv] at DO c5
        have HWT := Lib.hid hwt
        clear hw hif hok hsm hx hat hgl hkv hwt hep
        go_wp2_with fail
        refine DO.out.mono ?_
        rintro e w7 ⟨rfl, hd⟩
        clear c0 c1 c2 c3 c4 c5 DO
        obtain ⟨fp', M', e0, e1, e2, e3, lo', bl', L', p0, p1, p2, p3, p4, p5, p6, p7, ep', n', W7, iff7, wt7, -, hep7⟩ := hd
        have WT7 : Hid (Dk.waits M' ≤ 33 * (i + 1)) := by show _ ≤ _; have := HWT.out; omega
        have H7 := Lib.hid W7
        have I7 := Lib.hid iff7
        have E7 := Lib.hid hep7
        have ST := Lib.hid (w10stands_any W7 iff7)
        clear W7 iff7 hep7 wt7
        go_wp2_with (go_at_call 11; refine ST.out.mono ?_; rintro e w8 ⟨rfl, k8⟩)
        go_roundw
        case rel => exact ⟨i + 1, fp', M', e0, e1, e2, e3, lo', bl', L', p0, p1, p2, p3, p4, p5, p6, p7, ep', n', rfl, hlt, H7.out.low' k8, I7.out, E7.out, WT7.out⟩
        case measure => simp [intOf]; omega
      · have hki : ¬ (i : Int) < (l.length : Int) := by omega
        have HB := Lib.hid hw.disk.below
        clear hw hif
        go_wp2
        go_ret
        exact ⟨rfl, HB.out⟩
end Go.Proofs.YtnmagfodjcookaaGreat
