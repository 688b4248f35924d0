/-
  The document's own batch: what is shipped of it.
-/
import Derived.Test.YtlndggbidmmodaaBaFilter
import Derived.Test.YtlndggbidmmodaaPaRefOf
namespace Go.Proofs.Ytlndggbidmmodaa
open Go.RowKit Pk
namespace Ba
/-- Where the document's Filter stands. -/
structure Fr (w W : World) (N : Nat) (ix ep : Int) (C : Option Addr) (d : Nat) (l : List Op) (A : Option Addr) (c : Nat) (L : List Op) : Prop where
  box : W.heap[N]? = some (.cells #[.int .i64 ix, .int .i64 ep, .slice C l.length d] 31 (0, 0))
  res : W.heap[N + 1]? = some (.cells #[.int .i64 0, .int .i64 0, .slice none 0 0] 31 (0, 0))
  row : Row W N A c L
  bel : Below N w W
  low : N ≤ W.heap.size
section
variable {w W W' : World} {N : Nat} {ix ep : Int} {C : Option Addr} {d : Nat} {l : List Op} {A : Option Addr} {c : Nat} {L : List Op}
theorem Fr.step (h : Fr w W N ix ep C d l A c L) (k : Below W.heap.size W W') : Fr w W' N ix ep C d l A c L :=
  ⟨(k.block N (Sm.lt_of h.box)).trans h.box, (k.block (N + 1) (Sm.lt_of h.res)).trans h.res, h.row.low k, h.bel.trans (k.mono h.low), Nat.le_trans h.low k.size⟩
theorem Fr.push (h : Fr w W N ix ep C d l A c L) {A' : Option Addr} {c' : Nat} {x : Op} (hr : Row W' N A' c' (L ++ [x])) (g : W.grownBy W' (Value.slice A L.length c).ownBlock) : Fr w W' N ix ep C d l A' c' (L ++ [x]) :=
  ⟨(g.block N (Sm.lt_of h.box) (fun e => h.row.off h.box (by decide) e.symm)).trans h.box, (g.block (N + 1) (Sm.lt_of h.res) (fun e => h.row.off h.res (by decide) e.symm)).trans h.res, hr, h.bel.grown g h.low (fun q hq => (h.row.blk hq).1), Nat.le_trans h.low g.size⟩
theorem Fr.last (h : Fr w W N ix ep C d l A c L) (v a b e : Value) : Row ((((W.setCell ⟨N, 2, none⟩ v).setCell ⟨N + 1, 0, none⟩ a).setCell ⟨N + 1, 1, none⟩ b).setCell ⟨N + 1, 2, none⟩ e) N A c L ∧ Below N w ((((W.setCell ⟨N, 2, none⟩ v).setCell ⟨N + 1, 0, none⟩ a).setCell ⟨N + 1, 1, none⟩ b).setCell ⟨N + 1, 2, none⟩ e) := by
  constructor
  · refine h.row.keep fun j cs hj => ?_
    have hne : ∀ q (cs' : Array Value), W.heap[q]? = some (.cells cs' 31 (0, 0)) → j ≠ q := by
      intro q cs' hq e
      subst e
      rw [hq] at hj
      simp only [Option.some.injEq, Obj.cells.injEq] at hj
      exact absurd hj.2.1 (by decide)
    rw [Below.heap_setCell _ _ _ _ (hne _ _ h.res), Below.heap_setCell _ _ _ _ (hne _ _ h.res), Below.heap_setCell _ _ _ _ (hne _ _ h.res), Below.heap_setCell _ _ _ _ (hne _ _ h.box)]
  · exact (((h.bel.setCell (p := ⟨N, 2, none⟩) (Nat.le_refl N) _).setCell (p := ⟨N + 1, 0, none⟩) (Nat.le_succ N) _).setCell (p := ⟨N + 1, 1, none⟩) (Nat.le_succ N) _).setCell (p := ⟨N + 1, 2, none⟩) (Nat.le_succ N) _
end
end Ba
set_option maxRecDepth 100000 in
set_option maxHeartbeats 8000000 in
theorem r12Filter_any {w : World} {A0 : Option Addr} {m : List Pa.Mo} (c0 : Nat) (hm : Pa.listAt w A0 m) (hml : m.length ≤ 9223372036854775807) (b : Ba.Bt) {C : Option Addr} (d : Nat) (hit : Ba.listAt w C b.ops) (hl : b.ops.length ≤ 1000) (hs : ∀ o ∈ b.ops, o.p.size ≤ 1048576) :
    Calls Try.prog 19 #[.slice A0 m.length c0, .agg #[.int .i64 b.ix, .int .i64 b.ep, .slice C b.ops.length d]] w fun e w' => ∃ A c, e = .returned (.agg #[.int .i64 b.ix, .int .i64 b.ep, .slice A (Ba.filt m b.ops).length c]) ∧ Ba.Row w' w.heap.size A c (Ba.filt m b.ops) ∧ Below w.heap.size w w' := by
  obtain ⟨ix, ep, l⟩ := b
  simp only at hit hl hs ⊢
  obtain ⟨N, hN⟩ : ∃ n, n = w.heap.size := ⟨_, rfl⟩
  obtain ⟨w2, hw2⟩ : ∃ x, x = (w.alloc (.cells #[.int .i64 ix, .int .i64 ep, .slice C l.length d] 31)).alloc (.cells #[.int .i64 0, .int .i64 0, .slice none 0 0] 31) := ⟨_, rfl⟩
  have FL0 : Hid (Ba.Fr w w2 N ix ep C d l none 0 []) := by
    have g1 := heap_alloc_new w (.cells #[.int .i64 ix, .int .i64 ep, .slice C l.length d] 31)
    have g2 := heap_alloc_new (w.alloc (.cells #[.int .i64 ix, .int .i64 ep, .slice C l.length d] 31)) (.cells #[.int .i64 0, .int .i64 0, .slice none 0 0] 31)
    have hs1 : (w.alloc (.cells #[.int .i64 ix, .int .i64 ep, .slice C l.length d] 31)).heap.size = w.heap.size + 1 := by simp
    rw [hs1] at g2
    refine ⟨?_, ?_, Ba.Row.nil _ _, ?_, ?_⟩
    · rw [hw2, hN]; exact (Below.heap_alloc _ _ _ (Sm.lt_of g1)).trans g1
    · rw [hw2, hN]; exact g2
    · rw [hw2, hN]; exact ((Below.refl _ w).alloc (Nat.le_refl _) _).alloc (by simp) _
    · rw [hw2, hN]; simp; omega
  have HIT : Hid (∀ wx : World, Below N w wx → ∀ j (hj : j < l.length), ∃ b off, C = some ⟨b, off, none⟩ ∧ b < N ∧ Ba.opAt wx b (off + j * 3) l[j]) := fun wx k j hj => by rw [hN] at k ⊢; exact hit.get k j hj
  have HM : Hid (∀ wx : World, Below N w wx → Pa.listAt wx A0 m) := fun wx k => by rw [hN] at k; exact hm.below k
  have HS := Lib.hid hs
  have HW := Lib.hid hw2
  have HB := Lib.hid hN
  rw [← hN]
  clear hit hm hs hw2 hN
  go_enter Try.func19, Try.ntmps19
  go_upto_region 3 with (fail)
  rw [← HW.out, ← HB.out]
  go_loopw [5, 6] (fun v iv wr => ∃ (k : Nat) (A : Option Addr) (c : Nat) (L : List Ba.Op), iv = .int .i64 k ∧ v = .slice A L.length c ∧ k ≤ l.length ∧ Hid (L = Ba.filt m (l.take k)) ∧ Ba.Fr w wr N ix ep C d l A c L) (fun _ iv _ => l.length - (intOf iv).toNat)
  case atStart => exact ⟨0, none, 0, [], rfl, rfl, Nat.zero_le _, rfl, FL0.out⟩
  case round =>
    clear FL0
    obtain ⟨k, A, c, L, rfl, rfl, hk, hL, fl⟩ := hrel
    have F4 := Lib.hid fl
    have n2 := Sm.cells_of fl.box 2 _ rfl
    clear fl
    by_cases hlt : k < l.length
    · have hki : (k : Int) < (l.length : Int) := by omega
      have hsuc : IntKind.i64.wrap ((k : Int) + 1) = ((k + 1 : Nat) : Int) := by simp [IntKind.wrap, IntKind.bits, IntKind.signed]; omega
      obtain ⟨gb, off, rfl, hgl, o0, o1, o2⟩ := HIT.out _ F4.out.bel k hlt
      have hsm := HS.out _ (List.getElem_mem hlt)
      have hft := Ba.filt_take (m := m) hlt
      have hLl : L.length ≤ 1000 := by
        have h1 := Ba.filt_le m (l.take k)
        have h2 : (l.take k).length ≤ l.length := List.length_take_le' _ _
        have h3 := congrArg List.length hL.out
        omega
      obtain ⟨x, hx⟩ : ∃ x, x = l[k] := ⟨_, rfl⟩
      rw [← hx] at o0 o1 o2 hsm hft
      have HX := Lib.hid hx
      have SH := Lib.hid (r11Ships_any c0 (HM.out _ F4.out.bel) hml x.p (by omega))
      obtain ⟨sh, hsh⟩ : ∃ b, b = Pa.ships m x.p.data.toList := ⟨_, rfl⟩
      rw [← hsh] at SH hft
      clear hx hgl hsh
      cases sh
      · rw [if_neg (by decide), List.append_nil] at hft
        have FT : Hid (L = Ba.filt m (l.take (k + 1))) := by show _ = _; rw [hft]; exact hL.out
        clear hft hL
        go_wp2_with fail
        refine SH.out.mono ?_
        rintro e w5 ⟨rfl, b5⟩
        have F5 := Lib.hid (F4.out.step b5)
        clear b5 F4 SH o0 o1 o2 n2
        go_wp2_with fail
        go_roundw
        case rel => exact ⟨k + 1, A, c, L, rfl, rfl, hlt, FT.out, F5.out⟩
        case measure => simp [intOf]; omega
      · rw [if_pos rfl] at hft
        have FT : Hid (L ++ [x] = Ba.filt m (l.take (k + 1))) := by show _ = _; rw [hft, hL.out]
        clear hft hL
        go_wp2_with fail
        refine SH.out.mono ?_
        rintro e w5 ⟨rfl, b5⟩
        have F5 := Lib.hid (F4.out.step b5)
        clear b5 F4 SH o0 o1 o2 n2
        have n2 := Sm.cells_of F5.out.box 2 _ rfl
        obtain ⟨gb', off', hbb, -, o0, o1, o2⟩ := HIT.out _ F5.out.bel k hlt
        injection hbb with hbb
        injection hbb with hb1 hb2 _
        subst hb1 hb2
        rw [← HX.out] at o0 o1 o2
        have F6 := Lib.hid (F5.out.step ((Below.refl _ w5).alloc (Nat.le_refl _) (.cells #[.int .u8 (x.k : Int), .string x.p, .string x.v] 37)))
        have g6 := Lib.hid (heap_alloc_new w5 (.cells #[.int .u8 (x.k : Int), .string x.p, .string x.v] 37))
        clear HX
        go_upto_region 4 with (at_builtin; refine Ba.wp_push rfl _ _ rfl rfl F6.out.row x rfl g6.out (by omega) F6.out.low ?_; intro A' c' w9 hrow hgrow; have F9 := Lib.hid (F6.out.push hrow hgrow))
        go_wp2
        go_roundw
        case rel => exact ⟨k + 1, A', c', L ++ [x], rfl, by rw [List.length_append]; rfl, hlt, FT.out, F9.out⟩
        case measure => simp [intOf]; omega
    · have hki : ¬ (k : Int) < (l.length : Int) := by omega
      have hkl : k = l.length := by omega
      have hL2 := hL.out
      rw [hkl, List.take_length] at hL2
      have HL2 := Lib.hid hL2
      have c0' := Sm.cells_of F4.out.box 0 _ rfl
      have c1 := Sm.cells_of F4.out.box 1 _ rfl
      have fb := Sm.free_of F4.out.box 2
      have r0 := Sm.cells_of F4.out.res 0 _ rfl
      have r1 := Sm.cells_of F4.out.res 1 _ rfl
      have r2 := Sm.cells_of F4.out.res 2 _ rfl
      have f0 := Sm.free_of F4.out.res 0
      have f1 := Sm.free_of F4.out.res 1
      have f2 := Sm.free_of F4.out.res 2
      have LA := Lib.hid (F4.out.last (.slice A L.length c) (.int .i64 ix) (.int .i64 ep) (.slice A L.length c))
      clear hkl hL hL2
      go_wp2_with fail
      refine bodyPost_ret (v := .agg #[.int .i64 ix, .int .i64 ep, .slice A L.length c]) ((Ba.results_own12 rfl _ _ _).trans (by go_simp)) rfl ⟨A, c, ?_, ?_, LA.out.2⟩
      · rw [← HL2.out]
      · rw [← HL2.out]; exact LA.out.1
end Go.Proofs.Ytlndggbidmmodaa
