/-
  batch's Filter.
-/
import Derived.Test.YtlndggbidmmodaaBaOwn
import Derived.Test.YtlndggbidmmodaaIn4
import Derived.Test.YtlndggbidmmodaaPaShips
import Derived.Great.BuildSlice
import Derived.Deep.RegionHeld3
namespace Go.Proofs.Ytlndggbidmmodaa
open Go.RowKit Pk
namespace Ba
def filt (m : List Pa.Mo) (l : List Op) : List Op := l.filter fun o => Pa.ships m o.p.data.toList
theorem filt_take {m : List Pa.Mo} {l : List Op} {k : Nat} (hk : k < l.length) : filt m (l.take (k + 1)) = filt m (l.take k) ++ if Pa.ships m l[k].p.data.toList = true then [l[k]] else [] := by
  have e : l.take (k + 1) = l.take k ++ [l[k]] := by simp
  unfold filt
  rw [e, List.filter_append]
  congr 1
  by_cases h : Pa.ships m l[k].p.data.toList = true
  · rw [if_pos h]; simp [h]
  · rw [if_neg h]; simp [h]
theorem filt_le (m : List Pa.Mo) (l : List Op) : (filt m l).length ≤ l.length := List.length_filter_le _ _
/-- Where Filter stands: the answer's box in block N, what it made so far in block P. -/
structure Fl (B0 : Nat) (w W : World) (N P : Nat) (ix ep : Int) (A : Option Addr) (c : Nat) (L : List Op) : Prop where
  res : W.heap[N]? = some (.cells #[.int .i64 0, .int .i64 0, .slice none 0 0] 31 (0, 0))
  own : W.heap[P]? = some (.cells #[.int .i64 ix, .int .i64 ep, .slice A L.length c] 31 (0, 0))
  row : Row W B0 A c L
  bel : Below B0 w W
  low : B0 ≤ W.heap.size
  hi1 : B0 ≤ N
  hi2 : B0 ≤ P
  ne : N ≠ P
section
variable {B0 : Nat} {w W W' : World} {N P : Nat} {ix ep : Int} {A : Option Addr} {c : Nat} {L : List Op}
theorem Fl.step (h : Fl B0 w W N P ix ep A c L) (k : Below W.heap.size W W') : Fl B0 w W' N P ix ep A c L :=
  ⟨(k.block N (Sm.lt_of h.res)).trans h.res, (k.block P (Sm.lt_of h.own)).trans h.own, h.row.low k, h.bel.trans (k.mono h.low), Nat.le_trans h.low k.size, h.hi1, h.hi2, h.ne⟩
theorem Fl.alloc (h : Fl B0 w W N P ix ep A c L) (o : Obj) : Fl B0 w (W.alloc o) N P ix ep A c L := h.step ((Below.refl _ W).alloc (Nat.le_refl _) _)
theorem Fl.drew (h : Fl B0 w W N P ix ep A c L) : Fl B0 w W.drew N P ix ep A c L := h.step (Below.refl _ W).drew
theorem Fl.push (h : Fl B0 w W N P ix ep A c L) {A' : Option Addr} {c' : Nat} {x : Op} (hr : Row W' B0 A' c' (L ++ [x])) (g : W.grownBy W' (Value.slice A L.length c).ownBlock) : Fl B0 w (W'.setCell ⟨P, 2, none⟩ (.slice A' (L.length + 1) c')) N P ix ep A' c' (L ++ [x]) := by
  have hl : (L ++ [x]).length = L.length + 1 := by rw [List.length_append]; rfl
  have hbx := (g.block P (Sm.lt_of h.own) (fun e => h.row.off h.own (by decide) e.symm)).trans h.own
  have hrs := (g.block N (Sm.lt_of h.res) (fun e => h.row.off h.res (by decide) e.symm)).trans h.res
  have hb : Below B0 w W' := h.bel.grown g h.low (fun q hq => (h.row.blk hq).1)
  refine ⟨(Below.heap_setCell _ _ _ _ h.ne).trans hrs, ?_, hr.keep fun j cs hj => Below.heap_setCell _ _ _ _ (fun e => ?_), hb.setCell (p := ⟨P, 2, none⟩) h.hi2 _, by simpa using Nat.le_trans h.low g.size, h.hi1, h.hi2, h.ne⟩
  · have e := Sm.heap_set hbx 2 (.slice A' (L.length + 1) c')
    rw [hl]
    exact e
  · have e2 : j = P := e
    subst e2
    rw [hbx] at hj
    simp only [Option.some.injEq, Obj.cells.injEq] at hj
    exact absurd hj.2.1 (by decide)
theorem Fl.last (h : Fl B0 w W N P ix ep A c L) : Row (((W.setCell ⟨N, 0, none⟩ (.int .i64 ix)).setCell ⟨N, 1, none⟩ (.int .i64 ep)).setCell ⟨N, 2, none⟩ (.slice A L.length c)) B0 A c L ∧ Below B0 w (((W.setCell ⟨N, 0, none⟩ (.int .i64 ix)).setCell ⟨N, 1, none⟩ (.int .i64 ep)).setCell ⟨N, 2, none⟩ (.slice A L.length c)) := by
  constructor
  · refine h.row.keep fun j cs hj => ?_
    have hne : j ≠ N := by
      intro e
      subst e
      rw [h.res] at hj
      simp only [Option.some.injEq, Obj.cells.injEq] at hj
      exact absurd hj.2.1 (by decide)
    rw [Below.heap_setCell _ _ _ _ hne, Below.heap_setCell _ _ _ _ hne, Below.heap_setCell _ _ _ _ hne]
  · exact ((h.bel.setCell (p := ⟨N, 0, none⟩) h.hi1 _).setCell (p := ⟨N, 1, none⟩) h.hi1 _).setCell (p := ⟨N, 2, none⟩) h.hi1 _
end
theorem results_own12 {fn : Func} {p : Tmp} {ty : TypeId} (h : fn.results = #[.cell p ty]) (tmps : Array Value) (P : Program) (w : World) :
    (results fn tmps).run P w = ((asAddr (tmps.getD p undef)).run P w).andThen fun a w₁ => (loadVar ty a).run P w₁ := by
  simp only [results, h]
  simp [Sem.run_bind, Result.andThen]
end Ba
set_option maxRecDepth 100000 in
set_option maxHeartbeats 16000000 in
theorem baFilter_any {w : World} {A0 : Option Addr} {m : List Pa.Mo} (c0 : Nat) (hm : Pa.listAt w A0 m) (hml : m.length ≤ 9223372036854775807) (b : Ba.Bt) {C : Option Addr} (d : Nat) (hit : Ba.listAt w C b.ops) (hl : b.ops.length ≤ 1000) (hs : ∀ o ∈ b.ops, o.p.size ≤ 1048576 ∧ o.v.size ≤ 1048576) :
    Calls Try.prog 18 #[.slice A0 m.length c0, .agg #[.int .i64 b.ix, .int .i64 b.ep, .slice C b.ops.length d]] w fun e w' => ∃ A c, e = .returned (.agg #[.int .i64 b.ix, .int .i64 b.ep, .slice A (Ba.filt m b.ops).length c]) ∧ Ba.Row w' w.heap.size A c (Ba.filt m b.ops) ∧ Below w.heap.size w w' := by
  obtain ⟨ix, ep, l⟩ := b
  simp only at hit hl hs ⊢
  obtain ⟨B0, hB0⟩ : ∃ n, n = w.heap.size := ⟨_, rfl⟩
  obtain ⟨w1, hw1⟩ : ∃ x, x = w.alloc (.cells #[.int .i64 ix, .int .i64 ep, .slice C l.length d] 31) := ⟨_, rfl⟩
  have g1 := heap_alloc_new w (.cells #[.int .i64 ix, .int .i64 ep, .slice C l.length d] 31)
  have b1 : Below B0 w w1 := by rw [hw1, hB0]; exact (Below.refl _ w).alloc (Nat.le_refl _) _
  have hs1 : w1.heap.size = B0 + 1 := by rw [hw1, hB0]; simp
  rw [← hw1, ← hB0] at g1
  obtain ⟨w2, hw2⟩ : ∃ x, x = w1.alloc (.cells #[.int .i64 0, .int .i64 0, .slice none 0 0] 31) := ⟨_, rfl⟩
  have g2 := heap_alloc_new w1 (.cells #[.int .i64 0, .int .i64 0, .slice none 0 0] 31)
  have g12 := (Below.heap_alloc w1 (.cells #[.int .i64 0, .int .i64 0, .slice none 0 0] 31) _ (Sm.lt_of g1)).trans g1
  have b2 : Below B0 w w2 := by rw [hw2]; exact b1.alloc (by omega) _
  have hs2 : w2.heap.size = B0 + 2 := by rw [hw2]; simp [hs1]
  rw [hs1, ← hw2] at g2
  rw [← hw2] at g12
  obtain ⟨w3, hw3⟩ : ∃ x, x = w2.alloc (.cells #[.int .i64 ix, .int .i64 ep, .slice none 0 0] 31) := ⟨_, rfl⟩
  have g3 := heap_alloc_new w2 (.cells #[.int .i64 ix, .int .i64 ep, .slice none 0 0] 31)
  have g13 := (Below.heap_alloc w2 (.cells #[.int .i64 ix, .int .i64 ep, .slice none 0 0] 31) _ (Sm.lt_of g12)).trans g12
  have g23 := (Below.heap_alloc w2 (.cells #[.int .i64 ix, .int .i64 ep, .slice none 0 0] 31) _ (Sm.lt_of g2)).trans g2
  have b3 : Below B0 w w3 := by rw [hw3]; exact b2.alloc (by omega) _
  rw [hs2, ← hw3] at g3
  rw [← hw3] at g13 g23
  have FL0 : Hid (Ba.Fl B0 w w3 (B0 + 1) (B0 + 2) ix ep none 0 []) := ⟨g23, g3, Ba.Row.nil _ _, b3, by rw [hw3]; simp [hs2]; omega, by omega, by omega, by omega⟩
  have HIT : Hid (∀ wx : World, Below B0 w wx → ∀ j (hj : j < l.length), ∃ b off, C = some ⟨b, off, none⟩ ∧ b < B0 ∧ Ba.opAt wx b (off + j * 3) l[j]) := fun wx k j hj => by rw [hB0] at k ⊢; exact hit.get k j hj
  have HM : Hid (∀ wx : World, Below B0 w wx → Pa.listAt wx A0 m) := fun wx k => by rw [hB0] at k; exact hm.below k
  have HS := Lib.hid hs
  have HW : Hid (w3 = ((w.alloc (.cells #[.int .i64 ix, .int .i64 ep, .slice C l.length d] 31)).alloc (.cells #[.int .i64 0, .int .i64 0, .slice none 0 0] 31)).alloc (.cells #[.int .i64 ix, .int .i64 ep, .slice none 0 0] 31)) := by show _ = _; rw [hw3, hw2, hw1]
  have HB := Lib.hid hB0
  have x0 : (w.alloc (.cells #[.int .i64 ix, .int .i64 ep, .slice C l.length d] 31)).cell? ⟨B0, 0, none⟩ = some (.int .i64 ix) := by rw [← hw1]; exact Sm.cells_of g1 0 _ rfl
  have y0 : ((w.alloc (.cells #[.int .i64 ix, .int .i64 ep, .slice C l.length d] 31)).alloc (.cells #[.int .i64 0, .int .i64 0, .slice none 0 0] 31)).cell? ⟨B0, 0, none⟩ = some (.int .i64 ix) := by rw [← hw1, ← hw2]; exact Sm.cells_of g12 0 _ rfl
  have y1 : ((w.alloc (.cells #[.int .i64 ix, .int .i64 ep, .slice C l.length d] 31)).alloc (.cells #[.int .i64 0, .int .i64 0, .slice none 0 0] 31)).cell? ⟨B0, 1, none⟩ = some (.int .i64 ep) := by rw [← hw1, ← hw2]; exact Sm.cells_of g12 1 _ rfl
  have z2 := Sm.cells_of g13 2 _ rfl
  rw [← hB0]
  obtain ⟨N, hN⟩ : ∃ N, N = w.heap.size + 1 := ⟨_, rfl⟩
  obtain ⟨P, hP⟩ : ∃ N, N = w.heap.size + 1 + 1 := ⟨_, rfl⟩
  have HN := Lib.hid hN
  have HP := Lib.hid hP
  rw [show B0 + 1 = N by omega, show B0 + 2 = P by omega] at FL0
  rw [hB0] at x0 y0 y1
  clear hit hm hs hw1 g1 b1 hs1 hw2 g2 g12 b2 hs2 hw3 g3 g13 g23 b3 hN hP hB0
  go_enter Try.func18, Try.ntmps18
  go_upto_region 2 with (fail)
  rw [← HW.out, ← HP.out, ← HN.out, ← HB.out]
  go_upto_region 3 with (fail)
  clear x0 y0 y1 z2
  go_loopw [16] (fun v wr => ∃ (k : Nat) (A : Option Addr) (c : Nat) (L : List Ba.Op), v = .int .i64 k ∧ k ≤ l.length ∧ Hid (L = Ba.filt m (l.take k)) ∧ Ba.Fl B0 w wr N P ix ep A c L) (fun v _ => l.length - (intOf v).toNat)
  case atStart => exact ⟨0, none, 0, [], rfl, Nat.zero_le _, rfl, FL0.out⟩
  case round =>
    clear FL0
    obtain ⟨k, A, c, L, rfl, hk, hL, fl⟩ := hrel
    by_cases hlt : k < l.length
    · have hki : (k : Int) < (l.length : Int) := by omega
      have hsuc : IntKind.i64.wrap ((k : Int) + 1) = ((k + 1 : Nat) : Int) := by simp [IntKind.wrap, IntKind.bits, IntKind.signed]; omega
      obtain ⟨gb, off, rfl, hgl, o0, o1, o2⟩ := HIT.out _ fl.bel k hlt
      have hsm := HS.out _ (List.getElem_mem hlt)
      have hft := Ba.filt_take (m := m) hlt
      have hLl : L.length ≤ 1000 := by
        have h1 := Ba.filt_le m (l.take k)
        have h2 : (l.take k).length ≤ l.length := List.length_take_le' _ _
        have h3 := congrArg List.length hL.out
        omega
      obtain ⟨x, hx⟩ : ∃ x, x = l[k] := ⟨_, rfl⟩
      rw [← hx] at o0 o1 o2 hsm hft
      obtain ⟨hsp, hsv⟩ := hsm
      have F4 := Lib.hid (fl.alloc (.cells #[.int .u8 (x.k : Int), .string x.p, .string x.v] 37))
      have gn := heap_alloc_new wr (.cells #[.int .u8 (x.k : Int), .string x.p, .string x.v] 37)
      have hoo : some wr.heap.size ≠ (Value.slice A L.length c).ownBlock := fun e => by
        obtain ⟨-, cs, h2⟩ := fl.row.blk e.symm
        exact absurd (Sm.lt_of h2) (Nat.lt_irrefl _)
      have hpo : wr.heap.size ≠ P := fun e => by
        have := Sm.lt_of fl.own
        omega
      clear hx hgl
      go_upto_region 5 with (fail)
      obtain ⟨O, hO⟩ : ∃ O, O = wr.heap.size := ⟨_, rfl⟩
      rw [← hO] at gn hoo hpo ⊢
      generalize wr.alloc (.cells #[.int .u8 (x.k : Int), .string x.p, .string x.v] 37) = w4 at *
      have HO4 := Lib.hid hoo
      have HPO := Lib.hid hpo
      have O4 := Lib.hid gn
      have y1 := Sm.cells_of gn 1 _ rfl
      have SH := Lib.hid (paShips_any c0 (HM.out _ F4.out.bel) hml x.p (by omega))
      obtain ⟨sh, hsh⟩ : ∃ b, b = Pa.ships m x.p.data.toList := ⟨_, rfl⟩
      rw [← hsh] at SH hft
      clear hO hoo hpo gn o0 o1 o2 fl hsh
      cases sh
      · rw [if_neg (by decide), List.append_nil] at hft
        have FT : Hid (L = Ba.filt m (l.take (k + 1))) := by show _ = _; rw [hft]; exact hL.out
        clear hft hL
        go_wp2_with fail
        refine SH.out.mono ?_
        rintro e w5 ⟨rfl, b5⟩
        have F5 := Lib.hid (F4.out.step b5)
        clear b5 F4 SH O4 y1
        go_wp2_with fail
        go_roundw
        case rel => exact ⟨k + 1, A, c, L, rfl, hlt, FT.out, F5.out⟩
        case measure => simp [intOf]; omega
      · rw [if_pos rfl] at hft
        have FT : Hid (L ++ [x] = Ba.filt m (l.take (k + 1))) := by show _ = _; rw [hft, hL.out]
        have CP : Hid (∀ wx, Calls Try.prog 41 #[.string x.p] wx fun e w' => e = .returned (.string x.p) ∧ Below wx.heap.size wx w') := fun wx => clone_any x.p wx (by omega)
        have CV : Hid (∀ wx, Calls Try.prog 41 #[.string x.v] wx fun e w' => e = .returned (.string x.v) ∧ Below wx.heap.size wx w') := fun wx => clone_any x.v wx (by omega)
        clear hft hL
        go_wp2_with fail
        refine SH.out.mono ?_
        rintro e w5 ⟨rfl, b5⟩
        have F5 := Lib.hid (F4.out.step b5)
        have O5 := Lib.hid ((b5.block O (Sm.lt_of O4.out)).trans O4.out)
        have HO5 := Lib.hid HO4.out
        clear b5 F4 SH O4 y1 HO4
        go_upto_region 6 with (fail)
        refine wp_region_held_drew (S := (fun w' => w'.heap[O]? = some (.cells #[.int .u8 (x.k : Int), .string x.p, .string x.v] 37 (0, 0)))) (by kernel_rfl) (by exact O5.out) (fun hHeld => ?_)
        have F6 := Lib.hid F5.out.drew
        have O6 : Hid (w5.drew.heap[O]? = some (.cells #[.int .u8 (x.k : Int), .string x.p, .string x.v] 37 (0, 0))) := O5.out
        have HO6 := Lib.hid (HO5.out)
        clear F5 O5 HO5
        generalize w5.drew = w6 at *
        refine wpAnyH_take (i := 0) (oi := ⟨some 24, _, _, _, _, _⟩) (v := .pointer (some ⟨P, 2, none⟩)) rfl (by kernel_rfl) (by kernel_rfl) (by kernel_rfl) (fun _ _ _ h => h) (Or.inl ⟨by rfl, ?_⟩) (by assumption) ?_
        · intro w hSw; (try dsimp only at hSw); go_simp
        simp only [Act.put, List.setIfInBounds_toArray, List.set_cons_zero, List.set_cons_succ]
        refine wpAnyH_take (i := 2) (oi := ⟨some 26, _, _, _, _, _⟩) (v := .pointer (some ⟨O, 0, none⟩)) rfl (by kernel_rfl) (by kernel_rfl) (by kernel_rfl) (fun _ _ _ h => h) (Or.inl ⟨by rfl, ?_⟩) (by assumption) ?_
        · intro w hSw; (try dsimp only at hSw); go_simp
        simp only [Act.put, List.setIfInBounds_toArray, List.set_cons_zero, List.set_cons_succ]
        refine wpAnyH_take (i := 3) (oi := ⟨some 27, _, _, _, _, _⟩) (v := .int .u8 (x.k : Int)) rfl (by kernel_rfl) (by kernel_rfl) (by kernel_rfl) (fun _ _ _ h => h) (Or.inl ⟨by rfl, ?_⟩) (by assumption) ?_
        · intro w hSw; (try dsimp only at hSw); have s1 := Sm.cells_of hSw 0 _ rfl; go_simp
        simp only [Act.put, List.setIfInBounds_toArray, List.set_cons_zero, List.set_cons_succ]
        refine wpAnyH_take (i := 4) (oi := ⟨some 28, _, _, _, _, _⟩) (v := .pointer (some ⟨O, 1, none⟩)) rfl (by kernel_rfl) (by kernel_rfl) (by kernel_rfl) (fun _ _ _ h => h) (Or.inl ⟨by rfl, ?_⟩) (by assumption) ?_
        · intro w hSw; (try dsimp only at hSw); go_simp
        simp only [Act.put, List.setIfInBounds_toArray, List.set_cons_zero, List.set_cons_succ]
        refine wpAnyH_take (i := 5) (oi := ⟨some 29, _, _, _, _, _⟩) (v := .string x.p) rfl (by kernel_rfl) (by kernel_rfl) (by kernel_rfl) (fun _ _ _ h => h) (Or.inl ⟨by rfl, ?_⟩) (by assumption) ?_
        · intro w hSw; (try dsimp only at hSw); have s1 := Sm.cells_of hSw 1 _ rfl; go_simp
        simp only [Act.put, List.setIfInBounds_toArray, List.set_cons_zero, List.set_cons_succ]
        refine wpAnyH_take (i := 7) (oi := ⟨some 31, _, _, _, _, _⟩) (v := .pointer (some ⟨O, 2, none⟩)) rfl (by kernel_rfl) (by kernel_rfl) (by kernel_rfl) (fun _ _ _ h => h) (Or.inl ⟨by rfl, ?_⟩) (by assumption) ?_
        · intro w hSw; (try dsimp only at hSw); go_simp
        simp only [Act.put, List.setIfInBounds_toArray, List.set_cons_zero, List.set_cons_succ]
        refine wpAnyH_take (i := 8) (oi := ⟨some 32, _, _, _, _, _⟩) (v := .string x.v) rfl (by kernel_rfl) (by kernel_rfl) (by kernel_rfl) (fun _ _ _ h => h) (Or.inl ⟨by rfl, ?_⟩) (by assumption) ?_
        · intro w hSw; (try dsimp only at hSw); have s1 := Sm.cells_of hSw 2 _ rfl; go_simp
        simp only [Act.put, List.setIfInBounds_toArray, List.set_cons_zero, List.set_cons_succ]
        refine wpAnyH_ready (rs := [1, 6]) (by kernel_rfl) (by simp) ?_
        refine (AllReadyH.cons (o := ⟨some 25, _, _, _, _, _⟩) rfl (fun K hK => ?_) (AllReadyH.cons (o := ⟨some 30, _, _, _, _, _⟩) rfl (fun K hK => ?_) AllReadyH.nil))
        · have s1 := Sm.cells_of F6.out.own 2 _ rfl
          go_simp
          refine hK.out _ _ O6.out (fun hHeld => ?_)
          clear hK K s1
          refine wpAnyH_ready (rs := [6]) (by kernel_rfl) (by simp) ?_
          refine (AllReadyH.cons (o := ⟨some 30, _, _, _, _, _⟩) rfl (fun K hK => ?_) AllReadyH.nil)
          go_simp
          refine (CP.out w6).mono ?_
          rintro e w7 ⟨rfl, hb⟩
          have F7 := Lib.hid (F6.out.step hb)
          have O7 := Lib.hid ((hb.block O (Sm.lt_of O6.out)).trans O6.out)
          have HO7 := Lib.hid (HO6.out)
          refine hK.out _ _ O7.out (fun hHeld => ?_)
          clear hK K hb F6 O6 HO6
          refine wpAnyH_ready (rs := [9]) (by kernel_rfl) (by simp) ?_
          refine (AllReadyH.cons (o := ⟨some 33, _, _, _, _, _⟩) rfl (fun K hK => ?_) AllReadyH.nil)
          go_simp
          refine (CV.out w7).mono ?_
          rintro e w8 ⟨rfl, hb⟩
          have F8 := Lib.hid (F7.out.step hb)
          have O8 := Lib.hid ((hb.block O (Sm.lt_of O7.out)).trans O7.out)
          have HO8 := Lib.hid (HO7.out)
          refine hK.out _ _ O8.out (fun hHeld => ?_)
          clear hK K hb F7 O7 HO7
          refine wpAnyH_take (i := 10) (oi := ⟨some 34, _, _, _, _, _⟩) (v := .agg #[.int .u8 (x.k : Int), .string x.p, .string x.v]) rfl (by kernel_rfl) (by kernel_rfl) (by kernel_rfl) (fun _ _ _ h => h) (Or.inl ⟨by rfl, ?_⟩) (by assumption) ?_
          · intro w hSw; (try dsimp only at hSw); go_simp
          simp only [Act.put, List.setIfInBounds_toArray, List.set_cons_zero, List.set_cons_succ]
          refine wpAnyH_ready (rs := [11]) (by kernel_rfl) (by simp) ?_
          refine (AllReadyH.cons (o := ⟨some 35, _, _, _, _, _⟩) rfl (fun K hK => ?_) AllReadyH.nil)
          go_simp
          have ha := Lib.hid (heap_alloc_new w8 (.cells #[.int .u8 (x.k : Int), .string x.p, .string x.v] 37))
          have F9 := Lib.hid (F8.out.alloc (.cells #[.int .u8 (x.k : Int), .string x.p, .string x.v] 37))
          have O9 := Lib.hid ((Below.heap_alloc w8 (.cells #[.int .u8 (x.k : Int), .string x.p, .string x.v] 37) _ (Sm.lt_of O8.out)).trans O8.out)
          have HO9 := Lib.hid (HO8.out)
          generalize w8.alloc (.cells #[.int .u8 (x.k : Int), .string x.p, .string x.v] 37) = w9 at *
          generalize w8.heap.size = N9 at *
          refine hK.out _ _ O9.out (fun hHeld => ?_)
          clear hK K F8 O8 HO8
          refine wpAnyH_ready (rs := [12]) (by kernel_rfl) (by simp) ?_
          refine (AllReadyH.cons (o := ⟨some 36, _, _, _, _, _⟩) rfl (fun K hK => ?_) AllReadyH.nil)
          rw [if_pos (by simp [Region.wanted])]
          refine Ba.wp_push0 (.tmp 25) (.tmp 35) rfl rfl F9.out.row x rfl ha.out (by omega) F9.out.low ?_
          intro A' c' w12 hrow hgrow
          have F12 := Lib.hid (F9.out.push hrow hgrow)
          have hP := (hgrow.block P (Sm.lt_of F9.out.own) (fun e => F9.out.row.off F9.out.own (by decide) e.symm)).trans F9.out.own
          have hO := (hgrow.block O (Sm.lt_of O9.out) (HO9.out)).trans O9.out
          have f2 := Sm.free_of hP 2
          have c2 := Sm.cells_of hP 2 _ rfl
          refine hK.out _ _ hO (fun hHeld => ?_)
          clear hK K hP hrow hgrow F9 O9 HO9 ha
          refine wpAnyH_take (i := 13) (oi := ⟨some 37, _, _, _, _, _⟩) (v := .pointer (some ⟨P, 2, none⟩)) rfl (by kernel_rfl) (by kernel_rfl) (by kernel_rfl) (fun _ _ _ h => h) (Or.inl ⟨by rfl, ?_⟩) (by assumption) ?_
          · intro w hSw; (try dsimp only at hSw); go_simp
          simp only [Act.put, List.setIfInBounds_toArray, List.set_cons_zero, List.set_cons_succ]
          refine wpAnyH_ready (rs := [14]) (by kernel_rfl) (by simp) ?_
          refine (AllReadyH.cons (o := ⟨none, _, _, _, _, _⟩) rfl (fun K hK => ?_) AllReadyH.nil)
          go_simp
          refine hK.out _ _ ((Below.heap_setCell _ _ _ _ HPO.out).trans hO) (fun hHeld => ?_)
          clear hK K f2 c2 hO
          refine wpAnyH_done (by kernel_rfl) ?_ _
          go_wp2_with fail
          go_roundw
          case rel => exact ⟨k + 1, A', c', _, rfl, hlt, FT.out, F12.out⟩
          case measure => simp [intOf]; omega
        · go_simp
          refine (CP.out w6).mono ?_
          rintro e w7 ⟨rfl, hb⟩
          have F7 := Lib.hid (F6.out.step hb)
          have O7 := Lib.hid ((hb.block O (Sm.lt_of O6.out)).trans O6.out)
          have HO7 := Lib.hid (HO6.out)
          refine hK.out _ _ O7.out (fun hHeld => ?_)
          clear hK K hb F6 O6 HO6
          refine wpAnyH_ready (rs := [1, 9]) (by kernel_rfl) (by simp) ?_
          refine (AllReadyH.cons (o := ⟨some 25, _, _, _, _, _⟩) rfl (fun K hK => ?_) (AllReadyH.cons (o := ⟨some 33, _, _, _, _, _⟩) rfl (fun K hK => ?_) AllReadyH.nil))
          · have s1 := Sm.cells_of F7.out.own 2 _ rfl
            go_simp
            refine hK.out _ _ O7.out (fun hHeld => ?_)
            clear hK K s1
            refine wpAnyH_ready (rs := [9]) (by kernel_rfl) (by simp) ?_
            refine (AllReadyH.cons (o := ⟨some 33, _, _, _, _, _⟩) rfl (fun K hK => ?_) AllReadyH.nil)
            go_simp
            refine (CV.out w7).mono ?_
            rintro e w8 ⟨rfl, hb⟩
            have F8 := Lib.hid (F7.out.step hb)
            have O8 := Lib.hid ((hb.block O (Sm.lt_of O7.out)).trans O7.out)
            have HO8 := Lib.hid (HO7.out)
            refine hK.out _ _ O8.out (fun hHeld => ?_)
            clear hK K hb F7 O7 HO7
            refine wpAnyH_take (i := 10) (oi := ⟨some 34, _, _, _, _, _⟩) (v := .agg #[.int .u8 (x.k : Int), .string x.p, .string x.v]) rfl (by kernel_rfl) (by kernel_rfl) (by kernel_rfl) (fun _ _ _ h => h) (Or.inl ⟨by rfl, ?_⟩) (by assumption) ?_
            · intro w hSw; (try dsimp only at hSw); go_simp
            simp only [Act.put, List.setIfInBounds_toArray, List.set_cons_zero, List.set_cons_succ]
            refine wpAnyH_ready (rs := [11]) (by kernel_rfl) (by simp) ?_
            refine (AllReadyH.cons (o := ⟨some 35, _, _, _, _, _⟩) rfl (fun K hK => ?_) AllReadyH.nil)
            go_simp
            have ha := Lib.hid (heap_alloc_new w8 (.cells #[.int .u8 (x.k : Int), .string x.p, .string x.v] 37))
            have F9 := Lib.hid (F8.out.alloc (.cells #[.int .u8 (x.k : Int), .string x.p, .string x.v] 37))
            have O9 := Lib.hid ((Below.heap_alloc w8 (.cells #[.int .u8 (x.k : Int), .string x.p, .string x.v] 37) _ (Sm.lt_of O8.out)).trans O8.out)
            have HO9 := Lib.hid (HO8.out)
            generalize w8.alloc (.cells #[.int .u8 (x.k : Int), .string x.p, .string x.v] 37) = w9 at *
            generalize w8.heap.size = N9 at *
            refine hK.out _ _ O9.out (fun hHeld => ?_)
            clear hK K F8 O8 HO8
            refine wpAnyH_ready (rs := [12]) (by kernel_rfl) (by simp) ?_
            refine (AllReadyH.cons (o := ⟨some 36, _, _, _, _, _⟩) rfl (fun K hK => ?_) AllReadyH.nil)
            rw [if_pos (by simp [Region.wanted])]
            refine Ba.wp_push0 (.tmp 25) (.tmp 35) rfl rfl F9.out.row x rfl ha.out (by omega) F9.out.low ?_
            intro A' c' w12 hrow hgrow
            have F12 := Lib.hid (F9.out.push hrow hgrow)
            have hP := (hgrow.block P (Sm.lt_of F9.out.own) (fun e => F9.out.row.off F9.out.own (by decide) e.symm)).trans F9.out.own
            have hO := (hgrow.block O (Sm.lt_of O9.out) (HO9.out)).trans O9.out
            have f2 := Sm.free_of hP 2
            have c2 := Sm.cells_of hP 2 _ rfl
            refine hK.out _ _ hO (fun hHeld => ?_)
            clear hK K hP hrow hgrow F9 O9 HO9 ha
            refine wpAnyH_take (i := 13) (oi := ⟨some 37, _, _, _, _, _⟩) (v := .pointer (some ⟨P, 2, none⟩)) rfl (by kernel_rfl) (by kernel_rfl) (by kernel_rfl) (fun _ _ _ h => h) (Or.inl ⟨by rfl, ?_⟩) (by assumption) ?_
            · intro w hSw; (try dsimp only at hSw); go_simp
            simp only [Act.put, List.setIfInBounds_toArray, List.set_cons_zero, List.set_cons_succ]
            refine wpAnyH_ready (rs := [14]) (by kernel_rfl) (by simp) ?_
            refine (AllReadyH.cons (o := ⟨none, _, _, _, _, _⟩) rfl (fun K hK => ?_) AllReadyH.nil)
            go_simp
            refine hK.out _ _ ((Below.heap_setCell _ _ _ _ HPO.out).trans hO) (fun hHeld => ?_)
            clear hK K f2 c2 hO
            refine wpAnyH_done (by kernel_rfl) ?_ _
            go_wp2_with fail
            go_roundw
            case rel => exact ⟨k + 1, A', c', _, rfl, hlt, FT.out, F12.out⟩
            case measure => simp [intOf]; omega
          · go_simp
            refine (CV.out w7).mono ?_
            rintro e w8 ⟨rfl, hb⟩
            have F8 := Lib.hid (F7.out.step hb)
            have O8 := Lib.hid ((hb.block O (Sm.lt_of O7.out)).trans O7.out)
            have HO8 := Lib.hid (HO7.out)
            refine hK.out _ _ O8.out (fun hHeld => ?_)
            clear hK K hb F7 O7 HO7
            refine wpAnyH_take (i := 10) (oi := ⟨some 34, _, _, _, _, _⟩) (v := .agg #[.int .u8 (x.k : Int), .string x.p, .string x.v]) rfl (by kernel_rfl) (by kernel_rfl) (by kernel_rfl) (fun _ _ _ h => h) (Or.inl ⟨by rfl, ?_⟩) (by assumption) ?_
            · intro w hSw; (try dsimp only at hSw); go_simp
            simp only [Act.put, List.setIfInBounds_toArray, List.set_cons_zero, List.set_cons_succ]
            refine wpAnyH_ready (rs := [1, 11]) (by kernel_rfl) (by simp) ?_
            refine (AllReadyH.cons (o := ⟨some 25, _, _, _, _, _⟩) rfl (fun K hK => ?_) (AllReadyH.cons (o := ⟨some 35, _, _, _, _, _⟩) rfl (fun K hK => ?_) AllReadyH.nil))
            · have s1 := Sm.cells_of F8.out.own 2 _ rfl
              go_simp
              refine hK.out _ _ O8.out (fun hHeld => ?_)
              clear hK K s1
              refine wpAnyH_ready (rs := [11]) (by kernel_rfl) (by simp) ?_
              refine (AllReadyH.cons (o := ⟨some 35, _, _, _, _, _⟩) rfl (fun K hK => ?_) AllReadyH.nil)
              go_simp
              have ha := Lib.hid (heap_alloc_new w8 (.cells #[.int .u8 (x.k : Int), .string x.p, .string x.v] 37))
              have F9 := Lib.hid (F8.out.alloc (.cells #[.int .u8 (x.k : Int), .string x.p, .string x.v] 37))
              have O9 := Lib.hid ((Below.heap_alloc w8 (.cells #[.int .u8 (x.k : Int), .string x.p, .string x.v] 37) _ (Sm.lt_of O8.out)).trans O8.out)
              have HO9 := Lib.hid (HO8.out)
              generalize w8.alloc (.cells #[.int .u8 (x.k : Int), .string x.p, .string x.v] 37) = w9 at *
              generalize w8.heap.size = N9 at *
              refine hK.out _ _ O9.out (fun hHeld => ?_)
              clear hK K F8 O8 HO8
              refine wpAnyH_ready (rs := [12]) (by kernel_rfl) (by simp) ?_
              refine (AllReadyH.cons (o := ⟨some 36, _, _, _, _, _⟩) rfl (fun K hK => ?_) AllReadyH.nil)
              rw [if_pos (by simp [Region.wanted])]
              refine Ba.wp_push0 (.tmp 25) (.tmp 35) rfl rfl F9.out.row x rfl ha.out (by omega) F9.out.low ?_
              intro A' c' w12 hrow hgrow
              have F12 := Lib.hid (F9.out.push hrow hgrow)
              have hP := (hgrow.block P (Sm.lt_of F9.out.own) (fun e => F9.out.row.off F9.out.own (by decide) e.symm)).trans F9.out.own
              have hO := (hgrow.block O (Sm.lt_of O9.out) (HO9.out)).trans O9.out
              have f2 := Sm.free_of hP 2
              have c2 := Sm.cells_of hP 2 _ rfl
              refine hK.out _ _ hO (fun hHeld => ?_)
              clear hK K hP hrow hgrow F9 O9 HO9 ha
              refine wpAnyH_take (i := 13) (oi := ⟨some 37, _, _, _, _, _⟩) (v := .pointer (some ⟨P, 2, none⟩)) rfl (by kernel_rfl) (by kernel_rfl) (by kernel_rfl) (fun _ _ _ h => h) (Or.inl ⟨by rfl, ?_⟩) (by assumption) ?_
              · intro w hSw; (try dsimp only at hSw); go_simp
              simp only [Act.put, List.setIfInBounds_toArray, List.set_cons_zero, List.set_cons_succ]
              refine wpAnyH_ready (rs := [14]) (by kernel_rfl) (by simp) ?_
              refine (AllReadyH.cons (o := ⟨none, _, _, _, _, _⟩) rfl (fun K hK => ?_) AllReadyH.nil)
              go_simp
              refine hK.out _ _ ((Below.heap_setCell _ _ _ _ HPO.out).trans hO) (fun hHeld => ?_)
              clear hK K f2 c2 hO
              refine wpAnyH_done (by kernel_rfl) ?_ _
              go_wp2_with fail
              go_roundw
              case rel => exact ⟨k + 1, A', c', _, rfl, hlt, FT.out, F12.out⟩
              case measure => simp [intOf]; omega
            · go_simp
              have ha := Lib.hid (heap_alloc_new w8 (.cells #[.int .u8 (x.k : Int), .string x.p, .string x.v] 37))
              have F9 := Lib.hid (F8.out.alloc (.cells #[.int .u8 (x.k : Int), .string x.p, .string x.v] 37))
              have O9 := Lib.hid ((Below.heap_alloc w8 (.cells #[.int .u8 (x.k : Int), .string x.p, .string x.v] 37) _ (Sm.lt_of O8.out)).trans O8.out)
              have HO9 := Lib.hid (HO8.out)
              generalize w8.alloc (.cells #[.int .u8 (x.k : Int), .string x.p, .string x.v] 37) = w9 at *
              generalize w8.heap.size = N9 at *
              refine hK.out _ _ O9.out (fun hHeld => ?_)
              clear hK K F8 O8 HO8
              refine wpAnyH_ready (rs := [1]) (by kernel_rfl) (by simp) ?_
              refine (AllReadyH.cons (o := ⟨some 25, _, _, _, _, _⟩) rfl (fun K hK => ?_) AllReadyH.nil)
              have s1 := Sm.cells_of F9.out.own 2 _ rfl
              go_simp
              refine hK.out _ _ O9.out (fun hHeld => ?_)
              clear hK K s1
              refine wpAnyH_ready (rs := [12]) (by kernel_rfl) (by simp) ?_
              refine (AllReadyH.cons (o := ⟨some 36, _, _, _, _, _⟩) rfl (fun K hK => ?_) AllReadyH.nil)
              rw [if_pos (by simp [Region.wanted])]
              refine Ba.wp_push0 (.tmp 25) (.tmp 35) rfl rfl F9.out.row x rfl ha.out (by omega) F9.out.low ?_
              intro A' c' w12 hrow hgrow
              have F12 := Lib.hid (F9.out.push hrow hgrow)
              have hP := (hgrow.block P (Sm.lt_of F9.out.own) (fun e => F9.out.row.off F9.out.own (by decide) e.symm)).trans F9.out.own
              have hO := (hgrow.block O (Sm.lt_of O9.out) (HO9.out)).trans O9.out
              have f2 := Sm.free_of hP 2
              have c2 := Sm.cells_of hP 2 _ rfl
              refine hK.out _ _ hO (fun hHeld => ?_)
              clear hK K hP hrow hgrow F9 O9 HO9 ha
              refine wpAnyH_take (i := 13) (oi := ⟨some 37, _, _, _, _, _⟩) (v := .pointer (some ⟨P, 2, none⟩)) rfl (by kernel_rfl) (by kernel_rfl) (by kernel_rfl) (fun _ _ _ h => h) (Or.inl ⟨by rfl, ?_⟩) (by assumption) ?_
              · intro w hSw; (try dsimp only at hSw); go_simp
              simp only [Act.put, List.setIfInBounds_toArray, List.set_cons_zero, List.set_cons_succ]
              refine wpAnyH_ready (rs := [14]) (by kernel_rfl) (by simp) ?_
              refine (AllReadyH.cons (o := ⟨none, _, _, _, _, _⟩) rfl (fun K hK => ?_) AllReadyH.nil)
              go_simp
              refine hK.out _ _ ((Below.heap_setCell _ _ _ _ HPO.out).trans hO) (fun hHeld => ?_)
              clear hK K f2 c2 hO
              refine wpAnyH_done (by kernel_rfl) ?_ _
              go_wp2_with fail
              go_roundw
              case rel => exact ⟨k + 1, A', c', _, rfl, hlt, FT.out, F12.out⟩
              case measure => simp [intOf]; omega
    · have hki : ¬ (k : Int) < (l.length : Int) := by omega
      have hkl : k = l.length := by omega
      have hL2 := hL.out
      rw [hkl, List.take_length] at hL2
      have F5 := Lib.hid fl
      have HL2 := Lib.hid hL2
      have c0 := Sm.cells_of F5.out.own 0 _ rfl
      have c1 := Sm.cells_of F5.out.own 1 _ rfl
      have c2 := Sm.cells_of F5.out.own 2 _ rfl
      have r0 := Sm.cells_of F5.out.res 0 _ rfl
      have r1 := Sm.cells_of F5.out.res 1 _ rfl
      have r2 := Sm.cells_of F5.out.res 2 _ rfl
      have f0 := Sm.free_of F5.out.res 0
      have f1 := Sm.free_of F5.out.res 1
      have f2 := Sm.free_of F5.out.res 2
      have LA := Lib.hid fl.last
      clear hkl hL hL2 fl
      go_wp2_with fail
      refine bodyPost_ret (v := .agg #[.int .i64 ix, .int .i64 ep, .slice A L.length c]) ((Ba.results_own12 rfl _ _ _).trans (by go_simp)) rfl ⟨A, c, ?_, ?_, LA.out.2⟩
      · rw [← HL2.out]
      · rw [← HL2.out]; exact LA.out.1
end Go.Proofs.Ytlndggbidmmodaa
