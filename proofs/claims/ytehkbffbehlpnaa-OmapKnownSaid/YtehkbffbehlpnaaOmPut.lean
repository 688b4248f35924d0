/-
  omap's own, put, isPair; Get, Twin.
-/
import Derived.Test.YtehkbffbehlpnaaOmFns
import Derived.Test.YtehkbffbehlpnaaPaPath
import Derived.Test.YtehkbffbehlpnaaOmActs
namespace Go.Proofs.Ytehkbffbehlpnaa
open Go.RowKit Go.Maps
namespace Om
theorem row_two {w : World} {P : Nat} {a b : Value} {t : TypeId} (h : w.heap[P]? = some (.cells #[a, b] t (0, 0))) : w.cell? ⟨P, 0, none⟩ = some a ∧ w.cell? ⟨P, 1, none⟩ = some b := ⟨Sm.cells_of h 0 _ rfl, Sm.cells_of h 1 _ rfl⟩
/-- The worlds within own: N the pair's block, N + 1 the result's. -/
structure OwnW (w wx : World) (N : Nat) (p v : ByteArray) : Prop where
  bx : wx.heap[N]? = some (.cells #[.string p, .string v] 62 (0, 0))
  rx : wx.heap[N + 1]? = some (.cells #[.string ⟨#[]⟩, .string ⟨#[]⟩] 62 (0, 0))
  bel : Below N w wx
theorem OwnW.step {w wx wy : World} {N : Nat} {p v : ByteArray} (h : OwnW w wx N p v) (k : Below wx.heap.size wx wy) (hN : N ≤ wx.heap.size) : OwnW w wy N p v :=
  ⟨(k.block N (Sm.lt_of h.bx)).trans h.bx, (k.block (N + 1) (Sm.lt_of h.rx)).trans h.rx, h.bel.trans (k.mono hN)⟩
theorem OwnW.le {w wx : World} {N : Nat} {p v : ByteArray} (h : OwnW w wx N p v) : N ≤ wx.heap.size := Nat.le_of_lt (Sm.lt_of h.bx)
theorem OwnW.nxt {w wx wy : World} {N : Nat} {p v : ByteArray} (h : OwnW w wx N p v) (k : Below wx.heap.size wx wy) : OwnW w wy N p v := h.step k h.le
theorem OwnW.bc {w wx : World} {N : Nat} {p v : ByteArray} (h : OwnW w wx N p v) : wx.cell? ⟨N, 0, none⟩ = some (.string p) ∧ wx.cell? ⟨N, 1, none⟩ = some (.string v) := row_two h.bx
/-- The result's block, written. -/
def set2 (w : World) (b : Nat) (x y : Value) : World := (w.setCell ⟨b, 0, none⟩ x).setCell ⟨b, 1, none⟩ y
theorem OwnW.done {w wx : World} {N : Nat} {p v x y : ByteArray} (h : OwnW w wx N p v) : ((wx.setCell ⟨N + 1, 0, none⟩ (.string x)).setCell ⟨N + 1, 1, none⟩ (.string y)).cell? ⟨N, 0, none⟩ = some (.string p) ∧ ((wx.setCell ⟨N + 1, 0, none⟩ (.string x)).setCell ⟨N + 1, 1, none⟩ (.string y)).cell? ⟨N, 1, none⟩ = some (.string v) :=
  row_two ((Below.heap_setCell _ _ _ N (by show N ≠ N + 1; omega)).trans ((Below.heap_setCell _ _ _ N (by show N ≠ N + 1; omega)).trans h.bx))
theorem OwnW.out {w wx : World} {N : Nat} {p v x y : ByteArray} (h : OwnW w wx N p v) : (set2 wx (N + 1) (.string x) (.string y)).heap[N + 1]? = some (.cells #[.string x, .string y] 62 (0, 0)) ∧ Below N w (set2 wx (N + 1) (.string x) (.string y)) := by
  refine ⟨?_, (h.bel.setCell (p := ⟨N + 1, 0, none⟩) (by show N ≤ N + 1; omega) _).setCell (p := ⟨N + 1, 1, none⟩) (by show N ≤ N + 1; omega) _⟩
  unfold set2
  rw [Sm.heap_set (Sm.heap_set h.rx 0 (.string x)) 1 (.string y)]
  rfl
theorem _root_.Go.Proofs.Ytehkbffbehlpnaa.Below.grownBy {w w' : World} {N : Nat} (h : Below N w w') (hN : N = w.heap.size) (r : Option Nat) : w.grownBy w' r :=
  ⟨h.os, h.tape, h.output, h.size, fun k hk _ => h.block k (by omega)⟩
theorem results_own13 {fn : Func} {p : Tmp} {ty : TypeId} (h : fn.results = #[.cell p ty]) (tmps : Array Value) (P : Program) (w : World) :
    (results fn tmps).run P w = ((asAddr (tmps.getD p undef)).run P w).andThen fun a w₁ => (loadVar ty a).run P w₁ := by
  simp only [results, h]
  simp [Sem.run_bind, Result.andThen]
end Om
set_option maxRecDepth 100000 in
set_option maxHeartbeats 1000000 in
theorem omOwn_any (w : World) (p v : ByteArray) (hp : p.size ≤ 281474976710656) (hv : v.size ≤ 281474976710656) :
    Calls Try.prog 49 #[.agg #[.string p, .string v]] w fun e w' => e = .returned (.agg #[.string p, .string v]) ∧ Below w.heap.size w w' := by
  have CP := Lib.hid (fun wx => strClone_any p wx hp)
  have CV := Lib.hid (fun wx => strClone_any v wx hv)
  obtain ⟨N, hN⟩ : ∃ N, N = w.heap.size := ⟨_, rfl⟩
  have HN := Lib.hid hN
  have T0 : Hid (Om.OwnW w ((w.alloc (.cells #[.string p, .string v] 62)).alloc (.cells #[.string ⟨#[]⟩, .string ⟨#[]⟩] 62)) N p v) := by
    have g1 := heap_alloc_new w (.cells #[.string p, .string v] 62)
    have g2 := heap_alloc_new (w.alloc (.cells #[.string p, .string v] 62)) (.cells #[.string ⟨#[]⟩, .string ⟨#[]⟩] 62)
    rw [hN]
    refine ⟨(Below.heap_alloc _ _ _ (Sm.lt_of g1)).trans g1, ?_, ((Below.refl _ w).alloc (Nat.le_refl _) _).alloc (by simp) _⟩
    rw [show w.heap.size + 1 = (w.alloc (.cells #[.string p, .string v] 62)).heap.size by simp]
    exact g2
  clear hp hv hN
  go_enter Try.func49, Try.ntmps49
  go_upto_region 1 with (fail)
  rw [← HN.out]
  generalize (w.alloc (.cells #[.string p, .string v] 62)).alloc (.cells #[.string ⟨#[]⟩, .string ⟨#[]⟩] 62) = W1 at *
  have T1 := Lib.hid (T0.out.nxt (Below.refl _ W1).drew)
  go_region_held3 (fun w' => w'.cell? ⟨N, 0, none⟩ = some (.string p) ∧ w'.cell? ⟨N, 1, none⟩ = some (.string v))
    (first | (with_reducible exact T1.out.bc) | (with_reducible exact T2.out.bc) | (with_reducible exact T3.out.bc) | (with_reducible exact T3.out.done))
    ((first
      | (go_at_call 47; with_reducible refine (CP.out _).mono ?_; rintro e w2 ⟨rfl, k2⟩; have T2 := Lib.hid (T1.out.nxt k2); clear k2)
      | (go_at_call 47; with_reducible refine (CV.out _).mono ?_; rintro e w3 ⟨rfl, k3⟩; have T3 := Lib.hid (T2.out.nxt k3); clear k3; obtain ⟨y0, y1⟩ := Om.row_two T3.out.rx; have f0 := Sm.free_of T3.out.rx 0; have f1 := Sm.free_of T3.out.rx 1)))
  have O := Lib.hid (T3.out.out (x := p) (y := v))
  change Exit.then _ _ _ _ (Om.set2 w3 (N + 1) (.string p) (.string v))
  rename_i hH
  clear hH y0 y1 f0 f1
  generalize Om.set2 w3 (N + 1) (.string p) (.string v) = w4 at O ⊢
  have z := Sm.cells_of O.out.1
  have z0 := z 0 _ rfl
  have z1 := z 1 _ rfl
  clear z
  go_wp2
  refine bodyPost_ret (v := .agg #[.string p, .string v]) ((Om.results_own13 rfl _ _ _).trans (by go_simp)) rfl ⟨rfl, by rw [← HN.out]; exact O.out.2⟩
set_option maxRecDepth 100000 in
theorem omIsPair_any (w : World) (p v : ByteArray) (hp : p.size ≤ 281474976710656) (g : Bool) (hg : g = true ↔ Om.Fair ⟨p, v⟩) :
    Calls Try.prog 37 #[.agg #[.string p, .string v]] w fun e w' => e = .returned (.bool g) ∧ Below w.heap.size w w' := by
  have gn := heap_alloc_new w (.cells #[.string p, .string v] 62)
  have C := Lib.hid (paCut_any (w.alloc (.cells #[.string p, .string v] 62)) p hp)
  have x0 := Sm.cells_of gn 0 _ rfl
  have B1 : Hid (Below w.heap.size w (w.alloc (.cells #[.string p, .string v] 62))) := (Below.refl _ w).alloc (Nat.le_refl _) _
  have HGN := Lib.hid gn
  have HG := Lib.hid hg
  have hlt := Sm.lt_of gn
  obtain ⟨N, hN⟩ : ∃ N, N = w.heap.size := ⟨_, rfl⟩
  have HN := Lib.hid hN
  rw [← hN] at x0 HGN B1 hlt
  clear gn hg
  obtain ⟨k, hk⟩ : ∃ k, k = Pa.ok p.data.toList := ⟨_, rfl⟩
  unfold Pa.cutV at C
  rw [← hk] at C
  obtain ⟨W1, hW1⟩ : ∃ W1, W1 = w.alloc (.cells #[.string p, .string v] 62) := ⟨_, rfl⟩
  rw [← hW1] at C x0 B1 HGN hlt
  go_enter Try.func37, Try.ntmps37
  go_upto_region 1 with (fail)
  rw [← hN, ← hW1]
  clear hN hW1
  cases k with
  | false =>
    have hg' : g = false := by
      cases hgg : g with
      | false => rfl
      | true => have := (HG.out.1 hgg).1; rw [show (⟨p, v⟩ : Om.Pr).p = p from rfl, ← hk] at this; cases this
    have HGG := Lib.hid hg'
    clear hg' hk
    go_wp2_with (go_at_call 35; refine C.out.mono ?_; rintro e w2 ⟨rfl, k2⟩)
    go_ret
    rw [HGG.out, ← HN.out]
    exact ⟨rfl, B1.out.trans (k2.mono (Nat.le_of_lt hlt))⟩
  | true =>
    have HLT := Lib.hid hlt
    clear hlt
    by_cases hz : v.size ≤ 32
    · have hg' : g = true := HG.out.2 ⟨hk.symm, hz⟩
      have HGG := Lib.hid hg'
      have hzi : (v.size : Int) ≤ 32 := by omega
      clear hg' hk hz
      go_wp2_with (go_at_call 35; refine C.out.mono ?_; rintro e w2 ⟨rfl, k2⟩; have y := (Sm.cells_of ((k2.block N HLT.out).trans HGN.out) 1 _ rfl))
      go_ret
      rw [HGG.out, ← HN.out]
      exact ⟨rfl, B1.out.trans (k2.mono (Nat.le_of_lt HLT.out))⟩
    · have hg' : g = false := by
        cases hgg : g with
        | false => rfl
        | true => exact absurd (HG.out.1 hgg).2 hz
      have HGG := Lib.hid hg'
      have hzi : decide ((v.size : Int) ≤ 32) = false := by rw [decide_eq_false_iff_not]; omega
      clear hg' hk hz
      go_wp2_with (go_at_call 35; refine C.out.mono ?_; rintro e w2 ⟨rfl, k2⟩; have y := (Sm.cells_of ((k2.block N HLT.out).trans HGN.out) 1 _ rfl))
      go_ret
      rw [HGG.out, ← HN.out]
      exact ⟨rfl, B1.out.trans (k2.mono (Nat.le_of_lt HLT.out))⟩
set_option maxRecDepth 100000 in
/-- put: a pair more. -/
theorem omPut_any {w : World} {b : Nat} {l : List Om.Pr} (h : Om.MapP w b l) (hl : l.length ≤ 4096) (p v : ByteArray) (hp : p.size ≤ 281474976710656) (hv : v.size ≤ 281474976710656) :
    Calls Try.prog 38 #[.map (some b), .agg #[.string p, .string v]] w fun e w' => e = .returned (.tuple #[]) ∧ Om.MapP w' b (Om.put p v l) ∧ w.grownBy w' (some b) := by
  have gn := heap_alloc_new w (.cells #[.string p, .string v] 62)
  have C := Lib.hid (omOwn_any (w.alloc (.cells #[.string p, .string v] 62)) p v hp hv)
  have hbl := h.lt
  have HM := Lib.hid (h.block (Below.heap_alloc _ (.cells #[.string p, .string v] 62) _ hbl))
  have x0 := Sm.cells_of gn 0 _ rfl
  have x1 := Sm.cells_of gn 1 _ rfl
  have B1 : Hid (Below w.heap.size w (w.alloc (.cells #[.string p, .string v] 62))) := (Below.refl _ w).alloc (Nat.le_refl _) _
  have HGN := Lib.hid gn
  have HLT := Lib.hid (Sm.lt_of gn)
  have hpm : p.size ≤ maxLen := by unfold maxLen; omega
  obtain ⟨N, hN⟩ : ∃ N, N = w.heap.size := ⟨_, rfl⟩
  have HN := Lib.hid hN
  have HBL := Lib.hid hbl
  have HL := Lib.hid hl
  have HPM := Lib.hid hpm
  rw [← hN] at x0 x1 HGN B1 HLT HBL
  clear gn hpm hp hv hbl h hl
  obtain ⟨W1, hW1⟩ : ∃ W1, W1 = w.alloc (.cells #[.string p, .string v] 62) := ⟨_, rfl⟩
  rw [← hW1] at C x0 x1 B1 HGN HLT HM
  go_enter Try.func38, Try.ntmps38
  go_upto_region 1 with (fail)
  rw [← hN, ← hW1]
  clear hN hW1
  go_upto_region 2 with (go_at_call 49; refine C.out.mono ?_; rintro e w2 ⟨rfl, k2⟩; have g2 := (k2.block N HLT.out).trans HGN.out; have y0 := Sm.cells_of g2 0 _ rfl; have y1 := Sm.cells_of g2 1 _ rfl; have f0 := Sm.free_of g2 0; have f1 := Sm.free_of g2 1)
  have HG2 : Hid ((Om.set2 w2 N (.string p) (.string v)).heap[N]? = some (.cells #[.string p, .string v] 62 (0, 0))) := by
    unfold Om.set2
    show _ = _
    rw [Sm.heap_set (Sm.heap_set g2 0 (.string p)) 1 (.string v)]
    rfl
  have HM2 : Hid (Om.MapP (Om.set2 w2 N (.string p) (.string v)) b l) := by
    unfold Om.set2
    refine HM.out.block ?_
    have hbn : b ≠ N := Nat.ne_of_lt HBL.out
    exact (Below.heap_setCell _ _ _ b hbn).trans ((Below.heap_setCell _ _ _ b hbn).trans (k2.block b HM.out.lt))
  have HB2 : Hid (Below N w (Om.set2 w2 N (.string p) (.string v))) := ((B1.out.trans (k2.mono (Nat.le_of_lt HLT.out))).setCell (p := ⟨N, 0, none⟩) (Nat.le_refl _) _).setCell (p := ⟨N, 1, none⟩) (Nat.le_refl _) _
  change Code.wp _ _ _ _ (Om.set2 w2 N (.string p) (.string v))
  clear g2 k2 y0 y1 f0 f1
  generalize Om.set2 w2 N (.string p) (.string v) = w3 at HG2 HM2 HB2 ⊢
  have y0 := Sm.cells_of HG2.out 0 _ rfl
  have y1 := Sm.cells_of HG2.out 1 _ rfl
  obtain ⟨w4, hup, hm4, ht4⟩ := HM2.out.store Try.underlying9 Try.underlying69 (by have := HL.out; unfold maxLen; omega) HPM.out v
  have HM4 := Lib.hid hm4
  have HT4 := Lib.hid ht4
  clear hm4 ht4
  go_wp2
  go_end0
  exact ⟨rfl, HM4.out, (Below.grownBy HB2.out HN.out (some b)).andThen HT4.out.grown (fun j hj => .inr hj)⟩
end Go.Proofs.Ytehkbffbehlpnaa
