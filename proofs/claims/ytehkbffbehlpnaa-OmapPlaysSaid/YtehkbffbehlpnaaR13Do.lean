/-
  The document's Do, Get, List.
-/
import Derived.Test.YtehkbffbehlpnaaR13Of
import Derived.Test.YtehkbffbehlpnaaR12Right
import Derived.Test.YtehkbffbehlpnaaOmTells
namespace Go.Proofs.Ytehkbffbehlpnaa
open Go.RowKit
namespace Om
/-- The map as an argument in block N, the result in block N + 1. -/
theorem Box.made {w : World} {A : Option Addr} {c : Nat} {l : List Pr} (h : Ref w A c l) : Box w ((w.alloc (.cells #[.slice A l.length c] 32)).alloc (.cells #[.slice none 0 0] 32)) w.heap.size w.heap.size (w.heap.size + 1) A c l := by
  have g1 := heap_alloc_new w (.cells #[.slice A l.length c] 32)
  have g2 := heap_alloc_new (w.alloc (.cells #[.slice A l.length c] 32)) (.cells #[.slice none 0 0] 32)
  have hs1 : (w.alloc (.cells #[.slice A l.length c] 32)).heap.size = w.heap.size + 1 := by simp
  rw [hs1] at g2
  have b0 : Below w.heap.size w ((w.alloc (.cells #[.slice A l.length c] 32)).alloc (.cells #[.slice none 0 0] 32)) := ((Below.refl _ w).alloc (Nat.le_refl _) _).alloc (by simp) _
  refine ⟨(Below.heap_alloc _ _ _ (by simp)).trans g1, g2, h.below b0, b0, Nat.le_refl _, by omega, by omega, fun b off e h0 => ?_⟩
  rcases h.1 with e1 | ⟨b', o', e1, e2, _⟩
  · exact absurd e1 h0
  · rw [e] at e1
    simp only [Option.some.injEq, Addr.mk.injEq] at e1
    omega
end Om
set_option maxRecDepth 100000 in
set_option maxHeartbeats 4000000 in
theorem r13Do_any {w : World} {A : Option Addr} {c : Nat} {l : List Om.Pr} (h : Om.Ref w A c l) (hG : Om.Good l) {C : Option Addr} (d : Nat) {ops : List Ba.Op} (hops : Ba.listAt w C ops) (hn : ops.length ≤ 9223372036854775807) (hok : ∀ o ∈ ops, o.Ok) (ho : ∀ o ∈ ops, o.p.size ≤ 1000) :
    Calls Try.prog 18 #[.agg #[.slice A l.length c], .slice C ops.length d] w fun e w' => Om.OfRef w w' e (Om.doE l ops) := by
  obtain ⟨w2, hw2⟩ : ∃ w2, w2 = (w.alloc (.cells #[.slice A l.length c] 32)).alloc (.cells #[.slice none 0 0] 32) := ⟨_, rfl⟩
  obtain ⟨N, hN⟩ : ∃ N, N = w.heap.size := ⟨_, rfl⟩
  have HN := Lib.hid hN
  have BX0 : Hid (Om.Box w w2 N N (N + 1) A c l) := by show Om.Box _ _ _ _ _ _ _ _; rw [hw2, hN]; exact Om.Box.made h
  have C1 := Lib.hid (r12Right_any (w := w2) ⟨1, 1, ops⟩ d (hops.below (by rw [← hN]; exact BX0.out.bel)) ⟨⟨by show (_ : Int) ≤ 1; omega, by show (1 : Int) ≤ _; omega⟩, ⟨by show (_ : Int) ≤ 1; omega, by show (1 : Int) ≤ _; omega⟩, hok, hn⟩ (fun o hm => by have := ho o hm; omega))
  simp only at C1
  obtain ⟨E, hE⟩ : ∃ E, E = Ba.right ⟨1, 1, ops⟩ := ⟨_, rfl⟩
  rw [← hE] at C1
  have HLB : Hid (∀ wx : World, Below N w wx → Ba.listAt wx C ops) := fun wx k => hops.below (by rw [← hN]; exact k)
  unfold Om.OfRef
  by_cases h0 : E = 0
  · have hEb : ((E : Int) != 0) = false := by rw [h0]; rfl
    rw [hE] at h0
    have h48 := (Ba.right_ok h0).2.2
    have DO := Lib.hid (fun (wx : World) (hb : Below N w wx) (hr : Om.Ref wx A c l) => r13Does_any hr d (HLB.out wx hb) (by have := hG.len; have h4 : ops.length ≤ 4 := h48.1; omega) (fun x hx => by
      have := Pa.ok_len (hG.fair x hx).1
      rw [Ba.ba_size] at this
      have h2 : x.p.size ≤ 33 := this
      omega) (fun o hm => by have := ho o hm; omega))
    obtain ⟨D, hD⟩ : ∃ D, D = Om.does l ops := ⟨_, rfl⟩
    rw [← hD] at DO
    by_cases hf : 48 < D.length
    · have hfi : (48 : Int) < (D.length : Int) := by omega
      have hde := Om.doE_full h0 (by rw [← hD]; exact hf)
      have HDE := Lib.hid hde
      clear h hG hops hok ho hE h0 h48 hD hf hde
      rw [← hN]
      go_enter Try.func18, Try.ntmps18
      go_upto_region 1 with (fail)
      rw [← hw2, ← hN]
      clear hw2 hN
      go_upto_region 4 with (go_at_call 44; refine C1.out.mono ?_; rintro e w3 ⟨rfl, k3⟩)
      have B3 := Lib.hid (BX0.out.step k3)
      have z := B3.out.load
      clear k3
      go_upto_region 5 with (go_at_call 45; refine (DO.out _ B3.out.bel B3.out.ref).mono ?_; rintro e w4 ⟨B4, k4, rfl, r4, f4, b4⟩)
      have B5 := Lib.hid (B3.out.step (b4.alloc b4.size (.cells #[.slice B4 D.length k4] 32)))
      have g5 := heap_alloc_new w4 (.cells #[.slice B4 D.length k4] 32)
      have q0 := Sm.cells_of g5 0 _ rfl
      have z5 := B5.out.load
      have s0 := Sm.cells_of B5.out.res 0 _ rfl
      have f0 := Sm.free_of B5.out.res 0
      have LA := Lib.hid (B5.out.last (.slice A l.length c))
      have rz := Sm.cells_of LA.out.2.2 0 _ rfl
      clear r4 f4 b4 z
      go_wp2_with fail
      refine bodyPost_ret (v := .tuple #[.agg #[.slice A l.length c], .int .i64 6]) ((Om.results_ct rfl _ _ _).trans (by go_simp)) rfl ?_
      rw [HDE.out]
      exact ⟨A, c, rfl, LA.out.1, LA.out.2.1⟩
    · have hfi : ¬ (48 : Int) < (D.length : Int) := by omega
      have hde := Om.doE_ok h0 (by rw [← hD]; exact hf)
      rw [← hD] at hde
      have HDE := Lib.hid hde
      have HDL : Hid (l.length ≤ 48) := hG.len
      clear h hG hops hok ho hE h0 h48 hD hf hde
      rw [← hN]
      go_enter Try.func18, Try.ntmps18
      go_upto_region 1 with (fail)
      rw [← hw2, ← hN]
      clear hw2 hN
      go_upto_region 4 with (go_at_call 44; refine C1.out.mono ?_; rintro e w3 ⟨rfl, k3⟩)
      have B3 := Lib.hid (BX0.out.step k3)
      have z := B3.out.load
      clear k3
      go_upto_region 5 with (go_at_call 45; refine (DO.out _ B3.out.bel B3.out.ref).mono ?_; rintro e w4 ⟨B4, k4, rfl, r4, f4, b4⟩)
      have B5 := Lib.hid (B3.out.step (b4.alloc b4.size (.cells #[.slice B4 D.length k4] 32)))
      have g5 := heap_alloc_new w4 (.cells #[.slice B4 D.length k4] 32)
      have q0 := Sm.cells_of g5 0 _ rfl
      have s0 := Sm.cells_of B5.out.res 0 _ rfl
      have f0 := Sm.free_of B5.out.res 0
      have R5 : Om.Ref (w4.alloc (.cells #[.slice B4 D.length k4] 32)) B4 k4 D := r4.below ((Below.refl _ w4).alloc (Nat.le_refl _) _)
      have hap : ∀ b off, B4 = some ⟨b, off, none⟩ → D ≠ [] → b ≠ N + 1 := fun b off e h0 => by
        rcases f4 b off e h0 with h1 | ⟨h1, h2⟩
        · have := Sm.lt_of B3.out.res; omega
        · exact (B3.out.apart b off h1 h2).2
      have LR := Lib.hid (R5.set hap (.slice B4 D.length k4))
      have LA := Lib.hid (B5.out.last (.slice B4 D.length k4))
      have rz := Sm.cells_of LA.out.2.2 0 _ rfl
      clear r4 f4 b4 z R5 hap
      go_wp2_with fail
      refine bodyPost_ret (v := .tuple #[.agg #[.slice B4 D.length k4], .int .i64 0]) ((Om.results_ct rfl _ _ _).trans (by go_simp)) rfl ?_
      rw [HDE.out]
      exact ⟨B4, k4, rfl, LR.out, LA.out.2.1⟩
  · have hEb : ((E : Int) != 0) = true := by rw [bne_iff_ne]; omega
    have hde := Om.doE_bad (l := l) (by rw [← hE]; exact h0)
    rw [← hE] at hde
    have HDE := Lib.hid hde
    clear h hG hops hok ho hE h0 hde
    rw [← hN]
    go_enter Try.func18, Try.ntmps18
    go_upto_region 1 with (fail)
    rw [← hw2, ← hN]
    clear hw2 hN
    go_upto_region 3 with (go_at_call 44; refine C1.out.mono ?_; rintro e w3 ⟨rfl, k3⟩)
    have B3 := Lib.hid (BX0.out.step k3)
    have z := B3.out.load
    have s0 := Sm.cells_of B3.out.res 0 _ rfl
    have f0 := Sm.free_of B3.out.res 0
    have LA := Lib.hid (B3.out.last (.slice A l.length c))
    have rz := Sm.cells_of LA.out.2.2 0 _ rfl
    clear k3
    go_wp2_with fail
    refine bodyPost_ret (v := .tuple #[.agg #[.slice A l.length c], .int .i64 (E : Nat)]) ((Om.results_ct rfl _ _ _).trans (by go_simp)) rfl ?_
    rw [HDE.out]
    exact ⟨A, c, rfl, LA.out.1, LA.out.2.1⟩
set_option maxRecDepth 100000 in
set_option maxHeartbeats 2000000 in
theorem r13Get_any {w : World} {A : Option Addr} {c : Nat} {l : List Om.Pr} (h : Om.Ref w A c l) (hG : Om.Good l) (p : ByteArray) :
    Calls Try.prog 20 #[.agg #[.slice A l.length c], .string p] w fun e w' => e = .returned (.tuple #[.string (Om.getV l p), .bool (Om.get p l).isSome]) ∧ Below w.heap.size w w' := by
  obtain ⟨w2, hw2⟩ : ∃ w2, w2 = w.alloc (.cells #[.slice A l.length c] 32) := ⟨_, rfl⟩
  have g2 : w2.heap[w.heap.size]? = some (.cells #[.slice A l.length c] 32 (0, 0)) := by rw [hw2]; exact heap_alloc_new _ _
  have b2 : Below w.heap.size w w2 := by rw [hw2]; exact (Below.refl _ w).alloc (Nat.le_refl _) _
  obtain ⟨N, hN⟩ : ∃ N, N = w.heap.size := ⟨_, rfl⟩
  have HN := Lib.hid hN
  have FI := Lib.hid (r13find_any (w := w2) c (h.below b2).1 (by have := hG.len; omega) (fun x hx => by have := hG.path hx; omega) p)
  have HR : Hid (∀ wx : World, Below w2.heap.size w2 wx → Om.Ref wx A c l) := fun wx k => (h.below b2).below k
  rw [← hN] at g2 b2 ⊢
  have HG2 := Lib.hid g2
  have HB2 := Lib.hid b2
  have z0 := Sm.cells_of g2 0 _ rfl
  cases hg : Om.get p l with
  | none =>
    rw [hg] at FI
    rw [Om.getV_none hg]
    clear h hG hg b2 g2
    go_enter Try.func20, Try.ntmps20
    go_upto_region 1 with (fail)
    rw [← hw2, ← hN]
    clear hw2 hN
    go_wp2_with (go_at_call 40; refine FI.out.mono ?_; rintro e w3 ⟨rfl, k3⟩)
    go_ret2
    exact ⟨rfl, HB2.out.trans (k3.mono (Nat.le_of_lt (Sm.lt_of HG2.out)))⟩
  | some v =>
    have hps := Om.get_pos p l
    rw [hg] at hps
    obtain ⟨i, hi⟩ : ∃ i, i = Om.pos p l := ⟨_, rfl⟩
    rw [← hi] at FI hps
    rw [hg] at FI
    rw [Om.getV_some hg]
    cases hx : l[i]? with
    | none => rw [hx] at hps; cases hps
    | some x =>
      rw [hx] at hps
      obtain ⟨hil, hxe⟩ := List.getElem?_eq_some_iff.1 hx
      have hxv : x.v = v := by
        by_cases e : x.p = p
        · simp only [e, if_true, Option.some.injEq] at hps; exact hps.symm
        · simp only [e, if_false] at hps; cases hps
      have hii : (i : Int) < (l.length : Int) := by omega
      have HC : Hid (∀ wx : World, Below w2.heap.size w2 wx → ∃ b o, A = some ⟨b, o, none⟩ ∧ wx.cell? ⟨b, o + i * 2 + 1, none⟩ = some (.string v)) := fun wx k => by
        obtain ⟨b, o, e, _, _, q1⟩ := (HR.out wx k).1.get (Below.refl _ _) i hil
        rw [hxe, hxv] at q1
        exact ⟨b, o, e, q1⟩
      clear h hG hg b2 g2 hps hx hxe hxv hi hil
      go_enter Try.func20, Try.ntmps20
      go_upto_region 1 with (fail)
      rw [← hw2, ← hN]
      clear hw2 hN
      go_upto_region 4 with (go_at_call 40; refine FI.out.mono ?_; rintro e w3 ⟨rfl, k3⟩)
      have HK := Lib.hid k3
      have g3 := (k3.block N (Sm.lt_of HG2.out)).trans HG2.out
      have z3 := Sm.cells_of g3 0 _ rfl
      obtain ⟨b, o, rfl, q1⟩ := HC.out w3 k3
      clear k3 g3
      go_wp2
      go_ret2
      exact ⟨rfl, HB2.out.trans (HK.out.mono (Nat.le_of_lt (Sm.lt_of HG2.out)))⟩
end Go.Proofs.Ytehkbffbehlpnaa
