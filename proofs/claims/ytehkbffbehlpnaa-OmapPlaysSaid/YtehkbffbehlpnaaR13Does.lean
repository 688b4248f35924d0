/-
  The document's Does and Of.
-/
import Derived.Test.YtehkbffbehlpnaaR13With
import Derived.Test.YtehkbffbehlpnaaPaRefCut
import Derived.Test.YtehkbffbehlpnaaOmDo
namespace Go.Proofs.Ytehkbffbehlpnaa
open Go.RowKit
namespace Om
/-- A map in the variable's block M, the result's block R. -/
structure Box (w W : World) (N M R : Nat) (B : Option Addr) (k : Nat) (m : List Pr) : Prop where
  box : W.heap[M]? = some (.cells #[.slice B m.length k] 32 (0, 0))
  res : W.heap[R]? = some (.cells #[.slice none 0 0] 32 (0, 0))
  ref : Ref W B k m
  bel : Below N w W
  nm : N ≤ M
  nr : N ≤ R
  ne : M ≠ R
  apart : ∀ b off, B = some ⟨b, off, none⟩ → m ≠ [] → b ≠ M ∧ b ≠ R
section
variable {w W W' : World} {N M R : Nat} {B B' : Option Addr} {k k' : Nat} {m m' : List Pr}
theorem Box.step (h : Box w W N M R B k m) (g : Below W.heap.size W W') : Box w W' N M R B k m :=
  ⟨(g.block M (Sm.lt_of h.box)).trans h.box, (g.block R (Sm.lt_of h.res)).trans h.res, h.ref.below g, h.bel.trans (g.mono (Nat.le_trans h.nm (Nat.le_of_lt (Sm.lt_of h.box)))), h.nm, h.nr, h.ne, h.apart⟩
theorem Ref.set {W : World} {B : Option Addr} {k : Nat} {m : List Pr} (h : Ref W B k m) {q : Nat} (hq : ∀ b off, B = some ⟨b, off, none⟩ → m ≠ [] → b ≠ q) (v : Value) : Ref (W.setCell ⟨q, 0, none⟩ v) B k m := by
  refine ⟨?_, h.2⟩
  rcases h.1 with e | ⟨b, o, e1, e2, e3⟩
  · exact .inl e
  · by_cases h0 : m = []
    · exact .inl h0
    · have hb := hq b o e1 h0
      refine .inr ⟨b, o, e1, by simpa using e2, fun j hj => ?_⟩
      have ec : ∀ i, (W.setCell ⟨q, 0, none⟩ v).cell? ⟨b, i, none⟩ = W.cell? ⟨b, i, none⟩ := fun i => World.cell?_of_block (w := W) (a := ⟨b, i, none⟩) (Below.heap_setCell _ _ _ _ (by show b ≠ q; exact hb))
      have := e3 j hj
      unfold prAt at this ⊢
      rw [ec, ec]
      exact this
/-- The variable is given what a call made of it. -/
theorem Box.put (h : Box w W N M R B k m) (g : Below W.heap.size W W') (hr : Ref W' B' k' m') (hf : Fresh W B m B' m') : Box w (W'.setCell ⟨M, 0, none⟩ (.slice B' m'.length k')) N M R B' k' m' := by
  have h' := h.step g
  have hap : ∀ b off, B' = some ⟨b, off, none⟩ → m' ≠ [] → b ≠ M ∧ b ≠ R := fun b off e h0 => by
    rcases hf b off e h0 with h1 | ⟨h1, h2⟩
    · have := Sm.lt_of h.box
      have := Sm.lt_of h.res
      omega
    · exact h.apart b off h1 h2
  exact ⟨Sm.heap_set h'.box 0 _, (Below.heap_setCell _ _ _ _ (by show R ≠ M; exact fun e => h.ne e.symm)).trans h'.res, hr.set (fun b off e h0 => (hap b off e h0).1) _, h'.bel.setCell (p := ⟨M, 0, none⟩) h.nm _, h.nm, h.nr, h.ne, hap⟩
/-- The result is written. -/
theorem Box.last (h : Box w W N M R B k m) (v : Value) : Ref (W.setCell ⟨R, 0, none⟩ v) B k m ∧ Below N w (W.setCell ⟨R, 0, none⟩ v) ∧ (W.setCell ⟨R, 0, none⟩ v).heap[R]? = some (.cells #[v] 32 (0, 0)) :=
  ⟨h.ref.set (fun b off e h0 => (h.apart b off e h0).2) v, h.bel.setCell (p := ⟨R, 0, none⟩) h.nr _, Sm.heap_set h.res 0 v⟩
theorem Box.load (h : Box w W N M R B k m) : W.cell? ⟨M, 0, none⟩ = some (.slice B m.length k) := Sm.cells_of h.box 0 _ rfl
end
theorem Fresh.trans {w wr : World} {A B B' : Option Addr} {l m m' : List Pr} (h : Fresh w A l B m) (hs : w.heap.size ≤ wr.heap.size) (k : Fresh wr B m B' m') : Fresh w A l B' m' := fun b off e h0 => by
  rcases k b off e h0 with h1 | ⟨h1, h2⟩
  · exact .inl (Nat.le_trans hs h1)
  · exact h b off h1 h2
theorem Fresh.same (w : World) (A : Option Addr) (l : List Pr) : Fresh w A l A l := fun _ _ e h0 => .inr ⟨e, h0⟩
/-- Short paths. -/
def Small (l : List Pr) : Prop := ∀ x ∈ l, x.p.size ≤ 1000000
theorem Small.step {m : List Pr} (h : Small m) {o : Ba.Op} (ho : o.p.size ≤ 1000000) : Small (step m o) := fun x hx => by
  unfold Om.step at hx
  split at hx
  · exact h x ((del_sub _ _).subset hx)
  · rcases mem_put hx with rfl | hx
    · exact ho
    · exact h x hx
theorem Small.put {m : List Pr} (h : Small m) {p v : ByteArray} (hp : p.size ≤ 1000000) : Small (put p v m) := fun x hx => by
  rcases mem_put hx with rfl | hx
  · exact hp
  · exact h x hx
end Om
set_option maxRecDepth 100000 in
set_option maxHeartbeats 4000000 in
theorem r13Does_any {w : World} {A : Option Addr} {c : Nat} {l : List Om.Pr} (h : Om.Ref w A c l) {C : Option Addr} (d : Nat) {ops : List Ba.Op} (hops : Ba.listAt w C ops) (hl : l.length + ops.length ≤ 900) (hs : Om.Small l) (ho : ∀ o ∈ ops, o.p.size ≤ 1000000) :
    Calls Try.prog 45 #[.agg #[.slice A l.length c], .slice C ops.length d] w fun e w' => ∃ B k, e = .returned (.agg #[.slice B (Om.does l ops).length k]) ∧ Om.Ref w' B k (Om.does l ops) ∧ Om.Fresh w A l B (Om.does l ops) ∧ Below w.heap.size w w' := by
  obtain ⟨w2, hw2⟩ : ∃ w2, w2 = (w.alloc (.cells #[.slice A l.length c] 32)).alloc (.cells #[.slice none 0 0] 32) := ⟨_, rfl⟩
  obtain ⟨N, hN⟩ : ∃ N, N = w.heap.size := ⟨_, rfl⟩
  have HN := Lib.hid hN
  have BX0 : Hid (Om.Box w w2 N N (N + 1) A c l) := by
    have g1 := heap_alloc_new w (.cells #[.slice A l.length c] 32)
    have g2 := heap_alloc_new (w.alloc (.cells #[.slice A l.length c] 32)) (.cells #[.slice none 0 0] 32)
    have hs1 : (w.alloc (.cells #[.slice A l.length c] 32)).heap.size = w.heap.size + 1 := by simp
    rw [hs1] at g2
    have b0 : Below w.heap.size w ((w.alloc (.cells #[.slice A l.length c] 32)).alloc (.cells #[.slice none 0 0] 32)) := ((Below.refl _ w).alloc (Nat.le_refl _) _).alloc (by simp) _
    refine ⟨?_, ?_, ?_, ?_, Nat.le_refl _, by omega, by omega, fun b off e h0 => ?_⟩
    · rw [hw2, hN]; exact (Below.heap_alloc _ _ _ (by simp)).trans g1
    · rw [hw2, hN]; exact g2
    · rw [hw2]; exact h.below b0
    · rw [hw2, hN]; exact b0
    · rcases h.1 with e1 | ⟨b', o', e1, e2, _⟩
      · exact absurd e1 h0
      · rw [e] at e1
        simp only [Option.some.injEq, Addr.mk.injEq] at e1
        omega
  have HOP : Hid (∀ wx : World, Below N w wx → ∀ j (hj : j < ops.length), ∃ b off, C = some ⟨b, off, none⟩ ∧ b < w.heap.size ∧ Ba.opAt wx b (off + j * 3) ops[j]) := fun wx k j hj => hops.get (by rw [← hN]; exact k) j hj
  have WI := Lib.hid (fun (wx : World) (B : Option Addr) (k : Nat) (m : List Om.Pr) (p v : ByteArray) (h : Om.Ref wx B k m) (h1 : m.length ≤ 900) (h2 : Om.Small m) => r13With_ref h h1 h2 p v)
  have WO := Lib.hid (fun (wx : World) (B : Option Addr) (k : Nat) (m : List Om.Pr) (p : ByteArray) (h : Om.Ref wx B k m) (h1 : m.length ≤ 900) (h2 : Om.Small m) => r13Without_any h h1 h2 p)
  have HL := Lib.hid hl
  have HSM := Lib.hid hs
  have HO := Lib.hid ho
  obtain ⟨D, hD⟩ : ∃ D, D = Om.does l ops := ⟨_, rfl⟩
  rw [← hD]
  have HD : Hid (Om.does l (ops.drop 0) = D) := by show _ = _; rw [List.drop_zero]; exact hD.symm
  have holen : ops.length ≤ 900 := by omega
  rw [← hN]
  clear h hops hl hs ho hD
  go_enter Try.func45, Try.ntmps45
  go_upto_region 1 with (fail)
  rw [← hw2, ← hN]
  clear hw2 hN
  go_wp2
  go_loopw [5] (fun s wr => ∃ (j : Nat) (B : Option Addr) (k : Nat) (m : List Om.Pr), s = .int .i64 j ∧ j ≤ ops.length ∧ Om.Box w wr N N (N + 1) B k m ∧ Om.Fresh w A l B m ∧ m.length ≤ l.length + j ∧ Om.Small m ∧ Hid (Om.does m (ops.drop j) = D)) (fun s _ => ops.length - (intOf s).toNat)
  case atStart => exact ⟨0, A, c, l, rfl, Nat.zero_le _, BX0.out, Om.Fresh.same w A l, by omega, HSM.out, HD.out⟩
  case round =>
    clear BX0 HD HSM
    obtain ⟨j, B, k, m, rfl, hj, hbx, hfr, hml, hsm, hd⟩ := hrel
    have BX1 := Lib.hid hbx
    have HML := Lib.hid hml
    have HSM := Lib.hid hsm
    have FR := Lib.hid hfr
    clear hbx hml hsm hfr
    by_cases hlt : j < ops.length
    · have hji : (j : Int) < (ops.length : Int) := by omega
      have hsuc : IntKind.i64.wrap ((j : Int) + 1) = ((j + 1 : Nat) : Int) := by simp [IntKind.wrap, IntKind.bits, IntKind.signed]; omega
      obtain ⟨gb, off, rfl, hgl, o0, o1, o2⟩ := HOP.out _ BX1.out.bel j hlt
      have hrd := hd.out
      rw [Om.does_drop hlt] at hrd
      have hop := HO.out _ (List.getElem_mem hlt)
      have FACT : Hid (∀ wx : World, Below N w wx → wx.cell? ⟨gb, off + j * 3 + 1, none⟩ = some (.string ops[j].p) ∧ wx.cell? ⟨gb, off + j * 3 + 2, none⟩ = some (.string ops[j].v)) := fun wx kx => by
        obtain ⟨b', o', e', -, q0, q1, q2⟩ := HOP.out wx kx j hlt
        simp only [Option.some.injEq, Addr.mk.injEq] at e'
        obtain ⟨rfl, rfl, _⟩ := e'
        exact ⟨q1, q2⟩
      obtain ⟨x, hx⟩ : ∃ x, x = ops[j] := ⟨_, rfl⟩
      rw [← hx] at o0 o1 o2 hrd hop FACT
      have HRD := Lib.hid hrd
      have HLT := Lib.hid hlt
      have HXP := Lib.hid hop
      have hmb : m.length ≤ 900 := by have := HML.out; have := HL.out; omega
      have HMB := Lib.hid hmb
      clear hrd hd hx hop hmb hgl
      clear hlt
      by_cases h2 : x.k = 2
      · have h2i : ((x.k : Nat) : Int) = 2 := by omega
        rw [h2i] at o0
        have HST : Hid (Om.step m x = Om.del x.p m) := by show _ = _; unfold Om.step; rw [if_pos h2]
        have FACT1 : Hid (∀ wx : World, Below N w wx → wx.cell? ⟨gb, off + j * 3 + 1, none⟩ = some (.string x.p)) := fun wx kx => (FACT.out wx kx).1
        have HSN : Hid (Om.Small (Om.del x.p m)) := by show Om.Small _; rw [← HST.out]; exact HSM.out.step HXP.out
        clear h2 h2i FACT
        go_upto_region 5 with (fail)
        have BD := Lib.hid (BX1.out.step (Below.refl _ _).drew)
        have HSD := Lib.hid (FACT1.out _ BD.out.bel)
        refine wp_region_held_drew (S := fun w' => w'.cell? ⟨gb, off + j * 3 + 1, none⟩ = some (.string x.p)) (by kernel_rfl) (by exact HSD.out) (fun hHeld => ?_)
        refine wpAnyH_take (i := 1) (oi := ⟨some 19, _, _, _, _, _⟩) (v := .slice (some ⟨gb, off, none⟩) ops.length d) rfl (by kernel_rfl) (by kernel_rfl) (by kernel_rfl) (fun _ _ _ h => h) (Or.inl ⟨by rfl, ?_⟩) (by assumption) ?_
        · intro w hSw; (try dsimp only at hSw); go_simp
        simp only [Act.put, List.setIfInBounds_toArray, List.set_cons_zero, List.set_cons_succ]
        refine wpAnyH_take (i := 2) (oi := ⟨some 20, _, _, _, _, _⟩) (v := .int .i64 (j : Int)) rfl (by kernel_rfl) (by kernel_rfl) (by kernel_rfl) (fun _ _ _ h => h) (Or.inl ⟨by rfl, ?_⟩) (by assumption) ?_
        · intro w hSw; (try dsimp only at hSw); go_simp
        simp only [Act.put, List.setIfInBounds_toArray, List.set_cons_zero, List.set_cons_succ]
        refine wpAnyH_take (i := 3) (oi := ⟨some 21, _, _, _, _, _⟩) (v := .pointer (some ⟨gb, off + j * 3, none⟩)) rfl (by kernel_rfl) (by kernel_rfl) (by kernel_rfl) (fun _ _ _ h => h) (Or.inl ⟨by rfl, ?_⟩) (by assumption) ?_
        · intro w hSw; (try dsimp only at hSw); go_simp
        simp only [Act.put, List.setIfInBounds_toArray, List.set_cons_zero, List.set_cons_succ]
        refine wpAnyH_take (i := 4) (oi := ⟨some 22, _, _, _, _, _⟩) (v := .pointer (some ⟨gb, off + j * 3 + 1, none⟩)) rfl (by kernel_rfl) (by kernel_rfl) (by kernel_rfl) (fun _ _ _ h => h) (Or.inl ⟨by rfl, ?_⟩) (by assumption) ?_
        · intro w hSw; (try dsimp only at hSw); go_simp
        simp only [Act.put, List.setIfInBounds_toArray, List.set_cons_zero, List.set_cons_succ]
        refine wpAnyH_take (i := 5) (oi := ⟨some 23, _, _, _, _, _⟩) (v := .string x.p) rfl (by kernel_rfl) (by kernel_rfl) (by kernel_rfl) (fun _ _ _ h => h) (Or.inl ⟨by rfl, ?_⟩) (by assumption) ?_
        · intro w hSw; (try dsimp only at hSw); go_simp
        simp only [Act.put, List.setIfInBounds_toArray, List.set_cons_zero, List.set_cons_succ]
        refine wpAnyH_ready (rs := [0]) (by kernel_rfl) (by simp) ?_
        refine AllReadyH.cons (o := ⟨some 18, _, _, _, _, _⟩) rfl (fun K0 hK => ?_) AllReadyH.nil
        have y := BD.out.load
        have HBX := Lib.hid BD.out.box
        go_simp
        refine hK.out _ _ HSD.out (fun hHeld => ?_)
        clear hK K0 y HBX
        refine wpAnyH_ready (rs := [6]) (by kernel_rfl) (by simp) ?_
        refine AllReadyH.cons (o := ⟨some 24, _, _, _, _, _⟩) rfl (fun K0 hK => ?_) AllReadyH.nil
        go_simp
        refine (WO.out _ _ _ _ _ BD.out.ref HMB.out HSM.out).mono ?_
        rintro e w5 ⟨B5, k5, rfl, r5, f5, b5⟩
        have HB5 := Lib.hid (BD.out.step b5)
        have BX5 := Lib.hid (BD.out.put b5 r5 f5)
        have HS5 := Lib.hid (FACT1.out _ HB5.out.bel)
        have FN := Lib.hid f5
        clear r5 f5 b5
        refine hK.out _ _ HS5.out (fun hHeld => ?_)
        clear hK K0
        refine wpAnyH_ready (rs := [7]) (by kernel_rfl) (by simp) ?_
        refine AllReadyH.cons (o := ⟨none, _, _, _, _, _⟩) rfl (fun K0 hK => ?_) AllReadyH.nil
        have y := HB5.out.load
        have f := Sm.free_of HB5.out.box 0
        go_simp
        have HS6 := Lib.hid (FACT1.out _ BX5.out.bel)
        refine hK.out _ _ HS6.out (fun hHeld => ?_)
        clear hK K0 y f hHeld HSD HS5 HS6 HB5 BD
        refine wpAnyH_done (by kernel_rfl) ?_ _
        go_wp2
        go_roundw
        case rel =>
          refine ⟨j + 1, B5, k5, _, rfl, HLT.out, BX5.out, FR.out.trans (by have := BX1.out.bel.size; simpa using this) FN.out, ?_, HSN.out, ?_⟩
          · rw [← HST.out]; have := Om.step_length m x; have := HML.out; omega
          · show _ = _; rw [← HST.out]; exact HRD.out
        case measure => simp only [intOf]; have := HLT.out; omega
      · have h2i : ((x.k : Int) == 2) = false := by rw [beq_eq_false_iff_ne]; omega
        have HST : Hid (Om.step m x = Om.put x.p x.v m) := by show _ = _; unfold Om.step; rw [if_neg h2]
        have FACT1 := Lib.hid FACT.out
        have HSN : Hid (Om.Small (Om.put x.p x.v m)) := by show Om.Small _; rw [← HST.out]; exact HSM.out.step HXP.out
        clear h2 FACT
        go_upto_region 6 with (fail)
        have BD := Lib.hid (BX1.out.step (Below.refl _ _).drew)
        have HSD := Lib.hid (FACT1.out _ BD.out.bel)
        refine wp_region_held_drew (S := fun w' => w'.cell? ⟨gb, off + j * 3 + 1, none⟩ = some (.string x.p) ∧ w'.cell? ⟨gb, off + j * 3 + 2, none⟩ = some (.string x.v)) (by kernel_rfl) (by exact HSD.out) (fun hHeld => ?_)
        refine wpAnyH_take (i := 1) (oi := ⟨some 26, _, _, _, _, _⟩) (v := .slice (some ⟨gb, off, none⟩) ops.length d) rfl (by kernel_rfl) (by kernel_rfl) (by kernel_rfl) (fun _ _ _ h => h) (Or.inl ⟨by rfl, ?_⟩) (by assumption) ?_
        · intro w hSw; (try dsimp only at hSw); go_simp
        simp only [Act.put, List.setIfInBounds_toArray, List.set_cons_zero, List.set_cons_succ]
        refine wpAnyH_take (i := 2) (oi := ⟨some 27, _, _, _, _, _⟩) (v := .int .i64 (j : Int)) rfl (by kernel_rfl) (by kernel_rfl) (by kernel_rfl) (fun _ _ _ h => h) (Or.inl ⟨by rfl, ?_⟩) (by assumption) ?_
        · intro w hSw; (try dsimp only at hSw); go_simp
        simp only [Act.put, List.setIfInBounds_toArray, List.set_cons_zero, List.set_cons_succ]
        refine wpAnyH_take (i := 3) (oi := ⟨some 28, _, _, _, _, _⟩) (v := .pointer (some ⟨gb, off + j * 3, none⟩)) rfl (by kernel_rfl) (by kernel_rfl) (by kernel_rfl) (fun _ _ _ h => h) (Or.inl ⟨by rfl, ?_⟩) (by assumption) ?_
        · intro w hSw; (try dsimp only at hSw); go_simp
        simp only [Act.put, List.setIfInBounds_toArray, List.set_cons_zero, List.set_cons_succ]
        refine wpAnyH_take (i := 4) (oi := ⟨some 29, _, _, _, _, _⟩) (v := .pointer (some ⟨gb, off + j * 3 + 1, none⟩)) rfl (by kernel_rfl) (by kernel_rfl) (by kernel_rfl) (fun _ _ _ h => h) (Or.inl ⟨by rfl, ?_⟩) (by assumption) ?_
        · intro w hSw; (try dsimp only at hSw); go_simp
        simp only [Act.put, List.setIfInBounds_toArray, List.set_cons_zero, List.set_cons_succ]
        refine wpAnyH_take (i := 5) (oi := ⟨some 30, _, _, _, _, _⟩) (v := .string x.p) rfl (by kernel_rfl) (by kernel_rfl) (by kernel_rfl) (fun _ _ _ h => h) (Or.inl ⟨by rfl, ?_⟩) (by assumption) ?_
        · intro w hSw; (try dsimp only at hSw); go_simp
        simp only [Act.put, List.setIfInBounds_toArray, List.set_cons_zero, List.set_cons_succ]
        refine wpAnyH_take (i := 6) (oi := ⟨some 31, _, _, _, _, _⟩) (v := .slice (some ⟨gb, off, none⟩) ops.length d) rfl (by kernel_rfl) (by kernel_rfl) (by kernel_rfl) (fun _ _ _ h => h) (Or.inl ⟨by rfl, ?_⟩) (by assumption) ?_
        · intro w hSw; (try dsimp only at hSw); go_simp
        simp only [Act.put, List.setIfInBounds_toArray, List.set_cons_zero, List.set_cons_succ]
        refine wpAnyH_take (i := 7) (oi := ⟨some 32, _, _, _, _, _⟩) (v := .int .i64 (j : Int)) rfl (by kernel_rfl) (by kernel_rfl) (by kernel_rfl) (fun _ _ _ h => h) (Or.inl ⟨by rfl, ?_⟩) (by assumption) ?_
        · intro w hSw; (try dsimp only at hSw); go_simp
        simp only [Act.put, List.setIfInBounds_toArray, List.set_cons_zero, List.set_cons_succ]
        refine wpAnyH_take (i := 8) (oi := ⟨some 33, _, _, _, _, _⟩) (v := .pointer (some ⟨gb, off + j * 3, none⟩)) rfl (by kernel_rfl) (by kernel_rfl) (by kernel_rfl) (fun _ _ _ h => h) (Or.inl ⟨by rfl, ?_⟩) (by assumption) ?_
        · intro w hSw; (try dsimp only at hSw); go_simp
        simp only [Act.put, List.setIfInBounds_toArray, List.set_cons_zero, List.set_cons_succ]
        refine wpAnyH_take (i := 9) (oi := ⟨some 34, _, _, _, _, _⟩) (v := .pointer (some ⟨gb, off + j * 3 + 2, none⟩)) rfl (by kernel_rfl) (by kernel_rfl) (by kernel_rfl) (fun _ _ _ h => h) (Or.inl ⟨by rfl, ?_⟩) (by assumption) ?_
        · intro w hSw; (try dsimp only at hSw); go_simp
        simp only [Act.put, List.setIfInBounds_toArray, List.set_cons_zero, List.set_cons_succ]
        refine wpAnyH_take (i := 10) (oi := ⟨some 35, _, _, _, _, _⟩) (v := .string x.v) rfl (by kernel_rfl) (by kernel_rfl) (by kernel_rfl) (fun _ _ _ h => h) (Or.inl ⟨by rfl, ?_⟩) (by assumption) ?_
        · intro w hSw; (try dsimp only at hSw); go_simp
        simp only [Act.put, List.setIfInBounds_toArray, List.set_cons_zero, List.set_cons_succ]
        refine wpAnyH_ready (rs := [0]) (by kernel_rfl) (by simp) ?_
        refine AllReadyH.cons (o := ⟨some 25, _, _, _, _, _⟩) rfl (fun K0 hK => ?_) AllReadyH.nil
        have y := BD.out.load
        have HBX := Lib.hid BD.out.box
        go_simp
        refine hK.out _ _ HSD.out (fun hHeld => ?_)
        clear hK K0 y HBX
        refine wpAnyH_ready (rs := [11]) (by kernel_rfl) (by simp) ?_
        refine AllReadyH.cons (o := ⟨some 36, _, _, _, _, _⟩) rfl (fun K0 hK => ?_) AllReadyH.nil
        go_simp
        refine (WI.out _ _ _ _ _ _ BD.out.ref HMB.out HSM.out).mono ?_
        rintro e w5 ⟨B5, k5, rfl, r5, f5, b5⟩
        have HB5 := Lib.hid (BD.out.step b5)
        have BX5 := Lib.hid (BD.out.put b5 r5 f5)
        have HS5 := Lib.hid (FACT1.out _ HB5.out.bel)
        have FN := Lib.hid f5
        clear r5 f5 b5
        refine hK.out _ _ HS5.out (fun hHeld => ?_)
        clear hK K0
        refine wpAnyH_ready (rs := [12]) (by kernel_rfl) (by simp) ?_
        refine AllReadyH.cons (o := ⟨none, _, _, _, _, _⟩) rfl (fun K0 hK => ?_) AllReadyH.nil
        have y := HB5.out.load
        have f := Sm.free_of HB5.out.box 0
        go_simp
        have HS6 := Lib.hid (FACT1.out _ BX5.out.bel)
        refine hK.out _ _ HS6.out (fun hHeld => ?_)
        clear hK K0 y f hHeld HSD HS5 HS6 HB5 BD
        refine wpAnyH_done (by kernel_rfl) ?_ _
        go_wp2
        go_roundw
        case rel =>
          refine ⟨j + 1, B5, k5, _, rfl, HLT.out, BX5.out, FR.out.trans (by have := BX1.out.bel.size; simpa using this) FN.out, ?_, HSN.out, ?_⟩
          · rw [← HST.out]; have := Om.step_length m x; have := HML.out; omega
          · show _ = _; rw [← HST.out]; exact HRD.out
        case measure => simp only [intOf]; have := HLT.out; omega
    · have hje : j = ops.length := by omega
      have hd' := hd.out
      rw [hje, List.drop_length] at hd'
      have HDD : Hid (m = D) := hd'
      clear hj hd hd'
      subst hje
      have z := BX1.out.load
      have r0 := Sm.cells_of BX1.out.res 0 _ rfl
      have f0 := Sm.free_of BX1.out.res 0
      have LA := Lib.hid (BX1.out.last (.slice B m.length k))
      have rz := Sm.cells_of LA.out.2.2 0 _ rfl
      go_wp2_with fail
      refine bodyPost_ret (v := .agg #[.slice B m.length k]) ((Om.results_own15 rfl _ _ _).trans (by go_simp)) rfl ⟨B, k, ?_, ?_, ?_, ?_⟩
      · rw [← HDD.out]
      · rw [← HDD.out]; exact LA.out.1
      · rw [← HDD.out]; exact FR.out
      · exact LA.out.2.1
end Go.Proofs.Ytehkbffbehlpnaa
