/-
  The document's Of.
-/
import Derived.Test.YtehkbffbehlpnaaR13Does
import Derived.Test.YtehkbffbehlpnaaOmFilter
namespace Go.Proofs.Ytehkbffbehlpnaa
open Go.RowKit
theorem Om.results_ct {fn : Func} {p q : Tmp} {ty : TypeId} (h : fn.results = #[.cell p ty, .tmp q]) (tmps : Array Value) (P : Program) (w : World) :
    (results fn tmps).run P w = ((asAddr (tmps.getD p undef)).run P w).andThen fun a w₁ => ((loadVar ty a).run P w₁).andThen fun v w₂ => .ok (.tuple #[v, tmps.getD q undef]) w₂ := by
  simp only [results, h]
  simp [Sem.run_bind, Result.andThen]
/-- What the document's Of told. -/
def Om.OfRef (w w' : World) (e : Ending) (R : List Om.Pr × Nat) : Prop := ∃ B k, e = .returned (.tuple #[.agg #[.slice B R.1.length k], .int .i64 (R.2 : Nat)]) ∧ Om.Ref w' B k R.1 ∧ Below w.heap.size w w'
set_option maxRecDepth 100000 in
set_option maxHeartbeats 4000000 in
theorem r13Of_any {w : World} {A : Option Addr} {l : List Om.Pr} (c : Nat) (hit : Om.listAt w A l) (hn : l.length ≤ 9223372036854775807) (hs : Om.Small l) :
    Calls Try.prog 15 #[.slice A l.length c] w fun e w' => Om.OfRef w w' e (Om.ofE l) := by
  obtain ⟨w2, hw2⟩ : ∃ w2, w2 = (w.alloc (.cells #[.slice none 0 0] 32)).alloc (.cells #[.slice none 0 0] 32) := ⟨_, rfl⟩
  obtain ⟨N, hN⟩ : ∃ N, N = w.heap.size := ⟨_, rfl⟩
  have HN := Lib.hid hN
  have BX0 : Hid (Om.Box w w2 N (N + 1) N none 0 []) := by
    have g1 := heap_alloc_new w (.cells #[.slice none 0 0] 32)
    have g2 := heap_alloc_new (w.alloc (.cells #[.slice none 0 0] 32)) (.cells #[.slice none 0 0] 32)
    have hs1 : (w.alloc (.cells #[.slice none 0 0] 32)).heap.size = w.heap.size + 1 := by simp
    rw [hs1] at g2
    have b0 : Below w.heap.size w ((w.alloc (.cells #[.slice none 0 0] 32)).alloc (.cells #[.slice none 0 0] 32)) := ((Below.refl _ w).alloc (Nat.le_refl _) _).alloc (by simp) _
    refine ⟨?_, ?_, Om.Ref.nil _, ?_, by omega, Nat.le_refl _, by omega, fun b off e h0 => by cases e⟩
    · rw [hw2, hN]; exact g2
    · rw [hw2, hN]; exact (Below.heap_alloc _ _ _ (by simp)).trans g1
    · rw [hw2, hN]; exact b0
  have HOP : Hid (∀ wx : World, Below N w wx → ∀ j (hj : j < l.length), ∃ b off, A = some ⟨b, off, none⟩ ∧ b < w.heap.size ∧ Om.prAt wx b (off + j * 2) l[j]) := fun wx k j hj => hit.get (by rw [← hN]; exact k) j hj
  have WI := Lib.hid (fun (wx : World) (B : Option Addr) (k : Nat) (m : List Om.Pr) (p v : ByteArray) (h : Om.Ref wx B k m) (h1 : m.length ≤ 900) (h2 : Om.Small m) => r13With_ref h h1 h2 p v)
  have FI := Lib.hid (fun (wx : World) (B : Option Addr) (k : Nat) (m : List Om.Pr) (p : ByteArray) (h : Om.Ref wx B k m) (h1 : m.length ≤ 1000) (h2 : Om.Small m) => r13find_any k h.1 h1 h2 p)
  have PCX := Lib.hid (fun (wx : World) (s : ByteArray) (h : s.size ≤ 281474976710656) => r11Cut_any wx s h)
  have HS := Lib.hid hs
  unfold Om.OfRef
  rw [← hN]
  by_cases h48 : 48 < l.length
  · have hi : (48 : Int) < (l.length : Int) := by omega
    have HRR : Hid (Om.ofE l = ([], 6)) := by show _ = _; unfold Om.ofE; rw [if_pos h48]
    have z0 := Sm.cells_of BX0.out.box 0 _ rfl
    have r0 := Sm.cells_of BX0.out.res 0 _ rfl
    have f0 := Sm.free_of BX0.out.res 0
    have LA := Lib.hid (BX0.out.last (.slice none 0 0))
    have rz := Sm.cells_of LA.out.2.2 0 _ rfl
    clear hit hs h48
    go_enter Try.func15, Try.ntmps15
    go_upto_region 2 with (fail)
    rw [← hw2, ← hN]
    clear hw2 hN
    go_wp2_with fail
    refine bodyPost_ret (v := .tuple #[.agg #[.slice none 0 0], .int .i64 6]) ((Om.results_ct rfl _ _ _).trans (by go_simp)) rfl ?_
    rw [HRR.out]
    exact ⟨none, 0, rfl, Om.Ref.nil _, LA.out.2.1⟩
  have hi : ¬ (48 : Int) < (l.length : Int) := by omega
  have HL48 : Hid (l.length ≤ 48) := by show l.length ≤ 48; omega
  rw [show Om.ofE l = Om.ofL [] l by unfold Om.ofE; rw [if_neg h48]]
  obtain ⟨R, hR⟩ : ∃ R, R = Om.ofL [] l := ⟨_, rfl⟩
  rw [← hR]
  have HR : Hid (Om.ofL [] (l.drop 0) = R) := by show _ = _; rw [List.drop_zero]; exact hR.symm
  clear hit hs hR h48
  go_enter Try.func15, Try.ntmps15
  go_upto_region 2 with (fail)
  rw [← hw2, ← hN]
  clear hw2 hN
  go_wp2
  go_loopw [5] (fun s wr => ∃ (j : Nat) (B : Option Addr) (k : Nat) (m : List Om.Pr), s = .int .i64 j ∧ j ≤ l.length ∧ Om.Box w wr N (N + 1) N B k m ∧ m.length ≤ j ∧ Om.Small m ∧ Hid (Om.ofL m (l.drop j) = R)) (fun s _ => l.length - (intOf s).toNat)
  case atStart => exact ⟨0, none, 0, [], rfl, Nat.zero_le _, BX0.out, Nat.le_refl _, fun x hx => by simp at hx, HR.out⟩
  case round =>
    clear BX0 HR
    obtain ⟨j, B, k, m, rfl, hj, hbx, hml, hsm, hd⟩ := hrel
    have BX1 := Lib.hid hbx
    have HML := Lib.hid hml
    have HSM := Lib.hid hsm
    clear hbx hml hsm
    by_cases hlt : j < l.length
    · have hji : (j : Int) < (l.length : Int) := by omega
      have hsuc : IntKind.i64.wrap ((j : Int) + 1) = ((j + 1 : Nat) : Int) := by have := HL48.out; simp [IntKind.wrap, IntKind.bits, IntKind.signed]; omega
      obtain ⟨gb, off, rfl, hgl, o0, o1⟩ := HOP.out _ BX1.out.bel j hlt
      have hrd := hd.out
      rw [List.drop_eq_getElem_cons hlt] at hrd
      have hop := HS.out _ (List.getElem_mem hlt)
      have FACT : Hid (∀ wx : World, Below N w wx → wx.cell? ⟨gb, off + j * 2, none⟩ = some (.string l[j].p) ∧ wx.cell? ⟨gb, off + j * 2 + 1, none⟩ = some (.string l[j].v)) := fun wx kx => by
        obtain ⟨b', o', e', -, q0, q1⟩ := HOP.out wx kx j hlt
        simp only [Option.some.injEq, Addr.mk.injEq] at e'
        obtain ⟨rfl, rfl, _⟩ := e'
        exact ⟨q0, q1⟩
      obtain ⟨x, hx⟩ : ∃ x, x = l[j] := ⟨_, rfl⟩
      rw [← hx] at o0 o1 hrd hop FACT
      have HRD := Lib.hid hrd
      have HLT := Lib.hid hlt
      have HXP := Lib.hid hop
      have PC := Lib.hid (PCX.out wr x.p (by omega))
      unfold Pa.cutV at PC
      clear hrd hd hx hop hgl
      clear hlt
      cases hpo : Pa.ok x.p.data.toList with
      | false =>
        rw [hpo] at PC
        have HRR : Hid (R = ([], 1)) := by show _ = _; rw [← HRD.out]; exact Om.ofL_bad (fun e => by have := e.1; rw [hpo] at this; cases this)
        clear hpo
        go_upto_region 9 with (go_at_call 39; refine PC.out.mono ?_; rintro e w3 ⟨rfl, k3⟩)
        have B3 := Lib.hid (BX1.out.step k3)
        have r0 := Sm.cells_of B3.out.res 0 _ rfl
        have f0 := Sm.free_of B3.out.res 0
        have LA := Lib.hid (B3.out.last (.slice none 0 0))
        have rz := Sm.cells_of LA.out.2.2 0 _ rfl
        clear k3
        go_wp2_with fail
        refine bodyPost_ret (v := .tuple #[.agg #[.slice none 0 0], .int .i64 1]) ((Om.results_ct rfl _ _ _).trans (by go_simp)) rfl ?_
        rw [HRR.out]
        exact ⟨none, 0, rfl, Om.Ref.nil _, LA.out.2.1⟩
      | true =>
        rw [hpo] at PC
        by_cases hv : x.v.size ≤ 32
        · have hvi : ¬ (32 : Int) < (x.v.size : Int) := by omega
          have HFX : Hid (Om.Fair x) := ⟨hpo, hv⟩
          obtain ⟨f, hf⟩ : ∃ f, f = (Om.get x.p m).isSome := ⟨_, rfl⟩
          have HF := Lib.hid hf
          have FACT1 : Hid (∀ wx : World, Below N w wx → wx.cell? ⟨gb, off + j * 2, none⟩ = some (.string x.p)) := fun wx kx => (FACT.out wx kx).1
          clear hpo hv hf
          go_upto_region 8 with (go_at_call 39; refine PC.out.mono ?_; rintro e w3 ⟨rfl, k3⟩)
          have BX2 := Lib.hid (BX1.out.step k3)
          obtain ⟨p0, p1⟩ := FACT.out _ BX2.out.bel
          clear k3 o0 o1 PC BX1
          go_upto_region 10 with (fail)
          have BD := Lib.hid (BX2.out.step (Below.refl _ _).drew)
          have HSD := Lib.hid (FACT1.out _ BD.out.bel)
          refine wp_region_held_drew (S := fun w' => w'.cell? ⟨gb, off + j * 2, none⟩ = some (.string x.p)) (by kernel_rfl) (by exact HSD.out) (fun hHeld => ?_)
          refine wpAnyH_take (i := 1) (oi := ⟨some 45, _, _, _, _, _⟩) (v := .slice (some ⟨gb, off, none⟩) l.length c) rfl (by kernel_rfl) (by kernel_rfl) (by kernel_rfl) (fun _ _ _ h => h) (Or.inl ⟨by rfl, ?_⟩) (by assumption) ?_
          · intro w hSw; (try dsimp only at hSw); go_simp
          simp only [Act.put, List.setIfInBounds_toArray, List.set_cons_zero, List.set_cons_succ]
          refine wpAnyH_take (i := 2) (oi := ⟨some 46, _, _, _, _, _⟩) (v := .int .i64 (j : Int)) rfl (by kernel_rfl) (by kernel_rfl) (by kernel_rfl) (fun _ _ _ h => h) (Or.inl ⟨by rfl, ?_⟩) (by assumption) ?_
          · intro w hSw; (try dsimp only at hSw); go_simp
          simp only [Act.put, List.setIfInBounds_toArray, List.set_cons_zero, List.set_cons_succ]
          refine wpAnyH_take (i := 3) (oi := ⟨some 47, _, _, _, _, _⟩) (v := .pointer (some ⟨gb, off + j * 2, none⟩)) rfl (by kernel_rfl) (by kernel_rfl) (by kernel_rfl) (fun _ _ _ h => h) (Or.inl ⟨by rfl, ?_⟩) (by assumption) ?_
          · intro w hSw; (try dsimp only at hSw); go_simp
          simp only [Act.put, List.setIfInBounds_toArray, List.set_cons_zero, List.set_cons_succ]
          refine wpAnyH_take (i := 4) (oi := ⟨some 48, _, _, _, _, _⟩) (v := .pointer (some ⟨gb, off + j * 2, none⟩)) rfl (by kernel_rfl) (by kernel_rfl) (by kernel_rfl) (fun _ _ _ h => h) (Or.inl ⟨by rfl, ?_⟩) (by assumption) ?_
          · intro w hSw; (try dsimp only at hSw); go_simp
          simp only [Act.put, List.setIfInBounds_toArray, List.set_cons_zero, List.set_cons_succ]
          refine wpAnyH_take (i := 5) (oi := ⟨some 49, _, _, _, _, _⟩) (v := .string x.p) rfl (by kernel_rfl) (by kernel_rfl) (by kernel_rfl) (fun _ _ _ h => h) (Or.inl ⟨by rfl, ?_⟩) (by assumption) ?_
          · intro w hSw; (try dsimp only at hSw); go_simp
          simp only [Act.put, List.setIfInBounds_toArray, List.set_cons_zero, List.set_cons_succ]
          refine wpAnyH_ready (rs := [0]) (by kernel_rfl) (by simp) ?_
          refine AllReadyH.cons (o := ⟨some 44, _, _, _, _, _⟩) rfl (fun K0 hK => ?_) AllReadyH.nil
          have y := BD.out.load
          have HBX := Lib.hid BD.out.box
          go_simp
          refine hK.out _ _ HSD.out (fun hHeld => ?_)
          clear hK K0 y HBX
          refine wpAnyH_ready (rs := [6]) (by kernel_rfl) (by simp) ?_
          refine AllReadyH.cons (o := ⟨some 50, _, _, _, _, _⟩) rfl (fun K0 hK => ?_) AllReadyH.nil
          go_simp
          refine (FI.out _ _ _ _ _ BD.out.ref (by have := HML.out; have := HLT.out; have := HL48.out; omega) HSM.out).mono ?_
          rw [← HF.out]
          rintro e w5 ⟨rfl, b5⟩
          have BX5 := Lib.hid (BD.out.step b5)
          have HS5 := Lib.hid (FACT1.out _ BX5.out.bel)
          clear b5
          refine hK.out _ _ HS5.out (fun hHeld => ?_)
          clear hK K0
          try simp only [Act.put, List.setIfInBounds_toArray, List.set_cons_zero, List.set_cons_succ]
          refine wpAnyH_take (i := 7) (oi := ⟨some 43, _, _, _, _, _⟩) (v := .tuple #[.int .i64 (Om.pos x.p m : Nat), .bool f]) rfl (by kernel_rfl) (by kernel_rfl) (by kernel_rfl) (fun _ _ _ h => h) (Or.inl ⟨by rfl, ?_⟩) (by assumption) ?_
          · intro w hSw; (try dsimp only at hSw); go_simp
          simp only [Act.put, List.setIfInBounds_toArray, List.set_cons_zero, List.set_cons_succ]
          refine wpAnyH_take (i := 8) (oi := ⟨some 51, _, _, _, _, _⟩) (v := .int .i64 (Om.pos x.p m : Nat)) rfl (by kernel_rfl) (by kernel_rfl) (by kernel_rfl) (fun _ _ _ h => h) (Or.inl ⟨by rfl, ?_⟩) (by assumption) ?_
          · intro w hSw; (try dsimp only at hSw); go_simp
          simp only [Act.put, List.setIfInBounds_toArray, List.set_cons_zero, List.set_cons_succ]
          refine wpAnyH_take (i := 9) (oi := ⟨some 52, _, _, _, _, _⟩) (v := .bool f) rfl (by kernel_rfl) (by kernel_rfl) (by kernel_rfl) (fun _ _ _ h => h) (Or.inl ⟨by rfl, ?_⟩) (by assumption) ?_
          · intro w hSw; (try dsimp only at hSw); go_simp
          simp only [Act.put, List.setIfInBounds_toArray, List.set_cons_zero, List.set_cons_succ]
          refine wpAnyH_take (i := 10) (oi := ⟨some 9, _, _, _, _, _⟩) (v := .int .i64 (Om.pos x.p m : Nat)) rfl (by kernel_rfl) (by kernel_rfl) (by kernel_rfl) (fun _ _ _ h => h) (Or.inl ⟨by rfl, ?_⟩) (by assumption) ?_
          · intro w hSw; (try dsimp only at hSw); go_simp
          simp only [Act.put, List.setIfInBounds_toArray, List.set_cons_zero, List.set_cons_succ]
          refine wpAnyH_take (i := 11) (oi := ⟨some 10, _, _, _, _, _⟩) (v := .bool f) rfl (by kernel_rfl) (by kernel_rfl) (by kernel_rfl) (fun _ _ _ h => h) (Or.inl ⟨by rfl, ?_⟩) (by assumption) ?_
          · intro w hSw; (try dsimp only at hSw); go_simp
          simp only [Act.put, List.setIfInBounds_toArray, List.set_cons_zero, List.set_cons_succ]
          refine wpAnyH_done (by kernel_rfl) ?_ _
          clear hHeld HSD HS5 BD BX2 p0 p1
          cases f with
          | true =>
            have HRR : Hid (R = ([], 5)) := by show _ = _; rw [← HRD.out]; exact Om.ofL_there HFX.out HF.out.symm
            have r0 := Sm.cells_of BX5.out.res 0 _ rfl
            have f0 := Sm.free_of BX5.out.res 0
            have LA := Lib.hid (BX5.out.last (.slice none 0 0))
            have rz := Sm.cells_of LA.out.2.2 0 _ rfl
            go_wp2_with fail
            refine bodyPost_ret (v := .tuple #[.agg #[.slice none 0 0], .int .i64 5]) ((Om.results_ct rfl _ _ _).trans (by go_simp)) rfl ?_
            rw [HRR.out]
            exact ⟨none, 0, rfl, Om.Ref.nil _, LA.out.2.1⟩
          | false =>
            have HNX : Hid (Om.ofL (Om.put x.p x.v m) (l.drop (j + 1)) = R) := by show _ = _; rw [← HRD.out, Om.ofL_more HFX.out HF.out.symm]
            have HMB : Hid (m.length ≤ 900) := by show m.length ≤ 900; have := HML.out; have := HLT.out; have := HL48.out; omega
            have HSN : Hid (Om.Small (Om.put x.p x.v m)) := HSM.out.put HXP.out
            go_upto_region 13 with (fail)
            have BD := Lib.hid (BX5.out.step (Below.refl _ _).drew)
            have HSD := Lib.hid (FACT.out _ BD.out.bel)
            refine wp_region_held_drew (S := fun w' => w'.cell? ⟨gb, off + j * 2, none⟩ = some (.string x.p) ∧ w'.cell? ⟨gb, off + j * 2 + 1, none⟩ = some (.string x.v)) (by kernel_rfl) (by exact HSD.out) (fun hHeld => ?_)
            refine wpAnyH_take (i := 1) (oi := ⟨some 56, _, _, _, _, _⟩) (v := .slice (some ⟨gb, off, none⟩) l.length c) rfl (by kernel_rfl) (by kernel_rfl) (by kernel_rfl) (fun _ _ _ h => h) (Or.inl ⟨by rfl, ?_⟩) (by assumption) ?_
            · intro w hSw; (try dsimp only at hSw); go_simp
            simp only [Act.put, List.setIfInBounds_toArray, List.set_cons_zero, List.set_cons_succ]
            refine wpAnyH_take (i := 2) (oi := ⟨some 57, _, _, _, _, _⟩) (v := .int .i64 (j : Int)) rfl (by kernel_rfl) (by kernel_rfl) (by kernel_rfl) (fun _ _ _ h => h) (Or.inl ⟨by rfl, ?_⟩) (by assumption) ?_
            · intro w hSw; (try dsimp only at hSw); go_simp
            simp only [Act.put, List.setIfInBounds_toArray, List.set_cons_zero, List.set_cons_succ]
            refine wpAnyH_take (i := 3) (oi := ⟨some 58, _, _, _, _, _⟩) (v := .pointer (some ⟨gb, off + j * 2, none⟩)) rfl (by kernel_rfl) (by kernel_rfl) (by kernel_rfl) (fun _ _ _ h => h) (Or.inl ⟨by rfl, ?_⟩) (by assumption) ?_
            · intro w hSw; (try dsimp only at hSw); go_simp
            simp only [Act.put, List.setIfInBounds_toArray, List.set_cons_zero, List.set_cons_succ]
            refine wpAnyH_take (i := 4) (oi := ⟨some 59, _, _, _, _, _⟩) (v := .pointer (some ⟨gb, off + j * 2, none⟩)) rfl (by kernel_rfl) (by kernel_rfl) (by kernel_rfl) (fun _ _ _ h => h) (Or.inl ⟨by rfl, ?_⟩) (by assumption) ?_
            · intro w hSw; (try dsimp only at hSw); go_simp
            simp only [Act.put, List.setIfInBounds_toArray, List.set_cons_zero, List.set_cons_succ]
            refine wpAnyH_take (i := 5) (oi := ⟨some 60, _, _, _, _, _⟩) (v := .string x.p) rfl (by kernel_rfl) (by kernel_rfl) (by kernel_rfl) (fun _ _ _ h => h) (Or.inl ⟨by rfl, ?_⟩) (by assumption) ?_
            · intro w hSw; (try dsimp only at hSw); go_simp
            simp only [Act.put, List.setIfInBounds_toArray, List.set_cons_zero, List.set_cons_succ]
            refine wpAnyH_take (i := 6) (oi := ⟨some 61, _, _, _, _, _⟩) (v := .slice (some ⟨gb, off, none⟩) l.length c) rfl (by kernel_rfl) (by kernel_rfl) (by kernel_rfl) (fun _ _ _ h => h) (Or.inl ⟨by rfl, ?_⟩) (by assumption) ?_
            · intro w hSw; (try dsimp only at hSw); go_simp
            simp only [Act.put, List.setIfInBounds_toArray, List.set_cons_zero, List.set_cons_succ]
            refine wpAnyH_take (i := 7) (oi := ⟨some 62, _, _, _, _, _⟩) (v := .int .i64 (j : Int)) rfl (by kernel_rfl) (by kernel_rfl) (by kernel_rfl) (fun _ _ _ h => h) (Or.inl ⟨by rfl, ?_⟩) (by assumption) ?_
            · intro w hSw; (try dsimp only at hSw); go_simp
            simp only [Act.put, List.setIfInBounds_toArray, List.set_cons_zero, List.set_cons_succ]
            refine wpAnyH_take (i := 8) (oi := ⟨some 63, _, _, _, _, _⟩) (v := .pointer (some ⟨gb, off + j * 2, none⟩)) rfl (by kernel_rfl) (by kernel_rfl) (by kernel_rfl) (fun _ _ _ h => h) (Or.inl ⟨by rfl, ?_⟩) (by assumption) ?_
            · intro w hSw; (try dsimp only at hSw); go_simp
            simp only [Act.put, List.setIfInBounds_toArray, List.set_cons_zero, List.set_cons_succ]
            refine wpAnyH_take (i := 9) (oi := ⟨some 64, _, _, _, _, _⟩) (v := .pointer (some ⟨gb, off + j * 2 + 1, none⟩)) rfl (by kernel_rfl) (by kernel_rfl) (by kernel_rfl) (fun _ _ _ h => h) (Or.inl ⟨by rfl, ?_⟩) (by assumption) ?_
            · intro w hSw; (try dsimp only at hSw); go_simp
            simp only [Act.put, List.setIfInBounds_toArray, List.set_cons_zero, List.set_cons_succ]
            refine wpAnyH_take (i := 10) (oi := ⟨some 65, _, _, _, _, _⟩) (v := .string x.v) rfl (by kernel_rfl) (by kernel_rfl) (by kernel_rfl) (fun _ _ _ h => h) (Or.inl ⟨by rfl, ?_⟩) (by assumption) ?_
            · intro w hSw; (try dsimp only at hSw); go_simp
            simp only [Act.put, List.setIfInBounds_toArray, List.set_cons_zero, List.set_cons_succ]
            refine wpAnyH_ready (rs := [0]) (by kernel_rfl) (by simp) ?_
            refine AllReadyH.cons (o := ⟨some 55, _, _, _, _, _⟩) rfl (fun K0 hK => ?_) AllReadyH.nil
            have y := BD.out.load
            have HBX := Lib.hid BD.out.box
            go_simp
            refine hK.out _ _ HSD.out (fun hHeld => ?_)
            clear hK K0 y HBX
            refine wpAnyH_ready (rs := [11]) (by kernel_rfl) (by simp) ?_
            refine AllReadyH.cons (o := ⟨some 66, _, _, _, _, _⟩) rfl (fun K0 hK => ?_) AllReadyH.nil
            go_simp
            refine (WI.out _ _ _ _ _ _ BD.out.ref HMB.out HSM.out).mono ?_
            rintro e w6 ⟨B6, k6, rfl, rr6, ff6, bb6⟩
            have HB5 := Lib.hid (BD.out.step bb6)
            have BX5 := Lib.hid (BD.out.put bb6 rr6 ff6)
            have HS5 := Lib.hid (FACT.out _ HB5.out.bel)
            have FN := Lib.hid ff6
            clear rr6 ff6 bb6
            refine hK.out _ _ HS5.out (fun hHeld => ?_)
            clear hK K0
            refine wpAnyH_ready (rs := [12]) (by kernel_rfl) (by simp) ?_
            refine AllReadyH.cons (o := ⟨none, _, _, _, _, _⟩) rfl (fun K0 hK => ?_) AllReadyH.nil
            have y := HB5.out.load
            have f := Sm.free_of HB5.out.box 0
            go_simp
            have HS6 := Lib.hid (FACT.out _ BX5.out.bel)
            refine hK.out _ _ HS6.out (fun hHeld => ?_)
            clear hK K0 y f hHeld HSD HS5 HS6 HB5 BD
            refine wpAnyH_done (by kernel_rfl) ?_ _
            go_wp2
            go_roundw
            case rel =>
              refine ⟨j + 1, B6, k6, _, rfl, HLT.out, BX5.out, ?_, HSN.out, HNX.out⟩
              rw [Om.put_length]; have := HML.out; split <;> omega
            case measure => simp only [intOf]; have := HLT.out; omega
        · have hvi : (32 : Int) < (x.v.size : Int) := by omega
          have HRR : Hid (R = ([], 1)) := by show _ = _; rw [← HRD.out]; exact Om.ofL_bad (fun e => hv e.2)
          clear hpo hv
          go_upto_region 8 with (go_at_call 39; refine PC.out.mono ?_; rintro e w3 ⟨rfl, k3⟩)
          have B3 := Lib.hid (BX1.out.step k3)
          obtain ⟨p0, p1⟩ := FACT.out _ B3.out.bel
          have r0 := Sm.cells_of B3.out.res 0 _ rfl
          have f0 := Sm.free_of B3.out.res 0
          have LA := Lib.hid (B3.out.last (.slice none 0 0))
          have rz := Sm.cells_of LA.out.2.2 0 _ rfl
          clear k3
          go_wp2_with fail
          refine bodyPost_ret (v := .tuple #[.agg #[.slice none 0 0], .int .i64 1]) ((Om.results_ct rfl _ _ _).trans (by go_simp)) rfl ?_
          rw [HRR.out]
          exact ⟨none, 0, rfl, Om.Ref.nil _, LA.out.2.1⟩
    · have hje : j = l.length := by omega
      have hd' := hd.out
      rw [hje, List.drop_length, Om.ofL_nil] at hd'
      have HDD : Hid ((m, 0) = R) := hd'
      clear hj hd hd'
      subst hje
      have z := BX1.out.load
      have r0 := Sm.cells_of BX1.out.res 0 _ rfl
      have f0 := Sm.free_of BX1.out.res 0
      have LA := Lib.hid (BX1.out.last (.slice B m.length k))
      have rz := Sm.cells_of LA.out.2.2 0 _ rfl
      go_wp2_with fail
      refine bodyPost_ret (v := .tuple #[.agg #[.slice B m.length k], .int .i64 0]) ((Om.results_ct rfl _ _ _).trans (by go_simp)) rfl ?_
      rw [← HDD.out]
      exact ⟨B, k, rfl, LA.out.1, LA.out.2.1⟩
end Go.Proofs.Ytehkbffbehlpnaa
