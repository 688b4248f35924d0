/-
  The document's Filter.
-/
import Derived.Test.YtehkbffbehlpnaaR13Of
import Derived.Test.YtehkbffbehlpnaaPaRefOf
import Derived.Test.YtehkbffbehlpnaaOmTells
namespace Go.Proofs.Ytehkbffbehlpnaa
open Go.RowKit
set_option maxRecDepth 100000 in
set_option maxHeartbeats 4000000 in
theorem r13Filter_any {w : World} {A : Option Addr} {c : Nat} {l : List Om.Pr} (h : Om.Ref w A c l) (hG : Om.Good l) {C : Option Addr} {L : List Pa.Mo} (d : Nat) (hmo : Pa.listAt w C L) (hL : L.length ≤ 9223372036854775807) :
    Calls Try.prog 29 #[.agg #[.slice A l.length c], .slice C L.length d] w fun e w' => ∃ B k, e = .returned (.agg #[.slice B (Om.filt (Om.ships L) l).length k]) ∧ Om.Row w' w.heap.size B k (Om.filt (Om.ships L) l) ∧ Below w.heap.size w w' := by
  obtain ⟨w2, hw2⟩ : ∃ w2, w2 = (w.alloc (.cells #[.slice A l.length c] 32)).alloc (.cells #[.slice none 0 0] 32) := ⟨_, rfl⟩
  obtain ⟨w1, hw1⟩ : ∃ w1, w1 = w2.alloc (.cells #[.slice none 0 0] 32) := ⟨_, rfl⟩
  obtain ⟨N, hN⟩ : ∃ N, N = w.heap.size := ⟨_, rfl⟩
  obtain ⟨K, hK⟩ : ∃ K, K = N + 2 := ⟨_, rfl⟩
  have hs2 : w2.heap.size = N + 2 := by rw [hw2, hN]; simp
  have HN := Lib.hid hN
  have MK := Om.Way.made h (W := w2) (by rw [← hw2]; exact Below.refl _ _)
  rw [hs2, ← hw1, ← hN, ← hK] at MK
  have WY0 := Lib.hid MK.1
  have OUT0 := Lib.hid MK.2
  obtain ⟨s, hs⟩ : ∃ s, s = Om.ships L := ⟨_, rfl⟩
  have SH : Hid (∀ (wx : World) (p : ByteArray), Below N w wx → p.size ≤ 281474976710656 → Calls Try.prog 52 #[.slice C L.length d, .string p] wx fun e w' => e = .returned (.bool (s p)) ∧ Below wx.heap.size wx w') := fun wx p hb hp => by
    have := r11Ships_any d (hmo.below (by rw [← hN]; exact hb)) hL p hp
    rw [hs]
    exact this
  have HSRC : Hid (∀ b off, A = some ⟨b, off, none⟩ → l ≠ [] → b < N) := fun b off e h0 => by
    rcases h.1 with e1 | ⟨b', o', e1, e2, _⟩
    · exact absurd e1 h0
    · rw [e] at e1
      simp only [Option.some.injEq, Addr.mk.injEq] at e1
      omega
  have HG := Lib.hid hG
  have hl48 := hG.len
  have HL := Lib.hid hl48
  rw [← hs, ← hN]
  have HKI : Hid (N + 1 + 1 = K) := hK.symm
  have HW2 := Lib.hid hw2
  have HW1 := Lib.hid hw1
  clear h hG hmo hs hK MK hl48 hs2 hw2 hw1 hN
  go_enter Try.func29, Try.ntmps29
  go_upto_region 2 with (fail)
  rw [← HW2.out, ← HW1.out, ← HN.out, HKI.out]
  clear HW2 HW1 HKI
  go_wp2
  go_loopw [6] (fun s6 wr => ∃ (k : Nat) (B : Option Addr) (q : Nat) (m : List Om.Pr), s6 = .int .i64 k ∧ k ≤ l.length ∧ Om.Way w wr N K A c l B q m ∧ wr.heap[K]? = some (.cells #[.slice B m.length q] 32 (0, 0)) ∧ Hid (m = Om.filt s (l.take k)) ∧ m.length ≤ k) (fun v _ => l.length - (intOf v).toNat)
  case atStart => exact ⟨0, none, 0, [], rfl, Nat.zero_le _, WY0.out, OUT0.out, rfl, Nat.le_refl _⟩
  case round =>
    clear WY0 OUT0
    obtain ⟨k, B, q, m, rfl, hk, hw, ho, hm, hmk⟩ := hrel
    have W1 := Lib.hid hw
    have O1 := Lib.hid ho
    have HMK := Lib.hid hmk
    have z := Sm.cells_of hw.box 0 _ rfl
    clear hw ho hmk
    by_cases hlt : k < l.length
    · have hki : (k : Int) < (l.length : Int) := by omega
      have hsuc : IntKind.i64.wrap ((k : Int) + 1) = ((k + 1 : Nat) : Int) := by have := HL.out; simp [IntKind.wrap, IntKind.bits, IntKind.signed]; omega
      obtain ⟨gb, off, rfl, -, o0, o1⟩ := W1.out.src.1.get (Below.refl _ _) k hlt
      have hst : Om.filt s (l.take (k + 1)) = m ++ (if s l[k].p then [l[k]] else []) := by
        rw [hm.out, List.take_succ_eq_append_getElem hlt]
        unfold Om.filt
        rw [List.filter_append, List.filter_cons, List.filter_nil]
      have CS := Lib.hid (SH.out wr l[k].p W1.out.bel (by have := HG.out.path (List.getElem_mem hlt); omega))
      have FACT : Hid (∀ wx : World, (∃ B k m, Om.Way w wx N K (some ⟨gb, off, none⟩) c l B k m) → wx.cell? ⟨gb, off + k * 2, none⟩ = some (.string l[k].p) ∧ wx.cell? ⟨gb, off + k * 2 + 1, none⟩ = some (.string l[k].v)) := fun wx hx => by
        obtain ⟨_, _, _, hx⟩ := hx
        obtain ⟨b', o', e', -, q0, q1⟩ := hx.src.1.get (Below.refl _ _) k hlt
        simp only [Option.some.injEq, Addr.mk.injEq] at e'
        obtain ⟨rfl, rfl, _⟩ := e'
        exact ⟨q0, q1⟩
      obtain ⟨x, hx⟩ : ∃ x, x = l[k] := ⟨_, rfl⟩
      rw [← hx] at o0 o1 hst CS FACT
      have HST := Lib.hid hst
      have HLT := Lib.hid hlt
      clear hst hm hx
      clear hlt
      cases hsx : s x.p with
      | false =>
        rw [hsx] at CS HST
        clear hsx
        go_wp2_with (go_at_call 52; refine CS.out.mono ?_; rintro e w3 ⟨rfl, k3⟩)
        have W3 := Lib.hid (W1.out.step k3)
        have O3 := Lib.hid ((k3.block K (Sm.lt_of (show _ = _ from O1.out))).trans O1.out)
        clear k3
        go_roundw
        case rel =>
          refine ⟨k + 1, B, q, m, rfl, HLT.out, W3.out, O3.out, ?_, by have := HMK.out; omega⟩
          show _ = _
          rw [HST.out]; simp
        case measure => simp only [intOf]; have := HLT.out; omega
      | true =>
        rw [hsx] at CS HST
        clear hsx
        go_upto_region 6 with (go_at_call 52; refine CS.out.mono ?_; rintro e w3 ⟨rfl, k3⟩)
        have W3 := Lib.hid (W1.out.step k3)
        have O3 := Lib.hid ((k3.block K (Sm.lt_of (show _ = _ from O1.out))).trans O1.out)
        clear k3 o0 o1 z
        have WD := Lib.hid (W3.out.step (Below.refl _ _).drew)
        have OUTD : Hid (w3.drew.heap[K]? = some (.cells #[.slice B m.length q] 32 (0, 0))) := O3.out
        have HSD : Hid ((fun wx : World => wx.cell? ⟨N, 0, none⟩ = some (.slice (some ⟨gb, off, none⟩) l.length c) ∧ wx.cell? ⟨gb, off + k * 2, none⟩ = some (.string x.p) ∧ wx.cell? ⟨gb, off + k * 2 + 1, none⟩ = some (.string x.v)) w3.drew) := ⟨Sm.cells_of WD.out.box 0 _ rfl, FACT.out _ ⟨_, _, _, WD.out⟩⟩
        refine wp_region_held_drew (S := fun wx : World => wx.cell? ⟨N, 0, none⟩ = some (.slice (some ⟨gb, off, none⟩) l.length c) ∧ wx.cell? ⟨gb, off + k * 2, none⟩ = some (.string x.p) ∧ wx.cell? ⟨gb, off + k * 2 + 1, none⟩ = some (.string x.v)) (by kernel_rfl) (by exact HSD.out) (fun hHeld => ?_)
        refine wpAnyH_take (i := 0) (oi := ⟨some 22, _, _, _, _, _⟩) (v := .pointer (some ⟨K, 0, none⟩)) rfl (by kernel_rfl) (by kernel_rfl) (by kernel_rfl) (fun _ _ _ h => h) (Or.inl ⟨by rfl, ?_⟩) (by assumption) ?_
        · intro w hSw; (try dsimp only at hSw); go_simp
        simp only [Act.put, List.setIfInBounds_toArray, List.set_cons_zero, List.set_cons_succ]
        refine wpAnyH_take (i := 2) (oi := ⟨some 24, _, _, _, _, _⟩) (v := .pointer (some ⟨N, 0, none⟩)) rfl (by kernel_rfl) (by kernel_rfl) (by kernel_rfl) (fun _ _ _ h => h) (Or.inl ⟨by rfl, ?_⟩) (by assumption) ?_
        · intro w hSw; (try dsimp only at hSw); go_simp
        simp only [Act.put, List.setIfInBounds_toArray, List.set_cons_zero, List.set_cons_succ]
        refine wpAnyH_take (i := 3) (oi := ⟨some 25, _, _, _, _, _⟩) (v := .slice (some ⟨gb, off, none⟩) l.length c) rfl (by kernel_rfl) (by kernel_rfl) (by kernel_rfl) (fun _ _ _ h => h) (Or.inl ⟨by rfl, ?_⟩) (by assumption) ?_
        · intro w hSw; (try dsimp only at hSw); go_simp
        simp only [Act.put, List.setIfInBounds_toArray, List.set_cons_zero, List.set_cons_succ]
        refine wpAnyH_take (i := 4) (oi := ⟨some 26, _, _, _, _, _⟩) (v := .int .i64 (k : Int)) rfl (by kernel_rfl) (by kernel_rfl) (by kernel_rfl) (fun _ _ _ h => h) (Or.inl ⟨by rfl, ?_⟩) (by assumption) ?_
        · intro w hSw; (try dsimp only at hSw); go_simp
        simp only [Act.put, List.setIfInBounds_toArray, List.set_cons_zero, List.set_cons_succ]
        refine wpAnyH_take (i := 5) (oi := ⟨some 27, _, _, _, _, _⟩) (v := .pointer (some ⟨gb, off + k * 2, none⟩)) rfl (by kernel_rfl) (by kernel_rfl) (by kernel_rfl) (fun _ _ _ h => h) (Or.inl ⟨by rfl, ?_⟩) (by assumption) ?_
        · intro w hSw; (try dsimp only at hSw); go_simp
        simp only [Act.put, List.setIfInBounds_toArray, List.set_cons_zero, List.set_cons_succ]
        refine wpAnyH_take (i := 6) (oi := ⟨some 28, _, _, _, _, _⟩) (v := .agg #[.string x.p, .string x.v]) rfl (by kernel_rfl) (by kernel_rfl) (by kernel_rfl) (fun _ _ _ h => h) (Or.inl ⟨by rfl, ?_⟩) (by assumption) ?_
        · intro w hSw; (try dsimp only at hSw); go_simp
        simp only [Act.put, List.setIfInBounds_toArray, List.set_cons_zero, List.set_cons_succ]
        refine wpAnyH_ready (rs := [1, 7]) (by kernel_rfl) (by simp) ?_
        refine AllReadyH.cons (o := ⟨some 23, _, _, _, _, _⟩) rfl (fun K0 hK => ?_) (AllReadyH.cons (o := ⟨some 29, _, _, _, _, _⟩) rfl (fun K0 hK => ?_) AllReadyH.nil)
        · have y := Sm.cells_of (show _ = _ from OUTD.out) 0 _ rfl
          go_simp
          refine hK.out _ _ (HSD.out) (fun hHeld => ?_)
          clear hK K0 y
          refine wpAnyH_ready (rs := [7]) (by kernel_rfl) (by simp) ?_
          refine AllReadyH.cons (o := ⟨some 29, _, _, _, _, _⟩) rfl (fun K0 hK => ?_) AllReadyH.nil
          go_simp
          have WAL := Lib.hid (WD.out.step ((Below.refl _ _).alloc (Nat.le_refl _) (.cells #[.string x.p, .string x.v] 62)))
          have GAL := Lib.hid (heap_alloc_new w3.drew (.cells #[.string x.p, .string x.v] 62))
          have OAL := Lib.hid ((Below.heap_alloc w3.drew (.cells #[.string x.p, .string x.v] 62) K (Sm.lt_of (show _ = _ from OUTD.out))).trans OUTD.out)
          have FAL := Lib.hid (FACT.out _ ⟨_, _, _, WAL.out⟩)
          refine hK.out _ _ ⟨Sm.cells_of WAL.out.box 0 _ rfl, FAL.out⟩ (fun hHeld => ?_)
          clear hK K0
          refine wpAnyH_ready (rs := [8]) (by kernel_rfl) (by simp) ?_
          refine AllReadyH.cons (o := ⟨some 30, _, _, _, _, _⟩) rfl (fun K0 hK => ?_) AllReadyH.nil
          rw [if_pos (by simp [Region.wanted])]
          refine Om.wp_push0 (.tmp 23) (.tmp 29) rfl rfl WAL.out.row x rfl GAL.out (by have := HMK.out; have := HLT.out; have := HL.out; omega) WAL.out.low ?_
          intro B5 k5 w5 hr5 hg5
          have W5 := Lib.hid (WAL.out.push HSRC.out hr5 hg5)
          have F5 := Lib.hid (FACT.out _ ⟨_, _, _, W5.out⟩)
          clear hr5 hg5
          refine hK.out _ _ ⟨Sm.cells_of W5.out.box 0 _ rfl, F5.out⟩ (fun hHeld => ?_)
          clear hK K0
          try simp only [Act.put, List.setIfInBounds_toArray, List.set_cons_zero, List.set_cons_succ]
          refine wpAnyH_take (i := 9) (oi := ⟨some 31, _, _, _, _, _⟩) (v := .pointer (some ⟨K, 0, none⟩)) rfl (by kernel_rfl) (by kernel_rfl) (by kernel_rfl) (fun _ _ _ h => h) (Or.inl ⟨by rfl, ?_⟩) (by assumption) ?_
          · intro w hSw; (try dsimp only at hSw); go_simp
          simp only [Act.put, List.setIfInBounds_toArray, List.set_cons_zero, List.set_cons_succ]
          refine wpAnyH_ready (rs := [10]) (by kernel_rfl) (by simp) ?_
          refine AllReadyH.cons (o := ⟨none, _, _, _, _, _⟩) rfl (fun K0 hK => ?_) AllReadyH.nil
          obtain ⟨v5, hv5⟩ := W5.out.out
          have y := Sm.cells_of hv5 0 _ rfl
          have f := Sm.free_of hv5 0
          go_simp
          have WN : Hid (Om.Way w (w5.setCell ⟨K, 0, none⟩ (.slice B5 (m.length + 1) k5)) N K (some ⟨gb, off, none⟩) c l B5 k5 (m ++ [x])) := (W5.out.set HSRC.out _).1
          have ON : Hid ((w5.setCell ⟨K, 0, none⟩ (.slice B5 (m.length + 1) k5)).heap[K]? = some (.cells #[.slice B5 (m.length + 1) k5] 32 (0, 0))) := (W5.out.set HSRC.out _).2
          have FN := Lib.hid (FACT.out _ ⟨_, _, _, WN.out⟩)
          refine hK.out _ _ ⟨Sm.cells_of WN.out.box 0 _ rfl, FN.out⟩ (fun hHeld => ?_)
          clear hK K0 y f hv5 hHeld
          generalize (w5.setCell ⟨K, 0, none⟩ (.slice B5 (m.length + 1) k5)) = w9 at WN ON ⊢
          refine wpAnyH_done (by kernel_rfl) ?_ _
          go_wp2
          go_roundw
          case rel =>
            refine ⟨k + 1, B5, k5, m ++ [x], rfl, HLT.out, WN.out, by rw [List.length_append]; exact ON.out, ?_, by rw [List.length_append]; simp; exact HMK.out⟩
            show _ = _
            rw [HST.out]; simp
          case measure => simp only [intOf]; have := HLT.out; omega
        · go_simp
          have WAL := Lib.hid (WD.out.step ((Below.refl _ _).alloc (Nat.le_refl _) (.cells #[.string x.p, .string x.v] 62)))
          have GAL := Lib.hid (heap_alloc_new w3.drew (.cells #[.string x.p, .string x.v] 62))
          have OAL := Lib.hid ((Below.heap_alloc w3.drew (.cells #[.string x.p, .string x.v] 62) K (Sm.lt_of (show _ = _ from OUTD.out))).trans OUTD.out)
          have FAL := Lib.hid (FACT.out _ ⟨_, _, _, WAL.out⟩)
          refine hK.out _ _ ⟨Sm.cells_of WAL.out.box 0 _ rfl, FAL.out⟩ (fun hHeld => ?_)
          clear hK K0
          refine wpAnyH_ready (rs := [1]) (by kernel_rfl) (by simp) ?_
          refine AllReadyH.cons (o := ⟨some 23, _, _, _, _, _⟩) rfl (fun K0 hK => ?_) AllReadyH.nil
          have y := Sm.cells_of (show _ = _ from OAL.out) 0 _ rfl
          have y2 : ((w3.alloc (.cells #[.string x.p, .string x.v] 62)).drew).cell? ⟨K, 0, none⟩ = some (.slice B m.length q) := y
          go_simp
          refine hK.out _ _ (⟨Sm.cells_of WAL.out.box 0 _ rfl, FAL.out⟩) (fun hHeld => ?_)
          clear hK K0 y y2
          refine wpAnyH_ready (rs := [8]) (by kernel_rfl) (by simp) ?_
          refine AllReadyH.cons (o := ⟨some 30, _, _, _, _, _⟩) rfl (fun K0 hK => ?_) AllReadyH.nil
          rw [if_pos (by simp [Region.wanted])]
          refine Om.wp_push0 (.tmp 23) (.tmp 29) rfl rfl WAL.out.row x rfl GAL.out (by have := HMK.out; have := HLT.out; have := HL.out; omega) WAL.out.low ?_
          intro B5 k5 w5 hr5 hg5
          have W5 := Lib.hid (WAL.out.push HSRC.out hr5 hg5)
          have F5 := Lib.hid (FACT.out _ ⟨_, _, _, W5.out⟩)
          clear hr5 hg5
          refine hK.out _ _ ⟨Sm.cells_of W5.out.box 0 _ rfl, F5.out⟩ (fun hHeld => ?_)
          clear hK K0
          try simp only [Act.put, List.setIfInBounds_toArray, List.set_cons_zero, List.set_cons_succ]
          refine wpAnyH_take (i := 9) (oi := ⟨some 31, _, _, _, _, _⟩) (v := .pointer (some ⟨K, 0, none⟩)) rfl (by kernel_rfl) (by kernel_rfl) (by kernel_rfl) (fun _ _ _ h => h) (Or.inl ⟨by rfl, ?_⟩) (by assumption) ?_
          · intro w hSw; (try dsimp only at hSw); go_simp
          simp only [Act.put, List.setIfInBounds_toArray, List.set_cons_zero, List.set_cons_succ]
          refine wpAnyH_ready (rs := [10]) (by kernel_rfl) (by simp) ?_
          refine AllReadyH.cons (o := ⟨none, _, _, _, _, _⟩) rfl (fun K0 hK => ?_) AllReadyH.nil
          obtain ⟨v5, hv5⟩ := W5.out.out
          have y := Sm.cells_of hv5 0 _ rfl
          have f := Sm.free_of hv5 0
          go_simp
          have WN : Hid (Om.Way w (w5.setCell ⟨K, 0, none⟩ (.slice B5 (m.length + 1) k5)) N K (some ⟨gb, off, none⟩) c l B5 k5 (m ++ [x])) := (W5.out.set HSRC.out _).1
          have ON : Hid ((w5.setCell ⟨K, 0, none⟩ (.slice B5 (m.length + 1) k5)).heap[K]? = some (.cells #[.slice B5 (m.length + 1) k5] 32 (0, 0))) := (W5.out.set HSRC.out _).2
          have FN := Lib.hid (FACT.out _ ⟨_, _, _, WN.out⟩)
          refine hK.out _ _ ⟨Sm.cells_of WN.out.box 0 _ rfl, FN.out⟩ (fun hHeld => ?_)
          clear hK K0 y f hv5 hHeld
          generalize (w5.setCell ⟨K, 0, none⟩ (.slice B5 (m.length + 1) k5)) = w9 at WN ON ⊢
          refine wpAnyH_done (by kernel_rfl) ?_ _
          go_wp2
          go_roundw
          case rel =>
            refine ⟨k + 1, B5, k5, m ++ [x], rfl, HLT.out, WN.out, by rw [List.length_append]; exact ON.out, ?_, by rw [List.length_append]; simp; exact HMK.out⟩
            show _ = _
            rw [HST.out]; simp
          case measure => simp only [intOf]; have := HLT.out; omega
    · have hke : k = l.length := by omega
      have hm' := hm.out
      rw [hke, List.take_length] at hm'
      have HMM := Lib.hid hm'
      clear hm hk hm'
      subst hke
      have y := Sm.cells_of (show _ = _ from O1.out) 0 _ rfl
      have r0 := Sm.cells_of W1.out.res 0 _ rfl
      have f0 := Sm.free_of W1.out.res 0
      have LA := Lib.hid (W1.out.last (.slice B m.length q))
      have rz := Sm.cells_of LA.out.2.2 0 _ rfl
      go_wp2_with fail
      refine bodyPost_ret (v := .agg #[.slice B m.length q]) ((Om.results_own15 rfl _ _ _).trans (by go_simp)) rfl ⟨B, q, ?_, ?_, LA.out.2.1⟩
      · rw [← HMM.out]
      · rw [← HMM.out]; exact LA.out.1
end Go.Proofs.Ytehkbffbehlpnaa
