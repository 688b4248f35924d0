/-
  OmapWhole: operations that are refused change nothing; a twin goes its own way; a map of All is the map.
-/
import Derived.Test.YtehkbffbehlpnaaOmPlay
namespace Go.Proofs.Ytehkbffbehlpnaa
open Go.RowKit Go.Maps
set_option maxRecDepth 100000 in
set_option maxHeartbeats 4000000 in
theorem omapWhole_any {w : World} {A : Option Addr} (c : Nat) {L : List Om.Rw} (hit : Om.rowsAt w A L) (hL : L.length ≤ 9223372036854775807) (hok : ∀ x ∈ L, Om.Rw.Ok x)
    {C : Option Addr} (d : Nat) {ops : List Ba.Op} (hops : Ba.listAt w C ops) (hol : ops.length ≤ 9223372036854775807) (hook : ∀ o ∈ ops, o.Ok) :
    Calls Try.prog 8 #[.slice A L.length c, .slice C ops.length d] w fun e w' => e = .returned (.bool true) ∧ Below w.heap.size w w' := by
  obtain ⟨g, hg⟩ := Om.fairR_or L
  obtain ⟨g2, hg2⟩ := Ba.fair_or ops
  have GR := Lib.hid (great13_any (c := c) hit g hg)
  have GO := Lib.hid (greatOps_any (c := d) hops g2 hg2)
  have AW := Lib.hid (fun wx => awake13_any wx)
  cases g with
  | true =>
    clear hit hg hops hg2
    go_enter Try.func8, Try.ntmps8
    go_wp2_with first | (go_at_call 12; refine GR.out.mono ?_; rintro e w' ⟨rfl, rfl⟩) | (go_at_call 13; refine (AW.out _).mono ?_; rintro e w1 ⟨rfl, k1⟩)
    go_ret
    exact ⟨rfl, k1⟩
  | false =>
    cases g2 with
    | true =>
      clear hit hg hops hg2
      go_enter Try.func8, Try.ntmps8
      go_wp2_with first | (go_at_call 12; refine GR.out.mono ?_; rintro e w' ⟨rfl, rfl⟩) | (go_at_call 30; refine GO.out.mono ?_; rintro e w' ⟨rfl, rfl⟩) | (go_at_call 13; refine (AW.out _).mono ?_; rintro e w1 ⟨rfl, k1⟩)
      go_ret
      exact ⟨rfl, k1⟩
    | false =>
      have hf : Om.FairR L := by
        by_cases h : Om.FairR L
        · exact h
        · have := hg.2 h; cases this
      have hfo : Ba.Fair ops := by
        by_cases h : Ba.Fair ops
        · exact h
        · have := hg2.2 h; cases this
      have HL200 := hf.1
      have NW := Lib.hid (omNew_lies w)
      obtain ⟨N, hN⟩ : ∃ N, N = w.heap.size := ⟨_, rfl⟩
      have HN := Lib.hid hN
      have RD : Hid (∀ (wx : World) (k : Nat) (hk : k < L.length), Below N w wx → ∃ b off, A = some ⟨b, off, none⟩ ∧ wx.cell? ⟨b, off + k, none⟩ = some (.slice L[k].A L[k].l.length L[k].c) ∧ ∀ (r : Nat) (l : List Om.Pr), Om.Lies wx r l →
          Calls Try.prog 17 #[.pointer (some ⟨r, 0, none⟩), .slice L[k].A L[k].l.length L[k].c] wx fun e w' => e = .returned (.int .i64 ((Om.doE l L[k].l).2 : Nat)) ∧ Om.Lies w' r (Om.doE l L[k].l).1 ∧ wx.grownBy w' (some r)) := by
        intro wx k hk hb
        obtain ⟨b, off, h1, h2, _, _, h3⟩ := Om.rowDo hit hok hf hk (by rw [← hN]; exact hb)
        exact ⟨b, off, h1, h2, fun r l h => h3 wx r l (Below.refl _ _) h⟩
      have DO : Hid (∀ (wx : World) (r : Nat) (l : List Om.Pr), Below N w wx → Om.Lies wx r l → Calls Try.prog 17 #[.pointer (some ⟨r, 0, none⟩), .slice C ops.length d] wx fun e w' => e = .returned (.int .i64 ((Om.doE l ops).2 : Nat)) ∧ Om.Lies w' r (Om.doE l ops).1 ∧ wx.grownBy w' (some r)) :=
        fun wx r l hb h => omDo_lies h d (hops.below (by rw [← hN]; exact hb)) hol hook (fun o ho => by have := (hfo.mem o ho).1; omega)
      rw [← hN] at NW ⊢
      clear hit hops hg hg2 hf hfo hN hook hok
      go_enter Try.func8, Try.ntmps8
      go_upto_region 4 with first | (go_at_call 12; refine GR.out.mono ?_; rintro e w' ⟨rfl, rfl⟩) | (go_at_call 30; refine GO.out.mono ?_; rintro e w' ⟨rfl, rfl⟩) | (go_at_call 16; refine NW.out.mono ?_; rintro e w1 ⟨rfl, hl1, hb1⟩)
      have O1 : Hid (Om.One w w1 N []) := ⟨hl1, hb1⟩
      clear hl1 hb1 GR GO NW
      go_wp2
      go_loopw [6] (fun s wr => ∃ (k : Nat) (l : List Om.Pr), s = .int .i64 k ∧ k ≤ L.length ∧ Om.One w wr N l) (fun s _ => L.length - (intOf s).toNat)
      case atStart => exact ⟨0, [], rfl, Nat.zero_le _, O1.out⟩
      case round =>
        clear O1
        obtain ⟨k, l, rfl, hk, ho⟩ := hrel
        have O := Lib.hid ho
        clear ho
        by_cases hlt : k < L.length
        · have hki : (k : Int) < (L.length : Int) := by omega
          have hsuc : IntKind.i64.wrap ((k : Int) + 1) = ((k + 1 : Nat) : Int) := by simp [IntKind.wrap, IntKind.bits, IntKind.signed]; omega
          obtain ⟨gb, off, rfl, hc, hdo⟩ := RD.out wr k hlt O.out.bel
          have HD := Lib.hid (hdo N l O.out.ml)
          obtain ⟨x, hx⟩ : ∃ x, x = L[k] := ⟨_, rfl⟩
          rw [← hx] at hc HD
          have HLT := Lib.hid hlt
          clear hdo hx hlt
          go_wp2_with (go_at_call 17; refine HD.out.mono ?_; rintro e w2 ⟨rfl, l2, g2⟩)
          have O2 := Lib.hid (O.out.done HN.out g2 l2)
          clear l2 g2
          go_roundw
          case rel => exact ⟨k + 1, _, rfl, HLT.out, O2.out⟩
          case measure => simp only [intOf]; have := HLT.out; omega
        · have hke : k = L.length := by omega
          clear hk
          subst hke
          have hll : l.length ≤ 48 := O.out.ml.good.len
          have hof : Om.ofE l = (l, 0) := Om.ofE_all O.out.ml.good.rises O.out.ml.good.fair hll
          have TW := Lib.hid (omTwin_lies O.out.ml)
          have AL := Lib.hid (fun (wx : World) (r : Nat) (h : Om.Lies wx r l) => omAll_lies h)
          have LE := Lib.hid (fun (wx : World) (r : Nat) (h : Om.Lies wx r l) => omLen_lies h)
          have OF : Hid (∀ (wx : World) (A : Option Addr) (c : Nat), Om.listAt wx A l → Calls Try.prog 14 #[.slice A l.length c] wx fun e w' => ∃ r, e = .returned (.tuple #[.pointer (some ⟨r, 0, none⟩), .int .i64 0]) ∧ wx.heap.size ≤ r ∧ Om.Lies w' r l ∧ Below wx.heap.size wx w') := by
            intro wx A c h
            refine (omOf_lies c h (by omega) (fun x hx => by have := O.out.ml.good.path hx; omega)).mono fun e w' ⟨v, h1, _, h3, h4⟩ => ?_
            rw [hof] at h1 h3
            obtain ⟨r, rfl, h5, h6⟩ := h3 rfl
            exact ⟨r, h1, h5, h6, h4⟩
          have SA := Lib.hid (fun (wx : World) (r1 r2 : Nat) (l : List Om.Pr) (h1 : Om.Lies wx r1 l) (h2 : Om.Lies wx r2 l) => omSame_lies h1 h2 true (by simp))
          have HRI := Lib.hid (RD.out)
          clear hof hll
          go_upto_region 10 with first
            | (go_at_call 31; refine TW.out.mono ?_; rintro e w2 ⟨rfl, l2, k2⟩; have T2 : Hid (Om.Two w w2 N wr.heap.size l l) := ⟨O.out.step k2, l2, O.out.ml.lt⟩; clear l2 k2)
            | (go_at_call 23; refine (AL.out _ _ T2.out.one.ml).mono ?_; rintro e w3 ⟨A3, c3, rfl, r3, k3⟩; have T3 := Lib.hid (T2.out.step k3); have R3 := Lib.hid r3.listAt; clear r3 k3)
            | (go_at_call 14; refine (OF.out _ _ _ R3.out).mono ?_; rintro e w4 ⟨q, rfl, hq, l4, k4⟩; have H4 : Hid (Om.Three w w4 N wr.heap.size q l l l) := ⟨T3.out.step k4, l4, Nat.lt_of_lt_of_le T3.out.tl.lt hq⟩; clear hq l4 k4)
          obtain ⟨E, hE⟩ : ∃ E, E = (Om.doE l ops).2 := ⟨_, rfl⟩
          obtain ⟨l1, hl1⟩ : ∃ l1, l1 = (Om.doE l ops).1 := ⟨_, rfl⟩
          have hsame : E ≠ 0 → l1 = l := fun h => by rw [hl1]; exact Om.doE_same (by rw [← hE]; exact h)
          obtain ⟨t, ht⟩ : ∃ t, t = wr.heap.size := ⟨_, rfl⟩
          rw [← ht] at H4 ⊢
          have HDL : Hid (∀ (wx : World) (r : Nat), Below N w wx → Om.Lies wx r l → Calls Try.prog 17 #[.pointer (some ⟨r, 0, none⟩), .slice C ops.length d] wx fun e w' => e = .returned (.int .i64 (E : Nat)) ∧ Om.Lies w' r l1 ∧ wx.grownBy w' (some r)) := fun wx r hb h => by
            have := DO.out wx r l hb h
            rw [← hE, ← hl1] at this
            exact this
          have HSM := Lib.hid hsame
          have LF := Lib.hid (fun (wx : World) (r : Nat) (h : Om.Lies wx r l) => omLen_lies h)
          clear hE hl1 ht hsame T2 T3 R3 TW O HRI RD OF
          go_upto_region 13 with first
            | (go_at_call 33; refine (SA.out _ _ _ _ H4.out.two.one.ml H4.out.ul).mono ?_; rintro e w5 ⟨rfl, k5⟩; have H5 := Lib.hid (H4.out.step k5); clear k5)
            | (go_at_call 17; refine (HDL.out _ _ H5.out.two.one.bel H5.out.two.one.ml).mono ?_; rintro e w6 ⟨rfl, l6, g6⟩; have H6 := Lib.hid (H5.out.done HN.out g6 l6); clear l6 g6)
          by_cases h0 : E = 0
          · have hb0 : ((E : Int) != 0) = false := by rw [h0]; rfl
            clear h0
            go_wp2_with first
              | (go_at_call 17; refine (HDL.out _ _ H6.out.two.one.bel H6.out.ul).mono ?_; rintro e w7 ⟨rfl, l7, g7⟩; have H7 := Lib.hid (H6.out.doneU HN.out g7 l7); clear l7 g7)
              | (go_at_call 33; refine (SA.out _ _ _ _ H7.out.two.one.ml H7.out.ul).mono ?_; rintro e w8 ⟨rfl, k8⟩; have H8 := Lib.hid (H7.out.step k8); clear k8)
              | (go_at_call 21; refine (LF.out _ _ H8.out.two.tl).mono ?_; rintro e w9 ⟨rfl, rfl⟩)
              | (go_at_call 23; refine (AL.out _ _ H8.out.two.tl).mono ?_; rintro e w10 ⟨A10, c10, rfl, r10, k10⟩; have H10 := Lib.hid (H8.out.step k10); clear k10 r10)
              | (go_at_call 13; refine (AW.out _).mono ?_; rintro e w11 ⟨rfl, k11⟩; have H11 := Lib.hid (H10.out.step k11); clear k11)
            go_ret
            exact ⟨rfl, H11.out.two.one.bel⟩
          · have hb0 : ((E : Int) != 0) = true := by rw [bne_iff_ne]; omega
            have H6' := Lib.hid H6.out
            rw [HSM.out h0] at H6'
            clear h0
            go_wp2_with first
              | (go_at_call 33; refine (SA.out _ _ _ _ H6'.out.two.one.ml H6'.out.two.tl).mono ?_; rintro e w7 ⟨rfl, k7⟩; have H7 := Lib.hid (H6.out.step k7); clear k7)
              | (go_at_call 17; refine (HDL.out _ _ H7.out.two.one.bel H7.out.ul).mono ?_; rintro e w8 ⟨rfl, l8, g8⟩; have H8 := Lib.hid (H7.out.doneU HN.out g8 l8); clear l8 g8)
              | (go_at_call 33; refine (SA.out _ _ _ _ H8.out.two.one.ml H8.out.ul).mono ?_; rintro e w9 ⟨rfl, k9⟩; have H9 := Lib.hid (H8.out.step k9); clear k9)
              | (go_at_call 21; refine (LF.out _ _ H9.out.two.tl).mono ?_; rintro e w10 ⟨rfl, rfl⟩)
              | (go_at_call 23; refine (AL.out _ _ H9.out.two.tl).mono ?_; rintro e w11 ⟨A10, c10, rfl, r10, k10⟩; have H10 := Lib.hid (H9.out.step k10); clear k10 r10)
              | (go_at_call 13; refine (AW.out _).mono ?_; rintro e w12 ⟨rfl, k11⟩; have H11 := Lib.hid (H10.out.step k11); clear k11)
            go_ret
            exact ⟨rfl, H11.out.two.one.bel⟩
end Go.Proofs.Ytehkbffbehlpnaa
