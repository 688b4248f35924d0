/-
  OmapShips: what is shipped of what operations do is what their shipped ones do to what is shipped.
-/
import Derived.Test.YtehkbffbehlpnaaOmPlay
import Derived.Test.YtehkbffbehlpnaaBaOwn
namespace Go.Proofs.Ytehkbffbehlpnaa
open Go.RowKit Go.Maps
namespace Om
/-- Those of operations that are shipped. -/
def shippedO (s : ByteArray → Bool) (ops : List Ba.Op) : List Ba.Op := ops.filter fun o => s o.p
theorem ships_do {s : ByteArray → Bool} {l : List Pr} (hG : Good l) {ops : List Ba.Op} (h : (doE l ops).2 = 0) : doE (filt s l) (shippedO s ops) = (filt s (doE l ops).1, 0) := by
  obtain ⟨h1, h2, h3⟩ := doE_zero h
  obtain ⟨_, _, h4, h5⟩ := Ba.right_ok h1
  have hd := filt_does (s := s) hG.rises ops
  have hr : Ba.right ⟨1, 1, shippedO s ops⟩ = 0 := Ba.right_of ⟨Int.le_refl _, by show (1 : Int) ≤ _; omega⟩ (Int.le_refl _) (Nat.le_trans (List.length_filter_le _ _) h4) fun o ho => h5 o (List.mem_filter.1 ho).1
  have he : does (filt s l) (shippedO s ops) = filt s (does l ops) := hd.symm
  rw [doE_ok hr (by rw [he]; have := filt_le s (does l ops); omega), he, h3]
theorem small_sub {s : ByteArray → Bool} {ops : List Ba.Op} {P : Ba.Op → Prop} (h : ∀ o ∈ ops, P o) : ∀ o ∈ shippedO s ops, P o := fun o ho => h o (List.mem_filter.1 ho).1
end Om
set_option maxRecDepth 100000 in
set_option maxHeartbeats 2000000 in
theorem shipped13_any {w : World} {A : Option Addr} {M : List Pa.Mo} (c : Nat) (hit : Pa.listAt w A M) (hM : M.length ≤ 9223372036854775807) {C : Option Addr} (d : Nat) {ops : List Ba.Op} (hops : Ba.listAt w C ops) (hol : ops.length ≤ 1000) (hs : ∀ o ∈ ops, o.p.size ≤ 281474976710656) :
    Calls Try.prog 34 #[.slice A M.length c, .slice C ops.length d] w fun e w' => ∃ B k, e = .returned (.slice B (Om.shippedO (Om.ships M) ops).length k) ∧ Ba.Row w' w.heap.size B k (Om.shippedO (Om.ships M) ops) ∧ Below w.heap.size w w' := by
  obtain ⟨s, hs1⟩ : ∃ s, s = Om.ships M := ⟨_, rfl⟩
  have SH : Hid (∀ (wx : World) (p : ByteArray), Below w.heap.size w wx → p.size ≤ 281474976710656 → Calls Try.prog 51 #[.slice A M.length c, .string p] wx fun e w' => e = .returned (.bool (s p)) ∧ Below wx.heap.size wx w') := fun wx p hb hp => by
    have := paShips_any c (hit.below hb) hM p hp
    rw [hs1]
    exact this
  rw [← hs1]
  obtain ⟨N, hN⟩ : ∃ N, N = w.heap.size := ⟨_, rfl⟩
  have HN := Lib.hid hN
  have HIT : Hid (∀ wx : World, Below N w wx → ∀ j (hj : j < ops.length), ∃ b off, C = some ⟨b, off, none⟩ ∧ b < w.heap.size ∧ Ba.opAt wx b (off + j * 3) ops[j]) := fun wx k j hj => hops.get (by rw [← hN]; exact k) j hj
  have HS := Lib.hid hs
  rw [← hN] at SH ⊢
  clear hit hops hs hs1 hN
  go_enter Try.func34, Try.ntmps34
  go_wp2
  go_loopw [5, 6] (fun s5 s6 wr => ∃ (k : Nat) (B : Option Addr) (q : Nat) (m : List Ba.Op), s6 = .int .i64 k ∧ k ≤ ops.length ∧ s5 = .slice B m.length q ∧ Hid (m = Om.shippedO s (ops.take k)) ∧ m.length ≤ k ∧ Ba.Row wr N B q m ∧ Below N w wr) (fun _ v _ => ops.length - (intOf v).toNat)
  case atStart => exact ⟨0, none, 0, [], rfl, Nat.zero_le _, rfl, rfl, Nat.le_refl _, Ba.Row.nil _ _, Below.refl _ _⟩
  case round =>
    obtain ⟨k, B, q, m, rfl, hk, rfl, hm, hmk, hrow, hb⟩ := hrel
    have HB := Lib.hid hb
    have HR := Lib.hid hrow
    have HMK := Lib.hid hmk
    clear hb hrow hmk
    by_cases hlt : k < ops.length
    · have hki : (k : Int) < (ops.length : Int) := by omega
      have hsuc : IntKind.i64.wrap ((k : Int) + 1) = ((k + 1 : Nat) : Int) := by simp [IntKind.wrap, IntKind.bits, IntKind.signed]; omega
      obtain ⟨gb, off, rfl, hgl, o0, o1, o2⟩ := HIT.out _ HB.out k hlt
      have hst : Om.shippedO s (ops.take (k + 1)) = m ++ (if s ops[k].p then [ops[k]] else []) := by
        rw [hm.out, List.take_succ_eq_append_getElem hlt]
        unfold Om.shippedO
        rw [List.filter_append, List.filter_cons, List.filter_nil]
      have CS := Lib.hid (SH.out wr ops[k].p HB.out (HS.out _ (List.getElem_mem hlt)))
      obtain ⟨x, hx⟩ : ∃ x, x = ops[k] := ⟨_, rfl⟩
      rw [← hx] at o0 o1 o2 hst CS
      have HX : Hid (∀ h : k < ops.length, x = ops[k]) := fun _ => hx
      have HST := Lib.hid hst
      have HLT := Lib.hid hlt
      clear hst hm hx
      clear hlt
      cases hsx : s x.p with
      | false =>
        rw [hsx] at CS HST
        clear hsx
        go_wp2_with (go_at_call 51; refine CS.out.mono ?_; rintro e w2 ⟨rfl, k2⟩)
        have B2 : Hid (Below N w w2) := HB.out.trans (k2.mono (by rw [HN.out]; exact HB.out.size))
        have R2 := Lib.hid (HR.out.low k2)
        clear k2
        go_roundw
        case rel =>
          refine ⟨k + 1, B, q, m, rfl, HLT.out, rfl, ?_, by have := HMK.out; omega, R2.out, B2.out⟩
          show _ = _
          rw [HST.out]; simp
        case measure => simp only [intOf]; have := HLT.out; omega
      | true =>
        rw [hsx] at CS HST
        clear hsx
        go_upto_region 6 with (go_at_call 51; refine CS.out.mono ?_; rintro e w2 ⟨rfl, k2⟩)
        have B2 : Hid (Below N w w2) := HB.out.trans (k2.mono (by rw [HN.out]; exact HB.out.size))
        obtain ⟨gb', off', e', _, p0, p1, p2⟩ := HIT.out _ B2.out k HLT.out
        simp only [Option.some.injEq, Addr.mk.injEq] at e'
        obtain ⟨rfl, rfl, _⟩ := e'
        rw [← HX.out HLT.out] at p0 p1 p2
        have R2 := Lib.hid (HR.out.low (k2.alloc k2.size (.cells #[.int .u8 (x.k : Int), .string x.p, .string x.v] 52)))
        have HSZ : Hid (N ≤ w2.heap.size) := by show N ≤ _; rw [HN.out]; exact B2.out.size
        clear k2 o0 o1 o2
        go_wp2_with (at_builtin; refine Ba.wp_push rfl _ _ rfl rfl R2.out x rfl (heap_alloc_new _ _) (by have := HMK.out; omega) (by have := HSZ.out; simp; omega) ?_; intro A' c' w3 hr3 hg3)
        have hsl : m.length + 1 = (m ++ [x]).length := by simp
        have HR3 := Lib.hid hr3
        have B3 : Hid (Below N w w3) := (B2.out.alloc HSZ.out (.cells #[.int .u8 (x.k : Int), .string x.p, .string x.v] 52)).grown hg3 (by have := HSZ.out; simp; omega) (fun q hq => (R2.out.blk hq).1)
        clear hr3 hg3
        go_roundw
        case rel =>
          refine ⟨k + 1, A', c', m ++ [x], rfl, HLT.out, by rw [← hsl], ?_, by simp; exact HMK.out, HR3.out, B3.out⟩
          show _ = _
          rw [HST.out]; simp
        case measure => simp only [intOf]; have := HLT.out; omega
    · have hke : k = ops.length := by omega
      have hm' := hm.out
      rw [hke, List.take_length] at hm'
      clear hm hk
      subst hke hm'
      go_wp2
      go_ret
      exact ⟨B, q, rfl, HR.out, HB.out⟩
set_option maxRecDepth 100000 in
set_option maxHeartbeats 4000000 in
theorem omapShips_any {w : World} {A : Option Addr} (c : Nat) {L : List Om.Rw} (hit : Om.rowsAt w A L) (hL : L.length ≤ 9223372036854775807) (hok : ∀ x ∈ L, Om.Rw.Ok x)
    {C : Option Addr} (d : Nat) {M : List Pa.Mo} (hM : M.length ≤ 9223372036854775807) (hmo : Pa.listAt w C M) :
    Calls Try.prog 6 #[.slice A L.length c, .slice C M.length d] w fun e w' => e = .returned (.bool true) ∧ Below w.heap.size w w' := by
  obtain ⟨g, hg⟩ := Om.fairR_or L
  obtain ⟨g2, hg2⟩ := Pa.fair_or M
  have GR := Lib.hid (great13_any (c := c) hit g hg)
  have GO := Lib.hid (great11_any (c := d) hmo g2 hg2)
  have AW := Lib.hid (fun wx => awake13_any wx)
  cases g with
  | true =>
    clear hit hg hmo hg2
    go_enter Try.func6, Try.ntmps6
    go_wp2_with first | (go_at_call 12; refine GR.out.mono ?_; rintro e w' ⟨rfl, rfl⟩) | (go_at_call 13; refine (AW.out _).mono ?_; rintro e w1 ⟨rfl, k1⟩)
    go_ret
    exact ⟨rfl, k1⟩
  | false =>
    cases g2 with
    | true =>
      clear hit hg hmo hg2
      go_enter Try.func6, Try.ntmps6
      go_wp2_with first | (go_at_call 12; refine GR.out.mono ?_; rintro e w' ⟨rfl, rfl⟩) | (go_at_call 27; refine GO.out.mono ?_; rintro e w' ⟨rfl, rfl⟩) | (go_at_call 13; refine (AW.out _).mono ?_; rintro e w1 ⟨rfl, k1⟩)
      go_ret
      exact ⟨rfl, k1⟩
    | false =>
      have hf : Om.FairR L := by
        by_cases h : Om.FairR L
        · exact h
        · have := hg.2 h; cases this
      have HL200 := hf.1
      have NW := Lib.hid (fun wx => omNew_lies wx)
      obtain ⟨N, hN⟩ : ∃ N, N = w.heap.size := ⟨_, rfl⟩
      have HN := Lib.hid hN
      obtain ⟨s, hs⟩ : ∃ s, s = Om.ships M := ⟨_, rfl⟩
      have RD : Hid (∀ (wx : World) (k : Nat) (hk : k < L.length), Below N w wx → ∃ b off, A = some ⟨b, off, none⟩ ∧ wx.cell? ⟨b, off + k, none⟩ = some (.slice L[k].A L[k].l.length L[k].c) ∧
          (∀ (r : Nat) (l : List Om.Pr), Om.Lies wx r l →
            Calls Try.prog 17 #[.pointer (some ⟨r, 0, none⟩), .slice L[k].A L[k].l.length L[k].c] wx fun e w' => e = .returned (.int .i64 ((Om.doE l L[k].l).2 : Nat)) ∧ Om.Lies w' r (Om.doE l L[k].l).1 ∧ wx.grownBy w' (some r)) ∧
          Calls Try.prog 34 #[.slice C M.length d, .slice L[k].A L[k].l.length L[k].c] wx fun e w' => ∃ B q, e = .returned (.slice B (Om.shippedO s L[k].l).length q) ∧ Ba.Row w' wx.heap.size B q (Om.shippedO s L[k].l) ∧ Below wx.heap.size wx w') := by
        intro wx k hk hb
        rw [hN] at hb
        obtain ⟨b, off, h1, h2, h4, h5, h3⟩ := Om.rowDo hit hok hf hk hb
        refine ⟨b, off, h1, h2, fun r l h => h3 wx r l (Below.refl _ _) h, ?_⟩
        rw [hs]
        exact shipped13_any d (hmo.below hb) hM _ h4 (by have := h5.1; omega) (fun o ho => by have := (h5.mem o ho).1; omega)
      have DF : Hid (∀ (wx : World) (k : Nat) (hk : k < L.length) (r : Nat) (l : List Om.Pr) (B : Option Addr) (q : Nat), Om.Lies wx r l → Ba.listAt wx B (Om.shippedO s L[k].l) →
          Calls Try.prog 17 #[.pointer (some ⟨r, 0, none⟩), .slice B (Om.shippedO s L[k].l).length q] wx fun e w' => e = .returned (.int .i64 ((Om.doE l (Om.shippedO s L[k].l)).2 : Nat)) ∧ Om.Lies w' r (Om.doE l (Om.shippedO s L[k].l)).1 ∧ wx.grownBy w' (some r)) := by
        intro wx k hk r l B q h1 h2
        have h5 := hf.2 k hk
        have h6 := hok _ (List.getElem_mem hk)
        exact omDo_lies h1 q h2 (Nat.le_trans (List.length_filter_le _ _) h6.len) (Om.small_sub h6.ops) (Om.small_sub fun o ho => by have := (h5.mem o ho).1; omega)
      have FI : Hid (∀ (wx : World) (r : Nat) (l : List Om.Pr), Below N w wx → Om.Lies wx r l → Calls Try.prog 28 #[.pointer (some ⟨r, 0, none⟩), .slice C M.length d] wx fun e w' => ∃ q, e = .returned (.pointer (some ⟨q, 0, none⟩)) ∧ wx.heap.size ≤ q ∧ Om.Lies w' q (Om.filt s l) ∧ Below wx.heap.size wx w') := by
        intro wx r l hb h
        rw [hN] at hb
        have := omFilter_lies h d (hmo.below hb) hM
        rw [← hs] at this
        exact this
      have SA := Lib.hid (fun (wx : World) (r1 r2 : Nat) (l : List Om.Pr) (h1 : Om.Lies wx r1 l) (h2 : Om.Lies wx r2 l) => omSame_lies h1 h2 true (by simp))
      rw [← hN]
      clear hit hmo hg hg2 hf hok hs
      go_enter Try.func6, Try.ntmps6
      go_upto_region 4 with first
        | (go_at_call 12; refine GR.out.mono ?_; rintro e w' ⟨rfl, rfl⟩)
        | (go_at_call 27; refine GO.out.mono ?_; rintro e w' ⟨rfl, rfl⟩)
        | (go_at_call 16; refine (NW.out _).mono ?_; rintro e w1 ⟨rfl, hl1, hb1⟩)
      have O1 : Hid (Om.One w w1 w.heap.size []) := ⟨hl1, hb1⟩
      go_upto_region 5 with (go_at_call 16; refine (NW.out _).mono ?_; rintro e w2 ⟨rfl, hl2, hb2⟩)
      have O2 : Hid (Om.Two w w2 w.heap.size w1.heap.size [] []) := ⟨O1.out.step hb2, hl2, O1.out.ml.lt⟩
      clear hl1 hb1 hl2 hb2
      rw [← hN] at O2 ⊢
      obtain ⟨t, ht⟩ : ∃ t, t = w1.heap.size := ⟨_, rfl⟩
      rw [← ht] at O2 ⊢
      clear GR GO NW hN ht O1
      go_wp2
      go_loopw [7] (fun v wr => ∃ (k : Nat) (l : List Om.Pr), v = .int .i64 k ∧ k ≤ L.length ∧ Om.Two w wr N t l (Om.filt s l)) (fun v _ => L.length - (intOf v).toNat)
      case atStart => exact ⟨0, [], rfl, Nat.zero_le _, O2.out⟩
      case round =>
        clear O2
        obtain ⟨k, l, rfl, hk, ho⟩ := hrel
        have O := Lib.hid ho
        clear ho
        by_cases hlt : k < L.length
        · have hki : (k : Int) < (L.length : Int) := by omega
          have hsuc : IntKind.i64.wrap ((k : Int) + 1) = ((k + 1 : Nat) : Int) := by simp [IntKind.wrap, IntKind.bits, IntKind.signed]; omega
          obtain ⟨gb, off, rfl, hc, hdo, -⟩ := RD.out wr k hlt O.out.one.bel
          have HD := Lib.hid (hdo N l O.out.one.ml)
          obtain ⟨x, hx⟩ : ∃ x, x = L[k] := ⟨_, rfl⟩
          have HX : Hid (∀ h : k < L.length, x = L[k]) := fun _ => hx
          rw [← hx] at hc HD
          obtain ⟨E, hE⟩ : ∃ E, E = (Om.doE l x.l).2 := ⟨_, rfl⟩
          obtain ⟨l1, hl1⟩ : ∃ l1, l1 = (Om.doE l x.l).1 := ⟨_, rfl⟩
          rw [← hE, ← hl1] at HD
          have HLT := Lib.hid hlt
          by_cases h0 : E = 0
          · have hb0 : ((E : Int) != 0) = false := by rw [h0]; rfl
            have hsd : Om.doE (Om.filt s l) (Om.shippedO s x.l) = (Om.filt s l1, 0) := by rw [hl1]; exact Om.ships_do O.out.one.ml.good (by rw [← hE]; exact h0)
            have HSD := Lib.hid hsd
            clear hdo hx hE hl1 h0 hsd
            clear hlt
            go_upto_region 9 with (go_at_call 17; refine HD.out.mono ?_; rintro e w2 ⟨rfl, l2, g2⟩)
            have O2 := Lib.hid (O.out.done HN.out g2 l2)
            obtain ⟨gb', off', e', hc2, _, hsh⟩ := RD.out w2 k HLT.out O2.out.one.bel
            simp only [Option.some.injEq, Addr.mk.injEq] at e'
            obtain ⟨rfl, rfl, _⟩ := e'
            have SHC := Lib.hid hsh
            rw [← HX.out HLT.out] at hc2 SHC
            have DFX : Hid (∀ (wx : World) (r : Nat) (B : Option Addr) (q : Nat), Om.Lies wx r (Om.filt s l) → Ba.listAt wx B (Om.shippedO s x.l) → Calls Try.prog 17 #[.pointer (some ⟨r, 0, none⟩), .slice B (Om.shippedO s x.l).length q] wx fun e w' => e = .returned (.int .i64 0) ∧ Om.Lies w' r (Om.filt s l1) ∧ wx.grownBy w' (some r)) := by
              intro wx r B q h1 h2
              have e := HX.out HLT.out
              have := DF.out wx k HLT.out r (Om.filt s l) B q h1 (by rw [← e]; exact h2)
              rw [← e, HSD.out] at this
              exact this
            clear l2 g2 hsh hc HD
            go_wp2_with first
              | (go_at_call 34; refine SHC.out.mono ?_; rintro e w3 ⟨B3, q3, rfl, r3, k3⟩; have O3 := Lib.hid (O2.out.step k3); have R3 := Lib.hid r3.listAt; clear r3 k3)
              | (go_at_call 17; refine (DFX.out _ _ _ _ O3.out.tl R3.out).mono ?_; rintro e w4 ⟨rfl, l4, g4⟩; have O4 := Lib.hid (O3.out.doneT HN.out g4 l4); clear l4 g4)
              | (go_at_call 28; refine (FI.out _ _ _ O4.out.one.bel O4.out.one.ml).mono ?_; rintro e w5 ⟨q5, rfl, _, l5, k5⟩; have O5 := Lib.hid (O4.out.step k5); have L5 := Lib.hid l5; clear l5 k5)
              | (go_at_call 33; refine (SA.out _ _ _ _ L5.out O5.out.tl).mono ?_; rintro e w6 ⟨rfl, k6⟩; have O6 := Lib.hid (O5.out.step k6); clear k6)
            go_roundw
            case rel => exact ⟨k + 1, l1, rfl, HLT.out, O6.out⟩
            case measure => simp only [intOf]; have := HLT.out; omega
          · have hb0 : ((E : Int) != 0) = true := by rw [bne_iff_ne]; omega
            have hll : l1 = l := by rw [hl1]; exact Om.doE_same (by rw [← hE]; exact h0)
            have HLL := Lib.hid hll
            clear hdo hx hE hl1 h0 hll
            clear hlt
            go_wp2_with (go_at_call 17; refine HD.out.mono ?_; rintro e w2 ⟨rfl, l2, g2⟩)
            rw [HLL.out] at l2
            have O2 := Lib.hid (O.out.done HN.out g2 l2)
            clear l2 g2
            go_roundw
            case rel => exact ⟨k + 1, l, rfl, HLT.out, O2.out⟩
            case measure => simp only [intOf]; have := HLT.out; omega
        · have hke : k = L.length := by omega
          clear hk
          subst hke
          have FF := Lib.hid (FI.out)
          go_wp2_with first
            | (go_at_call 28; refine (FI.out _ _ _ O.out.one.bel O.out.tl).mono ?_; rintro e w5 ⟨q5, rfl, _, l5, k5⟩; have O5 := Lib.hid (O.out.step k5); rw [Om.filt_filt] at l5; have L5 := Lib.hid l5; clear l5 k5)
            | (go_at_call 33; refine (SA.out _ _ _ _ L5.out O5.out.tl).mono ?_; rintro e w6 ⟨rfl, k6⟩; have O6 := Lib.hid (O5.out.step k6); clear k6)
            | (go_at_call 13; refine (AW.out _).mono ?_; rintro e w7 ⟨rfl, k7⟩; have O7 := Lib.hid (O6.out.step k7); clear k7)
          go_ret
          exact ⟨rfl, O7.out.one.bel⟩
end Go.Proofs.Ytehkbffbehlpnaa
