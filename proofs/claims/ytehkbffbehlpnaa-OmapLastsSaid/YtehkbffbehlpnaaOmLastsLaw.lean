/-
  OmapLasts: Get tells what the last operation of the path gave; All rises, and has just what Get tells.
-/
import Derived.Test.YtehkbffbehlpnaaOmPlay
namespace Go.Proofs.Ytehkbffbehlpnaa
open Go.RowKit Go.Maps
namespace Om
/-- What there is of a path: a value, or none. -/
def opt (b : Bool) (v : ByteArray) : Option ByteArray := if b then some v else none
theorem does_take {l : List Pr} {ops : List Ba.Op} {k : Nat} (h : k < ops.length) : does l (ops.take (k + 1)) = step (does l (ops.take k)) ops[k] := by
  unfold does
  rw [List.take_succ_eq_append_getElem h, List.foldl_append]
  rfl
theorem get_next {l : List Pr} (hR : Rises l) {ops : List Ba.Op} {k : Nat} (h : k < ops.length) (q : ByteArray) (hk : ops[k].k = 1 ∨ ops[k].k = 2) :
    get q (does l (ops.take (k + 1))) = if q = ops[k].p then opt (ops[k].k == 1) ops[k].v else get q (does l (ops.take k)) := by
  rw [does_take h, get_step (does_rises hR _)]
  by_cases hq : q = ops[k].p
  · rw [if_pos hq, if_pos hq]
    rcases hk with e | e <;> simp [opt, e]
  · rw [if_neg hq, if_neg hq]
end Om
set_option maxRecDepth 100000 in
set_option maxHeartbeats 4000000 in
theorem omapLasts_any {w : World} {A : Option Addr} (c : Nat) {L : List Om.Rw} (hit : Om.rowsAt w A L) (hL : L.length ≤ 9223372036854775807) (hok : ∀ x ∈ L, Om.Rw.Ok x) (p : ByteArray) :
    Calls Try.prog 7 #[.slice A L.length c, .string p] w fun e w' => e = .returned (.bool true) ∧ Below w.heap.size w w' := by
  obtain ⟨g, hg⟩ := Om.fairR_or L
  have GR := Lib.hid (great13_any (c := c) hit g hg)
  have AW := Lib.hid (fun wx => awake13_any wx)
  cases g with
  | true =>
    clear hit hg
    go_enter Try.func7, Try.ntmps7
    go_wp2_with first | (go_at_call 12; refine GR.out.mono ?_; rintro e w' ⟨rfl, rfl⟩) | (go_at_call 13; refine (AW.out _).mono ?_; rintro e w1 ⟨rfl, k1⟩)
    go_ret
    exact ⟨rfl, k1⟩
  | false =>
    by_cases hp : 1000 < p.size
    · have hpi : (1000 : Int) < (p.size : Int) := by omega
      clear hit hg hp
      go_enter Try.func7, Try.ntmps7
      go_wp2_with first | (go_at_call 12; refine GR.out.mono ?_; rintro e w' ⟨rfl, rfl⟩) | (go_at_call 13; refine (AW.out _).mono ?_; rintro e w1 ⟨rfl, k1⟩)
      go_ret
      exact ⟨rfl, k1⟩
    · have hpi : ¬ (1000 : Int) < (p.size : Int) := by omega
      have HP : Hid (p.size ≤ 1000) := by show p.size ≤ 1000; omega
      have hf : Om.FairR L := by
        by_cases h : Om.FairR L
        · exact h
        · have := hg.2 h; cases this
      have HL200 := hf.1
      have NW := Lib.hid (omNew_lies w)
      obtain ⟨N, hN⟩ : ∃ N, N = w.heap.size := ⟨_, rfl⟩
      have HN := Lib.hid hN
      have RD : Hid (∀ (wx : World) (k : Nat) (hk : k < L.length), Below N w wx → ∃ b off, A = some ⟨b, off, none⟩ ∧ wx.cell? ⟨b, off + k, none⟩ = some (.slice L[k].A L[k].l.length L[k].c) ∧ Ba.listAt wx L[k].A L[k].l ∧ Ba.Fair L[k].l ∧ ∀ (r : Nat) (l : List Om.Pr), Om.Lies wx r l →
          Calls Try.prog 17 #[.pointer (some ⟨r, 0, none⟩), .slice L[k].A L[k].l.length L[k].c] wx fun e w' => e = .returned (.int .i64 ((Om.doE l L[k].l).2 : Nat)) ∧ Om.Lies w' r (Om.doE l L[k].l).1 ∧ wx.grownBy w' (some r)) := by
        intro wx k hk hb
        obtain ⟨b, off, h1, h2, h4, h5, h3⟩ := Om.rowDo hit hok hf hk (by rw [← hN]; exact hb)
        exact ⟨b, off, h1, h2, h4, h5, fun r l h => h3 wx r l (Below.refl _ _) h⟩
      rw [← hN] at NW ⊢
      clear hit hg hf hN hok hp
      go_enter Try.func7, Try.ntmps7
      go_upto_region 6 with first | (go_at_call 12; refine GR.out.mono ?_; rintro e w' ⟨rfl, rfl⟩) | (go_at_call 16; refine NW.out.mono ?_; rintro e w1 ⟨rfl, hl1, hb1⟩)
      have O1 : Hid (Om.One w w1 N []) := ⟨hl1, hb1⟩
      clear hl1 hb1 GR NW
      go_wp2
      go_loopw [6, 7, 8] (fun s6 s7 s8 wr => ∃ (k : Nat) (l : List Om.Pr) (b : Bool) (v : ByteArray), s8 = .int .i64 k ∧ k ≤ L.length ∧ s6 = .string v ∧ s7 = .bool b ∧ Hid (Om.get p l = Om.opt b v) ∧ Om.One w wr N l) (fun _ _ s _ => L.length - (intOf s).toNat)
      case atStart => exact ⟨0, [], false, ⟨#[]⟩, rfl, Nat.zero_le _, rfl, rfl, rfl, O1.out⟩
      case round =>
        clear O1
        obtain ⟨k, l, b, v, rfl, hk, rfl, rfl, hgv, ho⟩ := hrel
        have O := Lib.hid ho
        clear ho
        by_cases hlt : k < L.length
        · have hki : (k : Int) < (L.length : Int) := by omega
          have hsuc : IntKind.i64.wrap ((k : Int) + 1) = ((k + 1 : Nat) : Int) := by simp [IntKind.wrap, IntKind.bits, IntKind.signed]; omega
          obtain ⟨gb, off, rfl, hc, -, hfx, hdo⟩ := RD.out wr k hlt O.out.bel
          have hd0 := hdo N l O.out.ml
          have hRK := fun (wx : World) (hb : Below N w wx) => RD.out wx k hlt hb
          obtain ⟨x, hx⟩ : ∃ x, x = L[k] := ⟨_, rfl⟩
          rw [← hx] at hc hd0 hfx
          simp only [← hx] at hRK
          obtain ⟨xA, xc, xl⟩ := x
          dsimp only at hc hd0 hfx hRK
          have HRK : Hid (∀ wx : World, Below N w wx → wx.cell? ⟨gb, off + k, none⟩ = some (.slice xA xl.length xc) ∧ Ba.listAt wx xA xl) := fun wx hb => by
            obtain ⟨b', o', e', h1, h2, -⟩ := hRK wx hb
            simp only [Option.some.injEq, Addr.mk.injEq] at e'
            obtain ⟨rfl, rfl, _⟩ := e'
            exact ⟨h1, h2⟩
          have HD := Lib.hid hd0
          obtain ⟨E, hE⟩ : ∃ E, E = (Om.doE l xl).2 := ⟨_, rfl⟩
          obtain ⟨l1, hl1⟩ : ∃ l1, l1 = (Om.doE l xl).1 := ⟨_, rfl⟩
          rw [← hE, ← hl1] at HD
          clear hRK hd0 hx
          have HLT := Lib.hid hlt
          have HFX := Lib.hid hfx
          by_cases h0 : E = 0
          · have hb0 : ((E : Int) != 0) = false := by rw [h0]; rfl
            obtain ⟨hr, -, hd⟩ := Om.doE_zero (l := l) (ops := xl) (by rw [← hE]; exact h0)
            have hkinds : ∀ o ∈ xl, o.k = 1 ∨ o.k = 2 := fun o ho => (Ba.bars_ok ((Ba.right_ok hr).2.2.2 o ho)).1
            have h4 : xl.length ≤ 4 := (Ba.right_ok hr).2.2.1
            have HKI := Lib.hid hkinds
            have HD1 : Hid (l1 = Om.does l xl) := by show _ = _; rw [hl1]; exact hd
            have HRI := Lib.hid O.out.ml.good.rises
            clear hdo hE hl1 h0 hr hd hkinds hfx
            clear hlt
            go_upto_region 10 with (go_at_call 17; refine HD.out.mono ?_; rintro e w2 ⟨rfl, l2, g2⟩)
            have O2 := Lib.hid (O.out.done HN.out g2 l2)
            have H4 := Lib.hid h4
            clear l2 g2 hc h4 O HD
            go_wp2
            go_loopw [6, 7, 9] (fun s6 s7 s9 wr => ∃ (j : Nat) (b : Bool) (v : ByteArray), s9 = .int .i64 j ∧ j ≤ xl.length ∧ s6 = .string v ∧ s7 = .bool b ∧ Hid (Om.get p (Om.does l (xl.take j)) = Om.opt b v) ∧ Om.One w wr N l1) (fun _ _ s _ => xl.length - (intOf s).toNat)
            case atStart => exact ⟨0, b, v, rfl, Nat.zero_le _, rfl, rfl, hgv.out, O2.out⟩
            case round =>
              clear O2 hgv
              obtain ⟨j, b1, v1, rfl, hj, rfl, rfl, hgj, ho⟩ := hrel
              have O := Lib.hid ho
              clear ho
              obtain ⟨hc1, hli⟩ := HRK.out wr O.out.bel
              by_cases hjt : j < xl.length
              · have hji : (j : Int) < (xl.length : Int) := by omega
                have hsj : IntKind.i64.wrap ((j : Int) + 1) = ((j + 1 : Nat) : Int) := by have := H4.out; simp [IntKind.wrap, IntKind.bits, IntKind.signed]; omega
                obtain ⟨g2, o2, rfl, -, x0, x1, x2⟩ := hli.get (Below.refl _ wr) j hjt
                have hnx := Om.get_next HRI.out hjt p (HKI.out _ (List.getElem_mem hjt))
                rw [hgj.out] at hnx
                obtain ⟨o, hoo⟩ : ∃ o, o = xl[j] := ⟨_, rfl⟩
                rw [← hoo] at x0 x1 x2 hnx
                have HNX := Lib.hid hnx
                have HJT := Lib.hid hjt
                clear hli hnx hoo hgj
                clear hjt
                by_cases hpo : o.p = p
                · have he : (o.p.toList == p.toList) = true := Om.ba_same.2 hpo
                  have HQ : Hid (Om.get p (Om.does l (xl.take (j + 1))) = Om.opt (o.k == 1) o.v) := by show _ = _; rw [HNX.out, if_pos hpo.symm]
                  obtain ⟨bk, hbk⟩ : ∃ bk, bk = (o.k == 1) := ⟨_, rfl⟩
                  have hbi : ((o.k : Int) == 1) = bk := by rw [hbk, Bool.eq_iff_iff, beq_iff_eq, beq_iff_eq]; omega
                  rw [← hbk] at HQ
                  clear hpo hbk
                  go_wp2
                  go_roundw
                  case rel => exact ⟨j + 1, _, _, rfl, HJT.out, rfl, rfl, by first | exact HQ.out | (rw [hbi]; exact HQ.out), O.out⟩
                  case measure => simp only [intOf]; have := HJT.out; omega
                · have he : (o.p.toList == p.toList) = false := by
                    cases h : o.p.toList == p.toList with
                    | false => rfl
                    | true => exact absurd (Om.ba_same.1 h) hpo
                  have HQ : Hid (Om.get p (Om.does l (xl.take (j + 1))) = Om.opt b1 v1) := by show _ = _; rw [HNX.out, if_neg (fun e => hpo e.symm)]
                  clear hpo
                  go_wp2
                  go_roundw
                  case rel => exact ⟨j + 1, b1, v1, rfl, HJT.out, rfl, rfl, HQ.out, O.out⟩
                  case measure => simp only [intOf]; have := HJT.out; omega
              · have hje : j = xl.length := by omega
                have HGJ : Hid (Om.get p l1 = Om.opt b1 v1) := by
                  have := hgj.out
                  rw [hje, List.take_length, ← HD1.out] at this
                  exact this
                clear hli hj hgj
                subst hje
                go_wp2
                go_roundw
                case rel => exact ⟨k + 1, l1, b1, v1, rfl, HLT.out, rfl, rfl, HGJ.out, O.out⟩
                case measure => simp only [intOf]; have := HLT.out; omega
          · have hb0 : ((E : Int) != 0) = true := by rw [bne_iff_ne]; omega
            have hll : l1 = l := by rw [hl1]; exact Om.doE_same (by rw [← hE]; exact h0)
            have HLL := Lib.hid hll
            clear hdo hE hl1 h0 hll hfx
            clear hlt
            go_wp2_with (go_at_call 17; refine HD.out.mono ?_; rintro e w2 ⟨rfl, l2, g2⟩)
            rw [HLL.out] at l2
            have O2 := Lib.hid (O.out.done HN.out g2 l2)
            clear l2 g2
            go_roundw
            case rel => exact ⟨k + 1, l, b, v, rfl, HLT.out, rfl, rfl, hgv.out, O2.out⟩
            case measure => simp only [intOf]; have := HLT.out; omega
        · have hki : ¬ (k : Int) < (L.length : Int) := by omega
          clear hk hlt
          have hsz : p.size ≤ 281474976710656 := by have := HP.out; omega
          have HG := Lib.hid O.out.ml.good
          have GE : Hid (∀ wx : World, Om.Lies wx N l → Calls Try.prog 19 #[.pointer (some ⟨N, 0, none⟩), .string p] wx fun e w' => e = .returned (.tuple #[.string (if b then v else ⟨#[]⟩), .bool b]) ∧ Below wx.heap.size wx w') := fun wx h => by
            have := omGet_lies h p hsz
            have e1 : Om.getV l p = if b then v else ⟨#[]⟩ := by
              have := hgv.out
              cases b with
              | true => exact Om.getV_some this
              | false => exact Om.getV_none this
            have e2 : (Om.get p l).isSome = b := by rw [hgv.out]; unfold Om.opt; cases b <;> rfl
            rw [e1, e2] at this
            exact this
          have GX : Hid (∀ (wx : World) (x : Om.Pr), x ∈ l → Om.Lies wx N l → Calls Try.prog 19 #[.pointer (some ⟨N, 0, none⟩), .string x.p] wx fun e w' => e = .returned (.tuple #[.string x.v, .bool true]) ∧ Below wx.heap.size wx w') := fun wx x hx h => by
            have hg := (Om.get_mem h.good.rises x.v).2 hx
            have := omGet_lies h x.p (by have := h.good.path hx; omega)
            rw [Om.getV_some hg, hg] at this
            exact this
          have AL : Hid (∀ wx : World, Om.Lies wx N l → Calls Try.prog 23 #[.pointer (some ⟨N, 0, none⟩)] wx fun e w' => ∃ A c, e = .returned (.slice A l.length c) ∧ Om.listAt w' A l ∧ Below wx.heap.size wx w') := fun wx h =>
            (omAll_lies h).mono fun e w' ⟨A, c, h1, h2, h3⟩ => ⟨A, c, h1, h2.listAt, h3⟩
          have LE := Lib.hid (fun (wx : World) (h : Om.Lies wx N l) => omLen_lies h)
          have hll : l.length ≤ 48 := HG.out.len
          have hvv : (v.toList == v.toList) = true := Om.ba_same.2 rfl
          clear hgv hsz RD
          cases b with
          | true =>
            simp only [if_true] at GE
            go_upto_region 20 with first
              | (go_at_call 19; refine (GE.out _ O.out.ml).mono ?_; rintro e w2 ⟨rfl, k2⟩; have O2 := Lib.hid (O.out.step k2); clear k2)
              | (go_at_call 23; refine (AL.out _ O2.out.ml).mono ?_; rintro e w3 ⟨A3, c3, rfl, x3, k3⟩; have O3 := Lib.hid (O2.out.step k3); have X3 := Lib.hid x3; clear k3 x3)
            clear GE AL O O2 hvv hki
            go_wp2
            go_loopw [13] (fun s wr => ∃ i : Nat, s = .int .i64 i ∧ i ≤ l.length ∧ Below w3.heap.size w3 wr) (fun s _ => l.length - (intOf s).toNat)
            case atStart => exact ⟨0, rfl, Nat.zero_le _, Below.refl _ _⟩
            case round =>
              obtain ⟨i, rfl, hi, hb3⟩ := hrel
              have B3 := Lib.hid hb3
              have O4 := Lib.hid (O3.out.step hb3)
              clear hb3
              by_cases hit : i < l.length
              · have hii : (i : Int) < (l.length : Int) := by omega
                have hsi : IntKind.i64.wrap ((i : Int) + 1) = ((i + 1 : Nat) : Int) := by simp [IntKind.wrap, IntKind.bits, IntKind.signed]; omega
                obtain ⟨gl, ol, rfl, -, x0, x1⟩ := X3.out.get B3.out i hit
                have HGL : Hid (∀ (wx : World), Below w3.heap.size w3 wx → ∀ j (hj : j < l.length), wx.cell? ⟨gl, ol + j * 2, none⟩ = some (.string l[j].p) ∧ wx.cell? ⟨gl, ol + j * 2 + 1, none⟩ = some (.string l[j].v)) := fun wx hb j hj => by
                  obtain ⟨g', o', e', -, y0, y1⟩ := X3.out.get hb j hj
                  simp only [Option.some.injEq, Addr.mk.injEq] at e'
                  obtain ⟨rfl, rfl, _⟩ := e'
                  exact ⟨y0, y1⟩
                have GI := Lib.hid (GX.out wr l[i] (List.getElem_mem hit) O4.out.ml)
                obtain ⟨x, hx⟩ : ∃ x, x = l[i] := ⟨_, rfl⟩
                have HX : Hid (∀ h : i < l.length, x = l[i]) := fun _ => hx
                rw [← hx] at x0 x1 GI
                have HIT := Lib.hid hit
                clear hx
                clear hit
                go_upto_region 24 with (go_at_call 19; refine GI.out.mono ?_; rintro e w4 ⟨rfl, k4⟩)
                have B4 := Lib.hid (B3.out.trans (k4.mono B3.out.size))
                clear k4 x0 x1
                obtain ⟨y0, y1⟩ := HGL.out w4 B4.out i HIT.out
                rw [← HX.out HIT.out] at y0 y1
                have hvx : (x.v.toList == x.v.toList) = true := Om.ba_same.2 rfl
                have hvn : (x.v.toList != x.v.toList) = false := by rw [bne, hvx]; rfl
                by_cases h0 : i = 0
                · subst h0
                  go_quiet (fail)
                  go_wp2
                  go_roundw
                  case rel => exact ⟨1, rfl, HIT.out, Sm.below_drewN B4.out _⟩
                  case measure => simp only [intOf]; have := HIT.out; omega
                · have hpos : decide (0 < i) = true := by rw [decide_eq_true_eq]; omega
                  have hposi : decide ((0 : Int) < (i : Int)) = true := by rw [decide_eq_true_eq]; omega
                  obtain ⟨j, hj⟩ : ∃ j, i = j + 1 := ⟨i - 1, by omega⟩
                  have hsub : IntKind.i64.wrap ((i : Int) - 1) = ((j : Nat) : Int) := by rw [hj]; simp [IntKind.wrap, IntKind.bits, IntKind.signed]; omega
                  have hji : (j : Int) < (l.length : Int) := by have := HIT.out; omega
                  have hjl : j < l.length := by have := HIT.out; omega
                  obtain ⟨z0, -⟩ := HGL.out w4 B4.out j hjl
                  have hlt : Op.bytesLess l[j].p.toList x.p.toList = true := by
                    rw [Lib.toList_data, Lib.toList_data, HX.out HIT.out]
                    exact List.pairwise_iff_getElem.1 HG.out.rises j i hjl HIT.out (by omega)
                  obtain ⟨y, hy⟩ : ∃ y, y = l[j] := ⟨_, rfl⟩
                  rw [← hy] at z0 hlt
                  clear hy hj h0
                  clear hjl
                  go_quiet (fail)
                  go_wp2
                  go_roundw
                  case rel => exact ⟨i + 1, rfl, HIT.out, Sm.below_drewN B4.out _⟩
                  case measure => simp only [intOf]; have := HIT.out; omega
              · have hie : i = l.length := by omega
                clear hi
                subst hie
                have hlli : (l.length : Int) ≤ 48 := by omega
                go_wp2_with first
                  | (go_at_call 21; refine (LE.out _ O4.out.ml).mono ?_; rintro e w8 ⟨rfl, rfl⟩)
                  | (go_at_call 13; refine (AW.out _).mono ?_; rintro e w9 ⟨rfl, k9⟩; have O9 := Lib.hid (O4.out.step k9); clear k9)
                go_ret
                exact ⟨rfl, O9.out.bel⟩
          | false =>
            simp only [Bool.false_eq_true, if_false] at GE
            go_upto_region 20 with first
              | (go_at_call 19; refine (GE.out _ O.out.ml).mono ?_; rintro e w2 ⟨rfl, k2⟩; have O2 := Lib.hid (O.out.step k2); clear k2)
              | (go_at_call 23; refine (AL.out _ O2.out.ml).mono ?_; rintro e w3 ⟨A3, c3, rfl, x3, k3⟩; have O3 := Lib.hid (O2.out.step k3); have X3 := Lib.hid x3; clear k3 x3)
            clear GE AL O O2 hvv hki
            go_wp2
            go_loopw [13] (fun s wr => ∃ i : Nat, s = .int .i64 i ∧ i ≤ l.length ∧ Below w3.heap.size w3 wr) (fun s _ => l.length - (intOf s).toNat)
            case atStart => exact ⟨0, rfl, Nat.zero_le _, Below.refl _ _⟩
            case round =>
              obtain ⟨i, rfl, hi, hb3⟩ := hrel
              have B3 := Lib.hid hb3
              have O4 := Lib.hid (O3.out.step hb3)
              clear hb3
              by_cases hit : i < l.length
              · have hii : (i : Int) < (l.length : Int) := by omega
                have hsi : IntKind.i64.wrap ((i : Int) + 1) = ((i + 1 : Nat) : Int) := by simp [IntKind.wrap, IntKind.bits, IntKind.signed]; omega
                obtain ⟨gl, ol, rfl, -, x0, x1⟩ := X3.out.get B3.out i hit
                have HGL : Hid (∀ (wx : World), Below w3.heap.size w3 wx → ∀ j (hj : j < l.length), wx.cell? ⟨gl, ol + j * 2, none⟩ = some (.string l[j].p) ∧ wx.cell? ⟨gl, ol + j * 2 + 1, none⟩ = some (.string l[j].v)) := fun wx hb j hj => by
                  obtain ⟨g', o', e', -, y0, y1⟩ := X3.out.get hb j hj
                  simp only [Option.some.injEq, Addr.mk.injEq] at e'
                  obtain ⟨rfl, rfl, _⟩ := e'
                  exact ⟨y0, y1⟩
                have GI := Lib.hid (GX.out wr l[i] (List.getElem_mem hit) O4.out.ml)
                obtain ⟨x, hx⟩ : ∃ x, x = l[i] := ⟨_, rfl⟩
                have HX : Hid (∀ h : i < l.length, x = l[i]) := fun _ => hx
                rw [← hx] at x0 x1 GI
                have HIT := Lib.hid hit
                clear hx
                clear hit
                go_upto_region 24 with (go_at_call 19; refine GI.out.mono ?_; rintro e w4 ⟨rfl, k4⟩)
                have B4 := Lib.hid (B3.out.trans (k4.mono B3.out.size))
                clear k4 x0 x1
                obtain ⟨y0, y1⟩ := HGL.out w4 B4.out i HIT.out
                rw [← HX.out HIT.out] at y0 y1
                have hvx : (x.v.toList == x.v.toList) = true := Om.ba_same.2 rfl
                have hvn : (x.v.toList != x.v.toList) = false := by rw [bne, hvx]; rfl
                by_cases h0 : i = 0
                · subst h0
                  go_quiet (fail)
                  go_wp2
                  go_roundw
                  case rel => exact ⟨1, rfl, HIT.out, Sm.below_drewN B4.out _⟩
                  case measure => simp only [intOf]; have := HIT.out; omega
                · have hpos : decide (0 < i) = true := by rw [decide_eq_true_eq]; omega
                  have hposi : decide ((0 : Int) < (i : Int)) = true := by rw [decide_eq_true_eq]; omega
                  obtain ⟨j, hj⟩ : ∃ j, i = j + 1 := ⟨i - 1, by omega⟩
                  have hsub : IntKind.i64.wrap ((i : Int) - 1) = ((j : Nat) : Int) := by rw [hj]; simp [IntKind.wrap, IntKind.bits, IntKind.signed]; omega
                  have hji : (j : Int) < (l.length : Int) := by have := HIT.out; omega
                  have hjl : j < l.length := by have := HIT.out; omega
                  obtain ⟨z0, -⟩ := HGL.out w4 B4.out j hjl
                  have hlt : Op.bytesLess l[j].p.toList x.p.toList = true := by
                    rw [Lib.toList_data, Lib.toList_data, HX.out HIT.out]
                    exact List.pairwise_iff_getElem.1 HG.out.rises j i hjl HIT.out (by omega)
                  obtain ⟨y, hy⟩ : ∃ y, y = l[j] := ⟨_, rfl⟩
                  rw [← hy] at z0 hlt
                  clear hy hj h0
                  clear hjl
                  go_quiet (fail)
                  go_wp2
                  go_roundw
                  case rel => exact ⟨i + 1, rfl, HIT.out, Sm.below_drewN B4.out _⟩
                  case measure => simp only [intOf]; have := HIT.out; omega
              · have hie : i = l.length := by omega
                clear hi
                subst hie
                have hlli : (l.length : Int) ≤ 48 := by omega
                go_wp2_with first
                  | (go_at_call 21; refine (LE.out _ O4.out.ml).mono ?_; rintro e w8 ⟨rfl, rfl⟩)
                  | (go_at_call 13; refine (AW.out _).mono ?_; rintro e w9 ⟨rfl, k9⟩; have O9 := Lib.hid (O4.out.step k9); clear k9)
                go_ret
                exact ⟨rfl, O9.out.bel⟩
end Go.Proofs.Ytehkbffbehlpnaa
