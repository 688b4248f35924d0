/-
  KeptSpoilt: if a sound sector of the place is spoilt, Open is ErrSum.
-/
import Derived.Test.YticpllhblgildaaKpSpoil
namespace Go.Proofs.Yticpllhblgildaa
open Go.RowKit
namespace Kp
structure Spo (B : Nat) (w0 w : World) (r : Nat) (fp : Nat → Prop) (M : Dk.Md) (k : Nat) (K : Md) (i : Nat) : Prop where
  own : Own B w0 w r fp M k K
  fits : Fits M K
  fuse : M.fuse < 0
  seen : K.seen ≤ i
  born : Born M
  len : M.lasts.length = 20
  at_ : K.from_ = 0
theorem Spo.put {B : Nat} {w0 w : World} {r : Nat} {fp : Nat → Prop} {M : Dk.Md} {k : Nat} {K : Md} {i : Nat} (h : Spo B w0 w r fp M k K i) (hi : i + 1 ≤ 60) (t : ByteArray) (ht : t.size ≤ 9223372036854775807) :
    Calls Try.prog 18 #[.pointer (some ⟨k, 0, none⟩), .string t] w fun e w' => ∃ (f : Int) (fp' : Nat → Prop) (M' : Dk.Md) (K' : Md), e = .returned (.int .i64 f) ∧ Spo B w0 w' r fp' M' k K' (i + 1) := by
  have hs := h.seen
  by_cases h4 : t.size ≤ 400
  · refine (put_in h.own h.fits (by omega) h.fuse t h4).mono ?_
    rintro e w' ⟨fp', M', rfl, st, h2, h3, h5, h6⟩
    exact ⟨0, fp', M', _, rfl, ⟨st.own, h2, h3, by show K.seen + 1 ≤ i + 1; omega, h.born.put (by simpa using h4) (by omega) h5 h6, h5.trans h.len, h.at_⟩⟩
  · refine (put_long h.own h.fits (by omega) t (by omega) ht).mono ?_
    rintro e w' ⟨fp', rfl, st⟩
    exact ⟨3, fp', M, K, rfl, ⟨st.own, h.fits, h.fuse, Nat.le_succ_of_le h.seen, h.born, h.len, h.at_⟩⟩
theorem look_state (l : List UInt8) (h : (Dk.lookOf l).2 ≠ 1) : ((Dk.lookOf l).2 == 1) = false := beq_eq_false_iff_ne.2 h
end Kp
set_option maxRecDepth 100000 in
set_option maxHeartbeats 4000000 in
theorem keptspoilt_any (w : World) (A : Option Addr) (c : Nat) (l : List Kp.Ac) (hl : l.length ≤ 9223372036854775807) (hit : Kp.listAt w A l) (hs : ∀ a ∈ l, a.Ok w) (y z : UInt8) (x : ByteArray) (hx : x.size ≤ 9223372036854775807) :
    Calls Try.prog 7 #[.slice A l.length c, .int .u8 y.toNat, .int .u8 z.toNat, .string x] w fun e w' => e = .returned (.bool true) ∧ Below w.heap.size w w' := by
  have AW := Lib.hid (awake9_any w)
  have HIT := Lib.hid hit
  have HS := Lib.hid hs
  by_cases hbad : ¬ Kp.Fair l
  · have GR : Hid (∀ wx, Below w.heap.size w wx → Calls Try.prog 23 #[.slice A l.length c] wx fun e w' => e = .returned (.bool true) ∧ wx = w') := fun wx hwx => great9_any hl (HIT.out.below hwx) HS.out true ⟨fun _ => hbad, fun _ => rfl⟩
    clear hit hs
    go_enter Try.func7, Try.ntmps7
    go_wp2_with (first
      | (go_at_call 22; refine AW.out.mono ?_; rintro e w1 ⟨rfl, k1⟩)
      | (go_at_call 23; refine (GR.out _ k1).mono ?_; rintro e w2 ⟨rfl, rfl⟩))
    go_ret
    exact ⟨rfl, k1⟩
  have hfair := Classical.not_not.1 hbad
  have GR : Hid (∀ wx, Below w.heap.size w wx → Calls Try.prog 23 #[.slice A l.length c] wx fun e w' => e = .returned (.bool false) ∧ wx = w') := fun wx hwx => great9_any hl (HIT.out.below hwx) HS.out false ⟨fun h => (by cases h), fun h => absurd hfair h⟩
  have h60 := hfair.1
  by_cases hx4 : 4 < x.size
  · have hxi : (4 : Int) < x.size := by omega
    clear hit hs hbad hfair
    go_enter Try.func7, Try.ntmps7
    go_wp2_with (first
      | (go_at_call 22; refine AW.out.mono ?_; rintro e w1 ⟨rfl, k1⟩)
      | (go_at_call 23; refine (GR.out _ k1).mono ?_; rintro e w2 ⟨rfl, rfl⟩))
    go_ret
    exact ⟨rfl, k1⟩
  have hxi : ¬ (4 : Int) < x.size := by omega
  obtain ⟨K0, hK0⟩ : ∃ K, K = Kp.zero 0 := ⟨_, rfl⟩
  have hF0 : Kp.Fits (Dk.new 20) K0 := by rw [hK0]; exact Kp.new_fits (n := 20) (by omega) (a := 0) (by omega)
  have A0 : Hid (K0.from_ = 0 ∧ K0.seen ≤ 0) := by rw [hK0]; exact ⟨rfl, Nat.le_refl _⟩
  have F0 := Lib.hid hF0
  obtain ⟨q, hq⟩ : ∃ q, q = y.toNat % 20 := ⟨_, rfl⟩
  have hq20 : q < 20 := by omega
  have hqt : ((y.toNat : Nat) : Int).tmod 20 = (q : Int) := by rw [hq]; rfl
  have hqw : IntKind.u8.wrap (q : Int) = (q : Int) := by rw [IntKind.wrap_u8]; omega
  obtain ⟨p, hp⟩ : ∃ p, p = z.toNat % 64 := ⟨_, rfl⟩
  have hp64 : p < 64 := by omega
  have hpt : ((z.toNat : Nat) : Int).tmod 64 = (p : Int) := by rw [hp]; rfl
  have hpw : IntKind.u8.wrap (p : Int) = (p : Int) := by rw [IntKind.wrap_u8]; omega
  clear hit hs hK0 hF0 hfair hbad hq hp
  go_enter Try.func7, Try.ntmps7
  go_upto_region 5 with (first
    | (go_at_call 22; refine AW.out.mono ?_; rintro e w1 ⟨rfl, k1⟩)
    | (go_at_call 23; refine (GR.out _ k1).mono ?_; rintro e w2 ⟨rfl, rfl⟩))
  have ND := Lib.hid (Dk.new_in k1 (Nat.le_refl _) 20 (by omega))
  go_upto_region 6 with (go_at_call 15; refine ND.out.mono ?_; rintro e w2 ⟨r, fp, rfl, o2, -, -⟩)
  have OP := Lib.hid (Kp.open_in o2 F0.out A0.out.1)
  clear o2 k1
  go_upto_region 9 with (go_at_call 16; refine OP.out.mono ?_; rintro e w3 ⟨k, rfl, o3, -, -⟩)
  have R3 : Hid (Kp.Spo w.heap.size w w3 r fp (Dk.new 20) k K0 0) := ⟨o3, F0.out, by show (-1 : Int) < 0; omega, A0.out.2, Kp.born_new 20, by simp [Dk.new], A0.out.1⟩
  clear o3
  go_wp2_with fail
  go_loopw [13] (fun s13 wr => ∃ (i : Nat) (fp1 : Nat → Prop) (M1 : Dk.Md) (K : Kp.Md), s13 = .int .i64 i ∧ i ≤ l.length ∧ Kp.Spo w.heap.size w wr r fp1 M1 k K i) (fun s13 _ => l.length - (intOf s13).toNat)
  case atStart => exact ⟨0, fp, _, K0, rfl, Nat.zero_le _, R3.out⟩
  case round =>
    obtain ⟨i, fp1, M1, K, rfl, hil, hrun⟩ := hrel
    have HR := Lib.hid hrun
    clear hrun
    by_cases hlt : i < l.length
    · have hki : (i : Int) < (l.length : Int) := by omega
      have hsuc : IntKind.i64.wrap ((i : Int) + 1) = ((i + 1 : Nat) : Int) := by simp [IntKind.wrap, IntKind.bits, IntKind.signed]; omega
      obtain ⟨gb, ob, hA, hgl, hat⟩ : ∃ gb ob, A = some ⟨gb, ob, none⟩ ∧ gb < w.heap.size ∧ Kp.actsAt w gb ob l := by
        rcases HIT.out with h | ⟨gb, ob, h1, h2, h3⟩
        · rw [h] at hlt; simp at hlt
        · exact ⟨gb, ob, h1, h2, h3⟩
      subst hA
      obtain ⟨-, c1, -⟩ := (hat i hlt).below HR.out.own.disk.below hgl
      have hok := (HS.out _ (List.getElem_mem hlt)).t
      obtain ⟨t, ht⟩ : ∃ t, t = l[i].t := ⟨_, rfl⟩
      rw [← ht] at c1 hok
      have PU := Lib.hid (HR.out.put (by omega) t hok)
      clear ht hat
      go_wp2_with (go_at_call 18; refine PU.out.mono ?_; rintro e w4 ⟨f4, fp4, M4, K4, rfl, r4⟩)
      exact ⟨⟨i + 1, fp4, M4, K4, by push_cast; rfl, by omega, r4⟩, by simp only [intOf]; omega⟩
    · have hki : ¬ (i : Int) < (l.length : Int) := by omega
      have hM20 := HR.out.len
      have hon := HR.out.fits.on
      have hidle := HR.out.fits.idle q
      have e1 : Dk.readOf M1 (q : Int) = (Dk.last M1 q, 0) := by
        rw [Dk.readOf, if_neg (by rw [hon]; decide), if_pos (Dk.there_iff.2 ⟨by omega, by omega⟩)]
        show (Dk.seen M1 q, _) = _
        rw [Dk.seen_last hidle]
      obtain ⟨S, hS⟩ : ∃ S, S = Dk.spoil M1 (q : Int) (p : Int) x.data.toList := ⟨_, rfl⟩
      have hS1 : S = (if p + x.size ≤ 64 then ({ M1 with lasts := M1.lasts.set q (Dk.xored (Dk.last M1 q) p x.data.toList) }, 0) else (M1, 1)) := by
        have hxl : x.data.toList.length = x.size := by simp
        rw [hS, Dk.spoil]
        have hm : Dk.mayspoil M1 (q : Int) (p : Int) x.data.toList = decide (p + x.size ≤ 64) := by
          rw [Bool.eq_iff_iff]
          simp only [Dk.mayspoil, Bool.and_eq_true, decide_eq_true_eq, Dk.there_iff, hxl]
          constructor
          · intro h; omega
          · intro h; exact ⟨⟨⟨⟨by omega, by omega⟩, by omega⟩, by omega⟩, by omega⟩
        rw [hm]
        by_cases hpx : p + x.size ≤ 64
        · rw [if_pos hpx, decide_eq_true hpx, if_pos rfl]; rfl
        · rw [if_neg hpx, decide_eq_false hpx, if_neg (by decide)]
      obtain ⟨wasl, hwl⟩ : ∃ a, a = Dk.last M1 q := ⟨_, rfl⟩
      obtain ⟨s1, hs1⟩ : ∃ s : ByteArray, s = ⟨wasl.toArray⟩ := ⟨_, rfl⟩
      have hs1l : s1.data.toList = wasl := by rw [hs1]
      have LO : Hid (∀ wx : World, Calls Try.prog 31 #[.string s1] wx fun e w' => e = .returned (.tuple #[.string ⟨(Dk.lookOf wasl).1.toArray⟩, .int .i64 (Dk.lookOf wasl).2]) ∧ Below wx.heap.size wx w') := fun wx => by rw [← hs1l]; exact dkLook_any wx s1
      obtain ⟨bd, hbd⟩ : ∃ s : ByteArray, s = ⟨(Dk.lookOf wasl).1.toArray⟩ := ⟨_, rfl⟩
      obtain ⟨st, hst⟩ : ∃ n, n = (Dk.lookOf wasl).2 := ⟨_, rfl⟩
      rw [← hbd, ← hst] at LO
      have RD := Lib.hid (Dk.read_in HR.out.own.disk (q : Int))
      rw [e1, ← hwl, ← hs1] at RD
      have HST := Lib.hid hst
      have HWL := Lib.hid hwl
      have HS1 := Lib.hid hs1
      have HSS := Lib.hid hS
      have HS2 := Lib.hid hS1
      have HON := Lib.hid hon
      clear e1 hS hS1 hwl hs1 hs1l hbd hst hon hidle
      go_upto_region 14 with (go_at_call 30; refine RD.out.mono ?_; rintro e w4 ⟨rfl, o4, -⟩)
      go_upto_region 15 with (go_at_call 31; refine (LO.out _).mono ?_; rintro e w5 ⟨rfl, k5⟩)
      have SP := Lib.hid (Dk.spoil_in (o4.low k5) (q : Int) (p : Int) x hx)
      rw [← HSS.out] at SP
      obtain ⟨F, hF⟩ : ∃ n, n = S.2 := ⟨_, rfl⟩
      rw [← hF] at SP
      have HF := Lib.hid hF
      clear o4 k5 hF
      go_upto_region 16 with (go_at_call 32; refine SP.out.mono ?_; rintro e w6 ⟨fp6, rfl, st6⟩)
      have o6 := Lib.hid st6.own
      have hon2 : S.1.off = false := by
        rw [HS2.out]
        split
        · exact HON.out
        · exact HON.out
      have hlen2 : S.1.lasts.length = 20 := by
        rw [HS2.out]
        split
        · show (M1.lasts.set q _).length = 20
          rw [List.length_set]; exact HR.out.len
        · exact HR.out.len
      have e2 : Dk.readOf S.1 (q : Int) = (Dk.seen S.1 q, 0) := by
        rw [Dk.readOf, if_neg (by rw [hon2]; decide), if_pos (Dk.there_iff.2 ⟨by omega, by omega⟩)]; rfl
      have RD2 := Lib.hid (Dk.read_in o6.out (q : Int))
      rw [e2] at RD2
      obtain ⟨s2, hs2⟩ : ∃ s : ByteArray, s = ⟨(Dk.seen S.1 q).toArray⟩ := ⟨_, rfl⟩
      rw [← hs2] at RD2
      have HS3 := Lib.hid hs2
      clear st6 e2 hs2 SP
      go_upto_region 17 with (go_at_call 30; refine RD2.out.mono ?_; rintro e w7 ⟨rfl, o7, -⟩)
      have O7 := Lib.hid o7
      have HL2 := Lib.hid hlen2
      clear o7 hon2 hlen2
      by_cases hst1 : st = 1
      · subst hst1
        by_cases hsame : s2 = s1
        · subst hsame
          go_wp2_with fail
          go_ret
          exact ⟨rfl, O7.out.below⟩
        · have hfit : p + x.size ≤ 64 := by
            refine Decidable.byContradiction fun hno => hsame ?_
            have e3 : S = (M1, 1) := by rw [HS2.out, if_neg hno]
            rw [HS3.out, HS1.out, HWL.out, e3]
            show (⟨(Dk.seen M1 q).toArray⟩ : ByteArray) = _
            rw [Dk.seen_last (HR.out.fits.idle q)]
          have hxl : x.data.toList.length = x.size := by simp
          have e3 : S = ({ M1 with lasts := M1.lasts.set q (Dk.xored (Dk.last M1 q) p x.data.toList) }, 0) := by rw [HS2.out, if_pos hfit]
          have hF0 : F = 0 := by rw [HF.out, e3]
          have hsn : Dk.seen S.1 q = Dk.xored (Dk.last M1 q) p x.data.toList := by
            rw [e3, Dk.seen_last (by exact HR.out.fits.idle q), Dk.last, List.getD_eq_getElem?_getD, List.getElem?_set_self (by have := HR.out.len; omega)]; rfl
          have herr : Kp.readErr S.1 0 = 9 := by
            rw [e3]
            refine Kp.spoilt_err HR.out.fits HR.out.born hq20 HR.out.len (by omega) (by omega) (by rw [← HWL.out]; exact HST.out.symm) (fun e => hsame ?_)
            rw [HS3.out, HS1.out, HWL.out, hsn, e]
          have OE := Lib.hid (kpOpen_err O7.out 0 (by rw [HL2.out]; omega) (by rw [herr]; decide))
          rw [herr] at OE
          subst hF0
          have hne := Dk.str_ne hsame
          have hne2 : ¬ s2.toList = s1.toList := by simpa using hne
          have B7 := Lib.hid O7.out.below
          clear hxl e3 hsn herr hsame
          go_wp2_with (go_at_call 16; refine OE.out.mono ?_; rintro e w8 ⟨rfl, k8⟩)
          go_ret
          exact ⟨rfl, B7.out.trans (k8.mono B7.out.size)⟩
      · have hsb : (st == 1) = false := beq_eq_false_iff_ne.2 hst1
        have B7 := Lib.hid O7.out.below
        go_wp2_with fail
        go_ret
        exact ⟨rfl, B7.out⟩
end Go.Proofs.Yticpllhblgildaa
