/-
  LogSpoilt: if a sound sector of the log is spoilt, Open is ErrSum.
-/
import Derived.Test.YticpllhblgildaaLgFill
import Derived.Test.YticpllhblgildaaPtSpoil
namespace Go.Proofs.Yticpllhblgildaa
open Go.RowKit
namespace Lg
/-- A sector of a record of an epoch, or a blank one. -/
def Born (ep : Nat) (s : List UInt8) : Prop := s = Dk.blank ∨ ∃ sa b t j, s = Dk.closed (Pt.body (nums ep sa b) 32 t j) ∧ t.length ≤ 1024 ∧ j < Pt.parts 32 t
theorem born_spoilt {ep : Nat} (he : 1 ≤ ep ∧ ep ≤ 255) {s : List UInt8} (h : Born ep s) (h1 : (Dk.lookOf s).2 = 1) {a : Nat} {x : List UInt8} (hx : x.length ≤ 4) (ha : a + x.length ≤ 64) (hne : Dk.xored s a x ≠ s) : (Dk.lookOf (Dk.xored s a x)).2 = 2 := by
  rcases h with rfl | ⟨sa, b, t, j, rfl, ht, hj⟩
  · have : Dk.lookOf Dk.blank = ([], 0) := by unfold Dk.lookOf; exact if_pos rfl
    rw [this] at h1; cases h1
  · have hb : (Pt.body (nums ep sa b) 32 t j).length = 60 := Pt.body_length (by simp [nums]) t j
    have hp := parts_33 ht
    have hp1 := Pt.parts_pos 32 t
    refine Kp.spoilt_two hb (k1 := 0) (k2 := 25) (by omega) (by omega) ?_ ?_ hx ha hne
    · have e : (Pt.body (nums ep sa b) 32 t j).getD 0 0 = UInt8.ofNat (ep % 256) := by
        simp only [Pt.body, Pt.head, nums, List.flatMap_cons, Kp.eight, Kp.low_succ]; rfl
      rw [e]
      intro h0
      have := congrArg UInt8.toNat h0
      rw [UInt8.toNat_ofNat', show (0 : UInt8).toNat = 0 from rfl] at this
      omega
    · intro h0
      have h5 := Pt.count_body (hs := nums ep sa b) (n := 32) (t := t) j (by omega)
      rw [Pt.count, show 8 * (nums ep sa b).length + 1 = 25 from rfl, h0] at h5
      simp at h5
      omega
theorem spoilt_err {M : Dk.Md} {n : Nat} (ho : M.off = false) (hi : ∀ i, M.W i = []) {q : Nat} (hq : q < n) (hn : n = M.lasts.length) {s : List UInt8} (h : (Dk.lookOf s).2 = 2) : readErr { M with lasts := M.lasts.set q s } 0 n = 9 := by
  have hs : Kp.sees { M with lasts := M.lasts.set q s } 0 q = s := by
    have e0 : Kp.sees { M with lasts := M.lasts.set q s } 0 q = Dk.seen { M with lasts := M.lasts.set q s } q := by
      show Dk.seen _ ((0 : Int).toNat + q) = _
      rw [show (0 : Int).toNat = 0 from rfl, Nat.zero_add]
    rw [e0, Dk.seen_last (by exact hi q), Dk.last, List.getD_eq_getElem?_getD, List.getElem?_set_self (by omega)]; rfl
  have hbad : bad n (Kp.sees { M with lasts := M.lasts.set q s } 0) = true := bad_at hq (by rw [hs]; exact h)
  rw [readErr]
  show (if M.off = true then _ else _) = _
  rw [if_neg (by rw [ho]; decide), hbad]; rfl
end Lg
set_option maxRecDepth 100000 in
set_option maxHeartbeats 4000000 in
theorem logspoilt_any (w : World) (A : Option Addr) (c : Nat) (l : List ByteArray) (hA : St.strsAt w A l) (hsl : ∀ i, (l.getD i ByteArray.empty).size ≤ 9223372036854775807) (y z : UInt8) (x : ByteArray) (hx : x.size ≤ 9223372036854775807) (ep : Nat) (hep : ep < 18446744073709551616) :
    Calls Try.prog 13 #[.slice A l.length c, .int .u8 y.toNat, .int .u8 z.toNat, .string x, .int .u64 (ep : Int)] w fun e w' => e = .returned (.bool true) ∧ Below w.heap.size w w' := by
  have AW := Lib.hid (awake10_any w)
  have HA := Lib.hid hA
  have HSL := Lib.hid hsl
  clear hA hsl
  by_cases b1 : 60 < l.length
  · have b1i : (60 : Int) < (l.length : Int) := by omega
    go_enter Try.func13, Try.ntmps13
    go_wp2_with (go_at_call 39; refine AW.out.mono ?_; rintro e w1 ⟨rfl, k1⟩)
    go_ret
    exact ⟨rfl, k1⟩
  have b1i : ¬ (60 : Int) < (l.length : Int) := by omega
  by_cases b2 : 4 < x.size
  · have b2i : (4 : Int) < (x.size : Int) := by omega
    go_enter Try.func13, Try.ntmps13
    go_wp2_with (go_at_call 39; refine AW.out.mono ?_; rintro e w1 ⟨rfl, k1⟩)
    go_ret
    exact ⟨rfl, k1⟩
  have b2i : ¬ (4 : Int) < (x.size : Int) := by omega
  by_cases b3 : ep < 1
  · have b3i : (ep : Int) < 1 := by omega
    go_enter Try.func13, Try.ntmps13
    go_wp2_with (go_at_call 39; refine AW.out.mono ?_; rintro e w1 ⟨rfl, k1⟩)
    go_ret
    exact ⟨rfl, k1⟩
  have b3i : ¬ (ep : Int) < 1 := by omega
  obtain ⟨nl, hnl⟩ : ∃ n, n = l.length := ⟨_, rfl⟩
  have HNL := Lib.hid hnl
  have hn60 : nl ≤ 60 := by omega
  rw [← hnl] at b1i ⊢
  obtain ⟨R0, O0⟩ := Lg.rest_new (N := 50) (by decide) (a := 0) (n := 50) (by decide) (by decide)
  obtain ⟨L0, hL0⟩ : ∃ L, L = Lg.opened 50 (Kp.lastly (Dk.new 50) 0) 0 3 := ⟨_, rfl⟩
  have A0 : Hid (L0.ep = 3 ∧ L0.salt = 0) := by show _ ∧ _; rw [hL0, O0 3 (by decide)]; exact ⟨rfl, rfl⟩
  have HL0 := Lib.hid hL0
  have HR0 := Lib.hid R0
  obtain ⟨q, hq⟩ : ∃ q, q = y.toNat % 50 := ⟨_, rfl⟩
  have hq50 : q < 50 := by omega
  have hqt : ((y.toNat : Nat) : Int).tmod 50 = (q : Int) := by rw [hq]; rfl
  have hqw : IntKind.u8.wrap (q : Int) = (q : Int) := by rw [IntKind.wrap_u8]; omega
  obtain ⟨p, hp⟩ : ∃ p, p = z.toNat % 64 := ⟨_, rfl⟩
  have hp64 : p < 64 := by omega
  have hpt : ((z.toNat : Nat) : Int).tmod 64 = (p : Int) := by rw [hp]; rfl
  have hpw : IntKind.u8.wrap (p : Int) = (p : Int) := by rw [IntKind.wrap_u8]; omega
  have HX4 : Hid (x.data.toList.length ≤ 4) := by show x.data.toList.length ≤ 4; have : x.data.toList.length = x.size := by simp
                                                  omega
  clear hnl R0 O0 hL0 b1 b2 hq hp
  go_enter Try.func13, Try.ntmps13
  go_upto_region 5 with (go_at_call 39; refine AW.out.mono ?_; rintro e w1 ⟨rfl, k1⟩)
  have ND := Lib.hid (Dk.new_in k1 (Nat.le_refl _) 50 (by omega))
  go_upto_region 6 with (go_at_call 15; refine ND.out.mono ?_; rintro e w2 ⟨r, fp, rfl, o2, -, -⟩)
  have OP : Hid (Calls Try.prog 35 #[.pointer (some ⟨r, 0, none⟩), .int .i64 0, .int .i64 50, .int .u64 3] w2 _) := Lg.open10_in (ep := 3) (L := L0) o2 HR0.out (by decide) HL0.out
  clear o2 k1 ND
  go_upto_region 9 with (go_at_call 35; refine OP.out.mono ?_; rintro e w3 ⟨k3, bl3, rfl, o3, f3, -, -⟩)
  have FI0 := fill10_any o3 f3 (by show (-1 : Int) < 0; omega) (by rw [A0.out.2]; omega) A c l rfl HA.out HSL.out (by rw [← HNL.out]; omega)
  rw [← HNL.out] at FI0
  have FI := Lib.hid FI0
  clear FI0 o3 f3 OP
  go_upto_region 11 with (go_at_call 43; refine FI.out.mono ?_; rintro e w4 ⟨hv, Ah, ch, fp4, bl4, M1, L4, rfl, F4⟩)
  have hM50 : M1.lasts.length = 50 := by rw [F4.len]; simp [Dk.new]
  have hborn : Lg.Born 3 (Dk.last M1 q) := F4.all (Lg.Born 3) (fun j hj => .inl (by
      have hj' : j < 50 := by simpa [Dk.new] using hj
      rw [Dk.last, Dk.new, List.getD_eq_getElem?_getD, List.getElem?_replicate, if_pos hj']; rfl)) (fun s b t j ht hj => by rw [A0.out.1]; exact .inr ⟨s, b, t, j, rfl, ht, hj⟩) q (by simp [Dk.new]; omega)
  have hon := F4.fits.rest.on
  have hidle := F4.fits.rest.idle
  have e1 : Dk.readOf M1 (q : Int) = (Dk.last M1 q, 0) := by
    rw [Dk.readOf, if_neg (by rw [hon]; decide), if_pos (Dk.there_iff.2 ⟨by omega, by omega⟩)]
    show (Dk.seen M1 q, _) = _
    rw [Dk.seen_last (hidle q)]
  obtain ⟨S, hS⟩ : ∃ S, S = Dk.spoil M1 (q : Int) (p : Int) x.data.toList := ⟨_, rfl⟩
  have hS1 : S = (if p + x.size ≤ 64 then ({ M1 with lasts := M1.lasts.set q (Dk.xored (Dk.last M1 q) p x.data.toList) }, 0) else (M1, 1)) := by
    have hxl : x.data.toList.length = x.size := by simp
    have hx4 := HX4.out
    rw [hS, Dk.spoil]
    have hm : Dk.mayspoil M1 (q : Int) (p : Int) x.data.toList = decide (p + x.size ≤ 64) := by
      rw [Bool.eq_iff_iff]
      simp only [Dk.mayspoil, Bool.and_eq_true, decide_eq_true_eq, Dk.there_iff, hxl]
      constructor
      · intro h; omega
      · intro h; exact ⟨⟨⟨⟨by omega, by omega⟩, by omega⟩, by omega⟩, by omega⟩
    rw [hm]
    by_cases hpx : p + x.size ≤ 64
    · rw [if_pos hpx, decide_eq_true hpx, if_pos rfl]; rfl
    · rw [if_neg hpx, decide_eq_false hpx, if_neg (by decide)]
  obtain ⟨wasl, hwl⟩ : ∃ a, a = Dk.last M1 q := ⟨_, rfl⟩
  obtain ⟨s1, hs1⟩ : ∃ s : ByteArray, s = ⟨wasl.toArray⟩ := ⟨_, rfl⟩
  have hs1l : s1.data.toList = wasl := by rw [hs1]
  have LO : Hid (∀ wx : World, Calls Try.prog 31 #[.string s1] wx fun e w' => e = .returned (.tuple #[.string ⟨(Dk.lookOf wasl).1.toArray⟩, .int .i64 (Dk.lookOf wasl).2]) ∧ Below wx.heap.size wx w') := fun wx => by rw [← hs1l]; exact dkLook_any wx s1
  obtain ⟨bd, hbd⟩ : ∃ s : ByteArray, s = ⟨(Dk.lookOf wasl).1.toArray⟩ := ⟨_, rfl⟩
  obtain ⟨st, hst⟩ : ∃ n, n = (Dk.lookOf wasl).2 := ⟨_, rfl⟩
  rw [← hbd, ← hst] at LO
  have RD := Lib.hid (Dk.read_in F4.step.own.disk (q : Int))
  rw [e1, ← hwl, ← hs1] at RD
  have HST := Lib.hid hst
  have HWL := Lib.hid hwl
  have HS1 := Lib.hid hs1
  have HSS := Lib.hid hS
  have HS2 := Lib.hid hS1
  have HON := Lib.hid hon
  have HID := Lib.hid hidle
  have HM5 := Lib.hid hM50
  have HBN := Lib.hid hborn
  clear e1 hS hS1 hwl hs1 hs1l hbd hst hon hidle hM50 hborn F4 FI
  go_upto_region 12 with (go_at_call 30; refine RD.out.mono ?_; rintro e w5 ⟨rfl, o4, -⟩)
  go_upto_region 13 with (go_at_call 31; refine (LO.out _).mono ?_; rintro e w6 ⟨rfl, k5⟩)
  have SP := Lib.hid (Dk.spoil_in (o4.low k5) (q : Int) (p : Int) x hx)
  rw [← HSS.out] at SP
  obtain ⟨F, hF⟩ : ∃ n, n = S.2 := ⟨_, rfl⟩
  rw [← hF] at SP
  have HF := Lib.hid hF
  clear o4 k5 hF
  go_upto_region 14 with (go_at_call 32; refine SP.out.mono ?_; rintro e w7 ⟨fp6, rfl, st6⟩)
  have o6 := Lib.hid st6.own
  have hon2 : S.1.off = false := by
    rw [HS2.out]
    split
    · exact HON.out
    · exact HON.out
  have hlen2 : S.1.lasts.length = 50 := by
    rw [HS2.out]
    split
    · show (M1.lasts.set q _).length = 50
      rw [List.length_set]; exact HM5.out
    · exact HM5.out
  have e2 : Dk.readOf S.1 (q : Int) = (Dk.seen S.1 q, 0) := by
    rw [Dk.readOf, if_neg (by rw [hon2]; decide), if_pos (Dk.there_iff.2 ⟨by omega, by omega⟩)]; rfl
  have RD2 := Lib.hid (Dk.read_in o6.out (q : Int))
  rw [e2] at RD2
  obtain ⟨s2, hs2⟩ : ∃ s : ByteArray, s = ⟨(Dk.seen S.1 q).toArray⟩ := ⟨_, rfl⟩
  rw [← hs2] at RD2
  have HS3 := Lib.hid hs2
  clear st6 e2 hs2 SP
  go_upto_region 15 with (go_at_call 30; refine RD2.out.mono ?_; rintro e w8 ⟨rfl, o7, -⟩)
  have O7 := Lib.hid o7
  have HL2 := Lib.hid hlen2
  clear o7 hon2 hlen2
  by_cases hst1 : st = 1
  · subst hst1
    by_cases hsame : s2 = s1
    · subst hsame
      go_wp2_with fail
      go_ret
      exact ⟨rfl, O7.out.below⟩
    · have hfit : p + x.size ≤ 64 := by
        refine Decidable.byContradiction fun hno => hsame ?_
        have e3 : S = (M1, 1) := by rw [HS2.out, if_neg hno]
        rw [HS3.out, HS1.out, HWL.out, e3]
        show (⟨(Dk.seen M1 q).toArray⟩ : ByteArray) = _
        rw [Dk.seen_last (HID.out q)]
      have hxl : x.data.toList.length = x.size := by simp
      have e3 : S = ({ M1 with lasts := M1.lasts.set q (Dk.xored (Dk.last M1 q) p x.data.toList) }, 0) := by rw [HS2.out, if_pos hfit]
      have hF0 : F = 0 := by rw [HF.out, e3]
      have hsn : Dk.seen S.1 q = Dk.xored (Dk.last M1 q) p x.data.toList := by
        rw [e3, Dk.seen_last (by exact HID.out q), Dk.last, List.getD_eq_getElem?_getD, List.getElem?_set_self (by have := HM5.out; omega)]; rfl
      have herr : Lg.readErr S.1 0 50 = 9 := by
        rw [e3]
        exact Lg.spoilt_err HON.out HID.out hq50 HM5.out.symm (Lg.born_spoilt (by decide) HBN.out (by rw [← HWL.out]; exact HST.out.symm) HX4.out (by omega) (fun e => hsame (by rw [HS3.out, HS1.out, HWL.out, hsn, e])))
      have OE0 := lgOpen_err O7.out 0 50 ep (by decide) (by omega) (by rw [HL2.out]; omega) (by rw [herr]; decide)
      rw [herr] at OE0
      have OE : Hid (Calls Try.prog 35 #[.pointer (some ⟨r, 0, none⟩), .int .i64 0, .int .i64 50, .int .u64 (ep : Int)] w8 _) := OE0
      subst hF0
      have hne := Dk.str_ne hsame
      have hne2 : ¬ s2.toList = s1.toList := by simpa using hne
      have B7 := Lib.hid O7.out.below
      clear hxl e3 hsn herr hsame OE0
      go_wp2_with (go_at_call 35; refine OE.out.mono ?_; rintro e w9 ⟨rfl, k8⟩)
      go_ret
      exact ⟨rfl, B7.out.trans (k8.mono B7.out.size)⟩
  · have hsb : (st == 1) = false := beq_eq_false_iff_ne.2 hst1
    have B7 := Lib.hid O7.out.below
    go_wp2_with fail
    go_ret
    exact ⟨rfl, B7.out⟩
end Go.Proofs.Yticpllhblgildaa
