/-
  KeptKnown: the chapter's examples; the limits.
-/
import Derived.Test.YticpllhblgildaaKpRun
namespace Go.Proofs.Yticpllhblgildaa
open Go.RowKit
namespace Kp
theorem parts_short {t : List UInt8} (h : t.length ≤ 48) : parts t = 1 := by unfold parts; omega
/-- One write passes, the sync does not. -/
theorem Fits.cut {M : Dk.Md} {K : Md} (h : Fits M K) {t : List UInt8} (ht : t.length ≤ 48) (hs : K.seen + 1 < 18446744073709551616) (hf : M.fuse = 1) :
    ∃ M', Kp.put K M t = ({ K with broken := true }, M', 14) ∧ Torn M' { K with broken := true } t := by
  rcases h.put t hs with ⟨h1, _⟩ | ⟨_, M', e1, _⟩ | ⟨_, _, M', e1, h2⟩
  · omega
  · exfalso
    have hat := h.at_
    have hn := h.fit.next
    have hb : bodies t (K.seen + 1) = [body t (K.seen + 1) 0] := by rw [bodies, parts_short ht]; rfl
    have e2 : (Kp.save M (K.from_ + K.next * 10) (bodies t (K.seen + 1))).2 = 0 := by
      have hp : (Kp.put K M t).2.2 = 0 := by rw [e1]
      rw [Kp.put, h.live, if_neg (by decide), if_neg (by omega), if_neg (by omega)] at hp
      by_cases hz : (Kp.save M (K.from_ + K.next * 10) (bodies t (K.seen + 1))).2 = 0
      · exact hz
      · rw [if_neg hz] at hp; exact absurd hp hz
    have ha : Dk.act M = ({ M with fuse := 0 }, true) := by
      unfold Dk.act
      rw [if_neg (by omega), if_pos (by omega), hf]; rfl
    have hw := write_ok (M := M) (i := K.from_ + K.next * 10) (b := body t (K.seen + 1) 0) h.on (body_length _ _ _) (by omega) (by omega)
    rw [ha] at hw
    have hpu : puts M (K.from_ + K.next * 10) [body t (K.seen + 1) 0] = (Dk.put { M with fuse := 0 } (K.from_ + K.next * 10).toNat (Dk.closed (body t (K.seen + 1) 0)), 0) := by
      rw [puts, hw]; simp [puts]
    have hon := h.on
    rw [hb, Kp.save, hpu] at e2
    simp [Dk.sync, Dk.put, Dk.act, hon] at e2
  · exact ⟨M', e1, h2⟩
/-- A crash that keeps nothing. -/
theorem Torn.crash_nil {M : Dk.Md} {K : Md} {t : List UInt8} (h : Torn M K t) : Fits (Dk.crash M []) { K with broken := false } := by
  have hat := h.at_
  have e : ∀ j, j < 20 → lastly (Dk.crash M []) K.from_ j = lastly M K.from_ j := fun j hj => by
    rw [lastly, last_crash (by omega), Dk.kept_none]; rfl
  have hs := h.same
  refine ⟨h.ok.crash [], by rw [len_crash]; exact hat, rfl, fun _ => rfl, ?_, ?_⟩
  · show bad (lastly (Dk.crash M []) K.from_) = false
    rw [bad_congr e]; exact h.good
  · show ({ K with broken := false } : Md) = opened (lastly (Dk.crash M []) K.from_) K.from_
    rw [opened_congr e]
    conv => lhs; rw [hs]
    rfl
theorem repeat_one (b : UInt8) (n : Nat) : (Lib.repeatL [b] n).length = n := (Lib.repeatL_length [b] n).trans (Nat.mul_one n)
section
variable {B : Nat} {w0 w w' : World} {r : Nat} {fp : Nat → Prop} {M : Dk.Md} {k : Nat} {K : Md}
/-- A Put that the fuse breaks off. -/
theorem put_cut (h : Own B w0 w r fp M k K) (hF : Fits M K) (hs : K.seen + 1 < 18446744073709551616) (hf : M.fuse = 1) (t : ByteArray) (ht : t.size ≤ 48) :
    Calls Try.prog 18 #[.pointer (some ⟨k, 0, none⟩), .string t] w fun e w' => ∃ fp' M', e = .returned (.int .i64 14) ∧ Own B w0 w' r fp' M' k { K with broken := true } ∧ Torn M' { K with broken := true } t.data.toList ∧ Dk.waits M' ≤ 9 ∧ M'.lasts.length = M.lasts.length := by
  have htl : t.data.toList.length = t.size := by simp
  have hw := waits_put K M t.data.toList
  have hlen := len_put K M t.data.toList
  refine (kpPut_any h hF.fit (by rw [hF.waits]; omega) t (by omega)).mono ?_
  rintro e w' ⟨fp', rfl, st⟩
  obtain ⟨M', e1, h2⟩ := hF.cut (t := t.data.toList) (by omega) hs hf
  rw [e1] at st hw hlen ⊢
  exact ⟨fp', M', rfl, st.own, h2, by have h3 : Dk.waits M' ≤ Dk.waits M + 9 := hw; rw [hF.waits] at h3; omega, hlen⟩
theorem put_torn {tt : List UInt8} (h : Own B w0 w r fp M k K) (hT : Torn M K tt) (hw : Dk.waits M ≤ 9) (t : ByteArray) (ht : t.size ≤ 9223372036854775807) :
    Calls Try.prog 18 #[.pointer (some ⟨k, 0, none⟩), .string t] w fun e w' => ∃ fp', e = .returned (.int .i64 11) ∧ Own B w0 w' r fp' M k K := by
  refine (kpPut_any h hT.fit (by omega) t ht).mono ?_
  rintro e w' ⟨fp', rfl, st⟩
  rw [hT.put] at st ⊢
  exact ⟨fp', rfl, st.own⟩
end
end Kp
set_option maxRecDepth 100000 in
set_option maxHeartbeats 2000000 in
theorem keptknown_any (w : World) : Calls Try.prog 3 #[] w fun e w' => e = .returned (.bool true) ∧ Below w.heap.size w w' := by
  have AW : Hid (∀ wx : World, Calls Try.prog 22 #[] wx fun e w' => e = .returned (.bool true) ∧ Below wx.heap.size wx w') := fun wx => awake9_any wx
  have R1 : Hid (∀ wx : World, Calls Try.prog 19 #[.string ⟨#[120]⟩, .int .i64 401] wx fun e w' => e = .returned (.string ⟨(Lib.repeatL [120] 401).toArray⟩) ∧ Below wx.heap.size wx w') := fun wx => strings_Repeat ⟨#[120]⟩ 401 wx (by decide) (by show 1 * 401 ≤ _; decide)
  have R2 : Hid (∀ wx : World, Calls Try.prog 19 #[.string ⟨#[120]⟩, .int .i64 400] wx fun e w' => e = .returned (.string ⟨(Lib.repeatL [120] 400).toArray⟩) ∧ Below wx.heap.size wx w') := fun wx => strings_Repeat ⟨#[120]⟩ 400 wx (by decide) (by show 1 * 400 ≤ _; decide)
  obtain ⟨x1, hx1⟩ : ∃ b : ByteArray, b = ⟨(Lib.repeatL [120] 401).toArray⟩ := ⟨_, rfl⟩
  obtain ⟨x2, hx2⟩ : ∃ b : ByteArray, b = ⟨(Lib.repeatL [120] 400).toArray⟩ := ⟨_, rfl⟩
  have z1 : Hid (x1.size = 401) := by show _ = _; rw [hx1]; have := Kp.repeat_one 120 401; simpa [ByteArray.size] using this
  have z2 : Hid (x2.size = 400) := by show _ = _; rw [hx2]; have := Kp.repeat_one 120 400; simpa [ByteArray.size] using this
  rw [← hx1] at R1
  rw [← hx2] at R2
  obtain ⟨K0, hK0⟩ : ∃ K, K = Kp.zero 20 := ⟨_, rfl⟩
  obtain ⟨K1, hK1⟩ : ∃ K, K = Kp.made K0 [97] := ⟨_, rfl⟩
  obtain ⟨K2, hK2⟩ : ∃ K, K = Kp.made K1 [98] := ⟨_, rfl⟩
  obtain ⟨K3, hK3⟩ : ∃ K, K = Kp.made K2 x2.data.toList := ⟨_, rfl⟩
  obtain ⟨K4, hK4⟩ : ∃ K, K = Kp.made K3 [98] := ⟨_, rfl⟩
  have hF0 : Kp.Fits (Dk.new 40) K0 := by rw [hK0]; exact Kp.new_fits (n := 40) (by omega) (a := 20) (by omega)
  have A0 : Hid (K0.from_ = 20 ∧ K0.seen = 0 ∧ K0.text = [] ∧ decide (0 < K0.gen) = false) := by rw [hK0]; exact ⟨rfl, rfl, rfl, rfl⟩
  have A1 : Hid (K1.seen = 1) := by rw [hK1, hK0]; rfl
  have A2 : Hid (K2.from_ = 20 ∧ K2.text = [98] ∧ decide (0 < K2.gen) = true ∧ K2.seen = 2) := by rw [hK2, hK1, hK0]; exact ⟨rfl, rfl, rfl, rfl⟩
  have A3 : Hid (K3.seen = 3) := by rw [hK3, hK2, hK1, hK0]; rfl
  have A4 : Hid (K4.from_ = 20 ∧ K4.text = [98] ∧ decide (0 < K4.gen) = true ∧ K4.seen = 4 ∧ K4.broken = false) := by rw [hK4, hK3, hK2, hK1, hK0]; exact ⟨rfl, rfl, rfl, rfl, rfl⟩
  have F0 := Lib.hid hF0
  have HK1 := Lib.hid hK1.symm
  have HK2 := Lib.hid hK2.symm
  have HK3 := Lib.hid hK3.symm
  have HK4 := Lib.hid hK4.symm
  clear hK0 hK1 hK2 hK3 hK4 hF0 hx1 hx2
  go_enter Try.func3, Try.ntmps3
  go_upto_region 2 with (go_at_call 15; refine (Dk.new_in (Below.refl w.heap.size w) (Nat.le_refl _) 40 (by omega)).mono ?_; rintro e w1 ⟨r, fp, rfl, o1, -, -⟩)
  go_upto_region 3 with (go_at_call 16; refine (Kp.open_in o1 F0.out A0.out.1).mono ?_; rintro e w2 ⟨k, rfl, o2, -, -⟩)
  clear o1
  go_upto_region 4 with (go_at_call 17; refine (Kp.get_to (s := ⟨#[]⟩) o2 F0.out.fit A0.out.2.2.1 A0.out.2.2.2).mono ?_; rintro e w3 ⟨rfl, o3, -⟩)
  clear o2
  have PA := Lib.hid (Kp.put_to o3 F0.out (by rw [A0.out.2.1]; omega) (by show (-1 : Int) < 0; omega) ⟨#[97]⟩ (by decide) rfl HK1.out)
  go_upto_region 5 with (go_at_call 18; refine PA.out.mono ?_; rintro e w4 ⟨fp4, M4, rfl, s4, f4, u4, l4⟩)
  have o4 := s4.own
  clear o3 s4 PA
  have PB := Lib.hid (Kp.put_to o4 f4 (by rw [A1.out]; omega) u4 ⟨#[98]⟩ (by decide) rfl HK2.out)
  go_upto_region 6 with (go_at_call 18; refine PB.out.mono ?_; rintro e w5 ⟨fp5, M5, rfl, s5, f5, u5, l5⟩)
  have o5 := s5.own
  clear o4 s5 f4 u4 PB
  go_upto_region 7 with (go_at_call 17; refine (Kp.get_to (s := ⟨#[98]⟩) o5 f5.fit A2.out.2.1 A2.out.2.2.1).mono ?_; rintro e w6 ⟨rfl, o6, -⟩)
  clear o5
  go_upto_region 8 with (go_at_call 16; refine (Kp.open_in o6.disk f5 A2.out.1).mono ?_; rintro e w7 ⟨k7, rfl, o7, -, -⟩)
  clear o6
  go_upto_region 9 with (go_at_call 17; refine (Kp.get_to (s := ⟨#[98]⟩) o7 f5.fit A2.out.2.1 A2.out.2.2.1).mono ?_; rintro e w8 ⟨rfl, o8, -⟩)
  clear o7
  have PL : Hid (∀ wx, Below w8.heap.size w8 wx → Calls Try.prog 18 #[.pointer (some ⟨k7, 0, none⟩), .string x1] wx fun e w' => ∃ fp', e = .returned (.int .i64 3) ∧ Kp.Own w.heap.size w w' r fp' M5 k7 K2) := fun wx hwx => by
    refine (Kp.put_long (o8.below hwx) f5 (by rw [A2.out.2.2.2]; omega) x1 (by rw [z1.out]; omega) (by rw [z1.out]; omega)).mono ?_
    rintro e w' ⟨fp', h1, h2⟩
    exact ⟨fp', h1, h2.own⟩
  clear o8
  go_upto_region 10 with (first
    | (go_at_call 19; refine (R1.out _).mono ?_; rintro e w9 ⟨rfl, k9⟩)
    | (go_at_call 18; refine (PL.out _ k9).mono ?_; rintro e w10 ⟨fp10, rfl, o10⟩))
  have PM : Hid (∀ wx, Below w10.heap.size w10 wx → Calls Try.prog 18 #[.pointer (some ⟨k7, 0, none⟩), .string x2] wx fun e w' => ∃ fp' M', e = .returned (.int .i64 0) ∧ Kp.Own w.heap.size w w' r fp' M' k7 K3 ∧ Kp.Fits M' K3 ∧ M'.fuse < 0 ∧ M'.lasts.length = M5.lasts.length) := fun wx hwx => by
    refine (Kp.put_to (o10.below hwx) f5 (by rw [A2.out.2.2.2]; omega) u5 x2 (by rw [z2.out]; omega) rfl HK3.out).mono ?_
    rintro e w' ⟨fp', M', h1, h2, h3, h4, h5⟩
    exact ⟨fp', M', h1, h2.own, h3, h4, h5⟩
  clear o10 k9 PL
  go_upto_region 11 with (first
    | (go_at_call 19; refine (R2.out _).mono ?_; rintro e w11 ⟨rfl, k11⟩)
    | (go_at_call 18; refine (PM.out _ k11).mono ?_; rintro e w12 ⟨fp12, M12, rfl, o12, f12, u12, l12⟩))
  clear k11 PM f5 u5
  have PD := Lib.hid (Kp.put_to o12 f12 (by rw [A3.out]; omega) u12 ⟨#[98]⟩ (by decide) rfl HK4.out)
  go_upto_region 12 with (go_at_call 18; refine PD.out.mono ?_; rintro e w13 ⟨fp13, M13, rfl, s13, f13, u13, l13⟩)
  have o13 := s13.own
  clear o12 s13 f12 u12 PD
  have FU := Lib.hid (Dk.fuse_in o13.disk 1 (by omega))
  go_upto_region 13 with (go_at_call 20; refine FU.out.mono ?_; rintro e w14 ⟨fp14, rfl, st14⟩)
  have o14 := (o13.act st14).own
  have f14 := f13.fuse (n := 1) (by omega)
  clear o13 st14 f13 u13 FU
  have PC := Lib.hid (Kp.put_cut o14 f14 (by rw [A4.out.2.2.2.1]; omega) rfl ⟨#[99]⟩ (by decide))
  go_upto_region 14 with (go_at_call 18; refine PC.out.mono ?_; rintro e w15 ⟨fp15, M15, rfl, o15, t15, v15, l15⟩)
  clear o14 f14 PC
  have PT := Lib.hid (Kp.put_torn o15 t15 v15 ⟨#[100]⟩ (by decide))
  go_upto_region 15 with (go_at_call 18; refine PT.out.mono ?_; rintro e w16 ⟨fp16, rfl, o16⟩)
  clear o15 PT
  have CR := Lib.hid (Dk.crash_in o16.disk (by omega) (Dk.IntsAt.nil _) (Dk.Off.nil _))
  have f17 := t15.crash_nil
  have hK : ({ K4 with broken := false } : Kp.Md) = K4 := by rw [← A4.out.2.2.2.2]
  have hl17 : Hid ((Dk.crash M15 []).lasts.length = 40) := by
    show _ = _
    have h0 : (Dk.new 40).lasts.length = 40 := by simp [Dk.new]
    have h1 : M15.lasts.length = M13.lasts.length := l15
    rw [Dk.len_crash, h1, l13, l12, l5, l4, h0]
  rw [hK] at f17
  clear o16 t15 v15 hK l4 l5 l12 l13 l15
  go_upto_region 16 with (go_at_call 21; refine CR.out.mono ?_; rintro e w17 ⟨fp17, rfl, st17⟩)
  have o17 := st17.own
  clear st17 CR
  go_upto_region 17 with (go_at_call 16; refine (Kp.open_in o17 f17 A4.out.1).mono ?_; rintro e w18 ⟨k18, rfl, o18, -, -⟩)
  clear o17
  go_upto_region 18 with (go_at_call 17; refine (Kp.get_to (s := ⟨#[98]⟩) o18 f17.fit A4.out.2.1 A4.out.2.2.1).mono ?_; rintro e w19 ⟨rfl, o19, -⟩)
  clear o18
  have E1 := Lib.hid (kpOpen_arg o19.disk 21 (.inr (by rw [hl17.out]; omega)))
  have E2 := Lib.hid (kpOpen_arg o19.disk (-1) (.inl (by omega)))
  have E3 := Lib.hid (kpOpen_nil w19 0)
  have B19 := Lib.hid o19.disk.below
  clear o19 f17
  go_upto_region 19 with (go_at_call 16; refine E1.out.mono ?_; rintro e w20 ⟨rfl, rfl⟩)
  go_upto_region 20 with (go_at_call 16; refine E2.out.mono ?_; rintro e w21 ⟨rfl, rfl⟩)
  go_wp2_with (first
    | (go_at_call 16; refine E3.out.mono ?_; rintro e w22 ⟨rfl, rfl⟩)
    | (go_at_call 22; refine (AW.out _).mono ?_; rintro e w23 ⟨rfl, k23⟩))
  go_ret
  exact ⟨rfl, B19.out.trans (k23.mono B19.out.size)⟩
end Go.Proofs.Yticpllhblgildaa
