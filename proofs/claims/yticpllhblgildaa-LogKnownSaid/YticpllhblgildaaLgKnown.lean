/-
  LogKnown: the chapter's examples; the limits.
-/
import Derived.Test.YticpllhblgildaaLgEpochs
namespace Go.Proofs.Yticpllhblgildaa
open Go.RowKit
namespace Lg
theorem one_at (w : World) (x : ByteArray) {a : List UInt8} (hx : x.data.toList = a) : Rows (w.alloc (.cells #[.string x] 9)) (some ⟨w.heap.size, 0, none⟩) [a] := by
  subst hx
  have g := heap_alloc_new w (.cells #[.string x] 9)
  refine .inr ⟨w.heap.size, 0, rfl, Sm.lt_of g, fun i hi => ?_⟩
  match i, hi with
  | 0, _ => exact Sm.cells_of g 0 _ rfl
  | i + 1, h => simp at h
theorem rep_length (b : UInt8) (n : Nat) : (Lib.repeatL [b] n).length = n := (Lib.repeatL_length [b] n).trans (Nat.mul_one n)
theorem size_says {s : ByteArray} {n : Nat} (h : s.data.toList.length = n) : s.size = n := by rw [← h]; simp
theorem parts_says (w : World) (s : ByteArray) (n k : Nat) (hs : s.data.toList.length = n) (hn : n ≤ 2000) (hk : max 1 ((n + 32 - 1) / 32) = k) :
    Calls Try.prog 41 #[.string s] w fun e w' => e = .returned (.int .i64 (k : Int)) ∧ w = w' := by
  have h := lgParts_any w s (by rw [size_says hs]; omega)
  have e : Pt.parts 32 s.data.toList = k := by unfold Pt.parts; rw [hs]; exact hk
  rw [e] at h
  exact h
end Lg
set_option maxRecDepth 100000 in
set_option maxHeartbeats 4000000 in
theorem logknown_any (w : World) : Calls Try.prog 10 #[] w fun e w' => e = .returned (.bool true) ∧ Below w.heap.size w w' := by
  have AW : Hid (∀ wx : World, Calls Try.prog 39 #[] wx fun e w' => e = .returned (.bool true) ∧ Below wx.heap.size wx w') := fun wx => awake10_any wx
  obtain ⟨lb, hlbl, sb, hsbl, RP⟩ : ∃ lb : List UInt8, lb.length = 33 ∧ ∃ sb : ByteArray, sb.data.toList = lb ∧ Hid (∀ wx : World, Calls Try.prog 19 #[.string ⟨#[98]⟩, .int .i64 33] wx fun e w' => e = .returned (.string sb) ∧ Below wx.heap.size wx w') :=
    ⟨Lib.repeatL [98] 33, Lg.rep_length 98 33, ⟨(Lib.repeatL [98] 33).toArray⟩, rfl, fun wx => strings_Repeat ⟨#[98]⟩ 33 wx (by decide) (by show 1 * 33 ≤ _; decide)⟩
  obtain ⟨x1, hx1, R1⟩ : ∃ s : ByteArray, s.data.toList.length = 32 ∧ Hid (∀ wx : World, Calls Try.prog 19 #[.string ⟨#[120]⟩, .int .i64 32] wx fun e w' => e = .returned (.string s) ∧ Below wx.heap.size wx w') :=
    ⟨⟨(Lib.repeatL [120] 32).toArray⟩, Lg.rep_length 120 32, fun wx => strings_Repeat ⟨#[120]⟩ 32 wx (by decide) (by show 1 * 32 ≤ _; decide)⟩
  obtain ⟨x2, hx2, R2⟩ : ∃ s : ByteArray, s.data.toList.length = 33 ∧ Hid (∀ wx : World, Calls Try.prog 19 #[.string ⟨#[120]⟩, .int .i64 33] wx fun e w' => e = .returned (.string s) ∧ Below wx.heap.size wx w') :=
    ⟨⟨(Lib.repeatL [120] 33).toArray⟩, Lg.rep_length 120 33, fun wx => strings_Repeat ⟨#[120]⟩ 33 wx (by decide) (by show 1 * 33 ≤ _; decide)⟩
  obtain ⟨x3, hx3, R3⟩ : ∃ s : ByteArray, s.data.toList.length = 1025 ∧ Hid (∀ wx : World, Calls Try.prog 19 #[.string ⟨#[120]⟩, .int .i64 1025] wx fun e w' => e = .returned (.string s) ∧ Below wx.heap.size wx w') :=
    ⟨⟨(Lib.repeatL [120] 1025).toArray⟩, Lg.rep_length 120 1025, fun wx => strings_Repeat ⟨#[120]⟩ 1025 wx (by decide) (by show 1 * 1025 ≤ _; decide)⟩
  obtain ⟨x4, hx4, R4⟩ : ∃ s : ByteArray, s.data.toList.length = 1024 ∧ Hid (∀ wx : World, Calls Try.prog 19 #[.string ⟨#[120]⟩, .int .i64 1024] wx fun e w' => e = .returned (.string s) ∧ Below wx.heap.size wx w') :=
    ⟨⟨(Lib.repeatL [120] 1024).toArray⟩, Lg.rep_length 120 1024, fun wx => strings_Repeat ⟨#[120]⟩ 1024 wx (by decide) (by show 1 * 1024 ≤ _; decide)⟩
  have P0 : Hid (∀ wx : World, Calls Try.prog 41 #[.string ⟨#[]⟩] wx fun e w' => e = .returned (.int .i64 1) ∧ wx = w') := fun wx => Lg.parts_says wx ⟨#[]⟩ 0 1 rfl (by decide) (by decide)
  have P1 : Hid (∀ wx : World, Calls Try.prog 41 #[.string x1] wx fun e w' => e = .returned (.int .i64 1) ∧ wx = w') := fun wx => Lg.parts_says wx x1 32 1 hx1 (by decide) (by decide)
  have P2 : Hid (∀ wx : World, Calls Try.prog 41 #[.string x2] wx fun e w' => e = .returned (.int .i64 2) ∧ wx = w') := fun wx => Lg.parts_says wx x2 33 2 hx2 (by decide) (by decide)
  have hp4 : Pt.parts 32 x4.data.toList = 32 := by unfold Pt.parts; rw [hx4]; decide
  obtain ⟨L0, hL0⟩ : ∃ L, L = Lg.zero 1 1 5 := ⟨_, rfl⟩
  obtain ⟨L1, hL1⟩ : ∃ L, L = Lg.added L0 [97] := ⟨_, rfl⟩
  obtain ⟨L2, hL2⟩ : ∃ L, L = Lg.added L1 lb := ⟨_, rfl⟩
  obtain ⟨Q0, hQ0⟩ : ∃ L, L = Lg.zero 1 0 40 := ⟨_, rfl⟩
  obtain ⟨Q1, hQ1⟩ : ∃ L, L = Lg.added Q0 x4.data.toList := ⟨_, rfl⟩
  have hp1 : Pt.parts 32 [97] = 1 := by decide
  have hp8 : Pt.parts 32 [98] = 1 := by decide
  have hp2 : Pt.parts 32 lb = 2 := by unfold Pt.parts; rw [hlbl]; decide
  obtain ⟨R0, O0⟩ := Lg.rest_new (N := 8) (by decide) (a := 1) (n := 4) (by decide) (by decide)
  obtain ⟨S0, T0⟩ := Lg.rest_new (N := 40) (by decide) (a := 0) (n := 40) (by decide) (by decide)
  have A0 : Hid (L0 = Lg.opened 4 (Kp.lastly (Dk.new 8) 1) 1 1) := by show _ = _; rw [hL0, O0 1 (by decide)]; rfl
  have B0 : Hid (Q0 = Lg.opened 40 (Kp.lastly (Dk.new 40) 0) 0 1) := by show _ = _; rw [hQ0, T0 1 (by decide)]; rfl
  have N0 : Hid (L0.salt = 0 ∧ (Pt.parts 32 [97] : Int) ≤ L0.end_ - L0.next) := by rw [hp1, hL0]; exact ⟨rfl, by decide⟩
  have N1 : Hid (L1.salt = 1 ∧ (Pt.parts 32 lb : Int) ≤ L1.end_ - L1.next) := by
    rw [hp2, hL1, hL0]
    refine ⟨rfl, ?_⟩
    show ((2 : Nat) : Int) ≤ 5 - (1 + (Pt.parts 32 [97] : Int))
    rw [hp1]; decide
  have N2 : Hid (L2.ep = 1 ∧ L2.recs = [[97], lb] ∧ L2.end_ - L2.next = 1 ∧ L2.salt = 2) := by
    rw [hL2, hL1, hL0]
    refine ⟨rfl, rfl, ?_, rfl⟩
    show (5 : Int) - (1 + (Pt.parts 32 [97] : Int) + (Pt.parts 32 lb : Int)) = 1
    rw [hp1, hp2]; decide
  have NF : Hid (1024 < lb.length ∨ L2.end_ - L2.next < Pt.parts 32 lb) := by
    refine .inr ?_
    rw [hp2, N2.out.2.2.1]; decide
  have NX : Hid ((6 : Int) = if 1024 < lb.length then 3 else 6) := by show _ = _; rw [if_neg (by omega)]
  have N8 : Hid (Q0.salt = 0 ∧ (Pt.parts 32 x4.data.toList : Int) ≤ Q0.end_ - Q0.next) := by rw [hp4, hQ0]; exact ⟨rfl, by decide⟩
  have N9 : Hid (Q1.end_ - Q1.next = 8) := by
    show _ = _
    rw [hQ1, hQ0]
    show (40 : Int) - (0 + (Pt.parts 32 x4.data.toList : Int)) = 8
    rw [hp4]; decide
  have NB : Hid ((Pt.parts 32 [98] : Int) ≤ 4) := by show _ ≤ _; rw [hp8]; decide
  have HA1 : Hid (Lg.added L0 [97] = L1) := hL1.symm
  have HA2 : Hid (Lg.added L1 lb = L2) := hL2.symm
  have HA4 : Hid (Lg.added Q0 x4.data.toList = Q1) := hQ1.symm
  have HR0 := Lib.hid R0
  have HS0 := Lib.hid S0
  have HX3 := Lib.hid hx3
  have HX4 := Lib.hid hx4
  have HSB := Lib.hid hsbl
  have HLB : Hid (lb.length = 33) := hlbl
  have PR : Hid (∀ wx : World, Lg.Rows (wx.alloc (.cells #[.string ⟨#[98]⟩] 9)) (some ⟨wx.heap.size, 0, none⟩) [[98]]) := fun wx => Lg.one_at wx ⟨#[98]⟩ rfl
  have SA : Hid (∀ wx A1 A2 c1 c2, Lg.Rows wx A1 [[98]] → Lg.Rows wx A2 [[98]] → Calls Try.prog 40 #[.slice A1 1 c1, .slice A2 1 c2] wx fun e w' => e = .returned (.bool true) ∧ Below wx.heap.size wx w') := fun wx A1 A2 c1 c2 h1 h2 => same10_any wx A1 A2 c1 c2 [[98]] [[98]] h1 h2 (by simp) (by simp) true (by simp)
  clear hL0 hL1 hL2 hQ0 hQ1 hp1 hp2 hp4 hp8 R0 O0 S0 T0 hlbl hsbl hx1 hx2 hx3 hx4
  go_enter Try.func10, Try.ntmps10
  go_upto_region 2 with (go_at_call 15; refine (Dk.new_in (Below.refl w.heap.size w) (Nat.le_refl _) 8 (by omega)).mono ?_; rintro e w1 ⟨r, fp, rfl, o1, -, -⟩)
  have OP : Hid (Calls Try.prog 35 #[.pointer (some ⟨r, 0, none⟩), .int .i64 1, .int .i64 4, .int .u64 1] w1 _) := Lg.open10_in o1 HR0.out (ep := 1) (by decide) A0.out
  go_upto_region 3 with (go_at_call 35; refine OP.out.mono ?_; rintro e w2 ⟨k, bl, rfl, o2, f2, -, -⟩)
  clear o1 OP
  have PA := Lib.hid (Lg.add_in o2 f2 (by rw [N0.out.1]; omega) (by show (-1 : Int) < 0; omega) ⟨#[97]⟩ (tl := [97]) rfl (by decide) N0.out.2 HA1.out)
  go_upto_region 4 with (go_at_call 36; refine PA.out.mono ?_; rintro e w3 ⟨fp3, bl3, M3, rfl, s3, f3, u3, l3, -⟩)
  have o3 := Lib.hid s3.own
  have l8 : Hid (M3.lasts.length = 8) := by show _ = _; rw [l3]; simp [Dk.new]
  clear o2 s3 f2 PA l3
  have PB : Hid (∀ wx, Below w3.heap.size w3 wx → Calls Try.prog 36 #[.pointer (some ⟨k, 0, none⟩), .string sb] wx _) := fun wx hwx => Lg.add_in (o3.out.below hwx) f3 (by rw [N1.out.1]; omega) u3 sb HSB.out (by rw [HLB.out]; decide) N1.out.2 HA2.out
  go_upto_region 5 with (first
    | (go_at_call 19; refine (RP.out _).mono ?_; rintro e w4 ⟨rfl, k4⟩)
    | (go_at_call 36; refine (PB.out _ k4).mono ?_; rintro e w5 ⟨fp5, bl5, M5, rfl, s5, f5, u5, l5, -⟩))
  have o5 := Lib.hid s5.own
  have l58 : Hid (M5.lasts.length = 8) := l5.trans l8.out
  clear s5 u3 f3 o3 PB k4 l5 l8
  have F5 := Lib.hid f5
  have U5 := Lib.hid u5
  have RO := Lib.hid (Lg.room_in o5.out f5.fit N2.out.2.2.1)
  clear f5 u5 o5
  go_upto_region 6 with (go_at_call 37; refine RO.out.mono ?_; rintro e w6 ⟨rfl, o6, -⟩)
  have O6 := Lib.hid o6
  clear o6 RO
  have PC : Hid (∀ wx, Below w6.heap.size w6 wx → Calls Try.prog 36 #[.pointer (some ⟨k, 0, none⟩), .string sb] wx _) := fun wx hwx => Lg.add_no (O6.out.below hwx) F5.out (by rw [N2.out.2.2.2]; omega) sb (by rw [Lg.size_says (s := sb) (n := 33) (by rw [HSB.out, HLB.out])]; decide) HSB.out NF.out NX.out
  go_upto_region 7 with (first
    | (go_at_call 19; refine (RP.out _).mono ?_; rintro e w7 ⟨rfl, k7⟩)
    | (go_at_call 36; refine (PC.out _ k7).mono ?_; rintro e w8 ⟨fp8, bl8, rfl, s8⟩))
  obtain ⟨L3, hL3⟩ : ∃ L, L = Lg.opened 4 (Kp.lastly M5 1) 1 2 := ⟨_, rfl⟩
  have A3 : Hid (L3.recs = [] ∧ L3.end_ - L3.next = 4 ∧ L3.ep = 2 ∧ L3.salt = 2) := by
    have hh : Pt.number 0 ((Lg.place 4 (Kp.lastly M5 1)).getD 0 []) ≠ 2 := by
      rw [F5.out.head (by rw [N2.out.2.1]; simp), N2.out.1]; decide
    obtain ⟨q1, q2, q3⟩ := Lg.opened_none (n := 4) (f := Kp.lastly M5 1) (a := 1) hh
    show _ ∧ _ ∧ _ ∧ _
    rw [hL3]
    refine ⟨q1, q2, q3, ?_⟩
    rw [Lg.opened_salt_le _ _ 2 L2.ep, ← F5.out.same]
    exact N2.out.2.2.2
  have o8 := s8.own.disk
  have OQ : Hid (Calls Try.prog 35 #[.pointer (some ⟨r, 0, none⟩), .int .i64 1, .int .i64 4, .int .u64 2] w8 _) := Lg.open10_in (L := L3) o8 F5.out.rest (ep := 2) (by decide) hL3
  clear s8 o8 k7 PC O6 hL3
  go_upto_region 8 with (go_at_call 35; refine OQ.out.mono ?_; rintro e w9 ⟨k9, bl9, rfl, o9, f9, -, -⟩)
  have RE : Hid (Calls Try.prog 38 #[.pointer (some ⟨k9, 0, none⟩)] w9 fun e w' => ∃ A c, e = .returned (.slice A 0 c) ∧ w'.ownsRow w9.heap.size 9 1 (.slice A 0 c) 0 ([].map Dk.txt) ∧ Lg.Rows w' A [] ∧ Lg.Own w.heap.size w w' r fp8 M5 k9 bl9 L3 ∧ Below w9.heap.size w9 w') := Lg.records_in o9 f9.fit A3.out.1
  have F9 := Lib.hid f9
  clear o9 f9 OQ F5
  go_upto_region 9 with (go_at_call 38; refine RE.out.mono ?_; rintro e w10 ⟨A10, c10, rfl, -, -, o10, -⟩)
  have RM := Lib.hid (Lg.room_in o10 F9.out.fit A3.out.2.1)
  clear o10 RE
  go_upto_region 10 with (go_at_call 37; refine RM.out.mono ?_; rintro e w11 ⟨rfl, o11, -⟩)
  obtain ⟨L4, hL4⟩ : ∃ L, L = Lg.added L3 [98] := ⟨_, rfl⟩
  have A4 : Hid (L4.ep = 2 ∧ L4.recs = [[98]]) := by
    show _ ∧ _
    rw [hL4]
    refine ⟨A3.out.2.2.1, ?_⟩
    show L3.recs ++ [[98]] = _
    rw [A3.out.1]; rfl
  have PD := Lib.hid (Lg.add_in o11 F9.out (by rw [A3.out.2.2.2]; omega) U5.out ⟨#[98]⟩ (tl := [98]) rfl (by decide) (by rw [A3.out.2.1]; exact NB.out) hL4.symm)
  clear o11 RM hL4
  go_upto_region 11 with (go_at_call 36; refine PD.out.mono ?_; rintro e w12 ⟨fp12, bl12, M12, rfl, s12, f12, u12, l12, -⟩)
  have l128 : Hid (M12.lasts.length = 8) := l12.trans l58.out
  have F12 := Lib.hid f12
  have o12 := s12.own.disk
  obtain ⟨L5, hL5⟩ : ∃ L, L = Lg.opened 4 (Kp.lastly M12 1) 1 1 := ⟨_, rfl⟩
  have A5 : Hid (L5.recs = []) := by
    have hh : Pt.number 0 ((Lg.place 4 (Kp.lastly M12 1)).getD 0 []) ≠ 1 := by
      rw [F12.out.head (by rw [A4.out.2]; simp), A4.out.1]; decide
    show _ = _
    rw [hL5]
    exact (Lg.opened_none (n := 4) (f := Kp.lastly M12 1) (a := 1) hh).1
  have OR : Hid (Calls Try.prog 35 #[.pointer (some ⟨r, 0, none⟩), .int .i64 1, .int .i64 4, .int .u64 1] w12 _) := Lg.open10_in (L := L5) o12 F12.out.rest (ep := 1) (by decide) hL5
  clear s12 f12 u12 l12 l58 o12 hL5 PD F9 U5
  go_upto_region 12 with (go_at_call 35; refine OR.out.mono ?_; rintro e w13 ⟨k13, bl13, rfl, o13, f13, -, -⟩)
  have O13 := Lib.hid o13
  have F13 := Lib.hid f13
  have OS : Hid (Calls Try.prog 35 #[.pointer (some ⟨r, 0, none⟩), .int .i64 1, .int .i64 4, .int .u64 2] w13 _) := Lg.open10_in (L := L4) o13.disk F12.out.rest (ep := 2) (by decide) (by have := F12.out.same; rwa [A4.out.1] at this)
  clear o13 f13 OR
  go_upto_region 13 with (go_at_call 35; refine OS.out.mono ?_; rintro e w14 ⟨k14, bl14, rfl, o14, f14, -, b14⟩)
  have O14 := Lib.hid o14
  have F14 := Lib.hid f14
  have B14 := Lib.hid b14
  have E1 := Lib.hid (lgOpen_arg o14.disk 5 4 1 (by decide) (.inr (.inr (.inl (by rw [l128.out]; decide)))))
  have E2 := Lib.hid (lgOpen_arg o14.disk 1 4 0 (by decide) (.inr (.inr (.inr rfl))))
  have E3 := Lib.hid (lgOpen_arg o14.disk 1 0 1 (by decide) (.inr (.inl (by decide))))
  have E4 := Lib.hid (lgOpen_nil w14 1 4 1)
  clear o14 f14 b14 OS
  go_upto_region 14 with (go_at_call 35; refine E1.out.mono ?_; rintro e w15 ⟨rfl, rfl⟩)
  go_upto_region 15 with (go_at_call 35; refine E2.out.mono ?_; rintro e w16 ⟨rfl, rfl⟩)
  go_upto_region 16 with (go_at_call 35; refine E3.out.mono ?_; rintro e w17 ⟨rfl, rfl⟩)
  go_upto_region 17 with (go_at_call 35; refine E4.out.mono ?_; rintro e w18 ⟨rfl, rfl⟩)
  have ND := Lib.hid (Dk.new_in (Below.refl w14.heap.size w14) (Nat.le_refl _) 40 (by omega))
  go_upto_region 18 with (go_at_call 15; refine ND.out.mono ?_; rintro e w19 ⟨q, fq, rfl, o19, -, b19⟩)
  have OT : Hid (Calls Try.prog 35 #[.pointer (some ⟨q, 0, none⟩), .int .i64 0, .int .i64 40, .int .u64 1] w19 _) := Lg.open10_in o19 HS0.out (ep := 1) (by decide) B0.out
  have B19 := Lib.hid b19
  clear o19 b19 ND E1 E2 E3 E4
  have PE : Hid (∀ wx, Below w14.heap.size w14 wx → Calls Try.prog 38 #[.pointer (some ⟨k13, 0, none⟩)] wx fun e w' => ∃ A c, e = .returned (.slice A 0 c) ∧ Below wx.heap.size wx w') := fun wx hwx => by
    refine (Lg.records_in ((O13.out.below B14.out).below hwx) F13.out.fit A5.out).mono ?_
    rintro e w' ⟨A, c, h1, -, -, -, h2⟩
    exact ⟨A, c, h1, h2⟩
  have PF : Hid (∀ wx, Below w14.heap.size w14 wx → Calls Try.prog 38 #[.pointer (some ⟨k14, 0, none⟩)] wx fun e w' => ∃ A c, e = .returned (.slice A 1 c) ∧ Lg.Rows w' A [[98]] ∧ Below wx.heap.size wx w') := fun wx hwx => by
    refine (Lg.records_in (O14.out.below hwx) F14.out.fit A4.out.2).mono ?_
    rintro e w' ⟨A, c, h1, -, h3, -, h2⟩
    exact ⟨A, c, h1, h3, h2⟩
  have PG : Hid (∀ wx kq fx bx, Lg.Own w14.heap.size w14 wx q fx (Dk.new 40) kq bx Q0 → Lg.Fits (Dk.new 40) 0 40 Q0 → Calls Try.prog 36 #[.pointer (some ⟨kq, 0, none⟩), .string x3] wx fun e w' => ∃ fy by_, e = .returned (.int .i64 3) ∧ Lg.Own w14.heap.size w14 w' q fy (Dk.new 40) kq by_ Q0) := fun wx kq fx bx ho hf => by
    refine (Lg.add_no ho hf (by rw [N8.out.1]; omega) x3 (by rw [Lg.size_says HX3.out]; decide) rfl (.inl (by rw [HX3.out]; decide)) (by rw [if_pos (by rw [HX3.out]; decide)])).mono ?_
    rintro e w' ⟨fy, by_, h1, h2⟩
    exact ⟨fy, by_, h1, h2.own⟩
  have PH : Hid (∀ wx kq fx bx, Lg.Own w14.heap.size w14 wx q fx (Dk.new 40) kq bx Q0 → Lg.Fits (Dk.new 40) 0 40 Q0 → Calls Try.prog 36 #[.pointer (some ⟨kq, 0, none⟩), .string x4] wx fun e w' => ∃ fy by_ My, e = .returned (.int .i64 0) ∧ Lg.Own w14.heap.size w14 w' q fy My kq by_ Q1 ∧ Lg.Fits My 0 40 Q1) := fun wx kq fx bx ho hf => by
    refine (Lg.add_in ho hf (by rw [N8.out.1]; omega) (by show (-1 : Int) < 0; omega) x4 rfl (by rw [HX4.out]; decide) N8.out.2 HA4.out).mono ?_
    rintro e w' ⟨fy, by_, My, h1, h2, h3, -⟩
    exact ⟨fy, by_, My, h1, h2.own, h3⟩
  have PI : Hid (∀ wx kq fx bx Mx, Lg.Own w14.heap.size w14 wx q fx Mx kq bx Q1 → Lg.Fits Mx 0 40 Q1 → Calls Try.prog 37 #[.pointer (some ⟨kq, 0, none⟩)] wx fun e w' => e = .returned (.int .i64 8) ∧ Below w14.heap.size w14 w') := fun wx kq fx bx Mx ho hf => by
    refine (Lg.room_in ho hf.fit N9.out).mono ?_
    rintro e w' ⟨h1, h2, -⟩
    exact ⟨h1, h2.disk.below⟩
  have B14' := Lib.hid O14.out.disk.below
  clear F13 F14 A3 A4 A5 l128 F12 N0 N1 N2 NF NX NB N8 N9 HA1 HA2 HA4 HR0 HS0 HX3 HX4 HSB HLB A0 B0 RP O13 B14
  go_wp2_with (first
    | (go_at_call 35; with_reducible refine OT.out.mono ?_; rintro e w20 ⟨kq, bq, rfl, oq, fitq, -, b20⟩; have k20 := B19.out.trans (b20.mono B19.out.size))
    | (go_at_call 39; with_reducible refine (AW.out _).mono ?_; rintro e w21 ⟨rfl, b21⟩; have k21 := k20.trans (b21.mono k20.size); have o21 := oq.below b21)
    | (go_at_call 38; with_reducible refine (PE.out _ k21).mono ?_; rintro e w22 ⟨A22, c22, rfl, b22⟩; have k22 := k21.trans (b22.mono k21.size); have o22 := o21.below b22)
    | (go_at_call 38; with_reducible refine (PF.out _ k22).mono ?_; rintro e w23 ⟨A23, c23, rfl, r23, b23⟩; have o23 := o22.below b23; have b24 := (Below.refl w23.heap.size w23).alloc (Nat.le_refl _) (.cells #[.string ⟨#[98]⟩] 9); have r24 := r23.below b24 (Nat.le_refl _); have o24 := o23.below b24)
    | (go_at_call 40; with_reducible refine (SA.out _ _ _ _ _ r24 (PR.out _)).mono ?_; rintro e w25 ⟨rfl, b25⟩; have o25 := o24.below b25)
    | (go_at_call 41; with_reducible refine (P0.out _).mono ?_; rintro e w26 ⟨rfl, rfl⟩)
    | (go_at_call 19; with_reducible refine (R1.out _).mono ?_; rintro e w27 ⟨rfl, b27⟩; have o27 := o25.below b27)
    | (go_at_call 41; with_reducible refine (P1.out _).mono ?_; rintro e w28 ⟨rfl, rfl⟩)
    | (go_at_call 19; with_reducible refine (R2.out _).mono ?_; rintro e w29 ⟨rfl, b29⟩; have o29 := o27.below b29)
    | (go_at_call 41; with_reducible refine (P2.out _).mono ?_; rintro e w30 ⟨rfl, rfl⟩)
    | (go_at_call 19; with_reducible refine (R3.out _).mono ?_; rintro e w31 ⟨rfl, b31⟩; have o31 := o29.below b31)
    | (go_at_call 36; with_reducible refine (PG.out _ _ _ _ o31 fitq).mono ?_; rintro e w32 ⟨fp32, bl32, rfl, o32⟩)
    | (go_at_call 19; with_reducible refine (R4.out _).mono ?_; rintro e w33 ⟨rfl, b33⟩; have o33 := o32.below b33)
    | (go_at_call 36; with_reducible refine (PH.out _ _ _ _ o33 fitq).mono ?_; rintro e w34 ⟨fp34, bl34, M34, rfl, o34, f34⟩)
    | (go_at_call 37; with_reducible refine (PI.out _ _ _ _ _ o34 f34).mono ?_; rintro e w35 ⟨rfl, b35⟩))
  go_ret
  exact ⟨rfl, B14'.out.trans (b35.mono B14'.out.size)⟩
end Go.Proofs.Yticpllhblgildaa
