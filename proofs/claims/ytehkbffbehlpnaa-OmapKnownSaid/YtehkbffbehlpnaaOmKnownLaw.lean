/-
  OmapKnown.
-/
import Derived.Test.YtehkbffbehlpnaaOmKnPut
namespace Go.Proofs.Ytehkbffbehlpnaa
open Go.RowKit Go.Maps
set_option maxRecDepth 100000 in
set_option maxHeartbeats 4000000 in
theorem omapKnown_any (w : World) :
    Calls Try.prog 10 #[] w fun e w' => e = .returned (.bool true) ∧ Below w.heap.size w w' := by
  have NW := Lib.hid (fun wx => omNew_lies wx)
  have PU := Lib.hid (fun wx p v => put13_any wx p v)
  have AW := Lib.hid (fun wx => awake13_any wx)
  have TW := Lib.hid (fun wx => two13_any wx)
  obtain ⟨N, hN⟩ : ∃ N, N = w.heap.size := ⟨_, rfl⟩
  rw [← hN]
  have HN := Lib.hid hN
  clear hN
  go_enter Try.func10, Try.ntmps10
  go_upto_region 2 with (go_at_call 16; refine (NW.out _).mono ?_; rintro e w1 ⟨rfl, hl1, hb1⟩)
  have K1 : Hid (Om.Kn w w1 N w.heap.size []) := ⟨hl1, by rw [HN.out]; exact hb1, by rw [HN.out]; exact Nat.le_refl _⟩
  clear hl1 hb1
  obtain ⟨r, hr⟩ : ∃ r, r = w.heap.size := ⟨_, rfl⟩
  rw [← hr] at K1 ⊢
  clear hr
  go_upto_region 4 with first
    | (go_at_call 36; refine (PU.out _ _ _).mono ?_; rintro e wp ⟨rfl, kp⟩; have K2 := Lib.hid (K1.out.step kp); clear kp K1; have K1 := K2; clear K2)
    | (go_at_call 17; refine (K1.out.does Om.wOps Om.wDo 0 rfl 4 rfl (by decide) Om.wOk _ rfl).mono ?_; rintro e w3 ⟨rfl, k3⟩; have K3 := Lib.hid k3; clear k3 K1)
  go_upto_region 5 with (go_at_call 23; refine (omAll_lies K3.out.m).mono ?_; rintro e w4 ⟨A4, c4, rfl, r4, b4⟩; have K4 := Lib.hid (K3.out.step b4); have R4 := Lib.hid r4; clear r4 b4 K3)
  go_upto_region 6 with first
    | (go_at_call 32; refine (TW.out _).mono ?_; rintro e w5 ⟨⟨A5, rfl, h5⟩, k5⟩; have K5 := Lib.hid (K4.out.step k5); have M5 := Lib.hid h5; have R5 := Lib.hid (R4.out.low k5); clear h5 k5 K4 R4)
    | (go_at_call 28; refine (omFilter_lies K5.out.m 2 M5.out (by decide)).mono ?_; rintro e w6 ⟨q6, rfl, hq6, l6, k6⟩; have K6 := Lib.hid (K5.out.step k6); have R6 := Lib.hid (R5.out.low k6); have L6 := Lib.hid l6; clear k6 l6 hq6 K5 R5 M5)
    | (go_at_call 23; refine (omAll_lies L6.out).mono ?_; rintro e w7 ⟨A7, c7, rfl, r7, b7⟩; have K7 := Lib.hid (K6.out.step b7); have R7 := Lib.hid (R6.out.low b7); have F7 := Lib.hid r7; clear r7 b7 K6 R6 L6)
  rcases R7.out.listAt with h0 | ⟨g4, o4, rfl, -, h4⟩
  · cases h0
  obtain ⟨y0, y1⟩ := h4 0 (by decide)
  obtain ⟨y2, -⟩ := h4 1 (by decide)
  rw [Om.wFiltRow] at F7
  rcases F7.out.listAt with h0 | ⟨g7, o7, rfl, -, h7⟩
  · cases h0
  obtain ⟨y3, -⟩ := h7 0 (by decide)
  change w7.cell? ⟨g4, o4, none⟩ = some (.string ⟨#[97, 112, 112, 47, 99]⟩) at y0
  change w7.cell? ⟨g4, o4 + 1, none⟩ = some (.string ⟨#[51]⟩) at y1
  change w7.cell? ⟨g4, o4 + 2, none⟩ = some (.string ⟨#[111, 112, 115, 47, 98]⟩) at y2
  change w7.cell? ⟨g7, o7, none⟩ = some (.string ⟨#[97, 112, 112, 47, 99]⟩) at y3
  clear h4 h7 R7 F7
  rw [Om.wFiltRow]
  have HEB : Hid (Om.eqb ⟨Om.tC, Om.t3⟩ ⟨Om.tC, Om.t3⟩ = true) := by show _ = _; kernel_rfl
  go_upto_region 7 with (refine Om.wpList_eql_pair _ _ _ rfl ⟨Om.tC, Om.t3⟩ ⟨Om.tC, Om.t3⟩ rfl rfl ?_ (by kernel_rfl); rw [HEB.out])
  clear y0 y1 y2 y3 HEB TW
  go_upto_region 8 with first
    | (go_at_call 36; refine (PU.out _ _ _).mono ?_; rintro e wp ⟨rfl, kp⟩; have K2 := Lib.hid (K7.out.step kp); clear kp K7; have K7 := K2; clear K2)
    | (go_at_call 17; refine (K7.out.does Om.xOps Om.kX 20 rfl 1 rfl (by decide) (Om.okOf (by decide)) _ rfl).mono ?_; rintro e w8 ⟨rfl, k8⟩; have K8 := Lib.hid k8; clear k8 K7)
  go_upto_region 9 with first
    | (go_at_call 36; refine (PU.out _ _ _).mono ?_; rintro e wp ⟨rfl, kp⟩; have K2 := Lib.hid (K8.out.step kp); clear kp K8; have K8 := K2; clear K2)
    | (go_at_call 17; refine (K8.out.does Om.lOps Om.kL 3 rfl 5 rfl (by decide) (Om.okOf (by decide)) _ rfl).mono ?_; rintro e w9 ⟨rfl, k9⟩; have K9 := Lib.hid k9; clear k9 K8)
  go_upto_region 10 with (go_at_call 14; refine (Om.ofBad [⟨Om.tA, ⟨#[]⟩⟩, ⟨Om.tA, ⟨#[]⟩⟩] Om.kThere (by decide) 5 rfl 2 rfl (by decide) (by decide) _ rfl).mono ?_; rintro e w10 ⟨rfl, k10⟩; have K10 := Lib.hid (K9.out.step k10); clear k10 K9)
  go_upto_region 11 with (go_at_call 14; refine (Om.ofBad [⟨Om.tApp, ⟨#[]⟩⟩] Om.kArg (by decide) 1 rfl 1 rfl (by decide) (by decide) _ rfl).mono ?_; rintro e w11 ⟨rfl, k11⟩; have K11 := Lib.hid (K10.out.step k11); clear k11 K10)
  obtain ⟨MC, hMC, hmk⟩ := Om.make49
  have HMC := Lib.hid hMC
  clear hMC
  go_upto_region 12 with (go_at_call 14; refine (Om.ofBad Om.kMany Om.kFull (by decide) 6 rfl 49 rfl (by decide) (by decide) _ HMC.out).mono ?_; rintro e w12 ⟨rfl, k12⟩; have K12 := Lib.hid (K11.out.step k12); clear k12 K11)
  have BB : Hid (Below N w w12) := K12.out.bel
  have BN : Hid (N ≤ w12.heap.size) := K12.out.low
  clear K12 HMC hmk
  go_upto_region 13 with (go_at_call 16; refine (NW.out _).mono ?_; rintro e w13 ⟨rfl, hl1, hb1⟩)
  have K13 : Hid (Om.Kn w w13 N w12.heap.size (Om.kRow 0)) := ⟨hl1, BB.out.trans (hb1.mono BN.out), BN.out⟩
  obtain ⟨r2, hr2⟩ : ∃ r2, r2 = w12.heap.size := ⟨_, rfl⟩
  rw [← hr2] at K13 ⊢
  clear hr2 hl1 hb1 BB BN NW
  go_wp2
  go_loopw [16] (fun s wr => ∃ j : Nat, s = .int .i64 j ∧ j ≤ 48 ∧ Om.Kn w wr N r2 (Om.kRow j)) (fun s _ => 48 - (intOf s).toNat)
  case atStart => exact ⟨0, rfl, by omega, K13.out⟩
  case round =>
    clear K13
    obtain ⟨j, rfl, hj, hk⟩ := hrel
    have K1 := Lib.hid hk
    clear hk
    by_cases hlt : j < 48
    · have hji : (j : Int) < 48 := by omega
      have hsuc : IntKind.i64.wrap ((j : Int) + 1) = ((j + 1 : Nat) : Int) := by simp [IntKind.wrap, IntKind.bits, IntKind.signed]; omega
      obtain ⟨S, hcv, hadd⟩ := Om.kConv j
      go_wp2_with first
        | (go_at_call 36; refine (PU.out _ _ _).mono ?_; rintro e wp ⟨rfl, kp⟩; have K2 := Lib.hid ((K1.out.step ((Below.refl _ wr).alloc (Nat.le_refl _) _)).step kp); clear kp)
        | (go_at_call 17; refine (K2.out.does [Om.kOp j] (Om.kDo hlt) 0 rfl 1 rfl (by decide) (Om.kOk j) _ rfl).mono ?_; rintro e w16 ⟨rfl, k16⟩; have K3 := Lib.hid k16; clear k16)
      go_roundw
      case rel => exact ⟨j + 1, rfl, by omega, K3.out⟩
      case measure => simp only [intOf]; omega
    · have hje : j = 48 := by omega
      clear hj
      subst hje
      have hji : ¬ (48 : Int) < 48 := by omega
      go_upto_region 19 with first
        | (go_at_call 36; refine (PU.out _ _ _).mono ?_; rintro e wp ⟨rfl, kp⟩; have K2 := Lib.hid (K1.out.step kp); clear kp K1; have K1 := K2; clear K2)
        | (go_at_call 17; refine (K1.out.does Om.fOps Om.kF 6 rfl 2 rfl (by decide) (Om.okOf (by decide)) _ rfl).mono ?_; rintro e w18 ⟨rfl, k18⟩; have K18 := Lib.hid k18; clear k18 K1)
      go_upto_region 20 with (go_at_call 19; refine (omGet_lies K18.out.m Om.tAA (by decide)).mono ?_; rw [Om.kV, Om.kGet]; rintro e w19 ⟨rfl, k19⟩; have K19 := Lib.hid (K18.out.step k19); clear k19 K18)
      go_upto_region 21 with first
        | (go_at_call 36; refine (PU.out _ _ _).mono ?_; rintro e wp ⟨rfl, kp⟩; have K2 := Lib.hid (K19.out.step kp); clear kp K19; have K19 := K2; clear K2)
        | (go_at_call 17; refine (K19.out.does Om.gOps Om.kG 0 rfl 2 rfl (by decide) (Om.okOf (by decide)) _ rfl).mono ?_; rintro e w20 ⟨rfl, k20⟩; have K20 := Lib.hid k20; clear k20 K19)
      have DN : Hid (Calls Try.prog 17 #[.pointer (some ⟨r2, 0, none⟩), .slice none 0 0] w20 fun e w' => e = .returned (.int .i64 0) ∧ Om.Lies w' r2 Om.last48 ∧ w20.grownBy w' (some r2)) := by
        have := omDo_lies K20.out.m 0 (A := none) (ops := []) (.inl rfl) (by decide) (fun o ho => by cases ho) (fun o ho => by cases ho)
        rw [Om.kNone] at this
        exact this
      go_upto_region 22 with (go_at_call 17; refine DN.out.mono ?_; rintro e w21 ⟨rfl, l21, g21⟩)
      have K21 : Hid (Om.Kn w w21 N r2 Om.last48) := ⟨l21, K20.out.bel.grown g21 K20.out.low (fun q hq => by cases hq; exact K20.out.nr), K20.out.nr⟩
      clear l21 g21 K20 DN
      have hone : (Om.t1.toList == [49]) = true := by kernel_rfl
      go_wp2_with first
        | (go_at_call 21; refine (omLen_lies K21.out.m).mono ?_; rw [Om.kLast]; rintro e w22 ⟨rfl, rfl⟩)
        | (go_at_call 13; refine (AW.out _).mono ?_; rintro e w23 ⟨rfl, k23⟩; have K23 := Lib.hid (K21.out.step k23); clear k23)
      go_ret
      exact ⟨rfl, K23.out.bel⟩
end Go.Proofs.Ytehkbffbehlpnaa
