/-
  What the document's one does: a block, enciphered by a schedule.
-/
import Derived.Test.YtibpgmcpcelmpaaGreatDoorRaOneMath
import Derived.Deep.CutRange
namespace Go.Proofs.YtibpgmcpcelmpaaGreatDoor
open Go.RowKit

set_option maxRecDepth 100000 in
set_option maxHeartbeats 4000000 in
theorem one_any {w : World} {gs G gi : Nat} {ws b : List Nat} (cs C ci : Nat) (hs8 : Ae.BytesAt w gs (Ae.s8 256)) (hws : Ae.WsAt w G ws 60) (hin : Ae.BytesAt w gi (Ae.bytes b)) (hb : ∀ x ∈ b, x < 4294967296) (hw : ∀ x ∈ ws, x < 4294967296) :
    Calls Tryz.prog 93 #[.slice (some ⟨G, 0, none⟩) 60 C, .slice (some ⟨gs, 0, none⟩) 256 cs, .slice (some ⟨gi, 0, none⟩) 16 ci] w fun e w' => ∃ g' c', e = .returned (.slice (some ⟨g', 0, none⟩) 16 c') ∧ w.heap.size ≤ g' ∧ Ae.BytesAt w' g' (Ae.bytes (Ae.enc ws b)) ∧ Below w.heap.size w w' := by
  obtain ⟨N, hN⟩ : ∃ N, N = w.heap.size := ⟨_, rfl⟩
  have hgs : gs < N := by rw [hN]; exact Ae.cell_lt (hs8 0 (by rw [Ae.s8_length]; decide))
  have WI := Lib.hid (fun (wx : World) (gx cx r : Nat) (bx : List Nat) (h1 : Ae.BytesAt wx gx (Ae.bytes bx)) (h2 : Ae.WsAt wx G ws 60) (h3 : r ≤ 14) (h4 : ∀ x ∈ bx, x < 4294967296) => with_any (w := wx) cx C r h1 h2 h3 h4 hw)
  have HS8 := Lib.hid hs8
  have HWS := Lib.hid hws
  have HB := Lib.hid hb
  have HW := Lib.hid hw
  have W0 := with_any ci C 0 hin hws (by decide) hb hw
  have hNw : w.heap.size ≤ N := by omega
  have HNN := Lib.hid hN
  rw [← hN] at W0 ⊢
  clear hs8 hws hb hw hin hN
  go_enter Tryz.func93, Tryz.ntmps93
  go_wp2_with fail
  refine W0.mono ?_
  rintro e w1 ⟨g1, c1, rfl, hg1, hb1, k1⟩
  have HB1 : Hid (Ae.BytesAt w1 g1 (Ae.bytes (Ae.stB ws b 1))) := by show Ae.BytesAt _ _ _; rw [Ae.stB_one]; exact hb1
  clear W0 hb1
  go_wp2_with fail
  go_loopw [7, 8] (fun v i wr => ∃ (r g c : Nat), 1 ≤ r ∧ r ≤ 15 ∧ i = .int .i64 r ∧ v = .slice (some ⟨g, 0, none⟩) 16 c ∧ N ≤ g ∧ Ae.BytesAt wr g (Ae.bytes (Ae.stB ws b r)) ∧ Below N w wr) (fun _ i _ => 16 - (intOf i).toNat)
  case atStart => exact ⟨1, g1, c1, by omega, by omega, rfl, rfl, hg1, HB1.out, k1⟩
  case round =>
    clear HB1 k1 hg1
    obtain ⟨r, g, c, hr1, hr15, rfl, rfl, hNg, hbr, hbw⟩ := hrel
    by_cases hlt : r ≤ 14
    · have q1 : (r : Int) ≤ 14 := by omega
      have HBR := Lib.hid hbr
      have hSB := Ae.stB_lt HW.out HB.out r
      obtain ⟨bb, hbb⟩ : ∃ bb, bb = Ae.stB ws b r := ⟨_, rfl⟩
      rw [← hbb] at HBR hSB
      have HBB := Lib.hid hbb
      have hgw : g < wr.heap.size := Ae.cell_lt (hbr 0 (by rw [Ae.bytes_length]; decide))
      clear hbr hbb
      have mk := Ae.make16r
      have ht0 := Ae.RAt.new wr
      have k2 : Below wr.heap.size wr (wr.alloc (.cells (Sm.rowB 16 []) 5)) := (Below.refl _ wr).alloc (Nat.le_refl _) _
      go_upto_region 6 with (fail)
      generalize wr.alloc (.cells (Sm.rowB 16 []) 5) = w2 at *
      generalize wr = w0 at *
      obtain ⟨gt, hgt⟩ : ∃ gt, gt = w0.heap.size := ⟨_, rfl⟩
      rw [← hgt] at ht0 k2 hgw ⊢
      have hNgt : N ≤ gt := by omega
      have HGT := Lib.hid hgt
      have HT0 := Lib.hid ht0
      clear mk ht0 hgt
      go_wp2_with fail
      go_loopw [10] (fun i wr => ∃ q : Nat, q ≤ 4 ∧ i = .int .i64 q ∧ Ae.RAt wr gt (fun i => if i % 4 < q then Ae.tB bb i else 0) ∧ Below gt w0 wr) (fun i _ => 4 - (intOf i).toNat)
      case atStart => exact ⟨0, by omega, rfl, HT0.out.ext (fun m _ => by simp), k2⟩
      case round =>
        clear HT0 k2
        obtain ⟨q, hq, rfl, hrq, hkq⟩ := hrel
        by_cases hlq : q < 4
        · have q2 : (q : Int) < 4 := by omega
          have hq0 : Ae.RAt wr gt (fun i => if i % 4 < q ∨ (i % 4 = q ∧ i / 4 < 0) then Ae.tB bb i else 0) := hrq.ext (fun m _ => by simp)
          have HQ0 := Lib.hid hq0
          clear hq0 hrq
          generalize wr = w3 at *
          go_wp2_with fail
          go_loopw [11] (fun i wr => ∃ p : Nat, p ≤ 4 ∧ i = .int .i64 p ∧ Ae.RAt wr gt (fun i => if i % 4 < q ∨ (i % 4 = q ∧ i / 4 < p) then Ae.tB bb i else 0) ∧ Below gt w0 wr) (fun i _ => 4 - (intOf i).toNat)
          case atStart => exact ⟨0, by omega, rfl, HQ0.out, hkq⟩
          case round =>
            clear HQ0 hkq
            obtain ⟨p, hp, rfl, hrp, hkp⟩ := hrel
            by_cases hlp : p < 4
            · have q3 : (p : Int) < 4 := by omega
              obtain ⟨z, hz⟩ : ∃ z, z = (p + q) % 4 := ⟨_, rfl⟩
              have hz4 : z < 4 := by omega
              have m1 : ((p : Int) + (q : Int)).tmod 4 = (z : Int) := by rw [Int.tmod_eq_emod_of_nonneg (by omega)]; omega
              have v1 : IntKind.i64.wrap (4 * (p : Int)) = 4 * (p : Int) := IntWalk.i64_in _ (by omega)
              have v2 : IntKind.i64.wrap (4 * (p : Int) + q) = 4 * (p : Int) + q := IntWalk.i64_in _ (by omega)
              have v3 : IntKind.i64.wrap ((p : Int) + q) = (p : Int) + q := IntWalk.i64_in _ (by omega)
              have v4 : IntKind.i64.wrap (4 * (z : Int)) = 4 * (z : Int) := IntWalk.i64_in _ (by omega)
              have v5 : IntKind.i64.wrap (4 * (z : Int) + q) = 4 * (z : Int) + q := IntWalk.i64_in _ (by omega)
              have e1 : (4 * (p : Int) + q).toNat = 4 * p + q := by omega
              have e2 : (4 * (z : Int) + q).toNat = 4 * z + q := by omega
              have u1 : 0 ≤ 4 * (p : Int) + q := by omega
              have u2 : 4 * (p : Int) + q < 16 := by omega
              have u3 : 0 ≤ 4 * (z : Int) + q := by omega
              have u4 : 4 * (z : Int) + q < 16 := by omega
              have cb := (HBR.out.keep hgw hkp) (4 * z + q) (by rw [Ae.bytes_length]; omega)
              rw [Ae.bytes_get _ _ (by omega), Ae.outB, UInt8.toNat_ofNat', Nat.mod_eq_of_lt (Ae.byteAt_lt _ _), show (4 * z + q) / 4 = z by omega, show (4 * z + q) % 4 = q by omega] at cb
              have htb := Ae.tB_eq bb (4 * p + q) (by omega)
              rw [show (4 * p + q) / 4 = p by omega, show (4 * p + q) % 4 = q by omega, ← hz] at htb
              have hy := Ae.byteAt_lt (bb.getD z 0) q
              obtain ⟨y, hy0⟩ : ∃ y, y = Ae.byteAt (bb.getD z 0) q := ⟨_, rfl⟩
              rw [← hy0] at cb htb hy
              have hgs2 : gs < gt := by omega
              have c2 := ((HS8.out.keep hgs hbw).keep hgs2 hkp) y (by rw [Ae.s8_length]; exact hy)
              rw [Ae.s8_get _ hy] at c2
              have yi : (y : Int) < 256 := by omega
              have ct := hrp.cell (4 * p + q) (by omega)
              have ft := hrp.free (4 * p + q)
              obtain ⟨old, hold⟩ : ∃ o, wr.cell? ⟨gt, 4 * p + q, none⟩ = some o := ⟨_, ct⟩
              have HTB := Lib.hid htb
              have HRP := Lib.hid hrp
              clear ct htb hrp hz hy0
              go_wp2_with fail
              go_roundw
              case rel =>
                refine ⟨p + 1, by omega, by go_num, ?_, hkp.setCell (p := ⟨gt, 4 * p + q, none⟩) (Nat.le_refl _) _⟩
                have h := HRP.out.set (f' := fun i => if i % 4 < q ∨ (i % 4 = q ∧ i / 4 < p + 1) then Ae.tB bb i else 0) (4 * p + q) (by omega) (fun i hi hne => by
                  by_cases h1 : i % 4 < q ∨ (i % 4 = q ∧ i / 4 < p)
                  · rw [if_pos h1, if_pos (by omega)]
                  · rw [if_neg h1, if_neg (by omega)])
                rw [show (if (4 * p + q) % 4 < q ∨ ((4 * p + q) % 4 = q ∧ (4 * p + q) / 4 < p + 1) then Ae.tB bb (4 * p + q) else 0) = Ae.sub1 y by rw [if_pos (by omega), HTB.out]] at h
                exact h
              case measure => simp [intOf]; omega
            · obtain rfl : p = 4 := by omega
              have q3 : ¬ ((4 : Nat) : Int) < 4 := by omega
              have hend : Ae.RAt wr gt (fun i => if i % 4 < q + 1 then Ae.tB bb i else 0) := hrp.ext (fun m hm => by
                by_cases h1 : m % 4 < q + 1
                · rw [if_pos h1, if_pos (by omega)]
                · rw [if_neg h1, if_neg (by omega)])
              have HE := Lib.hid hend
              clear hend hrp
              go_wp2_with fail
              go_roundw
              case rel => exact ⟨q + 1, by omega, by go_num, HE.out, hkp⟩
              case measure => simp [intOf]; omega
        · obtain rfl : q = 4 := by omega
          have q2 : ¬ ((4 : Nat) : Int) < 4 := by omega
          have hT : Ae.RAt wr gt (Ae.tB bb) := hrq.ext (fun m hm => by rw [if_pos (Nat.mod_lt _ (by decide))])
          have HT := Lib.hid hT
          have B3 := Lib.hid (hbw.trans (hkq.mono (by omega)))
          clear hT hrq hkq
          generalize wr = w4 at *
          go_upto_if 54 with (fail)
          go_cut [9] from 53 to 130 (fun s9 wx => ∃ gx cx : Nat, s9 = .slice (some ⟨gx, 0, none⟩) 16 cx ∧ N ≤ gx ∧ Ae.BytesAt wx gx (Ae.bytes (if r < 14 then Ae.mixs bb else Ae.subs bb)) ∧ Below N w wx)
          case first =>
            by_cases h14 : r < 14
            · have q5 : (r : Int) < 14 := by omega
              have mk := Ae.make16r
              have hm0 := Ae.RAt.new w4
              have k5 : Below w4.heap.size w4 (w4.alloc (.cells (Sm.rowB 16 []) 5)) := (Below.refl _ w4).alloc (Nat.le_refl _) _
              have hgt4 : gt < w4.heap.size := HT.out.lt
              have HT5 := Lib.hid (HT.out.block (k5.block gt hgt4))
              go_upto_region 15 with (fail)
              generalize w4.alloc (.cells (Sm.rowB 16 []) 5) = w5 at *
              obtain ⟨gm, hgm⟩ : ∃ gm, gm = w4.heap.size := ⟨_, rfl⟩
              rw [← hgm] at hm0 k5 hgt4 ⊢
              have HGM := Lib.hid hgm
              have HM0 := Lib.hid hm0
              have hNgm : N ≤ gm := by omega
              have hB5 : Below N w w5 := B3.out.trans (k5.mono hNgm)
              clear mk hm0 hgm k5
              go_wp2_with fail
              go_loopw [13] (fun i wr => ∃ c : Nat, c ≤ 16 ∧ c % 4 = 0 ∧ i = .int .i64 c ∧ Ae.RAt wr gm (fun i => if i < c then Ae.mB bb i else 0) ∧ Below gm w5 wr) (fun i _ => 16 - (intOf i).toNat)
              case atStart => exact ⟨0, by omega, by omega, rfl, HM0.out.ext (fun m _ => by simp), Below.refl _ _⟩
              case round =>
                clear HM0
                obtain ⟨c, hc16, hc4, rfl, hrm, hkm⟩ := hrel
                by_cases hlc : c < 16
                · have q6 : (c : Int) < 16 := by omega
                  have hT6 := HT5.out.block (hkm.block gt hgt4)
                  have cx : wr.drew.cell? ⟨gt, c, none⟩ = some (.int .u8 (Ae.tB bb c : Nat)) := hT6.cell c (by omega)
                  have cy : wr.drew.cell? ⟨gt, c + 1, none⟩ = some (.int .u8 (Ae.tB bb (c + 1) : Nat)) := hT6.cell (c + 1) (by omega)
                  have cz : wr.drew.cell? ⟨gt, c + 2, none⟩ = some (.int .u8 (Ae.tB bb (c + 2) : Nat)) := hT6.cell (c + 2) (by omega)
                  have cv : wr.drew.cell? ⟨gt, c + 3, none⟩ = some (.int .u8 (Ae.tB bb (c + 3) : Nat)) := hT6.cell (c + 3) (by omega)
                  obtain ⟨m0, m1, m2, m3⟩ := Ae.mB_four bb c hc4
                  have hx := Ae.tB_lt bb c
                  have hy := Ae.tB_lt bb (c + 1)
                  have hz := Ae.tB_lt bb (c + 2)
                  have hv := Ae.tB_lt bb (c + 3)
                  have M0 := Lib.hid m0
                  have M1 := Lib.hid m1
                  have M2 := Lib.hid m2
                  have M3 := Lib.hid m3
                  clear m0 m1 m2 m3 hT6
                  generalize Ae.tB bb c = x at *
                  generalize Ae.tB bb (c + 1) = y at *
                  generalize Ae.tB bb (c + 2) = z at *
                  generalize Ae.tB bb (c + 3) = v at *
                  have HRM := Lib.hid hrm
                  have p1 : IntKind.i64.wrap ((c : Int) + 1) = (c : Int) + 1 := IntWalk.i64_in _ (by omega)
                  have p2 : IntKind.i64.wrap ((c : Int) + 2) = (c : Int) + 2 := IntWalk.i64_in _ (by omega)
                  have p3 : IntKind.i64.wrap ((c : Int) + 3) = (c : Int) + 3 := IntWalk.i64_in _ (by omega)
                  have t1 : ((c : Int) + 1).toNat = c + 1 := by omega
                  have t2 : ((c : Int) + 2).toNat = c + 2 := by omega
                  have t3 : ((c : Int) + 3).toNat = c + 3 := by omega
                  have u1 : (c : Int) + 1 < 16 := by omega
                  have u2 : (c : Int) + 2 < 16 := by omega
                  have u3 : (c : Int) + 3 < 16 := by omega
                  have w1' : 0 ≤ (c : Int) + 1 := by omega
                  have w2' : 0 ≤ (c : Int) + 2 := by omega
                  have w3' : 0 ≤ (c : Int) + 3 := by omega
                  clear hrm
                  have HR0 : Hid (Ae.RAt wr.drew gm (fun i => if i < c + 0 then Ae.mB bb i else 0)) := HRM.out
                  have HK0 : Hid (Below gm w5 wr.drew) := hkm.drew
                  have hx2 := Ae.tm_lt (b := 2) hx
                  have Tx2 : Hid (∀ wx : World, Calls Tryz.prog 116 #[.int .u8 (x : Nat), .int .u8 2] wx fun e w' => e = .returned (.int .u8 (Ae.tm x 2 : Nat)) ∧ wx = w') := fun wx => times_any x 2 hx (by decide) wx
                  generalize Ae.tm x 2 = x2 at *
                  have hx3 := Ae.tm_lt (b := 3) hx
                  have Tx3 : Hid (∀ wx : World, Calls Tryz.prog 116 #[.int .u8 (x : Nat), .int .u8 3] wx fun e w' => e = .returned (.int .u8 (Ae.tm x 3 : Nat)) ∧ wx = w') := fun wx => times_any x 3 hx (by decide) wx
                  generalize Ae.tm x 3 = x3 at *
                  have hy2 := Ae.tm_lt (b := 2) hy
                  have Ty2 : Hid (∀ wx : World, Calls Tryz.prog 116 #[.int .u8 (y : Nat), .int .u8 2] wx fun e w' => e = .returned (.int .u8 (Ae.tm y 2 : Nat)) ∧ wx = w') := fun wx => times_any y 2 hy (by decide) wx
                  generalize Ae.tm y 2 = y2 at *
                  have hy3 := Ae.tm_lt (b := 3) hy
                  have Ty3 : Hid (∀ wx : World, Calls Tryz.prog 116 #[.int .u8 (y : Nat), .int .u8 3] wx fun e w' => e = .returned (.int .u8 (Ae.tm y 3 : Nat)) ∧ wx = w') := fun wx => times_any y 3 hy (by decide) wx
                  generalize Ae.tm y 3 = y3 at *
                  have hz2 := Ae.tm_lt (b := 2) hz
                  have Tz2 : Hid (∀ wx : World, Calls Tryz.prog 116 #[.int .u8 (z : Nat), .int .u8 2] wx fun e w' => e = .returned (.int .u8 (Ae.tm z 2 : Nat)) ∧ wx = w') := fun wx => times_any z 2 hz (by decide) wx
                  generalize Ae.tm z 2 = z2 at *
                  have hz3 := Ae.tm_lt (b := 3) hz
                  have Tz3 : Hid (∀ wx : World, Calls Tryz.prog 116 #[.int .u8 (z : Nat), .int .u8 3] wx fun e w' => e = .returned (.int .u8 (Ae.tm z 3 : Nat)) ∧ wx = w') := fun wx => times_any z 3 hz (by decide) wx
                  generalize Ae.tm z 3 = z3 at *
                  have hv2 := Ae.tm_lt (b := 2) hv
                  have Tv2 : Hid (∀ wx : World, Calls Tryz.prog 116 #[.int .u8 (v : Nat), .int .u8 2] wx fun e w' => e = .returned (.int .u8 (Ae.tm v 2 : Nat)) ∧ wx = w') := fun wx => times_any v 2 hv (by decide) wx
                  generalize Ae.tm v 2 = v2 at *
                  have hv3 := Ae.tm_lt (b := 3) hv
                  have Tv3 : Hid (∀ wx : World, Calls Tryz.prog 116 #[.int .u8 (v : Nat), .int .u8 3] wx fun e w' => e = .returned (.int .u8 (Ae.tm v 3 : Nat)) ∧ wx = w') := fun wx => times_any v 3 hv (by decide) wx
                  generalize Ae.tm v 3 = v3 at *
                  have g0a := Ae.w_xor8 hx2 hy3
                  have l0a := Ae.xor8_lt hx2 hy3
                  obtain ⟨a0, ha0⟩ : ∃ u, u = x2 ^^^ y3 := ⟨_, rfl⟩
                  rw [← ha0] at g0a l0a M0
                  have g0b := Ae.w_xor8 l0a hz
                  have l0b := Ae.xor8_lt l0a hz
                  obtain ⟨b0, hb0⟩ : ∃ u, u = a0 ^^^ z := ⟨_, rfl⟩
                  rw [← hb0] at g0b l0b M0
                  have g0c := Ae.w_xor8 l0b hv
                  obtain ⟨d0, hd0⟩ : ∃ u, u = b0 ^^^ v := ⟨_, rfl⟩
                  rw [← hd0] at g0c M0
                  clear ha0 hb0 hd0 l0a l0b
                  have g1a := Ae.w_xor8 hx hy2
                  have l1a := Ae.xor8_lt hx hy2
                  obtain ⟨a1, ha1⟩ : ∃ u, u = x ^^^ y2 := ⟨_, rfl⟩
                  rw [← ha1] at g1a l1a M1
                  have g1b := Ae.w_xor8 l1a hz3
                  have l1b := Ae.xor8_lt l1a hz3
                  obtain ⟨b1, hb1⟩ : ∃ u, u = a1 ^^^ z3 := ⟨_, rfl⟩
                  rw [← hb1] at g1b l1b M1
                  have g1c := Ae.w_xor8 l1b hv
                  obtain ⟨d1, hd1⟩ : ∃ u, u = b1 ^^^ v := ⟨_, rfl⟩
                  rw [← hd1] at g1c M1
                  clear ha1 hb1 hd1 l1a l1b
                  have g2a := Ae.w_xor8 hx hy
                  have l2a := Ae.xor8_lt hx hy
                  obtain ⟨a2, ha2⟩ : ∃ u, u = x ^^^ y := ⟨_, rfl⟩
                  rw [← ha2] at g2a l2a M2
                  have g2b := Ae.w_xor8 l2a hz2
                  have l2b := Ae.xor8_lt l2a hz2
                  obtain ⟨b2, hb2⟩ : ∃ u, u = a2 ^^^ z2 := ⟨_, rfl⟩
                  rw [← hb2] at g2b l2b M2
                  have g2c := Ae.w_xor8 l2b hv3
                  obtain ⟨d2, hd2⟩ : ∃ u, u = b2 ^^^ v3 := ⟨_, rfl⟩
                  rw [← hd2] at g2c M2
                  clear ha2 hb2 hd2 l2a l2b
                  have g3a := Ae.w_xor8 hx3 hy
                  have l3a := Ae.xor8_lt hx3 hy
                  obtain ⟨a3, ha3⟩ : ∃ u, u = x3 ^^^ y := ⟨_, rfl⟩
                  rw [← ha3] at g3a l3a M3
                  have g3b := Ae.w_xor8 l3a hz
                  have l3b := Ae.xor8_lt l3a hz
                  obtain ⟨b3, hb3⟩ : ∃ u, u = a3 ^^^ z := ⟨_, rfl⟩
                  rw [← hb3] at g3b l3b M3
                  have g3c := Ae.w_xor8 l3b hv2
                  obtain ⟨d3, hd3⟩ : ∃ u, u = b3 ^^^ v2 := ⟨_, rfl⟩
                  rw [← hd3] at g3c M3
                  clear ha3 hb3 hd3 l3a l3b
                  go_wp2_with fail
                  go_region
                  generalize wr.drew = y0 at *
                  have cc0 := HR0.out.cell (c) (by omega)
                  have ff0 := HR0.out.free (c)
                  obtain ⟨old0, ho0⟩ : ∃ o, y0.cell? ⟨gm, c, none⟩ = some o := ⟨_, cc0⟩
                  clear cc0
                  have HR1 : Hid (Ae.RAt (y0.setCell ⟨gm, c, none⟩ (.int .u8 (d0 : Nat))) gm (fun i => if i < c + 1 then Ae.mB bb i else 0)) := by
                    have h := HR0.out.set (f' := fun i => if i < c + 1 then Ae.mB bb i else 0) (c) (by omega) (fun i hi hne => by
                      by_cases h1 : i < c + 0
                      · rw [if_pos h1, if_pos (by omega)]
                      · rw [if_neg h1, if_neg (by omega)])
                    rw [show (if c < c + 1 then Ae.mB bb (c) else 0) = d0 by rw [if_pos (by omega), M0.out]] at h
                    exact h
                  have HK1 : Hid (Below gm w5 (y0.setCell ⟨gm, c, none⟩ (.int .u8 (d0 : Nat)))) := HK0.out.setCell (p := ⟨gm, c, none⟩) (Nat.le_refl _) _
                  clear HR0 HK0
                  go_upto_region 20 with (go_at_call 116; (first | (with_reducible refine (Tx2.out _).mono ?_) | (with_reducible refine (Tx3.out _).mono ?_) | (with_reducible refine (Ty2.out _).mono ?_) | (with_reducible refine (Ty3.out _).mono ?_) | (with_reducible refine (Tz2.out _).mono ?_) | (with_reducible refine (Tz3.out _).mono ?_) | (with_reducible refine (Tv2.out _).mono ?_) | (with_reducible refine (Tv3.out _).mono ?_)); rintro e w' ⟨rfl, rfl⟩)
                  generalize y0.setCell ⟨gm, c, none⟩ (.int .u8 (d0 : Nat)) = y1 at *
                  clear ff0 ho0
                  have cc1 := HR1.out.cell (c + 1) (by omega)
                  have ff1 := HR1.out.free (c + 1)
                  obtain ⟨old1, ho1⟩ : ∃ o, y1.cell? ⟨gm, c + 1, none⟩ = some o := ⟨_, cc1⟩
                  clear cc1
                  have HR2 : Hid (Ae.RAt (y1.setCell ⟨gm, c + 1, none⟩ (.int .u8 (d1 : Nat))) gm (fun i => if i < c + 2 then Ae.mB bb i else 0)) := by
                    have h := HR1.out.set (f' := fun i => if i < c + 2 then Ae.mB bb i else 0) (c + 1) (by omega) (fun i hi hne => by
                      by_cases h1 : i < c + 1
                      · rw [if_pos h1, if_pos (by omega)]
                      · rw [if_neg h1, if_neg (by omega)])
                    rw [show (if c + 1 < c + 2 then Ae.mB bb (c + 1) else 0) = d1 by rw [if_pos (by omega), M1.out]] at h
                    exact h
                  have HK2 : Hid (Below gm w5 (y1.setCell ⟨gm, c + 1, none⟩ (.int .u8 (d1 : Nat)))) := HK1.out.setCell (p := ⟨gm, c + 1, none⟩) (Nat.le_refl _) _
                  clear HR1 HK1
                  go_upto_region 21 with (go_at_call 116; (first | (with_reducible refine (Tx2.out _).mono ?_) | (with_reducible refine (Tx3.out _).mono ?_) | (with_reducible refine (Ty2.out _).mono ?_) | (with_reducible refine (Ty3.out _).mono ?_) | (with_reducible refine (Tz2.out _).mono ?_) | (with_reducible refine (Tz3.out _).mono ?_) | (with_reducible refine (Tv2.out _).mono ?_) | (with_reducible refine (Tv3.out _).mono ?_)); rintro e w' ⟨rfl, rfl⟩)
                  generalize y1.setCell ⟨gm, c + 1, none⟩ (.int .u8 (d1 : Nat)) = y2 at *
                  clear ff1 ho1
                  have cc2 := HR2.out.cell (c + 2) (by omega)
                  have ff2 := HR2.out.free (c + 2)
                  obtain ⟨old2, ho2⟩ : ∃ o, y2.cell? ⟨gm, c + 2, none⟩ = some o := ⟨_, cc2⟩
                  clear cc2
                  have HR3 : Hid (Ae.RAt (y2.setCell ⟨gm, c + 2, none⟩ (.int .u8 (d2 : Nat))) gm (fun i => if i < c + 3 then Ae.mB bb i else 0)) := by
                    have h := HR2.out.set (f' := fun i => if i < c + 3 then Ae.mB bb i else 0) (c + 2) (by omega) (fun i hi hne => by
                      by_cases h1 : i < c + 2
                      · rw [if_pos h1, if_pos (by omega)]
                      · rw [if_neg h1, if_neg (by omega)])
                    rw [show (if c + 2 < c + 3 then Ae.mB bb (c + 2) else 0) = d2 by rw [if_pos (by omega), M2.out]] at h
                    exact h
                  have HK3 : Hid (Below gm w5 (y2.setCell ⟨gm, c + 2, none⟩ (.int .u8 (d2 : Nat)))) := HK2.out.setCell (p := ⟨gm, c + 2, none⟩) (Nat.le_refl _) _
                  clear HR2 HK2
                  go_upto_region 22 with (go_at_call 116; (first | (with_reducible refine (Tx2.out _).mono ?_) | (with_reducible refine (Tx3.out _).mono ?_) | (with_reducible refine (Ty2.out _).mono ?_) | (with_reducible refine (Ty3.out _).mono ?_) | (with_reducible refine (Tz2.out _).mono ?_) | (with_reducible refine (Tz3.out _).mono ?_) | (with_reducible refine (Tv2.out _).mono ?_) | (with_reducible refine (Tv3.out _).mono ?_)); rintro e w' ⟨rfl, rfl⟩)
                  generalize y2.setCell ⟨gm, c + 2, none⟩ (.int .u8 (d2 : Nat)) = y3 at *
                  clear ff2 ho2
                  have cc3 := HR3.out.cell (c + 3) (by omega)
                  have ff3 := HR3.out.free (c + 3)
                  obtain ⟨old3, ho3⟩ : ∃ o, y3.cell? ⟨gm, c + 3, none⟩ = some o := ⟨_, cc3⟩
                  clear cc3
                  have HR4 : Hid (Ae.RAt (y3.setCell ⟨gm, c + 3, none⟩ (.int .u8 (d3 : Nat))) gm (fun i => if i < c + 4 then Ae.mB bb i else 0)) := by
                    have h := HR3.out.set (f' := fun i => if i < c + 4 then Ae.mB bb i else 0) (c + 3) (by omega) (fun i hi hne => by
                      by_cases h1 : i < c + 3
                      · rw [if_pos h1, if_pos (by omega)]
                      · rw [if_neg h1, if_neg (by omega)])
                    rw [show (if c + 3 < c + 4 then Ae.mB bb (c + 3) else 0) = d3 by rw [if_pos (by omega), M3.out]] at h
                    exact h
                  have HK4 : Hid (Below gm w5 (y3.setCell ⟨gm, c + 3, none⟩ (.int .u8 (d3 : Nat)))) := HK3.out.setCell (p := ⟨gm, c + 3, none⟩) (Nat.le_refl _) _
                  clear HR3 HK3
                  go_wp2_with (go_at_call 116; (first | (with_reducible refine (Tx2.out _).mono ?_) | (with_reducible refine (Tx3.out _).mono ?_) | (with_reducible refine (Ty2.out _).mono ?_) | (with_reducible refine (Ty3.out _).mono ?_) | (with_reducible refine (Tz2.out _).mono ?_) | (with_reducible refine (Tz3.out _).mono ?_) | (with_reducible refine (Tv2.out _).mono ?_) | (with_reducible refine (Tv3.out _).mono ?_)); rintro e w' ⟨rfl, rfl⟩)
                  go_roundw
                  case rel => exact ⟨c + 4, by omega, by omega, by go_num, HR4.out, HK4.out⟩
                  case measure => simp [intOf]; omega
                · obtain rfl : c = 16 := by omega
                  have q6 : ¬ ((16 : Nat) : Int) < 16 := by omega
                  have hM : Ae.RAt wr gm (Ae.mB bb) := hrm.ext (fun m hm => by rw [if_pos hm])
                  have HM := Lib.hid hM
                  clear hM hrm
                  go_wp2_with fail
                  go_meet
                  refine ⟨gm, 16, rfl, hNgm, ?_, hB5.trans (hkm.mono hNgm)⟩
                  rw [if_pos h14]
                  exact HM.out.bytes (Ae.bytes_length _) (fun m hm => Ae.mixs_byte bb m hm)
            · have q5 : ¬ (r : Int) < 14 := by omega
              go_wp2_with fail
              go_meet
              refine ⟨gt, 16, rfl, hNgt, ?_, B3.out⟩
              rw [if_neg h14]
              exact HT.out.bytes (Ae.bytes_length _) (fun m hm => Ae.subs_byte bb m hm)
          case rest =>
            obtain ⟨gx, cx, rfl, hNx, hbx, hbw2⟩ := hcut
            have hlx : ∀ x ∈ (if r < 14 then Ae.mixs bb else Ae.subs bb), x < 4294967296 := by
              split
              · exact Ae.mixs_lt bb
              · exact Ae.subs_lt bb
            have hwx := (HWS.out.keep hNw hbw2)
            have WX := WI.out wc gx cx r _ hbx hwx hlt hlx
            have hst : Ae.withW (if r < 14 then Ae.mixs bb else Ae.subs bb) ws r = Ae.stB ws b (r + 1) := by
              by_cases h14 : r < 14
              · rw [if_pos h14, Ae.stB_mix ws b r hr1 h14, HBB.out]
              · obtain rfl : r = 14 := by omega
                rw [if_neg h14, Ae.stB_last ws b, HBB.out]
            rw [hst] at WX
            have HWX := Lib.hid WX
            clear hst hlx hbx hwx WX
            generalize wc = w6 at *
            go_wp2_with fail
            refine HWX.out.mono ?_
            rintro e w7 ⟨g7, c7, rfl, hg7, hb7, k7⟩
            have hN6 : N ≤ w6.heap.size := by have h1 := HNN.out; have h2 := hbw2.size; omega
            have HB7 := Lib.hid hb7
            clear hb7 HWX
            go_wp2_with fail
            go_roundw
            case rel => exact ⟨r + 1, g7, c7, by omega, by omega, by go_num, rfl, Nat.le_trans hN6 hg7, HB7.out, hbw2.trans (k7.mono hN6)⟩
            case measure => simp [intOf]; omega
    · obtain rfl : r = 15 := by omega
      have q1 : ¬ ((15 : Nat) : Int) ≤ 14 := by omega
      go_wp2
      go_ret
      exact ⟨g, ⟨c, rfl⟩, hNg, hbr, hbw⟩
end Go.Proofs.YtibpgmcpcelmpaaGreatDoor
