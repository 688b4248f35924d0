/-
  What the statements of ring ask ahead: a text that is opened behind a rotation.
-/
import Derived.Test.YtibpgmcpcelmpaaGreatDoorRiOpen
namespace Go.Proofs.YtibpgmcpcelmpaaGreatDoor
open Go.RowKit

set_option maxRecDepth 100000 in
set_option maxHeartbeats 1000000 in
theorem awake6_any {w : World} (hH : Sm.HAt w) (hK : Sm.KAt w) (hsz : 1 < w.heap.size) :
    Calls Tryz.prog 4 #[] w fun e w' => e = .returned (.bool true) ∧ Below w.heap.size w w' := by
  have HH := Lib.hid hH
  have HK := Lib.hid hK
  obtain ⟨N, hN⟩ : ∃ N, N = w.heap.size := ⟨_, rfl⟩
  have hN1 : 1 < N := by omega
  obtain ⟨mB, hmB⟩ : ∃ b : ByteArray, b = ⟨#[109]⟩ := ⟨_, rfl⟩
  obtain ⟨aB, haB⟩ : ∃ b : ByteArray, b = ⟨#[97]⟩ := ⟨_, rfl⟩
  obtain ⟨xB, hxB⟩ : ∃ b : ByteArray, b = ⟨#[120]⟩ := ⟨_, rfl⟩
  have hms : mB.size = 1 := by rw [hmB]; rfl
  have has : aB.size = 1 := by rw [haB]; rfl
  have hxs : xB.size = 1 := by rw [hxB]; rfl
  have hxl : xB.data.toList.length = 1 := by rw [hxB]; rfl
  obtain ⟨bx, hbx⟩ : ∃ b : ByteArray, b = ⟨(Ri.wrap mB.data.toList 0 7 0 aB.data.toList xB.data.toList).1.toArray⟩ := ⟨_, rfl⟩
  have hbs : bx.size ≤ 9000 := by
    rw [hbx]
    show (Ri.wrap mB.data.toList 0 7 0 aB.data.toList xB.data.toList).1.toArray.size ≤ _
    rw [List.size_toArray]; exact Ri.wrap_length (by decide) (by decide) (by decide)
  have hop : Ri.opens mB.data.toList 1 bx aB.data.toList = (xB.data.toList, 0) := by rw [hbx]; exact Ri.opens_wrap (by decide) (by decide) (by decide) (by omega) (by decide)
  have NW : Hid (∀ wx : World, Calls Tryz.prog 6 #[.string mB, .int .i64 0, .int .u32 7] wx (Ri.NewPost wx mB 7 0)) := fun wx => rgNew_any wx mB (by omega) 7 0 (by decide)
  have WR : Hid (∀ (wx : World) (r m : Nat), Sm.HAt wx → Sm.KAt wx → Ri.RingAt wx r m mB 7 0 0 → Calls Tryz.prog 8 #[.pointer (some ⟨r, 0, none⟩), .string aB, .string xB] wx fun e w' => e = .returned (.tuple #[.string bx, .int .i64 0]) ∧ Ri.RingAt w' r m mB 7 1 0 ∧ Ri.Turned wx w' r m) := fun wx r m a b c => by
    rw [hbx]
    exact rgWrap_any a b (by omega) c (by decide) (by decide) (by decide) aB xB (by omega) (by omega)
  have RO : Hid (∀ (wx : World) (r m : Nat), Ri.RingAt wx r m mB 7 1 0 → Calls Tryz.prog 12 #[.pointer (some ⟨r, 0, none⟩)] wx fun e w' => e = .returned (.int .i64 0) ∧ Ri.RingAt w' r m mB 7 1 1 ∧ wx.grownBy w' (some r)) := fun wx r m a => rgRotate_any a (by decide)
  have OP : Hid (∀ (wx : World) (r m : Nat), Sm.HAt wx → Sm.KAt wx → Ri.RingAt wx r m mB 7 1 1 → Calls Tryz.prog 9 #[.pointer (some ⟨r, 0, none⟩), .string bx, .string aB] wx fun e w' => e = .returned (.tuple #[.string xB, .int .i64 0]) ∧ Ri.RingAt w' r m mB 7 1 1 ∧ Ri.Turned wx w' r m) := fun wx r m a b c => by
    have q := rgOpen_any a b (by omega) c bx aB (by omega) (by omega)
    unfold Ri.OpenPost at q
    rw [hop] at q
    exact q
  have CO : Hid (∀ (wx : World) (r m : Nat), Ri.RingAt wx r m mB 7 1 1 → Calls Tryz.prog 13 #[.pointer (some ⟨r, 0, none⟩)] wx fun e w' => e = .returned (.tuple #[.int .u32 7, .int .u64 1]) ∧ ∃ k, w' = wx.drewN k) := fun wx r m a => rgCount_any a
  have CU : Hid (∀ (wx : World) (r m : Nat), Ri.RingAt wx r m mB 7 1 1 → Calls Tryz.prog 14 #[.pointer (some ⟨r, 0, none⟩)] wx fun e w' => e = .returned (.int .i64 1) ∧ wx = w') := fun wx r m a => rgCurrent_any a
  rw [← hN]
  have HN := Lib.hid hN
  subst hmB haB hxB
  clear hN hH hK hbx hop hms has hxs hxl hbs
  go_enter Tryz.func4, Tryz.ntmps4
  go_wp2_with fail
  refine (NW.out _).mono ?_
  rintro e w1 ⟨r, m, rfl, ra1, hr, hm, b1⟩
  have RA1 := Lib.hid ra1
  have B1 : Hid (Below N w w1) := by
    show Below _ _ _
    rw [HN.out]; exact b1
  rw [← HN.out] at hr hm
  clear ra1 b1 NW
  go_wp2_with fail
  refine (WR.out _ r m (HH.out.low B1.out (by omega)) (HK.out.low B1.out hN1) RA1.out).mono ?_
  rintro e w2 ⟨rfl, ra2, tu2⟩
  have RA2 := Lib.hid ra2
  have B2 := Lib.hid (B1.out.trans (tu2.below hr hm (by have := B1.out.size; have := HN.out; omega)))
  clear ra2 tu2 WR RA1
  go_wp2_with fail
  refine (RO.out _ r m RA2.out).mono ?_
  rintro e w3 ⟨rfl, ra3, tu3⟩
  have RA3 := Lib.hid ra3
  have B3 := Lib.hid (B2.out.trans ((Ri.Turned.of_ring (m := m) tu3).below hr hm (by have := B2.out.size; have := HN.out; omega)))
  clear ra3 tu3 RO RA2 B1
  go_wp2_with fail
  refine (OP.out _ r m (HH.out.low B3.out (by omega)) (HK.out.low B3.out hN1) RA3.out).mono ?_
  rintro e w4 ⟨rfl, ra4, tu4⟩
  have RA4 := Lib.hid ra4
  have B4 := Lib.hid (B3.out.trans (tu4.below hr hm (by have := B3.out.size; have := HN.out; omega)))
  clear ra4 tu4 OP RA3 B2
  go_wp2_with fail
  refine (CO.out _ r m RA4.out).mono ?_
  rintro e w5 ⟨rfl, k5, hw5⟩
  have RA5 : Hid (Ri.RingAt w5 r m ⟨#[109]⟩ 7 1 1) := by
    show Ri.RingAt _ _ _ _ _ _ _
    rw [hw5]; exact RA4.out.drewN _
  have B5 : Hid (Below N w w5) := by
    show Below _ _ _
    rw [hw5]; exact Sm.below_drewN B4.out _
  clear hw5 CO RA4 B3 B4
  go_wp2_with fail
  refine (CU.out _ r m RA5.out).mono ?_
  rintro e w6 ⟨rfl, rfl⟩
  go_wp2_with fail
  refine bodyPost_ret (results_tmp rfl _ _ _) rfl ?_
  exact ⟨rfl, B5.out⟩
end Go.Proofs.YtibpgmcpcelmpaaGreatDoor
