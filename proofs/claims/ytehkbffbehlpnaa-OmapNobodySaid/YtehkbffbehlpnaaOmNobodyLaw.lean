/-
  OmapNobody: a map that is none has nothing, and does nothing.
-/
import Derived.Test.YtehkbffbehlpnaaOmAwake
import Derived.Test.YtehkbffbehlpnaaOmGreat
namespace Go.Proofs.Ytehkbffbehlpnaa
open Go.RowKit Go.Maps
set_option maxRecDepth 100000 in
set_option maxHeartbeats 4000000 in
theorem omapNobody_any {w : World} {A : Option Addr} (c : Nat) {ops : List Ba.Op} (hit : Ba.listAt w A ops) (p : ByteArray) :
    Calls Try.prog 5 #[.slice A ops.length c, .string p] w fun e w' => e = .returned (.bool true) ∧ Below w.heap.size w w' := by
  obtain ⟨g, hg⟩ := Ba.fair_or ops
  have GO := Lib.hid (greatOps_any (c := c) hit g hg)
  have AW := Lib.hid (fun wx => awake13_any wx)
  clear hit
  cases g with
  | true =>
    clear hg
    go_enter Try.func5, Try.ntmps5
    go_wp2_with first | (go_at_call 30; refine GO.out.mono ?_; rintro e w' ⟨rfl, rfl⟩) | (go_at_call 13; refine (AW.out _).mono ?_; rintro e w1 ⟨rfl, k1⟩)
    go_ret
    exact ⟨rfl, k1⟩
  | false =>
    clear hg
    by_cases hp : 1000 < p.size
    · have hpi : (1000 : Int) < (p.size : Int) := by omega
      clear hp
      go_enter Try.func5, Try.ntmps5
      go_wp2_with first | (go_at_call 30; refine GO.out.mono ?_; rintro e w' ⟨rfl, rfl⟩) | (go_at_call 13; refine (AW.out _).mono ?_; rintro e w1 ⟨rfl, k1⟩)
      go_ret
      exact ⟨rfl, k1⟩
    · have hpi : ¬ (1000 : Int) < (p.size : Int) := by omega
      have GE : Hid (∀ wx : World, Calls Try.prog 19 #[.pointer none, .string p] wx fun e w' => e = .returned (.tuple #[.string ⟨#[]⟩, .bool false]) ∧ Below wx.heap.size wx w') := fun wx => omGet_any (Om.Ptr.nil wx) Om.Good.nil p (by omega)
      have DO : Hid (∀ (wx : World) (v : Value), Calls Try.prog 17 #[.pointer none, v] wx fun e w' => e = .returned (.int .i64 2) ∧ wx = w') := fun wx v => omDo_nil v
      have LI : Hid (∀ wx : World, Calls Try.prog 25 #[.pointer none, .string p] wx fun e w' => ∃ A c, e = .returned (.slice A 0 c) ∧ Below wx.heap.size wx w') := fun wx => (omList_any (Om.Ptr.nil wx) Om.Good.nil p).mono fun e w' ⟨A, c, h1, _, h3⟩ => ⟨A, c, h1, h3⟩
      have AL : Hid (∀ wx : World, Calls Try.prog 23 #[.pointer none] wx fun e w' => ∃ A c, e = .returned (.slice A 0 c) ∧ Below wx.heap.size wx w') := fun wx => (omAll_any (Om.Ptr.nil wx) Om.Good.nil).mono fun e w' ⟨A, c, h1, _, h3⟩ => ⟨A, c, h1, h3⟩
      have LE : Hid (∀ wx : World, Calls Try.prog 21 #[.pointer none] wx fun e w' => e = .returned (.int .i64 0) ∧ wx = w') := fun wx => omLen_any (Om.Ptr.nil wx)
      have TN : Hid (∀ wx : World, Calls Try.prog 31 #[.pointer none] wx fun e w' => e = .returned (.pointer none) ∧ wx = w') := fun wx => omTwin_nil wx
      have TW := Lib.hid (fun wx => two13_any wx)
      have FI : Hid (∀ (wx : World) (A : Option Addr), Pa.listAt wx A Pa.twoL → Calls Try.prog 28 #[.pointer none, .slice A 2 2] wx fun e w' => ∃ q, e = .returned (.pointer (some ⟨q, 0, none⟩)) ∧ Om.Lies w' q [] ∧ Below wx.heap.size wx w') := fun wx A h =>
        (omFilter_any (Om.Ptr.nil wx) Om.Good.nil 2 h (by decide)).mono fun e w' ⟨⟨q, mb, k1, k2, k3⟩, k4⟩ => ⟨q, k1, ⟨⟨mb, k3⟩, Om.Good.nil⟩, k4⟩
      have LF : Hid (∀ (wx : World) (r : Nat), Om.Lies wx r [] → Calls Try.prog 21 #[.pointer (some ⟨r, 0, none⟩)] wx fun e w' => e = .returned (.int .i64 0) ∧ wx = w') := fun wx r h => omLen_lies h
      have NW := Lib.hid (fun wx => omNew_lies wx)
      have SA : Hid (∀ (wx : World) (r : Nat), Om.Lies wx r [] → Calls Try.prog 33 #[.pointer none, .pointer (some ⟨r, 0, none⟩)] wx fun e w' => e = .returned (.bool true) ∧ Below wx.heap.size wx w') := fun wx r h => by
        obtain ⟨⟨mb, h⟩, _⟩ := h
        exact omSame_any (Om.Ptr.nil wx) h.ptr (by simp) true (by simp)
      have B0 : Hid (Below w.heap.size w w) := Below.refl _ _
      obtain ⟨N, hN⟩ : ∃ N, N = w.heap.size := ⟨_, rfl⟩
      rw [← hN] at B0 ⊢
      have HN := Lib.hid hN
      have ST : Hid (∀ {wx wy : World}, Below N w wx → Below wx.heap.size wx wy → Below N w wy) := fun h k => h.trans (k.mono (by rw [HN.out]; exact h.size))
      clear hp hN
      go_enter Try.func5, Try.ntmps5
      go_wp2_with first
        | (go_at_call 30; refine GO.out.mono ?_; rintro e w' ⟨rfl, rfl⟩)
        | (go_at_call 19; refine (GE.out _).mono ?_; rintro e w1 ⟨rfl, k1⟩; have B1 := Lib.hid (ST.out B0.out k1); clear k1)
        | (go_at_call 17; refine (DO.out _ _).mono ?_; rintro e w2 ⟨rfl, rfl⟩)
        | (go_at_call 25; refine (LI.out _).mono ?_; rintro e w3 ⟨A3, c3, rfl, k3⟩; have B3 := Lib.hid (ST.out B1.out k3); clear k3)
        | (go_at_call 23; refine (AL.out _).mono ?_; rintro e w4 ⟨A4, c4, rfl, k4⟩; have B4 := Lib.hid (ST.out B3.out k4); clear k4)
        | (go_at_call 21; with_reducible refine (LE.out _).mono ?_; rintro e w5 ⟨rfl, rfl⟩)
        | (go_at_call 31; refine (TN.out _).mono ?_; rintro e w6 ⟨rfl, rfl⟩)
        | (go_at_call 32; refine (TW.out _).mono ?_; rintro e w7 ⟨⟨A7, rfl, h7⟩, k7⟩; have H7 := Lib.hid h7; have B7 := Lib.hid (ST.out B4.out k7); clear k7 h7)
        | (go_at_call 28; refine (FI.out _ _ H7.out).mono ?_; rintro e w8 ⟨q8, rfl, l8, k8⟩; have L8 := Lib.hid l8; have B8 := Lib.hid (ST.out B7.out k8); clear k8 l8)
        | (go_at_call 21; with_reducible refine (LF.out _ _ L8.out).mono ?_; rintro e w9 ⟨rfl, rfl⟩)
        | (go_at_call 16; refine (NW.out _).mono ?_; rintro e w10 ⟨rfl, l10, k10⟩; have L10 := Lib.hid l10; have B10 := Lib.hid (ST.out B8.out k10); clear l10 k10)
        | (go_at_call 33; refine (SA.out _ _ L10.out).mono ?_; rintro e w11 ⟨rfl, k11⟩; have B11 := Lib.hid (ST.out B10.out k11); clear k11)
        | (go_at_call 13; refine (AW.out _).mono ?_; rintro e w12 ⟨rfl, k12⟩; have B12 := Lib.hid (ST.out B11.out k12); clear k12)
      go_ret
      exact ⟨rfl, B12.out⟩
end Go.Proofs.Ytehkbffbehlpnaa
