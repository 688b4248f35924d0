/-
  The wake that each statement on maps asks is met.
-/
import Derived.Test.YtehkbffbehlpnaaOmLies
import Derived.Test.YtehkbffbehlpnaaBaGreat
import Derived.Test.YtehkbffbehlpnaaPaTurned
namespace Go.Proofs.Ytehkbffbehlpnaa
open Go.RowKit Go.Maps
namespace Om
def tA : ByteArray := ⟨#[97, 112, 112, 47, 97]⟩
def tB : ByteArray := ⟨#[111, 112, 115, 47, 98]⟩
def tC : ByteArray := ⟨#[97, 112, 112, 47, 99]⟩
def t1 : ByteArray := ⟨#[49]⟩
def t2 : ByteArray := ⟨#[50]⟩
def t3 : ByteArray := ⟨#[51]⟩
def tP : ByteArray := ⟨#[97, 112, 112, 47]⟩
def wOps : List Ba.Op := [⟨1, tA, t1⟩, ⟨1, tB, t2⟩, ⟨2, tA, ⟨#[]⟩⟩, ⟨1, tC, t3⟩]
def wRow : List Pr := [⟨tC, t3⟩, ⟨tB, t2⟩]
theorem wRight : Ba.right ⟨1, 1, wOps⟩ = 0 := by kernel_rfl
theorem wDoes : does [] wOps = wRow := by kernel_rfl
theorem wDo : doE [] wOps = (wRow, 0) := by rw [doE_ok wRight (by rw [wDoes]; decide), wDoes]
theorem wGet : get tA wRow = none := by kernel_rfl
theorem wList : list tP wRow = [tC] := by kernel_rfl
theorem wFilt : (filt (ships Pa.twoL) wRow).length = 1 := by kernel_rfl
theorem wLists {w : World} {b : Nat} (h : w.heap[b]? = some (.cells #[.int .u8 1, .string tA, .string t1, .int .u8 1, .string tB, .string t2, .int .u8 2, .string tA, .string ⟨#[]⟩, .int .u8 1, .string tC, .string t3] 52 (0, 0))) : Ba.listAt w (some ⟨b, 0, none⟩) wOps := by
  refine .inr ⟨b, 0, rfl, Sm.lt_of h, fun k hk => ?_⟩
  have z := Sm.cells_of h
  have hk4 : k < 4 := hk
  obtain rfl | rfl | rfl | rfl : k = 0 ∨ k = 1 ∨ k = 2 ∨ k = 3 := by omega
  · exact ⟨z 0 _ rfl, z 1 _ rfl, z 2 _ rfl⟩
  · exact ⟨z 3 _ rfl, z 4 _ rfl, z 5 _ rfl⟩
  · exact ⟨z 6 _ rfl, z 7 _ rfl, z 8 _ rfl⟩
  · exact ⟨z 9 _ rfl, z 10 _ rfl, z 11 _ rfl⟩
theorem wOk : ∀ o ∈ wOps, o.Ok ∧ o.p.size ≤ 281474976710656 := by
  intro o ho
  simp only [wOps, List.mem_cons, List.not_mem_nil, or_false] at ho
  rcases ho with rfl | rfl | rfl | rfl <;> exact ⟨⟨by decide, by decide, by decide⟩, by decide⟩
end Om
set_option maxRecDepth 100000 in
theorem two13_any (w : World) : Calls Try.prog 32 #[] w fun e w' => (∃ A, e = .returned (.slice A 2 2) ∧ Pa.listAt w' A Pa.twoL) ∧ Below w.heap.size w w' := by
  have g := heap_alloc_new w (.cells #[.string ⟨#[97, 112, 112]⟩, .bool true, .string ⟨#[111, 112, 115]⟩, .bool false] 89)
  go_enter Try.func32, Try.ntmps32
  go_wp2
  go_ret
  refine ⟨⟨_, rfl, .inr ⟨w.heap.size, 0, rfl, Sm.lt_of g, fun k hk => ?_⟩⟩, (Below.refl _ w).alloc (Nat.le_refl _) _⟩
  have hk2 : k < 2 := hk
  obtain rfl | rfl : k = 0 ∨ k = 1 := by omega
  · exact ⟨Sm.cells_of g 0 _ rfl, Sm.cells_of g 1 _ rfl⟩
  · exact ⟨Sm.cells_of g 2 _ rfl, Sm.cells_of g 3 _ rfl⟩
set_option maxRecDepth 100000 in
set_option maxHeartbeats 2000000 in
theorem awake13_any (w : World) : Calls Try.prog 13 #[] w fun e w' => e = .returned (.bool true) ∧ Below w.heap.size w w' := by
  have NW := Lib.hid (omNew_lies w)
  have DO : Hid (∀ (wx : World) (b r : Nat), Om.Lies wx r [] → wx.heap[b]? = some (.cells #[.int .u8 1, .string Om.tA, .string Om.t1, .int .u8 1, .string Om.tB, .string Om.t2, .int .u8 2, .string Om.tA, .string ⟨#[]⟩, .int .u8 1, .string Om.tC, .string Om.t3] 52 (0, 0)) →
      Calls Try.prog 17 #[.pointer (some ⟨r, 0, none⟩), .slice (some ⟨b, 0, none⟩) 4 4] wx fun e w' => e = .returned (.int .i64 0) ∧ Om.Lies w' r Om.wRow ∧ wx.grownBy w' (some r)) := fun wx b r h1 h2 => by
    have := omDo_lies h1 4 (Om.wLists h2) (by decide) (fun o ho => (Om.wOk o ho).1) (fun o ho => (Om.wOk o ho).2)
    rw [Om.wDo] at this
    exact this
  have GE : Hid (∀ (wx : World) (r : Nat), Om.Lies wx r Om.wRow → Calls Try.prog 19 #[.pointer (some ⟨r, 0, none⟩), .string ⟨#[97, 112, 112, 47, 97]⟩] wx fun e w' => e = .returned (.tuple #[.string ⟨#[]⟩, .bool false]) ∧ Below wx.heap.size wx w') := fun wx r h => by
    have := omGet_lies h Om.tA (by decide)
    rw [Om.getV_none Om.wGet, Om.wGet] at this
    exact this
  have LI : Hid (∀ (wx : World) (r : Nat), Om.Lies wx r Om.wRow → Calls Try.prog 25 #[.pointer (some ⟨r, 0, none⟩), .string ⟨#[97, 112, 112, 47]⟩] wx fun e w' => ∃ A c, e = .returned (.slice A 1 c) ∧ Om.SRow w' wx.heap.size A c [Om.tC] ∧ Below wx.heap.size wx w') := fun wx r h => by
    have := omList_lies h Om.tP
    rw [Om.wList] at this
    exact this
  have LE : Hid (∀ (wx : World) (r : Nat), Om.Lies wx r Om.wRow → Calls Try.prog 21 #[.pointer (some ⟨r, 0, none⟩)] wx fun e w' => e = .returned (.int .i64 2) ∧ wx = w') := fun wx r h => omLen_lies h
  have FI : Hid (∀ (wx : World) (r : Nat) (A : Option Addr), Om.Lies wx r Om.wRow → Pa.listAt wx A Pa.twoL → Calls Try.prog 28 #[.pointer (some ⟨r, 0, none⟩), .slice A 2 2] wx fun e w' => ∃ q, e = .returned (.pointer (some ⟨q, 0, none⟩)) ∧ wx.heap.size ≤ q ∧ Om.Lies w' q (Om.filt (Om.ships Pa.twoL) Om.wRow) ∧ Below wx.heap.size wx w') := fun wx r A h1 h2 => omFilter_lies h1 2 h2 (by decide)
  have LF : Hid (∀ (wx : World) (r : Nat), Om.Lies wx r (Om.filt (Om.ships Pa.twoL) Om.wRow) → Calls Try.prog 21 #[.pointer (some ⟨r, 0, none⟩)] wx fun e w' => e = .returned (.int .i64 1) ∧ wx = w') := fun wx r h => by
    have := omLen_lies h
    rw [Om.wFilt] at this
    exact this
  have TW := Lib.hid (fun wx => two13_any wx)
  obtain ⟨N, hN⟩ : ∃ N, N = w.heap.size := ⟨_, rfl⟩
  rw [← hN] at NW ⊢
  have HN := Lib.hid hN
  clear hN
  go_enter Try.func13, Try.ntmps13
  go_upto_region 2 with (go_at_call 16; refine NW.out.mono ?_; rintro e w1 ⟨rfl, hl1, hb1⟩)
  obtain ⟨w2, hw2⟩ : ∃ w2, w2 = w1.alloc (.cells #[.int .u8 1, .string Om.tA, .string Om.t1, .int .u8 1, .string Om.tB, .string Om.t2, .int .u8 2, .string Om.tA, .string ⟨#[]⟩, .int .u8 1, .string Om.tC, .string Om.t3] 52) := ⟨_, rfl⟩
  have hb12 : Below w1.heap.size w1 w2 := by rw [hw2]; exact (Below.refl _ w1).alloc (Nat.le_refl _) _
  have L2 := Lib.hid (hl1.below hb12)
  have B2 : Hid (Below N w w2) := hb1.trans (hb12.mono (by rw [HN.out]; exact hb1.size))
  have G2 : Hid (w2.heap[w1.heap.size]? = some (.cells #[.int .u8 1, .string Om.tA, .string Om.t1, .int .u8 1, .string Om.tB, .string Om.t2, .int .u8 2, .string Om.tA, .string ⟨#[]⟩, .int .u8 1, .string Om.tC, .string Om.t3] 52 (0, 0))) := by show _ = _; rw [hw2]; exact heap_alloc_new _ _
  clear hl1 hb1 hb12
  have HW2 : Hid (w1.alloc (.cells #[.int .u8 1, .string ⟨#[97, 112, 112, 47, 97]⟩, .string ⟨#[49]⟩, .int .u8 1, .string ⟨#[111, 112, 115, 47, 98]⟩, .string ⟨#[50]⟩, .int .u8 2, .string ⟨#[97, 112, 112, 47, 97]⟩, .string ⟨#[]⟩, .int .u8 1, .string ⟨#[97, 112, 112, 47, 99]⟩, .string ⟨#[51]⟩] 52) = w2) := hw2.symm
  clear hw2
  go_wp2_with (go_at_call 17; rw [HW2.out]; refine (DO.out _ _ _ L2.out G2.out).mono ?_; rintro e w3 ⟨rfl, l3, g3⟩)
  have B3 : Hid (Below N w w3) := B2.out.grown g3 (by rw [HN.out]; exact B2.out.size) (fun k hk => by cases hk; exact Nat.le_refl _)
  have L3 := Lib.hid l3
  clear l3 g3 L2 B2 G2 HW2 DO NW
  go_upto_region 5 with first
    | (go_at_call 19; refine (GE.out _ _ L3.out).mono ?_; rintro e w4 ⟨rfl, k4⟩; have L4 := Lib.hid (L3.out.below k4); have B4 : Hid (Below N w w4) := B3.out.trans (k4.mono (by rw [HN.out]; exact B3.out.size)); clear k4)
    | (go_at_call 25; refine (LI.out _ _ L4.out).mono ?_; rintro e w5 ⟨A5, c5, rfl, s5, k5⟩; have L5 := Lib.hid (L4.out.below k5); have B5 : Hid (Below N w w5) := B4.out.trans (k5.mono (by rw [HN.out]; exact B4.out.size)); clear k5)
  obtain ⟨g5, rfl, hg5, hc5⟩ := s5.get (j := 0) (by decide)
  change w5.cell? ⟨g5, 0, none⟩ = some (.string ⟨#[97, 112, 112, 47, 99]⟩) at hc5
  clear s5 L3 L4 B3 B4 GE LI
  go_wp2_with first
    | (go_at_call 21; with_reducible refine (LE.out _ _ L5.out).mono ?_; rintro e w6 ⟨rfl, rfl⟩)
    | (go_at_call 32; refine (TW.out _).mono ?_; rintro e w7 ⟨⟨A7, rfl, h7⟩, k7⟩; have L7 := Lib.hid (L5.out.below k7); have H7 := Lib.hid h7; have B7 : Hid (Below N w w7) := B5.out.trans (k7.mono (by rw [HN.out]; exact B5.out.size)); clear k7 h7)
    | (go_at_call 28; refine (FI.out _ _ _ L7.out H7.out).mono ?_; rintro e w8 ⟨q8, rfl, hq8, l8, k8⟩; have L8 := Lib.hid l8; have B8 : Hid (Below N w w8) := B7.out.trans (k8.mono (by rw [HN.out]; exact B7.out.size)); clear k8 l8 hq8)
    | (go_at_call 21; with_reducible refine (LF.out _ _ L8.out).mono ?_; rintro e w9 ⟨rfl, rfl⟩)
  go_ret
  exact ⟨rfl, B8.out⟩
end Go.Proofs.Ytehkbffbehlpnaa
