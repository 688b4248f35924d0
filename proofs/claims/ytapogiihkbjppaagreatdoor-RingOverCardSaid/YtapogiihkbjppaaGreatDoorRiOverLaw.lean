/-
  RingOver: what one ring may open, rewrapped, is opened by the other one to the same text.
-/
import Derived.Test.YtapogiihkbjppaaGreatDoorRiRewrap
import Derived.Test.YtapogiihkbjppaaGreatDoorRiAwake
namespace Go.Proofs.YtapogiihkbjppaaGreatDoor
open Go.RowKit

set_option maxRecDepth 100000 in
set_option maxHeartbeats 4000000 in
theorem ringOver_some {w : World} (hH : Sm.HAt w) (hK : Sm.KAt w) (hsz : 1 < w.heap.size) (one two : ByteArray) (a b : Nat) (hab : a < 2 ^ 32) (hbb : b < 2 ^ 32) (about other text bad : ByteArray)
    (h1 : one.size ≤ 300) (h2 : two.size ≤ 300) (h3 : about.size ≤ 300) (h4 : other.size ≤ 300) (h5 : text.size ≤ 300) (h6 : bad.size ≤ 300) :
    Calls Tryz.prog 9 #[.string one, .string two, .int .u32 a, .int .u32 b, .string about, .string other, .string text, .string bad] w fun e w' => e = .returned (.bool true) ∧ Below w.heap.size w w' := by
  have AW := Lib.hid (awake6_any hH hK hsz)
  have HH := Lib.hid hH
  have HK := Lib.hid hK
  obtain ⟨N, hN⟩ : ∃ N, N = w.heap.size := ⟨_, rfl⟩
  have hN1 : 1 < N := by omega
  rw [← hN] at AW ⊢
  have HN := Lib.hid hN
  have g1 : ¬ (300 : Int) < one.size := by omega
  have g2 : ¬ (300 : Int) < two.size := by omega
  have g3 : ¬ (300 : Int) < about.size := by omega
  have g4 : ¬ (300 : Int) < other.size := by omega
  have g5 : ¬ (300 : Int) < text.size := by omega
  have g6 : ¬ (300 : Int) < bad.size := by omega
  have htl : text.data.toList.length = text.size := by rw [Array.length_toList]; rfl
  obtain ⟨bx, hbx⟩ : ∃ x : ByteArray, x = ⟨(Ri.wrap one.data.toList 3 a 0 about.data.toList text.data.toList).1.toArray⟩ := ⟨_, rfl⟩
  obtain ⟨bz, hbz⟩ : ∃ x : ByteArray, x = ⟨(Ri.wrap two.data.toList 5 b 0 other.data.toList text.data.toList).1.toArray⟩ := ⟨_, rfl⟩
  have hbxs : bx.size ≤ 9000 := by
    rw [hbx]
    show (List.toArray _).size ≤ _
    rw [List.size_toArray]; exact Ri.wrap_length (by decide) hab (by decide)
  have hbzs : bz.size ≤ 9000 := by
    rw [hbz]
    show (List.toArray _).size ≤ _
    rw [List.size_toArray]; exact Ri.wrap_length (by decide) hbb (by decide)
  have hox : Ri.opens one.data.toList 3 bx about.data.toList = (text.data.toList, 0) := by rw [hbx]; exact Ri.opens_wrap (by decide) hab (by decide) (by omega) (by decide)
  have hoz : Ri.opens two.data.toList 5 bz other.data.toList = (text.data.toList, 0) := by rw [hbz]; exact Ri.opens_wrap (by decide) hbb (by decide) (by omega) (by decide)
  have NW1 : Hid (∀ wx : World, Calls Tryz.prog 10 #[.string one, .int .i64 3, .int .u32 a] wx (Ri.NewPost wx one a 3)) := fun wx => rgNew_any wx one (by omega) a 3 (by decide)
  have NW2 : Hid (∀ wx : World, Calls Tryz.prog 10 #[.string two, .int .i64 5, .int .u32 b] wx (Ri.NewPost wx two b 5)) := fun wx => rgNew_any wx two (by omega) b 5 (by decide)
  have WR : Hid (∀ (wx : World) (r m : Nat), Sm.HAt wx → Sm.KAt wx → Ri.RingAt wx r m one a 0 3 → Calls Tryz.prog 11 #[.pointer (some ⟨r, 0, none⟩), .string about, .string text] wx fun e w' => e = .returned (.tuple #[.string bx, .int .i64 0]) ∧ Ri.RingAt w' r m one a 1 3 ∧ Ri.Turned wx w' r m) := fun wx r m x y z => by
    rw [hbx]
    have g := rgWrap_any (M := one) (boot := a) (n := 0) (cur := 3) x y (by omega) z (by decide) hab (by decide) about text (by omega) (by omega)
    exact g
  have RW : Hid (∀ (wx : World) (r m r' m' : Nat), Sm.HAt wx → Sm.KAt wx → Ri.RingAt wx r m one a 1 3 → Ri.RingAt wx r' m' two b 0 5 → r ≠ r' → m ≠ m' → Calls Tryz.prog 23 #[.pointer (some ⟨r, 0, none⟩), .string bx, .string about, .pointer (some ⟨r', 0, none⟩), .string other] wx fun e w' =>
      e = .returned (.tuple #[.string bz, .int .i64 0]) ∧ Ri.RingAt w' r m one a 1 3 ∧ Ri.RingAt w' r' m' two b 1 5 ∧ ∀ B, B ≤ r → B ≤ m → B ≤ r' → B ≤ m' → B ≤ wx.heap.size → Below B wx w') := fun wx r m r' m' x y z z' q q' => by
    rw [hbz]
    have g := rgRewrap_good (M := one) (boot := a) (n := 1) (cur := 3) (M' := two) (boot' := b) (n' := 0) (cur' := 5) (t := text.data.toList) x y (by omega) z (by omega) z' q q' (by decide) hbb (by decide) bx about other (by omega) (by omega) (by omega) hox
    exact g
  have OZ : Hid (∀ (wx : World) (r m : Nat), Sm.HAt wx → Sm.KAt wx → Ri.RingAt wx r m two b 1 5 → Calls Tryz.prog 14 #[.pointer (some ⟨r, 0, none⟩), .string bz, .string other] wx fun e w' => e = .returned (.tuple #[.string text, .int .i64 0]) ∧ Ri.RingAt w' r m two b 1 5 ∧ Ri.Turned wx w' r m) := fun wx r m x y z => by
    have q := rgOpen_any x y (by omega) z bz other (by omega) (by omega)
    unfold Ri.OpenPost at q
    rw [hoz] at q
    exact q
  have CO : Hid (∀ (wx : World) (r m : Nat) (n : Nat), Ri.RingAt wx r m two b n 5 → Calls Tryz.prog 13 #[.pointer (some ⟨r, 0, none⟩)] wx fun e w' => e = .returned (.tuple #[.int .u32 b, .int .u64 n]) ∧ ∃ k, w' = wx.drewN k) := fun wx r m n x => rgCount_any x
  obtain ⟨⟨ot, oe⟩, hop⟩ : ∃ p, p = Ri.opens one.data.toList 3 bad about.data.toList := ⟨_, rfl⟩
  obtain ⟨os, hos⟩ : ∃ x : ByteArray, x = ⟨ot.toArray⟩ := ⟨_, rfl⟩
  have OB : Hid (∀ (wx : World) (r m : Nat), Sm.HAt wx → Sm.KAt wx → Ri.RingAt wx r m one a 1 3 → Calls Tryz.prog 14 #[.pointer (some ⟨r, 0, none⟩), .string bad, .string about] wx fun e w' => e = .returned (.tuple #[.string os, .int .i64 oe]) ∧ Ri.RingAt w' r m one a 1 3 ∧ Ri.Turned wx w' r m) := fun wx r m x y z => by
    have g := rgOpen_any x y (by omega) z bad about (by omega) (by omega)
    unfold Ri.OpenPost at g
    rw [← hop] at g
    rw [hos]
    exact g
  have RB : Hid (∀ (wx : World) (r m r' m' : Nat), Sm.HAt wx → Sm.KAt wx → Ri.RingAt wx r m one a 1 3 → Ri.RingAt wx r' m' two b 1 5 → r ≠ r' → m ≠ m' → Calls Tryz.prog 23 #[.pointer (some ⟨r, 0, none⟩), .string bad, .string about, .pointer (some ⟨r', 0, none⟩), .string other] wx (Ri.RewrapPost wx r m one a 1 3 r' m' two b 1 5 oe)) := fun wx r m r' m' x y z z' q q' =>
    rgRewrap_any x y (by omega) z (by omega) z' q q' (by decide) hbb (by decide) bad about other (by omega) (by omega) (by omega) hop.symm
  clear hN hH hK hsz hbx hbz hox hoz hos hop htl
  go_enter Tryz.func9, Tryz.ntmps9
  go_wp2_with fail
  refine (AW.out).mono ?_
  rintro e w1 ⟨rfl, b1⟩
  have B1 := Lib.hid b1
  have s1 := b1.size
  clear b1 AW
  go_wp2_with fail
  refine (NW1.out _).mono ?_
  rintro e w2 ⟨r, m, rfl, ra2, hr, hm, b2⟩
  have RA2 := Lib.hid ra2
  have B2 := Lib.hid (B1.out.trans (b2.mono (by have := HN.out; omega)))
  have hr2 := ra2.lt.1
  have hm2 := ra2.lt.2
  have s2 := b2.size
  have hNr : N ≤ r := by have := HN.out; omega
  have hNm : N ≤ m := by have := HN.out; omega
  clear ra2 b2 NW1 B1
  go_wp2_with fail
  refine (NW2.out _).mono ?_
  rintro e w3 ⟨r', m', rfl, ra3', hr', hm', b3⟩
  have RA3' := Lib.hid ra3'
  have RA3 := Lib.hid (RA2.out.below b3 (Nat.le_refl _))
  have B3 := Lib.hid (B2.out.trans (b3.mono (by have := HN.out; omega)))
  have s3 := b3.size
  have hrr : r ≠ r' := by omega
  have hmm : m ≠ m' := by omega
  have hNr' : N ≤ r' := by omega
  have hNm' : N ≤ m' := by omega
  clear ra3' b3 NW2 B2 RA2
  go_wp2_with fail
  refine (WR.out _ r m (HH.out.low B3.out (by omega)) (HK.out.low B3.out hN1) RA3.out).mono ?_
  rintro e w4 ⟨rfl, ra4, tu4⟩
  have RA4 := Lib.hid ra4
  have RA4' := Lib.hid (RA3'.out.other RA3.out tu4 (Ne.symm hrr) (Ne.symm hmm))
  have B4 := Lib.hid (B3.out.trans (tu4.below hNr hNm (by have := HN.out; omega)))
  have s4 := tu4.size
  clear ra4 tu4 WR RA3 RA3' B3
  go_wp2_with fail
  refine (RW.out _ r m r' m' (HH.out.low B4.out (by omega)) (HK.out.low B4.out hN1) RA4.out RA4'.out hrr hmm).mono ?_
  rintro e w5 ⟨rfl, ra5, ra5', b5⟩
  have RA5 := Lib.hid ra5
  have RA5' := Lib.hid ra5'
  have B5 := Lib.hid (B4.out.trans (b5 N hNr hNm hNr' hNm' (by have := HN.out; omega)))
  have s5 := (b5 N hNr hNm hNr' hNm' (by have := HN.out; omega)).size
  clear ra5 ra5' b5 RW RA4 RA4' B4
  go_wp2_with fail
  refine (OZ.out _ r' m' (HH.out.low B5.out (by omega)) (HK.out.low B5.out hN1) RA5'.out).mono ?_
  rintro e w6 ⟨rfl, ra6', tu6⟩
  have RA6' := Lib.hid ra6'
  have RA6 := Lib.hid (RA5.out.other RA5'.out tu6 hrr hmm)
  have B6 := Lib.hid (B5.out.trans (tu6.below hNr' hNm' (by have := HN.out; omega)))
  have s6 := tu6.size
  clear ra6' tu6 OZ RA5 RA5' B5
  go_wp2_with fail
  refine (CO.out _ r' m' _ RA6'.out).mono ?_
  rintro e w7 ⟨rfl, k7, hw7⟩
  have RA7 : Hid (Ri.RingAt w7 r m one a 1 3) := by
    show Ri.RingAt _ _ _ _ _ _ _
    rw [hw7]; exact RA6.out.drewN _
  have RA7' : Hid (Ri.RingAt w7 r' m' two b 1 5) := by
    show Ri.RingAt _ _ _ _ _ _ _
    rw [hw7]; exact RA6'.out.drewN _
  have B7 : Hid (Below N w w7) := by
    show Below _ _ _
    rw [hw7]; exact Sm.below_drewN B6.out _
  have s7 : w6.heap.size ≤ w7.heap.size := by rw [hw7]; exact Nat.le_refl _
  clear hw7 RA6 RA6' B6
  go_wp2_with fail
  refine (OB.out _ r m (HH.out.low B7.out (by omega)) (HK.out.low B7.out hN1) RA7.out).mono ?_
  rintro e w8 ⟨rfl, ra8, tu8⟩
  have RA8 := Lib.hid ra8
  have RA8' := Lib.hid (RA7'.out.other RA7.out tu8 (Ne.symm hrr) (Ne.symm hmm))
  have B8 := Lib.hid (B7.out.trans (tu8.below hNr hNm (by have := HN.out; omega)))
  have s8 := tu8.size
  clear ra8 tu8 OB RA7 RA7' B7
  go_wp2_with fail
  refine (RB.out _ r m r' m' (HH.out.low B8.out (by omega)) (HK.out.low B8.out hN1) RA8.out RA8'.out hrr hmm).mono ?_
  rintro e w9 ⟨sx, n9, rfl, hsx, -, ra9', b9⟩
  have RA9' := Lib.hid ra9'
  have B9 := Lib.hid (B8.out.trans (b9 N hNr hNm hNr' hNm' (by have := HN.out; omega)))
  have HSX := Lib.hid hsx
  clear ra9' b9 RB RA8 RA8' B8 hsx
  go_wp2_with fail
  refine (CO.out _ r' m' n9 RA9'.out).mono ?_
  rintro e w10 ⟨rfl, k10, hw10⟩
  have B10 : Hid (Below N w w10) := by
    show Below _ _ _
    rw [hw10]; exact Sm.below_drewN B9.out _
  clear hw10 CO RA9' B9
  by_cases h0 : oe = 0
  · have q0 : ((oe : Int) == 0) = true := by rw [beq_iff_eq]; omega
    go_wp2_with fail
    refine bodyPost_ret (results_tmp rfl _ _ _) rfl ?_
    exact ⟨rfl, B10.out⟩
  · obtain ⟨rfl, rfl⟩ := HSX.out h0
    have q0 : ((oe : Int) == 0) = false := by rw [beq_eq_false_iff_ne]; omega
    go_wp2_with fail
    refine bodyPost_ret (results_tmp rfl _ _ _) rfl ?_
    exact ⟨rfl, B10.out⟩

set_option maxRecDepth 100000 in
set_option maxHeartbeats 1000000 in
theorem ringOver_any {w : World} (hH : Sm.HAt w) (hK : Sm.KAt w) (hsz : 1 < w.heap.size) (one two : ByteArray) (a b : Nat) (hab : a < 2 ^ 32) (hbb : b < 2 ^ 32) (about other text bad : ByteArray) :
    Calls Tryz.prog 9 #[.string one, .string two, .int .u32 a, .int .u32 b, .string about, .string other, .string text, .string bad] w fun e w' => e = .returned (.bool true) ∧ Below w.heap.size w w' := by
  have AW := Lib.hid (awake6_any hH hK hsz)
  by_cases h1 : one.size ≤ 300
  · by_cases h2 : two.size ≤ 300
    · by_cases h3 : about.size ≤ 300
      · by_cases h4 : other.size ≤ 300
        · by_cases h5 : text.size ≤ 300
          · by_cases h6 : bad.size ≤ 300
            · exact ringOver_some hH hK hsz one two a b hab hbb about other text bad h1 h2 h3 h4 h5 h6
            · have g1 : ¬ (300 : Int) < one.size := by omega
              have g2 : ¬ (300 : Int) < two.size := by omega
              have g3 : ¬ (300 : Int) < about.size := by omega
              have g4 : ¬ (300 : Int) < other.size := by omega
              have g5 : ¬ (300 : Int) < text.size := by omega
              have g6 : (300 : Int) < bad.size := by omega
              clear hH hK
              go_enter Tryz.func9, Tryz.ntmps9
              go_wp2_with fail
              refine (AW.out).mono ?_
              rintro e w1 ⟨rfl, b1⟩
              go_wp2_with fail
              refine bodyPost_ret (results_tmp rfl _ _ _) rfl ?_
              exact ⟨rfl, b1⟩
          · have g1 : ¬ (300 : Int) < one.size := by omega
            have g2 : ¬ (300 : Int) < two.size := by omega
            have g3 : ¬ (300 : Int) < about.size := by omega
            have g4 : ¬ (300 : Int) < other.size := by omega
            have g5 : (300 : Int) < text.size := by omega
            clear hH hK
            go_enter Tryz.func9, Tryz.ntmps9
            go_wp2_with fail
            refine (AW.out).mono ?_
            rintro e w1 ⟨rfl, b1⟩
            go_wp2_with fail
            refine bodyPost_ret (results_tmp rfl _ _ _) rfl ?_
            exact ⟨rfl, b1⟩
        · have g1 : ¬ (300 : Int) < one.size := by omega
          have g2 : ¬ (300 : Int) < two.size := by omega
          have g3 : ¬ (300 : Int) < about.size := by omega
          have g4 : (300 : Int) < other.size := by omega
          clear hH hK
          go_enter Tryz.func9, Tryz.ntmps9
          go_wp2_with fail
          refine (AW.out).mono ?_
          rintro e w1 ⟨rfl, b1⟩
          go_wp2_with fail
          refine bodyPost_ret (results_tmp rfl _ _ _) rfl ?_
          exact ⟨rfl, b1⟩
      · have g1 : ¬ (300 : Int) < one.size := by omega
        have g2 : ¬ (300 : Int) < two.size := by omega
        have g3 : (300 : Int) < about.size := by omega
        clear hH hK
        go_enter Tryz.func9, Tryz.ntmps9
        go_wp2_with fail
        refine (AW.out).mono ?_
        rintro e w1 ⟨rfl, b1⟩
        go_wp2_with fail
        refine bodyPost_ret (results_tmp rfl _ _ _) rfl ?_
        exact ⟨rfl, b1⟩
    · have g1 : ¬ (300 : Int) < one.size := by omega
      have g2 : (300 : Int) < two.size := by omega
      clear hH hK
      go_enter Tryz.func9, Tryz.ntmps9
      go_wp2_with fail
      refine (AW.out).mono ?_
      rintro e w1 ⟨rfl, b1⟩
      go_wp2_with fail
      refine bodyPost_ret (results_tmp rfl _ _ _) rfl ?_
      exact ⟨rfl, b1⟩
  · have g1 : (300 : Int) < one.size := by omega
    clear hH hK
    go_enter Tryz.func9, Tryz.ntmps9
    go_wp2_with fail
    refine (AW.out).mono ?_
    rintro e w1 ⟨rfl, b1⟩
    go_wp2_with fail
    refine bodyPost_ret (results_tmp rfl _ _ _) rfl ?_
    exact ⟨rfl, b1⟩
end Go.Proofs.YtapogiihkbjppaaGreatDoor
