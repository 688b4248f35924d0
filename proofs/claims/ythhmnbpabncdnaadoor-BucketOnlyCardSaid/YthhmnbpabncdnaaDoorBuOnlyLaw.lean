/-
  BucketOnly answers true for every number and text, and turns nothing of what was there.
-/
import Derived.Test.YthhmnbpabncdnaaDoorBuAwake
namespace Go.Proofs.YthhmnbpabncdnaaDoor
open Go.RowKit
set_option maxRecDepth 100000 in
set_option maxHeartbeats 4000000 in
theorem bucketOnly_any {w : World} (hH : Sm.HAt w) (hK : Sm.KAt w) (hsz : 1 < w.heap.size) (i : Int) (s : ByteArray) (hs : s.size ≤ 9223372036854775807) :
    Calls Tryd.prog 7 #[.int .i64 i, .string s] w fun e w' => e = .returned (.bool true) ∧ Below w.heap.size w w' := by
  have AW : Hid (∀ wx : World, Below w.heap.size w wx → Calls Tryd.prog 12 #[] wx fun e w' => e = .returned (.bool true) ∧ Below wx.heap.size wx w') := fun wx hb => awake14_any (hH.low hb (by omega)) (hK.low hb hsz) (Nat.lt_of_lt_of_le hsz hb.size)
  have RD : Hid (∀ (wx : World) (i : Int) (s : ByteArray), Below w.heap.size w wx → s.size ≤ 100000 → Calls Tryd.prog 22 #[.int .i64 i, .string s] wx fun e w' => ∃ A c, e = .returned (.tuple #[.slice A (Bu.read i s).1.length c, .int .i64 ((Bu.read i s).2 : Nat)]) ∧ Om.Row w' wx.heap.size A c (Bu.read i s).1 ∧ Below wx.heap.size wx w') := fun wx i s hb hs =>
    buRead_any (hH.low hb (by omega)) (hK.low hb hsz) (Nat.lt_of_lt_of_le hsz hb.size) i s (by omega)
  have OF : Hid (∀ (wx : World) (p : ByteArray), Below w.heap.size w wx → p.size ≤ 281474976710656 → Calls Tryd.prog 13 #[.string p] wx fun e w' => e = .returned (.int .i64 (Bu.bk p : Nat)) ∧ Below wx.heap.size wx w') := fun wx p hb hp => buOf_any (hH.low hb (by omega)) (hK.low hb hsz) (Nat.lt_of_lt_of_le hsz hb.size) p (by omega)
  have PG : Hid (∀ (wx : World) (C : Option Addr) (d : Nat) (m : List Om.Pr) (i : Int), Below w.heap.size w wx → Om.listAt wx C m → m.length ≤ 200 → (∀ x ∈ m, x.p.size ≤ 1000) → Calls Tryd.prog 20 #[.int .i64 i, .slice C m.length d] wx fun e w' => e = .returned (.tuple #[.string (Bu.page i m).1, .int .i64 ((Bu.page i m).2 : Nat)]) ∧ Below wx.heap.size wx w') := fun wx C d m i hb hl hm hs =>
    buPage_any (hH.low hb (by omega)) (hK.low hb hsz) (Nat.lt_of_lt_of_le hsz hb.size) i d hl (by omega) (fun x hx => by have := hs x hx; omega)
  have MY : Hid (∀ (wx : World) (C : Option Addr) (d : Nat) (m : List Om.Pr), Om.listAt wx C m → m.length ≤ 200 → (∀ x ∈ m, x.p.size ≤ 1000) → Calls Tryd.prog 15 #[.slice C m.length d] wx fun e w' => e = .returned (.bool (Bu.may m)) ∧ Below wx.heap.size wx w') := fun wx C d m hl hm hs => buMay_any d hl (by omega) (fun x hx => by have := hs x hx; omega)
  obtain ⟨t, ht, hc1, hc2⟩ : ∃ t : ByteArray, t.size ≤ 5000 ∧ (5000 < s.size → s.extract 0 5000 = t) ∧ (¬ 5000 < s.size → s = t) := by
    by_cases h : 5000 < s.size
    · exact ⟨s.extract 0 5000, by rw [ByteArray.size_extract]; omega, fun _ => rfl, fun h' => absurd h h'⟩
    · exact ⟨s, by omega, fun h' => absurd h' h, fun _ => rfl⟩
  have R1 := Lib.hid (RD.out w i t (Below.refl _ _) (by omega))
  have HC1 := Lib.hid hc1
  have HC2 := Lib.hid hc2
  have HRG := Lib.hid (@Bu.read_good i t)
  have HRN := Lib.hid (@Bu.read_none i t)
  obtain ⟨L, hL⟩ : ∃ L, L = (Bu.read i t).1 := ⟨_, rfl⟩
  obtain ⟨E, hE⟩ : ∃ L, L = (Bu.read i t).2 := ⟨_, rfl⟩
  rw [← hL, ← hE] at R1 HRG
  rw [← hL, ← hE] at HRN
  clear hL hE hH hK hsz RD hc1 hc2
  by_cases he : E = 0
  · have hei : ((E : Int) != 0) = false := by rw [he]; rfl
    obtain ⟨⟨hi0, hi15⟩, hm, ha, h48, hp⟩ := HRG.out he
    have hi16 : i < 16 := by omega
    have hlp : ∀ x ∈ L, x.p.size ≤ 1000 := fun x hx => by
      have h1 := (Bu.fair_len ((Bu.may_iff.1 hm).1 x hx)).1
      have e : x.p.data.toList.length = x.p.size := Ba.ba_size x.p
      omega
    have P1 : Hid (∀ (wx : World) (C : Option Addr) (d : Nat), Below w.heap.size w wx → Om.listAt wx C L → Calls Tryd.prog 20 #[.int .i64 i, .slice C L.length d] wx fun e w' => e = .returned (.tuple #[.string t, .int .i64 0]) ∧ Below wx.heap.size wx w') := fun wx C d hb hl => by
      have := PG.out wx C d L i hb hl (by omega) hlp
      rw [hp] at this
      exact this
    have M1 : Hid (∀ (wx : World) (C : Option Addr) (d : Nat), Om.listAt wx C L → Calls Tryd.prog 15 #[.slice C L.length d] wx fun e w' => e = .returned (.bool true) ∧ Below wx.heap.size wx w') := fun wx C d hl => by
      have := MY.out wx C d L hl (by omega) hlp
      rw [hm] at this
      exact this
    have HALL : Hid (∀ k (hk : k < L.length), (((Bu.bk L[k].p : Nat) : Int) != i) = false) := fun k hk => by
      rw [Bu.all_at ha hk]
      simp
    have HLP := Lib.hid hlp
    have HL48 := Lib.hid h48
    clear hm ha hp hlp HRG HRN PG MY he
    by_cases hg : 5000 < s.size
    all_goals
      have hgi : if 5000 < s.size then (5000 : Int) < s.size else ¬ (5000 : Int) < s.size := by split <;> omega
      simp only [hg, if_true, if_false] at hgi
      go_enter Tryd.func7, Tryd.ntmps7
      go_upto_region 3 with (fail)
      first
        | rw [HC1.out hg]
        | rw [HC2.out hg]
      clear hg hgi HC1 HC2
      go_upto_region 7 with first
        | (go_at_call 22; refine R1.out.mono ?_; rintro e w1 ⟨C1, d1, rfl, q1, k1⟩; have B1 := Lib.hid k1; have Q1 := Lib.hid q1; clear k1 q1)
        | (go_at_call 20; refine (P1.out _ _ _ B1.out Q1.out.listAt).mono ?_; rintro e w2 ⟨rfl, k2⟩; have B2 : Hid (Below w.heap.size w w2) := B1.out.trans (k2.mono B1.out.size); have Q2 := Lib.hid (Q1.out.low k2); clear k2)
      clear R1 P1 B1 Q1
      go_wp2
      go_loopw [9] (fun s9 wr => ∃ k : Nat, s9 = .int .i64 k ∧ k ≤ L.length ∧ Om.Row wr w.heap.size C1 d1 L ∧ Below w.heap.size w wr) (fun s9 _ => L.length - (intOf s9).toNat)
      case atStart => exact ⟨0, rfl, Nat.zero_le _, Q2.out, B2.out⟩
      case round =>
        clear Q2 B2
        obtain ⟨k, rfl, hk, hq, hb⟩ := hrel
        have HQ := Lib.hid hq
        have HB := Lib.hid hb
        clear hq hb
        by_cases hlt : k < L.length
        · have hki : (k : Int) < (L.length : Int) := by omega
          have hsuc : IntKind.i64.wrap ((k : Int) + 1) = ((k + 1 : Nat) : Int) := by have := HL48.out; simp [IntKind.wrap, IntKind.bits, IntKind.signed]; omega
          have hne := HALL.out k hlt
          obtain ⟨b, off, rfl, -, x0, x1⟩ := HQ.out.listAt.get (Below.refl _ _) k hlt
          have OX := Lib.hid (OF.out wr L[k].p HB.out (by have := HLP.out _ (List.getElem_mem hlt); omega))
          obtain ⟨p, hp⟩ : ∃ p, p = L[k].p := ⟨_, rfl⟩
          rw [← hp] at hne x0 OX
          clear x1 hp
          go_wp2_with (go_at_call 13; refine OX.out.mono ?_; rintro e w3 ⟨rfl, k3⟩)
          go_roundw
          case rel => exact ⟨k + 1, rfl, hlt, HQ.out.low k3, HB.out.trans (k3.mono HB.out.size)⟩
          case measure => simp only [intOf]; omega
        · have hki : ¬ (k : Int) < (L.length : Int) := by omega
          go_wp2_with first
            | (go_at_call 15; refine (M1.out _ _ _ HQ.out.listAt).mono ?_; rintro e w4 ⟨rfl, k4⟩; have B4 : Hid (Below w.heap.size w w4) := HB.out.trans (k4.mono HB.out.size); clear k4)
            | (go_at_call 12; refine (AW.out _ B4.out).mono ?_; rintro e w5 ⟨rfl, k5⟩)
          go_ret
          exact ⟨rfl, B4.out.trans (k5.mono B4.out.size)⟩
  · have hei : ((E : Int) != 0) = true := by rw [bne_iff_ne]; omega
    have hl0 := HRN.out he
    rw [hl0] at R1
    clear he hl0 HRG HRN PG MY OF
    by_cases hg : 5000 < s.size
    all_goals
      have hgi : if 5000 < s.size then (5000 : Int) < s.size else ¬ (5000 : Int) < s.size := by split <;> omega
      simp only [hg, if_true, if_false] at hgi
      go_enter Tryd.func7, Tryd.ntmps7
      go_upto_region 3 with (fail)
      first
        | rw [HC1.out hg]
        | rw [HC2.out hg]
      clear hg hgi HC1 HC2
      go_wp2_with first
        | (go_at_call 22; refine R1.out.mono ?_; rintro e w1 ⟨C1, d1, rfl, q1, k1⟩; have B1 := Lib.hid k1; clear k1 q1)
        | (go_at_call 12; refine (AW.out _ B1.out).mono ?_; rintro e w5 ⟨rfl, k5⟩)
      go_ret
      exact ⟨rfl, B1.out.trans (k5.mono B1.out.size)⟩
end Go.Proofs.YthhmnbpabncdnaaDoor
