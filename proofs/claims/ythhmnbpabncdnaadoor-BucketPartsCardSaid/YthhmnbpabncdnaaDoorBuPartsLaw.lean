/-
  BucketParts answers true for every row of pairs, text and number, and turns nothing of what was there.
-/
import Derived.Test.YthhmnbpabncdnaaDoorBuAwake
import Derived.Test.YthhmnbpabncdnaaDoorR14Fns
import Derived.Test.YthhmnbpabncdnaaDoorOmGreat
import Derived.Test.YthhmnbpabncdnaaDoorR13List
namespace Go.Proofs.YthhmnbpabncdnaaDoor
open Go.RowKit
set_option maxRecDepth 100000 in
set_option maxHeartbeats 4000000 in
theorem bucketParts_any {w : World} (hH : Sm.HAt w) (hK : Sm.KAt w) (hsz : 1 < w.heap.size) {A : Option Addr} {l : List Om.Pr} (c : Nat) (hit : Om.listAt w A l) (p : ByteArray) (hp : p.size ≤ 9223372036854775807) (i : Int) :
    Calls Tryd.prog 3 #[.slice A l.length c, .string p, .int .i64 i] w fun e w' => e = .returned (.bool true) ∧ Below w.heap.size w w' := by
  have AW : Hid (∀ wx : World, Below w.heap.size w wx → Calls Tryd.prog 12 #[] wx fun e w' => e = .returned (.bool true) ∧ Below wx.heap.size wx w') := fun wx hb => awake14_any (hH.low hb (by omega)) (hK.low hb hsz) (Nat.lt_of_lt_of_le hsz hb.size)
  obtain ⟨g, hg⟩ := Om.fairL_or l
  have GP := Lib.hid (greatPairs_any (c := c) hit g hg)
  have HEQ := hg
  cases g
  case true =>
    clear HEQ hg
    go_enter Tryd.func3, Tryd.ntmps3
    go_wp2_with first
      | (go_at_call 11; refine GP.out.mono ?_; rintro e w0 ⟨rfl, rfl⟩)
      | (go_at_call 12; refine (AW.out _ (Below.refl _ _)).mono ?_; rintro e w1 ⟨rfl, k1⟩)
    go_ret
    exact ⟨rfl, k1⟩
  have hf : Om.FairL l := Classical.byContradiction fun h => by have := HEQ.2 h; cases this
  clear HEQ hg
  by_cases hl : 1000 < p.size
  · have hli : (1000 : Int) < (p.size : Int) := by omega
    go_enter Tryd.func3, Tryd.ntmps3
    go_wp2_with first
      | (go_at_call 11; refine GP.out.mono ?_; rintro e w0 ⟨rfl, rfl⟩)
      | (go_at_call 12; refine (AW.out _ (Below.refl _ _)).mono ?_; rintro e w1 ⟨rfl, k1⟩)
    go_ret
    exact ⟨rfl, k1⟩
  have hli : ¬ (1000 : Int) < (p.size : Int) := by omega
  have OF : Hid (∀ (wx : World) (p : ByteArray), Below w.heap.size w wx → p.size ≤ 281474976710656 → Calls Tryd.prog 13 #[.string p] wx fun e w' => e = .returned (.int .i64 (Bu.bk p : Nat)) ∧ Below wx.heap.size wx w') := fun wx p hb hp => buOf_any (hH.low hb (by omega)) (hK.low hb hsz) (Nat.lt_of_lt_of_le hsz hb.size) p (by omega)
  have MY : Hid (∀ (wx : World) (C : Option Addr) (d : Nat) (m : List Om.Pr), Om.listAt wx C m → m.length ≤ 200 → (∀ x ∈ m, x.p.size ≤ 1000) → Calls Tryd.prog 15 #[.slice C m.length d] wx fun e w' => e = .returned (.bool (Bu.may m)) ∧ Below wx.heap.size wx w') := fun wx C d m hl hm hs => buMay_any d hl (by omega) (fun x hx => by have := hs x hx; omega)
  have PT : Hid (∀ (wx : World), Below w.heap.size w wx → ∀ i : Int, Calls Tryd.prog 18 #[.slice A l.length c, .int .i64 i] wx fun e w' => ∃ B q, e = .returned (.slice B (Bu.part l i).length q) ∧ Om.Row w' wx.heap.size B q (Bu.part l i) ∧ Below wx.heap.size wx w') := fun wx hb i =>
    buPart_any (hH.low hb (by omega)) (hK.low hb hsz) (Nat.lt_of_lt_of_le hsz hb.size) c (hit.below hb) (by have := hf.1; omega) (fun x hx => by have := hf.mem x hx; omega) i
  have HIT := Lib.hid hit
  have HF := Lib.hid hf
  have O1 := Lib.hid (OF.out w p (Below.refl _ _) (by omega))
  have O2 := Lib.hid (fun wx => r14Of_any wx p (by omega))
  have RM : Hid (∀ wx : World, Below w.heap.size w wx → Calls Tryd.prog 16 #[.slice A l.length c] wx fun e w' => e = .returned (.bool (Bu.may l)) ∧ Below wx.heap.size wx w') := fun wx hb => r14May_any c (HIT.out.below hb) (by have := HF.out.1; omega) (fun x hx => by have := (HF.out.mem x hx).1; omega)
  have RP : Hid (∀ wx : World, Below w.heap.size w wx → Calls Tryd.prog 19 #[.slice A l.length c, .int .i64 i] wx fun e w' => ∃ B q, e = .returned (.slice B (Bu.part l i).length q) ∧ Om.Row w' wx.heap.size B q (Bu.part l i) ∧ Below wx.heap.size wx w') := fun wx hb => r14Part_any c (HIT.out.below hb) (by have := HF.out.1; omega) (fun x hx => by have := (HF.out.mem x hx).1; omega) i
  have M1 : Hid (∀ wx : World, Below w.heap.size w wx → Calls Tryd.prog 15 #[.slice A l.length c] wx fun e w' => e = .returned (.bool (Bu.may l)) ∧ Below wx.heap.size wx w') := fun wx hb => MY.out wx A c l (HIT.out.below hb) HF.out.1 (fun x hx => (HF.out.mem x hx).1)
  have HPL : Hid ((Bu.part l i).length ≤ 200) := Nat.le_trans (Bu.part_length l i) HF.out.1
  obtain ⟨n, hn⟩ : ∃ n, n = Bu.bk p := ⟨_, rfl⟩
  rw [← hn] at O1 O2
  obtain ⟨m, hm⟩ : ∃ m, m = Bu.may l := ⟨_, rfl⟩
  rw [← hm] at M1 RM
  have PT1 := Lib.hid (fun wx hb => PT.out wx hb i)
  obtain ⟨L, hL⟩ : ∃ L, L = Bu.part l i := ⟨_, rfl⟩
  rw [← hL] at PT1 RP HPL
  clear hn hm hL hit hf hH hK hl MY OF PT hsz
  go_enter Tryd.func3, Tryd.ntmps3
  go_wp2_with first
    | (go_at_call 11; refine GP.out.mono ?_; rintro e w0 ⟨rfl, rfl⟩)
    | (go_at_call 13; refine O1.out.mono ?_; rintro e w1 ⟨rfl, k1⟩; have B1 := Lib.hid k1; clear k1)
    | (go_at_call 14; refine (O2.out _).mono ?_; rintro e w2 ⟨rfl, kw2⟩; have B2 : Hid (Below w.heap.size w w2) := B1.out.trans (kw2.mono B1.out.size); clear kw2)
    | (go_at_call 15; refine (M1.out _ B2.out).mono ?_; rintro e w3 ⟨rfl, kw3⟩; have B3 : Hid (Below w.heap.size w w3) := B2.out.trans (kw3.mono B2.out.size); clear kw3)
    | (go_at_call 16; refine (RM.out _ B3.out).mono ?_; rintro e w4 ⟨rfl, kw4⟩; have B4 : Hid (Below w.heap.size w w4) := B3.out.trans (kw4.mono B3.out.size); clear kw4)
    | (go_at_call 18; refine (PT1.out _ B4.out).mono ?_; rintro e w5 ⟨C1, d1, rfl, hr1, kw5⟩; have B5 : Hid (Below w.heap.size w w5) := B4.out.trans (kw5.mono B4.out.size); clear kw5)
    | (go_at_call 19; refine (RP.out _ B5.out).mono ?_; rintro e w6 ⟨C2, d2, rfl, hr2, kw6⟩; have B6 : Hid (Below w.heap.size w w6) := B5.out.trans (kw6.mono B5.out.size); have R1 := Lib.hid (hr1.low kw6); have R2 := Lib.hid hr2; clear hr1 hr2; clear kw6)
    | (go_at_call 17; refine (r13Same_any d1 d2 R1.out.listAt R2.out.listAt (by have := HPL.out; omega) true (by simp)).mono ?_; rintro e w7 ⟨rfl, kw7⟩; have B7 : Hid (Below w.heap.size w w7) := B6.out.trans (kw7.mono B6.out.size); clear kw7)
    | (go_at_call 12; refine (AW.out _ B7.out).mono ?_; rintro e w8 ⟨rfl, kw8⟩; have B8 : Hid (Below w.heap.size w w8) := B7.out.trans (kw8.mono B7.out.size); clear kw8)
  go_ret
  exact ⟨rfl, B8.out⟩
end Go.Proofs.YthhmnbpabncdnaaDoor
