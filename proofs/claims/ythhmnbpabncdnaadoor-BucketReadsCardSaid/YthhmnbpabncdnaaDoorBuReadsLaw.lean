/-
  BucketReads answers true for every number and text, and turns nothing of what was there.
-/
import Derived.Test.YthhmnbpabncdnaaDoorBuAwake
import Derived.Test.YthhmnbpabncdnaaDoorR14Read
import Derived.Test.YthhmnbpabncdnaaDoorOmGreat
import Derived.Test.YthhmnbpabncdnaaDoorR13List
namespace Go.Proofs.YthhmnbpabncdnaaDoor
open Go.RowKit
set_option maxRecDepth 100000 in
set_option maxHeartbeats 4000000 in
theorem bucketReads_any {w : World} (hH : Sm.HAt w) (hK : Sm.KAt w) (hsz : 1 < w.heap.size) (i : Int) (s : ByteArray) (hs : s.size ≤ 9223372036854775807) :
    Calls Tryd.prog 5 #[.int .i64 i, .string s] w fun e w' => e = .returned (.bool true) ∧ Below w.heap.size w w' := by
  have AW : Hid (∀ wx : World, Below w.heap.size w wx → Calls Tryd.prog 12 #[] wx fun e w' => e = .returned (.bool true) ∧ Below wx.heap.size wx w') := fun wx hb => awake14_any (hH.low hb (by omega)) (hK.low hb hsz) (Nat.lt_of_lt_of_le hsz hb.size)
  have RD : Hid (∀ (wx : World) (i : Int) (s : ByteArray), Below w.heap.size w wx → s.size ≤ 100000 → Calls Tryd.prog 22 #[.int .i64 i, .string s] wx fun e w' => ∃ A c, e = .returned (.tuple #[.slice A (Bu.read i s).1.length c, .int .i64 ((Bu.read i s).2 : Nat)]) ∧ Om.Row w' wx.heap.size A c (Bu.read i s).1 ∧ Below wx.heap.size wx w') := fun wx i s hb hs =>
    buRead_any (hH.low hb (by omega)) (hK.low hb hsz) (Nat.lt_of_lt_of_le hsz hb.size) i s (by omega)
  obtain ⟨t, ht, hc1, hc2⟩ : ∃ t : ByteArray, t.size ≤ 5000 ∧ (5000 < s.size → s.extract 0 5000 = t) ∧ (¬ 5000 < s.size → s = t) := by
    by_cases h : 5000 < s.size
    · exact ⟨s.extract 0 5000, by rw [ByteArray.size_extract]; omega, fun _ => rfl, fun h' => absurd h h'⟩
    · exact ⟨s, by omega, fun h' => absurd h' h, fun _ => rfl⟩
  have R1 := Lib.hid (RD.out w i t (Below.refl _ _) (by omega))
  have R2 := Lib.hid (fun wx : World => r14Read_any (w := wx) i t (by omega))
  have hl48 : Hid ((Bu.read i t).1.length ≤ 48) := by
    show _ ≤ _
    have h1 := Bu.rdL_len t
    unfold Bu.read
    simp only
    split
    · exact h1
    · simp
  obtain ⟨L, hL⟩ : ∃ L, L = (Bu.read i t).1 := ⟨_, rfl⟩
  obtain ⟨E, hE⟩ : ∃ L, L = (Bu.read i t).2 := ⟨_, rfl⟩
  rw [← hL, ← hE] at R1 R2
  rw [← hL] at hl48
  have HC1 := Lib.hid hc1
  have HC2 := Lib.hid hc2
  clear hL hE hH hK hsz RD hc1 hc2
  by_cases hg : 5000 < s.size
  all_goals
    have hgi : if 5000 < s.size then (5000 : Int) < s.size else ¬ (5000 : Int) < s.size := by split <;> omega
    simp only [hg, if_true, if_false] at hgi
    go_enter Tryd.func5, Tryd.ntmps5
    go_upto_region 3 with (fail)
    first
      | rw [HC1.out hg]
      | rw [HC2.out hg]
    clear hg hgi HC1 HC2
    go_wp2_with first
      | (go_at_call 22; refine R1.out.mono ?_; rintro e w1 ⟨C1, d1, rfl, q1, k1⟩; have B1 := Lib.hid k1; have Q1 := Lib.hid q1; clear k1 q1)
      | (go_at_call 23; refine (R2.out _).mono ?_; rintro e w2 ⟨C2, d2, rfl, q2, k2⟩; have B2 : Hid (Below w.heap.size w w2) := B1.out.trans (k2.mono B1.out.size); have Q2 := Lib.hid q2; have P2 := Lib.hid (Q1.out.low k2); clear k2 q2)
      | (go_at_call 17; refine (r13Same_any d1 d2 P2.out.listAt Q2.out.listAt (by have := hl48.out; omega) true (by simp)).mono ?_; rintro e w3 ⟨rfl, k3⟩; have B3 : Hid (Below w.heap.size w w3) := B2.out.trans (k3.mono B2.out.size); clear k3)
      | (go_at_call 12; refine (AW.out _ B3.out).mono ?_; rintro e w4 ⟨rfl, k4⟩)
    go_ret
    exact ⟨rfl, B3.out.trans (k4.mono B3.out.size)⟩
end Go.Proofs.YthhmnbpabncdnaaDoor
