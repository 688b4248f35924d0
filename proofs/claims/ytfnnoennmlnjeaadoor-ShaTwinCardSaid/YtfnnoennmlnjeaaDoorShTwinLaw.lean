/-
  ShTwin's law: a twin and its first one go their own ways: it answers true for every text and all pieces, and turns nothing of what was there.
-/
import Derived.Test.YtfnnoennmlnjeaaDoorShTwin
namespace Go.Proofs.YtfnnoennmlnjeaaDoor
open Go.RowKit

theorem append_data (a b : ByteArray) : (a ++ b).data.toList = a.data.toList ++ b.data.toList := by
  rw [ByteArray.data_append]; simp
theorem append_size (a b : ByteArray) : (a ++ b).size = a.size + b.size := by
  simp

theorem twinlaw_long {w : World} (hH : Sm.HAt w) (hK : Sm.KAt w) (hsz : 1 < w.heap.size) (s : ByteArray) (hs : 20000 < s.size) (A : Option Addr) (n c : Nat) :
    Calls Tryd.prog 8 #[.string s, .slice A n c] w fun e w' => e = .returned (.bool true) ∧ Below w.heap.size w w' := by
  have hg1 : (20000 : Int) < s.size := by omega
  have HA := Lib.hid (awake_any hH hK hsz)
  clear hH hK hs
  go_enter Tryd.func8, Tryd.ntmps8
  go_wp2_with fail
  refine (HA.out).mono ?_
  rintro e w1 ⟨rfl, b1⟩
  go_wp2
  go_ret
  exact ⟨rfl, b1⟩

set_option maxRecDepth 100000 in
set_option maxHeartbeats 8000000 in
theorem twinlaw_any {w : World} (hH : Sm.HAt w) (hK : Sm.KAt w) (hsz : 1 < w.heap.size) (s : ByteArray) (hs : ¬ 20000 < s.size) (A : Option Addr) (c : Nat) (l : List ByteArray)
    (hl : l.length ≤ 9223372036854775807) (hsl : ∀ i, (l.getD i ByteArray.empty).size ≤ 9223372036854775807) (hil : Sm.strsAt w A l) :
    Calls Tryd.prog 8 #[.string s, .slice A l.length c] w fun e w' => e = .returned (.bool true) ∧ Below w.heap.size w w' := by
  have hg1 : ¬ (20000 : Int) < s.size := by omega
  have HH := Lib.hid hH
  have HK := Lib.hid hK
  have HIL := Lib.hid hil
  have HSL := Lib.hid hsl
  clear hH hK hil hsl
  go_enter Tryd.func8, Tryd.ntmps8
  go_wp2_with fail
  refine (awake_any HH.out HK.out hsz).mono ?_
  rintro e w1 ⟨rfl, b1⟩
  have hs1 := b1.size
  have hil1 : Sm.strsAt w1 A l := by
    rcases HIL.out with h | ⟨b, o, h1, h2, h3⟩
    · exact .inl h
    · exact .inr ⟨b, o, h1, by omega, fun i hi => (b1.cell (p := ⟨b, o + i, none⟩) h2).trans (h3 i hi)⟩
  go_wp2_with fail
  refine (great_any A c l hl HSL.out hil1).mono ?_
  rintro e w2 ⟨⟨g, rfl, hg⟩, rfl⟩
  clear hil1
  cases g
  case true =>
    go_wp2
    go_ret
    exact ⟨rfl, b1⟩
  case false =>
    obtain ⟨hl2, hp2⟩ := hg rfl
    have HP := Lib.hid hp2
    clear hg hp2
    go_wp2_with fail
    refine (new_any w1 (HH.out.low b1 (by omega))).mono ?_
    rintro e w2 ⟨rfl, rfl⟩
    have b2 : Below w.heap.size w (w1.alloc Sm.fresh) := b1.alloc hs1 _
    have i2 := Sm.is_new w1
    have hs2 : (w1.alloc Sm.fresh).heap.size = w1.heap.size + 1 := by simp
    generalize w1.alloc Sm.fresh = w2 at *
    go_wp2_with fail
    refine (write_any s i2 (HK.out.low b2 hsz) (by omega) (by omega) (by simp; omega)).mono ?_
    rintro e w3 ⟨rfl, g3, i3⟩
    have b3 := Sm.grown_low b2 (Nat.le_refl _) g3 hs1
    have hs3 := g3.size
    rw [List.nil_append] at i3
    have I3 := Lib.hid i3
    clear i2 i3 g3
    go_wp2_with fail
    refine (twin_any I3.out).mono ?_
    rintro e w4 ⟨rfl, k4, i4, hs4⟩
    have b4 := Sm.low_low b3 (Nat.le_refl _) k4
    have I4x := Lib.hid (I3.out.low k4)
    have I4y := Lib.hid i4
    clear k4 i4
    go_wp2_with fail
    refine (new_any w4 (HH.out.low b4 (by omega))).mono ?_
    rintro e w5 ⟨rfl, rfl⟩
    have k5 : Below w4.heap.size w4 (w4.alloc Sm.fresh) := (Below.refl _ w4).alloc (Nat.le_refl _) _
    have b5 := Sm.low_low b4 (Nat.le_refl _) k5
    have i5x := I4x.out.low k5
    have i5y := I4y.out.low k5
    have i5z := Sm.is_new w4
    generalize w4.alloc Sm.fresh = w5 at *
    go_wp2_with fail
    obtain ⟨X, hX⟩ : ∃ X, X = w1.heap.size := ⟨_, rfl⟩
    obtain ⟨Y, hY⟩ : ∃ Y, Y = w3.heap.size := ⟨_, rfl⟩
    obtain ⟨Z, hZ⟩ : ∃ Z, Z = Y + 1 := ⟨_, rfl⟩
    rw [← hX] at i5x ⊢
    rw [← hY] at i5y ⊢
    rw [hs4, ← hY, ← hZ] at i5z
    rw [← hZ]
    have hXw : w.heap.size ≤ X := by omega
    have hXY : X < Y := by omega
    have hYZ : Y < Z := by omega
    clear hX hY hZ k5 b4 b3 b2 b1 hs1 hs2 hs3 hs4 I3 I4x I4y
    go_loopw [8, 9, 10] (fun a b i wr => ∃ (k : Nat) (SA SB : ByteArray), k ≤ l.length ∧ i = .int .i64 k ∧ a = .string SA ∧ b = .string SB ∧ SA.size ≤ 20000 + 20000 * k ∧ SB.size ≤ 20000 + 20000 * k ∧
        Sm.Is wr X SA.data.toList ∧ Sm.Is wr Y SB.data.toList ∧ Sm.Is wr Z [] ∧ Below w.heap.size w wr) (fun _ _ i _ => l.length - (intOf i).toNat)
    case atStart => exact ⟨0, s, s, by omega, rfl, rfl, rfl, by omega, by omega, i5x, i5y, i5z, b5⟩
    case round =>
      clear i5x i5y i5z b5
      obtain ⟨k, SA, SB, hk, rfl, rfl, rfl, hSA, hSB, ix, iy, iz, hbk⟩ := hrel
      have IX := Lib.hid ix
      have IY := Lib.hid iy
      have IZ := Lib.hid iz
      have hbs := hbk.size
      have eA : SA.data.toList.length = SA.size := rfl
      have eB : SB.data.toList.length = SB.size := rfl
      have hlA : Hid (SA.data.toList.length ≤ 5000000) := by show _ ≤ _; omega
      have hlB : Hid (SB.data.toList.length ≤ 5000000) := by show _ ≤ _; omega
      clear ix iy iz eA eB
      by_cases hlt : k < l.length
      · have h1i : (k : Int) < l.length := by omega
        rcases HIL.out with h0 | ⟨b, o, rfl, hb, hcs⟩
        · rw [h0] at hlt; simp at hlt
        · have hc : wr.cell? ⟨b, o + k, none⟩ = some (.string (l.getD k ByteArray.empty)) := (hbk.cell (p := ⟨b, o + k, none⟩) hb).trans (hcs k hlt)
          have hpz := HP.out k hlt
          have HCS := Lib.hid hcs
          clear hcs
          generalize l.getD k ByteArray.empty = p at *
          by_cases hpar : k % 2 = 0
          · have hpi : (k : Int) % 2 = 0 := by omega
            go_wp2_with fail
            refine (write_any p IX.out (HK.out.low hbk hsz) (by omega) (by omega) (by have := hlA.out; omega)).mono ?_
            rintro e w6 ⟨rfl, g6, i6⟩
            have b6 := Sm.grown_low hbk (Nat.le_refl _) g6 hXw
            have i6y := IY.out.grown g6 (by omega)
            have i6z := IZ.out.grown g6 (by omega)
            have hc6 : w6.cell? ⟨b, o + k, none⟩ = some (.string p) := (Sm.grown_cell g6 (by omega) (by omega)).trans hc
            rw [← append_data] at i6
            have I6 := Lib.hid i6
            have I6y := Lib.hid i6y
            have I6z := Lib.hid i6z
            clear i6 i6y i6z g6
            go_wp2
            go_roundw
            case rel => exact ⟨k + 1, SA ++ p, SB, by omega, by go_num, rfl, rfl, by rw [append_size]; omega, by omega, I6.out, I6y.out, I6z.out, b6⟩
            case measure => simp [intOf]; omega
          · have hpi : ¬ (k : Int) % 2 = 0 := by omega
            go_wp2_with fail
            refine (write_any p IY.out (HK.out.low hbk hsz) (by omega) (by omega) (by have := hlB.out; omega)).mono ?_
            rintro e w6 ⟨rfl, g6, i6⟩
            have b6 := Sm.grown_low hbk (Nat.le_refl _) g6 (by omega)
            have i6x := IX.out.grown g6 (by omega)
            have i6z := IZ.out.grown g6 (by omega)
            have hc6 : w6.cell? ⟨b, o + k, none⟩ = some (.string p) := (Sm.grown_cell g6 (by omega) (by omega)).trans hc
            rw [← append_data] at i6
            have I6 := Lib.hid i6
            have I6x := Lib.hid i6x
            have I6z := Lib.hid i6z
            clear i6 i6x i6z g6
            go_wp2
            go_roundw
            case rel => exact ⟨k + 1, SA, SB ++ p, by omega, by go_num, rfl, rfl, by omega, by rw [append_size]; omega, I6x.out, I6.out, I6z.out, b6⟩
            case measure => simp [intOf]; omega
      · go_wp2_with fail
        have heqA := fun w' => Sm.eq_hash (Sm.sum SA.data.toList) (Sm.sum SA.data.toList) (Sm.sum_length _) (Sm.sum_length _) w'
        rw [beq_self_eq_true] at heqA
        have heqB := fun w' => Sm.eq_hash (Sm.sum SB.data.toList) (Sm.sum SB.data.toList) (Sm.sum_length _) (Sm.sum_length _) w'
        rw [beq_self_eq_true] at heqB
        have heqZ := fun w' => Sm.eq_hash (Sm.sum []) (Sm.sum []) (Sm.sum_length _) (Sm.sum_length _) w'
        rw [beq_self_eq_true] at heqZ
        have HEA := Lib.hid heqA
        have HEB := Lib.hid heqB
        have HEZ := Lib.hid heqZ
        clear heqA heqB heqZ
        refine (xsum_any IX.out (HK.out.low hbk hsz) (by have := hlA.out; omega) (by omega)).mono ?_
        rintro e w6 ⟨rfl, k6⟩
        have b6 := Sm.low_low hbk (Nat.le_refl _) k6
        have hs6 := k6.size
        have I6x := Lib.hid (IX.out.low k6)
        have I6y := Lib.hid (IY.out.low k6)
        have I6z := Lib.hid (IZ.out.low k6)
        clear k6
        go_wp2_with fail
        refine (sum_any SA (HH.out.low b6 (by omega)) (HK.out.low b6 hsz) (by omega) (by omega)).mono ?_
        rintro e w7 ⟨rfl, k7⟩
        have b7 := Sm.low_low b6 (Nat.le_refl _) k7
        have hs7 := k7.size
        have I7x := Lib.hid (I6x.out.low k7)
        have I7y := Lib.hid (I6y.out.low k7)
        have I7z := Lib.hid (I6z.out.low k7)
        have e7 := HEA.out w7
        clear k7
        go_wp2_with fail
        clear e7
        refine (xsum_any I7y.out (HK.out.low b7 hsz) (by have := hlB.out; omega) (by omega)).mono ?_
        rintro e w8 ⟨rfl, k8⟩
        have b8 := Sm.low_low b7 (Nat.le_refl _) k8
        have hs8 := k8.size
        have I8x := Lib.hid (I7x.out.low k8)
        have I8y := Lib.hid (I7y.out.low k8)
        have I8z := Lib.hid (I7z.out.low k8)
        clear k8
        go_wp2_with fail
        refine (sum_any SB (HH.out.low b8 (by omega)) (HK.out.low b8 hsz) (by omega) (by omega)).mono ?_
        rintro e w9 ⟨rfl, k9⟩
        have b9 := Sm.low_low b8 (Nat.le_refl _) k9
        have hs9 := k9.size
        have I9x := Lib.hid (I8x.out.low k9)
        have I9y := Lib.hid (I8y.out.low k9)
        have I9z := Lib.hid (I8z.out.low k9)
        have e9 := HEB.out w9
        clear k9
        go_wp2_with fail
        clear e9
        refine (xsum_any I9z.out (HK.out.low b9 hsz) (by decide) (by omega)).mono ?_
        rintro e w10 ⟨rfl, k10⟩
        have b10 := Sm.low_low b9 (Nat.le_refl _) k10
        have hs10 := k10.size
        have I10x := Lib.hid (I9x.out.low k10)
        have I10y := Lib.hid (I9y.out.low k10)
        have I10z := Lib.hid (I9z.out.low k10)
        clear k10
        go_wp2_with fail
        refine (sum_any ⟨#[]⟩ (HH.out.low b10 (by omega)) (HK.out.low b10 hsz) (by omega) (by decide)).mono ?_
        rintro e w11 ⟨rfl, k11⟩
        have b11 := Sm.low_low b10 (Nat.le_refl _) k11
        have I11x := Lib.hid (I10x.out.low k11)
        have I11y := Lib.hid (I10y.out.low k11)
        have I11z := Lib.hid (I10z.out.low k11)
        have e11 := HEZ.out w11
        clear k11
        go_wp2_with fail
        clear e11
        refine (len_any I11z.out).mono ?_
        rintro e w12 ⟨rfl, rfl⟩
        go_wp2_with fail
        refine (len_any I11x.out).mono ?_
        rintro e w12 ⟨rfl, rfl⟩
        have eA : ((SA.data.toList.length : Nat) : Int) = (SA.size : Int) := rfl
        have eB : ((SB.data.toList.length : Nat) : Int) = (SB.size : Int) := rfl
        rw [eA]
        go_wp2_with fail
        refine (len_any I11y.out).mono ?_
        rintro e w12 ⟨rfl, rfl⟩
        rw [eB]
        clear eA eB
        go_wp2
        go_ret
        exact ⟨rfl, b11⟩
end Go.Proofs.YtfnnoennmlnjeaaDoor
