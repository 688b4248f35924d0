/-
  ShaKnown answers true, and turns nothing of what was there.
-/
import Derived.Test.YtfnnoennmlnjeaaDoorShAwake
namespace Go.Proofs.YtfnnoennmlnjeaaDoor
open Go.RowKit
namespace Sm
theorem sum_none : digits (sum []) = [101, 51, 98, 48, 99, 52, 52, 50, 57, 56, 102, 99, 49, 99, 49, 52, 57, 97, 102, 98, 102, 52, 99, 56, 57, 57, 54, 102, 98, 57, 50, 52, 50, 55, 97, 101, 52, 49, 101, 52, 54, 52, 57, 98, 57, 51, 52, 99, 97, 52, 57, 53, 57, 57, 49, 98, 55, 56, 53, 50, 98, 56, 53, 53] := by decide +kernel
def long : List UInt8 := [97, 98, 99, 100, 98, 99, 100, 101, 99, 100, 101, 102, 100, 101, 102, 103, 101, 102, 103, 104, 102, 103, 104, 105, 103, 104, 105, 106, 104, 105, 106, 107, 105, 106, 107, 108, 106, 107, 108, 109, 107, 108, 109, 110, 108, 109, 110, 111, 109, 110, 111, 112, 110, 111, 112, 113]
theorem sum_long : digits (sum long) = [50, 52, 56, 100, 54, 97, 54, 49, 100, 50, 48, 54, 51, 56, 98, 56, 101, 53, 99, 48, 50, 54, 57, 51, 48, 99, 51, 101, 54, 48, 51, 57, 97, 51, 51, 99, 101, 52, 53, 57, 54, 52, 102, 102, 50, 49, 54, 55, 102, 54, 101, 99, 101, 100, 100, 52, 49, 57, 100, 98, 48, 54, 99, 49] := by decide +kernel
theorem grown_low {w w1 w2 : World} {B b : Nat} (k : Below B w w1) (hB : B ≤ w.heap.size) (h : w1.grownBy w2 (some b)) (hb : B ≤ b) : Below B w w2 := k.trans (grown_from h hb (Nat.le_trans hB k.size))
theorem low_low {w w1 w2 : World} {B : Nat} (k : Below B w w1) (hB : B ≤ w.heap.size) (h : Below w1.heap.size w1 w2) : Below B w w2 := k.trans (h.mono (Nat.le_trans hB k.size))
end Sm

set_option maxRecDepth 100000 in
set_option maxHeartbeats 2000000 in
theorem known_any {w : World} (hH : Sm.HAt w) (hK : Sm.KAt w) (hsz : 1 < w.heap.size) :
    Calls Tryd.prog 3 #[] w fun e w' => e = .returned (.bool true) ∧ Below w.heap.size w w' := by
  have HH := Lib.hid hH
  have HK := Lib.hid hK
  have hD1 := fun w' => digits_any (Sm.sum Sm.long) (Sm.sum_length _) w'
  rw [Sm.sum_long] at hD1
  have HD1 := Lib.hid hD1
  have hD2 := fun w' => digits_any (Sm.sum []) (Sm.sum_length _) w'
  rw [Sm.sum_none] at hD2
  have HD2 := Lib.hid hD2
  have heq := fun w' => Sm.eq_hash (Sm.sum [97, 98, 99]) (Sm.sum [97, 98, 99]) (Sm.sum_length _) (Sm.sum_length _) w'
  rw [beq_self_eq_true] at heq
  have HEQ := Lib.hid heq
  clear hH hK hD1 hD2 heq
  go_enter Tryd.func3, Tryd.ntmps3
  go_wp2_with fail
  refine (new_any w HH.out).mono ?_
  rintro e w1 ⟨rfl, rfl⟩
  have b1 : Below w.heap.size w (w.alloc Sm.fresh) := (Below.refl _ w).alloc (Nat.le_refl _) _
  have i1 := Sm.is_new w
  have hs1 : w.heap.size < (w.alloc Sm.fresh).heap.size := by simp
  generalize w.alloc Sm.fresh = w1 at *
  go_wp2_with fail
  refine (write_any ⟨#[97]⟩ i1 (HK.out.low b1 hsz) (by omega) (by omega) (by decide)).mono ?_
  rintro e w2 ⟨rfl, g2, i2⟩
  have b2 := Sm.grown_low b1 (Nat.le_refl _) g2 (Nat.le_refl _)
  have hs2 := g2.size
  clear i1 g2
  go_wp2_with fail
  refine (write_any ⟨#[98, 99]⟩ i2 (HK.out.low b2 hsz) (by omega) (by omega) (by decide)).mono ?_
  rintro e w3 ⟨rfl, g3, i3⟩
  have b3 := Sm.grown_low b2 (Nat.le_refl _) g3 (Nat.le_refl _)
  have hs3 := g3.size
  have i3 : Sm.Is w3 w.heap.size [97, 98, 99] := i3
  clear i2 g3
  go_wp2_with fail
  refine (sum_any ⟨#[97, 98, 99, 100, 98, 99, 100, 101, 99, 100, 101, 102, 100, 101, 102, 103, 101, 102, 103, 104, 102, 103, 104, 105, 103, 104, 105, 106, 104, 105, 106, 107, 105, 106, 107, 108, 106, 107, 108, 109, 107, 108, 109, 110, 108, 109, 110, 111, 109, 110, 111, 112, 110, 111, 112, 113]⟩ (HH.out.low b3 (by omega)) (HK.out.low b3 hsz) (by omega) (by decide)).mono ?_
  rintro e w4 ⟨rfl, k4⟩
  have b4 := Sm.low_low b3 (Nat.le_refl _) k4
  have hs4 := k4.size
  have i4 := i3.low k4
  clear i3 k4
  go_wp2_with fail
  refine (HD1.out _).mono ?_
  rintro e w5 ⟨rfl, k5⟩
  have b5 := Sm.low_low b4 (Nat.le_refl _) k5
  have hs5 := k5.size
  have i5 := i4.low k5
  clear i4 k5
  go_wp2_with fail
  refine (awake_any (HH.out.low b5 (by omega)) (HK.out.low b5 hsz) (by omega)).mono ?_
  rintro e w6 ⟨rfl, k6⟩
  have b6 := Sm.low_low b5 (Nat.le_refl _) k6
  have hs6 := k6.size
  have i6 := i5.low k6
  clear i5 k6
  go_wp2_with fail
  refine (sum_any ⟨#[]⟩ (HH.out.low b6 (by omega)) (HK.out.low b6 hsz) (by omega) (by decide)).mono ?_
  rintro e w7 ⟨rfl, k7⟩
  have b7 := Sm.low_low b6 (Nat.le_refl _) k7
  have hs7 := k7.size
  have i7 := i6.low k7
  clear i6 k7
  go_wp2_with fail
  refine (HD2.out _).mono ?_
  rintro e w8 ⟨rfl, k8⟩
  have b8 := Sm.low_low b7 (Nat.le_refl _) k8
  have hs8 := k8.size
  have i8 := i7.low k8
  clear i7 k8
  go_wp2_with fail
  refine (len_any i8).mono ?_
  rintro e w9 ⟨rfl, rfl⟩
  go_wp2_with fail
  refine (xsum_any i8 (HK.out.low b8 hsz) (by decide) (by omega)).mono ?_
  rintro e w10 ⟨rfl, k10⟩
  have b10 := Sm.low_low b8 (Nat.le_refl _) k10
  have hs10 := k10.size
  clear i8 k10
  go_wp2_with fail
  refine (sum_any ⟨#[97, 98, 99]⟩ (HH.out.low b10 (by omega)) (HK.out.low b10 hsz) (by omega) (by decide)).mono ?_
  rintro e w11 ⟨rfl, k11⟩
  have b11 := Sm.low_low b10 (Nat.le_refl _) k11
  have heq := HEQ.out w11
  go_wp2
  go_ret
  exact ⟨rfl, b11⟩
end Go.Proofs.YtfnnoennmlnjeaaDoor
