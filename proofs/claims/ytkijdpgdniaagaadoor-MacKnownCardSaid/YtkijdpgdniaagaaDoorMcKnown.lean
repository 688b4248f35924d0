/-
  MacKnown answers true, and turns nothing of what was there.
-/
import Derived.Test.YtkijdpgdniaagaaDoorMcAwake
import Derived.Test.YtkijdpgdniaagaaDoorShelf
namespace Go.Proofs.YtkijdpgdniaagaaDoor
open Go.RowKit
namespace Sm
theorem rep_data (s : ByteArray) (c : Nat) : (ByteArray.mk (Lib.repeatL s.data.toList c).toArray).data.toList = Lib.repeatL s.data.toList c := rfl
theorem tag_known1 : digits (tag (Lib.repeatL [11] 20) [72, 105, 32, 84, 104, 101, 114, 101]) = [98, 48, 51, 52, 52, 99, 54, 49, 100, 56, 100, 98, 51, 56, 53, 51, 53, 99, 97, 56, 97, 102, 99, 101, 97, 102, 48, 98, 102, 49, 50, 98, 56, 56, 49, 100, 99, 50, 48, 48, 99, 57, 56, 51, 51, 100, 97, 55, 50, 54, 101, 57, 51, 55, 54, 99, 50, 101, 51, 50, 99, 102, 102, 55] := by decide +kernel
theorem tag_known2 : digits (tag (Lib.repeatL [170] 131) [84, 101, 115, 116, 32, 85, 115, 105, 110, 103, 32, 76, 97, 114, 103, 101, 114, 32, 84, 104, 97, 110, 32, 66, 108, 111, 99, 107, 45, 83, 105, 122, 101, 32, 75, 101, 121, 32, 45, 32, 72, 97, 115, 104, 32, 75, 101, 121, 32, 70, 105, 114, 115, 116]) = [54, 48, 101, 52, 51, 49, 53, 57, 49, 101, 101, 48, 98, 54, 55, 102, 48, 100, 56, 97, 50, 54, 97, 97, 99, 98, 102, 53, 98, 55, 55, 102, 56, 101, 48, 98, 99, 54, 50, 49, 51, 55, 50, 56, 99, 53, 49, 52, 48, 53, 52, 54, 48, 52, 48, 102, 48, 101, 101, 51, 55, 102, 53, 52] := by decide +kernel
end Sm

set_option maxRecDepth 100000 in
set_option maxHeartbeats 2000000 in
theorem macknown_any {w : World} (hH : Sm.HAt w) (hK : Sm.KAt w) (hsz : 1 < w.heap.size) :
    Calls Tryd.prog 7 #[] w fun e w' => e = .returned (.bool true) ∧ Below w.heap.size w w' := by
  have HH := Lib.hid hH
  have HK := Lib.hid hK
  have hD1 := fun w' => digits_any (Sm.tag (Lib.repeatL [11] 20) [72, 105, 32, 84, 104, 101, 114, 101]) (Sm.tag_length _ _) w'
  rw [Sm.tag_known1] at hD1
  have HD1 := Lib.hid hD1
  have hD2 := fun w' => digits_any (Sm.tag (Lib.repeatL [170] 131) [84, 101, 115, 116, 32, 85, 115, 105, 110, 103, 32, 76, 97, 114, 103, 101, 114, 32, 84, 104, 97, 110, 32, 66, 108, 111, 99, 107, 45, 83, 105, 122, 101, 32, 75, 101, 121, 32, 45, 32, 72, 97, 115, 104, 32, 75, 101, 121, 32, 70, 105, 114, 115, 116]) (Sm.tag_length _ _) w'
  rw [Sm.tag_known2] at hD2
  have HD2 := Lib.hid hD2
  clear hH hK hD1 hD2
  go_enter Tryd.func7, Tryd.ntmps7
  go_wp2_with fail
  refine (strings_Repeat ⟨#[11]⟩ 20 w (by decide) (by decide)).mono ?_
  rintro e w1 ⟨rfl, b1⟩
  have s1 := b1.size
  go_wp2_with fail
  refine (tag_any ⟨(Lib.repeatL [11] 20).toArray⟩ ⟨#[72, 105, 32, 84, 104, 101, 114, 101]⟩ (HH.out.low b1 (by omega)) (HK.out.low b1 hsz) (by omega) (by decide) (by decide)).mono ?_
  rintro e w2 ⟨rfl, k2⟩
  have b2 := Sm.low_low b1 (Nat.le_refl _) k2
  have s2 := k2.size
  clear k2
  go_wp2_with fail
  refine (HD1.out _).mono ?_
  rintro e w3 ⟨rfl, k3⟩
  have b3 := Sm.low_low b2 (Nat.le_refl _) k3
  have s3 := k3.size
  clear k3
  go_wp2_with fail
  refine (strings_Repeat ⟨#[170]⟩ 131 _ (by decide) (by decide)).mono ?_
  rintro e w4 ⟨rfl, k4⟩
  have b4 := Sm.low_low b3 (Nat.le_refl _) k4
  have s4 := k4.size
  clear k4
  go_wp2_with fail
  refine (tag_any ⟨(Lib.repeatL [170] 131).toArray⟩ ⟨#[84, 101, 115, 116, 32, 85, 115, 105, 110, 103, 32, 76, 97, 114, 103, 101, 114, 32, 84, 104, 97, 110, 32, 66, 108, 111, 99, 107, 45, 83, 105, 122, 101, 32, 75, 101, 121, 32, 45, 32, 72, 97, 115, 104, 32, 75, 101, 121, 32, 70, 105, 114, 115, 116]⟩ (HH.out.low b4 (by omega)) (HK.out.low b4 hsz) (by omega) (by decide) (by decide)).mono ?_
  rintro e w5 ⟨rfl, k5⟩
  have b5 := Sm.low_low b4 (Nat.le_refl _) k5
  have s5 := k5.size
  clear k5
  go_wp2_with fail
  refine (HD2.out _).mono ?_
  rintro e w6 ⟨rfl, k6⟩
  have b6 := Sm.low_low b5 (Nat.le_refl _) k6
  have s6 := k6.size
  clear k6
  go_wp2_with fail
  refine (awake3_any (HH.out.low b6 (by omega)) (HK.out.low b6 hsz) (by omega)).mono ?_
  rintro e w7 ⟨rfl, k7⟩
  have b7 := Sm.low_low b6 (Nat.le_refl _) k7
  clear k7
  go_wp2
  go_ret
  exact ⟨rfl, b7⟩
end Go.Proofs.YtkijdpgdniaagaaDoor
