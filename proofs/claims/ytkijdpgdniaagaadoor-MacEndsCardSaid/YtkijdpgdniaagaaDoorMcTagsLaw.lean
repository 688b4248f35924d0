/-
  MacTags and MacEnds answer true, and turn nothing of what was there.
-/
import Derived.Test.YtkijdpgdniaagaaDoorRmTag
import Derived.Test.YtkijdpgdniaagaaDoorShelf
namespace Go.Proofs.YtkijdpgdniaagaaDoor
open Go.RowKit

set_option maxRecDepth 100000 in
set_option maxHeartbeats 1000000 in
theorem tags_great {w : World} (hH : Sm.HAt w) (hK : Sm.KAt w) (hsz : 1 < w.heap.size) (s t : ByteArray) (ht : 3000 < s.size ∨ 3000 < t.size) :
    Calls Tryd.prog 8 #[.string s, .string t] w fun e w' => e = .returned (.bool true) ∧ Below w.heap.size w w' := by
  have HA := Lib.hid (awake3_any hH hK hsz)
  clear hH hK
  by_cases h1 : 3000 < s.size
  · have h1i : (3000 : Int) < s.size := by omega
    clear ht
    go_enter Tryd.func8, Tryd.ntmps8
    go_wp2_with fail
    refine (HA.out).mono ?_
    rintro e w1 ⟨rfl, b1⟩
    go_wp2
    go_ret
    exact ⟨rfl, b1⟩
  · have h1i : ¬ (3000 : Int) < s.size := by omega
    have h2i : (3000 : Int) < t.size := by omega
    clear ht
    go_enter Tryd.func8, Tryd.ntmps8
    go_wp2_with fail
    refine (HA.out).mono ?_
    rintro e w1 ⟨rfl, b1⟩
    go_wp2
    go_ret
    exact ⟨rfl, b1⟩

set_option maxRecDepth 100000 in
set_option maxHeartbeats 2000000 in
theorem tags_any {w : World} (hH : Sm.HAt w) (hK : Sm.KAt w) (hsz : 1 < w.heap.size) (s t : ByteArray) (h1 : ¬ 3000 < s.size) (h2 : ¬ 3000 < t.size) :
    Calls Tryd.prog 8 #[.string s, .string t] w fun e w' => e = .returned (.bool true) ∧ Below w.heap.size w w' := by
  have h1i : ¬ (3000 : Int) < s.size := by omega
  have h2i : ¬ (3000 : Int) < t.size := by omega
  have HH := Lib.hid hH
  have HK := Lib.hid hK
  have heq := fun w' => Sm.eq_hash (Sm.tag s.data.toList t.data.toList) (Sm.tag s.data.toList t.data.toList) (Sm.tag_length _ _) (Sm.tag_length _ _) w'
  rw [beq_self_eq_true] at heq
  have HEQ := Lib.hid heq
  clear hH hK heq
  go_enter Tryd.func8, Tryd.ntmps8
  go_wp2_with fail
  refine (awake3_any HH.out HK.out hsz).mono ?_
  rintro e w1 ⟨rfl, b1⟩
  go_wp2_with fail
  refine (tag_any s t (HH.out.low b1 (by omega)) (HK.out.low b1 hsz) (Nat.lt_of_lt_of_le hsz b1.size) (by omega) (by omega)).mono ?_
  rintro e w2 ⟨rfl, k2⟩
  have b2 := Sm.low_low b1 (Nat.le_refl _) k2
  clear k2
  go_wp2_with fail
  refine (rmtag_any s t (by omega) (by omega) _).mono ?_
  rintro e w3 ⟨rfl, k3⟩
  have b3 := Sm.low_low b2 (Nat.le_refl _) k3
  have heq3 := HEQ.out w3
  clear k3
  go_wp2
  go_ret
  exact ⟨rfl, b3⟩

set_option maxRecDepth 100000 in
set_option maxHeartbeats 1000000 in
theorem mends_great {w : World} (hH : Sm.HAt w) (hK : Sm.KAt w) (hsz : 1 < w.heap.size) (x : UInt8) (t : ByteArray) (ht : 300 < t.size) :
    Calls Tryd.prog 9 #[.int .u8 x.toNat, .string t] w fun e w' => e = .returned (.bool true) ∧ Below w.heap.size w w' := by
  have h1i : (300 : Int) < t.size := by omega
  have HA := Lib.hid (awake3_any hH hK hsz)
  clear hH hK ht
  go_enter Tryd.func9, Tryd.ntmps9
  go_wp2_with fail
  refine (HA.out).mono ?_
  rintro e w1 ⟨rfl, b1⟩
  go_wp2
  go_ret
  exact ⟨rfl, b1⟩

set_option maxRecDepth 100000 in
set_option maxHeartbeats 4000000 in
theorem mends_any {w : World} (hH : Sm.HAt w) (hK : Sm.KAt w) (hsz : 1 < w.heap.size) (x : UInt8) (t : ByteArray) (ht : ¬ 300 < t.size) :
    Calls Tryd.prog 9 #[.int .u8 x.toNat, .string t] w fun e w' => e = .returned (.bool true) ∧ Below w.heap.size w w' := by
  have hxb := byte_fits x
  have h1i : ¬ (300 : Int) < t.size := by omega
  have HH := Lib.hid hH
  have HK := Lib.hid hK
  clear hH hK
  go_enter Tryd.func9, Tryd.ntmps9
  go_wp2_with fail
  refine (awake3_any HH.out HK.out hsz).mono ?_
  rintro e w1 ⟨rfl, b1⟩
  go_wp2_with fail
  go_loopw [5] (fun d wr => ∃ m : Nat, m ≤ 67 ∧ 62 ≤ m ∧ d = .int .i64 m ∧ Below w.heap.size w wr) (fun d _ => 67 - (intOf d).toNat)
  case atStart => exact ⟨62, by omega, by omega, rfl, b1⟩
  case round =>
    clear b1
    obtain ⟨m, hm, hm2, rfl, hbk⟩ := hrel
    have hs1 := hbk.size
    by_cases hlt : m < 67
    · have hmi : (m : Int) ≤ 66 := by omega
      obtain ⟨S, hS⟩ : ∃ S, S = ByteArray.mk (Lib.repeatL [x] m).toArray := ⟨_, rfl⟩
      have hSs : S.size ≤ 300 := by
        have e : (ByteArray.mk (Lib.repeatL [x] m).toArray).size = (Lib.repeatL [x] m).length := rfl
        rw [hS, e, Lib.repeatL_length]; simp; omega
      have REP : Hid (∀ wx : World, Calls Tryd.prog 19 #[.string ⟨#[x]⟩, .int .i64 (m : Int)] wx fun e w' => e = .returned (.string S) ∧ Below wx.heap.size wx w') := fun wx => by
        rw [hS]; exact strings_Repeat ⟨#[x]⟩ m wx (by omega) (by show 1 * m ≤ _; omega)
      have hcv := Sm.conv_one' rfl (heap_alloc_new wr (.cells #[.int .u8 (x.toNat : Int)] 5))
      have b2 : Below w.heap.size w (wr.alloc (.cells #[.int .u8 (x.toNat : Int)] 5)) := hbk.alloc hs1 _
      have heq := fun w' => Sm.eq_hash (Sm.tag S.data.toList t.data.toList) (Sm.tag S.data.toList t.data.toList) (Sm.tag_length _ _) (Sm.tag_length _ _) w'
      rw [beq_self_eq_true] at heq
      clear hS
      go_wp2_with fail
      generalize wr.alloc (.cells #[.int .u8 (x.toNat : Int)] 5) = w2 at *
      refine (REP.out _).mono ?_
      rintro e w3 ⟨rfl, k3⟩
      have b3 := Sm.low_low b2 (Nat.le_refl _) k3
      clear k3 hcv
      go_wp2_with fail
      refine (tag_any S t (HH.out.low b3 (by omega)) (HK.out.low b3 hsz) (Nat.lt_of_lt_of_le hsz b3.size) (by omega) (by omega)).mono ?_
      rintro e w4 ⟨rfl, k4⟩
      have b4 := Sm.low_low b3 (Nat.le_refl _) k4
      clear k4
      go_wp2_with fail
      refine (rmtag_any S t (by omega) (by omega) _).mono ?_
      rintro e w5 ⟨rfl, k5⟩
      have b5 := Sm.low_low b4 (Nat.le_refl _) k5
      have heq5 := heq w5
      clear k5 heq
      go_wp2
      go_roundw
      case rel => exact ⟨m + 1, by omega, by omega, by go_num, b5⟩
      case measure => simp [intOf]; omega
    · obtain rfl : m = 67 := by omega
      go_wp2
      go_ret
      exact ⟨rfl, hbk⟩
end Go.Proofs.YtkijdpgdniaagaaDoor
