/-
  A sector of one byte; the wake that each statement on disks asks is met.
-/
import Derived.Test.YtimbcmcmidnlfaaDkIn
import Derived.Test.YtimbcmcmidnlfaaShelf
namespace Go.Proofs.Ytimbcmcmidnlfaa
open Go.RowKit
namespace Dk
def full (b : UInt8) : List UInt8 := List.replicate 64 b
theorem repeat_full (b : UInt8) : Lib.repeatL [b] 64 = full b := by
  simp [Lib.repeatL, full]
theorem wake1 : (write (new 2) 0 (full 1)).2 = 0 := by decide +kernel
theorem wake2 : (sync (write (new 2) 0 (full 1)).1).2 = 0 := by decide +kernel
theorem wake3 : readOf (crash (sync (write (new 2) 0 (full 1)).1).1 []) 0 = (full 1, 0) := by decide +kernel
theorem wake4 : readOf (crash (write (new 2) 0 (full 1)).1 []) 0 = (full 0, 0) := by decide +kernel
end Dk
set_option maxRecDepth 100000 in
theorem full7_any (w : World) (b : UInt8) : Calls Try.prog 42 #[.int .u8 b.toNat] w fun e w' => e = .returned (.string ⟨(Dk.full b).toArray⟩) ∧ Below w.heap.size w w' := by
  have REP : Hid (∀ wx : World, Calls Try.prog 65 #[.string ⟨#[b]⟩, .int .i64 64] wx fun e w' => e = .returned (.string ⟨(Dk.full b).toArray⟩) ∧ Below wx.heap.size wx w') := fun wx => by
    rw [← Dk.repeat_full]; exact strings_Repeat ⟨#[b]⟩ 64 wx (by decide) (by show 1 * 64 ≤ _; decide)
  have hcv := Sm.conv_row (l := [b]) (n := 1) (heap_alloc_new w (.cells #[.int .u8 (b.toNat : Int)] 5)) rfl
  have b1 : Below w.heap.size w (w.alloc (.cells #[.int .u8 (b.toNat : Int)] 5)) := (Below.refl _ w).alloc (Nat.le_refl _) _
  go_enter Try.func42, Try.ntmps42
  go_wp2_with fail
  generalize w.alloc (.cells #[.int .u8 (b.toNat : Int)] 5) = w1 at *
  refine (REP.out _).mono ?_
  rintro e w2 ⟨rfl, k2⟩
  have b2 := b1.trans (k2.mono b1.size)
  clear k2 hcv
  go_wp2_with fail
  go_ret
  exact ⟨rfl, b2⟩
set_option maxRecDepth 100000 in
set_option maxHeartbeats 2000000 in
theorem awake7_any (w : World) : Calls Try.prog 25 #[] w fun e w' => e = .returned (.bool true) ∧ Below w.heap.size w w' := by
  have FU1 : Hid (∀ wx : World, Calls Try.prog 42 #[.int .u8 1] wx fun e w' => e = .returned (.string ⟨(Dk.full 1).toArray⟩) ∧ Below wx.heap.size wx w') := fun wx => full7_any wx 1
  have FU0 : Hid (∀ wx : World, Calls Try.prog 42 #[.int .u8 0] wx fun e w' => e = .returned (.string ⟨(Dk.full 0).toArray⟩) ∧ Below wx.heap.size wx w') := fun wx => full7_any wx 0
  obtain ⟨s1, hs1⟩ : ∃ s : ByteArray, s = ⟨(Dk.full 1).toArray⟩ := ⟨_, rfl⟩
  obtain ⟨s0, hs0⟩ : ∃ s : ByteArray, s = ⟨(Dk.full 0).toArray⟩ := ⟨_, rfl⟩
  obtain ⟨M3, hM3⟩ : ∃ M, M = (Dk.write (Dk.new 2) 0 (Dk.full 1)).1 := ⟨_, rfl⟩
  have hw3 : Dk.waits M3 ≤ 1 := by rw [hM3]; have := Dk.waits_write (Dk.new 2) 0 (Dk.full 1); rw [Dk.waits_new] at this; exact this
  have k2 := Dk.wake2
  have k3 := Dk.wake3
  have k4 := Dk.wake4
  rw [← hM3] at k2 k3 k4
  have hs1d : s1.data.toList = Dk.full 1 := by rw [hs1]
  rw [← hs1] at FU1
  rw [← hs0] at FU0
  have K2 := Lib.hid k2
  have K3 := Lib.hid k3
  have K4 := Lib.hid k4
  have HM3 := Lib.hid hM3
  have HS1 := Lib.hid hs1
  have HS0 := Lib.hid hs0
  have HD := Lib.hid hs1d
  have HW3 := Lib.hid hw3
  clear k2 k3 k4 hM3 hs1 hs0 hs1d hw3
  go_enter Try.func25, Try.ntmps25
  go_wp2_with fail
  refine (Dk.new_in (Below.refl w.heap.size w) (Nat.le_refl _) 2 (by omega)).mono ?_
  rintro e w1 ⟨r, fp, rfl, o1, -, -⟩
  go_wp2_with fail
  refine (FU1.out _).mono ?_
  rintro e w2 ⟨rfl, b2⟩
  have o2 := o1.low b2
  clear o1 b2
  go_wp2_with fail
  refine (Dk.write_in o2 (by rw [Dk.waits_new]; omega) 0 s1).mono ?_
  rintro e w3 ⟨fp3, rfl, st3⟩
  rw [HD.out, Dk.wake1, ← HM3.out] at *
  have o3 := st3.own
  clear o2 st3
  go_wp2_with fail
  refine (Dk.twin_in o3 (by have := HW3.out; omega)).mono ?_
  rintro e w4 ⟨r2, fp4, rfl, t4, o4, -, ap4, -⟩
  clear o3
  go_wp2_with fail
  refine (Dk.crash_in t4 (by have := HW3.out; omega) (Dk.IntsAt.nil _) (Dk.Off.nil _)).mono ?_
  rintro e w5 ⟨fp5, rfl, st5⟩
  obtain ⟨o5, ap5⟩ := o4.beside st5 (fun k h1 h2 => ap4 k h2 h1)
  have t5 := st5.own
  clear t4 o4 st5 ap4
  go_wp2_with fail
  refine (Dk.sync_in o5).mono ?_
  rintro e w6 ⟨fp6, rfl, st6⟩
  rw [K2.out] at *
  obtain ⟨t6, ap6⟩ := t5.beside st6 (fun k h1 h2 => ap5 k h2 h1)
  have o6 := st6.own
  clear o5 t5 st6 ap5
  go_wp2_with fail
  refine (Dk.crash_in o6 (by have := Dk.waits_sync M3; have := HW3.out; omega) (Dk.IntsAt.nil _) (Dk.Off.nil _)).mono ?_
  rintro e w7 ⟨fp7, rfl, st7⟩
  obtain ⟨t7, ap7⟩ := t6.beside st7 ap6
  have o7 := st7.own
  clear o6 t6 st7 ap6 ap7
  go_wp2_with fail
  refine (Dk.read_in o7 0).mono ?_
  rintro e w8 ⟨rfl, o8, b8⟩
  rw [K3.out, ← HS1.out]
  have t8 := t7.low b8
  clear o7 t7 b8 o8
  go_wp2_with fail
  refine (Dk.read_in t8 0).mono ?_
  rintro e w9 ⟨rfl, t9, b9⟩
  rw [K4.out, ← HS0.out]
  have b9 := t9.below
  clear t8 t9
  go_wp2_with fail
  refine (FU1.out _).mono ?_
  rintro e w10 ⟨rfl, k10⟩
  have b10 := b9.trans (k10.mono b9.size)
  clear k10 b9
  go_wp2_with fail
  refine (FU0.out _).mono ?_
  rintro e w11 ⟨rfl, k11⟩
  have b11 := b10.trans (k11.mono b10.size)
  clear k11 b10
  go_wp2_with fail
  go_ret
  exact ⟨by simp, b11⟩
end Go.Proofs.Ytimbcmcmidnlfaa
