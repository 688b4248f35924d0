/-
  DiskSums: sums, closed sectors, and what a sector is, are the document's.
-/
import Derived.Test.YtleknlkbaeognaaDkRLook
namespace Go.Proofs.Ytleknlkbaeognaa
open Go.RowKit
theorem Dk.sum_nine : Dk.sum [49, 50, 51, 52, 53, 54, 55, 56, 57] = 3421780262 := by decide +kernel
set_option maxRecDepth 100000 in
set_option maxHeartbeats 1500000 in
theorem disksums_any (W : World) (a b : ByteArray) : Calls Try.prog 10 #[.string a, .string b] W fun e w' => e = .returned (.bool true) ∧ Below W.heap.size W w' := by
  have AW := Lib.hid (awake7_any W)
  by_cases ga : 3000 < a.size
  · have gi : (3000 : Int) < (a.size : Int) := by omega
    go_enter Try.func10, Try.ntmps10
    go_wp2_with fail
    refine AW.out.mono ?_
    rintro e w1 ⟨rfl, b1⟩
    go_wp2_with fail
    go_ret
    exact ⟨rfl, b1⟩
  have gi : ¬ (3000 : Int) < (a.size : Int) := by omega
  by_cases gb : 3000 < b.size
  · have gj : (3000 : Int) < (b.size : Int) := by omega
    go_enter Try.func10, Try.ntmps10
    go_wp2_with fail
    refine AW.out.mono ?_
    rintro e w1 ⟨rfl, b1⟩
    go_wp2_with fail
    go_ret
    exact ⟨rfl, b1⟩
  have gj : ¬ (3000 : Int) < (b.size : Int) := by omega
  obtain ⟨S, hS⟩ : ∃ S, S = Dk.sum a.data.toList := ⟨_, rfl⟩
  have SU : Hid (∀ wx, Calls Try.prog 36 #[.string a] wx fun e w' => e = .returned (.int .u32 (S : Nat)) ∧ wx = w') := fun wx => by rw [hS]; exact dkSum_any wx a (by omega)
  have SR : Hid (∀ wx, Calls Try.prog 37 #[.string a] wx fun e w' => e = .returned (.int .u32 (S : Nat)) ∧ wx = w') := fun wx => by rw [hS]; exact r7Sum_any wx a (by omega)
  have SN : Hid (∀ wx, Calls Try.prog 36 #[.string ⟨#[49, 50, 51, 52, 53, 54, 55, 56, 57]⟩] wx fun e w' => e = .returned (.int .u32 3421780262) ∧ wx = w') := fun wx => by
    have h := dkSum_any wx ⟨#[49, 50, 51, 52, 53, 54, 55, 56, 57]⟩ (by decide)
    rw [show Dk.sum (⟨#[49, 50, 51, 52, 53, 54, 55, 56, 57]⟩ : ByteArray).data.toList = 3421780262 from Dk.sum_nine] at h
    exact h
  clear hS
  obtain ⟨x, hx⟩ : ∃ x : ByteArray, x = ⟨(Dk.lookOf b.data.toList).1.toArray⟩ := ⟨_, rfl⟩
  obtain ⟨p, hp⟩ : ∃ p : Int, p = (Dk.lookOf b.data.toList).2 := ⟨_, rfl⟩
  have LO : Hid (∀ wx, Calls Try.prog 34 #[.string b] wx fun e w' => e = .returned (.tuple #[.string x, .int .i64 p]) ∧ Below wx.heap.size wx w') := fun wx => by rw [hx, hp]; exact dkLook_any wx b
  have LR : Hid (∀ wx, Calls Try.prog 35 #[.string b] wx fun e w' => e = .returned (.tuple #[.string x, .int .i64 p]) ∧ Below wx.heap.size wx w') := fun wx => by rw [hx, hp]; exact r7Look_any wx b
  clear hx hp
  by_cases h60 : a.size = 60
  · have hi : (a.size : Int) = 60 := by omega
    obtain ⟨c, hc⟩ : ∃ c : ByteArray, c = ⟨(Dk.closed a.data.toList).toArray⟩ := ⟨_, rfl⟩
    have CL : Hid (∀ wx, Calls Try.prog 32 #[.string a] wx fun e w' => e = .returned (.tuple #[.string c, .int .i64 0]) ∧ Below wx.heap.size wx w') := fun wx => by rw [hc]; exact dkClose_ok wx a h60
    have CR : Hid (∀ wx, Calls Try.prog 33 #[.string a] wx fun e w' => e = .returned (.string c) ∧ Below wx.heap.size wx w') := fun wx => by rw [hc]; exact r7Close_any wx a (by omega)
    clear hc
    go_enter Try.func10, Try.ntmps10
    go_wp2_with fail
    refine AW.out.mono ?_
    rintro e w1 ⟨rfl, b1⟩
    go_wp2_with fail
    refine (CL.out _).mono ?_
    rintro e w2 ⟨rfl, k⟩
    have b2 := b1.trans (k.mono b1.size)
    clear k b1
    go_wp2_with fail
    refine (CR.out _).mono ?_
    rintro e w3 ⟨rfl, k⟩
    have b3 := b2.trans (k.mono b2.size)
    clear k b2
    go_wp2_with fail
    refine (LO.out _).mono ?_
    rintro e w4 ⟨rfl, k⟩
    have b4 := b3.trans (k.mono b3.size)
    clear k b3
    go_wp2_with fail
    refine (LR.out _).mono ?_
    rintro e w5 ⟨rfl, k⟩
    have b5 := b4.trans (k.mono b4.size)
    clear k b4
    go_wp2_with fail
    refine (SU.out _).mono ?_
    rintro e w' ⟨rfl, rfl⟩
    go_wp2_with fail
    refine (SR.out _).mono ?_
    rintro e w' ⟨rfl, rfl⟩
    go_wp2_with fail
    refine (SN.out _).mono ?_
    rintro e w' ⟨rfl, rfl⟩
    go_wp2_with fail
    go_ret
    exact ⟨by simp, b5⟩
  · have hi : ¬ (a.size : Int) = 60 := by omega
    have CL : Hid (∀ wx, Calls Try.prog 32 #[.string a] wx fun e w' => e = .returned (.tuple #[.string ⟨#[]⟩, .int .i64 1]) ∧ wx = w') := fun wx => dkClose_bad wx a h60
    go_enter Try.func10, Try.ntmps10
    go_wp2_with fail
    refine AW.out.mono ?_
    rintro e w1 ⟨rfl, b1⟩
    go_wp2_with fail
    refine (CL.out _).mono ?_
    rintro e w' ⟨rfl, rfl⟩
    go_wp2_with fail
    refine (LO.out _).mono ?_
    rintro e w2 ⟨rfl, k⟩
    have b2 := b1.trans (k.mono b1.size)
    clear k b1
    go_wp2_with fail
    refine (LR.out _).mono ?_
    rintro e w3 ⟨rfl, k⟩
    have b3 := b2.trans (k.mono b2.size)
    clear k b2
    go_wp2_with fail
    refine (SU.out _).mono ?_
    rintro e w' ⟨rfl, rfl⟩
    go_wp2_with fail
    refine (SR.out _).mono ?_
    rintro e w' ⟨rfl, rfl⟩
    go_wp2_with fail
    refine (SN.out _).mono ?_
    rintro e w' ⟨rfl, rfl⟩
    go_wp2_with fail
    go_ret
    exact ⟨by simp, b3⟩
end Go.Proofs.Ytleknlkbaeognaa
