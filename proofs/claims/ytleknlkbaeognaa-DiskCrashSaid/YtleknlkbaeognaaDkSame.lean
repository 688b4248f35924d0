/-
  Two disks beside one another that are the same tell the same; four disks beside one another.
-/
import Derived.Test.YtleknlkbaeognaaDkSyncLaw
namespace Go.Proofs.Ytleknlkbaeognaa
open Go.RowKit
namespace Dk
theorem ints_five {w : World} : IntsAt (w.alloc (.cells #[.int .i64 (-1), .int .i64 (-1), .int .i64 (-1), .int .i64 (-1), .int .i64 (-1)] 3)) (.slice (some ⟨w.heap.size, 0, none⟩) 5 5) [-1, -1, -1, -1, -1] := by
  refine ⟨some ⟨w.heap.size, 0, none⟩, 5, rfl, by simp, fun i => ?_, .inr ⟨w.heap.size, 0, rfl, by simp, fun i hi => ?_⟩⟩
  · match i with
    | 0 | 1 | 2 | 3 | 4 => simp
    | i + 5 => simp
  · have hc := Sm.cells_of (heap_alloc_new w (.cells #[.int .i64 (-1), .int .i64 (-1), .int .i64 (-1), .int .i64 (-1), .int .i64 (-1)] 3)) i
    simp at hi
    match i, hi with
    | 0, _ | 1, _ | 2, _ | 3, _ | 4, _ => exact hc _ rfl
/-- Two disks beside one another. -/
structure Two (B : Nat) (w0 w : World) (r1 r2 : Nat) (f1 f2 : Nat → Prop) (M1 M2 : Md) : Prop where
  one : Own B w0 w r1 f1 M1
  two : Own B w0 w r2 f2 M2
  apart : ∀ k, f1 k → ¬ f2 k
theorem Two.low {B : Nat} {w0 w w' : World} {r1 r2 : Nat} {f1 f2 : Nat → Prop} {M1 M2 : Md} (h : Two B w0 w r1 r2 f1 f2 M1 M2) (k : Below w.heap.size w w') : Two B w0 w' r1 r2 f1 f2 M1 M2 := ⟨h.one.low k, h.two.low k, h.apart⟩
theorem Two.step {B : Nat} {w0 w w' : World} {r1 r2 : Nat} {f1 f1' f2 : Nat → Prop} {M1 M1' M2 : Md} (h : Two B w0 w r1 r2 f1 f2 M1 M2) (s : Step B w0 w w' r1 f1 f1' M1') : Two B w0 w' r1 r2 f1' f2 M1' M2 := by
  obtain ⟨h2, ha⟩ := h.two.beside s h.apart
  exact ⟨s.own, h2, ha⟩
theorem Two.swap {B : Nat} {w0 w : World} {r1 r2 : Nat} {f1 f2 : Nat → Prop} {M1 M2 : Md} (h : Two B w0 w r1 r2 f1 f2 M1 M2) : Two B w0 w r2 r1 f2 f1 M2 M1 := ⟨h.two, h.one, fun k h1 h2 => h.apart k h2 h1⟩
/-- Four disks beside one another. -/
structure Four (B : Nat) (w0 w : World) (r1 r2 r3 r4 : Nat) (f1 f2 f3 f4 : Nat → Prop) (M1 M2 M3 M4 : Md) : Prop where
  o1 : Own B w0 w r1 f1 M1
  o2 : Own B w0 w r2 f2 M2
  o3 : Own B w0 w r3 f3 M3
  o4 : Own B w0 w r4 f4 M4
  d12 : ∀ k, f1 k → ¬ f2 k
  d13 : ∀ k, f1 k → ¬ f3 k
  d14 : ∀ k, f1 k → ¬ f4 k
  d23 : ∀ k, f2 k → ¬ f3 k
  d24 : ∀ k, f2 k → ¬ f4 k
  d34 : ∀ k, f3 k → ¬ f4 k
section
variable {B : Nat} {w0 w w' : World} {r1 r2 r3 r4 : Nat} {f1 f1' f2 f3 f4 : Nat → Prop} {M1 M1' M2 M3 M4 : Md}
theorem Four.step (h : Four B w0 w r1 r2 r3 r4 f1 f2 f3 f4 M1 M2 M3 M4) (s : Step B w0 w w' r1 f1 f1' M1') : Four B w0 w' r1 r2 r3 r4 f1' f2 f3 f4 M1' M2 M3 M4 := by
  obtain ⟨h2, a2⟩ := h.o2.beside s h.d12
  obtain ⟨h3, a3⟩ := h.o3.beside s h.d13
  obtain ⟨h4, a4⟩ := h.o4.beside s h.d14
  exact ⟨s.own, h2, h3, h4, a2, a3, a4, h.d23, h.d24, h.d34⟩
theorem Four.low (h : Four B w0 w r1 r2 r3 r4 f1 f2 f3 f4 M1 M2 M3 M4) (k : Below w.heap.size w w') : Four B w0 w' r1 r2 r3 r4 f1 f2 f3 f4 M1 M2 M3 M4 :=
  ⟨h.o1.low k, h.o2.low k, h.o3.low k, h.o4.low k, h.d12, h.d13, h.d14, h.d23, h.d24, h.d34⟩
theorem Four.swap (h : Four B w0 w r1 r2 r3 r4 f1 f2 f3 f4 M1 M2 M3 M4) : Four B w0 w r2 r1 r3 r4 f2 f1 f3 f4 M2 M1 M3 M4 :=
  ⟨h.o2, h.o1, h.o3, h.o4, fun k a b => h.d12 k b a, h.d23, h.d24, h.d13, h.d14, h.d34⟩
theorem Four.turn (h : Four B w0 w r1 r2 r3 r4 f1 f2 f3 f4 M1 M2 M3 M4) : Four B w0 w r3 r4 r1 r2 f3 f4 f1 f2 M3 M4 M1 M2 :=
  ⟨h.o3, h.o4, h.o1, h.o2, h.d34, fun k a b => h.d13 k b a, fun k a b => h.d23 k b a, fun k a b => h.d14 k b a, fun k a b => h.d24 k b a, h.d12⟩
end
end Dk
set_option maxRecDepth 100000 in
set_option maxHeartbeats 2000000 in
theorem same7_any {B : Nat} {w0 w : World} {r1 r2 r3 r4 : Nat} {f1 f2 f3 f4 : Nat → Prop} {M M3 M4 : Dk.Md} (h : Dk.Four B w0 w r1 r2 r3 r4 f1 f2 f3 f4 M M M3 M4) (hw : Dk.waits M ≤ 1099511627776) :
    Calls Try.prog 31 #[.pointer (some ⟨r1, 0, none⟩), .pointer (some ⟨r2, 0, none⟩)] w fun e w' => e = .returned (.bool true) ∧ ∃ f1' f2' M', Dk.Four B w0 w' r1 r2 r3 r4 f1' f2' f3 f4 M' M' M3 M4 := by
  have H := Lib.hid h
  have HW := Lib.hid hw
  clear h hw
  go_enter Try.func31, Try.ntmps31
  go_wp2
  go_loopw [5, 6, 7, 8, 9, 10] (fun s5 _ _ _ _ _ wr => ∃ (k : Nat) (g1 g2 : Nat → Prop) (M' : Dk.Md), s5 = .int .i64 k ∧ k ≤ 2 ∧ Dk.Four B w0 wr r1 r2 r3 r4 g1 g2 f3 f4 M' M' M3 M4 ∧ Dk.waits M' ≤ 1099511627776) (fun s5 _ _ _ _ _ _ => 2 - (intOf s5).toNat)
  case atStart => exact ⟨0, f1, f2, M, rfl, by omega, H.out, HW.out⟩
  case round =>
    obtain ⟨k, g1, g2, M1, rfl, hk, ht, hwt⟩ := hrel
    have HT := Lib.hid ht
    have HWT := Lib.hid hwt
    have hn := ht.o1.disk.ok.n
    clear ht hwt
    by_cases hk2 : k < 2
    · have hki : (k : Int) < 2 := by omega
      have hsuc : IntKind.i64.wrap ((k : Int) + 1) = ((k + 1 : Nat) : Int) := by simp [IntKind.wrap, IntKind.bits, IntKind.signed]; omega
      go_wp2_with fail
      refine (Dk.sectors_in HT.out.o1).mono ?_
      rintro e w' ⟨rfl, rfl⟩
      go_wp2_with fail
      refine (Dk.sectors_in HT.out.o2).mono ?_
      rintro e w' ⟨rfl, rfl⟩
      go_wp2_with fail
      refine (Dk.waits_in HT.out.o1 HWT.out).mono ?_
      rintro e w2 ⟨rfl, -, hb2⟩
      have HT2 := Lib.hid (HT.out.low hb2)
      clear hb2
      go_wp2_with fail
      refine (Dk.waits_in HT2.out.o2 HWT.out).mono ?_
      rintro e w3 ⟨rfl, -, hb3⟩
      have HT3 := Lib.hid (HT2.out.low hb3)
      clear hb3 HT HT2
      go_wp2_with fail
      refine (Dk.down_in HT3.out.o1).mono ?_
      rintro e w' ⟨rfl, rfl⟩
      go_wp2_with fail
      refine (Dk.down_in HT3.out.o2).mono ?_
      rintro e w' ⟨rfl, rfl⟩
      go_wp2_with fail
      go_loopw [6, 7, 8, 9, 10] (fun s6 _ _ _ _ wq => ∃ (i : Nat), s6 = .int .i64 i ∧ i ≤ M1.lasts.length ∧ Dk.Four B w0 wq r1 r2 r3 r4 g1 g2 f3 f4 M1 M1 M3 M4) (fun s6 _ _ _ _ _ => M1.lasts.length - (intOf s6).toNat)
      case atStart => exact ⟨0, rfl, Nat.zero_le _, HT3.out⟩
      case round =>
        clear HT3
        obtain ⟨i, rfl, hi, ht⟩ := hrel
        have HQ := Lib.hid ht
        clear ht
        by_cases hil : i < M1.lasts.length
        · have hii : (i : Int) < (M1.lasts.length : Int) := by omega
          have hsuc2 : IntKind.i64.wrap ((i : Int) + 1) = ((i + 1 : Nat) : Int) := by simp [IntKind.wrap, IntKind.bits, IntKind.signed]; omega
          obtain ⟨sr, hsr⟩ : ∃ s : ByteArray, s = ⟨(Dk.readOf M1 i).1.toArray⟩ := ⟨_, rfl⟩
          have HSR := Lib.hid hsr
          clear hsr
          go_wp2_with fail
          refine (Dk.sectors_in HQ.out.o1).mono ?_
          rintro e w' ⟨rfl, rfl⟩
          go_wp2_with fail
          refine (Dk.read_in HQ.out.o1 i).mono ?_
          rintro e w4 ⟨rfl, -, hb4⟩
          have HQ4 := Lib.hid (HQ.out.low hb4)
          clear hb4
          rw [← HSR.out]
          go_wp2_with fail
          refine (Dk.read_in HQ4.out.o2 i).mono ?_
          rintro e w5 ⟨rfl, -, hb5⟩
          have HQ5 := Lib.hid (HQ4.out.low hb5)
          clear hb5
          rw [← HSR.out]
          go_wp2
          go_roundw
          case rel => exact ⟨i + 1, rfl, hil, HQ5.out⟩
          case measure => simp [intOf]; omega
        · have hii : ¬ (i : Int) < (M1.lasts.length : Int) := by omega
          have hi6 := Dk.ints_five (w := wr)
          have ho6 := Dk.off_new HQ.out.o1 [-1, -1, -1, -1, -1] 5 5
          have HQ6 := Lib.hid (HQ.out.low (w' := wr.alloc (.cells #[.int .i64 (-1), .int .i64 (-1), .int .i64 (-1), .int .i64 (-1), .int .i64 (-1)] 3)) ((Below.refl _ wr).alloc (Nat.le_refl _) _))
          have HI6 := Lib.hid hi6
          have HO6 := Lib.hid ho6
          clear hi6 ho6
          go_wp2_with fail
          refine (Dk.sectors_in HQ.out.o1).mono ?_
          rintro e w' ⟨rfl, rfl⟩
          go_wp2_with fail
          refine (Dk.crash_in HQ6.out.o1 HWT.out HI6.out HO6.out).mono ?_
          rintro e w7 ⟨g1', rfl, st7⟩
          have HQ7 := Lib.hid (HQ6.out.step st7)
          clear st7
          have hi8 := Dk.ints_five (w := w7)
          have ho8 := Dk.off_new HQ7.out.o2 [-1, -1, -1, -1, -1] 5 5
          have HQ8 := Lib.hid (HQ7.out.low (w' := w7.alloc (.cells #[.int .i64 (-1), .int .i64 (-1), .int .i64 (-1), .int .i64 (-1), .int .i64 (-1)] 3)) ((Below.refl _ w7).alloc (Nat.le_refl _) _))
          have HI8 := Lib.hid hi8
          have HO8 := Lib.hid ho8
          clear hi8 ho8
          go_wp2_with fail
          refine (Dk.crash_in HQ8.out.o2 HWT.out HI8.out HO8.out).mono ?_
          rintro e w9 ⟨g2', rfl, st9⟩
          have HQ9 := Lib.hid (HQ8.out.swap.step st9).swap
          clear st9 HQ HQ6 HQ7 HQ8 HI6 HO6 HI8 HO8
          go_wp2
          go_roundw
          case rel => exact ⟨k + 1, g1', g2', _, rfl, hk2, HQ9.out, by rw [Dk.waits_crash]; omega⟩
          case measure => simp [intOf]; omega
    · have hki : ¬ (k : Int) < 2 := by omega
      go_wp2
      go_ret
      exact ⟨rfl, g1, g2, M1, HT.out⟩
end Go.Proofs.Ytleknlkbaeognaa
