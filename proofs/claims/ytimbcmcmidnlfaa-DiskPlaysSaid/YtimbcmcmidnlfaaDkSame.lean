/-
  Two disks beside one another that are the same tell the same; four disks beside one another.
-/
import Derived.Test.YtimbcmcmidnlfaaDkSyncLaw
namespace Go.Proofs.Ytimbcmcmidnlfaa
open Go.RowKit
namespace Dk
theorem ints_five {w : World} : IntsAt (w.alloc (.cells #[.int .i64 (-1), .int .i64 (-1), .int .i64 (-1), .int .i64 (-1), .int .i64 (-1)] 3)) (.slice (some ⟨w.heap.size, 0, none⟩) 5 5) [-1, -1, -1, -1, -1] := by
  refine ⟨some ⟨w.heap.size, 0, none⟩, 5, rfl, by simp, fun i => ?_, .inr ⟨w.heap.size, 0, rfl, by simp, fun i hi => ?_⟩⟩
  · match i with
    | 0 | 1 | 2 | 3 | 4 => simp
    | i + 5 => simp
  · have hc := Sm.cells_of (heap_alloc_new w (.cells #[.int .i64 (-1), .int .i64 (-1), .int .i64 (-1), .int .i64 (-1), .int .i64 (-1)] 3)) i
    simp at hi
    match i, hi with
    | 0, _ | 1, _ | 2, _ | 3, _ | 4, _ => exact hc _ rfl
/-- Two disks beside one another. -/
structure Two (B : Nat) (w0 w : World) (r1 r2 : Nat) (f1 f2 : Nat → Prop) (M1 M2 : Md) : Prop where
  one : Own B w0 w r1 f1 M1
  two : Own B w0 w r2 f2 M2
  apart : ∀ k, f1 k → ¬ f2 k
theorem Two.low {B : Nat} {w0 w w' : World} {r1 r2 : Nat} {f1 f2 : Nat → Prop} {M1 M2 : Md} (h : Two B w0 w r1 r2 f1 f2 M1 M2) (k : Below w.heap.size w w') : Two B w0 w' r1 r2 f1 f2 M1 M2 := ⟨h.one.low k, h.two.low k, h.apart⟩
theorem Two.step {B : Nat} {w0 w w' : World} {r1 r2 : Nat} {f1 f1' f2 : Nat → Prop} {M1 M1' M2 : Md} (h : Two B w0 w r1 r2 f1 f2 M1 M2) (s : Step B w0 w w' r1 f1 f1' M1') : Two B w0 w' r1 r2 f1' f2 M1' M2 := by
  obtain ⟨h2, ha⟩ := h.two.beside s h.apart
  exact ⟨s.own, h2, ha⟩
theorem Two.swap {B : Nat} {w0 w : World} {r1 r2 : Nat} {f1 f2 : Nat → Prop} {M1 M2 : Md} (h : Two B w0 w r1 r2 f1 f2 M1 M2) : Two B w0 w r2 r1 f2 f1 M2 M1 := ⟨h.two, h.one, fun k h1 h2 => h.apart k h2 h1⟩
/-- Four disks beside one another. -/
structure Four (B : Nat) (w0 w : World) (r1 r2 r3 r4 : Nat) (f1 f2 f3 f4 : Nat → Prop) (M1 M2 M3 M4 : Md) : Prop where
  o1 : Own B w0 w r1 f1 M1
  o2 : Own B w0 w r2 f2 M2
  o3 : Own B w0 w r3 f3 M3
  o4 : Own B w0 w r4 f4 M4
  d12 : ∀ k, f1 k → ¬ f2 k
  d13 : ∀ k, f1 k → ¬ f3 k
  d14 : ∀ k, f1 k → ¬ f4 k
  d23 : ∀ k, f2 k → ¬ f3 k
  d24 : ∀ k, f2 k → ¬ f4 k
  d34 : ∀ k, f3 k → ¬ f4 k
section
variable {B : Nat} {w0 w w' : World} {r1 r2 r3 r4 : Nat} {f1 f1' f2 f3 f4 : Nat → Prop} {M1 M1' M2 M3 M4 : Md}
theorem Four.step (h : Four B w0 w r1 r2 r3 r4 f1 f2 f3 f4 M1 M2 M3 M4) (s : Step B w0 w w' r1 f1 f1' M1') : Four B w0 w' r1 r2 r3 r4 f1' f2 f3 f4 M1' M2 M3 M4 := by
  obtain ⟨h2, a2⟩ := h.o2.beside s h.d12
  obtain ⟨h3, a3⟩ := h.o3.beside s h.d13
  obtain ⟨h4, a4⟩ := h.o4.beside s h.d14
  exact ⟨s.own, h2, h3, h4, a2, a3, a4, h.d23, h.d24, h.d34⟩
theorem Four.low (h : Four B w0 w r1 r2 r3 r4 f1 f2 f3 f4 M1 M2 M3 M4) (k : Below w.heap.size w w') : Four B w0 w' r1 r2 r3 r4 f1 f2 f3 f4 M1 M2 M3 M4 :=
  ⟨h.o1.low k, h.o2.low k, h.o3.low k, h.o4.low k, h.d12, h.d13, h.d14, h.d23, h.d24, h.d34⟩
theorem Four.swap (h : Four B w0 w r1 r2 r3 r4 f1 f2 f3 f4 M1 M2 M3 M4) : Four B w0 w r2 r1 r3 r4 f2 f1 f3 f4 M2 M1 M3 M4 :=
  ⟨h.o2, h.o1, h.o3, h.o4, fun k a b => h.d12 k b a, h.d23, h.d24, h.d13, h.d14, h.d34⟩
theorem Four.turn (h : Four B w0 w r1 r2 r3 r4 f1 f2 f3 f4 M1 M2 M3 M4) : Four B w0 w r3 r4 r1 r2 f3 f4 f1 f2 M3 M4 M1 M2 :=
  ⟨h.o3, h.o4, h.o1, h.o2, h.d34, fun k a b => h.d13 k b a, fun k a b => h.d23 k b a, fun k a b => h.d14 k b a, fun k a b => h.d24 k b a, h.d12⟩
end
end Dk
end Go.Proofs.Ytimbcmcmidnlfaa
