/-
  What disk's functions do to a disk of the call's own, beside others.
-/
import Derived.Test.YtipfjccmceaclaaDkOps
namespace Go.Proofs.Ytipfjccmceaclaa
open Go.RowKit
namespace Dk
/-- A disk in block r whose blocks lie in fp, all of them behind B; below B all is as it was in w0. -/
structure Own (B : Nat) (w0 w : World) (r : Nat) (fp : Nat → Prop) (M : Md) : Prop where
  disk : DiskAt w r fp M
  high : ∀ k, fp k → B ≤ k
  base : B ≤ w0.heap.size
  below : Below B w0 w
/-- What an act upon a disk leaves. -/
structure Step (B : Nat) (w0 w w' : World) (r : Nat) (fp fp' : Nat → Prop) (M' : Md) : Prop where
  own : Own B w0 w' r fp' M'
  grown : ∀ k, fp' k → fp k ∨ w.heap.size ≤ k
  turned : Turned fp w w'
section
variable {B : Nat} {w0 w w' : World} {r : Nat} {fp fp' : Nat → Prop} {M M' : Md}
theorem Own.size (h : Own B w0 w r fp M) : B ≤ w.heap.size := Nat.le_trans h.base h.below.size
theorem Own.step (h : Own B w0 w r fp M) (hd : DiskAt w' r (grow fp w w') M') (ht : Turned fp w w') : Step B w0 w w' r fp (grow fp w w') M' :=
  ⟨⟨hd, fun k hk => by
    rcases hk with e | e
    · exact h.high k e
    · have := h.size; omega, h.base, h.below.trans (ht.below h.high h.size)⟩, fun k hk => by
    rcases hk with e | e
    · exact .inl e
    · exact .inr e.1, ht⟩
theorem Own.low (h : Own B w0 w r fp M) (k : Below w.heap.size w w') : Own B w0 w' r fp M :=
  ⟨h.disk.below k (Nat.le_refl _), h.high, h.base, h.below.trans (k.mono h.size)⟩
theorem Own.lt (h : Own B w0 w r fp M) : ∀ k, fp k → k < w.heap.size := h.disk.1
/-- Another disk beside it. -/
theorem Own.beside {r2 : Nat} {fp2 : Nat → Prop} {M2 : Md} (h2 : Own B w0 w r2 fp2 M2) (s : Step B w0 w w' r fp fp' M') (hap : ∀ k, fp k → ¬ fp2 k) : Own B w0 w' r2 fp2 M2 ∧ ∀ k, fp' k → ¬ fp2 k :=
  ⟨⟨h2.disk.keep s.turned (fun k h1 h3 => hap k h3 h1), h2.high, h2.base, s.own.below⟩, fun k hk h3 => by
    rcases s.grown k hk with e | e
    · exact hap k e h3
    · have := h2.lt k h3; omega⟩
theorem Step.refl (h : Own B w0 w r fp M) : Step B w0 w w r fp fp M := ⟨h, fun _ hk => .inl hk, Turned.refl _ _⟩
theorem Step.trans {w1 : World} {fp1 : Nat → Prop} {M1 : Md} (h : Step B w0 w w1 r fp fp1 M1) (k : Step B w0 w1 w' r fp1 fp' M') : Step B w0 w w' r fp fp' M' := by
  have hs := h.turned.size
  refine ⟨k.own, fun i hi => ?_, ?_⟩
  · rcases k.grown i hi with e | e
    · exact h.grown i e
    · exact .inr (by omega)
  · exact ⟨k.turned.os.trans h.turned.os, k.turned.tape.trans h.turned.tape, k.turned.output.trans h.turned.output, Nat.le_trans hs k.turned.size, fun i hi hn =>
      (k.turned.block i (by omega) (fun e => by rcases h.grown i e with e | e; exact hn e; omega)).trans (h.turned.block i hi hn)⟩
theorem Step.low {w1 : World} (h : Step B w0 w w1 r fp fp' M) (k : Below w1.heap.size w1 w') : Step B w0 w w' r fp fp' M :=
  ⟨h.own.low k, h.grown, h.turned.trans (Turned.of_below k (Nat.le_refl _))⟩
/-- A slice of numbers that lay there from the start. -/
theorem Own.off (h : Own B w0 w r fp M) {v : Value} {l : List Int} (hi : IntsAt w0 v l) (hB : B = w0.heap.size) : IntsAt w v l ∧ Off fp v l := by
  refine ⟨hi.below (by rw [← hB]; exact h.below), fun h0 A n c b o e1 e2 e3 => ?_⟩
  obtain ⟨A', c', f1, _, _, f4⟩ := hi
  rcases f4 with f4 | ⟨b', o', f5, f6, _⟩
  · exact h0 f4
  · rw [e1] at f1
    simp only [Value.slice.injEq] at f1
    rw [← f1.1, e2] at f5
    simp only [Option.some.injEq, Addr.mk.injEq] at f5
    have := h.high b e3
    omega
theorem new_in (hbl : Below B w0 w) (hB : B ≤ w0.heap.size) (n : Nat) (hn : 1 ≤ n ∧ n ≤ 4096) :
    Calls Try.prog 10 #[.int .i64 (n : Int)] w fun e w' => ∃ r fp, e = .returned (.tuple #[.pointer (some ⟨r, 0, none⟩), .int .i64 0]) ∧ Own B w0 w' r fp (new n) ∧ (∀ k, fp k → w.heap.size ≤ k) ∧ Below w.heap.size w w' := by
  refine (dkNew_any w n hn).mono ?_
  rintro e w' ⟨r, rfl, hr, hd, hb⟩
  have := hbl.size
  exact ⟨r, _, rfl, ⟨hd, fun k hk => by have := hk.1; omega, hB, hbl.trans (hb.mono (by omega))⟩, fun k hk => hk.1, hb⟩
theorem write_in (h : Own B w0 w r fp M) (hr : waits M ≤ 1099511627776) (i : Int) (s : ByteArray) :
    Calls Try.prog 24 #[.pointer (some ⟨r, 0, none⟩), .int .i64 i, .string s] w fun e w' => ∃ fp', e = .returned (.int .i64 (write M i s.data.toList).2) ∧ Step B w0 w w' r fp fp' (write M i s.data.toList).1 := by
  refine (write_at h.disk hr i s).mono ?_
  rintro e w' ⟨rfl, hd, ht⟩
  exact ⟨_, rfl, h.step hd ht⟩
theorem sync_in (h : Own B w0 w r fp M) :
    Calls Try.prog 63 #[.pointer (some ⟨r, 0, none⟩)] w fun e w' => ∃ fp', e = .returned (.int .i64 (sync M).2) ∧ Step B w0 w w' r fp fp' (sync M).1 := by
  refine (sync_at h.disk).mono ?_
  rintro e w' ⟨rfl, hd, ht⟩
  exact ⟨_, rfl, h.step hd ht⟩
theorem crash_in (h : Own B w0 w r fp M) (hr : waits M ≤ 1099511627776) {kv : Value} {keep : List Int} (hk : IntsAt w kv keep) (hoff : Off fp kv keep) :
    Calls Try.prog 16 #[.pointer (some ⟨r, 0, none⟩), kv] w fun e w' => ∃ fp', e = .returned (.tuple #[]) ∧ Step B w0 w w' r fp fp' (crash M keep) := by
  refine (crash_at h.disk hr hk hoff).mono ?_
  rintro e w' ⟨rfl, hd, ht⟩
  exact ⟨_, rfl, h.step hd ht⟩
theorem spoil_in (h : Own B w0 w r fp M) (i a : Int) (x : ByteArray) (hx : x.size ≤ 9223372036854775807) :
    Calls Try.prog 27 #[.pointer (some ⟨r, 0, none⟩), .int .i64 i, .int .i64 a, .string x] w fun e w' => ∃ fp', e = .returned (.int .i64 (spoil M i a x.data.toList).2) ∧ Step B w0 w w' r fp fp' (spoil M i a x.data.toList).1 := by
  refine (spoil_at h.disk i a x hx).mono ?_
  rintro e w' ⟨rfl, hd, ht⟩
  exact ⟨_, rfl, h.step hd ht⟩
theorem fuse_in (h : Own B w0 w r fp M) (n : Int) (hn : -9223372036854775808 ≤ n ∧ n ≤ 9223372036854775807) :
    Calls Try.prog 15 #[.pointer (some ⟨r, 0, none⟩), .int .i64 n] w fun e w' => ∃ fp', e = .returned (.tuple #[]) ∧ Step B w0 w w' r fp fp' { M with fuse := n } := by
  refine (fuse_at h.disk n hn).mono ?_
  rintro e w' ⟨rfl, hd, ht⟩
  exact ⟨_, rfl, h.step hd ht⟩
theorem read_in (h : Own B w0 w r fp M) (i : Int) :
    Calls Try.prog 25 #[.pointer (some ⟨r, 0, none⟩), .int .i64 i] w fun e w' => e = .returned (.tuple #[.string ⟨(readOf M i).1.toArray⟩, .int .i64 (readOf M i).2]) ∧ Own B w0 w' r fp M ∧ Below w.heap.size w w' := by
  refine (read_at h.disk i).mono ?_
  rintro e w' ⟨rfl, hb⟩
  exact ⟨rfl, h.low hb, hb⟩
theorem waits_in (h : Own B w0 w r fp M) (hr : waits M ≤ 1099511627776) :
    Calls Try.prog 29 #[.pointer (some ⟨r, 0, none⟩)] w fun e w' => e = .returned (.int .i64 (waits M : Nat)) ∧ Own B w0 w' r fp M ∧ Below w.heap.size w w' := by
  refine (waits_at h.disk hr).mono ?_
  rintro e w' ⟨rfl, hb⟩
  exact ⟨rfl, h.low hb, hb⟩
theorem sectors_in (h : Own B w0 w r fp M) : Calls Try.prog 30 #[.pointer (some ⟨r, 0, none⟩)] w fun e w' => e = .returned (.int .i64 (M.lasts.length : Nat)) ∧ w = w' := sectors_at h.disk
end
end Dk
end Go.Proofs.Ytipfjccmceaclaa
