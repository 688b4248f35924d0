/-
  A Log in blocks of the call's own, on a disk of the call's own.
-/
import Derived.Test.YtnmagfodjcookaaGreatDkTwo
import Derived.Test.YtnmagfodjcookaaGreatDkMay
import Derived.Test.YtnmagfodjcookaaGreatDkRefOf
import Derived.Test.YtnmagfodjcookaaGreatLgDisk
namespace Go.Proofs.YtnmagfodjcookaaGreat
open Go.RowKit
namespace Lg
def cells (r : Nat) (v : Value) (L : Md) : Array Value := #[.pointer (some ⟨r, 0, none⟩), .int .u64 L.ep, .int .i64 L.next, .int .i64 L.end_, v, .int .u64 L.ahead, .int .u64 L.salt, .bool L.broken]
/-- A Log in block k, whose blocks lie in bl, that works on the disk in block r. -/
structure At (B : Nat) (w : World) (k r : Nat) (bl : Nat → Prop) (L : Md) : Prop where
  row : ∃ v, w.heap[k]? = some (.cells (cells r v L) 69 (0, 0)) ∧ w.ownsRow B 9 1 v L.recs.length (L.recs.map Dk.txt) ∧ ∀ q, v.ownBlock = some q → bl q ∧ q ≠ k
  mem : bl k
  lt : ∀ q, bl q → B ≤ q ∧ q < w.heap.size
theorem At.keep {B : Nat} {w w' : World} {k r : Nat} {bl : Nat → Prop} {L : Md} (h : At B w k r bl L) (hs : w.heap.size ≤ w'.heap.size) (hk : ∀ q, bl q → w'.heap[q]? = w.heap[q]?) : At B w' k r bl L := by
  obtain ⟨v, h1, h2, h3⟩ := h.row
  exact ⟨⟨v, (hk k h.mem).trans h1, Dk.own_block h2 fun g hg => hk g (h3 g hg).1, h3⟩, h.mem, fun q hq => ⟨(h.lt q hq).1, Nat.lt_of_lt_of_le (h.lt q hq).2 hs⟩⟩
theorem At.below {B : Nat} {w w' : World} {k r : Nat} {bl : Nat → Prop} {L : Md} (h : At B w k r bl L) (b : Below w.heap.size w w') : At B w' k r bl L := h.keep b.size fun q hq => b.block q (h.lt q hq).2
/-- The same, on a disk of the call's own. -/
structure Own (B : Nat) (w0 w : World) (r : Nat) (fp : Nat → Prop) (M : Dk.Md) (k : Nat) (bl : Nat → Prop) (L : Md) : Prop where
  disk : Dk.Own B w0 w r fp M
  at_ : At B w k r bl L
  off : ∀ q, bl q → ¬ fp q
/-- What an act upon it leaves. -/
structure Step (B : Nat) (w0 w w' : World) (r : Nat) (fp fp' : Nat → Prop) (M' : Dk.Md) (k : Nat) (bl bl' : Nat → Prop) (L' : Md) : Prop where
  own : Own B w0 w' r fp' M' k bl' L'
  grown : ∀ q, fp' q → fp q ∨ w.heap.size ≤ q
  more : ∀ q, bl' q → bl q ∨ w.heap.size ≤ q
  turned : Dk.Turned (fun q => fp q ∨ bl q) w w'
theorem turned_more {w w' : World} {f g : Nat → Prop} (h : Dk.Turned f w w') (hfg : ∀ q, f q → g q) : Dk.Turned g w w' := ⟨h.os, h.tape, h.output, h.size, fun i hi hn => h.block i hi (fun e => hn (hfg i e))⟩
theorem turned_set (w : World) (k o : Nat) (v : Value) : Dk.Turned (fun q => q = k) w (w.setCell ⟨k, o, none⟩ v) :=
  ⟨rfl, rfl, rfl, by simp, fun i _ hn => Below.heap_setCell _ ⟨k, o, none⟩ v i hn⟩
section
variable {B : Nat} {w0 w w' : World} {r : Nat} {fp fp' : Nat → Prop} {M M' : Dk.Md} {k : Nat} {bl bl' : Nat → Prop} {L L' : Md}
theorem Own.lt (h : Own B w0 w r fp M k bl L) : k < w.heap.size := (h.at_.lt k h.at_.mem).2
theorem Own.below (h : Own B w0 w r fp M k bl L) (b : Below w.heap.size w w') : Own B w0 w' r fp M k bl L := ⟨h.disk.low b, h.at_.below b, h.off⟩
theorem Step.refl (h : Own B w0 w r fp M k bl L) : Step B w0 w w r fp fp M k bl bl L := ⟨h, fun _ hq => .inl hq, fun _ hq => .inl hq, Dk.Turned.refl _ _⟩
/-- The Log's own blocks are turned. -/
theorem Own.set (h : Own B w0 w r fp M k bl L) (t : Dk.Turned bl w w') (ha : At B w' k r bl' L') (hm : ∀ q, bl' q → bl q ∨ w.heap.size ≤ q) : Step B w0 w w' r fp fp M k bl bl' L' :=
  ⟨⟨⟨h.disk.disk.keep t (fun q h1 h2 => h.off q h2 h1), h.disk.high, h.disk.base, h.disk.below.trans (t.below (fun q hq => (h.at_.lt q hq).1) h.disk.size)⟩, ha, fun q hq hf => by
    rcases hm q hq with e | e
    · exact h.off q e hf
    · have := h.disk.lt q hf; omega⟩, fun _ hq => .inl hq, hm, turned_more t fun _ => .inr⟩
/-- An act upon the disk. -/
theorem Own.act (h : Own B w0 w r fp M k bl L) (s : Dk.Step B w0 w w' r fp fp' M') : Step B w0 w w' r fp fp' M' k bl bl L :=
  ⟨⟨s.own, h.at_.keep s.turned.size fun q hq => s.turned.block q (h.at_.lt q hq).2 (h.off q hq), fun q hq e => by
    rcases s.grown q e with h1 | h1
    · exact h.off q hq h1
    · have := (h.at_.lt q hq).2; omega⟩, s.grown, fun _ hq => .inl hq, turned_more s.turned fun _ => .inl⟩
theorem Step.low {w1 : World} (s : Step B w0 w w' r fp fp' M' k bl bl' L') (b : Below w'.heap.size w' w1) : Step B w0 w w1 r fp fp' M' k bl bl' L' :=
  ⟨s.own.below b, s.grown, s.more, s.turned.trans (Dk.Turned.of_below b (Nat.le_refl _))⟩
theorem Step.trans {w1 : World} {fp1 bl1 : Nat → Prop} {M1 : Dk.Md} {L1 : Md} (s : Step B w0 w w1 r fp fp1 M1 k bl bl1 L1) (s2 : Step B w0 w1 w' r fp1 fp' M' k bl1 bl' L') : Step B w0 w w' r fp fp' M' k bl bl' L' := by
  have hs := s.turned.size
  refine ⟨s2.own, fun i hi => ?_, fun i hi => ?_, ?_⟩
  · rcases s2.grown i hi with e | e
    · exact s.grown i e
    · exact .inr (by omega)
  · rcases s2.more i hi with e | e
    · exact s.more i e
    · exact .inr (by omega)
  · exact ⟨s2.turned.os.trans s.turned.os, s2.turned.tape.trans s.turned.tape, s2.turned.output.trans s.turned.output, Nat.le_trans hs s2.turned.size, fun i hi hn =>
      (s2.turned.block i (by omega) (fun e => by
        rcases e with e | e
        · rcases s.grown i e with e | e
          · exact hn (.inl e)
          · omega
        · rcases s.more i e with e | e
          · exact hn (.inr e)
          · omega)).trans (s.turned.block i hi hn)⟩
end
end Lg
end Go.Proofs.YtnmagfodjcookaaGreat
