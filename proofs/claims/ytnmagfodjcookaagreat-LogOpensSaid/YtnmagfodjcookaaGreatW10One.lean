/-
  Texts that belong together, laid into one.
-/
import Derived.Test.YtnmagfodjcookaaGreatR10Add
import Derived.Test.YtnmagfodjcookaaGreatLgTwo
import Derived.Test.YtnmagfodjcookaaGreatLgActs
import Derived.Test.YtnmagfodjcookaaGreatLgRun
import Derived.Test.YtnmagfodjcookaaGreatDkRefSpoil
import Derived.Test.YtnmagfodjcookaaGreatDkRefNew
import Derived.StillTailTactics
/-
  The world of a Log and the document's, on their disks: what each step leaves.
-/
namespace Go.Proofs.YtnmagfodjcookaaGreat
open Go.RowKit
namespace Lg
open Pt (parts)
/-- A Log that stands in nn sectors from a on. -/
structure Fine (L : Md) (M : Dk.Md) (a nn : Int) : Prop where
  low : 0 ≤ a
  next : a + (L.recs.length : Int) ≤ L.next ∧ L.next ≤ L.end_
  end_ : L.end_ = a + nn
  len : a + nn ≤ (M.lasts.length : Int) ∧ M.lasts.length ≤ 4096
  salt : L.salt < 18446744073709551616
  ahead : L.ahead < 18446744073709551616
  ep : L.ep < 18446744073709551616
  small : ∀ t ∈ L.recs, t.length ≤ 1024
  pos : 1 ≤ nn
theorem Fine.fit {L : Md} {M : Dk.Md} {a nn : Int} (h : Fine L M a nn) : Fit L M := by
  have h1 := h.next
  have h2 := h.len
  have h3 := h.end_
  have h4 := h.low
  exact ⟨⟨by omega, h1.2⟩, by omega, h.salt, by omega, h.small⟩
theorem Fine.of_len {L : Md} {M M' : Dk.Md} {a nn : Int} (h : Fine L M a nn) (hl : M'.lasts.length = M.lasts.length) : Fine L M' a nn := ⟨h.low, h.next, h.end_, by rw [hl]; exact h.len, h.salt, h.ahead, h.ep, h.small, h.pos⟩
theorem used_ge : ∀ R : List (List UInt8 × Nat), R.length ≤ used R
  | [] => Nat.zero_le _
  | x :: R => by
    have h1 := used_ge R
    have h2 := Pt.parts_pos 32 x.1
    have e : used (x :: R) = parts 32 x.1 + used R := by simp [used]
    rw [e, List.length_cons]
    omega
theorem opened_fine {f : Nat → List UInt8} {a : Int} {n ep : Nat} {M : Dk.Md} (hep : ep < 18446744073709551616) (h : 0 ≤ a ∧ a + (n : Int) ≤ M.lasts.length) (hM : M.lasts.length ≤ 4096) (hn : 1 ≤ n) : Fine (opened n f a ep) M a n := by
  have h1 := used_found ep (place n f)
  have h2 := (found_small ep (place n f)).1
  have h3 := used_ge (found ep (place n f))
  rw [place_length] at h1
  refine ⟨h.1, ⟨?_, ?_⟩, rfl, ⟨h.2, hM⟩, Pt.greatest_lt _ _, ?_, hep, h2, by omega⟩
  · show a + (((found ep (place n f)).map (·.1)).length : Int) ≤ a + (used (found ep (place n f)) : Int)
    rw [List.length_map]; omega
  · show a + (used (found ep (place n f)) : Int) ≤ a + (n : Int)
    omega
  · show last 0 (found ep (place n f)) < _
    obtain ⟨rest, hf⟩ := found_is ep (place n f)
    rcases last_mem 0 (found ep (place n f)) with e | ⟨x, hx, e⟩
    · rw [e]; decide
    · rw [← e]; exact (hf.ok x hx).2
theorem Fine.add {L : Md} {M : Dk.Md} {a nn : Int} (h : Fine L M a nn) (t : List UInt8) (hl : (add L M t).2.1.lasts.length = M.lasts.length) : Fine (add L M t).1 (add L M t).2.1 a nn := by
  refine Fine.of_len (M := M) ?_ hl
  unfold Lg.add
  split
  · exact h
  · split
    · exact h
    · split
      · exact h
      · rename_i h1 h2 h3
        split
        · have hn := h.next
          have hp := Pt.parts_pos 32 t
          have hs := h.salt
          have hs2 : ¬ L.salt = 18446744073709551615 := fun e => h3 (.inr e)
          have hr : ¬ L.end_ - L.next < parts 32 t := fun e => h3 (.inl e)
          refine ⟨h.low, ⟨?_, ?_⟩, h.end_, h.len, ?_, ?_, h.ep, ?_, h.pos⟩
          · show a + ((L.recs ++ [t]).length : Int) ≤ L.next + (parts 32 t : Int)
            rw [List.length_append, List.length_singleton]; omega
          · show L.next + (parts 32 t : Int) ≤ L.end_
            omega
          · show L.salt + 1 < _
            omega
          · show L.salt + 1 < _
            omega
          · intro u hu
            rcases List.mem_append.1 hu with e | e
            · exact h.small u e
            · rw [List.mem_singleton.1 e]; omega
        · exact ⟨h.low, h.next, h.end_, h.len, h.salt, h.ahead, h.ep, h.small, h.pos⟩
theorem len_add (L : Md) (M : Dk.Md) (t : List UInt8) : (add L M t).2.1.lasts.length = M.lasts.length := by
  unfold Lg.add
  split
  · rfl
  · split
    · rfl
    · split
      · rfl
      · split
        · exact Kp.len_save _ _ _
        · exact Kp.len_save _ _ _
def lptr (lo : Option Nat) : Value := .pointer (lo.map fun k => ⟨k, 0, none⟩)
/-- A world: the program's disk says M, the document's MR, the program's Log L, the document's LR; Z: blocks of others that stay. -/
structure W10 (Z : Nat → Option Obj) (B : Nat) (w0 w : World) (X r : Nat) (fp : Nat → Prop) (M MR : Dk.Md) (d0 d1 d2 d3 : Value) (lo : Option Nat) (bl : Nat → Prop) (L LR : Md) (q0 q1 q2 q3 q4 q5 q6 q7 : Value) (a nn : Int) (ep : Nat) (n : Int) : Prop where
  disk : Dk.Own B w0 w r fp M
  ref : Dk.RefAt w (fun q => fp q ∨ q = X ∨ bl q) (.agg #[d0, d1, d2, d3]) MR
  box : w.heap[X]? = some (.cells #[.pointer (some ⟨r, 0, none⟩), lptr lo, d0, d1, d2, d3, q0, q1, q2, q3, q4, q5, q6, q7, .int .i64 a, .int .i64 nn, .int .u64 (ep : Nat), .int .i64 n] 41 (0, 0))
  off : ¬ fp X
  low : B ≤ X
  bl_ : ∀ q, bl q → q < w.heap.size ∧ ¬ fp q ∧ q ≠ X
  log : ∀ k, lo = some k → At B w k r bl L ∧ Fine L M a nn ∧ RefAt w (fun q => fp q ∨ q = X ∨ bl q) a nn (.agg #[q0, q1, q2, q3, q4, q5, q6, q7]) LR
  held : ∀ q b, Z q = some b → w.heap[q]? = some b ∧ ¬ fp q ∧ q ≠ X ∧ ¬ bl q
section
variable {Z : Nat → Option Obj} {B : Nat} {w0 w w' : World} {X r : Nat} {fp fp' : Nat → Prop} {M MR M' MR' : Dk.Md} {d0 d1 d2 d3 : Value} {lo : Option Nat} {bl bl' : Nat → Prop} {L LR L' LR' : Md} {q0 q1 q2 q3 q4 q5 q6 q7 : Value} {a nn : Int} {ep : Nat} {n : Int}
theorem W10.lt (h : W10 Z B w0 w X r fp M MR d0 d1 d2 d3 lo bl L LR q0 q1 q2 q3 q4 q5 q6 q7 a nn ep n) : ∀ q, (fp q ∨ q = X ∨ bl q) → q < w.heap.size := fun q e => by
  rcases e with e | e | e
  · exact h.disk.lt q e
  · rw [e]; exact Sm.lt_of h.box
  · exact (h.bl_ q e).1
theorem W10.low' (h : W10 Z B w0 w X r fp M MR d0 d1 d2 d3 lo bl L LR q0 q1 q2 q3 q4 q5 q6 q7 a nn ep n) (k : Below w.heap.size w w') : W10 Z B w0 w' X r fp M MR d0 d1 d2 d3 lo bl L LR q0 q1 q2 q3 q4 q5 q6 q7 a nn ep n :=
  ⟨h.disk.low k, h.ref.low k, (k.block X (Sm.lt_of h.box)).trans h.box, h.off, h.low, fun q e => ⟨Nat.lt_of_lt_of_le (h.bl_ q e).1 k.size, (h.bl_ q e).2⟩, fun q e => by
    obtain ⟨h1, h2, h3⟩ := h.log q e
    exact ⟨h1.below k, h2, h3.low k⟩, fun q b e => by
    obtain ⟨h1, h2⟩ := h.held q b e
    exact ⟨(k.block q (Sm.lt_of h1)).trans h1, h2⟩⟩
/-- An act upon the program's disk. -/
theorem W10.disked (h : W10 Z B w0 w X r fp M MR d0 d1 d2 d3 lo bl L LR q0 q1 q2 q3 q4 q5 q6 q7 a nn ep n) (s : Dk.Step B w0 w w' r fp fp' M') (hl : M'.lasts.length = M.lasts.length) : W10 Z B w0 w' X r fp' M' MR d0 d1 d2 d3 lo bl L LR q0 q1 q2 q3 q4 q5 q6 q7 a nn ep n := by
  have hs := s.turned.size
  have nf : ∀ q, q < w.heap.size → ¬ fp q → ¬ fp' q := fun q h1 h2 e => by
    rcases s.grown q e with e | e
    · exact h2 e
    · omega
  have hF : ∀ q, (fp' q ∨ q = X ∨ bl q) → (fp q ∨ q = X ∨ bl q) ∨ w.heap.size ≤ q := fun q e => by
    rcases e with e | e
    · exact (s.grown q e).imp .inl id
    · exact .inl (.inr e)
  refine ⟨s.own, refTurned h.ref (turned_more s.turned fun i e => .inl e) hF, (s.turned.block X (Sm.lt_of h.box) h.off).trans h.box, nf X (Sm.lt_of h.box) h.off, h.low, fun q e => ?_, fun q e => ?_, fun q b e => ?_⟩
  · obtain ⟨h1, h2, h3⟩ := h.bl_ q e
    exact ⟨by omega, nf q h1 h2, h3⟩
  · obtain ⟨h1, h2, h3⟩ := h.log q e
    exact ⟨h1.keep hs fun q hq => s.turned.block q (h1.lt q hq).2 (h.bl_ q hq).2.1, h2.of_len hl, h3.turned (turned_more s.turned fun i e => .inl e) hF⟩
  · obtain ⟨h1, h2, h3, h4⟩ := h.held q b e
    exact ⟨(s.turned.block q (Sm.lt_of h1) h2).trans h1, nf q (Sm.lt_of h1) h2, h3, h4⟩
/-- An act upon the program's Log. -/
theorem W10.logged {k : Nat} (h : W10 Z B w0 w X r fp M MR d0 d1 d2 d3 lo bl L LR q0 q1 q2 q3 q4 q5 q6 q7 a nn ep n) (hk : lo = some k) (s : Step B w0 w w' r fp fp' M' k bl bl' L') (hf : Fine L' M' a nn) : W10 Z B w0 w' X r fp' M' MR d0 d1 d2 d3 lo bl' L' LR q0 q1 q2 q3 q4 q5 q6 q7 a nn ep n := by
  have hs := s.turned.size
  have nf : ∀ q, q < w.heap.size → ¬ fp q → ¬ fp' q := fun q h1 h2 e => by
    rcases s.grown q e with e | e
    · exact h2 e
    · omega
  have nb : ∀ q, q < w.heap.size → ¬ bl q → ¬ bl' q := fun q h1 h2 e => by
    rcases s.more q e with e | e
    · exact h2 e
    · omega
  have hF : ∀ q, (fp' q ∨ q = X ∨ bl' q) → (fp q ∨ q = X ∨ bl q) ∨ w.heap.size ≤ q := fun q e => by
    rcases e with e | e | e
    · exact (s.grown q e).imp .inl id
    · exact .inl (.inr (.inl e))
    · exact (s.more q e).imp (fun e => .inr (.inr e)) id
  have hT : Dk.Turned (fun q => fp q ∨ q = X ∨ bl q) w w' := turned_more s.turned fun i e => e.imp id .inr
  have hX : ¬ bl X := fun e => (h.bl_ X e).2.2 rfl
  refine ⟨s.own.disk, refTurned h.ref hT hF, (s.turned.block X (Sm.lt_of h.box) (fun e => e.elim h.off hX)).trans h.box, nf X (Sm.lt_of h.box) h.off, h.low, fun q e => ?_, fun q e => ?_, fun q b e => ?_⟩
  · refine ⟨(s.own.at_.lt q e).2, s.own.off q e, fun e2 => ?_⟩
    subst e2
    exact nb q (Sm.lt_of h.box) hX e
  · obtain rfl : k = q := Option.some.inj (hk.symm.trans e)
    obtain ⟨h1, h2, h3⟩ := h.log k e
    exact ⟨s.own.at_, hf, h3.turned hT hF⟩
  · obtain ⟨h1, h2, h3, h4⟩ := h.held q b e
    exact ⟨(s.turned.block q (Sm.lt_of h1) (fun e => e.elim h2 h4)).trans h1, nf q (Sm.lt_of h1) h2, h3, nb q (Sm.lt_of h1) h4⟩
/-- The world's own cells turn; the Logs stay. -/
theorem W10.touch {e0 e1 e2 e3 p0 p1 p2 p3 p4 p5 p6 p7 : Value} {ep' : Nat} (h : W10 Z B w0 w X r fp M MR d0 d1 d2 d3 lo bl L LR q0 q1 q2 q3 q4 q5 q6 q7 a nn ep n) (t : Dk.Turned (fun q => q = X) w w')
    (hb : w'.heap[X]? = some (.cells #[.pointer (some ⟨r, 0, none⟩), lptr lo, e0, e1, e2, e3, p0, p1, p2, p3, p4, p5, p6, p7, .int .i64 a, .int .i64 nn, .int .u64 (ep' : Nat), .int .i64 n] 41 (0, 0))) (hr : Dk.RefAt w (fun q => fp q ∨ q = X ∨ bl q) (.agg #[e0, e1, e2, e3]) MR') (hq : ∀ k, lo = some k → RefAt w (fun q => fp q ∨ q = X ∨ bl q) a nn (.agg #[p0, p1, p2, p3, p4, p5, p6, p7]) LR') : W10 Z B w0 w' X r fp M MR' e0 e1 e2 e3 lo bl L LR' p0 p1 p2 p3 p4 p5 p6 p7 a nn ep' n := by
  have hT : Dk.Turned (fun q => fp q ∨ q = X ∨ bl q) w w' := turned_more t fun i e => .inr (.inl e)
  refine ⟨h.disk.other t (fun q h1 h2 => h.off (h2 ▸ h1)) (fun q e => e ▸ h.low), refTurned hr hT fun _ => .inl, hb, h.off, h.low, fun q e => ⟨Nat.lt_of_lt_of_le (h.bl_ q e).1 t.size, (h.bl_ q e).2⟩, fun q e => ?_, fun q b e => ?_⟩
  · obtain ⟨h1, h2, h3⟩ := h.log q e
    exact ⟨h1.keep t.size fun q hq => t.block q (h1.lt q hq).2 (h.bl_ q hq).2.2, h2, (hq _ e).turned hT fun _ => .inl⟩
  · obtain ⟨h1, h2, h3, h4⟩ := h.held q b e
    exact ⟨(t.block q (Sm.lt_of h1) h3).trans h1, h2, h3, h4⟩
/-- A block of one's own that is to stay. -/
theorem W10.hold (h : W10 (fun _ => none) B w0 w X r fp M MR d0 d1 d2 d3 lo bl L LR q0 q1 q2 q3 q4 q5 q6 q7 a nn ep n) (k : Below w.heap.size w w') {N : Nat} {b : Obj} (hN : w.heap.size ≤ N) (ha : w'.heap[N]? = some b) : W10 (fun q => if q = N then some b else none) B w0 w' X r fp M MR d0 d1 d2 d3 lo bl L LR q0 q1 q2 q3 q4 q5 q6 q7 a nn ep n := by
  have h' := h.low' k
  refine ⟨h'.disk, h'.ref, h'.box, h'.off, h'.low, h'.bl_, h'.log, fun q c e => ?_⟩
  split at e
  · rename_i e2
    subst e2
    obtain rfl : b = c := Option.some.inj e
    refine ⟨ha, fun e => ?_, fun e => ?_, fun e => ?_⟩
    · have := h.disk.lt _ e; omega
    · have := Sm.lt_of h.box; omega
    · have := (h.bl_ _ e).1; omega
  · cases e
theorem W10.free (h : W10 Z B w0 w X r fp M MR d0 d1 d2 d3 lo bl L LR q0 q1 q2 q3 q4 q5 q6 q7 a nn ep n) : W10 (fun _ => none) B w0 w X r fp M MR d0 d1 d2 d3 lo bl L LR q0 q1 q2 q3 q4 q5 q6 q7 a nn ep n := ⟨h.disk, h.ref, h.box, h.off, h.low, h.bl_, h.log, fun q b e => by cases e⟩
end
end Lg
end Go.Proofs.YtnmagfodjcookaaGreat

/-
  The world of a Log and the document's: both opened again.
-/
namespace Go.Proofs.YtnmagfodjcookaaGreat
open Go.RowKit
namespace Lg
theorem rowD {w : World} {X : Nat} {c0 c1 c2 c3 c4 c5 c6 c7 c8 c9 c10 c11 c12 c13 c14 c15 c16 c17 : Value} {t : TypeId} (h : w.heap[X]? = some (.cells #[c0, c1, c2, c3, c4, c5, c6, c7, c8, c9, c10, c11, c12, c13, c14, c15, c16, c17] t (0, 0))) : w.rangeAt X 2 [c2, c3, c4, c5] := fun j u hj => by
  match j, hj with
  | 0, hj => simp at hj; subst hj; exact Sm.cells_of h 2 _ rfl
  | 1, hj => simp at hj; subst hj; exact Sm.cells_of h 3 _ rfl
  | 2, hj => simp at hj; subst hj; exact Sm.cells_of h 4 _ rfl
  | 3, hj => simp at hj; subst hj; exact Sm.cells_of h 5 _ rfl
theorem rowV {w : World} {X : Nat} {c0 c1 c2 c3 c4 c5 c6 c7 c8 c9 c10 c11 c12 c13 c14 c15 c16 c17 : Value} {t : TypeId} (h : w.heap[X]? = some (.cells #[c0, c1, c2, c3, c4, c5, c6, c7, c8, c9, c10, c11, c12, c13, c14, c15, c16, c17] t (0, 0))) : w.rangeAt X 6 [c6, c7, c8, c9, c10, c11, c12, c13] := fun j u hj => by
  match j, hj with
  | 0, hj => simp at hj; subst hj; exact Sm.cells_of h 6 _ rfl
  | 1, hj => simp at hj; subst hj; exact Sm.cells_of h 7 _ rfl
  | 2, hj => simp at hj; subst hj; exact Sm.cells_of h 8 _ rfl
  | 3, hj => simp at hj; subst hj; exact Sm.cells_of h 9 _ rfl
  | 4, hj => simp at hj; subst hj; exact Sm.cells_of h 10 _ rfl
  | 5, hj => simp at hj; subst hj; exact Sm.cells_of h 11 _ rfl
  | 6, hj => simp at hj; subst hj; exact Sm.cells_of h 12 _ rfl
  | 7, hj => simp at hj; subst hj; exact Sm.cells_of h 13 _ rfl
theorem setD {w : World} {X : Nat} {c0 c1 c2 c3 c4 c5 c6 c7 c8 c9 c10 c11 c12 c13 c14 c15 c16 c17 : Value} {t : TypeId} {q : Nat × Nat} (h : w.heap[X]? = some (.cells #[c0, c1, c2, c3, c4, c5, c6, c7, c8, c9, c10, c11, c12, c13, c14, c15, c16, c17] t q)) (a b c d : Value) :
    ((((w.setCell ⟨X, 2, none⟩ (a)).setCell ⟨X, 3, none⟩ (b)).setCell ⟨X, 4, none⟩ (c)).setCell ⟨X, 5, none⟩ (d)).heap[X]? = some (.cells #[c0, c1, a, b, c, d, c6, c7, c8, c9, c10, c11, c12, c13, c14, c15, c16, c17] t q) := by
  rw [Sm.heap_set (Sm.heap_set (Sm.heap_set (Sm.heap_set h 2 a) 3 b) 4 c) 5 d]
  simp
theorem setD_turned (w : World) (X : Nat) (a b c d : Value) : Dk.Turned (fun q => q = X) w ((((w.setCell ⟨X, 2, none⟩ (a)).setCell ⟨X, 3, none⟩ (b)).setCell ⟨X, 4, none⟩ (c)).setCell ⟨X, 5, none⟩ (d)) := by
  have h0 := turned_set w X 2 a
  have h1 := h0.trans (turned_set (w.setCell ⟨X, 2, none⟩ (a)) X 3 b)
  have h2 := h1.trans (turned_set ((w.setCell ⟨X, 2, none⟩ (a)).setCell ⟨X, 3, none⟩ (b)) X 4 c)
  have h3 := h2.trans (turned_set (((w.setCell ⟨X, 2, none⟩ (a)).setCell ⟨X, 3, none⟩ (b)).setCell ⟨X, 4, none⟩ (c)) X 5 d)
  exact h3
theorem setD_other (w : World) (X : Nat) (a b c d : Value) (i : Nat) (h : i ≠ X) : ((((w.setCell ⟨X, 2, none⟩ (a)).setCell ⟨X, 3, none⟩ (b)).setCell ⟨X, 4, none⟩ (c)).setCell ⟨X, 5, none⟩ (d)).heap[i]? = w.heap[i]? := by
  rw [Below.heap_setCell _ _ _ _ h, Below.heap_setCell _ _ _ _ h, Below.heap_setCell _ _ _ _ h, Below.heap_setCell _ _ _ _ h]
theorem setV {w : World} {X : Nat} {c0 c1 c2 c3 c4 c5 c6 c7 c8 c9 c10 c11 c12 c13 c14 c15 c16 c17 : Value} {t : TypeId} {q : Nat × Nat} (h : w.heap[X]? = some (.cells #[c0, c1, c2, c3, c4, c5, c6, c7, c8, c9, c10, c11, c12, c13, c14, c15, c16, c17] t q)) (a b c d e f g k : Value) :
    ((((((((w.setCell ⟨X, 6, none⟩ (a)).setCell ⟨X, 7, none⟩ (b)).setCell ⟨X, 8, none⟩ (c)).setCell ⟨X, 9, none⟩ (d)).setCell ⟨X, 10, none⟩ (e)).setCell ⟨X, 11, none⟩ (f)).setCell ⟨X, 12, none⟩ (g)).setCell ⟨X, 13, none⟩ (k)).heap[X]? = some (.cells #[c0, c1, c2, c3, c4, c5, a, b, c, d, e, f, g, k, c14, c15, c16, c17] t q) := by
  rw [Sm.heap_set (Sm.heap_set (Sm.heap_set (Sm.heap_set (Sm.heap_set (Sm.heap_set (Sm.heap_set (Sm.heap_set h 6 a) 7 b) 8 c) 9 d) 10 e) 11 f) 12 g) 13 k]
  simp
theorem setV_turned (w : World) (X : Nat) (a b c d e f g k : Value) : Dk.Turned (fun q => q = X) w ((((((((w.setCell ⟨X, 6, none⟩ (a)).setCell ⟨X, 7, none⟩ (b)).setCell ⟨X, 8, none⟩ (c)).setCell ⟨X, 9, none⟩ (d)).setCell ⟨X, 10, none⟩ (e)).setCell ⟨X, 11, none⟩ (f)).setCell ⟨X, 12, none⟩ (g)).setCell ⟨X, 13, none⟩ (k)) := by
  have h0 := turned_set w X 6 a
  have h1 := h0.trans (turned_set (w.setCell ⟨X, 6, none⟩ (a)) X 7 b)
  have h2 := h1.trans (turned_set ((w.setCell ⟨X, 6, none⟩ (a)).setCell ⟨X, 7, none⟩ (b)) X 8 c)
  have h3 := h2.trans (turned_set (((w.setCell ⟨X, 6, none⟩ (a)).setCell ⟨X, 7, none⟩ (b)).setCell ⟨X, 8, none⟩ (c)) X 9 d)
  have h4 := h3.trans (turned_set ((((w.setCell ⟨X, 6, none⟩ (a)).setCell ⟨X, 7, none⟩ (b)).setCell ⟨X, 8, none⟩ (c)).setCell ⟨X, 9, none⟩ (d)) X 10 e)
  have h5 := h4.trans (turned_set (((((w.setCell ⟨X, 6, none⟩ (a)).setCell ⟨X, 7, none⟩ (b)).setCell ⟨X, 8, none⟩ (c)).setCell ⟨X, 9, none⟩ (d)).setCell ⟨X, 10, none⟩ (e)) X 11 f)
  have h6 := h5.trans (turned_set ((((((w.setCell ⟨X, 6, none⟩ (a)).setCell ⟨X, 7, none⟩ (b)).setCell ⟨X, 8, none⟩ (c)).setCell ⟨X, 9, none⟩ (d)).setCell ⟨X, 10, none⟩ (e)).setCell ⟨X, 11, none⟩ (f)) X 12 g)
  have h7 := h6.trans (turned_set (((((((w.setCell ⟨X, 6, none⟩ (a)).setCell ⟨X, 7, none⟩ (b)).setCell ⟨X, 8, none⟩ (c)).setCell ⟨X, 9, none⟩ (d)).setCell ⟨X, 10, none⟩ (e)).setCell ⟨X, 11, none⟩ (f)).setCell ⟨X, 12, none⟩ (g)) X 13 k)
  exact h7
theorem setV_other (w : World) (X : Nat) (a b c d e f g k : Value) (i : Nat) (h : i ≠ X) : ((((((((w.setCell ⟨X, 6, none⟩ (a)).setCell ⟨X, 7, none⟩ (b)).setCell ⟨X, 8, none⟩ (c)).setCell ⟨X, 9, none⟩ (d)).setCell ⟨X, 10, none⟩ (e)).setCell ⟨X, 11, none⟩ (f)).setCell ⟨X, 12, none⟩ (g)).setCell ⟨X, 13, none⟩ (k)).heap[i]? = w.heap[i]? := by
  rw [Below.heap_setCell _ _ _ _ h, Below.heap_setCell _ _ _ _ h, Below.heap_setCell _ _ _ _ h, Below.heap_setCell _ _ _ _ h, Below.heap_setCell _ _ _ _ h, Below.heap_setCell _ _ _ _ h, Below.heap_setCell _ _ _ _ h, Below.heap_setCell _ _ _ _ h]
theorem setL {w : World} {X : Nat} {c0 c1 c2 c3 c4 c5 c6 c7 c8 c9 c10 c11 c12 c13 c14 c15 c16 c17 : Value} {t : TypeId} {q : Nat × Nat} (h : w.heap[X]? = some (.cells #[c0, c1, c2, c3, c4, c5, c6, c7, c8, c9, c10, c11, c12, c13, c14, c15, c16, c17] t q)) (a : Value) :
    (w.setCell ⟨X, 1, none⟩ (a)).heap[X]? = some (.cells #[c0, a, c2, c3, c4, c5, c6, c7, c8, c9, c10, c11, c12, c13, c14, c15, c16, c17] t q) := by
  rw [Sm.heap_set h 1 a]
  simp
theorem setL_turned (w : World) (X : Nat) (a : Value) : Dk.Turned (fun q => q = X) w (w.setCell ⟨X, 1, none⟩ (a)) := by
  have h0 := turned_set w X 1 a
  exact h0
theorem setL_other (w : World) (X : Nat) (a : Value) (i : Nat) (h : i ≠ X) : (w.setCell ⟨X, 1, none⟩ (a)).heap[i]? = w.heap[i]? := by
  rw [Below.heap_setCell _ _ _ _ h]
theorem setN {w : World} {X : Nat} {c0 c1 c2 c3 c4 c5 c6 c7 c8 c9 c10 c11 c12 c13 c14 c15 c16 c17 : Value} {t : TypeId} {q : Nat × Nat} (h : w.heap[X]? = some (.cells #[c0, c1, c2, c3, c4, c5, c6, c7, c8, c9, c10, c11, c12, c13, c14, c15, c16, c17] t q)) (a : Value) :
    (w.setCell ⟨X, 17, none⟩ (a)).heap[X]? = some (.cells #[c0, c1, c2, c3, c4, c5, c6, c7, c8, c9, c10, c11, c12, c13, c14, c15, c16, a] t q) := by
  rw [Sm.heap_set h 17 a]
  simp
theorem setN_turned (w : World) (X : Nat) (a : Value) : Dk.Turned (fun q => q = X) w (w.setCell ⟨X, 17, none⟩ (a)) := by
  have h0 := turned_set w X 17 a
  exact h0
theorem setN_other (w : World) (X : Nat) (a : Value) (i : Nat) (h : i ≠ X) : (w.setCell ⟨X, 17, none⟩ (a)).heap[i]? = w.heap[i]? := by
  rw [Below.heap_setCell _ _ _ _ h]
theorem setE {w : World} {X : Nat} {c0 c1 c2 c3 c4 c5 c6 c7 c8 c9 c10 c11 c12 c13 c14 c15 c16 c17 : Value} {t : TypeId} {q : Nat × Nat} (h : w.heap[X]? = some (.cells #[c0, c1, c2, c3, c4, c5, c6, c7, c8, c9, c10, c11, c12, c13, c14, c15, c16, c17] t q)) (a : Value) :
    (w.setCell ⟨X, 16, none⟩ (a)).heap[X]? = some (.cells #[c0, c1, c2, c3, c4, c5, c6, c7, c8, c9, c10, c11, c12, c13, c14, c15, a, c17] t q) := by
  rw [Sm.heap_set h 16 a]
  simp
theorem setE_turned (w : World) (X : Nat) (a : Value) : Dk.Turned (fun q => q = X) w (w.setCell ⟨X, 16, none⟩ (a)) := by
  have h0 := turned_set w X 16 a
  exact h0
theorem setE_other (w : World) (X : Nat) (a : Value) (i : Nat) (h : i ≠ X) : (w.setCell ⟨X, 16, none⟩ (a)).heap[i]? = w.heap[i]? := by
  rw [Below.heap_setCell _ _ _ _ h]
theorem setF {w : World} {X : Nat} {c0 c1 c2 c3 c4 c5 c6 c7 c8 c9 c10 c11 c12 c13 c14 c15 c16 c17 : Value} {t : TypeId} {q : Nat × Nat} (h : w.heap[X]? = some (.cells #[c0, c1, c2, c3, c4, c5, c6, c7, c8, c9, c10, c11, c12, c13, c14, c15, c16, c17] t q)) (a : Value) :
    (w.setCell ⟨X, 4, none⟩ (a)).heap[X]? = some (.cells #[c0, c1, c2, c3, a, c5, c6, c7, c8, c9, c10, c11, c12, c13, c14, c15, c16, c17] t q) := by
  rw [Sm.heap_set h 4 a]
  simp
theorem setF_turned (w : World) (X : Nat) (a : Value) : Dk.Turned (fun q => q = X) w (w.setCell ⟨X, 4, none⟩ (a)) := by
  have h0 := turned_set w X 4 a
  exact h0
theorem setF_other (w : World) (X : Nat) (a : Value) (i : Nat) (h : i ≠ X) : (w.setCell ⟨X, 4, none⟩ (a)).heap[i]? = w.heap[i]? := by
  rw [Below.heap_setCell _ _ _ _ h]
/-- What Open leaves. -/
def Opn10 (Z : Nat → Option Obj) (B : Nat) (w0 w' : World) (X r : Nat) (fp : Nat → Prop) (M : Dk.Md) (d0 d1 d2 d3 : Value) (a nn : Int) (ep : Nat) : Prop :=
  ∃ (lo : Option Nat) (bl : Nat → Prop) (L : Md) (q0 q1 q2 q3 q4 q5 q6 q7 : Value) (n : Int), W10 Z B w0 w' X r fp M M d0 d1 d2 d3 lo bl L L q0 q1 q2 q3 q4 q5 q6 q7 a nn ep n ∧ (lo = none ↔ n ≠ 0)
theorem opn10 {Z : Nat → Option Obj} {B : Nat} {w0 w' : World} {X r : Nat} {fp : Nat → Prop} {M : Dk.Md} {d0 d1 d2 d3 : Value} {lo : Option Nat} {bl : Nat → Prop} {L : Md} {q0 q1 q2 q3 q4 q5 q6 q7 : Value} {a nn : Int} {ep : Nat} {n : Int} (h : W10 Z B w0 w' X r fp M M d0 d1 d2 d3 lo bl L L q0 q1 q2 q3 q4 q5 q6 q7 a nn ep n) (hi : lo = none ↔ n ≠ 0) : Opn10 Z B w0 w' X r fp M d0 d1 d2 d3 a nn ep :=
  ⟨lo, bl, L, q0, q1, q2, q3, q4, q5, q6, q7, n, h, hi⟩
theorem lv_eight (a nn : Int) (L : Md) (A : Option Addr) (c us : Nat) : ∃ (v0 v1 v2 : Int) (vA : Option Addr) (vn vc : Nat) (v4 v5 v6 : Int) (v7 : Bool), lv a nn L.ep (.slice A L.recs.length c) us L.ahead L.salt L.broken = #[.int .i64 v0, .int .i64 v1, .int .u64 v2, .slice vA vn vc, .int .i64 v4, .int .u64 v5, .int .u64 v6, .bool v7] := ⟨_, _, _, _, _, _, _, _, _, _, rfl⟩
theorem openErr_at {M : Dk.Md} {a nn : Int} {ep : Nat} (h : openErr M a nn ep = 0) : 0 ≤ a ∧ 1 ≤ nn ∧ a + nn ≤ (M.lasts.length : Int) := by
  unfold openErr at h
  split at h
  · cases h
  · omega
theorem info_dsk7 {c : List Value} (h : c.length = 4) : (Tryz.prog.info? 33).map (·.size) = some c.length := by rw [h]; kernel_rfl
end Lg
set_option maxRecDepth 100000 in
set_option maxHeartbeats 8000000 in
theorem w10open_any {Z : Nat → Option Obj} {B : Nat} {w0 w : World} {X r : Nat} {fp : Nat → Prop} {M : Dk.Md} {d0 d1 d2 d3 : Value} {lo : Option Nat} {bl : Nat → Prop} {L LR : Lg.Md} {q0 q1 q2 q3 q4 q5 q6 q7 : Value} {a nn : Int} {ep : Nat} {n : Int}
    (h : Lg.W10 Z B w0 w X r fp M M d0 d1 d2 d3 lo bl L LR q0 q1 q2 q3 q4 q5 q6 q7 a nn ep n) (hq : Dk.waits M ≤ 1099511627775) (hnn : -9223372036854775808 ≤ nn ∧ nn ≤ 9223372036854775807) (hep : ep < 18446744073709551616) :
    Calls Tryz.prog 9 #[.pointer (some ⟨X, 0, none⟩)] w fun e w' => e = .returned (.bool true) ∧ Lg.Opn10 Z B w0 w' X r fp M d0 d1 d2 d3 a nn ep ∧ Dk.Turned (fun q => q = X) w w' := by
  have HW := Lib.hid h
  have HQ := Lib.hid hq
  have hlen : M.lasts.length ≤ 4096 := h.disk.disk.ok.n.2
  obtain ⟨E, hE⟩ : ∃ E, E = Lg.openErr M a nn ep := ⟨_, rfl⟩
  obtain ⟨LN, hLN⟩ : ∃ L, L = Lg.opened nn.toNat (Kp.sees M a) a ep := ⟨_, rfl⟩
  have FIN : Hid (E = 0 → Lg.Fine LN M a nn) := fun h0 => by
    have h1 := Lg.openErr_at (hE.symm.trans h0)
    have := Lg.opened_fine (f := Kp.sees M a) (n := nn.toNat) hep ⟨h1.1, by omega⟩ hlen (by omega)
    rw [← hLN, show ((nn.toNat : Nat) : Int) = nn by omega] at this
    exact this
  have OP : Hid (∀ wx, Dk.Own B w0 wx r fp M → Calls Tryz.prog 16 #[.pointer (some ⟨r, 0, none⟩), .int .i64 a, .int .i64 nn, .int .u64 (ep : Int)] wx fun e w' => ∃ (lo' : Option Nat) (bl' : Nat → Prop), e = .returned (.tuple #[Lg.lptr lo', .int .i64 E]) ∧ (Below wx.heap.size wx w' ∧ (lo' = none ↔ E ≠ 0) ∧ (∀ q, bl' q → wx.heap.size ≤ q ∧ q < w'.heap.size) ∧ ∀ k, lo' = some k → Lg.At B w' k r bl' LN)) := fun wx hx => by
    refine (lgOpen_any hx a nn ep hnn.2 hep).mono ?_
    rintro e w' ⟨hb, ⟨h1, rfl⟩ | ⟨h1, k, bl', rfl, h2, h3⟩⟩
    · refine ⟨none, fun _ => False, by rw [hE]; rfl, hb, ⟨fun _ => by rw [hE]; exact h1, fun _ => rfl⟩, fun q e => e.elim, fun k e => (by cases e)⟩
    · refine ⟨some k, bl', by rw [hE, h1]; rfl, hb, ⟨fun e => (by cases e), fun e => absurd (hE.trans h1) e⟩, fun q e => ⟨h3 q e, (h2.lt q e).2⟩, fun k' e => ?_⟩
      obtain rfl : k = k' := Option.some.inj e
      rw [hLN]; exact h2
  have RO : Hid (∀ wx fpx, Dk.RefAt wx fpx (.agg #[d0, d1, d2, d3]) M → Calls Tryz.prog 21 #[.agg #[d0, d1, d2, d3], .int .i64 a, .int .i64 nn, .int .u64 (ep : Int)] wx fun e w' => ∃ (v0 v1 v2 : Int) (vA : Option Addr) (vn vc : Nat) (v4 v5 v6 : Int) (v7 : Bool), e = .returned (.tuple #[.agg #[.int .i64 v0, .int .i64 v1, .int .u64 v2, .slice vA vn vc, .int .i64 v4, .int .u64 v5, .int .u64 v6, .bool v7], .int .i64 E]) ∧ (Below wx.heap.size wx w' ∧ (E = 0 → Lg.RefAt w' (fun q => q < wx.heap.size) a nn (.agg #[.int .i64 v0, .int .i64 v1, .int .u64 v2, .slice vA vn vc, .int .i64 v4, .int .u64 v5, .int .u64 v6, .bool v7]) LN))) := fun wx fpx hx => by
    refine (r10Open_any hx hq hlen a nn ep hnn hep).mono ?_
    rintro e w' ⟨hb, ⟨h1, rfl⟩ | ⟨h1, v', rfl, h2⟩⟩
    · exact ⟨0, 0, 0, none, 0, 0, 0, 0, 0, false, by rw [hE]; rfl, hb, fun e => absurd (hE.symm.trans e) h1⟩
    · obtain ⟨rA, rc, us, hv, h3⟩ := id h2
      obtain ⟨v0, v1, v2, vA, vn, vc, v4, v5, v6, v7, hlv⟩ := Lg.lv_eight a nn (Lg.opened nn.toNat (Kp.sees M a) a ep) rA rc us
      rw [hlv] at hv
      subst hv
      exact ⟨v0, v1, v2, vA, vn, vc, v4, v5, v6, v7, by rw [hE, h1], hb, fun _ => by rw [hLN]; exact h2⟩
  obtain ⟨dl, hdl⟩ : ∃ q : List Value, q = [d0, d1, d2, d3] := ⟨_, rfl⟩
  have hda : dl.toArray = #[d0, d1, d2, d3] := by rw [hdl]
  have hdl4 : dl.length = 4 := by rw [hdl]; rfl
  have HDL := Lib.hid hdl
  have HDA := Lib.hid hda
  rw [← hda] at RO
  have GD := h.low' ((Below.refl _ w).drew)
  obtain ⟨lp, hlp⟩ : ∃ v, v = Lg.lptr lo := ⟨_, rfl⟩
  have hb := GD.box
  rw [← hlp] at hb
  have HB0 := Lib.hid hb
  have HGD := Lib.hid GD
  have HLP := Lib.hid hlp
  clear h hq hlen hE hLN hda hdl GD hb hlp
  go_enter Tryz.func9, Tryz.ntmps9
  go_upto_region 1 with (fail)
  refine wp_region_held_drew (S := (fun w' => w'.heap[X]? = some (.cells #[.pointer (some ⟨r, 0, none⟩), lp, d0, d1, d2, d3, q0, q1, q2, q3, q4, q5, q6, q7, .int .i64 a, .int .i64 nn, .int .u64 (ep : Nat), .int .i64 n] 41 (0, 0)))) (by kernel_rfl) HB0.out (fun hHeld => ?_)
  refine wpAnyH_take (i := 0) (oi := ⟨some 8, _, _, _, _, _⟩) (v := .pointer (some ⟨X, 0, none⟩)) rfl (by kernel_rfl) (by kernel_rfl) (by kernel_rfl) (fun _ _ _ h => h) (Or.inl ⟨by rfl, ?_⟩) (by assumption) ?_
  · intro w hSw; (try dsimp only at hSw); go_simp
  simp only [Act.put, List.setIfInBounds_toArray, List.set_cons_zero, List.set_cons_succ]
  refine wpAnyH_take (i := 1) (oi := ⟨some 9, _, _, _, _, _⟩) (v := .pointer (some ⟨X, 0, none⟩)) rfl (by kernel_rfl) (by kernel_rfl) (by kernel_rfl) (fun _ _ _ h => h) (Or.inl ⟨by rfl, ?_⟩) (by assumption) ?_
  · intro w hSw; (try dsimp only at hSw); go_simp
  simp only [Act.put, List.setIfInBounds_toArray, List.set_cons_zero, List.set_cons_succ]
  refine wpAnyH_take (i := 2) (oi := ⟨some 10, _, _, _, _, _⟩) (v := .pointer (some ⟨X, 0, none⟩)) rfl (by kernel_rfl) (by kernel_rfl) (by kernel_rfl) (fun _ _ _ h => h) (Or.inl ⟨by rfl, ?_⟩) (by assumption) ?_
  · intro w hSw; (try dsimp only at hSw); go_simp
  simp only [Act.put, List.setIfInBounds_toArray, List.set_cons_zero, List.set_cons_succ]
  refine wpAnyH_take (i := 3) (oi := ⟨some 11, _, _, _, _, _⟩) (v := .pointer (some ⟨r, 0, none⟩)) rfl (by kernel_rfl) (by kernel_rfl) (by kernel_rfl) (fun _ _ _ h => h) (Or.inl ⟨by rfl, ?_⟩) (by assumption) ?_
  · intro w hSw; (try dsimp only at hSw); have hh := Sm.cells_of hSw 0 _ rfl; go_simp
  simp only [Act.put, List.setIfInBounds_toArray, List.set_cons_zero, List.set_cons_succ]
  refine wpAnyH_take (i := 4) (oi := ⟨some 12, _, _, _, _, _⟩) (v := .pointer (some ⟨X, 0, none⟩)) rfl (by kernel_rfl) (by kernel_rfl) (by kernel_rfl) (fun _ _ _ h => h) (Or.inl ⟨by rfl, ?_⟩) (by assumption) ?_
  · intro w hSw; (try dsimp only at hSw); go_simp
  simp only [Act.put, List.setIfInBounds_toArray, List.set_cons_zero, List.set_cons_succ]
  refine wpAnyH_take (i := 5) (oi := ⟨some 13, _, _, _, _, _⟩) (v := .pointer (some ⟨X, 0, none⟩)) rfl (by kernel_rfl) (by kernel_rfl) (by kernel_rfl) (fun _ _ _ h => h) (Or.inl ⟨by rfl, ?_⟩) (by assumption) ?_
  · intro w hSw; (try dsimp only at hSw); go_simp
  simp only [Act.put, List.setIfInBounds_toArray, List.set_cons_zero, List.set_cons_succ]
  refine wpAnyH_take (i := 6) (oi := ⟨some 14, _, _, _, _, _⟩) (v := .pointer (some ⟨X, 14, none⟩)) rfl (by kernel_rfl) (by kernel_rfl) (by kernel_rfl) (fun _ _ _ h => h) (Or.inl ⟨by rfl, ?_⟩) (by assumption) ?_
  · intro w hSw; (try dsimp only at hSw); go_simp
  simp only [Act.put, List.setIfInBounds_toArray, List.set_cons_zero, List.set_cons_succ]
  refine wpAnyH_take (i := 7) (oi := ⟨some 15, _, _, _, _, _⟩) (v := .int .i64 a) rfl (by kernel_rfl) (by kernel_rfl) (by kernel_rfl) (fun _ _ _ h => h) (Or.inl ⟨by rfl, ?_⟩) (by assumption) ?_
  · intro w hSw; (try dsimp only at hSw); have hh := Sm.cells_of hSw 14 _ rfl; go_simp
  simp only [Act.put, List.setIfInBounds_toArray, List.set_cons_zero, List.set_cons_succ]
  refine wpAnyH_take (i := 8) (oi := ⟨some 16, _, _, _, _, _⟩) (v := .pointer (some ⟨X, 0, none⟩)) rfl (by kernel_rfl) (by kernel_rfl) (by kernel_rfl) (fun _ _ _ h => h) (Or.inl ⟨by rfl, ?_⟩) (by assumption) ?_
  · intro w hSw; (try dsimp only at hSw); go_simp
  simp only [Act.put, List.setIfInBounds_toArray, List.set_cons_zero, List.set_cons_succ]
  refine wpAnyH_take (i := 9) (oi := ⟨some 17, _, _, _, _, _⟩) (v := .pointer (some ⟨X, 0, none⟩)) rfl (by kernel_rfl) (by kernel_rfl) (by kernel_rfl) (fun _ _ _ h => h) (Or.inl ⟨by rfl, ?_⟩) (by assumption) ?_
  · intro w hSw; (try dsimp only at hSw); go_simp
  simp only [Act.put, List.setIfInBounds_toArray, List.set_cons_zero, List.set_cons_succ]
  refine wpAnyH_take (i := 10) (oi := ⟨some 18, _, _, _, _, _⟩) (v := .pointer (some ⟨X, 15, none⟩)) rfl (by kernel_rfl) (by kernel_rfl) (by kernel_rfl) (fun _ _ _ h => h) (Or.inl ⟨by rfl, ?_⟩) (by assumption) ?_
  · intro w hSw; (try dsimp only at hSw); go_simp
  simp only [Act.put, List.setIfInBounds_toArray, List.set_cons_zero, List.set_cons_succ]
  refine wpAnyH_take (i := 11) (oi := ⟨some 19, _, _, _, _, _⟩) (v := .int .i64 nn) rfl (by kernel_rfl) (by kernel_rfl) (by kernel_rfl) (fun _ _ _ h => h) (Or.inl ⟨by rfl, ?_⟩) (by assumption) ?_
  · intro w hSw; (try dsimp only at hSw); have hh := Sm.cells_of hSw 15 _ rfl; go_simp
  simp only [Act.put, List.setIfInBounds_toArray, List.set_cons_zero, List.set_cons_succ]
  refine wpAnyH_take (i := 12) (oi := ⟨some 20, _, _, _, _, _⟩) (v := .pointer (some ⟨X, 0, none⟩)) rfl (by kernel_rfl) (by kernel_rfl) (by kernel_rfl) (fun _ _ _ h => h) (Or.inl ⟨by rfl, ?_⟩) (by assumption) ?_
  · intro w hSw; (try dsimp only at hSw); go_simp
  simp only [Act.put, List.setIfInBounds_toArray, List.set_cons_zero, List.set_cons_succ]
  refine wpAnyH_take (i := 13) (oi := ⟨some 21, _, _, _, _, _⟩) (v := .pointer (some ⟨X, 0, none⟩)) rfl (by kernel_rfl) (by kernel_rfl) (by kernel_rfl) (fun _ _ _ h => h) (Or.inl ⟨by rfl, ?_⟩) (by assumption) ?_
  · intro w hSw; (try dsimp only at hSw); go_simp
  simp only [Act.put, List.setIfInBounds_toArray, List.set_cons_zero, List.set_cons_succ]
  refine wpAnyH_take (i := 14) (oi := ⟨some 22, _, _, _, _, _⟩) (v := .pointer (some ⟨X, 16, none⟩)) rfl (by kernel_rfl) (by kernel_rfl) (by kernel_rfl) (fun _ _ _ h => h) (Or.inl ⟨by rfl, ?_⟩) (by assumption) ?_
  · intro w hSw; (try dsimp only at hSw); go_simp
  simp only [Act.put, List.setIfInBounds_toArray, List.set_cons_zero, List.set_cons_succ]
  refine wpAnyH_take (i := 15) (oi := ⟨some 23, _, _, _, _, _⟩) (v := .int .u64 (ep : Int)) rfl (by kernel_rfl) (by kernel_rfl) (by kernel_rfl) (fun _ _ _ h => h) (Or.inl ⟨by rfl, ?_⟩) (by assumption) ?_
  · intro w hSw; (try dsimp only at hSw); have hh := Sm.cells_of hSw 16 _ rfl; go_simp
  simp only [Act.put, List.setIfInBounds_toArray, List.set_cons_zero, List.set_cons_succ]
  refine wpAnyH_ready (rs := [16]) (by kernel_rfl) (by simp) ?_
  refine (AllReadyH.cons (o := ⟨some 24, _, _, _, _, _⟩) rfl (fun K hK => ?_) AllReadyH.nil)
  go_simp
  refine (OP.out _ HGD.out.disk).mono ?_
  rintro e w1 ⟨lo', bl', rfl, h1⟩
  have H1 := Lib.hid h1
  have G1 := Lib.hid (HGD.out.low' h1.1)
  clear h1
  obtain ⟨po, hlq⟩ : ∃ v : Option Addr, Value.pointer v = Lg.lptr lo' := ⟨_, rfl⟩
  rw [← hlq]
  have HLQ := Lib.hid hlq
  clear hlq
  refine hK.out _ _ ((H1.out.1.block X (Sm.lt_of HB0.out)).trans HB0.out) (fun hHeld => ?_)
  clear hK K
  refine wpAnyH_take (i := 17) (oi := ⟨some 7, _, _, _, _, _⟩) (v := .tuple #[.pointer po, .int .i64 E]) rfl (by kernel_rfl) (by kernel_rfl) (by kernel_rfl) (fun _ _ _ h => h) (Or.inl ⟨by rfl, ?_⟩) (by assumption) ?_
  · intro w hSw; (try dsimp only at hSw); go_simp
  simp only [Act.put, List.setIfInBounds_toArray, List.set_cons_zero, List.set_cons_succ]
  refine wpAnyH_take (i := 18) (oi := ⟨some 25, _, _, _, _, _⟩) (v := .pointer po) rfl (by kernel_rfl) (by kernel_rfl) (by kernel_rfl) (fun _ _ _ h => h) (Or.inl ⟨by rfl, ?_⟩) (by assumption) ?_
  · intro w hSw; (try dsimp only at hSw); go_simp
  simp only [Act.put, List.setIfInBounds_toArray, List.set_cons_zero, List.set_cons_succ]
  refine wpAnyH_take (i := 19) (oi := ⟨some 26, _, _, _, _, _⟩) (v := .int .i64 E) rfl (by kernel_rfl) (by kernel_rfl) (by kernel_rfl) (fun _ _ _ h => h) (Or.inl ⟨by rfl, ?_⟩) (by assumption) ?_
  · intro w hSw; (try dsimp only at hSw); go_simp
  simp only [Act.put, List.setIfInBounds_toArray, List.set_cons_zero, List.set_cons_succ]
  refine wpAnyH_take (i := 20) (oi := ⟨some 3, _, _, _, _, _⟩) (v := .pointer po) rfl (by kernel_rfl) (by kernel_rfl) (by kernel_rfl) (fun _ _ _ h => h) (Or.inl ⟨by rfl, ?_⟩) (by assumption) ?_
  · intro w hSw; (try dsimp only at hSw); go_simp
  simp only [Act.put, List.setIfInBounds_toArray, List.set_cons_zero, List.set_cons_succ]
  refine wpAnyH_take (i := 21) (oi := ⟨some 4, _, _, _, _, _⟩) (v := .int .i64 E) rfl (by kernel_rfl) (by kernel_rfl) (by kernel_rfl) (fun _ _ _ h => h) (Or.inl ⟨by rfl, ?_⟩) (by assumption) ?_
  · intro w hSw; (try dsimp only at hSw); go_simp
  simp only [Act.put, List.setIfInBounds_toArray, List.set_cons_zero, List.set_cons_succ]
  refine wpAnyH_done (by kernel_rfl) ?_ _
  clear hHeld
  go_upto_region 2 with (fail)
  have hb := (G1.out.low' ((Below.refl _ w1).drew)).box
  rw [← HLP.out] at hb
  have HB1 := Lib.hid hb
  clear hb
  go_cut [5, 6] from 27 (fun s5 s6 wx => ∃ (Q : Nat) (v0 v1 v2 : Int) (vA : Option Addr) (vn vc : Nat) (v4 v5 v6 : Int) (v7 : Bool), s5 = .pointer (some ⟨Q, 0, none⟩) ∧ s6 = .int .i64 E ∧ (wx.heap[Q]? = some (.cells #[.int .i64 v0, .int .i64 v1, .int .u64 v2, .slice vA vn vc, .int .i64 v4, .int .u64 v5, .int .u64 v6, .bool v7] 39 (0, 0)) ∧ w1.heap.size ≤ Q ∧ Below w1.heap.size w1 wx ∧ (E = 0 → Lg.RefAt wx (fun q => q < w1.heap.size) a nn (.agg #[.int .i64 v0, .int .i64 v1, .int .u64 v2, .slice vA vn vc, .int .i64 v4, .int .u64 v5, .int .u64 v6, .bool v7]) LN)))
  case first =>
    refine wp_region_held_drew (S := (fun w' => w'.heap[X]? = some (.cells #[.pointer (some ⟨r, 0, none⟩), lp, d0, d1, d2, d3, q0, q1, q2, q3, q4, q5, q6, q7, .int .i64 a, .int .i64 nn, .int .u64 (ep : Nat), .int .i64 n] 41 (0, 0)))) (by kernel_rfl) HB1.out (fun hHeld => ?_)
    generalize hwd : w1.drew = wd at *
    have BD : Hid (Below w1.heap.size w1 wd) := by rw [← hwd]; exact (Below.refl _ w1).drew
    have HR : Hid (Dk.RefAt wd (fun q => fp q ∨ q = X ∨ bl q) (.agg dl.toArray) M) := by rw [HDA.out, ← hwd]; exact (G1.out.low' ((Below.refl _ w1).drew)).ref
    clear hwd
    refine wpAnyH_take (i := 0) (oi := ⟨some 28, _, _, _, _, _⟩) (v := .pointer (some ⟨X, 0, none⟩)) rfl (by kernel_rfl) (by kernel_rfl) (by kernel_rfl) (fun _ _ _ h => h) (Or.inl ⟨by rfl, ?_⟩) (by assumption) ?_
    · intro w hSw; (try dsimp only at hSw); go_simp
    simp only [Act.put, List.setIfInBounds_toArray, List.set_cons_zero, List.set_cons_succ]
    refine wpAnyH_take (i := 1) (oi := ⟨some 29, _, _, _, _, _⟩) (v := .pointer (some ⟨X, 0, none⟩)) rfl (by kernel_rfl) (by kernel_rfl) (by kernel_rfl) (fun _ _ _ h => h) (Or.inl ⟨by rfl, ?_⟩) (by assumption) ?_
    · intro w hSw; (try dsimp only at hSw); go_simp
    simp only [Act.put, List.setIfInBounds_toArray, List.set_cons_zero, List.set_cons_succ]
    refine wpAnyH_take (i := 2) (oi := ⟨some 30, _, _, _, _, _⟩) (v := .pointer (some ⟨X, 2, none⟩)) rfl (by kernel_rfl) (by kernel_rfl) (by kernel_rfl) (fun _ _ _ h => h) (Or.inl ⟨by rfl, ?_⟩) (by assumption) ?_
    · intro w hSw; (try dsimp only at hSw); go_simp
    simp only [Act.put, List.setIfInBounds_toArray, List.set_cons_zero, List.set_cons_succ]
    refine wpAnyH_take (i := 3) (oi := ⟨some 31, _, _, _, _, _⟩) (v := .agg dl.toArray) rfl (by kernel_rfl) (by kernel_rfl) (by kernel_rfl) (fun _ _ _ h => h) (yieldsIf_load_mid (by rfl) _ _ rfl _ _ rfl dl _ (fun w hS => (by rw [HDL.out]; exact Lg.rowD hS)) Tryz.underlying33 rfl (Lg.info_dsk7 hdl4)) (by assumption) ?_
    simp only [Act.put, List.setIfInBounds_toArray, List.set_cons_zero, List.set_cons_succ]
    refine wpAnyH_take (i := 4) (oi := ⟨some 32, _, _, _, _, _⟩) (v := .pointer (some ⟨X, 0, none⟩)) rfl (by kernel_rfl) (by kernel_rfl) (by kernel_rfl) (fun _ _ _ h => h) (Or.inl ⟨by rfl, ?_⟩) (by assumption) ?_
    · intro w hSw; (try dsimp only at hSw); go_simp
    simp only [Act.put, List.setIfInBounds_toArray, List.set_cons_zero, List.set_cons_succ]
    refine wpAnyH_take (i := 5) (oi := ⟨some 33, _, _, _, _, _⟩) (v := .pointer (some ⟨X, 0, none⟩)) rfl (by kernel_rfl) (by kernel_rfl) (by kernel_rfl) (fun _ _ _ h => h) (Or.inl ⟨by rfl, ?_⟩) (by assumption) ?_
    · intro w hSw; (try dsimp only at hSw); go_simp
    simp only [Act.put, List.setIfInBounds_toArray, List.set_cons_zero, List.set_cons_succ]
    refine wpAnyH_take (i := 6) (oi := ⟨some 34, _, _, _, _, _⟩) (v := .pointer (some ⟨X, 14, none⟩)) rfl (by kernel_rfl) (by kernel_rfl) (by kernel_rfl) (fun _ _ _ h => h) (Or.inl ⟨by rfl, ?_⟩) (by assumption) ?_
    · intro w hSw; (try dsimp only at hSw); go_simp
    simp only [Act.put, List.setIfInBounds_toArray, List.set_cons_zero, List.set_cons_succ]
    refine wpAnyH_take (i := 7) (oi := ⟨some 35, _, _, _, _, _⟩) (v := .int .i64 a) rfl (by kernel_rfl) (by kernel_rfl) (by kernel_rfl) (fun _ _ _ h => h) (Or.inl ⟨by rfl, ?_⟩) (by assumption) ?_
    · intro w hSw; (try dsimp only at hSw); have hh := Sm.cells_of hSw 14 _ rfl; go_simp
    simp only [Act.put, List.setIfInBounds_toArray, List.set_cons_zero, List.set_cons_succ]
    refine wpAnyH_take (i := 8) (oi := ⟨some 36, _, _, _, _, _⟩) (v := .pointer (some ⟨X, 0, none⟩)) rfl (by kernel_rfl) (by kernel_rfl) (by kernel_rfl) (fun _ _ _ h => h) (Or.inl ⟨by rfl, ?_⟩) (by assumption) ?_
    · intro w hSw; (try dsimp only at hSw); go_simp
    simp only [Act.put, List.setIfInBounds_toArray, List.set_cons_zero, List.set_cons_succ]
    refine wpAnyH_take (i := 9) (oi := ⟨some 37, _, _, _, _, _⟩) (v := .pointer (some ⟨X, 0, none⟩)) rfl (by kernel_rfl) (by kernel_rfl) (by kernel_rfl) (fun _ _ _ h => h) (Or.inl ⟨by rfl, ?_⟩) (by assumption) ?_
    · intro w hSw; (try dsimp only at hSw); go_simp
    simp only [Act.put, List.setIfInBounds_toArray, List.set_cons_zero, List.set_cons_succ]
    refine wpAnyH_take (i := 10) (oi := ⟨some 38, _, _, _, _, _⟩) (v := .pointer (some ⟨X, 15, none⟩)) rfl (by kernel_rfl) (by kernel_rfl) (by kernel_rfl) (fun _ _ _ h => h) (Or.inl ⟨by rfl, ?_⟩) (by assumption) ?_
    · intro w hSw; (try dsimp only at hSw); go_simp
    simp only [Act.put, List.setIfInBounds_toArray, List.set_cons_zero, List.set_cons_succ]
    refine wpAnyH_take (i := 11) (oi := ⟨some 39, _, _, _, _, _⟩) (v := .int .i64 nn) rfl (by kernel_rfl) (by kernel_rfl) (by kernel_rfl) (fun _ _ _ h => h) (Or.inl ⟨by rfl, ?_⟩) (by assumption) ?_
    · intro w hSw; (try dsimp only at hSw); have hh := Sm.cells_of hSw 15 _ rfl; go_simp
    simp only [Act.put, List.setIfInBounds_toArray, List.set_cons_zero, List.set_cons_succ]
    refine wpAnyH_take (i := 12) (oi := ⟨some 40, _, _, _, _, _⟩) (v := .pointer (some ⟨X, 0, none⟩)) rfl (by kernel_rfl) (by kernel_rfl) (by kernel_rfl) (fun _ _ _ h => h) (Or.inl ⟨by rfl, ?_⟩) (by assumption) ?_
    · intro w hSw; (try dsimp only at hSw); go_simp
    simp only [Act.put, List.setIfInBounds_toArray, List.set_cons_zero, List.set_cons_succ]
    refine wpAnyH_take (i := 13) (oi := ⟨some 41, _, _, _, _, _⟩) (v := .pointer (some ⟨X, 0, none⟩)) rfl (by kernel_rfl) (by kernel_rfl) (by kernel_rfl) (fun _ _ _ h => h) (Or.inl ⟨by rfl, ?_⟩) (by assumption) ?_
    · intro w hSw; (try dsimp only at hSw); go_simp
    simp only [Act.put, List.setIfInBounds_toArray, List.set_cons_zero, List.set_cons_succ]
    refine wpAnyH_take (i := 14) (oi := ⟨some 42, _, _, _, _, _⟩) (v := .pointer (some ⟨X, 16, none⟩)) rfl (by kernel_rfl) (by kernel_rfl) (by kernel_rfl) (fun _ _ _ h => h) (Or.inl ⟨by rfl, ?_⟩) (by assumption) ?_
    · intro w hSw; (try dsimp only at hSw); go_simp
    simp only [Act.put, List.setIfInBounds_toArray, List.set_cons_zero, List.set_cons_succ]
    refine wpAnyH_take (i := 15) (oi := ⟨some 43, _, _, _, _, _⟩) (v := .int .u64 (ep : Int)) rfl (by kernel_rfl) (by kernel_rfl) (by kernel_rfl) (fun _ _ _ h => h) (Or.inl ⟨by rfl, ?_⟩) (by assumption) ?_
    · intro w hSw; (try dsimp only at hSw); have hh := Sm.cells_of hSw 16 _ rfl; go_simp
    simp only [Act.put, List.setIfInBounds_toArray, List.set_cons_zero, List.set_cons_succ]
    refine wpAnyH_ready (rs := [16, 20]) (by kernel_rfl) (by simp) ?_
    refine (AllReadyH.cons (o := ⟨some 44, _, _, _, _, _⟩) rfl (fun K hK => ?_) (AllReadyH.cons (o := ⟨some 5, _, _, _, _, _⟩) rfl (fun K hK => ?_) AllReadyH.nil))
    · go_simp
      refine (RO.out _ _ HR.out).mono ?_
      rintro e u1 ⟨v0, v1, v2, vA, vn, vc, v4, v5, v6, v7, rfl, k1, href⟩
      have hX1 := (k1.block X (Sm.lt_of HB1.out)).trans HB1.out
      refine hK.out _ _ hX1 (fun hHeld => ?_)
      clear hK K
      refine wpAnyH_take (i := 17) (oi := ⟨some 27, _, _, _, _, _⟩) (v := .tuple #[.agg #[.int .i64 v0, .int .i64 v1, .int .u64 v2, .slice vA vn vc, .int .i64 v4, .int .u64 v5, .int .u64 v6, .bool v7], .int .i64 E]) rfl (by kernel_rfl) (by kernel_rfl) (by kernel_rfl) (fun _ _ _ h => h) (Or.inl ⟨by rfl, ?_⟩) (by assumption) ?_
      · intro w hSw; (try dsimp only at hSw); go_simp
      simp only [Act.put, List.setIfInBounds_toArray, List.set_cons_zero, List.set_cons_succ]
      refine wpAnyH_take (i := 18) (oi := ⟨some 45, _, _, _, _, _⟩) (v := .agg #[.int .i64 v0, .int .i64 v1, .int .u64 v2, .slice vA vn vc, .int .i64 v4, .int .u64 v5, .int .u64 v6, .bool v7]) rfl (by kernel_rfl) (by kernel_rfl) (by kernel_rfl) (fun _ _ _ h => h) (Or.inl ⟨by rfl, ?_⟩) (by assumption) ?_
      · intro w hSw; (try dsimp only at hSw); go_simp
      simp only [Act.put, List.setIfInBounds_toArray, List.set_cons_zero, List.set_cons_succ]
      refine wpAnyH_take (i := 19) (oi := ⟨some 46, _, _, _, _, _⟩) (v := .int .i64 E) rfl (by kernel_rfl) (by kernel_rfl) (by kernel_rfl) (fun _ _ _ h => h) (Or.inl ⟨by rfl, ?_⟩) (by assumption) ?_
      · intro w hSw; (try dsimp only at hSw); go_simp
      simp only [Act.put, List.setIfInBounds_toArray, List.set_cons_zero, List.set_cons_succ]
      refine wpAnyH_ready (rs := [20]) (by kernel_rfl) (by simp) ?_
      refine (AllReadyH.cons (o := ⟨some 5, _, _, _, _, _⟩) rfl (fun K hK => ?_) AllReadyH.nil)
      rw [if_pos (by simp [Region.wanted])]
      go_simp
      have al := heap_alloc_new u1 (.cells #[.int .i64 0, .int .i64 0, .int .u64 0, .slice none 0 0, .int .i64 0, .int .u64 0, .int .u64 0, .bool false] 39)
      have ka : Below u1.heap.size u1 (u1.alloc (.cells #[.int .i64 0, .int .i64 0, .int .u64 0, .slice none 0 0, .int .i64 0, .int .u64 0, .int .u64 0, .bool false] 39)) := (Below.refl _ u1).alloc (Nat.le_refl _) _
      have hX2 := (ka.block X (Sm.lt_of hX1)).trans hX1
      have hQX : X ≠ u1.heap.size := by have := Sm.lt_of hX1; omega
      obtain ⟨Q, hQ⟩ : ∃ Q, Q = u1.heap.size := ⟨_, rfl⟩
      rw [← hQ] at al hQX ⊢
      have hQu : u1.heap.size ≤ Q := Nat.le_of_eq hQ.symm
      have hQv : Q ≤ u1.heap.size := Nat.le_of_eq hQ
      clear hQ
      generalize u1.alloc (.cells #[.int .i64 0, .int .i64 0, .int .u64 0, .slice none 0 0, .int .i64 0, .int .u64 0, .int .u64 0, .bool false] 39) = u2 at *
      refine hK.out _ _ hX2 (fun hHeld => ?_)
      clear hK K
      refine wpAnyH_ready (rs := [21]) (by kernel_rfl) (by simp) ?_
      refine (AllReadyH.cons (o := ⟨none, _, _, _, _, _⟩) rfl (fun K hK => ?_) AllReadyH.nil)
      have z0 := Sm.cells_of al 0 _ rfl; have z1 := Sm.cells_of al 1 _ rfl; have z2 := Sm.cells_of al 2 _ rfl; have z3 := Sm.cells_of al 3 _ rfl; have z4 := Sm.cells_of al 4 _ rfl; have z5 := Sm.cells_of al 5 _ rfl; have z6 := Sm.cells_of al 6 _ rfl; have z7 := Sm.cells_of al 7 _ rfl
      have zf0 := Sm.free_of al 0; have zf1 := Sm.free_of al 1; have zf2 := Sm.free_of al 2; have zf3 := Sm.free_of al 3; have zf4 := Sm.free_of al 4; have zf5 := Sm.free_of al 5; have zf6 := Sm.free_of al 6; have zf7 := Sm.free_of al 7
      go_simp
      have hs8 := Lg.set8 al rfl (.int .i64 v0) (.int .i64 v1) (.int .u64 v2) (.slice vA vn vc) (.int .i64 v4) (.int .u64 v5) (.int .u64 v6) (.bool v7)
      have ht8 := Lg.turned8 u2 Q (.int .i64 v0) (.int .i64 v1) (.int .u64 v2) (.slice vA vn vc) (.int .i64 v4) (.int .u64 v5) (.int .u64 v6) (.bool v7)
      have hX3 := (Lg.set8_other u2 Q (.int .i64 v0) (.int .i64 v1) (.int .u64 v2) (.slice vA vn vc) (.int .i64 v4) (.int .u64 v5) (.int .u64 v6) (.bool v7) X hQX).trans hX2
      clear z0 z1 z2 z3 z4 z5 z6 z7 zf0 zf1 zf2 zf3 zf4 zf5 zf6 zf7
      generalize ((((((((u2.setCell ⟨Q, 0, none⟩ (.int .i64 v0)).setCell ⟨Q, 1, none⟩ (.int .i64 v1)).setCell ⟨Q, 2, none⟩ (.int .u64 v2)).setCell ⟨Q, 3, none⟩ (.slice vA vn vc)).setCell ⟨Q, 4, none⟩ (.int .i64 v4)).setCell ⟨Q, 5, none⟩ (.int .u64 v5)).setCell ⟨Q, 6, none⟩ (.int .u64 v6)).setCell ⟨Q, 7, none⟩ (.bool v7)) = u3 at *
      refine hK.out _ _ hX3 (fun hHeld => ?_)
      clear hK K
      refine wpAnyH_take (i := 22) (oi := ⟨some 6, _, _, _, _, _⟩) (v := .int .i64 E) rfl (by kernel_rfl) (by kernel_rfl) (by kernel_rfl) (fun _ _ _ h => h) (Or.inl ⟨by rfl, ?_⟩) (by assumption) ?_
      · intro w hSw; (try dsimp only at hSw); go_simp
      simp only [Act.put, List.setIfInBounds_toArray, List.set_cons_zero, List.set_cons_succ]
      refine wpAnyH_done (by kernel_rfl) ?_ _
      clear hHeld
      have hsz : w1.heap.size ≤ Q := by have h1 := BD.out.size; have h2 := k1.size; omega
      have hbw : Below w1.heap.size w1 u3 := (((BD.out.trans (k1.mono BD.out.size)).trans (ka.mono (by omega)))).trans (ht8.below (fun q e => by omega) (by have := ka.size; omega))
      have hrf : E = 0 → Lg.RefAt u3 (fun q => q < w1.heap.size) a nn (.agg #[.int .i64 v0, .int .i64 v1, .int .u64 v2, .slice vA vn vc, .int .i64 v4, .int .u64 v5, .int .u64 v6, .bool v7]) LN := fun h0 => ((((((href h0).turned (f' := fun q => q < wd.heap.size ∨ u1.heap.size ≤ q) (Dk.Turned.refl _ _) (fun q e => e)).low ka).turned (f' := fun q => q < wd.heap.size ∨ u1.heap.size ≤ q) (Lg.turned_more ht8 (fun q e => .inr (by omega))) (fun q e => .inl e))).off (f' := fun q => q < w1.heap.size) (fun q e => .inl (Nat.lt_of_lt_of_le e BD.out.size)))
      clear hHeld
      go_wp2_with fail
      go_meet
      exact ⟨Q, v0, v1, v2, vA, vn, vc, v4, v5, v6, v7, rfl, rfl, hs8, hsz, hbw, hrf⟩
    · rw [if_pos (by simp [Region.wanted])]
      go_simp
      have al := heap_alloc_new wd (.cells #[.int .i64 0, .int .i64 0, .int .u64 0, .slice none 0 0, .int .i64 0, .int .u64 0, .int .u64 0, .bool false] 39)
      have ka : Below wd.heap.size wd (wd.alloc (.cells #[.int .i64 0, .int .i64 0, .int .u64 0, .slice none 0 0, .int .i64 0, .int .u64 0, .int .u64 0, .bool false] 39)) := (Below.refl _ wd).alloc (Nat.le_refl _) _
      have hX1 := (ka.block X (Sm.lt_of HB1.out)).trans HB1.out
      have HR2 := HR.out.low ka
      have hQX : X ≠ wd.heap.size := by have := Sm.lt_of HB1.out; omega
      have hQw : w1.heap.size ≤ wd.heap.size := BD.out.size
      obtain ⟨Q, hQ⟩ : ∃ Q, Q = wd.heap.size := ⟨_, rfl⟩
      rw [← hQ] at al hQX hQw ⊢
      clear hQ
      have kq : Below w1.heap.size w1 (wd.alloc (.cells #[.int .i64 0, .int .i64 0, .int .u64 0, .slice none 0 0, .int .i64 0, .int .u64 0, .int .u64 0, .bool false] 39)) := BD.out.trans (ka.mono BD.out.size)
      generalize wd.alloc (.cells #[.int .i64 0, .int .i64 0, .int .u64 0, .slice none 0 0, .int .i64 0, .int .u64 0, .int .u64 0, .bool false] 39) = u1 at *
      refine hK.out _ _ hX1 (fun hHeld => ?_)
      clear hK K
      refine wpAnyH_ready (rs := [16]) (by kernel_rfl) (by simp) ?_
      refine (AllReadyH.cons (o := ⟨some 44, _, _, _, _, _⟩) rfl (fun K hK => ?_) AllReadyH.nil)
      go_simp
      refine (RO.out _ _ HR2).mono ?_
      rintro e u2 ⟨v0, v1, v2, vA, vn, vc, v4, v5, v6, v7, rfl, k1, href⟩
      have hX2 := (k1.block X (Sm.lt_of hX1)).trans hX1
      have al2 := (k1.block Q (Sm.lt_of al)).trans al
      refine hK.out _ _ hX2 (fun hHeld => ?_)
      clear hK K
      refine wpAnyH_take (i := 17) (oi := ⟨some 27, _, _, _, _, _⟩) (v := .tuple #[.agg #[.int .i64 v0, .int .i64 v1, .int .u64 v2, .slice vA vn vc, .int .i64 v4, .int .u64 v5, .int .u64 v6, .bool v7], .int .i64 E]) rfl (by kernel_rfl) (by kernel_rfl) (by kernel_rfl) (fun _ _ _ h => h) (Or.inl ⟨by rfl, ?_⟩) (by assumption) ?_
      · intro w hSw; (try dsimp only at hSw); go_simp
      simp only [Act.put, List.setIfInBounds_toArray, List.set_cons_zero, List.set_cons_succ]
      refine wpAnyH_take (i := 18) (oi := ⟨some 45, _, _, _, _, _⟩) (v := .agg #[.int .i64 v0, .int .i64 v1, .int .u64 v2, .slice vA vn vc, .int .i64 v4, .int .u64 v5, .int .u64 v6, .bool v7]) rfl (by kernel_rfl) (by kernel_rfl) (by kernel_rfl) (fun _ _ _ h => h) (Or.inl ⟨by rfl, ?_⟩) (by assumption) ?_
      · intro w hSw; (try dsimp only at hSw); go_simp
      simp only [Act.put, List.setIfInBounds_toArray, List.set_cons_zero, List.set_cons_succ]
      refine wpAnyH_take (i := 19) (oi := ⟨some 46, _, _, _, _, _⟩) (v := .int .i64 E) rfl (by kernel_rfl) (by kernel_rfl) (by kernel_rfl) (fun _ _ _ h => h) (Or.inl ⟨by rfl, ?_⟩) (by assumption) ?_
      · intro w hSw; (try dsimp only at hSw); go_simp
      simp only [Act.put, List.setIfInBounds_toArray, List.set_cons_zero, List.set_cons_succ]
      refine wpAnyH_ready (rs := [21]) (by kernel_rfl) (by simp) ?_
      refine (AllReadyH.cons (o := ⟨none, _, _, _, _, _⟩) rfl (fun K hK => ?_) AllReadyH.nil)
      have z0 := Sm.cells_of al2 0 _ rfl; have z1 := Sm.cells_of al2 1 _ rfl; have z2 := Sm.cells_of al2 2 _ rfl; have z3 := Sm.cells_of al2 3 _ rfl; have z4 := Sm.cells_of al2 4 _ rfl; have z5 := Sm.cells_of al2 5 _ rfl; have z6 := Sm.cells_of al2 6 _ rfl; have z7 := Sm.cells_of al2 7 _ rfl
      have zf0 := Sm.free_of al2 0; have zf1 := Sm.free_of al2 1; have zf2 := Sm.free_of al2 2; have zf3 := Sm.free_of al2 3; have zf4 := Sm.free_of al2 4; have zf5 := Sm.free_of al2 5; have zf6 := Sm.free_of al2 6; have zf7 := Sm.free_of al2 7
      go_simp
      have hs8 := Lg.set8 al2 rfl (.int .i64 v0) (.int .i64 v1) (.int .u64 v2) (.slice vA vn vc) (.int .i64 v4) (.int .u64 v5) (.int .u64 v6) (.bool v7)
      have ht8 := Lg.turned8 u2 Q (.int .i64 v0) (.int .i64 v1) (.int .u64 v2) (.slice vA vn vc) (.int .i64 v4) (.int .u64 v5) (.int .u64 v6) (.bool v7)
      have hX3 := (Lg.set8_other u2 Q (.int .i64 v0) (.int .i64 v1) (.int .u64 v2) (.slice vA vn vc) (.int .i64 v4) (.int .u64 v5) (.int .u64 v6) (.bool v7) X hQX).trans hX2
      clear z0 z1 z2 z3 z4 z5 z6 z7 zf0 zf1 zf2 zf3 zf4 zf5 zf6 zf7
      generalize ((((((((u2.setCell ⟨Q, 0, none⟩ (.int .i64 v0)).setCell ⟨Q, 1, none⟩ (.int .i64 v1)).setCell ⟨Q, 2, none⟩ (.int .u64 v2)).setCell ⟨Q, 3, none⟩ (.slice vA vn vc)).setCell ⟨Q, 4, none⟩ (.int .i64 v4)).setCell ⟨Q, 5, none⟩ (.int .u64 v5)).setCell ⟨Q, 6, none⟩ (.int .u64 v6)).setCell ⟨Q, 7, none⟩ (.bool v7)) = u3 at *
      refine hK.out _ _ hX3 (fun hHeld => ?_)
      clear hK K
      refine wpAnyH_take (i := 22) (oi := ⟨some 6, _, _, _, _, _⟩) (v := .int .i64 E) rfl (by kernel_rfl) (by kernel_rfl) (by kernel_rfl) (fun _ _ _ h => h) (Or.inl ⟨by rfl, ?_⟩) (by assumption) ?_
      · intro w hSw; (try dsimp only at hSw); go_simp
      simp only [Act.put, List.setIfInBounds_toArray, List.set_cons_zero, List.set_cons_succ]
      refine wpAnyH_done (by kernel_rfl) ?_ _
      clear hHeld
      have hlt : Q < u1.heap.size := Sm.lt_of al
      have hbw : Below w1.heap.size w1 u3 := (kq.trans (k1.mono kq.size)).trans (ht8.below (fun q e => by omega) (by have h1 := kq.size; have h2 := k1.size; omega))
      have hrf : E = 0 → Lg.RefAt u3 (fun q => q < w1.heap.size) a nn (.agg #[.int .i64 v0, .int .i64 v1, .int .u64 v2, .slice vA vn vc, .int .i64 v4, .int .u64 v5, .int .u64 v6, .bool v7]) LN := fun h0 => ((href h0).turned (Lg.turned_more ht8 (fun q e => by omega)) (fun q e => .inl e)).off (f' := fun q => q < w1.heap.size) (fun q e => by have := kq.size; omega)
      go_wp2_with fail
      go_meet
      exact ⟨Q, v0, v1, v2, vA, vn, vc, v4, v5, v6, v7, rfl, rfl, hs8, hQw, hbw, hrf⟩
  case rest =>
    obtain ⟨Q, v0, v1, v2, vA, vn, vc, v4, v5, v6, v7, rfl, rfl, hQ, hQw, hbw, hrf⟩ := hcut
    rename World => w3
    go_upto_region 3 with (fail)
    have hwX : X < w.heap.size := Sm.lt_of HW.out.box
    have hw1 : w.heap.size ≤ w1.heap.size := H1.out.1.size
    have hQX : Q ≠ X := by omega
    obtain ⟨vl, hvl⟩ : ∃ q : List Value, q = [.int .i64 v0, .int .i64 v1, .int .u64 v2, .slice vA vn vc, .int .i64 v4, .int .u64 v5, .int .u64 v6, .bool v7] := ⟨_, rfl⟩
    have hva : vl.toArray = #[.int .i64 v0, .int .i64 v1, .int .u64 v2, .slice vA vn vc, .int .i64 v4, .int .u64 v5, .int .u64 v6, .bool v7] := by rw [hvl]
    have hvl8 : vl.length = 8 := by rw [hvl]; rfl
    have HVA := Lib.hid hva
    have HRF := Lib.hid hrf
    have BD : Hid (Below w1.heap.size w1 w3.drew) := hbw.drew
    have BW : Hid (Below w.heap.size w w3.drew) := by
      have h0 : Below w.heap.size w w1 := ⟨H1.out.1.os, H1.out.1.tape, H1.out.1.output, H1.out.1.size, H1.out.1.block⟩
      exact h0.trans (BD.out.mono h0.size)
    have hd : w3.drew.heap[Q]? = some (.cells vl.toArray 39 (0, 0)) := by rw [hva]; exact hQ
    have hb := (G1.out.low' BD.out).box
    rw [← HLP.out] at hb
    have HD := Lib.hid hd
    have HB3 := Lib.hid hb
    have RF3 : Hid (E = 0 → Lg.RefAt w3.drew (fun q => q < w1.heap.size) a nn (.agg #[.int .i64 v0, .int .i64 v1, .int .u64 v2, .slice vA vn vc, .int .i64 v4, .int .u64 v5, .int .u64 v6, .bool v7]) LN) := fun h0 => (hrf h0).low ((Below.refl _ w3).drew)
    have x1 := Sm.cells_of hb 1 _ rfl; have x6 := Sm.cells_of hb 6 _ rfl; have x7 := Sm.cells_of hb 7 _ rfl; have x8 := Sm.cells_of hb 8 _ rfl; have x9 := Sm.cells_of hb 9 _ rfl; have x10 := Sm.cells_of hb 10 _ rfl; have x11 := Sm.cells_of hb 11 _ rfl; have x12 := Sm.cells_of hb 12 _ rfl; have x13 := Sm.cells_of hb 13 _ rfl; have x17 := Sm.cells_of hb 17 _ rfl
    have xf1 := Sm.free_of hb 1; have xf6 := Sm.free_of hb 6; have xf7 := Sm.free_of hb 7; have xf8 := Sm.free_of hb 8; have xf9 := Sm.free_of hb 9; have xf10 := Sm.free_of hb 10; have xf11 := Sm.free_of hb 11; have xf12 := Sm.free_of hb 12; have xf13 := Sm.free_of hb 13; have xf17 := Sm.free_of hb 17
    clear hvl hva hrf hbw hb hQ
    refine wp_region_held_drew (S := (fun w' => w'.heap[Q]? = some (.cells vl.toArray 39 (0, 0)))) (by kernel_rfl) hd (fun hHeld => ?_)
    clear hd
    generalize w3.drew = wd at *
    refine wpAnyH_take (i := 0) (oi := ⟨some 47, _, _, _, _, _⟩) (v := .pointer (some ⟨X, 0, none⟩)) rfl (by kernel_rfl) (by kernel_rfl) (by kernel_rfl) (fun _ _ _ h => h) (Or.inl ⟨by rfl, ?_⟩) (by assumption) ?_
    · intro w hSw; (try dsimp only at hSw); go_simp
    simp only [Act.put, List.setIfInBounds_toArray, List.set_cons_zero, List.set_cons_succ]
    refine wpAnyH_take (i := 1) (oi := ⟨some 48, _, _, _, _, _⟩) (v := .pointer (some ⟨X, 0, none⟩)) rfl (by kernel_rfl) (by kernel_rfl) (by kernel_rfl) (fun _ _ _ h => h) (Or.inl ⟨by rfl, ?_⟩) (by assumption) ?_
    · intro w hSw; (try dsimp only at hSw); go_simp
    simp only [Act.put, List.setIfInBounds_toArray, List.set_cons_zero, List.set_cons_succ]
    refine wpAnyH_take (i := 2) (oi := ⟨some 49, _, _, _, _, _⟩) (v := .pointer (some ⟨X, 0, none⟩)) rfl (by kernel_rfl) (by kernel_rfl) (by kernel_rfl) (fun _ _ _ h => h) (Or.inl ⟨by rfl, ?_⟩) (by assumption) ?_
    · intro w hSw; (try dsimp only at hSw); go_simp
    simp only [Act.put, List.setIfInBounds_toArray, List.set_cons_zero, List.set_cons_succ]
    refine wpAnyH_take (i := 3) (oi := ⟨some 50, _, _, _, _, _⟩) (v := .pointer po) rfl (by kernel_rfl) (by kernel_rfl) (by kernel_rfl) (fun _ _ _ h => h) (Or.inl ⟨by rfl, ?_⟩) (by assumption) ?_
    · intro w hSw; (try dsimp only at hSw); go_simp
    simp only [Act.put, List.setIfInBounds_toArray, List.set_cons_zero, List.set_cons_succ]
    refine wpAnyH_take (i := 4) (oi := ⟨some 51, _, _, _, _, _⟩) (v := .agg vl.toArray) rfl (by kernel_rfl) (by kernel_rfl) (by kernel_rfl) (fun _ _ _ h => h) (yieldsIf_load_mid (by rfl) _ _ rfl _ _ rfl vl _ (fun w hS => Sm.range_row hS) Tryz.underlying39 rfl (Lg.info_log10 hvl8)) (by assumption) ?_
    simp only [Act.put, List.setIfInBounds_toArray, List.set_cons_zero, List.set_cons_succ]
    refine wpAnyH_take (i := 5) (oi := ⟨some 52, _, _, _, _, _⟩) (v := .int .i64 E) rfl (by kernel_rfl) (by kernel_rfl) (by kernel_rfl) (fun _ _ _ h => h) (Or.inl ⟨by rfl, ?_⟩) (by assumption) ?_
    · intro w hSw; (try dsimp only at hSw); go_simp
    simp only [Act.put, List.setIfInBounds_toArray, List.set_cons_zero, List.set_cons_succ]
    refine wpAnyH_take (i := 6) (oi := ⟨some 53, _, _, _, _, _⟩) (v := .pointer (some ⟨X, 0, none⟩)) rfl (by kernel_rfl) (by kernel_rfl) (by kernel_rfl) (fun _ _ _ h => h) (Or.inl ⟨by rfl, ?_⟩) (by assumption) ?_
    · intro w hSw; (try dsimp only at hSw); go_simp
    simp only [Act.put, List.setIfInBounds_toArray, List.set_cons_zero, List.set_cons_succ]
    refine wpAnyH_take (i := 7) (oi := ⟨some 54, _, _, _, _, _⟩) (v := .pointer (some ⟨X, 1, none⟩)) rfl (by kernel_rfl) (by kernel_rfl) (by kernel_rfl) (fun _ _ _ h => h) (Or.inl ⟨by rfl, ?_⟩) (by assumption) ?_
    · intro w hSw; (try dsimp only at hSw); go_simp
    simp only [Act.put, List.setIfInBounds_toArray, List.set_cons_zero, List.set_cons_succ]
    refine wpAnyH_ready (rs := [8]) (by kernel_rfl) (by simp) ?_
    refine (AllReadyH.cons (o := ⟨none, _, _, _, _, _⟩) rfl (fun K hK => ?_) AllReadyH.nil)
    go_simp
    refine hK.out _ _ ((Below.heap_setCell _ ⟨X, 1, none⟩ _ _ hQX).trans HD.out) (fun hHeld => ?_)
    clear hK K
    refine wpAnyH_take (i := 9) (oi := ⟨some 55, _, _, _, _, _⟩) (v := .pointer (some ⟨X, 0, none⟩)) rfl (by kernel_rfl) (by kernel_rfl) (by kernel_rfl) (fun _ _ _ h => h) (Or.inl ⟨by rfl, ?_⟩) (by assumption) ?_
    · intro w hSw; (try dsimp only at hSw); go_simp
    simp only [Act.put, List.setIfInBounds_toArray, List.set_cons_zero, List.set_cons_succ]
    refine wpAnyH_take (i := 10) (oi := ⟨some 56, _, _, _, _, _⟩) (v := .pointer (some ⟨X, 6, none⟩)) rfl (by kernel_rfl) (by kernel_rfl) (by kernel_rfl) (fun _ _ _ h => h) (Or.inl ⟨by rfl, ?_⟩) (by assumption) ?_
    · intro w hSw; (try dsimp only at hSw); go_simp
    simp only [Act.put, List.setIfInBounds_toArray, List.set_cons_zero, List.set_cons_succ]
    refine wpAnyH_ready (rs := [11]) (by kernel_rfl) (by simp) ?_
    refine (AllReadyH.cons (o := ⟨none, _, _, _, _, _⟩) rfl (fun K hK => ?_) AllReadyH.nil)
    rw [HVA.out]
    go_simp
    refine hK.out _ _ ((Lg.setV_other _ X _ _ _ _ _ _ _ _ Q hQX).trans ((Below.heap_setCell _ ⟨X, 1, none⟩ _ _ hQX).trans HD.out)) (fun hHeld => ?_)
    clear hK K
    refine wpAnyH_take (i := 12) (oi := ⟨some 57, _, _, _, _, _⟩) (v := .pointer (some ⟨X, 0, none⟩)) rfl (by kernel_rfl) (by kernel_rfl) (by kernel_rfl) (fun _ _ _ h => h) (Or.inl ⟨by rfl, ?_⟩) (by assumption) ?_
    · intro w hSw; (try dsimp only at hSw); go_simp
    simp only [Act.put, List.setIfInBounds_toArray, List.set_cons_zero, List.set_cons_succ]
    refine wpAnyH_take (i := 13) (oi := ⟨some 58, _, _, _, _, _⟩) (v := .pointer (some ⟨X, 17, none⟩)) rfl (by kernel_rfl) (by kernel_rfl) (by kernel_rfl) (fun _ _ _ h => h) (Or.inl ⟨by rfl, ?_⟩) (by assumption) ?_
    · intro w hSw; (try dsimp only at hSw); go_simp
    simp only [Act.put, List.setIfInBounds_toArray, List.set_cons_zero, List.set_cons_succ]
    refine wpAnyH_ready (rs := [14]) (by kernel_rfl) (by simp) ?_
    refine (AllReadyH.cons (o := ⟨none, _, _, _, _, _⟩) rfl (fun K hK => ?_) AllReadyH.nil)
    go_simp
    refine hK.out _ _ ((Below.heap_setCell _ ⟨X, 17, none⟩ _ _ hQX).trans ((Lg.setV_other _ X _ _ _ _ _ _ _ _ Q hQX).trans ((Below.heap_setCell _ ⟨X, 1, none⟩ _ _ hQX).trans HD.out))) (fun hHeld => ?_)
    clear hK K
    refine wpAnyH_done (by kernel_rfl) ?_ _
    clear hHeld
    have s1 := Lg.setL HB3.out (.pointer po)
    have t1 := Lg.setL_turned wd X (.pointer po)
    generalize wd.setCell ⟨X, 1, none⟩ (.pointer po) = wa at *
    have s2 := Lg.setV s1 (.int .i64 v0) (.int .i64 v1) (.int .u64 v2) (.slice vA vn vc) (.int .i64 v4) (.int .u64 v5) (.int .u64 v6) (.bool v7)
    have t2 := t1.trans (Lg.setV_turned wa X (.int .i64 v0) (.int .i64 v1) (.int .u64 v2) (.slice vA vn vc) (.int .i64 v4) (.int .u64 v5) (.int .u64 v6) (.bool v7))
    generalize ((((((((wa.setCell ⟨X, 6, none⟩ (.int .i64 v0)).setCell ⟨X, 7, none⟩ (.int .i64 v1)).setCell ⟨X, 8, none⟩ (.int .u64 v2)).setCell ⟨X, 9, none⟩ (.slice vA vn vc)).setCell ⟨X, 10, none⟩ (.int .i64 v4)).setCell ⟨X, 11, none⟩ (.int .u64 v5)).setCell ⟨X, 12, none⟩ (.int .u64 v6)).setCell ⟨X, 13, none⟩ (.bool v7)) = wb at *
    have s3 := Lg.setN s2 (.int .i64 E)
    have t3 := t2.trans (Lg.setN_turned wb X (.int .i64 E))
    generalize wb.setCell ⟨X, 17, none⟩ (.int .i64 E) = we at *
    have T := (Dk.Turned.of_below BW.out (Nat.le_refl _) (fp := fun q => q = X)).trans t3
    have hFN : ∀ q, (fp q ∨ q = X ∨ bl' q) → q < w1.heap.size := fun q e => by
      rcases e with e | e | e
      · have := HW.out.disk.lt q e; omega
      · omega
      · exact (H1.out.2.2.1 q e).2
    have hbn : ∀ q, bl' q → w.heap.size ≤ q := fun q e => (H1.out.2.2.1 q e).1
    have WE : Hid (Lg.W10 Z B w0 we X r fp M M d0 d1 d2 d3 lo' bl' LN LN (.int .i64 v0) (.int .i64 v1) (.int .u64 v2) (.slice vA vn vc) (.int .i64 v4) (.int .u64 v5) (.int .u64 v6) (.bool v7) a nn ep E) := by
      refine ⟨HW.out.disk.other T (fun q h1 h2 => HW.out.off (h2 ▸ h1)) (fun q e => e ▸ HW.out.low), ?_, ?_, HW.out.off, HW.out.low, fun q e => ?_, fun k e => ?_, fun q b e => ?_⟩
      · refine Lg.refTurned HW.out.ref (Lg.turned_more T fun q e => .inr (.inl e)) fun q e => ?_
        rcases e with e | e | e
        · exact .inl (.inl e)
        · exact .inl (.inr (.inl e))
        · exact .inr (hbn q e)
      · rw [s3, HLQ.out]
      · have h1 := hbn q e
        refine ⟨by have h2 := hFN q (.inr (.inr e)); have h3 := BD.out.size; have h4 := t3.size; omega, fun e2 => ?_, by omega⟩
        have := HW.out.disk.lt q e2; omega
      · have h0 : E = 0 := Decidable.not_not.1 fun h0 => by rw [H1.out.2.1.2 h0] at e; cases e
        refine ⟨(H1.out.2.2.2 k e).keep (Nat.le_trans BD.out.size t3.size) fun q hq => ?_, FIN.out h0, ?_⟩
        · exact (t3.block q (by have h1 := (H1.out.2.2.1 q hq).2; have h2 := BD.out.size; omega) (by have := hbn q hq; omega)).trans (BD.out.block q (H1.out.2.2.1 q hq).2)
        · exact ((RF3.out h0).turned (Lg.turned_more t3 fun q e => by omega) fun q e => .inl e).off hFN
      · obtain ⟨h1, h2, h3, h4⟩ := HW.out.held q b e
        exact ⟨(T.block q (Sm.lt_of h1) h3).trans h1, h2, h3, fun e2 => by have h5 := hbn q e2; have h6 := Sm.lt_of h1; omega⟩
    have TT := Lib.hid T
    have IF := Lib.hid H1.out.2.1
    have qE : (E == E) = true := by simp
    clear s1 s2 s3 t1 t2 t3 T hFN hbn x1 x6 x7 x8 x9 x10 x11 x12 x13 x17 xf1 xf6 xf7 xf8 xf9 xf10 xf11 xf12 xf13 xf17 FIN OP RO
    cases lo' with
    | none =>
      obtain rfl : po = none := by have := HLQ.out; simpa [Lg.lptr] using this
      have h0 : E ≠ 0 := IF.out.1 rfl
      have h1 : (E == 0) = false := beq_eq_false_iff_ne.2 h0
      have h2 : (E != 0) = true := by simp [bne, h1]
      have HE0 := Lib.hid h0
      clear h0
      go_wp2
      go_ret
      exact ⟨rfl, Lg.opn10 WE.out ⟨fun _ => HE0.out, fun _ => rfl⟩, TT.out⟩
    | some k =>
      obtain rfl : po = some ⟨k, 0, none⟩ := by have := HLQ.out; simpa [Lg.lptr] using this
      have h0 : E = 0 := Decidable.not_not.1 fun e => absurd (IF.out.2 e) (by simp)
      subst h0
      go_wp2
      go_ret
      exact ⟨rfl, Lg.opn10 WE.out ⟨fun e => (by cases e), fun e => absurd rfl e⟩, TT.out⟩
end Go.Proofs.YtnmagfodjcookaaGreat

/-
  An act of the statement on a Log, beside the document's: what it leaves.
-/
namespace Go.Proofs.YtnmagfodjcookaaGreat
open Go.RowKit
namespace Lg
def Did10 (B : Nat) (w0 w' : World) (X r : Nat) (M : Dk.Md) (a nn : Int) : Prop :=
  ∃ (fp : Nat → Prop) (M' : Dk.Md) (d0 d1 d2 d3 : Value) (lo : Option Nat) (bl : Nat → Prop) (L : Md) (q0 q1 q2 q3 q4 q5 q6 q7 : Value) (ep : Nat) (n : Int), W10 (fun _ => none) B w0 w' X r fp M' M' d0 d1 d2 d3 lo bl L L q0 q1 q2 q3 q4 q5 q6 q7 a nn ep n ∧ (lo = none ↔ n ≠ 0) ∧ Dk.waits M' ≤ Dk.waits M + 33 ∧ M'.lasts.length = M.lasts.length ∧ ep < 18446744073709551616
section
variable {Z : Nat → Option Obj} {B : Nat} {w0 w w' : World} {X r : Nat} {fp : Nat → Prop} {M M' MR : Dk.Md} {d0 d1 d2 d3 : Value} {lo : Option Nat} {bl : Nat → Prop} {L LR : Md} {q0 q1 q2 q3 q4 q5 q6 q7 : Value} {a nn : Int} {ep : Nat} {n : Int}
theorem did10 (h : W10 Z B w0 w' X r fp M' M' d0 d1 d2 d3 lo bl L L q0 q1 q2 q3 q4 q5 q6 q7 a nn ep n) (hi : lo = none ↔ n ≠ 0) (hw : Dk.waits M' ≤ Dk.waits M + 33) (hl : M'.lasts.length = M.lasts.length) (hep : ep < 18446744073709551616) : Did10 B w0 w' X r M a nn :=
  ⟨fp, M', d0, d1, d2, d3, lo, bl, L, q0, q1, q2, q3, q4, q5, q6, q7, ep, n, h.free, hi, hw, hl, hep⟩
theorem Opn10.did (h : Opn10 Z B w0 w' X r fp M' d0 d1 d2 d3 a nn ep) (hw : Dk.waits M' ≤ Dk.waits M + 33) (hl : M'.lasts.length = M.lasts.length) (hep : ep < 18446744073709551616) : Did10 B w0 w' X r M a nn := by
  obtain ⟨lo, bl, L, q0, q1, q2, q3, q4, q5, q6, q7, n, h, hi⟩ := h
  exact did10 h hi hw hl hep
theorem W10.ptr (h : W10 Z B w0 w X r fp M MR d0 d1 d2 d3 lo bl L LR q0 q1 q2 q3 q4 q5 q6 q7 a nn ep n) : w.cell? ⟨X, 0, none⟩ = some (.pointer (some ⟨r, 0, none⟩)) := Sm.cells_of h.box 0 _ rfl
theorem W10.lit (h : W10 Z B w0 w X r fp M MR d0 d1 d2 d3 lo bl L LR q0 q1 q2 q3 q4 q5 q6 q7 a nn ep n) {lp : Value} (e : lp = lptr lo) : w.heap[X]? = some (.cells #[.pointer (some ⟨r, 0, none⟩), lp, d0, d1, d2, d3, q0, q1, q2, q3, q4, q5, q6, q7, .int .i64 a, .int .i64 nn, .int .u64 (ep : Nat), .int .i64 n] 41 (0, 0)) := by rw [e]; exact h.box
end
theorem fuse10 {w : World} {fp : Nat → Prop} {M : Dk.Md} {d0 d1 d2 d3 : Value} (h : Dk.RefAt w fp (.agg #[d0, d1, d2, d3]) M) (x : Int) :
    Dk.RefAt w fp (.agg #[d0, d1, .int .i64 (max x (-1)), d3]) { M with fuse := x } := by
  obtain ⟨A', c', B', d', ws, e, h1, h2, h3, h4⟩ := h
  simp only [Value.agg.injEq, Array.mk.injEq, List.cons.injEq, and_true] at e
  obtain ⟨rfl, rfl, rfl, rfl⟩ := e
  exact ⟨A', c', B', d', ws, rfl, h1, h2, ⟨h3.waits, h3.lt⟩, h4⟩
/-- While the document's call runs, beside what the statement makes: its disk. -/
structure R6 (wA wx : World) (F : Nat → Prop) (v : Value) (M : Dk.Md) : Prop where
  bel : Below wA.heap.size wA wx
  ref : Dk.RefAt wx F v M
  lt : ∀ q, F q → q < wx.heap.size
/-- The same: its disk and its Log. -/
structure R8 (wA wx : World) (F : Nat → Prop) (v : Value) (M : Dk.Md) (a nn : Int) (u : Value) (L : Md) : Prop where
  dsk : R6 wA wx F v M
  log : RefAt wx F a nn u L
section
variable {wA wx w' : World} {F : Nat → Prop} {v v' u u' : Value} {M M' : Dk.Md} {a nn : Int} {L L' : Md}
theorem R6.call (h : R6 wA wx F v M) (r : Dk.RefAt w' F v' M') (k : Below wx.heap.size wx w') : R6 wA w' F v' M' := ⟨h.bel.trans (k.mono h.bel.size), r, fun q e => Nat.lt_of_lt_of_le (h.lt q e) k.size⟩
theorem R6.alloc (h : R6 wA wx F v M) (b : Obj) : R6 wA (wx.alloc b) (fun q => F q ∨ q = wx.heap.size) v M := by
  have k : Below wx.heap.size wx (wx.alloc b) := (Below.refl _ wx).alloc (Nat.le_refl _) b
  refine ⟨h.bel.trans (k.mono h.bel.size), refTurned h.ref (f := F) (Dk.Turned.of_below k (Nat.le_refl _)) (fun _ e => e.imp id fun e => Nat.le_of_eq e.symm), fun q e => ?_⟩
  rcases e with e | e
  · have := h.lt q e; simp; omega
  · rw [e]; simp
theorem R6.set (h : R6 wA wx F v M) {Q : Nat} (t : Dk.Turned (fun q => q = Q) wx w') (hQ : wA.heap.size ≤ Q) (hF : F Q) : R6 wA w' F v M :=
  ⟨h.bel.trans (t.below (fun q e => by omega) h.bel.size), refTurned h.ref (turned_more t fun i e => by rw [e]; exact hF) fun _ => .inl, fun q e => Nat.lt_of_lt_of_le (h.lt q e) t.size⟩
theorem R8.call (h : R8 wA wx F v M a nn u L) (r : Dk.RefAt w' F v' M') (l : RefAt w' F a nn u' L') (k : Below wx.heap.size wx w') : R8 wA w' F v' M' a nn u' L' := ⟨h.dsk.call r k, l⟩
theorem R8.alloc (h : R8 wA wx F v M a nn u L) (b : Obj) : R8 wA (wx.alloc b) (fun q => F q ∨ q = wx.heap.size) v M a nn u L :=
  ⟨h.dsk.alloc b, h.log.turned (f := F) (Dk.Turned.of_below ((Below.refl _ wx).alloc (Nat.le_refl _) b) (Nat.le_refl _)) (fun _ e => e.imp id fun e => Nat.le_of_eq e.symm)⟩
theorem R8.set (h : R8 wA wx F v M a nn u L) {Q : Nat} (t : Dk.Turned (fun q => q = Q) wx w') (hQ : wA.heap.size ≤ Q) (hF : F Q) : R8 wA w' F v M a nn u L :=
  ⟨h.dsk.set t hQ hF, h.log.turned (turned_more t fun i e => by rw [e]; exact hF) fun _ => .inl⟩
end
end Lg
end Go.Proofs.YtnmagfodjcookaaGreat
