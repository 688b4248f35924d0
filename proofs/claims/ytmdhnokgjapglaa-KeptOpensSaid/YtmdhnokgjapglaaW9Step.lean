/-
  The world of a Kept and the document's, while an act is done: what each step leaves.
-/
import Derived.Test.YtmdhnokgjapglaaW9Open
namespace Go.Proofs.Ytmdhnokgjapglaa
open Go.RowKit
namespace Kp
/-- A world in which the program's disk says M, the document's MR, the program's Kept K, the document's KR; the act lies in block N. -/
structure G9 (B : Nat) (w0 w : World) (X r N : Nat) (cs : Array Value) (fp : Nat → Prop) (M MR : Dk.Md) (sA : Option Addr) (sn sc : Nat) (sB : Option Addr) (sm sd : Nat) (f : Int) (o : Bool) (ko : Option Nat) (K KR : Md) (n : Int) : Prop where
  disk : Dk.Own B w0 w r fp M
  ref : Dk.RefAt w (fun q => fp q ∨ q = X ∨ ko = some q) (.agg #[.slice sA sn sc, .slice sB sm sd, .int .i64 f, .bool o]) MR
  box : w.heap[X]? = some (.cells (wcells r (kptr ko) #[.slice sA sn sc, .slice sB sm sd, .int .i64 f, .bool o] (kks ko KR) n) 41 (0, 0))
  off : ¬ fp X
  low : B ≤ X
  kept : ∀ k, ko = some k → Kp.At w k r K ∧ ¬ fp k ∧ B ≤ k ∧ k ≠ X ∧ Fit K M
  act : w.heap[N]? = some (.cells cs 47 (0, 0))
  nfp : ¬ fp N
  nX : N ≠ X
  nk : ko ≠ some N
section
variable {B : Nat} {w0 w w' : World} {X r N : Nat} {cs : Array Value} {fp fp' : Nat → Prop} {M MR M' MR' : Dk.Md} {sA : Option Addr} {sn sc : Nat} {sB : Option Addr} {sm sd : Nat} {f : Int} {o : Bool} {ko : Option Nat} {K KR K' KR' : Md} {n : Int}
theorem G9.lt (h : G9 B w0 w X r N cs fp M MR sA sn sc sB sm sd f o ko K KR n) : ∀ q, (fp q ∨ q = X ∨ ko = some q) → q < w.heap.size := fun q e => by
  rcases e with e | e | e
  · exact h.disk.lt q e
  · rw [e]; exact Sm.lt_of h.box
  · exact Sm.lt_of (h.kept q e).1
theorem G9.low' (h : G9 B w0 w X r N cs fp M MR sA sn sc sB sm sd f o ko K KR n) (k : Below w.heap.size w w') : G9 B w0 w' X r N cs fp M MR sA sn sc sB sm sd f o ko K KR n :=
  ⟨h.disk.low k, h.ref.low k, (k.block X (Sm.lt_of h.box)).trans h.box, h.off, h.low, fun q e => by
    obtain ⟨h1, h2⟩ := h.kept q e
    exact ⟨h1.low k, h2⟩, (k.block N (Sm.lt_of h.act)).trans h.act, h.nfp, h.nX, h.nk⟩
theorem G9.w9 (h : G9 B w0 w X r N cs fp M M sA sn sc sB sm sd f o ko K K n) : W9 B w0 w X r fp M sA sn sc sB sm sd f o ko K n := ⟨h.disk, h.ref, h.box, h.off, h.low, h.kept⟩
theorem W9.ptr (h : W9 B w0 w X r fp M sA sn sc sB sm sd f o ko K n) : w.cell? ⟨X, 0, none⟩ = some (.pointer (some ⟨r, 0, none⟩)) := by
  obtain ⟨q0, q1, q2, q3, q4, q5, hk⟩ := kks_six ko K
  have hb := h.box
  rw [hk] at hb
  exact Sm.cells_of hb 0 _ rfl
theorem W9.g9 (h : W9 B w0 w X r fp M sA sn sc sB sm sd f o ko K n) (k : Below w.heap.size w w') (hN : w.heap.size ≤ N) (ha : w'.heap[N]? = some (.cells cs 47 (0, 0))) : G9 B w0 w' X r N cs fp M M sA sn sc sB sm sd f o ko K K n := by
  have h' := h.low' k
  refine ⟨h'.disk, h'.ref, h'.box, h'.off, h'.low, h'.kept, ha, fun e => ?_, fun e => ?_, fun e => ?_⟩
  · have := h.disk.lt N e; omega
  · have := Sm.lt_of h.box; omega
  · have := Sm.lt_of (h.kept N e).1; omega
theorem G9.lit (h : G9 B w0 w X r N cs fp M MR sA sn sc sB sm sd f o ko K KR n) {kp q0 q1 q2 q3 q4 q5 : Value} (hp : kptr ko = kp) (hk : kks ko KR = #[q0, q1, q2, q3, q4, q5]) : w.heap[X]? = some (.cells #[.pointer (some ⟨r, 0, none⟩), kp, .slice sA sn sc, .slice sB sm sd, .int .i64 f, .bool o, q0, q1, q2, q3, q4, q5, .int .i64 n] 41 (0, 0)) := by
  rw [h.box, hp, hk]; rfl
theorem Fit.of_len (h : Fit K M) (hl : M'.lasts.length = M.lasts.length) : Fit K M' := ⟨by rw [hl]; exact h.at_, h.next, h.seen, h.gen, h.text, h.none⟩
/-- An act upon the program's disk. -/
theorem G9.disked (h : G9 B w0 w X r N cs fp M MR sA sn sc sB sm sd f o ko K KR n) (s : Dk.Step B w0 w w' r fp fp' M') (hl : M'.lasts.length = M.lasts.length) : G9 B w0 w' X r N cs fp' M' MR sA sn sc sB sm sd f o ko K KR n := by
  have hs := s.turned.size
  have nf : ∀ q, q < w.heap.size → ¬ fp q → ¬ fp' q := fun q h1 h2 e => by
    rcases s.grown q e with e | e
    · exact h2 e
    · omega
  refine ⟨s.own, h.ref.turned (s.turned.mono fun i e => .inl e) (fun q e => ?_), (s.turned.block X (Sm.lt_of h.box) h.off).trans h.box, nf X (Sm.lt_of h.box) h.off, h.low, fun q e => ?_, (s.turned.block N (Sm.lt_of h.act) h.nfp).trans h.act, nf N (Sm.lt_of h.act) h.nfp, h.nX, h.nk⟩
  · rcases e with e | e
    · exact (s.grown q e).imp .inl id
    · exact .inl (.inr e)
  · obtain ⟨h1, h2, h3, h4, h5⟩ := h.kept q e
    exact ⟨h1.turned s.turned h2, nf q (Sm.lt_of h1) h2, h3, h4, h5.of_len hl⟩
/-- A Put of the program's. -/
theorem G9.put {k : Nat} (h : G9 B w0 w X r N cs fp M MR sA sn sc sB sm sd f o ko K KR n) (hk : ko = some k) (s : Kp.Step B w0 w w' r fp fp' M' k K') (hf : Fit K' M') : G9 B w0 w' X r N cs fp' M' MR sA sn sc sB sm sd f o ko K' KR n := by
  have hs := s.turned.size
  obtain ⟨a1, a2, a3, a4, a5⟩ := h.kept k hk
  have nf : ∀ q, q < w.heap.size → ¬ fp q → ¬ fp' q := fun q h1 h2 e => by
    rcases s.grown q e with e | e
    · exact h2 e
    · omega
  have nN : N ≠ k := fun e => h.nk (by rw [hk, e])
  refine ⟨s.own.disk, h.ref.turned (s.turned.mono fun i e => ?_) (fun q e => ?_), (s.turned.block X (Sm.lt_of h.box) (fun e => e.elim h.off fun e => a4 e.symm)).trans h.box, nf X (Sm.lt_of h.box) h.off, h.low, fun q e => ?_, (s.turned.block N (Sm.lt_of h.act) (fun e => e.elim h.nfp nN)).trans h.act, nf N (Sm.lt_of h.act) h.nfp, h.nX, h.nk⟩
  · rcases e with e | e
    · exact .inl e
    · exact .inr (.inr (by rw [hk, e]))
  · rcases e with e | e
    · exact (s.grown q e).imp .inl id
    · exact .inl (.inr e)
  · obtain rfl : k = q := Option.some.inj (hk.symm.trans e)
    exact ⟨s.own.at_, s.own.off, s.own.low, a4, hf⟩
/-- The world's own cells turn. -/
theorem G9.touch {tA : Option Addr} {tn tc : Nat} {tB : Option Addr} {tm td : Nat} {f2 : Int} {o2 : Bool} (h : G9 B w0 w X r N cs fp M MR sA sn sc sB sm sd f o ko K KR n) (t : Dk.Turned (fun q => q = X) w w') {kp q0 q1 q2 q3 q4 q5 : Value} (hp : kptr ko = kp) (hk : kks ko KR' = #[q0, q1, q2, q3, q4, q5])
    (hb : w'.heap[X]? = some (.cells #[.pointer (some ⟨r, 0, none⟩), kp, .slice tA tn tc, .slice tB tm td, .int .i64 f2, .bool o2, q0, q1, q2, q3, q4, q5, .int .i64 n] 41 (0, 0))) (hr : Dk.RefAt w (fun q => fp q ∨ q = X ∨ ko = some q) (.agg #[.slice tA tn tc, .slice tB tm td, .int .i64 f2, .bool o2]) MR') : G9 B w0 w' X r N cs fp M MR' tA tn tc tB tm td f2 o2 ko K KR' n :=
  ⟨h.disk.other t (fun q h1 h2 => h.off (h2 ▸ h1)) (fun q e => e ▸ h.low), hr.turned (t.mono fun i e => .inr (.inl e)) fun _ => .inl, by rw [hb, hp, hk]; rfl, h.off, h.low, fun q e => by
    obtain ⟨h1, h2, h3, h4, h5⟩ := h.kept q e
    exact ⟨h1.turned t h4, h2, h3, h4, h5⟩, (t.block N (Sm.lt_of h.act) h.nX).trans h.act, h.nfp, h.nX, h.nk⟩
end
/-- What an act leaves. -/
def Did9 (B : Nat) (w0 w' : World) (X r : Nat) (M : Dk.Md) : Prop := ∃ (fp' : Nat → Prop) (M' : Dk.Md) (sA : Option Addr) (sn sc : Nat) (sB : Option Addr) (sm sd : Nat) (f : Int) (o : Bool) (ko' : Option Nat) (K' : Md) (n' : Int), W9 B w0 w' X r fp' M' sA sn sc sB sm sd f o ko' K' n' ∧ (ko' = none ↔ n' ≠ 0) ∧ Dk.waits M' ≤ Dk.waits M + 9
theorem did9 {B : Nat} {w0 w' : World} {X r : Nat} {M M' : Dk.Md} {fp' : Nat → Prop} {sA : Option Addr} {sn sc : Nat} {sB : Option Addr} {sm sd : Nat} {f : Int} {o : Bool} {ko' : Option Nat} {K' : Md} {n' : Int} (h : W9 B w0 w' X r fp' M' sA sn sc sB sm sd f o ko' K' n') (hi : ko' = none ↔ n' ≠ 0) (hw : Dk.waits M' ≤ Dk.waits M + 9) : Did9 B w0 w' X r M :=
  ⟨fp', M', sA, sn, sc, sB, sm, sd, f, o, ko', K', n', h, hi, hw⟩
theorem fuse9 {w : World} {fp : Nat → Prop} {M : Dk.Md} {A B : Option Addr} {n c m d : Nat} {f : Int} {o : Bool} (h : Dk.RefAt w fp (.agg #[.slice A n c, .slice B m d, .int .i64 f, .bool o]) M) (x : Int) :
    Dk.RefAt w fp (.agg #[.slice A n c, .slice B m d, .int .i64 (max x (-1)), .bool o]) { M with fuse := x } := by
  obtain ⟨A', c', B', d', ws, e, h1, h2, h3, h4⟩ := h
  simp only [Value.agg.injEq, Array.mk.injEq, List.cons.injEq, Value.slice.injEq, Value.int.injEq, Value.bool.injEq, and_true, true_and] at e
  obtain ⟨⟨rfl, rfl, rfl⟩, ⟨rfl, rfl, rfl⟩, rfl, rfl⟩ := e
  exact ⟨A, c, B, d, ws, rfl, h1, h2, ⟨h3.waits, h3.lt⟩, h4⟩
theorem setX4 {w : World} {X : Nat} {c0 c1 c2 c3 c4 c5 c6 c7 c8 c9 c10 c11 c12 : Value} {t : TypeId} {q : Nat × Nat} (h : w.heap[X]? = some (.cells #[c0, c1, c2, c3, c4, c5, c6, c7, c8, c9, c10, c11, c12] t q)) (a b c d : Value) :
    ((((w.setCell ⟨X, 2, none⟩ (a)).setCell ⟨X, 3, none⟩ (b)).setCell ⟨X, 4, none⟩ (c)).setCell ⟨X, 5, none⟩ (d)).heap[X]? = some (.cells #[c0, c1, a, b, c, d, c6, c7, c8, c9, c10, c11, c12] t q) := by
  rw [Sm.heap_set (Sm.heap_set (Sm.heap_set (Sm.heap_set h 2 a) 3 b) 4 c) 5 d]
  simp
theorem setX4_turned (w : World) (X : Nat) (a b c d : Value) : Dk.Turned (fun q => q = X) w ((((w.setCell ⟨X, 2, none⟩ (a)).setCell ⟨X, 3, none⟩ (b)).setCell ⟨X, 4, none⟩ (c)).setCell ⟨X, 5, none⟩ (d)) := by
  have h0 := turned_set w X 2 a
  have h1 := h0.trans (turned_set (w.setCell ⟨X, 2, none⟩ (a)) X 3 b)
  have h2 := h1.trans (turned_set ((w.setCell ⟨X, 2, none⟩ (a)).setCell ⟨X, 3, none⟩ (b)) X 4 c)
  have h3 := h2.trans (turned_set (((w.setCell ⟨X, 2, none⟩ (a)).setCell ⟨X, 3, none⟩ (b)).setCell ⟨X, 4, none⟩ (c)) X 5 d)
  exact h3
theorem setX6 {w : World} {X : Nat} {c0 c1 c2 c3 c4 c5 c6 c7 c8 c9 c10 c11 c12 : Value} {t : TypeId} {q : Nat × Nat} (h : w.heap[X]? = some (.cells #[c0, c1, c2, c3, c4, c5, c6, c7, c8, c9, c10, c11, c12] t q)) (a b c d e g : Value) :
    ((((((w.setCell ⟨X, 6, none⟩ (a)).setCell ⟨X, 7, none⟩ (b)).setCell ⟨X, 8, none⟩ (c)).setCell ⟨X, 9, none⟩ (d)).setCell ⟨X, 10, none⟩ (e)).setCell ⟨X, 11, none⟩ (g)).heap[X]? = some (.cells #[c0, c1, c2, c3, c4, c5, a, b, c, d, e, g, c12] t q) := by
  rw [Sm.heap_set (Sm.heap_set (Sm.heap_set (Sm.heap_set (Sm.heap_set (Sm.heap_set h 6 a) 7 b) 8 c) 9 d) 10 e) 11 g]
  simp
theorem setX6_turned (w : World) (X : Nat) (a b c d e g : Value) : Dk.Turned (fun q => q = X) w ((((((w.setCell ⟨X, 6, none⟩ (a)).setCell ⟨X, 7, none⟩ (b)).setCell ⟨X, 8, none⟩ (c)).setCell ⟨X, 9, none⟩ (d)).setCell ⟨X, 10, none⟩ (e)).setCell ⟨X, 11, none⟩ (g)) := by
  have h0 := turned_set w X 6 a
  have h1 := h0.trans (turned_set (w.setCell ⟨X, 6, none⟩ (a)) X 7 b)
  have h2 := h1.trans (turned_set ((w.setCell ⟨X, 6, none⟩ (a)).setCell ⟨X, 7, none⟩ (b)) X 8 c)
  have h3 := h2.trans (turned_set (((w.setCell ⟨X, 6, none⟩ (a)).setCell ⟨X, 7, none⟩ (b)).setCell ⟨X, 8, none⟩ (c)) X 9 d)
  have h4 := h3.trans (turned_set ((((w.setCell ⟨X, 6, none⟩ (a)).setCell ⟨X, 7, none⟩ (b)).setCell ⟨X, 8, none⟩ (c)).setCell ⟨X, 9, none⟩ (d)) X 10 e)
  have h5 := h4.trans (turned_set (((((w.setCell ⟨X, 6, none⟩ (a)).setCell ⟨X, 7, none⟩ (b)).setCell ⟨X, 8, none⟩ (c)).setCell ⟨X, 9, none⟩ (d)).setCell ⟨X, 10, none⟩ (e)) X 11 g)
  exact h5
theorem setX1 {w : World} {X : Nat} {c0 c1 c2 c3 c4 c5 c6 c7 c8 c9 c10 c11 c12 : Value} {t : TypeId} {q : Nat × Nat} (h : w.heap[X]? = some (.cells #[c0, c1, c2, c3, c4, c5, c6, c7, c8, c9, c10, c11, c12] t q)) (a : Value) :
    (w.setCell ⟨X, 4, none⟩ (a)).heap[X]? = some (.cells #[c0, c1, c2, c3, a, c5, c6, c7, c8, c9, c10, c11, c12] t q) := by
  rw [Sm.heap_set h 4 a]
  simp
theorem setX1_turned (w : World) (X : Nat) (a : Value) : Dk.Turned (fun q => q = X) w (w.setCell ⟨X, 4, none⟩ (a)) := by
  have h0 := turned_set w X 4 a
  exact h0
/-- While the document's call runs, beside what the statement makes. -/
structure R6 (wA wx : World) (F : Nat → Prop) (v : Value) (M : Dk.Md) : Prop where
  bel : Below wA.heap.size wA wx
  ref : Dk.RefAt wx F v M
  lt : ∀ q, F q → q < wx.heap.size
section
variable {wA wx w' : World} {F : Nat → Prop} {v v' : Value} {M M' : Dk.Md}
theorem R6.call (h : R6 wA wx F v M) (r : Dk.RefAt w' F v' M') (k : Below wx.heap.size wx w') : R6 wA w' F v' M' := ⟨h.bel.trans (k.mono h.bel.size), r, fun q e => Nat.lt_of_lt_of_le (h.lt q e) k.size⟩
theorem R6.alloc (h : R6 wA wx F v M) (b : Obj) : R6 wA (wx.alloc b) (fun q => F q ∨ q = wx.heap.size) v M := by
  have k : Below wx.heap.size wx (wx.alloc b) := (Below.refl _ wx).alloc (Nat.le_refl _) b
  refine ⟨h.bel.trans (k.mono h.bel.size), h.ref.turned (f := F) (Dk.Turned.of_below k (Nat.le_refl _)) (fun q e => e.imp id fun e => Nat.le_of_eq e.symm), fun q e => ?_⟩
  rcases e with e | e
  · have := h.lt q e; simp; omega
  · rw [e]; simp
theorem R6.set (h : R6 wA wx F v M) {Q : Nat} (t : Dk.Turned (fun q => q = Q) wx w') (hQ : wA.heap.size ≤ Q) (hF : F Q) : R6 wA w' F v M :=
  ⟨h.bel.trans (t.below (fun q e => by omega) h.bel.size), h.ref.turned (t.mono fun i e => by rw [e]; exact hF) fun _ => .inl, fun q e => Nat.lt_of_lt_of_le (h.lt q e) t.size⟩
end
end Kp
end Go.Proofs.Ytmdhnokgjapglaa
