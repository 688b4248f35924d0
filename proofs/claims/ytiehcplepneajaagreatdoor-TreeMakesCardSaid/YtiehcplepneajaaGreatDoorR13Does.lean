/-
  The document's Does and Of.
-/
import Derived.Test.YtiehcplepneajaaGreatDoorR13With
import Derived.Test.YtiehcplepneajaaGreatDoorPaRefCut
import Derived.Test.YtiehcplepneajaaGreatDoorOmPut
import Derived.Test.YtiehcplepneajaaGreatDoorR12Right
import Derived.Test.YtiehcplepneajaaGreatDoorPaMounts
import Derived.Test.YtiehcplepneajaaGreatDoorBaActs
namespace Go.Proofs.YtiehcplepneajaaGreatDoor
open Go.RowKit
namespace Om
/-- A map in the variable's block M, the result's block R. -/
structure Box (w W : World) (N M R : Nat) (B : Option Addr) (k : Nat) (m : List Pr) : Prop where
  box : W.heap[M]? = some (.cells #[.slice B m.length k] 85 (0, 0))
  res : W.heap[R]? = some (.cells #[.slice none 0 0] 85 (0, 0))
  ref : Ref W B k m
  bel : Below N w W
  nm : N ≤ M
  nr : N ≤ R
  ne : M ≠ R
  apart : ∀ b off, B = some ⟨b, off, none⟩ → m ≠ [] → b ≠ M ∧ b ≠ R
section
variable {w W W' : World} {N M R : Nat} {B B' : Option Addr} {k k' : Nat} {m m' : List Pr}
theorem Box.step (h : Box w W N M R B k m) (g : Below W.heap.size W W') : Box w W' N M R B k m :=
  ⟨(g.block M (Sm.lt_of h.box)).trans h.box, (g.block R (Sm.lt_of h.res)).trans h.res, h.ref.below g, h.bel.trans (g.mono (Nat.le_trans h.nm (Nat.le_of_lt (Sm.lt_of h.box)))), h.nm, h.nr, h.ne, h.apart⟩
theorem Ref.set {W : World} {B : Option Addr} {k : Nat} {m : List Pr} (h : Ref W B k m) {q : Nat} (hq : ∀ b off, B = some ⟨b, off, none⟩ → m ≠ [] → b ≠ q) (v : Value) : Ref (W.setCell ⟨q, 0, none⟩ v) B k m := by
  refine ⟨?_, h.2⟩
  rcases h.1 with e | ⟨b, o, e1, e2, e3⟩
  · exact .inl e
  · by_cases h0 : m = []
    · exact .inl h0
    · have hb := hq b o e1 h0
      refine .inr ⟨b, o, e1, by simpa using e2, fun j hj => ?_⟩
      have ec : ∀ i, (W.setCell ⟨q, 0, none⟩ v).cell? ⟨b, i, none⟩ = W.cell? ⟨b, i, none⟩ := fun i => World.cell?_of_block (w := W) (a := ⟨b, i, none⟩) (Below.heap_setCell _ _ _ _ (by show b ≠ q; exact hb))
      have := e3 j hj
      unfold prAt at this ⊢
      rw [ec, ec]
      exact this
/-- The variable is given what a call made of it. -/
theorem Box.put (h : Box w W N M R B k m) (g : Below W.heap.size W W') (hr : Ref W' B' k' m') (hf : Fresh W B m B' m') : Box w (W'.setCell ⟨M, 0, none⟩ (.slice B' m'.length k')) N M R B' k' m' := by
  have h' := h.step g
  have hap : ∀ b off, B' = some ⟨b, off, none⟩ → m' ≠ [] → b ≠ M ∧ b ≠ R := fun b off e h0 => by
    rcases hf b off e h0 with h1 | ⟨h1, h2⟩
    · have := Sm.lt_of h.box
      have := Sm.lt_of h.res
      omega
    · exact h.apart b off h1 h2
  exact ⟨Sm.heap_set h'.box 0 _, (Below.heap_setCell _ _ _ _ (by show R ≠ M; exact fun e => h.ne e.symm)).trans h'.res, hr.set (fun b off e h0 => (hap b off e h0).1) _, h'.bel.setCell (p := ⟨M, 0, none⟩) h.nm _, h.nm, h.nr, h.ne, hap⟩
/-- The result is written. -/
theorem Box.last (h : Box w W N M R B k m) (v : Value) : Ref (W.setCell ⟨R, 0, none⟩ v) B k m ∧ Below N w (W.setCell ⟨R, 0, none⟩ v) ∧ (W.setCell ⟨R, 0, none⟩ v).heap[R]? = some (.cells #[v] 85 (0, 0)) :=
  ⟨h.ref.set (fun b off e h0 => (h.apart b off e h0).2) v, h.bel.setCell (p := ⟨R, 0, none⟩) h.nr _, Sm.heap_set h.res 0 v⟩
theorem Box.load (h : Box w W N M R B k m) : W.cell? ⟨M, 0, none⟩ = some (.slice B m.length k) := Sm.cells_of h.box 0 _ rfl
end
theorem Fresh.trans {w wr : World} {A B B' : Option Addr} {l m m' : List Pr} (h : Fresh w A l B m) (hs : w.heap.size ≤ wr.heap.size) (k : Fresh wr B m B' m') : Fresh w A l B' m' := fun b off e h0 => by
  rcases k b off e h0 with h1 | ⟨h1, h2⟩
  · exact .inl (Nat.le_trans hs h1)
  · exact h b off h1 h2
theorem Fresh.same (w : World) (A : Option Addr) (l : List Pr) : Fresh w A l A l := fun _ _ e h0 => .inr ⟨e, h0⟩
/-- Short paths. -/
def Small (l : List Pr) : Prop := ∀ x ∈ l, x.p.size ≤ 1000000
theorem Small.step {m : List Pr} (h : Small m) {o : Ba.Op} (ho : o.p.size ≤ 1000000) : Small (step m o) := fun x hx => by
  unfold Om.step at hx
  split at hx
  · exact h x ((del_sub _ _).subset hx)
  · rcases mem_put hx with rfl | hx
    · exact ho
    · exact h x hx
theorem Small.put {m : List Pr} (h : Small m) {p v : ByteArray} (hp : p.size ≤ 1000000) : Small (put p v m) := fun x hx => by
  rcases mem_put hx with rfl | hx
  · exact hp
  · exact h x hx
end Om
end Go.Proofs.YtiehcplepneajaaGreatDoor
