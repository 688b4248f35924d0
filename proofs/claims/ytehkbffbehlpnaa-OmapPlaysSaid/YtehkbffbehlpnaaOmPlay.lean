/-
  Rows of operations done to maps, one behind the other: what the statements' loops want.
-/
import Derived.Test.YtehkbffbehlpnaaOmAwake
import Derived.Test.YtehkbffbehlpnaaOmGreat
namespace Go.Proofs.Ytehkbffbehlpnaa
open Go.RowKit Go.Maps
namespace Om
/-- One row, done. -/
theorem rowDo {w wx : World} {A : Option Addr} {L : List Rw} (hit : rowsAt w A L) (hok : ∀ x ∈ L, Rw.Ok x) (hf : FairR L) {k : Nat} (hk : k < L.length) (hb : Below w.heap.size w wx) :
    ∃ b off, A = some ⟨b, off, none⟩ ∧ wx.cell? ⟨b, off + k, none⟩ = some (.slice L[k].A L[k].l.length L[k].c) ∧ Ba.listAt wx L[k].A L[k].l ∧ Ba.Fair L[k].l ∧ ∀ (wy : World) (r : Nat) (l : List Pr), Below wx.heap.size wx wy → Lies wy r l →
      Calls Try.prog 17 #[.pointer (some ⟨r, 0, none⟩), .slice L[k].A L[k].l.length L[k].c] wy fun e w' => e = .returned (.int .i64 ((doE l L[k].l).2 : Nat)) ∧ Lies w' r (doE l L[k].l).1 ∧ wy.grownBy w' (some r) := by
  obtain ⟨b, off, rfl, _, h1, h2⟩ := hit.get hb k hk
  have ho := hok _ (List.getElem_mem hk)
  have hff := hf.2 k hk
  exact ⟨b, off, rfl, h1, h2, hff, fun wy r l hy h => omDo_lies h _ (h2.below hy) ho.len ho.ops fun o ho => by have := (hff.mem o ho).1; omega⟩
/-- A map at N, with all below as it was. -/
structure One (w wx : World) (N : Nat) (l : List Pr) : Prop where
  ml : Lies wx N l
  bel : Below N w wx
theorem One.step {w wx wy : World} {N : Nat} {l : List Pr} (h : One w wx N l) (k : Below wx.heap.size wx wy) : One w wy N l := ⟨h.ml.below k, h.bel.trans (k.mono (Nat.le_of_lt h.ml.lt))⟩
theorem One.done {w wx wy : World} {N : Nat} {l l' : List Pr} (h : One w wx N l) (hN : N = w.heap.size) (g : wx.grownBy wy (some N)) (k : Lies wy N l') : One w wy N l' := ⟨k, h.bel.grown g (by rw [hN]; exact h.bel.size) (fun q hq => by cases hq; exact Nat.le_refl _)⟩
/-- Two maps, at N and at t. -/
structure Two (w wx : World) (N t : Nat) (a b : List Pr) : Prop where
  one : One w wx N a
  tl : Lies wx t b
  lt : N < t
theorem Two.step {w wx wy : World} {N t : Nat} {a b : List Pr} (h : Two w wx N t a b) (k : Below wx.heap.size wx wy) : Two w wy N t a b := ⟨h.one.step k, h.tl.below k, h.lt⟩
theorem Two.done {w wx wy : World} {N t : Nat} {a a' b : List Pr} (h : Two w wx N t a b) (hN : N = w.heap.size) (g : wx.grownBy wy (some N)) (k : Lies wy N a') : Two w wy N t a' b := by
  obtain ⟨cs, hc⟩ := h.one.ml.cells
  exact ⟨h.one.done hN g k, h.tl.other g (by have := h.lt; omega) hc, h.lt⟩
theorem Two.doneT {w wx wy : World} {N t : Nat} {a b b' : List Pr} (h : Two w wx N t a b) (hN : N = w.heap.size) (g : wx.grownBy wy (some t)) (k : Lies wy t b') : Two w wy N t a b' := by
  obtain ⟨cs, hc⟩ := h.tl.cells
  have hl := h.lt
  exact ⟨⟨h.one.ml.other g (by omega) hc, h.one.bel.grown g (by rw [hN]; exact h.one.bel.size) (fun q hq => by cases hq; omega)⟩, k, h.lt⟩
/-- Three, at N, t and u. -/
structure Three (w wx : World) (N t u : Nat) (a b c : List Pr) : Prop where
  two : Two w wx N t a b
  ul : Lies wx u c
  lt : t < u
theorem Three.step {w wx wy : World} {N t u : Nat} {a b c : List Pr} (h : Three w wx N t u a b c) (k : Below wx.heap.size wx wy) : Three w wy N t u a b c := ⟨h.two.step k, h.ul.below k, h.lt⟩
theorem Three.done {w wx wy : World} {N t u : Nat} {a a' b c : List Pr} (h : Three w wx N t u a b c) (hN : N = w.heap.size) (g : wx.grownBy wy (some N)) (k : Lies wy N a') : Three w wy N t u a' b c := by
  obtain ⟨cs, hc⟩ := h.two.one.ml.cells
  exact ⟨h.two.done hN g k, h.ul.other g (by have := h.lt; have := h.two.lt; omega) hc, h.lt⟩
theorem Three.doneU {w wx wy : World} {N t u : Nat} {a b c c' : List Pr} (h : Three w wx N t u a b c) (hN : N = w.heap.size) (g : wx.grownBy wy (some u)) (k : Lies wy u c') : Three w wy N t u a b c' := by
  obtain ⟨cs, hc⟩ := h.ul.cells
  have hl := h.lt
  have hl2 := h.two.lt
  exact ⟨⟨⟨h.two.one.ml.other g (by omega) hc, h.two.one.bel.grown g (by rw [hN]; exact h.two.one.bel.size) (fun q hq => by cases hq; omega)⟩, h.two.tl.other g (by omega) hc, h.two.lt⟩, k, h.lt⟩
end Om
end Go.Proofs.Ytehkbffbehlpnaa
