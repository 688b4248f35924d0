/-
  omap's own, put, isPair; Get, Twin.
-/
import Derived.Test.YtiehcplepneajaaGreatDoorOmMath
import Derived.Test.YtiehcplepneajaaGreatDoorMBase
import Derived.Test.YtiehcplepneajaaGreatDoorPaPath
import Derived.Test.YtiehcplepneajaaGreatDoorOmActs
namespace Go.Proofs.YtiehcplepneajaaGreatDoor
open Go.RowKit Go.Maps
namespace Om
theorem row_two {w : World} {P : Nat} {a b : Value} {t : TypeId} (h : w.heap[P]? = some (.cells #[a, b] t (0, 0))) : w.cell? ⟨P, 0, none⟩ = some a ∧ w.cell? ⟨P, 1, none⟩ = some b := ⟨Sm.cells_of h 0 _ rfl, Sm.cells_of h 1 _ rfl⟩
/-- The worlds within own: N the pair's block, N + 1 the result's. -/
structure OwnW (w wx : World) (N : Nat) (p v : ByteArray) : Prop where
  bx : wx.heap[N]? = some (.cells #[.string p, .string v] 79 (0, 0))
  rx : wx.heap[N + 1]? = some (.cells #[.string ⟨#[]⟩, .string ⟨#[]⟩] 79 (0, 0))
  bel : Below N w wx
theorem OwnW.step {w wx wy : World} {N : Nat} {p v : ByteArray} (h : OwnW w wx N p v) (k : Below wx.heap.size wx wy) (hN : N ≤ wx.heap.size) : OwnW w wy N p v :=
  ⟨(k.block N (Sm.lt_of h.bx)).trans h.bx, (k.block (N + 1) (Sm.lt_of h.rx)).trans h.rx, h.bel.trans (k.mono hN)⟩
theorem OwnW.le {w wx : World} {N : Nat} {p v : ByteArray} (h : OwnW w wx N p v) : N ≤ wx.heap.size := Nat.le_of_lt (Sm.lt_of h.bx)
theorem OwnW.nxt {w wx wy : World} {N : Nat} {p v : ByteArray} (h : OwnW w wx N p v) (k : Below wx.heap.size wx wy) : OwnW w wy N p v := h.step k h.le
theorem OwnW.bc {w wx : World} {N : Nat} {p v : ByteArray} (h : OwnW w wx N p v) : wx.cell? ⟨N, 0, none⟩ = some (.string p) ∧ wx.cell? ⟨N, 1, none⟩ = some (.string v) := row_two h.bx
/-- The result's block, written. -/
def set2 (w : World) (b : Nat) (x y : Value) : World := (w.setCell ⟨b, 0, none⟩ x).setCell ⟨b, 1, none⟩ y
theorem OwnW.done {w wx : World} {N : Nat} {p v x y : ByteArray} (h : OwnW w wx N p v) : ((wx.setCell ⟨N + 1, 0, none⟩ (.string x)).setCell ⟨N + 1, 1, none⟩ (.string y)).cell? ⟨N, 0, none⟩ = some (.string p) ∧ ((wx.setCell ⟨N + 1, 0, none⟩ (.string x)).setCell ⟨N + 1, 1, none⟩ (.string y)).cell? ⟨N, 1, none⟩ = some (.string v) :=
  row_two ((Below.heap_setCell _ _ _ N (by show N ≠ N + 1; omega)).trans ((Below.heap_setCell _ _ _ N (by show N ≠ N + 1; omega)).trans h.bx))
theorem OwnW.out {w wx : World} {N : Nat} {p v x y : ByteArray} (h : OwnW w wx N p v) : (set2 wx (N + 1) (.string x) (.string y)).heap[N + 1]? = some (.cells #[.string x, .string y] 79 (0, 0)) ∧ Below N w (set2 wx (N + 1) (.string x) (.string y)) := by
  refine ⟨?_, (h.bel.setCell (p := ⟨N + 1, 0, none⟩) (by show N ≤ N + 1; omega) _).setCell (p := ⟨N + 1, 1, none⟩) (by show N ≤ N + 1; omega) _⟩
  unfold set2
  rw [Sm.heap_set (Sm.heap_set h.rx 0 (.string x)) 1 (.string y)]
  rfl
theorem _root_.Go.Proofs.YtiehcplepneajaaGreatDoor.Below.grownBy {w w' : World} {N : Nat} (h : Below N w w') (hN : N = w.heap.size) (r : Option Nat) : w.grownBy w' r :=
  ⟨h.os, h.tape, h.output, h.size, fun k hk _ => h.block k (by omega)⟩
theorem results_own13 {fn : Func} {p : Tmp} {ty : TypeId} (h : fn.results = #[.cell p ty]) (tmps : Array Value) (P : Program) (w : World) :
    (results fn tmps).run P w = ((asAddr (tmps.getD p undef)).run P w).andThen fun a w₁ => (loadVar ty a).run P w₁ := by
  simp only [results, h]
  simp [Sem.run_bind, Result.andThen]
end Om
end Go.Proofs.YtiehcplepneajaaGreatDoor
