/-
  What New, Len, Twin do.
-/
import Derived.Test.YtkijdpgdniaagaaDoorShWrite
namespace Go.Proofs.YtkijdpgdniaagaaDoor
open Go.RowKit
namespace Sm
/-- The numbers h stand in their variable. -/
def HAt (w : World) : Prop := ∀ i, i < 8 → w.cell? ⟨0, i, none⟩ = some (.int .u32 (h0.l.getD i 0 : Nat))
def fresh : Obj := .cells (cells true h0 (List.replicate 64 0) 0) 73
theorem is_new (w : World) : Is (w.alloc fresh) w.heap.size [] := ⟨List.replicate 64 0, by simp, rfl, heap_alloc_new w _⟩
theorem KAt.low {w w' : World} {B : Nat} (h : KAt w) (k : Below B w w') (hB : 1 < B) : KAt w' := fun i hi => (k.cell (p := ⟨1, i, none⟩) hB).trans (h i hi)
theorem HAt.low {w w' : World} {B : Nat} (h : HAt w) (k : Below B w w') (hB : 0 < B) : HAt w' := fun i hi => (k.cell (p := ⟨0, i, none⟩) hB).trans (h i hi)
theorem HAt.grown {w w' : World} {b : Nat} (h : HAt w) (k : w.grownBy w' (some b)) (hb : b ≠ 0) (hs : 0 < w.heap.size) : HAt w' := fun i hi => (grown_cell k hs (Ne.symm hb)).trans (h i hi)
end Sm

theorem wpList_build_eq {P : Program} {ops : Array Oper} {rest : List Oper} {o : Oper} {a : Act} {w : World} {Q : Exit → Act → World → Prop} (hg : o.guard = none) (t : TypeId) (parts : Array (Nat × Operand)) (ho : o.op = .build t parts)
    (cells : Array Value) (hc : P.built t (parts.map fun (i, x) => (i, a.eval x)).toList = some cells)
    (h : wpList P ops Q rest (a.put o.dst (.agg cells)) w) : wpList P ops Q (o :: rest) a w := by
  refine wpList_build hg t parts ho (by rw [hc]; rfl) ?_
  rw [hc]
  exact h

set_option maxRecDepth 100000 in
set_option maxHeartbeats 1000000 in
theorem new_any (w : World) (h : Sm.HAt w) : Calls Tryd.prog 21 #[] w fun e w' => e = .returned (.pointer (some ⟨w.heap.size, 0, none⟩)) ∧ w.alloc Sm.fresh = w' := by
  have a0 := h 0 (by decide)
  have a1 := h 1 (by decide)
  have a2 := h 2 (by decide)
  have a3 := h 3 (by decide)
  have a4 := h 4 (by decide)
  have a5 := h 5 (by decide)
  have a6 := h 6 (by decide)
  have a7 := h 7 (by decide)
  simp only [Sm.h0, Sm.V.l, List.getD_cons_zero, List.getD_cons_succ] at a0 a1 a2 a3 a4 a5 a6 a7
  clear h
  go_enter Tryd.func21, Tryd.ntmps21
  go_wp2_with (refine wpList_build_eq rfl 73 _ rfl (Sm.cells true Sm.h0 (List.replicate 64 0) 0) (by kernel_rfl) ?_)
  go_ret
  exact ⟨rfl, rfl⟩
end Go.Proofs.YtkijdpgdniaagaaDoor
