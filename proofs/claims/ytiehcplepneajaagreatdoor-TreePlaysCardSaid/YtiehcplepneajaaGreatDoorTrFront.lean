/-
  A row of one act, built, and an act loaded.
-/
import Derived.Test.YtiehcplepneajaaGreatDoorTrE
import Derived.Great.BuildSlice
namespace Go.Proofs.YtiehcplepneajaaGreatDoor
open Go.RowKit
namespace Tr
theorem info3_act : (Tryz.prog.info? 87).map (fun i => (i.zero, i.size, i.bytes)) = some (some (.agg #[.int .u8 0, .string ⟨#[]⟩, .string ⟨#[]⟩]), 3, 40) := by kernel_rfl
theorem fill_act (p : Ac) (z : Array Value) (hz : z.size = 3) : Instr.fill (fun i => some (i * 3, 3)) z [(0, .agg p.cells.toArray)] = some p.cells.toArray := by
  obtain ⟨l, rfl⟩ : ∃ l : List Value, z = l.toArray := ⟨z.toList, by simp⟩
  match l, hz with
  | [a, b, c], _ => rfl
theorem sizeA (f : Nat → Value) : ((Array.range (1 * 3)).map f).size = 3 := by simp
theorem und_acts15 : Tryz.prog.underlying 82 = some (.slice 87) := by kernel_rfl
theorem wpList_one {o : Oper} {a : Act} {w : World} {Q : Exit → Act → World → Prop} {ops : Array Oper} {rest : List Oper} (x : Operand) (ho : o.op = .buildSlice 82 1 #[(0, x)]) (b : Ac) (hx : a.eval x = .agg #[.int .u8 (b.d : Int), .string b.p, .string b.v])
    (h : wpList Tryz.prog ops Q rest (a.put o.dst (.slice (some ⟨w.heap.size, 0, none⟩) 1 1)) (w.alloc (.cells #[.int .u8 (b.d : Int), .string b.p, .string b.v] 87))) (hgd : Region.wanted o (yielded ops a.tmps) = true) : wpList Tryz.prog ops Q (o :: rest) a w :=
  wpList_step fun _ hK => by
    obtain ⟨i0, hi, hz0, hz1, hz2⟩ := info_parts info3_act
    rw [if_pos hgd]
    exact wp_buildSlice 82 87 1 #[(0, x)] ho #[.int .u8 (b.d : Int), .string b.p, .string b.v] i0 _ und_acts15 hi hz0 (by rw [hz1]; decide) (by rw [hz1]; decide) (by rw [hz1]; simp only [List.map_toArray, List.map_cons, List.map_nil, hx]; exact fill_act b _ (sizeA _)) (hK _ _ h)
theorem infoAct (c : Array Value) (h : c.size = 3) : (Tryz.prog.info? 87).map (·.size) = some c.size := by rw [h]; kernel_rfl
theorem oneAt (w : World) (b : Ac) : actsAt (w.alloc (.cells #[.int .u8 (b.d : Int), .string b.p, .string b.v] 87)) (some ⟨w.heap.size, 0, none⟩) [b] := by
  have g := heap_alloc_new w (.cells #[.int .u8 (b.d : Int), .string b.p, .string b.v] 87)
  refine .inr ⟨_, _, rfl, Sm.lt_of g, fun k hk => ?_⟩
  obtain rfl : k = 0 := by simp at hk; omega
  exact ⟨Sm.cells_of g 0 _ rfl, Sm.cells_of g 1 _ rfl, Sm.cells_of g 2 _ rfl⟩
theorem FairA.one {b : Ac} (h : FairA [b]) : b.p.size ≤ 1000 ∧ b.v.size ≤ 1000 := h.2 0 (by simp)
theorem off_of {W : World} {A : Option Addr} {l : List Ac} {r : Nat} (h : actsAt W A l) (hr : W.heap.size ≤ r) : Off A l r := by
  intro b off e hne hbr
  rcases h with h | ⟨b', off', e', hb, _⟩
  · exact hne h
  · rw [e] at e'
    cases e'
    omega
end Tr
end Go.Proofs.YtiehcplepneajaaGreatDoor
