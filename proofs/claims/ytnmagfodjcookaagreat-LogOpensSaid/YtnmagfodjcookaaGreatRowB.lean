/-
  A row of bytes that came of a conversion of a text, and grows: its mark behind the last cell does no harm.
-/
import Derived.Test.YtnmagfodjcookaaGreatMem
import Derived.ArgAppend
import Derived.Lib.ConvBytes
namespace Go.Proofs.YtnmagfodjcookaaGreat
open Go.RowKit
namespace Sm
/-- A slice of just these bytes, in a block from B on. -/
def RowB (w : World) (B : Nat) (v : Value) (xs : List UInt8) : Prop :=
  ∃ g cap cur lo hi, v = .slice (some ⟨g, 0, none⟩) xs.length cap ∧ B ≤ g ∧ w.heap[g]? = some (.cells cur 5 (lo, hi)) ∧ xs.length ≤ cap ∧ cur.size = cap ∧ (hi = 0 ∨ cap ≤ lo) ∧ ∀ j, j < xs.length → cur[j]? = some (.int .u8 (xs.getD j 0).toNat)
theorem RowB.low {w w' : World} {B C : Nat} {v : Value} {xs : List UInt8} (h : RowB w B v xs) (k : Below C w w') (hC : w.heap.size ≤ C) : RowB w' B v xs := by
  obtain ⟨g, cap, cur, lo, hi, h1, h2, h3, h4⟩ := h
  exact ⟨g, cap, cur, lo, hi, h1, h2, (k.block g (Nat.lt_of_lt_of_le (lt_of h3) hC)).trans h3, h4⟩
theorem bytesCells_size (w : World) (s : ByteArray) : (Lib.bytesCells w 5 s).size = grownCap w s.size 0 5 := by
  have := grownCap_ge w s.size 0 5
  have e : s.data.size = s.size := rfl
  simp [Lib.bytesCells, e]; omega
theorem conv_rowB (w : World) (s : ByteArray) : (convert 9 65 (.string s)).run Tryz.prog w = .ok (.slice (some ⟨w.heap.size, 0, none⟩) s.size (grownCap w s.size 0 5)) (Lib.bytesWorld w 5 s) ∧
    RowB (Lib.bytesWorld w 5 s) w.heap.size (.slice (some ⟨w.heap.size, 0, none⟩) s.size (grownCap w s.size 0 5)) s.data.toList ∧ Below w.heap.size w (Lib.bytesWorld w 5 s) := by
  refine ⟨Lib.run_convert_string_bytes w _ _ _ s Tryz.underlying9 Tryz.underlying65 Tryz.underlying5, ?_, ?_⟩
  · refine ⟨w.heap.size, _, _, _, _, rfl, Nat.le_refl _, Lib.bytesWorld_at_new w _ s, grownCap_ge w s.size 0 _, bytesCells_size w s, .inr (by rw [bytesCells_size]; exact Nat.le_refl _), fun j hj => ?_⟩
    have h := Lib.bytesWorld_cell w 5 s j hj
    simpa [World.cell?, Lib.bytesWorld_at_new] using h
  · exact ⟨by simp [Lib.bytesWorld, World.freeze, World.alloc, World.drew, -World.alloc_eq, -World.drew_eq], by simp [Lib.bytesWorld, World.freeze, World.alloc, World.drew, -World.alloc_eq, -World.drew_eq], by simp [Lib.bytesWorld, World.freeze, World.alloc, World.drew, -World.alloc_eq, -World.drew_eq], by rw [Lib.bytesWorld_size]; omega, fun k hk => Lib.bytesWorld_at_old w _ s k hk⟩
theorem run_append_byte {w : World} {B : Nat} {v : Value} {xs : List UInt8} (h : RowB w B v xs) (ty : TypeId) (x : UInt8) (N : Nat) (hx : w.cell? ⟨N, 0, none⟩ = some (.int .u8 x.toNat)) (hl : xs.length ≤ 70368744177664) (hB : B ≤ w.heap.size) :
    ∃ v' w', (Builtin.append_ #[65, 65] ty #[v, .slice (some ⟨N, 0, none⟩) 1 1]).run Tryz.prog w = .ok v' w' ∧ RowB w' B v' (xs ++ [x]) ∧ Below B w w' := by
  obtain ⟨i0, hi, hz0, hz1, hz2⟩ := info_parts info3_u8
  obtain ⟨g, cap, cur, lo, hh, rfl, hg, hrow, hle, hcs, hfr, hcell⟩ := h
  have hnews : ∀ j u, [Value.int .u8 (x.toNat : Int)][j]? = some u → w.cell? ((⟨N, 0, none⟩ : Addr).add j) = some u := by
    intro j u hj
    match j, hj with
    | 0, hj => simp at hj; subst hj; rw [Addr.add_mid]; exact hx
  have hone : ∀ u ∈ [Value.int .u8 (x.toNat : Int)], u.oneCell' = true := by intro u hu; simp at hu; subst hu; rfl
  by_cases hr : xs.length + 1 ≤ cap
  · have hfz : ∀ j, j < cap → w.frozen? ⟨g, j, none⟩ = false := fun j hj => by
      simp only [World.frozen?, hrow]
      rcases hfr with h | h
      · subst h; simp
      · simp; omega
    have hrun := run_append_room_cells (P := Tryz.prog) w 65 ty 5 i0 Tryz.underlying65 hi g 0 xs.length cap ⟨N, 0, none⟩ 1 1 [.int .u8 (x.toNat : Int)] (by rw [hz1]; rfl) hnews hone hr
      (fun j hj => by
        have : j = 0 := by simpa using hj
        subst this
        have e : cur[xs.length]? = some cur[xs.length] := Array.getElem?_eq_getElem (by omega)
        rw [hz1]; simp [World.cell?, hrow, e])
      (fun j hj => by
        have : j = 0 := by simpa using hj
        subst this
        rw [hz1]; simpa using hfz xs.length (by omega))
    rw [hz1] at hrun
    refine ⟨_, _, hrun, ?_, ?_⟩
    · refine ⟨g, cap, cur.setIfInBounds xs.length (.int .u8 x.toNat), lo, hh, by rw [List.length_append]; rfl, hg, ?_, by rw [List.length_append]; exact hr, by rw [Array.size_setIfInBounds]; exact hcs, hfr, fun j hj => ?_⟩
      · simp [World.setCells, World.setCell, Array.getElem?_modify, hrow]
      · rw [List.length_append, List.length_singleton] at hj
        by_cases hjn : j = xs.length
        · subst hjn
          rw [Array.getElem?_setIfInBounds_self_of_lt (by omega)]
          simp [List.getD_eq_getElem?_getD]
        · rw [Array.getElem?_setIfInBounds_ne (by omega), hcell j (by omega)]
          simp [List.getD_eq_getElem?_getD, List.getElem?_append_left (show j < xs.length by omega)]
    · exact (Below.refl B w).setCell (p := ⟨g, 0 + xs.length * 1, none⟩) hg _
  · have holds : ∀ j u, (Lib.byteCells xs)[j]? = some u → w.cell? ((⟨g, 0, none⟩ : Addr).add j) = some u := by
      intro j u hj
      have hj2 : j < xs.length := by
        have := (List.getElem?_eq_some_iff.1 hj).1
        rwa [Lib.byteCells_length] at this
      rw [byteCells_get hj2] at hj
      rw [Addr.add_mid, Nat.zero_add]
      simp only [World.cell?, hrow]
      rw [hcell j hj2]; exact hj
    obtain ⟨v', w', hrun, ho, hgr⟩ := run_append_arg_grows (P := Tryz.prog) w 65 ty 5 i0 (.int .u8 0) 1 1 Tryz.underlying65 hi hz0 hz1 hz2 rfl (by decide) ⟨g, 0, none⟩ xs.length cap (Lib.byteCells xs)
      (by rw [Lib.byteCells_length]; omega) holds ⟨N, 0, none⟩ 1 1 [.int .u8 (x.toNat : Int)] rfl hnews (by omega) (by unfold maxLen; omega) (by omega)
    refine ⟨v', w', hrun, ?_, (Below.refl B w).grown hgr hB (fun k hk => by cases hk)⟩
    rcases ho.2 with ⟨_, hn⟩ | ⟨g2, cap2, cur2, rfl, hg2, hh2, hn2, hc2, hs2, ht2⟩
    · omega
    · refine ⟨g2, cap2, cur2, 0, 0, by rw [List.length_append]; rfl, by omega, hh2, by rw [List.length_append]; exact hn2, by omega, .inl rfl, fun j hj => ?_⟩
      rw [List.length_append, List.length_singleton] at hj
      have e : cur2.toList.take ((xs.length + 1) * 1) = Lib.byteCells (xs ++ [x]) := by rw [ht2, Lib.byteCells_append]; rfl
      have e2 := congrArg (fun l => l[j]?) e
      simp only [List.getElem?_take] at e2
      rw [if_pos (by omega), byteCells_get (by rw [List.length_append]; exact hj)] at e2
      rw [← e2]; simp
theorem wpList_append_byte {w : World} {ops : Array Oper} {rest : List Oper} {o : Oper} {a : Act} {Q : Exit → Act → World → Prop} (hgd : o.guard = none) (s y : Operand)
    (ho : o.op = .call { callee := .builtin .append, args := #[s, y], argTypes := #[65, 65] }) {B : Nat} (v : Value) (xs : List UInt8) (hs : a.eval s = v) (h : RowB w B v xs) (x : UInt8) (N : Nat)
    (hy : a.eval y = .slice (some ⟨N, 0, none⟩) 1 1) (hx : w.cell? ⟨N, 0, none⟩ = some (.int .u8 x.toNat)) (hl : xs.length ≤ 70368744177664) (hB : B ≤ w.heap.size)
    (K : ∀ v' w', RowB w' B v' (xs ++ [x]) → Below B w w' → wpList Tryz.prog ops Q rest (a.put o.dst v') w') : wpList Tryz.prog ops Q (o :: rest) a w := by
  refine wpList_plain hgd fun L hL => ?_
  obtain ⟨v', w', hrun, h1, h2⟩ := run_append_byte h o.type x N hx hl hB
  unfold Oper.wp execOp
  simp only [ho, resolve, invoke, builtin, Sem.run_bind, Sem.run_pure, Result.andThen_ok, List.map_toArray, List.map_cons, List.map_nil, hs, hy, hrun]
  exact hL _ _ (K v' w' h1 h2)
end Sm
end Go.Proofs.YtnmagfodjcookaaGreat
