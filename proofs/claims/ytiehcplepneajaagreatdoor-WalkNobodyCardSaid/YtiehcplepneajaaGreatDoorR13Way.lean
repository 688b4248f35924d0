/-
  The document's map as a value: a row of pairs that lies somewhere; its parts; where With and Without stand.
-/
import Derived.Test.YtiehcplepneajaaGreatDoorR13Find
import Derived.Test.YtiehcplepneajaaGreatDoorOmOwn
import Derived.Test.YtiehcplepneajaaGreatDoorOmPut
namespace Go.Proofs.YtiehcplepneajaaGreatDoor
open Go.RowKit
namespace Om
/-- A row of pairs that lies somewhere, with room behind. -/
def Ref (w : World) (A : Option Addr) (c : Nat) (l : List Pr) : Prop := listAt w A l ∧ l.length ≤ c
theorem Ref.below {w w' : World} {A : Option Addr} {c : Nat} {l : List Pr} (h : Ref w A c l) (k : Below w.heap.size w w') : Ref w' A c l := ⟨h.1.below k, h.2⟩
theorem Ref.nil (w : World) : Ref w none 0 [] := ⟨.inl rfl, Nat.le_refl _⟩
theorem Row.cap {w : World} {B : Nat} {A : Option Addr} {c : Nat} {l : List Pr} (h : Row w B A c l) : l.length ≤ c := by
  rcases h.2 with ⟨e, h2⟩ | ⟨g, cap, cur, e, hb, hg, hc, _⟩
  · omega
  · injection e with e1 e2 e3
    omega
theorem Row.ref {w : World} {B : Nat} {A : Option Addr} {c : Nat} {l : List Pr} (h : Row w B A c l) : Ref w A c l := ⟨h.listAt, h.cap⟩
theorem listAt.take {w : World} {A : Option Addr} {l : List Pr} (h : listAt w A l) (i : Nat) : listAt w A (l.take i) := by
  rcases h with rfl | ⟨b, off, h1, h2, h3⟩
  · exact .inl (by simp)
  · refine .inr ⟨b, off, h1, h2, fun k hk => ?_⟩
    rw [List.getElem_take]
    exact h3 k (by simp only [List.length_take] at hk; omega)
/-- What a slice from the i-th on has for its place. -/
def placeFrom (A : Option Addr) (c i : Nat) : Option Addr := if c = i then A else A.map (·.add (i * 2))
theorem listAt.drop {w : World} {A : Option Addr} {l : List Pr} {c : Nat} (h : listAt w A l) (hc : l.length ≤ c) (i : Nat) : listAt w (placeFrom A c i) (l.drop i) := by
  by_cases hi : l.length ≤ i
  · exact .inl (List.drop_eq_nil_of_le hi)
  · rcases h with rfl | ⟨b, off, rfl, h2, h3⟩
    · exact .inl (by simp)
    · refine .inr ⟨b, off + i * 2, ?_, h2, fun k hk => ?_⟩
      · unfold placeFrom
        rw [if_neg (by omega)]
        simp [Addr.add]
      · rw [List.getElem_drop]
        have := h3 (i + k) (by simp only [List.length_drop] at hk; omega)
        rw [Nat.add_mul, ← Nat.add_assoc] at this
        exact this
theorem elem_pairs : Tryz.prog.underlying 22 = some (.slice (Tryz.prog.elem 22)) := by kernel_rfl
theorem size_pair (w : World) : (sizeOf (Tryz.prog.elem 22)).run Tryz.prog w = .ok 2 w := by kernel_rfl
theorem map_add0 (A : Option Addr) : A.map (·.add (0 * 2)) = A := by cases A <;> simp [Addr.add]
theorem run_to (w : World) {A : Option Addr} {n c i : Nat} (h1 : i ≤ n) (h2 : n ≤ c) : (Instr.sliceAt 22 (.slice A n c) none (some (.int .i64 (i : Int))) none).run Tryz.prog w = .ok (.slice A i c) w := by
  rw [run_sliceAt_slice w _ _ _ _ _ elem_pairs, run_slice_h w _ _ _ _ elem_pairs _ _ (by omega) (by omega), size_pair]
  show Result.ok (sliced A 0 (i : Int).toNat c 2) w = _
  unfold sliced
  rw [map_add0]
  simp
theorem run_from (w : World) {A : Option Addr} {n c i : Nat} (h1 : i ≤ n) : (Instr.sliceAt 22 (.slice A n c) (some (.int .i64 (i : Int))) none none).run Tryz.prog w = .ok (.slice (placeFrom A c i) (n - i) (c - i)) w := by
  rw [run_sliceAt_slice w _ _ _ _ _ elem_pairs, run_slice_l w _ _ _ _ elem_pairs _ _ (by omega) (by omega), size_pair]
  show Result.ok (sliced A (i : Int).toNat n c 2) w = _
  unfold sliced placeFrom
  rw [Int.toNat_natCast]
/-- Where With and Without stand: the map in block N, the result in block N + 1, what grows in block K. -/
structure Way (w W : World) (N K : Nat) (A : Option Addr) (c : Nat) (l : List Pr) (B : Option Addr) (k : Nat) (m : List Pr) : Prop where
  box : W.heap[N]? = some (.cells #[.slice A l.length c] 85 (0, 0))
  res : W.heap[N + 1]? = some (.cells #[.slice none 0 0] 85 (0, 0))
  out : ∃ v, W.heap[K]? = some (.cells #[v] 85 (0, 0))
  row : Row W N B k m
  bel : Below N w W
  low : N ≤ W.heap.size
  ne : N + 1 < K
  src : Ref W A c l
section
variable {w W W' : World} {N K : Nat} {A B : Option Addr} {c k : Nat} {l m : List Pr}
theorem ty_ne {V : World} {q : Nat} {cs cs' : Array Value} {j : Nat} (h : V.heap[q]? = some (.cells cs 85 (0, 0))) (h2 : V.heap[j]? = some (.cells cs' 79 (0, 0))) : j ≠ q := fun e => by
  subst e
  rw [h] at h2
  simp only [Option.some.injEq, Obj.cells.injEq] at h2
  exact absurd h2.2.1 (by decide)
theorem Way.step (h : Way w W N K A c l B k m) (g : Below W.heap.size W W') : Way w W' N K A c l B k m :=
  ⟨(g.block N (Sm.lt_of h.box)).trans h.box, (g.block (N + 1) (Sm.lt_of h.res)).trans h.res, by obtain ⟨v, hvx⟩ := h.out; exact ⟨v, (g.block K (Sm.lt_of hvx)).trans hvx⟩, h.row.low g, h.bel.trans (g.mono h.low), Nat.le_trans h.low g.size, h.ne, h.src.below g⟩
/-- The row has grown. -/
theorem Way.push (h : Way w W N K A c l B k m) (hsrc : ∀ b off, A = some ⟨b, off, none⟩ → l ≠ [] → b < N) {B' : Option Addr} {k' : Nat} {m' : List Pr} (hr : Row W' N B' k' m') (g : W.grownBy W' (Value.slice B m.length k).ownBlock) : Way w W' N K A c l B' k' m' := by
  have off : ∀ (q : Nat) (cs : Array Value), W.heap[q]? = some (Obj.cells cs 85 (0, 0)) → W'.heap[q]? = W.heap[q]? := fun q cs hq => g.block q (Sm.lt_of hq) (fun e => h.row.off hq (show 85 ≠ 79 by decide) e.symm)
  refine ⟨(off _ _ h.box).trans h.box, (off _ _ h.res).trans h.res, by obtain ⟨v, hvx⟩ := h.out; exact ⟨v, (off _ _ hvx).trans hvx⟩, hr, h.bel.grown g h.low (fun q hq => (h.row.blk hq).1), Nat.le_trans h.low g.size, h.ne, ?_, h.src.2⟩
  rcases h.src.1 with e | ⟨b, o, e1, e2, e3⟩
  · exact .inl e
  · by_cases h0 : l = []
    · exact .inl h0
    · have hb := hsrc b o e1 h0
      refine .inr ⟨b, o, e1, Nat.lt_of_lt_of_le e2 g.size, fun j hj => ?_⟩
      have hkeep : W'.heap[b]? = W.heap[b]? := g.block b e2 (fun e => by have := (h.row.blk e.symm).1; omega)
      have ec : ∀ i, W'.cell? ⟨b, i, none⟩ = W.cell? ⟨b, i, none⟩ := fun i => World.cell?_of_block (w := W) (a := ⟨b, i, none⟩) hkeep
      have := e3 j hj
      unfold prAt at this ⊢
      rw [ec, ec]
      exact this
/-- The cell of what grows is written. -/
theorem Way.set (h : Way w W N K A c l B k m) (hsrc : ∀ b off, A = some ⟨b, off, none⟩ → l ≠ [] → b < N) (v : Value) : Way w (W.setCell ⟨K, 0, none⟩ v) N K A c l B k m ∧ (W.setCell ⟨K, 0, none⟩ v).heap[K]? = some (.cells #[v] 85 (0, 0)) := by
  have hne := h.ne
  obtain ⟨v0, hvx⟩ := h.out
  have hK : (W.setCell ⟨K, 0, none⟩ v).heap[K]? = some (.cells #[v] 85 (0, 0)) := Sm.heap_set hvx 0 v
  refine ⟨⟨(Below.heap_setCell _ _ _ _ (by show N ≠ K; omega)).trans h.box, (Below.heap_setCell _ _ _ _ (by show N + 1 ≠ K; omega)).trans h.res, ⟨_, hK⟩, h.row.keep fun j cs hj => Below.heap_setCell _ _ _ _ (ty_ne hvx hj), h.bel.setCell (p := ⟨K, 0, none⟩) (by show N ≤ K; omega) _, by simpa using h.low, h.ne, ?_, h.src.2⟩, hK⟩
  rcases h.src.1 with e | ⟨b, o, e1, e2, e3⟩
  · exact .inl e
  · by_cases h0 : l = []
    · exact .inl h0
    · have hb := hsrc b o e1 h0
      refine .inr ⟨b, o, e1, by simpa using e2, fun j hj => ?_⟩
      have ec : ∀ i, (W.setCell ⟨K, 0, none⟩ v).cell? ⟨b, i, none⟩ = W.cell? ⟨b, i, none⟩ := fun i => World.cell?_of_block (w := W) (a := ⟨b, i, none⟩) (Below.heap_setCell _ _ _ _ (by show b ≠ K; omega))
      have := e3 j hj
      unfold prAt at this ⊢
      rw [ec, ec]
      exact this
/-- The result is written. -/
theorem Way.last (h : Way w W N K A c l B k m) (v : Value) : Row (W.setCell ⟨N + 1, 0, none⟩ v) N B k m ∧ Below N w (W.setCell ⟨N + 1, 0, none⟩ v) ∧ (W.setCell ⟨N + 1, 0, none⟩ v).heap[N + 1]? = some (.cells #[v] 85 (0, 0)) :=
  ⟨h.row.keep fun j cs hj => Below.heap_setCell _ _ _ _ (ty_ne h.res hj), h.bel.setCell (p := ⟨N + 1, 0, none⟩) (by show N ≤ N + 1; omega) _, Sm.heap_set h.res 0 v⟩
theorem Way.made {w : World} {A : Option Addr} {c : Nat} {l : List Pr} (h : Ref w A c l) {W : World} (hW : Below ((w.alloc (.cells #[.slice A l.length c] 85)).alloc (.cells #[.slice none 0 0] 85)).heap.size ((w.alloc (.cells #[.slice A l.length c] 85)).alloc (.cells #[.slice none 0 0] 85)) W) :
    Way w (W.alloc (.cells #[.slice none 0 0] 85)) w.heap.size W.heap.size A c l none 0 [] ∧ (W.alloc (.cells #[.slice none 0 0] 85)).heap[W.heap.size]? = some (.cells #[.slice none 0 0] 85 (0, 0)) := by
  have g1 := heap_alloc_new w (.cells #[.slice A l.length c] 85)
  have g2 := heap_alloc_new (w.alloc (.cells #[.slice A l.length c] 85)) (.cells #[.slice none 0 0] 85)
  have hs1 : (w.alloc (.cells #[.slice A l.length c] 85)).heap.size = w.heap.size + 1 := by simp
  have hs2 : ((w.alloc (.cells #[.slice A l.length c] 85)).alloc (.cells #[.slice none 0 0] 85)).heap.size = w.heap.size + 2 := by simp
  rw [hs1] at g2
  have hz := hW.size
  rw [hs2] at hW hz
  have b0 : Below w.heap.size w ((w.alloc (.cells #[.slice A l.length c] 85)).alloc (.cells #[.slice none 0 0] 85)) := ((Below.refl _ w).alloc (Nat.le_refl _) _).alloc (by simp) _
  have b1 : Below w.heap.size w (W.alloc (.cells #[.slice none 0 0] 85)) := (b0.trans (hW.mono (by omega))).alloc (by omega) _
  refine ⟨⟨?_, ?_, ⟨_, heap_alloc_new _ _⟩, Row.nil _ _, b1, by simp; omega, by omega, h.below b1⟩, heap_alloc_new _ _⟩
  · refine (Below.heap_alloc _ _ _ (by omega)).trans ((hW.block _ (by omega)).trans ((Below.heap_alloc _ _ _ (by omega)).trans g1))
  · refine (Below.heap_alloc _ _ _ (by omega)).trans ((hW.block _ (by omega)).trans g2)
end
end Om
end Go.Proofs.YtiehcplepneajaaGreatDoor
