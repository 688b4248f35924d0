/-
  The document's map as a value: a row of pairs that lies somewhere; its parts; where With and Without stand.
-/
import Derived.Test.YtkoipingokglpaaDoorR13Find
import Derived.Test.YtkoipingokglpaaDoorOmOwn
import Derived.Test.YtkoipingokglpaaDoorOmMath
import Derived.Test.YtkoipingokglpaaDoorMBase
import Derived.Test.YtkoipingokglpaaDoorPaPath
import Derived.Test.YtkoipingokglpaaDoorOmActs
namespace Go.Proofs.YtkoipingokglpaaDoor
open Go.RowKit
namespace Om
/-- A row of pairs that lies somewhere, with room behind. -/
def Ref (w : World) (A : Option Addr) (c : Nat) (l : List Pr) : Prop := listAt w A l ∧ l.length ≤ c
theorem Ref.below {w w' : World} {A : Option Addr} {c : Nat} {l : List Pr} (h : Ref w A c l) (k : Below w.heap.size w w') : Ref w' A c l := ⟨h.1.below k, h.2⟩
theorem Ref.nil (w : World) : Ref w none 0 [] := ⟨.inl rfl, Nat.le_refl _⟩
theorem Row.cap {w : World} {B : Nat} {A : Option Addr} {c : Nat} {l : List Pr} (h : Row w B A c l) : l.length ≤ c := by
  rcases h.2 with ⟨e, h2⟩ | ⟨g, cap, cur, e, hb, hg, hc, _⟩
  · omega
  · injection e with e1 e2 e3
    omega
theorem Row.ref {w : World} {B : Nat} {A : Option Addr} {c : Nat} {l : List Pr} (h : Row w B A c l) : Ref w A c l := ⟨h.listAt, h.cap⟩
theorem listAt.take {w : World} {A : Option Addr} {l : List Pr} (h : listAt w A l) (i : Nat) : listAt w A (l.take i) := by
  rcases h with rfl | ⟨b, off, h1, h2, h3⟩
  · exact .inl (by simp)
  · refine .inr ⟨b, off, h1, h2, fun k hk => ?_⟩
    rw [List.getElem_take]
    exact h3 k (by simp only [List.length_take] at hk; omega)
/-- What a slice from the i-th on has for its place. -/
def placeFrom (A : Option Addr) (c i : Nat) : Option Addr := if c = i then A else A.map (·.add (i * 2))
theorem listAt.drop {w : World} {A : Option Addr} {l : List Pr} {c : Nat} (h : listAt w A l) (hc : l.length ≤ c) (i : Nat) : listAt w (placeFrom A c i) (l.drop i) := by
  by_cases hi : l.length ≤ i
  · exact .inl (List.drop_eq_nil_of_le hi)
  · rcases h with rfl | ⟨b, off, rfl, h2, h3⟩
    · exact .inl (by simp)
    · refine .inr ⟨b, off + i * 2, ?_, h2, fun k hk => ?_⟩
      · unfold placeFrom
        rw [if_neg (by omega)]
        simp [Addr.add]
      · rw [List.getElem_drop]
        have := h3 (i + k) (by simp only [List.length_drop] at hk; omega)
        rw [Nat.add_mul, ← Nat.add_assoc] at this
        exact this
theorem elem_pairs : Tryd.prog.underlying 37 = some (.slice (Tryd.prog.elem 37)) := by kernel_rfl
theorem size_pair (w : World) : (sizeOf (Tryd.prog.elem 37)).run Tryd.prog w = .ok 2 w := by kernel_rfl
theorem map_add0 (A : Option Addr) : A.map (·.add (0 * 2)) = A := by cases A <;> simp [Addr.add]
theorem run_to (w : World) {A : Option Addr} {n c i : Nat} (h1 : i ≤ n) (h2 : n ≤ c) : (Instr.sliceAt 37 (.slice A n c) none (some (.int .i64 (i : Int))) none).run Tryd.prog w = .ok (.slice A i c) w := by
  rw [run_sliceAt_slice w _ _ _ _ _ elem_pairs, run_slice_h w _ _ _ _ elem_pairs _ _ (by omega) (by omega), size_pair]
  show Result.ok (sliced A 0 (i : Int).toNat c 2) w = _
  unfold sliced
  rw [map_add0]
  simp
theorem run_from (w : World) {A : Option Addr} {n c i : Nat} (h1 : i ≤ n) : (Instr.sliceAt 37 (.slice A n c) (some (.int .i64 (i : Int))) none none).run Tryd.prog w = .ok (.slice (placeFrom A c i) (n - i) (c - i)) w := by
  rw [run_sliceAt_slice w _ _ _ _ _ elem_pairs, run_slice_l w _ _ _ _ elem_pairs _ _ (by omega) (by omega), size_pair]
  show Result.ok (sliced A (i : Int).toNat n c 2) w = _
  unfold sliced placeFrom
  rw [Int.toNat_natCast]
section
variable {w W W' : World} {N K : Nat} {A B : Option Addr} {c k : Nat} {l m : List Pr}
end
end Om
end Go.Proofs.YtkoipingokglpaaDoor
