/-
  The document's own disk as a value; what its act does.
-/
import Derived.Test.YtnmagfodjcookaaGreatDkRefMath
import Derived.Test.YtnmagfodjcookaaGreatDkMay
import Derived.Laws.ResultCell
namespace Go.Proofs.YtnmagfodjcookaaGreat
open Go.RowKit
namespace Dk
/-- A slice of texts, from B on, or none. -/
def TextsAt (w : World) (B : Nat) (v : Value) (l : List (List UInt8)) : Prop := ∃ A c, v = .slice A l.length c ∧ (l = [] ∨ ∃ g, A = some ⟨g, 0, none⟩ ∧ B ≤ g ∧ g < w.heap.size ∧ ∀ i, i < l.length → w.cell? ⟨g, i, none⟩ = some (.string ⟨(l.getD i []).toArray⟩))
/-- A slice of writes. -/
def WritesAt (w : World) (B : Nat) (v : Value) (l : List (Nat × List UInt8)) : Prop := ∃ A c, v = .slice A l.length c ∧ (l = [] ∨ ∃ g, A = some ⟨g, 0, none⟩ ∧ B ≤ g ∧ g < w.heap.size ∧ ∀ i, i < l.length → w.cell? ⟨g, 2 * i, none⟩ = some (.int .i64 ((l.getD i (0, [])).1 : Nat)) ∧ w.cell? ⟨g, 2 * i + 1, none⟩ = some (.string ⟨((l.getD i (0, [])).2).toArray⟩))
theorem TextsAt.below {w w' : World} {B : Nat} {v : Value} {l : List (List UInt8)} (h : TextsAt w B v l) (k : Below w.heap.size w w') : TextsAt w' B v l := by
  obtain ⟨A, c, e, h⟩ := h
  refine ⟨A, c, e, ?_⟩
  rcases h with h | ⟨g, e1, e2, e3, h⟩
  · exact .inl h
  · exact .inr ⟨g, e1, e2, Nat.lt_of_lt_of_le e3 k.size, fun i hi => (k.cell (p := ⟨g, i, none⟩) e3).trans (h i hi)⟩
theorem WritesAt.below {w w' : World} {B : Nat} {v : Value} {l : List (Nat × List UInt8)} (h : WritesAt w B v l) (k : Below w.heap.size w w') : WritesAt w' B v l := by
  obtain ⟨A, c, e, h⟩ := h
  refine ⟨A, c, e, ?_⟩
  rcases h with h | ⟨g, e1, e2, e3, h⟩
  · exact .inl h
  · exact .inr ⟨g, e1, e2, Nat.lt_of_lt_of_le e3 k.size, fun i hi => ⟨(k.cell (p := ⟨g, 2 * i, none⟩) e3).trans (h i hi).1, (k.cell (p := ⟨g, 2 * i + 1, none⟩) e3).trans (h i hi).2⟩⟩
end Dk
set_option maxRecDepth 100000 in
set_option maxHeartbeats 800000 in
theorem r7Act_any (w : World) (A B : Option Addr) (n c m d : Nat) (f : Int) (off : Bool) (hf : -9223372036854775808 ≤ f ∧ f ≤ 9223372036854775807) :
    Calls Tryz.prog 36 #[.agg #[.slice A n c, .slice B m d, .int .i64 f, .bool off]] w fun e w' => e = .returned (if f = 0 then .tuple #[.agg #[.slice A n c, .slice B m d, .int .i64 0, .bool true], .bool false] else .tuple #[.agg #[.slice A n c, .slice B m d, .int .i64 (if 0 < f then f - 1 else f), .bool off], .bool true]) ∧ Below w.heap.size w w' := by
  have hwr : 0 < f → IntKind.i64.wrap (f - 1) = f - 1 := by intro h; simp [IntKind.wrap, IntKind.bits, IntKind.signed]; omega
  by_cases h0 : f = 0
  · subst h0
    go_enter Tryz.func36, Tryz.ntmps36
    go_wp2
    refine bodyPost_ret (v := .tuple #[.agg #[.slice A n c, .slice B m d, .int .i64 0, .bool true], .bool false]) ((results_cell_tmp rfl _ _ _).trans ?_) rfl ⟨rfl, ?_⟩
    · go_simp
    · exact ((Below.refl _ w).alloc (Nat.le_refl _) _).alloc (by simp) _
  · have hb0 : (f == 0) = false := beq_eq_false_iff_ne.2 h0
    rw [if_neg h0]
    by_cases h1 : 0 < f
    · rw [if_pos h1]
      have hw2 := hwr h1
      clear hwr
      go_enter Tryz.func36, Tryz.ntmps36
      go_wp2
      refine bodyPost_ret (v := .tuple #[.agg #[.slice A n c, .slice B m d, .int .i64 (f - 1), .bool off], .bool true]) ((results_cell_tmp rfl _ _ _).trans ?_) rfl ⟨rfl, ?_⟩
      · go_simp
      · exact ((Below.refl _ w).alloc (Nat.le_refl _) _).alloc (by simp) _
    · rw [if_neg h1]
      clear hwr
      go_enter Tryz.func36, Tryz.ntmps36
      go_wp2
      refine bodyPost_ret (v := .tuple #[.agg #[.slice A n c, .slice B m d, .int .i64 f, .bool off], .bool true]) ((results_cell_tmp rfl _ _ _).trans ?_) rfl ⟨rfl, ?_⟩
      · go_simp
      · exact ((Below.refl _ w).alloc (Nat.le_refl _) _).alloc (by simp) _
end Go.Proofs.YtnmagfodjcookaaGreat
