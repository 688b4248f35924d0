/-
  The document's own disk as a value, beside the program's.
-/
import Derived.Test.YtnmagfodjcookaaGreatDkRefRead
import Derived.Deep.Upon
namespace Go.Proofs.YtnmagfodjcookaaGreat
open Go.RowKit
namespace Dk
/-- The writes' cells. -/
def flatW (ws : List (Nat × List UInt8)) : List Value := ws.flatMap fun p => [.int .i64 (p.1 : Nat), txt p.2]
theorem flatW_append (a b : List (Nat × List UInt8)) : flatW (a ++ b) = flatW a ++ flatW b := by simp [flatW]
theorem flatW_length : ∀ ws : List (Nat × List UInt8), (flatW ws).length = ws.length * 2
  | [] => rfl
  | p :: ws => by
    have := flatW_length ws
    simp only [flatW, List.flatMap_cons, List.length_append, List.length_cons, List.length_nil] at this ⊢
    omega
theorem flatW_at : ∀ (ws : List (Nat × List UInt8)) (i : Nat), i < ws.length → (flatW ws)[2 * i]? = some (.int .i64 ((ws.getD i (0, [])).1 : Nat)) ∧ (flatW ws)[2 * i + 1]? = some (.string ⟨((ws.getD i (0, [])).2).toArray⟩)
  | [], _, h => by simp at h
  | p :: ws, 0, _ => ⟨rfl, rfl⟩
  | p :: ws, i + 1, h => by
    have ih := flatW_at ws i (by simpa using h)
    have e : flatW (p :: ws) = [.int .i64 (p.1 : Nat), txt p.2] ++ flatW ws := rfl
    rw [e, List.getElem?_append_right (by simp; omega), List.getElem?_append_right (by simp; omega)]
    simpa [Nat.mul_add, show 2 * i + 2 + 1 - 2 = 2 * i + 1 by omega] using ih
theorem flatW_single (ws : List (Nat × List UInt8)) : ∀ u ∈ flatW ws, u.oneCell' = true := by
  intro u hu
  simp only [flatW, List.mem_flatMap] at hu
  obtain ⟨p, _, h⟩ := hu
  simp at h
  rcases h with rfl | rfl <;> rfl
theorem flatW_one (p : Nat × List UInt8) : flatW [p] = [.int .i64 (p.1 : Nat), txt p.2] := rfl
theorem WritesAt.cellsAt {w : World} {B : Nat} {a : Addr} {n c : Nat} {ws : List (Nat × List UInt8)} (h : WritesAt w B (.slice (some a) n c) ws) : ∀ j u, (flatW ws)[j]? = some u → w.cell? (a.add j) = some u := by
  intro j u hj
  obtain ⟨A', c', e, h⟩ := h
  simp only [Value.slice.injEq] at e
  have hj2 : j < ws.length * 2 := by
    rw [← flatW_length]
    exact (List.getElem?_eq_some_iff.1 hj).1
  rcases h with h | ⟨g, e1, _, _, h⟩
  · rw [h] at hj2; simp at hj2
  · rw [← e.1] at e1
    obtain rfl := Option.some.inj e1
    have hi : j / 2 < ws.length := by omega
    have h1 := h (j / 2) hi
    have h2 := flatW_at ws (j / 2) hi
    rw [Addr.add_mid, Nat.zero_add]
    rcases Nat.mod_two_eq_zero_or_one j with m | m
    · have ej : j = 2 * (j / 2) := by omega
      rw [ej] at hj ⊢
      rw [h2.1] at hj
      exact h1.1.trans hj
    · have ej : j = 2 * (j / 2) + 1 := by omega
      rw [ej] at hj ⊢
      rw [h2.2] at hj
      exact h1.2.trans hj
theorem TextsAt.cellsAt {w : World} {B : Nat} {a : Addr} {n c : Nat} {l : List (List UInt8)} (h : TextsAt w B (.slice (some a) n c) l) : ∀ j u, (l.map txt)[j]? = some u → w.cell? (a.add j) = some u := by
  intro j u hj
  obtain ⟨A', c', e, h⟩ := h
  simp only [Value.slice.injEq] at e
  have hj2 : j < l.length := by simpa using (List.getElem?_eq_some_iff.1 hj).1
  rcases h with h | ⟨g, e1, _, _, h⟩
  · rw [h] at hj2; simp at hj2
  · rw [← e.1] at e1
    obtain rfl := Option.some.inj e1
    rw [Addr.add_mid, Nat.zero_add, h j hj2]
    rw [List.getElem?_map, List.getElem?_eq_getElem hj2] at hj
    rw [List.getD_eq_getElem?_getD, List.getElem?_eq_getElem hj2]
    exact hj
theorem own_cells {w : World} {B e size : Nat} {A : Option Addr} {c n : Nat} {xs : List Value} (ho : w.ownsRow B e size (.slice A n c) n xs) (hn : n ≠ 0) : ∃ g, A = some ⟨g, 0, none⟩ ∧ B ≤ g ∧ g < w.heap.size ∧ ∀ j, j < n * size → w.cell? ⟨g, j, none⟩ = xs[j]? := by
  rcases ho.2 with ⟨_, h0⟩ | ⟨g, cap, cur, e1, h3, h4, h5, h6, h7, h8⟩
  · omega
  · simp only [Value.slice.injEq] at e1
    refine ⟨g, e1.1, h3, Sm.lt_of h4, fun j hj => ?_⟩
    rw [← h8, List.getElem?_take, if_pos hj]
    simp [World.cell?, h4]
theorem TextsAt.of_own {w : World} {B e : Nat} {A : Option Addr} {c : Nat} {l : List (List UInt8)} (ho : w.ownsRow B e 1 (.slice A l.length c) l.length (l.map txt)) : TextsAt w B (.slice A l.length c) l := by
  refine ⟨A, c, rfl, ?_⟩
  by_cases h : l = []
  · exact .inl h
  · obtain ⟨g, e1, e2, e3, e4⟩ := own_cells ho (by simpa using h)
    refine .inr ⟨g, e1, e2, e3, fun i hi => ?_⟩
    rw [e4 i (by omega), List.getElem?_map, List.getElem?_eq_getElem hi, List.getD_eq_getElem?_getD, List.getElem?_eq_getElem hi]
    rfl
theorem WritesAt.of_own {w : World} {B e : Nat} {A : Option Addr} {c : Nat} {ws : List (Nat × List UInt8)} (ho : w.ownsRow B e 2 (.slice A ws.length c) ws.length (flatW ws)) : WritesAt w B (.slice A ws.length c) ws := by
  refine ⟨A, c, rfl, ?_⟩
  by_cases h : ws = []
  · exact .inl h
  · obtain ⟨g, e1, e2, e3, e4⟩ := own_cells ho (by simpa using h)
    refine .inr ⟨g, e1, e2, e3, fun i hi => ?_⟩
    have := flatW_at ws i hi
    rw [e4 (2 * i) (by omega), e4 (2 * i + 1) (by omega)]
    exact this
theorem WritesAt.nil (w : World) (B : Nat) : WritesAt w B (.slice none 0 0) [] := ⟨none, 0, rfl, .inl rfl⟩
theorem TextsAt.more {w : World} {B : Nat} {v : Value} {l : List (List UInt8)} (h : TextsAt w B v l) : TextsAt w 0 v l := by
  obtain ⟨A, c, e, h⟩ := h
  refine ⟨A, c, e, h.imp id fun ⟨g, e1, _, e3, h⟩ => ⟨g, e1, Nat.zero_le _, e3, h⟩⟩
theorem WritesAt.more {w : World} {B : Nat} {v : Value} {l : List (Nat × List UInt8)} (h : WritesAt w B v l) : WritesAt w 0 v l := by
  obtain ⟨A, c, e, h⟩ := h
  refine ⟨A, c, e, h.imp id fun ⟨g, e1, _, e3, h⟩ => ⟨g, e1, Nat.zero_le _, e3, h⟩⟩
theorem TextsAt.keep {w w' : World} {B : Nat} {v : Value} {l : List (List UInt8)} (h : TextsAt w B v l) (hs : w.heap.size ≤ w'.heap.size) (k : ∀ g, g < w.heap.size → v.ownBlock = some g → w'.heap[g]? = w.heap[g]?) : TextsAt w' B v l := by
  obtain ⟨A, c, e, h⟩ := h
  refine ⟨A, c, e, h.imp id fun ⟨g, e1, e2, e3, h⟩ => ⟨g, e1, e2, by omega, fun i hi => ?_⟩⟩
  have := k g e3 (by rw [e, e1]; rfl)
  rw [← h i hi]
  simp only [World.cell?, this]
theorem WritesAt.keep {w w' : World} {B : Nat} {v : Value} {l : List (Nat × List UInt8)} (h : WritesAt w B v l) (hs : w.heap.size ≤ w'.heap.size) (k : ∀ g, g < w.heap.size → v.ownBlock = some g → w'.heap[g]? = w.heap[g]?) : WritesAt w' B v l := by
  obtain ⟨A, c, e, h⟩ := h
  refine ⟨A, c, e, h.imp id fun ⟨g, e1, e2, e3, h⟩ => ⟨g, e1, e2, by omega, fun i hi => ?_⟩⟩
  have := k g e3 (by rw [e, e1]; rfl)
  have h1 := h i hi
  refine ⟨?_, ?_⟩
  · rw [← h1.1]; simp only [World.cell?, this]
  · rw [← h1.2]; simp only [World.cell?, this]
/-- The cells of the document's disk. -/
def dsk (A : Option Addr) (n c : Nat) (B : Option Addr) (m d : Nat) (f : Int) (off : Bool) : Array Value := #[.slice A n c, .slice B m d, .int .i64 f, .bool off]
/-- The document's disk, as a value: it says what the model says, and its rows lie outside the blocks fp. -/
def RefAt (w : World) (fp : Nat → Prop) (v : Value) (M : Md) : Prop :=
  ∃ A c B d ws, v = .agg #[.slice A M.lasts.length c, .slice B ws.length d, .int .i64 (max M.fuse (-1)), .bool M.off] ∧ TextsAt w 0 (.slice A M.lasts.length c) M.lasts ∧ WritesAt w 0 (.slice B ws.length d) ws ∧ Like M ws ∧
    (∀ g, (Value.slice A M.lasts.length c).ownBlock = some g → g < w.heap.size ∧ ¬ fp g) ∧ (∀ g, (Value.slice B ws.length d).ownBlock = some g → g < w.heap.size ∧ ¬ fp g) ∧ (ws = [] → B = none ∧ d = 0)
theorem RefAt.low {w w' : World} {fp : Nat → Prop} {v : Value} {M : Md} (h : RefAt w fp v M) (k : Below w.heap.size w w') : RefAt w' fp v M := by
  obtain ⟨A, c, B, d, ws, e, h1, h2, h3, h4, h5, h6⟩ := h
  exact ⟨A, c, B, d, ws, e, h1.below k, h2.below k, h3, fun g hg => ⟨Nat.lt_of_lt_of_le (h4 g hg).1 k.size, (h4 g hg).2⟩, fun g hg => ⟨Nat.lt_of_lt_of_le (h5 g hg).1 k.size, (h5 g hg).2⟩, h6⟩
/-- An act upon the program's disk. -/
theorem RefAt.step {B : Nat} {w0 w w' : World} {r : Nat} {fp fp' : Nat → Prop} {M' : Md} {v : Value} {M : Md} (h : RefAt w fp v M) (s : Step B w0 w w' r fp fp' M') : RefAt w' fp' v M := by
  obtain ⟨A, c, Bw, d, ws, e, h1, h2, h3, h4, h5, h6⟩ := h
  have hs := s.turned.size
  have hn : ∀ g, g < w.heap.size ∧ ¬ fp g → g < w'.heap.size ∧ ¬ fp' g := fun g hg => ⟨by omega, fun hf => by
    rcases s.grown g hf with x | x
    · exact hg.2 x
    · omega⟩
  exact ⟨A, c, Bw, d, ws, e, h1.keep hs fun g _ hg => s.turned.block g (h4 g hg).1 (h4 g hg).2, h2.keep hs fun g _ hg => s.turned.block g (h5 g hg).1 (h5 g hg).2, h3, fun g hg => hn g (h4 g hg), fun g hg => hn g (h5 g hg), h6⟩
theorem RefAt.off {w : World} {fp fp' : Nat → Prop} {v : Value} {M : Md} (h : RefAt w fp v M) (k : ∀ g, g < w.heap.size → fp' g → fp g) : RefAt w fp' v M := by
  obtain ⟨A, c, Bw, d, ws, e, h1, h2, h3, h4, h5, h6⟩ := h
  exact ⟨A, c, Bw, d, ws, e, h1, h2, h3, fun g hg => ⟨(h4 g hg).1, fun x => (h4 g hg).2 (k g (h4 g hg).1 x)⟩, fun g hg => ⟨(h5 g hg).1, fun x => (h5 g hg).2 (k g (h5 g hg).1 x)⟩, h6⟩
/-- What a call upon the document's disk gives. -/
def Gives (w : World) (fp : Nat → Prop) (M : Md) (v : Value) (w' : World) : Prop := RefAt w' fp v M ∧ Below w.heap.size w w'
/-- Two allocations: the disk itself, in a box, and the result's cells. -/
theorem zeroDsk (w : World) : (zeroValue 33).run Tryz.prog w = .ok (.agg #[.slice none 0 0, .slice none 0 0, .int .i64 0, .bool false]) w := by kernel_rfl
theorem info3_write : (Tryz.prog.info? 87).map (fun i => (i.zero, i.size, i.bytes)) = some (some (.agg #[.int .i64 0, .string ⟨#[]⟩]), 2, 24) := by kernel_rfl
theorem set4 {w : World} {N : Nat} {cs : Array Value} {t : TypeId} {q : Nat × Nat} (h : w.heap[N]? = some (.cells cs t q)) (hs : cs.size = 4) (a b c d : Value) :
    ((((w.setCell ⟨N, 0, none⟩ a).setCell ⟨N, 1, none⟩ b).setCell ⟨N, 2, none⟩ c).setCell ⟨N, 3, none⟩ d).heap[N]? = some (.cells #[a, b, c, d] t q) := by
  obtain ⟨x0, x1, x2, x3, rfl⟩ : ∃ x0 x1 x2 x3, cs = #[x0, x1, x2, x3] := by
    rcases cs with ⟨l⟩
    match l, hs with
    | [x0, x1, x2, x3], _ => exact ⟨x0, x1, x2, x3, rfl⟩
  exact Sm.heap_set (Sm.heap_set (Sm.heap_set (Sm.heap_set h 0 a) 1 b) 2 c) 3 d
theorem set4_other (w : World) (N : Nat) (a b c d : Value) (i : Nat) (h : i ≠ N) :
    ((((w.setCell ⟨N, 0, none⟩ a).setCell ⟨N, 1, none⟩ b).setCell ⟨N, 2, none⟩ c).setCell ⟨N, 3, none⟩ d).heap[i]? = w.heap[i]? := by
  rw [Below.heap_setCell _ _ _ _ h, Below.heap_setCell _ _ _ _ h, Below.heap_setCell _ _ _ _ h, Below.heap_setCell _ _ _ _ h]
theorem set4_below {B : Nat} {w0 w : World} (h : Below B w0 w) {N : Nat} (hN : B ≤ N) (a b c d : Value) : Below B w0 ((((w.setCell ⟨N, 0, none⟩ a).setCell ⟨N, 1, none⟩ b).setCell ⟨N, 2, none⟩ c).setCell ⟨N, 3, none⟩ d) :=
  (((h.setCell (p := ⟨N, 0, none⟩) hN a).setCell (p := ⟨N, 1, none⟩) hN b).setCell (p := ⟨N, 2, none⟩) hN c).setCell (p := ⟨N, 3, none⟩) hN d
theorem act_max (M : Md) (A : Option Addr) (n c : Nat) (B : Option Addr) (m d : Nat) :
    (if max M.fuse (-1) = 0 then Value.tuple #[.agg #[.slice A n c, .slice B m d, .int .i64 0, .bool true], .bool false] else .tuple #[.agg #[.slice A n c, .slice B m d, .int .i64 (if 0 < max M.fuse (-1) then max M.fuse (-1) - 1 else max M.fuse (-1)), .bool M.off], .bool true]) =
      .tuple #[.agg #[.slice A n c, .slice B m d, .int .i64 (max (act M).1.fuse (-1)), .bool (act M).1.off], .bool (act M).2] := by
  by_cases h0 : M.fuse = 0
  · rw [if_pos (by omega)]; simp [act, h0]; decide
  · rw [if_neg (by omega)]
    by_cases h1 : 0 < M.fuse
    · have e : act M = ({ M with fuse := M.fuse - 1 }, true) := by simp [act, h0, h1]
      rw [e, if_pos (by omega)]
      have e2 : max M.fuse (-1) - 1 = max (M.fuse - 1) (-1) := by omega
      simp only [e2]
    · have e : act M = (M, true) := by simp [act, h0, h1]
      rw [e, if_neg (by omega)]
end Dk
theorem r7Act_ref (w : World) (A B : Option Addr) (n c m d : Nat) (M : Dk.Md) (hM : M.Ok) :
    Calls Tryz.prog 36 #[.agg #[.slice A n c, .slice B m d, .int .i64 (max M.fuse (-1)), .bool M.off]] w fun e w' => e = .returned (.tuple #[.agg #[.slice A n c, .slice B m d, .int .i64 (max (Dk.act M).1.fuse (-1)), .bool (Dk.act M).1.off], .bool (Dk.act M).2]) ∧ Below w.heap.size w w' := by
  have := hM.fuse
  refine (r7Act_any w A B n c m d (max M.fuse (-1)) M.off (by omega)).mono ?_
  rintro e w' ⟨rfl, hb⟩
  exact ⟨by rw [Dk.act_max], hb⟩
end Go.Proofs.YtnmagfodjcookaaGreat
