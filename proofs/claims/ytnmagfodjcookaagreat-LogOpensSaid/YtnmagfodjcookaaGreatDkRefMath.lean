/-
  The document's own disk keeps its writes in one list: what that list says of a sector.
-/
import Derived.Test.YtnmagfodjcookaaGreatDkTwo
namespace Go.Proofs.YtnmagfodjcookaaGreat
namespace Dk
/-- The writes that wait for a sector, out of one list. -/
def ofL (ws : List (Nat × List UInt8)) (i : Nat) : List (List UInt8) := (ws.filter fun p => p.1 == i).map (·.2)
theorem ofL_snoc (ws : List (Nat × List UInt8)) (i : Nat) (b : List UInt8) (j : Nat) : ofL (ws ++ [(i, b)]) j = if j = i then ofL ws j ++ [b] else ofL ws j := by
  unfold ofL
  by_cases h : j = i
  · subst h; simp
  · have h2 : (i == j) = false := beq_eq_false_iff_ne.2 (Ne.symm h)
    simp [h, h2]
theorem ofL_cons (p : Nat × List UInt8) (ws : List (Nat × List UInt8)) (j : Nat) : ofL (p :: ws) j = if j = p.1 then p.2 :: ofL ws j else ofL ws j := by
  unfold ofL
  by_cases h : j = p.1
  · subst h; simp
  · have h2 : (p.1 == j) = false := beq_eq_false_iff_ne.2 (Ne.symm h)
    simp [h, h2]
/-- The list says what waits. -/
structure Like (M : Md) (ws : List (Nat × List UInt8)) : Prop where
  waits : ∀ i, M.W i = ofL ws i
  lt : ∀ p ∈ ws, p.1 < M.lasts.length
theorem Like.new (n : Nat) : Like (new n) [] := ⟨fun _ => rfl, fun _ h => by cases h⟩
theorem Like.none {M : Md} (h : ∀ i, M.W i = []) : Like M [] := ⟨fun i => by rw [h]; rfl, fun _ h => by cases h⟩
theorem Like.put {M M' : Md} {ws : List (Nat × List UInt8)} (h : Like M ws) {i : Nat} {b : List UInt8} (hi : i < M.lasts.length) (hl : M'.lasts.length = M.lasts.length) (hW : ∀ j, M'.W j = if j = i then M.W j ++ [b] else M.W j) : Like M' (ws ++ [(i, b)]) :=
  ⟨fun j => by rw [hW, ofL_snoc, h.waits], fun p hp => by
    rcases List.mem_append.1 hp with e | e
    · rw [hl]; exact h.lt p e
    · rw [List.mem_singleton.1 e, hl]; exact hi⟩
theorem sum_add (n : Nat) (f g : Nat → Nat) : ((List.range n).map fun i => f i + g i).sum = ((List.range n).map f).sum + ((List.range n).map g).sum := by
  induction n with
  | zero => rfl
  | succ n ih => rw [List.range_succ, List.map_append, List.map_append, List.map_append, List.sum_append_nat, List.sum_append_nat, List.sum_append_nat, ih]; simp; omega
theorem sum_none (n : Nat) : ((List.range n).map fun _ => 0).sum = 0 := by
  induction n with
  | zero => rfl
  | succ n ih => rw [List.range_succ, List.map_append, List.sum_append_nat, ih]; rfl
theorem sum_one {n i : Nat} (h : i < n) : ((List.range n).map fun j => if j = i then 1 else 0).sum = 1 := by
  induction n with
  | zero => omega
  | succ n ih =>
    rw [List.range_succ, List.map_append, List.sum_append_nat]
    by_cases e : i = n
    · subst e
      have h0 : ((List.range i).map fun j => if j = i then 1 else 0).sum = 0 := by
        have : (List.range i).map (fun j => if j = i then 1 else 0) = (List.range i).map (fun _ => 0) := List.map_congr_left fun j hj => by
          have := List.mem_range.1 hj
          rw [if_neg (by omega)]
        rw [this]; exact sum_none i
      rw [h0]; simp
    · rw [ih (by omega)]; simp; omega
theorem sum_ofL (n : Nat) : ∀ (ws : List (Nat × List UInt8)), (∀ p ∈ ws, p.1 < n) → ((List.range n).map fun i => (ofL ws i).length).sum = ws.length
  | [], _ => sum_none n
  | p :: ws, h => by
    have ih := sum_ofL n ws fun q hq => h q (List.mem_cons_of_mem _ hq)
    have e : (fun i => (ofL (p :: ws) i).length) = fun i => (ofL ws i).length + (if i = p.1 then 1 else 0) := by
      funext i
      rw [ofL_cons]
      split <;> simp
    rw [e, sum_add, ih, sum_one (h p (by simp)), List.length_cons]
theorem Like.count {M : Md} {ws : List (Nat × List UInt8)} (h : Like M ws) : Dk.waits M = ws.length := by
  have e : (fun i => (M.W i).length) = fun i => (ofL ws i).length := by funext i; rw [h.waits]
  unfold Dk.waits
  rw [e]
  exact sum_ofL _ ws h.lt
/-- Written one behind the other: the last one stands. -/
def laid (l : List (List UInt8)) (ws : List (Nat × List UInt8)) : List (List UInt8) := ws.foldl (fun l p => l.set p.1 p.2) l
theorem laid_length : ∀ (ws : List (Nat × List UInt8)) (l : List (List UInt8)), (laid l ws).length = l.length
  | [], _ => rfl
  | p :: ws, l => by rw [laid, List.foldl_cons]; exact (laid_length ws _).trans (by simp)
theorem laid_at : ∀ (ws : List (Nat × List UInt8)) (l : List (List UInt8)) (i : Nat), i < l.length → (laid l ws).getD i [] = (ofL ws i).getLastD (l.getD i [])
  | [], _, _, _ => rfl
  | p :: ws, l, i, hi => by
    rw [laid, List.foldl_cons]
    refine (laid_at ws _ i (by simpa using hi)).trans ?_
    rw [ofL_cons]
    by_cases e : i = p.1
    · subst e
      rw [if_pos rfl, List.getLastD_cons]
      simp [List.getD_eq_getElem?_getD, hi]
    · rw [if_neg e]
      simp [List.getD_eq_getElem?_getD, List.getElem?_set_ne (Ne.symm e)]
/-- What is synced is what the list lays. -/
theorem Like.synced {M : Md} {ws : List (Nat × List UInt8)} (h : Like M ws) : (Dk.synced M).lasts = laid M.lasts ws := by
  apply List.ext_getElem
  · simp [Dk.synced, laid_length]
  · intro i h1 h2
    have hi : i < M.lasts.length := by simpa [Dk.synced] using h1
    have e := laid_at ws M.lasts i hi
    rw [List.getD_eq_getElem?_getD, List.getElem?_eq_getElem h2, Option.getD_some] at e
    rw [e]
    simp only [Dk.synced, List.getElem_map, List.getElem_range, seen, h.waits, last]
end Dk
end Go.Proofs.YtnmagfodjcookaaGreat
