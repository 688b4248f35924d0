/-
  Mounts in a row that is turned about.
-/
import Derived.Test.YtehkbffbehlpnaaPaAwake
import Derived.Test.YtehkbffbehlpnaaPaEq
import Derived.Test.YtehkbffbehlpnaaPaRight
import Derived.Test.YtehkbffbehlpnaaOwn
namespace Go.Proofs.Ytehkbffbehlpnaa
open Go.RowKit
namespace Pa
/-- No two of one name. -/
def Apart (l : List Mo) : Prop := ∀ j k (hj : j < l.length) (hk : k < l.length), j ≠ k → l[j].n ≠ l[k].n
theorem rightly_iff {l : List Mo} : Rightly l ↔ (1 ≤ l.length ∧ l.length ≤ 4) ∧ (∀ j (h : j < l.length), named l[j].n.data.toList = true) ∧ Apart l := by
  constructor
  · rintro ⟨h1, h2⟩
    refine ⟨h1, fun j h => (h2 j h h).1, fun j k hj hk hne e => ?_⟩
    by_cases hlt : j < k
    · have := (h2 k hk hk).2 j hj hlt
      rw [same_iff.2 e] at this
      exact absurd this (by decide)
    · have := (h2 j hj hj).2 k hk (by omega)
      rw [same_iff.2 e.symm] at this
      exact absurd this (by decide)
  · rintro ⟨h1, h2, h3⟩
    refine ⟨h1, fun j h _ => ⟨h2 j h, fun k hk hkj => ?_⟩⟩
    rw [Bool.eq_false_iff]
    intro e
    exact h3 k j hk h (by omega) (same_iff.1 e)
theorem turn_get {l : List Mo} {j : Nat} (h : j < l.reverse.length) : l.reverse[j] = l[l.length - 1 - j]'(by simp at h; omega) := by
  rw [List.getElem_reverse]
theorem rightly_turned {l : List Mo} (h : Rightly l) : Rightly l.reverse := by
  rw [rightly_iff] at h ⊢
  obtain ⟨h1, h2, h3⟩ := h
  refine ⟨by simpa using h1, fun j hj => ?_, fun j k hj hk hne => ?_⟩
  · rw [turn_get hj]; exact h2 _ _
  · rw [turn_get hj, turn_get hk]
    simp at hj hk
    exact h3 _ _ _ _ (by omega)
theorem first_turned {l : List Mo} (h : Rightly l) (n : ByteArray) : first n l.reverse = first n l := by
  rw [rightly_iff] at h
  obtain ⟨-, -, h3⟩ := h
  rcases pos_cases n l with ⟨-, hf, hall⟩ | ⟨i, hi, -, hf, hs, -⟩
  · rw [hf]
    refine first_none fun j hj => ?_
    rw [turn_get hj]
    exact hall _ _
  · rw [hf]
    have hj : l.length - 1 - i < l.reverse.length := by simp; omega
    have e : l.reverse[l.length - 1 - i] = l[i] := by
      rw [turn_get hj]
      congr 1
      omega
    rw [← e]
    refine first_at hj (by rw [e]; exact hs) fun k hk hki => ?_
    rw [turn_get hk, Bool.eq_false_iff]
    intro e2
    have e3 := (same_iff.1 e2).trans (same_iff.1 hs).symm
    exact h3 _ _ _ _ (by omega) e3
theorem of_turned {l : List Mo} (h : Rightly l) (p : List UInt8) : of3 l.reverse p = of3 l p := by
  unfold of3
  rw [first_turned h]
theorem ships_turned {l : List Mo} (h : Rightly l) (p : List UInt8) : ships l.reverse p = ships l p := by
  unfold ships
  rw [of_turned h]
theorem turned_ne {l : List Mo} (h : Rightly l) (h2 : 2 ≤ l.length) : l ≠ l.reverse := by
  rw [rightly_iff] at h
  obtain ⟨-, -, h3⟩ := h
  intro e
  have h0 : 0 < l.reverse.length := by simp; omega
  have e0 : l[0]'(by omega) = l.reverse[0] := by
    congr 1
  rw [turn_get h0] at e0
  exact h3 0 (l.length - 1 - 0) (by omega) (by omega) (by omega) (by rw [e0])
/-- Two paths of one mount are both shipped, or both not. -/
theorem ships_same {l : List Mo} {p q : List UInt8} (hp : ok p = true) (hq : ok q = true) (h : cutA p = cutA q) : ships l p = ships l q := by
  unfold ships of3 nameOf
  rw [hp, hq, h]
theorem ships_bad {l : List Mo} {p : List UInt8} (hp : ok p = false) : ships l p = false := by
  unfold ships
  rw [of_bad hp]
  rfl
def flat (l : List Mo) : List Value := l.flatMap Mo.cells
theorem flat_append (l m : List Mo) : flat (l ++ m) = flat l ++ flat m := List.flatMap_append
theorem flat_one (x : Mo) : flat [x] = [.string x.n, .bool x.s] := by simp [flat, Mo.cells]
theorem flat_get : ∀ {l : List Mo} {k : Nat} (h : k < l.length), (flat l)[k * 2]? = some (.string l[k].n) ∧ (flat l)[k * 2 + 1]? = some (.bool l[k].s)
  | x :: l, 0, _ => by simp [flat, Mo.cells]
  | x :: l, k + 1, h => by
    have ih := flat_get (l := l) (k := k) (by simpa using h)
    have e : flat (x :: l) = [.string x.n, .bool x.s] ++ flat l := by simp [flat, Mo.cells]
    rw [e, show (k + 1) * 2 = k * 2 + 2 by omega, show k * 2 + 2 + 1 = (k * 2 + 1) + 2 by omega]
    simpa using ih
theorem list_of_own {w : World} {B : Nat} {A : Option Addr} {c : Nat} {l : List Mo} (h : w.ownsRow B 89 2 (.slice A l.length c) l.length (flat l)) : listAt w A l ∧ l.length ≤ c ∧ c ≤ 9223372036854775807 := by
  rcases h.2 with ⟨e, h0⟩ | ⟨g, cap, cur, e, hb, hg, hn, hcm, hcs, htake⟩
  · have hl : l = [] := List.eq_nil_of_length_eq_zero h0
    injection e with e1 e2 e3
    exact ⟨.inl hl, by omega, by omega⟩
  · injection e with e1 e2 e3
    subst e1 e3
    refine ⟨.inr ⟨g, 0, rfl, Sm.lt_of hg, fun k hk => ?_⟩, hn, by unfold maxLen at hcm; omega⟩
    obtain ⟨f0, f1⟩ := flat_get hk
    have c0 := h.cellAt (k * 2) (by omega)
    have c1 := h.cellAt (k * 2 + 1) (by omega)
    rw [Nat.zero_add]
    exact ⟨c0.trans f0, c1.trans f1⟩
theorem take_turned {l : List Mo} {j : Nat} (h : j < l.length) : l.reverse.take (j + 1) = l.reverse.take j ++ [l[l.length - 1 - j]'(by omega)] := by
  have hj : j < l.reverse.length := by simp; exact h
  rw [List.take_succ_eq_append_getElem hj, turn_get hj]
theorem new_mo (w : World) (x y : Value) : ∀ j u, [x, y][j]? = some u → (w.alloc (.cells #[x, y] 89)).cell? ((⟨w.heap.size, 0, none⟩ : Addr).add j) = some u := by
  intro j u hu
  have g := heap_alloc_new w (.cells #[x, y] 89)
  have hj : j < 2 := by have := (List.getElem?_eq_some_iff.1 hu).1; simpa using this
  rw [Addr.add_mid, Nat.zero_add]
  obtain rfl | rfl : j = 0 ∨ j = 1 := by omega
  · simp at hu; subst hu; exact Sm.cells_of g 0 _ rfl
  · simp at hu; subst hu; exact Sm.cells_of g 1 _ rfl
theorem one_mo (x : ByteArray) (y : Bool) : ∀ u ∈ [Value.string x, .bool y], u.oneCell' = true := by
  intro u hu
  simp at hu
  rcases hu with rfl | rfl <;> rfl
theorem mo_info : (Try.prog.info? 89).map (fun i => (i.zero, i.size, i.bytes)) = some (some (.agg #[.string ⟨#[]⟩, .bool false]), 2, 24) := by kernel_rfl
end Pa
end Go.Proofs.Ytehkbffbehlpnaa
