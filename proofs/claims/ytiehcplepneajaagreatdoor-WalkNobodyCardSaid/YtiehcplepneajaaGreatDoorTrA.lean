/-
  Texts that belong together, laid into one.
-/
import Derived.Test.YtiehcplepneajaaGreatDoorBuMore
import Derived.Test.YtiehcplepneajaaGreatDoorMBase
/-
  Trees of pairs, as plain data: leaves, inner nodes, the root, the texts; what a change of one pair leaves; roots that are the same. No program.
-/
namespace Go.Proofs.YtiehcplepneajaaGreatDoor
namespace Tr
open Om (Pr Rises)
/-- A leaf's text, an inner node's. -/
def leafT (l : List Pr) (i : Nat) : List UInt8 := 76 :: Bu.bytes (Bu.part l i)
def innerT (a b : List UInt8) : List UInt8 := 78 :: (a ++ b)
/-- The nodes, by their height above the leaves. -/
def nd (l : List Pr) : Nat → Nat → List UInt8
  | 0, i => Sm.sum (leafT l i)
  | h + 1, i => Sm.sum (innerT (nd l h (2 * i)) (nd l h (2 * i + 1)))
def root (l : List Pr) : List UInt8 := nd l 4 0
theorem nd_length (l : List Pr) : ∀ h i, (nd l h i).length = 32
  | 0, _ => Sm.sum_length _
  | _ + 1, _ => Sm.sum_length _
/-- The texts whose sums the nodes are. -/
def ndT (l : List Pr) : Nat → Nat → List UInt8
  | 0, i => leafT l i
  | h + 1, i => innerT (nd l h (2 * i)) (nd l h (2 * i + 1))
theorem nd_text (l : List Pr) (h i : Nat) : nd l h i = Sm.sum (ndT l h i) := by cases h <;> rfl
/-- The row of Texts: the leaves, then the levels 3, 2, 1, 0. -/
def row (l : List Pr) (h n : Nat) : List (List UInt8) := (List.range n).map (ndT l h)
def texts (l : List Pr) : List (List UInt8) := row l 0 16 ++ (row l 1 8 ++ (row l 2 4 ++ (row l 3 2 ++ row l 4 1)))
theorem row_length (l : List Pr) (h n : Nat) : (row l h n).length = n := by simp [row]
theorem texts_length (l : List Pr) : (texts l).length = 31 := by simp [texts, row_length]
theorem mem_row {l : List Pr} {h n i : Nat} (hi : i < n) : ndT l h i ∈ row l h n := List.mem_map.2 ⟨i, List.mem_range.2 hi, rfl⟩
/-- How many nodes there are at a height. -/
def wide (h : Nat) : Nat := 16 / 2 ^ h
theorem mem_texts {l : List Pr} {h i : Nat} (hh : h ≤ 4) (hi : i < wide h) : ndT l h i ∈ texts l := by
  unfold texts
  simp only [List.mem_append]
  match h, hh, hi with
  | 0, _, hi => exact .inl (mem_row hi)
  | 1, _, hi => exact .inr (.inl (mem_row hi))
  | 2, _, hi => exact .inr (.inr (.inl (mem_row hi)))
  | 3, _, hi => exact .inr (.inr (.inr (.inl (mem_row hi))))
  | 4, _, hi => exact .inr (.inr (.inr (.inr (mem_row hi))))
/-- The nodes hang on the parts below them alone. -/
theorem nd_same {l m : List Pr} : ∀ {h i : Nat}, (∀ b : Nat, b / 2 ^ h = i → Bu.part l b = Bu.part m b) → nd l h i = nd m h i
  | 0, i, hp => by
    have := hp i (by simp)
    unfold nd leafT
    rw [this]
  | h + 1, i, hp => by
    have e : ∀ b : Nat, b / 2 ^ (h + 1) = b / 2 ^ h / 2 := fun b => by rw [Nat.pow_succ, Nat.div_div_eq_div_mul]
    have h1 : nd l h (2 * i) = nd m h (2 * i) := nd_same fun b hb => hp b (by rw [e, hb]; omega)
    have h2 : nd l h (2 * i + 1) = nd m h (2 * i + 1) := nd_same fun b hb => hp b (by rw [e, hb]; omega)
    unfold nd
    rw [h1, h2]
/-- What a change of one pair leaves: the other buckets. -/
theorem put_part {l : List Pr} (hl : Rises l) (p v : ByteArray) (i : Int) : Bu.part (Om.put p v l) i = if (Bu.bk p : Int) = i then Om.put p v (Bu.part l i) else Bu.part l i := by
  induction l with
  | nil =>
    unfold Om.put Bu.part
    rw [List.filter_cons]
    by_cases h : (Bu.bk p : Int) = i
    · rw [if_pos h, if_pos (by unfold Bu.isOf; simpa using h)]
      rfl
    · rw [if_neg h, if_neg (by unfold Bu.isOf; simpa using h)]
  | cons x r ih =>
    have hx : ∀ y ∈ r, Om.lt x.p y.p = true := fun y hy => (List.pairwise_cons.1 hl).1 y hy
    have ihr := ih (List.pairwise_cons.1 hl).2
    unfold Bu.part at ihr ⊢
    by_cases h1 : Om.lt x.p p = true
    · have e : Om.put p v (x :: r) = x :: Om.put p v r := by rw [Om.put, if_pos h1]
      rw [e, List.filter_cons, List.filter_cons, ihr]
      by_cases hb : (Bu.bk p : Int) = i
      · rw [if_pos hb, if_pos hb]
        by_cases hxi : Bu.isOf i x = true
        · rw [if_pos hxi, if_pos hxi, Om.put, if_pos h1]
        · rw [if_neg hxi, if_neg hxi]
      · rw [if_neg hb, if_neg hb]
    · by_cases h2 : x.p = p
      · have e : Om.put p v (x :: r) = ⟨p, v⟩ :: r := by rw [Om.put, if_neg h1, if_pos h2]
        have hi : Bu.isOf i x = Bu.isOf i ⟨p, v⟩ := by unfold Bu.isOf; rw [h2]
        rw [e, List.filter_cons, List.filter_cons, hi]
        by_cases hb : (Bu.bk p : Int) = i
        · have hio : Bu.isOf i ⟨p, v⟩ = true := by unfold Bu.isOf; simpa using hb
          rw [if_pos hb, if_pos hio, if_pos hio, Om.put, if_neg h1, if_pos h2]
        · have hio : ¬ Bu.isOf i ⟨p, v⟩ = true := by unfold Bu.isOf; simpa using hb
          rw [if_neg hb, if_neg hio, if_neg hio]
      · have e : Om.put p v (x :: r) = ⟨p, v⟩ :: x :: r := by rw [Om.put, if_neg h1, if_neg h2]
        have hpx : Om.lt p x.p = true := Om.lt_total h2 (by simpa using h1)
        have hf : ∀ f : List Pr, (∀ y ∈ f, Om.lt p y.p = true) → Om.put p v f = ⟨p, v⟩ :: f := fun f hfa => by
          cases f with
          | nil => rfl
          | cons y g =>
            have hy := hfa y (by simp)
            rw [Om.put, if_neg (by rw [Om.lt_asymm hy]; decide), if_neg (fun q => by have := Om.lt_ne hy; exact this q.symm)]
        have hall : ∀ y ∈ (x :: r).filter (Bu.isOf i), Om.lt p y.p = true := fun y hy => by
          rcases List.mem_cons.1 (List.mem_filter.1 hy).1 with rfl | hy
          · exact hpx
          · exact Om.lt_trans hpx (hx y hy)
        rw [e, List.filter_cons]
        by_cases hb : (Bu.bk p : Int) = i
        · have hio : Bu.isOf i ⟨p, v⟩ = true := by unfold Bu.isOf; simpa using hb
          rw [if_pos hb, if_pos hio, hf _ hall]
        · have hio : ¬ Bu.isOf i ⟨p, v⟩ = true := by unfold Bu.isOf; simpa using hb
          rw [if_neg hb, if_neg hio]
theorem del_part {l : List Pr} (hl : Rises l) (p : ByteArray) (i : Int) : Bu.part (Om.del p l) i = if (Bu.bk p : Int) = i then Om.del p (Bu.part l i) else Bu.part l i := by
  induction l with
  | nil =>
    unfold Om.del Bu.part
    split <;> rfl
  | cons x r ih =>
    have hx : ∀ y ∈ r, Om.lt x.p y.p = true := fun y hy => (List.pairwise_cons.1 hl).1 y hy
    have ihr := ih (List.pairwise_cons.1 hl).2
    unfold Bu.part at ihr ⊢
    have hf : ∀ f : List Pr, (∀ y ∈ f, Om.lt p y.p = true) → Om.del p f = f := fun f hfa => by
      cases f with
      | nil => rfl
      | cons y g =>
        have hy := hfa y (by simp)
        rw [Om.del, if_neg (by rw [Om.lt_asymm hy]; decide), if_neg (fun q => by have := Om.lt_ne hy; exact this q.symm)]
    by_cases h1 : Om.lt x.p p = true
    · have e : Om.del p (x :: r) = x :: Om.del p r := by rw [Om.del, if_pos h1]
      rw [e, List.filter_cons, List.filter_cons, ihr]
      by_cases hb : (Bu.bk p : Int) = i
      · rw [if_pos hb, if_pos hb]
        by_cases hxi : Bu.isOf i x = true
        · rw [if_pos hxi, if_pos hxi, Om.del, if_pos h1]
        · rw [if_neg hxi, if_neg hxi]
      · rw [if_neg hb, if_neg hb]
    · by_cases h2 : x.p = p
      · have e : Om.del p (x :: r) = r := by rw [Om.del, if_neg h1, if_pos h2]
        have hrr : ∀ y ∈ r.filter (Bu.isOf i), Om.lt p y.p = true := fun y hy => by rw [← h2]; exact hx y (List.mem_filter.1 hy).1
        rw [e, List.filter_cons]
        by_cases hb : (Bu.bk p : Int) = i
        · have hio : Bu.isOf i x = true := by unfold Bu.isOf; rw [h2]; simpa using hb
          rw [if_pos hb, if_pos hio, Om.del, if_neg h1, if_pos h2]
        · have hio : ¬ Bu.isOf i x = true := by unfold Bu.isOf; rw [h2]; simpa using hb
          rw [if_neg hb, if_neg hio]
      · have e : Om.del p (x :: r) = x :: r := by rw [Om.del, if_neg h1, if_neg h2]
        have hpx : Om.lt p x.p = true := Om.lt_total h2 (by simpa using h1)
        have hall : ∀ y ∈ (x :: r).filter (Bu.isOf i), Om.lt p y.p = true := fun y hy => by
          rcases List.mem_cons.1 (List.mem_filter.1 hy).1 with rfl | hy
          · exact hpx
          · exact Om.lt_trans hpx (hx y hy)
        rw [e]
        split
        · rw [hf _ hall]
        · rfl
/-- Rows of which all parts are the same are the same. -/
theorem mem_part (l : List Pr) (x : Pr) : x ∈ l ↔ x ∈ Bu.part l (Bu.bk x.p) := by
  unfold Bu.part
  rw [List.mem_filter]
  exact ⟨fun h => ⟨h, by simp [Bu.isOf]⟩, fun h => h.1⟩
theorem parts_same {l m : List Pr} (hl : Rises l) (hm : Rises m) (h : ∀ b : Nat, b < 16 → Bu.part l b = Bu.part m b) : l = m := by
  refine Om.rises_ext hl hm fun p => ?_
  have hx : ∀ v, (⟨p, v⟩ : Pr) ∈ l ↔ (⟨p, v⟩ : Pr) ∈ m := fun v => by
    rw [mem_part l, mem_part m, h _ (Bu.bk_lt p)]
  apply Option.ext
  intro v
  have h1 := Om.get_mem hl (p := p) v
  have h2 := Om.get_mem hm (p := p) v
  rw [h1, h2]
  exact hx v
/-- Two unlike texts of these have one sum. -/
def Coll (t : List (List UInt8)) : Prop := ∃ x ∈ t, ∃ y ∈ t, x ≠ y ∧ Sm.sum x = Sm.sum y
theorem bytes_inj {l m : List Pr} {i : Int} (hl : Bu.pageE i l = 0) (hm : Bu.pageE i m = 0) (h : Bu.bytes l = Bu.bytes m) : l = m := by
  have h1 := Bu.read_page hl
  have h2 := Bu.read_page hm
  rw [h, h2] at h1
  exact (Prod.mk.inj h1).1.symm
theorem leafT_inj {l m : List Pr} (hl : Bu.may l = true) (hm : Bu.may m = true) (hl48 : l.length ≤ 48) (hm48 : m.length ≤ 48) {i : Nat} (hi : i < 16) (h : leafT l i = leafT m i) : Bu.part l i = Bu.part m i := by
  unfold leafT at h
  have hi0 : (0 : Int) ≤ (i : Int) ∧ (i : Int) ≤ 15 := by omega
  exact bytes_inj (Bu.page_part hl hl48 hi0) (Bu.page_part hm hm48 hi0) (List.cons.inj h).2
theorem innerT_inj {a b c d : List UInt8} (hl : a.length = c.length) (h : innerT a b = innerT c d) : a = c ∧ b = d := by
  unfold innerT at h
  exact List.append_inj (List.cons.inj h).2 hl
theorem ndT_zero (l : List Pr) (i : Nat) : ndT l 0 i = leafT l i := rfl
theorem ndT_succ (l : List Pr) (h i : Nat) : ndT l (h + 1) i = innerT (nd l h (2 * i)) (nd l h (2 * i + 1)) := rfl
theorem wide_half : ∀ {h : Nat}, h + 1 ≤ 4 → wide (h + 1) * 2 ≤ wide h
  | 0, _ => by decide
  | 1, _ => by decide
  | 2, _ => by decide
  | 3, _ => by decide
  | n + 4, h => by omega
theorem half (b h : Nat) : b / 2 ^ (h + 1) = b / 2 ^ h / 2 := by rw [Nat.pow_succ, Nat.div_div_eq_div_mul]
/-- What is below two nodes with one hash is the same, or two unlike texts have one sum. -/
theorem nd_inj {l m : List Pr} (hl : Bu.may l = true) (hm : Bu.may m = true) (hl48 : l.length ≤ 48) (hm48 : m.length ≤ 48) (h : Nat) : ∀ i : Nat, h ≤ 4 → i < wide h → nd l h i = nd m h i → (∀ b : Nat, b / 2 ^ h = i → Bu.part l b = Bu.part m b) ∨ Coll (texts l ++ texts m) := by
  induction h with
  | zero =>
    intro i h4 hi e
    by_cases ht : ndT l 0 i = ndT m 0 i
    · left
      intro b hb
      rw [Nat.pow_zero, Nat.div_one] at hb
      subst hb
      rw [ndT_zero, ndT_zero] at ht
      exact leafT_inj hl hm hl48 hm48 hi ht
    · rw [nd_text, nd_text] at e
      exact .inr ⟨_, List.mem_append_left _ (mem_texts h4 hi), _, List.mem_append_right _ (mem_texts h4 hi), ht, e⟩
  | succ h ih =>
    intro i h4 hi e
    by_cases ht : ndT l (h + 1) i = ndT m (h + 1) i
    · rw [ndT_succ, ndT_succ] at ht
      obtain ⟨h1, h2⟩ := innerT_inj (by rw [nd_length, nd_length]) ht
      have hw := wide_half h4
      rcases ih (2 * i) (by omega) (by omega) h1 with a | a
      · rcases ih (2 * i + 1) (by omega) (by omega) h2 with b | b
        · left
          intro c hc
          rw [half] at hc
          by_cases q : c / 2 ^ h = 2 * i
          · exact a c q
          · exact b c (by omega)
        · exact .inr b
      · exact .inr a
    · rw [nd_text, nd_text] at e
      exact .inr ⟨_, List.mem_append_left _ (mem_texts h4 hi), _, List.mem_append_right _ (mem_texts h4 hi), ht, e⟩
/-- Two trees with one root have the same pairs, or two unlike texts have one sum. -/
theorem root_inj {l m : List Pr} (hl : Bu.may l = true) (hm : Bu.may m = true) (hl48 : l.length ≤ 48) (hm48 : m.length ≤ 48) (h : root l = root m) : l = m ∨ Coll (texts l ++ texts m) := by
  rcases nd_inj hl hm hl48 hm48 4 0 (by decide) (by decide) h with a | a
  · exact .inl (parts_same (Bu.may_iff.1 hl).2 (Bu.may_iff.1 hm).2 fun b hb => a b (Nat.div_eq_of_lt hb))
  · exact .inr a
end Tr
end Go.Proofs.YtiehcplepneajaaGreatDoor

/-
  Whether two unlike texts have one sum, as the document looks for it: text by text, each beside the last one of its sum. No program.
-/
namespace Go.Proofs.YtiehcplepneajaaGreatDoor
namespace Tr
/-- The place (from 1 on) of the last one of that sum among the first i; 0: there is none. -/
def lastOf (T : List (List UInt8)) (h : List UInt8) : Nat → Nat
  | 0 => 0
  | i + 1 => if Sm.sum (T.getD i []) = h then i + 1 else lastOf T h i
theorem lastOf_le (T : List (List UInt8)) (h : List UInt8) : ∀ i, lastOf T h i ≤ i
  | 0 => Nat.le_refl _
  | i + 1 => by
    have := lastOf_le T h i
    unfold lastOf
    split <;> omega
theorem lastOf_sum {T : List (List UInt8)} {h : List UInt8} : ∀ {i : Nat}, 0 < lastOf T h i → Sm.sum (T.getD (lastOf T h i - 1) []) = h
  | 0, hp => absurd hp (Nat.lt_irrefl _)
  | i + 1, hp => by
    unfold lastOf at hp ⊢
    by_cases e : Sm.sum (T.getD i []) = h
    · rw [if_pos e] at hp ⊢
      exact e
    · rw [if_neg e] at hp ⊢
      exact lastOf_sum hp
theorem lastOf_pos {T : List (List UInt8)} {h : List UInt8} : ∀ {i a : Nat}, a < i → Sm.sum (T.getD a []) = h → 0 < lastOf T h i
  | 0, _, ha, _ => absurd ha (Nat.not_lt_zero _)
  | i + 1, a, ha, e => by
    unfold lastOf
    by_cases e2 : Sm.sum (T.getD i []) = h
    · rw [if_pos e2]; omega
    · rw [if_neg e2]
      exact lastOf_pos (a := a) (by
        have : a ≠ i := fun q => e2 (by rw [← q]; exact e)
        omega) e
/-- The first i are each the same as the last one of its sum. -/
def Calm (T : List (List UInt8)) (i : Nat) : Prop := ∀ j, j < i → 0 < lastOf T (Sm.sum (T.getD j [])) j → T.getD (lastOf T (Sm.sum (T.getD j [])) j - 1) [] = T.getD j []
theorem Calm.zero (T : List (List UInt8)) : Calm T 0 := fun _ h => absurd h (Nat.not_lt_zero _)
theorem Calm.next {T : List (List UInt8)} {i : Nat} (h : Calm T i) (hi : 0 < lastOf T (Sm.sum (T.getD i [])) i → T.getD (lastOf T (Sm.sum (T.getD i [])) i - 1) [] = T.getD i []) : Calm T (i + 1) := fun j hj hp => by
  by_cases e : j = i
  · subst e; exact hi hp
  · exact h j (by omega) hp
theorem Calm.inj {T : List (List UInt8)} : ∀ {i : Nat}, Calm T i → ∀ a b, a < i → b < i → Sm.sum (T.getD a []) = Sm.sum (T.getD b []) → T.getD a [] = T.getD b []
  | 0, _, _, _, ha, _, _ => absurd ha (Nat.not_lt_zero _)
  | i + 1, h, a, b, ha, hb, e => by
    have h' : Calm T i := fun j hj => h j (by omega)
    have key : ∀ c, c < i → Sm.sum (T.getD c []) = Sm.sum (T.getD i []) → T.getD c [] = T.getD i [] := fun c hc ec => by
      have hp := lastOf_pos hc ec
      have h1 := h i (by omega) hp
      have h2 := lastOf_sum hp
      have h3 := lastOf_le T (Sm.sum (T.getD i [])) i
      rw [← h1]
      exact Calm.inj h' c _ hc (by omega) (ec.trans h2.symm)
    by_cases ea : a = i
    · by_cases eb : b = i
      · rw [ea, eb]
      · rw [ea] at e ⊢
        exact (key b (by omega) e.symm).symm
    · by_cases eb : b = i
      · rw [eb] at e ⊢
        exact key a (by omega) e
      · exact Calm.inj h' a b (by omega) (by omega) e
theorem getD_mem {T : List (List UInt8)} {i : Nat} (h : i < T.length) : T.getD i [] ∈ T := by
  rw [List.getD_eq_getElem?_getD, List.getElem?_eq_getElem h]
  exact List.getElem_mem h
theorem Calm.none {T : List (List UInt8)} (h : Calm T T.length) : ¬ Coll T := by
  rintro ⟨x, hx, y, hy, hne, e⟩
  obtain ⟨a, ha, rfl⟩ := List.getElem_of_mem hx
  obtain ⟨b, hb, rfl⟩ := List.getElem_of_mem hy
  have ea : T.getD a [] = T[a] := by rw [List.getD_eq_getElem?_getD, List.getElem?_eq_getElem ha]; rfl
  have eb : T.getD b [] = T[b] := by rw [List.getD_eq_getElem?_getD, List.getElem?_eq_getElem hb]; rfl
  have := Calm.inj h a b ha hb (by rw [ea, eb]; exact e)
  rw [ea, eb] at this
  exact hne this
theorem coll_at {T : List (List UInt8)} {i : Nat} (hi : i < T.length) (hp : 0 < lastOf T (Sm.sum (T.getD i [])) i) (hne : T.getD (lastOf T (Sm.sum (T.getD i [])) i - 1) [] ≠ T.getD i []) : Coll T := by
  have h1 := lastOf_le T (Sm.sum (T.getD i [])) i
  exact ⟨_, getD_mem (by omega), _, getD_mem hi, hne, lastOf_sum hp⟩
theorem Coll.mono {S T : List (List UInt8)} (h : Coll S) (hs : ∀ x ∈ S, x ∈ T) : Coll T := by
  obtain ⟨x, hx, y, hy, r⟩ := h
  exact ⟨x, hs x hx, y, hs y hy, r⟩
end Tr
end Go.Proofs.YtiehcplepneajaaGreatDoor

/-
  What is set in a tree's pairs and dropped, act by act; what a change leaves of the nodes. No program.
-/
namespace Go.Proofs.YtiehcplepneajaaGreatDoor
namespace Tr
open Om (Pr Rises)
/-- Pairs that a tree may have. -/
structure Fit (l : List Pr) : Prop where
  rises : Rises l
  fair : ∀ x ∈ l, Om.Fair x
  len : l.length ≤ 48
theorem Fit.may {l : List Pr} (h : Fit l) : Bu.may l = true := Bu.may_iff.2 ⟨h.fair, h.rises⟩
theorem Fit.nil : Fit [] := ⟨List.Pairwise.nil, fun x hx => (by cases hx), by decide⟩
theorem fit_of {l : List Pr} (h : Bu.may l = true) (h48 : l.length ≤ 48) : Fit l := ⟨(Bu.may_iff.1 h).2, (Bu.may_iff.1 h).1, h48⟩
/-- What Set answers of the pairs, and what it leaves. -/
def setE (l : List Pr) (p v : ByteArray) : Nat :=
  if Pa.ok p.data.toList = false then 20 else if 32 < v.size then 3 else if (Om.get p l).isSome = false ∧ 48 ≤ l.length then 6 else 0
def setR (l : List Pr) (p v : ByteArray) : List Pr := if setE l p v = 0 then Om.put p v l else l
theorem setE_ok {l : List Pr} {p v : ByteArray} (h : setE l p v = 0) : Pa.ok p.data.toList = true ∧ v.size ≤ 32 ∧ ((Om.get p l).isSome = true ∨ l.length < 48) := by
  unfold setE at h
  split at h
  · cases h
  · rename_i h1
    split at h
    · cases h
    · rename_i h2
      split at h
      · cases h
      · rename_i h3
        refine ⟨by simpa using h1, by omega, ?_⟩
        by_cases h4 : l.length < 48
        · exact .inr h4
        · left
          cases hg : (Om.get p l).isSome
          · exact absurd ⟨hg, by omega⟩ h3
          · rfl
theorem setE_of {l : List Pr} {p v : ByteArray} (h1 : Pa.ok p.data.toList = true) (h2 : v.size ≤ 32) (h3 : (Om.get p l).isSome = true ∨ l.length < 48) : setE l p v = 0 := by
  unfold setE
  rw [if_neg (by rw [h1]; decide), if_neg (by omega), if_neg]
  rintro ⟨h4, h5⟩
  rcases h3 with h3 | h3
  · rw [h3] at h4; cases h4
  · omega
theorem put_fit {l : List Pr} (h : Fit l) {p v : ByteArray} (he : setE l p v = 0) : Fit (Om.put p v l) := by
  obtain ⟨h1, h2, h3⟩ := setE_ok he
  refine ⟨Om.put_rises h.rises, fun x hx => ?_, ?_⟩
  · rcases Om.mem_put hx with rfl | hx
    · exact ⟨h1, h2⟩
    · exact h.fair x hx
  · rw [Om.put_length]
    have := h.len
    split
    · exact this
    · rename_i hn
      rcases h3 with h3 | h3
      · exact absurd h3 hn
      · omega
theorem set_fit {l : List Pr} (h : Fit l) (p v : ByteArray) : Fit (setR l p v) := by
  unfold setR
  split
  · rename_i he; exact put_fit h he
  · exact h
theorem del_fit {l : List Pr} (h : Fit l) (p : ByteArray) : Fit (Om.del p l) :=
  ⟨Om.del_rises h.rises, fun x hx => h.fair x ((Om.del_sub p l).subset hx), Nat.le_trans (Om.del_sub p l).length_le h.len⟩
/-- An act: 0 sets, 1 drops, any other does nothing. -/
structure Ac where
  d : Nat
  p : ByteArray
  v : ByteArray
def act (l : List Pr) (a : Ac) : List Pr := if a.d = 0 then setR l a.p a.v else if a.d = 1 then Om.del a.p l else l
def play (l : List Pr) (ac : List Ac) : List Pr := ac.foldl act l
theorem act_fit {l : List Pr} (h : Fit l) (a : Ac) : Fit (act l a) := by
  unfold act
  split
  · exact set_fit h _ _
  · split
    · exact del_fit h _
    · exact h
theorem play_fit {l : List Pr} (h : Fit l) : ∀ ac : List Ac, Fit (play l ac)
  | [] => h
  | a :: r => play_fit (act_fit h a) r
theorem play_take {l : List Pr} {ac : List Ac} {k : Nat} (hk : k < ac.length) : play l (ac.take (k + 1)) = act (play l (ac.take k)) ac[k] := by
  unfold play
  rw [List.take_succ_eq_append_getElem hk, List.foldl_append]
  rfl
/-- Set once more, and what is there then. -/
theorem put_put {l : List Pr} (h : Rises l) (p v : ByteArray) : Om.put p v (Om.put p v l) = Om.put p v l := by
  refine Om.rises_ext (Om.put_rises (Om.put_rises h)) (Om.put_rises h) fun q => ?_
  rw [Om.get_put q (Om.put_rises h), Om.get_put q h]
  split <;> rfl
theorem get_there {l : List Pr} (h : Rises l) (p v : ByteArray) : Om.get p (Om.put p v l) = some v := by rw [Om.get_put p h, if_pos rfl]
theorem set_again {l : List Pr} (h : Fit l) {p v : ByteArray} (he : setE l p v = 0) : setE (Om.put p v l) p v = 0 ∧ setR (Om.put p v l) p v = Om.put p v l := by
  obtain ⟨h1, h2, -⟩ := setE_ok he
  have e : setE (Om.put p v l) p v = 0 := setE_of h1 h2 (.inl (by rw [get_there h.rises]; rfl))
  refine ⟨e, ?_⟩
  unfold setR
  rw [if_pos e, put_put h.rises]
theorem get_gone {l : List Pr} (h : Rises l) (p : ByteArray) : Om.get p (Om.del p l) = none := by rw [Om.get_del p h, if_pos rfl]
theorem del_none {l : List Pr} {p : ByteArray} (hn : (Om.get p l).isSome = false) : Om.del p l = l := by
  rw [Om.del_pos, if_neg (by rw [hn]; decide)]
theorem del_length {l : List Pr} {p : ByteArray} (hs : (Om.get p l).isSome = true) : (Om.del p l).length + 1 = l.length := by
  have hlt : Om.pos p l < l.length := by
    have e := Om.get_pos p l
    cases hx : l[Om.pos p l]? with
    | none => rw [hx] at e; rw [e] at hs; cases hs
    | some x => exact (List.getElem?_eq_some_iff.1 hx).1
  rw [Om.del_pos, if_pos hs, List.length_append, List.length_take, List.length_drop]
  omega
/-- A change of one pair: the other buckets stay. -/
theorem act_part {l : List Pr} (h : Fit l) (a : Ac) {b : Nat} (hb : b ≠ Bu.bk a.p) : Bu.part (act l a) b = Bu.part l b := by
  have hne : ¬ (Bu.bk a.p : Int) = (b : Int) := by omega
  unfold act
  split
  · unfold setR
    split
    · rw [put_part h.rises, if_neg hne]
    · rfl
  · split
    · rw [del_part h.rises, if_neg hne]
    · rfl
/-- A node that a change turned stands above the bucket that it turned. -/
theorem nd_above {l : List Pr} (h : Fit l) (a : Ac) {H i : Nat} (hne : nd (act l a) H i ≠ nd l H i) : Bu.part (act l a) (Bu.bk a.p) ≠ Bu.part l (Bu.bk a.p) ∧ Bu.bk a.p / 2 ^ H = i := by
  by_cases hp : Bu.part (act l a) (Bu.bk a.p) = Bu.part l (Bu.bk a.p)
  · exact absurd (nd_same fun b _ => by
      by_cases e : b = Bu.bk a.p
      · subst e; exact hp
      · exact act_part h a e) hne
  · refine ⟨hp, Classical.byContradiction fun hq => hne (nd_same fun b hb => act_part h a fun e => ?_)⟩
    subst e
    exact hq hb
/-- Two trees of fitting pairs with one root. -/
theorem Fit.inj {l m : List Pr} (hl : Fit l) (hm : Fit m) (h : root l = root m) : l = m ∨ Coll (texts l ++ texts m) := root_inj hl.may hm.may hl.len hm.len h
end Tr
end Go.Proofs.YtiehcplepneajaaGreatDoor

/-
  A tree's nodes in one row: the leaves, then the levels 3, 2, 1, 0; what stands above a leaf; sixteen values and thirty-one hashes in one row of cells. No program.
-/
namespace Go.Proofs.YtiehcplepneajaaGreatDoor
namespace Tr
open Om (Pr Rises)
/-- A place's height and number. -/
def hh (k : Nat) : Nat := if k < 16 then 0 else if k < 24 then 1 else if k < 28 then 2 else if k < 30 then 3 else 4
def ii (k : Nat) : Nat := if k < 16 then k else if k < 24 then k - 16 else if k < 28 then k - 24 else if k < 30 then k - 28 else k - 30
def nk (l : List Pr) (k : Nat) : List UInt8 := nd l (hh k) (ii k)
def tk (l : List Pr) (k : Nat) : List UInt8 := ndT l (hh k) (ii k)
theorem nk_length (l : List Pr) (k : Nat) : (nk l k).length = 32 := nd_length _ _ _
theorem nk_text (l : List Pr) (k : Nat) : nk l k = Sm.sum (tk l k) := nd_text _ _ _
theorem tk_leaf (l : List Pr) {k : Nat} (h : k < 16) : tk l k = leafT l k := by
  unfold tk hh ii
  rw [if_pos h, if_pos h]
  rfl
theorem kids : ∀ k, k < 31 → 16 ≤ k → hh k = hh (2 * (k - 16)) + 1 ∧ hh (2 * (k - 16) + 1) = hh (2 * (k - 16)) ∧ ii (2 * (k - 16)) = 2 * ii k ∧ ii (2 * (k - 16) + 1) = 2 * ii k + 1 := by decide
theorem tk_inner (l : List Pr) {k : Nat} (h1 : 16 ≤ k) (h2 : k < 31) : tk l k = innerT (nk l (2 * (k - 16))) (nk l (2 * (k - 16) + 1)) := by
  obtain ⟨e1, e2, e3, e4⟩ := kids k h2 h1
  unfold tk nk
  rw [e1, e2, e3, e4]
  rfl
/-- The node of a level: its place. -/
def at_ (level i : Nat) : Nat := 32 - 2 * 2 ^ level + i
theorem places : ∀ level, level < 5 → ∀ i, i < 16 → i < 2 ^ level → at_ level i < 31 ∧ hh (at_ level i) = 4 - level ∧ ii (at_ level i) = i := by decide
theorem nk_at (l : List Pr) {level i : Nat} (h : level ≤ 4) (hi : i < 2 ^ level) : nk l (at_ level i) = nd l (4 - level) i ∧ at_ level i < 31 := by
  have h16 : i < 16 := Nat.lt_of_lt_of_le hi (by
    have : (2 : Nat) ^ level ≤ 2 ^ 4 := Nat.pow_le_pow_right (by decide) h
    omega)
  obtain ⟨e1, e2, e3⟩ := places level (by omega) i h16 hi
  unfold nk
  rw [e2, e3]
  exact ⟨rfl, e1⟩
theorem nk_root (l : List Pr) : nk l 30 = root l := rfl
theorem texts_row (l : List Pr) : texts l = (List.range 31).map (tk l) := rfl
/-- Does a place stand above a bucket's leaf (or is it)? -/
def above (b k : Nat) : Bool := decide (b / 2 ^ hh k = ii k)
def upOk : Bool := (List.range 16).all fun b => (List.range 31).all fun k => !above b k || (((List.range 31).all fun j => !(decide (k < j) && decide (j < 16 + k / 2)) || !above b j) && (!decide (16 + k / 2 < 31) || above b (16 + k / 2)))
theorem upOk_is : upOk = true := by decide +kernel
theorem upward {b : Nat} (hb : b < 16) {k : Nat} (hk : k < 31) (ha : above b k = true) : (∀ j, j < 31 → k < j → j < 16 + k / 2 → above b j = false) ∧ (16 + k / 2 < 31 → above b (16 + k / 2) = true) := by
  have h := List.all_eq_true.1 (List.all_eq_true.1 upOk_is b (List.mem_range.2 hb)) k (List.mem_range.2 hk)
  rw [ha, Bool.not_true, Bool.false_or, Bool.and_eq_true] at h
  refine ⟨fun j h1 h2 h3 => ?_, fun h1 => ?_⟩
  · have q := List.all_eq_true.1 h.1 j (List.mem_range.2 h1)
    rw [decide_eq_true h2, decide_eq_true h3] at q
    simpa using q
  · have q := h.2
    rw [decide_eq_true h1] at q
    simpa using q
theorem up_more : ∀ k, k < 31 → k < 16 + k / 2 ∧ 16 + k / 2 ≤ 31 := by decide
theorem up_leaf : ∀ b, b < 16 → above b b = true ∧ ∀ j, j < 31 → j < b → above b j = false := by decide
theorem nk_apart {l m : List Pr} {b : Nat} (h : ∀ c : Nat, c ≠ b → Bu.part m c = Bu.part l c) {k : Nat} (hk : above b k = false) : nk m k = nk l k := nd_same fun c hc => h c fun e => by
  subst e
  unfold above at hk
  exact absurd hc (of_decide_eq_false hk)
/-- Rows of 32 in one row. -/
def blocks (f : Nat → List Value) (n : Nat) : List Value := (List.range n).flatMap f
theorem blocks_succ (f : Nat → List Value) (n : Nat) : blocks f (n + 1) = blocks f n ++ f n := by
  unfold blocks
  rw [List.range_succ, List.flatMap_append]
  simp
theorem blocks_length {f : Nat → List Value} : ∀ {n : Nat}, (∀ k, k < n → (f k).length = 32) → (blocks f n).length = 32 * n
  | 0, _ => rfl
  | n + 1, h => by rw [blocks_succ, List.length_append, blocks_length fun k hk => h k (by omega), h n (by omega)]; omega
theorem blocks_get {f : Nat → List Value} : ∀ {n : Nat} (_ : ∀ k, k < n → (f k).length = 32) {k j : Nat}, k < n → j < 32 → (blocks f n)[32 * k + j]? = (f k)[j]?
  | 0, _, _, _, hk, _ => absurd hk (Nat.not_lt_zero _)
  | n + 1, h, k, j, hk, hj => by
    have hl := blocks_length (f := f) (n := n) fun k hk => h k (by omega)
    rw [blocks_succ]
    by_cases e : k = n
    · subst e
      rw [List.getElem?_append_right (by omega)]
      congr 1
      omega
    · rw [List.getElem?_append_left (by omega)]
      exact blocks_get (fun k hk => h k (by omega)) (by omega) hj
def upd {α : Type} (f : Nat → α) (k : Nat) (v : α) : Nat → α := fun j => if j = k then v else f j
theorem upd_same {α : Type} (f : Nat → α) (k : Nat) (v : α) : upd f k v k = v := if_pos rfl
theorem upd_other {α : Type} (f : Nat → α) {k j : Nat} (v : α) (h : j ≠ k) : upd f k v j = f j := if_neg h
/-- Sixteen values, then thirty-one hashes. -/
def cellsOf (S : Nat → Value) (M : Nat → List UInt8) : List Value := (List.range 16).map S ++ blocks (fun k => Lib.byteCells (M k)) 31
/-- Each hash has 32 bytes. -/
def Full (M : Nat → List UInt8) : Prop := ∀ k, k < 31 → (M k).length = 32
theorem Full.nk (l : List Pr) : Full (nk l) := fun k _ => nk_length l k
theorem Full.upd {M : Nat → List UInt8} (h : Full M) (k : Nat) {v : List UInt8} (hv : v.length = 32) : Full (upd M k v) := fun j hj => by
  unfold Tr.upd
  split
  · exact hv
  · exact h j hj
theorem Full.cells {M : Nat → List UInt8} (h : Full M) : ∀ k, k < 31 → ((fun k => Lib.byteCells (M k)) k).length = 32 := fun k hk => by
  show (Lib.byteCells (M k)).length = 32
  rw [Lib.byteCells_length, h k hk]
theorem cells_length {S : Nat → Value} {M : Nat → List UInt8} (h : Full M) : (cellsOf S M).length = 1008 := by
  unfold cellsOf
  rw [List.length_append, blocks_length h.cells]
  simp
theorem cells_low {S : Nat → Value} {M : Nat → List UInt8} {i : Nat} (hi : i < 16) : (cellsOf S M)[i]? = some (S i) := by
  unfold cellsOf
  rw [List.getElem?_append_left (by simpa using hi)]
  simp [hi]
theorem cells_high {S : Nat → Value} {M : Nat → List UInt8} (h : Full M) {k j : Nat} (hk : k < 31) (hj : j < 32) : (cellsOf S M)[16 + 32 * k + j]? = (Lib.byteCells (M k))[j]? := by
  unfold cellsOf
  rw [List.getElem?_append_right (by simp; omega)]
  have := blocks_get h.cells hk hj
  rw [← this]
  congr 1
  simp
  omega
theorem part_of {p : Nat} (h : 16 ≤ p) (h2 : p < 1008) : ∃ k j, k < 31 ∧ j < 32 ∧ p = 16 + 32 * k + j := ⟨(p - 16) / 32, (p - 16) % 32, by omega, by omega, by omega⟩
theorem cells_set {S : Nat → Value} {M : Nat → List UInt8} {i : Nat} (hi : i < 16) (v : Value) : (cellsOf S M).set i v = cellsOf (upd S i v) M := by
  unfold cellsOf
  rw [List.set_append_left _ _ (by simpa using hi)]
  congr 1
  apply List.ext_getElem?
  intro p
  rw [List.getElem?_set]
  by_cases e : i = p
  · subst e
    simp [hi, upd]
  · rw [if_neg e]
    by_cases hp : p < 16
    · simp [hp, upd, show ¬ p = i from fun q => e q.symm]
    · simp [hp]
theorem cells_put {S : Nat → Value} {M : Nat → List UInt8} (h : Full M) {k : Nat} (hk : k < 31) {v : List UInt8} (hv : v.length = 32) :
    (cellsOf S M).take (16 + 32 * k) ++ (Lib.byteCells v ++ (cellsOf S M).drop (16 + 32 * k + (Lib.byteCells v).length)) = cellsOf S (upd M k v) := by
  have hl := cells_length (S := S) h
  have hl2 := cells_length (S := S) (h.upd k hv)
  have hbl : (Lib.byteCells v).length = 32 := by rw [Lib.byteCells_length, hv]
  apply List.ext_getElem?
  intro p
  by_cases h1 : p < 1008
  · by_cases h2 : p < 16
    · rw [List.getElem?_append_left (by rw [List.length_take, hl]; omega), List.getElem?_take, if_pos (by omega), cells_low h2, cells_low h2]
    · obtain ⟨q, j, hq, hj, rfl⟩ := part_of (p := p) (by omega) h1
      rw [cells_high (h.upd k hv) hq hj]
      by_cases e : q = k
      · subst e
        rw [List.getElem?_append_right (by rw [List.length_take, hl]; omega), List.length_take, hl, List.getElem?_append_left (by rw [hbl]; omega), upd_same]
        congr 1
        omega
      · rw [upd_other _ _ e]
        by_cases h3 : q < k
        · rw [List.getElem?_append_left (by rw [List.length_take, hl]; omega), List.getElem?_take, if_pos (by omega), cells_high h hq hj]
        · rw [List.getElem?_append_right (by rw [List.length_take, hl]; omega), List.length_take, hl, List.getElem?_append_right (by rw [hbl]; omega), List.getElem?_drop, hbl, ← cells_high (S := S) h hq hj]
          congr 1
          omega
  · rw [List.getElem?_eq_none (by rw [List.length_append, List.length_append, List.length_take, List.length_drop, hl, hbl]; omega), List.getElem?_eq_none (by rw [hl2]; omega)]
theorem cells_one {S : Nat → Value} (hS : ∀ i, i < 16 → (S i).oneCell' = true) (M : Nat → List UInt8) : ∀ v ∈ cellsOf S M, v.oneCell' = true := by
  intro v hv
  unfold cellsOf at hv
  rcases List.mem_append.1 hv with h | h
  · obtain ⟨i, hi, rfl⟩ := List.mem_map.1 h
    exact hS i (List.mem_range.1 hi)
  · obtain ⟨k, _, hk⟩ := List.mem_flatMap.1 h
    exact Lib.byteCells_one _ v hk
theorem cells_congr {S T : Nat → Value} {M R : Nat → List UInt8} (h1 : ∀ i, i < 16 → S i = T i) (h2 : ∀ k, k < 31 → M k = R k) : cellsOf S M = cellsOf T R := by
  unfold cellsOf blocks
  congr 1
  · exact List.map_congr_left fun i hi => h1 i (List.mem_range.1 hi)
  · rw [List.flatMap_def, List.flatMap_def]
    congr 1
    exact List.map_congr_left fun k hk => by rw [h2 k (List.mem_range.1 hk)]
end Tr
end Go.Proofs.YtiehcplepneajaaGreatDoor

/-
  Where a path stands in a row that rises, halved; a row that is sorted is the one that rises; the buckets' rows behind one another, sorted, are all pairs. No program.
-/
namespace Go.Proofs.YtiehcplepneajaaGreatDoor
namespace Tr
open Om (Pr Rises lt pos get)
/-- What a comparison of texts tells. -/
def cmpS (a b : ByteArray) : Int := if lt a b = true then -1 else if a = b then 0 else 1
theorem cmpS_neg (a b : ByteArray) : (cmpS a b < 0) ↔ lt a b = true := by
  unfold cmpS
  by_cases h : lt a b = true
  · simp [h]
  · rw [if_neg h]
    constructor
    · intro q
      split at q <;> omega
    · intro q; exact absurd q h
theorem cmpS_zero (a b : ByteArray) : (cmpS a b = 0) ↔ a = b := by
  unfold cmpS
  by_cases h : lt a b = true
  · rw [if_pos h]
    constructor
    · intro q; omega
    · intro q; exact absurd q (Om.lt_ne h)
  · rw [if_neg h]
    by_cases e : a = b
    · simp [e]
    · simp [e]
theorem pos_iff {p : ByteArray} : ∀ {l : List Pr} (_ : Rises l) {i : Nat} (hi : i < l.length), lt l[i].p p = true ↔ i < pos p l
  | [], _, i, hi => absurd hi (Nat.not_lt_zero _)
  | x :: r, h, i, hi => by
    unfold pos
    by_cases hx : lt x.p p = true
    · rw [if_pos hx]
      match i, hi with
      | 0, _ => simp [hx]
      | i + 1, hi =>
        have := pos_iff (p := p) h.tail (i := i) (by simpa using hi)
        simp only [List.getElem_cons_succ, this]
        omega
    · rw [if_neg hx]
      match i, hi with
      | 0, _ => simp [hx]
      | i + 1, hi =>
        simp only [List.getElem_cons_succ]
        constructor
        · intro q
          exact absurd (Om.lt_trans (h.above _ (List.getElem_mem (by simpa using hi))) q) hx
        · intro q; omega
/-- A row that is sorted and has the same pairs. -/
theorem sorted_is {d l : List Pr} (hp : d.Perm l) (hl : Rises l) (hs : ∀ i j (hi : i < d.length) (hj : j < d.length), i < j → lt d[j].p d[i].p = false) : d = l := by
  have h1 : l.Pairwise (fun x y => x.p ≠ y.p) := List.Pairwise.imp (fun h => Om.lt_ne h) hl
  have h2 : d.Pairwise (fun x y => x.p ≠ y.p) := (hp.pairwise_iff (fun h => fun e => h e.symm)).2 h1
  have hr : Rises d := List.pairwise_iff_getElem.2 fun i j hi hj hij => Om.lt_total (fun e => (List.pairwise_iff_getElem.1 h2 i j hi hj hij) e.symm) (hs i j hi hj hij)
  refine Om.rises_ext hr hl fun p => ?_
  apply Option.ext
  intro v
  have a := Om.get_mem hr (p := p) v
  have b := Om.get_mem hl (p := p) v
  rw [a, b]
  exact hp.mem_iff
/-- The first n buckets' rows, one behind the other. -/
def cat (l : List Pr) : Nat → List Pr
  | 0 => []
  | n + 1 => cat l n ++ Bu.part l n
theorem cat_mem (l : List Pr) : ∀ (n : Nat) (x : Pr), x ∈ cat l n ↔ x ∈ l ∧ Bu.bk x.p < n
  | 0, x => by simp [cat]
  | n + 1, x => by
    unfold cat
    rw [List.mem_append, cat_mem l n x]
    unfold Bu.part Bu.isOf
    rw [List.mem_filter, decide_eq_true_eq]
    constructor
    · rintro (⟨h1, h2⟩ | ⟨h1, h2⟩)
      · exact ⟨h1, by omega⟩
      · exact ⟨h1, by omega⟩
    · rintro ⟨h1, h2⟩
      by_cases e : Bu.bk x.p < n
      · exact .inl ⟨h1, e⟩
      · exact .inr ⟨h1, by omega⟩
theorem cat_perm (l : List Pr) : ∀ n : Nat, (cat l n).Perm (l.filter fun x => decide (Bu.bk x.p < n))
  | 0 => by
    unfold cat
    rw [List.filter_eq_nil_iff.2 (fun x _ => by simp)]
  | n + 1 => by
    unfold cat
    refine ((cat_perm l n).append_right _).trans ?_
    unfold Bu.part
    clear cat_perm
    induction l with
    | nil => exact .nil
    | cons x r ih =>
      by_cases h1 : Bu.bk x.p < n
      · have h2 : Bu.isOf (n : Int) x = false := by unfold Bu.isOf; simp; omega
        have h3 : Bu.bk x.p < n + 1 := by omega
        simp only [List.filter_cons, h1, h2, h3, decide_true, if_true, Bool.false_eq_true, if_false, List.cons_append]
        exact ih.cons x
      · by_cases h4 : Bu.bk x.p = n
        · have h2 : Bu.isOf (n : Int) x = true := by unfold Bu.isOf; simp [h4]
          have h3 : Bu.bk x.p < n + 1 := by omega
          simp only [List.filter_cons, h1, h2, h3, decide_true, decide_false, if_true, Bool.false_eq_true, if_false]
          exact List.perm_middle.trans (ih.cons x)
        · have h2 : Bu.isOf (n : Int) x = false := by unfold Bu.isOf; simp; omega
          have h3 : ¬ Bu.bk x.p < n + 1 := by omega
          simp only [List.filter_cons, h1, h2, h3, decide_false, Bool.false_eq_true, if_false]
          exact ih
theorem cat_all (l : List Pr) : (cat l 16).Perm l := by
  have h := cat_perm l 16
  have e : (l.filter fun x => decide (Bu.bk x.p < 16)) = l := List.filter_eq_self.2 fun x _ => decide_eq_true (Bu.bk_lt x.p)
  rwa [e] at h
theorem cat_length (l : List Pr) (n : Nat) : (cat l n).length ≤ l.length := by
  rw [(cat_perm l n).length_eq]
  exact List.length_filter_le _ _
theorem upto_cat (l : List Pr) : ∀ n : Nat, Bu.upto l n = (cat l n).length
  | 0 => rfl
  | n + 1 => by
    unfold Bu.upto cat
    rw [List.length_append, upto_cat l n]
end Tr
end Go.Proofs.YtiehcplepneajaaGreatDoor
