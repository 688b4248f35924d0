/-
  Maps of paths and values, as rows of pairs that rise: put, delete, get, what is shipped. (Prepared for stage 13: nothing of it speaks of landed code.)
-/
import Derived.Test.YtiehcplepneajaaGreatDoorBaMath
namespace Go.Proofs.YtiehcplepneajaaGreatDoor
namespace Om
theorem bl_irrefl : ∀ x : List UInt8, Op.bytesLess x x = false
  | [] => rfl
  | a :: x => by
    rw [Op.bytesLess, bl_irrefl x]
    simp
theorem bl_trans : ∀ {x y z : List UInt8}, Op.bytesLess x y = true → Op.bytesLess y z = true → Op.bytesLess x z = true
  | _, [], _, h, _ => by rw [Op.bytesLess.eq_def] at h; simp at h
  | _, _ :: _, [], _, h => by rw [Op.bytesLess.eq_def] at h; simp at h
  | [], _ :: _, _ :: _, _, _ => rfl
  | a :: x, b :: y, c :: z, h1, h2 => by
    rw [Op.bytesLess] at h1 h2 ⊢
    simp only [Bool.or_eq_true, decide_eq_true_eq, Bool.and_eq_true, beq_iff_eq] at h1 h2 ⊢
    rcases h1 with h1 | ⟨rfl, h1⟩
    · rcases h2 with h2 | ⟨rfl, h2⟩
      · exact .inl (UInt8.lt_trans h1 h2)
      · exact .inl h1
    · rcases h2 with h2 | ⟨rfl, h2⟩
      · exact .inl h2
      · exact .inr ⟨rfl, bl_trans h1 h2⟩
theorem bl_total : ∀ {x y : List UInt8}, x ≠ y → Op.bytesLess x y = false → Op.bytesLess y x = true
  | [], [], h, _ => absurd rfl h
  | _ :: _, [], _, _ => rfl
  | [], _ :: _, _, h => by cases h
  | a :: x, b :: y, h, h1 => by
    rw [Op.bytesLess] at h1 ⊢
    simp only [Bool.or_eq_false_iff, decide_eq_false_iff_not, Bool.and_eq_false_imp, beq_iff_eq] at h1
    simp only [Bool.or_eq_true, decide_eq_true_eq, Bool.and_eq_true, beq_iff_eq]
    by_cases hab : a = b
    · subst hab
      exact .inr ⟨rfl, bl_total (fun e => h (by rw [e])) (h1.2 rfl)⟩
    · refine .inl ?_
      have h2 := UInt8.not_lt.1 h1.1
      exact UInt8.lt_of_le_of_ne h2 (fun e => hab e.symm)
/-- Two texts that differ first at n: as the bytes there. -/
theorem bl_split : ∀ (n : Nat) {x y : List UInt8} (hx : n < x.length) (hy : n < y.length), x.take n = y.take n → x[n] ≠ y[n] → Op.bytesLess x y = decide (x[n] < y[n])
  | 0, a :: x, b :: y, _, _, _, h => by
    have h : a ≠ b := h
    show (decide (a < b) || (a == b && Op.bytesLess x y)) = decide (a < b)
    rw [show (a == b) = false from by simpa using h]
    simp
  | n + 1, a :: x, b :: y, hx, hy, ht, h => by
    simp only [List.take_succ_cons, List.cons.injEq] at ht
    obtain ⟨rfl, ht⟩ := ht
    have ih := bl_split n (x := x) (y := y) (by simpa using hx) (by simpa using hy) ht h
    rw [Op.bytesLess, ih]
    simp
/-- Two texts of which one is the other's beginning: as their lengths. -/
theorem bl_end : ∀ {x y : List UInt8}, (∀ k (hx : k < x.length) (hy : k < y.length), x[k] = y[k]) → Op.bytesLess x y = decide (x.length < y.length)
  | [], [], _ => rfl
  | _ :: _, [], _ => by simp [Op.bytesLess]
  | [], _ :: _, _ => by simp [Op.bytesLess]
  | a :: x, b :: y, h => by
    have h0 : a = b := h 0 (by simp) (by simp)
    subst h0
    have ih := bl_end (x := x) (y := y) fun k hx hy => h (k + 1) (by simpa using hx) (by simpa using hy)
    rw [Op.bytesLess, ih]
    simp
/-- One text before another one, bytewise. -/
def lt (a b : ByteArray) : Bool := Op.bytesLess a.data.toList b.data.toList
theorem ba_ext {a b : ByteArray} (h : a.data.toList = b.data.toList) : a = b := by rw [← Ba.ba_eq a, ← Ba.ba_eq b, h]
theorem lt_irrefl (a : ByteArray) : lt a a = false := bl_irrefl _
theorem lt_trans {a b c : ByteArray} (h1 : lt a b = true) (h2 : lt b c = true) : lt a c = true := bl_trans h1 h2
theorem lt_total {a b : ByteArray} (h : a ≠ b) (h1 : lt a b = false) : lt b a = true := bl_total (fun e => h (ba_ext e)) h1
theorem lt_ne {a b : ByteArray} (h : lt a b = true) : a ≠ b := by rintro rfl; rw [lt_irrefl] at h; cases h
theorem lt_asymm {a b : ByteArray} (h : lt a b = true) : lt b a = false := by
  cases hb : lt b a with
  | false => rfl
  | true => have := lt_trans h hb; rw [lt_irrefl] at this; cases this
structure Pr where
  p : ByteArray
  v : ByteArray
/-- The row rises. -/
def Rises (l : List Pr) : Prop := l.Pairwise fun x y => lt x.p y.p = true
def put (p v : ByteArray) : List Pr → List Pr
  | [] => [⟨p, v⟩]
  | x :: r => if lt x.p p then x :: put p v r else if x.p = p then ⟨p, v⟩ :: r else ⟨p, v⟩ :: x :: r
def del (p : ByteArray) : List Pr → List Pr
  | [] => []
  | x :: r => if lt x.p p then x :: del p r else if x.p = p then r else x :: r
def get (p : ByteArray) : List Pr → Option ByteArray
  | [] => none
  | x :: r => if lt x.p p then get p r else if x.p = p then some x.v else none
/-- Where a path is, or would be. -/
def pos (p : ByteArray) : List Pr → Nat
  | [] => 0
  | x :: r => if lt x.p p then pos p r + 1 else 0
theorem pos_le (p : ByteArray) : ∀ l, pos p l ≤ l.length
  | [] => Nat.le_refl _
  | x :: r => by
    unfold pos
    split
    · have := pos_le p r; simp; omega
    · simp
/-- What the document's find tells. -/
theorem get_pos (p : ByteArray) : ∀ l, get p l = match l[pos p l]? with | none => none | some x => if x.p = p then some x.v else none
  | [] => rfl
  | x :: r => by
    unfold pos get
    split
    · rw [get_pos p r]; simp
    · simp
theorem put_pos (p v : ByteArray) : ∀ l, put p v l = l.take (pos p l) ++ ⟨p, v⟩ :: l.drop (pos p l + if (get p l).isSome then 1 else 0)
  | [] => rfl
  | x :: r => by
    unfold pos get put
    split
    · rw [put_pos p v r]
      simp only [List.take_succ_cons, List.cons_append, List.cons.injEq, true_and]
      rw [Nat.add_right_comm, List.drop_succ_cons]
    · split <;> simp
theorem del_pos (p : ByteArray) : ∀ l, del p l = if (get p l).isSome then l.take (pos p l) ++ l.drop (pos p l + 1) else l
  | [] => rfl
  | x :: r => by
    unfold pos get del
    split
    · rw [del_pos p r]
      split <;> simp
    · split <;> simp
theorem get_above {p : ByteArray} : ∀ {l : List Pr}, (∀ x ∈ l, lt p x.p = true) → get p l = none
  | [], _ => rfl
  | x :: r, h => by
    have hx := h x (List.mem_cons_self ..)
    unfold get
    rw [lt_asymm hx, if_neg (by decide), if_neg (fun e => lt_ne hx e.symm)]
theorem Rises.tail {x : Pr} {r : List Pr} (h : Rises (x :: r)) : Rises r := (List.pairwise_cons.1 h).2
theorem Rises.above {x : Pr} {r : List Pr} (h : Rises (x :: r)) : ∀ y ∈ r, lt x.p y.p = true := (List.pairwise_cons.1 h).1
theorem get_mem {p : ByteArray} : ∀ {l : List Pr}, Rises l → ∀ v, get p l = some v ↔ ⟨p, v⟩ ∈ l
  | [], _, v => by simp [get]
  | x :: r, h, v => by
    have ih := get_mem (p := p) h.tail v
    unfold get
    by_cases h1 : lt x.p p = true
    · rw [if_pos h1, ih]
      constructor
      · exact fun hm => List.mem_cons_of_mem _ hm
      · intro hm
        rcases List.mem_cons.1 hm with e | hm
        · rw [← e] at h1; exact absurd h1 (by simp [lt_irrefl])
        · exact hm
    · rw [if_neg h1]
      by_cases h2 : x.p = p
      · rw [if_pos h2]
        constructor
        · intro e
          have e' : x.v = v := by simpa using e
          rw [← h2, ← e']
          exact List.mem_cons_self ..
        · intro hm
          rcases List.mem_cons.1 hm with e | hm
          · rw [← e]
          · have := h.above _ hm
            exact absurd h2 (lt_ne this)
      · rw [if_neg h2]
        constructor
        · intro e; cases e
        · intro hm
          rcases List.mem_cons.1 hm with e | hm
          · exact absurd (by rw [← e]) h2
          · exact absurd (h.above _ hm) h1
theorem mem_put {p v : ByteArray} {y : Pr} : ∀ {l : List Pr}, y ∈ put p v l → y = ⟨p, v⟩ ∨ y ∈ l
  | [], h => by simpa [put] using h
  | x :: r, h => by
    unfold put at h
    split at h
    · rcases List.mem_cons.1 h with rfl | h
      · exact .inr (List.mem_cons_self ..)
      · exact (mem_put h).imp id (List.mem_cons_of_mem _)
    · split at h
      · rcases List.mem_cons.1 h with rfl | h
        · exact .inl rfl
        · exact .inr (List.mem_cons_of_mem _ h)
      · rcases List.mem_cons.1 h with rfl | h
        · exact .inl rfl
        · exact .inr h
theorem put_rises {p v : ByteArray} : ∀ {l : List Pr}, Rises l → Rises (put p v l)
  | [], _ => by simp [put, Rises]
  | x :: r, h => by
    unfold put
    by_cases h1 : lt x.p p = true
    · rw [if_pos h1]
      refine List.pairwise_cons.2 ⟨fun y hy => ?_, put_rises h.tail⟩
      rcases mem_put hy with rfl | hy
      · exact h1
      · exact h.above _ hy
    · rw [if_neg h1]
      by_cases h2 : x.p = p
      · rw [if_pos h2]
        exact List.pairwise_cons.2 ⟨fun y hy => by rw [← h2]; exact h.above _ hy, h.tail⟩
      · rw [if_neg h2]
        have h3 : lt p x.p = true := lt_total h2 (by simpa using h1)
        refine List.pairwise_cons.2 ⟨fun y hy => ?_, h⟩
        rcases List.mem_cons.1 hy with rfl | hy
        · exact h3
        · exact lt_trans h3 (h.above _ hy)
theorem del_sub (p : ByteArray) : ∀ l : List Pr, (del p l).Sublist l
  | [] => List.Sublist.refl _
  | x :: r => by
    unfold del
    split
    · exact (del_sub p r).cons_cons x
    · split
      · exact (List.Sublist.refl r).cons x
      · exact List.Sublist.refl _
theorem del_rises {p : ByteArray} {l : List Pr} (h : Rises l) : Rises (del p l) := List.Pairwise.sublist (del_sub p l) h
theorem get_lt {q : ByteArray} {x : Pr} {r : List Pr} (h : lt x.p q = true) : get q (x :: r) = get q r := by rw [get, if_pos h]
theorem get_eq {q : ByteArray} {x : Pr} {r : List Pr} (h : x.p = q) : get q (x :: r) = some x.v := by subst h; unfold get; rw [if_neg (by simp [lt_irrefl]), if_pos rfl]
theorem get_gt {q : ByteArray} {x : Pr} {r : List Pr} (h : lt q x.p = true) : get q (x :: r) = none := by unfold get; rw [if_neg (by rw [lt_asymm h]; decide), if_neg (fun e => lt_ne h e.symm)]
theorem lt_three (a b : ByteArray) : lt a b = true ∨ a = b ∨ lt b a = true := by
  by_cases h : a = b
  · exact .inr (.inl h)
  · cases h1 : lt a b with
    | true => exact .inl rfl
    | false => exact .inr (.inr (lt_total h h1))
theorem put_lt {p v : ByteArray} {x : Pr} {r : List Pr} (h : lt x.p p = true) : put p v (x :: r) = x :: put p v r := by rw [put, if_pos h]
theorem put_eq {p v : ByteArray} {x : Pr} {r : List Pr} (h : x.p = p) : put p v (x :: r) = ⟨p, v⟩ :: r := by subst h; unfold put; rw [if_neg (by simp [lt_irrefl]), if_pos rfl]
theorem put_gt {p v : ByteArray} {x : Pr} {r : List Pr} (h : lt p x.p = true) : put p v (x :: r) = ⟨p, v⟩ :: x :: r := by unfold put; rw [if_neg (by rw [lt_asymm h]; decide), if_neg (fun e => lt_ne h e.symm)]
theorem del_lt {p : ByteArray} {x : Pr} {r : List Pr} (h : lt x.p p = true) : del p (x :: r) = x :: del p r := by rw [del, if_pos h]
theorem del_eq {p : ByteArray} {x : Pr} {r : List Pr} (h : x.p = p) : del p (x :: r) = r := by subst h; unfold del; rw [if_neg (by simp [lt_irrefl]), if_pos rfl]
theorem del_gt {p : ByteArray} {x : Pr} {r : List Pr} (h : lt p x.p = true) : del p (x :: r) = x :: r := by unfold del; rw [if_neg (by rw [lt_asymm h]; decide), if_neg (fun e => lt_ne h e.symm)]
theorem get_put {p v : ByteArray} (q : ByteArray) : ∀ {l : List Pr}, Rises l → get q (put p v l) = if q = p then some v else get q l
  | [], _ => by
    show get q [⟨p, v⟩] = _
    by_cases hq : q = p
    · rw [if_pos hq, get_eq hq.symm]
    · rw [if_neg hq]
      rcases lt_three p q with h | h | h
      · rw [get_lt h]
      · exact absurd h.symm hq
      · rw [get_gt h]; rfl
  | x :: r, h => by
    have ih := get_put (p := p) (v := v) q h.tail
    rcases lt_three x.p p with h1 | h1 | h1
    · rw [put_lt h1]
      rcases lt_three x.p q with h2 | h2 | h2
      · rw [get_lt h2, get_lt h2, ih]
      · rw [get_eq h2, get_eq h2, if_neg (fun e => lt_ne h1 (h2.trans e))]
      · rw [get_gt h2, get_gt h2, if_neg (fun e => by rw [e] at h2; rw [lt_asymm h1] at h2; cases h2)]
    · rw [put_eq h1]
      by_cases hq : q = p
      · rw [if_pos hq, get_eq hq.symm]
      · rw [if_neg hq]
        rcases lt_three p q with h2 | h2 | h2
        · rw [get_lt h2, get_lt (by rw [h1]; exact h2)]
        · exact absurd h2.symm hq
        · rw [get_gt h2, get_gt (by rw [h1]; exact h2)]
    · rw [put_gt h1]
      by_cases hq : q = p
      · rw [if_pos hq, get_eq hq.symm]
      · rw [if_neg hq]
        rcases lt_three p q with h2 | h2 | h2
        · rw [get_lt h2]
        · exact absurd h2.symm hq
        · rw [get_gt h2, get_gt (lt_trans h2 h1)]
theorem get_del {p : ByteArray} (q : ByteArray) : ∀ {l : List Pr}, Rises l → get q (del p l) = if q = p then none else get q l
  | [], _ => by simp [del, get]
  | x :: r, h => by
    have ih := get_del (p := p) q h.tail
    rcases lt_three x.p p with h1 | h1 | h1
    · rw [del_lt h1]
      rcases lt_three x.p q with h2 | h2 | h2
      · rw [get_lt h2, get_lt h2, ih]
      · rw [get_eq h2, get_eq h2, if_neg (fun e => lt_ne h1 (h2.trans e))]
      · rw [get_gt h2, get_gt h2, if_neg (fun e => by rw [e] at h2; rw [lt_asymm h1] at h2; cases h2)]
    · rw [del_eq h1]
      rcases lt_three x.p q with h2 | h2 | h2
      · rw [get_lt h2, if_neg (fun e => lt_ne h2 (h1.trans e.symm))]
      · rw [if_pos (h2.symm.trans h1)]
        exact get_above fun y hy => by rw [← h2]; exact h.above _ hy
      · rw [get_gt h2, if_neg (fun e => lt_ne h2 (e.trans h1.symm))]
        exact get_above fun y hy => lt_trans h2 (h.above _ hy)
    · rw [del_gt h1]
      by_cases hq : q = p
      · rw [if_pos hq, hq, get_gt h1]
      · rw [if_neg hq]
/-- Two rows that rise and tell the same are the same. -/
theorem rises_ext : ∀ {l m : List Pr}, Rises l → Rises m → (∀ p, get p l = get p m) → l = m
  | [], [], _, _, _ => rfl
  | [], y :: m, _, hm, h => by
    have := h y.p
    rw [(get_mem hm y.v).2 (List.mem_cons_self ..)] at this
    cases this
  | x :: l, [], hl, _, h => by
    have := h x.p
    rw [(get_mem hl x.v).2 (List.mem_cons_self ..)] at this
    cases this
  | x :: l, y :: m, hl, hm, h => by
    have mem : ∀ z, z ∈ x :: l ↔ z ∈ y :: m := fun z => by
      have := h z.p
      rw [show z = ⟨z.p, z.v⟩ from rfl, ← get_mem hl, ← get_mem hm, this]
    have hxy : x = y := by
      rcases List.mem_cons.1 ((mem x).1 (List.mem_cons_self ..)) with e | hx
      · exact e
      · rcases List.mem_cons.1 ((mem y).2 (List.mem_cons_self ..)) with e | hy
        · exact e.symm
        · have h1 := hm.above _ hx
          have h2 := hl.above _ hy
          rw [lt_asymm h1] at h2
          cases h2
    subst hxy
    congr 1
    refine rises_ext hl.tail hm.tail fun p => ?_
    have hp := h p
    by_cases hlt : lt x.p p = true
    · rw [get, get, if_pos hlt, if_pos hlt] at hp
      exact hp
    · have none_of : ∀ {k : List Pr}, (∀ z ∈ k, lt x.p z.p = true) → get p k = none := fun {k} hk => by
        cases hg : lt p x.p with
        | true => exact get_above fun z hz => lt_trans hg (hk z hz)
        | false =>
          have e : p = x.p := by
            by_cases e : p = x.p
            · exact e
            · have := lt_total e hg; rw [this] at hlt; exact absurd rfl hlt
          subst e
          exact get_above hk
      rw [none_of hl.above, none_of hm.above]
/-- What is shipped. -/
def filt (s : ByteArray → Bool) (l : List Pr) : List Pr := l.filter fun x => s x.p
theorem filt_rises {s : ByteArray → Bool} {l : List Pr} (h : Rises l) : Rises (filt s l) := List.Pairwise.filter _ h
theorem get_filt {s : ByteArray → Bool} (q : ByteArray) {l : List Pr} (h : Rises l) : get q (filt s l) = if s q then get q l else none := by
  cases hq : s q with
  | false =>
    rw [if_neg (by decide)]
    cases hg : get q (filt s l) with
    | none => rfl
    | some v =>
      have := (get_mem (filt_rises h) v).1 hg
      have := (List.mem_filter.1 this).2
      rw [hq] at this
      cases this
  | true =>
    rw [if_pos rfl]
    cases hg : get q l with
    | some v => exact (get_mem (filt_rises h) v).2 (List.mem_filter.2 ⟨(get_mem h v).1 hg, hq⟩)
    | none =>
      cases hf : get q (filt s l) with
      | none => rfl
      | some v =>
        have := (get_mem h v).2 (List.mem_filter.1 ((get_mem (filt_rises h) v).1 hf)).1
        rw [hg] at this
        cases this
/-- One operation; operations one behind the other. -/
def step (l : List Pr) (o : Ba.Op) : List Pr := if o.k = 2 then del o.p l else put o.p o.v l
def does (l : List Pr) (ops : List Ba.Op) : List Pr := ops.foldl step l
theorem step_rises {l : List Pr} (h : Rises l) (o : Ba.Op) : Rises (step l o) := by
  unfold step
  split
  · exact del_rises h
  · exact put_rises h
theorem does_rises {l : List Pr} (h : Rises l) (ops : List Ba.Op) : Rises (does l ops) := by
  unfold does
  induction ops generalizing l with
  | nil => exact h
  | cons o r ih => exact ih (step_rises h o)
theorem get_step {l : List Pr} (h : Rises l) (o : Ba.Op) (q : ByteArray) : get q (step l o) = if q = o.p then (if o.k = 2 then none else some o.v) else get q l := by
  unfold step
  by_cases hk : o.k = 2
  · rw [if_pos hk, get_del q h, if_pos hk]
  · rw [if_neg hk, get_put q h, if_neg hk]
theorem filt_step {s : ByteArray → Bool} {l : List Pr} (h : Rises l) (o : Ba.Op) : filt s (step l o) = if s o.p then step (filt s l) o else filt s l := by
  cases hs : s o.p with
  | true =>
    rw [if_pos rfl]
    refine rises_ext (filt_rises (step_rises h o)) (step_rises (filt_rises h) o) fun q => ?_
    rw [get_filt q (step_rises h o), get_step h, get_step (filt_rises h), get_filt q h]
    by_cases hq : q = o.p
    · subst hq
      rw [if_pos rfl, if_pos rfl, if_pos hs]
    · rw [if_neg hq, if_neg hq]
  | false =>
    rw [if_neg (by decide)]
    refine rises_ext (filt_rises (step_rises h o)) (filt_rises h) fun q => ?_
    rw [get_filt q (step_rises h o), get_step h, get_filt q h]
    by_cases hq : q = o.p
    · subst hq
      rw [hs, if_neg (by decide), if_neg (by decide)]
    · rw [if_neg hq]
/-- P13.6: what is shipped of what was done is what the shipped operations do to what is shipped. -/
theorem filt_does {s : ByteArray → Bool} {l : List Pr} (h : Rises l) (ops : List Ba.Op) : filt s (does l ops) = does (filt s l) (ops.filter fun o => s o.p) := by
  unfold does
  induction ops generalizing l with
  | nil => rfl
  | cons o r ih =>
    rw [List.foldl_cons, ih (step_rises h o), filt_step h, List.filter_cons]
    cases hs : s o.p with
    | true => rfl
    | false => rfl
theorem filt_le (s : ByteArray → Bool) (l : List Pr) : (filt s l).length ≤ l.length := List.length_filter_le _ _
theorem filt_filt (s : ByteArray → Bool) (l : List Pr) : filt s (filt s l) = filt s l := by unfold filt; rw [List.filter_filter]; simp
/-- What the last operation of a path gave: some (its value, or none); none: there was none. -/
def last (q : ByteArray) : List Ba.Op → Option (Option ByteArray)
  | [] => none
  | o :: r => match last q r with
    | some x => some x
    | none => if q = o.p then some (if o.k = 2 then none else some o.v) else none
theorem get_does {l : List Pr} (h : Rises l) (q : ByteArray) (ops : List Ba.Op) : get q (does l ops) = (last q ops).getD (get q l) := by
  unfold does
  induction ops generalizing l with
  | nil => rfl
  | cons o r ih =>
    rw [List.foldl_cons, ih (step_rises h o), last]
    cases last q r with
    | some x => rfl
    | none =>
      rw [get_step h]
      by_cases hq : q = o.p
      · rw [if_pos hq]; simp [hq]
      · rw [if_neg hq]; simp [hq]
/-- A pair that may be: its path is one, its value short. -/
def Fair (x : Pr) : Prop := Pa.ok x.p.data.toList = true ∧ x.v.size ≤ 32
theorem does_fair {l : List Pr} (h : ∀ x ∈ l, Fair x) {ops : List Ba.Op} (ho : ∀ o ∈ ops, Ba.bars o = 0) : ∀ x ∈ does l ops, Fair x := by
  unfold does
  induction ops generalizing l with
  | nil => exact h
  | cons o r ih =>
    refine ih (fun x hx => ?_) fun o' ho' => ho o' (List.mem_cons_of_mem _ ho')
    unfold step at hx
    split at hx
    · exact h x ((del_sub _ _).subset hx)
    · rcases mem_put hx with rfl | hx
      · obtain ⟨-, h2, h3, -⟩ := Ba.bars_ok (ho o (List.mem_cons_self ..))
        exact ⟨h2, h3⟩
      · exact h x hx
/-- Of, pair by pair: 1: a pair that may not be; 5: its path was there. -/
def ofL : List Pr → List Pr → List Pr × Nat
  | m, [] => (m, 0)
  | m, x :: r => if Pa.ok x.p.data.toList = false ∨ 32 < x.v.size then ([], 1) else if (get x.p m).isSome then ([], 5) else ofL (put x.p x.v m) r
def ofE (l : List Pr) : List Pr × Nat := if 48 < l.length then ([], 6) else ofL [] l
theorem put_snoc {p v : ByteArray} : ∀ {l : List Pr}, (∀ x ∈ l, lt x.p p = true) → put p v l = l ++ [⟨p, v⟩]
  | [], _ => rfl
  | x :: r, h => by
    unfold put
    rw [if_pos (h x (List.mem_cons_self ..)), put_snoc fun y hy => h y (List.mem_cons_of_mem _ hy)]
    rfl
theorem ofL_rising : ∀ {l m : List Pr}, Rises (m ++ l) → (∀ x ∈ l, Fair x) → ofL m l = (m ++ l, 0)
  | [], m, _, _ => by simp [ofL]
  | x :: r, m, h, hf => by
    have hx := hf x (List.mem_cons_self ..)
    have hab : ∀ y ∈ m, lt y.p x.p = true := fun y hy => (List.pairwise_append.1 h).2.2 y hy x (List.mem_cons_self ..)
    have hm : Rises m := (List.pairwise_append.1 h).1
    unfold ofL
    rw [if_neg (by rintro (h1 | h1); rw [hx.1] at h1; cases h1; have := hx.2; omega)]
    have hg : get x.p m = none := by
      cases hg : get x.p m with
      | none => rfl
      | some v =>
        have := hab _ ((get_mem hm v).1 hg)
        simp [lt_irrefl] at this
    rw [hg, if_neg (by decide), put_snoc hab]
    have e : m ++ [⟨x.p, x.v⟩] ++ r = m ++ x :: r := by simp
    rw [ofL_rising (l := r) (by rw [e]; exact h) (fun y hy => hf y (List.mem_cons_of_mem _ hy)), e]
/-- A map of All is the map. -/
theorem ofE_all {l : List Pr} (h : Rises l) (hf : ∀ x ∈ l, Fair x) (hn : l.length ≤ 48) : ofE l = (l, 0) := by
  unfold ofE
  rw [if_neg (by omega), ofL_rising (m := []) h hf, List.nil_append]
theorem put_length (p v : ByteArray) : ∀ l : List Pr, (put p v l).length = if (get p l).isSome then l.length else l.length + 1
  | [] => rfl
  | x :: r => by
    unfold put get
    split
    · rw [List.length_cons, put_length p v r]
      split <;> simp
    · split <;> simp
theorem ofL_rises : ∀ {l m : List Pr}, Rises m → Rises (ofL m l).1
  | [], _, h => h
  | x :: r, m, h => by
    unfold ofL
    split
    · exact List.Pairwise.nil
    · split
      · exact List.Pairwise.nil
      · exact ofL_rises (put_rises h)
/-- The paths that begin with a text. -/
def begins (t : ByteArray) (p : ByteArray) : Bool := t.data.toList.isPrefixOf p.data.toList
def list (t : ByteArray) (l : List Pr) : List ByteArray := (l.filter fun x => begins t x.p).map (·.p)
theorem list_all (l : List Pr) : list ⟨#[]⟩ l = l.map (·.p) := by
  have h : (l.filter fun x => begins ⟨#[]⟩ x.p) = l := List.filter_eq_self.2 fun x _ => by
    unfold begins
    rfl
  unfold list
  rw [h]
theorem list_of_all (t : ByteArray) (l : List Pr) : list t l = (l.map (·.p)).filter (begins t) := by
  unfold list
  rw [List.filter_map]
  rfl
theorem list_mem {t p : ByteArray} {l : List Pr} (h : p ∈ list t l) : begins t p = true ∧ ∃ v, ⟨p, v⟩ ∈ l := by
  obtain ⟨x, hx, rfl⟩ := List.mem_map.1 h
  obtain ⟨h1, h2⟩ := List.mem_filter.1 hx
  exact ⟨h2, x.v, h1⟩
end Om
end Go.Proofs.YtiehcplepneajaaGreatDoor
