/-
  Package bucket, as plain data: a text's bucket, pairs that may be, the page of pairs, and what is read of bytes. No program.
-/
import Derived.Test.YtiehcplepneajaaGreatDoorMBase
import Derived.Test.YtiehcplepneajaaGreatDoorOmMath
namespace Go.Proofs.YtiehcplepneajaaGreatDoor
namespace Bu
open Pk Rm
open Om (Pr lt Rises)
def bk (p : ByteArray) : Nat := ((Sm.sum p.data.toList).headD 0).toNat / 16
theorem bk_lt (p : ByteArray) : bk p < 16 := by
  have := ((Sm.sum p.data.toList).headD 0).toNat_lt
  unfold bk
  omega
def fairB (x : Pr) : Bool := Pa.ok x.p.data.toList && decide (x.v.size ≤ 32)
theorem fairB_iff {x : Pr} : fairB x = true ↔ Om.Fair x := by simp [fairB, Om.Fair]
/-- Pairs may be. -/
def may : List Pr → Bool
  | [] => true
  | [x] => fairB x
  | x :: y :: r => fairB x && (lt x.p y.p && may (y :: r))
theorem may_iff : ∀ {l : List Pr}, may l = true ↔ (∀ x ∈ l, Om.Fair x) ∧ Rises l
  | [] => by simp [may, Rises]
  | [x] => by simp [may, Rises, fairB_iff]
  | x :: y :: r => by
    have ih := may_iff (l := y :: r)
    unfold may
    rw [Bool.and_eq_true, Bool.and_eq_true, ih, fairB_iff]
    constructor
    · rintro ⟨h1, h2, h3, h4⟩
      refine ⟨fun z hz => ?_, ?_⟩
      · rcases List.mem_cons.1 hz with rfl | hz
        · exact h1
        · exact h3 z hz
      · unfold Rises at h4 ⊢
        refine List.pairwise_cons.2 ⟨fun z hz => ?_, h4⟩
        rcases List.mem_cons.1 hz with rfl | hz
        · exact h2
        · exact Om.lt_trans h2 ((List.pairwise_cons.1 h4).1 z hz)
    · rintro ⟨h1, h2⟩
      unfold Rises at h2
      obtain ⟨h3, h4⟩ := List.pairwise_cons.1 h2
      exact ⟨h1 x (by simp), h3 y (by simp), fun z hz => h1 z (by simp [hz]), h4⟩
/-- May, index by index. -/
theorem may_at {l : List Pr} : may l = true ↔ ∀ k (hk : k < l.length), Om.Fair l[k] ∧ (∀ (hk0 : 0 < k), lt l[k - 1].p l[k].p = true) := by
  rw [may_iff]
  constructor
  · rintro ⟨h1, h2⟩ k hk
    exact ⟨h1 _ (List.getElem_mem hk), fun hk0 => List.pairwise_iff_getElem.1 h2 (k - 1) k (by omega) hk (by omega)⟩
  · intro h
    refine ⟨fun x hx => ?_, ?_⟩
    · obtain ⟨k, hk, rfl⟩ := List.getElem_of_mem hx
      exact (h k hk).1
    · refine List.pairwise_iff_getElem.2 fun i j hi hj hij => ?_
      have step : ∀ d, ∀ (h' : i + d + 1 < l.length), lt (l[i]'hi).p (l[i + d + 1]'h').p = true := by
        intro d
        induction d with
        | zero => intro h'; exact (h (i + 0 + 1) h').2 (by omega)
        | succ d ih => intro h'; exact Om.lt_trans (ih (by omega)) ((h (i + (d + 1) + 1) h').2 (by omega))
      have := step (j - i - 1) (by omega)
      simpa only [show i + (j - i - 1) + 1 = j by omega] using this
def isOf (i : Int) (x : Pr) : Bool := decide ((bk x.p : Int) = i)
def part (l : List Pr) (i : Int) : List Pr := l.filter (isOf i)
def allOf (i : Int) (l : List Pr) : Bool := l.all (isOf i)
theorem may_part {l : List Pr} (h : may l = true) (i : Int) : may (part l i) = true := by
  obtain ⟨h1, h2⟩ := may_iff.1 h
  exact may_iff.2 ⟨fun x hx => h1 x (List.mem_filter.1 hx).1, h2.sublist List.filter_sublist⟩
theorem part_length (l : List Pr) (i : Int) : (part l i).length ≤ l.length := List.length_filter_le _ _
theorem part_all (l : List Pr) (i : Int) : allOf i (part l i) = true := List.all_eq_true.2 fun _ hx => (List.mem_filter.1 hx).2
theorem part_same {l : List Pr} {i : Int} (h : allOf i l = true) : part l i = l := List.filter_eq_self.2 (List.all_eq_true.1 h)
theorem part_snoc (l : List Pr) (x : Pr) (i : Int) : part (l ++ [x]) i = part l i ++ (if isOf i x then [x] else []) := by
  unfold part
  rw [List.filter_append]
  cases h : isOf i x <;> simp [h]
theorem part_take {l : List Pr} {k : Nat} (hk : k < l.length) (i : Int) : part (l.take (k + 1)) i = part (l.take k) i ++ (if isOf i l[k] then [l[k]] else []) := by
  rw [← List.take_append_getElem hk, part_snoc]
/-- A page. -/
def prB (x : Pr) : List UInt8 := txt x.p.data.toList ++ txt x.v.data.toList
def prsB : List Pr → List UInt8
  | [] => []
  | x :: r => prB x ++ prsB r
theorem prsB_append : ∀ a b : List Pr, prsB (a ++ b) = prsB a ++ prsB b
  | [], _ => rfl
  | x :: a, b => by
    show prB x ++ prsB (a ++ b) = (prB x ++ prsB a) ++ prsB b
    rw [prsB_append a b, List.append_assoc]
theorem prsB_take {l : List Pr} {k : Nat} (hk : k < l.length) : prsB (l.take (k + 1)) = prsB (l.take k) ++ prB l[k] := by
  rw [← List.take_append_getElem hk, prsB_append]
  simp [prsB]
def bytes (l : List Pr) : List UInt8 := enc l.length ++ prsB l
def pageE (i : Int) (l : List Pr) : Nat := if i < 0 ∨ 15 < i ∨ may l = false ∨ allOf i l = false then 1 else if 48 < l.length then 3 else 0
def page (i : Int) (l : List Pr) : ByteArray × Nat := (if pageE i l = 0 then ⟨(bytes l).toArray⟩ else ⟨#[]⟩, pageE i l)
theorem pageE_ok {i : Int} {l : List Pr} (h : pageE i l = 0) : (0 ≤ i ∧ i ≤ 15) ∧ may l = true ∧ allOf i l = true ∧ l.length ≤ 48 := by
  unfold pageE at h
  split at h
  · cases h
  · rename_i hn
    split at h
    · cases h
    · rename_i h48
      simp only [not_or, Bool.not_eq_false] at hn
      exact ⟨⟨by omega, by omega⟩, hn.2.2.1, hn.2.2.2, by omega⟩
theorem pageE_of {i : Int} {l : List Pr} (h1 : 0 ≤ i ∧ i ≤ 15) (h2 : may l = true) (h3 : allOf i l = true) (h4 : l.length ≤ 48) : pageE i l = 0 := by
  unfold pageE
  rw [if_neg (by rw [h2, h3]; simp; omega), if_neg (by omega)]
/-- What is read of a page's bytes. -/
def rdPr (r : Rd) : Pr × Rd := (⟨⟨(r.text 33).1.toArray⟩, ⟨((r.text 33).2.text 32).1.toArray⟩⟩, ((r.text 33).2.text 32).2)
def rdPrs : Nat → Rd → List Pr × Rd
  | 0, r => ([], r)
  | n + 1, r => ((rdPr r).1 :: (rdPrs n (rdPr r).2).1, (rdPrs n (rdPr r).2).2)
def rdN (s : ByteArray) : Nat × Rd := Rd.most ⟨s, 0, 0⟩ 48
def rdL (s : ByteArray) : List Pr × Rd := rdPrs (rdN s).1 (rdN s).2
def readE (i : Int) (s : ByteArray) : Nat := if i < 0 ∨ 15 < i then 1 else if (rdL s).2.f ≠ 0 then (rdL s).2.f else if (rdL s).2.rest ≠ [] ∨ pageE i (rdL s).1 ≠ 0 then 8 else 0
def read (i : Int) (s : ByteArray) : List Pr × Nat := (if readE i s = 0 then (rdL s).1 else [], readE i s)
theorem text_bad {r : Rd} (h : r.f ≠ 0) (m : Int) : (r.text m).2 = r := by unfold Rd.text Rd.go; rw [if_neg h]
theorem rdPr_bad {r : Rd} (h : r.f ≠ 0) : (rdPr r).2 = r := by
  unfold rdPr
  rw [text_bad h, text_bad h]
theorem rdPrs_bad : ∀ (n : Nat) {r : Rd} (_ : r.f ≠ 0), (rdPrs n r).2 = r
  | 0, _, _ => rfl
  | n + 1, r, h => by
    unfold rdPrs
    simp only [rdPr_bad h]
    exact rdPrs_bad n h
theorem rdPrs_length : ∀ (n : Nat) (r : Rd), (rdPrs n r).1.length = n
  | 0, _ => rfl
  | n + 1, r => by unfold rdPrs; simp [rdPrs_length n]
/-- One pair more, from behind. -/
theorem rdPrs_snoc : ∀ (n : Nat) (r : Rd), rdPrs (n + 1) r = ((rdPrs n r).1 ++ [(rdPr (rdPrs n r).2).1], (rdPr (rdPrs n r).2).2)
  | 0, r => rfl
  | n + 1, r => by
    have ih := rdPrs_snoc n (rdPr r).2
    show ((rdPr r).1 :: (rdPrs (n + 1) (rdPr r).2).1, (rdPrs (n + 1) (rdPr r).2).2) = _
    rw [ih]
    rfl
theorem fair_len {x : Pr} (h : Om.Fair x) : x.p.data.toList.length ≤ 33 ∧ x.v.data.toList.length ≤ 32 := ⟨Pa.ok_len h.1, by rw [Ba.ba_size]; exact h.2⟩
theorem rdPr_on {x : Pr} (h : Om.Fair x) {r : Rd} {tail : List UInt8} (hf : r.f = 0) (hr : r.rest = prB x ++ tail) : (rdPr r).1 = x ∧ (rdPr r).2.f = 0 ∧ (rdPr r).2.rest = tail := by
  obtain ⟨h1, h2⟩ := fair_len h
  obtain ⟨t1, t2, t3⟩ := text_on (l := x.p.data.toList) (tail := txt x.v.data.toList ++ tail) (m := 33) hf (by rw [hr, prB, List.append_assoc]) (by omega) (by omega)
  obtain ⟨v1, v2, v3⟩ := text_on (l := x.v.data.toList) (tail := tail) (m := 32) t2 t3 (by omega) (by omega)
  refine ⟨?_, v2, v3⟩
  unfold rdPr
  rw [t1, v1, Ba.ba_eq, Ba.ba_eq]
theorem rdPrs_on : ∀ {l : List Pr} (_ : ∀ x ∈ l, Om.Fair x) {r : Rd} {tail : List UInt8} (_ : r.f = 0) (_ : r.rest = prsB l ++ tail), (rdPrs l.length r).1 = l ∧ (rdPrs l.length r).2.f = 0 ∧ (rdPrs l.length r).2.rest = tail
  | [], _, r, tail, hf, hr => ⟨rfl, hf, hr⟩
  | x :: l, h, r, tail, hf, hr => by
    obtain ⟨a1, a2, a3⟩ := rdPr_on (h x (by simp)) (tail := prsB l ++ tail) hf (by rw [hr, prsB, List.append_assoc])
    obtain ⟨c1, c2, c3⟩ := rdPrs_on (fun y hy => h y (by simp [hy])) a2 a3
    rw [List.length_cons]
    unfold rdPrs
    exact ⟨by rw [a1, c1], c2, c3⟩
theorem rdL_on {l : List Pr} (h : ∀ x ∈ l, Om.Fair x) (h48 : l.length ≤ 48) {s : ByteArray} {tail : List UInt8} (hs : s.data.toList = bytes l ++ tail) : (rdL s).1 = l ∧ (rdL s).2.f = 0 ∧ (rdL s).2.rest = tail := by
  obtain ⟨n1, n2, n3⟩ := most_on (r := ⟨s, 0, 0⟩) (n := l.length) (tail := prsB l ++ tail) (m := 48) rfl (by show s.data.toList = _; rw [hs, bytes, List.append_assoc]) (by omega) (by omega)
  have := rdPrs_on h n2 n3
  unfold rdL
  rw [show (rdN s).1 = l.length from n1]
  exact this
/-- A page's bytes are read as its pairs. -/
theorem read_page {i : Int} {l : List Pr} (h : pageE i l = 0) : read i ⟨(bytes l).toArray⟩ = (l, 0) := by
  obtain ⟨h1, h2, h3, h4⟩ := pageE_ok h
  obtain ⟨g1, g2, g3⟩ := rdL_on (may_iff.1 h2).1 h4 (s := ⟨(bytes l).toArray⟩) (tail := []) (by rw [Ba.ba_mk, List.append_nil])
  have hf : readE i ⟨(bytes l).toArray⟩ = 0 := by
    unfold readE
    rw [if_neg (by omega), if_neg (by rw [g2]; decide), if_neg (by rw [g3, g1, h]; simp)]
  unfold read
  rw [hf, if_pos rfl, g1]
/-- With anything behind they are not. -/
theorem read_behind {i : Int} {l : List Pr} (h : pageE i l = 0) {t : List UInt8} (ht : t ≠ []) : read i ⟨(bytes l ++ t).toArray⟩ = ([], 8) := by
  obtain ⟨h1, h2, h3, h4⟩ := pageE_ok h
  obtain ⟨g1, g2, g3⟩ := rdL_on (may_iff.1 h2).1 h4 (s := ⟨(bytes l ++ t).toArray⟩) (tail := t) (by rw [Ba.ba_mk])
  have hf : readE i ⟨(bytes l ++ t).toArray⟩ = 8 := by
    unfold readE
    rw [if_neg (by omega), if_neg (by rw [g2]; decide), if_pos (.inl (by rw [g3]; exact ht))]
  unfold read
  rw [hf, if_neg (by decide)]
/-- What was read without a fault has just these bytes. -/
theorem rdPr_went {r : Rd} (h : (rdPr r).2.f = 0) : r.f = 0 ∧ r.rest = prB (rdPr r).1 ++ (rdPr r).2.rest := by
  have w2 := text_went (r := (r.text 33).2) (m := 32) h
  have w1 := text_went (r := r) (m := 33) w2.f
  refine ⟨w1.f, ?_⟩
  rw [w1.rest, w2.rest]
  simp [prB, rdPr]
theorem rdPrs_went : ∀ (n : Nat) {r : Rd} (_ : (rdPrs n r).2.f = 0), r.f = 0 ∧ r.rest = prsB (rdPrs n r).1 ++ (rdPrs n r).2.rest
  | 0, r, h => ⟨h, rfl⟩
  | n + 1, r, h => by
    obtain ⟨c1, c2⟩ := rdPrs_went n (r := (rdPr r).2) h
    obtain ⟨a1, a2⟩ := rdPr_went c1
    refine ⟨a1, ?_⟩
    show r.rest = (prB (rdPr r).1 ++ prsB (rdPrs n (rdPr r).2).1) ++ (rdPrs n (rdPr r).2).2.rest
    rw [a2, c2, List.append_assoc]
theorem readE_ok {i : Int} {s : ByteArray} (h : readE i s = 0) : (0 ≤ i ∧ i ≤ 15) ∧ (rdL s).2.f = 0 ∧ (rdL s).2.rest = [] ∧ pageE i (rdL s).1 = 0 := by
  unfold readE at h
  split at h
  · cases h
  · rename_i h1
    split at h
    · rename_i h2; exact absurd h h2
    · rename_i h2
      split at h
      · cases h
      · rename_i h3
        simp only [not_or, ne_eq, Decidable.not_not] at h2 h3
        exact ⟨by omega, h2, h3.1, h3.2⟩
theorem read_only {i : Int} {s : ByteArray} (h : (read i s).2 = 0) : (read i s).1 = (rdL s).1 ∧ bytes (rdL s).1 = s.data.toList ∧ pageE i (rdL s).1 = 0 := by
  have h0 : readE i s = 0 := h
  obtain ⟨h1, h2, h3, h4⟩ := readE_ok h0
  refine ⟨by unfold read; rw [if_pos h0], ?_, h4⟩
  obtain ⟨c1, c2⟩ := rdPrs_went (rdN s).1 (r := (rdN s).2) h2
  have w := most_went (r := ⟨s, 0, 0⟩) (m := 48) c1
  have e : (rdPrs (rdN s).1 (rdN s).2).2.rest = [] := h3
  rw [e, List.append_nil] at c2
  have r1 : s.data.toList = enc (rdN s).1 ++ (rdN s).2.rest := w.rest
  rw [r1, c2, bytes]
  unfold rdL
  rw [rdPrs_length]
theorem read_none {i : Int} {s : ByteArray} (h : (read i s).2 ≠ 0) : (read i s).1 = [] := by
  have h0 : readE i s ≠ 0 := h
  unfold read
  rw [if_neg h0]
/-- A proper beginning of a page ends too early. -/
theorem rdPr_part {x : Pr} (h : Om.Fair x) {r : Rd} {j : Nat} (hf : r.f = 0) (hr : r.rest = (prB x).take j) (hj : j < (prB x).length) : (rdPr r).2.f = 7 := by
  obtain ⟨h1, h2⟩ := fair_len h
  rcases part_two (txt x.p.data.toList) (txt x.v.data.toList) j with ⟨q1, q2⟩ | ⟨q1, q2⟩
  · have t := text_part (l := x.p.data.toList) (m := 33) hf (by omega) (by omega) (hr.trans q2) q1
    unfold rdPr
    simp only
    rw [text_bad (by rw [t]; decide)]
    exact t
  · obtain ⟨t1, t2, t3⟩ := text_on (l := x.p.data.toList) (m := 33) hf (hr.trans q2) (by omega) (by omega)
    refine text_part (l := x.v.data.toList) t2 (by omega) (by omega) t3 ?_
    rw [prB, List.length_append] at hj
    omega
theorem rdPrs_part : ∀ {l : List Pr} (_ : ∀ x ∈ l, Om.Fair x) {r : Rd} {j : Nat} (_ : r.f = 0) (_ : r.rest = (prsB l).take j) (_ : j < (prsB l).length), (rdPrs l.length r).2.f = 7
  | [], _, r, j, _, _, hj => by simp [prsB] at hj
  | x :: l, h, r, j, hf, hr, hj => by
    rw [List.length_cons]
    show (rdPrs l.length (rdPr r).2).2.f = 7
    rcases part_two (prB x) (prsB l) j with ⟨q1, q2⟩ | ⟨q1, q2⟩
    · have t := rdPr_part (h x (by simp)) hf (hr.trans q2) q1
      rw [rdPrs_bad _ (by rw [t]; decide)]
      exact t
    · obtain ⟨a1, a2, a3⟩ := rdPr_on (h x (by simp)) hf (hr.trans q2)
      refine rdPrs_part (fun y hy => h y (by simp [hy])) a2 a3 ?_
      rw [prsB, List.length_append] at hj
      omega
theorem read_part {i : Int} {l : List Pr} (h : pageE i l = 0) {k : Nat} (hk : k < (bytes l).length) : read i ⟨((bytes l).take k).toArray⟩ = ([], 7) := by
  obtain ⟨h1, h2, h3, h4⟩ := pageE_ok h
  obtain ⟨s, hs⟩ : ∃ s : ByteArray, s = ⟨((bytes l).take k).toArray⟩ := ⟨_, rfl⟩
  have r0 : Rd.rest ⟨s, 0, 0⟩ = (bytes l).take k := by rw [hs]; exact Ba.ba_mk _
  have h7 : (rdL s).2.f = 7 := by
    unfold rdL rdN
    rcases part_two (enc l.length) (prsB l) k with ⟨q1, q2⟩ | ⟨q1, q2⟩
    · have t := most_part (r := ⟨s, 0, 0⟩) rfl (by omega) (r0.trans q2) q1 48
      rw [rdPrs_bad _ (by rw [t]; decide)]
      exact t
    · obtain ⟨n1, n2, n3⟩ := most_on (r := ⟨s, 0, 0⟩) (m := 48) rfl (r0.trans q2) (by omega) (by omega)
      rw [n1]
      refine rdPrs_part (may_iff.1 h2).1 n2 n3 ?_
      rw [bytes, List.length_append] at hk
      omega
  rw [← hs]
  have hf : readE i s = 7 := by
    unfold readE
    rw [if_neg (by omega), if_pos (by rw [h7]; decide), h7]
  unfold read
  rw [hf, if_neg (by decide)]
/-- The sixteen parts have all, each once. -/
def upto (l : List Pr) : Nat → Nat
  | 0 => 0
  | n + 1 => upto l n + (part l n).length
theorem upto_filter (l : List Pr) : ∀ n : Nat, upto l n = (l.filter fun x => decide (bk x.p < n)).length
  | 0 => by rw [List.filter_eq_nil_iff.2 (fun x _ => by simp)]; rfl
  | n + 1 => by
    unfold upto
    rw [upto_filter l n]
    clear upto_filter
    induction l with
    | nil => rfl
    | cons x l ih =>
      unfold part at ih ⊢
      rw [List.filter_cons, List.filter_cons, List.filter_cons]
      by_cases h1 : bk x.p < n
      · have h2 : isOf (n : Int) x = false := by unfold isOf; simp; omega
        have h3 : bk x.p < n + 1 := by omega
        simp only [h1, h2, h3, decide_true, if_true, Bool.false_eq_true, if_false, List.length_cons]
        omega
      · by_cases h4 : bk x.p = n
        · have h2 : isOf (n : Int) x = true := by unfold isOf; simp [h4]
          have h3 : bk x.p < n + 1 := by omega
          simp only [h1, h2, h3, decide_true, decide_false, if_true, Bool.false_eq_true, if_false, List.length_cons]
          omega
        · have h2 : isOf (n : Int) x = false := by unfold isOf; simp; omega
          have h3 : ¬ bk x.p < n + 1 := by omega
          simp only [h1, h2, h3, decide_false, Bool.false_eq_true, if_false]
          omega
theorem upto_all (l : List Pr) : upto l 16 = l.length := by
  rw [upto_filter]
  congr 1
  exact List.filter_eq_self.2 fun x _ => by simp [bk_lt]
end Bu
end Go.Proofs.YtiehcplepneajaaGreatDoor
