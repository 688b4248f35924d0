/-
  What a reader of package pack reads of what was written, of a part of it, and what was written if it read without a fault. No program.
-/
import Derived.Test.YtiehcplepneajaaGreatDoorMBase
namespace Go.Proofs.YtiehcplepneajaaGreatDoor.Rm
open Pk
/-- A text with its length ahead. -/
def txt (l : List UInt8) : List UInt8 := enc l.length ++ l
theorem most_le (r : Rd) (m : Int) (hm : 0 ≤ m) : ((r.most m).1 : Int) ≤ m := by
  unfold Rd.most
  dsimp only
  split
  · unfold cnt
    split
    · simpa using hm
    · rename_i h1 h2
      have h3 : (cnt r.rest m).2.2 = 0 := by
        simp only [Rd.pass, Bool.and_eq_true, beq_iff_eq] at h1
        exact h1.2
      unfold cnt at h3
      rw [if_neg h2] at h3
      omega
  · simpa using hm
theorem num_lt (r : Rd) : r.num.1 < 2 ^ 64 := by
  unfold Rd.num
  dsimp only
  split
  · exact (dec_bd _).1
  · decide
theorem text_le (r : Rd) (m : Int) (hm : 0 ≤ m) : ((r.text m).1.length : Int) ≤ m := by
  unfold Rd.text
  dsimp only
  split
  · rename_i h1
    have h0 : terr r.rest m = 0 := by
      simp only [Rd.pass, Bool.and_eq_true, beq_iff_eq] at h1
      exact h1.2
    have h2 := (terr_room h0).2
    have h3 : ((cnt r.rest m).1 : Int) ≤ m := by
      unfold cnt at h2 ⊢
      split
      · simpa using hm
      · rename_i h4
        rw [if_neg h4] at h2
        omega
    rw [List.length_take]
    omega
  · simpa using hm
theorem go_fine {r : Rd} {sz e : Nat} (h : (r.go sz e).f = 0) : r.f = 0 ∧ e = 0 ∧ r.go sz e = ⟨r.s, r.pos + sz, 0⟩ := by
  unfold Rd.go at h ⊢
  by_cases hf : r.f = 0
  · rw [if_pos hf] at h ⊢
    by_cases he : e = 0
    · rw [if_pos he]; exact ⟨hf, he, by rw [hf]⟩
    · rw [if_neg he] at h; exact absurd h he
  · rw [if_neg hf] at h; exact absurd h hf
theorem dec_chunk {l : List UInt8} (h : (dec 0 0 l).2.2 = 0) : (dec 0 0 l).2.1 = (enc (dec 0 0 l).1).length ∧ l = enc (dec 0 0 l).1 ++ l.drop (enc (dec 0 0 l).1).length := by
  obtain ⟨n, tail, hv, hs, hl, _⟩ := dec_inv l 0 0 (dec 0 0 l).1 (dec 0 0 l).2.1 (Prod.ext rfl (Prod.ext rfl h))
  have hn : (dec 0 0 l).1 = n := by simpa using hv
  rw [hn]
  refine ⟨by simpa using hs, ?_⟩
  conv => lhs; rw [hl]
  conv => rhs; rw [hl]
  rw [List.drop_left]
theorem cnt_chunk {l : List UInt8} {m : Int} (h : (cnt l m).2.2 = 0) : (cnt l m).2.1 = (enc (cnt l m).1).length ∧ l = enc (cnt l m).1 ++ l.drop (enc (cnt l m).1).length := by
  unfold cnt at h ⊢
  split at h
  · simp at h
  · rename_i hn
    rw [if_neg hn]
    exact dec_chunk h
theorem rest_go (r : Rd) (k f : Nat) : Rd.rest ⟨r.s, r.pos + k, f⟩ = r.rest.drop k := by
  unfold Rd.rest
  rw [List.drop_drop]
structure Went (r r' : Rd) (l : List UInt8) : Prop where
  f : r.f = 0
  to : r' = ⟨r.s, r.pos + l.length, 0⟩
  rest : r.rest = l ++ r'.rest
theorem most_went {r : Rd} {m : Int} (h : (r.most m).2.f = 0) : Went r (r.most m).2 (enc (r.most m).1) := by
  obtain ⟨h1, h2, h3⟩ := go_fine h
  obtain ⟨c1, c2⟩ := cnt_chunk h2
  have e : (r.most m).1 = (cnt r.rest m).1 := by unfold Rd.most; simp only; rw [pass_true h1 h2, if_pos rfl]
  have e2 : (r.most m).2 = ⟨r.s, r.pos + (enc (cnt r.rest m).1).length, 0⟩ := by rw [← c1]; exact h3
  refine ⟨h1, by rw [e]; exact e2, ?_⟩
  rw [e2, e, rest_go]
  exact c2
theorem num_went {r : Rd} (h : r.num.2.f = 0) : Went r r.num.2 (enc r.num.1) := by
  obtain ⟨h1, h2, h3⟩ := go_fine h
  obtain ⟨c1, c2⟩ := dec_chunk h2
  have e : r.num.1 = (dec 0 0 r.rest).1 := by unfold Rd.num; simp only; rw [pass_true h1 h2, if_pos rfl]
  have e2 : r.num.2 = ⟨r.s, r.pos + (enc (dec 0 0 r.rest).1).length, 0⟩ := by rw [← c1]; exact h3
  refine ⟨h1, by rw [e]; exact e2, ?_⟩
  rw [e2, e, rest_go]
  exact c2
theorem text_went {r : Rd} {m : Int} (h : (r.text m).2.f = 0) : Went r (r.text m).2 (txt (r.text m).1) := by
  obtain ⟨h1, h2, h3⟩ := go_fine h
  obtain ⟨r1, r2⟩ := terr_room h2
  obtain ⟨c1, c2⟩ := cnt_chunk r2
  have e : (r.text m).1 = (r.rest.drop (cnt r.rest m).2.1).take (cnt r.rest m).1 := by unfold Rd.text; simp only; rw [pass_true h1 h2, if_pos rfl]
  have el : (r.text m).1.length = (cnt r.rest m).1 := by rw [e, List.length_take, List.length_drop]; omega
  have e2 : (r.text m).2 = ⟨r.s, r.pos + ((cnt r.rest m).2.1 + (cnt r.rest m).1), 0⟩ := h3
  have et : (txt (r.text m).1).length = (cnt r.rest m).2.1 + (cnt r.rest m).1 := by rw [txt, List.length_append, el, c1]
  refine ⟨h1, by rw [et]; exact e2, ?_⟩
  rw [e2, rest_go, txt, el, e, ← List.drop_drop, List.append_assoc, List.take_append_drop, c1]
  exact c2
theorem byte_went {r : Rd} (h : r.byte.2.f = 0) : Went r r.byte.2 [UInt8.ofNat r.byte.1] := by
  obtain ⟨h1, h2, h3⟩ := go_fine h
  have hne : r.rest ≠ [] := by intro e; rw [if_pos e] at h2; omega
  have e : r.byte.1 = (r.rest.headD 0).toNat := by unfold Rd.byte; simp only; rw [pass_true h1 h2, if_pos rfl]
  refine ⟨h1, h3, ?_⟩
  have e2 : r.byte.2 = ⟨r.s, r.pos + 1, 0⟩ := h3
  rw [e2, rest_go, e]
  match hr : r.rest, hne with
  | b :: l, _ => simp
theorem dec_back {n : Nat} (hn : n < 2 ^ 64) (tail : List UInt8) : dec 0 0 (enc n ++ tail) = (n, (enc n).length, 0) := by
  rw [dec_enc n 0 0 tail (by simpa using hn) (by omega) (by decide)]
  simp
theorem cnt_back {n : Nat} (hn : n < 2 ^ 64) (tail : List UInt8) {m : Int} (hm : (n : Int) ≤ m) : cnt (enc n ++ tail) m = (n, (enc n).length, 0) := by
  unfold cnt
  rw [dec_back hn, if_neg (by simp only; omega)]
theorem most_back {r : Rd} {n : Nat} {tail : List UInt8} {m : Int} (hf : r.f = 0) (hr : r.rest = enc n ++ tail) (hn : n < 2 ^ 64) (hm : (n : Int) ≤ m) :
    r.most m = (n, ⟨r.s, r.pos + (enc n).length, 0⟩) ∧ Rd.rest ⟨r.s, r.pos + (enc n).length, 0⟩ = tail := by
  constructor
  · unfold Rd.most
    rw [hr, cnt_back hn tail hm]
    simp only [pass_true hf rfl, if_true, go_ok hf, hf]
  · rw [rest_go, hr, List.drop_left]
theorem num_back {r : Rd} {n : Nat} {tail : List UInt8} (hf : r.f = 0) (hr : r.rest = enc n ++ tail) (hn : n < 2 ^ 64) :
    r.num = (n, ⟨r.s, r.pos + (enc n).length, 0⟩) ∧ Rd.rest ⟨r.s, r.pos + (enc n).length, 0⟩ = tail := by
  constructor
  · unfold Rd.num
    rw [hr, dec_back hn tail]
    simp only [pass_true hf rfl, if_true, go_ok hf, hf]
  · rw [rest_go, hr, List.drop_left]
theorem text_back {r : Rd} {l tail : List UInt8} {m : Int} (hf : r.f = 0) (hr : r.rest = txt l ++ tail) (hn : l.length < 2 ^ 64) (hm : (l.length : Int) ≤ m) :
    r.text m = (l, ⟨r.s, r.pos + (txt l).length, 0⟩) ∧ Rd.rest ⟨r.s, r.pos + (txt l).length, 0⟩ = tail := by
  have hr2 : r.rest = enc l.length ++ (l ++ tail) := by rw [hr, txt, List.append_assoc]
  have hc : cnt r.rest m = (l.length, (enc l.length).length, 0) := by rw [hr2]; exact cnt_back hn _ hm
  have ht : terr r.rest m = 0 := by
    unfold terr
    rw [hc]
    simp only
    rw [if_neg]
    rw [hr2]
    simp only [List.length_append]
    omega
  constructor
  · unfold Rd.text
    rw [ht, hc]
    simp only [pass_true hf rfl, if_true, go_ok hf, hf]
    rw [hr2, List.drop_left, List.take_left, txt, List.length_append]
  · rw [rest_go, hr, List.drop_left]
theorem byte_back {r : Rd} {x : UInt8} {tail : List UInt8} (hf : r.f = 0) (hr : r.rest = x :: tail) :
    r.byte = (x.toNat, ⟨r.s, r.pos + 1, 0⟩) ∧ Rd.rest ⟨r.s, r.pos + 1, 0⟩ = tail := by
  constructor
  · unfold Rd.byte
    rw [hr]
    simp only [reduceCtorEq, if_false, pass_true hf rfl, if_true, go_ok hf, hf, List.headD_cons]
  · rw [rest_go, hr]; rfl
theorem most_on {r : Rd} {n : Nat} {tail : List UInt8} {m : Int} (hf : r.f = 0) (hr : r.rest = enc n ++ tail) (hn : n < 2 ^ 64) (hm : (n : Int) ≤ m) : (r.most m).1 = n ∧ (r.most m).2.f = 0 ∧ (r.most m).2.rest = tail := by
  obtain ⟨h1, h2⟩ := most_back hf hr hn hm
  rw [h1]; exact ⟨rfl, rfl, h2⟩
theorem num_on {r : Rd} {n : Nat} {tail : List UInt8} (hf : r.f = 0) (hr : r.rest = enc n ++ tail) (hn : n < 2 ^ 64) : r.num.1 = n ∧ r.num.2.f = 0 ∧ r.num.2.rest = tail := by
  obtain ⟨h1, h2⟩ := num_back hf hr hn
  rw [h1]; exact ⟨rfl, rfl, h2⟩
theorem text_on {r : Rd} {l tail : List UInt8} {m : Int} (hf : r.f = 0) (hr : r.rest = txt l ++ tail) (hn : l.length < 2 ^ 64) (hm : (l.length : Int) ≤ m) : (r.text m).1 = l ∧ (r.text m).2.f = 0 ∧ (r.text m).2.rest = tail := by
  obtain ⟨h1, h2⟩ := text_back hf hr hn hm
  rw [h1]; exact ⟨rfl, rfl, h2⟩
theorem byte_on {r : Rd} {x : UInt8} {tail : List UInt8} (hf : r.f = 0) (hr : r.rest = x :: tail) : r.byte.1 = x.toNat ∧ r.byte.2.f = 0 ∧ r.byte.2.rest = tail := by
  obtain ⟨h1, h2⟩ := byte_back hf hr
  rw [h1]; exact ⟨rfl, rfl, h2⟩
theorem dec_part {n : Nat} (hn : n < 2 ^ 64) {j : Nat} (hj : j < (enc n).length) : dec 0 0 ((enc n).take j) = (0, 0, 7) := dec_cut n 0 0 j (by simpa using hn) (by omega) hj
theorem cnt_part {n : Nat} (hn : n < 2 ^ 64) {j : Nat} (hj : j < (enc n).length) (m : Int) : cnt ((enc n).take j) m = (0, 0, 7) := by
  unfold cnt
  rw [dec_part hn hj, if_neg (by simp)]
theorem most_part {r : Rd} {n j : Nat} (hf : r.f = 0) (hn : n < 2 ^ 64) (hr : r.rest = (enc n).take j) (hj : j < (enc n).length) (m : Int) : (r.most m).2.f = 7 := by
  unfold Rd.most Rd.go
  rw [hr, cnt_part hn hj m]
  simp [hf]
theorem byte_part {r : Rd} (hf : r.f = 0) (hr : r.rest = []) : r.byte.2.f = 7 := by
  unfold Rd.byte Rd.go
  rw [hr]
  simp [hf]
theorem text_part {r : Rd} {l : List UInt8} {j : Nat} {m : Int} (hf : r.f = 0) (hn : l.length < 2 ^ 64) (hm : (l.length : Int) ≤ m) (hr : r.rest = (txt l).take j) (hj : j < (txt l).length) : (r.text m).2.f = 7 := by
  have ht : terr r.rest m = 7 := by
    unfold terr
    by_cases h : j < (enc l.length).length
    · have e : r.rest = (enc l.length).take j := by rw [hr, txt, List.take_append_of_le_length (by omega)]
      rw [e, cnt_part hn h m]
      simp
    · have e : r.rest = enc l.length ++ l.take (j - (enc l.length).length) := by rw [hr, txt, List.take_append, List.take_of_length_le (by omega)]
      rw [e, cnt_back hn _ hm]
      have hl : (txt l).length = (enc l.length).length + l.length := by rw [txt, List.length_append]
      simp only [List.length_append, List.length_take]
      rw [if_pos ⟨trivial, by omega⟩]
  unfold Rd.text Rd.go
  rw [ht]
  simp [hf]
/-- A part of two texts, one behind the other. -/
theorem part_two (a b : List UInt8) (j : Nat) : (j < a.length ∧ (a ++ b).take j = a.take j) ∨ (a.length ≤ j ∧ (a ++ b).take j = a ++ b.take (j - a.length)) := by
  by_cases h : j < a.length
  · exact .inl ⟨h, List.take_append_of_le_length (by omega)⟩
  · exact .inr ⟨by omega, by rw [List.take_append, List.take_of_length_le (by omega)]⟩
end Go.Proofs.YtiehcplepneajaaGreatDoor.Rm
