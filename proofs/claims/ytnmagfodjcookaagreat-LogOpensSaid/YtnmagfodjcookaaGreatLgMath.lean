/-
  The math of a log: the records that stand in its sectors; with old sectors and new ones mixed.
-/
import Derived.Test.YtnmagfodjcookaaGreatPtMath
namespace Go.Proofs.YtnmagfodjcookaaGreat
namespace Lg
open Pt (parts bodies body number Holds mix)
/-- A record's numbers: the epoch, its salt, the salt ahead. -/
def nums (ep s a : Nat) : List Nat := [ep, s, a]
def text (S : List (List UInt8)) : Option (List UInt8) := Pt.text 3 32 1024 S
/-- The record that stands first, behind one of a salt. -/
def first (ep a : Nat) (S : List (List UInt8)) : Option (List UInt8 × Nat) :=
  if number 0 (S.getD 0 []) = ep ∧ number 2 (S.getD 0 []) = a then (text S).map fun t => (t, number 1 (S.getD 0 [])) else none
def find (ep : Nat) : Nat → Nat → List (List UInt8) → List (List UInt8 × Nat)
  | 0, _, _ => []
  | f + 1, a, S => match first ep a S with
    | some (t, s) => (t, s) :: find ep f s (S.drop (parts 32 t))
    | none => []
def laid (ep : Nat) : Nat → List (List UInt8 × Nat) → List (List UInt8)
  | _, [] => []
  | a, (t, s) :: R => bodies (nums ep s a) 32 t ++ laid ep s R
def last : Nat → List (List UInt8 × Nat) → Nat
  | a, [] => a
  | _, (_, s) :: R => last s R
theorem parts_33 {t : List UInt8} (h : t.length ≤ 1024) : parts 32 t ≤ 32 := Pt.parts_le (by decide) (by omega) (by decide)
theorem nums_lt {ep s a : Nat} (h1 : ep < 18446744073709551616) (h2 : s < 18446744073709551616) (h3 : a < 18446744073709551616) : ∀ x ∈ nums ep s a, x < 18446744073709551616 := by
  intro x hx
  simp only [nums, List.mem_cons, List.not_mem_nil, or_false] at hx
  rcases hx with rfl | rfl | rfl <;> assumption
theorem first_some {ep a : Nat} {S : List (List UInt8)} {t : List UInt8} {s : Nat} (h : first ep a S = some (t, s)) : Holds (nums ep s a) 32 t S ∧ t.length ≤ 1024 ∧ s < 18446744073709551616 := by
  unfold first at h
  split at h
  · rename_i hc
    rw [Option.map_eq_some_iff] at h
    obtain ⟨t', ht, e⟩ := h
    injection e with e1 e2
    subst e1; subst e2
    obtain ⟨h1, h2, h3⟩ := Pt.holds_text ht
    have e : Pt.heads 3 (S.getD 0 []) = nums ep (number 1 (S.getD 0 [])) a := by rw [← hc.1, ← hc.2]; rfl
    rw [e] at h1
    exact ⟨h1, h2, Pt.number_lt _ _⟩
  · cases h
theorem first_of {ep a : Nat} {S : List (List UInt8)} {t : List UInt8} {s : Nat} (h1 : ep < 18446744073709551616) (h2 : s < 18446744073709551616) (h3 : a < 18446744073709551616) (ht : t.length ≤ 1024) (h : Holds (nums ep s a) 32 t S) : first ep a S = some (t, s) := by
  have hn := nums_lt h1 h2 h3
  have hp := parts_33 ht
  have e : text S = some t := h.text hn (by decide) (by decide) (by omega) ht
  have e0 : number 0 (S.getD 0 []) = ep := by rw [h.first]; exact Pt.number_body (hs := nums ep s a) (k := 0) (by simp [nums]) h1 t 0
  have e1 : number 1 (S.getD 0 []) = s := by rw [h.first]; exact Pt.number_body (hs := nums ep s a) (k := 1) (by simp [nums]) h2 t 0
  have e2 : number 2 (S.getD 0 []) = a := by rw [h.first]; exact Pt.number_body (hs := nums ep s a) (k := 2) (by simp [nums]) h3 t 0
  rw [first, if_pos ⟨e0, e2⟩, e, e1]; rfl
/-- The records that stand in sectors, and what stands behind them. -/
structure Found (ep a : Nat) (S : List (List UInt8)) (R : List (List UInt8 × Nat)) (rest : List (List UInt8)) : Prop where
  same : S = laid ep a R ++ rest
  stop : first ep (last a R) rest = none
  ok : ∀ x ∈ R, x.1.length ≤ 1024 ∧ x.2 < 18446744073709551616
theorem holds_split {hs : List Nat} {n : Nat} {t : List UInt8} {S : List (List UInt8)} (h : Holds hs n t S) : S = bodies hs n t ++ S.drop (parts n t) := by
  have := (List.take_append_drop (parts n t) S).symm
  rwa [h.same] at this
theorem holds_app {hs : List Nat} {n : Nat} {t : List UInt8} (S : List (List UInt8)) : Holds hs n t (bodies hs n t ++ S) := ⟨List.take_left' (Pt.bodies_length _ _ _)⟩
theorem find_found {ep : Nat} : ∀ (f a : Nat) (S : List (List UInt8)), S.length ≤ f → ∃ rest, Found ep a S (find ep f a S) rest
  | 0, a, S, h => by
    have : S = [] := List.eq_nil_of_length_eq_zero (by omega)
    subst this
    refine ⟨[], rfl, ?_, fun x hx => by simp [find] at hx⟩
    show first ep a [] = none
    unfold first
    split
    · rfl
    · rfl
  | f + 1, a, S, h => by
    unfold find
    split
    · rename_i t s hf
      obtain ⟨h1, h2, h3⟩ := first_some hf
      have hp := Pt.parts_pos 32 t
      obtain ⟨rest, k1, k2, k3⟩ := find_found f s (S.drop (parts 32 t)) (by rw [List.length_drop]; omega)
      refine ⟨rest, ?_, k2, fun x hx => ?_⟩
      · rw [laid, List.append_assoc, ← k1]
        exact holds_split h1
      · rcases List.mem_cons.1 hx with rfl | hx
        · exact ⟨h2, h3⟩
        · exact k3 x hx
    · rename_i hf
      exact ⟨S, rfl, hf, fun x hx => by simp at hx⟩
theorem Found.find {ep : Nat} (hep : ep < 18446744073709551616) {rest : List (List UInt8)} : ∀ (R : List (List UInt8 × Nat)) (f a : Nat) (S : List (List UInt8)), a < 18446744073709551616 → S.length ≤ f → Found ep a S R rest → Lg.find ep f a S = R
  | [], f, a, S, ha, hf, h => by
    have e : S = rest := h.same
    have e2 : first ep a S = none := by rw [e]; exact h.stop
    cases f with
    | zero => rfl
    | succ f => rw [Lg.find, e2]
  | (t, s) :: R, f, a, S, ha, hf, h => by
    have hok := h.ok (t, s) (by simp)
    have hp := Pt.parts_pos 32 t
    have e : S = bodies (nums ep s a) 32 t ++ (laid ep s R ++ rest) := by rw [← List.append_assoc]; exact h.same
    have hh : Holds (nums ep s a) 32 t S := by rw [e]; exact holds_app _
    have e1 := first_of hep hok.2 ha hok.1 hh
    have hl := hh.len
    have hd : S.drop (parts 32 t) = laid ep s R ++ rest := by rw [e]; exact List.drop_left' (Pt.bodies_length _ _ _)
    cases f with
    | zero => omega
    | succ f =>
      rw [Lg.find, e1]
      simp only
      rw [Found.find hep R f s _ hok.2 (by rw [List.length_drop]; omega) ⟨hd, h.stop, fun x hx => h.ok x (by simp [hx])⟩]
theorem laid_snoc (ep : Nat) : ∀ (a : Nat) (R : List (List UInt8 × Nat)) (t : List UInt8) (s : Nat), laid ep a (R ++ [(t, s)]) = laid ep a R ++ bodies (nums ep s (last a R)) 32 t
  | a, [], t, s => by simp [laid, last]
  | a, (t', s') :: R, t, s => by rw [List.cons_append, laid, laid_snoc ep s' R, laid, last, List.append_assoc]
theorem last_snoc : ∀ (a : Nat) (R : List (List UInt8 × Nat)) (t : List UInt8) (s : Nat), last a (R ++ [(t, s)]) = s
  | a, [], t, s => rfl
  | a, (t', s') :: R, t, s => by rw [List.cons_append, last, last_snoc]
theorem last_mem : ∀ (a : Nat) (R : List (List UInt8 × Nat)), last a R = a ∨ ∃ x ∈ R, x.2 = last a R
  | a, [] => .inl rfl
  | a, (t, s) :: R => by
    right
    rcases last_mem s R with h | ⟨x, hx, h⟩
    · exact ⟨(t, s), by simp, by rw [last, h]⟩
    · exact ⟨x, by simp [hx], by rw [last, h]⟩
/-- How many sectors records take. -/
def used (R : List (List UInt8 × Nat)) : Nat := (R.map fun x => parts 32 x.1).sum
theorem laid_length (ep : Nat) : ∀ (a : Nat) (R : List (List UInt8 × Nat)), (laid ep a R).length = used R
  | a, [] => rfl
  | a, (t, s) :: R => by rw [laid, List.length_append, Pt.bodies_length, laid_length ep s R]; rfl
theorem used_snoc (R : List (List UInt8 × Nat)) (t : List UInt8) (s : Nat) : used (R ++ [(t, s)]) = used R + parts 32 t := by simp [used]
/-- Each body's salt is above the one ahead. -/
def Up (S : List (List UInt8)) : Prop := ∀ b ∈ S, b ≠ [] → number 2 b < number 1 b
theorem salt_mem {ep : Nat} : ∀ (a : Nat) (R : List (List UInt8 × Nat)), (∀ x ∈ R, x.2 < 18446744073709551616) → ∀ x ∈ R, ∃ b ∈ laid ep a R, number 1 b = x.2
  | a, [], _, x, hx => by simp at hx
  | a, (t, s) :: R, h, x, hx => by
    have hp := Pt.parts_pos 32 t
    rcases List.mem_cons.1 hx with rfl | hx
    · refine ⟨body (nums ep s a) 32 t 0, ?_, Pt.number_body (hs := nums ep s a) (k := 1) (by simp [nums]) (h (t, s) (by simp)) t 0⟩
      rw [laid]
      exact List.mem_append_left _ (List.mem_of_getElem? (Pt.bodies_get (show 0 < parts 32 t by omega)))
    · obtain ⟨b, hb, e⟩ := salt_mem s R (fun y hy => h y (by simp [hy])) x hx
      exact ⟨b, by rw [laid]; exact List.mem_append_right _ hb, e⟩
theorem last_le {ep a : Nat} {S rest : List (List UInt8)} {R : List (List UInt8 × Nat)} (h : Found ep a S R rest) : last a R ≤ max a (Pt.greatest 1 S) := by
  rcases last_mem a R with e | ⟨x, hx, e⟩
  · omega
  · obtain ⟨b, hb, e2⟩ := salt_mem (ep := ep) a R (fun y hy => (h.ok y hy).2) x hx
    have := Pt.le_greatest (k := 1) (S := S) (b := b) (by rw [h.same]; exact List.mem_append_left _ hb)
    omega
section
variable {ep a : Nat} {S rest : List (List UInt8)} {R : List (List UInt8 × Nat)} {t : List UInt8} {c : Nat → Bool}
/-- A record is written behind those that are found: all of it is there. -/
theorem Found.more (h : Found ep 0 S R rest) (hu : Up S) (ht : t.length ≤ 1024) (hg : Pt.greatest 1 S + 1 < 18446744073709551616) (hr : parts 32 t ≤ rest.length) (hc : ∀ j, j < parts 32 t → c j = true) :
    Found ep 0 (laid ep 0 R ++ mix rest (nums ep (Pt.greatest 1 S + 1) (last 0 R)) 32 t c) (R ++ [(t, Pt.greatest 1 S + 1)]) (rest.drop (parts 32 t)) := by
  refine ⟨?_, ?_, fun x hx => ?_⟩
  · rw [Pt.mix_all hr hc, laid_snoc, List.append_assoc]
  · rw [last_snoc]
    unfold first
    rw [if_neg]
    rintro ⟨h1, h2⟩
    by_cases hb : (rest.drop (parts 32 t)).getD 0 [] = []
    · rw [hb, Pt.number_nil] at h2; omega
    · have hm : (rest.drop (parts 32 t)).getD 0 [] ∈ S := by
        rw [h.same]
        refine List.mem_append_right _ (List.drop_subset (parts 32 t) _ ?_)
        rw [List.getD_eq_getElem?_getD] at hb ⊢
        cases hx : (rest.drop (parts 32 t))[0]? with
        | none => rw [hx] at hb; exact absurd rfl hb
        | some y => exact List.mem_of_getElem? hx
      have h3 := hu _ hm hb
      have h4 := Pt.le_greatest (k := 1) hm
      omega
  · rcases List.mem_append.1 hx with hx | hx
    · exact h.ok x hx
    · simp only [List.mem_singleton] at hx
      rw [hx]; exact ⟨ht, hg⟩
/-- Not all of it is there. -/
theorem Found.torn (h : Found ep 0 S R rest) (hep : ep < 18446744073709551616) (ht : t.length ≤ 1024) (hg : Pt.greatest 1 S + 1 < 18446744073709551616) (hr : parts 32 t ≤ rest.length) (hc : ∃ j, j < parts 32 t ∧ c j = false) :
    Found ep 0 (laid ep 0 R ++ mix rest (nums ep (Pt.greatest 1 S + 1) (last 0 R)) 32 t c) R (mix rest (nums ep (Pt.greatest 1 S + 1) (last 0 R)) 32 t c) := by
  refine ⟨rfl, ?_, h.ok⟩
  have hl := last_le h
  have hp := parts_33 ht
  cases hf : first ep (last 0 R) (mix rest (nums ep (Pt.greatest 1 S + 1) (last 0 R)) 32 t c) with
  | none => rfl
  | some x =>
    exfalso
    obtain ⟨t', s'⟩ := x
    obtain ⟨k1, k2, k3⟩ := first_some hf
    have hp' := parts_33 k2
    have hlt : last 0 R < 18446744073709551616 := by have := Pt.greatest_lt 1 S; omega
    have k4 := Pt.mix_old (hs := nums ep (Pt.greatest 1 S + 1) (last 0 R)) (j := 1) (by simp [nums]) hr (by omega) (show Pt.greatest 1 S + 1 < _ from hg) (fun b hb => ?_) hc (hs' := nums ep s' (last 0 R)) rfl (nums_lt hep k3 hlt) (by omega) k1
    · have k5 := first_of hep k3 hlt k2 k4
      rw [h.stop] at k5
      cases k5
    · show number 1 b < Pt.greatest 1 S + 1
      have := Pt.le_greatest (k := 1) (S := S) (b := b) (by rw [h.same]; exact List.mem_append_right _ hb)
      omega
end
end Lg
end Go.Proofs.YtnmagfodjcookaaGreat
