/-
  The slot that does not have what is kept, with old sectors and new ones mixed: what is kept is the old record or the new one.
-/
import Derived.Test.YtnmagfodjcookaaGreatKpDisk
namespace Go.Proofs.YtnmagfodjcookaaGreat
namespace Kp
open Dk (lookOf)
theorem look_closed {b : List UInt8} (h : b.length = 60) : lookOf (Dk.closed b) = (b, 1) := by
  have h1 : (Dk.closed b).take 60 = b := by rw [Dk.closed, List.take_left' h]
  have h2 : (Dk.closed b).length = 64 := by rw [Dk.closed_length, h]
  rw [lookOf, if_neg (Dk.closed_not_blank h), h1, if_pos ⟨h2, rfl⟩]
def mix (S : List (List UInt8)) (t : List UInt8) (g : Nat) (c : Nat → Bool) : List (List UInt8) := (List.range S.length).map fun j => if c j = true ∧ j < parts t then body t g j else S.getD j []
theorem mix_length (S : List (List UInt8)) (t : List UInt8) (g : Nat) (c : Nat → Bool) : (mix S t g c).length = S.length := by simp [mix]
theorem mix_get {S : List (List UInt8)} {t : List UInt8} {g : Nat} {c : Nat → Bool} {j : Nat} (h : j < S.length) : (mix S t g c)[j]? = some (if c j = true ∧ j < parts t then body t g j else S.getD j []) := by
  simp [mix, h]
theorem mix_new {S : List (List UInt8)} {t : List UInt8} {g : Nat} {c : Nat → Bool} (hS : S.length = 10) (ht : t.length ≤ 400) (hg : g < 18446744073709551616) (h0 : g ≠ 0) (hc : ∀ j, j < parts t → c j = true) : held (mix S t g c) = (t, g) := by
  have hp := parts_le ht
  refine Holds.held ⟨h0, ht, List.ext_getElem? fun j => ?_⟩ hg
  rw [List.getElem?_take]
  by_cases hj : j < parts t
  · rw [if_pos hj, mix_get (by omega), if_pos ⟨hc j hj, hj⟩, bodies_get hj]
  · rw [if_neg hj, List.getElem?_eq_none (by rw [bodies_length]; omega)]
theorem mix_old {S : List (List UInt8)} {t : List UInt8} {g : Nat} {c : Nat → Bool} (hS : S.length = 10) (ht : t.length ≤ 400) (hg : g < 18446744073709551616) (hS2 : ∀ b ∈ S, gen b < g) (hc : ∃ j, j < parts t ∧ c j = false) : held (mix S t g c) = held S ∨ held (mix S t g c) = ([], 0) := by
  have hp := parts_le ht
  have hpos := parts_pos t
  by_cases hz : (held (mix S t g c)).2 = 0
  · exact .inr (held_none hz)
  left
  obtain ⟨t', ht'⟩ : ∃ t', t' = (held (mix S t g c)).1 := ⟨_, rfl⟩
  obtain ⟨g', hg'⟩ : ∃ g', g' = (held (mix S t g c)).2 := ⟨_, rfl⟩
  have hh : Holds (mix S t g c) t' g' := holds (by rw [ht', hg']) (by rw [hg']; exact hz)
  have hg2 : g' < 18446744073709551616 := by rw [hg']; exact held_lt _
  have hp' := parts_le hh.le
  have hpos' := parts_pos t'
  have hold : ∀ j, j < 10 → gen (S.getD j []) < g := fun j hj => by
    refine hS2 _ ?_
    rw [List.getD_eq_getElem?_getD, List.getElem?_eq_getElem (by omega)]
    exact List.getElem_mem _
  have hat : ∀ j, j < parts t' → body t' g' j = if c j = true ∧ j < parts t then body t g j else S.getD j [] := fun j hj => by
    have := hh.get hj
    rw [mix_get (by omega)] at this
    exact (Option.some.inj this).symm
  have hgj : ∀ j, j < parts t' → g' = if c j = true ∧ j < parts t then g else gen (S.getD j []) := fun j hj => by
    have e := congrArg gen (hat j hj)
    rw [gen_body hg2] at e
    rw [e]
    split
    · exact gen_body hg
    · rfl
  have h0 := hat 0 (by omega)
  have g0 := hgj 0 (by omega)
  by_cases c0 : c 0 = true
  · exfalso
    rw [if_pos ⟨c0, by omega⟩] at h0 g0
    have e1 := body_count (t := t') g' 0 (by omega)
    rw [h0, body_count (t := t) g 0 (by omega)] at e1
    obtain ⟨j, hj, hcj⟩ := hc
    have := hgj j (by omega)
    rw [if_neg (by rw [hcj]; simp)] at this
    have := hold j (by omega)
    omega
  · rw [if_neg (fun h => c0 h.1)] at g0
    have hlt := hold 0 (by omega)
    have hold2 : Holds S t' g' := ⟨hh.pos, hh.le, List.ext_getElem? fun j => by
      rw [List.getElem?_take]
      by_cases hj : j < parts t'
      · have hn : ¬ (c j = true ∧ j < parts t) := fun h => by
          have := hgj j hj
          rw [if_pos h] at this
          omega
        have := hat j hj
        rw [if_neg hn] at this
        rw [if_pos hj, bodies_get hj, this, List.getD_eq_getElem?_getD, List.getElem?_eq_getElem (by omega)]
        rfl
      · rw [if_neg hj, List.getElem?_eq_none (by rw [bodies_length]; omega)]⟩
    rw [hold2.held hg2, ht', hg']
/-- A slot's bodies. -/
def slot (f : Nat → List UInt8) (s : Nat) : List (List UInt8) := (List.range 10).map fun j => (lookOf (f (s * 10 + j))).1
theorem place_take (f : Nat → List UInt8) : (place f).take 10 = slot f 0 := by
  simp [place, slot, List.range_succ]
theorem place_drop (f : Nat → List UInt8) : (place f).drop 10 = slot f 1 := by
  simp [place, slot, List.range_succ]
theorem slot_length (f : Nat → List UInt8) (s : Nat) : (slot f s).length = 10 := by simp [slot]
theorem slot_mem {f : Nat → List UInt8} {s : Nat} (hs : s < 2) : ∀ b ∈ slot f s, b ∈ place f := by
  intro b hb
  simp only [slot, List.mem_map, List.mem_range] at hb
  obtain ⟨j, hj, rfl⟩ := hb
  simp only [place, List.mem_map, List.mem_range]
  exact ⟨s * 10 + j, by omega, rfl⟩
def pick (a b : List UInt8 × Nat) : (List UInt8 × Nat) × Nat := if 0 < a.2 ∧ b.2 ≤ a.2 then (a, 1) else (b, 0)
theorem find_slots (f : Nat → List UInt8) : find (place f) = pick (held (slot f 0)) (held (slot f 1)) := by
  rw [find, place_take, place_drop]; rfl
theorem next_lt (f : Nat → List UInt8) : (find (place f)).2 < 2 := by
  rw [find_slots, pick]
  split <;> simp
theorem find_kept (f : Nat → List UInt8) : (find (place f)).1 = held (slot f (1 - (find (place f)).2)) := by
  rw [find_slots, pick]
  split <;> rfl
theorem find_le (f : Nat → List UInt8) : (find (place f)).1.2 ≤ greatest (place f) := by
  rw [find_kept]
  exact held_great (slot_mem (by omega))
theorem find_none {f : Nat → List UInt8} (h : (find (place f)).1.2 = 0) : (find (place f)).1.1 = [] := by
  rw [find_kept] at h ⊢
  rw [held_none h]
theorem find_len (f : Nat → List UInt8) : (find (place f)).1.1.length ≤ 400 := by
  rw [find_kept]
  exact held_le _
/-- Old sectors and new ones, mixed. -/
def mixed (f : Nat → List UInt8) (n : Nat) (t : List UInt8) (g : Nat) (c : Nat → Bool) (j : Nat) : List UInt8 := if n * 10 ≤ j ∧ j < n * 10 + parts t ∧ c (j - n * 10) = true then Dk.closed (body t g (j - n * 10)) else f j
section
variable {f : Nat → List UInt8} {n : Nat} {t : List UInt8} {g : Nat} {c : Nat → Bool}
theorem mixed_look (j : Nat) : lookOf (mixed f n t g c j) = if n * 10 ≤ j ∧ j < n * 10 + parts t ∧ c (j - n * 10) = true then (body t g (j - n * 10), 1) else lookOf (f j) := by
  unfold mixed
  split
  · exact look_closed (body_length _ _ _)
  · rfl
theorem mixed_slot (ht : t.length ≤ 400) : slot (mixed f n t g c) n = mix (slot f n) t g c := by
  have hp := parts_le ht
  refine List.ext_getElem? fun j => ?_
  by_cases hj : j < 10
  · rw [mix_get (by rw [slot_length]; exact hj), slot, List.getElem?_map, List.getElem?_range hj, Option.map_some, mixed_look]
    congr 1
    rw [show n * 10 + j - n * 10 = j by omega]
    by_cases h : c j = true ∧ j < parts t
    · rw [if_pos h, if_pos ⟨by omega, by omega, h.1⟩]
    · rw [if_neg h, if_neg (fun q => h ⟨q.2.2, by omega⟩), slot, List.getD_eq_getElem?_getD, List.getElem?_map, List.getElem?_range hj]
      rfl
  · rw [List.getElem?_eq_none (by rw [slot_length]; omega), List.getElem?_eq_none (by rw [mix_length, slot_length]; omega)]
theorem mixed_other (ht : t.length ≤ 400) (hn : n < 2) : slot (mixed f n t g c) (1 - n) = slot f (1 - n) := by
  have hp := parts_le ht
  refine List.map_congr_left fun j hj => ?_
  rw [List.mem_range] at hj
  rw [mixed_look, if_neg]
  intro h
  have : n = 0 ∨ n = 1 := by omega
  rcases this with rfl | rfl <;> omega
theorem mixed_bad (h : bad f = false) : bad (mixed f n t g c) = false := by
  rw [bad, List.any_eq_false] at h ⊢
  intro j hj
  have := h j hj
  rw [mixed_look]
  split
  · simp
  · exact this
theorem mixed_le {m : Nat} (h : ∀ b ∈ place f, gen b ≤ m) (hg : g ≤ m) (hg2 : g < 18446744073709551616) : ∀ b ∈ place (mixed f n t g c), gen b ≤ m := by
  intro b hb
  simp only [place, List.mem_map, List.mem_range] at hb
  obtain ⟨j, hj, rfl⟩ := hb
  rw [mixed_look]
  split
  · rw [gen_body hg2]; exact hg
  · exact h _ (by simp only [place, List.mem_map, List.mem_range]; exact ⟨j, hj, rfl⟩)
end
/-- All of the new sectors are there. -/
theorem mixed_new {f : Nat → List UInt8} {t : List UInt8} {c : Nat → Bool} {a : Int} (ht : t.length ≤ 400) (hg : greatest (place f) + 1 < 18446744073709551616) (hc : ∀ j, j < parts t → c j = true) :
    opened (mixed f (find (place f)).2 t (greatest (place f) + 1) c) a = ⟨a, t, greatest (place f) + 1, 1 - (find (place f)).2, greatest (place f) + 1, false⟩ := by
  obtain ⟨g, eg⟩ : ∃ g, g = greatest (place f) + 1 := ⟨_, rfl⟩
  have hn := next_lt f
  obtain ⟨n, en⟩ : ∃ n, n = (find (place f)).2 := ⟨_, rfl⟩
  have hp := parts_le ht
  have hpos := parts_pos t
  have h1 : held (slot (mixed f n t g c) n) = (t, g) := by rw [mixed_slot ht]; exact mix_new (slot_length _ _) ht (by omega) (by omega) hc
  have h2 : held (slot (mixed f n t g c) (1 - n)) = held (slot f (1 - n)) := by rw [mixed_other ht (by omega)]
  have h3 : (held (slot f (1 - n))).2 < g := by have := held_great (slot := slot f (1 - n)) (place := place f) (slot_mem (by omega)); omega
  have hf : find (place (mixed f n t g c)) = ((t, g), 1 - n) := by
    rw [find_slots]
    have : n = 0 ∨ n = 1 := by omega
    rcases this with e | e
    · subst e
      rw [h1, show slot (mixed f 0 t g c) 1 = slot (mixed f 0 t g c) (1 - 0) from rfl, h2, pick, if_pos ⟨by show 0 < g; omega, by show _ ≤ g; simp only [Nat.sub_zero] at h3 ⊢; omega⟩]
    · subst e
      rw [h1, show slot (mixed f 1 t g c) 0 = slot (mixed f 1 t g c) (1 - 1) from rfl, h2, pick, if_neg (fun h => by have h4 : g ≤ _ := h.2; simp only [Nat.sub_self] at h3 h4; omega)]
  have hgr : greatest (place (mixed f n t g c)) = g := by
    refine Nat.le_antisymm (greatest_le (mixed_le (fun b hb => by have := le_greatest hb; omega) (Nat.le_refl _) (by omega))) ?_
    have hm : body t g 0 ∈ place (mixed f n t g c) := by
      simp only [place, List.mem_map, List.mem_range]
      refine ⟨n * 10, by omega, ?_⟩
      rw [mixed_look, if_pos ⟨Nat.le_refl _, by omega, by rw [Nat.sub_self]; exact hc 0 (by omega)⟩, Nat.sub_self]
    have := le_greatest hm
    rwa [gen_body (by omega)] at this
  rw [← eg, ← en, opened, hf, hgr]
/-- Not all of the new sectors are there. -/
theorem mixed_old {f : Nat → List UInt8} {t : List UInt8} {c : Nat → Bool} {a : Int} (ht : t.length ≤ 400) (hg : greatest (place f) + 1 < 18446744073709551616) (hc : ∃ j, j < parts t ∧ c j = false) :
    ∃ s, s ≤ greatest (place f) + 1 ∧ opened (mixed f (find (place f)).2 t (greatest (place f) + 1) c) a = ⟨a, (find (place f)).1.1, (find (place f)).1.2, (find (place f)).2, s, false⟩ := by
  obtain ⟨g, eg⟩ : ∃ g, g = greatest (place f) + 1 := ⟨_, rfl⟩
  have hn := next_lt f
  obtain ⟨n, en⟩ : ∃ n, n = (find (place f)).2 := ⟨_, rfl⟩
  have hp := parts_le ht
  have h1 : held (slot (mixed f n t g c) n) = held (slot f n) ∨ held (slot (mixed f n t g c) n) = ([], 0) := by
    rw [mixed_slot ht]
    exact mix_old (slot_length _ _) ht (by omega) (fun b hb => by have := le_greatest (slot_mem (f := f) (s := n) (by omega) b hb); omega) hc
  have h2 : held (slot (mixed f n t g c) (1 - n)) = held (slot f (1 - n)) := by rw [mixed_other ht (by omega)]
  have hf : find (place (mixed f n t g c)) = find (place f) := by
    have en2 := en
    rw [find_slots] at en2
    rw [find_slots, find_slots]
    have : n = 0 ∨ n = 1 := by omega
    rcases this with e | e
    · subst e
      rw [show slot (mixed f 0 t g c) 1 = slot (mixed f 0 t g c) (1 - 0) from rfl, h2]
      rcases h1 with h1 | h1
      · rw [h1]
      · rw [h1, pick, if_neg (fun h => by have := h.1; simp at this)]
        unfold pick at en2 ⊢
        split at en2
        · cases en2
        · rename_i hq; rw [if_neg hq]
    · subst e
      rw [show slot (mixed f 1 t g c) 0 = slot (mixed f 1 t g c) (1 - 1) from rfl, h2]
      rcases h1 with h1 | h1
      · rw [h1]
      · unfold pick at en2 ⊢
        split at en2
        · rename_i hq
          rw [h1, if_pos hq, if_pos ⟨hq.1, Nat.zero_le _⟩]
        · cases en2
  refine ⟨greatest (place (mixed f n t g c)), greatest_le (mixed_le (fun b hb => by have := le_greatest hb; omega) (by omega) (by omega)), ?_⟩
  rw [← eg, ← en, opened, hf, ← en]
end Kp
end Go.Proofs.YtnmagfodjcookaaGreat
