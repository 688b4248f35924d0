/-
  A log on a disk: what Open reads, what Add writes; a log beside its disk, a whole Add, one that was broken off, a crash.
-/
import Derived.Test.YtnmagfodjcookaaGreatLgMath
import Derived.Test.YtnmagfodjcookaaGreatKpMix
import Derived.Test.YtnmagfodjcookaaGreatPtSave
namespace Go.Proofs.YtnmagfodjcookaaGreat
namespace Lg
open Pt (parts bodies body number Holds mix)
open Dk (lookOf)
open Kp (lastly sees save)
/-- What a Log says of itself. -/
structure Md where
  ep : Nat
  next : Int
  end_ : Int
  recs : List (List UInt8)
  ahead : Nat
  salt : Nat
  broken : Bool
def place (n : Nat) (f : Nat → List UInt8) : List (List UInt8) := (List.range n).map fun j => (lookOf (f j)).1
def bad (n : Nat) (f : Nat → List UInt8) : Bool := (List.range n).any fun j => decide ((lookOf (f j)).2 = 2)
def found (ep : Nat) (S : List (List UInt8)) : List (List UInt8 × Nat) := find ep S.length 0 S
def openErr (M : Dk.Md) (a n : Int) (ep : Nat) : Int :=
  if a < 0 ∨ n < 1 ∨ (M.lasts.length : Int) - n < a ∨ ep = 0 then 1 else if M.off then 14 else if bad n.toNat (sees M a) then 9 else 0
def opened (n : Nat) (f : Nat → List UInt8) (a : Int) (ep : Nat) : Md :=
  ⟨ep, a + used (found ep (place n f)), a + n, (found ep (place n f)).map (·.1), last 0 (found ep (place n f)), Pt.greatest 1 (place n f), false⟩
def added (L : Md) (t : List UInt8) : Md := ⟨L.ep, L.next + parts 32 t, L.end_, L.recs ++ [t], L.salt + 1, L.salt + 1, false⟩
def lot (L : Md) (t : List UInt8) : List (List UInt8) := bodies (nums L.ep (L.salt + 1) L.ahead) 32 t
def add (L : Md) (M : Dk.Md) (t : List UInt8) : Md × Dk.Md × Int :=
  if L.broken then (L, M, 11) else if 1024 < t.length then (L, M, 3) else if L.end_ - L.next < parts 32 t ∨ L.salt = 18446744073709551615 then (L, M, 6)
  else if (save M L.next (lot L t)).2 = 0 then (added L t, (save M L.next (lot L t)).1, 0)
  else ({ L with broken := true }, (save M L.next (lot L t)).1, (save M L.next (lot L t)).2)
theorem place_length (n : Nat) (f : Nat → List UInt8) : (place n f).length = n := by simp [place]
theorem place_get {n j : Nat} {f : Nat → List UInt8} (h : j < n) : (place n f)[j]? = some (lookOf (f j)).1 := by simp [place, h]
theorem lot_length (L : Md) (t : List UInt8) : (lot L t).length = parts 32 t := Pt.bodies_length _ _ _
theorem lot_all (L : Md) (t : List UInt8) : ∀ b ∈ lot L t, b.length = 60 := Pt.bodies_all (by simp [nums]) t
theorem found_is (ep : Nat) (S : List (List UInt8)) : ∃ rest, Found ep 0 S (found ep S) rest := find_found _ _ _ (Nat.le_refl _)
theorem found_of {ep : Nat} (hep : ep < 18446744073709551616) {S rest : List (List UInt8)} {R : List (List UInt8 × Nat)} (h : Found ep 0 S R rest) : found ep S = R := Found.find hep R _ _ _ (by decide) (Nat.le_refl _) h
theorem used_le {ep a : Nat} {S rest : List (List UInt8)} {R : List (List UInt8 × Nat)} (h : Found ep a S R rest) : used R + rest.length = S.length := by
  have := congrArg List.length h.same
  rw [List.length_append, laid_length] at this
  omega
theorem split_at {ep a : Nat} {S rest : List (List UInt8)} {R : List (List UInt8 × Nat)} (h : Found ep a S R rest) : S.take (used R) = laid ep a R ∧ S.drop (used R) = rest := by
  rw [h.same]
  exact ⟨List.take_left' (laid_length _ _ _), List.drop_left' (laid_length _ _ _)⟩
theorem mem_place {n j : Nat} {f : Nat → List UInt8} (h : j < n) : (lookOf (f j)).1 ∈ place n f := List.mem_of_getElem? (place_get h)
theorem used_found (ep : Nat) (S : List (List UInt8)) : used (found ep S) ≤ S.length := by
  obtain ⟨rest, h⟩ := found_is ep S
  have := used_le h
  omega
/-- Old sectors and new ones, mixed from the p-th on. -/
def mixed (f : Nat → List UInt8) (p : Nat) (hs : List Nat) (t : List UInt8) (c : Nat → Bool) (j : Nat) : List UInt8 := if p ≤ j ∧ j < p + parts 32 t ∧ c (j - p) = true then Dk.closed (body hs 32 t (j - p)) else f j
section
variable {f : Nat → List UInt8} {n p : Nat} {hs : List Nat} {t : List UInt8} {c : Nat → Bool}
theorem mixed_look (hl : hs.length = 3) (j : Nat) : lookOf (mixed f p hs t c j) = if p ≤ j ∧ j < p + parts 32 t ∧ c (j - p) = true then (body hs 32 t (j - p), 1) else lookOf (f j) := by
  unfold mixed
  split
  · exact Kp.look_closed (Pt.body_length (by omega) _ _)
  · rfl
theorem place_mixed (hl : hs.length = 3) (hp : p + parts 32 t ≤ n) : place n (mixed f p hs t c) = (place n f).take p ++ mix ((place n f).drop p) hs 32 t c := by
  refine List.ext_getElem? fun j => ?_
  by_cases hj : j < n
  · rw [place_get hj, mixed_look hl, List.getElem?_append, List.length_take, place_length]
    by_cases hjp : j < p
    · have eL : (if p ≤ j ∧ j < p + parts 32 t ∧ c (j - p) = true then (body hs 32 t (j - p), 1) else lookOf (f j)) = lookOf (f j) := if_neg (fun h => by omega)
      rw [eL, if_pos (show j < min p n by omega), List.getElem?_take, if_pos hjp, place_get hj]
    · rw [if_neg (show ¬ j < min p n by omega), show j - min p n = j - p by omega, Pt.mix_get (by rw [List.length_drop, place_length]; omega)]
      congr 1
      by_cases hc : c (j - p) = true ∧ j - p < parts 32 t
      · rw [if_pos hc, if_pos ⟨by omega, by omega, hc.1⟩]
      · rw [if_neg hc, if_neg (fun h => hc ⟨h.2.2, by omega⟩), List.getD_eq_getElem?_getD, List.getElem?_drop, show p + (j - p) = j by omega, place_get hj]
        rfl
  · rw [List.getElem?_eq_none (by rw [place_length]; omega), List.getElem?_eq_none (by rw [List.length_append, List.length_take, Pt.mix_length, List.length_drop, place_length]; omega)]
theorem mixed_bad (hl : hs.length = 3) (h : bad n f = false) : bad n (mixed f p hs t c) = false := by
  rw [bad, List.any_eq_false] at h ⊢
  intro j hj
  have := h j hj
  rw [mixed_look hl]
  split
  · simp
  · exact this
theorem mixed_mem (hl : hs.length = 3) {b : List UInt8} (hb : b ∈ place n (mixed f p hs t c)) : (∃ i, i < parts 32 t ∧ c i = true ∧ b = body hs 32 t i) ∨ b ∈ place n f := by
  simp only [place, List.mem_map, List.mem_range] at hb
  obtain ⟨j, hj, rfl⟩ := hb
  rw [mixed_look hl]
  split
  · rename_i h
    exact .inl ⟨j - p, by omega, h.2.2, rfl⟩
  · exact .inr (by simp only [place, List.mem_map, List.mem_range]; exact ⟨j, hj, rfl⟩)
end
section
variable {f : Nat → List UInt8} {n : Nat} {t : List UInt8} {c : Nat → Bool} {ep : Nat} {a : Int}
/-- All of the new sectors are there. -/
theorem opened_new (hep : 0 < ep ∧ ep < 18446744073709551616) (hu : Up (place n f)) (ht : t.length ≤ 1024) (hg : Pt.greatest 1 (place n f) + 1 < 18446744073709551616) (hr : used (found ep (place n f)) + parts 32 t ≤ n) (hc : ∀ j, j < parts 32 t → c j = true) :
    opened n (mixed f (used (found ep (place n f))) (nums ep (Pt.greatest 1 (place n f) + 1) (last 0 (found ep (place n f)))) t c) a ep = added (opened n f a ep) t := by
  obtain ⟨rest, h⟩ := found_is ep (place n f)
  have hul := used_le h
  rw [place_length] at hul
  have hrl : parts 32 t ≤ rest.length := by omega
  have h2 := h.more hu ht hg hrl hc
  have hS := place_mixed (f := f) (c := c) (hs := nums ep (Pt.greatest 1 (place n f) + 1) (last 0 (found ep (place n f)))) rfl hr
  obtain ⟨htk, hdr⟩ := split_at h
  rw [htk, hdr] at hS
  rw [← hS] at h2
  have h3 := found_of hep.2 h2
  have hgr : Pt.greatest 1 (place n (mixed f (used (found ep (place n f))) (nums ep (Pt.greatest 1 (place n f) + 1) (last 0 (found ep (place n f)))) t c)) = Pt.greatest 1 (place n f) + 1 := by
    refine Nat.le_antisymm (Pt.greatest_le fun b hb => ?_) ?_
    · rcases mixed_mem rfl hb with ⟨i, _, _, rfl⟩ | hb
      · rw [Pt.number_body (hs := nums ep (Pt.greatest 1 (place n f) + 1) (last 0 (found ep (place n f)))) (k := 1) (by simp [nums]) hg]; exact Nat.le_refl _
      · have := Pt.le_greatest (k := 1) hb; omega
    · have hp := Pt.parts_pos 32 t
      have hm := mem_place (n := n) (f := mixed f (used (found ep (place n f))) (nums ep (Pt.greatest 1 (place n f) + 1) (last 0 (found ep (place n f)))) t c) (j := used (found ep (place n f))) (by omega)
      rw [mixed_look rfl, if_pos ⟨Nat.le_refl _, by omega, by rw [Nat.sub_self]; exact hc 0 (by omega)⟩, Nat.sub_self] at hm
      have := Pt.le_greatest (k := 1) hm
      rwa [Pt.number_body (hs := nums ep (Pt.greatest 1 (place n f) + 1) (last 0 (found ep (place n f)))) (k := 1) (by simp [nums]) hg] at this
  rw [opened, h3, hgr, used_snoc, last_snoc, List.map_append]
  simp only [added, opened, List.map_cons, List.map_nil, Md.mk.injEq, and_true, true_and]
  push_cast
  omega
/-- Not all of them are. -/
theorem opened_old (hep : 0 < ep ∧ ep < 18446744073709551616) (ht : t.length ≤ 1024) (hg : Pt.greatest 1 (place n f) + 1 < 18446744073709551616) (hr : used (found ep (place n f)) + parts 32 t ≤ n) (hc : ∃ j, j < parts 32 t ∧ c j = false) :
    ∃ s, s ≤ Pt.greatest 1 (place n f) + 1 ∧ opened n (mixed f (used (found ep (place n f))) (nums ep (Pt.greatest 1 (place n f) + 1) (last 0 (found ep (place n f)))) t c) a ep = { opened n f a ep with salt := s } := by
  obtain ⟨rest, h⟩ := found_is ep (place n f)
  have hul := used_le h
  rw [place_length] at hul
  have hrl : parts 32 t ≤ rest.length := by omega
  have h2 := h.torn hep.2 ht hg hrl hc
  have hS := place_mixed (f := f) (c := c) (hs := nums ep (Pt.greatest 1 (place n f) + 1) (last 0 (found ep (place n f)))) rfl hr
  obtain ⟨htk, hdr⟩ := split_at h
  rw [htk, hdr] at hS
  rw [← hS] at h2
  have h3 := found_of hep.2 h2
  refine ⟨_, Pt.greatest_le fun b hb => ?_, by rw [opened, h3]; rfl⟩
  rcases mixed_mem rfl hb with ⟨i, _, _, rfl⟩ | hb
  · rw [Pt.number_body (hs := nums ep (Pt.greatest 1 (place n f) + 1) (last 0 (found ep (place n f)))) (k := 1) (by simp [nums]) hg]; exact Nat.le_refl _
  · have := Pt.le_greatest (k := 1) hb; omega
theorem mixed_up (hu : Up (place n f)) (hg : Pt.greatest 1 (place n f) + 1 < 18446744073709551616) : Up (place n (mixed f (used (found ep (place n f))) (nums ep (Pt.greatest 1 (place n f) + 1) (last 0 (found ep (place n f)))) t c)) := by
  intro b hb hne
  rcases mixed_mem rfl hb with ⟨i, _, _, rfl⟩ | hb
  · obtain ⟨rest, h⟩ := found_is ep (place n f)
    have hl := last_le h
    rw [Pt.number_body (hs := nums ep (Pt.greatest 1 (place n f) + 1) (last 0 (found ep (place n f)))) (k := 1) (by simp [nums]) hg, Pt.number_body (hs := nums ep (Pt.greatest 1 (place n f) + 1) (last 0 (found ep (place n f)))) (k := 2) (by simp [nums]) (show last 0 _ < _ by omega)]
    show last 0 _ < Pt.greatest 1 _ + 1
    omega
  · exact hu b hb hne
end
theorem place_congr {n : Nat} {f g : Nat → List UInt8} (h : ∀ j, j < n → f j = g j) : place n f = place n g := List.map_congr_left fun j hj => by rw [h j (by simpa using hj)]
theorem opened_congr {n : Nat} {f g : Nat → List UInt8} (h : ∀ j, j < n → f j = g j) (a : Int) (ep : Nat) : opened n f a ep = opened n g a ep := by rw [opened, opened, place_congr h]
theorem bad_congr {n : Nat} {f g : Nat → List UInt8} (h : ∀ j, j < n → f j = g j) : bad n f = bad n g := by
  rw [Bool.eq_iff_iff]
  simp only [bad, List.any_eq_true]
  constructor
  · rintro ⟨j, hj, e⟩; exact ⟨j, hj, by rw [← h j (by simpa using hj)]; exact e⟩
  · rintro ⟨j, hj, e⟩; exact ⟨j, hj, by rw [h j (by simpa using hj)]; exact e⟩
/-- Sectors of a disk that is at rest, in which a log may stand. -/
structure Rest (M : Dk.Md) (a : Int) (n : Nat) : Prop where
  ok : M.Ok
  pos : 1 ≤ n
  at_ : 0 ≤ a ∧ a + n ≤ M.lasts.length
  on : M.off = false
  idle : ∀ i, M.W i = []
  good : bad n (lastly M a) = false
  up : Up (place n (lastly M a))
/-- A Log that says what lasts on its disk. -/
structure Fits (M : Dk.Md) (a : Int) (n : Nat) (L : Md) : Prop where
  rest : Rest M a n
  ep : 0 < L.ep ∧ L.ep < 18446744073709551616
  same : L = opened n (lastly M a) a L.ep
/-- An Add was broken off. -/
structure Torn (M : Dk.Md) (a : Int) (n : Nat) (L : Md) (t : List UInt8) : Prop where
  ok : M.Ok
  pos : 1 ≤ n
  at_ : 0 ≤ a ∧ a + n ≤ M.lasts.length
  off : M.off = true
  good : bad n (lastly M a) = false
  up : Up (place n (lastly M a))
  ep : 0 < L.ep ∧ L.ep < 18446744073709551616
  same : L = { opened n (lastly M a) a L.ep with broken := true }
  le : t.length ≤ 1024
  room : used (found L.ep (place n (lastly M a))) + parts 32 t ≤ n
  salt : L.salt + 1 < 18446744073709551616
  wait : ∀ i, M.W i = [] ∨ ∃ j, j < parts 32 t ∧ i = a.toNat + (used (found L.ep (place n (lastly M a))) + j) ∧ M.W i = [Dk.closed (body (nums L.ep (L.salt + 1) L.ahead) 32 t j)]
section
variable {M M' : Dk.Md} {a : Int} {n : Nat} {L : Md} {t : List UInt8}
theorem opened_ep (f : Nat → List UInt8) (ep : Nat) : (opened n f a ep).ep = ep := rfl
theorem opened_next (f : Nat → List UInt8) (ep : Nat) : (opened n f a ep).next = a + used (found ep (place n f)) := rfl
theorem opened_end (f : Nat → List UInt8) (ep : Nat) : (opened n f a ep).end_ = a + n := rfl
theorem opened_recs (f : Nat → List UInt8) (ep : Nat) : (opened n f a ep).recs = (found ep (place n f)).map (·.1) := rfl
theorem opened_ahead (f : Nat → List UInt8) (ep : Nat) : (opened n f a ep).ahead = last 0 (found ep (place n f)) := rfl
theorem opened_salt (f : Nat → List UInt8) (ep : Nat) : (opened n f a ep).salt = Pt.greatest 1 (place n f) := rfl
theorem Fits.next (h : Fits M a n L) : L.next = a + used (found L.ep (place n (lastly M a))) := by
  have := congrArg Md.next h.same
  rwa [opened_next] at this
theorem Fits.end_ (h : Fits M a n L) : L.end_ = a + n := by
  have := congrArg Md.end_ h.same
  rwa [opened_end] at this
theorem Fits.ahead (h : Fits M a n L) : L.ahead = last 0 (found L.ep (place n (lastly M a))) := by
  have := congrArg Md.ahead h.same
  rwa [opened_ahead] at this
theorem Fits.salt (h : Fits M a n L) : L.salt = Pt.greatest 1 (place n (lastly M a)) := by
  have := congrArg Md.salt h.same
  rwa [opened_salt] at this
theorem Fits.recs (h : Fits M a n L) : L.recs = (found L.ep (place n (lastly M a))).map (·.1) := by
  have := congrArg Md.recs h.same
  rwa [opened_recs] at this
theorem Fits.live (h : Fits M a n L) : L.broken = false := by rw [h.same]; rfl
theorem Fits.room (h : Fits M a n L) : a ≤ L.next ∧ L.next ≤ L.end_ := by
  have h1 := h.next
  have h2 := h.end_
  have h3 := used_found L.ep (place n (lastly M a))
  rw [place_length] at h3
  omega
theorem Torn.next (h : Torn M a n L t) : L.next = a + used (found L.ep (place n (lastly M a))) := by
  have := congrArg Md.next h.same
  simp only at this
  rwa [opened_next] at this
theorem Torn.ahead (h : Torn M a n L t) : L.ahead = last 0 (found L.ep (place n (lastly M a))) := by
  have := congrArg Md.ahead h.same
  simp only at this
  rwa [opened_ahead] at this
theorem Torn.great (h : Torn M a n L t) : L.salt = Pt.greatest 1 (place n (lastly M a)) := by
  have := congrArg Md.salt h.same
  simp only at this
  rwa [opened_salt] at this
theorem Torn.recs (h : Torn M a n L t) : L.recs = (found L.ep (place n (lastly M a))).map (·.1) := by
  have := congrArg Md.recs h.same
  simp only at this
  rwa [opened_recs] at this
/-- What is opened on sectors at rest. -/
theorem Rest.opens (h : Rest M a n) {ep : Nat} (hep : 0 < ep ∧ ep < 18446744073709551616) : Fits M a n (opened n (lastly M a) a ep) := ⟨h, hep, rfl⟩
theorem Rest.err (h : Rest M a n) {ep : Nat} (hep : 0 < ep) : openErr M a n ep = 0 := by
  have h1 := h.at_
  have h2 := h.pos
  rw [openErr, if_neg (by omega), h.on, Kp.sees_lastly h.idle, Int.toNat_natCast, h.good]; rfl
theorem Rest.waits (h : Rest M a n) : Dk.waits M = 0 := Dk.waits_empty _ (funext h.idle)
theorem mixed_of (h : Fits M a n L) (c : Nat → Bool) (h5 : ∀ i, i < M.lasts.length → Dk.last M' i = if L.next.toNat ≤ i ∧ i < L.next.toNat + parts 32 t ∧ c (i - L.next.toNat) = true then Dk.closed (body (nums L.ep (L.salt + 1) L.ahead) 32 t (i - L.next.toNat)) else Dk.last M i) :
    ∀ j, j < n → lastly M' a j = mixed (lastly M a) (used (found L.ep (place n (lastly M a)))) (nums L.ep (Pt.greatest 1 (place n (lastly M a)) + 1) (last 0 (found L.ep (place n (lastly M a))))) t c j := fun j hj => by
  have hat := h.rest.at_
  have h1 := h.next
  rw [lastly, h5 _ (by omega), mixed, ← h.salt, ← h.ahead, h1, show (a + (used (found L.ep (place n (lastly M a))) : Int)).toNat = a.toNat + used (found L.ep (place n (lastly M a))) by omega, show a.toNat + j - (a.toNat + used (found L.ep (place n (lastly M a)))) = j - used (found L.ep (place n (lastly M a))) by omega]
  by_cases hc : used (found L.ep (place n (lastly M a))) ≤ j ∧ j < used (found L.ep (place n (lastly M a))) + parts 32 t ∧ c (j - used (found L.ep (place n (lastly M a)))) = true
  · rw [if_pos ⟨by omega, by omega, hc.2.2⟩, if_pos hc]
  · rw [if_neg (fun q => hc ⟨by omega, by omega, q.2.2⟩), if_neg hc]; rfl
/-- What Add does to a Log that says what lasts. -/
theorem Fits.add (h : Fits M a n L) (t : List UInt8) (hs : L.salt + 1 < 18446744073709551616) :
    (1024 < t.length ∧ Lg.add L M t = (L, M, 3)) ∨
    (t.length ≤ 1024 ∧ L.end_ - L.next < parts 32 t ∧ Lg.add L M t = (L, M, 6)) ∨
    (t.length ≤ 1024 ∧ parts 32 t ≤ L.end_ - L.next ∧ ∃ M', Lg.add L M t = (added L t, M', 0) ∧ Fits M' a n (added L t) ∧ (M.fuse < 0 → M'.fuse = M.fuse) ∧ M'.lasts.length = M.lasts.length ∧
      ∀ i, i < M.lasts.length → Dk.last M' i = if L.next.toNat ≤ i ∧ i < L.next.toNat + parts 32 t then Dk.closed (body (nums L.ep (L.salt + 1) L.ahead) 32 t (i - L.next.toNat)) else Dk.last M i) ∨
    (t.length ≤ 1024 ∧ parts 32 t ≤ L.end_ - L.next ∧ 0 ≤ M.fuse ∧ ∃ M', Lg.add L M t = ({ L with broken := true }, M', 14) ∧ Torn M' a n { L with broken := true } t) := by
  by_cases h1 : 1024 < t.length
  · exact .inl ⟨h1, by rw [Lg.add, h.live, if_neg (by decide), if_pos h1]⟩
  right
  by_cases h2 : L.end_ - L.next < parts 32 t
  · exact .inl ⟨by omega, h2, by rw [Lg.add, h.live, if_neg (by decide), if_neg h1, if_pos (.inl h2)]⟩
  right
  have hle : t.length ≤ 1024 := by omega
  have hp : Lg.add L M t = if (save M L.next (lot L t)).2 = 0 then (added L t, (save M L.next (lot L t)).1, 0) else ({ L with broken := true }, (save M L.next (lot L t)).1, (save M L.next (lot L t)).2) := by
    rw [Lg.add, h.live, if_neg (by decide), if_neg h1, if_neg (by omega)]
  have hat := h.rest.at_
  have hn1 := h.next
  have he1 := h.end_
  have hlen := Kp.len_save M L.next (lot L t)
  have hok := Kp.save_ok (lot L t) M L.next h.rest.ok
  have hll := lot_length L t
  have hgd : ∀ j, j < parts 32 t → (lot L t).getD j [] = body (nums L.ep (L.salt + 1) L.ahead) 32 t j := fun j hj => Pt.bodies_getD hj
  have hroom : used (found L.ep (place n (lastly M a))) + parts 32 t ≤ n := by omega
  have hgr := h.salt
  rcases Kp.save_form (lot L t) M L.next h.rest.on h.rest.idle (lot_all L t) (by omega) (by rw [hll]; omega) with ⟨e0, e1, e2, e3, e4⟩ | ⟨e0, e1, e2, e3, e4⟩
  · left
    rw [if_pos e0] at hp
    have e5 : ∀ i, i < M.lasts.length → Dk.last (save M L.next (lot L t)).1 i = if L.next.toNat ≤ i ∧ i < L.next.toNat + parts 32 t then Dk.closed (body (nums L.ep (L.salt + 1) L.ahead) 32 t (i - L.next.toNat)) else Dk.last M i := fun i hi => by
      rw [e4 i hi, hll]
      by_cases hq : L.next.toNat ≤ i ∧ i < L.next.toNat + parts 32 t
      · rw [if_pos hq, if_pos hq, hgd _ (by omega)]
      · rw [if_neg hq, if_neg hq]
    have e6 := mixed_of (M' := (save M L.next (lot L t)).1) (t := t) h (fun _ => true) (fun i hi => by
      rw [e5 i hi]
      by_cases hq : L.next.toNat ≤ i ∧ i < L.next.toNat + parts 32 t
      · rw [if_pos hq, if_pos ⟨hq.1, hq.2, rfl⟩]
      · rw [if_neg hq, if_neg (fun q => hq ⟨q.1, q.2.1⟩)])
    refine ⟨hle, by omega, _, hp, ⟨⟨hok, h.rest.pos, by rw [hlen]; exact hat, e1, e2, ?_, ?_⟩, h.ep, ?_⟩, e3, hlen, e5⟩
    · rw [bad_congr e6]; exact mixed_bad rfl h.rest.good
    · rw [place_congr e6]; exact mixed_up h.rest.up (by rw [← hgr]; exact hs)
    · show added L t = opened n _ a L.ep
      rw [opened_congr e6, opened_new h.ep h.rest.up hle (by rw [← hgr]; exact hs) hroom (fun _ _ => rfl), ← h.same]
  · right
    rw [if_neg (by rw [e0]; decide), e0] at hp
    have e5 : lastly (save M L.next (lot L t)).1 a = lastly M a := by funext j; simp only [lastly, Dk.last, e3]
    refine ⟨hle, by omega, e1, _, hp, ⟨hok, h.rest.pos, by rw [hlen]; exact hat, e2, by rw [e5]; exact h.rest.good, by rw [e5]; exact h.rest.up, h.ep, ?_, hle, by rw [e5]; exact hroom, hs, fun i => ?_⟩⟩
    · show _ = { opened n (lastly _ a) a L.ep with broken := true }
      rw [e5, ← h.same]
    · rcases e4 i with e4 | ⟨j, hj, hi, e4⟩
      · exact .inl e4
      · right
        rw [hll] at hj
        refine ⟨j, hj, ?_, by rw [e4, hgd j hj]⟩
        show i = a.toNat + (used (found L.ep _) + j)
        rw [e5]
        omega
theorem Torn.add (h : Torn M a n L t) (t' : List UInt8) : Lg.add L M t' = (L, M, 11) := by
  rw [Lg.add, if_pos (by rw [h.same])]
theorem Rest.crash (h : Rest M a n) (keep : List Int) : Rest (Dk.crash M keep) a n ∧ ∀ j, j < n → lastly (Dk.crash M keep) a j = lastly M a j := by
  have hat := h.at_
  have e : ∀ j, j < n → lastly (Dk.crash M keep) a j = lastly M a j := fun j hj => by
    rw [lastly, Kp.last_crash (by omega), Dk.kept_idle (h.idle _)]; rfl
  exact ⟨⟨h.ok.crash keep, h.pos, by rw [Kp.len_crash]; exact hat, rfl, fun _ => rfl, by rw [bad_congr e]; exact h.good, by rw [place_congr e]; exact h.up⟩, e⟩
theorem Fits.crash (h : Fits M a n L) (keep : List Int) : Fits (Dk.crash M keep) a n L := by
  obtain ⟨h1, h2⟩ := h.rest.crash keep
  exact ⟨h1, h.ep, by rw [opened_congr h2]; exact h.same⟩
theorem Torn.crash (h : Torn M a n L t) (keep : List Int) :
    ∃ L', Fits (Dk.crash M keep) a n L' ∧ L'.ep = L.ep ∧ L'.salt ≤ L.salt + 1 ∧ (L'.recs = L.recs ∨ L'.recs = L.recs ++ [t]) := by
  have hat := h.at_
  have hr := h.room
  have k1 := h.next
  have k2 := h.great
  have k3 := h.ahead
  have k4 := h.recs
  have hs := h.salt
  obtain ⟨p, hp⟩ : ∃ p, p = used (found L.ep (place n (lastly M a))) := ⟨_, rfl⟩
  obtain ⟨c, hc⟩ : ∃ c : Nat → Bool, ∀ j, c j = decide (lastly (Dk.crash M keep) a (p + j) ≠ lastly M a (p + j)) := ⟨_, fun _ => rfl⟩
  have hw := h.wait
  rw [← hp] at hr hw
  have e : ∀ j, j < n → lastly (Dk.crash M keep) a j = mixed (lastly M a) p (nums L.ep (L.salt + 1) L.ahead) t c j := fun j hj => by
    have hk := Dk.kept_mem M keep (a.toNat + j)
    have hl : lastly (Dk.crash M keep) a j = Dk.kept M keep (a.toNat + j) := by rw [lastly, Kp.last_crash (by omega)]
    rw [mixed]
    by_cases hq : p ≤ j ∧ j < p + parts 32 t ∧ c (j - p) = true
    · rw [if_pos hq]
      have hd := hq.2.2
      rw [hc, show p + (j - p) = j by omega, decide_eq_true_eq] at hd
      rw [hl] at hd ⊢
      rcases hk with hk | hk
      · exact absurd hk hd
      · rcases hw (a.toNat + j) with hw | ⟨j', hj', e1, hw⟩
        · rw [hw] at hk; cases hk
        · rw [hw] at hk
          rw [List.mem_singleton.1 hk, show j' = j - p by omega]
    · rw [if_neg hq, hl]
      rcases hk with hk | hk
      · exact hk
      · rcases hw (a.toNat + j) with hw | ⟨j', hj', e1, hw⟩
        · rw [hw] at hk; cases hk
        · have hcn : c (j - p) ≠ true := fun hx => hq ⟨by omega, by omega, hx⟩
          rw [hc, show p + (j - p) = j by omega, Ne, decide_eq_true_eq] at hcn
          rw [← hl]
          exact Decidable.byContradiction hcn
  rw [hp, k2, k3] at e
  rw [hp] at hr
  have base : Fits (Dk.crash M keep) a n (opened n (lastly (Dk.crash M keep) a) a L.ep) :=
    ⟨⟨h.ok.crash keep, h.pos, by rw [Kp.len_crash]; exact hat, rfl, fun _ => rfl, by rw [bad_congr e]; exact mixed_bad rfl h.good, by rw [place_congr e]; exact mixed_up h.up (by rw [← k2]; exact hs)⟩, h.ep, rfl⟩
  rw [opened_congr e] at base
  by_cases hall : ∀ j, j < parts 32 t → c j = true
  · rw [opened_new h.ep h.up h.le (by rw [← k2]; exact hs) hr hall] at base
    refine ⟨_, base, rfl, ?_, .inr ?_⟩
    · show (opened n (lastly M a) a L.ep).salt + 1 ≤ _
      rw [opened_salt, ← k2]; exact Nat.le_refl _
    · show (opened n (lastly M a) a L.ep).recs ++ [t] = _
      rw [opened_recs, ← k4]
  · have hex : ∃ j, j < parts 32 t ∧ c j = false := by
      refine Classical.byContradiction fun hno => hall fun j hj => ?_
      cases hcj : c j
      · exact absurd ⟨j, hj, hcj⟩ hno
      · rfl
    obtain ⟨s, hs1, hs2⟩ := opened_old (a := a) h.ep h.le (by rw [← k2]; exact hs) hr hex
    rw [hs2] at base
    refine ⟨_, base, rfl, by rw [k2]; exact hs1, .inl ?_⟩
    show (opened n (lastly M a) a L.ep).recs = _
    rw [opened_recs, ← k4]
end
/-- The sectors of an empty disk are at rest, and nothing stands in them. -/
theorem rest_new {N : Nat} (hN : 1 ≤ N ∧ N ≤ 4096) {a : Int} {n : Nat} (hn : 1 ≤ n) (ha : 0 ≤ a ∧ a + n ≤ (N : Int)) :
    Rest (Dk.new N) a n ∧ ∀ ep, 0 < ep → opened n (lastly (Dk.new N) a) a ep = ⟨ep, a, a + n, [], 0, 0, false⟩ := by
  have e : ∀ j, j < n → lastly (Dk.new N) a j = Dk.blank := fun j hj => by
    rw [lastly, Dk.last, Dk.new, List.getD_eq_getElem?_getD, List.getElem?_replicate, if_pos (by omega)]; rfl
  have hl : lookOf Dk.blank = ([], 0) := by unfold lookOf; exact if_pos rfl
  have hp : place n (lastly (Dk.new N) a) = List.replicate n [] := by
    rw [place_congr (g := fun _ => Dk.blank) e, place, hl, List.map_const', List.length_range]
  have hmem : ∀ b ∈ List.replicate n ([] : List UInt8), b = [] := fun b hb => (List.mem_replicate.1 hb).2
  refine ⟨⟨Dk.Md.Ok.new hN, hn, by simpa [Dk.new] using ha, rfl, fun _ => rfl, ?_, ?_⟩, fun ep hep => ?_⟩
  · rw [bad_congr e, bad, List.any_eq_false]
    intro j _
    rw [hl]; decide
  · rw [hp]
    intro b hb hne
    exact absurd (hmem b hb) hne
  · have hf : found ep (List.replicate n []) = [] := by
      unfold found
      rw [List.length_replicate]
      cases n with
      | zero => rfl
      | succ n =>
        have : first ep 0 (List.replicate (n + 1) []) = none := by
          unfold first
          rw [if_neg]
          rintro ⟨h1, _⟩
          have : (List.replicate (n + 1) ([] : List UInt8)).getD 0 [] = [] := rfl
          rw [this, Pt.number_nil] at h1
          omega
        rw [find, this]
    have hg : Pt.greatest 1 (List.replicate n []) = 0 := Nat.le_antisymm (Pt.greatest_le fun b hb => by rw [hmem b hb, Pt.number_nil]; exact Nat.le_refl _) (Nat.zero_le _)
    rw [opened, hp, hf, hg]
    simp [used, last]
end Lg
end Go.Proofs.YtnmagfodjcookaaGreat
