/-
  The math of parts: a text cut into parts, each behind numbers; the text that the first bodies hold.
-/
import Derived.Test.YtnmagfodjcookaaGreatKpMath
namespace Go.Proofs.YtnmagfodjcookaaGreat
namespace Pt
open Kp (eight eight_length num_eight num_lt)
def parts (n : Nat) (t : List UInt8) : Nat := max 1 ((t.length + n - 1) / n)
def part (n : Nat) (t : List UInt8) (i : Nat) : List UInt8 := (t.drop (n * i)).take n
def head (hs : List Nat) : List UInt8 := hs.flatMap eight
def tail (n : Nat) (t : List UInt8) (i : Nat) : List UInt8 := [UInt8.ofNat i, UInt8.ofNat (parts n t), UInt8.ofNat (part n t i).length, 0] ++ (part n t i ++ List.replicate (n - (part n t i).length) 0)
def body (hs : List Nat) (n : Nat) (t : List UInt8) (i : Nat) : List UInt8 := head hs ++ tail n t i
def bodies (hs : List Nat) (n : Nat) (t : List UInt8) : List (List UInt8) := (List.range (parts n t)).map (body hs n t)
theorem head_length (hs : List Nat) : (head hs).length = 8 * hs.length := by
  induction hs with
  | nil => rfl
  | cons a l ih =>
    have : head (a :: l) = eight a ++ head l := rfl
    rw [this, List.length_append, eight_length, ih, List.length_cons]
    omega
theorem parts_pos (n : Nat) (t : List UInt8) : 1 ≤ parts n t := by unfold parts; omega
theorem len_le {n : Nat} (hn : 0 < n) (t : List UInt8) : t.length ≤ n * parts n t := by
  have h1 := Nat.div_add_mod (t.length + n - 1) n
  have h2 := Nat.mod_lt (t.length + n - 1) hn
  have h3 : n * ((t.length + n - 1) / n) ≤ n * parts n t := Nat.mul_le_mul_left n (by unfold parts; omega)
  omega
theorem parts_le {n m : Nat} (hn : 0 < n) {t : List UInt8} (h : t.length ≤ n * m) (hm : 1 ≤ m) : parts n t ≤ m := by
  have h1 : (t.length + n - 1) / n < m + 1 := Nat.div_lt_of_lt_mul (by rw [Nat.mul_add, Nat.mul_one]; omega)
  unfold parts
  omega
theorem lt_parts {n i : Nat} (hn : 0 < n) {t : List UInt8} (h : i < parts n t) : i = 0 ∨ n * i < t.length := by
  by_cases h0 : i = 0
  · exact .inl h0
  · right
    have h1 : i + 1 ≤ (t.length + n - 1) / n := by unfold parts at h; omega
    have h2 : n * (i + 1) ≤ n * ((t.length + n - 1) / n) := Nat.mul_le_mul_left n h1
    have h3 := Nat.mul_div_le (t.length + n - 1) n
    rw [Nat.mul_add, Nat.mul_one] at h2
    omega
theorem at_parts {n i : Nat} (hn : 0 < n) {t : List UInt8} (h : i < parts n t) : n * i ≤ t.length := by
  rcases lt_parts hn h with rfl | h
  · simp
  · omega
theorem part_le (n : Nat) (t : List UInt8) (i : Nat) : (part n t i).length ≤ n := by unfold part; rw [List.length_take]; omega
theorem tail_length (n : Nat) (t : List UInt8) (i : Nat) : (tail n t i).length = 4 + n := by
  have := part_le n t i
  simp only [tail, List.length_append, List.length_cons, List.length_nil, List.length_replicate]
  omega
theorem body_length {hs : List Nat} {n : Nat} (h : 8 * hs.length + n = 56) (t : List UInt8) (i : Nat) : (body hs n t i).length = 60 := by
  rw [body, List.length_append, head_length, tail_length]; omega
theorem body_ne (hs : List Nat) (n : Nat) (t : List UInt8) (i : Nat) : body hs n t i ≠ [] := by
  intro h
  have h1 := congrArg List.length h
  rw [body, List.length_append, tail_length] at h1
  simp at h1
theorem bodies_length (hs : List Nat) (n : Nat) (t : List UInt8) : (bodies hs n t).length = parts n t := by simp [bodies]
theorem bodies_get {hs : List Nat} {n : Nat} {t : List UInt8} {i : Nat} (h : i < parts n t) : (bodies hs n t)[i]? = some (body hs n t i) := by simp [bodies, h]
theorem bodies_getD {hs : List Nat} {n : Nat} {t : List UInt8} {i : Nat} (h : i < parts n t) : (bodies hs n t).getD i [] = body hs n t i := by
  rw [List.getD_eq_getElem?_getD, bodies_get h]; rfl
theorem bodies_take {hs : List Nat} {n : Nat} {t : List UInt8} {k : Nat} (h : k < parts n t) : (bodies hs n t).take (k + 1) = (bodies hs n t).take k ++ [body hs n t k] := by
  rw [List.take_succ_eq_append_getElem (by rw [bodies_length]; exact h)]
  simp [bodies]
theorem bodies_all {hs : List Nat} {n : Nat} (h : 8 * hs.length + n = 56) (t : List UInt8) : ∀ b ∈ bodies hs n t, b.length = 60 := by
  intro b hb
  simp only [bodies, List.mem_map] at hb
  obtain ⟨i, _, rfl⟩ := hb
  exact body_length h _ _
theorem parts_all {n : Nat} (hn : 0 < n) (t : List UInt8) : (List.range (parts n t)).flatMap (part n t) = t := by
  have go : ∀ k, (List.range k).flatMap (part n t) = t.take (n * k) := by
    intro k
    induction k with
    | zero => simp
    | succ k ih =>
      rw [List.range_succ, List.flatMap_append, ih, List.flatMap_cons, List.flatMap_nil, List.append_nil, part, Nat.mul_add, Nat.mul_one, List.take_add]
  rw [go, List.take_of_length_le (len_le hn t)]
/-- The k-th number that a body begins with; 0, if there is no body. -/
def number (k : Nat) (b : List UInt8) : Nat := Dk.num ((b.drop (8 * k)).take 8)
theorem number_nil (k : Nat) : number k [] = 0 := by simp [number, Dk.num]
theorem number_lt (k : Nat) (b : List UInt8) : number k b < 18446744073709551616 := by
  have h := num_lt ((b.drop (8 * k)).take 8)
  have h2 : 256 ^ ((b.drop (8 * k)).take 8).length ≤ 256 ^ 8 := Nat.pow_le_pow_right (by decide) (by rw [List.length_take]; omega)
  unfold number
  exact Nat.lt_of_lt_of_le h h2
theorem head_at : ∀ (hs : List Nat) (k : Nat) (hk : k < hs.length) (r : List UInt8), ((head hs ++ r).drop (8 * k)).take 8 = eight hs[k]
  | [], k, hk, r => by simp at hk
  | a :: l, 0, hk, r => by
    have : head (a :: l) = eight a ++ head l := rfl
    rw [this, Nat.mul_zero, List.drop_zero, List.append_assoc, List.take_left' (eight_length a)]
    rfl
  | a :: l, k + 1, hk, r => by
    have e : head (a :: l) = eight a ++ head l := rfl
    have h8 := eight_length a
    rw [e, List.append_assoc, show 8 * (k + 1) = 8 + 8 * k by omega, ← List.drop_drop, List.drop_left' h8, head_at l k (by simpa using hk) r]
    rfl
theorem number_body {hs : List Nat} {n k : Nat} (hk : k < hs.length) (h : hs[k] < 18446744073709551616) (t : List UInt8) (i : Nat) : number k (body hs n t i) = hs[k] := by
  rw [number, body, head_at hs k hk, num_eight h]
def heads (k : Nat) (b : List UInt8) : List Nat := (List.range k).map fun j => number j b
theorem heads_length (k : Nat) (b : List UInt8) : (heads k b).length = k := by simp [heads]
theorem heads_lt (k : Nat) (b : List UInt8) : ∀ h ∈ heads k b, h < 18446744073709551616 := by
  intro h hh
  simp only [heads, List.mem_map] at hh
  obtain ⟨j, _, rfl⟩ := hh
  exact number_lt j b
theorem heads_body {hs : List Nat} {n : Nat} (h : ∀ x ∈ hs, x < 18446744073709551616) (t : List UInt8) (i : Nat) : heads hs.length (body hs n t i) = hs := by
  refine List.ext_getElem (by simp [heads]) fun j h1 h2 => ?_
  simp only [heads, List.getElem_map, List.getElem_range]
  exact number_body h2 (h _ (List.getElem_mem h2)) t i
def count (k : Nat) (b : List UInt8) : Nat := (b.getD (8 * k + 1) 0).toNat
def len (k : Nat) (b : List UInt8) : Nat := (b.getD (8 * k + 2) 0).toNat
def piece (k n : Nat) (b : List UInt8) : List UInt8 := (b.drop (8 * k + 4)).take (min (len k b) n)
theorem body_at (hs : List Nat) (n : Nat) (t : List UInt8) (i j : Nat) : (body hs n t i)[8 * hs.length + j]? = (tail n t i)[j]? := by
  rw [body, ← head_length hs, List.getElem?_append_right (by omega), Nat.add_sub_cancel_left]
theorem count_body {hs : List Nat} {n : Nat} {t : List UInt8} (i : Nat) (h : parts n t ≤ 255) : count hs.length (body hs n t i) = parts n t := by
  rw [count, List.getD_eq_getElem?_getD, body_at, tail]
  simp
  omega
theorem len_body {hs : List Nat} {n : Nat} (t : List UInt8) (i : Nat) (h : n ≤ 255) : len hs.length (body hs n t i) = (part n t i).length := by
  have := part_le n t i
  rw [len, List.getD_eq_getElem?_getD, body_at, tail]
  simp
  omega
theorem piece_body {hs : List Nat} {n : Nat} (t : List UInt8) (i : Nat) (h : n ≤ 255) : piece hs.length n (body hs n t i) = part n t i := by
  have := part_le n t i
  rw [piece, len_body t i h, Nat.min_eq_left this, body, ← List.drop_drop, List.drop_left' (head_length hs), tail, List.drop_left' (show [UInt8.ofNat i, UInt8.ofNat (parts n t), UInt8.ofNat (part n t i).length, 0].length = 4 from rfl), List.take_left' rfl]
theorem piece_le (k n : Nat) (b : List UInt8) : (piece k n b).length ≤ n := by unfold piece; rw [List.length_take]; omega
/-- What the parts in the first bodies come to. -/
def joined (k n : Nat) (S : List (List UInt8)) : List UInt8 :=
  if [] ∈ S.take (count k (S.getD 0 [])) then [] else (S.take (count k (S.getD 0 []))).flatMap (piece k n)
/-- The text that the first bodies hold. -/
def text (k n most : Nat) (S : List (List UInt8)) : Option (List UInt8) :=
  if S.getD 0 [] = [] then none else if most < (joined k n S).length then none
  else if bodies (heads k (S.getD 0 [])) n (joined k n S) = S.take (parts n (joined k n S)) then some (joined k n S) else none
theorem pieces_le (k n : Nat) : ∀ (l : List (List UInt8)), (l.flatMap (piece k n)).length ≤ n * l.length
  | [] => by simp
  | b :: l => by
    have := pieces_le k n l
    have := piece_le k n b
    rw [List.flatMap_cons, List.length_append, List.length_cons, Nat.mul_add, Nat.mul_one]
    omega
theorem joined_le (k n : Nat) (S : List (List UInt8)) : (joined k n S).length ≤ n * S.length := by
  unfold joined
  split
  · simp
  · have h1 := pieces_le k n (S.take (count k (S.getD 0 [])))
    exact Nat.le_trans h1 (Nat.mul_le_mul_left n (by rw [List.length_take]; omega))
theorem joined_le255 (k n : Nat) (S : List (List UInt8)) : (joined k n S).length ≤ n * 255 := by
  unfold joined
  split
  · simp
  · have h1 := pieces_le k n (S.take (count k (S.getD 0 [])))
    have h3 : count k (S.getD 0 []) ≤ 255 := by have := ((S.getD 0 []).getD (8 * k + 1) 0).toNat_lt; unfold count; omega
    exact Nat.le_trans h1 (Nat.mul_le_mul_left n (by rw [List.length_take]; omega))
/-- The first bodies are a text's. -/
structure Holds (hs : List Nat) (n : Nat) (t : List UInt8) (S : List (List UInt8)) : Prop where
  same : S.take (parts n t) = bodies hs n t
section
variable {hs : List Nat} {n : Nat} {t : List UInt8} {S : List (List UInt8)}
theorem Holds.get (h : Holds hs n t S) {i : Nat} (hi : i < parts n t) : S[i]? = some (body hs n t i) := by
  have e := congrArg (fun l => l[i]?) h.same
  simpa [List.getElem?_take, bodies_get hi, hi] using e
theorem Holds.first (h : Holds hs n t S) : S.getD 0 [] = body hs n t 0 := by
  have hp := parts_pos n t
  rw [List.getD_eq_getElem?_getD, h.get (by omega)]; rfl
theorem Holds.len (h : Holds hs n t S) : parts n t ≤ S.length := by
  have e := congrArg List.length h.same
  rw [List.length_take, bodies_length] at e
  omega
theorem Holds.joined (h : Holds hs n t S) (hn : 0 < n) (hn2 : n ≤ 255) (hp : parts n t ≤ 255) : Pt.joined hs.length n S = t := by
  rw [Pt.joined, h.first, count_body 0 hp, h.same, if_neg]
  · rw [bodies, List.flatMap_map]
    conv => rhs; rw [← parts_all hn t]
    congr 1
    funext i
    exact piece_body t i hn2
  · intro hm
    rw [bodies, List.mem_map] at hm
    obtain ⟨i, _, e⟩ := hm
    exact body_ne hs n t i e
theorem Holds.text (h : Holds hs n t S) {most : Nat} (hh : ∀ x ∈ hs, x < 18446744073709551616) (hn : 0 < n) (hn2 : n ≤ 255) (hp : parts n t ≤ 255) (hm : t.length ≤ most) : Pt.text hs.length n most S = some t := by
  have hf := h.first
  rw [Pt.text, h.joined hn hn2 hp, hf, if_neg (body_ne _ _ _ _), if_neg (by omega), heads_body hh, if_pos h.same.symm]
end
theorem holds_text {k n most : Nat} {S : List (List UInt8)} {t : List UInt8} (h : text k n most S = some t) : Holds (heads k (S.getD 0 [])) n t S ∧ t.length ≤ most ∧ S.getD 0 [] ≠ [] := by
  unfold text at h
  split at h
  · cases h
  · rename_i h0
    split at h
    · cases h
    · rename_i h1
      split at h
      · rename_i h2
        injection h with h
        subst h
        exact ⟨⟨h2.symm⟩, by omega, h0⟩
      · cases h
/-- Old bodies and new ones, mixed. -/
def mix (S : List (List UInt8)) (hs : List Nat) (n : Nat) (t : List UInt8) (c : Nat → Bool) : List (List UInt8) := (List.range S.length).map fun j => if c j = true ∧ j < parts n t then body hs n t j else S.getD j []
section
variable {S : List (List UInt8)} {hs : List Nat} {n : Nat} {t : List UInt8} {c : Nat → Bool}
theorem mix_length : (mix S hs n t c).length = S.length := by simp [mix]
theorem mix_get {j : Nat} (h : j < S.length) : (mix S hs n t c)[j]? = some (if c j = true ∧ j < parts n t then body hs n t j else S.getD j []) := by simp [mix, h]
theorem mix_getD {j : Nat} (h : j < S.length) : (mix S hs n t c).getD j [] = if c j = true ∧ j < parts n t then body hs n t j else S.getD j [] := by
  rw [List.getD_eq_getElem?_getD, mix_get h]; rfl
/-- All of the new ones are there. -/
theorem mix_all (hS : parts n t ≤ S.length) (hc : ∀ j, j < parts n t → c j = true) : mix S hs n t c = bodies hs n t ++ S.drop (parts n t) := by
  refine List.ext_getElem? fun j => ?_
  by_cases hj : j < S.length
  · rw [mix_get hj, List.getElem?_append, bodies_length]
    by_cases hp : j < parts n t
    · rw [if_pos hp, if_pos ⟨hc j hp, hp⟩, bodies_get hp]
    · rw [if_neg hp, if_neg (fun h => hp h.2), List.getElem?_drop, show parts n t + (j - parts n t) = j by omega, List.getD_eq_getElem?_getD, List.getElem?_eq_getElem hj]
      rfl
  · rw [List.getElem?_eq_none (by rw [mix_length]; omega), List.getElem?_eq_none (by rw [List.length_append, bodies_length, List.length_drop]; omega)]
/-- Not all of the new ones are there: what is held is what was held, or nothing is. -/
theorem mix_old {j : Nat} (hj : j < hs.length) (hS : parts n t ≤ S.length) (hp : parts n t ≤ 255) (hg : hs[j] < 18446744073709551616) (hS2 : ∀ b ∈ S, number j b < hs[j]) (hc : ∃ i, i < parts n t ∧ c i = false)
    {hs' : List Nat} {t' : List UInt8} (hl : hs'.length = hs.length) (hh : ∀ x ∈ hs', x < 18446744073709551616) (hp' : parts n t' ≤ 255) (h : Holds hs' n t' (mix S hs n t c)) : Holds hs' n t' S := by
  have hpos := parts_pos n t
  have hpos' := parts_pos n t'
  have hlen := h.len
  rw [mix_length] at hlen
  obtain ⟨g, hgd⟩ : ∃ g, g = hs[j] := ⟨_, rfl⟩
  obtain ⟨g', hgd'⟩ : ∃ g, g = hs'[j]'(by omega) := ⟨_, rfl⟩
  have hold : ∀ i, i < S.length → number j (S.getD i []) < g := fun i hi => by
    rw [hgd]
    refine hS2 _ ?_
    rw [List.getD_eq_getElem?_getD, List.getElem?_eq_getElem hi]
    exact List.getElem_mem _
  have hat : ∀ i, i < parts n t' → body hs' n t' i = if c i = true ∧ i < parts n t then body hs n t i else S.getD i [] := fun i hi => by
    have := h.get hi
    rw [mix_get (by omega)] at this
    exact (Option.some.inj this).symm
  have hgj : ∀ i, i < parts n t' → g' = if c i = true ∧ i < parts n t then g else number j (S.getD i []) := fun i hi => by
    have e := congrArg (number j) (hat i hi)
    rw [number_body (by omega) (hh _ (List.getElem_mem _)), ← hgd'] at e
    rw [e]
    split
    · rw [number_body hj hg, hgd]
    · rfl
  have h0 := hat 0 (by omega)
  have g0 := hgj 0 (by omega)
  by_cases c0 : c 0 = true
  · exfalso
    rw [if_pos ⟨c0, by omega⟩] at h0 g0
    have e1 := count_body (hs := hs') (t := t') 0 hp'
    rw [h0, hl, count_body 0 hp] at e1
    obtain ⟨i, hi, hci⟩ := hc
    have h1 := hgj i (by omega)
    rw [if_neg (by rw [hci]; simp)] at h1
    have := hold i (by omega)
    omega
  · rw [if_neg (fun h => c0 h.1)] at g0
    have hlt := hold 0 (by omega)
    refine ⟨List.ext_getElem? fun i => ?_⟩
    rw [List.getElem?_take]
    by_cases hi : i < parts n t'
    · have hn : ¬ (c i = true ∧ i < parts n t) := fun h => by
        have := hgj i hi
        rw [if_pos h] at this
        omega
      have := hat i hi
      rw [if_neg hn] at this
      rw [if_pos hi, bodies_get hi, this, List.getD_eq_getElem?_getD, List.getElem?_eq_getElem (by omega)]
      rfl
    · rw [if_neg hi, List.getElem?_eq_none (by rw [bodies_length]; omega)]
end
def greatest (k : Nat) (S : List (List UInt8)) : Nat := S.foldl (fun g b => max g (number k b)) 0
theorem great_from (k : Nat) : ∀ (l : List (List UInt8)) (m : Nat), m ≤ l.foldl (fun g b => max g (number k b)) m ∧ (∀ b ∈ l, number k b ≤ l.foldl (fun g b => max g (number k b)) m) ∧ (∀ c, m ≤ c → (∀ b ∈ l, number k b ≤ c) → l.foldl (fun g b => max g (number k b)) m ≤ c)
  | [], m => ⟨Nat.le_refl _, fun _ h => by simp at h, fun c h _ => h⟩
  | a :: l, m => by
    obtain ⟨h1, h2, h3⟩ := great_from k l (max m (number k a))
    refine ⟨by rw [List.foldl_cons]; omega, fun b hb => ?_, fun c hc hl => ?_⟩
    · rw [List.foldl_cons]
      rcases List.mem_cons.1 hb with rfl | hb
      · omega
      · exact h2 b hb
    · rw [List.foldl_cons]
      exact h3 c (by have := hl a (by simp); omega) fun b hb => hl b (by simp [hb])
theorem le_greatest {k : Nat} {S : List (List UInt8)} {b : List UInt8} (h : b ∈ S) : number k b ≤ greatest k S := (great_from k S 0).2.1 b h
theorem greatest_le {k : Nat} {S : List (List UInt8)} {c : Nat} (h : ∀ b ∈ S, number k b ≤ c) : greatest k S ≤ c := (great_from k S 0).2.2 c (Nat.zero_le _) h
theorem greatest_lt (k : Nat) (S : List (List UInt8)) : greatest k S < 18446744073709551616 := by
  have := greatest_le (k := k) (S := S) (c := 18446744073709551615) fun b _ => by have := number_lt k b; omega
  omega
theorem great_take {k : Nat} {l : List (List UInt8)} {i : Nat} (h : i < l.length) : greatest k (l.take (i + 1)) = max (greatest k (l.take i)) (number k (l.getD i [])) := by
  rw [List.take_succ_eq_append_getElem h, greatest, List.foldl_append, List.getD_eq_getElem?_getD, List.getElem?_eq_getElem h]
  rfl
/-! Kept's own words are these, with one number. -/
theorem kp_parts (t : List UInt8) : Kp.parts t = parts 48 t := rfl
theorem kp_part (t : List UInt8) (i : Nat) : Kp.part t i = part 48 t i := rfl
theorem kp_body (t : List UInt8) (g i : Nat) : Kp.body t g i = body [g] 48 t i := by
  simp only [Kp.body, body, head, tail, List.flatMap_cons, List.flatMap_nil, List.append_nil]
  rfl
theorem kp_bodies (t : List UInt8) (g : Nat) : Kp.bodies t g = bodies [g] 48 t := by
  unfold Kp.bodies bodies
  exact List.map_congr_left fun i _ => kp_body t g i
theorem kp_gen (b : List UInt8) : Kp.gen b = number 0 b := rfl
theorem kp_greatest (l : List (List UInt8)) : Kp.greatest l = greatest 0 l := rfl
theorem kp_joined (S : List (List UInt8)) : Kp.joined S = joined 1 48 S := rfl
theorem kp_held (S : List (List UInt8)) : Kp.held S = if Kp.gen (S.getD 0 []) = 0 then ([], 0) else match text 1 48 400 S with
    | some t => (t, Kp.gen (S.getD 0 []))
    | none => ([], 0) := by
  unfold Kp.held text
  by_cases h0 : Kp.gen (S.getD 0 []) = 0
  · rw [if_pos h0, if_pos h0]
  · rw [if_neg h0, if_neg h0]
    have hne : S.getD 0 [] ≠ [] := fun e => h0 (by rw [e]; rfl)
    rw [if_neg hne, kp_joined]
    by_cases h1 : 400 < (joined 1 48 S).length
    · rw [if_pos h1, if_pos h1]
    · rw [if_neg h1, if_neg h1, kp_bodies, kp_parts]
      have : heads 1 (S.getD 0 []) = [Kp.gen (S.getD 0 [])] := rfl
      rw [this]
      by_cases h2 : bodies [Kp.gen (S.getD 0 [])] 48 (joined 1 48 S) = S.take (parts 48 (joined 1 48 S))
      · rw [if_pos h2, if_pos h2]
      · rw [if_neg h2, if_neg h2]
end Pt
end Go.Proofs.YtnmagfodjcookaaGreat
