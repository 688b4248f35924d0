/-
  The math of kept: a record's parts and their bodies, what a slot holds, what a place keeps.
-/
import Derived.Test.YtnmagfodjcookaaGreatDkOne
import Derived.Test.YtnmagfodjcookaaGreatDkSumMath
namespace Go.Proofs.YtnmagfodjcookaaGreat
namespace Kp
/-- A number's first n bytes, the lowest first. -/
def low (n g : Nat) : List UInt8 := (List.range n).map fun i => UInt8.ofNat (g / 256 ^ i % 256)
theorem low_length (n g : Nat) : (low n g).length = n := by simp [low]
theorem low_succ (n g : Nat) : low (n + 1) g = UInt8.ofNat (g % 256) :: low n (g / 256) := by
  unfold low
  rw [List.range_succ_eq_map, List.map_cons, List.map_map, Nat.pow_zero, Nat.div_one]
  congr 1
  refine List.map_congr_left fun i _ => ?_
  simp only [Function.comp]
  rw [Nat.div_div_eq_div_mul, Nat.pow_succ, Nat.mul_comm 256]
theorem num_low : ∀ (n g : Nat), Dk.num (low n g) = g % 256 ^ n
  | 0, g => by simp [low, Dk.num, Nat.mod_one]
  | n + 1, g => by
    rw [low_succ, Dk.num_cons, num_low n, UInt8.toNat_ofNat', show 256 ^ (n + 1) = 256 * 256 ^ n by rw [Nat.pow_succ, Nat.mul_comm], Nat.mod_mul]
    omega
def eight (g : Nat) : List UInt8 := low 8 g
theorem eight_length (g : Nat) : (eight g).length = 8 := low_length 8 g
theorem num_eight {g : Nat} (h : g < 18446744073709551616) : Dk.num (eight g) = g := by
  rw [eight, num_low]
  exact Nat.mod_eq_of_lt h
def parts (t : List UInt8) : Nat := max 1 ((t.length + 47) / 48)
def part (t : List UInt8) (i : Nat) : List UInt8 := (t.drop (48 * i)).take 48
def body (t : List UInt8) (g i : Nat) : List UInt8 := eight g ++ ([UInt8.ofNat i, UInt8.ofNat (parts t), UInt8.ofNat (part t i).length, 0] ++ (part t i ++ List.replicate (48 - (part t i).length) 0))
def bodies (t : List UInt8) (g : Nat) : List (List UInt8) := (List.range (parts t)).map (body t g)
theorem parts_pos (t : List UInt8) : 1 ≤ parts t := by unfold parts; omega
theorem parts_le {t : List UInt8} (h : t.length ≤ 400) : parts t ≤ 9 := by unfold parts; omega
theorem part_le (t : List UInt8) (i : Nat) : (part t i).length ≤ 48 := by unfold part; rw [List.length_take]; omega
theorem body_length (t : List UInt8) (g i : Nat) : (body t g i).length = 60 := by
  have := part_le t i
  simp only [body, List.length_append, eight_length, List.length_cons, List.length_nil, List.length_replicate]
  omega
theorem bodies_length (t : List UInt8) (g : Nat) : (bodies t g).length = parts t := by simp [bodies]
theorem bodies_get {t : List UInt8} {g i : Nat} (h : i < parts t) : (bodies t g)[i]? = some (body t g i) := by simp [bodies, h]
theorem body_ne (t : List UInt8) (g i : Nat) : body t g i ≠ [] := by
  intro h
  have := body_length t g i
  rw [h] at this
  simp at this
/-- The generation in a body; 0, if there is none. -/
def gen (b : List UInt8) : Nat := Dk.num (b.take 8)
theorem gen_nil : gen [] = 0 := rfl
theorem gen_body {t : List UInt8} {g i : Nat} (h : g < 18446744073709551616) : gen (body t g i) = g := by
  rw [gen, body, List.take_left' (eight_length g), num_eight h]
theorem body_drop (t : List UInt8) (g i : Nat) : (body t g i).drop 8 = [UInt8.ofNat i, UInt8.ofNat (parts t), UInt8.ofNat (part t i).length, 0] ++ (part t i ++ List.replicate (48 - (part t i).length) 0) := by
  rw [body, List.drop_left' (eight_length g)]
theorem body_at (t : List UInt8) (g i j : Nat) : (body t g i)[8 + j]? = ([UInt8.ofNat i, UInt8.ofNat (parts t), UInt8.ofNat (part t i).length, 0] ++ (part t i ++ List.replicate (48 - (part t i).length) 0))[j]? := by
  rw [← body_drop t g i, List.getElem?_drop]
theorem body_count {t : List UInt8} (g i : Nat) (h : parts t ≤ 255) : ((body t g i).getD 9 0).toNat = parts t := by
  rw [List.getD_eq_getElem?_getD, show 9 = 8 + 1 from rfl, body_at]
  simp
  omega
theorem body_len (t : List UInt8) (g i : Nat) : ((body t g i).getD 10 0).toNat = (part t i).length := by
  have := part_le t i
  rw [List.getD_eq_getElem?_getD, show 10 = 8 + 2 from rfl, body_at]
  simp
  omega
theorem body_text (t : List UInt8) (g i : Nat) : ((body t g i).drop 12).take (part t i).length = part t i := by
  rw [show 12 = 8 + 4 from rfl, ← List.drop_drop, body_drop, List.drop_left' (show [UInt8.ofNat i, UInt8.ofNat (parts t), UInt8.ofNat (part t i).length, 0].length = 4 from rfl), List.take_left' rfl]
def piece (b : List UInt8) : List UInt8 := (b.drop 12).take (min (b.getD 10 0).toNat 48)
theorem piece_body (t : List UInt8) (g i : Nat) : piece (body t g i) = part t i := by
  have := part_le t i
  rw [piece, body_len, Nat.min_eq_left this, body_text]
theorem parts_all (t : List UInt8) : (List.range (parts t)).flatMap (part t) = t := by
  have go : ∀ n, (List.range n).flatMap (part t) = t.take (48 * n) := by
    intro n
    induction n with
    | zero => simp
    | succ n ih => 
      rw [List.range_succ, List.flatMap_append, ih, List.flatMap_cons, List.flatMap_nil, List.append_nil, part, show 48 * (n + 1) = 48 * n + 48 by omega, List.take_add]
  rw [go, List.take_of_length_le]
  unfold parts
  omega
/-- What the parts in a slot come to. -/
def joined (slot : List (List UInt8)) : List UInt8 :=
  if [] ∈ slot.take ((slot.getD 0 []).getD 9 0).toNat then [] else (slot.take ((slot.getD 0 []).getD 9 0).toNat).flatMap piece
def held (slot : List (List UInt8)) : List UInt8 × Nat :=
  if gen (slot.getD 0 []) = 0 then ([], 0) else if 400 < (joined slot).length then ([], 0)
  else if bodies (joined slot) (gen (slot.getD 0 [])) = slot.take (parts (joined slot)) then (joined slot, gen (slot.getD 0 [])) else ([], 0)
/-- A slot holds a record of a generation. -/
structure Holds (slot : List (List UInt8)) (t : List UInt8) (g : Nat) : Prop where
  pos : g ≠ 0
  le : t.length ≤ 400
  same : slot.take (parts t) = bodies t g
theorem Holds.first {slot : List (List UInt8)} {t : List UInt8} {g : Nat} (h : Holds slot t g) : slot.getD 0 [] = body t g 0 := by
  have hp := parts_pos t
  have e := congrArg (fun l => l[0]?) h.same
  simp only [List.getElem?_take, bodies_get (show 0 < parts t by omega)] at e
  rw [if_pos (by omega)] at e
  rw [List.getD_eq_getElem?_getD, e]
  rfl
theorem Holds.get {slot : List (List UInt8)} {t : List UInt8} {g i : Nat} (h : Holds slot t g) (hi : i < parts t) : slot[i]? = some (body t g i) := by
  have e := congrArg (fun l => l[i]?) h.same
  simpa [List.getElem?_take, bodies_get hi, hi] using e
theorem Holds.joined {slot : List (List UInt8)} {t : List UInt8} {g : Nat} (h : Holds slot t g) : joined slot = t := by
  have hc : ((slot.getD 0 []).getD 9 0).toNat = parts t := by
    rw [h.first, body_count]
    have := parts_le h.le
    omega
  rw [Kp.joined, hc, h.same, if_neg]
  · rw [bodies, List.flatMap_map]
    conv => rhs; rw [← parts_all t]
    congr 1
    funext i
    exact piece_body t g i
  · intro hm
    rw [bodies, List.mem_map] at hm
    obtain ⟨i, _, e⟩ := hm
    exact body_ne t g i e
theorem Holds.gen {slot : List (List UInt8)} {t : List UInt8} {g : Nat} (h : Holds slot t g) (hg : g < 18446744073709551616) : gen (slot.getD 0 []) = g := by
  rw [h.first, gen_body hg]
theorem Holds.held {slot : List (List UInt8)} {t : List UInt8} {g : Nat} (h : Holds slot t g) (hg : g < 18446744073709551616) : held slot = (t, g) := by
  rw [Kp.held, h.gen hg, if_neg h.pos, h.joined, if_neg (by have := h.le; omega), if_pos h.same.symm]
theorem holds {slot : List (List UInt8)} {t : List UInt8} {g : Nat} (h : held slot = (t, g)) (hg : g ≠ 0) : Holds slot t g := by
  unfold held at h
  split at h
  · cases h; exact absurd rfl hg
  · split at h
    · cases h; exact absurd rfl hg
    · split at h
      · rename_i h1 h2 h3
        injection h with e1 e2
        subst e1; subst e2
        exact ⟨h1, by omega, h3.symm⟩
      · cases h; exact absurd rfl hg
theorem held_none {slot : List (List UInt8)} (h : (held slot).2 = 0) : held slot = ([], 0) := by
  unfold held at h ⊢
  split
  · rfl
  · split
    · rfl
    · split
      · rename_i h1 h2 h3
        rw [if_neg h1, if_neg h2, if_pos h3] at h
        exact absurd h h1
      · rfl
theorem num_lt : ∀ (l : List UInt8), Dk.num l < 256 ^ l.length
  | [] => by simp [Dk.num]
  | b :: l => by
    have := num_lt l
    have hb := b.toNat_lt
    rw [Dk.num_cons, List.length_cons, Nat.pow_succ]
    omega
theorem gen_lt (b : List UInt8) : gen b < 18446744073709551616 := by
  have h := num_lt (b.take 8)
  have h2 : 256 ^ (b.take 8).length ≤ 256 ^ 8 := Nat.pow_le_pow_right (by decide) (by rw [List.length_take]; omega)
  unfold gen
  exact Nat.lt_of_lt_of_le h h2
theorem held_lt (slot : List (List UInt8)) : (held slot).2 < 18446744073709551616 := by
  have := gen_lt (slot.getD 0 [])
  unfold held
  split
  · simp
  · split
    · simp
    · split
      · exact this
      · simp
theorem held_le (slot : List (List UInt8)) : (held slot).1.length ≤ 400 := by
  unfold held
  split
  · simp
  · split
    · simp
    · split
      · simp only; omega
      · simp
/-- What is kept in a place, and the slot that does not have it. -/
def find (place : List (List UInt8)) : (List UInt8 × Nat) × Nat :=
  if 0 < (held (place.take 10)).2 ∧ (held (place.drop 10)).2 ≤ (held (place.take 10)).2 then (held (place.take 10), 1) else (held (place.drop 10), 0)
def greatest (place : List (List UInt8)) : Nat := place.foldl (fun g b => max g (gen b)) 0
theorem great_from : ∀ (l : List (List UInt8)) (m : Nat), m ≤ l.foldl (fun g b => max g (gen b)) m ∧ (∀ b ∈ l, gen b ≤ l.foldl (fun g b => max g (gen b)) m) ∧ (∀ c, m ≤ c → (∀ b ∈ l, gen b ≤ c) → l.foldl (fun g b => max g (gen b)) m ≤ c)
  | [], m => ⟨Nat.le_refl _, fun _ h => by simp at h, fun c h _ => h⟩
  | a :: l, m => by
    obtain ⟨h1, h2, h3⟩ := great_from l (max m (gen a))
    refine ⟨by rw [List.foldl_cons]; omega, fun b hb => ?_, fun c hc hl => ?_⟩
    · rw [List.foldl_cons]
      rcases List.mem_cons.1 hb with rfl | hb
      · omega
      · exact h2 b hb
    · rw [List.foldl_cons]
      exact h3 c (by have := hl a (by simp); omega) fun b hb => hl b (by simp [hb])
theorem le_greatest {place : List (List UInt8)} {b : List UInt8} (h : b ∈ place) : gen b ≤ greatest place := (great_from place 0).2.1 b h
theorem greatest_le {place : List (List UInt8)} {c : Nat} (h : ∀ b ∈ place, gen b ≤ c) : greatest place ≤ c := (great_from place 0).2.2 c (Nat.zero_le _) h
theorem greatest_lt (place : List (List UInt8)) : greatest place < 18446744073709551616 := by
  have := greatest_le (place := place) (c := 18446744073709551615) fun b _ => by have := gen_lt b; omega
  omega
theorem held_great {slot place : List (List UInt8)} (h : ∀ b ∈ slot, b ∈ place) : (held slot).2 ≤ greatest place := by
  by_cases h0 : (held slot).2 = 0
  · omega
  · have hh := holds (slot := slot) (t := (held slot).1) (g := (held slot).2) rfl h0
    have hp := parts_pos (held slot).1
    have e := hh.get (i := 0) (by omega)
    have hm := List.mem_of_getElem? e
    have := le_greatest (h _ hm)
    rwa [gen_body (held_lt slot)] at this
end Kp
end Go.Proofs.YtnmagfodjcookaaGreat
