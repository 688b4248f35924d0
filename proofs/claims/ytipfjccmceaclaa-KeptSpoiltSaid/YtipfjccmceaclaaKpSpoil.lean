/-
  A sound sector of a record, spoilt: it is no sound one, and no blank one.
-/
import Derived.Test.YtipfjccmceaclaaKpRun
import Derived.Test.YtipfjccmceaclaaDkSound
namespace Go.Proofs.Ytipfjccmceaclaa
namespace Kp
theorem shift_xor (x y k : Nat) : (x ^^^ y) * 2 ^ k = x * 2 ^ k ^^^ y * 2 ^ k := by rw [← Nat.shiftLeft_eq, ← Nat.shiftLeft_eq, ← Nat.shiftLeft_eq, Nat.shiftLeft_xor_distrib]
theorem xor4 (p q u v : Nat) : (p ^^^ q) ^^^ (u ^^^ v) = (p ^^^ u) ^^^ (q ^^^ v) := by
  rw [Nat.xor_assoc, Nat.xor_assoc, ← Nat.xor_assoc q u v, Nat.xor_comm q u, Nat.xor_assoc u q v]
theorem num_zip : ∀ (a b : List UInt8), a.length = b.length → Dk.num (List.zipWith (· ^^^ ·) a b) = Dk.num a ^^^ Dk.num b
  | [], [], _ => by simp [Dk.num]
  | [], _ :: _, h => by simp at h
  | _ :: _, [], h => by simp at h
  | a :: l, b :: m, h => by
    have ih := num_zip l m (by simpa using h)
    have d : ∀ x y : Nat, (x ^^^ y) * 256 = x * 256 ^^^ y * 256 := fun x y => by
      rw [show (256 : Nat) = 2 ^ 8 from rfl]; exact shift_xor x y 8
    show ((a ^^^ b).toNat ^^^ Dk.num (List.zipWith (· ^^^ ·) l m) * 256) = (a.toNat ^^^ Dk.num l * 256) ^^^ (b.toNat ^^^ Dk.num m * 256)
    rw [ih, UInt8.toNat_xor, d]
    exact xor4 _ _ _ _
theorem xored_parts {s : List UInt8} {a : Nat} {x : List UInt8} (h : a + x.length ≤ s.length) : Dk.xored s a x = s.take a ++ (List.zipWith (· ^^^ ·) ((s.drop a).take x.length) x ++ s.drop (a + x.length)) := by
  refine List.ext_getElem? fun k => ?_
  have hz : (List.zipWith (· ^^^ ·) ((s.drop a).take x.length) x).length = x.length := by simp; omega
  have ht : (s.take a).length = a := by rw [List.length_take]; omega
  by_cases hk : k < s.length
  · rw [Dk.xored, List.getElem?_map, List.getElem?_range hk, Option.map_some]
    by_cases h1 : k < a
    · rw [if_neg (by omega), List.getElem?_append_left (by omega), List.getElem?_take, if_pos h1, List.getD_eq_getElem?_getD, List.getElem?_eq_getElem hk]; rfl
    · rw [List.getElem?_append_right (by omega), ht]
      by_cases h2 : k < a + x.length
      · rw [if_pos ⟨by omega, h2⟩, List.getElem?_append_left (by omega), List.getElem?_zipWith, List.getElem?_take, if_pos (by omega), List.getElem?_drop, show a + (k - a) = k by omega, List.getElem?_eq_getElem hk, List.getElem?_eq_getElem (by omega), List.getD_eq_getElem?_getD, List.getD_eq_getElem?_getD, List.getElem?_eq_getElem hk, List.getElem?_eq_getElem (by omega)]
        rfl
      · rw [if_neg (by omega), List.getElem?_append_right (by omega), hz, List.getElem?_drop, show a + x.length + (k - a - x.length) = k by omega, List.getD_eq_getElem?_getD, List.getElem?_eq_getElem hk]; rfl
  · rw [List.getElem?_eq_none (by rw [Dk.xored_length]; omega), List.getElem?_eq_none (by simp; omega)]
theorem num_xored {s : List UInt8} {a : Nat} {x : List UInt8} (h : a + x.length ≤ s.length) : Dk.num (Dk.xored s a x) = Dk.num s ^^^ Dk.num x * 2 ^ (8 * a) := by
  have ht : (s.take a).length = a := by rw [List.length_take]; omega
  have hm : ((s.drop a).take x.length).length = x.length := by rw [List.length_take, List.length_drop]; omega
  have hz : (List.zipWith (· ^^^ ·) ((s.drop a).take x.length) x).length = x.length := by rw [List.length_zipWith, hm]; omega
  have e : s = s.take a ++ ((s.drop a).take x.length ++ s.drop (a + x.length)) := by
    rw [← List.drop_drop, List.take_append_drop, List.take_append_drop]
  rw [xored_parts h, Dk.num_append, Dk.num_append, num_zip _ _ hm, hz, ht]
  conv => rhs; rw [e]
  rw [Dk.num_append, Dk.num_append, ht, hm, shift_xor, shift_xor, shift_xor]
  generalize Dk.num (s.take a) = p
  generalize Dk.num ((s.drop a).take x.length) * 2 ^ (8 * a) = q
  generalize Dk.num x * 2 ^ (8 * a) = u
  generalize Dk.num (s.drop (a + x.length)) * 2 ^ (8 * x.length) * 2 ^ (8 * a) = v
  rw [Nat.xor_assoc q u v, Nat.xor_comm u v, ← Nat.xor_assoc q v u, ← Nat.xor_assoc p]
/-- A sector that Put wrote, or a blank one. -/
def Born (M : Dk.Md) : Prop := ∀ j, j < M.lasts.length → Dk.last M j = Dk.blank ∨ ∃ t g n, Dk.last M j = Dk.closed (body t g n) ∧ t.length ≤ 400 ∧ 1 ≤ g ∧ g ≤ 60
theorem closed_at {b : List UInt8} (h : b.length = 60) {k : Nat} (hk : k < 60) : (Dk.closed b).getD k 0 = b.getD k 0 := by
  rw [Dk.closed, List.getD_eq_getElem?_getD, List.getD_eq_getElem?_getD, List.getElem?_append_left (by omega)]
theorem body_first {t : List UInt8} {g n : Nat} (h : 1 ≤ g ∧ g ≤ 60) : (body t g n).getD 0 0 ≠ 0 := by
  have e : (body t g n).getD 0 0 = UInt8.ofNat (g % 256) := by
    rw [body, eight, low_succ]; rfl
  rw [e]
  intro h0
  have := congrArg UInt8.toNat h0
  rw [UInt8.toNat_ofNat', show (0 : UInt8).toNat = 0 from rfl] at this
  omega
/-- Spoilt: neither sound nor blank. -/
theorem spoilt_look {t : List UInt8} {g n a : Nat} {x : List UInt8} (ht : t.length ≤ 400) (hg : 1 ≤ g ∧ g ≤ 60) (hx : x.length ≤ 4) (ha : a + x.length ≤ 64) (hne : Dk.xored (Dk.closed (body t g n)) a x ≠ Dk.closed (body t g n)) :
    (Dk.lookOf (Dk.xored (Dk.closed (body t g n)) a x)).2 = 2 := by
  have hb := body_length t g n
  have hc : (Dk.closed (body t g n)).length = 64 := by rw [Dk.closed_length, hb]
  have hl : (Dk.xored (Dk.closed (body t g n)) a x).length = 64 := by rw [Dk.xored_length, hc]
  have e := num_xored (s := Dk.closed (body t g n)) (a := a) (x := x) (by omega)
  have hp : Dk.num x < 2 ^ 32 := by
    have h1 := num_lt x
    have h2 : 256 ^ x.length ≤ 256 ^ 4 := Nat.pow_le_pow_right (by decide) hx
    exact Nat.lt_of_lt_of_le h1 h2
  have h0 : Dk.num x ≠ 0 := fun h0 => by
    rw [h0, Nat.zero_mul, Nat.xor_zero] at e
    exact hne (Dk.num_inj (by rw [hl, hc]) e)
  have h1 := Dk.look_turned hb hl hp (by omega) e h0
  have h2 : Dk.xored (Dk.closed (body t g n)) a x ≠ List.replicate 64 0 := fun hz => by
    have at_ : ∀ k, k < 64 → ¬ (a ≤ k ∧ k < a + x.length) → (Dk.closed (body t g n)).getD k 0 = 0 := fun k hk hno => by
      have h3 := congrArg (fun l => l.getD k 0) hz
      rw [Dk.xored, List.getD_eq_getElem?_getD, List.getElem?_map, List.getElem?_range (by omega), Option.map_some, if_neg hno, List.getD_eq_getElem?_getD (l := List.replicate 64 0), List.getElem?_replicate, if_pos hk] at h3
      exact h3
    by_cases ha0 : a = 0
    · have h4 := at_ 9 (by omega) (by omega)
      rw [closed_at hb (by omega)] at h4
      have h5 := body_count (t := t) g n (by have := parts_le ht; omega)
      have h6 := parts_pos t
      rw [h4] at h5
      simp at h5
      omega
    · have h4 := at_ 0 (by omega) (by omega)
      rw [closed_at hb (by omega)] at h4
      exact body_first hg h4
  have h3 := h1
  unfold Dk.lookOf at h3 ⊢
  rw [if_neg h2] at h3 ⊢
  split
  · rename_i hq; rw [if_pos hq] at h3; exact absurd rfl h3
  · rfl
theorem born_new (n : Nat) : Born (Dk.new n) := fun j hj => .inl (by
  have hj' : j < n := by simpa [Dk.new] using hj
  rw [Dk.last, Dk.new, List.getD_eq_getElem?_getD, List.getElem?_replicate, if_pos hj']; rfl)
theorem Born.put {M M' : Dk.Md} {K : Md} (h : Born M) {t : List UInt8} (ht : t.length ≤ 400) (hs : K.seen + 1 ≤ 60) (hl : M'.lasts.length = M.lasts.length)
    (h5 : ∀ i, i < M.lasts.length → Dk.last M' i = if K.from_.toNat + K.next * 10 ≤ i ∧ i < K.from_.toNat + K.next * 10 + parts t then Dk.closed (body t (K.seen + 1) (i - (K.from_.toNat + K.next * 10))) else Dk.last M i) : Born M' := fun j hj => by
  rw [hl] at hj
  rw [h5 j hj]
  split
  · exact .inr ⟨t, K.seen + 1, _, rfl, ht, by omega, hs⟩
  · exact h j hj
/-- What bars Open of a spoilt place. -/
theorem spoilt_err {M : Dk.Md} {K : Md} (h : Fits M K) (hb : Born M) {q : Nat} (hq : q < 20) (hn : M.lasts.length = 20) {a : Nat} {x : List UInt8} (hx : x.length ≤ 4) (ha : a + x.length ≤ 64)
    (h1 : (Dk.lookOf (Dk.last M q)).2 = 1) (hne : Dk.xored (Dk.last M q) a x ≠ Dk.last M q) : readErr { M with lasts := M.lasts.set q (Dk.xored (Dk.last M q) a x) } 0 = 9 := by
  rcases hb q (by omega) with e | ⟨t, g, n, e, ht, hg1, hg2⟩
  · rw [e] at h1
    have : Dk.lookOf Dk.blank = ([], 0) := by unfold Dk.lookOf; exact if_pos rfl
    rw [this] at h1; cases h1
  · rw [e] at hne
    have h2 := spoilt_look ht ⟨hg1, hg2⟩ hx ha hne
    have hw := h.idle q
    have hs : sees { M with lasts := M.lasts.set q (Dk.xored (Dk.last M q) a x) } 0 q = Dk.xored (Dk.last M q) a x := by
      have e0 : sees { M with lasts := M.lasts.set q (Dk.xored (Dk.last M q) a x) } 0 q = Dk.seen { M with lasts := M.lasts.set q (Dk.xored (Dk.last M q) a x) } q := by
        show Dk.seen _ ((0 : Int).toNat + q) = _
        rw [show (0 : Int).toNat = 0 from rfl, Nat.zero_add]
      rw [e0, Dk.seen_last (by exact hw), Dk.last, List.getD_eq_getElem?_getD, List.getElem?_set_self (by omega)]; rfl
    have hbad : bad (sees { M with lasts := M.lasts.set q (Dk.xored (Dk.last M q) a x) } 0) = true := bad_at hq (by rw [hs, e]; exact h2)
    rw [readErr]
    show (if M.off = true then _ else _) = _
    rw [if_neg (by rw [h.on]; decide), hbad]; rfl
end Kp
end Go.Proofs.Ytipfjccmceaclaa
