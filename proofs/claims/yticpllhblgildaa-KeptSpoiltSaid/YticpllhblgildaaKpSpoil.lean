/-
  A sound sector of a record, spoilt: it is no sound one, and no blank one.
-/
import Derived.Test.YticpllhblgildaaKpRun
import Derived.Test.YticpllhblgildaaDkSound
import Derived.Test.YticpllhblgildaaPtSpoil
namespace Go.Proofs.Yticpllhblgildaa
namespace Kp
/-- A sector that Put wrote, or a blank one. -/
def Born (M : Dk.Md) : Prop := ∀ j, j < M.lasts.length → Dk.last M j = Dk.blank ∨ ∃ t g n, Dk.last M j = Dk.closed (body t g n) ∧ t.length ≤ 400 ∧ 1 ≤ g ∧ g ≤ 60
theorem body_first {t : List UInt8} {g n : Nat} (h : 1 ≤ g ∧ g ≤ 60) : (body t g n).getD 0 0 ≠ 0 := by
  have e : (body t g n).getD 0 0 = UInt8.ofNat (g % 256) := by
    rw [body, eight, low_succ]; rfl
  rw [e]
  intro h0
  have := congrArg UInt8.toNat h0
  rw [UInt8.toNat_ofNat', show (0 : UInt8).toNat = 0 from rfl] at this
  omega
/-- Spoilt: neither sound nor blank. -/
theorem spoilt_look {t : List UInt8} {g n a : Nat} {x : List UInt8} (ht : t.length ≤ 400) (hg : 1 ≤ g ∧ g ≤ 60) (hx : x.length ≤ 4) (ha : a + x.length ≤ 64) (hne : Dk.xored (Dk.closed (body t g n)) a x ≠ Dk.closed (body t g n)) :
    (Dk.lookOf (Dk.xored (Dk.closed (body t g n)) a x)).2 = 2 := by
  have hb := body_length t g n
  have hc : (Dk.closed (body t g n)).length = 64 := by rw [Dk.closed_length, hb]
  have hl : (Dk.xored (Dk.closed (body t g n)) a x).length = 64 := by rw [Dk.xored_length, hc]
  have e := num_xored (s := Dk.closed (body t g n)) (a := a) (x := x) (by omega)
  have hp : Dk.num x < 2 ^ 32 := by
    have h1 := num_lt x
    have h2 : 256 ^ x.length ≤ 256 ^ 4 := Nat.pow_le_pow_right (by decide) hx
    exact Nat.lt_of_lt_of_le h1 h2
  have h0 : Dk.num x ≠ 0 := fun h0 => by
    rw [h0, Nat.zero_mul, Nat.xor_zero] at e
    exact hne (Dk.num_inj (by rw [hl, hc]) e)
  have h1 := Dk.look_turned hb hl hp (by omega) e h0
  have h2 : Dk.xored (Dk.closed (body t g n)) a x ≠ List.replicate 64 0 := fun hz => by
    have at_ : ∀ k, k < 64 → ¬ (a ≤ k ∧ k < a + x.length) → (Dk.closed (body t g n)).getD k 0 = 0 := fun k hk hno => by
      have h3 := congrArg (fun l => l.getD k 0) hz
      rw [Dk.xored, List.getD_eq_getElem?_getD, List.getElem?_map, List.getElem?_range (by omega), Option.map_some, if_neg hno, List.getD_eq_getElem?_getD (l := List.replicate 64 0), List.getElem?_replicate, if_pos hk] at h3
      exact h3
    by_cases ha0 : a = 0
    · have h4 := at_ 9 (by omega) (by omega)
      rw [closed_at hb (by omega)] at h4
      have h5 := body_count (t := t) g n (by have := parts_le ht; omega)
      have h6 := parts_pos t
      rw [h4] at h5
      simp at h5
      omega
    · have h4 := at_ 0 (by omega) (by omega)
      rw [closed_at hb (by omega)] at h4
      exact body_first hg h4
  have h3 := h1
  unfold Dk.lookOf at h3 ⊢
  rw [if_neg h2] at h3 ⊢
  split
  · rename_i hq; rw [if_pos hq] at h3; exact absurd rfl h3
  · rfl
theorem born_new (n : Nat) : Born (Dk.new n) := fun j hj => .inl (by
  have hj' : j < n := by simpa [Dk.new] using hj
  rw [Dk.last, Dk.new, List.getD_eq_getElem?_getD, List.getElem?_replicate, if_pos hj']; rfl)
theorem Born.put {M M' : Dk.Md} {K : Md} (h : Born M) {t : List UInt8} (ht : t.length ≤ 400) (hs : K.seen + 1 ≤ 60) (hl : M'.lasts.length = M.lasts.length)
    (h5 : ∀ i, i < M.lasts.length → Dk.last M' i = if K.from_.toNat + K.next * 10 ≤ i ∧ i < K.from_.toNat + K.next * 10 + parts t then Dk.closed (body t (K.seen + 1) (i - (K.from_.toNat + K.next * 10))) else Dk.last M i) : Born M' := fun j hj => by
  rw [hl] at hj
  rw [h5 j hj]
  split
  · exact .inr ⟨t, K.seen + 1, _, rfl, ht, by omega, hs⟩
  · exact h j hj
/-- What bars Open of a spoilt place. -/
theorem spoilt_err {M : Dk.Md} {K : Md} (h : Fits M K) (hb : Born M) {q : Nat} (hq : q < 20) (hn : M.lasts.length = 20) {a : Nat} {x : List UInt8} (hx : x.length ≤ 4) (ha : a + x.length ≤ 64)
    (h1 : (Dk.lookOf (Dk.last M q)).2 = 1) (hne : Dk.xored (Dk.last M q) a x ≠ Dk.last M q) : readErr { M with lasts := M.lasts.set q (Dk.xored (Dk.last M q) a x) } 0 = 9 := by
  rcases hb q (by omega) with e | ⟨t, g, n, e, ht, hg1, hg2⟩
  · rw [e] at h1
    have : Dk.lookOf Dk.blank = ([], 0) := by unfold Dk.lookOf; exact if_pos rfl
    rw [this] at h1; cases h1
  · rw [e] at hne
    have h2 := spoilt_look ht ⟨hg1, hg2⟩ hx ha hne
    have hw := h.idle q
    have hs : sees { M with lasts := M.lasts.set q (Dk.xored (Dk.last M q) a x) } 0 q = Dk.xored (Dk.last M q) a x := by
      have e0 : sees { M with lasts := M.lasts.set q (Dk.xored (Dk.last M q) a x) } 0 q = Dk.seen { M with lasts := M.lasts.set q (Dk.xored (Dk.last M q) a x) } q := by
        show Dk.seen _ ((0 : Int).toNat + q) = _
        rw [show (0 : Int).toNat = 0 from rfl, Nat.zero_add]
      rw [e0, Dk.seen_last (by exact hw), Dk.last, List.getD_eq_getElem?_getD, List.getElem?_set_self (by omega)]; rfl
    have hbad : bad (sees { M with lasts := M.lasts.set q (Dk.xored (Dk.last M q) a x) } 0) = true := bad_at hq (by rw [hs, e]; exact h2)
    rw [readErr]
    show (if M.off = true then _ else _) = _
    rw [if_neg (by rw [h.on]; decide), hbad]; rfl
end Kp
end Go.Proofs.Yticpllhblgildaa
