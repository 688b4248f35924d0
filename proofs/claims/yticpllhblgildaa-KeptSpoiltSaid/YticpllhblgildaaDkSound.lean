/-
  DiskSound: what is closed is sound; a burst turns it.
-/
import Derived.Test.YticpllhblgildaaDkLook
import Derived.Test.YticpllhblgildaaDkOne
import Derived.Test.YticpllhblgildaaRowB
namespace Go.Proofs.Yticpllhblgildaa
open Go.RowKit
namespace Dk
/-- 60 bytes out of a text: what lacks is noughts. -/
def sixty (l : List UInt8) : List UInt8 := l.take 60 ++ List.replicate (60 - l.length) 0
theorem sixty_length (l : List UInt8) : (sixty l).length = 60 := by simp [sixty]; omega
/-- The pattern's bits below k that lie within a sector. -/
def bitsTo (pat a : Nat) : Nat → Nat
  | 0 => 0
  | k + 1 => bitsTo pat a k ^^^ (if pat / 2 ^ k % 2 = 1 ∧ a + k < 512 then 2 ^ k else 0)
theorem bitsTo_lt (pat a : Nat) : ∀ k, bitsTo pat a k < 2 ^ k
  | 0 => by simp [bitsTo]
  | k + 1 => by
    have h := bitsTo_lt pat a k
    have h2 : 2 ^ k < 2 ^ (k + 1) := Nat.pow_lt_pow_right (by decide) (by omega)
    unfold bitsTo
    exact Nat.xor_lt_two_pow (by omega) (by split <;> omega)
theorem bitsTo_on {pat a k : Nat} (h : pat / 2 ^ k % 2 = 1 ∧ a + k < 512) : bitsTo pat a (k + 1) = bitsTo pat a k ^^^ 2 ^ k := by
  rw [bitsTo, if_pos h]
theorem bitsTo_off {pat a k : Nat} (h : ¬ (pat / 2 ^ k % 2 = 1 ∧ a + k < 512)) : bitsTo pat a (k + 1) = bitsTo pat a k := by
  rw [bitsTo, if_neg h, Nat.xor_zero]
theorem bitsTo_ne {pat a k : Nat} (h : pat / 2 ^ k % 2 = 1 ∧ a + k < 512) : bitsTo pat a (k + 1) ≠ 0 := by
  rw [bitsTo_on h]
  intro e
  have h1 := bitsTo_lt pat a k
  have h2 : bitsTo pat a k = 2 ^ k := by
    have := congrArg (fun x => x ^^^ 2 ^ k) e
    simpa [Nat.xor_assoc] using this
  omega
/-- 64 bytes at the head of a block. -/
def At64 (w : World) (Q : Nat) (cur : List UInt8) : Prop := ∃ cs lo hi, w.heap[Q]? = some (.cells cs 5 (lo, hi)) ∧ 64 ≤ cs.size ∧ (hi = 0 ∨ cs.size ≤ lo) ∧ cur.length = 64 ∧ ∀ j, j < 64 → cs[j]? = some (.int .u8 (cur.getD j 0).toNat)
theorem At64.cell {w : World} {Q : Nat} {cur : List UInt8} (h : At64 w Q cur) {j : Nat} (hj : j < 64) : w.cell? ⟨Q, j, none⟩ = some (.int .u8 (cur.getD j 0).toNat) := by
  obtain ⟨cs, lo, hi, h1, h2, h3, h4, h5⟩ := h
  simp [World.cell?, h1, h5 j hj]
theorem At64.free {w : World} {Q : Nat} {cur : List UInt8} (h : At64 w Q cur) {j : Nat} (hj : j < 64) : w.frozen? ⟨Q, j, none⟩ = false := by
  obtain ⟨cs, lo, hi, h1, h2, h3, h4, h5⟩ := h
  simp only [World.frozen?, h1]
  rcases h3 with h | h
  · subst h; simp
  · simp; omega
theorem At64.lt {w : World} {Q : Nat} {cur : List UInt8} (h : At64 w Q cur) : Q < w.heap.size := by
  obtain ⟨cs, lo, hi, h1, _⟩ := h
  exact (Array.getElem?_eq_some_iff.1 h1).1
theorem At64.set {w : World} {Q : Nat} {cur : List UInt8} (h : At64 w Q cur) {j : Nat} (hj : j < 64) (y : UInt8) : At64 (w.setCell ⟨Q, j, none⟩ (.int .u8 y.toNat)) Q (cur.set j y) := by
  obtain ⟨cs, lo, hi, h1, h2, h3, h4, h5⟩ := h
  refine ⟨cs.setIfInBounds j (.int .u8 y.toNat), lo, hi, by simp [World.setCell, Array.getElem?_modify, h1], by simpa using h2, by simpa using h3, by simpa using h4, fun i hi => ?_⟩
  by_cases e : i = j
  · subst e
    rw [Array.getElem?_setIfInBounds_self_of_lt (by omega), List.getD_eq_getElem?_getD, List.getElem?_set_self (by omega)]; rfl
  · rw [Array.getElem?_setIfInBounds_ne (Ne.symm e), h5 i hi, List.getD_eq_getElem?_getD, List.getD_eq_getElem?_getD (l := cur.set j y), List.getElem?_set_ne (Ne.symm e)]
theorem At64.conv {w : World} {Q cc : Nat} {cur : List UInt8} (h : At64 w Q cur) : (convert 70 9 (.slice (some ⟨Q, 0, none⟩) 64 cc)).run Try.prog w = .ok (.string ⟨cur.toArray⟩) w := by
  have hl : cur.length = 64 := by obtain ⟨_, _, _, _, _, _, h4, _⟩ := h; exact h4
  have e := run_convert_bytes_back (P := Try.prog) w 70 9 5 ⟨Q, 0, none⟩ cc cur Try.underlying70 Try.underlying5 Try.underlying9 (fun j hj => by
    have := h.cell (j := j) (by omega)
    rw [List.getD_eq_getElem?_getD, List.getElem?_eq_getElem hj] at this
    rw [Addr.add_mid, Nat.zero_add]
    exact this)
  rw [hl] at e; exact e
theorem look_closed {L : List UInt8} (h : L.length = 60) : lookOf (closed L) = (L, 1) := by
  have ht : (closed L).take 60 = L := by rw [closed, List.take_left' h]
  unfold lookOf
  rw [if_neg (closed_not_blank h), ht, if_pos ⟨by rw [closed_length, h], rfl⟩]
set_option maxRecDepth 100000 in
theorem turn_bits (old : UInt8) (b : Nat) : bits .xor .u8 (old.toNat : Int) (2 ^ b % 256) = ((old ^^^ UInt8.ofNat (2 ^ b)).toNat : Int) := by
  have h := Sm.w_xor8 old (UInt8.ofNat (2 ^ b))
  rw [UInt8.toNat_ofNat'] at h
  rw [← h]; push_cast; rfl
theorem turn_num {n p k a : Nat} : n ^^^ p * 2 ^ a ^^^ 2 ^ (a + k) = n ^^^ (p ^^^ 2 ^ k) * 2 ^ a := by
  have d : (p ^^^ 2 ^ k) * 2 ^ a = p * 2 ^ a ^^^ 2 ^ k * 2 ^ a := by rw [← Nat.shiftLeft_eq, ← Nat.shiftLeft_eq, ← Nat.shiftLeft_eq, Nat.shiftLeft_xor_distrib]
  rw [d, ← Nat.pow_add, Nat.add_comm k a, Nat.xor_assoc]
theorem look_turned {L cur : List UInt8} (hL : L.length = 60) (hl : cur.length = 64) {p a : Nat} (hp : p < 2 ^ 32) (ha : a ≤ 512) (e : num cur = num (closed L) ^^^ p * 2 ^ a) (h0 : p ≠ 0) : (lookOf cur).2 ≠ 1 := by
  have hcl : (closed L).length = 64 := by rw [closed_length, hL]
  unfold lookOf
  split
  · simp
  · split
    · rename_i _ h
      exact absurd (burst (closed_feeds L) (by rw [h.2]; exact closed_feeds _) (by rw [hl, hcl]) hp (by rw [hcl]; exact ha) e) h0
    · simp
theorem look_same {L cur : List UInt8} (hL : L.length = 60) (hl : cur.length = 64) {p a : Nat} (e : num cur = num (closed L) ^^^ p * 2 ^ a) (h0 : p = 0) : (lookOf cur).2 = 1 := by
  have hcl : (closed L).length = 64 := by rw [closed_length, hL]
  subst h0
  have : cur = closed L := num_inj (by rw [hl, hcl]) (by simpa using e)
  rw [this, look_closed hL]
theorem At64.len {w : World} {Q : Nat} {cur : List UInt8} (h : At64 w Q cur) : cur.length = 64 := by obtain ⟨_, _, _, _, _, _, h4, _⟩ := h; exact h4
end Dk
end Go.Proofs.Yticpllhblgildaa
