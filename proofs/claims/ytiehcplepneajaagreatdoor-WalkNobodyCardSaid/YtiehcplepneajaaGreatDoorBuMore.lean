/-
  What the statements on buckets want of the parts and pages. No program.
-/
import Derived.Test.YtiehcplepneajaaGreatDoorBuEx
namespace Go.Proofs.YtiehcplepneajaaGreatDoor
namespace Bu
open Om (Pr)
/-- The next one of a part, as the pairs are gone through. -/
theorem part_nth {l : List Pr} {j : Nat} (hj : j < l.length) {i : Int} (h : isOf i l[j] = true) : (part l i)[(part (l.take j) i).length]? = some l[j] := by
  have e : part l i = part (l.take j) i ++ (l[j] :: part (l.drop (j + 1)) i) := by
    conv => lhs; rw [← List.take_append_drop j l, List.drop_eq_getElem_cons hj]
    unfold part
    rw [List.filter_append, List.filter_cons, if_pos h]
  rw [e, List.getElem?_append_right (Nat.le_refl _), Nat.sub_self]
  rfl
theorem part_count {l : List Pr} {j : Nat} (hj : j < l.length) {i : Int} (h : isOf i l[j] = true) : (part (l.take j) i).length < (part l i).length := by
  have := part_nth hj h
  exact (List.getElem?_eq_some_iff.1 this).1
theorem part_more {l : List Pr} {j : Nat} (hj : j < l.length) {i : Int} (h : isOf i l[j] = true) : (part (l.take (j + 1)) i).length = (part (l.take j) i).length + 1 := by
  rw [part_take hj, if_pos h, List.length_append]
  rfl
theorem part_stay {l : List Pr} {j : Nat} (hj : j < l.length) {i : Int} (h : isOf i l[j] = false) : part (l.take (j + 1)) i = part (l.take j) i := by
  rw [part_take hj, if_neg (by rw [h]; decide), List.append_nil]
/-- The page of a part of pairs that may be. -/
theorem page_part {l : List Pr} (h : may l = true) (h48 : l.length ≤ 48) {i : Int} (hi : 0 ≤ i ∧ i ≤ 15) : pageE i (part l i) = 0 :=
  pageE_of hi (may_part h i) (part_all l i) (Nat.le_trans (part_length l i) h48)
theorem bytes_ne (l : List Pr) : bytes l ≠ [] := by
  unfold bytes
  have := Pk.enc_ne l.length
  simp [this]
theorem part_part (l : List Pr) (i : Int) : part (part l i) i = part l i := part_same (part_all l i)
/-- The upper four bits. -/
theorem mask_all : ((List.range 256).all fun n => decide (n &&& 240 = n / 16 * 16) && decide (n >>> 4 = n / 16) && decide (((n / 16) <<< 4) % 256 = n / 16 * 16)) = true := by decide +kernel
theorem mask_four {n : Nat} (h : n < 256) : n &&& 240 = n / 16 * 16 ∧ n >>> 4 = n / 16 ∧ ((n / 16) <<< 4) % 256 = n / 16 * 16 := by
  have := List.all_eq_true.1 mask_all n (List.mem_range.2 h)
  simp only [Bool.and_eq_true, decide_eq_true_eq] at this
  exact ⟨this.1.1, this.1.2, this.2⟩
theorem bk_first (p : ByteArray) : ∃ n : Nat, n < 256 ∧ ((Sm.sum p.data.toList).headD 0).toNat = n ∧ bk p = n / 16 := ⟨_, ((Sm.sum p.data.toList).headD 0).toNat_lt, rfl, rfl⟩
/-- What was read is small, and of that bucket alone. -/
theorem read_good {i : Int} {s : ByteArray} (h : (read i s).2 = 0) : (0 ≤ i ∧ i ≤ 15) ∧ may (read i s).1 = true ∧ allOf i (read i s).1 = true ∧ (read i s).1.length ≤ 48 ∧ page i (read i s).1 = (s, 0) := by
  obtain ⟨h1, h2, h3⟩ := read_only h
  obtain ⟨g1, g2, g3, g4⟩ := pageE_ok h3
  rw [h1]
  refine ⟨g1, g2, g3, g4, ?_⟩
  unfold page
  rw [if_pos h3, h3, h2, Ba.ba_eq]
theorem all_at {i : Int} {l : List Pr} (h : allOf i l = true) {k : Nat} (hk : k < l.length) : (bk l[k].p : Int) = i := of_decide_eq_true (List.all_eq_true.1 h _ (List.getElem_mem hk))
end Bu
end Go.Proofs.YtiehcplepneajaaGreatDoor
