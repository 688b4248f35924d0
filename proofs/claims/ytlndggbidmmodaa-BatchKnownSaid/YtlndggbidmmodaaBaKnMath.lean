/-
  What BatchKnown's tables say, reckoned.
-/
import Derived.Test.YtlndggbidmmodaaBaKnOps
import Derived.Test.YtlndggbidmmodaaBaFilter
namespace Go.Proofs.Ytlndggbidmmodaa
open Go.RowKit Pk
namespace Ba
def texts : List (List UInt8 × Nat) := [([1, 2, 1, 1, 5, 97, 112, 112, 47, 97, 1, 49], 0), ([1, 2, 1, 1, 5, 97, 112, 112, 47, 97, 1, 49, 120], 8), ([], 7), ([0, 2, 0], 1), ([1, 2, 5], 8), ([1, 2, 1, 3], 10), ([1, 2, 1, 2, 3, 97, 112, 112], 20), ([1, 2, 0], 0), ([1, 2, 1, 2, 34], 8), ([129, 0, 2, 0], 8)]
theorem texts_all : (texts.all fun p => (read ⟨p.1.toArray⟩).2 == p.2 && p.1.length < 100) = true := by kernel_rfl
theorem texts_read (k : Nat) (hk : k < texts.length) : (read ⟨texts[k].1.toArray⟩).2 = texts[k].2 ∧ (⟨texts[k].1.toArray⟩ : ByteArray).size ≤ 281474976710656 := by
  have := List.all_eq_true.1 texts_all _ (List.getElem_mem hk)
  simp only [Bool.and_eq_true, beq_iff_eq, decide_eq_true_eq] at this
  refine ⟨this.1, ?_⟩
  rw [ba_mk_size]
  omega
def kA : ByteArray := ⟨#[97, 112, 112, 47, 97]⟩
def kW : ByteArray := ⟨#[119, 101, 98, 47, 97]⟩
def kO : ByteArray := ⟨#[111, 112, 115, 47, 97]⟩
def kOb : ByteArray := ⟨#[111, 112, 115, 47, 98]⟩
def kP : ByteArray := ⟨#[97, 112, 112]⟩
theorem first_ops : Pa.first Pa.tOps Pa.twoL = some ⟨Pa.tOps, false⟩ := by
  unfold Pa.twoL; rw [Pa.first, Pa.same_no (by decide)]; rw [if_neg (by decide), Pa.first, Pa.same_iff.2 rfl, if_pos rfl]
theorem of_A : (Pa.of3 Pa.twoL kA.data.toList).2.2 = 0 := by have := key_of; show (Pa.of3 Pa.twoL tKey.data.toList).2.2 = 0; rw [this]
theorem of_W : (Pa.of3 Pa.twoL kW.data.toList).2.2 = 21 := by
  have h1 : Pa.ok kW.data.toList = true := by kernel_rfl
  have h2 : Pa.nameOf kW.data.toList = ⟨#[119, 101, 98]⟩ := by kernel_rfl
  have h3 : Pa.first ⟨#[119, 101, 98]⟩ Pa.twoL = none := by unfold Pa.twoL; rw [Pa.first, Pa.same_no (by decide), Pa.first, Pa.same_no (by decide)]; rfl
  rw [Pa.of_none h1 (by rw [h2]; exact h3)]
theorem of_P : (Pa.of3 Pa.twoL kP.data.toList).2.2 = 20 := by
  have h1 : Pa.ok kP.data.toList = false := by kernel_rfl
  rw [Pa.of_bad h1]
theorem of_O3 : Pa.of3 Pa.twoL kO.data.toList = (Pa.tOps, false, 0) := by
  have h1 : Pa.ok kO.data.toList = true := by kernel_rfl
  have h2 : Pa.nameOf kO.data.toList = Pa.tOps := by kernel_rfl
  rw [Pa.of_some h1 (by rw [h2]; exact first_ops), h2]
theorem of_Ob3 : Pa.of3 Pa.twoL kOb.data.toList = (Pa.tOps, false, 0) := by
  have h1 : Pa.ok kOb.data.toList = true := by kernel_rfl
  have h2 : Pa.nameOf kOb.data.toList = Pa.tOps := by kernel_rfl
  rw [Pa.of_some h1 (by rw [h2]; exact first_ops), h2]
theorem of_O : (Pa.of3 Pa.twoL kO.data.toList).2.2 = 0 := by rw [of_O3]
theorem may_nil : R12.may Pa.twoL [] = 0 := rfl
theorem may_kind {o : Op} {r : List Op} (h1 : o.k ≠ 1 ∧ o.k ≠ 2) : R12.may Pa.twoL (o :: r) = 10 := by rw [R12.may, if_pos h1]
theorem may_path {o : Op} {r : List Op} {p : ByteArray} {n : Nat} (h1 : ¬ (o.k ≠ 1 ∧ o.k ≠ 2)) (hp : o.p = p) (h2 : (Pa.of3 Pa.twoL p.data.toList).2.2 = (n : Int)) (hn : n ≠ 0) : R12.may Pa.twoL (o :: r) = n := by
  rw [R12.may, if_neg h1, hp, h2, if_pos (by omega)]; rfl
theorem may_value {o : Op} {r : List Op} {p : ByteArray} (h1 : ¬ (o.k ≠ 1 ∧ o.k ≠ 2)) (hp : o.p = p) (h2 : (Pa.of3 Pa.twoL p.data.toList).2.2 = 0) (hv : value o ≠ 0) : R12.may Pa.twoL (o :: r) = value o := by
  rw [R12.may, if_neg h1, hp, h2, if_neg (by decide), if_pos hv]
theorem may_next {o : Op} {r : List Op} {p : ByteArray} (h1 : ¬ (o.k ≠ 1 ∧ o.k ≠ 2)) (hp : o.p = p) (h2 : (Pa.of3 Pa.twoL p.data.toList).2.2 = 0) (hv : value o = 0) : R12.may Pa.twoL (o :: r) = R12.may Pa.twoL r := by
  rw [R12.may, if_neg h1, hp, h2, if_neg (by decide), if_neg (by rw [hv]; decide)]
theorem may_put (r : List Op) : R12.may Pa.twoL (put1 :: r) = R12.may Pa.twoL r := may_next (p := kA) (by decide) rfl of_A (by decide)
theorem mayE_of {l : List Op} (h0 : l.length ≠ 0) (h4 : ¬ 4 < l.length) : mayE Pa.twoL l = R12.may Pa.twoL l := by rw [mayE, if_neg h0, if_neg h4]
set_option maxRecDepth 100000 in
theorem tab_may (t : ByteArray) (ht : t.size = 33) (j : Nat) (hj : j < (tab t).length) : ((mayE Pa.twoL (tab t)[j].1 : Nat) : Int) = (tab t)[j].2 := by
  have hj11 : j < 11 := hj
  have p1 : mayE Pa.twoL [put1] = 0 := one_may
  obtain rfl | rfl | rfl | rfl | rfl | rfl | rfl | rfl | rfl | rfl | rfl : j = 0 ∨ j = 1 ∨ j = 2 ∨ j = 3 ∨ j = 4 ∨ j = 5 ∨ j = 6 ∨ j = 7 ∨ j = 8 ∨ j = 9 ∨ j = 10 := by omega
  · show ((mayE Pa.twoL [put1] : Nat) : Int) = 0
    rw [p1]; rfl
  · rfl
  · show ((mayE Pa.twoL [⟨1, kW, no⟩] : Nat) : Int) = 21
    rw [mayE_of (by decide) (by decide), may_path (p := kW) (n := 21) (by decide) rfl of_W (by decide)]; rfl
  · show ((mayE Pa.twoL [⟨2, kA, ⟨#[49]⟩⟩] : Nat) : Int) = 1
    rw [mayE_of (by decide) (by decide), may_value (p := kA) (by decide) rfl of_A (by decide)]; rfl
  · show ((mayE Pa.twoL [⟨3, kA, no⟩] : Nat) : Int) = 10
    rw [mayE_of (by decide) (by decide), may_kind (by decide)]; rfl
  · show ((mayE Pa.twoL [⟨1, kP, no⟩] : Nat) : Int) = 20
    rw [mayE_of (by decide) (by decide), may_path (p := kP) (n := 20) (by decide) rfl of_P (by decide)]; rfl
  · show ((mayE Pa.twoL [put1, put1, put1, put1] : Nat) : Int) = 0
    rw [mayE_of (by decide) (by decide), may_put, may_put, may_put, may_put]; rfl
  · rfl
  · show ((mayE Pa.twoL [⟨1, kO, t⟩] : Nat) : Int) = 3
    have hv : value ⟨1, kO, t⟩ = 3 := by unfold value; rw [if_pos (by show 32 < t.size; omega)]
    rw [mayE_of (by simp) (by simp), may_value (p := kO) (by simp) rfl of_O (by rw [hv]; decide), hv]; rfl
  · show ((mayE Pa.twoL [⟨1, kO, t.extract 0 32⟩] : Nat) : Int) = 0
    have hs : (t.extract 0 32).size = 32 := by rw [ByteArray.size_extract]; omega
    have hv : value ⟨1, kO, t.extract 0 32⟩ = 0 := by unfold value; rw [if_neg (by show ¬ 32 < (t.extract 0 32).size; omega), if_neg (by rintro ⟨h, -⟩; exact absurd h (by show ¬ (1 : Nat) = 2; decide))]
    rw [mayE_of (by simp) (by simp), may_next (p := kO) (by simp) rfl of_O hv]; rfl
  · show ((mayE Pa.twoL [⟨2, kO, no⟩] : Nat) : Int) = 0
    rw [mayE_of (by decide) (by decide), may_next (p := kO) (by decide) rfl of_O (by decide)]; rfl
theorem tab_small (t : ByteArray) (j : Nat) (hj : j < (tab t).length) : (tab t)[j].1.length ≤ 5 ∧ ∀ o ∈ (tab t)[j].1, o.p.size ≤ 281474976710656 := by
  have h : ∀ p ∈ tab t, p.1.length ≤ 5 ∧ ∀ o ∈ p.1, o.p.size ≤ 281474976710656 := by
    intro p hp
    simp only [tab, List.mem_cons, List.not_mem_nil, or_false] at hp
    rcases hp with rfl | rfl | rfl | rfl | rfl | rfl | rfl | rfl | rfl | rfl | rfl <;> refine ⟨by show _ ≤ 5; simp, fun o ho => ?_⟩ <;> simp only [List.mem_cons, List.not_mem_nil, or_false, or_self] at ho <;> first | (subst ho; show ByteArray.size _ ≤ _; decide) | (subst ho; exact (by decide : kO.size ≤ 281474976710656)) | exact ho.elim
  exact h _ (List.getElem_mem hj)
def del1 : Op := ⟨2, kOb, no⟩
theorem filt_known : filt Pa.twoL [put1, del1] = [put1] := by
  have s1 : Pa.ships Pa.twoL put1.p.data.toList = true := by unfold Pa.ships; rw [show Pa.of3 Pa.twoL put1.p.data.toList = _ from key_of]; rfl
  have s2 : Pa.ships Pa.twoL del1.p.data.toList = false := by unfold Pa.ships; rw [show Pa.of3 Pa.twoL del1.p.data.toList = _ from of_Ob3]; rfl
  unfold filt
  rw [List.filter_cons, s1, if_pos rfl, List.filter_cons, s2, if_neg (by decide), List.filter_nil]
end Ba
end Go.Proofs.Ytlndggbidmmodaa
