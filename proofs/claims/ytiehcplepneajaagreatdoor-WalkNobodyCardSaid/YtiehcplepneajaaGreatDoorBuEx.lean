/-
  The chapter's examples of package bucket, reckoned. No program.
-/
import Derived.Test.YtiehcplepneajaaGreatDoorBuMath
namespace Go.Proofs.YtiehcplepneajaaGreatDoor
namespace Bu
open Om (Pr)
def tA : ByteArray := ⟨#[97, 112, 112, 47, 97]⟩
def tB : ByteArray := ⟨#[97, 112, 112, 47, 98]⟩
def tApp : ByteArray := ⟨#[97, 112, 112]⟩
def t1 : ByteArray := ⟨#[49]⟩
def tNo : ByteArray := ⟨#[]⟩
def one : List Pr := [⟨tA, t1⟩]
def sOne : ByteArray := ⟨#[1, 5, 97, 112, 112, 47, 97, 1, 49]⟩
theorem bkA : bk tA = 3 := by decide +kernel
theorem mayOne : may one = true := by kernel_rfl
theorem mayNone : may [] = true := rfl
theorem mayFall : may [⟨tB, tNo⟩, ⟨tA, tNo⟩] = false := by kernel_rfl
theorem mayTwice : may [⟨tA, tNo⟩, ⟨tA, tNo⟩] = false := by kernel_rfl
theorem mayApp : may [⟨tApp, tNo⟩] = false := by kernel_rfl
theorem allOne : allOf 3 one = true := by simp [allOf, one, isOf, bkA]
theorem allOther {i : Int} (h : i ≠ 3) : allOf i one = false := by
  simp only [allOf, one, List.all_cons, List.all_nil, Bool.and_true, isOf, bkA, decide_eq_false_iff_not]
  omega
theorem pageOne : pageE 3 one = 0 := pageE_of (by decide) mayOne allOne (by decide)
theorem bytesOne : bytes one = sOne.data.toList := by kernel_rfl
theorem pageOther {i : Int} (h : i ≠ 3) : pageE i one = 1 := by
  unfold pageE
  rw [if_pos (.inr (.inr (.inr (allOther h))))]
theorem pageNone {i : Int} (h : 0 ≤ i ∧ i ≤ 15) : pageE i [] = 0 := pageE_of h rfl rfl (by decide)
theorem bytesNone : bytes [] = [0] := by kernel_rfl
theorem pageBeyond : pageE 16 [] = 1 := by unfold pageE; rw [if_pos (.inr (.inl (by decide)))]
theorem readOne : read 3 sOne = (one, 0) := by
  have := read_page pageOne
  rw [bytesOne] at this
  exact this
theorem readNone : read 3 ⟨#[0]⟩ = ([], 0) := by
  have := read_page (i := 3) (l := []) (pageNone (by decide))
  rw [bytesNone] at this
  exact this
theorem readBefore (s : ByteArray) : read (-1) s = ([], 1) := by
  have h : readE (-1) s = 1 := by unfold readE; rw [if_pos (.inl (by decide))]
  unfold read
  rw [h, if_neg (by decide)]
theorem read_of {i : Int} (h : 0 ≤ i ∧ i ≤ 15) {s : ByteArray} {e : Nat} (h0 : e ≠ 0) (he : (rdL s).2.f = e) : read i s = ([], e) := by
  have h : readE i s = e := by unfold readE; rw [if_neg (by omega), if_pos (by rw [he]; exact h0), he]
  unfold read
  rw [h, if_neg h0]
theorem readShort : read 0 ⟨#[]⟩ = ([], 7) := read_of (by decide) (by decide) (by kernel_rfl)
theorem readMany : read 3 ⟨#[49]⟩ = ([], 8) := read_of (by decide) (by decide) (by kernel_rfl)
def sMore : ByteArray := ⟨#[1, 5, 97, 112, 112, 47, 97, 1, 49, 120]⟩
theorem readMore : read 3 sMore = ([], 8) := by
  have := read_behind pageOne (t := [120]) (by simp)
  rw [bytesOne] at this
  exact this
theorem rdOne : (rdL sOne).1 = one := by
  have := (read_only (i := 3) (s := sOne) (by rw [readOne])).1
  rw [readOne] at this
  exact this.symm
theorem readOther {i : Int} (h : 0 ≤ i ∧ i ≤ 15) (hi : i ≠ 3) : read i sOne = ([], 8) := by
  have hf : (rdL sOne).2.f = 0 := by kernel_rfl
  have he : readE i sOne = 8 := by unfold readE; rw [if_neg (by omega), if_neg (by rw [hf]; decide), if_pos (.inr (by rw [rdOne, pageOther hi]; decide))]
  unfold read
  rw [he, if_neg (by decide)]
def sTwice : ByteArray := ⟨#[2, 5, 97, 112, 112, 47, 97, 1, 49, 5, 97, 112, 112, 47, 97, 1, 49]⟩
theorem rdTwice : (rdL sTwice).1 = [⟨tA, t1⟩, ⟨tA, t1⟩] := by kernel_rfl
theorem mayTwice1 : may [⟨tA, t1⟩, ⟨tA, t1⟩] = false := by kernel_rfl
theorem readTwice : read 3 sTwice = ([], 8) := by
  have hf : (rdL sTwice).2.f = 0 := by kernel_rfl
  have hp : pageE 3 [⟨tA, t1⟩, ⟨tA, t1⟩] = 1 := by unfold pageE; rw [if_pos (.inr (.inr (.inl mayTwice1)))]
  have he : readE 3 sTwice = 8 := by unfold readE; rw [if_neg (by decide), if_neg (by rw [hf]; decide), if_pos (.inr (by rw [rdTwice, hp]; decide))]
  unfold read
  rw [he, if_neg (by decide)]
theorem partOne : part one 3 = one := part_same allOne
theorem partOther {i : Int} (h : i ≠ 3) : part one i = [] := by
  unfold part one
  rw [List.filter_cons]
  have : isOf i ⟨tA, t1⟩ = false := by unfold isOf; rw [bkA, decide_eq_false_iff_not]; omega
  rw [this]
  rfl
end Bu
end Go.Proofs.YtiehcplepneajaaGreatDoor
