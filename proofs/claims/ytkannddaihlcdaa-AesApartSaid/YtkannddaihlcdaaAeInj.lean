/-
  A block's steps can be taken back: blocks that are enciphered to one are one.
-/
import Derived.Test.YtkannddaihlcdaaAeBytes
namespace Go.Proofs.Ytkannddaihlcdaa.Ae
open Sm (be4 be4_lt)

/-- The steps of a column, and how four of them come to nothing. -/
theorem xor5 (a b c d e : Bool) : ((a ^^ b) ^^ c ^^ d ^^ e) = (a ^^ b ^^ c ^^ d ^^ e) := by cases a <;> cases b <;> cases c <;> cases d <;> cases e <;> rfl
theorem mx2 (a b c d : Nat) : mx (mx a b c d) (mx b c d a) (mx c d a b) (mx d a b c) = a ^^^ xt (xt a) ^^^ xt (xt c) := by
  unfold mx
  simp only [xt_xor]
  generalize xt (xt a) = a2
  generalize xt (xt b) = b2
  generalize xt (xt c) = c2
  generalize xt (xt d) = d2
  generalize xt a = a1
  generalize xt b = b1
  generalize xt c = c1
  generalize xt d = d1
  apply Nat.eq_of_testBit_eq
  intro i
  simp only [Nat.testBit_xor]
  generalize a.testBit i = p0
  generalize b.testBit i = p1
  generalize c.testBit i = p2
  generalize d.testBit i = p3
  generalize a1.testBit i = q0
  generalize b1.testBit i = q1
  generalize c1.testBit i = q2
  generalize d1.testBit i = q3
  generalize a2.testBit i = r0
  generalize b2.testBit i = r1
  generalize c2.testBit i = r2
  generalize d2.testBit i = r3
  revert p0 p1 p2 p3 q0 q1 q2 q3 r0 r1 r2 r3
  decide +kernel
theorem mx4 (a c : Nat) : (a ^^^ xt (xt a) ^^^ xt (xt c)) ^^^ xt (xt (a ^^^ xt (xt a) ^^^ xt (xt c))) ^^^ xt (xt (c ^^^ xt (xt c) ^^^ xt (xt a))) = a := by
  simp only [xt_xor]
  generalize xt (xt (xt (xt a))) = a4
  generalize xt (xt (xt (xt c))) = c4
  generalize xt (xt a) = a2
  generalize xt (xt c) = c2
  apply Nat.eq_of_testBit_eq
  intro i
  simp only [Nat.testBit_xor]
  generalize a.testBit i = p0
  generalize c.testBit i = p2
  generalize a2.testBit i = q0
  generalize c2.testBit i = q2
  generalize a4.testBit i = r0
  generalize c4.testBit i = r2
  revert p0 p2 q0 q2 r0 r2
  decide
theorem mx_inj {a b c d a' b' c' d' : Nat} (h0 : mx a b c d = mx a' b' c' d') (h1 : mx b c d a = mx b' c' d' a') (h2 : mx c d a b = mx c' d' a' b') (h3 : mx d a b c = mx d' a' b' c') : a = a' ∧ b = b' ∧ c = c' ∧ d = d' := by
  have e0 := mx2 a b c d
  have e1 := mx2 b c d a
  have e2 := mx2 c d a b
  have e3 := mx2 d a b c
  rw [h0, h1, h2, h3, mx2] at e0
  rw [h0, h1, h2, h3, mx2] at e1
  rw [h0, h1, h2, h3, mx2] at e2
  rw [h0, h1, h2, h3, mx2] at e3
  refine ⟨?_, ?_, ?_, ?_⟩
  · rw [← mx4 a c, ← e0, ← e2, mx4]
  · rw [← mx4 b d, ← e1, ← e3, mx4]
  · rw [← mx4 c a, ← e2, ← e0, mx4]
  · rw [← mx4 d b, ← e3, ← e1, mx4]
theorem mixed_inj {x y : Nat} (hx : x < 4294967296) (hy : y < 4294967296) (h : mixed x = mixed y) : x = y := by
  rw [← be4_byteAt hx, ← be4_byteAt hy] at h ⊢
  have l : ∀ z i, byteAt z i < 256 := byteAt_lt
  rw [mixed_be4 (l _ _) (l _ _) (l _ _) (l _ _), mixed_be4 (l _ _) (l _ _) (l _ _) (l _ _)] at h
  obtain ⟨h0, h1, h2, h3⟩ := be4_inj (mx_lt (l _ _) (l _ _) (l _ _)) (mx_lt (l _ _) (l _ _) (l _ _)) (mx_lt (l _ _) (l _ _) (l _ _)) (mx_lt (l _ _) (l _ _) (l _ _)) (mx_lt (l _ _) (l _ _) (l _ _)) (mx_lt (l _ _) (l _ _) (l _ _)) (mx_lt (l _ _) (l _ _) (l _ _)) (mx_lt (l _ _) (l _ _) (l _ _)) h
  obtain ⟨e0, e1, e2, e3⟩ := mx_inj h0 h1 h2 h3
  rw [e0, e1, e2, e3]
theorem sub1_all : (List.range 256).all (fun i => (List.range 256).all fun j => i == j || !(boxL.getD i 0 == boxL.getD j 0)) = true := by decide +kernel
theorem sub1_inj {x y : Nat} (hx : x < 256) (hy : y < 256) (h : sub1 x = sub1 y) : x = y := by
  have h1 := List.all_eq_true.1 (List.all_eq_true.1 sub1_all x (List.mem_range.2 hx)) y (List.mem_range.2 hy)
  rw [Bool.or_eq_true, beq_iff_eq, Bool.not_eq_true', beq_eq_false_iff_ne] at h1
  rcases h1 with h1 | h1
  · exact h1
  · exact absurd h h1
theorem subW_inj {x y : Nat} (h : subW x = subW y) : byteAt x 0 = byteAt y 0 ∧ byteAt x 1 = byteAt y 1 ∧ byteAt x 2 = byteAt y 2 ∧ byteAt x 3 = byteAt y 3 := by
  obtain ⟨h0, h1, h2, h3⟩ := be4_inj (sub1_lt _) (sub1_lt _) (sub1_lt _) (sub1_lt _) (sub1_lt _) (sub1_lt _) (sub1_lt _) (sub1_lt _) h
  exact ⟨sub1_inj (byteAt_lt _ _) (byteAt_lt _ _) h0, sub1_inj (byteAt_lt _ _) (byteAt_lt _ _) h1, sub1_inj (byteAt_lt _ _) (byteAt_lt _ _) h2, sub1_inj (byteAt_lt _ _) (byteAt_lt _ _) h3⟩
theorem col_bytes (b : List Nat) (i : Nat) : col b i = be4 (sub1 (byteAt (b.getD i 0) 0)) (sub1 (byteAt (b.getD ((i + 1) % 4) 0) 1)) (sub1 (byteAt (b.getD ((i + 2) % 4) 0) 2)) (sub1 (byteAt (b.getD ((i + 3) % 4) 0) 3)) := by
  unfold col subW
  obtain ⟨h0, h1, h2, h3⟩ := byteAt_be4 (byteAt_lt (b.getD i 0) 0) (byteAt_lt (b.getD ((i + 1) % 4) 0) 1) (byteAt_lt (b.getD ((i + 2) % 4) 0) 2) (byteAt_lt (b.getD ((i + 3) % 4) 0) 3)
  rw [h0, h1, h2, h3]
theorem four_ext {b c : List Nat} (hb : b.length = 4) (hc : c.length = 4) (h : ∀ i, i < 4 → b.getD i 0 = c.getD i 0) : b = c := by
  apply List.ext_getElem (by omega)
  intro i h1 h2
  have := h i (by omega)
  simpa [List.getD_eq_getElem?_getD, h1, h2] using this
theorem col_inj {b c : List Nat} (hb : b.length = 4) (hc : c.length = 4) (hbl : ∀ x ∈ b, x < 4294967296) (hcl : ∀ x ∈ c, x < 4294967296) (h : ∀ i, i < 4 → col b i = col c i) : b = c := by
  have key : ∀ i, i < 4 → byteAt (b.getD i 0) 0 = byteAt (c.getD i 0) 0 ∧ byteAt (b.getD ((i + 1) % 4) 0) 1 = byteAt (c.getD ((i + 1) % 4) 0) 1 ∧ byteAt (b.getD ((i + 2) % 4) 0) 2 = byteAt (c.getD ((i + 2) % 4) 0) 2 ∧ byteAt (b.getD ((i + 3) % 4) 0) 3 = byteAt (c.getD ((i + 3) % 4) 0) 3 := by
    intro i hi
    have e := h i hi
    rw [col_bytes, col_bytes] at e
    obtain ⟨h0, h1, h2, h3⟩ := be4_inj (sub1_lt _) (sub1_lt _) (sub1_lt _) (sub1_lt _) (sub1_lt _) (sub1_lt _) (sub1_lt _) (sub1_lt _) e
    exact ⟨sub1_inj (byteAt_lt _ _) (byteAt_lt _ _) h0, sub1_inj (byteAt_lt _ _) (byteAt_lt _ _) h1, sub1_inj (byteAt_lt _ _) (byteAt_lt _ _) h2, sub1_inj (byteAt_lt _ _) (byteAt_lt _ _) h3⟩
  obtain ⟨p0, p1, p2, p3⟩ := key 0 (by decide)
  obtain ⟨q0, q1, q2, q3⟩ := key 1 (by decide)
  obtain ⟨r0, r1, r2, r3⟩ := key 2 (by decide)
  obtain ⟨s0, s1, s2, s3⟩ := key 3 (by decide)
  simp only [Nat.reduceAdd, Nat.reduceMod] at p1 p2 p3 q1 q2 q3 r1 r2 r3 s1 s2 s3
  refine four_ext hb hc fun i hi => ?_
  rw [← be4_byteAt (getD_lt hbl i), ← be4_byteAt (getD_lt hcl i)]
  obtain rfl | rfl | rfl | rfl : i = 0 ∨ i = 1 ∨ i = 2 ∨ i = 3 := by omega
  · rw [p0, s1, r2, q3]
  · rw [q0, p1, s2, r3]
  · rw [r0, q1, p2, s3]
  · rw [s0, r1, q2, p3]
theorem xor_right {a b k : Nat} (h : a ^^^ k = b ^^^ k) : a = b := by
  have := congrArg (· ^^^ k) h
  simpa [Nat.xor_assoc] using this
theorem map4 {f g : Nat → Nat} (h : (List.range 4).map f = (List.range 4).map g) : ∀ i, i < 4 → f i = g i := by
  intro i hi
  have := congrArg (fun l => l[i]?) h
  simpa [hi] using this
theorem round_inj {w : List Nat} {r : Nat} {b c : List Nat} (hb : b.length = 4) (hc : c.length = 4) (hbl : ∀ x ∈ b, x < 4294967296) (hcl : ∀ x ∈ c, x < 4294967296) (h : round w r b = round w r c) : b = c :=
  col_inj hb hc hbl hcl fun i hi => mixed_inj (col_lt _ _) (col_lt _ _) (xor_right (map4 h i hi))
theorem last_inj {w : List Nat} {b c : List Nat} (hb : b.length = 4) (hc : c.length = 4) (hbl : ∀ x ∈ b, x < 4294967296) (hcl : ∀ x ∈ c, x < 4294967296) (h : last w b = last w c) : b = c :=
  col_inj hb hc hbl hcl fun i hi => xor_right (map4 h i hi)
theorem rounds_inj {w b c : List Nat} (hw : ∀ x ∈ w, x < 4294967296) (hb : b.length = 4) (hc : c.length = 4) (hbl : ∀ x ∈ b, x < 4294967296) (hcl : ∀ x ∈ c, x < 4294967296) (n : Nat) (h : rounds w b n = rounds w c n) : b = c := by
  induction n with
  | zero => exact four_ext hb hc fun i hi => xor_right (map4 (f := fun i => b.getD i 0 ^^^ w.getD i 0) (g := fun i => c.getD i 0 ^^^ w.getD i 0) h i hi)
  | succ n ih => exact ih (round_inj (rounds_length _ _ _) (rounds_length _ _ _) (rounds_lt hw hbl n) (rounds_lt hw hcl n) h)
theorem enc_inj {w b c : List Nat} (hw : ∀ x ∈ w, x < 4294967296) (hb : b.length = 4) (hc : c.length = 4) (hbl : ∀ x ∈ b, x < 4294967296) (hcl : ∀ x ∈ c, x < 4294967296) (h : enc w b = enc w c) : b = c :=
  rounds_inj hw hb hc hbl hcl 13 (last_inj (rounds_length _ _ _) (rounds_length _ _ _) (rounds_lt hw hbl 13) (rounds_lt hw hcl 13) h)
theorem bytes_inj {b c : List Nat} (hb : b.length = 4) (hc : c.length = 4) (hbl : ∀ x ∈ b, x < 4294967296) (hcl : ∀ x ∈ c, x < 4294967296) (h : bytes b = bytes c) : b = c := by
  have key : ∀ i, i < 16 → byteAt (b.getD (i / 4) 0) (i % 4) = byteAt (c.getD (i / 4) 0) (i % 4) := by
    intro i hi
    have e := congrArg (fun l => l[i]?) h
    have e2 : outB b i = outB c i := by simpa [bytes, hi] using e
    have e3 := congrArg UInt8.toNat e2
    unfold outB at e3
    rw [UInt8.toNat_ofNat', UInt8.toNat_ofNat', Nat.mod_eq_of_lt (byteAt_lt _ _), Nat.mod_eq_of_lt (byteAt_lt _ _)] at e3
    exact e3
  refine four_ext hb hc fun i hi => ?_
  have k0 := key (4 * i) (by omega)
  have k1 := key (4 * i + 1) (by omega)
  have k2 := key (4 * i + 2) (by omega)
  have k3 := key (4 * i + 3) (by omega)
  rw [show 4 * i / 4 = i by omega, show 4 * i % 4 = 0 by omega] at k0
  rw [show (4 * i + 1) / 4 = i by omega, show (4 * i + 1) % 4 = 1 by omega] at k1
  rw [show (4 * i + 2) / 4 = i by omega, show (4 * i + 2) % 4 = 2 by omega] at k2
  rw [show (4 * i + 3) / 4 = i by omega, show (4 * i + 3) % 4 = 3 by omega] at k3
  rw [← be4_byteAt (getD_lt hbl i), ← be4_byteAt (getD_lt hcl i), k0, k1, k2, k3]
theorem cols_inj {l m : List UInt8} (hl : l.length = 16) (hm : m.length = 16) (h : cols l = cols m) : l = m := by
  have key := map4 h
  have kb : ∀ i, i < 4 → l.getD (4 * i) 0 = m.getD (4 * i) 0 ∧ l.getD (4 * i + 1) 0 = m.getD (4 * i + 1) 0 ∧ l.getD (4 * i + 2) 0 = m.getD (4 * i + 2) 0 ∧ l.getD (4 * i + 3) 0 = m.getD (4 * i + 3) 0 := by
    intro i hi
    obtain ⟨h0, h1, h2, h3⟩ := be4_inj (UInt8.toNat_lt _) (UInt8.toNat_lt _) (UInt8.toNat_lt _) (UInt8.toNat_lt _) (UInt8.toNat_lt _) (UInt8.toNat_lt _) (UInt8.toNat_lt _) (UInt8.toNat_lt _) (key i hi)
    exact ⟨UInt8.toNat_inj.1 h0, UInt8.toNat_inj.1 h1, UInt8.toNat_inj.1 h2, UInt8.toNat_inj.1 h3⟩
  apply List.ext_getElem (by omega)
  intro i h1 h2
  have hg : l.getD i 0 = m.getD i 0 := by
    obtain ⟨k0, k1, k2, k3⟩ := kb (i / 4) (by omega)
    have : i % 4 = 0 ∨ i % 4 = 1 ∨ i % 4 = 2 ∨ i % 4 = 3 := by omega
    rcases this with e | e | e | e
    · rw [show i = 4 * (i / 4) by omega]; exact k0
    · rw [show i = 4 * (i / 4) + 1 by omega]; exact k1
    · rw [show i = 4 * (i / 4) + 2 by omega]; exact k2
    · rw [show i = 4 * (i / 4) + 3 by omega]; exact k3
  simpa [List.getD_eq_getElem?_getD, h1, h2] using hg
theorem block_inj {key l m : List UInt8} (hl : l.length = 16) (hm : m.length = 16) : block key l = block key m ↔ l = m := by
  constructor
  · intro h
    exact cols_inj hl hm (enc_inj (ks_lt key) (cols_length _) (cols_length _) (cols_lt _) (cols_lt _) (bytes_inj (enc_length _ _) (enc_length _ _) (enc_lt (ks_lt key)) (enc_lt (ks_lt key)) h))
  · rintro rfl; rfl
end Go.Proofs.Ytkannddaihlcdaa.Ae
