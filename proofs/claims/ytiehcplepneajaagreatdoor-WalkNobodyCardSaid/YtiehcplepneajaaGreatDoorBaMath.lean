/-
  Batches: when one is right, its bytes, and what bytes are read as. No program.
-/
import Derived.Test.YtiehcplepneajaaGreatDoorRdMath
import Derived.Test.YtiehcplepneajaaGreatDoorPaMath
namespace Go.Proofs.YtiehcplepneajaaGreatDoor.Ba
open Pk Rm
/-- An operation. -/
structure Op where
  k : Nat
  p : ByteArray
  v : ByteArray
/-- A batch. -/
structure Bt where
  ix : Int
  ep : Int
  ops : List Op
def no : ByteArray := ⟨#[]⟩
def zero : Bt := ⟨0, 0, []⟩
def Op.cells (o : Op) : List Value := [.int .u8 (o.k : Int), .string o.p, .string o.v]
/-- What bars a value. -/
def value (o : Op) : Nat := if 32 < o.v.size then 3 else if o.k = 2 ∧ o.v.size ≠ 0 then 1 else 0
/-- What bars an operation of a batch. -/
def bars (o : Op) : Nat := if o.k ≠ 1 ∧ o.k ≠ 2 then 10 else if Pa.ok o.p.data.toList = false then 20 else value o
def bar : List Op → Nat
  | [] => 0
  | o :: r => if bars o = 0 then bar r else bars o
def right (b : Bt) : Nat := if b.ix < 1 ∨ 4611686018427387904 < b.ix ∨ b.ep < 1 then 1 else if 4 < b.ops.length then 3 else bar b.ops
/-- An operation's bytes. -/
def opB (o : Op) : List UInt8 := UInt8.ofNat o.k :: (txt o.p.data.toList ++ if o.k = 1 then txt o.v.data.toList else [])
def opsB : List Op → List UInt8
  | [] => []
  | o :: r => opB o ++ opsB r
def bytes (b : Bt) : List UInt8 := enc b.ix.toNat ++ (enc b.ep.toNat ++ (enc b.ops.length ++ opsB b.ops))
/-- An operation is read: what it is, the reader behind it, the fault. -/
def rdOp (r : Rd) : Op × Rd × Nat :=
  if r.byte.2.f ≠ 0 then (⟨0, no, no⟩, r.byte.2, r.byte.2.f)
  else if r.byte.1 ≠ 1 ∧ r.byte.1 ≠ 2 then (⟨r.byte.1, no, no⟩, r.byte.2, 10)
  else if (r.byte.2.text 33).2.f ≠ 0 then (⟨r.byte.1, no, no⟩, (r.byte.2.text 33).2, (r.byte.2.text 33).2.f)
  else if r.byte.1 = 1 then (⟨1, ⟨(r.byte.2.text 33).1.toArray⟩, ⟨((r.byte.2.text 33).2.text 32).1.toArray⟩⟩, ((r.byte.2.text 33).2.text 32).2, ((r.byte.2.text 33).2.text 32).2.f)
  else (⟨2, ⟨(r.byte.2.text 33).1.toArray⟩, no⟩, (r.byte.2.text 33).2, 0)
def rdOps : Nat → Rd → List Op × Rd × Nat
  | 0, r => ([], r, 0)
  | n + 1, r => if (rdOp r).2.2 ≠ 0 then ([], (rdOp r).2.1, (rdOp r).2.2) else ((rdOp r).1 :: (rdOps n (rdOp r).2.1).1, (rdOps n (rdOp r).2.1).2)
def rdI (s : ByteArray) : Nat × Rd := Rd.most ⟨s, 0, 0⟩ 4611686018427387904
def rdE (s : ByteArray) : Nat × Rd := (rdI s).2.most 9223372036854775807
def rdN (s : ByteArray) : Nat × Rd := (rdE s).2.most 4
def rdO (s : ByteArray) : List Op × Rd × Nat := rdOps (rdN s).1 (rdN s).2
def got (s : ByteArray) : Bt := ⟨(rdI s).1, (rdE s).1, (rdO s).1⟩
/-- What is wrong with bytes. -/
def fault (s : ByteArray) : Nat :=
  if (rdN s).2.f ≠ 0 then (rdN s).2.f else if (rdO s).2.2 ≠ 0 then (rdO s).2.2 else if (rdO s).2.1.rest ≠ [] then 8 else right (got s)
def read (s : ByteArray) : Bt × Nat := (if fault s = 0 then got s else zero, fault s)

theorem ba_eq (b : ByteArray) : (⟨b.data.toList.toArray⟩ : ByteArray) = b := by cases b; simp
theorem ba_size (b : ByteArray) : b.data.toList.length = b.size := by rw [Array.length_toList]; rfl
theorem ba_no {b : ByteArray} (h : b.size = 0) : b = no := by
  have e : b.data.toList = [] := List.length_eq_zero_iff.1 (by rw [ba_size]; exact h)
  rw [← ba_eq b, e]; rfl
theorem ba_mk (l : List UInt8) : (⟨l.toArray⟩ : ByteArray).data.toList = l := by simp
theorem ba_mk_size (l : List UInt8) : (⟨l.toArray⟩ : ByteArray).size = l.length := by rw [← ba_size, ba_mk]
theorem bars_ok {o : Op} (h : bars o = 0) : (o.k = 1 ∨ o.k = 2) ∧ Pa.ok o.p.data.toList = true ∧ o.v.size ≤ 32 ∧ (o.k = 2 → o.v.size = 0) := by
  unfold bars value at h
  split at h
  · omega
  · split at h
    · omega
    · rename_i h1 h2
      split at h
      · omega
      · split at h
        · omega
        · rename_i h3 h4
          refine ⟨by omega, by simpa using h2, by omega, fun e => ?_⟩
          have := h4
          omega
theorem bars_of {o : Op} (h1 : o.k = 1 ∨ o.k = 2) (h2 : Pa.ok o.p.data.toList = true) (h3 : o.v.size ≤ 32) (h4 : o.k = 2 → o.v.size = 0) : bars o = 0 := by
  unfold bars value
  rw [if_neg (by omega), if_neg (by rw [h2]; decide), if_neg (by omega), if_neg (by omega)]
theorem path_small {o : Op} (h : bars o = 0) : o.p.data.toList.length ≤ 33 := Pa.ok_len (bars_ok h).2.1
theorem bar_ok {l : List Op} (h : bar l = 0) : ∀ o ∈ l, bars o = 0 := by
  induction l with
  | nil => intro o ho; simp at ho
  | cons x r ih =>
    unfold bar at h
    split at h
    · rename_i hx
      intro o ho
      rcases List.mem_cons.1 ho with e | e
      · rw [e]; exact hx
      · exact ih h o e
    · rename_i hx; exact absurd h hx
theorem bar_of {l : List Op} (h : ∀ o ∈ l, bars o = 0) : bar l = 0 := by
  induction l with
  | nil => rfl
  | cons x r ih =>
    unfold bar
    rw [if_pos (h x (by simp))]
    exact ih fun o ho => h o (by simp [ho])
theorem right_ok {b : Bt} (h : right b = 0) : (1 ≤ b.ix ∧ b.ix ≤ 4611686018427387904) ∧ 1 ≤ b.ep ∧ b.ops.length ≤ 4 ∧ ∀ o ∈ b.ops, bars o = 0 := by
  unfold right at h
  split at h
  · omega
  · split at h
    · omega
    · exact ⟨by omega, by omega, by omega, bar_ok h⟩
theorem right_of {b : Bt} (h1 : 1 ≤ b.ix ∧ b.ix ≤ 4611686018427387904) (h2 : 1 ≤ b.ep) (h3 : b.ops.length ≤ 4) (h4 : ∀ o ∈ b.ops, bars o = 0) : right b = 0 := by
  unfold right
  rw [if_neg (by omega), if_neg (by omega)]
  exact bar_of h4
theorem kind_byte {k : Nat} (h : k = 1 ∨ k = 2) : (UInt8.ofNat k).toNat = k := by rcases h with rfl | rfl <;> rfl

/-- What was written is read. -/
theorem rdOp_on {o : Op} (h : bars o = 0) {r : Rd} {tail : List UInt8} (hf : r.f = 0) (hr : r.rest = opB o ++ tail) : (rdOp r).1 = o ∧ (rdOp r).2.2 = 0 ∧ (rdOp r).2.1.f = 0 ∧ (rdOp r).2.1.rest = tail := by
  obtain ⟨hk, hp, hv, h2⟩ := bars_ok h
  have hpl := path_small h
  have hvl := ba_size o.v
  obtain ⟨b1, b2, b3⟩ := byte_on (x := UInt8.ofNat o.k) (tail := (txt o.p.data.toList ++ if o.k = 1 then txt o.v.data.toList else []) ++ tail) hf (by rw [hr]; rfl)
  rw [kind_byte hk] at b1
  obtain ⟨t1, t2, t3⟩ := text_on (l := o.p.data.toList) (tail := (if o.k = 1 then txt o.v.data.toList else []) ++ tail) (m := 33) b2 (by rw [b3, List.append_assoc]) (by omega) (by omega)
  unfold rdOp
  rw [if_neg (by rw [b2]; decide), if_neg (by rw [b1]; omega), if_neg (by rw [t2]; decide)]
  by_cases h1 : o.k = 1
  · rw [if_pos h1] at t3
    obtain ⟨v1, v2, v3⟩ := text_on (l := o.v.data.toList) (tail := tail) (m := 32) t2 t3 (by omega) (by omega)
    rw [if_pos (by rw [b1]; exact h1)]
    refine ⟨?_, v2, v2, v3⟩
    rw [t1, v1, ba_eq, ba_eq, ← h1]
  · rw [if_neg h1] at t3
    rw [if_neg (by rw [b1]; exact h1)]
    refine ⟨?_, rfl, t2, t3⟩
    have hk2 : o.k = 2 := by omega
    rw [t1, ba_eq, ← ba_no (h2 hk2), ← hk2]
theorem rdOps_on : ∀ {l : List Op} (_ : ∀ o ∈ l, bars o = 0) {r : Rd} {tail : List UInt8} (_ : r.f = 0) (_ : r.rest = opsB l ++ tail), (rdOps l.length r).1 = l ∧ (rdOps l.length r).2.2 = 0 ∧ (rdOps l.length r).2.1.f = 0 ∧ (rdOps l.length r).2.1.rest = tail
  | [], _, r, tail, hf, hr => ⟨rfl, rfl, hf, hr⟩
  | o :: l, h, r, tail, hf, hr => by
    obtain ⟨a1, a2, a3, a4⟩ := rdOp_on (h o (by simp)) (tail := opsB l ++ tail) hf (by rw [hr, opsB, List.append_assoc])
    obtain ⟨c1, c2, c3, c4⟩ := rdOps_on (fun x hx => h x (by simp [hx])) a3 a4
    rw [List.length_cons]
    unfold rdOps
    rw [if_neg (by rw [a2]; decide)]
    exact ⟨by rw [a1, c1], c2, c3, c4⟩
theorem got_on {b : Bt} (h : right b = 0) (he : b.ep ≤ 9223372036854775807) {s : ByteArray} {tail : List UInt8} (hs : s.data.toList = bytes b ++ tail) : got s = b ∧ (rdN s).2.f = 0 ∧ (rdO s).2.2 = 0 ∧ (rdO s).2.1.rest = tail := by
  obtain ⟨h1, h2, h3, h4⟩ := right_ok h
  have r0 : Rd.rest ⟨s, 0, 0⟩ = s.data.toList := rfl
  obtain ⟨i1, i2, i3⟩ := most_on (r := ⟨s, 0, 0⟩) (n := b.ix.toNat) (tail := (enc b.ep.toNat ++ (enc b.ops.length ++ opsB b.ops)) ++ tail) (m := 4611686018427387904) rfl (by rw [r0, hs, bytes]; simp only [List.append_assoc]) (by omega) (by omega)
  obtain ⟨e1, e2, e3⟩ := most_on (n := b.ep.toNat) (tail := (enc b.ops.length ++ opsB b.ops) ++ tail) (m := 9223372036854775807) i2 (by rw [i3]; simp only [List.append_assoc]) (by omega) (by omega)
  obtain ⟨n1, n2, n3⟩ := most_on (n := b.ops.length) (tail := opsB b.ops ++ tail) (m := 4) e2 (by rw [e3]; simp only [List.append_assoc]) (by omega) (by omega)
  obtain ⟨o1, o2, o3, o4⟩ := rdOps_on h4 n2 n3
  have hn : (rdN s).1 = b.ops.length := n1
  have ho : rdO s = rdOps b.ops.length (rdN s).2 := by unfold rdO; rw [hn]
  refine ⟨?_, n2, by rw [ho]; exact o2, by rw [ho]; exact o4⟩
  have e1' : (rdE s).1 = b.ep.toNat := e1
  have i1' : (rdI s).1 = b.ix.toNat := i1
  unfold got
  rw [ho, e1', i1']
  obtain ⟨ix, ep, ops⟩ := b
  simp only at h1 h2 o1 ⊢
  congr 1
  · omega
  · omega
/-- A batch's bytes are read as it. -/
theorem read_bytes {b : Bt} (h : right b = 0) (he : b.ep ≤ 9223372036854775807) : read ⟨(bytes b).toArray⟩ = (b, 0) := by
  obtain ⟨g1, g2, g3, g4⟩ := got_on h he (s := ⟨(bytes b).toArray⟩) (tail := []) (by rw [ba_mk, List.append_nil])
  have hf : fault ⟨(bytes b).toArray⟩ = 0 := by
    unfold fault
    rw [if_neg (by rw [g2]; decide), if_neg (by rw [g3]; decide), if_neg (by rw [g4]; simp), g1]
    exact h
  unfold read
  rw [hf, if_pos rfl, g1]
/-- With anything behind they are not. -/
theorem read_behind {b : Bt} (h : right b = 0) (he : b.ep ≤ 9223372036854775807) {t : List UInt8} (ht : t ≠ []) : read ⟨(bytes b ++ t).toArray⟩ = (zero, 8) := by
  obtain ⟨g1, g2, g3, g4⟩ := got_on h he (s := ⟨(bytes b ++ t).toArray⟩) (tail := t) (by rw [ba_mk])
  have hf : fault ⟨(bytes b ++ t).toArray⟩ = 8 := by
    unfold fault
    rw [if_neg (by rw [g2]; decide), if_neg (by rw [g3]; decide), if_pos (by rw [g4]; exact ht)]
  unfold read
  rw [hf, if_neg (by decide)]

/-- What was read without a fault has just these bytes. -/
theorem rdOp_went {r : Rd} (h : (rdOp r).2.2 = 0) : r.f = 0 ∧ r.rest = opB (rdOp r).1 ++ (rdOp r).2.1.rest ∧ (rdOp r).2.1.f = 0 ∧ ((rdOp r).1.k = 1 ∨ (rdOp r).1.k = 2) := by
  unfold rdOp at h ⊢
  by_cases h1 : r.byte.2.f = 0
  · rw [if_neg (by rw [h1]; decide)] at h ⊢
    have w1 := byte_went h1
    by_cases h2 : r.byte.1 ≠ 1 ∧ r.byte.1 ≠ 2
    · rw [if_pos h2] at h; exact absurd h (by simp)
    · rw [if_neg h2] at h ⊢
      by_cases h3 : (r.byte.2.text 33).2.f = 0
      · rw [if_neg (by rw [h3]; decide)] at h ⊢
        have w2 := text_went h3
        by_cases h4 : r.byte.1 = 1
        · rw [if_pos h4] at h ⊢
          have w3 := text_went h
          refine ⟨w1.f, ?_, h, .inl rfl⟩
          rw [w1.rest, w2.rest, w3.rest, h4]
          simp [opB]
        · rw [if_neg h4] at h ⊢
          have h5 : r.byte.1 = 2 := by omega
          refine ⟨w1.f, ?_, h3, .inr rfl⟩
          rw [w1.rest, w2.rest, h5]
          simp [opB]
      · rw [if_pos h3] at h; exact absurd h h3
  · rw [if_pos h1] at h; exact absurd h h1
theorem rdOps_went : ∀ (n : Nat) {r : Rd} (_ : r.f = 0) (_ : (rdOps n r).2.2 = 0), r.rest = opsB (rdOps n r).1 ++ (rdOps n r).2.1.rest ∧ (rdOps n r).1.length = n ∧ (rdOps n r).2.1.f = 0
  | 0, r, hf, _ => ⟨rfl, rfl, hf⟩
  | n + 1, r, hf, h => by
    unfold rdOps at h ⊢
    by_cases h1 : (rdOp r).2.2 = 0
    · rw [if_neg (by rw [h1]; decide)] at h ⊢
      obtain ⟨-, a2, a3, -⟩ := rdOp_went h1
      obtain ⟨c1, c2, c3⟩ := rdOps_went n a3 h
      refine ⟨?_, by rw [List.length_cons, c2], c3⟩
      rw [opsB, List.append_assoc, ← c1]
      exact a2
    · rw [if_pos h1] at h; exact absurd h h1
theorem got_went {s : ByteArray} (h : fault s = 0) : bytes (got s) = s.data.toList ∧ right (got s) = 0 := by
  unfold fault at h
  by_cases h1 : (rdN s).2.f = 0
  · rw [if_neg (by rw [h1]; decide)] at h
    by_cases h2 : (rdO s).2.2 = 0
    · rw [if_neg (by rw [h2]; decide)] at h
      by_cases h3 : (rdO s).2.1.rest = []
      · rw [if_neg (by rw [h3]; simp)] at h
        have w3 := most_went (r := (rdE s).2) (m := 4) h1
        have w2 := most_went (r := (rdI s).2) (m := 9223372036854775807) w3.f
        have w1 := most_went (r := ⟨s, 0, 0⟩) (m := 4611686018427387904) w2.f
        obtain ⟨o1, o2, -⟩ := rdOps_went (rdN s).1 (r := (rdN s).2) h1 h2
        have e3 : (rdOps (rdN s).1 (rdN s).2).2.1.rest = [] := h3
        rw [e3, List.append_nil] at o1
        refine ⟨?_, h⟩
        have r1 : s.data.toList = enc (rdI s).1 ++ (rdI s).2.rest := w1.rest
        have r2 : (rdI s).2.rest = enc (rdE s).1 ++ (rdE s).2.rest := w2.rest
        have r3 : (rdE s).2.rest = enc (rdN s).1 ++ (rdN s).2.rest := w3.rest
        rw [r1, r2, r3, o1]
        unfold bytes got
        simp only [Int.toNat_natCast]
        have o2' : (rdO s).1.length = (rdN s).1 := o2
        rw [o2']
        rfl
      · rw [if_pos h3] at h; exact absurd h (by decide)
    · rw [if_pos h2] at h; exact absurd h h2
  · rw [if_pos h1] at h; exact absurd h h1
theorem got_numbers (s : ByteArray) : (got s).ix ≤ 4611686018427387904 ∧ (got s).ep ≤ 9223372036854775807 := by
  have h1 := most_le ⟨s, 0, 0⟩ 4611686018427387904 (by decide)
  have h2 := most_le (rdI s).2 9223372036854775807 (by decide)
  exact ⟨h1, h2⟩

/-- A proper beginning of them ends too early. -/
theorem rdOp_part {o : Op} (h : bars o = 0) {r : Rd} {j : Nat} (hf : r.f = 0) (hr : r.rest = (opB o).take j) (hj : j < (opB o).length) : (rdOp r).2.2 = 7 := by
  obtain ⟨hk, hp, hv, h2⟩ := bars_ok h
  have hpl := path_small h
  have hvl := ba_size o.v
  match j with
  | 0 =>
    have b := byte_part hf (by rw [hr]; rfl)
    unfold rdOp
    rw [if_pos (by rw [b]; decide)]
    exact b
  | j + 1 =>
    have hr' : r.rest = UInt8.ofNat o.k :: (txt o.p.data.toList ++ if o.k = 1 then txt o.v.data.toList else []).take j := by rw [hr]; rfl
    obtain ⟨b1, b2, b3⟩ := byte_on hf hr'
    rw [kind_byte hk] at b1
    unfold rdOp
    rw [if_neg (by rw [b2]; decide), if_neg (by rw [b1]; omega)]
    rcases part_two (txt o.p.data.toList) (if o.k = 1 then txt o.v.data.toList else []) j with ⟨q1, q2⟩ | ⟨q1, q2⟩
    · have t := text_part (l := o.p.data.toList) (m := 33) b2 (by omega) (by omega) (b3.trans q2) q1
      rw [if_pos (by rw [t]; decide)]
      exact t
    · obtain ⟨t1, t2, t3⟩ := text_on (l := o.p.data.toList) (m := 33) b2 (b3.trans q2) (by omega) (by omega)
      rw [if_neg (by rw [t2]; decide)]
      by_cases h1 : o.k = 1
      · rw [if_pos h1] at t3
        rw [if_pos (by rw [b1]; exact h1)]
        refine text_part (l := o.v.data.toList) t2 (by omega) (by omega) t3 ?_
        have e : (opB o).length = 1 + ((txt o.p.data.toList).length + (txt o.v.data.toList).length) := by simp [opB, h1]; omega
        omega
      · exfalso
        have e : (opB o).length = 1 + (txt o.p.data.toList).length := by simp [opB, h1]; omega
        omega
theorem rdOps_part : ∀ {l : List Op} (_ : ∀ o ∈ l, bars o = 0) {r : Rd} {j : Nat} (_ : r.f = 0) (_ : r.rest = (opsB l).take j) (_ : j < (opsB l).length), (rdOps l.length r).2.2 = 7
  | [], _, r, j, _, _, hj => by simp [opsB] at hj
  | o :: l, h, r, j, hf, hr, hj => by
    rw [List.length_cons]
    unfold rdOps
    rcases part_two (opB o) (opsB l) j with ⟨q1, q2⟩ | ⟨q1, q2⟩
    · have t := rdOp_part (h o (by simp)) hf (hr.trans q2) q1
      rw [if_pos (by rw [t]; decide)]
      exact t
    · obtain ⟨a1, a2, a3, a4⟩ := rdOp_on (h o (by simp)) hf (hr.trans q2)
      rw [if_neg (by rw [a2]; decide)]
      refine rdOps_part (fun x hx => h x (by simp [hx])) a3 a4 ?_
      rw [opsB, List.length_append] at hj
      omega
theorem read_part {b : Bt} (h : right b = 0) (he : b.ep ≤ 9223372036854775807) {k : Nat} (hk : k < (bytes b).length) : read ⟨((bytes b).take k).toArray⟩ = (zero, 7) := by
  obtain ⟨h1, h2, h3, h4⟩ := right_ok h
  obtain ⟨s, hs⟩ : ∃ s : ByteArray, s = ⟨((bytes b).take k).toArray⟩ := ⟨_, rfl⟩
  have r0 : Rd.rest ⟨s, 0, 0⟩ = (bytes b).take k := by rw [hs]; exact ba_mk _
  have fin : fault s = 7 → read s = (zero, 7) := fun hf => by unfold read; rw [hf, if_neg (by decide)]
  rw [← hs]
  refine fin ?_
  clear hs
  have hbl : (bytes b).length = (enc b.ix.toNat).length + ((enc b.ep.toNat).length + ((enc b.ops.length).length + (opsB b.ops).length)) := by simp [bytes]
  have bad : ∀ {m : Int} {r : Rd}, r.f ≠ 0 → (r.most m).2 = r := fun {m r} hr => by unfold Rd.most Rd.go; rw [if_neg hr]
  rw [bytes] at r0
  rcases part_two (enc b.ix.toNat) (enc b.ep.toNat ++ (enc b.ops.length ++ opsB b.ops)) k with ⟨q1, q2⟩ | ⟨q1, q2⟩
  · have t : (rdI s).2.f = 7 := most_part (r := ⟨s, 0, 0⟩) rfl (by omega) (r0.trans q2) q1 _
    have t2 : (rdE s).2 = (rdI s).2 := bad (by rw [t]; decide)
    have t3 : (rdN s).2 = (rdE s).2 := bad (by rw [t2, t]; decide)
    unfold fault
    rw [t3, t2, t]
    rfl
  · obtain ⟨i1, i2, i3⟩ := most_on (r := ⟨s, 0, 0⟩) (m := 4611686018427387904) rfl (r0.trans q2) (by omega) (by omega)
    rcases part_two (enc b.ep.toNat) (enc b.ops.length ++ opsB b.ops) (k - (enc b.ix.toNat).length) with ⟨p1, p2⟩ | ⟨p1, p2⟩
    · have t2 : (rdE s).2.f = 7 := most_part i2 (by omega) (i3.trans p2) p1 _
      have t3 : (rdN s).2 = (rdE s).2 := bad (by rw [t2]; decide)
      unfold fault
      rw [t3, t2]
      rfl
    · obtain ⟨e1, e2, e3⟩ := most_on (m := 9223372036854775807) i2 (i3.trans p2) (by omega) (by omega)
      rcases part_two (enc b.ops.length) (opsB b.ops) (k - (enc b.ix.toNat).length - (enc b.ep.toNat).length) with ⟨u1, u2⟩ | ⟨u1, u2⟩
      · have t3 : (rdN s).2.f = 7 := most_part e2 (by omega) (e3.trans u2) u1 _
        unfold fault
        rw [t3]
        rfl
      · obtain ⟨n1, n2, n3⟩ := most_on (m := 4) e2 (e3.trans u2) (by omega) (by omega)
        have n1' : (rdN s).1 = b.ops.length := n1
        have n2' : (rdN s).2.f = 0 := n2
        have t := rdOps_part h4 n2 n3 (by omega)
        have t' : (rdO s).2.2 = 7 := by unfold rdO; rw [n1']; exact t
        unfold fault
        rw [if_neg (by rw [n2']; decide), if_pos (by rw [t']; decide)]
        exact t'
end Go.Proofs.YtiehcplepneajaaGreatDoor.Ba
