/-
  The items of the statements as plain data: what each is written as, and what is read for it. No program.
-/
import Derived.Test.YtlndggbidmmodaaModel
namespace Go.Proofs.Ytlndggbidmmodaa.Pk

structure It where
  d : Nat
  n : Nat
  i : Int
  s : ByteArray
  b : Nat
  m : Int

def It.zero : It := ⟨0, 0, 0, ⟨#[]⟩, 0, 0⟩

/-- Each field in its range. -/
structure It.Ok (a : It) : Prop where
  d : a.d < 256
  n : a.n < 2 ^ 64
  i : -9223372036854775808 ≤ a.i ∧ a.i ≤ 9223372036854775807
  s : a.s.size ≤ 140737488351232
  b : a.b < 256
  m : -9223372036854775808 ≤ a.m ∧ a.m ≤ 9223372036854775807

/-- An integer's number. -/
def zig (i : Int) : Nat := if 0 ≤ i then (2 * i).toNat else (-2 * i - 1).toNat
theorem zig_lt {i : Int} (h : -9223372036854775808 ≤ i ∧ i ≤ 9223372036854775807) : zig i < 2 ^ 64 := by unfold zig; split <;> omega
theorem zag_zig (i : Int) : zag (zig i) = i := by unfold zag zig; split <;> split <;> omega

/-- An item's bytes. -/
def encI (a : It) : List UInt8 :=
  if a.d = 0 then enc a.n else if a.d = 1 then enc (zig a.i) else if a.d = 2 then enc a.s.size ++ a.s.data.toList else if a.d = 3 then [UInt8.ofNat a.b] else []
def encs (l : List It) : List UInt8 := l.flatMap encI
def total (l : List It) : Nat := (l.map fun a => a.s.size).sum

theorem total_cons (a : It) (l : List It) : total (a :: l) = a.s.size + total l := by simp [total]
theorem encs_cons (a : It) (l : List It) : encs (a :: l) = encI a ++ encs l := by simp [encs]
theorem encs_append (l m : List It) : encs (l ++ m) = encs l ++ encs m := by simp [encs]
theorem total_append (l m : List It) : total (l ++ m) = total l + total m := by simp [total]

theorem enc_len {n : Nat} (hn : n < 2 ^ 64) : (enc n).length ≤ 10 := by
  have hen := dec_enc n 0 0 [] (by simpa using hn) (by omega) (by omega)
  have := (dec_bd (enc n ++ [])).2.1
  rw [hen] at this
  simpa using this

/-- A number has at most k bytes just if it is below 2 to the 7 k. -/
theorem enc_size (n : Nat) : ∀ k, 1 ≤ k → ((enc n).length ≤ k ↔ n < 2 ^ (7 * k)) := by
  induction n using Nat.strongRecOn with
  | ind n ih =>
    intro k hk
    by_cases hn : 127 < n
    · rw [enc_big hn, List.length_cons]
      obtain ⟨j, rfl⟩ : ∃ j, k = j + 1 := ⟨k - 1, by omega⟩
      rcases Nat.eq_zero_or_pos j with rfl | hj
      · have := List.length_pos_iff.2 (enc_ne (n / 128))
        have e : 2 ^ (7 * (0 + 1)) = 128 := rfl
        rw [e]
        omega
      · have h := ih (n / 128) (by omega) j hj
        rw [pow_step]
        generalize 2 ^ (7 * j) = P at *
        omega
    · rw [enc_small hn]
      have h1 := pow_le hk
      have e : 2 ^ (7 * 1) = 128 := rfl
      simp
      omega

theorem enc_pair (j : Nat) : (enc (2 * j)).length = (enc (2 * j + 1)).length := by
  have ha := List.length_pos_iff.2 (enc_ne (2 * j))
  have hb := List.length_pos_iff.2 (enc_ne (2 * j + 1))
  have h : ∀ k, 1 ≤ k → ((enc (2 * j)).length ≤ k ↔ (enc (2 * j + 1)).length ≤ k) := by
    intro k hk
    rw [enc_size _ k hk, enc_size _ k hk]
    obtain ⟨i, rfl⟩ : ∃ i, k = i + 1 := ⟨k - 1, by omega⟩
    rw [pow_step]
    generalize 2 ^ (7 * i) = P
    omega
  have h1 := (h _ ha).1 (Nat.le_refl _)
  have h2 := (h _ hb).2 (Nat.le_refl _)
  omega
theorem zig_pair (i : Int) : (enc (zig i)).length = (enc (zig (-1 - i))).length := by
  unfold zig
  by_cases h : 0 ≤ i
  · rw [if_pos h, if_neg (by omega), show (2 * i).toNat = 2 * i.toNat from by omega, show (-2 * (-1 - i) - 1).toNat = 2 * i.toNat + 1 from by omega]
    exact enc_pair _
  · rw [if_neg h, if_pos (by omega), show (-2 * i - 1).toNat = 2 * (-1 - i).toNat + 1 from by omega, show (2 * (-1 - i)).toNat = 2 * (-1 - i).toNat from by omega]
    exact (enc_pair _).symm

theorem encI_len {a : It} (h : a.Ok) : (encI a).length ≤ 10 + a.s.size := by
  unfold encI
  have h1 := enc_len h.n
  have h2 := enc_len (zig_lt h.i)
  have h3 := h.s
  have h4 := enc_len (n := a.s.size) (by omega)
  split
  · omega
  · split
    · omega
    · split
      · rw [List.length_append]; simp; omega
      · split <;> simp; omega

theorem encs_len {l : List It} (h : ∀ a ∈ l, a.Ok) : (encs l).length ≤ 10 * l.length + total l := by
  induction l with
  | nil => simp [encs]
  | cons a l ih =>
    have h1 := encI_len (h a (by simp))
    have h2 := ih fun b hb => h b (by simp [hb])
    rw [encs_cons, total_cons, List.length_append, List.length_cons]
    omega

/-- Are there more items than the statements go through? -/
def great (l : List It) : Bool := decide (200 < l.length) || l.any (fun a => decide (30000 < a.s.size)) || decide (30000 < total l)
theorem great_len {l : List It} (h : 200 < l.length) : great l = true := by simp [great, h]
theorem great_one {l : List It} {k : Nat} (hk : k < l.length) (h : 30000 < l[k].s.size) : great l = true := by
  have : l.any (fun a => decide (30000 < a.s.size)) = true := List.any_eq_true.2 ⟨l[k], List.getElem_mem hk, by simpa using h⟩
  simp [great, this]
theorem great_sum {l : List It} (h : 30000 < total l) : great l = true := by simp [great, h]
theorem not_great {l : List It} (h : great l = false) : l.length ≤ 200 ∧ total l ≤ 30000 := by
  simp [great] at h
  omega
theorem great_false {l : List It} (h1 : l.length ≤ 200) (h2 : ∀ k (hk : k < l.length), l[k].s.size ≤ 30000) (h3 : total l ≤ 30000) : great l = false := by
  have : l.any (fun a => decide (30000 < a.s.size)) = false := by
    rw [List.any_eq_false]
    intro a ha
    obtain ⟨k, hk, rfl⟩ := List.getElem_of_mem ha
    have := h2 k hk
    simp; omega
  simp [great, this, h1, h3]

theorem total_take {l : List It} {k : Nat} (h : k < l.length) : total (l.take (k + 1)) = total (l.take k) + l[k].s.size := by
  rw [List.take_succ_eq_append_getElem h, total_append]
  simp [total]
theorem encs_take {l : List It} {k : Nat} (h : k < l.length) : encs (l.take (k + 1)) = encs (l.take k) ++ encI l[k] := by
  rw [List.take_succ_eq_append_getElem h, encs_append]
  simp [encs]
theorem total_take_le (l : List It) (k : Nat) : total (l.take k) ≤ total l := by
  have h := total_append (l.take k) (l.drop k)
  rw [List.take_append_drop] at h
  omega

end Go.Proofs.Ytlndggbidmmodaa.Pk
