/-
  Acts upon a disk: what one is, where a slice of them lies, an argument opened; what the statements' helpers call great, and what an act writes.
-/
import Derived.Test.YtnmagfodjcookaaGreatDkAwake
import Derived.ProofKit
import Derived.Deep.Slices
import Derived.Deep.Fields
namespace Go.Proofs.YtnmagfodjcookaaGreat
open Go.ChangeMaps (open_string shut_string)
open Go.ChangeShapes Go.WideShapes Go.ChangeAt Go.RowKit Go.Deep
namespace Dk
/-- An act. -/
structure Ac where
  d : Int
  i : Int
  n : Int
  b : ByteArray
  x : ByteArray
  y : UInt8
  kv : Value
  keep : List Int
structure Ac.Ok (W : World) (a : Ac) : Prop where
  d : -9223372036854775808 ≤ a.d ∧ a.d ≤ 9223372036854775807
  i : -9223372036854775808 ≤ a.i ∧ a.i ≤ 9223372036854775807
  n : -9223372036854775808 ≤ a.n ∧ a.n ≤ 9223372036854775807
  b : a.b.size ≤ 9223372036854775807
  x : a.x.size ≤ 9223372036854775807
  keep : IntsAt W a.kv a.keep
def Ac.cells (a : Ac) : List Value := [.int .i64 a.d, .int .i64 a.i, .int .i64 a.n, .string a.b, .string a.x, .int .u8 a.y.toNat, a.kv]
/-- An act in the statements' bounds. -/
def Ac.Small (a : Ac) : Prop := a.b.size ≤ 200 ∧ a.x.size ≤ 200 ∧ a.keep.length ≤ 100
def actAt (w : World) (b o : Nat) (a : Ac) : Prop :=
  w.cell? ⟨b, o, none⟩ = some (.int .i64 a.d) ∧ w.cell? ⟨b, o + 1, none⟩ = some (.int .i64 a.i) ∧ w.cell? ⟨b, o + 2, none⟩ = some (.int .i64 a.n) ∧
  w.cell? ⟨b, o + 3, none⟩ = some (.string a.b) ∧ w.cell? ⟨b, o + 4, none⟩ = some (.string a.x) ∧ w.cell? ⟨b, o + 5, none⟩ = some (.int .u8 a.y.toNat) ∧ w.cell? ⟨b, o + 6, none⟩ = some a.kv
def actsAt (w : World) (b off : Nat) (l : List Ac) : Prop := ∀ k (hk : k < l.length), actAt w b (off + k * 7) l[k]
def listAt (w : World) (A : Option Addr) (l : List Ac) : Prop := l = [] ∨ ∃ b off, A = some ⟨b, off, none⟩ ∧ b < w.heap.size ∧ actsAt w b off l
theorem actAt.below {w w' : World} {b o B : Nat} {x : Ac} (h : actAt w b o x) (k : Below B w w') (hb : b < B) : actAt w' b o x := by
  have e : ∀ i, w'.cell? ⟨b, i, none⟩ = w.cell? ⟨b, i, none⟩ := fun i => k.cell (p := ⟨b, i, none⟩) hb
  unfold actAt
  simp only [e]
  exact h
theorem actsAt.below {w w' : World} {b off B : Nat} {l : List Ac} (h : actsAt w b off l) (k : Below B w w') (hb : b < B) : actsAt w' b off l := fun j hj => (h j hj).below k hb
theorem actsAt.drop {w : World} {b off : Nat} {l : List Ac} (h : actsAt w b off l) (j : Nat) : actsAt w b (off + j * 7) (l.drop j) := fun k hk => by
  have hk2 : j + k < l.length := by simp at hk; omega
  have := h (j + k) hk2
  rw [List.getElem_drop, show off + j * 7 + k * 7 = off + (j + k) * 7 by omega]
  exact this
theorem list_of {P : Nat → Ac → Prop} (n : Nat) (h : ∀ i, i < n → ∃ a, P i a) : ∃ l : List Ac, l.length = n ∧ ∀ i (hi : i < l.length), P i l[i] := by
  induction n with
  | zero => exact ⟨[], rfl, fun i hi => by simp at hi⟩
  | succ n ih =>
    obtain ⟨l, hl, hp⟩ := ih fun i hi => h i (by omega)
    obtain ⟨a, ha⟩ := h n (by omega)
    refine ⟨l ++ [a], by simp [hl], fun i hi => ?_⟩
    by_cases hin : i < l.length
    · rw [List.getElem_append_left hin]; exact hp i hin
    · have hie : i = l.length := by simp at hi; omega
      subst hie
      rw [List.getElem_append_right (by omega)]
      simp [hl, ha]
theorem ints_of {P : Nat → Int → Prop} (n : Nat) (h : ∀ i, i < n → ∃ a, P i a) : ∃ l : List Int, l.length = n ∧ ∀ i, i < n → P i (l.getD i 0) := by
  induction n with
  | zero => exact ⟨[], rfl, fun i hi => by omega⟩
  | succ n ih =>
    obtain ⟨l, hl, hp⟩ := ih fun i hi => h i (by omega)
    obtain ⟨a, ha⟩ := h n (by omega)
    refine ⟨l ++ [a], by simp [hl], fun i hi => ?_⟩
    rw [List.getD_eq_getElem?_getD]
    by_cases hin : i < n
    · rw [List.getElem?_append_left (by omega), ← List.getD_eq_getElem?_getD]; exact hp i hin
    · have hie : i = n := by omega
      subst hie
      rw [List.getElem?_append_right (by omega)]
      simp [hl, ha]
theorem cells_int : Tryz.prog.cellsOf 3 = 1 := by kernel_rfl
set_option maxRecDepth 100000 in
/-- A slice of numbers, read off its cells. -/
theorem ints_open {H : Type} {enc : TypeId × Value → H} {W : World} {base : Nat} {sp : Nat → Bool} {held : Bool} {n : Nat} {v : Value} {x : DataW H × List MemPlace}
    (h : DataW.trod enc Tryz.prog W base sp held n 44 [v] = some x) : ∃ l, IntsAt W v l := by
  rcases open_slice Tryz.underlying44 h with ⟨hcs, _⟩ | ⟨a, len, cap, m, k, D, Pl, hcs, _, hl, hm, hmm, _, hi⟩
  · simp at hcs
    exact ⟨[], none, 0, hcs, by decide, fun i => by simp, .inl rfl⟩
  · simp at hcs
    have hml : len ≤ m := by rw [hmm]; split <;> omega
    unfold maxLen at hm
    obtain ⟨l, hll, hP⟩ := ints_of (P := fun i x => (-9223372036854775808 ≤ x ∧ x ≤ 9223372036854775807) ∧ W.cell? (a.add i) = some (.int .i64 x)) len (by
      intro i hil
      obtain ⟨cs', hc, ht⟩ := hi i (by omega)
      obtain ⟨k, hk, _, hw⟩ := DataW.trod_int Tryz.underlying3 ht
      have q0 : -9223372036854775808 ≤ k ∧ k ≤ 9223372036854775807 := by simpa [Lit.wf, IntKind.min, IntKind.max, IntKind.signed, IntKind.bits] using hw
      refine ⟨k, q0, ?_⟩
      rw [cells_int] at hc
      have h3 := (World.cells?_some hc).2.2 0 (by omega)
      rw [hk] at h3
      rw [add_add, Nat.mul_one, Nat.add_zero] at h3
      exact h3)
    subst hll
    refine ⟨l, some a, cap, hcs, by omega, fun i => ?_, ?_⟩
    · by_cases hi2 : i < l.length
      · exact (hP i hi2).1
      · rw [List.getD_eq_getElem?_getD, List.getElem?_eq_none (by omega)]; simp
    · by_cases h0 : l = []
      · exact .inl h0
      · have hpos := List.length_pos_iff.2 h0
        obtain ⟨b, off, spot⟩ := a
        have hc0 := (hP 0 hpos).2
        have hspot : spot = none := by simpa [Addr.add] using World.cell?_spot hc0
        subst hspot
        have hlt := World.block_lt_of_cell? W _ hc0
        refine .inr ⟨b, off, rfl, by simpa [Addr.add] using hlt, fun i hi => ?_⟩
        have h3 := (hP i hi).2
        rw [Addr.add_mid] at h3
        exact h3
set_option maxRecDepth 100000 in
theorem open_ints7 {H : Type} {enc : TypeId × Value → H} {W : World} {sp : Nat → Bool} {held : Bool} {b0 : Nat} {r : Reach} {v : Value} {d : DataW H} {ps : List MemPlace}
    (hval : Value.okWide Tryz.prog W r b0 44 v) (h : DataW.Trod enc Tryz.prog W 0 sp held 44 v d ps) :
    ∃ A c l, v = .slice A l.length c ∧ IntsAt W (.slice A l.length c) l := by
  obtain ⟨A, len, cap, rfl⟩ := okWide_slice Tryz.underlying44 hval
  obtain ⟨fuel, hf⟩ := h
  obtain ⟨l, A', c', h1, h2⟩ := ints_open (v := .slice A len cap) (by simpa [Value.cells] using hf)
  simp only [Value.slice.injEq] at h1
  obtain ⟨rfl, rfl, rfl⟩ := h1
  exact ⟨A, cap, l, rfl, A, cap, rfl, h2⟩
theorem field_at {fs : Array Field} {ts : Array TypeId} (hfs : (fs.map fun f => f.type) = ts) (j : Nat) (t : TypeId) (h : ts[j]? = some t) :
    ∃ f, fs[j]? = some f ∧ f.type = t := by
  rw [← hfs, Array.getElem?_map] at h
  cases hf : fs[j]? with
  | none => rw [hf] at h; simp at h
  | some f => rw [hf] at h; exact ⟨f, rfl, by simpa using h⟩
/-- Acts that the statements take. -/
def Fair (l : List Ac) : Prop := l.length ≤ 200 ∧ ∀ j (h : j < l.length), l[j].Small
/-- What an act writes. -/
def data (a : Ac) : List UInt8 := if a.y = 0 then a.b.data.toList else full a.y
end Dk

theorem Dk.listAt.below {w w' : World} {A : Option Addr} {l : List Dk.Ac} (h : Dk.listAt w A l) (k : Below w.heap.size w w') : Dk.listAt w' A l := by
  rcases h with h | ⟨b, off, h1, h2, h3⟩
  · exact .inl h
  · exact .inr ⟨b, off, h1, Nat.lt_of_lt_of_le h2 k.size, h3.below k h2⟩
end Go.Proofs.YtnmagfodjcookaaGreat
