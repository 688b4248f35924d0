/-
  Pairs, and rows of operations, as arguments: where they lie, an argument opened.
-/
import Derived.Test.YtiehcplepneajaaGreatDoorBaActs
import Derived.Test.YtiehcplepneajaaGreatDoorOmMath
namespace Go.Proofs.YtiehcplepneajaaGreatDoor
open Go.ChangeMaps (open_string shut_string)
open Go.ChangeShapes Go.WideShapes Go.ChangeAt Go.RowKit Go.Deep
namespace Om
structure Pr.Ok (x : Pr) : Prop where
  p : x.p.size ≤ 9223372036854775807
  v : x.v.size ≤ 9223372036854775807
def Pr.cells (x : Pr) : List Value := [.string x.p, .string x.v]
def prAt (w : World) (b o : Nat) (x : Pr) : Prop := w.cell? ⟨b, o, none⟩ = some (.string x.p) ∧ w.cell? ⟨b, o + 1, none⟩ = some (.string x.v)
def prsAt (w : World) (b off : Nat) (l : List Pr) : Prop := ∀ k (hk : k < l.length), prAt w b (off + k * 2) l[k]
def listAt (w : World) (A : Option Addr) (l : List Pr) : Prop := l = [] ∨ ∃ b off, A = some ⟨b, off, none⟩ ∧ b < w.heap.size ∧ prsAt w b off l
theorem prAt.below {w w' : World} {b o B : Nat} {x : Pr} (h : prAt w b o x) (k : Below B w w') (hb : b < B) : prAt w' b o x := by
  have e : ∀ i, w'.cell? ⟨b, i, none⟩ = w.cell? ⟨b, i, none⟩ := fun i => k.cell (p := ⟨b, i, none⟩) hb
  unfold prAt
  simp only [e]
  exact h
theorem prsAt.below {w w' : World} {b off B : Nat} {l : List Pr} (h : prsAt w b off l) (k : Below B w w') (hb : b < B) : prsAt w' b off l := fun j hj => (h j hj).below k hb
theorem listAt.below {w w' : World} {A : Option Addr} {l : List Pr} (h : listAt w A l) (k : Below w.heap.size w w') : listAt w' A l := by
  rcases h with h | ⟨b, off, h1, h2, h3⟩
  · exact .inl h
  · exact .inr ⟨b, off, h1, Nat.lt_of_lt_of_le h2 k.size, h3.below k h2⟩
theorem listAt.get {w w' : World} {A : Option Addr} {l : List Pr} (h : listAt w A l) (k : Below w.heap.size w w') (j : Nat) (hj : j < l.length) : ∃ b off, A = some ⟨b, off, none⟩ ∧ b < w.heap.size ∧ prAt w' b (off + j * 2) l[j] := by
  rcases h with rfl | ⟨b, off, rfl, hb, hi⟩
  · simp at hj
  · exact ⟨b, off, rfl, hb, (hi j hj).below k hb⟩
theorem list_of13 {α : Type} {P : Nat → α → Prop} (n : Nat) (h : ∀ i, i < n → ∃ a, P i a) : ∃ l : List α, l.length = n ∧ ∀ i (hi : i < l.length), P i l[i] := by
  induction n with
  | zero => exact ⟨[], rfl, fun i hi => by simp at hi⟩
  | succ n ih =>
    obtain ⟨l, hl, hp⟩ := ih fun i hi => h i (by omega)
    obtain ⟨a, ha⟩ := h n (by omega)
    refine ⟨l ++ [a], by simp [hl], fun i hi => ?_⟩
    by_cases hin : i < l.length
    · rw [List.getElem_append_left hin]; exact hp i hin
    · have hie : i = l.length := by simp at hi; omega
      subst hie
      rw [List.getElem_append_right (by omega)]
      simp [hl, ha]
theorem pair_check : (match Tryz.prog.underlying 79 with | some (.struct fs) => decide ((fs.map fun f => f.type) = #[9, 9]) && oneCellFields Tryz.prog fs | _ => false) = true := by kernel_rfl
theorem pair_shape : ∃ fs, Tryz.prog.underlying 79 = some (.struct fs) ∧ (fs.map fun f => f.type) = #[9, 9] ∧ oneCellFields Tryz.prog fs = true := by
  have h := pair_check
  split at h
  · rename_i fs hfs
    simp only [Bool.and_eq_true, decide_eq_true_eq] at h
    exact ⟨fs, hfs, h.1, h.2⟩
  · simp at h
theorem pair_cells : Tryz.prog.cellsOf 79 = 2 := by kernel_rfl
theorem und_pairs : Tryz.prog.underlying 22 = some (.slice 79) := by kernel_rfl
theorem und_pair : ∃ fs, Tryz.prog.underlying 79 = some (.struct fs) := by obtain ⟨fs, h, _⟩ := pair_shape; exact ⟨fs, h⟩
set_option maxRecDepth 100000 in
theorem pair_open {H : Type} {enc : TypeId × Value → H} {W : World} {base : Nat} {sp : Nat → Bool} {held : Bool} {n : Nat} {cs : List Value} {x : DataW H × List MemPlace}
    (h : DataW.trod enc Tryz.prog W base sp held n 79 cs = some x) : ∃ a : Pr, a.Ok ∧ cs = a.cells := by
  obtain ⟨fs, hund, htypes, hone⟩ := pair_shape
  obtain ⟨ys, k, _, _, hlen, hyl, hf⟩ := DataW.trod_struct hund h
  rw [pair_cells] at hlen
  have hsz : fs.size = 2 := by have := congrArg Array.size htypes; simpa using this
  have get : ∀ (j : Nat) (t : TypeId), j < 2 → #[9, 9][j]? = some t → ∃ y, DataW.trod enc Tryz.prog W base sp held k t ((cs.drop j).take 1) = some y := by
    intro j t hj ht
    obtain ⟨f, hfj, hft⟩ := Ba.field_at12 htypes j t ht
    obtain ⟨ho, hc⟩ := hone_of hone j f hfj
    have h1 := hf j f hfj
    rw [ho, hc, hft, List.getElem?_eq_getElem (by omega)] at h1
    exact ⟨_, h1⟩
  match cs, hlen with
  | [c0, c1], _ =>
    obtain ⟨y0, g0⟩ := get 0 9 (by omega) rfl
    obtain ⟨y1, g1⟩ := get 1 9 (by omega) rfl
    obtain ⟨n0, e0, -, r0⟩ := DataW.trod_string Tryz.underlying9 g0
    obtain ⟨n1, e1, -, r1⟩ := DataW.trod_string Tryz.underlying9 g1
    simp at e0 e1
    unfold maxLen at r0 r1
    refine ⟨⟨n0, n1⟩, ⟨by show n0.size ≤ _; omega, by show n1.size ≤ _; omega⟩, ?_⟩
    rw [e0, e1]
    rfl
set_option maxRecDepth 100000 in
/-- A slice of pairs, opened. -/
theorem open_prs {H : Type} {enc : TypeId × Value → H} {W : World} {sp : Nat → Bool} {held : Bool} {b0 : Nat} {r : Reach} {v : Value} {d : DataW H} {ps : List MemPlace}
    (hval : Value.okWide Tryz.prog W r b0 22 v) (h : DataW.Trod enc Tryz.prog W 0 sp held 22 v d ps) :
    ∃ A c l, v = .slice A l.length c ∧ l.length ≤ 9223372036854775807 ∧ listAt W A l ∧ ∀ a ∈ l, a.Ok := by
  obtain ⟨A, len0, cap0, rfl⟩ := okWide_slice und_pairs hval
  obtain ⟨fuel, hf0⟩ := h
  have hf : DataW.trod enc Tryz.prog W 0 sp held fuel 22 [.slice A len0 cap0] = some (d, ps) := by simpa [Value.cells] using hf0
  rcases open_slice und_pairs hf with ⟨hcs, _⟩ | ⟨a, len, cap, m, k, D, Pl, hcs, _, hl, hm, hmm, _, hi⟩
  · simp at hcs
    obtain ⟨rfl, rfl, rfl⟩ := hcs
    exact ⟨none, 0, [], rfl, by decide, .inl rfl, by simp⟩
  · simp at hcs
    obtain ⟨rfl, rfl, rfl⟩ := hcs
    have hml : len0 ≤ m := by rw [hmm]; split <;> omega
    unfold maxLen at hm
    obtain ⟨l, hll, hP⟩ := list_of13 (P := fun i (x : Pr) => x.Ok ∧ ∀ j, j < 2 → W.cell? (a.add (i * 2 + j)) = x.cells[j]?) len0 (by
      intro i hil
      obtain ⟨cs', hc, ht⟩ := hi i (by omega)
      obtain ⟨x, hx, rfl⟩ := pair_open ht
      refine ⟨x, hx, fun j hj => ?_⟩
      rw [pair_cells] at hc
      have := (World.cells?_some hc).2.2 j hj
      rw [add_add] at this
      exact this)
    subst hll
    refine ⟨some a, cap0, l, rfl, by omega, ?_, fun x hx => ?_⟩
    · by_cases h0 : l = []
      · exact .inl h0
      · have hpos := List.length_pos_iff.2 h0
        obtain ⟨b, off, spot⟩ := a
        have hc0 := (hP 0 hpos).2 0 (by omega)
        have hspot : spot = none := by simpa [Addr.add] using World.cell?_spot hc0
        subst hspot
        have hlt := World.block_lt_of_cell? W _ hc0
        refine .inr ⟨b, off, rfl, by simpa [Addr.add] using hlt, fun k hk => ?_⟩
        have hj := (hP k hk).2
        simp only [Addr.add_lit] at hj
        exact ⟨hj 0 (by omega), by have := hj 1 (by omega); rw [← Nat.add_assoc] at this; exact this⟩
    · obtain ⟨i, hi', rfl⟩ := List.getElem_of_mem hx
      exact (hP i hi').1
/-- A row of operations, and where it lies. -/
structure Rw where
  A : Option Addr
  c : Nat
  l : List Ba.Op
def Rw.v (x : Rw) : Value := .slice x.A x.l.length x.c
structure Rw.Ok (x : Rw) : Prop where
  len : x.l.length ≤ 9223372036854775807
  ops : ∀ o ∈ x.l, o.Ok
def rwAt (w : World) (b o : Nat) (x : Rw) : Prop := w.cell? ⟨b, o, none⟩ = some x.v ∧ Ba.listAt w x.A x.l
def rowsAt (w : World) (A : Option Addr) (L : List Rw) : Prop := L = [] ∨ ∃ b off, A = some ⟨b, off, none⟩ ∧ b < w.heap.size ∧ ∀ k (hk : k < L.length), rwAt w b (off + k) L[k]
theorem rowsAt.get {w w' : World} {A : Option Addr} {L : List Rw} (h : rowsAt w A L) (k : Below w.heap.size w w') (j : Nat) (hj : j < L.length) : ∃ b off, A = some ⟨b, off, none⟩ ∧ b < w.heap.size ∧ rwAt w' b (off + j) L[j] := by
  rcases h with rfl | ⟨b, off, rfl, hb, hi⟩
  · simp at hj
  · have hc := k.cell (p := ⟨b, off + j, none⟩) hb
    exact ⟨b, off, rfl, hb, hc.trans (hi j hj).1, (hi j hj).2.below k⟩
end Om
end Go.Proofs.YtiehcplepneajaaGreatDoor
