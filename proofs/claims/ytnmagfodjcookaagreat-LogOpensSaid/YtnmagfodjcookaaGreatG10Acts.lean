/-
  Sectors that stand on a disk, as a statement gives them: what one is, where a slice of them lies, an argument opened.
-/
import Derived.Test.YtnmagfodjcookaaGreatDkActs
import Derived.ProofKit
import Derived.Deep.Slices
import Derived.Deep.Fields
namespace Go.Proofs.YtnmagfodjcookaaGreat
open Go.ChangeMaps (open_string shut_string)
open Go.ChangeShapes Go.WideShapes Go.ChangeAt Go.RowKit Go.Deep
namespace G10
/-- A sector that is given. -/
structure Ac where
  d : Int
  t : ByteArray
  g : Int
  u : Int
  v : Int
  p : Int
structure Ac.Ok (a : Ac) : Prop where
  d : -9223372036854775808 ≤ a.d ∧ a.d ≤ 9223372036854775807
  g : 0 ≤ a.g ∧ a.g ≤ 18446744073709551615
  u : 0 ≤ a.u ∧ a.u ≤ 18446744073709551615
  v : 0 ≤ a.v ∧ a.v ≤ 18446744073709551615
  p : 0 ≤ a.p ∧ a.p ≤ 255
  t : a.t.size ≤ 9223372036854775807
def Ac.cells (a : Ac) : List Value := [.int .i64 a.d, .string a.t, .int .u64 a.g, .int .u64 a.u, .int .u64 a.v, .int .u8 a.p]
def actAt (w : World) (b o : Nat) (a : Ac) : Prop :=
  w.cell? ⟨b, o, none⟩ = some (.int .i64 a.d) ∧ w.cell? ⟨b, o + 1, none⟩ = some (.string a.t) ∧ w.cell? ⟨b, o + 2, none⟩ = some (.int .u64 a.g) ∧ w.cell? ⟨b, o + 3, none⟩ = some (.int .u64 a.u) ∧ w.cell? ⟨b, o + 4, none⟩ = some (.int .u64 a.v) ∧ w.cell? ⟨b, o + 5, none⟩ = some (.int .u8 a.p)
def actsAt (w : World) (b off : Nat) (l : List Ac) : Prop := ∀ k (hk : k < l.length), G10.actAt w b (off + k * 6) l[k]
def listAt (w : World) (A : Option Addr) (l : List Ac) : Prop := l = [] ∨ ∃ b off, A = some ⟨b, off, none⟩ ∧ b < w.heap.size ∧ G10.actsAt w b off l
theorem actAt.below {w w' : World} {b o B : Nat} {x : Ac} (h : G10.actAt w b o x) (k : Below B w w') (hb : b < B) : G10.actAt w' b o x := by
  have e : ∀ i, w'.cell? ⟨b, i, none⟩ = w.cell? ⟨b, i, none⟩ := fun i => k.cell (p := ⟨b, i, none⟩) hb
  unfold G10.actAt
  simp only [e]
  exact h
theorem list_ofg {P : Nat → Ac → Prop} (n : Nat) (h : ∀ i, i < n → ∃ a, P i a) : ∃ l : List Ac, l.length = n ∧ ∀ i (hi : i < l.length), P i l[i] := by
  induction n with
  | zero => exact ⟨[], rfl, fun i hi => by simp at hi⟩
  | succ n ih =>
    obtain ⟨l, hl, hp⟩ := ih fun i hi => h i (by omega)
    obtain ⟨a, ha⟩ := h n (by omega)
    refine ⟨l ++ [a], by simp [hl], fun i hi => ?_⟩
    by_cases hin : i < l.length
    · rw [List.getElem_append_left hin]; exact hp i hin
    · have hie : i = l.length := by simp at hi; omega
      subst hie
      rw [List.getElem_append_right (by omega)]
      simp [hl, ha]
theorem g10_check : (match Tryz.prog.underlying 50 with | some (.struct fs) => decide ((fs.map fun f => f.type) = #[3, 9, 22, 22, 22, 5]) && oneCellFields Tryz.prog fs | _ => false) = true := by kernel_rfl
theorem g10_shape : ∃ fs, Tryz.prog.underlying 50 = some (.struct fs) ∧ (fs.map fun f => f.type) = #[3, 9, 22, 22, 22, 5] ∧ oneCellFields Tryz.prog fs = true := by
  have h := g10_check
  split at h
  · rename_i fs hfs
    simp only [Bool.and_eq_true, decide_eq_true_eq] at h
    exact ⟨fs, hfs, h.1, h.2⟩
  · simp at h
theorem g10_cells : Tryz.prog.cellsOf 50 = 6 := by kernel_rfl
theorem und_g10 : Tryz.prog.underlying 48 = some (.slice 50) := by kernel_rfl
set_option maxRecDepth 100000 in
theorem g10_open {H : Type} {enc : TypeId × Value → H} {W : World} {base : Nat} {sp : Nat → Bool} {held : Bool} {n : Nat} {cs : List Value} {x : DataW H × List MemPlace}
    (h : DataW.trod enc Tryz.prog W base sp held n 50 cs = some x) :
    ∃ a : Ac, a.Ok ∧ cs = a.cells := by
  obtain ⟨fs, hund, htypes, hone⟩ := g10_shape
  obtain ⟨ys, k, _, _, hlen, hyl, hf⟩ := DataW.trod_struct hund h
  rw [g10_cells] at hlen
  have hsz : fs.size = 6 := by have := congrArg Array.size htypes; simpa using this
  have get : ∀ (j : Nat) (t : TypeId), j < 6 → #[3, 9, 22, 22, 22, 5][j]? = some t → ∃ y, DataW.trod enc Tryz.prog W base sp held k t ((cs.drop j).take 1) = some y := by
    intro j t hj ht
    obtain ⟨f, hfj, hft⟩ := Dk.field_at htypes j t ht
    obtain ⟨ho, hc⟩ := hone_of hone j f hfj
    have h1 := hf j f hfj
    rw [ho, hc, hft, List.getElem?_eq_getElem (by omega)] at h1
    exact ⟨_, h1⟩
  match cs, hlen with
  | [c0, c1, c2, c3, c4, c5], _ =>
    obtain ⟨y0, g0⟩ := get 0 3 (by omega) rfl
    obtain ⟨y1, g1⟩ := get 1 9 (by omega) rfl
    obtain ⟨y2, g2⟩ := get 2 22 (by omega) rfl
    obtain ⟨y3, g3⟩ := get 3 22 (by omega) rfl
    obtain ⟨y4, g4⟩ := get 4 22 (by omega) rfl
    obtain ⟨y5, g5⟩ := get 5 5 (by omega) rfl
    obtain ⟨n0, e0, -, r0⟩ := DataW.trod_int Tryz.underlying3 g0
    obtain ⟨n1, e1, -, r1⟩ := DataW.trod_string Tryz.underlying9 g1
    obtain ⟨n2, e2, -, r2⟩ := DataW.trod_int Tryz.underlying22 g2
    obtain ⟨n3, e3, -, r3⟩ := DataW.trod_int Tryz.underlying22 g3
    obtain ⟨n4, e4, -, r4⟩ := DataW.trod_int Tryz.underlying22 g4
    obtain ⟨n5, e5, -, r5⟩ := DataW.trod_int Tryz.underlying5 g5
    simp at e0 e1 e2 e3 e4 e5
    have q0 : -9223372036854775808 ≤ n0 ∧ n0 ≤ 9223372036854775807 := by simpa [Lit.wf, IntKind.min, IntKind.max, IntKind.signed, IntKind.bits] using r0
    have q2 : 0 ≤ n2 ∧ n2 ≤ 18446744073709551615 := by simpa [Lit.wf, IntKind.min, IntKind.max, IntKind.signed, IntKind.bits] using r2
    have q3 : 0 ≤ n3 ∧ n3 ≤ 18446744073709551615 := by simpa [Lit.wf, IntKind.min, IntKind.max, IntKind.signed, IntKind.bits] using r3
    have q4 : 0 ≤ n4 ∧ n4 ≤ 18446744073709551615 := by simpa [Lit.wf, IntKind.min, IntKind.max, IntKind.signed, IntKind.bits] using r4
    have q5 : 0 ≤ n5 ∧ n5 ≤ 255 := by simpa [Lit.wf, IntKind.min, IntKind.max, IntKind.signed, IntKind.bits] using r5
    unfold maxLen at r1
    refine ⟨⟨n0, n1, n2, n3, n4, n5⟩, ⟨q0, q2, q3, q4, q5, by show n1.size ≤ _; omega⟩, ?_⟩
    rw [e0, e1, e2, e3, e4, e5]
    rfl
set_option maxRecDepth 100000 in
/-- A slice of them, opened. -/
theorem open_g10 {H : Type} {enc : TypeId × Value → H} {W : World} {sp : Nat → Bool} {held : Bool} {b0 : Nat} {r : Reach} {v : Value} {d : DataW H} {ps : List MemPlace}
    (hval : Value.okWide Tryz.prog W r b0 48 v) (h : DataW.Trod enc Tryz.prog W 0 sp held 48 v d ps) :
    ∃ A c l, v = .slice A l.length c ∧ l.length ≤ c ∧ c ≤ 9223372036854775807 ∧ G10.listAt W A l ∧ ∀ a ∈ l, a.Ok := by
  obtain ⟨A, len, cap, rfl⟩ := okWide_slice und_g10 hval
  obtain ⟨fuel, hf⟩ := h
  rcases open_slice und_g10 hf with ⟨hcs, _⟩ | ⟨a, len', cap', m, n, D, Pl, hcs, _, hl, hm, hmm, _, hi⟩
  · simp [Value.cells] at hcs
    obtain ⟨rfl, rfl, rfl⟩ := hcs
    exact ⟨none, 0, [], rfl, Nat.le_refl _, by omega, .inl rfl, by simp⟩
  · simp [Value.cells] at hcs
    obtain ⟨rfl, rfl, rfl⟩ := hcs
    have hml : len ≤ m := by rw [hmm]; split <;> omega
    obtain ⟨l, hll, hP⟩ := list_ofg (P := fun i x => x.Ok ∧ ∀ j, j < 6 → W.cell? (a.add (i * 6 + j)) = x.cells[j]?) len (by
      intro i hil
      obtain ⟨cs', hc, ht⟩ := hi i (by omega)
      obtain ⟨x, hx, rfl⟩ := g10_open ht
      refine ⟨x, hx, fun j hj => ?_⟩
      rw [g10_cells] at hc
      have := (World.cells?_some hc).2.2 j hj
      rw [add_add] at this
      exact this)
    subst hll
    refine ⟨some a, cap, l, rfl, hl, hm, ?_, fun x hx => ?_⟩
    · by_cases h0 : l = []
      · exact .inl h0
      · have hpos := List.length_pos_iff.2 h0
        obtain ⟨b, off, spot⟩ := a
        have hc0 := (hP 0 hpos).2 0 (by omega)
        have hspot : spot = none := by simpa [Addr.add] using World.cell?_spot hc0
        subst hspot
        have hlt := World.block_lt_of_cell? W _ hc0
        refine .inr ⟨b, off, rfl, by simpa [Addr.add] using hlt, fun k hk => ?_⟩
        have hj := (hP k hk).2
        simp only [Addr.add_lit] at hj
        exact ⟨hj 0 (by omega), by have := hj 1 (by omega); rw [← Nat.add_assoc] at this; exact this, by have := hj 2 (by omega); rw [← Nat.add_assoc] at this; exact this, by have := hj 3 (by omega); rw [← Nat.add_assoc] at this; exact this, by have := hj 4 (by omega); rw [← Nat.add_assoc] at this; exact this, by have := hj 5 (by omega); rw [← Nat.add_assoc] at this; exact this⟩
    · obtain ⟨i, hi', rfl⟩ := List.getElem_of_mem hx
      exact (hP i hi').1
end G10
end Go.Proofs.YtnmagfodjcookaaGreat
