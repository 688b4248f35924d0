/-
  Sectors that stand on a disk, as a statement gives them: what one is, where a slice of them lies, an argument opened.
-/
import Derived.Test.YtmdhnokgjapglaaDkActs
import Derived.ProofKit
import Derived.Deep.Slices
import Derived.Deep.Fields
namespace Go.Proofs.Ytmdhnokgjapglaa
open Go.ChangeMaps (open_string shut_string)
open Go.ChangeShapes Go.WideShapes Go.ChangeAt Go.RowKit Go.Deep
namespace Gv
/-- A sector that is given. -/
structure Ac where
  d : Int
  t : ByteArray
  g : Int
  p : Int
structure Ac.Ok (a : Ac) : Prop where
  d : -9223372036854775808 ≤ a.d ∧ a.d ≤ 9223372036854775807
  g : 0 ≤ a.g ∧ a.g ≤ 18446744073709551615
  p : 0 ≤ a.p ∧ a.p ≤ 255
  t : a.t.size ≤ 9223372036854775807
def Ac.cells (a : Ac) : List Value := [.int .i64 a.d, .string a.t, .int .u64 a.g, .int .u8 a.p]
def actAt (w : World) (b o : Nat) (a : Ac) : Prop :=
  w.cell? ⟨b, o, none⟩ = some (.int .i64 a.d) ∧ w.cell? ⟨b, o + 1, none⟩ = some (.string a.t) ∧ w.cell? ⟨b, o + 2, none⟩ = some (.int .u64 a.g) ∧ w.cell? ⟨b, o + 3, none⟩ = some (.int .u8 a.p)
def actsAt (w : World) (b off : Nat) (l : List Ac) : Prop := ∀ k (hk : k < l.length), Gv.actAt w b (off + k * 4) l[k]
def listAt (w : World) (A : Option Addr) (l : List Ac) : Prop := l = [] ∨ ∃ b off, A = some ⟨b, off, none⟩ ∧ b < w.heap.size ∧ Gv.actsAt w b off l
theorem actAt.below {w w' : World} {b o B : Nat} {x : Ac} (h : Gv.actAt w b o x) (k : Below B w w') (hb : b < B) : Gv.actAt w' b o x := by
  have e : ∀ i, w'.cell? ⟨b, i, none⟩ = w.cell? ⟨b, i, none⟩ := fun i => k.cell (p := ⟨b, i, none⟩) hb
  unfold Gv.actAt
  simp only [e]
  exact h
theorem list_ofg {P : Nat → Ac → Prop} (n : Nat) (h : ∀ i, i < n → ∃ a, P i a) : ∃ l : List Ac, l.length = n ∧ ∀ i (hi : i < l.length), P i l[i] := by
  induction n with
  | zero => exact ⟨[], rfl, fun i hi => by simp at hi⟩
  | succ n ih =>
    obtain ⟨l, hl, hp⟩ := ih fun i hi => h i (by omega)
    obtain ⟨a, ha⟩ := h n (by omega)
    refine ⟨l ++ [a], by simp [hl], fun i hi => ?_⟩
    by_cases hin : i < l.length
    · rw [List.getElem_append_left hin]; exact hp i hin
    · have hie : i = l.length := by simp at hi; omega
      subst hie
      rw [List.getElem_append_right (by omega)]
      simp [hl, ha]
theorem gv_check : (match Try.prog.underlying 53 with | some (.struct fs) => decide ((fs.map fun f => f.type) = #[3, 9, 37, 5]) && oneCellFields Try.prog fs | _ => false) = true := by kernel_rfl
theorem gv_shape : ∃ fs, Try.prog.underlying 53 = some (.struct fs) ∧ (fs.map fun f => f.type) = #[3, 9, 37, 5] ∧ oneCellFields Try.prog fs = true := by
  have h := gv_check
  split at h
  · rename_i fs hfs
    simp only [Bool.and_eq_true, decide_eq_true_eq] at h
    exact ⟨fs, hfs, h.1, h.2⟩
  · simp at h
theorem gv_cells : Try.prog.cellsOf 53 = 4 := by kernel_rfl
theorem und_gvs : Try.prog.underlying 51 = some (.slice 53) := by kernel_rfl
set_option maxRecDepth 100000 in
theorem gv_open {H : Type} {enc : TypeId × Value → H} {W : World} {base : Nat} {sp : Nat → Bool} {held : Bool} {n : Nat} {cs : List Value} {x : DataW H × List MemPlace}
    (h : DataW.trod enc Try.prog W base sp held n 53 cs = some x) :
    ∃ a : Ac, a.Ok ∧ cs = a.cells := by
  obtain ⟨fs, hund, htypes, hone⟩ := gv_shape
  obtain ⟨ys, k, _, _, hlen, hyl, hf⟩ := DataW.trod_struct hund h
  rw [gv_cells] at hlen
  have hsz : fs.size = 4 := by have := congrArg Array.size htypes; simpa using this
  have get : ∀ (j : Nat) (t : TypeId), j < 4 → #[3, 9, 37, 5][j]? = some t → ∃ y, DataW.trod enc Try.prog W base sp held k t ((cs.drop j).take 1) = some y := by
    intro j t hj ht
    obtain ⟨f, hfj, hft⟩ := Dk.field_at htypes j t ht
    obtain ⟨ho, hc⟩ := hone_of hone j f hfj
    have h1 := hf j f hfj
    rw [ho, hc, hft, List.getElem?_eq_getElem (by omega)] at h1
    exact ⟨_, h1⟩
  match cs, hlen with
  | [c0, c1, c2, c3], _ =>
    obtain ⟨y0, g0⟩ := get 0 3 (by omega) rfl
    obtain ⟨y1, g1⟩ := get 1 9 (by omega) rfl
    obtain ⟨y2, g2⟩ := get 2 37 (by omega) rfl
    obtain ⟨y3, g3⟩ := get 3 5 (by omega) rfl
    obtain ⟨n0, e0, -, r0⟩ := DataW.trod_int Try.underlying3 g0
    obtain ⟨n1, e1, -, r1⟩ := DataW.trod_string Try.underlying9 g1
    obtain ⟨n2, e2, -, r2⟩ := DataW.trod_int Try.underlying37 g2
    obtain ⟨n3, e3, -, r3⟩ := DataW.trod_int Try.underlying5 g3
    simp at e0 e1 e2 e3
    have q0 : -9223372036854775808 ≤ n0 ∧ n0 ≤ 9223372036854775807 := by simpa [Lit.wf, IntKind.min, IntKind.max, IntKind.signed, IntKind.bits] using r0
    have q2 : 0 ≤ n2 ∧ n2 ≤ 18446744073709551615 := by simpa [Lit.wf, IntKind.min, IntKind.max, IntKind.signed, IntKind.bits] using r2
    have q3 : 0 ≤ n3 ∧ n3 ≤ 255 := by simpa [Lit.wf, IntKind.min, IntKind.max, IntKind.signed, IntKind.bits] using r3
    unfold maxLen at r1
    refine ⟨⟨n0, n1, n2, n3⟩, ⟨q0, q2, q3, by show n1.size ≤ _; omega⟩, ?_⟩
    rw [e0, e1, e2, e3]
    rfl
set_option maxRecDepth 100000 in
/-- A slice of them, opened. -/
theorem open_gvs {H : Type} {enc : TypeId × Value → H} {W : World} {sp : Nat → Bool} {held : Bool} {b0 : Nat} {r : Reach} {v : Value} {d : DataW H} {ps : List MemPlace}
    (hval : Value.okWide Try.prog W r b0 51 v) (h : DataW.Trod enc Try.prog W 0 sp held 51 v d ps) :
    ∃ A c l, v = .slice A l.length c ∧ l.length ≤ c ∧ c ≤ 9223372036854775807 ∧ Gv.listAt W A l ∧ ∀ a ∈ l, a.Ok := by
  obtain ⟨A, len, cap, rfl⟩ := okWide_slice und_gvs hval
  obtain ⟨fuel, hf⟩ := h
  rcases open_slice und_gvs hf with ⟨hcs, _⟩ | ⟨a, len', cap', m, n, D, Pl, hcs, _, hl, hm, hmm, _, hi⟩
  · simp [Value.cells] at hcs
    obtain ⟨rfl, rfl, rfl⟩ := hcs
    exact ⟨none, 0, [], rfl, Nat.le_refl _, by omega, .inl rfl, by simp⟩
  · simp [Value.cells] at hcs
    obtain ⟨rfl, rfl, rfl⟩ := hcs
    have hml : len ≤ m := by rw [hmm]; split <;> omega
    obtain ⟨l, hll, hP⟩ := list_ofg (P := fun i x => x.Ok ∧ ∀ j, j < 4 → W.cell? (a.add (i * 4 + j)) = x.cells[j]?) len (by
      intro i hil
      obtain ⟨cs', hc, ht⟩ := hi i (by omega)
      obtain ⟨x, hx, rfl⟩ := gv_open ht
      refine ⟨x, hx, fun j hj => ?_⟩
      rw [gv_cells] at hc
      have := (World.cells?_some hc).2.2 j hj
      rw [add_add] at this
      exact this)
    subst hll
    refine ⟨some a, cap, l, rfl, hl, hm, ?_, fun x hx => ?_⟩
    · by_cases h0 : l = []
      · exact .inl h0
      · have hpos := List.length_pos_iff.2 h0
        obtain ⟨b, off, spot⟩ := a
        have hc0 := (hP 0 hpos).2 0 (by omega)
        have hspot : spot = none := by simpa [Addr.add] using World.cell?_spot hc0
        subst hspot
        have hlt := World.block_lt_of_cell? W _ hc0
        refine .inr ⟨b, off, rfl, by simpa [Addr.add] using hlt, fun k hk => ?_⟩
        have hj := (hP k hk).2
        simp only [Addr.add_lit] at hj
        exact ⟨hj 0 (by omega), by have := hj 1 (by omega); rw [← Nat.add_assoc] at this; exact this, by have := hj 2 (by omega); rw [← Nat.add_assoc] at this; exact this, by have := hj 3 (by omega); rw [← Nat.add_assoc] at this; exact this⟩
    · obtain ⟨i, hi', rfl⟩ := List.getElem_of_mem hx
      exact (hP i hi').1
end Gv
end Go.Proofs.Ytmdhnokgjapglaa
