/-
  Operations and batches as arguments: what one is, where a slice of them lies, an argument opened.
-/
import Derived.Test.YtehkbffbehlpnaaBaMath
import Derived.ProofKit
import Derived.Deep.Slices
import Derived.Deep.Fields
namespace Go.Proofs.Ytehkbffbehlpnaa
open Go.ChangeMaps (open_string shut_string)
open Go.ChangeShapes Go.WideShapes Go.ChangeAt Go.RowKit Go.Deep
namespace Ba
structure Op.Ok (o : Op) : Prop where
  k : o.k < 256
  p : o.p.size ≤ 9223372036854775807
  v : o.v.size ≤ 9223372036854775807
def opAt (w : World) (b o : Nat) (x : Op) : Prop :=
  w.cell? ⟨b, o, none⟩ = some (.int .u8 (x.k : Int)) ∧ w.cell? ⟨b, o + 1, none⟩ = some (.string x.p) ∧ w.cell? ⟨b, o + 2, none⟩ = some (.string x.v)
def opsAt (w : World) (b off : Nat) (l : List Op) : Prop := ∀ k (hk : k < l.length), opAt w b (off + k * 3) l[k]
def listAt (w : World) (A : Option Addr) (l : List Op) : Prop := l = [] ∨ ∃ b off, A = some ⟨b, off, none⟩ ∧ b < w.heap.size ∧ opsAt w b off l
theorem opAt.below {w w' : World} {b o B : Nat} {x : Op} (h : opAt w b o x) (k : Below B w w') (hb : b < B) : opAt w' b o x := by
  have e : ∀ i, w'.cell? ⟨b, i, none⟩ = w.cell? ⟨b, i, none⟩ := fun i => k.cell (p := ⟨b, i, none⟩) hb
  unfold opAt
  simp only [e]
  exact h
theorem opsAt.below {w w' : World} {b off B : Nat} {l : List Op} (h : opsAt w b off l) (k : Below B w w') (hb : b < B) : opsAt w' b off l := fun j hj => (h j hj).below k hb
theorem listAt.below {w w' : World} {A : Option Addr} {l : List Op} (h : listAt w A l) (k : Below w.heap.size w w') : listAt w' A l := by
  rcases h with h | ⟨b, off, h1, h2, h3⟩
  · exact .inl h
  · exact .inr ⟨b, off, h1, Nat.lt_of_lt_of_le h2 k.size, h3.below k h2⟩
theorem listAt.get {w w' : World} {A : Option Addr} {l : List Op} (h : listAt w A l) (k : Below w.heap.size w w') (j : Nat) (hj : j < l.length) : ∃ b off, A = some ⟨b, off, none⟩ ∧ b < w.heap.size ∧ opAt w' b (off + j * 3) l[j] := by
  rcases h with rfl | ⟨b, off, rfl, hb, hi⟩
  · simp at hj
  · exact ⟨b, off, rfl, hb, (hi j hj).below k hb⟩
theorem list_of12 {P : Nat → Op → Prop} (n : Nat) (h : ∀ i, i < n → ∃ a, P i a) : ∃ l : List Op, l.length = n ∧ ∀ i (hi : i < l.length), P i l[i] := by
  induction n with
  | zero => exact ⟨[], rfl, fun i hi => by simp at hi⟩
  | succ n ih =>
    obtain ⟨l, hl, hp⟩ := ih fun i hi => h i (by omega)
    obtain ⟨a, ha⟩ := h n (by omega)
    refine ⟨l ++ [a], by simp [hl], fun i hi => ?_⟩
    by_cases hin : i < l.length
    · rw [List.getElem_append_left hin]; exact hp i hin
    · have hie : i = l.length := by simp at hi; omega
      subst hie
      rw [List.getElem_append_right (by omega)]
      simp [hl, ha]
theorem field_at12 {fs : Array Field} {ts : Array TypeId} (hfs : (fs.map fun f => f.type) = ts) (j : Nat) (t : TypeId) (h : ts[j]? = some t) :
    ∃ f, fs[j]? = some f ∧ f.type = t := by
  rw [← hfs, Array.getElem?_map] at h
  cases hf : fs[j]? with
  | none => rw [hf] at h; simp at h
  | some f => rw [hf] at h; exact ⟨f, rfl, by simpa using h⟩
theorem op_check : (match Try.prog.underlying 52 with | some (.struct fs) => decide ((fs.map fun f => f.type) = #[5, 9, 9]) && oneCellFields Try.prog fs | _ => false) = true := by kernel_rfl
theorem op_shape : ∃ fs, Try.prog.underlying 52 = some (.struct fs) ∧ (fs.map fun f => f.type) = #[5, 9, 9] ∧ oneCellFields Try.prog fs = true := by
  have h := op_check
  split at h
  · rename_i fs hfs
    simp only [Bool.and_eq_true, decide_eq_true_eq] at h
    exact ⟨fs, hfs, h.1, h.2⟩
  · simp at h
theorem op_cells : Try.prog.cellsOf 52 = 3 := by kernel_rfl
theorem und_ops : Try.prog.underlying 37 = some (.slice 52) := by kernel_rfl
theorem und_op : ∃ fs, Try.prog.underlying 52 = some (.struct fs) := by obtain ⟨fs, h, _⟩ := op_shape; exact ⟨fs, h⟩
set_option maxRecDepth 100000 in
theorem op_open {H : Type} {enc : TypeId × Value → H} {W : World} {base : Nat} {sp : Nat → Bool} {held : Bool} {n : Nat} {cs : List Value} {x : DataW H × List MemPlace}
    (h : DataW.trod enc Try.prog W base sp held n 52 cs = some x) : ∃ a : Op, a.Ok ∧ cs = a.cells := by
  obtain ⟨fs, hund, htypes, hone⟩ := op_shape
  obtain ⟨ys, k, _, _, hlen, hyl, hf⟩ := DataW.trod_struct hund h
  rw [op_cells] at hlen
  have hsz : fs.size = 3 := by have := congrArg Array.size htypes; simpa using this
  have get : ∀ (j : Nat) (t : TypeId), j < 3 → #[5, 9, 9][j]? = some t → ∃ y, DataW.trod enc Try.prog W base sp held k t ((cs.drop j).take 1) = some y := by
    intro j t hj ht
    obtain ⟨f, hfj, hft⟩ := field_at12 htypes j t ht
    obtain ⟨ho, hc⟩ := hone_of hone j f hfj
    have h1 := hf j f hfj
    rw [ho, hc, hft, List.getElem?_eq_getElem (by omega)] at h1
    exact ⟨_, h1⟩
  match cs, hlen with
  | [c0, c1, c2], _ =>
    obtain ⟨y0, g0⟩ := get 0 5 (by omega) rfl
    obtain ⟨y1, g1⟩ := get 1 9 (by omega) rfl
    obtain ⟨y2, g2⟩ := get 2 9 (by omega) rfl
    obtain ⟨n0, e0, -, r0⟩ := DataW.trod_int Try.underlying5 g0
    obtain ⟨n1, e1, -, r1⟩ := DataW.trod_string Try.underlying9 g1
    obtain ⟨n2, e2, -, r2⟩ := DataW.trod_string Try.underlying9 g2
    simp at e0 e1 e2
    have q0 : 0 ≤ n0 ∧ n0 ≤ 255 := by simpa [Lit.wf, IntKind.min, IntKind.max, IntKind.signed, IntKind.bits] using r0
    unfold maxLen at r1 r2
    refine ⟨⟨n0.toNat, n1, n2⟩, ⟨by show n0.toNat < _; omega, by show n1.size ≤ _; omega, by show n2.size ≤ _; omega⟩, ?_⟩
    have e : ((n0.toNat : Nat) : Int) = n0 := by omega
    rw [e0, e1, e2]
    show _ = [Value.int .u8 ((n0.toNat : Nat) : Int), .string n1, .string n2]
    rw [e]
set_option maxRecDepth 100000 in
/-- A slice of operations, read off its cells. -/
theorem ops_open {H : Type} {enc : TypeId × Value → H} {W : World} {base : Nat} {sp : Nat → Bool} {held : Bool} {n : Nat} {v : Value} {x : DataW H × List MemPlace}
    (h : DataW.trod enc Try.prog W base sp held n 37 [v] = some x) : ∃ A c l, v = .slice A l.length c ∧ l.length ≤ 9223372036854775807 ∧ listAt W A l ∧ ∀ a ∈ l, a.Ok := by
  rcases open_slice und_ops h with ⟨hcs, _⟩ | ⟨a, len, cap, m, k, D, Pl, hcs, _, hl, hm, hmm, _, hi⟩
  · simp at hcs
    exact ⟨none, 0, [], hcs, by decide, .inl rfl, by simp⟩
  · simp at hcs
    have hml : len ≤ m := by rw [hmm]; split <;> omega
    unfold maxLen at hm
    obtain ⟨l, hll, hP⟩ := list_of12 (P := fun i x => x.Ok ∧ ∀ j, j < 3 → W.cell? (a.add (i * 3 + j)) = x.cells[j]?) len (by
      intro i hil
      obtain ⟨cs', hc, ht⟩ := hi i (by omega)
      obtain ⟨x, hx, rfl⟩ := op_open ht
      refine ⟨x, hx, fun j hj => ?_⟩
      rw [op_cells] at hc
      have := (World.cells?_some hc).2.2 j hj
      rw [add_add] at this
      exact this)
    subst hll
    refine ⟨some a, cap, l, hcs, by omega, ?_, fun x hx => ?_⟩
    · by_cases h0 : l = []
      · exact .inl h0
      · have hpos := List.length_pos_iff.2 h0
        obtain ⟨b, off, spot⟩ := a
        have hc0 := (hP 0 hpos).2 0 (by omega)
        have hspot : spot = none := by simpa [Addr.add] using World.cell?_spot hc0
        subst hspot
        have hlt := World.block_lt_of_cell? W _ hc0
        refine .inr ⟨b, off, rfl, by simpa [Addr.add] using hlt, fun k hk => ?_⟩
        have hj := (hP k hk).2
        simp only [Addr.add_lit] at hj
        exact ⟨hj 0 (by omega), by have := hj 1 (by omega); rw [← Nat.add_assoc] at this; exact this, by have := hj 2 (by omega); rw [← Nat.add_assoc] at this; exact this⟩
    · obtain ⟨i, hi', rfl⟩ := List.getElem_of_mem hx
      exact (hP i hi').1
set_option maxRecDepth 100000 in
/-- A slice of operations, opened. -/
theorem open_ops {H : Type} {enc : TypeId × Value → H} {W : World} {sp : Nat → Bool} {held : Bool} {b0 : Nat} {r : Reach} {v : Value} {d : DataW H} {ps : List MemPlace}
    (hval : Value.okWide Try.prog W r b0 37 v) (h : DataW.Trod enc Try.prog W 0 sp held 37 v d ps) :
    ∃ A c l, v = .slice A l.length c ∧ l.length ≤ 9223372036854775807 ∧ listAt W A l ∧ ∀ a ∈ l, a.Ok := by
  obtain ⟨A, len, cap, rfl⟩ := okWide_slice und_ops hval
  obtain ⟨fuel, hf⟩ := h
  exact ops_open (v := .slice A len cap) (by simpa [Value.cells] using hf)
theorem bt_check : (match Try.prog.underlying 80 with | some (.struct fs) => decide ((fs.map fun f => f.type) = #[3, 3, 37]) && oneCellFields Try.prog fs | _ => false) = true := by kernel_rfl
theorem bt_shape : ∃ fs, Try.prog.underlying 80 = some (.struct fs) ∧ (fs.map fun f => f.type) = #[3, 3, 37] ∧ oneCellFields Try.prog fs = true := by
  have h := bt_check
  split at h
  · rename_i fs hfs
    simp only [Bool.and_eq_true, decide_eq_true_eq] at h
    exact ⟨fs, hfs, h.1, h.2⟩
  · simp at h
theorem bt_cells : Try.prog.cellsOf 80 = 3 := by kernel_rfl
structure Bt.Ok (b : Bt) : Prop where
  ix : -9223372036854775808 ≤ b.ix ∧ b.ix ≤ 9223372036854775807
  ep : -9223372036854775808 ≤ b.ep ∧ b.ep ≤ 9223372036854775807
  ops : ∀ o ∈ b.ops, o.Ok
  len : b.ops.length ≤ 9223372036854775807
set_option maxRecDepth 100000 in
/-- A batch, opened. -/
theorem open_bt {H : Type} {enc : TypeId × Value → H} {W : World} {sp : Nat → Bool} {held : Bool} {b0 : Nat} {r : Reach} {v : Value} {d : DataW H} {ps : List MemPlace}
    (hval : Value.okWide Try.prog W r b0 80 v) (h : DataW.Trod enc Try.prog W 0 sp held 80 v d ps) :
    ∃ (b : Bt) (A : Option Addr) (c : Nat), v = .agg #[.int .i64 b.ix, .int .i64 b.ep, .slice A b.ops.length c] ∧ listAt W A b.ops ∧ b.Ok := by
  obtain ⟨fs, hund, htypes, hone⟩ := bt_shape
  obtain ⟨cs, rfl, _⟩ := okWide_struct hund hval
  obtain ⟨fuel, hf⟩ := h
  have hf' : DataW.trod enc Try.prog W 0 sp held fuel 80 cs.toList = some (d, ps) := by simpa [Value.cells] using hf
  obtain ⟨ys, k, _, _, hlen, hyl, hg⟩ := DataW.trod_struct hund hf'
  rw [bt_cells] at hlen
  have hsz : fs.size = 3 := by have := congrArg Array.size htypes; simpa using this
  have get : ∀ (j : Nat) (t : TypeId), j < 3 → #[3, 3, 37][j]? = some t → ∃ y, DataW.trod enc Try.prog W 0 sp held k t ((cs.toList.drop j).take 1) = some y := by
    intro j t hj ht
    obtain ⟨f, hfj, hft⟩ := field_at12 htypes j t ht
    obtain ⟨ho, hc⟩ := hone_of hone j f hfj
    have h1 := hg j f hfj
    rw [ho, hc, hft, List.getElem?_eq_getElem (by omega)] at h1
    exact ⟨_, h1⟩
  obtain ⟨l⟩ := cs
  match l, hlen with
  | [c0, c1, c2], _ =>
    obtain ⟨y0, g0⟩ := get 0 3 (by omega) rfl
    obtain ⟨y1, g1⟩ := get 1 3 (by omega) rfl
    obtain ⟨y2, g2⟩ := get 2 37 (by omega) rfl
    obtain ⟨n0, e0, -, r0⟩ := DataW.trod_int Try.underlying3 g0
    obtain ⟨n1, e1, -, r1⟩ := DataW.trod_int Try.underlying3 g1
    obtain ⟨A, c, l, e2, q3, q4, q5⟩ := ops_open (v := c2) (by simpa using g2)
    simp at e0 e1
    have q0 : -9223372036854775808 ≤ n0 ∧ n0 ≤ 9223372036854775807 := by simpa [Lit.wf, IntKind.min, IntKind.max, IntKind.signed, IntKind.bits] using r0
    have q1 : -9223372036854775808 ≤ n1 ∧ n1 ≤ 9223372036854775807 := by simpa [Lit.wf, IntKind.min, IntKind.max, IntKind.signed, IntKind.bits] using r1
    exact ⟨⟨n0, n1, l⟩, A, c, by rw [e0, e1, e2], q4, ⟨q0, q1, q5, q3⟩⟩
end Ba
end Go.Proofs.Ytehkbffbehlpnaa
