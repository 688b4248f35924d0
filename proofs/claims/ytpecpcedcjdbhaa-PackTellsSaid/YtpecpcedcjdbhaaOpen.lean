/-
  An argument that is a slice of items, opened: where its items lie, and that each field is in its range.
-/
import Derived.Test.YtpecpcedcjdbhaaSpells
import Derived.ProofKit
import Derived.Deep.Slices
import Derived.Deep.Fields
namespace Go.Proofs.Ytpecpcedcjdbhaa
open Go.ChangeMaps (open_string shut_string)
open Go.ChangeShapes Go.WideShapes Go.ChangeAt Go.RowKit Go.Deep Pk

/-- Each field in its range, the text of any length. -/
structure Rng (a : It) : Prop where
  d : a.d < 256
  n : a.n < 2 ^ 64
  i : -9223372036854775808 ≤ a.i ∧ a.i ≤ 9223372036854775807
  s : a.s.size ≤ 9223372036854775807
  b : a.b < 256
  m : -9223372036854775808 ≤ a.m ∧ a.m ≤ 9223372036854775807

theorem mem_total {l : List It} {a : It} (h : a ∈ l) : a.s.size ≤ total l := by
  induction l with
  | nil => simp at h
  | cons b l ih =>
    rw [total_cons]
    rcases List.mem_cons.1 h with rfl | h
    · omega
    · have := ih h; omega
theorem ok_of {l : List It} (h : ∀ a ∈ l, Rng a) (ht : total l ≤ 30000) : ∀ a ∈ l, a.Ok := fun a ha =>
  ⟨(h a ha).d, (h a ha).n, (h a ha).i, by have := mem_total ha; omega, (h a ha).b, (h a ha).m⟩

theorem list_of {P : Nat → It → Prop} (n : Nat) (h : ∀ i, i < n → ∃ a, P i a) : ∃ l : List It, l.length = n ∧ ∀ i (hi : i < l.length), P i l[i] := by
  induction n with
  | zero => exact ⟨[], rfl, fun i hi => by simp at hi⟩
  | succ n ih =>
    obtain ⟨l, hl, hp⟩ := ih fun i hi => h i (by omega)
    obtain ⟨a, ha⟩ := h n (by omega)
    refine ⟨l ++ [a], by simp [hl], fun i hi => ?_⟩
    by_cases hin : i < l.length
    · rw [List.getElem_append_left hin]; exact hp i hin
    · have hie : i = l.length := by simp at hi; omega
      subst hie
      rw [List.getElem_append_right (by omega)]
      simp [hl, ha]

theorem item_check : (match Try.prog.underlying 24 with | some (.struct fs) => decide ((fs.map fun f => f.type) = #[5, 22, 2, 9, 5, 3]) && oneCellFields Try.prog fs | _ => false) = true := by kernel_rfl
theorem item_shape : ∃ fs, Try.prog.underlying 24 = some (.struct fs) ∧ (fs.map fun f => f.type) = #[5, 22, 2, 9, 5, 3] ∧ oneCellFields Try.prog fs = true := by
  have h := item_check
  split at h
  · rename_i fs hfs
    simp only [Bool.and_eq_true, decide_eq_true_eq] at h
    exact ⟨fs, hfs, h.1, h.2⟩
  · simp at h
theorem item_cells : Try.prog.cellsOf 24 = 6 := by kernel_rfl
theorem und_items : Try.prog.underlying 32 = some (.slice 24) := by kernel_rfl

theorem field_at {fs : Array Field} (hfs : (fs.map fun f => f.type) = #[5, 22, 2, 9, 5, 3]) (j : Nat) (t : TypeId) (h : #[5, 22, 2, 9, 5, 3][j]? = some t) :
    ∃ f, fs[j]? = some f ∧ f.type = t := by
  rw [← hfs, Array.getElem?_map] at h
  cases hf : fs[j]? with
  | none => rw [hf] at h; simp at h
  | some f => rw [hf] at h; exact ⟨f, rfl, by simpa using h⟩

theorem item_open {H : Type} {enc : TypeId × Value → H} {W : World} {base : Nat} {sp : Nat → Bool} {held : Bool} {n : Nat} {cs : List Value} {x : DataW H × List MemPlace}
    (h : DataW.trod enc Try.prog W base sp held n 24 cs = some x) :
    ∃ a : It, Rng a ∧ cs = [.int .u8 a.d, .int .u64 a.n, .int .i64 a.i, .string a.s, .int .u8 a.b, .int .i64 a.m] := by
  obtain ⟨fs, hund, htypes, hone⟩ := item_shape
  obtain ⟨ys, k, _, _, hlen, hyl, hf⟩ := DataW.trod_struct hund h
  rw [item_cells] at hlen
  have hsz : fs.size = 6 := by have := congrArg Array.size htypes; simpa using this
  have get : ∀ (j : Nat) (t : TypeId), j < 6 → #[5, 22, 2, 9, 5, 3][j]? = some t → ∃ y, DataW.trod enc Try.prog W base sp held k t ((cs.drop j).take 1) = some y := by
    intro j t hj ht
    obtain ⟨f, hfj, hft⟩ := field_at htypes j t ht
    obtain ⟨ho, hc⟩ := hone_of hone j f hfj
    have h1 := hf j f hfj
    rw [ho, hc, hft, List.getElem?_eq_getElem (by omega)] at h1
    exact ⟨_, h1⟩
  match cs, hlen with
  | [c0, c1, c2, c3, c4, c5], _ =>
    obtain ⟨y0, g0⟩ := get 0 5 (by omega) rfl
    obtain ⟨y1, g1⟩ := get 1 22 (by omega) rfl
    obtain ⟨y2, g2⟩ := get 2 2 (by omega) rfl
    obtain ⟨y3, g3⟩ := get 3 9 (by omega) rfl
    obtain ⟨y4, g4⟩ := get 4 5 (by omega) rfl
    obtain ⟨y5, g5⟩ := get 5 3 (by omega) rfl
    obtain ⟨n0, e0, -, r0⟩ := DataW.trod_int Try.underlying5 g0
    obtain ⟨n1, e1, -, r1⟩ := DataW.trod_int Try.underlying22 g1
    obtain ⟨n2, e2, -, r2⟩ := DataW.trod_int Try.underlying2 g2
    obtain ⟨n3, e3, -, r3⟩ := DataW.trod_string Try.underlying9 g3
    obtain ⟨n4, e4, -, r4⟩ := DataW.trod_int Try.underlying5 g4
    obtain ⟨n5, e5, -, r5⟩ := DataW.trod_int Try.underlying3 g5
    simp at e0 e1 e2 e3 e4 e5
    have q0 : 0 ≤ n0 ∧ n0 ≤ 255 := by simpa [Lit.wf, IntKind.min, IntKind.max, IntKind.signed, IntKind.bits] using r0
    have q1 : 0 ≤ n1 ∧ n1 ≤ 18446744073709551615 := by simpa [Lit.wf, IntKind.min, IntKind.max, IntKind.signed, IntKind.bits] using r1
    have q2 : -9223372036854775808 ≤ n2 ∧ n2 ≤ 9223372036854775807 := by simpa [Lit.wf, IntKind.min, IntKind.max, IntKind.signed, IntKind.bits] using r2
    have q4 : 0 ≤ n4 ∧ n4 ≤ 255 := by simpa [Lit.wf, IntKind.min, IntKind.max, IntKind.signed, IntKind.bits] using r4
    have q5 : -9223372036854775808 ≤ n5 ∧ n5 ≤ 9223372036854775807 := by simpa [Lit.wf, IntKind.min, IntKind.max, IntKind.signed, IntKind.bits] using r5
    unfold maxLen at r3
    refine ⟨⟨n0.toNat, n1.toNat, n2, n3, n4.toNat, n5⟩, ⟨by show n0.toNat < 256; omega, by show n1.toNat < 2 ^ 64; omega, q2, by show n3.size ≤ _; omega, by show n4.toNat < 256; omega, q5⟩, ?_⟩
    rw [e0, e1, e2, e3, e4, e5]
    show [Value.int .u8 n0, .int .u64 n1, .int .i64 n2, .string n3, .int .u8 n4, .int .i64 n5] = [Value.int .u8 (n0.toNat : Int), .int .u64 (n1.toNat : Int), .int .i64 n2, .string n3, .int .u8 (n4.toNat : Int), .int .i64 n5]
    rw [Int.toNat_of_nonneg q0.1, Int.toNat_of_nonneg q1.1, Int.toNat_of_nonneg q4.1]

/-- A slice of items, opened. -/
theorem open_items {H : Type} {enc : TypeId × Value → H} {W : World} {sp : Nat → Bool} {held : Bool} {b0 : Nat} {r : Reach} {v : Value} {d : DataW H} {ps : List MemPlace}
    (hval : Value.okWide Try.prog W r b0 32 v) (h : DataW.Trod enc Try.prog W 0 sp held 32 v d ps) :
    ∃ A c l, v = .slice A l.length c ∧ l.length ≤ c ∧ c ≤ 9223372036854775807 ∧ listAt W A l ∧ ∀ a ∈ l, Rng a := by
  obtain ⟨A, len, cap, rfl⟩ := okWide_slice und_items hval
  obtain ⟨fuel, hf⟩ := h
  rcases open_slice und_items hf with ⟨hcs, _⟩ | ⟨a, len', cap', m, n, D, Pl, hcs, _, hl, hm, hmm, _, hi⟩
  · simp [Value.cells] at hcs
    obtain ⟨rfl, rfl, rfl⟩ := hcs
    exact ⟨none, 0, [], rfl, Nat.le_refl _, by omega, .inl rfl, by simp⟩
  · simp [Value.cells] at hcs
    obtain ⟨rfl, rfl, rfl⟩ := hcs
    have hml : len ≤ m := by rw [hmm]; split <;> omega
    obtain ⟨l, hll, hP⟩ := list_of (P := fun i x => Rng x ∧ ∀ j, j < 6 → W.cell? (a.add (i * 6 + j)) = [Value.int .u8 x.d, .int .u64 x.n, .int .i64 x.i, .string x.s, .int .u8 x.b, .int .i64 x.m][j]?) len (by
      intro i hil
      obtain ⟨cs', hc, ht⟩ := hi i (by omega)
      obtain ⟨x, hx, rfl⟩ := item_open ht
      refine ⟨x, hx, fun j hj => ?_⟩
      rw [item_cells] at hc
      have := (World.cells?_some hc).2.2 j hj
      rw [add_add] at this
      exact this)
    subst hll
    refine ⟨some a, cap, l, rfl, hl, hm, ?_, fun x hx => ?_⟩
    · by_cases h0 : l = []
      · exact .inl h0
      · have hpos := List.length_pos_iff.2 h0
        obtain ⟨b, off, spot⟩ := a
        have hc0 := (hP 0 hpos).2 0 (by omega)
        have hspot : spot = none := by simpa [Addr.add] using World.cell?_spot hc0
        subst hspot
        have hlt := World.block_lt_of_cell? W _ hc0
        refine .inr ⟨b, off, rfl, by simpa [Addr.add] using hlt, fun k hk => ?_⟩
        have hj := (hP k hk).2
        simp only [Addr.add_lit] at hj
        exact ⟨hj 0 (by omega), by have := hj 1 (by omega); rw [← Nat.add_assoc] at this; exact this, by have := hj 2 (by omega); rw [← Nat.add_assoc] at this; exact this, by have := hj 3 (by omega); rw [← Nat.add_assoc] at this; exact this, by have := hj 4 (by omega); rw [← Nat.add_assoc] at this; exact this, by have := hj 5 (by omega); rw [← Nat.add_assoc] at this; exact this⟩
    · obtain ⟨i, hi', rfl⟩ := List.getElem_of_mem hx
      exact (hP i hi').1
end Go.Proofs.Ytpecpcedcjdbhaa
