/-
  Acts upon a disk: what one is, where a slice of them lies, an argument opened; what the statements' helpers call great, and what an act writes.
-/
import Derived.Test.YtimbcmcmidnlfaaDkAwake
import Derived.ProofKit
import Derived.Deep.Slices
import Derived.Deep.Fields
namespace Go.Proofs.Ytimbcmcmidnlfaa
open Go.ChangeMaps (open_string shut_string)
open Go.ChangeShapes Go.WideShapes Go.ChangeAt Go.RowKit Go.Deep
namespace Dk
/-- An act. -/
structure Ac where
  d : Int
  i : Int
  n : Int
  b : ByteArray
  x : ByteArray
  y : UInt8
  kv : Value
  keep : List Int
structure Ac.Ok (W : World) (a : Ac) : Prop where
  d : -9223372036854775808 ≤ a.d ∧ a.d ≤ 9223372036854775807
  i : -9223372036854775808 ≤ a.i ∧ a.i ≤ 9223372036854775807
  n : -9223372036854775808 ≤ a.n ∧ a.n ≤ 9223372036854775807
  b : a.b.size ≤ 9223372036854775807
  x : a.x.size ≤ 9223372036854775807
  keep : IntsAt W a.kv a.keep
def Ac.cells (a : Ac) : List Value := [.int .i64 a.d, .int .i64 a.i, .int .i64 a.n, .string a.b, .string a.x, .int .u8 a.y.toNat, a.kv]
/-- An act in the statements' bounds. -/
def Ac.Small (a : Ac) : Prop := a.b.size ≤ 200 ∧ a.x.size ≤ 200 ∧ a.keep.length ≤ 100
def actAt (w : World) (b o : Nat) (a : Ac) : Prop :=
  w.cell? ⟨b, o, none⟩ = some (.int .i64 a.d) ∧ w.cell? ⟨b, o + 1, none⟩ = some (.int .i64 a.i) ∧ w.cell? ⟨b, o + 2, none⟩ = some (.int .i64 a.n) ∧
  w.cell? ⟨b, o + 3, none⟩ = some (.string a.b) ∧ w.cell? ⟨b, o + 4, none⟩ = some (.string a.x) ∧ w.cell? ⟨b, o + 5, none⟩ = some (.int .u8 a.y.toNat) ∧ w.cell? ⟨b, o + 6, none⟩ = some a.kv
def actsAt (w : World) (b off : Nat) (l : List Ac) : Prop := ∀ k (hk : k < l.length), actAt w b (off + k * 7) l[k]
def listAt (w : World) (A : Option Addr) (l : List Ac) : Prop := l = [] ∨ ∃ b off, A = some ⟨b, off, none⟩ ∧ b < w.heap.size ∧ actsAt w b off l
theorem actAt.below {w w' : World} {b o B : Nat} {x : Ac} (h : actAt w b o x) (k : Below B w w') (hb : b < B) : actAt w' b o x := by
  have e : ∀ i, w'.cell? ⟨b, i, none⟩ = w.cell? ⟨b, i, none⟩ := fun i => k.cell (p := ⟨b, i, none⟩) hb
  unfold actAt
  simp only [e]
  exact h
theorem actsAt.below {w w' : World} {b off B : Nat} {l : List Ac} (h : actsAt w b off l) (k : Below B w w') (hb : b < B) : actsAt w' b off l := fun j hj => (h j hj).below k hb
theorem actsAt.drop {w : World} {b off : Nat} {l : List Ac} (h : actsAt w b off l) (j : Nat) : actsAt w b (off + j * 7) (l.drop j) := fun k hk => by
  have hk2 : j + k < l.length := by simp at hk; omega
  have := h (j + k) hk2
  rw [List.getElem_drop, show off + j * 7 + k * 7 = off + (j + k) * 7 by omega]
  exact this
theorem list_of {P : Nat → Ac → Prop} (n : Nat) (h : ∀ i, i < n → ∃ a, P i a) : ∃ l : List Ac, l.length = n ∧ ∀ i (hi : i < l.length), P i l[i] := by
  induction n with
  | zero => exact ⟨[], rfl, fun i hi => by simp at hi⟩
  | succ n ih =>
    obtain ⟨l, hl, hp⟩ := ih fun i hi => h i (by omega)
    obtain ⟨a, ha⟩ := h n (by omega)
    refine ⟨l ++ [a], by simp [hl], fun i hi => ?_⟩
    by_cases hin : i < l.length
    · rw [List.getElem_append_left hin]; exact hp i hin
    · have hie : i = l.length := by simp at hi; omega
      subst hie
      rw [List.getElem_append_right (by omega)]
      simp [hl, ha]
theorem ints_of {P : Nat → Int → Prop} (n : Nat) (h : ∀ i, i < n → ∃ a, P i a) : ∃ l : List Int, l.length = n ∧ ∀ i, i < n → P i (l.getD i 0) := by
  induction n with
  | zero => exact ⟨[], rfl, fun i hi => by omega⟩
  | succ n ih =>
    obtain ⟨l, hl, hp⟩ := ih fun i hi => h i (by omega)
    obtain ⟨a, ha⟩ := h n (by omega)
    refine ⟨l ++ [a], by simp [hl], fun i hi => ?_⟩
    rw [List.getD_eq_getElem?_getD]
    by_cases hin : i < n
    · rw [List.getElem?_append_left (by omega), ← List.getD_eq_getElem?_getD]; exact hp i hin
    · have hie : i = n := by omega
      subst hie
      rw [List.getElem?_append_right (by omega)]
      simp [hl, ha]
theorem cells_int : Try.prog.cellsOf 3 = 1 := by kernel_rfl
set_option maxRecDepth 100000 in
/-- A slice of numbers, read off its cells. -/
theorem ints_open {H : Type} {enc : TypeId × Value → H} {W : World} {base : Nat} {sp : Nat → Bool} {held : Bool} {n : Nat} {v : Value} {x : DataW H × List MemPlace}
    (h : DataW.trod enc Try.prog W base sp held n 64 [v] = some x) : ∃ l, IntsAt W v l := by
  rcases open_slice Try.underlying64 h with ⟨hcs, _⟩ | ⟨a, len, cap, m, k, D, Pl, hcs, _, hl, hm, hmm, _, hi⟩
  · simp at hcs
    exact ⟨[], none, 0, hcs, by decide, fun i => by simp, .inl rfl⟩
  · simp at hcs
    have hml : len ≤ m := by rw [hmm]; split <;> omega
    unfold maxLen at hm
    obtain ⟨l, hll, hP⟩ := ints_of (P := fun i x => (-9223372036854775808 ≤ x ∧ x ≤ 9223372036854775807) ∧ W.cell? (a.add i) = some (.int .i64 x)) len (by
      intro i hil
      obtain ⟨cs', hc, ht⟩ := hi i (by omega)
      obtain ⟨k, hk, _, hw⟩ := DataW.trod_int Try.underlying3 ht
      have q0 : -9223372036854775808 ≤ k ∧ k ≤ 9223372036854775807 := by simpa [Lit.wf, IntKind.min, IntKind.max, IntKind.signed, IntKind.bits] using hw
      refine ⟨k, q0, ?_⟩
      rw [cells_int] at hc
      have h3 := (World.cells?_some hc).2.2 0 (by omega)
      rw [hk] at h3
      rw [add_add, Nat.mul_one, Nat.add_zero] at h3
      exact h3)
    subst hll
    refine ⟨l, some a, cap, hcs, by omega, fun i => ?_, ?_⟩
    · by_cases hi2 : i < l.length
      · exact (hP i hi2).1
      · rw [List.getD_eq_getElem?_getD, List.getElem?_eq_none (by omega)]; simp
    · by_cases h0 : l = []
      · exact .inl h0
      · have hpos := List.length_pos_iff.2 h0
        obtain ⟨b, off, spot⟩ := a
        have hc0 := (hP 0 hpos).2
        have hspot : spot = none := by simpa [Addr.add] using World.cell?_spot hc0
        subst hspot
        have hlt := World.block_lt_of_cell? W _ hc0
        refine .inr ⟨b, off, rfl, by simpa [Addr.add] using hlt, fun i hi => ?_⟩
        have h3 := (hP i hi).2
        rw [Addr.add_mid] at h3
        exact h3
set_option maxRecDepth 100000 in
theorem open_ints7 {H : Type} {enc : TypeId × Value → H} {W : World} {sp : Nat → Bool} {held : Bool} {b0 : Nat} {r : Reach} {v : Value} {d : DataW H} {ps : List MemPlace}
    (hval : Value.okWide Try.prog W r b0 64 v) (h : DataW.Trod enc Try.prog W 0 sp held 64 v d ps) :
    ∃ A c l, v = .slice A l.length c ∧ IntsAt W (.slice A l.length c) l := by
  obtain ⟨A, len, cap, rfl⟩ := okWide_slice Try.underlying64 hval
  obtain ⟨fuel, hf⟩ := h
  obtain ⟨l, A', c', h1, h2⟩ := ints_open (v := .slice A len cap) (by simpa [Value.cells] using hf)
  simp only [Value.slice.injEq] at h1
  obtain ⟨rfl, rfl, rfl⟩ := h1
  exact ⟨A, cap, l, rfl, A, cap, rfl, h2⟩
theorem act_check : (match Try.prog.underlying 66 with | some (.struct fs) => decide ((fs.map fun f => f.type) = #[3, 3, 3, 9, 9, 5, 64]) && oneCellFields Try.prog fs | _ => false) = true := by kernel_rfl
theorem act_shape : ∃ fs, Try.prog.underlying 66 = some (.struct fs) ∧ (fs.map fun f => f.type) = #[3, 3, 3, 9, 9, 5, 64] ∧ oneCellFields Try.prog fs = true := by
  have h := act_check
  split at h
  · rename_i fs hfs
    simp only [Bool.and_eq_true, decide_eq_true_eq] at h
    exact ⟨fs, hfs, h.1, h.2⟩
  · simp at h
theorem act_cells : Try.prog.cellsOf 66 = 7 := by kernel_rfl
theorem und_acts : Try.prog.underlying 51 = some (.slice 66) := by kernel_rfl
theorem field_at {fs : Array Field} {ts : Array TypeId} (hfs : (fs.map fun f => f.type) = ts) (j : Nat) (t : TypeId) (h : ts[j]? = some t) :
    ∃ f, fs[j]? = some f ∧ f.type = t := by
  rw [← hfs, Array.getElem?_map] at h
  cases hf : fs[j]? with
  | none => rw [hf] at h; simp at h
  | some f => rw [hf] at h; exact ⟨f, rfl, by simpa using h⟩
set_option maxRecDepth 100000 in
theorem act_open {H : Type} {enc : TypeId × Value → H} {W : World} {base : Nat} {sp : Nat → Bool} {held : Bool} {n : Nat} {cs : List Value} {x : DataW H × List MemPlace}
    (h : DataW.trod enc Try.prog W base sp held n 66 cs = some x) :
    ∃ a : Ac, a.Ok W ∧ cs = a.cells := by
  obtain ⟨fs, hund, htypes, hone⟩ := act_shape
  obtain ⟨ys, k, _, _, hlen, hyl, hf⟩ := DataW.trod_struct hund h
  rw [act_cells] at hlen
  have hsz : fs.size = 7 := by have := congrArg Array.size htypes; simpa using this
  have get : ∀ (j : Nat) (t : TypeId), j < 7 → #[3, 3, 3, 9, 9, 5, 64][j]? = some t → ∃ y, DataW.trod enc Try.prog W base sp held k t ((cs.drop j).take 1) = some y := by
    intro j t hj ht
    obtain ⟨f, hfj, hft⟩ := field_at htypes j t ht
    obtain ⟨ho, hc⟩ := hone_of hone j f hfj
    have h1 := hf j f hfj
    rw [ho, hc, hft, List.getElem?_eq_getElem (by omega)] at h1
    exact ⟨_, h1⟩
  match cs, hlen with
  | [c0, c1, c2, c3, c4, c5, c6], _ =>
    obtain ⟨y0, g0⟩ := get 0 3 (by omega) rfl
    obtain ⟨y1, g1⟩ := get 1 3 (by omega) rfl
    obtain ⟨y2, g2⟩ := get 2 3 (by omega) rfl
    obtain ⟨y3, g3⟩ := get 3 9 (by omega) rfl
    obtain ⟨y4, g4⟩ := get 4 9 (by omega) rfl
    obtain ⟨y5, g5⟩ := get 5 5 (by omega) rfl
    obtain ⟨y6, g6⟩ := get 6 64 (by omega) rfl
    obtain ⟨n0, e0, -, r0⟩ := DataW.trod_int Try.underlying3 g0
    obtain ⟨n1, e1, -, r1⟩ := DataW.trod_int Try.underlying3 g1
    obtain ⟨n2, e2, -, r2⟩ := DataW.trod_int Try.underlying3 g2
    obtain ⟨n3, e3, -, r3⟩ := DataW.trod_string Try.underlying9 g3
    obtain ⟨n4, e4, -, r4⟩ := DataW.trod_string Try.underlying9 g4
    obtain ⟨n5, e5, -, r5⟩ := DataW.trod_int Try.underlying5 g5
    obtain ⟨l6, h6⟩ := ints_open (v := c6) (by simpa using g6)
    simp at e0 e1 e2 e3 e4 e5
    have q0 : -9223372036854775808 ≤ n0 ∧ n0 ≤ 9223372036854775807 := by simpa [Lit.wf, IntKind.min, IntKind.max, IntKind.signed, IntKind.bits] using r0
    have q1 : -9223372036854775808 ≤ n1 ∧ n1 ≤ 9223372036854775807 := by simpa [Lit.wf, IntKind.min, IntKind.max, IntKind.signed, IntKind.bits] using r1
    have q2 : -9223372036854775808 ≤ n2 ∧ n2 ≤ 9223372036854775807 := by simpa [Lit.wf, IntKind.min, IntKind.max, IntKind.signed, IntKind.bits] using r2
    unfold maxLen at r3 r4
    refine ⟨⟨n0, n1, n2, n3, n4, Sm.byteOf (.int .u8 n5), c6, l6⟩, ⟨q0, q1, q2, by show n3.size ≤ _; omega, by show n4.size ≤ _; omega, h6⟩, ?_⟩
    rw [e0, e1, e2, e3, e4, e5]
    have := Sm.byteOf_back r5
    show _ = [Value.int .i64 n0, .int .i64 n1, .int .i64 n2, .string n3, .string n4, .int .u8 ((Sm.byteOf (.int .u8 n5)).toNat : Int), c6]
    rw [← this]

set_option maxRecDepth 100000 in
/-- A slice of acts, opened. -/
theorem open_acts {H : Type} {enc : TypeId × Value → H} {W : World} {sp : Nat → Bool} {held : Bool} {b0 : Nat} {r : Reach} {v : Value} {d : DataW H} {ps : List MemPlace}
    (hval : Value.okWide Try.prog W r b0 51 v) (h : DataW.Trod enc Try.prog W 0 sp held 51 v d ps) :
    ∃ A c l, v = .slice A l.length c ∧ l.length ≤ c ∧ c ≤ 9223372036854775807 ∧ listAt W A l ∧ ∀ a ∈ l, a.Ok W := by
  obtain ⟨A, len, cap, rfl⟩ := okWide_slice und_acts hval
  obtain ⟨fuel, hf⟩ := h
  rcases open_slice und_acts hf with ⟨hcs, _⟩ | ⟨a, len', cap', m, n, D, Pl, hcs, _, hl, hm, hmm, _, hi⟩
  · simp [Value.cells] at hcs
    obtain ⟨rfl, rfl, rfl⟩ := hcs
    exact ⟨none, 0, [], rfl, Nat.le_refl _, by omega, .inl rfl, by simp⟩
  · simp [Value.cells] at hcs
    obtain ⟨rfl, rfl, rfl⟩ := hcs
    have hml : len ≤ m := by rw [hmm]; split <;> omega
    obtain ⟨l, hll, hP⟩ := list_of (P := fun i x => x.Ok W ∧ ∀ j, j < 7 → W.cell? (a.add (i * 7 + j)) = x.cells[j]?) len (by
      intro i hil
      obtain ⟨cs', hc, ht⟩ := hi i (by omega)
      obtain ⟨x, hx, rfl⟩ := act_open ht
      refine ⟨x, hx, fun j hj => ?_⟩
      rw [act_cells] at hc
      have := (World.cells?_some hc).2.2 j hj
      rw [add_add] at this
      exact this)
    subst hll
    refine ⟨some a, cap, l, rfl, hl, hm, ?_, fun x hx => ?_⟩
    · by_cases h0 : l = []
      · exact .inl h0
      · have hpos := List.length_pos_iff.2 h0
        obtain ⟨b, off, spot⟩ := a
        have hc0 := (hP 0 hpos).2 0 (by omega)
        have hspot : spot = none := by simpa [Addr.add] using World.cell?_spot hc0
        subst hspot
        have hlt := World.block_lt_of_cell? W _ hc0
        refine .inr ⟨b, off, rfl, by simpa [Addr.add] using hlt, fun k hk => ?_⟩
        have hj := (hP k hk).2
        simp only [Addr.add_lit] at hj
        exact ⟨hj 0 (by omega), by have := hj 1 (by omega); rw [← Nat.add_assoc] at this; exact this, by have := hj 2 (by omega); rw [← Nat.add_assoc] at this; exact this, by have := hj 3 (by omega); rw [← Nat.add_assoc] at this; exact this, by have := hj 4 (by omega); rw [← Nat.add_assoc] at this; exact this, by have := hj 5 (by omega); rw [← Nat.add_assoc] at this; exact this, by have := hj 6 (by omega); rw [← Nat.add_assoc] at this; exact this⟩
    · obtain ⟨i, hi', rfl⟩ := List.getElem_of_mem hx
      exact (hP i hi').1
/-- Acts that the statements take. -/
def Fair (l : List Ac) : Prop := l.length ≤ 200 ∧ ∀ j (h : j < l.length), l[j].Small
/-- What an act writes. -/
def data (a : Ac) : List UInt8 := if a.y = 0 then a.b.data.toList else full a.y
end Dk

set_option maxRecDepth 100000 in
set_option maxHeartbeats 4000000 in
theorem great7_some (w : World) (b off c : Nat) (l : List Dk.Ac) (hl : l.length ≤ 9223372036854775807) (W0 : World) (hs : ∀ a ∈ l, a.Ok W0) (hit : Dk.actsAt w b off l) (g : Bool) (hg : g = true ↔ ¬ Dk.Fair l) :
    Calls Try.prog 26 #[.slice (some ⟨b, off, none⟩) l.length c] w fun e w' => e = .returned (.bool g) ∧ w = w' := by
  have HIT := Lib.hid hit
  have HS := Lib.hid hs
  have HG := Lib.hid hg
  clear hit hs hg
  go_enter Try.func26, Try.ntmps26
  go_wp2
  go_loop [3] (fun i => ∃ k : Nat, k ≤ l.length ∧ k ≤ 201 ∧ i = .int .i64 k ∧ ∀ j (_ : j < k) (h : j < l.length), l[j].Small) (fun i => l.length - (intOf i).toNat)
  case atStart => exact ⟨0, Nat.zero_le _, by omega, rfl, by intro j hj; omega⟩
  case round =>
    obtain ⟨k, hk, hk31, rfl, hall⟩ := hrel
    have HA := Lib.hid hall
    clear hall
    by_cases hlt : k < l.length
    · have hlt1 : (k : Int) < l.length := by omega
      by_cases h30 : k ≤ 200
      · have h30i : (k : Int) ≤ 200 := by omega
        obtain ⟨-, -, -, c3, c4, -, c6⟩ := HIT.out k hlt
        obtain ⟨x, hx⟩ : ∃ x, x = l[k] := ⟨_, rfl⟩
        have hok := HS.out _ (List.getElem_mem hlt)
        rw [← hx] at c3 c4 c6 hok
        have HX := Lib.hid hx
        have o3 := hok.b
        have o4 := hok.x
        obtain ⟨kA, kc, hkv, hkl, -, -⟩ := hok.keep
        rw [hkv] at c6
        clear hx hok hkv
        by_cases g1 : x.b.size ≤ 200
        · have g1i : ¬ (200 : Int) < x.b.size := by omega
          by_cases g2 : x.x.size ≤ 200
          · have g2i : ¬ (200 : Int) < x.x.size := by omega
            by_cases g3 : x.keep.length ≤ 100
            · have g3i : ¬ (100 : Int) < x.keep.length := by omega
              have hsm : x.Small := ⟨g1, g2, g3⟩
              have hnext : ∀ j (_ : j < k + 1) (h : j < l.length), l[j].Small := fun j hj h => by
                by_cases e : j = k
                · subst e; rw [← HX.out]; exact hsm
                · exact HA.out j (by omega) h
              have HN := Lib.hid hnext
              clear hnext hsm
              have hsuc : IntKind.i64.wrap ((k : Int) + 1) = ((k + 1 : Nat) : Int) := by simp [IntKind.wrap, IntKind.bits, IntKind.signed]; omega
              go_wp2
              go_round
              case rel => exact ⟨k + 1, by omega, by omega, rfl, HN.out⟩
              case measure => simp [intOf]; omega
            · have g3i : (100 : Int) < x.keep.length := by omega
              have hgt : g = true := HG.out.2 (fun hf => g3 (by have := hf.2 k hlt; rw [← HX.out] at this; exact this.2.2))
              subst hgt
              go_wp2
              go_ret
              exact ⟨rfl, rfl⟩
          · have g2i : (200 : Int) < x.x.size := by omega
            have hgt : g = true := HG.out.2 (fun hf => g2 (by have := hf.2 k hlt; rw [← HX.out] at this; exact this.2.1))
            subst hgt
            go_wp2
            go_ret
            exact ⟨rfl, rfl⟩
        · have g1i : (200 : Int) < x.b.size := by omega
          have hgt : g = true := HG.out.2 (fun hf => g1 (by have := hf.2 k hlt; rw [← HX.out] at this; exact this.1))
          subst hgt
          go_wp2
          go_ret
          exact ⟨rfl, rfl⟩
      · have h30i : ¬ (k : Int) ≤ 200 := by omega
        have hgt : g = true := HG.out.2 (fun hf => by have := hf.1; omega)
        subst hgt
        have hli : (200 : Int) < l.length := by omega
        go_wp2
        go_ret
        exact ⟨by simp, rfl⟩
    · have hlt1 : ¬ (k : Int) < l.length := by omega
      have hke : k = l.length := by omega
      by_cases h200 : l.length ≤ 200
      · have hli : ¬ (200 : Int) < l.length := by omega
        have hgf : g = false := by
          cases hgc : g
          · rfl
          · exact absurd ⟨h200, fun j h => HA.out j (by omega) h⟩ (HG.out.1 hgc)
        subst hgf
        go_wp2
        go_ret
        exact ⟨by simp, rfl⟩
      · have hli : (200 : Int) < l.length := by omega
        have hgt : g = true := HG.out.2 (fun hf => h200 hf.1)
        subst hgt
        go_wp2
        go_ret
        exact ⟨by simp, rfl⟩
set_option maxRecDepth 100000 in
theorem great7_none (w : World) (A : Option Addr) (c : Nat) : Calls Try.prog 26 #[.slice A 0 c] w fun e w' => e = .returned (.bool false) ∧ w = w' := by
  go_enter Try.func26, Try.ntmps26
  go_wp2
  refine wp_loop_rounds 1 ?_
  rw [rounds_succ]
  go_wp2
  go_ret
  exact ⟨rfl, rfl⟩
theorem great7_any {W0 w : World} {A : Option Addr} {c : Nat} {l : List Dk.Ac} (hl : l.length ≤ 9223372036854775807) (hit : Dk.listAt w A l) (hs : ∀ a ∈ l, a.Ok W0) (g : Bool) (hg : g = true ↔ ¬ Dk.Fair l) :
    Calls Try.prog 26 #[.slice A l.length c] w fun e w' => e = .returned (.bool g) ∧ w = w' := by
  rcases hit with rfl | ⟨b, off, rfl, -, hit⟩
  · have : g = false := by
      cases g
      · rfl
      · exact absurd ⟨by simp, fun j h => by simp at h⟩ (hg.1 rfl)
    subst this
    exact great7_none w A c
  · exact great7_some w b off c l hl W0 hs hit g hg
theorem Dk.listAt.below {w w' : World} {A : Option Addr} {l : List Dk.Ac} (h : Dk.listAt w A l) (k : Below w.heap.size w w') : Dk.listAt w' A l := by
  rcases h with h | ⟨b, off, h1, h2, h3⟩
  · exact .inl h
  · exact .inr ⟨b, off, h1, Nat.lt_of_lt_of_le h2 k.size, h3.below k h2⟩
set_option maxRecDepth 100000 in
theorem data7_any (w : World) (a : Dk.Ac) : Calls Try.prog 48 #[.agg a.cells.toArray] w fun e w' => e = .returned (.string ⟨(Dk.data a).toArray⟩) ∧ Below w.heap.size w w' := by
  have b1 : Below w.heap.size w (w.alloc (.cells a.cells.toArray 66)) := (Below.refl _ w).alloc (Nat.le_refl _) _
  have g1 := heap_alloc_new w (.cells a.cells.toArray 66)
  have c3 := Sm.cells_of g1 3 (.string a.b) rfl
  have c5 := Sm.cells_of g1 5 (.int .u8 a.y.toNat) rfl
  have B1 := Lib.hid b1
  by_cases h0 : a.y = 0
  · have e : Dk.data a = a.b.data.toList := by simp [Dk.data, h0]
    have e2 : (⟨a.b.data.toList.toArray⟩ : ByteArray) = a.b := by cases a.b; simp
    rw [e, e2]; clear e e2
    have hy : ((a.y.toNat : Nat) : Int) = 0 := by rw [h0]; rfl
    rw [hy] at c5
    clear g1 b1
    unfold Dk.Ac.cells at *
    go_enter Try.func48, Try.ntmps48
    go_wp2
    go_ret
    exact ⟨rfl, by have := B1.out; rw [hy] at this; exact this⟩
  · have e : Dk.data a = Dk.full a.y := by simp [Dk.data, h0]
    rw [e]; clear e
    have hy : ¬ ((a.y.toNat : Nat) : Int) = 0 := by
      intro h
      apply h0
      apply UInt8.toNat_inj.1
      have : a.y.toNat = 0 := by omega
      rw [this]; rfl
    have FU : Hid (∀ wx : World, Calls Try.prog 42 #[.int .u8 a.y.toNat] wx fun e w' => e = .returned (.string ⟨(Dk.full a.y).toArray⟩) ∧ Below wx.heap.size wx w') := fun wx => full7_any wx a.y
    clear g1 b1
    unfold Dk.Ac.cells at *
    go_enter Try.func48, Try.ntmps48
    go_wp2_with fail
    refine (FU.out _).mono ?_
    rintro e w2 ⟨rfl, k2⟩
    have b2 := B1.out.trans (k2.mono B1.out.size)
    clear k2
    go_wp2_with fail
    go_ret
    exact ⟨rfl, b2⟩
end Go.Proofs.Ytimbcmcmidnlfaa
