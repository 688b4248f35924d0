/-
  Acts upon a log: what one is, where a slice of them lies, an argument opened; what the statements' helper calls great.
-/
import Derived.Test.YtnmagfodjcookaaGreatDkActs
import Derived.ProofKit
import Derived.Deep.Slices
import Derived.Deep.Fields
namespace Go.Proofs.YtnmagfodjcookaaGreat
open Go.ChangeMaps (open_string shut_string)
open Go.ChangeShapes Go.WideShapes Go.ChangeAt Go.RowKit Go.Deep
namespace Lg
/-- An act. -/
structure Ac where
  d : Int
  t : ByteArray
  n : Int
  m : Int
  x : ByteArray
  kv : Value
  keep : List Int
structure Ac.Ok (W : World) (a : Ac) : Prop where
  d : -9223372036854775808 ≤ a.d ∧ a.d ≤ 9223372036854775807
  n : -9223372036854775808 ≤ a.n ∧ a.n ≤ 9223372036854775807
  m : -9223372036854775808 ≤ a.m ∧ a.m ≤ 9223372036854775807
  t : a.t.size ≤ 9223372036854775807
  x : a.x.size ≤ 9223372036854775807
  keep : Dk.IntsAt W a.kv a.keep
def Ac.cells (a : Ac) : List Value := [.int .i64 a.d, .string a.t, .int .i64 a.n, .int .i64 a.m, .string a.x, a.kv]
/-- An act in the statements' bounds. -/
def Ac.Small (a : Ac) : Prop := a.t.size ≤ 2000 ∧ a.x.size ≤ 1000 ∧ a.keep.length ≤ 60
def actAt (w : World) (b o : Nat) (a : Ac) : Prop :=
  w.cell? ⟨b, o, none⟩ = some (.int .i64 a.d) ∧ w.cell? ⟨b, o + 1, none⟩ = some (.string a.t) ∧ w.cell? ⟨b, o + 2, none⟩ = some (.int .i64 a.n) ∧
  w.cell? ⟨b, o + 3, none⟩ = some (.int .i64 a.m) ∧ w.cell? ⟨b, o + 4, none⟩ = some (.string a.x) ∧ w.cell? ⟨b, o + 5, none⟩ = some a.kv
def actsAt (w : World) (b off : Nat) (l : List Ac) : Prop := ∀ k (hk : k < l.length), actAt w b (off + k * 6) l[k]
def listAt (w : World) (A : Option Addr) (l : List Ac) : Prop := l = [] ∨ ∃ b off, A = some ⟨b, off, none⟩ ∧ b < w.heap.size ∧ actsAt w b off l
theorem actAt.below {w w' : World} {b o B : Nat} {x : Ac} (h : actAt w b o x) (k : Below B w w') (hb : b < B) : actAt w' b o x := by
  have e : ∀ i, w'.cell? ⟨b, i, none⟩ = w.cell? ⟨b, i, none⟩ := fun i => k.cell (p := ⟨b, i, none⟩) hb
  unfold actAt
  simp only [e]
  exact h
theorem actsAt.below {w w' : World} {b off B : Nat} {l : List Ac} (h : actsAt w b off l) (k : Below B w w') (hb : b < B) : actsAt w' b off l := fun j hj => (h j hj).below k hb
theorem list_of10 {P : Nat → Ac → Prop} (n : Nat) (h : ∀ i, i < n → ∃ a, P i a) : ∃ l : List Ac, l.length = n ∧ ∀ i (hi : i < l.length), P i l[i] := by
  induction n with
  | zero => exact ⟨[], rfl, fun i hi => by simp at hi⟩
  | succ n ih =>
    obtain ⟨l, hl, hp⟩ := ih fun i hi => h i (by omega)
    obtain ⟨a, ha⟩ := h n (by omega)
    refine ⟨l ++ [a], by simp [hl], fun i hi => ?_⟩
    by_cases hin : i < l.length
    · rw [List.getElem_append_left hin]; exact hp i hin
    · have hie : i = l.length := by simp at hi; omega
      subst hie
      rw [List.getElem_append_right (by omega)]
      simp [hl, ha]
theorem act_check10 : (match Tryz.prog.underlying 46 with | some (.struct fs) => decide ((fs.map fun f => f.type) = #[3, 9, 3, 3, 9, 44]) && oneCellFields Tryz.prog fs | _ => false) = true := by kernel_rfl
theorem act_shape10 : ∃ fs, Tryz.prog.underlying 46 = some (.struct fs) ∧ (fs.map fun f => f.type) = #[3, 9, 3, 3, 9, 44] ∧ oneCellFields Tryz.prog fs = true := by
  have h := act_check10
  split at h
  · rename_i fs hfs
    simp only [Bool.and_eq_true, decide_eq_true_eq] at h
    exact ⟨fs, hfs, h.1, h.2⟩
  · simp at h
theorem act_cells10 : Tryz.prog.cellsOf 46 = 6 := by kernel_rfl
theorem und_acts10 : Tryz.prog.underlying 23 = some (.slice 46) := by kernel_rfl
set_option maxRecDepth 100000 in
theorem act_open10 {H : Type} {enc : TypeId × Value → H} {W : World} {base : Nat} {sp : Nat → Bool} {held : Bool} {n : Nat} {cs : List Value} {x : DataW H × List MemPlace}
    (h : DataW.trod enc Tryz.prog W base sp held n 46 cs = some x) :
    ∃ a : Ac, a.Ok W ∧ cs = a.cells := by
  obtain ⟨fs, hund, htypes, hone⟩ := act_shape10
  obtain ⟨ys, k, _, _, hlen, hyl, hf⟩ := DataW.trod_struct hund h
  rw [act_cells10] at hlen
  have hsz : fs.size = 6 := by have := congrArg Array.size htypes; simpa using this
  have get : ∀ (j : Nat) (t : TypeId), j < 6 → #[3, 9, 3, 3, 9, 44][j]? = some t → ∃ y, DataW.trod enc Tryz.prog W base sp held k t ((cs.drop j).take 1) = some y := by
    intro j t hj ht
    obtain ⟨f, hfj, hft⟩ := Dk.field_at htypes j t ht
    obtain ⟨ho, hc⟩ := hone_of hone j f hfj
    have h1 := hf j f hfj
    rw [ho, hc, hft, List.getElem?_eq_getElem (by omega)] at h1
    exact ⟨_, h1⟩
  match cs, hlen with
  | [c0, c1, c2, c3, c4, c5], _ =>
    obtain ⟨y0, g0⟩ := get 0 3 (by omega) rfl
    obtain ⟨y1, g1⟩ := get 1 9 (by omega) rfl
    obtain ⟨y2, g2⟩ := get 2 3 (by omega) rfl
    obtain ⟨y3, g3⟩ := get 3 3 (by omega) rfl
    obtain ⟨y4, g4⟩ := get 4 9 (by omega) rfl
    obtain ⟨y5, g5⟩ := get 5 44 (by omega) rfl
    obtain ⟨n0, e0, -, r0⟩ := DataW.trod_int Tryz.underlying3 g0
    obtain ⟨n1, e1, -, r1⟩ := DataW.trod_string Tryz.underlying9 g1
    obtain ⟨n2, e2, -, r2⟩ := DataW.trod_int Tryz.underlying3 g2
    obtain ⟨n3, e3, -, r3⟩ := DataW.trod_int Tryz.underlying3 g3
    obtain ⟨n4, e4, -, r4⟩ := DataW.trod_string Tryz.underlying9 g4
    obtain ⟨l5, h5⟩ := Dk.ints_open (v := c5) (by simpa using g5)
    simp at e0 e1 e2 e3 e4
    have q0 : -9223372036854775808 ≤ n0 ∧ n0 ≤ 9223372036854775807 := by simpa [Lit.wf, IntKind.min, IntKind.max, IntKind.signed, IntKind.bits] using r0
    have q2 : -9223372036854775808 ≤ n2 ∧ n2 ≤ 9223372036854775807 := by simpa [Lit.wf, IntKind.min, IntKind.max, IntKind.signed, IntKind.bits] using r2
    have q3 : -9223372036854775808 ≤ n3 ∧ n3 ≤ 9223372036854775807 := by simpa [Lit.wf, IntKind.min, IntKind.max, IntKind.signed, IntKind.bits] using r3
    unfold maxLen at r1 r4
    refine ⟨⟨n0, n1, n2, n3, n4, c5, l5⟩, ⟨q0, q2, q3, by show n1.size ≤ _; omega, by show n4.size ≤ _; omega, h5⟩, ?_⟩
    rw [e0, e1, e2, e3, e4]
    rfl
set_option maxRecDepth 100000 in
/-- A slice of acts, opened. -/
theorem open_acts10 {H : Type} {enc : TypeId × Value → H} {W : World} {sp : Nat → Bool} {held : Bool} {b0 : Nat} {r : Reach} {v : Value} {d : DataW H} {ps : List MemPlace}
    (hval : Value.okWide Tryz.prog W r b0 23 v) (h : DataW.Trod enc Tryz.prog W 0 sp held 23 v d ps) :
    ∃ A c l, v = .slice A l.length c ∧ l.length ≤ c ∧ c ≤ 9223372036854775807 ∧ listAt W A l ∧ ∀ a ∈ l, a.Ok W := by
  obtain ⟨A, len, cap, rfl⟩ := okWide_slice und_acts10 hval
  obtain ⟨fuel, hf⟩ := h
  rcases open_slice und_acts10 hf with ⟨hcs, _⟩ | ⟨a, len', cap', m, n, D, Pl, hcs, _, hl, hm, hmm, _, hi⟩
  · simp [Value.cells] at hcs
    obtain ⟨rfl, rfl, rfl⟩ := hcs
    exact ⟨none, 0, [], rfl, Nat.le_refl _, by omega, .inl rfl, by simp⟩
  · simp [Value.cells] at hcs
    obtain ⟨rfl, rfl, rfl⟩ := hcs
    have hml : len ≤ m := by rw [hmm]; split <;> omega
    obtain ⟨l, hll, hP⟩ := list_of10 (P := fun i x => x.Ok W ∧ ∀ j, j < 6 → W.cell? (a.add (i * 6 + j)) = x.cells[j]?) len (by
      intro i hil
      obtain ⟨cs', hc, ht⟩ := hi i (by omega)
      obtain ⟨x, hx, rfl⟩ := act_open10 ht
      refine ⟨x, hx, fun j hj => ?_⟩
      rw [act_cells10] at hc
      have := (World.cells?_some hc).2.2 j hj
      rw [add_add] at this
      exact this)
    subst hll
    refine ⟨some a, cap, l, rfl, hl, hm, ?_, fun x hx => ?_⟩
    · by_cases h0 : l = []
      · exact .inl h0
      · have hpos := List.length_pos_iff.2 h0
        obtain ⟨b, off, spot⟩ := a
        have hc0 := (hP 0 hpos).2 0 (by omega)
        have hspot : spot = none := by simpa [Addr.add] using World.cell?_spot hc0
        subst hspot
        have hlt := World.block_lt_of_cell? W _ hc0
        refine .inr ⟨b, off, rfl, by simpa [Addr.add] using hlt, fun k hk => ?_⟩
        have hj := (hP k hk).2
        simp only [Addr.add_lit] at hj
        exact ⟨hj 0 (by omega), by have := hj 1 (by omega); rw [← Nat.add_assoc] at this; exact this, by have := hj 2 (by omega); rw [← Nat.add_assoc] at this; exact this, by have := hj 3 (by omega); rw [← Nat.add_assoc] at this; exact this, by have := hj 4 (by omega); rw [← Nat.add_assoc] at this; exact this, by have := hj 5 (by omega); rw [← Nat.add_assoc] at this; exact this⟩
    · obtain ⟨i, hi', rfl⟩ := List.getElem_of_mem hx
      exact (hP i hi').1
/-- Acts that the statements take. -/
def Fair (l : List Ac) : Prop := l.length ≤ 60 ∧ ∀ j (h : j < l.length), l[j].Small
end Lg

set_option maxRecDepth 100000 in
set_option maxHeartbeats 4000000 in
theorem great10_some (w : World) (b off c : Nat) (l : List Lg.Ac) (hl : l.length ≤ 9223372036854775807) (W0 : World) (hs : ∀ a ∈ l, a.Ok W0) (hit : Lg.actsAt w b off l) (g : Bool) (hg : g = true ↔ ¬ Lg.Fair l) :
    Calls Tryz.prog 6 #[.slice (some ⟨b, off, none⟩) l.length c] w fun e w' => e = .returned (.bool g) ∧ w = w' := by
  have HIT := Lib.hid hit
  have HS := Lib.hid hs
  have HG := Lib.hid hg
  clear hit hs hg
  go_enter Tryz.func6, Tryz.ntmps6
  go_wp2
  go_loop [3] (fun i => ∃ k : Nat, k ≤ l.length ∧ k ≤ 61 ∧ i = .int .i64 k ∧ ∀ j (_ : j < k) (h : j < l.length), l[j].Small) (fun i => l.length - (intOf i).toNat)
  case atStart => exact ⟨0, Nat.zero_le _, by omega, rfl, by intro j hj; omega⟩
  case round =>
    obtain ⟨k, hk, hk31, rfl, hall⟩ := hrel
    have HA := Lib.hid hall
    clear hall
    by_cases hlt : k < l.length
    · have hlt1 : (k : Int) < l.length := by omega
      by_cases h30 : k ≤ 60
      · have h30i : (k : Int) ≤ 60 := by omega
        obtain ⟨-, c3, -, -, c4, c6⟩ := HIT.out k hlt
        obtain ⟨x, hx⟩ : ∃ x, x = l[k] := ⟨_, rfl⟩
        have hok := HS.out _ (List.getElem_mem hlt)
        rw [← hx] at c3 c4 c6 hok
        have HX := Lib.hid hx
        have o3 := hok.t
        have o4 := hok.x
        obtain ⟨kA, kc, hkv, hkl, -, -⟩ := hok.keep
        rw [hkv] at c6
        clear hx hok hkv
        by_cases g1 : x.t.size ≤ 2000
        · have g1i : ¬ (2000 : Int) < x.t.size := by omega
          by_cases g2 : x.x.size ≤ 1000
          · have g2i : ¬ (1000 : Int) < x.x.size := by omega
            by_cases g3 : x.keep.length ≤ 60
            · have g3i : ¬ (60 : Int) < x.keep.length := by omega
              have hsm : x.Small := ⟨g1, g2, g3⟩
              have hnext : ∀ j (_ : j < k + 1) (h : j < l.length), l[j].Small := fun j hj h => by
                by_cases e : j = k
                · subst e; rw [← HX.out]; exact hsm
                · exact HA.out j (by omega) h
              have HN := Lib.hid hnext
              clear hnext hsm
              have hsuc : IntKind.i64.wrap ((k : Int) + 1) = ((k + 1 : Nat) : Int) := by simp [IntKind.wrap, IntKind.bits, IntKind.signed]; omega
              go_wp2
              go_round
              case rel => exact ⟨k + 1, by omega, by omega, rfl, HN.out⟩
              case measure => simp [intOf]; omega
            · have g3i : (60 : Int) < x.keep.length := by omega
              have hgt : g = true := HG.out.2 (fun hf => g3 (by have := hf.2 k hlt; rw [← HX.out] at this; exact this.2.2))
              subst hgt
              go_wp2
              go_ret
              exact ⟨rfl, rfl⟩
          · have g2i : (1000 : Int) < x.x.size := by omega
            have hgt : g = true := HG.out.2 (fun hf => g2 (by have := hf.2 k hlt; rw [← HX.out] at this; exact this.2.1))
            subst hgt
            go_wp2
            go_ret
            exact ⟨rfl, rfl⟩
        · have g1i : (2000 : Int) < x.t.size := by omega
          have hgt : g = true := HG.out.2 (fun hf => g1 (by have := hf.2 k hlt; rw [← HX.out] at this; exact this.1))
          subst hgt
          go_wp2
          go_ret
          exact ⟨rfl, rfl⟩
      · have h30i : ¬ (k : Int) ≤ 60 := by omega
        have hgt : g = true := HG.out.2 (fun hf => by have := hf.1; omega)
        subst hgt
        have hli : (60 : Int) < l.length := by omega
        go_wp2
        go_ret
        exact ⟨by simp, rfl⟩
    · have hlt1 : ¬ (k : Int) < l.length := by omega
      have hke : k = l.length := by omega
      by_cases h200 : l.length ≤ 60
      · have hli : ¬ (60 : Int) < l.length := by omega
        have hgf : g = false := by
          cases hgc : g
          · rfl
          · exact absurd ⟨h200, fun j h => HA.out j (by omega) h⟩ (HG.out.1 hgc)
        subst hgf
        go_wp2
        go_ret
        exact ⟨by simp, rfl⟩
      · have hli : (60 : Int) < l.length := by omega
        have hgt : g = true := HG.out.2 (fun hf => h200 hf.1)
        subst hgt
        go_wp2
        go_ret
        exact ⟨by simp, rfl⟩
set_option maxRecDepth 100000 in
theorem great10_none (w : World) (A : Option Addr) (c : Nat) : Calls Tryz.prog 6 #[.slice A 0 c] w fun e w' => e = .returned (.bool false) ∧ w = w' := by
  go_enter Tryz.func6, Tryz.ntmps6
  go_wp2
  refine wp_loop_rounds 1 ?_
  rw [rounds_succ]
  go_wp2
  go_ret
  exact ⟨rfl, rfl⟩
theorem great10_any {W0 w : World} {A : Option Addr} {c : Nat} {l : List Lg.Ac} (hl : l.length ≤ 9223372036854775807) (hit : Lg.listAt w A l) (hs : ∀ a ∈ l, a.Ok W0) (g : Bool) (hg : g = true ↔ ¬ Lg.Fair l) :
    Calls Tryz.prog 6 #[.slice A l.length c] w fun e w' => e = .returned (.bool g) ∧ w = w' := by
  rcases hit with rfl | ⟨b, off, rfl, -, hit⟩
  · have : g = false := by
      cases g
      · rfl
      · exact absurd ⟨by simp, fun j h => by simp at h⟩ (hg.1 rfl)
    subst this
    exact great10_none w A c
  · exact great10_some w b off c l hl W0 hs hit g hg
theorem Lg.listAt.below {w w' : World} {A : Option Addr} {l : List Lg.Ac} (h : Lg.listAt w A l) (k : Below w.heap.size w w') : Lg.listAt w' A l := by
  rcases h with h | ⟨b, off, h1, h2, h3⟩
  · exact .inl h
  · exact .inr ⟨b, off, h1, Nat.lt_of_lt_of_le h2 k.size, h3.below k h2⟩
end Go.Proofs.YtnmagfodjcookaaGreat
