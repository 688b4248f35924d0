/-
  Acts upon a net: what one is, where a slice of them lies, an argument opened; what the statements' helper calls great.
-/
import Derived.Test.YtimbcmcmidnlfaaNtEq
import Derived.ProofKit
import Derived.Deep.Slices
import Derived.Deep.Fields
namespace Go.Proofs.Ytimbcmcmidnlfaa
open Go.ChangeMaps (open_string shut_string)
open Go.ChangeShapes Go.WideShapes Go.ChangeAt Go.RowKit Go.Deep
namespace Nt
/-- An act. -/
structure Ac where
  a : Int
  p : Pk
  i : Int
  y : UInt8
structure Ac.Ok (x : Ac) : Prop where
  a : -9223372036854775808 ≤ x.a ∧ x.a ≤ 9223372036854775807
  f : -9223372036854775808 ≤ x.p.f ∧ x.p.f ≤ 9223372036854775807
  t : -9223372036854775808 ≤ x.p.t ∧ x.p.t ≤ 9223372036854775807
  d : x.p.d.size ≤ 9223372036854775807
  i : -9223372036854775808 ≤ x.i ∧ x.i ≤ 9223372036854775807
def Ac.cells (x : Ac) : List Value := [.int .i64 x.a, .int .i64 x.p.f, .int .i64 x.p.t, .string x.p.d, .int .i64 x.i, .int .u8 x.y.toNat]
def actAt (w : World) (b o : Nat) (x : Ac) : Prop :=
  w.cell? ⟨b, o, none⟩ = some (.int .i64 x.a) ∧ w.cell? ⟨b, o + 1, none⟩ = some (.int .i64 x.p.f) ∧ w.cell? ⟨b, o + 2, none⟩ = some (.int .i64 x.p.t) ∧
  w.cell? ⟨b, o + 3, none⟩ = some (.string x.p.d) ∧ w.cell? ⟨b, o + 4, none⟩ = some (.int .i64 x.i) ∧ w.cell? ⟨b, o + 5, none⟩ = some (.int .u8 x.y.toNat)
def actsAt (w : World) (b off : Nat) (l : List Ac) : Prop := ∀ k (hk : k < l.length), actAt w b (off + k * 6) l[k]
def listAt (w : World) (A : Option Addr) (l : List Ac) : Prop := l = [] ∨ ∃ b off, A = some ⟨b, off, none⟩ ∧ b < w.heap.size ∧ actsAt w b off l
theorem actAt.below {w w' : World} {b o B : Nat} {x : Ac} (h : actAt w b o x) (k : Below B w w') (hb : b < B) : actAt w' b o x := by
  have e : ∀ i, w'.cell? ⟨b, i, none⟩ = w.cell? ⟨b, i, none⟩ := fun i => k.cell (p := ⟨b, i, none⟩) hb
  unfold actAt
  simp only [e]
  exact h
theorem actsAt.below {w w' : World} {b off B : Nat} {l : List Ac} (h : actsAt w b off l) (k : Below B w w') (hb : b < B) : actsAt w' b off l := fun j hj => (h j hj).below k hb
theorem listAt.below {w w' : World} {A : Option Addr} {l : List Ac} (h : listAt w A l) (k : Below w.heap.size w w') : listAt w' A l := by
  rcases h with h | ⟨b, off, h1, h2, h3⟩
  · exact .inl h
  · exact .inr ⟨b, off, h1, Nat.lt_of_lt_of_le h2 k.size, h3.below k h2⟩
theorem list_of {P : Nat → Ac → Prop} (n : Nat) (h : ∀ i, i < n → ∃ a, P i a) : ∃ l : List Ac, l.length = n ∧ ∀ i (hi : i < l.length), P i l[i] := by
  induction n with
  | zero => exact ⟨[], rfl, fun i hi => by simp at hi⟩
  | succ n ih =>
    obtain ⟨l, hl, hp⟩ := ih fun i hi => h i (by omega)
    obtain ⟨a, ha⟩ := h n (by omega)
    refine ⟨l ++ [a], by simp [hl], fun i hi => ?_⟩
    by_cases hin : i < l.length
    · rw [List.getElem_append_left hin]; exact hp i hin
    · have hie : i = l.length := by simp at hi; omega
      subst hie
      rw [List.getElem_append_right (by omega)]
      simp [hl, ha]
theorem act_cells : Try.prog.cellsOf 41 = 6 := by kernel_rfl
theorem pk_cells : Try.prog.cellsOf 25 = 3 := by kernel_rfl
theorem und_acts : Try.prog.underlying 34 = some (.slice 41) := by kernel_rfl
theorem act_und : Try.prog.underlying 41 = some (.struct (Try.prog.fieldsOf 41)) := by kernel_rfl
theorem act_check : (match (Try.prog.fieldsOf 41).toList with
    | [a, b, c, d] => decide ((a.type = 3 ∧ b.type = 25 ∧ c.type = 3 ∧ d.type = 5) ∧ (a.offset = 0 ∧ b.offset = 1 ∧ c.offset = 4 ∧ d.offset = 5))
    | _ => false) = true := by kernel_rfl
set_option maxRecDepth 100000 in
theorem pk_open {H : Type} {enc : TypeId × Value → H} {W : World} {base : Nat} {sp : Nat → Bool} {held : Bool} {n : Nat} {cs : List Value} {x : DataW H × List MemPlace}
    (hl : cs.length = 3) (h : DataW.trod enc Try.prog W base sp held n 25 cs = some x) :
    ∃ p : Pk, (-9223372036854775808 ≤ p.f ∧ p.f ≤ 9223372036854775807) ∧ (-9223372036854775808 ≤ p.t ∧ p.t ≤ 9223372036854775807) ∧ p.d.size ≤ 9223372036854775807 ∧ cs = p.cells := by
  obtain ⟨ys, n, _, _, hlen, hyl, hx⟩ := DataW.trod_struct pk_und h
  have hc := pk_check
  split at hc
  · rename_i a b c hfl
    simp only [decide_eq_true_eq] at hc
    obtain ⟨-, ⟨t0, t1, t2⟩, o0, o1, o2⟩ := hc
    have hfs : (Try.prog.fieldsOf 25).size = 3 := by rw [← Array.length_toList, hfl]; rfl
    have get : ∀ (j : Nat) (f : Field), [a, b, c][j]? = some f → ∃ y, DataW.trod enc Try.prog W base sp held n f.type ((cs.drop f.offset).take (Try.prog.cellsOf f.type)) = some y := fun j f hj => by
      have h1 := hx j f (by rw [← Array.getElem?_toList, hfl]; exact hj)
      have hlt := (List.getElem?_eq_some_iff.1 hj).1
      rw [List.getElem?_eq_getElem (by rw [hyl, hfs]; exact hlt)] at h1
      exact ⟨_, h1⟩
    have k0 : Try.prog.cellsOf 3 = 1 := by kernel_rfl
    have k1 : Try.prog.cellsOf 9 = 1 := by kernel_rfl
    obtain ⟨y0, g0⟩ := get 0 a rfl
    obtain ⟨y1, g1⟩ := get 1 b rfl
    obtain ⟨y2, g2⟩ := get 2 c rfl
    rw [t0, o0, k0] at g0
    rw [t1, o1, k0] at g1
    rw [t2, o2, k1] at g2
    obtain ⟨n0, e0, -, r0⟩ := DataW.trod_int Try.underlying3 g0
    obtain ⟨n1, e1, -, r1⟩ := DataW.trod_int Try.underlying3 g1
    obtain ⟨n2, e2, -, r2⟩ := DataW.trod_string Try.underlying9 g2
    have q0 : -9223372036854775808 ≤ n0 ∧ n0 ≤ 9223372036854775807 := by simpa [Lit.wf, IntKind.min, IntKind.max, IntKind.signed, IntKind.bits] using r0
    have q1 : -9223372036854775808 ≤ n1 ∧ n1 ≤ 9223372036854775807 := by simpa [Lit.wf, IntKind.min, IntKind.max, IntKind.signed, IntKind.bits] using r1
    unfold maxLen at r2
    refine ⟨⟨n0, n1, n2⟩, q0, q1, by show n2.size ≤ _; omega, ?_⟩
    match cs, hl with
    | [c0, c1, c2], _ =>
      simp at e0 e1 e2
      rw [e0, e1, e2]
      rfl
  · exact absurd hc (by decide)
set_option maxRecDepth 100000 in
theorem act_open {H : Type} {enc : TypeId × Value → H} {W : World} {base : Nat} {sp : Nat → Bool} {held : Bool} {n : Nat} {cs : List Value} {x : DataW H × List MemPlace}
    (h : DataW.trod enc Try.prog W base sp held n 41 cs = some x) : ∃ a : Ac, a.Ok ∧ cs = a.cells := by
  obtain ⟨ys, n, _, _, hlen, hyl, hx⟩ := DataW.trod_struct act_und h
  rw [act_cells] at hlen
  have hc := act_check
  split at hc
  · rename_i a b c d hfl
    simp only [decide_eq_true_eq] at hc
    obtain ⟨⟨t0, t1, t2, t3⟩, o0, o1, o2, o3⟩ := hc
    have hfs : (Try.prog.fieldsOf 41).size = 4 := by rw [← Array.length_toList, hfl]; rfl
    have get : ∀ (j : Nat) (f : Field), [a, b, c, d][j]? = some f → ∃ y, DataW.trod enc Try.prog W base sp held n f.type ((cs.drop f.offset).take (Try.prog.cellsOf f.type)) = some y := fun j f hj => by
      have h1 := hx j f (by rw [← Array.getElem?_toList, hfl]; exact hj)
      have hlt := (List.getElem?_eq_some_iff.1 hj).1
      rw [List.getElem?_eq_getElem (by rw [hyl, hfs]; exact hlt)] at h1
      exact ⟨_, h1⟩
    have k0 : Try.prog.cellsOf 3 = 1 := by kernel_rfl
    have k1 : Try.prog.cellsOf 5 = 1 := by kernel_rfl
    obtain ⟨y0, g0⟩ := get 0 a rfl
    obtain ⟨y1, g1⟩ := get 1 b rfl
    obtain ⟨y2, g2⟩ := get 2 c rfl
    obtain ⟨y3, g3⟩ := get 3 d rfl
    rw [t0, o0, k0] at g0
    rw [t1, o1, pk_cells] at g1
    rw [t2, o2, k0] at g2
    rw [t3, o3, k1] at g3
    obtain ⟨n0, e0, -, r0⟩ := DataW.trod_int Try.underlying3 g0
    obtain ⟨p, p1, p2, p3, e1⟩ := pk_open (by rw [List.length_take, List.length_drop]; omega) g1
    obtain ⟨n2, e2, -, r2⟩ := DataW.trod_int Try.underlying3 g2
    obtain ⟨n3, e3, -, r3⟩ := DataW.trod_int Try.underlying5 g3
    have q0 : -9223372036854775808 ≤ n0 ∧ n0 ≤ 9223372036854775807 := by simpa [Lit.wf, IntKind.min, IntKind.max, IntKind.signed, IntKind.bits] using r0
    have q2 : -9223372036854775808 ≤ n2 ∧ n2 ≤ 9223372036854775807 := by simpa [Lit.wf, IntKind.min, IntKind.max, IntKind.signed, IntKind.bits] using r2
    refine ⟨⟨n0, p, n2, Sm.byteOf (.int .u8 n3)⟩, ⟨q0, p1, p2, p3, q2⟩, ?_⟩
    match cs, hlen with
    | [c0, c1, c2, c3, c4, c5], _ =>
      simp [Pk.cells] at e0 e1 e2 e3
      obtain ⟨e10, e11, e12⟩ := e1
      have := Sm.byteOf_back r3
      show _ = [Value.int .i64 n0, .int .i64 p.f, .int .i64 p.t, .string p.d, .int .i64 n2, .int .u8 ((Sm.byteOf (.int .u8 n3)).toNat : Int)]
      rw [← this, e0, e10, e11, e12, e2, e3]
  · exact absurd hc (by decide)
set_option maxRecDepth 100000 in
/-- A slice of acts, opened. -/
theorem open_acts {H : Type} {enc : TypeId × Value → H} {W : World} {sp : Nat → Bool} {held : Bool} {b0 : Nat} {r : Reach} {v : Value} {d : DataW H} {ps : List MemPlace}
    (hval : Value.okWide Try.prog W r b0 34 v) (h : DataW.Trod enc Try.prog W 0 sp held 34 v d ps) :
    ∃ A c l, v = .slice A l.length c ∧ l.length ≤ c ∧ c ≤ 9223372036854775807 ∧ listAt W A l ∧ ∀ a ∈ l, a.Ok := by
  obtain ⟨A, len, cap, rfl⟩ := okWide_slice und_acts hval
  obtain ⟨fuel, hf⟩ := h
  rcases open_slice und_acts hf with ⟨hcs, _⟩ | ⟨a, len', cap', m, n, D, Pl, hcs, _, hl, hm, hmm, _, hi⟩
  · simp [Value.cells] at hcs
    obtain ⟨rfl, rfl, rfl⟩ := hcs
    exact ⟨none, 0, [], rfl, Nat.le_refl _, by omega, .inl rfl, by simp⟩
  · simp [Value.cells] at hcs
    obtain ⟨rfl, rfl, rfl⟩ := hcs
    have hml : len ≤ m := by rw [hmm]; split <;> omega
    obtain ⟨l, hll, hP⟩ := list_of (P := fun i x => x.Ok ∧ ∀ j, j < 6 → W.cell? (a.add (i * 6 + j)) = x.cells[j]?) len (by
      intro i hil
      obtain ⟨cs', hc, ht⟩ := hi i (by omega)
      obtain ⟨x, hx, rfl⟩ := act_open ht
      refine ⟨x, hx, fun j hj => ?_⟩
      rw [act_cells] at hc
      have := (World.cells?_some hc).2.2 j hj
      rw [add_add] at this
      exact this)
    subst hll
    refine ⟨some a, cap, l, rfl, hl, hm, ?_, fun x hx => ?_⟩
    · by_cases h0 : l = []
      · exact .inl h0
      · have hpos := List.length_pos_iff.2 h0
        obtain ⟨b, off, spot⟩ := a
        have hc0 := (hP 0 hpos).2 0 (by omega)
        have hspot : spot = none := by simpa [Addr.add] using World.cell?_spot hc0
        subst hspot
        have hlt := World.block_lt_of_cell? W _ hc0
        refine .inr ⟨b, off, rfl, by simpa [Addr.add] using hlt, fun k hk => ?_⟩
        have hj := (hP k hk).2
        simp only [Addr.add_lit] at hj
        exact ⟨hj 0 (by omega), by have := hj 1 (by omega); rw [← Nat.add_assoc] at this; exact this, by have := hj 2 (by omega); rw [← Nat.add_assoc] at this; exact this, by have := hj 3 (by omega); rw [← Nat.add_assoc] at this; exact this, by have := hj 4 (by omega); rw [← Nat.add_assoc] at this; exact this, by have := hj 5 (by omega); rw [← Nat.add_assoc] at this; exact this⟩
    · obtain ⟨i, hi', rfl⟩ := List.getElem_of_mem hx
      exact (hP i hi').1
/-- How many bytes acts bear, each counted to 60001 at most. -/
def total (l : List Ac) : Nat := (l.map fun a => min a.p.d.size 60001).sum
/-- Acts that the statements take. -/
def Fair (l : List Ac) : Prop := l.length ≤ 300 ∧ total l ≤ 60000
theorem total_take {l : List Ac} {k : Nat} (h : k < l.length) : total (l.take (k + 1)) = total (l.take k) + min l[k].p.d.size 60001 := by
  rw [List.take_succ_eq_append_getElem h, total, List.map_append, List.sum_append]
  rfl
theorem total_mem {l : List Ac} {a : Ac} (h : a ∈ l) : min a.p.d.size 60001 ≤ total l := by
  induction l with
  | nil => cases h
  | cons b l ih =>
    simp only [total, List.map_cons, List.sum_cons] at ih ⊢
    rcases List.mem_cons.1 h with rfl | h
    · omega
    · have := ih h; omega
theorem Fair.data {l : List Ac} (h : Fair l) {a : Ac} (ha : a ∈ l) : a.p.d.size ≤ 60000 := by
  have h1 := total_mem ha
  have h2 := h.2
  omega
theorem total_le (l : List Ac) : total l ≤ l.length * 60001 := by
  induction l with
  | nil => exact Nat.le_refl _
  | cons b l ih =>
    simp only [total, List.map_cons, List.sum_cons, List.length_cons] at ih ⊢
    omega
end Nt
set_option maxRecDepth 100000 in
set_option maxHeartbeats 2000000 in
theorem great8_some (w : World) (b off c : Nat) (l : List Nt.Ac) (hl : l.length ≤ 9223372036854775807) (hs : ∀ a ∈ l, a.Ok) (hit : Nt.actsAt w b off l) (g : Bool) (hg : g = true ↔ ¬ Nt.Fair l) :
    Calls Try.prog 18 #[.slice (some ⟨b, off, none⟩) l.length c] w fun e w' => e = .returned (.bool g) ∧ w = w' := by
  have HIT := Lib.hid hit
  have HS := Lib.hid hs
  have HG := Lib.hid hg
  clear hit hs hg
  go_enter Try.func18, Try.ntmps18
  go_wp2
  go_loop [3, 4] (fun n i => ∃ k : Nat, k ≤ l.length ∧ k ≤ 301 ∧ i = .int .i64 k ∧ n = .int .i64 (Nt.total (l.take k) : Nat)) (fun _ i => l.length - (intOf i).toNat)
  case atStart => exact ⟨0, Nat.zero_le _, by omega, rfl, by simp [Nt.total]⟩
  case round =>
    obtain ⟨k, hk, hk31, rfl, rfl⟩ := hrel
    have htl := Nt.total_le (l.take k)
    have htk : (l.take k).length = k := by rw [List.length_take]; omega
    rw [htk] at htl
    have htb : Nt.total (l.take k) ≤ 301 * 60001 := Nat.le_trans htl (Nat.mul_le_mul_right _ hk31)
    clear htl htk
    by_cases hlt : k < l.length
    · have hlt1 : (k : Int) < l.length := by omega
      by_cases h30 : k ≤ 300
      · have h30i : (k : Int) ≤ 300 := by omega
        obtain ⟨-, -, -, c3, -, -⟩ := HIT.out k hlt
        have hnx := Nt.total_take hlt
        have hsz := (HS.out _ (List.getElem_mem hlt)).d
        obtain ⟨x, hx⟩ : ∃ x, x = l[k] := ⟨_, rfl⟩
        rw [← hx] at c3 hnx hsz
        obtain ⟨T, hT⟩ : ∃ T, T = Nt.total (l.take k) := ⟨_, rfl⟩
        rw [← hT] at hnx htb ⊢
        have hsuc : IntKind.i64.wrap ((k : Int) + 1) = ((k + 1 : Nat) : Int) := by simp [IntKind.wrap, IntKind.bits, IntKind.signed]; omega
        have hmn : IntKind.i64.wrap ((T : Int) + (min (x.p.d.size : Int) 60001)) = ((T + min x.p.d.size 60001 : Nat) : Int) := by simp [IntKind.wrap, IntKind.bits, IntKind.signed]; omega
        have HNX := Lib.hid hnx
        clear hx hT hnx
        go_wp2
        go_round
        case rel => exact ⟨k + 1, by omega, by omega, rfl, by rw [HNX.out, Int.natCast_add]⟩
        case measure => simp [intOf]; omega
      · have h30i : ¬ (k : Int) ≤ 300 := by omega
        have hgt : g = true := HG.out.2 (fun hf => by have := hf.1; omega)
        subst hgt
        have hli : (300 : Int) < l.length := by omega
        go_wp2
        go_ret
        exact ⟨by simp, rfl⟩
    · have hlt1 : ¬ (k : Int) < l.length := by omega
      have hke : l.take k = l := List.take_of_length_le (by omega)
      rw [hke] at htb ⊢
      obtain ⟨T, hT⟩ : ∃ T, T = Nt.total l := ⟨_, rfl⟩
      rw [← hT]
      have HT := Lib.hid hT
      clear hke hT htb
      by_cases h200 : l.length ≤ 300
      · have hli : ¬ (300 : Int) < l.length := by omega
        by_cases h6 : T ≤ 60000
        · have h6i : ¬ (60000 : Int) < T := by omega
          have hgf : g = false := by
            cases hgc : g
            · rfl
            · exact absurd ⟨h200, by rw [← HT.out]; exact h6⟩ (HG.out.1 hgc)
          subst hgf
          go_wp2
          go_ret
          exact ⟨by simp, rfl⟩
        · have h6i : (60000 : Int) < T := by omega
          have hgt : g = true := HG.out.2 (fun hf => h6 (by rw [HT.out]; exact hf.2))
          subst hgt
          go_wp2
          go_ret
          exact ⟨by simp, rfl⟩
      · have hli : (300 : Int) < l.length := by omega
        have hgt : g = true := HG.out.2 (fun hf => h200 hf.1)
        subst hgt
        go_wp2
        go_ret
        exact ⟨by simp, rfl⟩
set_option maxRecDepth 100000 in
theorem great8_none (w : World) (A : Option Addr) (c : Nat) : Calls Try.prog 18 #[.slice A 0 c] w fun e w' => e = .returned (.bool false) ∧ w = w' := by
  go_enter Try.func18, Try.ntmps18
  go_wp2
  refine wp_loop_rounds 1 ?_
  rw [rounds_succ]
  go_wp2
  go_ret
  exact ⟨rfl, rfl⟩
theorem great8_any {w : World} {A : Option Addr} {c : Nat} {l : List Nt.Ac} (hl : l.length ≤ 9223372036854775807) (hit : Nt.listAt w A l) (hs : ∀ a ∈ l, a.Ok) (g : Bool) (hg : g = true ↔ ¬ Nt.Fair l) :
    Calls Try.prog 18 #[.slice A l.length c] w fun e w' => e = .returned (.bool g) ∧ w = w' := by
  rcases hit with rfl | ⟨b, off, rfl, -, hit⟩
  · have : g = false := by
      cases g
      · rfl
      · exact absurd ⟨by simp, by simp [Nt.total]⟩ (hg.1 rfl)
    subst this
    exact great8_none w A c
  · exact great8_some w b off c l hl hs hit g hg
end Go.Proofs.Ytimbcmcmidnlfaa
