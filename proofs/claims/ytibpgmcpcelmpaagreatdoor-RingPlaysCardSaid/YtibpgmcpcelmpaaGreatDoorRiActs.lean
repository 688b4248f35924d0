/-
  Acts upon a ring: what one is, where a slice of them lies, an argument opened; what the statements' helper calls great.
-/
import Derived.Test.YtibpgmcpcelmpaaGreatDoorRiAt
import Derived.ProofKit
import Derived.Deep.Slices
import Derived.Deep.Fields
namespace Go.Proofs.YtibpgmcpcelmpaaGreatDoor
open Go.ChangeMaps (open_string shut_string)
open Go.ChangeShapes Go.WideShapes Go.ChangeAt Go.RowKit Go.Deep Pk
namespace Ri
/-- An act. -/
structure Ac where
  d : Int
  a : ByteArray
  t : ByteArray
  b : ByteArray
  o : Int
structure Ac.Ok (x : Ac) : Prop where
  d : -9223372036854775808 ≤ x.d ∧ x.d ≤ 9223372036854775807
  a : x.a.size ≤ 9223372036854775807
  t : x.t.size ≤ 9223372036854775807
  b : x.b.size ≤ 9223372036854775807
  o : -9223372036854775808 ≤ x.o ∧ x.o ≤ 9223372036854775807
/-- An act whose texts are in the statements' bounds. -/
def Ac.Small (x : Ac) : Prop := x.a.size ≤ 300 ∧ (x.t.size ≤ 300 ∨ (8192 < x.t.size ∧ x.t.size ≤ 20000)) ∧ x.b.size ≤ 3000
def actAt (w : World) (b o : Nat) (x : Ac) : Prop :=
  w.cell? ⟨b, o, none⟩ = some (.int .i64 x.d) ∧ w.cell? ⟨b, o + 1, none⟩ = some (.string x.a) ∧ w.cell? ⟨b, o + 2, none⟩ = some (.string x.t) ∧
  w.cell? ⟨b, o + 3, none⟩ = some (.string x.b) ∧ w.cell? ⟨b, o + 4, none⟩ = some (.int .i64 x.o)
def actsAt (w : World) (b off : Nat) (l : List Ac) : Prop := ∀ k (hk : k < l.length), actAt w b (off + k * 5) l[k]
def listAt (w : World) (A : Option Addr) (l : List Ac) : Prop := l = [] ∨ ∃ b off, A = some ⟨b, off, none⟩ ∧ b < w.heap.size ∧ actsAt w b off l
theorem actAt.below {w w' : World} {b o B : Nat} {x : Ac} (h : actAt w b o x) (k : Below B w w') (hb : b < B) : actAt w' b o x := by
  have e : ∀ i, w'.cell? ⟨b, i, none⟩ = w.cell? ⟨b, i, none⟩ := fun i => k.cell (p := ⟨b, i, none⟩) hb
  unfold actAt
  simp only [e]
  exact h
theorem actsAt.below {w w' : World} {b off B : Nat} {l : List Ac} (h : actsAt w b off l) (k : Below B w w') (hb : b < B) : actsAt w' b off l := fun j hj => (h j hj).below k hb

theorem list_of {P : Nat → Ac → Prop} (n : Nat) (h : ∀ i, i < n → ∃ a, P i a) : ∃ l : List Ac, l.length = n ∧ ∀ i (hi : i < l.length), P i l[i] := by
  induction n with
  | zero => exact ⟨[], rfl, fun i hi => by simp at hi⟩
  | succ n ih =>
    obtain ⟨l, hl, hp⟩ := ih fun i hi => h i (by omega)
    obtain ⟨a, ha⟩ := h n (by omega)
    refine ⟨l ++ [a], by simp [hl], fun i hi => ?_⟩
    by_cases hin : i < l.length
    · rw [List.getElem_append_left hin]; exact hp i hin
    · have hie : i = l.length := by simp at hi; omega
      subst hie
      rw [List.getElem_append_right (by omega)]
      simp [hl, ha]
theorem act_check : (match Tryz.prog.underlying 35 with | some (.struct fs) => decide ((fs.map fun f => f.type) = #[3, 9, 9, 9, 3]) && oneCellFields Tryz.prog fs | _ => false) = true := by kernel_rfl
theorem act_shape : ∃ fs, Tryz.prog.underlying 35 = some (.struct fs) ∧ (fs.map fun f => f.type) = #[3, 9, 9, 9, 3] ∧ oneCellFields Tryz.prog fs = true := by
  have h := act_check
  split at h
  · rename_i fs hfs
    simp only [Bool.and_eq_true, decide_eq_true_eq] at h
    exact ⟨fs, hfs, h.1, h.2⟩
  · simp at h
theorem act_cells : Tryz.prog.cellsOf 35 = 5 := by kernel_rfl
theorem und_acts : Tryz.prog.underlying 23 = some (.slice 35) := by kernel_rfl
theorem field_at {fs : Array Field} {ts : Array TypeId} (hfs : (fs.map fun f => f.type) = ts) (j : Nat) (t : TypeId) (h : ts[j]? = some t) :
    ∃ f, fs[j]? = some f ∧ f.type = t := by
  rw [← hfs, Array.getElem?_map] at h
  cases hf : fs[j]? with
  | none => rw [hf] at h; simp at h
  | some f => rw [hf] at h; exact ⟨f, rfl, by simpa using h⟩
set_option maxRecDepth 100000 in
theorem act_open {H : Type} {enc : TypeId × Value → H} {W : World} {base : Nat} {sp : Nat → Bool} {held : Bool} {n : Nat} {cs : List Value} {x : DataW H × List MemPlace}
    (h : DataW.trod enc Tryz.prog W base sp held n 35 cs = some x) :
    ∃ a : Ac, a.Ok ∧ cs = [.int .i64 a.d, .string a.a, .string a.t, .string a.b, .int .i64 a.o] := by
  obtain ⟨fs, hund, htypes, hone⟩ := act_shape
  obtain ⟨ys, k, _, _, hlen, hyl, hf⟩ := DataW.trod_struct hund h
  rw [act_cells] at hlen
  have hsz : fs.size = 5 := by have := congrArg Array.size htypes; simpa using this
  have get : ∀ (j : Nat) (t : TypeId), j < 5 → #[3, 9, 9, 9, 3][j]? = some t → ∃ y, DataW.trod enc Tryz.prog W base sp held k t ((cs.drop j).take 1) = some y := by
    intro j t hj ht
    obtain ⟨f, hfj, hft⟩ := field_at htypes j t ht
    obtain ⟨ho, hc⟩ := hone_of hone j f hfj
    have h1 := hf j f hfj
    rw [ho, hc, hft, List.getElem?_eq_getElem (by omega)] at h1
    exact ⟨_, h1⟩
  match cs, hlen with
  | [c0, c1, c2, c3, c4], _ =>
    obtain ⟨y0, g0⟩ := get 0 3 (by omega) rfl
    obtain ⟨y1, g1⟩ := get 1 9 (by omega) rfl
    obtain ⟨y2, g2⟩ := get 2 9 (by omega) rfl
    obtain ⟨y3, g3⟩ := get 3 9 (by omega) rfl
    obtain ⟨y4, g4⟩ := get 4 3 (by omega) rfl
    obtain ⟨n0, e0, -, r0⟩ := DataW.trod_int Tryz.underlying3 g0
    obtain ⟨n1, e1, -, r1⟩ := DataW.trod_string Tryz.underlying9 g1
    obtain ⟨n2, e2, -, r2⟩ := DataW.trod_string Tryz.underlying9 g2
    obtain ⟨n3, e3, -, r3⟩ := DataW.trod_string Tryz.underlying9 g3
    obtain ⟨n4, e4, -, r4⟩ := DataW.trod_int Tryz.underlying3 g4
    simp at e0 e1 e2 e3 e4
    have q0 : -9223372036854775808 ≤ n0 ∧ n0 ≤ 9223372036854775807 := by simpa [Lit.wf, IntKind.min, IntKind.max, IntKind.signed, IntKind.bits] using r0
    have q4 : -9223372036854775808 ≤ n4 ∧ n4 ≤ 9223372036854775807 := by simpa [Lit.wf, IntKind.min, IntKind.max, IntKind.signed, IntKind.bits] using r4
    unfold maxLen at r1 r2 r3
    refine ⟨⟨n0, n1, n2, n3, n4⟩, ⟨q0, by show n1.size ≤ _; omega, by show n2.size ≤ _; omega, by show n3.size ≤ _; omega, q4⟩, ?_⟩
    rw [e0, e1, e2, e3, e4]

set_option maxRecDepth 100000 in
/-- A slice of acts, opened. -/
theorem open_acts {H : Type} {enc : TypeId × Value → H} {W : World} {sp : Nat → Bool} {held : Bool} {b0 : Nat} {r : Reach} {v : Value} {d : DataW H} {ps : List MemPlace}
    (hval : Value.okWide Tryz.prog W r b0 23 v) (h : DataW.Trod enc Tryz.prog W 0 sp held 23 v d ps) :
    ∃ A c l, v = .slice A l.length c ∧ l.length ≤ c ∧ c ≤ 9223372036854775807 ∧ listAt W A l ∧ ∀ a ∈ l, a.Ok := by
  obtain ⟨A, len, cap, rfl⟩ := okWide_slice und_acts hval
  obtain ⟨fuel, hf⟩ := h
  rcases open_slice und_acts hf with ⟨hcs, _⟩ | ⟨a, len', cap', m, n, D, Pl, hcs, _, hl, hm, hmm, _, hi⟩
  · simp [Value.cells] at hcs
    obtain ⟨rfl, rfl, rfl⟩ := hcs
    exact ⟨none, 0, [], rfl, Nat.le_refl _, by omega, .inl rfl, by simp⟩
  · simp [Value.cells] at hcs
    obtain ⟨rfl, rfl, rfl⟩ := hcs
    have hml : len ≤ m := by rw [hmm]; split <;> omega
    obtain ⟨l, hll, hP⟩ := list_of (P := fun i x => x.Ok ∧ ∀ j, j < 5 → W.cell? (a.add (i * 5 + j)) = [Value.int .i64 x.d, .string x.a, .string x.t, .string x.b, .int .i64 x.o][j]?) len (by
      intro i hil
      obtain ⟨cs', hc, ht⟩ := hi i (by omega)
      obtain ⟨x, hx, rfl⟩ := act_open ht
      refine ⟨x, hx, fun j hj => ?_⟩
      rw [act_cells] at hc
      have := (World.cells?_some hc).2.2 j hj
      rw [add_add] at this
      exact this)
    subst hll
    refine ⟨some a, cap, l, rfl, hl, hm, ?_, fun x hx => ?_⟩
    · by_cases h0 : l = []
      · exact .inl h0
      · have hpos := List.length_pos_iff.2 h0
        obtain ⟨b, off, spot⟩ := a
        have hc0 := (hP 0 hpos).2 0 (by omega)
        have hspot : spot = none := by simpa [Addr.add] using World.cell?_spot hc0
        subst hspot
        have hlt := World.block_lt_of_cell? W _ hc0
        refine .inr ⟨b, off, rfl, by simpa [Addr.add] using hlt, fun k hk => ?_⟩
        have hj := (hP k hk).2
        simp only [Addr.add_lit] at hj
        exact ⟨hj 0 (by omega), by have := hj 1 (by omega); rw [← Nat.add_assoc] at this; exact this, by have := hj 2 (by omega); rw [← Nat.add_assoc] at this; exact this, by have := hj 3 (by omega); rw [← Nat.add_assoc] at this; exact this, by have := hj 4 (by omega); rw [← Nat.add_assoc] at this; exact this⟩
    · obtain ⟨i, hi', rfl⟩ := List.getElem_of_mem hx
      exact (hP i hi').1
theorem ret_bool {a b : Bool} (h : a = b) : Ending.returned (.bool a) = .returned (.bool b) := by rw [h]
/-- Acts that the statements take. -/
def Fair (l : List Ac) : Prop := l.length ≤ 30 ∧ ∀ j (h : j < l.length), l[j].Small
end Ri

set_option maxRecDepth 100000 in
set_option maxHeartbeats 4000000 in
theorem great6_some (w : World) (b off c : Nat) (l : List Ri.Ac) (hl : l.length ≤ 9223372036854775807) (hs : ∀ a ∈ l, a.Ok) (hit : Ri.actsAt w b off l) (g : Bool) (hg : g = true ↔ ¬ Ri.Fair l) :
    Calls Tryz.prog 5 #[.slice (some ⟨b, off, none⟩) l.length c] w fun e w' => e = .returned (.bool g) ∧ w = w' := by
  have HIT := Lib.hid hit
  have HS := Lib.hid hs
  have HG := Lib.hid hg
  clear hit hs hg
  go_enter Tryz.func5, Tryz.ntmps5
  go_wp2
  go_loop [3] (fun i => ∃ k : Nat, k ≤ l.length ∧ k ≤ 31 ∧ i = .int .i64 k ∧ ∀ j (_ : j < k) (h : j < l.length), l[j].Small) (fun i => l.length - (intOf i).toNat)
  case atStart => exact ⟨0, Nat.zero_le _, by omega, rfl, by intro j hj; omega⟩
  case round =>
    obtain ⟨k, hk, hk31, rfl, hall⟩ := hrel
    have HA := Lib.hid hall
    clear hall
    by_cases hlt : k < l.length
    · have hlt1 : (k : Int) < l.length := by omega
      by_cases h30 : k ≤ 30
      · have h30i : (k : Int) ≤ 30 := by omega
        obtain ⟨-, c1, c2, c3, -⟩ := HIT.out k hlt
        obtain ⟨x, hx⟩ : ∃ x, x = l[k] := ⟨_, rfl⟩
        have hok := HS.out _ (List.getElem_mem hlt)
        rw [← hx] at c1 c2 c3 hok
        have HX := Lib.hid hx
        obtain ⟨-, oa, ot, ob, -⟩ := hok
        clear hx
        by_cases g1 : x.a.size ≤ 300
        · have g1i : ¬ (300 : Int) < x.a.size := by omega
          by_cases g2 : x.t.size ≤ 300
          · have g2i : ¬ (300 : Int) < x.t.size := by omega
            have g3i : ¬ (20000 : Int) < x.t.size := by omega
            by_cases g4 : x.b.size ≤ 3000
            · have g4i : ¬ (3000 : Int) < x.b.size := by omega
              go_wp2
              go_round
              case rel =>
                refine ⟨k + 1, by omega, by omega, by go_num, fun j hj hjl => ?_⟩
                by_cases hjk : j = k
                · subst hjk; rw [← HX.out]; exact ⟨g1, .inl g2, g4⟩
                · exact HA.out j (by omega) hjl
              case measure => simp [intOf]; omega
            · have g4i : (3000 : Int) < x.b.size := by omega
              go_wp2
              go_ret
              obtain rfl : g = true := HG.out.2 fun h => by have := h.2 k hlt; rw [← HX.out] at this; obtain ⟨q1, q2, q3⟩ := this; omega
              first | exact ⟨rfl, rfl⟩ | exact ⟨Ri.ret_bool (by simp; omega), rfl⟩
          · have g2i : (300 : Int) < x.t.size := by omega
            by_cases g3 : x.t.size ≤ 8192
            · have g3i : (x.t.size : Int) ≤ 8192 := by omega
              go_wp2
              go_ret
              obtain rfl : g = true := HG.out.2 fun h => by have := h.2 k hlt; rw [← HX.out] at this; obtain ⟨q1, q2, q3⟩ := this; omega
              first | exact ⟨rfl, rfl⟩ | exact ⟨Ri.ret_bool (by simp; omega), rfl⟩
            · have g3i : ¬ (x.t.size : Int) ≤ 8192 := by omega
              by_cases g5 : x.t.size ≤ 20000
              · have g5i : ¬ (20000 : Int) < x.t.size := by omega
                by_cases g4 : x.b.size ≤ 3000
                · have g4i : ¬ (3000 : Int) < x.b.size := by omega
                  go_wp2
                  go_round
                  case rel =>
                    refine ⟨k + 1, by omega, by omega, by go_num, fun j hj hjl => ?_⟩
                    by_cases hjk : j = k
                    · subst hjk; rw [← HX.out]; exact ⟨g1, .inr ⟨by omega, g5⟩, g4⟩
                    · exact HA.out j (by omega) hjl
                  case measure => simp [intOf]; omega
                · have g4i : (3000 : Int) < x.b.size := by omega
                  go_wp2
                  go_ret
                  obtain rfl : g = true := HG.out.2 fun h => by have := h.2 k hlt; rw [← HX.out] at this; obtain ⟨q1, q2, q3⟩ := this; omega
                  first | exact ⟨rfl, rfl⟩ | exact ⟨Ri.ret_bool (by simp; omega), rfl⟩
              · have g5i : (20000 : Int) < x.t.size := by omega
                go_wp2
                go_ret
                obtain rfl : g = true := HG.out.2 fun h => by have := h.2 k hlt; rw [← HX.out] at this; obtain ⟨q1, q2, q3⟩ := this; omega
                first | exact ⟨rfl, rfl⟩ | exact ⟨Ri.ret_bool (by simp; omega), rfl⟩
        · have g1i : (300 : Int) < x.a.size := by omega
          go_wp2
          go_ret
          obtain rfl : g = true := HG.out.2 fun h => by have := h.2 k hlt; rw [← HX.out] at this; obtain ⟨q1, q2, q3⟩ := this; omega
          first | exact ⟨rfl, rfl⟩ | exact ⟨Ri.ret_bool (by simp; omega), rfl⟩
      · have h30i : ¬ (k : Int) ≤ 30 := by omega
        have hbig : (30 : Int) < l.length := by omega
        go_wp2
        go_ret
        obtain rfl : g = true := HG.out.2 fun h => by have := h.1; omega
        first | exact ⟨rfl, rfl⟩ | exact ⟨Ri.ret_bool (by simp; omega), rfl⟩
    · obtain rfl : k = l.length := by omega
      by_cases h30 : l.length ≤ 30
      · have hbig : ¬ (30 : Int) < l.length := by omega
        go_wp2
        go_ret
        obtain rfl : g = false := Bool.eq_false_iff.2 fun q => HG.out.1 q ⟨h30, fun j hj => HA.out j hj hj⟩
        first | exact ⟨rfl, rfl⟩ | exact ⟨Ri.ret_bool (by simp; omega), rfl⟩
      · have hbig : (30 : Int) < l.length := by omega
        go_wp2
        go_ret
        obtain rfl : g = true := HG.out.2 fun h => by have := h.1; omega
        first | exact ⟨rfl, rfl⟩ | exact ⟨Ri.ret_bool (by simp; omega), rfl⟩

set_option maxHeartbeats 1000000 in
theorem great6_none (w : World) (A : Option Addr) (c : Nat) :
    Calls Tryz.prog 5 #[.slice A 0 c] w fun e w' => e = .returned (.bool false) ∧ w = w' := by
  go_enter Tryz.func5, Tryz.ntmps5
  go_wp2
  refine wp_loop_rounds 1 ?_
  rw [rounds_succ]
  go_wp2
  go_ret
  exact ⟨rfl, rfl⟩

theorem great6_any (w : World) (A : Option Addr) (c : Nat) (l : List Ri.Ac) (hl : l.length ≤ 9223372036854775807) (hs : ∀ a ∈ l, a.Ok) (hit : Ri.listAt w A l) (g : Bool) (hg : g = true ↔ ¬ Ri.Fair l) :
    Calls Tryz.prog 5 #[.slice A l.length c] w fun e w' => e = .returned (.bool g) ∧ w = w' := by
  rcases hit with rfl | ⟨b, off, rfl, _, hit⟩
  · obtain rfl : g = false := Bool.eq_false_iff.2 fun q => hg.1 q ⟨by simp, by simp⟩
    exact great6_none w A c
  · exact great6_some w b off c l hl hs hit g hg
end Go.Proofs.YtibpgmcpcelmpaaGreatDoor
