/-
  Mounts: what one is, where a slice of them lies, an argument opened; what the statements' helper calls great.
-/
import Derived.Test.YtehkbffbehlpnaaPaPath
import Derived.ProofKit
import Derived.Deep.Slices
import Derived.Deep.Fields
namespace Go.Proofs.Ytehkbffbehlpnaa
open Go.ChangeMaps (open_string shut_string)
open Go.ChangeShapes Go.WideShapes Go.ChangeAt Go.RowKit Go.Deep
namespace Pa
/-- A mount. -/
structure Mo where
  n : ByteArray
  s : Bool
def Mo.cells (m : Mo) : List Value := [.string m.n, .bool m.s]
def Mo.Ok (m : Mo) : Prop := m.n.size ≤ 9223372036854775807
def moAt (w : World) (b o : Nat) (m : Mo) : Prop := w.cell? ⟨b, o, none⟩ = some (.string m.n) ∧ w.cell? ⟨b, o + 1, none⟩ = some (.bool m.s)
def mosAt (w : World) (b off : Nat) (l : List Mo) : Prop := ∀ k (hk : k < l.length), moAt w b (off + k * 2) l[k]
def listAt (w : World) (A : Option Addr) (l : List Mo) : Prop := l = [] ∨ ∃ b off, A = some ⟨b, off, none⟩ ∧ b < w.heap.size ∧ mosAt w b off l
theorem moAt.below {w w' : World} {b o B : Nat} {x : Mo} (h : moAt w b o x) (k : Below B w w') (hb : b < B) : moAt w' b o x := by
  have e : ∀ i, w'.cell? ⟨b, i, none⟩ = w.cell? ⟨b, i, none⟩ := fun i => k.cell (p := ⟨b, i, none⟩) hb
  unfold moAt
  simp only [e]
  exact h
theorem mosAt.below {w w' : World} {b off B : Nat} {l : List Mo} (h : mosAt w b off l) (k : Below B w w') (hb : b < B) : mosAt w' b off l := fun j hj => (h j hj).below k hb
theorem listAt.below {w w' : World} {A : Option Addr} {l : List Mo} (h : listAt w A l) (k : Below w.heap.size w w') : listAt w' A l := by
  rcases h with h | ⟨b, off, h1, h2, h3⟩
  · exact .inl h
  · exact .inr ⟨b, off, h1, Nat.lt_of_lt_of_le h2 k.size, h3.below k h2⟩
theorem list_of11 {P : Nat → Mo → Prop} (n : Nat) (h : ∀ i, i < n → ∃ a, P i a) : ∃ l : List Mo, l.length = n ∧ ∀ i (hi : i < l.length), P i l[i] := by
  induction n with
  | zero => exact ⟨[], rfl, fun i hi => by simp at hi⟩
  | succ n ih =>
    obtain ⟨l, hl, hp⟩ := ih fun i hi => h i (by omega)
    obtain ⟨a, ha⟩ := h n (by omega)
    refine ⟨l ++ [a], by simp [hl], fun i hi => ?_⟩
    by_cases hin : i < l.length
    · rw [List.getElem_append_left hin]; exact hp i hin
    · have hie : i = l.length := by simp at hi; omega
      subst hie
      rw [List.getElem_append_right (by omega)]
      simp [hl, ha]
theorem mount_cells : Try.prog.cellsOf 89 = 2 := by kernel_rfl
theorem und_mounts : Try.prog.underlying 48 = some (.slice 89) := by kernel_rfl
theorem mount_und : Try.prog.underlying 89 = some (.struct (Try.prog.fieldsOf 89)) := by kernel_rfl
theorem mount_check : (match (Try.prog.fieldsOf 89).toList with
    | [a, b] => decide ((a.type = 9 ∧ b.type = 4) ∧ (a.offset = 0 ∧ b.offset = 1))
    | _ => false) = true := by kernel_rfl
set_option maxRecDepth 100000 in
theorem mount_open {H : Type} {enc : TypeId × Value → H} {W : World} {base : Nat} {sp : Nat → Bool} {held : Bool} {n : Nat} {cs : List Value} {x : DataW H × List MemPlace}
    (h : DataW.trod enc Try.prog W base sp held n 89 cs = some x) : ∃ a : Mo, a.Ok ∧ cs = a.cells := by
  obtain ⟨ys, n, _, _, hlen, hyl, hx⟩ := DataW.trod_struct mount_und h
  rw [mount_cells] at hlen
  have hc := mount_check
  split at hc
  · rename_i a b hfl
    simp only [decide_eq_true_eq] at hc
    obtain ⟨⟨t0, t1⟩, o0, o1⟩ := hc
    have hfs : (Try.prog.fieldsOf 89).size = 2 := by rw [← Array.length_toList, hfl]; rfl
    have get : ∀ (j : Nat) (f : Field), [a, b][j]? = some f → ∃ y, DataW.trod enc Try.prog W base sp held n f.type ((cs.drop f.offset).take (Try.prog.cellsOf f.type)) = some y := fun j f hj => by
      have h1 := hx j f (by rw [← Array.getElem?_toList, hfl]; exact hj)
      have hlt := (List.getElem?_eq_some_iff.1 hj).1
      rw [List.getElem?_eq_getElem (by rw [hyl, hfs]; exact hlt)] at h1
      exact ⟨_, h1⟩
    have k0 : Try.prog.cellsOf 9 = 1 := by kernel_rfl
    have k1 : Try.prog.cellsOf 4 = 1 := by kernel_rfl
    obtain ⟨y0, g0⟩ := get 0 a rfl
    obtain ⟨y1, g1⟩ := get 1 b rfl
    rw [t0, o0, k0] at g0
    rw [t1, o1, k1] at g1
    obtain ⟨n0, e0, -, r0⟩ := DataW.trod_string Try.underlying9 g0
    obtain ⟨n1, e1, -⟩ := DataW.trod_bool Try.underlying4 g1
    unfold maxLen at r0
    refine ⟨⟨n0, n1⟩, by show n0.size ≤ _; omega, ?_⟩
    match cs, hlen with
    | [c0, c1], _ =>
      simp at e0 e1
      rw [e0, e1]
      rfl
  · exact absurd hc (by decide)
set_option maxRecDepth 100000 in
/-- A slice of mounts, opened. -/
theorem open_mounts {H : Type} {enc : TypeId × Value → H} {W : World} {sp : Nat → Bool} {held : Bool} {b0 : Nat} {r : Reach} {v : Value} {d : DataW H} {ps : List MemPlace}
    (hval : Value.okWide Try.prog W r b0 48 v) (h : DataW.Trod enc Try.prog W 0 sp held 48 v d ps) :
    ∃ A c l, v = .slice A l.length c ∧ l.length ≤ c ∧ c ≤ 9223372036854775807 ∧ listAt W A l ∧ ∀ a ∈ l, a.Ok := by
  obtain ⟨A, len, cap, rfl⟩ := okWide_slice und_mounts hval
  obtain ⟨fuel, hf⟩ := h
  rcases open_slice und_mounts hf with ⟨hcs, _⟩ | ⟨a, len', cap', m, n, D, Pl, hcs, _, hl, hm, hmm, _, hi⟩
  · simp [Value.cells] at hcs
    obtain ⟨rfl, rfl, rfl⟩ := hcs
    exact ⟨none, 0, [], rfl, Nat.le_refl _, by omega, .inl rfl, by simp⟩
  · simp [Value.cells] at hcs
    obtain ⟨rfl, rfl, rfl⟩ := hcs
    have hml : len ≤ m := by rw [hmm]; split <;> omega
    obtain ⟨l, hll, hP⟩ := list_of11 (P := fun i x => x.Ok ∧ ∀ j, j < 2 → W.cell? (a.add (i * 2 + j)) = x.cells[j]?) len (by
      intro i hil
      obtain ⟨cs', hc, ht⟩ := hi i (by omega)
      obtain ⟨x, hx, rfl⟩ := mount_open ht
      refine ⟨x, hx, fun j hj => ?_⟩
      rw [mount_cells] at hc
      have := (World.cells?_some hc).2.2 j hj
      rw [add_add] at this
      exact this)
    subst hll
    refine ⟨some a, cap, l, rfl, hl, hm, ?_, fun x hx => ?_⟩
    · by_cases h0 : l = []
      · exact .inl h0
      · have hpos := List.length_pos_iff.2 h0
        obtain ⟨b, off, spot⟩ := a
        have hc0 := (hP 0 hpos).2 0 (by omega)
        have hspot : spot = none := by simpa [Addr.add] using World.cell?_spot hc0
        subst hspot
        have hlt := World.block_lt_of_cell? W _ hc0
        refine .inr ⟨b, off, rfl, by simpa [Addr.add] using hlt, fun k hk => ?_⟩
        have hj := (hP k hk).2
        simp only [Addr.add_lit] at hj
        exact ⟨hj 0 (by omega), by have := hj 1 (by omega); rw [← Nat.add_assoc] at this; exact this⟩
    · obtain ⟨i, hi', rfl⟩ := List.getElem_of_mem hx
      exact (hP i hi').1
/-- Mounts that the statements take. -/
def Fair (l : List Mo) : Prop := l.length ≤ 100 ∧ ∀ j (h : j < l.length), l[j].n.size ≤ 1000
end Pa
set_option maxRecDepth 100000 in
set_option maxHeartbeats 4000000 in
theorem great11_some (w : World) (b off c : Nat) (l : List Pa.Mo) (hit : Pa.mosAt w b off l) (g : Bool) (hg : g = true ↔ ¬ Pa.Fair l) :
    Calls Try.prog 27 #[.slice (some ⟨b, off, none⟩) l.length c] w fun e w' => e = .returned (.bool g) ∧ w = w' := by
  have HIT := Lib.hid hit
  have HG := Lib.hid hg
  clear hit hg
  go_enter Try.func27, Try.ntmps27
  by_cases h100 : 100 < l.length
  · have h100i : (100 : Int) < l.length := by omega
    have hgt : g = true := HG.out.2 (fun hf => by have := hf.1; omega)
    subst hgt
    go_wp2
    go_ret
    exact ⟨by rfl, rfl⟩
  · have h100i : ¬ (100 : Int) < l.length := by omega
    go_wp2
    go_loop [3] (fun i => ∃ k : Nat, k ≤ l.length ∧ i = .int .i64 k ∧ ∀ j (_ : j < k) (h : j < l.length), l[j].n.size ≤ 1000) (fun i => l.length - (intOf i).toNat)
    case atStart => exact ⟨0, Nat.zero_le _, rfl, by intro j hj; omega⟩
    case round =>
      obtain ⟨k, hk, rfl, hall⟩ := hrel
      have HA := Lib.hid hall
      clear hall
      by_cases hlt : k < l.length
      · have hlt1 : (k : Int) < l.length := by omega
        obtain ⟨c1, -⟩ := HIT.out k hlt
        obtain ⟨x, hx⟩ : ∃ x, x = l[k] := ⟨_, rfl⟩
        rw [← hx] at c1
        have HX := Lib.hid hx
        clear hx
        by_cases g1 : x.n.size ≤ 1000
        · have g1i : ¬ (1000 : Int) < x.n.size := by omega
          have hnext : ∀ j (_ : j < k + 1) (h : j < l.length), l[j].n.size ≤ 1000 := fun j hj h => by
            by_cases e : j = k
            · subst e; rw [← HX.out]; exact g1
            · exact HA.out j (by omega) h
          have HN := Lib.hid hnext
          clear hnext
          have hsuc : IntKind.i64.wrap ((k : Int) + 1) = ((k + 1 : Nat) : Int) := by simp [IntKind.wrap, IntKind.bits, IntKind.signed]; omega
          go_wp2
          go_round
          case rel => exact ⟨k + 1, by omega, rfl, HN.out⟩
          case measure => simp [intOf]; omega
        · have g1i : (1000 : Int) < x.n.size := by omega
          have hgt : g = true := HG.out.2 (fun hf => g1 (by have := hf.2 k hlt; rw [← HX.out] at this; exact this))
          subst hgt
          go_wp2
          go_ret
          exact ⟨rfl, rfl⟩
      · have hlt1 : ¬ (k : Int) < l.length := by omega
        have hgf : g = false := by
          cases hgc : g
          · rfl
          · exact absurd ⟨by omega, fun j h => HA.out j (by omega) h⟩ (HG.out.1 hgc)
        subst hgf
        go_wp2
        go_ret
        exact ⟨by rfl, rfl⟩
set_option maxRecDepth 100000 in
theorem great11_none (w : World) (A : Option Addr) (c : Nat) : Calls Try.prog 27 #[.slice A 0 c] w fun e w' => e = .returned (.bool false) ∧ w = w' := by
  go_enter Try.func27, Try.ntmps27
  go_wp2
  refine wp_loop_rounds 1 ?_
  rw [rounds_succ]
  go_wp2
  go_ret
  exact ⟨rfl, rfl⟩
theorem great11_any {w : World} {A : Option Addr} {c : Nat} {l : List Pa.Mo} (hit : Pa.listAt w A l) (g : Bool) (hg : g = true ↔ ¬ Pa.Fair l) :
    Calls Try.prog 27 #[.slice A l.length c] w fun e w' => e = .returned (.bool g) ∧ w = w' := by
  rcases hit with rfl | ⟨b, off, rfl, -, hit⟩
  · have : g = false := by
      cases g
      · rfl
      · exact absurd ⟨by simp, fun j h => by simp at h⟩ (hg.1 rfl)
    subst this
    exact great11_none w A c
  · exact great11_some w b off c l hit g hg
end Go.Proofs.Ytehkbffbehlpnaa
