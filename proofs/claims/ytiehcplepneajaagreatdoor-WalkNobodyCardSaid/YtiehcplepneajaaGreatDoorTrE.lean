/-
  Texts that belong together, laid into one.
-/
import Derived.Test.YtiehcplepneajaaGreatDoorTrA
import Derived.Test.YtiehcplepneajaaGreatDoorTrC
import Derived.Test.YtiehcplepneajaaGreatDoorTrD
import Derived.Test.YtiehcplepneajaaGreatDoorMSha
import Derived.Test.YtiehcplepneajaaGreatDoorOmEq
import Derived.Test.YtiehcplepneajaaGreatDoorTrEx
import Derived.ProofKit
import Derived.Deep.Slices
import Derived.Deep.Fields
import Derived.Deep.RegionHeld3
/-
  Acts on trees as arguments: what one is, where a slice of them lies, an argument opened, in a slice or by itself.
-/
namespace Go.Proofs.YtiehcplepneajaaGreatDoor
open Go.ChangeMaps (open_string shut_string)
open Go.ChangeShapes Go.WideShapes Go.ChangeAt Go.RowKit Go.Deep
namespace Tr
/-- An act's cells. -/
def Ac.cells (x : Ac) : List Value := [.int .u8 (x.d : Int), .string x.p, .string x.v]
structure Ac.Ok (o : Ac) : Prop where
  k : o.d < 256
  p : o.p.size ≤ 9223372036854775807
  v : o.v.size ≤ 9223372036854775807
def acAt (w : World) (b o : Nat) (x : Ac) : Prop :=
  w.cell? ⟨b, o, none⟩ = some (.int .u8 (x.d : Int)) ∧ w.cell? ⟨b, o + 1, none⟩ = some (.string x.p) ∧ w.cell? ⟨b, o + 2, none⟩ = some (.string x.v)
def acsAt (w : World) (b off : Nat) (l : List Ac) : Prop := ∀ k (hk : k < l.length), acAt w b (off + k * 3) l[k]
def actsAt (w : World) (A : Option Addr) (l : List Ac) : Prop := l = [] ∨ ∃ b off, A = some ⟨b, off, none⟩ ∧ b < w.heap.size ∧ acsAt w b off l
theorem acAt.below {w w' : World} {b o B : Nat} {x : Ac} (h : acAt w b o x) (k : Below B w w') (hb : b < B) : acAt w' b o x := by
  have e : ∀ i, w'.cell? ⟨b, i, none⟩ = w.cell? ⟨b, i, none⟩ := fun i => k.cell (p := ⟨b, i, none⟩) hb
  unfold acAt
  simp only [e]
  exact h
theorem acsAt.below {w w' : World} {b off B : Nat} {l : List Ac} (h : acsAt w b off l) (k : Below B w w') (hb : b < B) : acsAt w' b off l := fun j hj => (h j hj).below k hb
theorem actsAt.below {w w' : World} {A : Option Addr} {l : List Ac} (h : actsAt w A l) (k : Below w.heap.size w w') : actsAt w' A l := by
  rcases h with h | ⟨b, off, h1, h2, h3⟩
  · exact .inl h
  · exact .inr ⟨b, off, h1, Nat.lt_of_lt_of_le h2 k.size, h3.below k h2⟩
theorem actsAt.get {w w' : World} {A : Option Addr} {l : List Ac} (h : actsAt w A l) (k : Below w.heap.size w w') (j : Nat) (hj : j < l.length) : ∃ b off, A = some ⟨b, off, none⟩ ∧ b < w.heap.size ∧ acAt w' b (off + j * 3) l[j] := by
  rcases h with rfl | ⟨b, off, rfl, hb, hi⟩
  · simp at hj
  · exact ⟨b, off, rfl, hb, (hi j hj).below k hb⟩
theorem list_of15 {P : Nat → Ac → Prop} (n : Nat) (h : ∀ i, i < n → ∃ a, P i a) : ∃ l : List Ac, l.length = n ∧ ∀ i (hi : i < l.length), P i l[i] := by
  induction n with
  | zero => exact ⟨[], rfl, fun i hi => by simp at hi⟩
  | succ n ih =>
    obtain ⟨l, hl, hp⟩ := ih fun i hi => h i (by omega)
    obtain ⟨a, ha⟩ := h n (by omega)
    refine ⟨l ++ [a], by simp [hl], fun i hi => ?_⟩
    by_cases hin : i < l.length
    · rw [List.getElem_append_left hin]; exact hp i hin
    · have hie : i = l.length := by simp at hi; omega
      subst hie
      rw [List.getElem_append_right (by omega)]
      simp [hl, ha]
theorem field_at15 {fs : Array Field} {ts : Array TypeId} (hfs : (fs.map fun f => f.type) = ts) (j : Nat) (t : TypeId) (h : ts[j]? = some t) :
    ∃ f, fs[j]? = some f ∧ f.type = t := by
  rw [← hfs, Array.getElem?_map] at h
  cases hf : fs[j]? with
  | none => rw [hf] at h; simp at h
  | some f => rw [hf] at h; exact ⟨f, rfl, by simpa using h⟩
theorem ac_check : (match Tryz.prog.underlying 87 with | some (.struct fs) => decide ((fs.map fun f => f.type) = #[5, 9, 9]) && oneCellFields Tryz.prog fs | _ => false) = true := by kernel_rfl
theorem ac_shape : ∃ fs, Tryz.prog.underlying 87 = some (.struct fs) ∧ (fs.map fun f => f.type) = #[5, 9, 9] ∧ oneCellFields Tryz.prog fs = true := by
  have h := ac_check
  split at h
  · rename_i fs hfs
    simp only [Bool.and_eq_true, decide_eq_true_eq] at h
    exact ⟨fs, hfs, h.1, h.2⟩
  · simp at h
theorem ac_cells : Tryz.prog.cellsOf 87 = 3 := by kernel_rfl
theorem und_acs : Tryz.prog.underlying 82 = some (.slice 87) := by kernel_rfl
theorem und_ac : ∃ fs, Tryz.prog.underlying 87 = some (.struct fs) := by obtain ⟨fs, h, _⟩ := ac_shape; exact ⟨fs, h⟩
set_option maxRecDepth 100000 in
theorem ac_open {H : Type} {enc : TypeId × Value → H} {W : World} {base : Nat} {sp : Nat → Bool} {held : Bool} {n : Nat} {cs : List Value} {x : DataW H × List MemPlace}
    (h : DataW.trod enc Tryz.prog W base sp held n 87 cs = some x) : ∃ a : Ac, a.Ok ∧ cs = a.cells := by
  obtain ⟨fs, hund, htypes, hone⟩ := ac_shape
  obtain ⟨ys, k, _, _, hlen, hyl, hf⟩ := DataW.trod_struct hund h
  rw [ac_cells] at hlen
  have hsz : fs.size = 3 := by have := congrArg Array.size htypes; simpa using this
  have get : ∀ (j : Nat) (t : TypeId), j < 3 → #[5, 9, 9][j]? = some t → ∃ y, DataW.trod enc Tryz.prog W base sp held k t ((cs.drop j).take 1) = some y := by
    intro j t hj ht
    obtain ⟨f, hfj, hft⟩ := field_at15 htypes j t ht
    obtain ⟨ho, hc⟩ := hone_of hone j f hfj
    have h1 := hf j f hfj
    rw [ho, hc, hft, List.getElem?_eq_getElem (by omega)] at h1
    exact ⟨_, h1⟩
  match cs, hlen with
  | [c0, c1, c2], _ =>
    obtain ⟨y0, g0⟩ := get 0 5 (by omega) rfl
    obtain ⟨y1, g1⟩ := get 1 9 (by omega) rfl
    obtain ⟨y2, g2⟩ := get 2 9 (by omega) rfl
    obtain ⟨n0, e0, -, r0⟩ := DataW.trod_int Tryz.underlying5 g0
    obtain ⟨n1, e1, -, r1⟩ := DataW.trod_string Tryz.underlying9 g1
    obtain ⟨n2, e2, -, r2⟩ := DataW.trod_string Tryz.underlying9 g2
    simp at e0 e1 e2
    have q0 : 0 ≤ n0 ∧ n0 ≤ 255 := by simpa [Lit.wf, IntKind.min, IntKind.max, IntKind.signed, IntKind.bits] using r0
    unfold maxLen at r1 r2
    refine ⟨⟨n0.toNat, n1, n2⟩, ⟨by show n0.toNat < _; omega, by show n1.size ≤ _; omega, by show n2.size ≤ _; omega⟩, ?_⟩
    have e : ((n0.toNat : Nat) : Int) = n0 := by omega
    rw [e0, e1, e2]
    show _ = [Value.int .u8 ((n0.toNat : Nat) : Int), .string n1, .string n2]
    rw [e]
set_option maxRecDepth 100000 in
/-- A slice of operations, read off its cells. -/
theorem acs_open {H : Type} {enc : TypeId × Value → H} {W : World} {base : Nat} {sp : Nat → Bool} {held : Bool} {n : Nat} {v : Value} {x : DataW H × List MemPlace}
    (h : DataW.trod enc Tryz.prog W base sp held n 82 [v] = some x) : ∃ A c l, v = .slice A l.length c ∧ l.length ≤ 9223372036854775807 ∧ actsAt W A l ∧ ∀ a ∈ l, a.Ok := by
  rcases open_slice und_acs h with ⟨hcs, _⟩ | ⟨a, len, cap, m, k, D, Pl, hcs, _, hl, hm, hmm, _, hi⟩
  · simp at hcs
    exact ⟨none, 0, [], hcs, by decide, .inl rfl, by simp⟩
  · simp at hcs
    have hml : len ≤ m := by rw [hmm]; split <;> omega
    unfold maxLen at hm
    obtain ⟨l, hll, hP⟩ := list_of15 (P := fun i x => x.Ok ∧ ∀ j, j < 3 → W.cell? (a.add (i * 3 + j)) = x.cells[j]?) len (by
      intro i hil
      obtain ⟨cs', hc, ht⟩ := hi i (by omega)
      obtain ⟨x, hx, rfl⟩ := ac_open ht
      refine ⟨x, hx, fun j hj => ?_⟩
      rw [ac_cells] at hc
      have := (World.cells?_some hc).2.2 j hj
      rw [add_add] at this
      exact this)
    subst hll
    refine ⟨some a, cap, l, hcs, by omega, ?_, fun x hx => ?_⟩
    · by_cases h0 : l = []
      · exact .inl h0
      · have hpos := List.length_pos_iff.2 h0
        obtain ⟨b, off, spot⟩ := a
        have hc0 := (hP 0 hpos).2 0 (by omega)
        have hspot : spot = none := by simpa [Addr.add] using World.cell?_spot hc0
        subst hspot
        have hlt := World.block_lt_of_cell? W _ hc0
        refine .inr ⟨b, off, rfl, by simpa [Addr.add] using hlt, fun k hk => ?_⟩
        have hj := (hP k hk).2
        simp only [Addr.add_lit] at hj
        exact ⟨hj 0 (by omega), by have := hj 1 (by omega); rw [← Nat.add_assoc] at this; exact this, by have := hj 2 (by omega); rw [← Nat.add_assoc] at this; exact this⟩
    · obtain ⟨i, hi', rfl⟩ := List.getElem_of_mem hx
      exact (hP i hi').1
set_option maxRecDepth 100000 in
/-- A slice of operations, opened. -/
theorem open_acs {H : Type} {enc : TypeId × Value → H} {W : World} {sp : Nat → Bool} {held : Bool} {b0 : Nat} {r : Reach} {v : Value} {d : DataW H} {ps : List MemPlace}
    (hval : Value.okWide Tryz.prog W r b0 82 v) (h : DataW.Trod enc Tryz.prog W 0 sp held 82 v d ps) :
    ∃ A c l, v = .slice A l.length c ∧ l.length ≤ 9223372036854775807 ∧ actsAt W A l ∧ ∀ a ∈ l, a.Ok := by
  obtain ⟨A, len, cap, rfl⟩ := okWide_slice und_acs hval
  obtain ⟨fuel, hf⟩ := h
  exact acs_open (v := .slice A len cap) (by simpa [Value.cells] using hf)
set_option maxRecDepth 100000 in
/-- An act by itself. -/
theorem open_ac {H : Type} {enc : TypeId × Value → H} {W : World} {sp : Nat → Bool} {held : Bool} {b0 : Nat} {r : Reach} {v : Value} {d : DataW H} {ps : List MemPlace}
    (hval : Value.okWide Tryz.prog W r b0 87 v) (h : DataW.Trod enc Tryz.prog W 0 sp held 87 v d ps) :
    ∃ a : Ac, v = .agg #[.int .u8 (a.d : Int), .string a.p, .string a.v] ∧ a.Ok := by
  obtain ⟨fs, hund⟩ := und_ac
  obtain ⟨cs, rfl, _⟩ := okWide_struct hund hval
  obtain ⟨fuel, hf⟩ := h
  have hf' : DataW.trod enc Tryz.prog W 0 sp held fuel 87 cs.toList = some (d, ps) := by simpa [Value.cells] using hf
  obtain ⟨a, ha, e⟩ := ac_open hf'
  refine ⟨a, ?_, ha⟩
  congr 1
  apply Array.ext'
  rw [e]
  rfl
end Tr
end Go.Proofs.YtiehcplepneajaaGreatDoor

/-
  Great and plays of layer 15's statements.
-/
namespace Go.Proofs.YtiehcplepneajaaGreatDoor
open Go.RowKit
namespace Tr
open Om (Pr)
def FairA (l : List Ac) : Prop := l.length ≤ 150 ∧ ∀ j (h : j < l.length), l[j].p.size ≤ 1000 ∧ l[j].v.size ≤ 1000
theorem FairA.mem {l : List Ac} (h : FairA l) : ∀ o ∈ l, o.p.size ≤ 1000 ∧ o.v.size ≤ 1000 := fun o ho => by
  obtain ⟨j, hj, rfl⟩ := List.getElem_of_mem ho
  exact h.2 j hj
theorem fairA_or (l : List Ac) : ∃ g : Bool, g = true ↔ ¬ FairA l := by
  by_cases h : FairA l
  · exact ⟨false, by simp [h]⟩
  · exact ⟨true, by simp [h]⟩
/-- The acts don't lie in the tree. -/
def Off (A : Option Addr) (l : List Ac) (r : Nat) : Prop := ∀ b off, A = some ⟨b, off, none⟩ → l ≠ [] → b ≠ r
theorem play_all {l : List Pr} {ac : List Ac} {k : Nat} (hk : ac.length ≤ k) : play l (ac.take k) = play l ac := by rw [List.take_of_length_le hk]
end Tr
set_option maxRecDepth 100000 in
set_option maxHeartbeats 4000000 in
theorem great15_some (w : World) (b off c : Nat) (l : List Tr.Ac) (hit : Tr.acsAt w b off l) (g : Bool) (hg : g = true ↔ ¬ Tr.FairA l) :
    Calls Tryz.prog 40 #[.slice (some ⟨b, off, none⟩) l.length c] w fun e w' => e = .returned (.bool g) ∧ w = w' := by
  have HIT := Lib.hid hit
  have HG := Lib.hid hg
  clear hit hg
  go_enter Tryz.func40, Tryz.ntmps40
  by_cases h100 : 150 < l.length
  · have h100i : (150 : Int) < l.length := by omega
    have hgt : g = true := HG.out.2 (fun hf => by have := hf.1; omega)
    subst hgt
    go_wp2
    go_ret
    exact ⟨by rfl, rfl⟩
  · have h100i : ¬ (150 : Int) < l.length := by omega
    go_wp2
    go_loop [3] (fun i => ∃ k : Nat, k ≤ l.length ∧ i = .int .i64 k ∧ ∀ j (_ : j < k) (h : j < l.length), l[j].p.size ≤ 1000 ∧ l[j].v.size ≤ 1000) (fun i => l.length - (intOf i).toNat)
    case atStart => exact ⟨0, Nat.zero_le _, rfl, by intro j hj; omega⟩
    case round =>
      obtain ⟨k, hk, rfl, hall⟩ := hrel
      have HA := Lib.hid hall
      clear hall
      by_cases hlt : k < l.length
      · have hlt1 : (k : Int) < l.length := by omega
        obtain ⟨-, c1, c2⟩ := HIT.out k hlt
        obtain ⟨x, hx⟩ : ∃ x, x = l[k] := ⟨_, rfl⟩
        rw [← hx] at c1 c2
        have HX := Lib.hid hx
        clear hx
        by_cases g1 : x.p.size ≤ 1000
        · have g1i : ¬ (1000 : Int) < x.p.size := by omega
          by_cases g2 : x.v.size ≤ 1000
          · have g2i : ¬ (1000 : Int) < x.v.size := by omega
            have hnext : ∀ j (_ : j < k + 1) (h : j < l.length), l[j].p.size ≤ 1000 ∧ l[j].v.size ≤ 1000 := fun j hj h => by
              by_cases e : j = k
              · subst e; rw [← HX.out]; exact ⟨g1, g2⟩
              · exact HA.out j (by omega) h
            have HN := Lib.hid hnext
            clear hnext
            have hsuc : IntKind.i64.wrap ((k : Int) + 1) = ((k + 1 : Nat) : Int) := by simp [IntKind.wrap, IntKind.bits, IntKind.signed]; omega
            go_wp2
            go_round
            case rel => exact ⟨k + 1, by omega, rfl, HN.out⟩
            case measure => simp [intOf]; omega
          · have g2i : (1000 : Int) < x.v.size := by omega
            have hgt : g = true := HG.out.2 (fun hf => g2 (by have := (hf.2 k hlt).2; rw [← HX.out] at this; exact this))
            subst hgt
            go_wp2
            go_ret
            exact ⟨rfl, rfl⟩
        · have g1i : (1000 : Int) < x.p.size := by omega
          have hgt : g = true := HG.out.2 (fun hf => g1 (by have := (hf.2 k hlt).1; rw [← HX.out] at this; exact this))
          subst hgt
          go_wp2
          go_ret
          exact ⟨rfl, rfl⟩
      · have hlt1 : ¬ (k : Int) < l.length := by omega
        have hgf : g = false := by
          cases hgc : g
          · rfl
          · exact absurd ⟨by omega, fun j h => HA.out j (by omega) h⟩ (HG.out.1 hgc)
        subst hgf
        go_wp2
        go_ret
        exact ⟨by rfl, rfl⟩
set_option maxRecDepth 100000 in
theorem great15_none (w : World) (A : Option Addr) (c : Nat) : Calls Tryz.prog 40 #[.slice A 0 c] w fun e w' => e = .returned (.bool false) ∧ w = w' := by
  go_enter Tryz.func40, Tryz.ntmps40
  go_wp2
  refine wp_loop_rounds 1 ?_
  rw [rounds_succ]
  go_wp2
  go_ret
  exact ⟨rfl, rfl⟩
theorem great15_any {w : World} {A : Option Addr} {c : Nat} {l : List Tr.Ac} (hit : Tr.actsAt w A l) (g : Bool) (hg : g = true ↔ ¬ Tr.FairA l) :
    Calls Tryz.prog 40 #[.slice A l.length c] w fun e w' => e = .returned (.bool g) ∧ w = w' := by
  rcases hit with rfl | ⟨b, off, rfl, -, hit⟩
  · have : g = false := by
      cases g
      · rfl
      · exact absurd ⟨by simp, fun j h => by simp at h⟩ (hg.1 rfl)
    subst this
    exact great15_none w A c
  · exact great15_some w b off c l hit g hg
set_option maxRecDepth 100000 in
set_option maxHeartbeats 4000000 in
theorem plays15_any {w : World} (hH : Sm.HAt w) (hK : Sm.KAt w) (hsz : 1 < w.heap.size) {r : Nat} {l : List Om.Pr} (hT : Tr.TreeAt w r l) (hr : 2 ≤ r) {A : Option Addr} {c : Nat} {acts : List Tr.Ac} (hit : Tr.actsAt w A acts) (hoff : Tr.Off A acts r) (hfa : Tr.FairA acts) :
    Calls Tryz.prog 49 #[.pointer (some ⟨r, 0, none⟩), .slice A acts.length c] w fun e w' => e = .returned (.tuple #[]) ∧ Tr.TreeAt w' r (Tr.play l acts) ∧ w.grownBy w' (some r) := by
  have hrl := hT.lt
  have SET : Hid (∀ (wx : World) (m : List Om.Pr) (p v : ByteArray), w.grownBy wx (some r) → Tr.TreeAt wx r m → p.size ≤ 1000 → v.size ≤ 1000 → Calls Tryz.prog 45 #[.pointer (some ⟨r, 0, none⟩), .string p, .string v] wx fun e w' => e = .returned (.int .i64 (Tr.setE m p v : Nat)) ∧ Tr.TreeAt w' r (Tr.setR m p v) ∧ wx.grownBy w' (some r)) := fun wx m p v hx ht hp hv => by
    have hlow : Below 2 w wx := Sm.grown_from hx hr (by omega)
    exact tSet_any (hH.low hlow (by omega)) (hK.low hlow (by omega)) (Nat.lt_of_lt_of_le hsz hx.size) ht hr p v (by omega) (by omega)
  have DRP : Hid (∀ (wx : World) (m : List Om.Pr) (p : ByteArray), w.grownBy wx (some r) → Tr.TreeAt wx r m → p.size ≤ 1000 → Calls Tryz.prog 46 #[.pointer (some ⟨r, 0, none⟩), .string p] wx fun e w' => e = .returned (.bool (Om.get p m).isSome) ∧ Tr.TreeAt w' r (Om.del p m) ∧ wx.grownBy w' (some r)) := fun wx m p hx ht hp => by
    have hlow : Below 2 w wx := Sm.grown_from hx hr (by omega)
    exact tDrop_any (hH.low hlow (by omega)) (hK.low hlow (by omega)) (Nat.lt_of_lt_of_le hsz hx.size) ht hr p (by omega)
  have HT := Lib.hid hT
  have HFA := Lib.hid hfa
  have HIT : Hid (∀ (k : Nat) (hk : k < acts.length), ∃ b off, A = some ⟨b, off, none⟩ ∧ b ≠ r ∧ b < w.heap.size ∧ Tr.acAt w b (off + k * 3) acts[k]) := fun k hk => by
    obtain ⟨b, off, e, hb, h⟩ := hit.get (Below.refl _ w) k hk
    exact ⟨b, off, e, hoff b off e (fun q => by rw [q] at hk; exact absurd hk (Nat.not_lt_zero _)), hb, h⟩
  clear hH hK hsz hT hr hit hoff hfa hrl
  go_enter Tryz.func49, Tryz.ntmps49
  go_wp2
  go_loopw [4] (fun s4 wr => ∃ k : Nat, s4 = .int .i64 k ∧ k ≤ acts.length ∧ Tr.TreeAt wr r (Tr.play l (acts.take k)) ∧ w.grownBy wr (some r)) (fun s4 _ => acts.length - (intOf s4).toNat)
  case atStart => exact ⟨0, rfl, Nat.zero_le _, HT.out, Sm.grown_refl _ _⟩
  case round =>
    clear HT
    obtain ⟨k, rfl, hk, ht, hg⟩ := hrel
    have HT := Lib.hid ht
    have HG := Lib.hid hg
    clear ht hg
    by_cases hlt : k < acts.length
    · have hki : (k : Int) < (acts.length : Int) := by omega
      have hsuc : IntKind.i64.wrap ((k : Int) + 1) = ((k + 1 : Nat) : Int) := by have := HFA.out.1; simp [IntKind.wrap, IntKind.bits, IntKind.signed]; omega
      obtain ⟨b, off, rfl, hbr, hbl, c0, c1, c2⟩ := HIT.out k hlt
      have hbk : ∀ (o : Nat), wr.cell? ⟨b, o, none⟩ = w.cell? ⟨b, o, none⟩ := fun o => World.cell?_of_block (HG.out.block b hbl (fun e => hbr (Option.some.inj e)))
      have x0 := (hbk _).trans c0
      have x1 := (hbk _).trans c1
      have x2 := (hbk _).trans c2
      obtain ⟨hxp, hxv⟩ := HFA.out.2 k hlt
      have hst := Tr.play_take (l := l) hlt
      have HBW : Hid (b < wr.heap.size) := Nat.lt_of_lt_of_le hbl HG.out.size
      have HBR := Lib.hid hbr
      obtain ⟨x, hx⟩ : ∃ x, x = acts[k] := ⟨_, rfl⟩
      rw [← hx] at x0 x1 x2 hxp hxv hst
      obtain ⟨m, hm⟩ : ∃ m, m = Tr.play l (acts.take k) := ⟨_, rfl⟩
      rw [← hm] at HT hst
      have HST := Lib.hid hst
      have HLT := Lib.hid hlt
      clear hx c0 c1 c2 hbk hst hm hlt hbl hbr
      by_cases hd0 : x.d = 0
      · have hd0i : ((x.d : Int) == 0) = true := by rw [hd0]; rfl
        have HAC : Hid (Tr.act m x = Tr.setR m x.p x.v) := by show _ = _; unfold Tr.act; rw [if_pos hd0]
        have SE : Hid (Calls Tryz.prog 45 #[.pointer (some ⟨r, 0, none⟩), .string x.p, .string x.v] wr.drew fun e w' => e = .returned (.int .i64 (Tr.setE m x.p x.v : Nat)) ∧ Tr.TreeAt w' r (Tr.setR m x.p x.v) ∧ wr.drew.grownBy w' (some r)) := SET.out wr.drew m x.p x.v (Sm.grown_drewN HG.out 1) (HT.out.low (Below.refl _ _).drew) hxp hxv
        have HCL : Hid (∀ (wx : World) (o : Nat), wr.drew.grownBy wx (some r) → wx.cell? ⟨b, o, none⟩ = wr.drew.cell? ⟨b, o, none⟩) := fun wx o h => World.cell?_of_block (h.block b HBW.out (fun e => HBR.out (Option.some.inj e)))
        have HGD : Hid (w.grownBy wr.drew (some r)) := Sm.grown_drewN HG.out 1
        clear hd0
        go_upto_region 5 with (fail)
        have y1 : wr.drew.cell? ⟨b, off + k * 3 + 1, none⟩ = some (.string x.p) := x1
        have y2 : wr.drew.cell? ⟨b, off + k * 3 + 2, none⟩ = some (.string x.v) := x2
        clear x0 x1 x2
        refine wp_region_held_drew (S := fun w' => w'.cell? ⟨b, off + k * 3 + 1, none⟩ = some (.string x.p) ∧ w'.cell? ⟨b, off + k * 3 + 2, none⟩ = some (.string x.v)) (by kernel_rfl) ⟨y1, y2⟩ (fun hHeld => ?_)
        refine wpAnyH_take (i := 0) (oi := ⟨some 18, _, _, _, _, _⟩) (v := .pointer (some ⟨r, 0, none⟩)) rfl (by kernel_rfl) (by kernel_rfl) (by kernel_rfl) (fun _ _ _ h => h) (Or.inl ⟨by rfl, ?_⟩) (by assumption) ?_
        · intro w hSw; (try dsimp only at hSw); go_simp
        simp only [Act.put, List.setIfInBounds_toArray, List.set_cons_zero, List.set_cons_succ]
        refine wpAnyH_take (i := 1) (oi := ⟨some 19, _, _, _, _, _⟩) (v := .slice (some ⟨b, off, none⟩) acts.length c) rfl (by kernel_rfl) (by kernel_rfl) (by kernel_rfl) (fun _ _ _ h => h) (Or.inl ⟨by rfl, ?_⟩) (by assumption) ?_
        · intro w hSw; (try dsimp only at hSw); go_simp
        simp only [Act.put, List.setIfInBounds_toArray, List.set_cons_zero, List.set_cons_succ]
        refine wpAnyH_take (i := 2) (oi := ⟨some 20, _, _, _, _, _⟩) (v := .int .i64 (k : Int)) rfl (by kernel_rfl) (by kernel_rfl) (by kernel_rfl) (fun _ _ _ h => h) (Or.inl ⟨by rfl, ?_⟩) (by assumption) ?_
        · intro w hSw; (try dsimp only at hSw); go_simp
        simp only [Act.put, List.setIfInBounds_toArray, List.set_cons_zero, List.set_cons_succ]
        refine wpAnyH_take (i := 3) (oi := ⟨some 21, _, _, _, _, _⟩) (v := .pointer (some ⟨b, off + k * 3, none⟩)) rfl (by kernel_rfl) (by kernel_rfl) (by kernel_rfl) (fun _ _ _ h => h) (Or.inl ⟨by rfl, ?_⟩) (by assumption) ?_
        · intro w hSw; (try dsimp only at hSw); go_simp
        simp only [Act.put, List.setIfInBounds_toArray, List.set_cons_zero, List.set_cons_succ]
        refine wpAnyH_take (i := 4) (oi := ⟨some 22, _, _, _, _, _⟩) (v := .pointer (some ⟨b, off + k * 3 + 1, none⟩)) rfl (by kernel_rfl) (by kernel_rfl) (by kernel_rfl) (fun _ _ _ h => h) (Or.inl ⟨by rfl, ?_⟩) (by assumption) ?_
        · intro w hSw; (try dsimp only at hSw); go_simp
        simp only [Act.put, List.setIfInBounds_toArray, List.set_cons_zero, List.set_cons_succ]
        refine wpAnyH_take (i := 5) (oi := ⟨some 23, _, _, _, _, _⟩) (v := .string x.p) rfl (by kernel_rfl) (by kernel_rfl) (by kernel_rfl) (fun _ _ _ h => h) (Or.inl ⟨by rfl, ?_⟩) (by assumption) ?_
        · intro w hSw; (try dsimp only at hSw); go_simp
        simp only [Act.put, List.setIfInBounds_toArray, List.set_cons_zero, List.set_cons_succ]
        refine wpAnyH_take (i := 6) (oi := ⟨some 24, _, _, _, _, _⟩) (v := .slice (some ⟨b, off, none⟩) acts.length c) rfl (by kernel_rfl) (by kernel_rfl) (by kernel_rfl) (fun _ _ _ h => h) (Or.inl ⟨by rfl, ?_⟩) (by assumption) ?_
        · intro w hSw; (try dsimp only at hSw); go_simp
        simp only [Act.put, List.setIfInBounds_toArray, List.set_cons_zero, List.set_cons_succ]
        refine wpAnyH_take (i := 7) (oi := ⟨some 25, _, _, _, _, _⟩) (v := .int .i64 (k : Int)) rfl (by kernel_rfl) (by kernel_rfl) (by kernel_rfl) (fun _ _ _ h => h) (Or.inl ⟨by rfl, ?_⟩) (by assumption) ?_
        · intro w hSw; (try dsimp only at hSw); go_simp
        simp only [Act.put, List.setIfInBounds_toArray, List.set_cons_zero, List.set_cons_succ]
        refine wpAnyH_take (i := 8) (oi := ⟨some 26, _, _, _, _, _⟩) (v := .pointer (some ⟨b, off + k * 3, none⟩)) rfl (by kernel_rfl) (by kernel_rfl) (by kernel_rfl) (fun _ _ _ h => h) (Or.inl ⟨by rfl, ?_⟩) (by assumption) ?_
        · intro w hSw; (try dsimp only at hSw); go_simp
        simp only [Act.put, List.setIfInBounds_toArray, List.set_cons_zero, List.set_cons_succ]
        refine wpAnyH_take (i := 9) (oi := ⟨some 27, _, _, _, _, _⟩) (v := .pointer (some ⟨b, off + k * 3 + 2, none⟩)) rfl (by kernel_rfl) (by kernel_rfl) (by kernel_rfl) (fun _ _ _ h => h) (Or.inl ⟨by rfl, ?_⟩) (by assumption) ?_
        · intro w hSw; (try dsimp only at hSw); go_simp
        simp only [Act.put, List.setIfInBounds_toArray, List.set_cons_zero, List.set_cons_succ]
        refine wpAnyH_take (i := 10) (oi := ⟨some 28, _, _, _, _, _⟩) (v := .string x.v) rfl (by kernel_rfl) (by kernel_rfl) (by kernel_rfl) (fun _ _ _ h => h) (Or.inl ⟨by rfl, ?_⟩) (by assumption) ?_
        · intro w hSw; (try dsimp only at hSw); go_simp
        simp only [Act.put, List.setIfInBounds_toArray, List.set_cons_zero, List.set_cons_succ]
        refine wpAnyH_ready (rs := [11]) (by kernel_rfl) (by simp) ?_
        refine (AllReadyH.cons (o := ⟨some 29, _, _, _, _, _⟩) rfl (fun K hK => ?_) AllReadyH.nil)
        go_simp
        refine (SE.out).mono ?_
        rintro e w3 ⟨rfl, q1, q2⟩
        have T3 := Lib.hid q1
        have G3 := Lib.hid q2
        clear q1 q2
        refine hK.out _ _ ⟨(HCL.out w3 _ G3.out).trans y1, (HCL.out w3 _ G3.out).trans y2⟩ (fun hHeld => ?_)
        clear hK K
        refine wpAnyH_done (by kernel_rfl) ?_ _
        go_wp2
        go_roundw
        case rel => exact ⟨k + 1, rfl, HLT.out, by rw [HST.out, HAC.out]; exact T3.out, Sm.grown_trans HGD.out G3.out⟩
        case measure => simp only [intOf]; have := HLT.out; omega
      · have hd0i : ((x.d : Int) == 0) = false := by rw [beq_eq_false_iff_ne]; omega
        by_cases hd1 : x.d = 1
        · have hd1i : ((x.d : Int) == 1) = true := by rw [hd1]; rfl
          have HAC : Hid (Tr.act m x = Om.del x.p m) := by show _ = _; unfold Tr.act; rw [if_neg hd0, if_pos hd1]
          have DR := Lib.hid (DRP.out wr m x.p HG.out HT.out hxp)
          clear hd0 hd1 x2
          go_wp2_with (go_at_call 46; refine DR.out.mono ?_; rintro e w3 ⟨rfl, q1, q2⟩; have T3 := Lib.hid q1; have G3 := Lib.hid q2; clear q1 q2)
          go_roundw
          case rel => exact ⟨k + 1, rfl, HLT.out, by rw [HST.out, HAC.out]; exact T3.out, Sm.grown_trans HG.out G3.out⟩
          case measure => simp only [intOf]; have := HLT.out; omega
        · have hd1i : ((x.d : Int) == 1) = false := by rw [beq_eq_false_iff_ne]; omega
          have HAC : Hid (Tr.act m x = m) := by show _ = _; unfold Tr.act; rw [if_neg hd0, if_neg hd1]
          clear hd0 hd1 x1 x2
          go_wp2
          go_roundw
          case rel => exact ⟨k + 1, rfl, HLT.out, by rw [HST.out, HAC.out]; exact HT.out, HG.out⟩
          case measure => simp only [intOf]; have := HLT.out; omega
    · have hki : ¬ (k : Int) < (acts.length : Int) := by omega
      have HTT : Hid (Tr.TreeAt wr r (Tr.play l acts)) := by have := HT.out; rw [Tr.play_all (by omega)] at this; exact this
      go_wp2
      go_end0
      exact ⟨rfl, HTT.out, HG.out⟩
end Go.Proofs.YtiehcplepneajaaGreatDoor

/-
  Two hashes compared, and the hash of noughts, as steps of a region.
-/
namespace Go.Proofs.YtiehcplepneajaaGreatDoor
open Go.RowKit
namespace Tr
open Om (Pr)
abbrev hv (l : List UInt8) : Value := .agg (Lib.byteCells l).toArray
theorem hash_guard : Tryz.prog.eqGuardType Tryz.prog.depth 36 = false := by kernel_rfl
theorem hash_built : Tryz.prog.built 36 [] = some (Lib.byteCells zeros).toArray := by kernel_rfl
section
variable {ops : Array Oper} {S : World → Prop} {op : Oper} {a : Act}
theorem yields_heq (hw : Region.wanted op (yielded ops a.tmps) = true) (t2 : TypeId) (p q : Operand) (ho : op.op = .binOp .eql 36 p q t2) (x y : List UInt8) (hx : x.length = 32) (hy : y.length = 32) (hp : a.eval p = hv x) (hq : a.eval q = hv y) :
    YieldsIf Tryz.prog ops S op (.bool (x == y)) a :=
  .inl ⟨hw, fun w _ => by
    unfold execOp
    simp only [ho, Sem.run_bind, hp, hq, run_eqGuard_agg w .eql 36 p q _ _ hash_guard, run_eql_struct, Sm.eq_hash x y hx hy w, Result.andThen_ok, Sem.run_pure]⟩
theorem yields_hne (hw : Region.wanted op (yielded ops a.tmps) = true) (t2 : TypeId) (p q : Operand) (ho : op.op = .binOp .neq 36 p q t2) (x y : List UInt8) (hx : x.length = 32) (hy : y.length = 32) (hp : a.eval p = hv x) (hq : a.eval q = hv y) :
    YieldsIf Tryz.prog ops S op (.bool (!(x == y))) a :=
  .inl ⟨hw, fun w _ => by
    unfold execOp
    simp only [ho, Sem.run_bind, hp, hq, run_eqGuard_agg w .neq 36 p q _ _ hash_guard, run_neq_struct, Sm.eq_hash x y hx hy w, Result.andThen_ok, Sem.run_pure]⟩
theorem yields_zero (hw : Region.wanted op (yielded ops a.tmps) = true) (ho : op.op = .build 36 #[]) : YieldsIf Tryz.prog ops S op (hv zeros) a :=
  .inl ⟨hw, fun w _ => by
    have := run_build (P := Tryz.prog) w 36 #[] _ hash_built
    unfold execOp
    simp only [ho]
    simp only [Sem.run_bind, Sem.run_pure, Array.map_empty, this, Result.andThen_ok]⟩
end
end Tr
end Go.Proofs.YtiehcplepneajaaGreatDoor

/-
  Trees that a statement made: told beside one another.
-/
namespace Go.Proofs.YtiehcplepneajaaGreatDoor
open Go.RowKit
namespace Tr
open Om (Pr)
/-- What all calls lean on. -/
structure Gd (w : World) : Prop where
  H : Sm.HAt w
  K : Sm.KAt w
  sz : 1 < w.heap.size
theorem Gd.low {w W : World} (h : Gd w) (k : Below w.heap.size w W) : Gd W := ⟨h.H.low k (by have := h.sz; omega), h.K.low k h.sz, Nat.lt_of_lt_of_le h.sz k.size⟩
/-- A tree of one's own, made behind w. -/
structure Ow (w W : World) (r : Nat) (l : List Pr) : Prop where
  tree : TreeAt W r l
  bel : Below w.heap.size w W
  low : w.heap.size ≤ r
theorem Ow.step {w W W' : World} {r : Nat} {l : List Pr} (h : Ow w W r l) (k : Below W.heap.size W W') : Ow w W' r l := ⟨h.tree.low k, h.bel.trans (k.mono h.bel.size), h.low⟩
theorem Ow.turn {w W W' : World} {r : Nat} {l m : List Pr} (h : Ow w W r l) (t : TreeAt W' r m) (g : W.grownBy W' (some r)) : Ow w W' r m := ⟨t, h.bel.trans (Sm.grown_from g h.low h.bel.size), h.low⟩
theorem Ow.beside {w W W' : World} {r q : Nat} {l m : List Pr} (h : Ow w W r l) (h' : Ow w W q m) (hn : q ≠ r) (g : W.grownBy W' (some q)) : Ow w W' r l := by
  obtain ⟨cs, hq⟩ := h'.tree.kind
  exact ⟨h.tree.beside hq hn g, h.bel.trans (Sm.grown_from g h'.low h.bel.size), h.low⟩
theorem Ow.fit {w W : World} {r : Nat} {l : List Pr} (h : Ow w W r l) : Fit l := h.tree.fit
section
variable {w W : World} {r : Nat} {l : List Pr}
theorem Ow.two (G : Gd w) (h : Ow w W r l) : 2 ≤ r := by have := G.sz; have := h.low; omega
theorem Ow.setC (G : Gd w) (h : Ow w W r l) (p v : ByteArray) (hp : p.size ≤ 281474976710656) (hv : v.size ≤ 281474976710656) :
    Calls Tryz.prog 45 #[.pointer (some ⟨r, 0, none⟩), .string p, .string v] W fun e w' => e = .returned (.int .i64 (setE l p v : Nat)) ∧ Ow w w' r (setR l p v) ∧ W.grownBy w' (some r) :=
  have g := G.low h.bel
  (tSet_any g.H g.K g.sz h.tree (h.two G) p v hp hv).mono fun _ _ ⟨h1, h2, h3⟩ => ⟨h1, h.turn h2 h3, h3⟩
theorem Ow.dropC (G : Gd w) (h : Ow w W r l) (p : ByteArray) (hp : p.size ≤ 281474976710656) :
    Calls Tryz.prog 46 #[.pointer (some ⟨r, 0, none⟩), .string p] W fun e w' => e = .returned (.bool (Om.get p l).isSome) ∧ Ow w w' r (Om.del p l) ∧ W.grownBy w' (some r) :=
  have g := G.low h.bel
  (tDrop_any g.H g.K g.sz h.tree (h.two G) p hp).mono fun _ _ ⟨h1, h2, h3⟩ => ⟨h1, h.turn h2 h3, h3⟩
theorem Ow.playC (G : Gd w) (h : Ow w W r l) {A : Option Addr} {c : Nat} {acts : List Ac} (hit : actsAt W A acts) (hoff : Off A acts r) (hfa : FairA acts) :
    Calls Tryz.prog 49 #[.pointer (some ⟨r, 0, none⟩), .slice A acts.length c] W fun e w' => e = .returned (.tuple #[]) ∧ Ow w w' r (play l acts) ∧ W.grownBy w' (some r) :=
  have g := G.low h.bel
  (plays15_any g.H g.K g.sz h.tree (h.two G) hit hoff hfa).mono fun _ _ ⟨h1, h2, h3⟩ => ⟨h1, h.turn h2 h3, h3⟩
theorem Ow.rootC (h : Ow w W r l) : Calls Tryz.prog 18 #[.pointer (some ⟨r, 0, none⟩)] W fun e w' => e = .returned (hv (root l)) ∧ Below W.heap.size W w' := tRoot_any h.tree
theorem Ow.nodeC (h : Ow w W r l) {level i : Nat} (h4 : level ≤ 4) (hi : i < 2 ^ level) : Calls Tryz.prog 37 #[.pointer (some ⟨r, 0, none⟩), .int .i64 (level : Int), .int .i64 (i : Int)] W fun e w' => e = .returned (.tuple #[hv (lv l level i), .bool true]) ∧ Below W.heap.size W w' := tNode_ok h.tree h4 hi
theorem Ow.allC (h : Ow w W r l) : Calls Tryz.prog 36 #[.pointer (some ⟨r, 0, none⟩)] W fun e w' => ∃ A c, e = .returned (.slice A l.length c) ∧ Om.listAt w' A l ∧ Below W.heap.size W w' := tAll_any h.tree
theorem Ow.textsC (G : Gd w) (h : Ow w W r l) : Calls Tryz.prog 51 #[.pointer (some ⟨r, 0, none⟩)] W fun e w' => ∃ B q, e = .returned (.slice B 31 q) ∧ Om.SRow w' W.heap.size B q (txl l) ∧ Below W.heap.size W w' :=
  have g := G.low h.bel
  tTexts_any g.H g.K g.sz h.tree
theorem Ow.pairsC (h : Ow w W r l) {i : Nat} (hi : i < 16) : Calls Tryz.prog 60 #[.pointer (some ⟨r, 0, none⟩), .int .i64 (i : Int)] W fun e w' => ∃ B q, e = .returned (.slice B (Bu.part l i).length q) ∧ Om.Row w' W.heap.size B q (Bu.part l i) ∧ Below W.heap.size W w' := tPairs_any h.tree hi
theorem newC (G : Gd w) (k : Below w.heap.size w W) : Calls Tryz.prog 16 #[] W fun e w' => ∃ r, e = .returned (.pointer (some ⟨r, 0, none⟩)) ∧ Ow w w' r [] ∧ W.heap.size ≤ r ∧ Below W.heap.size W w' :=
  have g := G.low k
  (tNew_any g.H g.K g.sz).mono fun _ _ ⟨r, h1, h2, h3, h4⟩ => ⟨r, h1, ⟨h3, k.trans (h4.mono k.size), Nat.le_trans k.size h2⟩, h2, h4⟩
theorem ofC (G : Gd w) (k : Below w.heap.size w W) {A : Option Addr} {m : List Pr} (c : Nat) (hit : Om.listAt W A m) (hf : Fit m) : Calls Tryz.prog 15 #[.slice A m.length c] W fun e w' => ∃ r, e = .returned (.tuple #[.pointer (some ⟨r, 0, none⟩), .int .i64 0]) ∧ Ow w w' r m ∧ W.heap.size ≤ r ∧ Below W.heap.size W w' :=
  have g := G.low k
  (tOf_ok g.H g.K g.sz c hit hf).mono fun _ _ ⟨r, h1, h2, h3, h4⟩ => ⟨r, h1, ⟨h3, k.trans (h4.mono k.size), Nat.le_trans k.size h2⟩, h2, h4⟩
end
end Tr
end Go.Proofs.YtiehcplepneajaaGreatDoor

/-
  The statements' own example about trees.
-/
namespace Go.Proofs.YtiehcplepneajaaGreatDoor
open Go.RowKit
set_option maxRecDepth 100000 in
set_option maxHeartbeats 4000000 in
theorem awake15_any {w : World} (G : Tr.Gd w) :
    Calls Tryz.prog 41 #[] w fun e w' => e = .returned (.bool true) ∧ Below w.heap.size w w' := by
  have NEW := Lib.hid (Tr.newC G (Below.refl _ w))
  have ROOT : Hid (∀ (wx : World) (r : Nat) (l : List Om.Pr), Tr.Ow w wx r l → Calls Tryz.prog 18 #[.pointer (some ⟨r, 0, none⟩)] wx fun e w' => e = .returned (Tr.hv (Tr.root l)) ∧ Below wx.heap.size wx w') := fun wx r l h => h.rootC
  have SETC : Hid (∀ (wx : World) (r : Nat), Tr.Ow w wx r [] → Calls Tryz.prog 45 #[.pointer (some ⟨r, 0, none⟩), .string ⟨#[97, 112, 112, 47, 97]⟩, .string ⟨#[49]⟩] wx fun e w' => e = .returned (.int .i64 0) ∧ Tr.Ow w w' r Bu.one ∧ wx.grownBy w' (some r)) := fun wx r h => by
    have := h.setC G Bu.tA Bu.t1 (by decide) (by decide)
    have hR : Tr.setR [] Bu.tA Bu.t1 = Bu.one := by unfold Tr.setR; rw [Tr.setOne, if_pos rfl, Tr.putOne]
    rw [Tr.setOne, hR] at this
    exact this
  have DROP : Hid (∀ (wx : World) (r : Nat), Tr.Ow w wx r Bu.one → Calls Tryz.prog 46 #[.pointer (some ⟨r, 0, none⟩), .string ⟨#[97, 112, 112, 47, 97]⟩] wx fun e w' => e = .returned (.bool true) ∧ Tr.Ow w w' r [] ∧ wx.grownBy w' (some r)) := fun wx r h => by
    have := h.dropC G Bu.tA (by decide)
    rw [Tr.getOne, Tr.delOne] at this
    exact this
  have hr0 : Tr.root [] = Tr.e4 := Tr.rootNone
  have hr1 : Tr.root Bu.one = Tr.o4 := Tr.rootOne
  have HE2 : Hid ((!(Tr.o4 == Tr.e4)) = true) := by show _ = _; rw [beq_eq_false_iff_ne.2 Tr.roots_ne]; rfl
  have HE3 : Hid ((!(Tr.e4 == Tr.zeros)) = true) := by show (!(Tr.e4 == List.replicate 32 0)) = true; rw [beq_eq_false_iff_ne.2 Tr.e4_ne]; rfl
  have HL0 : Hid (Tr.e4.length = 32) := rfl
  have HL1 : Hid (Tr.o4.length = 32) := rfl
  have ROOT0 : Hid (∀ (wx : World) (r : Nat), Tr.Ow w wx r [] → Calls Tryz.prog 18 #[.pointer (some ⟨r, 0, none⟩)] wx fun e w' => e = .returned (Tr.hv Tr.e4) ∧ Below wx.heap.size wx w') := fun wx r h => by have := ROOT.out wx r [] h; rw [hr0] at this; exact this
  have ROOT1 : Hid (∀ (wx : World) (r : Nat), Tr.Ow w wx r Bu.one → Calls Tryz.prog 18 #[.pointer (some ⟨r, 0, none⟩)] wx fun e w' => e = .returned (Tr.hv Tr.o4) ∧ Below wx.heap.size wx w') := fun wx r h => by have := ROOT.out wx r _ h; rw [hr1] at this; exact this
  generalize Tr.e4 = R0 at *
  generalize Tr.o4 = R1 at *
  have HE1 : Hid ((R0 == R0) = true) := by show _ = _; rw [beq_iff_eq]
  clear hr0 hr1 ROOT
  obtain ⟨c0, hc0⟩ : ∃ c, c = (Lib.byteCells R0).toArray := ⟨_, rfl⟩
  obtain ⟨c1, hc1⟩ : ∃ c, c = (Lib.byteCells R1).toArray := ⟨_, rfl⟩
  have Hc0 : Hid (c0.size = 32) := by show _ = _; rw [hc0]; exact Tr.size32 HL0.out
  have Hc1 : Hid (c1.size = 32) := by show _ = _; rw [hc1]; exact Tr.size32 HL1.out
  have Hc01 : Hid (c0.all (·.oneCell') = true) := by show _ = _; rw [hc0]; exact Sm.bytes_one _
  have Hc11 : Hid (c1.all (·.oneCell') = true) := by show _ = _; rw [hc1]; exact Sm.bytes_one _
  have R0C : Hid (∀ (wx : World) (r : Nat), Tr.Ow w wx r [] → Calls Tryz.prog 18 #[.pointer (some ⟨r, 0, none⟩)] wx fun e w' => e = .returned (.agg c0) ∧ Below wx.heap.size wx w') := fun wx r h => by rw [hc0]; exact ROOT0.out wx r h
  have R1C : Hid (∀ (wx : World) (r : Nat), Tr.Ow w wx r Bu.one → Calls Tryz.prog 18 #[.pointer (some ⟨r, 0, none⟩)] wx fun e w' => e = .returned (.agg c1) ∧ Below wx.heap.size wx w') := fun wx r h => by rw [hc1]; exact ROOT1.out wx r h
  have HC0 := Lib.hid hc0
  have HC1 := Lib.hid hc1
  have hz0 := Hc0.out
  have hz1 := Hc1.out
  clear ROOT1 hc0 hc1 G
  go_enter Tryz.func41, Tryz.ntmps41
  go_upto_region 2 with (go_at_call 16; refine NEW.out.mono ?_; rintro e w1 ⟨r, rfl, o1, -, k1⟩)
  have O1 := Lib.hid o1
  clear k1 o1
  go_wp2_with fail
  refine (R0C.out _ _ O1.out).mono ?_
  rintro e w2 ⟨rfl, k2⟩
  have O2 := Lib.hid (O1.out.step k2)
  have hst : ∀ (c : Array Value), c.size = 32 → (storeCells ⟨w2.heap.size, 0, none⟩ c0.toList).run Tryz.prog (w2.alloc (.cells c 36)) = .ok () (w2.alloc (.cells c0 36)) := fun c hc =>
    run_storeCells_new (P := Tryz.prog) w2 36 c c0 (Sm.infoHash Hc0.out) (by rw [Hc0.out]; exact hc) Hc01.out
  have G2 := Lib.hid (heap_alloc_new w2 (.cells c0 36))
  have O3 : Hid (Tr.Ow w (w2.alloc (.cells c0 36)) r []) := O2.out.step ((Below.refl _ w2).alloc (Nat.le_refl _) _)
  have HR2 : Hid (r ≠ w2.heap.size) := fun e => by have := O2.out.tree.lt; omega
  have HS3 : Hid (w2.heap.size < (w2.alloc (.cells c0 36)).heap.size) := Sm.lt_of G2.out
  clear k2 O1 O2
  go_upto_region 3 with (fail)
  clear hst
  generalize w2.alloc (.cells c0 36) = w3 at *
  generalize w2.heap.size = N2 at *
  go_upto_region 4 with (go_at_call 45; refine (SETC.out _ _ O3.out).mono ?_; rintro e w4 ⟨rfl, o4, g4⟩)
  have O4 := Lib.hid o4
  have G4 := Lib.hid ((g4.block N2 HS3.out (fun e => HR2.out (Option.some.inj e).symm)).trans G2.out)
  clear o4 g4 O3 G2 HS3
  go_wp2_with fail
  refine (R1C.out _ _ O4.out).mono ?_
  rintro e w5 ⟨rfl, k5⟩
  have O5 := Lib.hid (O4.out.step k5)
  have G5 := Lib.hid ((k5.block N2 (Sm.lt_of G4.out)).trans G4.out)
  have hst : ∀ (c : Array Value), c.size = 32 → (storeCells ⟨w5.heap.size, 0, none⟩ c1.toList).run Tryz.prog (w5.alloc (.cells c 36)) = .ok () (w5.alloc (.cells c1 36)) := fun c hc =>
    run_storeCells_new (P := Tryz.prog) w5 36 c c1 (Sm.infoHash Hc1.out) (by rw [Hc1.out]; exact hc) Hc11.out
  have Q5 := Lib.hid (heap_alloc_new w5 (.cells c1 36))
  have k6 : Below w5.heap.size w5 (w5.alloc (.cells c1 36)) := (Below.refl _ w5).alloc (Nat.le_refl _) _
  have O6 : Hid (Tr.Ow w (w5.alloc (.cells c1 36)) r Bu.one) := O5.out.step k6
  have G6 := Lib.hid ((k6.block N2 (Sm.lt_of G5.out)).trans G5.out)
  have HR4 : Hid (r ≠ w5.heap.size) := fun e => by have := O5.out.tree.lt; omega
  clear k5 k6 O4 O5 G4 G5
  go_upto_region 5 with (fail)
  clear hst
  generalize w5.alloc (.cells c1 36) = w6 at *
  generalize w5.heap.size = N4 at *
  go_upto_region 6 with (go_at_call 46; refine (DROP.out _ _ O6.out).mono ?_; rintro e w7 ⟨rfl, o7, g7⟩)
  have O7 : Hid (Tr.Ow w w7.drew r []) := o7.step (Below.refl _ _).drew
  have HG2 : Hid (w7.drew.heap[N2]? = some (.cells (Lib.byteCells R0).toArray 36 (0, 0))) := by
    have := (g7.block N2 (Sm.lt_of G6.out) (fun e => HR2.out (Option.some.inj e).symm)).trans G6.out
    rw [HC0.out] at this
    exact this
  have HG4 : Hid (w7.drew.heap[N4]? = some (.cells (Lib.byteCells R1).toArray 36 (0, 0))) := by
    have := (g7.block N4 (Sm.lt_of Q5.out) (fun e => HR4.out (Option.some.inj e).symm)).trans Q5.out
    rw [HC1.out] at this
    exact this
  have HBD := Lib.hid O7.out.bel
  have RT := Lib.hid (ROOT0.out _ _ O7.out)
  clear o7 g7 O6 G6 Q5
  refine wp_region_held_drew (S := fun w' => w'.rangeAt N2 0 (Lib.byteCells R0) ∧ w'.rangeAt N4 0 (Lib.byteCells R1)) (by kernel_rfl) ⟨Sm.range_row HG2.out, Sm.range_row HG4.out⟩ (fun hHeld => ?_)
  refine wpAnyH_take (i := 0) (oi := ⟨some 15, _, _, _, _, _⟩) (v := .int .i64 0) rfl (by kernel_rfl) (by kernel_rfl) (by kernel_rfl) (fun _ _ _ h => h) (Or.inl ⟨by rfl, ?_⟩) (by assumption) ?_
  · intro w hSw; (try dsimp only at hSw); go_simp
  simp only [Act.put, List.setIfInBounds_toArray, List.set_cons_zero, List.set_cons_succ]
  refine wpAnyH_take (i := 1) (oi := ⟨some 16, _, _, _, _, _⟩) (v := .bool true) rfl (by kernel_rfl) (by kernel_rfl) (by kernel_rfl) (fun _ _ _ h => h) (Or.inl ⟨by rfl, ?_⟩) (by assumption) ?_
  · intro w hSw; (try dsimp only at hSw); go_simp
  simp only [Act.put, List.setIfInBounds_toArray, List.set_cons_zero, List.set_cons_succ]
  refine wpAnyH_take (i := 2) (oi := ⟨some 17, _, _, _, _, _⟩) (v := .bool true) rfl (by kernel_rfl) (by kernel_rfl) (by kernel_rfl) (fun _ _ _ h => h) (Or.inl ⟨by rfl, ?_⟩) (by assumption) ?_
  · intro w hSw; (try dsimp only at hSw); go_simp
  simp only [Act.put, List.setIfInBounds_toArray, List.set_cons_zero, List.set_cons_succ]
  refine wpAnyH_take (i := 3) (oi := ⟨some 18, _, _, _, _, _⟩) (v := .bool true) rfl (by kernel_rfl) (by kernel_rfl) (by kernel_rfl) (fun _ _ _ h => h) (Or.inl ⟨by rfl, ?_⟩) (by assumption) ?_
  · intro w hSw; (try dsimp only at hSw); go_simp
  simp only [Act.put, List.setIfInBounds_toArray, List.set_cons_zero, List.set_cons_succ]
  refine wpAnyH_take (i := 4) (oi := ⟨some 19, _, _, _, _, _⟩) (v := .bool true) rfl (by kernel_rfl) (by kernel_rfl) (by kernel_rfl) (fun _ _ _ h => h) (Or.inl ⟨by rfl, ?_⟩) (by assumption) ?_
  · intro w hSw; (try dsimp only at hSw); go_simp
  simp only [Act.put, List.setIfInBounds_toArray, List.set_cons_zero, List.set_cons_succ]
  refine wpAnyH_take (i := 5) (oi := ⟨some 20, _, _, _, _, _⟩) (v := .bool true) rfl (by kernel_rfl) (by kernel_rfl) (by kernel_rfl) (fun _ _ _ h => h) (Or.inl ⟨by rfl, ?_⟩) (by assumption) ?_
  · intro w hSw; (try dsimp only at hSw); go_simp
  simp only [Act.put, List.setIfInBounds_toArray, List.set_cons_zero, List.set_cons_succ]
  refine wpAnyH_take (i := 6) (oi := ⟨some 21, _, _, _, _, _⟩) (v := .pointer (some ⟨r, 0, none⟩)) rfl (by kernel_rfl) (by kernel_rfl) (by kernel_rfl) (fun _ _ _ h => h) (Or.inl ⟨by rfl, ?_⟩) (by assumption) ?_
  · intro w hSw; (try dsimp only at hSw); go_simp
  simp only [Act.put, List.setIfInBounds_toArray, List.set_cons_zero, List.set_cons_succ]
  refine wpAnyH_take (i := 8) (oi := ⟨some 23, _, _, _, _, _⟩) (v := .agg (Lib.byteCells R0).toArray) rfl (by kernel_rfl) (by kernel_rfl) (by kernel_rfl) (fun _ _ _ h => h) (yieldsIf_load_mid (by rfl) _ _ rfl _ _ rfl (Lib.byteCells R0) _ (fun w hS => hS.1) Tryz.underlying36 rfl (Sm.infoHash (Tr.size32 HL0.out))) (by assumption) ?_
  simp only [Act.put, List.setIfInBounds_toArray, List.set_cons_zero, List.set_cons_succ]
  refine wpAnyH_ready (rs := [7]) (by kernel_rfl) (by simp) ?_
  refine (AllReadyH.cons (o := ⟨some 22, _, _, _, _, _⟩) rfl (fun K hK => ?_) AllReadyH.nil)
  go_simp
  refine (RT.out).mono ?_
  rintro e w9 ⟨rfl, k9⟩
  have B9 := Lib.hid (HBD.out.trans (k9.mono HBD.out.size))
  have Q2 := Lib.hid ((k9.block N2 (Sm.lt_of HG2.out)).trans HG2.out)
  have Q4 := Lib.hid ((k9.block N4 (Sm.lt_of HG4.out)).trans HG4.out)
  clear k9
  refine hK.out _ _ ⟨Sm.range_row Q2.out, Sm.range_row Q4.out⟩ (fun hHeld => ?_)
  clear hK K
  refine wpAnyH_take (i := 9) (oi := ⟨some 24, _, _, _, _, _⟩) (v := .bool (R0 == R0)) rfl (by kernel_rfl) (by kernel_rfl) (by kernel_rfl) (fun _ _ _ h => h) (Tr.yields_heq (by rfl) _ _ _ rfl R0 R0 HL0.out HL0.out rfl rfl) (by assumption) ?_
  simp only [Act.put, List.setIfInBounds_toArray, List.set_cons_zero, List.set_cons_succ]
  rw [HE1.out]
  refine wpAnyH_take (i := 10) (oi := ⟨some 25, _, _, _, _, _⟩) (v := .bool true) rfl (by kernel_rfl) (by kernel_rfl) (by kernel_rfl) (fun _ _ _ h => h) (Or.inl ⟨by rfl, ?_⟩) (by assumption) ?_
  · intro w hSw; (try dsimp only at hSw); go_simp
  simp only [Act.put, List.setIfInBounds_toArray, List.set_cons_zero, List.set_cons_succ]
  refine wpAnyH_take (i := 11) (oi := ⟨some 26, _, _, _, _, _⟩) (v := .bool true) rfl (by kernel_rfl) (by kernel_rfl) (by kernel_rfl) (fun _ _ _ h => h) (Or.inl ⟨by rfl, ?_⟩) (by assumption) ?_
  · intro w hSw; (try dsimp only at hSw); go_simp
  simp only [Act.put, List.setIfInBounds_toArray, List.set_cons_zero, List.set_cons_succ]
  refine wpAnyH_take (i := 12) (oi := ⟨some 27, _, _, _, _, _⟩) (v := .agg (Lib.byteCells R1).toArray) rfl (by kernel_rfl) (by kernel_rfl) (by kernel_rfl) (fun _ _ _ h => h) (yieldsIf_load_mid (by rfl) _ _ rfl _ _ rfl (Lib.byteCells R1) _ (fun w hS => hS.2) Tryz.underlying36 rfl (Sm.infoHash (Tr.size32 HL1.out))) (by assumption) ?_
  simp only [Act.put, List.setIfInBounds_toArray, List.set_cons_zero, List.set_cons_succ]
  refine wpAnyH_take (i := 13) (oi := ⟨some 28, _, _, _, _, _⟩) (v := .agg (Lib.byteCells R0).toArray) rfl (by kernel_rfl) (by kernel_rfl) (by kernel_rfl) (fun _ _ _ h => h) (yieldsIf_load_mid (by rfl) _ _ rfl _ _ rfl (Lib.byteCells R0) _ (fun w hS => hS.1) Tryz.underlying36 rfl (Sm.infoHash (Tr.size32 HL0.out))) (by assumption) ?_
  simp only [Act.put, List.setIfInBounds_toArray, List.set_cons_zero, List.set_cons_succ]
  refine wpAnyH_take (i := 14) (oi := ⟨some 29, _, _, _, _, _⟩) (v := .bool (!(R1 == R0))) rfl (by kernel_rfl) (by kernel_rfl) (by kernel_rfl) (fun _ _ _ h => h) (Tr.yields_hne (by rfl) _ _ _ rfl R1 R0 HL1.out HL0.out rfl rfl) (by assumption) ?_
  simp only [Act.put, List.setIfInBounds_toArray, List.set_cons_zero, List.set_cons_succ]
  rw [HE2.out]
  refine wpAnyH_take (i := 15) (oi := ⟨some 30, _, _, _, _, _⟩) (v := .bool true) rfl (by kernel_rfl) (by kernel_rfl) (by kernel_rfl) (fun _ _ _ h => h) (Or.inl ⟨by rfl, ?_⟩) (by assumption) ?_
  · intro w hSw; (try dsimp only at hSw); go_simp
  simp only [Act.put, List.setIfInBounds_toArray, List.set_cons_zero, List.set_cons_succ]
  refine wpAnyH_take (i := 16) (oi := ⟨some 31, _, _, _, _, _⟩) (v := .bool true) rfl (by kernel_rfl) (by kernel_rfl) (by kernel_rfl) (fun _ _ _ h => h) (Or.inl ⟨by rfl, ?_⟩) (by assumption) ?_
  · intro w hSw; (try dsimp only at hSw); go_simp
  simp only [Act.put, List.setIfInBounds_toArray, List.set_cons_zero, List.set_cons_succ]
  refine wpAnyH_take (i := 17) (oi := ⟨some 32, _, _, _, _, _⟩) (v := .agg (Lib.byteCells R0).toArray) rfl (by kernel_rfl) (by kernel_rfl) (by kernel_rfl) (fun _ _ _ h => h) (yieldsIf_load_mid (by rfl) _ _ rfl _ _ rfl (Lib.byteCells R0) _ (fun w hS => hS.1) Tryz.underlying36 rfl (Sm.infoHash (Tr.size32 HL0.out))) (by assumption) ?_
  simp only [Act.put, List.setIfInBounds_toArray, List.set_cons_zero, List.set_cons_succ]
  refine wpAnyH_take (i := 18) (oi := ⟨some 33, _, _, _, _, _⟩) (v := (Tr.hv Tr.zeros)) rfl (by kernel_rfl) (by kernel_rfl) (by kernel_rfl) (fun _ _ _ h => h) (Tr.yields_zero (by rfl) rfl) (by assumption) ?_
  simp only [Act.put, List.setIfInBounds_toArray, List.set_cons_zero, List.set_cons_succ]
  refine wpAnyH_take (i := 19) (oi := ⟨some 34, _, _, _, _, _⟩) (v := .bool (!(R0 == Tr.zeros))) rfl (by kernel_rfl) (by kernel_rfl) (by kernel_rfl) (fun _ _ _ h => h) (Tr.yields_hne (by rfl) _ _ _ rfl R0 Tr.zeros HL0.out Tr.zeros_length rfl rfl) (by assumption) ?_
  simp only [Act.put, List.setIfInBounds_toArray, List.set_cons_zero, List.set_cons_succ]
  rw [HE3.out]
  refine wpAnyH_take (i := 20) (oi := ⟨some 35, _, _, _, _, _⟩) (v := .bool true) rfl (by kernel_rfl) (by kernel_rfl) (by kernel_rfl) (fun _ _ _ h => h) (Or.inl ⟨by rfl, ?_⟩) (by assumption) ?_
  · intro w hSw; (try dsimp only at hSw); go_simp
  simp only [Act.put, List.setIfInBounds_toArray, List.set_cons_zero, List.set_cons_succ]
  refine wpAnyH_take (i := 21) (oi := ⟨some 0, _, _, _, _, _⟩) (v := .bool true) rfl (by kernel_rfl) (by kernel_rfl) (by kernel_rfl) (fun _ _ _ h => h) (Or.inl ⟨by rfl, ?_⟩) (by assumption) ?_
  · intro w hSw; (try dsimp only at hSw); go_simp
  simp only [Act.put, List.setIfInBounds_toArray, List.set_cons_zero]
  refine wpAnyH_done (by kernel_rfl) ?_ _
  go_wp2
  go_ret
  exact ⟨rfl, B9.out⟩
end Go.Proofs.YtiehcplepneajaaGreatDoor
