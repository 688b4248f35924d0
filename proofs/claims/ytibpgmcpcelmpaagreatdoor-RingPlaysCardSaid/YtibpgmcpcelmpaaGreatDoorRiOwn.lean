/-
  Slices that are owned beside rings; arguments that are slices of strings or of bytes, opened.
-/
import Derived.Test.YtibpgmcpcelmpaaGreatDoorRiAt
import Derived.Test.YtibpgmcpcelmpaaGreatDoorMBase
import Derived.ProofKit
import Derived.Deep.Slices
namespace Go.Proofs.YtibpgmcpcelmpaaGreatDoor
open Go.ChangeMaps (open_string shut_string)
open Go.ChangeShapes Go.WideShapes Go.ChangeAt Go.RowKit Go.Deep
namespace Ri
theorem own_keep {w w' : World} {B e size : Nat} {v : Value} {n : Nat} {xs : List Value} (ho : w.ownsRow B e size v n xs) (k : ∀ (i : Nat) (cs : Array Value) (f : Nat × Nat), w.heap[i]? = some (Obj.cells cs e f) → w'.heap[i]? = w.heap[i]?) : w'.ownsRow B e size v n xs :=
  ⟨ho.1, ho.2.imp id fun ⟨g, cap, cur, hv, hb, hg, rest⟩ => ⟨g, cap, cur, hv, hb, (k g _ _ hg).trans hg, rest⟩⟩
theorem own_ne_cells {w : World} {B e size : Nat} {v : Value} {n : Nat} {xs : List Value} (ho : w.ownsRow B e size v n xs) {i : Nat} {cs : Array Value} {t : TypeId} {f : Nat × Nat} (hi : w.heap[i]? = some (.cells cs t f)) (ht : t ≠ e) : some i ≠ v.ownBlock := by
  rcases ho.2 with ⟨rfl, _⟩ | ⟨g, cap, cur, rfl, _, hg, _⟩
  · intro h; cases h
  · intro h
    have h2 : i = g := Option.some.inj h
    exact ne_type hi hg ht h2
theorem own_ne_map {w : World} {B e size : Nat} {v : Value} {n : Nat} {xs : List Value} (ho : w.ownsRow B e size v n xs) {i : Nat} {es : Array MapEntry} {c : Nat} (hi : w.heap[i]? = some (.map es c)) : some i ≠ v.ownBlock := by
  rcases ho.2 with ⟨rfl, _⟩ | ⟨g, cap, cur, rfl, _, hg, _⟩
  · intro h; cases h
  · intro h
    have h2 : i = g := Option.some.inj h
    exact ne_map hg hi h2.symm
/-- A ring is kept where an owned slice grows. -/
theorem RingAt.grown {w w' : World} {r m : Nat} {M : ByteArray} {boot n : Nat} {cur : Int} (h : RingAt w r m M boot n cur) {B e size : Nat} {v : Value} {n' : Nat} {xs : List Value} (ho : w.ownsRow B e size v n' xs) (k : w.grownBy w' v.ownBlock) (h1 : e ≠ 62) (h2 : e ≠ 102) : RingAt w' r m M boot n cur := by
  obtain ⟨es, c, hm, _⟩ := h.keys
  exact ⟨(k.block r h.lt.1 (own_ne_cells ho h.ring h1.symm)).trans h.ring, h.keys.keep (k.block m h.lt.2 (own_ne_map ho hm)) (fun g _ hg => k.block g (Sm.lt_of hg) (own_ne_cells ho hg h2.symm))⟩
theorem own_turned {w w' : World} {r m : Nat} {M : ByteArray} {boot n : Nat} {cur : Int} (h : RingAt w r m M boot n cur) (k : Turned w w' r m) {B e size : Nat} {v : Value} {n' : Nat} {xs : List Value} (ho : w.ownsRow B e size v n' xs) (h1 : e ≠ 62) : w'.ownsRow B e size v n' xs := by
  obtain ⟨es, c, hm, _⟩ := h.keys
  exact own_keep ho fun i _ _ hi => k.block i (Sm.lt_of hi) (ne_type hi h.ring h1) (ne_map hi hm)
theorem own_other {w w' : World} {B e size : Nat} {v : Value} {n : Nat} {xs : List Value} (ho : w.ownsRow B e size v n xs) {B' e' size' : Nat} {v' : Value} {n' : Nat} {xs' : List Value} (ho' : w.ownsRow B' e' size' v' n' xs') (k : w.grownBy w' v'.ownBlock) (hne : e ≠ e') : w'.ownsRow B e size v n xs :=
  own_keep ho fun i _ _ hi => k.block i (Sm.lt_of hi) (own_ne_cells ho' hi hne)
theorem own_below {w w' : World} {B e size : Nat} {v : Value} {n : Nat} {xs : List Value} (ho : w.ownsRow B e size v n xs) (k : Below w.heap.size w w') : w'.ownsRow B e size v n xs :=
  own_keep ho fun i _ _ hi => k.block i (Sm.lt_of hi)
theorem own_drewN {w : World} {B e size : Nat} {v : Value} {n : Nat} {xs : List Value} (ho : w.ownsRow B e size v n xs) (k : Nat) : (w.drewN k).ownsRow B e size v n xs :=
  own_keep ho fun _ _ _ _ => rfl
/-- What an owned slice of single cells holds. -/
theorem own_get {w : World} {B e : Nat} {A : Option Addr} {c n : Nat} {xs : List Value} (ho : w.ownsRow B e 1 (.slice A n c) n xs) {j : Nat} (hj : j < n) : ∃ g, A = some ⟨g, 0, none⟩ ∧ w.cell? ⟨g, 0 + j, none⟩ = xs[j]? := by
  rcases ho.2 with ⟨hv, hn⟩ | ⟨g, cap, cur, hv, hB, hh, hn, _, _, htk⟩
  · omega
  · simp only [Value.slice.injEq] at hv
    obtain ⟨rfl, _, rfl⟩ := hv
    refine ⟨g, rfl, ?_⟩
    rw [← htk, List.getElem?_take, if_pos (by omega), Nat.zero_add]
    simp [World.cell?, hh]

def strsAt (w : World) (A : Option Addr) (l : List ByteArray) : Prop := l = [] ∨ ∃ b o, A = some ⟨b, o, none⟩ ∧ b < w.heap.size ∧ ∀ i, i < l.length → w.cell? ⟨b, o + i, none⟩ = some (.string (l.getD i ByteArray.empty))
theorem strsAt.get {w w' : World} {A : Option Addr} {l : List ByteArray} (h : strsAt w A l) (k : Below w.heap.size w w') {j : Nat} (hj : j < l.length) : ∃ b o, A = some ⟨b, o, none⟩ ∧ w'.cell? ⟨b, o + j, none⟩ = some (.string (l.getD j ByteArray.empty)) := by
  rcases h with rfl | ⟨b, o, rfl, hb, hi⟩
  · simp at hj
  · exact ⟨b, o, rfl, (k.cell (p := ⟨b, o + j, none⟩) hb).trans (hi j hj)⟩
def u8sAt (w : World) (A : Option Addr) (l : List Nat) : Prop := l = [] ∨ ∃ b o, A = some ⟨b, o, none⟩ ∧ b < w.heap.size ∧ ∀ i, i < l.length → w.cell? ⟨b, o + i, none⟩ = some (.int .u8 (l.getD i 0 : Nat)) ∧ l.getD i 0 < 256
theorem u8sAt.get {w w' : World} {A : Option Addr} {l : List Nat} (h : u8sAt w A l) (k : Below w.heap.size w w') {j : Nat} (hj : j < l.length) : ∃ b o, A = some ⟨b, o, none⟩ ∧ w'.cell? ⟨b, o + j, none⟩ = some (.int .u8 (l.getD j 0 : Nat)) ∧ l.getD j 0 < 256 := by
  rcases h with rfl | ⟨b, o, rfl, hb, hi⟩
  · simp at hj
  · exact ⟨b, o, rfl, (k.cell (p := ⟨b, o + j, none⟩) hb).trans (hi j hj).1, (hi j hj).2⟩
theorem empty_small : ByteArray.empty.size ≤ 9223372036854775807 := by decide
theorem cells_str : Tryz.prog.cellsOf 9 = 1 := by kernel_rfl
theorem cells_u8 : Tryz.prog.cellsOf 5 = 1 := by kernel_rfl
set_option maxRecDepth 100000 in
/-- The strings, opened. -/
theorem open_strs {H : Type} {enc : TypeId × Value → H} {W : World} {sp : Nat → Bool} {held : Bool} {b0 : Nat} {r : Reach} {v : Value} {d : DataW H} {ps : List MemPlace}
    (hval : Value.okWide Tryz.prog W r b0 33 v) (h : DataW.Trod enc Tryz.prog W 0 sp held 33 v d ps) :
    ∃ A c l, v = .slice A l.length c ∧ l.length ≤ 9223372036854775807 ∧ (∀ i, (l.getD i ByteArray.empty).size ≤ 9223372036854775807) ∧ strsAt W A l := by
  obtain ⟨A, len, cap, rfl⟩ := okWide_slice Tryz.underlying33 hval
  obtain ⟨fuel, hf⟩ := h
  rcases open_strings Tryz.underlying33 Tryz.underlying9 cells_str hf with ⟨hcs, _⟩ | ⟨a, len', cap', ss, hcs, _, hl, hm, hz, _, hcell, hws⟩
  · simp [Value.cells] at hcs
    obtain ⟨rfl, rfl, rfl⟩ := hcs
    exact ⟨none, 0, [], rfl, by decide, by intro i; rw [List.getD_nil]; exact empty_small, .inl rfl⟩
  · simp [Value.cells] at hcs
    obtain ⟨rfl, rfl, rfl⟩ := hcs
    have hml : len ≤ ss.length := by rw [hz]; split <;> omega
    unfold maxLen at hm hws
    have hlen : (ss.take len).length = len := by rw [List.length_take]; omega
    have hget : ∀ i, i < len → (ss.take len).getD i ByteArray.empty = ss.getD i ByteArray.empty := fun i hi => by
      rw [List.getD_eq_getElem?_getD, List.getD_eq_getElem?_getD, List.getElem?_take, if_pos hi]
    refine ⟨some a, cap, ss.take len, by rw [hlen], by omega, fun i => ?_, ?_⟩
    · by_cases hi : i < len
      · rw [hget i hi, List.getD_eq_getElem?_getD, List.getElem?_eq_getElem (by omega)]
        have := hws _ (List.getElem_mem (show i < ss.length by omega))
        simp only [Option.getD_some]
        omega
      · rw [List.getD_eq_getElem?_getD, List.getElem?_eq_none (by omega)]
        exact empty_small
    · by_cases h0 : len = 0
      · subst h0; exact .inl (by simp)
      · obtain ⟨b, off, spot⟩ := a
        have hc0 := hcell 0 (by omega)
        have hspot : spot = none := by simpa [Addr.add] using World.cell?_spot hc0
        subst hspot
        have hlt := World.block_lt_of_cell? W _ hc0
        refine .inr ⟨b, off, rfl, by simpa [Addr.add] using hlt, fun i hi => ?_⟩
        rw [hlen] at hi
        have := hcell i (by omega)
        rw [Addr.add_mid] at this
        rw [hget i hi]
        exact this
theorem nats_of {P : Nat → Nat → Prop} (n : Nat) (h : ∀ i, i < n → ∃ a, P i a) : ∃ l : List Nat, l.length = n ∧ ∀ i, i < n → P i (l.getD i 0) := by
  induction n with
  | zero => exact ⟨[], rfl, fun i hi => by omega⟩
  | succ n ih =>
    obtain ⟨l, hl, hp⟩ := ih fun i hi => h i (by omega)
    obtain ⟨a, ha⟩ := h n (by omega)
    refine ⟨l ++ [a], by simp [hl], fun i hi => ?_⟩
    rw [List.getD_eq_getElem?_getD]
    by_cases hin : i < n
    · rw [List.getElem?_append_left (by omega), ← List.getD_eq_getElem?_getD]; exact hp i hin
    · have hie : i = n := by omega
      subst hie
      rw [List.getElem?_append_right (by omega)]
      simp [hl, ha]
set_option maxRecDepth 100000 in
/-- The bytes, opened. -/
theorem open_u8s {H : Type} {enc : TypeId × Value → H} {W : World} {sp : Nat → Bool} {held : Bool} {b0 : Nat} {r : Reach} {v : Value} {d : DataW H} {ps : List MemPlace}
    (hval : Value.okWide Tryz.prog W r b0 85 v) (h : DataW.Trod enc Tryz.prog W 0 sp held 85 v d ps) :
    ∃ A c l, v = .slice A l.length c ∧ l.length ≤ 9223372036854775807 ∧ u8sAt W A l := by
  obtain ⟨A, len, cap, rfl⟩ := okWide_slice Tryz.underlying85 hval
  obtain ⟨fuel, hf⟩ := h
  rcases open_slice Tryz.underlying85 hf with ⟨hcs, _⟩ | ⟨a, len', cap', m, n, D, Pl, hcs, _, hl, hm, hmm, _, hi⟩
  · simp [Value.cells] at hcs
    obtain ⟨rfl, rfl, rfl⟩ := hcs
    exact ⟨none, 0, [], rfl, by decide, .inl rfl⟩
  · simp [Value.cells] at hcs
    obtain ⟨rfl, rfl, rfl⟩ := hcs
    have hml : len ≤ m := by rw [hmm]; split <;> omega
    unfold maxLen at hm
    obtain ⟨l, hll, hP⟩ := nats_of (P := fun i x => x < 256 ∧ W.cell? (a.add i) = some (.int .u8 (x : Int))) len (by
      intro i hil
      obtain ⟨cs', hc, ht⟩ := hi i (by omega)
      obtain ⟨k, hk, _, hw⟩ := DataW.trod_int Tryz.underlying5 ht
      have q0 : 0 ≤ k ∧ k ≤ 255 := by simpa [Lit.wf, IntKind.min, IntKind.max, IntKind.signed, IntKind.bits] using hw
      refine ⟨k.toNat, by omega, ?_⟩
      rw [cells_u8] at hc
      have h3 := (World.cells?_some hc).2.2 0 (by omega)
      rw [hk] at h3
      rw [add_add, Nat.mul_one, Nat.add_zero] at h3
      rw [h3, Int.toNat_of_nonneg q0.1]
      rfl)
    subst hll
    refine ⟨some a, cap, l, rfl, by omega, ?_⟩
    by_cases h0 : l = []
    · exact .inl h0
    · have hpos := List.length_pos_iff.2 h0
      obtain ⟨b, off, spot⟩ := a
      have hc0 := (hP 0 hpos).2
      have hspot : spot = none := by simpa [Addr.add] using World.cell?_spot hc0
      subst hspot
      have hlt := World.block_lt_of_cell? W _ hc0
      refine .inr ⟨b, off, rfl, by simpa [Addr.add] using hlt, fun i hi => ⟨?_, (hP i hi).1⟩⟩
      have h3 := (hP i hi).2
      rw [Addr.add_mid] at h3
      exact h3
end Ri
end Go.Proofs.YtibpgmcpcelmpaaGreatDoor
