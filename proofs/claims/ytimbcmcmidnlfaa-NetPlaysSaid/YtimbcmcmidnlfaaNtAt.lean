/-
  A net in memory: its block, and the row of its packets; what becomes of it where something else turns.
-/
import Derived.Test.YtimbcmcmidnlfaaOwn
import Derived.Test.YtimbcmcmidnlfaaNtMath
import Derived.ArgAppend
namespace Go.Proofs.Ytimbcmcmidnlfaa
open Go.RowKit
namespace Nt
def Pk.cells (p : Pk) : List Value := [.int .i64 p.f, .int .i64 p.t, .string p.d]
def flat (l : List Pk) : List Value := l.flatMap Pk.cells
theorem flat_append (a b : List Pk) : flat (a ++ b) = flat a ++ flat b := by simp [flat]
theorem flat_one (p : Pk) : flat [p] = p.cells := by simp [flat]
theorem flat_length : ∀ (l : List Pk), (flat l).length = l.length * 3
  | [] => rfl
  | p :: l => by
    have := flat_length l
    simp only [flat, List.flatMap_cons, List.length_append, List.length_cons, Pk.cells, List.length_nil] at this ⊢
    omega
theorem flat_single (l : List Pk) : ∀ u ∈ flat l, u.oneCell' = true := by
  intro u hu
  obtain ⟨p, _, hp⟩ := List.mem_flatMap.1 hu
  simp only [Pk.cells, List.mem_cons, List.not_mem_nil, or_false] at hp
  rcases hp with rfl | rfl | rfl <;> rfl
theorem flat_get : ∀ {l : List Pk} {i : Nat} (h : i < l.length) {j : Nat}, j < 3 → (flat l)[i * 3 + j]? = (l[i].cells)[j]?
  | [], _, hi, _, _ => by simp at hi
  | p :: l, 0, _, j, hj => by
    simp only [flat, List.flatMap_cons, List.getElem_cons_zero, Nat.zero_mul, Nat.zero_add]
    rw [List.getElem?_append_left (by simp [Pk.cells]; omega)]
  | p :: l, i + 1, h, j, hj => by
    have ih := flat_get (l := l) (i := i) (by simpa using h) hj
    simp only [flat, List.flatMap_cons, List.getElem_cons_succ] at ih ⊢
    rw [List.getElem?_append_right (by simp [Pk.cells]; omega), show (i + 1) * 3 + j - (Pk.cells p).length = i * 3 + j by simp [Pk.cells]; omega]
    exact ih
theorem flat_take : ∀ (l : List Pk) (i : Nat), flat (l.take i) = (flat l).take (i * 3)
  | [], i => by simp [flat]
  | p :: l, 0 => by simp [flat]
  | p :: l, i + 1 => by
    have ih := flat_take l i
    simp only [flat, List.take_succ_cons, List.flatMap_cons] at ih ⊢
    rw [ih, List.take_append, show (i + 1) * 3 - (Pk.cells p).length = i * 3 by simp [Pk.cells]; omega, List.take_of_length_le (l := Pk.cells p) (by simp [Pk.cells]; omega)]
theorem flat_drop : ∀ (l : List Pk) (i : Nat), flat (l.drop i) = (flat l).drop (i * 3)
  | [], i => by simp [flat]
  | p :: l, 0 => by simp [flat]
  | p :: l, i + 1 => by
    have ih := flat_drop l i
    simp only [flat, List.drop_succ_cons, List.flatMap_cons] at ih ⊢
    rw [ih, List.drop_append, show (i + 1) * 3 - (Pk.cells p).length = i * 3 by simp [Pk.cells]; omega, List.drop_of_length_le (l := Pk.cells p) (by simp [Pk.cells]; omega), List.nil_append]
/-- A row of packets, in a block of the call's own. -/
def PksAt (w : World) (B : Nat) (v : Value) (l : List Pk) : Prop := w.ownsRow B 25 3 v l.length (flat l)
theorem PksAt.shape {w : World} {B : Nat} {v : Value} {l : List Pk} (h : PksAt w B v l) : ∃ A c, v = .slice A l.length c ∧ (l = [] ∨ ∃ g, A = some ⟨g, 0, none⟩) ∧ l.length ≤ c := by
  rcases h.2 with ⟨rfl, h0⟩ | ⟨g, cap, cur, rfl, _, _, h1, _⟩
  · have : l = [] := List.eq_nil_of_length_eq_zero h0
    subst this
    exact ⟨none, 0, rfl, .inl rfl, Nat.le_refl _⟩
  · exact ⟨_, cap, rfl, .inr ⟨g, rfl⟩, h1⟩
theorem PksAt.get {w : World} {B : Nat} {A : Option Addr} {c n : Nat} {l : List Pk} (h : PksAt w B (.slice A n c) l) {i : Nat} (hi : i < l.length) :
    ∃ g, A = some ⟨g, 0, none⟩ ∧ g < w.heap.size ∧ w.cell? ⟨g, i * 3, none⟩ = some (.int .i64 l[i].f) ∧ w.cell? ⟨g, i * 3 + 1, none⟩ = some (.int .i64 l[i].t) ∧ w.cell? ⟨g, i * 3 + 2, none⟩ = some (.string l[i].d) := by
  rcases h.2 with ⟨_, h0⟩ | ⟨g, cap, cur, hv, _, hg, _, _, _, ht⟩
  · omega
  · simp only [Value.slice.injEq] at hv
    refine ⟨g, hv.1, Sm.lt_of hg, ?_⟩
    have e : ∀ j, j < 3 → w.cell? ⟨g, i * 3 + j, none⟩ = (l[i].cells)[j]? := fun j hj => by
      rw [← flat_get hi hj, ← ht, List.getElem?_take, if_pos (by omega)]
      simp [World.cell?, hg]
    exact ⟨e 0 (by omega), e 1 (by omega), e 2 (by omega)⟩
theorem own_keep {w w' : World} {B e size : Nat} {v : Value} {n : Nat} {xs : List Value} (ho : w.ownsRow B e size v n xs) (k : ∀ (i : Nat) (cs : Array Value), w.heap[i]? = some (Obj.cells cs e (0, 0)) → w'.heap[i]? = w.heap[i]?) : w'.ownsRow B e size v n xs :=
  ⟨ho.1, ho.2.imp id fun ⟨g, cap, cur, hv, hb, hg, rest⟩ => ⟨g, cap, cur, hv, hb, (k g _ hg).trans hg, rest⟩⟩
theorem own_more {w : World} {B B' e size : Nat} {v : Value} {n : Nat} {xs : List Value} (ho : w.ownsRow B e size v n xs) (h : B' ≤ B) : w.ownsRow B' e size v n xs :=
  ⟨ho.1, ho.2.imp id fun ⟨g, cap, cur, hv, hb, rest⟩ => ⟨g, cap, cur, hv, Nat.le_trans h hb, rest⟩⟩
theorem own_blk {w : World} {B e size : Nat} {v : Value} {n : Nat} {xs : List Value} (ho : w.ownsRow B e size v n xs) {q : Nat} (hq : v.ownBlock = some q) : B ≤ q ∧ ∃ cs, w.heap[q]? = some (.cells cs e (0, 0)) := by
  rcases ho.2 with ⟨rfl, _⟩ | ⟨g, cap, cur, rfl, hb, hg, _⟩
  · cases hq
  · have e1 : g = q := Option.some.inj hq
    subst e1
    exact ⟨hb, cur, hg⟩
def cells (M : Md) (v : Value) : Array Value := #[.bool true, .bool M.parted, v, .int .i64 (count M.row 0), .int .i64 (count M.row 1)]
/-- A net in block r, its packets in a block behind B that is none of L. -/
structure NetAt (w : World) (B r : Nat) (L : Nat → Prop) (M : Md) : Prop where
  ok : M.Ok
  net : ∃ v, w.heap[r]? = some (.cells (cells M v) 46 (0, 0)) ∧ PksAt w B v M.row ∧ ∀ g, v.ownBlock = some g → ¬ L g
  high : B ≤ r
theorem net_packet : 25 ≠ 46 := by decide
theorem type_ne {w : World} {a b : Nat} {c d : Array Value} {s t : TypeId} {f g : Nat × Nat} (h : w.heap[a]? = some (.cells c s f)) (k : w.heap[b]? = some (.cells d t g)) (hne : s ≠ t) : a ≠ b := by
  rintro rfl
  rw [h] at k
  injection k with k
  injection k with _ k
  exact hne k
/-- A net of the call's own, its packets in none of the blocks L; below B all is as it was in w0. -/
structure Own (B : Nat) (w0 w : World) (r : Nat) (L : Nat → Prop) (M : Md) : Prop where
  net : NetAt w B r L M
  base : B ≤ w0.heap.size
  below : Below B w0 w
  old : ∀ k, L k → k < w.heap.size
def Non : Nat → Prop := fun _ => False
section
variable {B : Nat} {w0 w w' : World} {r : Nat} {L : Nat → Prop} {M : Md}
theorem NetAt.lt (h : NetAt w B r L M) : r < w.heap.size := by obtain ⟨v, h, _⟩ := h.net; exact Sm.lt_of h
theorem NetAt.keep (h : NetAt w B r L M) (k : ∀ (i : Nat) (cs : Array Value) (t : TypeId), (t = 46 ∧ i = r ∨ t = 25 ∧ ¬ L i) → B ≤ i → w.heap[i]? = some (Obj.cells cs t (0, 0)) → w'.heap[i]? = w.heap[i]?) : NetAt w' B r L M := by
  obtain ⟨v, h1, h2, h3⟩ := h.net
  refine ⟨h.ok, ⟨v, (k r _ _ (.inl ⟨rfl, rfl⟩) h.high h1).trans h1, ⟨h2.1, h2.2.imp id fun ⟨g, cap, cur, hv, hb, hg, rest⟩ => ⟨g, cap, cur, hv, hb, (k g _ _ (.inr ⟨rfl, h3 g (by rw [hv]; rfl)⟩) hb hg).trans hg, rest⟩⟩, h3⟩, h.high⟩
theorem NetAt.low (h : NetAt w B r L M) (k : Below w.heap.size w w') : NetAt w' B r L M := h.keep fun _ _ _ _ _ hi => k.block _ (Sm.lt_of hi)
theorem Own.lt (h : Own B w0 w r L M) : r < w.heap.size := h.net.lt
theorem Own.size (h : Own B w0 w r L M) : B ≤ w.heap.size := Nat.le_trans h.base h.below.size
theorem Own.low (h : Own B w0 w r L M) (k : Below w.heap.size w w') : Own B w0 w' r L M := ⟨h.net.low k, h.base, h.below.trans (k.mono h.size), fun i hi => Nat.lt_of_lt_of_le (h.old i hi) k.size⟩
/-- What is neither the net's block nor its packets' is turned. -/
theorem Own.other (h : Own B w0 w r L M) {b : Option Nat} (hr : b ≠ some r) (hb : ∀ q, b = some q → B ≤ q ∧ (L q ∨ ∃ cs t, w.heap[q]? = some (.cells cs t (0, 0)) ∧ t ≠ 25)) (k : w.grownBy w' b) : Own B w0 w' r L M := by
  refine ⟨h.net.keep fun i cs' t' ht' _ hi => k.block i (Sm.lt_of hi) fun e => ?_, h.base, h.below.trans ⟨k.os, k.tape, k.output, k.size, fun i hi => k.block i (by have := h.size; omega) (fun e => by have := (hb i e.symm).1; omega)⟩, fun i hi => Nat.lt_of_lt_of_le (h.old i hi) k.size⟩
  rcases ht' with ⟨_, e1⟩ | ⟨e1, e2⟩
  · subst e1; exact hr e.symm
  · rcases (hb i e.symm).2 with h1 | ⟨cs, t, h1, h2⟩
    · exact e2 h1
    · rw [hi] at h1
      injection h1 with h1
      injection h1 with _ h1
      exact h2 (h1.symm.trans e1)
/-- Blocks that are newer than the net's packets may be told apart, too. -/
theorem Own.label (h : Own B w0 w r L M) {L' : Nat → Prop} (k : Below w.heap.size w w') (hL : ∀ q, L' q → q < w'.heap.size ∧ (L q ∨ w.heap.size ≤ q)) : Own B w0 w' r L' M := by
  have h2 := h.low k
  refine ⟨⟨h2.net.ok, ?_, h2.net.high⟩, h2.base, h2.below, fun q hq => (hL q hq).1⟩
  obtain ⟨v, h1, h3, h4⟩ := h.net.net
  refine ⟨v, (k.block r (Sm.lt_of h1)).trans h1, ⟨h3.1, h3.2.imp id fun ⟨g, cap, cur, hv, hb, hg, rest⟩ => ⟨g, cap, cur, hv, hb, (k.block g (Sm.lt_of hg)).trans hg, rest⟩⟩, fun g hg hl => ?_⟩
  rcases (hL g hl).2 with e | e
  · exact h4 g hg e
  · rcases h3.2 with ⟨hv, _⟩ | ⟨g', cap, cur, hv, _, hgg, _⟩
    · rw [hv] at hg; cases hg
    · rw [hv] at hg
      have hgt : g' = g := Option.some.inj hg
      have h5 := Sm.lt_of hgg
      omega
theorem Own.netBlock (h : Own B w0 w r L M) : ∃ A c, w.heap[r]? = some (.cells #[.bool true, .bool M.parted, .slice A M.row.length c, .int .i64 (count M.row 0), .int .i64 (count M.row 1)] 46 (0, 0)) ∧ PksAt w B (.slice A M.row.length c) M.row ∧ (∀ g, (Value.slice A M.row.length c).ownBlock = some g → ¬ L g) ∧ (M.row = [] ∨ ∃ g, A = some ⟨g, 0, none⟩) ∧ M.row.length ≤ c := by
  obtain ⟨v, h1, h2, h5⟩ := h.net.net
  obtain ⟨A, c, rfl, h3, h4⟩ := h2.shape
  exact ⟨A, c, h1, h2, h5, h3, h4⟩
/-- What a call upon the net leaves. -/
structure Step (B : Nat) (w0 w w' : World) (r : Nat) (L : Nat → Prop) (M' : Md) : Prop where
  own : Own B w0 w' r L M'
  turned : w.grownBy w' (some r)
theorem Step.refl (h : Own B w0 w r L M) : Step B w0 w w r L M := ⟨h, Sm.grown_refl _ _⟩
theorem Step.trans {w2 : World} {M' M'' : Md} (h : Step B w0 w w' r L M') (k : Step B w0 w' w2 r L M'') : Step B w0 w w2 r L M'' := ⟨k.own, Sm.grown_trans h.turned k.turned⟩
theorem Step.low {w2 : World} (h : Step B w0 w w' r L M) (k : Below w'.heap.size w' w2) : Step B w0 w w2 r L M :=
  ⟨h.own.low k, Sm.grown_below h.turned (k.mono h.turned.size)⟩
theorem Step.ofLow (h : Own B w0 w r L M) (k : Below w.heap.size w w') : Step B w0 w w' r L M := (Step.refl h).low k
end
def bareCells : Array Value := #[.bool false, .bool false, .slice none 0 0, .int .i64 0, .int .i64 0]
/-- What is no net: nil, or a Net that New did not make. -/
def None (w : World) (v : Value) : Prop := v = .pointer none ∨ ∃ b, v = .pointer (some ⟨b, 0, none⟩) ∧ w.heap[b]? = some (.cells bareCells 46 (0, 0))
theorem info3_packet : (Try.prog.info? 25).map (fun i => (i.zero, i.size, i.bytes)) = some (some (.agg #[.int .i64 0, .int .i64 0, .string ⟨#[]⟩]), 3, 32) := by kernel_rfl
end Nt
end Go.Proofs.Ytimbcmcmidnlfaa
