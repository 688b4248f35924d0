/-
  A Sha in memory; the walk's numbers of a round.
-/
import Derived.Test.YtkijdpgdniaagaaDoorShSpread
import Derived.Deep.WholeRow
import Derived.Deep.MidRow
namespace Go.Proofs.YtkijdpgdniaagaaDoor
open Go.RowKit
namespace Sm

/-- The cells of a Sha: made or not, the words, what waits, how many bytes. -/
def cells (m : Bool) (v : V) (wt : List UInt8) (n : Nat) : Array Value := (.bool m :: (nums v.l ++ (Lib.byteCells wt ++ [.int .i64 (n : Int)]))).toArray
/-- A Sha lies in block b. -/
def At (w : World) (b : Nat) (m : Bool) (v : V) (wt : List UInt8) (n : Nat) : Prop := w.heap[b]? = some (.cells (cells m v wt n) 73 (0, 0))
/-- The numbers k stand in their variable. -/
def KAt (w : World) : Prop := ∀ i, i < 64 → w.cell? ⟨1, i, none⟩ = some (.int .u32 (ks.getD i 0 : Nat))

theorem At.cell {w : World} {b : Nat} {m : Bool} {v : V} {wt : List UInt8} {n : Nat} (h : At w b m v wt n) (i : Nat) (x : Value) (hx : (cells m v wt n)[i]? = some x) : w.cell? ⟨b, i, none⟩ = some x := cells_of h i x hx
theorem At.words {w : World} {b : Nat} {m : Bool} {v : V} {wt : List UInt8} {n : Nat} (h : At w b m v wt n) :
    w.cell? ⟨b, 1, none⟩ = some (.int .u32 v.a) ∧ w.cell? ⟨b, 2, none⟩ = some (.int .u32 v.b) ∧ w.cell? ⟨b, 3, none⟩ = some (.int .u32 v.c) ∧ w.cell? ⟨b, 4, none⟩ = some (.int .u32 v.d) ∧
    w.cell? ⟨b, 5, none⟩ = some (.int .u32 v.e) ∧ w.cell? ⟨b, 6, none⟩ = some (.int .u32 v.f) ∧ w.cell? ⟨b, 7, none⟩ = some (.int .u32 v.g) ∧ w.cell? ⟨b, 8, none⟩ = some (.int .u32 v.h) :=
  ⟨h.cell 1 _ rfl, h.cell 2 _ rfl, h.cell 3 _ rfl, h.cell 4 _ rfl, h.cell 5 _ rfl, h.cell 6 _ rfl, h.cell 7 _ rfl, h.cell 8 _ rfl⟩
theorem At.made {w : World} {b : Nat} {m : Bool} {v : V} {wt : List UInt8} {n : Nat} (h : At w b m v wt n) : w.cell? ⟨b, 0, none⟩ = some (.bool m) := h.cell 0 _ rfl
theorem byteCells_get {l : List UInt8} {j : Nat} (h : j < l.length) : (Lib.byteCells l)[j]? = some (.int .u8 (l.getD j 0).toNat) := by
  simp [Lib.byteCells, h]
theorem At.wait {w : World} {b : Nat} {m : Bool} {v : V} {wt : List UInt8} {n : Nat} (h : At w b m v wt n) (j : Nat) (hj : j < wt.length) : w.cell? ⟨b, 9 + j, none⟩ = some (.int .u8 (wt.getD j 0).toNat) := by
  refine h.cell (9 + j) _ ?_
  rw [cells, List.getElem?_toArray, show 9 + j = (j + 8) + 1 by omega, List.getElem?_cons_succ, List.getElem?_append_right (by simp [nums, V.l]), show j + 8 - (nums v.l).length = j by simp [nums, V.l], List.getElem?_append_left (by simpa [Lib.byteCells] using hj)]
  exact byteCells_get hj
theorem At.len {w : World} {b : Nat} {m : Bool} {v : V} {wt : List UInt8} {n : Nat} (h : At w b m v wt n) (hl : wt.length = 64) : w.cell? ⟨b, 73, none⟩ = some (.int .i64 n) := by
  refine h.cell 73 _ ?_
  rw [cells, List.getElem?_toArray, show 73 = 72 + 1 from rfl, List.getElem?_cons_succ, List.getElem?_append_right (by simp [nums, V.l]), show 72 - (nums v.l).length = 64 by simp [nums, V.l], List.getElem?_append_right (by simp [Lib.byteCells, hl])]
  simp [Lib.byteCells, hl]
theorem At.free {w : World} {b : Nat} {m : Bool} {v : V} {wt : List UInt8} {n : Nat} (h : At w b m v wt n) (o : Nat) : w.frozen? ⟨b, o, none⟩ = false := free_of h o
theorem At.lt {w : World} {b : Nat} {m : Bool} {v : V} {wt : List UInt8} {n : Nat} (h : At w b m v wt n) : b < w.heap.size := lt_of h
theorem At.low {w w' : World} {b : Nat} {m : Bool} {v : V} {wt : List UInt8} {n : Nat} (h : At w b m v wt n) (k : Below w.heap.size w w') : At w' b m v wt n := (k.block b h.lt).trans h

theorem set_word (m : Bool) (v : V) (wt : List UInt8) (n : Nat) (x : Nat) :
    (cells m v wt n).setIfInBounds 1 (.int .u32 x) = cells m { v with a := x } wt n ∧ (cells m v wt n).setIfInBounds 2 (.int .u32 x) = cells m { v with b := x } wt n ∧
    (cells m v wt n).setIfInBounds 3 (.int .u32 x) = cells m { v with c := x } wt n ∧ (cells m v wt n).setIfInBounds 4 (.int .u32 x) = cells m { v with d := x } wt n ∧
    (cells m v wt n).setIfInBounds 5 (.int .u32 x) = cells m { v with e := x } wt n ∧ (cells m v wt n).setIfInBounds 6 (.int .u32 x) = cells m { v with f := x } wt n ∧
    (cells m v wt n).setIfInBounds 7 (.int .u32 x) = cells m { v with g := x } wt n ∧ (cells m v wt n).setIfInBounds 8 (.int .u32 x) = cells m { v with h := x } wt n := by
  refine ⟨?_, ?_, ?_, ?_, ?_, ?_, ?_, ?_⟩ <;> (apply Array.ext'; simp [cells, nums, V.l])
theorem grown_cell {w w' : World} {b c o : Nat} (h : w.grownBy w' (some b)) (hc : c < w.heap.size) (hn : c ≠ b) : w'.cell? ⟨c, o, none⟩ = w.cell? ⟨c, o, none⟩ :=
  World.cell?_of_block (w := w) (h.block c hc (fun e => hn (by have := Option.some.inj e; omega)))
theorem KAt.grown {w w' : World} {b : Nat} (h : KAt w) (k : w.grownBy w' (some b)) (hb : b ≠ 1) (hs : 1 < w.heap.size) : KAt w' := fun i hi => (grown_cell k hs hb.symm).trans (h i hi)
theorem w_ch {e f g : Nat} (he : e < 4294967296) (hf : f < 4294967296) (hg : g < 4294967296) :
    bits .xor .u32 (bits .and .u32 (e : Int) f) (bits .and .u32 (bits .xor .u32 IntKind.u32.max (e : Int)) g) = (chs e f g : Nat) := by
  rw [show IntKind.u32.max = 4294967295 from rfl, w_comp he, w_and he hf, w_and (comp_lt he) hg, w_xor (and_lt hf) (and_lt hg)]; rfl
theorem w_maj {a b c : Nat} (ha : a < 4294967296) (hb : b < 4294967296) (hc : c < 4294967296) :
    bits .xor .u32 (bits .xor .u32 (bits .and .u32 (a : Int) b) (bits .and .u32 (a : Int) c)) (bits .and .u32 (b : Int) c) = (maj a b c : Nat) := by
  rw [w_and ha hb, w_and ha hc, w_and hb hc, w_xor (and_lt hb) (and_lt hc), w_xor (xor_lt (and_lt hb) (and_lt hc)) (and_lt hc)]; rfl
theorem w_x3 {a b c : Nat} (ha : a < 4294967296) (hb : b < 4294967296) (hc : c < 4294967296) : bits .xor .u32 (bits .xor .u32 (a : Int) b) c = ((a ^^^ b ^^^ c : Nat) : Int) := by
  rw [w_xor ha hb, w_xor (xor_lt ha hb) hc]
theorem w_t1 {u : V} (h : u.Ok) (k w : Nat) :
    ((u.h : Int) + bits .xor .u32 (bits .xor .u32 (rot u.e 6 : Nat) (rot u.e 11 : Nat)) (rot u.e 25 : Nat) + bits .xor .u32 (bits .and .u32 (u.e : Int) u.f) (bits .and .u32 (bits .xor .u32 IntKind.u32.max (u.e : Int)) u.g) + k + w) % 4294967296 = (t1 u k w : Nat) := by
  rw [w_ch h.e h.f h.g, w_x3 (rot_lt h.e) (rot_lt h.e) (rot_lt h.e)]
  unfold t1 add sum1; omega
theorem w_t1q {u : V} (h : u.Ok) (k : Nat) :
    ((((u.h : Int) + bits .xor .u32 (bits .xor .u32 (rot u.e 6 : Nat) (rot u.e 11 : Nat)) (rot u.e 25 : Nat)) % 4294967296 + bits .xor .u32 (bits .and .u32 (u.e : Int) u.f) (bits .and .u32 (bits .xor .u32 IntKind.u32.max (u.e : Int)) u.g)) % 4294967296 + k) % 4294967296 = (((add (add (add u.h (sum1 u.e)) (chs u.e u.f u.g)) k : Nat)) : Int) := by
  rw [w_ch h.e h.f h.g, w_x3 (rot_lt h.e) (rot_lt h.e) (rot_lt h.e)]
  unfold add sum1; omega
theorem w_t1r (u : V) (k w : Nat) : (((add (add (add u.h (sum1 u.e)) (chs u.e u.f u.g)) k : Nat) : Int) + w) % 4294967296 = (t1 u k w : Nat) := by unfold t1 add; omega
theorem w_t2 {u : V} (h : u.Ok) :
    (bits .xor .u32 (bits .xor .u32 (rot u.a 2 : Nat) (rot u.a 13 : Nat)) (rot u.a 22 : Nat) + bits .xor .u32 (bits .xor .u32 (bits .and .u32 (u.a : Int) u.b) (bits .and .u32 (u.a : Int) u.c)) (bits .and .u32 (u.b : Int) u.c)) % 4294967296 = (t2 u : Nat) := by
  rw [w_maj h.a h.b h.c, w_x3 (rot_lt h.a) (rot_lt h.a) (rot_lt h.a)]
  unfold t2 add sum0; omega
theorem At.drewN {w : World} {b : Nat} {m : Bool} {v : V} {wt : List UInt8} {n : Nat} (h : At w b m v wt n) (j : Nat) : At (w.drewN j) b m v wt n := h
/-- The words of a row. -/
def V.of (l : List Nat) : V := ⟨l.getD 0 0, l.getD 1 0, l.getD 2 0, l.getD 3 0, l.getD 4 0, l.getD 5 0, l.getD 6 0, l.getD 7 0⟩
/-- The first j words with those added that there were. -/
def mix (u v : V) : Nat → V
  | 0 => u
  | j + 1 => V.of ((mix u v j).l.set j (add ((mix u v j).l.getD j 0) (v.l.getD j 0)))
theorem mix_all (u v : V) : mix u v 8 = plus u v := rfl
theorem At.word {w : World} {b : Nat} {m : Bool} {v : V} {wt : List UInt8} {n : Nat} (h : At w b m v wt n) (j : Nat) (hj : j < 8) : w.cell? ⟨b, 1 + j, none⟩ = some (.int .u32 (v.l.getD j 0 : Nat)) := by
  obtain ⟨a1, a2, a3, a4, a5, a6, a7, a8⟩ := h.words
  obtain rfl | rfl | rfl | rfl | rfl | rfl | rfl | rfl : j = 0 ∨ j = 1 ∨ j = 2 ∨ j = 3 ∨ j = 4 ∨ j = 5 ∨ j = 6 ∨ j = 7 := by omega
  · exact a1
  · exact a2
  · exact a3
  · exact a4
  · exact a5
  · exact a6
  · exact a7
  · exact a8
theorem set_at (m : Bool) (v : V) (wt : List UInt8) (n : Nat) (x j : Nat) (hj : j < 8) : (cells m v wt n).setIfInBounds (1 + j) (.int .u32 x) = cells m (V.of (v.l.set j x)) wt n := by
  obtain ⟨a1, a2, a3, a4, a5, a6, a7, a8⟩ := set_word m v wt n x
  obtain rfl | rfl | rfl | rfl | rfl | rfl | rfl | rfl : j = 0 ∨ j = 1 ∨ j = 2 ∨ j = 3 ∨ j = 4 ∨ j = 5 ∨ j = 6 ∨ j = 7 := by omega
  · exact a1
  · exact a2
  · exact a3
  · exact a4
  · exact a5
  · exact a6
  · exact a7
  · exact a8
end Sm

end Go.Proofs.YtkijdpgdniaagaaDoor
