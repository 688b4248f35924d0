/-
  Texts that belong together, laid into one.
-/
import Derived.WalkKit
import Derived.WalkLawsBesides
import Derived.Lib.Hide
import Derived.Outline
import Derived.Deep.QuietTactic
import Derived.BigQuiet
import Derived.BigRegion
import Derived.Laws.CopyOwn
import Derived.Lib.UnsafeStr
import Derived.Lib.BufferWrite
import Derived.Deep.WholeRow
import Derived.Deep.MidRow
import Derived.Deep.RegionHeld3
import Derived.Deep.Cut
import Derived.Test.YtiehcplepneajaaGreatDoorProg
import Derived.Laws.BitsAllLaws
import Derived.ChangeKeysEq
import Derived.ArgAppend
import Derived.Lib.ConvBytes
import Derived.Deep.RegionLaw
import Derived.Laws.AppendOwn
import Derived.OwnWalk
import Derived.ProofKit
import Derived.OpenShut
import Derived.Carry
import Derived.IntWalk
/-
  Small facts on worlds, rows of bytes and of numbers, shared by the layers.
-/
namespace Go.Proofs.YtiehcplepneajaaGreatDoor
open Go.RowKit
theorem byte_fits (c : UInt8) : 0 ≤ (c.toNat : Int) ∧ (c.toNat : Int) < 256 := by have := c.toNat_lt; omega
theorem info3_u8 : (Tryz.prog.info? 5).map (fun i => (i.zero, i.size, i.bytes)) = some (some (.int .u8 0), 1, 1) := by kernel_rfl
namespace Sm
theorem heap_set {w : World} {b : Nat} {c : Array Value} {e : TypeId} {fz : Nat × Nat} (h : w.heap[b]? = some (.cells c e fz)) (o : Nat) (v : Value) :
    (w.setCell ⟨b, o, none⟩ v).heap[b]? = some (.cells (c.setIfInBounds o v) e fz) := by
  simp [World.setCell, Array.getElem?_modify, h]
theorem cells_of {w : World} {b : Nat} {c : Array Value} {e : TypeId} (h : w.heap[b]? = some (.cells c e (0, 0))) (i : Nat) (v : Value) (hv : c[i]? = some v) :
    w.cell? ⟨b, i, none⟩ = some v := by simp [World.cell?, h, hv]
theorem free_of {w : World} {b : Nat} {c : Array Value} {e : TypeId} (h : w.heap[b]? = some (.cells c e (0, 0))) (i : Nat) : w.frozen? ⟨b, i, none⟩ = false := by
  simp [World.frozen?, h]
theorem lt_of {w : World} {b : Nat} {o : Obj} (h : w.heap[b]? = some o) : b < w.heap.size := (Array.getElem?_eq_some_iff.1 h).1
theorem grown_refl (w : World) (r : Option Nat) : w.grownBy w r := ⟨rfl, rfl, rfl, Nat.le_refl _, fun _ _ _ => rfl⟩
theorem grown_trans {a b c : World} {r : Option Nat} (h : a.grownBy b r) (k : b.grownBy c r) : a.grownBy c r :=
  ⟨k.os.trans h.os, k.tape.trans h.tape, k.output.trans h.output, Nat.le_trans h.size k.size, fun i hi hn => (k.block i (Nat.lt_of_lt_of_le hi h.size) hn).trans (h.block i hi hn)⟩
theorem grown_set {a w : World} {b : Nat} (h : a.grownBy w (some b)) (o : Nat) (v : Value) : a.grownBy (w.setCell ⟨b, o, none⟩ v) (some b) :=
  grown_trans h ⟨rfl, rfl, rfl, by simp, fun k _ hn => Below.heap_setCell _ _ _ _ (fun e => hn (by rw [e]))⟩
theorem grown_drewN {a w : World} {r : Option Nat} (h : a.grownBy w r) (n : Nat) : a.grownBy (w.drewN n) r := ⟨h.os, h.tape, h.output, h.size, h.block⟩
theorem grown_below {a w w' : World} {r : Option Nat} (h : a.grownBy w r) (k : Below a.heap.size w w') : a.grownBy w' r :=
  ⟨k.os.trans h.os, k.tape.trans h.tape, k.output.trans h.output, Nat.le_trans h.size k.size, fun i hi hn => (k.block i hi).trans (h.block i hi hn)⟩
theorem grown_from {w w' : World} {b B : Nat} (h : w.grownBy w' (some b)) (hb : B ≤ b) (hB : B ≤ w.heap.size) : Below B w w' :=
  ⟨h.os, h.tape, h.output, h.size, fun k hk => h.block k (by omega) (fun e => by have := Option.some.inj e; omega)⟩
theorem below_drewN {B : Nat} {w w' : World} (h : Below B w w') (n : Nat) : Below B w (w'.drewN n) := ⟨h.os, h.tape, h.output, h.size, h.block⟩
/-- A call that turns nothing, behind draws that have been joined already. -/
theorem q_more {P : Program} {f : FuncId} {xs : Array Value} {w : World} {i j : Nat} {r : Value} (h : Calls P f xs (w.drewN (i + j)) fun e w' => e = .returned r ∧ w.drewN (i + j) = w') :
    Calls P f xs (w.drewN (i + j)) fun e w' => e = .returned r ∧ ∃ k, w' = w.drewN (i + k) := h.mono fun _ _ ⟨h1, h2⟩ => ⟨h1, j, h2.symm⟩
theorem q_one {P : Program} {f : FuncId} {xs : Array Value} {w : World} {j : Nat} {r : Value} (h : Calls P f xs (w.drewN j) fun e w' => e = .returned r ∧ w.drewN j = w') :
    Calls P f xs (w.drewN j) fun e w' => e = .returned r ∧ ∃ k, w' = w.drewN k := h.mono fun _ _ ⟨h1, h2⟩ => ⟨h1, j, h2.symm⟩
/-- Numbers of 32 bits as cells. -/
def nums (l : List Nat) : List Value := l.map fun n : Nat => Value.int .u32 (n : Int)
theorem nums_get {l : List Nat} {i : Nat} (h : i < l.length) : (nums l)[i]? = some (.int .u32 (l.getD i 0 : Nat)) := by
  simp [nums, h]
theorem nums_length (l : List Nat) : (nums l).length = l.length := by simp [nums]
/-- A row of n numbers, of which the first are these, the others 0. -/
def rowOf (n : Nat) (l : List Nat) : Array Value := (nums (l ++ List.replicate (n - l.length) 0)).toArray
theorem rowOf_get {n : Nat} {l : List Nat} {i : Nat} (h : i < l.length) : (rowOf n l)[i]? = some (.int .u32 (l.getD i 0 : Nat)) := by
  simp [rowOf, nums, List.getElem?_append, h]
theorem rowOf_set {n : Nat} {l : List Nat} (h : l.length < n) (x : Nat) : (rowOf n l).setIfInBounds l.length (.int .u32 x) = rowOf n (l ++ [x]) := by
  apply Array.ext'
  simp only [rowOf, nums, Array.toList_setIfInBounds, List.toList_toArray, List.map_append, List.length_append, List.length_singleton, List.map_cons, List.map_nil]
  rw [show n - l.length = (n - (l.length + 1)) + 1 by omega, List.replicate_succ, List.map_cons, List.set_append_right _ _ (by simp)]
  simp
theorem rowOf_some {n : Nat} {l : List Nat} (i : Nat) (h : l.length ≤ n) (hi : i < n) : ∃ v, (rowOf n l)[i]? = some v := by
  have : (rowOf n l).size = n := by simp [rowOf, nums]; omega
  exact ⟨_, Array.getElem?_eq_getElem (by omega)⟩
theorem words_range {f : Nat → Nat} {k : Nat} : (List.range (k + 1)).map f = (List.range k).map f ++ [f k] := by rw [List.range_succ]; simp
theorem rowOf_size {n : Nat} {l : List Nat} (h : l.length ≤ n) : (rowOf n l).size = n := by simp [rowOf, nums]; omega
theorem rowOf_one (n : Nat) (l : List Nat) : (rowOf n l).all (·.oneCell') = true := by
  rw [Array.all_eq_true_iff_forall_mem]
  intro v hv
  obtain ⟨x, _, rfl⟩ := List.mem_map.1 (by simpa [rowOf, nums] using hv : v ∈ nums (l ++ List.replicate (n - l.length) 0))
  rfl
theorem rowOf_full {n : Nat} {l : List Nat} (h : l.length = n) : rowOf n l = (nums l).toArray := by unfold rowOf; rw [show n - l.length = 0 by omega]; simp
theorem below_setRow {B N : Nat} {w w' : World} (h : Below B w w') (hN : B ≤ N) (c : Array Value) : Below B w (w'.setRow N c) :=
  ⟨h.os, h.tape, h.output, by rw [size_setRow]; exact h.size, fun k hk => by rw [setRow_other _ _ _ _ (by omega)]; exact h.block k hk⟩
theorem low_low {w w1 w2 : World} {B : Nat} (k : Below B w w1) (hB : B ≤ w.heap.size) (h : Below w1.heap.size w1 w2) : Below B w w2 := k.trans (h.mono (Nat.le_trans hB k.size))
theorem xor_u8 (a b : UInt8) : (a ^^^ b).toNat = a.toNat ^^^ b.toNat := UInt8.toNat_xor a b
theorem ofInt8 (a : UInt8) : (BitVec.ofInt 8 (a.toNat : Int)).toNat = a.toNat := by
  rw [BitVec.ofInt_natCast, BitVec.toNat_ofNat]; exact Nat.mod_eq_of_lt a.toNat_lt
theorem w_xor8 (a b : UInt8) : bits .xor .u8 (a.toNat : Int) (b.toNat : Int) = ((a ^^^ b).toNat : Int) := by
  show IntKind.u8.wrap ((BitVec.ofInt 8 (a.toNat : Int) ^^^ BitVec.ofInt 8 (b.toNat : Int)).toNat : Int) = _
  rw [BitVec.toNat_xor, ofInt8 a, ofInt8 b, ← xor_u8]
  have := (a ^^^ b).toNat_lt
  rw [IntKind.wrap_u8]; omega
/-- A row of n bytes, of which the first are these, the others 0. -/
def rowB (n : Nat) (l : List UInt8) : Array Value := (Lib.byteCells (l ++ List.replicate (n - l.length) 0)).toArray
theorem rowB_set {n : Nat} {l : List UInt8} (h : l.length < n) (x : UInt8) : (rowB n l).setIfInBounds l.length (.int .u8 x.toNat) = rowB n (l ++ [x]) := by
  apply Array.ext'
  simp only [rowB, Lib.byteCells, Array.toList_setIfInBounds, List.toList_toArray, List.map_append, List.length_append, List.length_singleton, List.map_cons, List.map_nil]
  rw [show n - l.length = (n - (l.length + 1)) + 1 by omega, List.replicate_succ, List.map_cons, List.set_append_right _ _ (by simp)]
  simp
theorem rowB_size {n : Nat} {l : List UInt8} (h : l.length ≤ n) : (rowB n l).size = n := by simp [rowB, Lib.byteCells]; omega
theorem rowB_some {n : Nat} {l : List UInt8} (i : Nat) (h : l.length ≤ n) (hi : i < n) : ∃ v, (rowB n l)[i]? = some v := ⟨_, Array.getElem?_eq_getElem (by rw [rowB_size h]; exact hi)⟩
theorem rowB_full {n : Nat} {l : List UInt8} (h : l.length = n) : rowB n l = (Lib.byteCells l).toArray := by unfold rowB; rw [show n - l.length = 0 by omega]; simp
theorem bytes_one (l : List UInt8) : (Lib.byteCells l).toArray.all (·.oneCell') = true := by
  rw [Array.all_eq_true_iff_forall_mem]
  intro v hv
  exact Lib.byteCells_one _ v (by simpa using hv)
theorem range_snoc {f : Nat → UInt8} {k : Nat} : (List.range (k + 1)).map f = (List.range k).map f ++ [f k] := by rw [List.range_succ]; simp
theorem byteCells_get {l : List UInt8} {j : Nat} (h : j < l.length) : (Lib.byteCells l)[j]? = some (.int .u8 (l.getD j 0).toNat) := by
  simp [Lib.byteCells, h]
theorem bytes_set (l : List UInt8) (k : Nat) (x : UInt8) : (Lib.byteCells l).toArray.setIfInBounds k (.int .u8 x.toNat) = (Lib.byteCells (l.set k x)).toArray := by
  apply Array.ext'
  simp [Lib.byteCells, List.map_set]
theorem bytes_size (l : List UInt8) : (Lib.byteCells l).toArray.size = l.length := by simp [Lib.byteCells]
theorem row_cell {w : World} {N : Nat} {l : List UInt8} {t : TypeId} (h : w.heap[N]? = some (.cells (Lib.byteCells l).toArray t (0, 0))) (k : Nat) (hk : k < l.length) :
    w.cell? ⟨N, k, none⟩ = some (.int .u8 (l.getD k 0).toNat) := cells_of h k _ (by rw [List.getElem?_toArray]; exact byteCells_get hk)
/-- A row of bytes, sliced whole, as a text. -/
theorem conv_row {w : World} {N n : Nat} {l : List UInt8} {t : TypeId} (h : w.heap[N]? = some (.cells (Lib.byteCells l).toArray t (0, 0))) (hn : l.length = n) :
    (convert 127 9 (.slice (some ⟨N, 0, none⟩) n n)).run Tryz.prog w = .ok (.string ⟨l.toArray⟩) w := by
  have e := run_convert_bytes_back (P := Tryz.prog) w 127 9 5 ⟨N, 0, none⟩ n l Tryz.underlying127 Tryz.underlying5 Tryz.underlying9 (fun j hj => by
    have := row_cell h j hj
    rw [List.getD_eq_getElem?_getD, List.getElem?_eq_getElem hj] at this
    rw [Addr.add_mid, Nat.zero_add]
    exact this)
  rw [hn] at e
  exact e
/-- Cells that are set one by one, in a row that is whole. -/
theorem heap_setCells {b : Nat} {t : TypeId} : ∀ (vs : List Value) (o : Nat) (w : World) (cur : Array Value), w.heap[b]? = some (.cells cur t (0, 0)) → o + vs.length ≤ cur.size →
    (w.setCells b o vs).heap[b]? = some (.cells (cur.toList.take o ++ (vs ++ cur.toList.drop (o + vs.length))).toArray t (0, 0))
  | [], o, w, cur, h, _ => by
    rw [World.setCells, h]
    simp
  | v :: vs, o, w, cur, h, hl => by
    have hlc : cur.toList.length = cur.size := by simp
    simp only [List.length_cons] at hl
    have ih := heap_setCells vs (o + 1) (w.setCell ⟨b, o, none⟩ v) (cur.setIfInBounds o v) (heap_set h o v) (by simp; omega)
    rw [World.setCells, ih, Array.toList_setIfInBounds]
    have e1 : (cur.toList.set o v).take (o + 1) = cur.toList.take o ++ [v] := by
      rw [List.take_succ_eq_append_getElem (by simp; omega), List.take_set_of_le (Nat.le_refl _)]
      simp
    have e2 : (cur.toList.set o v).drop (o + 1 + vs.length) = cur.toList.drop (o + (vs.length + 1)) := by
      rw [List.drop_set_of_lt (by omega), show o + 1 + vs.length = o + (vs.length + 1) by omega]
    rw [e1, e2]
    simp
theorem heap_setAll {b : Nat} {t : TypeId} {w : World} {cur : Array Value} {vs : List Value} (h : w.heap[b]? = some (.cells cur t (0, 0))) (hl : cur.size = vs.length) :
    (w.setCells b 0 vs).heap[b]? = some (.cells vs.toArray t (0, 0)) := by
  rw [heap_setCells vs 0 w cur h (by omega), List.drop_of_length_le (by simp; omega)]
  simp
theorem other_setCells {b c : Nat} {t : TypeId} {cur : Array Value} (hn : c ≠ b) : ∀ {vs : List Value} {o : Nat} {w : World}, w.heap[c]? = some (.cells cur t (0, 0)) → (w.setCells b o vs).heap[c]? = some (.cells cur t (0, 0))
  | [], _, _, h => h
  | _ :: vs, o, w, h => other_setCells hn (vs := vs) (o := o + 1) ((Below.heap_setCell w ⟨b, o, none⟩ _ c hn).trans h)
theorem below_setCells {B b : Nat} (hb : B ≤ b) : ∀ (vs : List Value) (o : Nat) {w w' : World}, Below B w w' → Below B w (w'.setCells b o vs)
  | [], _, _, _, h => h
  | _ :: vs, o, _, _, h => below_setCells hb vs (o + 1) (h.setCell (p := ⟨b, o, none⟩) hb _)
theorem there_row {w : World} {b n : Nat} {t : TypeId} {cur : Array Value} (h : w.heap[b]? = some (.cells cur t (0, 0))) (hn : cur.size = n) : w.there b 0 n := fun j hj => by
  rw [Nat.zero_add]
  exact ⟨by rw [cells_of h j _ (Array.getElem?_eq_getElem (by omega))]; rfl, free_of h j⟩
theorem range_row {w : World} {h : Nat} {cs : List Value} {t : TypeId} (hb : w.heap[h]? = some (.cells cs.toArray t (0, 0))) : w.rangeAt h 0 cs := fun j v hv => by
  rw [Nat.zero_add]
  exact cells_of hb j v (by rw [List.getElem?_toArray]; exact hv)
/-- A whole row, loaded under a guard that lets it. -/
theorem wpList_load_row_g {P : Program} {ops : Array Oper} {rest : List Oper} {o : Oper} {a : Act} {w : World} {Q : Exit → Act → World → Prop} (ty : TypeId) (x : Operand) (ho : o.op = .load ty x)
    (g : Nat) (hx : a.eval x = .pointer (some ⟨g, 0, none⟩)) (t : TypeId) (cs : Array Value) (fr : Nat × Nat) (d : TypeDesc) (hg : w.heap[g]? = some (.cells cs t fr))
    (hu : P.underlying ty = some d) (hd : (match d with | .struct _ | .array _ _ => true | _ => false) = true) (hi : (P.info? ty).map (·.size) = some cs.size)
    (h : wpList P ops Q rest (a.put o.dst (.agg cs)) w) (hgd : Region.wanted o (yielded ops a.tmps) = true) : wpList P ops Q (o :: rest) a w :=
  wpList_step fun _ hK => by
    rw [if_pos hgd]
    exact wp_load_row ty x ho g hx t cs fr d hg hu hd hi (hK _ _ h)
def byteOf : Value → UInt8
  | .int _ n => UInt8.ofNat n.toNat
  | _ => 0
theorem byte_wf {n : Int} (h : (Lit.int .u8 n).wf = true) : 0 ≤ n ∧ n ≤ 255 := by
  simp [Lit.wf, IntKind.min, IntKind.max, IntKind.signed, IntKind.bits] at h
  omega
theorem byteOf_back {n : Int} (h : (Lit.int .u8 n).wf = true) : Value.int .u8 n = .int .u8 ((byteOf (.int .u8 n)).toNat : Int) := by
  have hb := byte_wf h
  have e : (UInt8.ofNat n.toNat).toNat = n.toNat := by rw [UInt8.toNat_ofNat']; omega
  rw [byteOf, e, Int.toNat_of_nonneg hb.1]
theorem run_store_row {P : Program} {w : World} {g : Nat} {t : TypeId} {cur : Array Value} (cs : Array Value) (hg : w.heap[g]? = some (.cells cur t (0, 0))) (hl : cs.size = cur.size) (h1 : cs.all (·.oneCell') = true) :
    (storeCells ⟨g, 0, none⟩ cs.toList).run P w = .ok () (w.setRow g cs) := by
  have h := run_storeCells_from (P := P) g t cs.toList 0 cur w hg (by simpa using hl) (fun v hv => by
    rw [Array.all_eq_true_iff_forall_mem] at h1
    exact h1 v (by simpa using hv))
  simpa using h
end Sm
end Go.Proofs.YtiehcplepneajaaGreatDoor

/-
  SHA-256 as plain functions on numbers, and how the walk's own numbers read as these.
-/
namespace Go.Proofs.YtiehcplepneajaaGreatDoor.Sm

def add (a b : Nat) : Nat := (a + b) % 4294967296
def rot (x n : Nat) : Nat := x * 2 ^ (32 - n) % 4294967296 ||| x / 2 ^ n
def comp (x : Nat) : Nat := 4294967295 ^^^ x
def s0 (x : Nat) : Nat := rot x 7 ^^^ rot x 18 ^^^ x / 8
def s1 (x : Nat) : Nat := rot x 17 ^^^ rot x 19 ^^^ x / 1024
def be4 (a b c d : Nat) : Nat := a * 16777216 + b * 65536 + c * 256 + d

theorem add_lt (a b : Nat) : add a b < 4294967296 := Nat.mod_lt _ (by decide)
theorem xor_lt {a b : Nat} (ha : a < 4294967296) (hb : b < 4294967296) : a ^^^ b < 4294967296 := Nat.xor_lt_two_pow (n := 32) ha hb
theorem and_lt {a b : Nat} (hb : b < 4294967296) : a &&& b < 4294967296 := Nat.and_lt_two_pow (n := 32) a hb
theorem or_lt {a b : Nat} (ha : a < 4294967296) (hb : b < 4294967296) : a ||| b < 4294967296 := Nat.or_lt_two_pow (n := 32) ha hb
theorem rot_lt {x n : Nat} (hx : x < 4294967296) : rot x n < 4294967296 := or_lt (Nat.mod_lt _ (by decide)) (Nat.lt_of_le_of_lt (Nat.div_le_self _ _) hx)
theorem comp_lt {x : Nat} (hx : x < 4294967296) : comp x < 4294967296 := xor_lt (by decide) hx
theorem s0_lt {x : Nat} (hx : x < 4294967296) : s0 x < 4294967296 := xor_lt (xor_lt (rot_lt hx) (rot_lt hx)) (by omega)
theorem s1_lt {x : Nat} (hx : x < 4294967296) : s1 x < 4294967296 := xor_lt (xor_lt (rot_lt hx) (rot_lt hx)) (by omega)
theorem be4_lt {a b c d : Nat} (ha : a < 256) (hb : b < 256) (hc : c < 256) (hd : d < 256) : be4 a b c d < 4294967296 := by unfold be4; omega

/- The walk's numbers. -/
theorem w_add (a b : Nat) : IntKind.u32.wrap ((a : Int) + b) = (add a b : Nat) := by rw [IntKind.wrap_u32]; unfold add; omega
theorem w_mul (a b : Nat) : IntKind.u32.wrap ((a : Int) * b) = (a * b % 4294967296 : Nat) := by rw [IntKind.wrap_u32, ← Int.natCast_mul]; omega
theorem ofInt32 (a : Nat) (ha : a < 4294967296) : (BitVec.ofInt 32 (a : Int)).toNat = a := by
  rw [BitVec.ofInt_natCast, BitVec.toNat_ofNat]; exact Nat.mod_eq_of_lt ha
theorem wrap32n (n : Nat) (h : n < 4294967296) : IntKind.u32.wrap (n : Int) = n := by rw [IntKind.wrap_u32]; omega
theorem w_xor {a b : Nat} (ha : a < 4294967296) (hb : b < 4294967296) : bits .xor .u32 (a : Int) (b : Int) = ((a ^^^ b : Nat) : Int) := by
  show IntKind.u32.wrap ((BitVec.ofInt 32 (a : Int) ^^^ BitVec.ofInt 32 (b : Int)).toNat : Int) = _
  rw [BitVec.toNat_xor, ofInt32 a ha, ofInt32 b hb]; exact wrap32n _ (xor_lt ha hb)
theorem w_and {a b : Nat} (ha : a < 4294967296) (hb : b < 4294967296) : bits .and .u32 (a : Int) (b : Int) = ((a &&& b : Nat) : Int) := by
  show IntKind.u32.wrap ((BitVec.ofInt 32 (a : Int) &&& BitVec.ofInt 32 (b : Int)).toNat : Int) = _
  rw [BitVec.toNat_and, ofInt32 a ha, ofInt32 b hb]; exact wrap32n _ (and_lt hb)
theorem w_or {a b : Nat} (ha : a < 4294967296) (hb : b < 4294967296) : bits .or .u32 (a : Int) (b : Int) = ((a ||| b : Nat) : Int) := by
  show IntKind.u32.wrap ((BitVec.ofInt 32 (a : Int) ||| BitVec.ofInt 32 (b : Int)).toNat : Int) = _
  rw [BitVec.toNat_or, ofInt32 a ha, ofInt32 b hb]; exact wrap32n _ (or_lt ha hb)
theorem w_comp {a : Nat} (ha : a < 4294967296) : bits .xor .u32 4294967295 (a : Int) = (comp a : Nat) := w_xor (a := 4294967295) (by decide) ha

theorem or_top (a b i : Nat) (h : b < 2 ^ i) : a * 2 ^ i ||| b = a * 2 ^ i + b := by
  rw [Nat.mul_comm, ← Nat.two_pow_add_eq_or_of_lt h]
theorem be4_or (a b c d : Nat) (_ha : a < 256) (hb : b < 256) (hc : c < 256) (hd : d < 256) :
    ((a * 16777216 ||| b * 65536) ||| c * 256) ||| d = be4 a b c d := by
  have h1 : a * 16777216 ||| b * 65536 = (a * 256 + b) * 65536 := by
    rw [show a * 16777216 = a * 2 ^ 24 by rfl, or_top a (b * 65536) 24 (by omega)]; omega
  have h2 : (a * 256 + b) * 65536 ||| c * 256 = ((a * 256 + b) * 256 + c) * 256 := by
    rw [show (a * 256 + b) * 65536 = (a * 256 + b) * 2 ^ 16 by rfl, or_top _ (c * 256) 16 (by omega)]; omega
  rw [h1, h2, show ((a * 256 + b) * 256 + c) * 256 = ((a * 256 + b) * 256 + c) * 2 ^ 8 by rfl, or_top _ d 8 (by omega)]
  unfold be4; omega

/-- The eight words. -/
structure V where
  a : Nat
  b : Nat
  c : Nat
  d : Nat
  e : Nat
  f : Nat
  g : Nat
  h : Nat
structure V.Ok (v : V) : Prop where
  a : v.a < 4294967296
  b : v.b < 4294967296
  c : v.c < 4294967296
  d : v.d < 4294967296
  e : v.e < 4294967296
  f : v.f < 4294967296
  g : v.g < 4294967296
  h : v.h < 4294967296
def V.l (v : V) : List Nat := [v.a, v.b, v.c, v.d, v.e, v.f, v.g, v.h]

def sum1 (e : Nat) : Nat := rot e 6 ^^^ rot e 11 ^^^ rot e 25
def sum0 (a : Nat) : Nat := rot a 2 ^^^ rot a 13 ^^^ rot a 22
def chs (e f g : Nat) : Nat := (e &&& f) ^^^ (comp e &&& g)
def maj (a b c : Nat) : Nat := (a &&& b) ^^^ (a &&& c) ^^^ (b &&& c)
def t1 (v : V) (k w : Nat) : Nat := add (add (add (add v.h (sum1 v.e)) (chs v.e v.f v.g)) k) w
def t2 (v : V) : Nat := add (sum0 v.a) (maj v.a v.b v.c)
def round (v : V) (k w : Nat) : V := ⟨add (t1 v k w) (t2 v), v.a, v.b, v.c, add v.d (t1 v k w), v.e, v.f, v.g⟩
theorem round_ok {v : V} (h : v.Ok) (k w : Nat) : (round v k w).Ok := ⟨add_lt _ _, h.a, h.b, h.c, add_lt _ _, h.e, h.f, h.g⟩

/-- The words behind the first i rounds. -/
def rounds (v : V) (ks ws : List Nat) : Nat → V
  | 0 => v
  | i + 1 => round (rounds v ks ws i) (ks.getD i 0) (ws.getD i 0)
theorem rounds_ok {v : V} (h : v.Ok) (ks ws : List Nat) (i : Nat) : (rounds v ks ws i).Ok := by
  induction i with
  | zero => exact h
  | succ i ih => exact round_ok ih _ _
def plus (u v : V) : V := ⟨add u.a v.a, add u.b v.b, add u.c v.c, add u.d v.d, add u.e v.e, add u.f v.f, add u.g v.g, add u.h v.h⟩
theorem plus_ok (u v : V) : (plus u v).Ok := ⟨add_lt _ _, add_lt _ _, add_lt _ _, add_lt _ _, add_lt _ _, add_lt _ _, add_lt _ _, add_lt _ _⟩

/-- The i-th word of a block. -/
def word (b : List UInt8) (i : Nat) : Nat := be4 (b.getD (4 * i) 0).toNat (b.getD (4 * i + 1) 0).toNat (b.getD (4 * i + 2) 0).toNat (b.getD (4 * i + 3) 0).toNat
theorem word_lt (b : List UInt8) (i : Nat) : word b i < 4294967296 := be4_lt (UInt8.toNat_lt _) (UInt8.toNat_lt _) (UInt8.toNat_lt _) (UInt8.toNat_lt _)
def next (l : List Nat) : Nat := add (add (add (l.getD (l.length - 16) 0) (s0 (l.getD (l.length - 15) 0))) (l.getD (l.length - 7) 0)) (s1 (l.getD (l.length - 2) 0))
/-- The first words of the 64: n behind the 16. -/
def words (b : List UInt8) : Nat → List Nat
  | 0 => (List.range 16).map (word b)
  | n + 1 => words b n ++ [next (words b n)]
theorem words_length (b : List UInt8) (n : Nat) : (words b n).length = 16 + n := by
  induction n with
  | zero => simp [words]
  | succ n ih => simp [words, ih]; omega
theorem words_lt (b : List UInt8) (n : Nat) : ∀ x ∈ words b n, x < 4294967296 := by
  induction n with
  | zero => intro x hx; obtain ⟨i, _, rfl⟩ := List.mem_map.1 hx; exact word_lt b i
  | succ n ih =>
    intro x hx
    rcases List.mem_append.1 hx with h | h
    · exact ih x h
    · simp at h; subst h; exact add_lt _ _
theorem getD_lt {l : List Nat} (h : ∀ x ∈ l, x < 4294967296) (i : Nat) : l.getD i 0 < 4294967296 := by
  rw [List.getD_eq_getElem?_getD]
  cases hq : l[i]? with
  | none => decide
  | some x => exact h x (List.mem_of_getElem? hq)

def ks : List Nat := [1116352408, 1899447441, 3049323471, 3921009573, 961987163, 1508970993, 2453635748, 2870763221, 3624381080, 310598401, 607225278, 1426881987, 1925078388, 2162078206, 2614888103, 3248222580, 3835390401, 4022224774, 264347078, 604807628, 770255983, 1249150122, 1555081692, 1996064986, 2554220882, 2821834349, 2952996808, 3210313671, 3336571891, 3584528711, 113926993, 338241895, 666307205, 773529912, 1294757372, 1396182291, 1695183700, 1986661051, 2177026350, 2456956037, 2730485921, 2820302411, 3259730800, 3345764771, 3516065817, 3600352804, 4094571909, 275423344, 430227734, 506948616, 659060556, 883997877, 958139571, 1322822218, 1537002063, 1747873779, 1955562222, 2024104815, 2227730452, 2361852424, 2428436474, 2756734187, 3204031479, 3329325298]
def h0 : V := ⟨1779033703, 3144134277, 1013904242, 2773480762, 1359893119, 2600822924, 528734635, 1541459225⟩
theorem h0_ok : h0.Ok := ⟨by decide, by decide, by decide, by decide, by decide, by decide, by decide, by decide⟩
theorem ks_length : ks.length = 64 := by decide
theorem ks_lt : ∀ x ∈ ks, x < 4294967296 := by decide

/-- The words behind a block. -/
def turn (v : V) (b : List UInt8) : V := plus (rounds v ks (words b 48) 64) v
theorem turn_ok (v : V) (b : List UInt8) : (turn v b).Ok := plus_ok _ _

/-- The words behind n blocks of a text. -/
def feed (v : V) : Nat → List UInt8 → V
  | 0, _ => v
  | n + 1, t => feed (turn v (t.take 64)) n (t.drop 64)
theorem feed_ok {v : V} (h : v.Ok) (n : Nat) (t : List UInt8) : (feed v n t).Ok := by
  induction n generalizing v t with
  | zero => exact h
  | succ n ih => exact ih (turn_ok _ _) _
/-- The words behind all whole blocks of a text. -/
def st (t : List UInt8) : V := feed h0 (t.length / 64) t
theorem st_ok (t : List UInt8) : (st t).Ok := feed_ok h0_ok _ _
/-- What waits. -/
def tail (t : List UInt8) : List UInt8 := t.drop (64 * (t.length / 64))
theorem tail_length (t : List UInt8) : (tail t).length = t.length % 64 := by unfold tail; rw [List.length_drop]; omega

theorem feed_append (v : V) (n : Nat) (t p : List UInt8) (h : 64 * n ≤ t.length) : feed v n (t ++ p) = feed v n t := by
  induction n generalizing v t with
  | zero => rfl
  | succ n ih =>
    unfold feed
    rw [List.take_append_of_le_length (by omega), List.drop_append_of_le_length (by omega)]
    exact ih _ _ (by rw [List.length_drop]; omega)
theorem feed_snoc (v : V) (n : Nat) (t : List UInt8) : feed v (n + 1) t = turn (feed v n t) ((t.drop (64 * n)).take 64) := by
  induction n generalizing v t with
  | zero => simp [feed]
  | succ n ih =>
    rw [feed, ih]
    rw [show feed v (n + 1) t = feed (turn v (t.take 64)) n (t.drop 64) from rfl, List.drop_drop, show 64 + 64 * n = 64 * (n + 1) by omega]

theorem st_short (t p : List UInt8) (h : t.length % 64 + p.length < 64) : st (t ++ p) = st t ∧ tail (t ++ p) = tail t ++ p := by
  have e : (t ++ p).length / 64 = t.length / 64 := by rw [List.length_append]; omega
  unfold st tail
  rw [e]
  exact ⟨feed_append _ _ _ _ (by omega), List.drop_append_of_le_length (by omega)⟩
theorem st_full (t p : List UInt8) (h : t.length % 64 + p.length = 64) : st (t ++ p) = turn (st t) (tail t ++ p) ∧ tail (t ++ p) = [] := by
  have e : (t ++ p).length / 64 = t.length / 64 + 1 := by rw [List.length_append]; omega
  unfold st tail
  rw [e]
  constructor
  · rw [feed_snoc, feed_append _ _ _ _ (by omega), List.drop_append_of_le_length (by omega), List.take_of_length_le (by rw [List.length_append, List.length_drop]; omega)]
  · exact List.drop_of_length_le (by rw [List.length_append]; omega)

def be8 (n : Nat) : List UInt8 := (List.range 8).map fun i => UInt8.ofNat (n / 2 ^ (56 - 8 * i))
/-- What is put behind a text of n bytes. -/
def pad (n : Nat) : List UInt8 := 128 :: (List.replicate ((119 - n % 64) % 64) 0 ++ be8 (n * 8))
theorem pad_length (n : Nat) : (pad n).length = (119 - n % 64) % 64 + 9 := by simp [pad, be8]
/-- A hash's bytes. -/
def outN (l : List Nat) : List UInt8 := (List.range 32).map fun i => UInt8.ofNat (l.getD (i / 4) 0 / 2 ^ (24 - i % 4 * 8))
def sum (t : List UInt8) : List UInt8 := outN (st (t ++ pad t.length)).l
theorem sum_length (t : List UInt8) : (sum t).length = 32 := by simp [sum, outN]

def digit (n : Nat) : UInt8 := UInt8.ofNat (if n < 10 then 48 + n else 87 + n)
def digits : List UInt8 → List UInt8
  | [] => []
  | c :: l => digit (c.toNat / 16) :: digit (c.toNat % 16) :: digits l
end Go.Proofs.YtiehcplepneajaaGreatDoor.Sm

/-
  Two rows of bytes, compared.
-/
namespace Go.Proofs.YtiehcplepneajaaGreatDoor
open Go.RowKit
namespace Sm
theorem part_byte (l : List UInt8) (i : Nat) (hi : i < l.length) (w : World) : (part 5 (Lib.byteCells l).toArray i).run Tryz.prog w = .ok (.int .u8 (l.getD i 0).toNat) w := by
  have ha : (isAgg 5).run Tryz.prog w = .ok false w := by kernel_rfl
  have hc : (Lib.byteCells l)[i]? = some (.int .u8 (l.getD i 0).toNat) := byteCells_get hi
  simp [part, ha, hc]
theorem eqItems_bytes (d : Nat) (l l' : List UInt8) (w : World) : ∀ is : List Nat, (∀ i ∈ is, i < l.length ∧ i < l'.length) →
    (Op.eqItems (d + 1) 5 1 (Lib.byteCells l).toArray (Lib.byteCells l').toArray is).run Tryz.prog w = .ok (is.all fun i => l.getD i 0 == l'.getD i 0) w
  | [], _ => by simp [Op.eqItems]
  | i :: is, h => by
    have h0 := h i (by simp)
    have ih := eqItems_bytes d l l' w is (fun j hj => h j (by simp [hj]))
    have e : ((((l.getD i 0).toNat : Nat) : Int) == ((l'.getD i 0).toNat : Nat)) = (l.getD i 0 == l'.getD i 0) := by
      rw [Bool.eq_iff_iff, beq_iff_eq, beq_iff_eq]
      exact ⟨fun h => UInt8.toNat_inj.1 (by omega), fun h => by rw [h]⟩
    simp only [Op.eqItems, Sem.run_bind, Nat.mul_one, part_byte l i h0.1, part_byte l' i h0.2, Result.andThen_ok, run_equalIn_int w d 5 .u8 .u8 _ _ Tryz.underlying5, e]
    cases hb : l.getD i 0 == l'.getD i 0
    · simp only [Bool.not_false, if_true, Sem.run_pure, List.all_cons, hb, Bool.false_and]
    · simp only [Bool.not_true, Bool.false_eq_true, if_false, List.all_cons, hb, Bool.true_and]
      exact ih
theorem all_eq (n : Nat) (l l' : List UInt8) (h : l.length = n) (h' : l'.length = n) : ((List.range n).all fun i => l.getD i 0 == l'.getD i 0) = (l == l') := by
  rw [Bool.eq_iff_iff, List.all_eq_true, beq_iff_eq]
  constructor
  · intro hi
    apply List.ext_getElem (by omega)
    intro i h1 h2
    have := hi i (List.mem_range.2 (by omega))
    rw [beq_iff_eq] at this
    simpa [List.getD_eq_getElem?_getD, h1, h2] using this
  · rintro rfl i _
    simp
/-- Two rows of n bytes, compared. -/
theorem eq_row (n : Nat) {t : TypeId} (ht : Tryz.prog.underlying t = some (.array n 5)) (l l' : List UInt8) (h : l.length = n) (h' : l'.length = n) (w : World) :
    (Op.equalIn 10000 t (.agg (Lib.byteCells l).toArray) (.agg (Lib.byteCells l').toArray)).run Tryz.prog w = .ok (l == l') w := by
  have hc : Tryz.prog.cellsOf 5 = 1 := by kernel_rfl
  obtain ⟨i0, hi, _, _, _⟩ := info_parts info3_u8
  have e := run_equalIn_array (P := Tryz.prog) (w := w) 9999 (Lib.byteCells l).toArray (Lib.byteCells l').toArray ht hi
  rw [e, hc, eqItems_bytes 9998 l l' w (List.range n) (fun i hi => by have := List.mem_range.1 hi; omega), all_eq n l l' h h']
end Sm
end Go.Proofs.YtiehcplepneajaaGreatDoor

/-
  A row of bytes that came of a conversion of a text, and grows: its mark behind the last cell does no harm.
-/
namespace Go.Proofs.YtiehcplepneajaaGreatDoor
open Go.RowKit
namespace Sm
/-- A slice of just these bytes, in a block from B on. -/
def RowB (w : World) (B : Nat) (v : Value) (xs : List UInt8) : Prop :=
  ∃ g cap cur lo hi, v = .slice (some ⟨g, 0, none⟩) xs.length cap ∧ B ≤ g ∧ w.heap[g]? = some (.cells cur 5 (lo, hi)) ∧ xs.length ≤ cap ∧ cur.size = cap ∧ (hi = 0 ∨ cap ≤ lo) ∧ ∀ j, j < xs.length → cur[j]? = some (.int .u8 (xs.getD j 0).toNat)
theorem RowB.low {w w' : World} {B C : Nat} {v : Value} {xs : List UInt8} (h : RowB w B v xs) (k : Below C w w') (hC : w.heap.size ≤ C) : RowB w' B v xs := by
  obtain ⟨g, cap, cur, lo, hi, h1, h2, h3, h4⟩ := h
  exact ⟨g, cap, cur, lo, hi, h1, h2, (k.block g (Nat.lt_of_lt_of_le (lt_of h3) hC)).trans h3, h4⟩
theorem bytesCells_size (w : World) (s : ByteArray) : (Lib.bytesCells w 5 s).size = grownCap w s.size 0 5 := by
  have := grownCap_ge w s.size 0 5
  have e : s.data.size = s.size := rfl
  simp [Lib.bytesCells, e]; omega
theorem conv_rowB (w : World) (s : ByteArray) : (convert 9 127 (.string s)).run Tryz.prog w = .ok (.slice (some ⟨w.heap.size, 0, none⟩) s.size (grownCap w s.size 0 5)) (Lib.bytesWorld w 5 s) ∧
    RowB (Lib.bytesWorld w 5 s) w.heap.size (.slice (some ⟨w.heap.size, 0, none⟩) s.size (grownCap w s.size 0 5)) s.data.toList ∧ Below w.heap.size w (Lib.bytesWorld w 5 s) := by
  refine ⟨Lib.run_convert_string_bytes w _ _ _ s Tryz.underlying9 Tryz.underlying127 Tryz.underlying5, ?_, ?_⟩
  · refine ⟨w.heap.size, _, _, _, _, rfl, Nat.le_refl _, Lib.bytesWorld_at_new w _ s, grownCap_ge w s.size 0 _, bytesCells_size w s, .inr (by rw [bytesCells_size]; exact Nat.le_refl _), fun j hj => ?_⟩
    have h := Lib.bytesWorld_cell w 5 s j hj
    simpa [World.cell?, Lib.bytesWorld_at_new] using h
  · exact ⟨by simp [Lib.bytesWorld, World.freeze, World.alloc, World.drew, -World.alloc_eq, -World.drew_eq], by simp [Lib.bytesWorld, World.freeze, World.alloc, World.drew, -World.alloc_eq, -World.drew_eq], by simp [Lib.bytesWorld, World.freeze, World.alloc, World.drew, -World.alloc_eq, -World.drew_eq], by rw [Lib.bytesWorld_size]; omega, fun k hk => Lib.bytesWorld_at_old w _ s k hk⟩
theorem run_append_byte {w : World} {B : Nat} {v : Value} {xs : List UInt8} (h : RowB w B v xs) (ty : TypeId) (x : UInt8) (N : Nat) (hx : w.cell? ⟨N, 0, none⟩ = some (.int .u8 x.toNat)) (hl : xs.length ≤ 70368744177664) (hB : B ≤ w.heap.size) :
    ∃ v' w', (Builtin.append_ #[127, 127] ty #[v, .slice (some ⟨N, 0, none⟩) 1 1]).run Tryz.prog w = .ok v' w' ∧ RowB w' B v' (xs ++ [x]) ∧ Below B w w' := by
  obtain ⟨i0, hi, hz0, hz1, hz2⟩ := info_parts info3_u8
  obtain ⟨g, cap, cur, lo, hh, rfl, hg, hrow, hle, hcs, hfr, hcell⟩ := h
  have hnews : ∀ j u, [Value.int .u8 (x.toNat : Int)][j]? = some u → w.cell? ((⟨N, 0, none⟩ : Addr).add j) = some u := by
    intro j u hj
    match j, hj with
    | 0, hj => simp at hj; subst hj; rw [Addr.add_mid]; exact hx
  have hone : ∀ u ∈ [Value.int .u8 (x.toNat : Int)], u.oneCell' = true := by intro u hu; simp at hu; subst hu; rfl
  by_cases hr : xs.length + 1 ≤ cap
  · have hfz : ∀ j, j < cap → w.frozen? ⟨g, j, none⟩ = false := fun j hj => by
      simp only [World.frozen?, hrow]
      rcases hfr with h | h
      · subst h; simp
      · simp; omega
    have hrun := run_append_room_cells (P := Tryz.prog) w 127 ty 5 i0 Tryz.underlying127 hi g 0 xs.length cap ⟨N, 0, none⟩ 1 1 [.int .u8 (x.toNat : Int)] (by rw [hz1]; rfl) hnews hone hr
      (fun j hj => by
        have : j = 0 := by simpa using hj
        subst this
        have e : cur[xs.length]? = some cur[xs.length] := Array.getElem?_eq_getElem (by omega)
        rw [hz1]; simp [World.cell?, hrow, e])
      (fun j hj => by
        have : j = 0 := by simpa using hj
        subst this
        rw [hz1]; simpa using hfz xs.length (by omega))
    rw [hz1] at hrun
    refine ⟨_, _, hrun, ?_, ?_⟩
    · refine ⟨g, cap, cur.setIfInBounds xs.length (.int .u8 x.toNat), lo, hh, by rw [List.length_append]; rfl, hg, ?_, by rw [List.length_append]; exact hr, by rw [Array.size_setIfInBounds]; exact hcs, hfr, fun j hj => ?_⟩
      · simp [World.setCells, World.setCell, Array.getElem?_modify, hrow]
      · rw [List.length_append, List.length_singleton] at hj
        by_cases hjn : j = xs.length
        · subst hjn
          rw [Array.getElem?_setIfInBounds_self_of_lt (by omega)]
          simp [List.getD_eq_getElem?_getD]
        · rw [Array.getElem?_setIfInBounds_ne (by omega), hcell j (by omega)]
          simp [List.getD_eq_getElem?_getD, List.getElem?_append_left (show j < xs.length by omega)]
    · exact (Below.refl B w).setCell (p := ⟨g, 0 + xs.length * 1, none⟩) hg _
  · have holds : ∀ j u, (Lib.byteCells xs)[j]? = some u → w.cell? ((⟨g, 0, none⟩ : Addr).add j) = some u := by
      intro j u hj
      have hj2 : j < xs.length := by
        have := (List.getElem?_eq_some_iff.1 hj).1
        rwa [Lib.byteCells_length] at this
      rw [byteCells_get hj2] at hj
      rw [Addr.add_mid, Nat.zero_add]
      simp only [World.cell?, hrow]
      rw [hcell j hj2]; exact hj
    obtain ⟨v', w', hrun, ho, hgr⟩ := run_append_arg_grows (P := Tryz.prog) w 127 ty 5 i0 (.int .u8 0) 1 1 Tryz.underlying127 hi hz0 hz1 hz2 rfl (by decide) ⟨g, 0, none⟩ xs.length cap (Lib.byteCells xs)
      (by rw [Lib.byteCells_length]; omega) holds ⟨N, 0, none⟩ 1 1 [.int .u8 (x.toNat : Int)] rfl hnews (by omega) (by unfold maxLen; omega) (by omega)
    refine ⟨v', w', hrun, ?_, (Below.refl B w).grown hgr hB (fun k hk => by cases hk)⟩
    rcases ho.2 with ⟨_, hn⟩ | ⟨g2, cap2, cur2, rfl, hg2, hh2, hn2, hc2, hs2, ht2⟩
    · omega
    · refine ⟨g2, cap2, cur2, 0, 0, by rw [List.length_append]; rfl, by omega, hh2, by rw [List.length_append]; exact hn2, by omega, .inl rfl, fun j hj => ?_⟩
      rw [List.length_append, List.length_singleton] at hj
      have e : cur2.toList.take ((xs.length + 1) * 1) = Lib.byteCells (xs ++ [x]) := by rw [ht2, Lib.byteCells_append]; rfl
      have e2 := congrArg (fun l => l[j]?) e
      simp only [List.getElem?_take] at e2
      rw [if_pos (by omega), byteCells_get (by rw [List.length_append]; exact hj)] at e2
      rw [← e2]; simp
theorem wpList_append_byte {w : World} {ops : Array Oper} {rest : List Oper} {o : Oper} {a : Act} {Q : Exit → Act → World → Prop} (hgd : o.guard = none) (s y : Operand)
    (ho : o.op = .call { callee := .builtin .append, args := #[s, y], argTypes := #[127, 127] }) {B : Nat} (v : Value) (xs : List UInt8) (hs : a.eval s = v) (h : RowB w B v xs) (x : UInt8) (N : Nat)
    (hy : a.eval y = .slice (some ⟨N, 0, none⟩) 1 1) (hx : w.cell? ⟨N, 0, none⟩ = some (.int .u8 x.toNat)) (hl : xs.length ≤ 70368744177664) (hB : B ≤ w.heap.size)
    (K : ∀ v' w', RowB w' B v' (xs ++ [x]) → Below B w w' → wpList Tryz.prog ops Q rest (a.put o.dst v') w') : wpList Tryz.prog ops Q (o :: rest) a w := by
  refine wpList_plain hgd fun L hL => ?_
  obtain ⟨v', w', hrun, h1, h2⟩ := run_append_byte h o.type x N hx hl hB
  unfold Oper.wp execOp
  simp only [ho, resolve, invoke, builtin, Sem.run_bind, Sem.run_pure, Result.andThen_ok, List.map_toArray, List.map_cons, List.map_nil, hs, hy, hrun]
  exact hL _ _ (K v' w' h1 h2)
end Sm
end Go.Proofs.YtiehcplepneajaaGreatDoor

/-
  append, onto a slice that is owned, as one step of a region that draws.
-/
namespace Go.Proofs.YtiehcplepneajaaGreatDoor
open Go.RowKit
namespace Sm
/-- What a slice that is owned looks like. -/
theorem own_shape {w : World} {B e size : Nat} {v : Value} {n : Nat} {xs : List Value} (h : w.ownsRow B e size v n xs) : ∃ A c, v = .slice A n c := by
  rcases h.2 with ⟨rfl, rfl⟩ | ⟨g, cap, cur, rfl, _⟩
  · exact ⟨none, 0, rfl⟩
  · exact ⟨_, cap, rfl⟩

/-- append, onto a slice that is owned, as one step of a region that draws. -/
theorem step_append_own {P : Program} {ops : Array Oper} {o : Oper} {a : Act} {w : World} {K : Act → World → Prop} {Q : Exit → Act → World → Prop} {E : Prop}
    (hgd : o.guard = none) (s x : Operand) (t : TypeId)
    (ho : o.op = .call { callee := .builtin .append, args := #[s, x], argTypes := #[t, t] })
    (base : Nat) (e : TypeId) (i : TypeInfo) (z : Value) (size bytes : Nat) (ht : P.underlying t = some (.slice e)) (hi : P.info? e = some i) (hz : i.zero = some z)
    (hsize : i.size = size) (hby : i.bytes = bytes) (hzs : z.cells.size = size) (hsz : 0 < size)
    (v : Value) (n : Nat) (xs : List Value) (hs : a.eval s = v) (hown : w.ownsRow base e size v n xs)
    (ad : Addr) (m c : Nat) (news : List Value) (hx : a.eval x = .slice (some ad) m c) (hl : news.length = m * size) (hnews : ∀ j u, news[j]? = some u → w.cell? (ad.add j) = some u) (h1 : ∀ u ∈ news, u.oneCell' = true)
    (h63 : n + m ≤ maxLen) (hbytes : (n + m) * bytes ≤ 140737488355328) (hbase : base ≤ w.heap.size)
    (h : ∀ A' c' w', w'.ownsRow base e size (.slice A' (n + m) c') (n + m) (xs ++ news) → w.grownBy w' v.ownBlock → K (a.put o.dst (.slice A' (n + m) c')) w') :
    if Region.wanted o (yielded ops a.tmps) = true then Oper.wp P o a w K Q else E := by
  rw [if_pos (by simp [Region.wanted, hgd])]
  refine wp_append_own w s x t ho base e i z size bytes ht hi hz hsize hby hzs hsz v n xs hs hown ad m c news hx hl hnews h1 h63 hbytes hbase ?_
  intro v' w' h2 h3 _
  obtain ⟨A', c', rfl⟩ := own_shape h2
  exact h A' c' w' h2 h3
end Sm
end Go.Proofs.YtiehcplepneajaaGreatDoor

/-
  An argument of n bytes by value, opened.
-/
namespace Go.Proofs.YtiehcplepneajaaGreatDoor
open Go.ChangeShapes Go.WideShapes Go.ChangeAt Go.RowKit
namespace Sm
set_option maxRecDepth 100000 in
theorem open_row {H : Type} {enc : TypeId × Value → H} {W : World} {sp : Nat → Bool} {held : Bool} {b0 : Nat} {r : Reach} {t : TypeId} {v : Value} {d : DataW H} {ps : List MemPlace} (n : Nat)
    (ht : Tryz.prog.underlying t = some (.array n 5)) (hc1 : Tryz.prog.cellsOf 5 = 1) (hc : Tryz.prog.cellsOf t = n) (hval : Value.okWide Tryz.prog W r b0 t v) (h : DataW.Trod enc Tryz.prog W 0 sp held t v d ps) :
    ∃ l : List UInt8, l.length = n ∧ v = .agg (Lib.byteCells l).toArray := by
  have hv : ∃ cs : Array Value, v = .agg cs ∧ cs.size = n := by
    unfold Value.okWide at hval
    rw [ht] at hval
    obtain ⟨cs, h1, h2, _⟩ := hval
    exact ⟨cs, h1, by rw [h2, hc]⟩
  obtain ⟨cs, rfl, hcs⟩ := hv
  obtain ⟨fuel, hf⟩ := h
  obtain ⟨xs, m, _, _, _, hxl, hx⟩ := DataW.trod_array ht hf
  refine ⟨cs.toList.map byteOf, by simp [hcs], ?_⟩
  refine congrArg Value.agg ?_
  apply Array.ext'
  rw [List.toList_toArray, Lib.byteCells, List.map_map]
  apply List.ext_getElem (by simp)
  intro i h1 h2
  have hi : i < n := by rw [← hcs]; simpa using h1
  have h3 := hx i hi
  rw [hc1, Nat.mul_one, List.getElem?_eq_getElem (by omega)] at h3
  have e : (cs.toList.drop i).take 1 = [cs.toList[i]] := by
    rw [List.drop_eq_getElem_cons h1]; rfl
  have h3b : DataW.trod enc Tryz.prog W 0 sp held m 5 ((cs.toList.drop i).take 1) = some xs[i] := h3
  rw [e] at h3b
  obtain ⟨k, hk, _, hw⟩ := DataW.trod_int Tryz.underlying5 h3b
  have hk1 : cs.toList[i] = .int .u8 k := by simpa using hk
  rw [List.getElem_map, Function.comp, hk1]
  exact byteOf_back hw
section
variable {H : Type} {enc : TypeId × Value → H} {P : Program} {w : World} {base : Nat} {spare : Nat → Bool} {held : Bool}
theorem trodAll_five {t t' t'' t3 t4 : TypeId} {args : Array Value} {ds : List (DataW H)} {ps : List MemPlace} (h : DataW.TrodAll enc P w base spare held [t, t', t'', t3, t4] args.toList ds ps) :
    ∃ v v' v'' v3 v4 d d' d'' d3 d4 p p' p'' p3 p4, args = #[v, v', v'', v3, v4] ∧ ds = [d, d', d'', d3, d4] ∧ ps = p ++ p' ++ p'' ++ p3 ++ p4 ∧ DataW.Trod enc P w base spare held t v d p ∧ DataW.Trod enc P w base spare held t' v' d' p' ∧ DataW.Trod enc P w base spare held t'' v'' d'' p'' ∧ DataW.Trod enc P w base spare held t3 v3 d3 p3 ∧ DataW.Trod enc P w base spare held t4 v4 d4 p4 := by
  obtain ⟨v, vs, d, ds', p, q, hargs, rfl, rfl, hd, hrest⟩ := trodAll_cons h
  obtain ⟨v', vs', d', ds2, p', q', rfl, rfl, rfl, hd', hrest'⟩ := trodAll_cons hrest
  obtain ⟨v'', vs'', d'', dsx, p'', q'', rfl, rfl, rfl, hd'', hrest''⟩ := trodAll_cons hrest'
  obtain ⟨v3, vs3, d3, ds3, p3, q3, rfl, rfl, rfl, hd3, hrest3⟩ := trodAll_cons hrest''
  obtain ⟨v4, vs4, d4, ds4, p4, q4, rfl, rfl, rfl, hd4, hrest4⟩ := trodAll_cons hrest3
  obtain ⟨rfl, rfl, rfl⟩ := trodAll_nil hrest4
  exact ⟨v, v', v'', v3, v4, d, d', d'', d3, d4, p, p', p'', p3, p4, by cases args; simp_all, rfl, by simp, hd, hd', hd'', hd3, hd4⟩
theorem trodAll_mk5 {t t' t'' t3 t4 : TypeId} {v v' v'' v3 v4 : Value} {d d' d'' d3 d4 : DataW H} {p p' p'' p3 p4 : List MemPlace} (h : DataW.Trod enc P w base spare held t v d p) (h' : DataW.Trod enc P w base spare held t' v' d' p')
    (h'' : DataW.Trod enc P w base spare held t'' v'' d'' p'') (h3 : DataW.Trod enc P w base spare held t3 v3 d3 p3) (h4 : DataW.Trod enc P w base spare held t4 v4 d4 p4) :
    DataW.TrodAll enc P w base spare held [t, t', t'', t3, t4] [v, v', v'', v3, v4] [d, d', d'', d3, d4] (p ++ (p' ++ (p'' ++ (p3 ++ p4)))) := ⟨p, p' ++ (p'' ++ (p3 ++ p4)), h, trodAll_mk4 h' h'' h3 h4, rfl⟩
end
end Sm
end Go.Proofs.YtiehcplepneajaaGreatDoor

/-
  Plain facts on how a number is written and read again: lists of bytes and natural numbers alone, no program.
-/
namespace Go.Proofs.YtiehcplepneajaaGreatDoor.Pk

/-- What a number's reading tells, with x read out of k bytes so far: the number, how many bytes, the error (0, 7: too short, 8: no form). -/
def dec (x k : Nat) : List UInt8 → Nat × Nat × Nat
  | [] => if k < 10 then (0, 0, 7) else (0, 0, 8)
  | b :: r => if k < 10 then
      (if 127 < b.toNat then dec (x + b.toNat % 128 * 2 ^ (7 * k)) (k + 1) r
       else if (0 < k ∧ b.toNat = 0) ∨ (k = 9 ∧ 1 < b.toNat) then (0, 0, 8)
       else (x + b.toNat * 2 ^ (7 * k), k + 1, 0))
    else (0, 0, 8)

/-- A number's bytes. -/
def enc (n : Nat) : List UInt8 := if 127 < n then UInt8.ofNat (n % 128 + 128) :: enc (n / 128) else [UInt8.ofNat n]
termination_by n
decreasing_by omega

theorem dec_ten (x : Nat) (l : List UInt8) : dec x 10 l = (0, 0, 8) := by cases l <;> simp [dec]

theorem enc_small {n : Nat} (h : ¬ 127 < n) : enc n = [UInt8.ofNat n] := by rw [enc, if_neg h]
theorem enc_big {n : Nat} (h : 127 < n) : enc n = UInt8.ofNat (n % 128 + 128) :: enc (n / 128) := by rw [enc, if_pos h]

theorem ofNat_toNat {n : Nat} (h : n < 256) : (UInt8.ofNat n).toNat = n := by
  rw [UInt8.toNat_ofNat']; exact Nat.mod_eq_of_lt h

theorem enc_ne (n : Nat) : enc n ≠ [] := by rw [enc]; split <;> simp

theorem pow_step (k : Nat) : 2 ^ (7 * (k + 1)) = 128 * 2 ^ (7 * k) := by
  rw [Nat.mul_add, Nat.pow_add]; omega

theorem pow_le {k m : Nat} (h : m ≤ k) : 2 ^ (7 * m) ≤ 2 ^ (7 * k) := Nat.pow_le_pow_right (by decide) (by omega)

theorem k_lt (k n : Nat) (h1 : 128 ≤ n) (h : n * 2 ^ (7 * k) < 2 ^ 64) : k < 9 := by
  rcases Nat.lt_or_ge k 9 with h' | h'
  · exact h'
  · have h2 := pow_le h'
    have h3 : 128 * 2 ^ (7 * k) ≤ n * 2 ^ (7 * k) := Nat.mul_le_mul_right _ h1
    have h4 : 128 * 2 ^ (7 * 9) ≤ 128 * 2 ^ (7 * k) := Nat.mul_le_mul_left _ h2
    omega

theorem one_of_nine (k n : Nat) (h : n * 2 ^ (7 * k) < 2 ^ 64) (hk : k = 9) : ¬ 1 < n := by
  subst hk; omega

theorem split_low (n P : Nat) : n % 128 * P + n / 128 * (128 * P) = n * P := by
  have h := Nat.mod_add_div n 128
  have e : n / 128 * (128 * P) = (128 * (n / 128)) * P := by
    rw [← Nat.mul_assoc, Nat.mul_comm (n / 128) 128]
  rw [e, ← Nat.add_mul, h]

theorem high_le (n P : Nat) : n / 128 * (128 * P) ≤ n * P := by
  have := split_low n P; omega

theorem room_of (k : Nat) (h : k ≤ 8) : 2 ^ 64 = 2 ^ (57 - 7 * k) * (128 * 2 ^ (7 * k)) := by
  have e : 128 * 2 ^ (7 * k) = 2 ^ (7 + 7 * k) := by rw [Nat.pow_add]
  rw [e, ← Nat.pow_add]
  congr 1
  omega

theorem roomy (n Q D : Nat) (h : n * D < Q * D) : n * D + D ≤ Q * D := by
  have h1 : n < Q := Nat.lt_of_mul_lt_mul_right h
  have h2 : (n + 1) * D ≤ Q * D := Nat.mul_le_mul_right _ h1
  rw [Nat.add_mul, Nat.one_mul] at h2
  exact h2

theorem dec_enc (n : Nat) : ∀ (x k : Nat) (r : List UInt8), n * 2 ^ (7 * k) < 2 ^ 64 → (0 < k → 0 < n) → k < 10 →
    dec x k (enc n ++ r) = (x + n * 2 ^ (7 * k), k + (enc n).length, 0) := by
  induction n using Nat.strongRecOn with
  | ind n ih =>
    intro x k r h hp hk
    by_cases hn : 127 < n
    · rw [enc_big hn]
      have hk9 := k_lt k n (by omega) h
      have ht : (UInt8.ofNat (n % 128 + 128)).toNat = n % 128 + 128 := ofNat_toNat (by omega)
      have hm : (n % 128 + 128) % 128 = n % 128 := by omega
      rw [List.cons_append, dec, if_pos hk, ht, if_pos (by omega), hm]
      rw [ih (n / 128) (by omega) _ _ r (by rw [pow_step]; exact Nat.lt_of_le_of_lt (high_le n _) h) (fun _ => by omega) (by omega)]
      have := split_low n (2 ^ (7 * k))
      rw [pow_step, List.length_cons, Nat.add_assoc, this]
      simp; omega
    · rw [enc_small hn]
      have ht : (UInt8.ofNat n).toNat = n := ofNat_toNat (by omega)
      have h1 := one_of_nine k n h
      rw [List.cons_append, dec, if_pos hk, ht, if_neg hn, if_neg (by omega)]
      simp

theorem dec_cut (n : Nat) : ∀ (x k j : Nat), n * 2 ^ (7 * k) < 2 ^ 64 → k < 10 → j < (enc n).length →
    dec x k ((enc n).take j) = (0, 0, 7) := by
  induction n using Nat.strongRecOn with
  | ind n ih =>
    intro x k j h hk hj
    cases j with
    | zero => simp [dec, hk]
    | succ j =>
      by_cases hn : 127 < n
      · rw [enc_big hn] at hj ⊢
        have hk9 := k_lt k n (by omega) h
        have ht : (UInt8.ofNat (n % 128 + 128)).toNat = n % 128 + 128 := ofNat_toNat (by omega)
        rw [List.take_succ_cons, dec, if_pos hk, ht, if_pos (by omega)]
        exact ih (n / 128) (by omega) _ _ j (by rw [pow_step]; exact Nat.lt_of_le_of_lt (high_le n _) h) (by omega) (by simpa using hj)
      · rw [enc_small hn] at hj; simp at hj

/-- What is told without an error: the bytes are a number's. -/
theorem dec_inv (l : List UInt8) : ∀ (x k v s : Nat), dec x k l = (v, s, 0) →
    ∃ n r, v = x + n * 2 ^ (7 * k) ∧ s = k + (enc n).length ∧ l = enc n ++ r ∧ n * 2 ^ (7 * k) < 2 ^ 64 ∧ s ≤ 10 ∧ (0 < k → 0 < n) := by
  induction l with
  | nil => intro x k v s h; unfold dec at h; split at h <;> simp at h
  | cons b r ih =>
    intro x k v s h
    unfold dec at h
    have hb : b.toNat < 256 := b.toNat_lt
    by_cases hk : k < 10
    · rw [if_pos hk] at h
      by_cases h1 : 127 < b.toNat
      · rw [if_pos h1] at h
        obtain ⟨n, r', hv, hs, hl, hn, h10, hp⟩ := ih _ _ _ _ h
        have hn0 : 0 < n := hp (by omega)
        have hlen : 0 < (enc n).length := List.length_pos_iff.2 (enc_ne n)
        have hk8 : k ≤ 8 := by omega
        have hbig : 127 < b.toNat % 128 + 128 * n := by omega
        have hd : (b.toNat % 128 + 128 * n) / 128 = n := by omega
        have hm : (b.toNat % 128 + 128 * n) % 128 = b.toNat % 128 := by omega
        have he : enc (b.toNat % 128 + 128 * n) = b :: enc n := by
          rw [enc_big hbig, hd, hm]
          congr 1
          rw [show b.toNat % 128 + 128 = b.toNat from by omega]
          exact UInt8.ofNat_toNat
        rw [pow_step] at hv hn
        refine ⟨b.toNat % 128 + 128 * n, r', ?_, ?_, ?_, ?_, h10, fun _ => by omega⟩
        · have := split_low (b.toNat % 128 + 128 * n) (2 ^ (7 * k))
          rw [hd, hm] at this
          rw [hv, ← this]; omega
        · rw [he, hs, List.length_cons]; omega
        · rw [he, hl]; rfl
        · have h2 := split_low (b.toNat % 128 + 128 * n) (2 ^ (7 * k))
          rw [hd, hm] at h2
          have hq := room_of k hk8
          have h3 := roomy n (2 ^ (57 - 7 * k)) (128 * 2 ^ (7 * k)) (by rw [← hq]; exact hn)
          have h4 : b.toNat % 128 * 2 ^ (7 * k) ≤ 127 * 2 ^ (7 * k) := Nat.mul_le_mul_right _ (by omega)
          have h5 : 0 < 2 ^ (7 * k) := Nat.pow_pos (by decide)
          rw [← h2, hq]
          generalize 2 ^ (7 * k) = P at *
          generalize 2 ^ (57 - 7 * k) = Q at *
          omega
      · rw [if_neg h1] at h
        by_cases h2 : (0 < k ∧ b.toNat = 0) ∨ (k = 9 ∧ 1 < b.toNat)
        · rw [if_pos h2] at h; simp at h
        · rw [if_neg h2] at h
          simp only [Prod.mk.injEq, and_true] at h
          have he : enc b.toNat = [b] := by rw [enc_small h1, UInt8.ofNat_toNat]
          refine ⟨b.toNat, r, h.1.symm, by rw [he, ← h.2]; rfl, by rw [he]; rfl, ?_, by omega, fun hk0 => by omega⟩
          rcases Nat.lt_or_ge k 9 with h3 | h3
          · have h4 := pow_le (show k ≤ 8 by omega)
            have h5 : b.toNat * 2 ^ (7 * k) ≤ 127 * 2 ^ (7 * 8) := Nat.mul_le_mul (by omega) h4
            omega
          · obtain rfl : k = 9 := by omega
            have h5 : b.toNat * 2 ^ (7 * 9) ≤ 1 * 2 ^ (7 * 9) := Nat.mul_le_mul_right _ (by omega)
            omega
    · rw [if_neg hk] at h; simp at h

/-- A reading that fails tells noughts. -/
theorem dec_err (l : List UInt8) : ∀ (x k : Nat), (dec x k l).2.2 = 0 ∨ dec x k l = (0, 0, 7) ∨ dec x k l = (0, 0, 8) := by
  induction l with
  | nil => intro x k; unfold dec; split <;> simp
  | cons b r ih =>
    intro x k
    unfold dec
    split
    · split
      · exact ih _ _
      · split <;> simp
    · simp

theorem dec_bd (l : List UInt8) : (dec 0 0 l).1 < 2 ^ 64 ∧ (dec 0 0 l).2.1 ≤ 10 ∧ (dec 0 0 l).2.1 ≤ l.length ∧ (dec 0 0 l).2.2 ≤ 8 := by
  rcases dec_err l 0 0 with h | h | h
  · obtain ⟨n, r, hv, hs, hl, hn, h10, _⟩ := dec_inv l 0 0 (dec 0 0 l).1 (dec 0 0 l).2.1 (Prod.ext rfl (Prod.ext rfl h))
    refine ⟨by simp at hv hn; omega, h10, ?_, by omega⟩
    have := congrArg List.length hl
    rw [List.length_append] at this
    omega
  · rw [h]; simp
  · rw [h]; simp

#print axioms dec_inv
end Go.Proofs.YtiehcplepneajaaGreatDoor.Pk

/-
  A reader of package pack as plain data: its text, how far it has come, its first failure; and what each call reads. No program.
-/
namespace Go.Proofs.YtiehcplepneajaaGreatDoor.Pk

structure Rd where
  s : ByteArray
  pos : Nat
  f : Nat

/-- What was not read. -/
def Rd.rest (r : Rd) : List UInt8 := r.s.data.toList.drop r.pos
/-- So many bytes are read, or it fails with e. -/
def Rd.go (r : Rd) (sz e : Nat) : Rd := if r.f = 0 then (if e = 0 then { r with pos := r.pos + sz } else { r with f := e }) else r
def Rd.pass (r : Rd) (e : Nat) : Bool := r.f == 0 && e == 0

/-- A number that is at most m. -/
def cnt (l : List UInt8) (m : Int) : Nat × Nat × Nat := if (dec 0 0 l).2.2 = 0 ∧ (m < 0 ∨ m < ((dec 0 0 l).1 : Int)) then (0, 0, 8) else dec 0 0 l

def Rd.num (r : Rd) : Nat × Rd := (if r.pass (dec 0 0 r.rest).2.2 then (dec 0 0 r.rest).1 else 0, r.go (dec 0 0 r.rest).2.1 (dec 0 0 r.rest).2.2)
def Rd.most (r : Rd) (m : Int) : Nat × Rd := (if r.pass (cnt r.rest m).2.2 then (cnt r.rest m).1 else 0, r.go (cnt r.rest m).2.1 (cnt r.rest m).2.2)
/-- An integer out of its number. -/
def zag (n : Nat) : Int := if n % 2 = 0 then (n / 2 : Nat) else -((n / 2 : Nat) : Int) - 1
def terr (l : List UInt8) (m : Int) : Nat := if (cnt l m).2.2 = 0 ∧ l.length - (cnt l m).2.1 < (cnt l m).1 then 7 else (cnt l m).2.2
def Rd.text (r : Rd) (m : Int) : List UInt8 × Rd :=
  (if r.pass (terr r.rest m) then (r.rest.drop (cnt r.rest m).2.1).take (cnt r.rest m).1 else [], r.go ((cnt r.rest m).2.1 + (cnt r.rest m).1) (terr r.rest m))
def Rd.byte (r : Rd) : Nat × Rd := (if r.pass (if r.rest = [] then 7 else 0) then (r.rest.headD 0).toNat else 0, r.go 1 (if r.rest = [] then 7 else 0))
def Rd.fault (r : Rd) : Nat × Nat := if r.f = 0 then (0, 0) else (r.f, r.pos)
def Rd.fin (r : Rd) : Nat := if r.f ≠ 0 then r.f else if r.rest = [] then 0 else 8

/-- A reader as the calls leave it. -/
structure Rd.Ok (r : Rd) : Prop where
  pos : r.pos ≤ r.s.size
  f : r.f ≤ 8
  lim : r.s.size ≤ 281474976710656

theorem Rd.rest_length (r : Rd) : r.rest.length = r.s.size - r.pos := by simp [Rd.rest]

theorem Rd.Ok.go {r : Rd} (h : r.Ok) {sz e : Nat} (he : e ≤ 8) (hs : e = 0 → sz ≤ r.rest.length) : (r.go sz e).Ok := by
  have h1 := r.rest_length
  have h2 := h.pos
  unfold Rd.go
  by_cases hf : r.f = 0
  · rw [if_pos hf]
    by_cases h0 : e = 0
    · rw [if_pos h0]
      have := hs h0
      exact ⟨by show r.pos + sz ≤ r.s.size; omega, h.f, h.lim⟩
    · rw [if_neg h0]; exact ⟨h.pos, he, h.lim⟩
  · rw [if_neg hf]; exact h

theorem cnt_bd (l : List UInt8) (m : Int) : (cnt l m).1 < 2 ^ 64 ∧ (cnt l m).2.1 ≤ 10 ∧ (cnt l m).2.1 ≤ l.length ∧ (cnt l m).2.2 ≤ 8 := by
  unfold cnt
  split
  · simp
  · exact dec_bd l

theorem Rd.Ok.num {r : Rd} (h : r.Ok) : r.num.2.Ok := h.go (dec_bd r.rest).2.2.2 fun _ => (dec_bd r.rest).2.2.1
theorem Rd.Ok.most {r : Rd} (h : r.Ok) (m : Int) : (r.most m).2.Ok := h.go (cnt_bd r.rest m).2.2.2 fun _ => (cnt_bd r.rest m).2.2.1
theorem Rd.Ok.byte {r : Rd} (h : r.Ok) : r.byte.2.Ok := h.go (by split <;> omega) fun h0 => by
  by_cases h1 : r.rest = []
  · rw [if_pos h1] at h0; omega
  · have := List.length_pos_iff.2 h1; omega
theorem terr_bd (l : List UInt8) (m : Int) : terr l m ≤ 8 := by
  unfold terr
  split
  · omega
  · exact (cnt_bd l m).2.2.2
theorem terr_room {l : List UInt8} {m : Int} (h : terr l m = 0) : (cnt l m).2.1 + (cnt l m).1 ≤ l.length ∧ (cnt l m).2.2 = 0 := by
  have hb := (cnt_bd l m).2.2.1
  unfold terr at h
  split at h
  · omega
  · rename_i hn
    exact ⟨by omega, h⟩
theorem Rd.Ok.text {r : Rd} (h : r.Ok) (m : Int) : (r.text m).2.Ok := h.go (terr_bd r.rest m) fun h0 => (terr_room h0).1

theorem pass_true {r : Rd} {e : Nat} (h1 : r.f = 0) (h2 : e = 0) : r.pass e = true := by simp [Rd.pass, h1, h2]
theorem pass_false {r : Rd} {e : Nat} (h : r.f ≠ 0 ∨ e ≠ 0) : r.pass e = false := by simp [Rd.pass]; intro h1; omega
theorem go_ok {r : Rd} {sz : Nat} (h : r.f = 0) : r.go sz 0 = { r with pos := r.pos + sz } := by unfold Rd.go; rw [if_pos h, if_pos rfl]
theorem go_bad {r : Rd} {sz e : Nat} (h : r.f ≠ 0 ∨ e ≠ 0) (k : Nat) : r.go sz e = r.go k e := by
  unfold Rd.go
  by_cases hf : r.f = 0
  · rw [if_pos hf, if_pos hf, if_neg (by omega), if_neg (by omega)]
  · rw [if_neg hf, if_neg hf]

end Go.Proofs.YtiehcplepneajaaGreatDoor.Pk
