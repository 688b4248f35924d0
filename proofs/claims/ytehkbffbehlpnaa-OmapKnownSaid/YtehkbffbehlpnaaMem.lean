/-
  Small facts on worlds, rows of bytes and of numbers, shared by the layers.
-/
import Derived.WalkKit
import Derived.WalkLawsBesides
import Derived.Lib.Hide
import Derived.Outline
import Derived.Deep.QuietTactic
import Derived.BigQuiet
import Derived.BigRegion
import Derived.Laws.CopyOwn
import Derived.Lib.UnsafeStr
import Derived.Lib.BufferWrite
import Derived.Deep.WholeRow
import Derived.Deep.MidRow
import Derived.Deep.RegionHeld3
import Derived.Deep.Cut
import Derived.Test.YtehkbffbehlpnaaProg
namespace Go.Proofs.Ytehkbffbehlpnaa
open Go.RowKit
theorem byte_fits (c : UInt8) : 0 ≤ (c.toNat : Int) ∧ (c.toNat : Int) < 256 := by have := c.toNat_lt; omega
theorem info3_u8 : (Try.prog.info? 5).map (fun i => (i.zero, i.size, i.bytes)) = some (some (.int .u8 0), 1, 1) := by kernel_rfl
namespace Sm
theorem heap_set {w : World} {b : Nat} {c : Array Value} {e : TypeId} {fz : Nat × Nat} (h : w.heap[b]? = some (.cells c e fz)) (o : Nat) (v : Value) :
    (w.setCell ⟨b, o, none⟩ v).heap[b]? = some (.cells (c.setIfInBounds o v) e fz) := by
  simp [World.setCell, Array.getElem?_modify, h]
theorem cells_of {w : World} {b : Nat} {c : Array Value} {e : TypeId} (h : w.heap[b]? = some (.cells c e (0, 0))) (i : Nat) (v : Value) (hv : c[i]? = some v) :
    w.cell? ⟨b, i, none⟩ = some v := by simp [World.cell?, h, hv]
theorem free_of {w : World} {b : Nat} {c : Array Value} {e : TypeId} (h : w.heap[b]? = some (.cells c e (0, 0))) (i : Nat) : w.frozen? ⟨b, i, none⟩ = false := by
  simp [World.frozen?, h]
theorem lt_of {w : World} {b : Nat} {o : Obj} (h : w.heap[b]? = some o) : b < w.heap.size := (Array.getElem?_eq_some_iff.1 h).1
theorem grown_refl (w : World) (r : Option Nat) : w.grownBy w r := ⟨rfl, rfl, rfl, Nat.le_refl _, fun _ _ _ => rfl⟩
theorem grown_trans {a b c : World} {r : Option Nat} (h : a.grownBy b r) (k : b.grownBy c r) : a.grownBy c r :=
  ⟨k.os.trans h.os, k.tape.trans h.tape, k.output.trans h.output, Nat.le_trans h.size k.size, fun i hi hn => (k.block i (Nat.lt_of_lt_of_le hi h.size) hn).trans (h.block i hi hn)⟩
theorem grown_set {a w : World} {b : Nat} (h : a.grownBy w (some b)) (o : Nat) (v : Value) : a.grownBy (w.setCell ⟨b, o, none⟩ v) (some b) :=
  grown_trans h ⟨rfl, rfl, rfl, by simp, fun k _ hn => Below.heap_setCell _ _ _ _ (fun e => hn (by rw [e]))⟩
theorem grown_drewN {a w : World} {r : Option Nat} (h : a.grownBy w r) (n : Nat) : a.grownBy (w.drewN n) r := ⟨h.os, h.tape, h.output, h.size, h.block⟩
theorem grown_below {a w w' : World} {r : Option Nat} (h : a.grownBy w r) (k : Below a.heap.size w w') : a.grownBy w' r :=
  ⟨k.os.trans h.os, k.tape.trans h.tape, k.output.trans h.output, Nat.le_trans h.size k.size, fun i hi hn => (k.block i hi).trans (h.block i hi hn)⟩
theorem grown_from {w w' : World} {b B : Nat} (h : w.grownBy w' (some b)) (hb : B ≤ b) (hB : B ≤ w.heap.size) : Below B w w' :=
  ⟨h.os, h.tape, h.output, h.size, fun k hk => h.block k (by omega) (fun e => by have := Option.some.inj e; omega)⟩
theorem below_drewN {B : Nat} {w w' : World} (h : Below B w w') (n : Nat) : Below B w (w'.drewN n) := ⟨h.os, h.tape, h.output, h.size, h.block⟩
/-- A call that turns nothing, behind draws that have been joined already. -/
theorem q_more {P : Program} {f : FuncId} {xs : Array Value} {w : World} {i j : Nat} {r : Value} (h : Calls P f xs (w.drewN (i + j)) fun e w' => e = .returned r ∧ w.drewN (i + j) = w') :
    Calls P f xs (w.drewN (i + j)) fun e w' => e = .returned r ∧ ∃ k, w' = w.drewN (i + k) := h.mono fun _ _ ⟨h1, h2⟩ => ⟨h1, j, h2.symm⟩
theorem q_one {P : Program} {f : FuncId} {xs : Array Value} {w : World} {j : Nat} {r : Value} (h : Calls P f xs (w.drewN j) fun e w' => e = .returned r ∧ w.drewN j = w') :
    Calls P f xs (w.drewN j) fun e w' => e = .returned r ∧ ∃ k, w' = w.drewN k := h.mono fun _ _ ⟨h1, h2⟩ => ⟨h1, j, h2.symm⟩
/-- Numbers of 32 bits as cells. -/
def nums (l : List Nat) : List Value := l.map fun n : Nat => Value.int .u32 (n : Int)
theorem nums_get {l : List Nat} {i : Nat} (h : i < l.length) : (nums l)[i]? = some (.int .u32 (l.getD i 0 : Nat)) := by
  simp [nums, h]
theorem nums_length (l : List Nat) : (nums l).length = l.length := by simp [nums]
/-- A row of n numbers, of which the first are these, the others 0. -/
def rowOf (n : Nat) (l : List Nat) : Array Value := (nums (l ++ List.replicate (n - l.length) 0)).toArray
theorem rowOf_get {n : Nat} {l : List Nat} {i : Nat} (h : i < l.length) : (rowOf n l)[i]? = some (.int .u32 (l.getD i 0 : Nat)) := by
  simp [rowOf, nums, List.getElem?_append, h]
theorem rowOf_set {n : Nat} {l : List Nat} (h : l.length < n) (x : Nat) : (rowOf n l).setIfInBounds l.length (.int .u32 x) = rowOf n (l ++ [x]) := by
  apply Array.ext'
  simp only [rowOf, nums, Array.toList_setIfInBounds, List.toList_toArray, List.map_append, List.length_append, List.length_singleton, List.map_cons, List.map_nil]
  rw [show n - l.length = (n - (l.length + 1)) + 1 by omega, List.replicate_succ, List.map_cons, List.set_append_right _ _ (by simp)]
  simp
theorem rowOf_some {n : Nat} {l : List Nat} (i : Nat) (h : l.length ≤ n) (hi : i < n) : ∃ v, (rowOf n l)[i]? = some v := by
  have : (rowOf n l).size = n := by simp [rowOf, nums]; omega
  exact ⟨_, Array.getElem?_eq_getElem (by omega)⟩
theorem words_range {f : Nat → Nat} {k : Nat} : (List.range (k + 1)).map f = (List.range k).map f ++ [f k] := by rw [List.range_succ]; simp
theorem rowOf_size {n : Nat} {l : List Nat} (h : l.length ≤ n) : (rowOf n l).size = n := by simp [rowOf, nums]; omega
theorem rowOf_one (n : Nat) (l : List Nat) : (rowOf n l).all (·.oneCell') = true := by
  rw [Array.all_eq_true_iff_forall_mem]
  intro v hv
  obtain ⟨x, _, rfl⟩ := List.mem_map.1 (by simpa [rowOf, nums] using hv : v ∈ nums (l ++ List.replicate (n - l.length) 0))
  rfl
theorem rowOf_full {n : Nat} {l : List Nat} (h : l.length = n) : rowOf n l = (nums l).toArray := by unfold rowOf; rw [show n - l.length = 0 by omega]; simp
theorem below_setRow {B N : Nat} {w w' : World} (h : Below B w w') (hN : B ≤ N) (c : Array Value) : Below B w (w'.setRow N c) :=
  ⟨h.os, h.tape, h.output, by rw [size_setRow]; exact h.size, fun k hk => by rw [setRow_other _ _ _ _ (by omega)]; exact h.block k hk⟩
theorem low_low {w w1 w2 : World} {B : Nat} (k : Below B w w1) (hB : B ≤ w.heap.size) (h : Below w1.heap.size w1 w2) : Below B w w2 := k.trans (h.mono (Nat.le_trans hB k.size))
theorem xor_u8 (a b : UInt8) : (a ^^^ b).toNat = a.toNat ^^^ b.toNat := UInt8.toNat_xor a b
theorem ofInt8 (a : UInt8) : (BitVec.ofInt 8 (a.toNat : Int)).toNat = a.toNat := by
  rw [BitVec.ofInt_natCast, BitVec.toNat_ofNat]; exact Nat.mod_eq_of_lt a.toNat_lt
theorem w_xor8 (a b : UInt8) : bits .xor .u8 (a.toNat : Int) (b.toNat : Int) = ((a ^^^ b).toNat : Int) := by
  show IntKind.u8.wrap ((BitVec.ofInt 8 (a.toNat : Int) ^^^ BitVec.ofInt 8 (b.toNat : Int)).toNat : Int) = _
  rw [BitVec.toNat_xor, ofInt8 a, ofInt8 b, ← xor_u8]
  have := (a ^^^ b).toNat_lt
  rw [IntKind.wrap_u8]; omega
/-- A row of n bytes, of which the first are these, the others 0. -/
def rowB (n : Nat) (l : List UInt8) : Array Value := (Lib.byteCells (l ++ List.replicate (n - l.length) 0)).toArray
theorem rowB_set {n : Nat} {l : List UInt8} (h : l.length < n) (x : UInt8) : (rowB n l).setIfInBounds l.length (.int .u8 x.toNat) = rowB n (l ++ [x]) := by
  apply Array.ext'
  simp only [rowB, Lib.byteCells, Array.toList_setIfInBounds, List.toList_toArray, List.map_append, List.length_append, List.length_singleton, List.map_cons, List.map_nil]
  rw [show n - l.length = (n - (l.length + 1)) + 1 by omega, List.replicate_succ, List.map_cons, List.set_append_right _ _ (by simp)]
  simp
theorem rowB_size {n : Nat} {l : List UInt8} (h : l.length ≤ n) : (rowB n l).size = n := by simp [rowB, Lib.byteCells]; omega
theorem rowB_some {n : Nat} {l : List UInt8} (i : Nat) (h : l.length ≤ n) (hi : i < n) : ∃ v, (rowB n l)[i]? = some v := ⟨_, Array.getElem?_eq_getElem (by rw [rowB_size h]; exact hi)⟩
theorem rowB_full {n : Nat} {l : List UInt8} (h : l.length = n) : rowB n l = (Lib.byteCells l).toArray := by unfold rowB; rw [show n - l.length = 0 by omega]; simp
theorem bytes_one (l : List UInt8) : (Lib.byteCells l).toArray.all (·.oneCell') = true := by
  rw [Array.all_eq_true_iff_forall_mem]
  intro v hv
  exact Lib.byteCells_one _ v (by simpa using hv)
theorem range_snoc {f : Nat → UInt8} {k : Nat} : (List.range (k + 1)).map f = (List.range k).map f ++ [f k] := by rw [List.range_succ]; simp
theorem byteCells_get {l : List UInt8} {j : Nat} (h : j < l.length) : (Lib.byteCells l)[j]? = some (.int .u8 (l.getD j 0).toNat) := by
  simp [Lib.byteCells, h]
theorem bytes_set (l : List UInt8) (k : Nat) (x : UInt8) : (Lib.byteCells l).toArray.setIfInBounds k (.int .u8 x.toNat) = (Lib.byteCells (l.set k x)).toArray := by
  apply Array.ext'
  simp [Lib.byteCells, List.map_set]
theorem bytes_size (l : List UInt8) : (Lib.byteCells l).toArray.size = l.length := by simp [Lib.byteCells]
theorem row_cell {w : World} {N : Nat} {l : List UInt8} {t : TypeId} (h : w.heap[N]? = some (.cells (Lib.byteCells l).toArray t (0, 0))) (k : Nat) (hk : k < l.length) :
    w.cell? ⟨N, k, none⟩ = some (.int .u8 (l.getD k 0).toNat) := cells_of h k _ (by rw [List.getElem?_toArray]; exact byteCells_get hk)
/-- A row of bytes, sliced whole, as a text. -/
theorem conv_row {w : World} {N n : Nat} {l : List UInt8} {t : TypeId} (h : w.heap[N]? = some (.cells (Lib.byteCells l).toArray t (0, 0))) (hn : l.length = n) :
    (convert 68 9 (.slice (some ⟨N, 0, none⟩) n n)).run Try.prog w = .ok (.string ⟨l.toArray⟩) w := by
  have e := run_convert_bytes_back (P := Try.prog) w 68 9 5 ⟨N, 0, none⟩ n l Try.underlying68 Try.underlying5 Try.underlying9 (fun j hj => by
    have := row_cell h j hj
    rw [List.getD_eq_getElem?_getD, List.getElem?_eq_getElem hj] at this
    rw [Addr.add_mid, Nat.zero_add]
    exact this)
  rw [hn] at e
  exact e
/-- Cells that are set one by one, in a row that is whole. -/
theorem heap_setCells {b : Nat} {t : TypeId} : ∀ (vs : List Value) (o : Nat) (w : World) (cur : Array Value), w.heap[b]? = some (.cells cur t (0, 0)) → o + vs.length ≤ cur.size →
    (w.setCells b o vs).heap[b]? = some (.cells (cur.toList.take o ++ (vs ++ cur.toList.drop (o + vs.length))).toArray t (0, 0))
  | [], o, w, cur, h, _ => by
    rw [World.setCells, h]
    simp
  | v :: vs, o, w, cur, h, hl => by
    have hlc : cur.toList.length = cur.size := by simp
    simp only [List.length_cons] at hl
    have ih := heap_setCells vs (o + 1) (w.setCell ⟨b, o, none⟩ v) (cur.setIfInBounds o v) (heap_set h o v) (by simp; omega)
    rw [World.setCells, ih, Array.toList_setIfInBounds]
    have e1 : (cur.toList.set o v).take (o + 1) = cur.toList.take o ++ [v] := by
      rw [List.take_succ_eq_append_getElem (by simp; omega), List.take_set_of_le (Nat.le_refl _)]
      simp
    have e2 : (cur.toList.set o v).drop (o + 1 + vs.length) = cur.toList.drop (o + (vs.length + 1)) := by
      rw [List.drop_set_of_lt (by omega), show o + 1 + vs.length = o + (vs.length + 1) by omega]
    rw [e1, e2]
    simp
theorem heap_setAll {b : Nat} {t : TypeId} {w : World} {cur : Array Value} {vs : List Value} (h : w.heap[b]? = some (.cells cur t (0, 0))) (hl : cur.size = vs.length) :
    (w.setCells b 0 vs).heap[b]? = some (.cells vs.toArray t (0, 0)) := by
  rw [heap_setCells vs 0 w cur h (by omega), List.drop_of_length_le (by simp; omega)]
  simp
theorem other_setCells {b c : Nat} {t : TypeId} {cur : Array Value} (hn : c ≠ b) : ∀ {vs : List Value} {o : Nat} {w : World}, w.heap[c]? = some (.cells cur t (0, 0)) → (w.setCells b o vs).heap[c]? = some (.cells cur t (0, 0))
  | [], _, _, h => h
  | _ :: vs, o, w, h => other_setCells hn (vs := vs) (o := o + 1) ((Below.heap_setCell w ⟨b, o, none⟩ _ c hn).trans h)
theorem below_setCells {B b : Nat} (hb : B ≤ b) : ∀ (vs : List Value) (o : Nat) {w w' : World}, Below B w w' → Below B w (w'.setCells b o vs)
  | [], _, _, _, h => h
  | _ :: vs, o, _, _, h => below_setCells hb vs (o + 1) (h.setCell (p := ⟨b, o, none⟩) hb _)
theorem there_row {w : World} {b n : Nat} {t : TypeId} {cur : Array Value} (h : w.heap[b]? = some (.cells cur t (0, 0))) (hn : cur.size = n) : w.there b 0 n := fun j hj => by
  rw [Nat.zero_add]
  exact ⟨by rw [cells_of h j _ (Array.getElem?_eq_getElem (by omega))]; rfl, free_of h j⟩
theorem range_row {w : World} {h : Nat} {cs : List Value} {t : TypeId} (hb : w.heap[h]? = some (.cells cs.toArray t (0, 0))) : w.rangeAt h 0 cs := fun j v hv => by
  rw [Nat.zero_add]
  exact cells_of hb j v (by rw [List.getElem?_toArray]; exact hv)
/-- A whole row, loaded under a guard that lets it. -/
theorem wpList_load_row_g {P : Program} {ops : Array Oper} {rest : List Oper} {o : Oper} {a : Act} {w : World} {Q : Exit → Act → World → Prop} (ty : TypeId) (x : Operand) (ho : o.op = .load ty x)
    (g : Nat) (hx : a.eval x = .pointer (some ⟨g, 0, none⟩)) (t : TypeId) (cs : Array Value) (fr : Nat × Nat) (d : TypeDesc) (hg : w.heap[g]? = some (.cells cs t fr))
    (hu : P.underlying ty = some d) (hd : (match d with | .struct _ | .array _ _ => true | _ => false) = true) (hi : (P.info? ty).map (·.size) = some cs.size)
    (h : wpList P ops Q rest (a.put o.dst (.agg cs)) w) (hgd : Region.wanted o (yielded ops a.tmps) = true) : wpList P ops Q (o :: rest) a w :=
  wpList_step fun _ hK => by
    rw [if_pos hgd]
    exact wp_load_row ty x ho g hx t cs fr d hg hu hd hi (hK _ _ h)
def byteOf : Value → UInt8
  | .int _ n => UInt8.ofNat n.toNat
  | _ => 0
theorem byte_wf {n : Int} (h : (Lit.int .u8 n).wf = true) : 0 ≤ n ∧ n ≤ 255 := by
  simp [Lit.wf, IntKind.min, IntKind.max, IntKind.signed, IntKind.bits] at h
  omega
theorem byteOf_back {n : Int} (h : (Lit.int .u8 n).wf = true) : Value.int .u8 n = .int .u8 ((byteOf (.int .u8 n)).toNat : Int) := by
  have hb := byte_wf h
  have e : (UInt8.ofNat n.toNat).toNat = n.toNat := by rw [UInt8.toNat_ofNat']; omega
  rw [byteOf, e, Int.toNat_of_nonneg hb.1]
theorem run_store_row {P : Program} {w : World} {g : Nat} {t : TypeId} {cur : Array Value} (cs : Array Value) (hg : w.heap[g]? = some (.cells cur t (0, 0))) (hl : cs.size = cur.size) (h1 : cs.all (·.oneCell') = true) :
    (storeCells ⟨g, 0, none⟩ cs.toList).run P w = .ok () (w.setRow g cs) := by
  have h := run_storeCells_from (P := P) g t cs.toList 0 cur w hg (by simpa using hl) (fun v hv => by
    rw [Array.all_eq_true_iff_forall_mem] at h1
    exact h1 v (by simpa using hv))
  simpa using h
end Sm
end Go.Proofs.Ytehkbffbehlpnaa
