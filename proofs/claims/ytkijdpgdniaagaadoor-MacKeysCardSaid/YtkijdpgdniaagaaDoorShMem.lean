/-
  Small facts on worlds, for sha.
-/
import Derived.Test.YtkijdpgdniaagaaDoorShRot
import Derived.Deep.QuietTactic
import Derived.BigQuiet
import Derived.BigRegion
import Derived.Laws.CopyOwn
import Derived.Lib.UnsafeStr
namespace Go.Proofs.YtkijdpgdniaagaaDoor.Sm
open Go.RowKit

theorem heap_set {w : World} {b : Nat} {c : Array Value} {e : TypeId} {fz : Nat × Nat} (h : w.heap[b]? = some (.cells c e fz)) (o : Nat) (v : Value) :
    (w.setCell ⟨b, o, none⟩ v).heap[b]? = some (.cells (c.setIfInBounds o v) e fz) := by
  simp [World.setCell, Array.getElem?_modify, h]
theorem cells_of {w : World} {b : Nat} {c : Array Value} {e : TypeId} (h : w.heap[b]? = some (.cells c e (0, 0))) (i : Nat) (v : Value) (hv : c[i]? = some v) :
    w.cell? ⟨b, i, none⟩ = some v := by simp [World.cell?, h, hv]
theorem free_of {w : World} {b : Nat} {c : Array Value} {e : TypeId} (h : w.heap[b]? = some (.cells c e (0, 0))) (i : Nat) : w.frozen? ⟨b, i, none⟩ = false := by
  simp [World.frozen?, h]
theorem lt_of {w : World} {b : Nat} {o : Obj} (h : w.heap[b]? = some o) : b < w.heap.size := (Array.getElem?_eq_some_iff.1 h).1
theorem grown_refl (w : World) (r : Option Nat) : w.grownBy w r := ⟨rfl, rfl, rfl, Nat.le_refl _, fun _ _ _ => rfl⟩
theorem grown_trans {a b c : World} {r : Option Nat} (h : a.grownBy b r) (k : b.grownBy c r) : a.grownBy c r :=
  ⟨k.os.trans h.os, k.tape.trans h.tape, k.output.trans h.output, Nat.le_trans h.size k.size, fun i hi hn => (k.block i (Nat.lt_of_lt_of_le hi h.size) hn).trans (h.block i hi hn)⟩
theorem grown_set {a w : World} {b : Nat} (h : a.grownBy w (some b)) (o : Nat) (v : Value) : a.grownBy (w.setCell ⟨b, o, none⟩ v) (some b) :=
  grown_trans h ⟨rfl, rfl, rfl, by simp, fun k _ hn => Below.heap_setCell _ _ _ _ (fun e => hn (by rw [e]))⟩
theorem grown_drewN {a w : World} {r : Option Nat} (h : a.grownBy w r) (n : Nat) : a.grownBy (w.drewN n) r := ⟨h.os, h.tape, h.output, h.size, h.block⟩
theorem grown_below {a w w' : World} {r : Option Nat} (h : a.grownBy w r) (k : Below a.heap.size w w') : a.grownBy w' r :=
  ⟨k.os.trans h.os, k.tape.trans h.tape, k.output.trans h.output, Nat.le_trans h.size k.size, fun i hi hn => (k.block i hi).trans (h.block i hi hn)⟩
theorem grown_from {w w' : World} {b B : Nat} (h : w.grownBy w' (some b)) (hb : B ≤ b) (hB : B ≤ w.heap.size) : Below B w w' :=
  ⟨h.os, h.tape, h.output, h.size, fun k hk => h.block k (by omega) (fun e => by have := Option.some.inj e; omega)⟩
theorem below_drewN {B : Nat} {w w' : World} (h : Below B w w') (n : Nat) : Below B w (w'.drewN n) := ⟨h.os, h.tape, h.output, h.size, h.block⟩

/-- A call that turns nothing, behind draws that have been joined already. -/
theorem q_more {P : Program} {f : FuncId} {xs : Array Value} {w : World} {i j : Nat} {r : Value} (h : Calls P f xs (w.drewN (i + j)) fun e w' => e = .returned r ∧ w.drewN (i + j) = w') :
    Calls P f xs (w.drewN (i + j)) fun e w' => e = .returned r ∧ ∃ k, w' = w.drewN (i + k) := h.mono fun _ _ ⟨h1, h2⟩ => ⟨h1, j, h2.symm⟩
theorem q_one {P : Program} {f : FuncId} {xs : Array Value} {w : World} {j : Nat} {r : Value} (h : Calls P f xs (w.drewN j) fun e w' => e = .returned r ∧ w.drewN j = w') :
    Calls P f xs (w.drewN j) fun e w' => e = .returned r ∧ ∃ k, w' = w.drewN k := h.mono fun _ _ ⟨h1, h2⟩ => ⟨h1, j, h2.symm⟩

/-- Numbers of 32 bits as cells. -/
def nums (l : List Nat) : List Value := l.map fun n : Nat => Value.int .u32 (n : Int)
theorem nums_get {l : List Nat} {i : Nat} (h : i < l.length) : (nums l)[i]? = some (.int .u32 (l.getD i 0 : Nat)) := by
  simp [nums, h]
theorem nums_length (l : List Nat) : (nums l).length = l.length := by simp [nums]
/-- A row of n numbers, of which the first are these, the others 0. -/
def rowOf (n : Nat) (l : List Nat) : Array Value := (nums (l ++ List.replicate (n - l.length) 0)).toArray
theorem rowOf_get {n : Nat} {l : List Nat} {i : Nat} (h : i < l.length) : (rowOf n l)[i]? = some (.int .u32 (l.getD i 0 : Nat)) := by
  simp [rowOf, nums, List.getElem?_append, h]
theorem rowOf_set {n : Nat} {l : List Nat} (h : l.length < n) (x : Nat) : (rowOf n l).setIfInBounds l.length (.int .u32 x) = rowOf n (l ++ [x]) := by
  apply Array.ext'
  simp only [rowOf, nums, Array.toList_setIfInBounds, List.toList_toArray, List.map_append, List.length_append, List.length_singleton, List.map_cons, List.map_nil]
  rw [show n - l.length = (n - (l.length + 1)) + 1 by omega, List.replicate_succ, List.map_cons, List.set_append_right _ _ (by simp)]
  simp
theorem rowOf_some {n : Nat} {l : List Nat} (i : Nat) (h : l.length ≤ n) (hi : i < n) : ∃ v, (rowOf n l)[i]? = some v := by
  have : (rowOf n l).size = n := by simp [rowOf, nums]; omega
  exact ⟨_, Array.getElem?_eq_getElem (by omega)⟩
theorem words_range {f : Nat → Nat} {k : Nat} : (List.range (k + 1)).map f = (List.range k).map f ++ [f k] := by rw [List.range_succ]; simp
theorem w_be4 (a b c d : UInt8) : bits .or .u32 (bits .or .u32 (bits .or .u32 ((a.toNat : Int) * 16777216) ((b.toNat : Int) * 65536)) ((c.toNat : Int) * 256)) (d.toNat : Int) = (be4 a.toNat b.toNat c.toNat d.toNat : Nat) := by
  have ha := a.toNat_lt
  have hb := b.toNat_lt
  have hc := c.toNat_lt
  have hd := d.toNat_lt
  rw [show (a.toNat : Int) * 16777216 = ((a.toNat * 16777216 : Nat) : Int) by omega, show (b.toNat : Int) * 65536 = ((b.toNat * 65536 : Nat) : Int) by omega, show (c.toNat : Int) * 256 = ((c.toNat * 256 : Nat) : Int) by omega,
    w_or (by omega) (by omega), w_or (or_lt (by omega) (by omega)) (by omega), w_or (or_lt (or_lt (by omega) (by omega)) (by omega)) (by omega), be4_or _ _ _ _ (by omega) (by omega) (by omega) (by omega)]
theorem rowOf_size {n : Nat} {l : List Nat} (h : l.length ≤ n) : (rowOf n l).size = n := by simp [rowOf, nums]; omega
theorem rowOf_one (n : Nat) (l : List Nat) : (rowOf n l).all (·.oneCell') = true := by
  rw [Array.all_eq_true_iff_forall_mem]
  intro v hv
  obtain ⟨x, _, rfl⟩ := List.mem_map.1 (by simpa [rowOf, nums] using hv : v ∈ nums (l ++ List.replicate (n - l.length) 0))
  rfl
theorem rowOf_full {n : Nat} {l : List Nat} (h : l.length = n) : rowOf n l = (nums l).toArray := by unfold rowOf; rw [show n - l.length = 0 by omega]; simp
theorem info64 {c : Array Value} (h : c.size = 64) : (Tryd.prog.info? 53).map (·.size) = some c.size := by
  rw [h]; kernel_rfl
theorem below_setRow {B N : Nat} {w w' : World} (h : Below B w w') (hN : B ≤ N) (c : Array Value) : Below B w (w'.setRow N c) :=
  ⟨h.os, h.tape, h.output, by rw [size_setRow]; exact h.size, fun k hk => by rw [setRow_other _ _ _ _ (by omega)]; exact h.block k hk⟩
theorem w_s0 {x : Nat} (h : x < 4294967296) : bits .xor .u32 (bits .xor .u32 (rot x 7 : Nat) (rot x 18 : Nat)) ((x : Int) / 8) = (s0 x : Nat) := by
  rw [show (x : Int) / 8 = ((x / 8 : Nat) : Int) by omega, w_xor (rot_lt h) (rot_lt h), w_xor (xor_lt (rot_lt h) (rot_lt h)) (by omega)]; rfl
theorem w_s1 {x : Nat} (h : x < 4294967296) : bits .xor .u32 (bits .xor .u32 (rot x 17 : Nat) (rot x 19 : Nat)) ((x : Int) / 1024) = (s1 x : Nat) := by
  rw [show (x : Int) / 1024 = ((x / 1024 : Nat) : Int) by omega, w_xor (rot_lt h) (rot_lt h), w_xor (xor_lt (rot_lt h) (rot_lt h)) (by omega)]; rfl
theorem w_add4 (a b c d : Nat) : ((a : Int) + b + c + d) % 4294967296 = (add (add (add a b) c) d : Nat) := by unfold add; omega
theorem heap_alloc_row (w : World) : (w.alloc (.cells (rowOf 64 []) 53)).heap[w.heap.size]? = some (.cells (rowOf 64 []) 53 (0, 0)) := heap_alloc_new w _
theorem slice64 (b o l : Nat) (h : l < 64) (w : World) :
    (Instr.sliceAt 71 (.pointer (some ⟨b, o, none⟩)) (some (.int .i64 (l : Int))) none none).run Tryd.prog w = .ok (.slice (some ⟨b, o + l, none⟩) (64 - l) (64 - l)) w := by
  have e : Tryd.prog.arrayLen 71 = 64 := by kernel_rfl
  have hs : (sizeOf (Tryd.prog.elem 71)).run Tryd.prog w = .ok 1 w := by kernel_rfl
  rw [run_sliceAt_array_l w 71 ⟨b, o, none⟩ (by kernel_rfl) .i64 l (by omega) (by rw [e]; omega), hs]
  simp only [Result.andThen_ok, slicedAt, e, Int.toNat_natCast]
  rw [if_neg (by omega)]
  simp [Addr.add]
end Go.Proofs.YtkijdpgdniaagaaDoor.Sm
