/-
  Package ring's memory: what a ring's block is, its map of keys, and a key that is made; what becomes of them where another ring turns.
-/
import Derived.Test.YtibpgmcpcelmpaaGreatDoorRiMath
import Derived.MapKept
import Derived.ChangeMaps4
namespace Go.Proofs.YtibpgmcpcelmpaaGreatDoor
open Go.RowKit Go.MapKept Pk
open Go.ChangeMaps (setBlock)
theorem Sm.grown_setCells {a : World} {b : Nat} : ∀ {w : World} (_ : a.grownBy w (some b)) (vs : List Value) (o : Nat), a.grownBy (w.setCells b o vs) (some b)
  | _, h, [], _ => h
  | _, h, v :: vs, o => Sm.grown_setCells (Sm.grown_set h o v) vs (o + 1)
namespace Ri
/-- A key that is made: its Once is done, its lock free. -/
def MadeAt (w : World) (g : Nat) (k : List UInt8) : Prop := w.heap[g]? = some (.cells ([Value.int .u32 1, .int .i32 0, .int .u32 0] ++ Lib.byteCells k).toArray 102 (0, 0))
def EntryAt (w : World) (M : List UInt8) (e : MapEntry) : Prop := ∃ (i : Int) (g : Nat), e.key = .int .i64 i ∧ e.val = .pointer (some ⟨g, 0, none⟩) ∧ MadeAt w g (key M i)
/-- A map of keys, all of them made. -/
def KeysAt (w : World) (m : Nat) (M : List UInt8) : Prop := ∃ es c, w.heap[m]? = some (.map es c) ∧ ∀ e ∈ es.toList, EntryAt w M e
def cells (M : ByteArray) (boot n : Nat) (cur : Int) (m : Nat) : Array Value := #[.string M, .int .u32 boot, .int .u64 n, .int .i32 0, .int .u32 0, .int .i64 cur, .map (some m)]
/-- A ring of a master, whose map is m. -/
structure RingAt (w : World) (r m : Nat) (M : ByteArray) (boot n : Nat) (cur : Int) : Prop where
  ring : w.heap[r]? = some (.cells (cells M boot n cur m) 62 (0, 0))
  keys : KeysAt w m M.data.toList
/-- All that was there is as it was, but for a ring's block and its map. -/
structure Turned (w w' : World) (r m : Nat) : Prop where
  os : w'.os = w.os
  tape : w'.tape = w.tape
  output : w'.output = w.output
  size : w.heap.size ≤ w'.heap.size
  block : ∀ i, i < w.heap.size → i ≠ r → i ≠ m → w'.heap[i]? = w.heap[i]?
theorem Turned.refl (w : World) (r m : Nat) : Turned w w r m := ⟨rfl, rfl, rfl, Nat.le_refl _, fun _ _ _ _ => rfl⟩
theorem Turned.trans {a b c : World} {r m : Nat} (h : Turned a b r m) (k : Turned b c r m) : Turned a c r m :=
  ⟨k.os.trans h.os, k.tape.trans h.tape, k.output.trans h.output, Nat.le_trans h.size k.size, fun i hi h1 h2 => (k.block i (Nat.lt_of_lt_of_le hi h.size) h1 h2).trans (h.block i hi h1 h2)⟩
theorem Turned.of_grown {w w' : World} {r m : Nat} (h : w.grownBy w' (some m)) : Turned w w' r m :=
  ⟨h.os, h.tape, h.output, h.size, fun i hi _ h2 => h.block i hi (fun e => h2 (Option.some.inj e))⟩
theorem Turned.of_ring {w w' : World} {r m : Nat} (h : w.grownBy w' (some r)) : Turned w w' r m :=
  ⟨h.os, h.tape, h.output, h.size, fun i hi h1 _ => h.block i hi (fun e => h1 (Option.some.inj e))⟩
theorem Turned.of_below {w w' : World} {r m : Nat} (h : Below w.heap.size w w') : Turned w w' r m :=
  ⟨h.os, h.tape, h.output, h.size, fun i hi _ _ => h.block i hi⟩
theorem Turned.drew {w w' : World} {r m : Nat} (h : Turned w w' r m) : Turned w w'.drew r m := ⟨h.os, h.tape, h.output, h.size, h.block⟩
theorem Turned.drewN {w w' : World} {r m : Nat} (h : Turned w w' r m) (n : Nat) : Turned w (w'.drewN n) r m := ⟨h.os, h.tape, h.output, h.size, h.block⟩
theorem Turned.below {w w' : World} {r m N : Nat} (h : Turned w w' r m) (hr : N ≤ r) (hm : N ≤ m) (hN : N ≤ w.heap.size) : Below N w w' :=
  ⟨h.os, h.tape, h.output, h.size, fun i hi => h.block i (by omega) (by omega) (by omega)⟩
theorem ne_type {w : World} {a b : Nat} {c d : Array Value} {s t : TypeId} {f g : Nat × Nat} (h : w.heap[a]? = some (.cells c s f)) (k : w.heap[b]? = some (.cells d t g)) (hne : s ≠ t) : a ≠ b := by
  rintro rfl
  rw [h] at k
  injection k with k
  injection k with _ k
  exact hne k
theorem ne_map {w : World} {a b : Nat} {c : Array Value} {s : TypeId} {f : Nat × Nat} {es : Array MapEntry} {n : Nat} (h : w.heap[a]? = some (.cells c s f)) (k : w.heap[b]? = some (.map es n)) : a ≠ b := by
  rintro rfl
  rw [h] at k
  cases k
theorem made_ring : 102 ≠ 62 := by decide
/-- A map of keys is kept where neither it nor a key's block turns. -/
theorem KeysAt.keep {w w' : World} {m : Nat} {M : List UInt8} (h : KeysAt w m M) (h1 : w'.heap[m]? = w.heap[m]?) (h2 : ∀ g k, MadeAt w g k → w'.heap[g]? = w.heap[g]?) : KeysAt w' m M := by
  obtain ⟨es, c, hm, he⟩ := h
  refine ⟨es, c, h1.trans hm, fun e hx => ?_⟩
  obtain ⟨i, g, a, b, hg⟩ := he e hx
  exact ⟨i, g, a, b, (h2 g _ hg).trans hg⟩
theorem RingAt.lt {w : World} {r m : Nat} {M : ByteArray} {boot n : Nat} {cur : Int} (h : RingAt w r m M boot n cur) : r < w.heap.size ∧ m < w.heap.size := by
  obtain ⟨es, c, hm, _⟩ := h.keys
  exact ⟨Sm.lt_of h.ring, Sm.lt_of hm⟩
theorem RingAt.ne {w : World} {r m : Nat} {M : ByteArray} {boot n : Nat} {cur : Int} (h : RingAt w r m M boot n cur) : r ≠ m := by
  obtain ⟨es, c, hm, _⟩ := h.keys
  exact ne_map h.ring hm
theorem RingAt.keep {w w' : World} {r m : Nat} {M : ByteArray} {boot n : Nat} {cur : Int} (h : RingAt w r m M boot n cur) (k : ∀ i, i < w.heap.size → w'.heap[i]? = w.heap[i]?) : RingAt w' r m M boot n cur :=
  ⟨(k r h.lt.1).trans h.ring, h.keys.keep (k m h.lt.2) (fun g _ hg => k g (Sm.lt_of hg))⟩
theorem RingAt.below {w w' : World} {B r m : Nat} {M : ByteArray} {boot n : Nat} {cur : Int} (h : RingAt w r m M boot n cur) (k : Below B w w') (hB : w.heap.size ≤ B) : RingAt w' r m M boot n cur :=
  h.keep fun i hi => k.block i (by omega)
/-- A ring is kept where another one turns. -/
theorem RingAt.other {w w' : World} {r m r' m' : Nat} {M M' : ByteArray} {boot n boot' n' : Nat} {cur cur' : Int} (h : RingAt w r m M boot n cur) (h' : RingAt w r' m' M' boot' n' cur') (k : Turned w w' r' m') (hr : r ≠ r') (hm : m ≠ m') : RingAt w' r m M boot n cur := by
  obtain ⟨es, c, hm1, _⟩ := h.keys
  obtain ⟨es', c', hm2, _⟩ := h'.keys
  refine ⟨(k.block r h.lt.1 hr (ne_map h.ring hm2)).trans h.ring, h.keys.keep (k.block m h.lt.2 (ne_map h'.ring hm1).symm hm) (fun g _ hg => k.block g (Sm.lt_of hg) (ne_type hg h'.ring made_ring) (ne_map hg hm2))⟩
/-- A block of cells that is no ring's is kept. -/
theorem Turned.cells {w w' : World} {r m : Nat} {M : ByteArray} {boot n : Nat} {cur : Int} {b : Nat} {cs : Array Value} {t : TypeId} {f : Nat × Nat} (k : Turned w w' r m) (h : RingAt w r m M boot n cur) (hb : w.heap[b]? = some (.cells cs t f)) (ht : t ≠ 62) : w'.heap[b]? = some (.cells cs t f) := by
  obtain ⟨es, c, hm, _⟩ := h.keys
  exact (k.block b (Sm.lt_of hb) (ne_type hb h.ring ht) (ne_map hb hm)).trans hb
theorem grown_cells {w w' : World} {m : Nat} {es : Array MapEntry} {c : Nat} {b : Nat} {cs : Array Value} {t : TypeId} {f : Nat × Nat} (k : w.grownBy w' (some m)) (hm : w.heap[m]? = some (.map es c)) (hb : w.heap[b]? = some (.cells cs t f)) : w'.heap[b]? = some (.cells cs t f) :=
  (k.block b (Sm.lt_of hb) (fun e => ne_map hb hm (Option.some.inj e))).trans hb
/-- Where the ring's own block is set anew and its map is as it was. -/
theorem RingAt.set {w w' : World} {r m : Nat} {M : ByteArray} {boot n n' : Nat} {cur cur' : Int} (h : RingAt w r m M boot n cur) (k : w.grownBy w' (some r)) (h' : w'.heap[r]? = some (.cells (cells M boot n' cur' m) 62 (0, 0))) : RingAt w' r m M boot n' cur' := by
  refine ⟨h', h.keys.keep (k.block m h.lt.2 (fun e => h.ne (Option.some.inj e).symm)) (fun g _ hg => k.block g (Sm.lt_of hg) (fun e => ne_type hg h.ring made_ring (Option.some.inj e)))⟩

theorem RingAt.setCells {w : World} {r m : Nat} {M : ByteArray} {boot n : Nat} {cur : Int} (h : RingAt w r m M boot n cur) {E : Nat} {cs : Array Value} {t : TypeId} {f : Nat × Nat} (hE : w.heap[E]? = some (.cells cs t f)) (h1 : t ≠ 62) (h2 : t ≠ 102) (o : Nat) (vs : List Value) : RingAt (w.setCells E o vs) r m M boot n cur := by
  obtain ⟨es, c, hm, _⟩ := h.keys
  have k := Sm.grown_setCells (Sm.grown_refl w (some E)) vs o
  exact ⟨(k.block r h.lt.1 (fun e => ne_type hE h.ring h1 (Option.some.inj e).symm)).trans h.ring, h.keys.keep (k.block m h.lt.2 (fun e => ne_map hE hm (Option.some.inj e).symm)) (fun g _ hg => k.block g (Sm.lt_of hg) (fun e => ne_type hE hg h2 (Option.some.inj e).symm))⟩
theorem Turned.setCells {w w' : World} {r m : Nat} (h : Turned w w' r m) {E : Nat} (hE : w.heap.size ≤ E) (o : Nat) (vs : List Value) : Turned w (w'.setCells E o vs) r m := by
  have k := Sm.grown_setCells (Sm.grown_refl w' (some E)) vs o
  exact ⟨k.os.trans h.os, k.tape.trans h.tape, k.output.trans h.output, Nat.le_trans h.size k.size, fun i hi h1 h2 => (k.block i (Nat.lt_of_lt_of_le hi h.size) (fun e => by have := Option.some.inj e; omega)).trans (h.block i hi h1 h2)⟩
theorem RingAt.alloc {w : World} {r m : Nat} {M : ByteArray} {boot n : Nat} {cur : Int} (h : RingAt w r m M boot n cur) (o : Obj) : RingAt (w.alloc o) r m M boot n cur := h.keep fun i hi => Below.heap_alloc w o i hi
theorem RingAt.drew {w : World} {r m : Nat} {M : ByteArray} {boot n : Nat} {cur : Int} (h : RingAt w r m M boot n cur) : RingAt w.drew r m M boot n cur := ⟨h.ring, h.keys⟩
theorem RingAt.drewN {w : World} {r m : Nat} {M : ByteArray} {boot n : Nat} {cur : Int} (h : RingAt w r m M boot n cur) (k : Nat) : RingAt (w.drewN k) r m M boot n cur := ⟨h.ring, h.keys⟩
theorem Turned.alloc {w w' : World} {r m : Nat} (h : Turned w w' r m) (o : Obj) : Turned w (w'.alloc o) r m := h.trans (of_below ((Below.refl _ w').alloc (Nat.le_refl _) o))
theorem Turned.low {w w' : World} {r m : Nat} (h : Turned w w' r m) (h2 : 2 ≤ r ∧ 2 ≤ m) (hs : 2 ≤ w.heap.size) : Below 2 w w' := h.below h2.1 h2.2 hs
/-- A ring and its map lie behind the numbers of sha. -/
theorem RingAt.two {w : World} {r m : Nat} {M : ByteArray} {boot n : Nat} {cur : Int} (h : RingAt w r m M boot n cur) (hH : Sm.HAt w) (hK : Sm.KAt w) : 2 ≤ r ∧ 2 ≤ m := by
  obtain ⟨es, c, hm, _⟩ := h.keys
  have h0 := hH 0 (by decide)
  have h1 := hK 0 (by decide)
  have c0 := Sm.cells_of h.ring 0 _ (show (cells M boot n cur m)[0]? = some (.string M) from rfl)
  have r0 : r ≠ 0 := by rintro rfl; rw [c0] at h0; cases h0
  have r1 : r ≠ 1 := by rintro rfl; rw [c0] at h1; cases h1
  have m0 : m ≠ 0 := by rintro rfl; simp [World.cell?, hm] at h0
  have m1 : m ≠ 1 := by rintro rfl; simp [World.cell?, hm] at h1
  omega
/-- What a map of keys tells of a number. -/
theorem look_keys {P : Program} {w : World} {T K E : TypeId} (hT : P.underlying T = some (.map K E)) (hK : P.underlying K = some (.int .i64)) (hz : (zeroValue E).run P w = .ok (.pointer none) w) {m : Nat} {es : Array MapEntry} {c : Nat} (hm : w.heap[m]? = some (.map es c)) {M : List UInt8} (he : ∀ e ∈ es.toList, EntryAt w M e) (i : Int) :
    (∃ g, MadeAt w g (key M i) ∧ (Instr.lookup T (.map (some m)) (.int .i64 i) false).run P w = .ok (.pointer (some ⟨g, 0, none⟩)) w) ∨
    ((∀ e ∈ es.toList, e.key ≠ .int .i64 i) ∧ (Instr.lookup T (.map (some m)) (.int .i64 i) false).run P w = .ok (.pointer none) w) := by
  have hk : IsKey (.int .i64) (.int .i64 i) := by simp [IsKey]
  have hks : ∀ x ∈ es.toList, IsKey (.int .i64) x.key := fun x hx => by
    obtain ⟨j, g, a, _⟩ := he x hx
    rw [a]; simp [IsKey]
  rcases findNow_spec hk es.toList 0 hks with ⟨h1, h2⟩ | ⟨j, e, h1, h2, h3⟩
  · right
    refine ⟨h2, ?_⟩
    simp [Instr.lookup, run_underlying hT, MapKept.run_getObj_map hm, run_checkKey hK hk, run_findKey hK h1, hz, Result.andThen]
  · left
    obtain ⟨i', g, a, b, hg⟩ := he e (List.mem_of_getElem? h2)
    rw [a] at h3
    simp only [Value.int.injEq, true_and] at h3
    rw [h3] at hg
    refine ⟨g, hg, ?_⟩
    simp [Instr.lookup, run_underlying hT, MapKept.run_getObj_map hm, run_checkKey hK hk, run_findKey hK h1, b, Result.andThen]
/-- A number that the map doesn't know is told to it. -/
theorem put_keys {P : Program} {w : World} {T K E : TypeId} (hT : P.underlying T = some (.map K E)) (hK : P.underlying K = some (.int .i64)) {m : Nat} {es : Array MapEntry} {c : Nat} (hm : w.heap[m]? = some (.map es c)) (hks : ∀ e ∈ es.toList, ∃ j, e.key = .int .i64 j) (i : Int) (hn : ∀ e ∈ es.toList, e.key ≠ .int .i64 i) (v : Value) :
    (Instr.mapUpdate T (.map (some m)) (.int .i64 i) v).run P w = .ok () (setBlock w m (.map (es.push { key := .int .i64 i, val := v, born := c }) (c + 1))) := by
  have hk : IsKey (.int .i64) (.int .i64 i) := by simp [IsKey]
  have hks2 : ∀ x ∈ es.toList, IsKey (.int .i64) x.key := fun x hx => by
    obtain ⟨j, a⟩ := hks x hx
    rw [a]; simp [IsKey]
  rcases findNow_spec hk es.toList 0 hks2 with ⟨h1, h2⟩ | ⟨j, e, h1, h2, h3⟩
  · simp [Instr.mapUpdate, run_underlying hT, MapKept.run_getObj_map hm, run_checkKey hK hk, run_findKey hK h1, MapKept.run_setObj_map _ hm, Result.andThen, setBlock]
  · exact absurd h3 (hn e (List.mem_of_getElem? h2))
end Ri
end Go.Proofs.YtibpgmcpcelmpaaGreatDoor
