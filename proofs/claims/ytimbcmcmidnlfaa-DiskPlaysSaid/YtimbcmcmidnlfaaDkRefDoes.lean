/-
  An act upon a disk, beside the document's.
-/
import Derived.Test.YtimbcmcmidnlfaaDkRefNew
import Derived.Test.YtimbcmcmidnlfaaDkRun
namespace Go.Proofs.Ytimbcmcmidnlfaa
open Go.RowKit
namespace Dk
/-- The document's disk, in four cells. -/
theorem RefAt.four {w : World} {fp : Nat → Prop} {v : Value} {M : Md} (h : RefAt w fp v M) : ∃ A n c B m d f o, v = .agg #[.slice A n c, .slice B m d, .int .i64 f, .bool o] := by
  obtain ⟨A, c, B, d, ws, e, _⟩ := h
  exact ⟨_, _, _, _, _, _, _, _, e⟩
/-- The program's disk and the document's, beside one another. -/
structure Pair (Z : Nat → Option Obj) (B : Nat) (w0 w : World) (r : Nat) (fp : Nat → Prop) (v : Value) (M : Md) : Prop where
  own : Own B w0 w r fp M
  ref : RefAt w fp v M
  keep : ∀ i o, Z i = some o → w.heap[i]? = some o
  nf : ∀ i o, Z i = some o → ¬ fp i
theorem Pair.low {Z : Nat → Option Obj} {B : Nat} {w0 w w' : World} {r : Nat} {fp : Nat → Prop} {v : Value} {M : Md} (h : Pair Z B w0 w r fp v M) (k : Below w.heap.size w w') : Pair Z B w0 w' r fp v M := ⟨h.own.low k, h.ref.low k, fun i o hz => (k.block i (Sm.lt_of (h.keep i o hz))).trans (h.keep i o hz), h.nf⟩
/-- The pair, and the call's own blocks: the document's disk, the act, the result. -/
structure Fr7 (Z : Nat → Option Obj) (B : Nat) (w0 w : World) (r : Nat) (fp : Nat → Prop) (v : Value) (M : Md) (N : Nat) (b : Array Value) (cs : List Value) : Prop where
  pair : Pair Z B w0 w r fp v M
  box : w.heap[N]? = some (.cells b 59 (0, 0))
  act : w.heap[N + 1]? = some (.cells cs.toArray 66 (0, 0))
  res : w.heap[N + 2]? = some (.cells #[.slice none 0 0, .slice none 0 0, .int .i64 0, .bool false] 59 (0, 0))
  hi : ∀ k, N ≤ k → k < N + 3 → ¬ fp k
  lt0 : ∀ i o, Z i = some o → i < N
theorem Fr7.low {Z : Nat → Option Obj} {B : Nat} {w0 w w' : World} {r : Nat} {fp : Nat → Prop} {v : Value} {M : Md} {N : Nat} {b : Array Value} {cs : List Value} (h : Fr7 Z B w0 w r fp v M N b cs) (k : Below w.heap.size w w') : Fr7 Z B w0 w' r fp v M N b cs :=
  ⟨h.pair.low k, (k.block N (Sm.lt_of h.box)).trans h.box, (k.block (N + 1) (Sm.lt_of h.act)).trans h.act, (k.block (N + 2) (Sm.lt_of h.res)).trans h.res, h.hi, h.lt0⟩
theorem Fr7.ref {Z : Nat → Option Obj} {B : Nat} {w0 w w' : World} {r : Nat} {fp : Nat → Prop} {v v' : Value} {M M' : Md} {N : Nat} {b : Array Value} {cs : List Value} (h : Fr7 Z B w0 w r fp v M N b cs) (k : Below w.heap.size w w') (hr : RefAt w' fp v' M') : Fr7 Z B w0 w' r fp v M N b cs ∧ RefAt w' fp v' M' := ⟨h.low k, hr⟩
/-- An act upon the program's disk, the document's having been told already. -/
theorem Fr7.step {Z : Nat → Option Obj} {B : Nat} {w0 w w' : World} {r : Nat} {fp fp' : Nat → Prop} {v v' : Value} {M M' : Md} {N : Nat} {b : Array Value} {cs : List Value} (h : Fr7 Z B w0 w r fp v M N b cs) (hr : RefAt w fp v' M') (s : Step B w0 w w' r fp fp' M') :
    Fr7 Z B w0 w' r fp' v' M' N b cs := by
  have hk : ∀ k, N ≤ k → k < N + 3 → w'.heap[k]? = w.heap[k]? := fun k h1 h2 => s.turned.block k (by have := Sm.lt_of h.res; omega) (h.hi k h1 h2)
  have hnf : ∀ i o, Z i = some o → ¬ fp' i := fun i o hz hf => by
    rcases s.grown _ hf with e | e
    · exact h.pair.nf i o hz e
    · have := Sm.lt_of (h.pair.keep i o hz); omega
  refine ⟨⟨s.own, hr.step s, fun i o hz => (s.turned.block i (Sm.lt_of (h.pair.keep i o hz)) (h.pair.nf i o hz)).trans (h.pair.keep i o hz), hnf⟩, (hk N (Nat.le_refl _) (by omega)).trans h.box, (hk (N + 1) (by omega) (by omega)).trans h.act, (hk (N + 2) (by omega) (by omega)).trans h.res, fun k h1 h2 hf => ?_, h.lt0⟩
  rcases s.grown k hf with e | e
  · exact h.hi k h1 h2 e
  · have := Sm.lt_of h.res; omega
theorem RefAt.cells4 {w w' : World} {fp : Nat → Prop} {v : Value} {M : Md} (h : RefAt w fp v M) {P : Nat} {A : Option Addr} {n c : Nat} (hP : w.cell? ⟨P, 0, none⟩ = some (.slice A n c)) (k : ∀ i, i ≠ P → w'.heap[i]? = w.heap[i]?) (hs : w'.heap.size = w.heap.size) : RefAt w' fp v M := by
  obtain ⟨A', c', B, d, ws, e, h1, h2, h3, h4, h5, h6⟩ := h
  refine ⟨A', c', B, d, ws, e, ?_, ?_, h3, fun g hg => ⟨by rw [hs]; exact (h4 g hg).1, (h4 g hg).2⟩, fun g hg => ⟨by rw [hs]; exact (h5 g hg).1, (h5 g hg).2⟩, h6⟩
  · obtain ⟨A2, c2, e2, hh⟩ := h1
    refine ⟨A2, c2, e2, hh.imp id fun ⟨g, e1, e3, e4, hc⟩ => ⟨g, e1, e3, by rw [hs]; exact e4, fun i hi => ?_⟩⟩
    have hne : g ≠ P := fun e => by
      subst e
      have := hc 0 (by omega)
      rw [hP] at this
      cases this
    rw [← hc i hi]; simp only [World.cell?, k g hne]
  · obtain ⟨A2, c2, e2, hh⟩ := h2
    refine ⟨A2, c2, e2, hh.imp id fun ⟨g, e1, e3, e4, hc⟩ => ⟨g, e1, e3, by rw [hs]; exact e4, fun i hi => ?_⟩⟩
    have hne : g ≠ P := fun e => by
      subst e
      have := (hc 0 (by omega)).1
      rw [Nat.mul_zero, hP] at this
      cases this
    rw [← (hc i hi).1, ← (hc i hi).2]; simp only [World.cell?, k g hne]; exact ⟨trivial, trivial⟩
theorem Fr7.cells4 {Z : Nat → Option Obj} {B : Nat} {w0 w : World} {r : Nat} {fp : Nat → Prop} {v : Value} {M : Md} {N : Nat} {b : Array Value} {cs : List Value} (h : Fr7 Z B w0 w r fp v M N b cs) {P : Nat} {A : Option Addr} {n c : Nat} (hP : w.cell? ⟨P, 0, none⟩ = some (.slice A n c)) (hPN : N + 2 < P) (hPf : ¬ fp P) (hB : B ≤ P) (x0 x1 x2 x3 : Value) :
    Fr7 Z B w0 ((((w.setCell ⟨P, 0, none⟩ x0).setCell ⟨P, 1, none⟩ x1).setCell ⟨P, 2, none⟩ x2).setCell ⟨P, 3, none⟩ x3) r fp v M N b cs :=
  ⟨⟨h.pair.own.other (q := fun k => k = P) ⟨rfl, rfl, rfl, by simp, fun i _ hn => set4_other _ _ _ _ _ _ i hn⟩ (fun k hk e => hPf (e ▸ hk)) (fun k e => by rw [e]; exact hB), h.pair.ref.cells4 hP (fun i hn => set4_other _ _ _ _ _ _ i hn) (by simp), fun i o hz => (set4_other _ _ _ _ _ _ i (by have := h.lt0 i o hz; omega)).trans (h.pair.keep i o hz), h.pair.nf⟩,
    (set4_other _ _ _ _ _ _ N (by omega)).trans h.box, (set4_other _ _ _ _ _ _ (N + 1) (by omega)).trans h.act, (set4_other _ _ _ _ _ _ (N + 2) (by omega)).trans h.res, h.hi, h.lt0⟩
/-- The result's cells are laid. -/
theorem Fr7.fin {Z : Nat → Option Obj} {B : Nat} {w0 w : World} {r : Nat} {fp : Nat → Prop} {v : Value} {M : Md} {N : Nat} {b : Array Value} {cs : List Value} (h : Fr7 Z B w0 w r fp v M N b cs) (x0 x1 x2 x3 : Value) (hB : B ≤ N) :
    Pair Z B w0 ((((w.setCell ⟨N + 2, 0, none⟩ x0).setCell ⟨N + 2, 1, none⟩ x1).setCell ⟨N + 2, 2, none⟩ x2).setCell ⟨N + 2, 3, none⟩ x3) r fp v M :=
  ⟨h.pair.own.other (q := fun k => k = N + 2) ⟨rfl, rfl, rfl, by simp, fun i _ hn => set4_other _ _ _ _ _ _ i hn⟩ (fun k hk e => h.hi (N + 2) (by omega) (by omega) (e ▸ hk)) (fun k e => by rw [e]; omega), h.pair.ref.cells4 (Sm.cells_of h.res 0 _ rfl) (fun i hn => set4_other _ _ _ _ _ _ i hn) (by simp), fun i o hz => (set4_other _ _ _ _ _ _ i (by have := h.lt0 i o hz; omega)).trans (h.pair.keep i o hz), h.pair.nf⟩
theorem RefAt.fuse {w : World} {fp : Nat → Prop} {M : Md} {A B : Option Addr} {n c m d : Nat} {f : Int} {o : Bool} (h : RefAt w fp (.agg #[.slice A n c, .slice B m d, .int .i64 f, .bool o]) M) (x : Int) :
    RefAt w fp (.agg #[.slice A n c, .slice B m d, .int .i64 (max x (-1)), .bool o]) { M with fuse := x } := by
  obtain ⟨A', c', B', d', ws, e, h1, h2, h3, h4⟩ := h
  simp only [Value.agg.injEq, Array.mk.injEq, List.cons.injEq, Value.slice.injEq, Value.int.injEq, Value.bool.injEq, and_true, true_and] at e
  obtain ⟨⟨rfl, rfl, rfl⟩, ⟨rfl, rfl, rfl⟩, rfl, rfl⟩ := e
  exact ⟨A, c, B, d, ws, rfl, h1, h2, ⟨h3.waits, h3.lt⟩, h4⟩
theorem Fr7.box2 {Z : Nat → Option Obj} {B : Nat} {w0 w : World} {r : Nat} {fp : Nat → Prop} {v : Value} {M : Md} {N : Nat} {A : Option Addr} {n c : Nat} {x1 x2 x3 : Value} {cs : List Value} (h : Fr7 Z B w0 w r fp v M N #[.slice A n c, x1, x2, x3] cs) (hB : B ≤ N) (y : Value) :
    Fr7 Z B w0 (w.setCell ⟨N, 2, none⟩ y) r fp v M N #[.slice A n c, x1, y, x3] cs :=
  have hh : ∀ i, i ≠ N → (w.setCell ⟨N, 2, none⟩ y).heap[i]? = w.heap[i]? := fun i hi => Below.heap_setCell _ _ _ _ hi
  ⟨⟨h.pair.own.other (q := fun k => k = N) ⟨rfl, rfl, rfl, by simp, fun i _ hn => hh i hn⟩ (fun k hk e => h.hi N (Nat.le_refl _) (by omega) (e ▸ hk)) (fun k e => by rw [e]; exact hB), h.pair.ref.cells4 (Sm.cells_of h.box 0 _ rfl) hh (by simp), fun i o hz => (hh i (by have := h.lt0 i o hz; omega)).trans (h.pair.keep i o hz), h.pair.nf⟩,
    Sm.heap_set h.box 2 y, (hh _ (by omega)).trans h.act, (hh _ (by omega)).trans h.res, h.hi, h.lt0⟩
theorem Fr7.step2 {Z : Nat → Option Obj} {B : Nat} {w0 w w' w'' : World} {r : Nat} {fp fp' : Nat → Prop} {v v' : Value} {M M' : Md} {N : Nat} {b : Array Value} {cs : List Value} (h : Fr7 Z B w0 w r fp v M N b cs) (s : Step B w0 w w' r fp fp' M') (k : Below w'.heap.size w' w'') (hr : RefAt w'' fp' v' M') :
    Fr7 Z B w0 w'' r fp' v' M' N b cs := by
  have hs := s.turned.size
  have hk : ∀ i, N ≤ i → i < N + 3 → w''.heap[i]? = w.heap[i]? := fun i h1 h2 => by
    have := Sm.lt_of h.res
    exact (k.block i (by omega)).trans (s.turned.block i (by omega) (h.hi i h1 h2))
  have hnf : ∀ i o, Z i = some o → ¬ fp' i := fun i o hz hf => by
    rcases s.grown _ hf with e | e
    · exact h.pair.nf i o hz e
    · have := Sm.lt_of (h.pair.keep i o hz); omega
  refine ⟨⟨s.own.low k, hr, fun i o hz => (k.block i (by have := Sm.lt_of (h.pair.keep i o hz); omega)).trans ((s.turned.block i (Sm.lt_of (h.pair.keep i o hz)) (h.pair.nf i o hz)).trans (h.pair.keep i o hz)), hnf⟩, (hk N (Nat.le_refl _) (by omega)).trans h.box, (hk (N + 1) (by omega) (by omega)).trans h.act, (hk (N + 2) (by omega) (by omega)).trans h.res, fun k h1 h2 hf => ?_, h.lt0⟩
  rcases s.grown k hf with e | e
  · exact h.hi k h1 h2 e
  · have := Sm.lt_of h.res; omega
theorem read_ref {w : World} {fp : Nat → Prop} {v : Value} {M : Md} (h : RefAt w fp v M) (hq : waits M ≤ 1099511627775) (i : Int) :
    Calls Try.prog 54 #[v, .int .i64 i] w fun e w' => e = .returned (.tuple #[.string ⟨(readOf M i).1.toArray⟩, .int .i64 (readOf M i).2]) ∧ Below w.heap.size w w' := by
  obtain ⟨A, c, B, d, ws, rfl, h1, h2, h3, _⟩ := h
  rw [read_like h3]
  exact r7Read_any w 0 A c d B M.lasts ws _ _ h1 h2 (by rw [← h3.count]; omega) i
theorem info_dsk {c : List Value} (h : c.length = 4) : (Try.prog.info? 59).map (·.size) = some c.length := by rw [h]; kernel_rfl
theorem info_act7 {c : List Value} (h : c.length = 7) : (Try.prog.info? 66).map (·.size) = some c.length := by rw [h]; kernel_rfl
end Dk
set_option maxRecDepth 100000 in
set_option maxHeartbeats 4000000 in
theorem does7_any {Z : Nat → Option Obj} {B : Nat} {w0 w : World} {r : Nat} {fp : Nat → Prop} {v : Value} {M : Dk.Md} (h : Dk.Pair Z B w0 w r fp v M) (hq : Dk.waits M ≤ 1099511627775) (x : Dk.Ac) (hok : x.Ok w0) (hB : B = w0.heap.size) (hx : x.x.size ≤ 9223372036854775807) :
    Calls Try.prog 29 #[.pointer (some ⟨r, 0, none⟩), v, .agg x.cells.toArray] w fun e w' => ∃ v' fp', e = .returned (.tuple #[v', .bool true]) ∧ Dk.Pair Z B w0 w' r fp' v' (Dk.doAct M x) := by
  obtain ⟨sA, sn, sc, sB, sm, sd, f, o, rfl⟩ := h.ref.four
  obtain ⟨N, hN⟩ : ∃ n, n = w.heap.size := ⟨_, rfl⟩
  obtain ⟨cs, hcs⟩ : ∃ c, c = x.cells := ⟨_, rfl⟩
  have hcl : cs.length = 7 := by rw [hcs]; rfl
  obtain ⟨w1, hw1⟩ : ∃ y, y = ((w.alloc (.cells #[.slice sA sn sc, .slice sB sm sd, .int .i64 f, .bool o] 59)).alloc (.cells cs.toArray 66)).alloc (.cells #[.slice none 0 0, .slice none 0 0, .int .i64 0, .bool false] 59) := ⟨_, rfl⟩
  have b1 : Below w.heap.size w w1 := by rw [hw1]; exact (((Below.refl _ w).alloc (Nat.le_refl _) _).alloc (by simp) _).alloc (by simp; omega) _
  have h1 := h.low b1
  have g1 : w1.heap[N]? = some (.cells #[.slice sA sn sc, .slice sB sm sd, .int .i64 f, .bool o] 59 (0, 0)) := by rw [hw1, hN, Below.heap_alloc _ _ _ (by simp; omega), Below.heap_alloc _ _ _ (by simp)]; exact heap_alloc_new w _
  have a1 : w1.heap[N + 1]? = some (.cells cs.toArray 66 (0, 0)) := by
    have := heap_alloc_new (w.alloc (.cells #[.slice sA sn sc, .slice sB sm sd, .int .i64 f, .bool o] 59)) (.cells cs.toArray 66)
    rw [World.size_alloc] at this
    rw [hw1, hN, Below.heap_alloc _ _ _ (by simp)]; exact this
  have r1 : w1.heap[N + 2]? = some (.cells #[.slice none 0 0, .slice none 0 0, .int .i64 0, .bool false] 59 (0, 0)) := by
    have := heap_alloc_new ((w.alloc (.cells #[.slice sA sn sc, .slice sB sm sd, .int .i64 f, .bool o] 59)).alloc (.cells cs.toArray 66)) (.cells #[.slice none 0 0, .slice none 0 0, .int .i64 0, .bool false] 59)
    rw [World.size_alloc, World.size_alloc] at this
    rw [hw1, hN]; exact this
  have hfN : ∀ k, N ≤ k → ¬ fp k := fun k hk hf => by have := h.own.lt k hf; omega
  have HW1 := Lib.hid hw1
  have HN := Lib.hid hN
  have HCS := Lib.hid hcs
  rw [← hcs]
  have d0 : w1.cell? ⟨N + 1, 0, none⟩ = some (.int .i64 x.d) := Sm.cells_of a1 0 _ (by rw [hcs]; rfl)
  have d1 : w1.cell? ⟨N + 1, 1, none⟩ = some (.int .i64 x.i) := Sm.cells_of a1 1 _ (by rw [hcs]; rfl)
  have d2 : w1.cell? ⟨N + 1, 2, none⟩ = some (.int .i64 x.n) := Sm.cells_of a1 2 _ (by rw [hcs]; rfl)
  have d4 : w1.cell? ⟨N + 1, 4, none⟩ = some (.string x.x) := Sm.cells_of a1 4 _ (by rw [hcs]; rfl)
  have d6 : w1.cell? ⟨N + 1, 6, none⟩ = some x.kv := Sm.cells_of a1 6 _ (by rw [hcs]; rfl)
  have c0 := Sm.cells_of g1 0 _ rfl
  have c1 := Sm.cells_of g1 1 _ rfl
  have c2 := Sm.cells_of g1 2 _ rfl
  have c3 := Sm.cells_of g1 3 _ rfl
  have HBN : B ≤ N := by rw [hN]; exact h.own.size
  have F1 : Dk.Fr7 Z B w0 w1 r fp (.agg #[.slice sA sn sc, .slice sB sm sd, .int .i64 f, .bool o]) M N #[.slice sA sn sc, .slice sB sm sd, .int .i64 f, .bool o] cs := ⟨h1, g1, a1, r1, fun k hk _ => hfN k hk, fun i o hz => by rw [hN]; exact Sm.lt_of (h.keep i o hz)⟩
  have HQ := Lib.hid hq
  have DA : Hid (∀ wx : World, Calls Try.prog 48 #[.agg cs.toArray] wx fun e w' => e = .returned (.string ⟨(Dk.data x).toArray⟩) ∧ Below wx.heap.size wx w') := fun wx => by rw [hcs]; exact data7_any wx x
  clear h b1 hN hw1 hcs hq
  go_enter Try.func29, Try.ntmps29
  go_upto_region 1 with (fail)
  rw [← HW1.out, ← HN.out]
  by_cases e0 : x.d = 0
  · rw [e0] at d0
    have E0 := Lib.hid e0
    clear h1 g1 a1 r1 hfN d1 d2 d4 d6 c0 c1 c2 c3 e0
    obtain ⟨ds, hds⟩ : ∃ ds : ByteArray, ds = ⟨(Dk.data x).toArray⟩ := ⟨_, rfl⟩
    have hdsl : ds.data.toList = Dk.data x := by rw [hds]
    rw [← hds] at DA
    have HDS := Lib.hid hdsl
    clear hds hdsl
    obtain ⟨bl, hbl⟩ : ∃ b : List Value, b = [.slice sA sn sc, .slice sB sm sd, .int .i64 f, .bool o] := ⟨_, rfl⟩
    have hba : bl.toArray = #[.slice sA sn sc, .slice sB sm sd, .int .i64 f, .bool o] := by rw [hbl]
    have hbl4 : bl.length = 4 := by rw [hbl]; rfl
    have HBA := Lib.hid hba
    clear hbl
    obtain ⟨er, her⟩ : ∃ e, e = (Dk.write M x.i (Dk.data x)).2 := ⟨_, rfl⟩
    have WR : Hid (∀ wx : World, Dk.Pair Z B w0 wx r fp (.agg #[.slice sA sn sc, .slice sB sm sd, .int .i64 f, .bool o]) M → Calls Try.prog 47 #[.agg #[.slice sA sn sc, .slice sB sm sd, .int .i64 f, .bool o], .int .i64 x.i, .string ds] wx fun e w' => ∃ v', e = .returned (.tuple #[v', .int .i64 er]) ∧ Dk.RefAt w' fp v' (Dk.write M x.i (Dk.data x)).1 ∧ Below wx.heap.size wx w') := fun wx hp => by
      have := r7Write_any wx fp _ M hp.own.disk.ok hp.ref hp.own.lt HQ.out x.i ds
      rw [HDS.out, ← her] at this
      exact this
    have WP : Hid (∀ (wx : World) (fpx : Nat → Prop), Dk.Own B w0 wx r fpx M → Calls Try.prog 41 #[.pointer (some ⟨r, 0, none⟩), .int .i64 x.i, .string ds] wx fun e w' => ∃ fp', e = .returned (.int .i64 er) ∧ Dk.Step B w0 wx w' r fpx fp' (Dk.write M x.i (Dk.data x)).1) := fun wx fpx ho => by
      have := Dk.write_in ho (by have := HQ.out; omega) x.i ds
      rw [HDS.out, ← her] at this
      exact this
    have HER := Lib.hid her
    clear her
    go_upto_region 3 with (fail)
    replace F1 : Dk.Fr7 Z B w0 w1 r fp (.agg #[.slice sA sn sc, .slice sB sm sd, .int .i64 f, .bool o]) M N bl.toArray cs := by rw [HBA.out]; exact F1
    replace F1 := F1.low ((Below.refl _ w1).drew)
    refine wp_region_held_drew (S := (fun w' => w'.heap[N]? = some (.cells bl.toArray 59 (0, 0)) ∧ w'.heap[N + 1]? = some (.cells cs.toArray 66 (0, 0)))) (by kernel_rfl) ⟨F1.box, F1.act⟩ (fun hHeld => ?_)
    generalize w1.drew = wd at *
    refine wpAnyH_take (i := 0) (oi := ⟨some 23, _, _, _, _, _⟩) (v := .agg bl.toArray) rfl (by kernel_rfl) (by kernel_rfl) (by kernel_rfl) (fun _ _ _ h => h) (yieldsIf_load_mid (by rfl) _ _ rfl _ _ rfl bl _ (fun w hS => (Sm.range_row hS.1)) Try.underlying59 rfl (Dk.info_dsk hbl4)) (by assumption) ?_
    simp only [Act.put, List.setIfInBounds_toArray, List.set_cons_zero, List.set_cons_succ]
    refine wpAnyH_take (i := 1) (oi := ⟨some 24, _, _, _, _, _⟩) (v := .pointer (some ⟨N + 1, 1, none⟩)) rfl (by kernel_rfl) (by kernel_rfl) (by kernel_rfl) (fun _ _ _ h => h) (Or.inl ⟨by rfl, ?_⟩) (by assumption) ?_
    · intro w hSw; (try dsimp only at hSw); go_simp
    simp only [Act.put, List.setIfInBounds_toArray, List.set_cons_zero, List.set_cons_succ]
    refine wpAnyH_take (i := 2) (oi := ⟨some 25, _, _, _, _, _⟩) (v := .int .i64 x.i) rfl (by kernel_rfl) (by kernel_rfl) (by kernel_rfl) (fun _ _ _ h => h) (Or.inl ⟨by rfl, ?_⟩) (by assumption) ?_
    · intro w hSw; (try dsimp only at hSw); have d1 : w.cell? ⟨N + 1, 1, none⟩ = some (.int .i64 x.i) := Sm.cells_of hSw.2 1 _ (by rw [HCS.out]; rfl); go_simp
    simp only [Act.put, List.setIfInBounds_toArray, List.set_cons_zero, List.set_cons_succ]
    refine wpAnyH_take (i := 3) (oi := ⟨some 26, _, _, _, _, _⟩) (v := .agg cs.toArray) rfl (by kernel_rfl) (by kernel_rfl) (by kernel_rfl) (fun _ _ _ h => h) (yieldsIf_load_mid (by rfl) _ _ rfl _ _ rfl cs _ (fun w hS => (Sm.range_row hS.2)) Try.underlying66 rfl (Dk.info_act7 hcl)) (by assumption) ?_
    simp only [Act.put, List.setIfInBounds_toArray, List.set_cons_zero, List.set_cons_succ]
    refine wpAnyH_ready (rs := [4, 9]) (by kernel_rfl) (by simp) ?_
    refine (AllReadyH.cons (o := ⟨some 27, _, _, _, _, _⟩) rfl (fun K hK => ?_) (AllReadyH.cons (o := ⟨some 8, _, _, _, _, _⟩) rfl (fun K hK => ?_) AllReadyH.nil))
    · go_simp
      refine (DA.out _).mono ?_
      rintro e u1 ⟨rfl, b1⟩
      have F2 := F1.low b1
      refine hK.out _ _ ⟨F2.box, F2.act⟩ (fun hHeld => ?_)
      clear hK K
      refine wpAnyH_ready (rs := [5, 9]) (by kernel_rfl) (by simp) ?_
      refine (AllReadyH.cons (o := ⟨some 28, _, _, _, _, _⟩) rfl (fun K hK => ?_) (AllReadyH.cons (o := ⟨some 8, _, _, _, _, _⟩) rfl (fun K hK => ?_) AllReadyH.nil))
      · go_simp
        refine (WR.out _ F2.pair).mono ?_
        rintro e u2 ⟨vn, rfl, href, b2⟩
        have F3 := F2.low b2
        obtain ⟨tA, tn, tc, tB, tm, td, f2, o2, rfl⟩ := href.four
        have hfour : True := trivial
        refine hK.out _ _ ⟨F3.box, F3.act⟩ (fun hHeld => ?_)
        clear hK K
        refine wpAnyH_take (i := 6) (oi := ⟨some 22, _, _, _, _, _⟩) (v := .tuple #[.agg #[.slice tA tn tc, .slice tB tm td, .int .i64 f2, .bool o2], .int .i64 er]) rfl (by kernel_rfl) (by kernel_rfl) (by kernel_rfl) (fun _ _ _ h => h) (Or.inl ⟨by rfl, ?_⟩) (by assumption) ?_
        · intro w hSw; (try dsimp only at hSw); go_simp
        simp only [Act.put, List.setIfInBounds_toArray, List.set_cons_zero, List.set_cons_succ]
        refine wpAnyH_take (i := 7) (oi := ⟨some 29, _, _, _, _, _⟩) (v := .agg #[.slice tA tn tc, .slice tB tm td, .int .i64 f2, .bool o2]) rfl (by kernel_rfl) (by kernel_rfl) (by kernel_rfl) (fun _ _ _ h => h) (Or.inl ⟨by rfl, ?_⟩) (by assumption) ?_
        · intro w hSw; (try dsimp only at hSw); go_simp
        simp only [Act.put, List.setIfInBounds_toArray, List.set_cons_zero, List.set_cons_succ]
        refine wpAnyH_take (i := 8) (oi := ⟨some 30, _, _, _, _, _⟩) (v := .int .i64 er) rfl (by kernel_rfl) (by kernel_rfl) (by kernel_rfl) (fun _ _ _ h => h) (Or.inl ⟨by rfl, ?_⟩) (by assumption) ?_
        · intro w hSw; (try dsimp only at hSw); go_simp
        simp only [Act.put, List.setIfInBounds_toArray, List.set_cons_zero, List.set_cons_succ]
        refine wpAnyH_ready (rs := [9]) (by kernel_rfl) (by simp) ?_
        refine (AllReadyH.cons (o := ⟨some 8, _, _, _, _, _⟩) rfl (fun K hK => ?_) AllReadyH.nil)
        · rw [if_pos (by simp [Region.wanted])]
          go_simp
          have b3 : Below u2.heap.size u2 (u2.alloc (.cells #[.slice none 0 0, .slice none 0 0, .int .i64 0, .bool false] 59)) := (Below.refl _ u2).alloc (Nat.le_refl _) _
          have F4 := F3.low b3
          have w3r := href.low b3
          have p3 := heap_alloc_new u2 (.cells #[.slice none 0 0, .slice none 0 0, .int .i64 0, .bool false] 59)
          have hPlt : u2.heap.size ≤ u2.heap.size := Nat.le_refl _
          have hPN : N + 2 < u2.heap.size := Sm.lt_of F3.res
          have hPf : ¬ fp u2.heap.size := fun hf => by have := F3.pair.own.lt _ hf; omega
          obtain ⟨P, hP⟩ : ∃ P, P = u2.heap.size := ⟨_, rfl⟩
          rw [← hP] at p3 hPN hPf ⊢
          clear hPlt hP
          generalize u2.alloc (.cells #[.slice none 0 0, .slice none 0 0, .int .i64 0, .bool false] 59) = u3 at *
          refine hK.out _ _ ⟨F4.box, F4.act⟩ (fun hHeld => ?_)
          clear hK K
          replace href := w3r
          refine wpAnyH_ready (rs := [10]) (by kernel_rfl) (by simp) ?_
          refine (AllReadyH.cons (o := ⟨none, _, _, _, _, _⟩) rfl (fun K hK => ?_) AllReadyH.nil)
          · have x0 := Sm.cells_of p3 0 _ rfl
            have x1 := Sm.cells_of p3 1 _ rfl
            have x2 := Sm.cells_of p3 2 _ rfl
            have x3 := Sm.cells_of p3 3 _ rfl
            have f0 := Sm.free_of p3 0
            have f1 := Sm.free_of p3 1
            have f2' := Sm.free_of p3 2
            have f3 := Sm.free_of p3 3
            go_simp
            have G9 := F4.cells4 (Sm.cells_of p3 0 _ rfl) hPN hPf (by have := HBN; omega) (.slice tA tn tc) (.slice tB tm td) (.int .i64 f2) (.bool o2)
            have p9 := Dk.set4 p3 rfl (.slice tA tn tc) (.slice tB tm td) (.int .i64 f2) (.bool o2)
            have h9 := href.cells4 (Sm.cells_of p3 0 _ rfl) (fun i hn => Dk.set4_other u3 P (.slice tA tn tc) (.slice tB tm td) (.int .i64 f2) (.bool o2) i hn) (by simp)
            clear x0 x1 x2 x3 f0 f1 f2' f3
            generalize ((((u3.setCell ⟨P, 0, none⟩ (.slice tA tn tc)).setCell ⟨P, 1, none⟩ (.slice tB tm td)).setCell ⟨P, 2, none⟩ (.int .i64 f2)).setCell ⟨P, 3, none⟩ (.bool o2)) = v9 at *
            refine hK.out _ _ ⟨G9.box, G9.act⟩ (fun hHeld => ?_)
            clear hK K
            refine wpAnyH_take (i := 11) (oi := ⟨some 9, _, _, _, _, _⟩) (v := .int .i64 er) rfl (by kernel_rfl) (by kernel_rfl) (by kernel_rfl) (fun _ _ _ h => h) (Or.inl ⟨by rfl, ?_⟩) (by assumption) ?_
            · intro w hSw; (try dsimp only at hSw); go_simp
            simp only [Act.put, List.setIfInBounds_toArray, List.set_cons_zero, List.set_cons_succ]
            refine wpAnyH_done (by kernel_rfl) ?_ _
            have G := Lib.hid G9
            have H9 := Lib.hid h9
            have P9 := Lib.hid p9
            obtain ⟨ql, hql⟩ : ∃ q : List Value, q = [.slice tA tn tc, .slice tB tm td, .int .i64 f2, .bool o2] := ⟨_, rfl⟩
            have hqa : ql.toArray = #[.slice tA tn tc, .slice tB tm td, .int .i64 f2, .bool o2] := by rw [hql]
            have hql4 : ql.length = 4 := by rw [hql]; rfl
            have HQA := Lib.hid hqa
            go_upto_region 4 with (fail)
            replace G9 : Dk.Fr7 Z B w0 v9.drew r fp (.agg #[.slice sA sn sc, .slice sB sm sd, .int .i64 f, .bool o]) M N bl.toArray cs := G9.low ((Below.refl _ v9).drew)
            replace h9 := h9.low ((Below.refl _ v9).drew)
            replace p9 : v9.drew.heap[P]? = some (.cells ql.toArray 59 (0, 0)) := by rw [hqa]; exact p9
            clear hqa hql
            refine wp_region_held_drew (S := (fun w' => w'.heap[P]? = some (.cells ql.toArray 59 (0, 0)) ∧ w'.heap[N + 1]? = some (.cells cs.toArray 66 (0, 0)))) (by kernel_rfl) ⟨p9, G9.act⟩ (fun hHeld => ?_)
            generalize v9.drew = vd at *
            refine wpAnyH_take (i := 0) (oi := ⟨some 31, _, _, _, _, _⟩) (v := .agg ql.toArray) rfl (by kernel_rfl) (by kernel_rfl) (by kernel_rfl) (fun _ _ _ h => h) (yieldsIf_load_mid (by rfl) _ _ rfl _ _ rfl ql _ (fun w hS => (Sm.range_row hS.1)) Try.underlying59 rfl (Dk.info_dsk hql4)) (by assumption) ?_
            simp only [Act.put, List.setIfInBounds_toArray, List.set_cons_zero, List.set_cons_succ]
            refine wpAnyH_take (i := 1) (oi := ⟨some 32, _, _, _, _, _⟩) (v := .pointer (some ⟨r, 0, none⟩)) rfl (by kernel_rfl) (by kernel_rfl) (by kernel_rfl) (fun _ _ _ h => h) (Or.inl ⟨by rfl, ?_⟩) (by assumption) ?_
            · intro w hSw; (try dsimp only at hSw); go_simp
            simp only [Act.put, List.setIfInBounds_toArray, List.set_cons_zero, List.set_cons_succ]
            refine wpAnyH_take (i := 2) (oi := ⟨some 33, _, _, _, _, _⟩) (v := .pointer (some ⟨N + 1, 1, none⟩)) rfl (by kernel_rfl) (by kernel_rfl) (by kernel_rfl) (fun _ _ _ h => h) (Or.inl ⟨by rfl, ?_⟩) (by assumption) ?_
            · intro w hSw; (try dsimp only at hSw); go_simp
            simp only [Act.put, List.setIfInBounds_toArray, List.set_cons_zero, List.set_cons_succ]
            refine wpAnyH_take (i := 3) (oi := ⟨some 34, _, _, _, _, _⟩) (v := .int .i64 x.i) rfl (by kernel_rfl) (by kernel_rfl) (by kernel_rfl) (fun _ _ _ h => h) (Or.inl ⟨by rfl, ?_⟩) (by assumption) ?_
            · intro w hSw; (try dsimp only at hSw); have d1 : w.cell? ⟨N + 1, 1, none⟩ = some (.int .i64 x.i) := Sm.cells_of hSw.2 1 _ (by rw [HCS.out]; rfl); go_simp
            simp only [Act.put, List.setIfInBounds_toArray, List.set_cons_zero, List.set_cons_succ]
            refine wpAnyH_take (i := 4) (oi := ⟨some 35, _, _, _, _, _⟩) (v := .agg cs.toArray) rfl (by kernel_rfl) (by kernel_rfl) (by kernel_rfl) (fun _ _ _ h => h) (yieldsIf_load_mid (by rfl) _ _ rfl _ _ rfl cs _ (fun w hS => (Sm.range_row hS.2)) Try.underlying66 rfl (Dk.info_act7 hcl)) (by assumption) ?_
            simp only [Act.put, List.setIfInBounds_toArray, List.set_cons_zero, List.set_cons_succ]
            refine wpAnyH_take (i := 7) (oi := ⟨some 38, _, _, _, _, _⟩) (v := .int .i64 er) rfl (by kernel_rfl) (by kernel_rfl) (by kernel_rfl) (fun _ _ _ h => h) (Or.inl ⟨by rfl, ?_⟩) (by assumption) ?_
            · intro w hSw; (try dsimp only at hSw); go_simp
            simp only [Act.put, List.setIfInBounds_toArray, List.set_cons_zero, List.set_cons_succ]
            refine wpAnyH_ready (rs := [5]) (by kernel_rfl) (by simp) ?_
            refine (AllReadyH.cons (o := ⟨some 36, _, _, _, _, _⟩) rfl (fun K hK => ?_) AllReadyH.nil)
            go_simp
            refine (DA.out _).mono ?_
            rintro e va ⟨rfl, ba⟩
            have Ga := G9.low ba
            have ha' := h9.low ba
            have pa := (ba.block P (Sm.lt_of p9)).trans p9
            refine hK.out _ _ ⟨pa, Ga.act⟩ (fun hHeld => ?_)
            clear hK K
            refine wpAnyH_ready (rs := [6]) (by kernel_rfl) (by simp) ?_
            refine (AllReadyH.cons (o := ⟨some 37, _, _, _, _, _⟩) rfl (fun K hK => ?_) AllReadyH.nil)
            go_simp
            refine (WP.out _ _ Ga.pair.own).mono ?_
            rintro e vb ⟨fpb, rfl, sb⟩
            have Gb := Ga.step ha' sb
            have pb := (sb.turned.block P (Sm.lt_of pa) hPf).trans pa
            refine hK.out _ _ ⟨pb, Gb.act⟩ (fun hHeld => ?_)
            clear hK K
            refine wpAnyH_take (i := 8) (oi := ⟨some 39, _, _, _, _, _⟩) (v := .bool true) rfl (by kernel_rfl) (by kernel_rfl) (by kernel_rfl) (fun _ _ _ h => h) (Or.inl ⟨by rfl, ?_⟩) (by assumption) ?_
            · intro w hSw; (try dsimp only at hSw); go_simp
            simp only [Act.put, List.setIfInBounds_toArray, List.set_cons_zero, List.set_cons_succ]
            have GB := Lib.hid Gb.pair
            have hNP : N + 2 ≠ P := by omega
            have hr2 : vb.heap[N + 1 + 1]? = _ := Gb.res
            have y0 := Sm.cells_of hr2 0 _ rfl
            have y1 := Sm.cells_of hr2 1 _ rfl
            have y2 := Sm.cells_of hr2 2 _ rfl
            have y3 := Sm.cells_of hr2 3 _ rfl
            have q0 := Sm.free_of hr2 0
            have q1 := Sm.free_of hr2 1
            have q2 := Sm.free_of hr2 2
            have q3 := Sm.free_of hr2 3
            have GE : Hid (Dk.Pair Z B w0 ((((vb.setCell ⟨N + 1 + 1, 0, none⟩ (.slice tA tn tc)).setCell ⟨N + 1 + 1, 1, none⟩ (.slice tB tm td)).setCell ⟨N + 1 + 1, 2, none⟩ (.int .i64 f2)).setCell ⟨N + 1 + 1, 3, none⟩ (.bool o2)) r fpb (.agg #[.slice tA tn tc, .slice tB tm td, .int .i64 f2, .bool o2]) (Dk.write M x.i (Dk.data x)).1) := Gb.fin (.slice tA tn tc) (.slice tB tm td) (.int .i64 f2) (.bool o2) HBN
            have hS9 : ((((vb.setCell ⟨N + 1 + 1, 0, none⟩ (.slice tA tn tc)).setCell ⟨N + 1 + 1, 1, none⟩ (.slice tB tm td)).setCell ⟨N + 1 + 1, 2, none⟩ (.int .i64 f2)).setCell ⟨N + 1 + 1, 3, none⟩ (.bool o2)).heap[P]? = some (.cells ql.toArray 59 (0, 0)) ∧ ((((vb.setCell ⟨N + 1 + 1, 0, none⟩ (.slice tA tn tc)).setCell ⟨N + 1 + 1, 1, none⟩ (.slice tB tm td)).setCell ⟨N + 1 + 1, 2, none⟩ (.int .i64 f2)).setCell ⟨N + 1 + 1, 3, none⟩ (.bool o2)).heap[N + 1]? = some (.cells cs.toArray 66 (0, 0)) := And.intro ((Dk.set4_other vb (N + 2) (.slice tA tn tc) (.slice tB tm td) (.int .i64 f2) (.bool o2) P (by omega)).trans pb) ((Dk.set4_other vb (N + 2) (.slice tA tn tc) (.slice tB tm td) (.int .i64 f2) (.bool o2) (N + 1) (by omega)).trans Gb.act)
            have r9 := Dk.set4 hr2 rfl (.slice tA tn tc) (.slice tB tm td) (.int .i64 f2) (.bool o2)
            refine wpAnyH_ready (rs := [9]) (by kernel_rfl) (by simp) ?_
            refine (AllReadyH.cons (o := ⟨none, _, _, _, _, _⟩) rfl (fun K hK => ?_) AllReadyH.nil)
            rw [HQA.out]
            go_simp
            clear y0 y1 y2 y3 q0 q1 q2 q3 hr2
            generalize ((((vb.setCell ⟨N + 1 + 1, 0, none⟩ (.slice tA tn tc)).setCell ⟨N + 1 + 1, 1, none⟩ (.slice tB tm td)).setCell ⟨N + 1 + 1, 2, none⟩ (.int .i64 f2)).setCell ⟨N + 1 + 1, 3, none⟩ (.bool o2)) = ve at *
            refine hK.out _ _ hS9 (fun hHeld => ?_)
            clear hK K
            refine wpAnyH_take (i := 10) (oi := ⟨some 7, _, _, _, _, _⟩) (v := .bool true) rfl (by kernel_rfl) (by kernel_rfl) (by kernel_rfl) (fun _ _ _ h => h) (Or.inl ⟨by rfl, ?_⟩) (by assumption) ?_
            · intro w hSw; (try dsimp only at hSw); go_simp
            simp only [Act.put, List.setIfInBounds_toArray, List.set_cons_zero, List.set_cons_succ]
            refine wpAnyH_done (by kernel_rfl) ?_ _
            have z0 := Sm.cells_of r9 0 _ rfl
            have z1 := Sm.cells_of r9 1 _ rfl
            have z2 := Sm.cells_of r9 2 _ rfl
            have z3 := Sm.cells_of r9 3 _ rfl
            go_wp2
            refine bodyPost_ret (v := .tuple #[.agg #[.slice tA tn tc, .slice tB tm td, .int .i64 f2, .bool o2], .bool true]) ((results_cell_tmp rfl _ _ _).trans (by go_simp)) rfl ⟨_, _, rfl, by rw [Dk.doAct_0 E0.out]; exact GE.out⟩
      · rw [if_pos (by simp [Region.wanted])]
        go_simp
        have b2 : Below u1.heap.size u1 (u1.alloc (.cells #[.slice none 0 0, .slice none 0 0, .int .i64 0, .bool false] 59)) := (Below.refl _ u1).alloc (Nat.le_refl _) _
        have F3 := F2.low b2
        have p2 := heap_alloc_new u1 (.cells #[.slice none 0 0, .slice none 0 0, .int .i64 0, .bool false] 59)
        have hPlt : u1.heap.size ≤ u1.heap.size := Nat.le_refl _
        have hPN : N + 2 < u1.heap.size := Sm.lt_of F2.res
        have hPf : ¬ fp u1.heap.size := fun hf => by have := F2.pair.own.lt _ hf; omega
        obtain ⟨P, hP⟩ : ∃ P, P = u1.heap.size := ⟨_, rfl⟩
        rw [← hP] at p2 hPN hPf ⊢
        clear hPlt hP
        generalize u1.alloc (.cells #[.slice none 0 0, .slice none 0 0, .int .i64 0, .bool false] 59) = u2 at *
        refine hK.out _ _ ⟨F3.box, F3.act⟩ (fun hHeld => ?_)
        clear hK K
        refine wpAnyH_ready (rs := [5]) (by kernel_rfl) (by simp) ?_
        refine (AllReadyH.cons (o := ⟨some 28, _, _, _, _, _⟩) rfl (fun K hK => ?_) AllReadyH.nil)
        · go_simp
          refine (WR.out _ F3.pair).mono ?_
          rintro e u3 ⟨vn, rfl, href, b3⟩
          have F4 := F3.low b3
          have p3 := (b3.block P (Sm.lt_of p2)).trans p2
          obtain ⟨tA, tn, tc, tB, tm, td, f2, o2, rfl⟩ := href.four
          have hfour : True := trivial
          refine hK.out _ _ ⟨F4.box, F4.act⟩ (fun hHeld => ?_)
          clear hK K
          refine wpAnyH_take (i := 6) (oi := ⟨some 22, _, _, _, _, _⟩) (v := .tuple #[.agg #[.slice tA tn tc, .slice tB tm td, .int .i64 f2, .bool o2], .int .i64 er]) rfl (by kernel_rfl) (by kernel_rfl) (by kernel_rfl) (fun _ _ _ h => h) (Or.inl ⟨by rfl, ?_⟩) (by assumption) ?_
          · intro w hSw; (try dsimp only at hSw); go_simp
          simp only [Act.put, List.setIfInBounds_toArray, List.set_cons_zero, List.set_cons_succ]
          refine wpAnyH_take (i := 7) (oi := ⟨some 29, _, _, _, _, _⟩) (v := .agg #[.slice tA tn tc, .slice tB tm td, .int .i64 f2, .bool o2]) rfl (by kernel_rfl) (by kernel_rfl) (by kernel_rfl) (fun _ _ _ h => h) (Or.inl ⟨by rfl, ?_⟩) (by assumption) ?_
          · intro w hSw; (try dsimp only at hSw); go_simp
          simp only [Act.put, List.setIfInBounds_toArray, List.set_cons_zero, List.set_cons_succ]
          refine wpAnyH_take (i := 8) (oi := ⟨some 30, _, _, _, _, _⟩) (v := .int .i64 er) rfl (by kernel_rfl) (by kernel_rfl) (by kernel_rfl) (fun _ _ _ h => h) (Or.inl ⟨by rfl, ?_⟩) (by assumption) ?_
          · intro w hSw; (try dsimp only at hSw); go_simp
          simp only [Act.put, List.setIfInBounds_toArray, List.set_cons_zero, List.set_cons_succ]
          refine wpAnyH_ready (rs := [10]) (by kernel_rfl) (by simp) ?_
          refine (AllReadyH.cons (o := ⟨none, _, _, _, _, _⟩) rfl (fun K hK => ?_) AllReadyH.nil)
          · have x0 := Sm.cells_of p3 0 _ rfl
            have x1 := Sm.cells_of p3 1 _ rfl
            have x2 := Sm.cells_of p3 2 _ rfl
            have x3 := Sm.cells_of p3 3 _ rfl
            have f0 := Sm.free_of p3 0
            have f1 := Sm.free_of p3 1
            have f2' := Sm.free_of p3 2
            have f3 := Sm.free_of p3 3
            go_simp
            have G9 := F4.cells4 (Sm.cells_of p3 0 _ rfl) hPN hPf (by have := HBN; omega) (.slice tA tn tc) (.slice tB tm td) (.int .i64 f2) (.bool o2)
            have p9 := Dk.set4 p3 rfl (.slice tA tn tc) (.slice tB tm td) (.int .i64 f2) (.bool o2)
            have h9 := href.cells4 (Sm.cells_of p3 0 _ rfl) (fun i hn => Dk.set4_other u3 P (.slice tA tn tc) (.slice tB tm td) (.int .i64 f2) (.bool o2) i hn) (by simp)
            clear x0 x1 x2 x3 f0 f1 f2' f3
            generalize ((((u3.setCell ⟨P, 0, none⟩ (.slice tA tn tc)).setCell ⟨P, 1, none⟩ (.slice tB tm td)).setCell ⟨P, 2, none⟩ (.int .i64 f2)).setCell ⟨P, 3, none⟩ (.bool o2)) = v9 at *
            refine hK.out _ _ ⟨G9.box, G9.act⟩ (fun hHeld => ?_)
            clear hK K
            refine wpAnyH_take (i := 11) (oi := ⟨some 9, _, _, _, _, _⟩) (v := .int .i64 er) rfl (by kernel_rfl) (by kernel_rfl) (by kernel_rfl) (fun _ _ _ h => h) (Or.inl ⟨by rfl, ?_⟩) (by assumption) ?_
            · intro w hSw; (try dsimp only at hSw); go_simp
            simp only [Act.put, List.setIfInBounds_toArray, List.set_cons_zero, List.set_cons_succ]
            refine wpAnyH_done (by kernel_rfl) ?_ _
            have G := Lib.hid G9
            have H9 := Lib.hid h9
            have P9 := Lib.hid p9
            obtain ⟨ql, hql⟩ : ∃ q : List Value, q = [.slice tA tn tc, .slice tB tm td, .int .i64 f2, .bool o2] := ⟨_, rfl⟩
            have hqa : ql.toArray = #[.slice tA tn tc, .slice tB tm td, .int .i64 f2, .bool o2] := by rw [hql]
            have hql4 : ql.length = 4 := by rw [hql]; rfl
            have HQA := Lib.hid hqa
            go_upto_region 4 with (fail)
            replace G9 : Dk.Fr7 Z B w0 v9.drew r fp (.agg #[.slice sA sn sc, .slice sB sm sd, .int .i64 f, .bool o]) M N bl.toArray cs := G9.low ((Below.refl _ v9).drew)
            replace h9 := h9.low ((Below.refl _ v9).drew)
            replace p9 : v9.drew.heap[P]? = some (.cells ql.toArray 59 (0, 0)) := by rw [hqa]; exact p9
            clear hqa hql
            refine wp_region_held_drew (S := (fun w' => w'.heap[P]? = some (.cells ql.toArray 59 (0, 0)) ∧ w'.heap[N + 1]? = some (.cells cs.toArray 66 (0, 0)))) (by kernel_rfl) ⟨p9, G9.act⟩ (fun hHeld => ?_)
            generalize v9.drew = vd at *
            refine wpAnyH_take (i := 0) (oi := ⟨some 31, _, _, _, _, _⟩) (v := .agg ql.toArray) rfl (by kernel_rfl) (by kernel_rfl) (by kernel_rfl) (fun _ _ _ h => h) (yieldsIf_load_mid (by rfl) _ _ rfl _ _ rfl ql _ (fun w hS => (Sm.range_row hS.1)) Try.underlying59 rfl (Dk.info_dsk hql4)) (by assumption) ?_
            simp only [Act.put, List.setIfInBounds_toArray, List.set_cons_zero, List.set_cons_succ]
            refine wpAnyH_take (i := 1) (oi := ⟨some 32, _, _, _, _, _⟩) (v := .pointer (some ⟨r, 0, none⟩)) rfl (by kernel_rfl) (by kernel_rfl) (by kernel_rfl) (fun _ _ _ h => h) (Or.inl ⟨by rfl, ?_⟩) (by assumption) ?_
            · intro w hSw; (try dsimp only at hSw); go_simp
            simp only [Act.put, List.setIfInBounds_toArray, List.set_cons_zero, List.set_cons_succ]
            refine wpAnyH_take (i := 2) (oi := ⟨some 33, _, _, _, _, _⟩) (v := .pointer (some ⟨N + 1, 1, none⟩)) rfl (by kernel_rfl) (by kernel_rfl) (by kernel_rfl) (fun _ _ _ h => h) (Or.inl ⟨by rfl, ?_⟩) (by assumption) ?_
            · intro w hSw; (try dsimp only at hSw); go_simp
            simp only [Act.put, List.setIfInBounds_toArray, List.set_cons_zero, List.set_cons_succ]
            refine wpAnyH_take (i := 3) (oi := ⟨some 34, _, _, _, _, _⟩) (v := .int .i64 x.i) rfl (by kernel_rfl) (by kernel_rfl) (by kernel_rfl) (fun _ _ _ h => h) (Or.inl ⟨by rfl, ?_⟩) (by assumption) ?_
            · intro w hSw; (try dsimp only at hSw); have d1 : w.cell? ⟨N + 1, 1, none⟩ = some (.int .i64 x.i) := Sm.cells_of hSw.2 1 _ (by rw [HCS.out]; rfl); go_simp
            simp only [Act.put, List.setIfInBounds_toArray, List.set_cons_zero, List.set_cons_succ]
            refine wpAnyH_take (i := 4) (oi := ⟨some 35, _, _, _, _, _⟩) (v := .agg cs.toArray) rfl (by kernel_rfl) (by kernel_rfl) (by kernel_rfl) (fun _ _ _ h => h) (yieldsIf_load_mid (by rfl) _ _ rfl _ _ rfl cs _ (fun w hS => (Sm.range_row hS.2)) Try.underlying66 rfl (Dk.info_act7 hcl)) (by assumption) ?_
            simp only [Act.put, List.setIfInBounds_toArray, List.set_cons_zero, List.set_cons_succ]
            refine wpAnyH_take (i := 7) (oi := ⟨some 38, _, _, _, _, _⟩) (v := .int .i64 er) rfl (by kernel_rfl) (by kernel_rfl) (by kernel_rfl) (fun _ _ _ h => h) (Or.inl ⟨by rfl, ?_⟩) (by assumption) ?_
            · intro w hSw; (try dsimp only at hSw); go_simp
            simp only [Act.put, List.setIfInBounds_toArray, List.set_cons_zero, List.set_cons_succ]
            refine wpAnyH_ready (rs := [5]) (by kernel_rfl) (by simp) ?_
            refine (AllReadyH.cons (o := ⟨some 36, _, _, _, _, _⟩) rfl (fun K hK => ?_) AllReadyH.nil)
            go_simp
            refine (DA.out _).mono ?_
            rintro e va ⟨rfl, ba⟩
            have Ga := G9.low ba
            have ha' := h9.low ba
            have pa := (ba.block P (Sm.lt_of p9)).trans p9
            refine hK.out _ _ ⟨pa, Ga.act⟩ (fun hHeld => ?_)
            clear hK K
            refine wpAnyH_ready (rs := [6]) (by kernel_rfl) (by simp) ?_
            refine (AllReadyH.cons (o := ⟨some 37, _, _, _, _, _⟩) rfl (fun K hK => ?_) AllReadyH.nil)
            go_simp
            refine (WP.out _ _ Ga.pair.own).mono ?_
            rintro e vb ⟨fpb, rfl, sb⟩
            have Gb := Ga.step ha' sb
            have pb := (sb.turned.block P (Sm.lt_of pa) hPf).trans pa
            refine hK.out _ _ ⟨pb, Gb.act⟩ (fun hHeld => ?_)
            clear hK K
            refine wpAnyH_take (i := 8) (oi := ⟨some 39, _, _, _, _, _⟩) (v := .bool true) rfl (by kernel_rfl) (by kernel_rfl) (by kernel_rfl) (fun _ _ _ h => h) (Or.inl ⟨by rfl, ?_⟩) (by assumption) ?_
            · intro w hSw; (try dsimp only at hSw); go_simp
            simp only [Act.put, List.setIfInBounds_toArray, List.set_cons_zero, List.set_cons_succ]
            have GB := Lib.hid Gb.pair
            have hNP : N + 2 ≠ P := by omega
            have hr2 : vb.heap[N + 1 + 1]? = _ := Gb.res
            have y0 := Sm.cells_of hr2 0 _ rfl
            have y1 := Sm.cells_of hr2 1 _ rfl
            have y2 := Sm.cells_of hr2 2 _ rfl
            have y3 := Sm.cells_of hr2 3 _ rfl
            have q0 := Sm.free_of hr2 0
            have q1 := Sm.free_of hr2 1
            have q2 := Sm.free_of hr2 2
            have q3 := Sm.free_of hr2 3
            have GE : Hid (Dk.Pair Z B w0 ((((vb.setCell ⟨N + 1 + 1, 0, none⟩ (.slice tA tn tc)).setCell ⟨N + 1 + 1, 1, none⟩ (.slice tB tm td)).setCell ⟨N + 1 + 1, 2, none⟩ (.int .i64 f2)).setCell ⟨N + 1 + 1, 3, none⟩ (.bool o2)) r fpb (.agg #[.slice tA tn tc, .slice tB tm td, .int .i64 f2, .bool o2]) (Dk.write M x.i (Dk.data x)).1) := Gb.fin (.slice tA tn tc) (.slice tB tm td) (.int .i64 f2) (.bool o2) HBN
            have hS9 : ((((vb.setCell ⟨N + 1 + 1, 0, none⟩ (.slice tA tn tc)).setCell ⟨N + 1 + 1, 1, none⟩ (.slice tB tm td)).setCell ⟨N + 1 + 1, 2, none⟩ (.int .i64 f2)).setCell ⟨N + 1 + 1, 3, none⟩ (.bool o2)).heap[P]? = some (.cells ql.toArray 59 (0, 0)) ∧ ((((vb.setCell ⟨N + 1 + 1, 0, none⟩ (.slice tA tn tc)).setCell ⟨N + 1 + 1, 1, none⟩ (.slice tB tm td)).setCell ⟨N + 1 + 1, 2, none⟩ (.int .i64 f2)).setCell ⟨N + 1 + 1, 3, none⟩ (.bool o2)).heap[N + 1]? = some (.cells cs.toArray 66 (0, 0)) := And.intro ((Dk.set4_other vb (N + 2) (.slice tA tn tc) (.slice tB tm td) (.int .i64 f2) (.bool o2) P (by omega)).trans pb) ((Dk.set4_other vb (N + 2) (.slice tA tn tc) (.slice tB tm td) (.int .i64 f2) (.bool o2) (N + 1) (by omega)).trans Gb.act)
            have r9 := Dk.set4 hr2 rfl (.slice tA tn tc) (.slice tB tm td) (.int .i64 f2) (.bool o2)
            refine wpAnyH_ready (rs := [9]) (by kernel_rfl) (by simp) ?_
            refine (AllReadyH.cons (o := ⟨none, _, _, _, _, _⟩) rfl (fun K hK => ?_) AllReadyH.nil)
            rw [HQA.out]
            go_simp
            clear y0 y1 y2 y3 q0 q1 q2 q3 hr2
            generalize ((((vb.setCell ⟨N + 1 + 1, 0, none⟩ (.slice tA tn tc)).setCell ⟨N + 1 + 1, 1, none⟩ (.slice tB tm td)).setCell ⟨N + 1 + 1, 2, none⟩ (.int .i64 f2)).setCell ⟨N + 1 + 1, 3, none⟩ (.bool o2)) = ve at *
            refine hK.out _ _ hS9 (fun hHeld => ?_)
            clear hK K
            refine wpAnyH_take (i := 10) (oi := ⟨some 7, _, _, _, _, _⟩) (v := .bool true) rfl (by kernel_rfl) (by kernel_rfl) (by kernel_rfl) (fun _ _ _ h => h) (Or.inl ⟨by rfl, ?_⟩) (by assumption) ?_
            · intro w hSw; (try dsimp only at hSw); go_simp
            simp only [Act.put, List.setIfInBounds_toArray, List.set_cons_zero, List.set_cons_succ]
            refine wpAnyH_done (by kernel_rfl) ?_ _
            have z0 := Sm.cells_of r9 0 _ rfl
            have z1 := Sm.cells_of r9 1 _ rfl
            have z2 := Sm.cells_of r9 2 _ rfl
            have z3 := Sm.cells_of r9 3 _ rfl
            go_wp2
            refine bodyPost_ret (v := .tuple #[.agg #[.slice tA tn tc, .slice tB tm td, .int .i64 f2, .bool o2], .bool true]) ((results_cell_tmp rfl _ _ _).trans (by go_simp)) rfl ⟨_, _, rfl, by rw [Dk.doAct_0 E0.out]; exact GE.out⟩
    · rw [if_pos (by simp [Region.wanted])]
      go_simp
      have b1 : Below wd.heap.size wd (wd.alloc (.cells #[.slice none 0 0, .slice none 0 0, .int .i64 0, .bool false] 59)) := (Below.refl _ wd).alloc (Nat.le_refl _) _
      have F2 := F1.low b1
      have p1 := heap_alloc_new wd (.cells #[.slice none 0 0, .slice none 0 0, .int .i64 0, .bool false] 59)
      have hPlt : wd.heap.size ≤ wd.heap.size := Nat.le_refl _
      have hPN : N + 2 < wd.heap.size := Sm.lt_of F1.res
      have hPf : ¬ fp wd.heap.size := fun hf => by have := F1.pair.own.lt _ hf; omega
      obtain ⟨P, hP⟩ : ∃ P, P = wd.heap.size := ⟨_, rfl⟩
      rw [← hP] at p1 hPN hPf ⊢
      clear hPlt hP
      generalize wd.alloc (.cells #[.slice none 0 0, .slice none 0 0, .int .i64 0, .bool false] 59) = u1 at *
      refine hK.out _ _ ⟨F2.box, F2.act⟩ (fun hHeld => ?_)
      clear hK K
      refine wpAnyH_ready (rs := [4]) (by kernel_rfl) (by simp) ?_
      refine (AllReadyH.cons (o := ⟨some 27, _, _, _, _, _⟩) rfl (fun K hK => ?_) AllReadyH.nil)
      · go_simp
        refine (DA.out _).mono ?_
        rintro e u2 ⟨rfl, b2⟩
        have F3 := F2.low b2
        have p2 := (b2.block P (Sm.lt_of p1)).trans p1
        refine hK.out _ _ ⟨F3.box, F3.act⟩ (fun hHeld => ?_)
        clear hK K
        refine wpAnyH_ready (rs := [5]) (by kernel_rfl) (by simp) ?_
        refine (AllReadyH.cons (o := ⟨some 28, _, _, _, _, _⟩) rfl (fun K hK => ?_) AllReadyH.nil)
        · go_simp
          refine (WR.out _ F3.pair).mono ?_
          rintro e u3 ⟨vn, rfl, href, b3⟩
          have F4 := F3.low b3
          have p3 := (b3.block P (Sm.lt_of p2)).trans p2
          obtain ⟨tA, tn, tc, tB, tm, td, f2, o2, rfl⟩ := href.four
          have hfour : True := trivial
          refine hK.out _ _ ⟨F4.box, F4.act⟩ (fun hHeld => ?_)
          clear hK K
          refine wpAnyH_take (i := 6) (oi := ⟨some 22, _, _, _, _, _⟩) (v := .tuple #[.agg #[.slice tA tn tc, .slice tB tm td, .int .i64 f2, .bool o2], .int .i64 er]) rfl (by kernel_rfl) (by kernel_rfl) (by kernel_rfl) (fun _ _ _ h => h) (Or.inl ⟨by rfl, ?_⟩) (by assumption) ?_
          · intro w hSw; (try dsimp only at hSw); go_simp
          simp only [Act.put, List.setIfInBounds_toArray, List.set_cons_zero, List.set_cons_succ]
          refine wpAnyH_take (i := 7) (oi := ⟨some 29, _, _, _, _, _⟩) (v := .agg #[.slice tA tn tc, .slice tB tm td, .int .i64 f2, .bool o2]) rfl (by kernel_rfl) (by kernel_rfl) (by kernel_rfl) (fun _ _ _ h => h) (Or.inl ⟨by rfl, ?_⟩) (by assumption) ?_
          · intro w hSw; (try dsimp only at hSw); go_simp
          simp only [Act.put, List.setIfInBounds_toArray, List.set_cons_zero, List.set_cons_succ]
          refine wpAnyH_take (i := 8) (oi := ⟨some 30, _, _, _, _, _⟩) (v := .int .i64 er) rfl (by kernel_rfl) (by kernel_rfl) (by kernel_rfl) (fun _ _ _ h => h) (Or.inl ⟨by rfl, ?_⟩) (by assumption) ?_
          · intro w hSw; (try dsimp only at hSw); go_simp
          simp only [Act.put, List.setIfInBounds_toArray, List.set_cons_zero, List.set_cons_succ]
          refine wpAnyH_ready (rs := [10]) (by kernel_rfl) (by simp) ?_
          refine (AllReadyH.cons (o := ⟨none, _, _, _, _, _⟩) rfl (fun K hK => ?_) AllReadyH.nil)
          · have x0 := Sm.cells_of p3 0 _ rfl
            have x1 := Sm.cells_of p3 1 _ rfl
            have x2 := Sm.cells_of p3 2 _ rfl
            have x3 := Sm.cells_of p3 3 _ rfl
            have f0 := Sm.free_of p3 0
            have f1 := Sm.free_of p3 1
            have f2' := Sm.free_of p3 2
            have f3 := Sm.free_of p3 3
            go_simp
            have G9 := F4.cells4 (Sm.cells_of p3 0 _ rfl) hPN hPf (by have := HBN; omega) (.slice tA tn tc) (.slice tB tm td) (.int .i64 f2) (.bool o2)
            have p9 := Dk.set4 p3 rfl (.slice tA tn tc) (.slice tB tm td) (.int .i64 f2) (.bool o2)
            have h9 := href.cells4 (Sm.cells_of p3 0 _ rfl) (fun i hn => Dk.set4_other u3 P (.slice tA tn tc) (.slice tB tm td) (.int .i64 f2) (.bool o2) i hn) (by simp)
            clear x0 x1 x2 x3 f0 f1 f2' f3
            generalize ((((u3.setCell ⟨P, 0, none⟩ (.slice tA tn tc)).setCell ⟨P, 1, none⟩ (.slice tB tm td)).setCell ⟨P, 2, none⟩ (.int .i64 f2)).setCell ⟨P, 3, none⟩ (.bool o2)) = v9 at *
            refine hK.out _ _ ⟨G9.box, G9.act⟩ (fun hHeld => ?_)
            clear hK K
            refine wpAnyH_take (i := 11) (oi := ⟨some 9, _, _, _, _, _⟩) (v := .int .i64 er) rfl (by kernel_rfl) (by kernel_rfl) (by kernel_rfl) (fun _ _ _ h => h) (Or.inl ⟨by rfl, ?_⟩) (by assumption) ?_
            · intro w hSw; (try dsimp only at hSw); go_simp
            simp only [Act.put, List.setIfInBounds_toArray, List.set_cons_zero, List.set_cons_succ]
            refine wpAnyH_done (by kernel_rfl) ?_ _
            have G := Lib.hid G9
            have H9 := Lib.hid h9
            have P9 := Lib.hid p9
            obtain ⟨ql, hql⟩ : ∃ q : List Value, q = [.slice tA tn tc, .slice tB tm td, .int .i64 f2, .bool o2] := ⟨_, rfl⟩
            have hqa : ql.toArray = #[.slice tA tn tc, .slice tB tm td, .int .i64 f2, .bool o2] := by rw [hql]
            have hql4 : ql.length = 4 := by rw [hql]; rfl
            have HQA := Lib.hid hqa
            go_upto_region 4 with (fail)
            replace G9 : Dk.Fr7 Z B w0 v9.drew r fp (.agg #[.slice sA sn sc, .slice sB sm sd, .int .i64 f, .bool o]) M N bl.toArray cs := G9.low ((Below.refl _ v9).drew)
            replace h9 := h9.low ((Below.refl _ v9).drew)
            replace p9 : v9.drew.heap[P]? = some (.cells ql.toArray 59 (0, 0)) := by rw [hqa]; exact p9
            clear hqa hql
            refine wp_region_held_drew (S := (fun w' => w'.heap[P]? = some (.cells ql.toArray 59 (0, 0)) ∧ w'.heap[N + 1]? = some (.cells cs.toArray 66 (0, 0)))) (by kernel_rfl) ⟨p9, G9.act⟩ (fun hHeld => ?_)
            generalize v9.drew = vd at *
            refine wpAnyH_take (i := 0) (oi := ⟨some 31, _, _, _, _, _⟩) (v := .agg ql.toArray) rfl (by kernel_rfl) (by kernel_rfl) (by kernel_rfl) (fun _ _ _ h => h) (yieldsIf_load_mid (by rfl) _ _ rfl _ _ rfl ql _ (fun w hS => (Sm.range_row hS.1)) Try.underlying59 rfl (Dk.info_dsk hql4)) (by assumption) ?_
            simp only [Act.put, List.setIfInBounds_toArray, List.set_cons_zero, List.set_cons_succ]
            refine wpAnyH_take (i := 1) (oi := ⟨some 32, _, _, _, _, _⟩) (v := .pointer (some ⟨r, 0, none⟩)) rfl (by kernel_rfl) (by kernel_rfl) (by kernel_rfl) (fun _ _ _ h => h) (Or.inl ⟨by rfl, ?_⟩) (by assumption) ?_
            · intro w hSw; (try dsimp only at hSw); go_simp
            simp only [Act.put, List.setIfInBounds_toArray, List.set_cons_zero, List.set_cons_succ]
            refine wpAnyH_take (i := 2) (oi := ⟨some 33, _, _, _, _, _⟩) (v := .pointer (some ⟨N + 1, 1, none⟩)) rfl (by kernel_rfl) (by kernel_rfl) (by kernel_rfl) (fun _ _ _ h => h) (Or.inl ⟨by rfl, ?_⟩) (by assumption) ?_
            · intro w hSw; (try dsimp only at hSw); go_simp
            simp only [Act.put, List.setIfInBounds_toArray, List.set_cons_zero, List.set_cons_succ]
            refine wpAnyH_take (i := 3) (oi := ⟨some 34, _, _, _, _, _⟩) (v := .int .i64 x.i) rfl (by kernel_rfl) (by kernel_rfl) (by kernel_rfl) (fun _ _ _ h => h) (Or.inl ⟨by rfl, ?_⟩) (by assumption) ?_
            · intro w hSw; (try dsimp only at hSw); have d1 : w.cell? ⟨N + 1, 1, none⟩ = some (.int .i64 x.i) := Sm.cells_of hSw.2 1 _ (by rw [HCS.out]; rfl); go_simp
            simp only [Act.put, List.setIfInBounds_toArray, List.set_cons_zero, List.set_cons_succ]
            refine wpAnyH_take (i := 4) (oi := ⟨some 35, _, _, _, _, _⟩) (v := .agg cs.toArray) rfl (by kernel_rfl) (by kernel_rfl) (by kernel_rfl) (fun _ _ _ h => h) (yieldsIf_load_mid (by rfl) _ _ rfl _ _ rfl cs _ (fun w hS => (Sm.range_row hS.2)) Try.underlying66 rfl (Dk.info_act7 hcl)) (by assumption) ?_
            simp only [Act.put, List.setIfInBounds_toArray, List.set_cons_zero, List.set_cons_succ]
            refine wpAnyH_take (i := 7) (oi := ⟨some 38, _, _, _, _, _⟩) (v := .int .i64 er) rfl (by kernel_rfl) (by kernel_rfl) (by kernel_rfl) (fun _ _ _ h => h) (Or.inl ⟨by rfl, ?_⟩) (by assumption) ?_
            · intro w hSw; (try dsimp only at hSw); go_simp
            simp only [Act.put, List.setIfInBounds_toArray, List.set_cons_zero, List.set_cons_succ]
            refine wpAnyH_ready (rs := [5]) (by kernel_rfl) (by simp) ?_
            refine (AllReadyH.cons (o := ⟨some 36, _, _, _, _, _⟩) rfl (fun K hK => ?_) AllReadyH.nil)
            go_simp
            refine (DA.out _).mono ?_
            rintro e va ⟨rfl, ba⟩
            have Ga := G9.low ba
            have ha' := h9.low ba
            have pa := (ba.block P (Sm.lt_of p9)).trans p9
            refine hK.out _ _ ⟨pa, Ga.act⟩ (fun hHeld => ?_)
            clear hK K
            refine wpAnyH_ready (rs := [6]) (by kernel_rfl) (by simp) ?_
            refine (AllReadyH.cons (o := ⟨some 37, _, _, _, _, _⟩) rfl (fun K hK => ?_) AllReadyH.nil)
            go_simp
            refine (WP.out _ _ Ga.pair.own).mono ?_
            rintro e vb ⟨fpb, rfl, sb⟩
            have Gb := Ga.step ha' sb
            have pb := (sb.turned.block P (Sm.lt_of pa) hPf).trans pa
            refine hK.out _ _ ⟨pb, Gb.act⟩ (fun hHeld => ?_)
            clear hK K
            refine wpAnyH_take (i := 8) (oi := ⟨some 39, _, _, _, _, _⟩) (v := .bool true) rfl (by kernel_rfl) (by kernel_rfl) (by kernel_rfl) (fun _ _ _ h => h) (Or.inl ⟨by rfl, ?_⟩) (by assumption) ?_
            · intro w hSw; (try dsimp only at hSw); go_simp
            simp only [Act.put, List.setIfInBounds_toArray, List.set_cons_zero, List.set_cons_succ]
            have GB := Lib.hid Gb.pair
            have hNP : N + 2 ≠ P := by omega
            have hr2 : vb.heap[N + 1 + 1]? = _ := Gb.res
            have y0 := Sm.cells_of hr2 0 _ rfl
            have y1 := Sm.cells_of hr2 1 _ rfl
            have y2 := Sm.cells_of hr2 2 _ rfl
            have y3 := Sm.cells_of hr2 3 _ rfl
            have q0 := Sm.free_of hr2 0
            have q1 := Sm.free_of hr2 1
            have q2 := Sm.free_of hr2 2
            have q3 := Sm.free_of hr2 3
            have GE : Hid (Dk.Pair Z B w0 ((((vb.setCell ⟨N + 1 + 1, 0, none⟩ (.slice tA tn tc)).setCell ⟨N + 1 + 1, 1, none⟩ (.slice tB tm td)).setCell ⟨N + 1 + 1, 2, none⟩ (.int .i64 f2)).setCell ⟨N + 1 + 1, 3, none⟩ (.bool o2)) r fpb (.agg #[.slice tA tn tc, .slice tB tm td, .int .i64 f2, .bool o2]) (Dk.write M x.i (Dk.data x)).1) := Gb.fin (.slice tA tn tc) (.slice tB tm td) (.int .i64 f2) (.bool o2) HBN
            have hS9 : ((((vb.setCell ⟨N + 1 + 1, 0, none⟩ (.slice tA tn tc)).setCell ⟨N + 1 + 1, 1, none⟩ (.slice tB tm td)).setCell ⟨N + 1 + 1, 2, none⟩ (.int .i64 f2)).setCell ⟨N + 1 + 1, 3, none⟩ (.bool o2)).heap[P]? = some (.cells ql.toArray 59 (0, 0)) ∧ ((((vb.setCell ⟨N + 1 + 1, 0, none⟩ (.slice tA tn tc)).setCell ⟨N + 1 + 1, 1, none⟩ (.slice tB tm td)).setCell ⟨N + 1 + 1, 2, none⟩ (.int .i64 f2)).setCell ⟨N + 1 + 1, 3, none⟩ (.bool o2)).heap[N + 1]? = some (.cells cs.toArray 66 (0, 0)) := And.intro ((Dk.set4_other vb (N + 2) (.slice tA tn tc) (.slice tB tm td) (.int .i64 f2) (.bool o2) P (by omega)).trans pb) ((Dk.set4_other vb (N + 2) (.slice tA tn tc) (.slice tB tm td) (.int .i64 f2) (.bool o2) (N + 1) (by omega)).trans Gb.act)
            have r9 := Dk.set4 hr2 rfl (.slice tA tn tc) (.slice tB tm td) (.int .i64 f2) (.bool o2)
            refine wpAnyH_ready (rs := [9]) (by kernel_rfl) (by simp) ?_
            refine (AllReadyH.cons (o := ⟨none, _, _, _, _, _⟩) rfl (fun K hK => ?_) AllReadyH.nil)
            rw [HQA.out]
            go_simp
            clear y0 y1 y2 y3 q0 q1 q2 q3 hr2
            generalize ((((vb.setCell ⟨N + 1 + 1, 0, none⟩ (.slice tA tn tc)).setCell ⟨N + 1 + 1, 1, none⟩ (.slice tB tm td)).setCell ⟨N + 1 + 1, 2, none⟩ (.int .i64 f2)).setCell ⟨N + 1 + 1, 3, none⟩ (.bool o2)) = ve at *
            refine hK.out _ _ hS9 (fun hHeld => ?_)
            clear hK K
            refine wpAnyH_take (i := 10) (oi := ⟨some 7, _, _, _, _, _⟩) (v := .bool true) rfl (by kernel_rfl) (by kernel_rfl) (by kernel_rfl) (fun _ _ _ h => h) (Or.inl ⟨by rfl, ?_⟩) (by assumption) ?_
            · intro w hSw; (try dsimp only at hSw); go_simp
            simp only [Act.put, List.setIfInBounds_toArray, List.set_cons_zero, List.set_cons_succ]
            refine wpAnyH_done (by kernel_rfl) ?_ _
            have z0 := Sm.cells_of r9 0 _ rfl
            have z1 := Sm.cells_of r9 1 _ rfl
            have z2 := Sm.cells_of r9 2 _ rfl
            have z3 := Sm.cells_of r9 3 _ rfl
            go_wp2
            refine bodyPost_ret (v := .tuple #[.agg #[.slice tA tn tc, .slice tB tm td, .int .i64 f2, .bool o2], .bool true]) ((results_cell_tmp rfl _ _ _).trans (by go_simp)) rfl ⟨_, _, rfl, by rw [Dk.doAct_0 E0.out]; exact GE.out⟩
  · by_cases e1 : x.d = 1
    · rw [e1] at d0
      have E1 := Lib.hid e1
      clear h1 g1 a1 r1 hfN d1 d2 d4 d6 e0 e1 DA
      go_wp2_with fail
      refine (r7Sync_any _ fp _ M F1.pair.own.disk.ok F1.pair.ref F1.pair.own.lt HQ.out).mono ?_
      rintro e u1 ⟨vn, rfl, href, b1'⟩
      have F2 := F1.low b1'
      obtain ⟨tA, tn, tc, tB, tm, td, f2, o2, rfl⟩ := href.four
      obtain ⟨er, her⟩ : ∃ e, e = (Dk.sync M).2 := ⟨_, rfl⟩
      rw [← her]
      have HER := Lib.hid her
      clear her
      clear d0 c0 c1 c2 c3
      go_upto_region 7 with (fail)
      have bx : Below u1.heap.size u1 (u1.alloc (.cells #[.slice tA tn tc, .slice tB tm td, .int .i64 f2, .bool o2] 59)) := (Below.refl _ u1).alloc (Nat.le_refl _) _
      have G9 := F2.low bx
      have h9 := href.low bx
      have p9 := heap_alloc_new u1 (.cells #[.slice tA tn tc, .slice tB tm td, .int .i64 f2, .bool o2] 59)
      have hPN : N + 2 < u1.heap.size := Sm.lt_of F2.res
      have hPf : ¬ fp u1.heap.size := fun hf => by have := F2.pair.own.lt _ hf; omega
      obtain ⟨P, hP⟩ : ∃ P, P = u1.heap.size := ⟨_, rfl⟩
      rw [← hP] at p9 hPN hPf ⊢
      clear hP bx b1' F1 F2 href
      generalize u1.alloc (.cells #[.slice tA tn tc, .slice tB tm td, .int .i64 f2, .bool o2] 59) = v9 at *
      obtain ⟨ql, hql⟩ : ∃ q : List Value, q = [.slice tA tn tc, .slice tB tm td, .int .i64 f2, .bool o2] := ⟨_, rfl⟩
      have hqa : ql.toArray = #[.slice tA tn tc, .slice tB tm td, .int .i64 f2, .bool o2] := by rw [hql]
      have hql4 : ql.length = 4 := by rw [hql]; rfl
      have HQA := Lib.hid hqa
      replace G9 : Dk.Fr7 Z B w0 v9.drew r fp _ M N _ cs := G9.low ((Below.refl _ v9).drew)
      replace h9 := h9.low ((Below.refl _ v9).drew)
      replace p9 : v9.drew.heap[P]? = some (.cells ql.toArray 59 (0, 0)) := by rw [hqa]; exact p9
      clear hqa hql
      refine wp_region_held_drew (S := (fun w' => w'.heap[P]? = some (.cells ql.toArray 59 (0, 0)) ∧ w'.heap[N + 1]? = some (.cells cs.toArray 66 (0, 0)))) (by kernel_rfl) ⟨p9, G9.act⟩ (fun hHeld => ?_)
      generalize v9.drew = vd at *
      refine wpAnyH_take (i := 0) (oi := ⟨some 47, _, _, _, _, _⟩) (v := .agg ql.toArray) rfl (by kernel_rfl) (by kernel_rfl) (by kernel_rfl) (fun _ _ _ h => h) (yieldsIf_load_mid (by rfl) _ _ rfl _ _ rfl ql _ (fun w hS => (Sm.range_row hS.1)) Try.underlying59 rfl (Dk.info_dsk hql4)) (by assumption) ?_
      simp only [Act.put, List.setIfInBounds_toArray, List.set_cons_zero, List.set_cons_succ]
      refine wpAnyH_take (i := 1) (oi := ⟨some 48, _, _, _, _, _⟩) (v := .pointer (some ⟨r, 0, none⟩)) rfl (by kernel_rfl) (by kernel_rfl) (by kernel_rfl) (fun _ _ _ h => h) (Or.inl ⟨by rfl, ?_⟩) (by assumption) ?_
      · intro w hSw; (try dsimp only at hSw); go_simp
      simp only [Act.put, List.setIfInBounds_toArray, List.set_cons_zero, List.set_cons_succ]
      refine wpAnyH_take (i := 3) (oi := ⟨some 50, _, _, _, _, _⟩) (v := .int .i64 er) rfl (by kernel_rfl) (by kernel_rfl) (by kernel_rfl) (fun _ _ _ h => h) (Or.inl ⟨by rfl, ?_⟩) (by assumption) ?_
      · intro w hSw; (try dsimp only at hSw); go_simp
      simp only [Act.put, List.setIfInBounds_toArray, List.set_cons_zero, List.set_cons_succ]
      refine wpAnyH_ready (rs := [2]) (by kernel_rfl) (by simp) ?_
      refine (AllReadyH.cons (o := ⟨some 49, _, _, _, _, _⟩) rfl (fun K hK => ?_) AllReadyH.nil)
      go_simp
      refine (Dk.sync_in G9.pair.own).mono ?_
      rintro e vb ⟨fpb, rfl, sb⟩
      have Gb := G9.step h9 sb
      have pb := (sb.turned.block P (Sm.lt_of p9) hPf).trans p9
      rw [← HER.out]
      refine hK.out _ _ ⟨pb, Gb.act⟩ (fun hHeld => ?_)
      clear hK K
      refine wpAnyH_take (i := 4) (oi := ⟨some 51, _, _, _, _, _⟩) (v := .bool true) rfl (by kernel_rfl) (by kernel_rfl) (by kernel_rfl) (fun _ _ _ h => h) (Or.inl ⟨by rfl, ?_⟩) (by assumption) ?_
      · intro w hSw; (try dsimp only at hSw); go_simp
      simp only [Act.put, List.setIfInBounds_toArray, List.set_cons_zero, List.set_cons_succ]
      have hr2 : vb.heap[N + 1 + 1]? = _ := Gb.res
      have y0 := Sm.cells_of hr2 0 _ rfl
      have y1 := Sm.cells_of hr2 1 _ rfl
      have y2 := Sm.cells_of hr2 2 _ rfl
      have y3 := Sm.cells_of hr2 3 _ rfl
      have q0 := Sm.free_of hr2 0
      have q1 := Sm.free_of hr2 1
      have q2 := Sm.free_of hr2 2
      have q3 := Sm.free_of hr2 3
      have GE : Hid (Dk.Pair Z B w0 ((((vb.setCell ⟨N + 1 + 1, 0, none⟩ (.slice tA tn tc)).setCell ⟨N + 1 + 1, 1, none⟩ (.slice tB tm td)).setCell ⟨N + 1 + 1, 2, none⟩ (.int .i64 f2)).setCell ⟨N + 1 + 1, 3, none⟩ (.bool o2)) r fpb (.agg #[.slice tA tn tc, .slice tB tm td, .int .i64 f2, .bool o2]) (Dk.sync M).1) := Gb.fin (.slice tA tn tc) (.slice tB tm td) (.int .i64 f2) (.bool o2) HBN
      have hS9 : ((((vb.setCell ⟨N + 1 + 1, 0, none⟩ (.slice tA tn tc)).setCell ⟨N + 1 + 1, 1, none⟩ (.slice tB tm td)).setCell ⟨N + 1 + 1, 2, none⟩ (.int .i64 f2)).setCell ⟨N + 1 + 1, 3, none⟩ (.bool o2)).heap[P]? = some (.cells ql.toArray 59 (0, 0)) ∧ ((((vb.setCell ⟨N + 1 + 1, 0, none⟩ (.slice tA tn tc)).setCell ⟨N + 1 + 1, 1, none⟩ (.slice tB tm td)).setCell ⟨N + 1 + 1, 2, none⟩ (.int .i64 f2)).setCell ⟨N + 1 + 1, 3, none⟩ (.bool o2)).heap[N + 1]? = some (.cells cs.toArray 66 (0, 0)) := And.intro ((Dk.set4_other vb (N + 2) (.slice tA tn tc) (.slice tB tm td) (.int .i64 f2) (.bool o2) P (by omega)).trans pb) ((Dk.set4_other vb (N + 2) (.slice tA tn tc) (.slice tB tm td) (.int .i64 f2) (.bool o2) (N + 1) (by omega)).trans Gb.act)
      have r9 := Dk.set4 hr2 rfl (.slice tA tn tc) (.slice tB tm td) (.int .i64 f2) (.bool o2)
      refine wpAnyH_ready (rs := [5]) (by kernel_rfl) (by simp) ?_
      refine (AllReadyH.cons (o := ⟨none, _, _, _, _, _⟩) rfl (fun K hK => ?_) AllReadyH.nil)
      rw [HQA.out]
      go_simp
      clear y0 y1 y2 y3 q0 q1 q2 q3 hr2
      generalize ((((vb.setCell ⟨N + 1 + 1, 0, none⟩ (.slice tA tn tc)).setCell ⟨N + 1 + 1, 1, none⟩ (.slice tB tm td)).setCell ⟨N + 1 + 1, 2, none⟩ (.int .i64 f2)).setCell ⟨N + 1 + 1, 3, none⟩ (.bool o2)) = ve at *
      refine hK.out _ _ hS9 (fun hHeld => ?_)
      clear hK K
      refine wpAnyH_take (i := 6) (oi := ⟨some 7, _, _, _, _, _⟩) (v := .bool true) rfl (by kernel_rfl) (by kernel_rfl) (by kernel_rfl) (fun _ _ _ h => h) (Or.inl ⟨by rfl, ?_⟩) (by assumption) ?_
      · intro w hSw; (try dsimp only at hSw); go_simp
      simp only [Act.put, List.setIfInBounds_toArray, List.set_cons_zero, List.set_cons_succ]
      refine wpAnyH_done (by kernel_rfl) ?_ _
      have z0 := Sm.cells_of r9 0 _ rfl
      have z1 := Sm.cells_of r9 1 _ rfl
      have z2 := Sm.cells_of r9 2 _ rfl
      have z3 := Sm.cells_of r9 3 _ rfl
      go_wp2
      refine bodyPost_ret (v := .tuple #[.agg #[.slice tA tn tc, .slice tB tm td, .int .i64 f2, .bool o2], .bool true]) ((results_cell_tmp rfl _ _ _).trans (by go_simp)) rfl ⟨_, _, rfl, by rw [Dk.doAct_1 E1.out]; exact GE.out⟩
    · by_cases e4 : x.d = 4
      · rw [e4] at d0
        have E4 := Lib.hid e4
        clear h1 g1 a1 r1 hfN d6 e0 e1 e4 DA
        go_wp2_with fail
        refine (r7Spoil_any _ fp _ M F1.pair.own.disk.ok F1.pair.ref F1.pair.own.lt x.i x.n x.x).mono ?_
        rintro e u1 ⟨vn, rfl, href, b1'⟩
        have F2 := F1.low b1'
        obtain ⟨tA, tn, tc, tB, tm, td, f2, o2, rfl⟩ := href.four
        obtain ⟨er, her⟩ : ∃ e, e = (Dk.spoil M x.i x.n x.x.data.toList).2 := ⟨_, rfl⟩
        rw [← her]
        have HER := Lib.hid her
        clear her
        clear d0 d1 d2 d4 c0 c1 c2 c3
        go_upto_region 16 with (fail)
        have bx : Below u1.heap.size u1 (u1.alloc (.cells #[.slice tA tn tc, .slice tB tm td, .int .i64 f2, .bool o2] 59)) := (Below.refl _ u1).alloc (Nat.le_refl _) _
        have G9 := F2.low bx
        have h9 := href.low bx
        have p9 := heap_alloc_new u1 (.cells #[.slice tA tn tc, .slice tB tm td, .int .i64 f2, .bool o2] 59)
        have hPN : N + 2 < u1.heap.size := Sm.lt_of F2.res
        have hPf : ¬ fp u1.heap.size := fun hf => by have := F2.pair.own.lt _ hf; omega
        obtain ⟨P, hP⟩ : ∃ P, P = u1.heap.size := ⟨_, rfl⟩
        rw [← hP] at p9 hPN hPf ⊢
        clear hP bx b1' F1 F2 href
        generalize u1.alloc (.cells #[.slice tA tn tc, .slice tB tm td, .int .i64 f2, .bool o2] 59) = v9 at *
        obtain ⟨ql, hql⟩ : ∃ q : List Value, q = [.slice tA tn tc, .slice tB tm td, .int .i64 f2, .bool o2] := ⟨_, rfl⟩
        have hqa : ql.toArray = #[.slice tA tn tc, .slice tB tm td, .int .i64 f2, .bool o2] := by rw [hql]
        have hql4 : ql.length = 4 := by rw [hql]; rfl
        have HQA := Lib.hid hqa
        replace G9 : Dk.Fr7 Z B w0 v9.drew r fp _ M N _ cs := G9.low ((Below.refl _ v9).drew)
        replace h9 := h9.low ((Below.refl _ v9).drew)
        replace p9 : v9.drew.heap[P]? = some (.cells ql.toArray 59 (0, 0)) := by rw [hqa]; exact p9
        clear hqa hql
        refine wp_region_held_drew (S := (fun w' => w'.heap[P]? = some (.cells ql.toArray 59 (0, 0)) ∧ w'.heap[N + 1]? = some (.cells cs.toArray 66 (0, 0)))) (by kernel_rfl) ⟨p9, G9.act⟩ (fun hHeld => ?_)
        generalize v9.drew = vd at *
        refine wpAnyH_take (i := 0) (oi := ⟨some 85, _, _, _, _, _⟩) (v := .agg ql.toArray) rfl (by kernel_rfl) (by kernel_rfl) (by kernel_rfl) (fun _ _ _ h => h) (yieldsIf_load_mid (by rfl) _ _ rfl _ _ rfl ql _ (fun w hS => (Sm.range_row hS.1)) Try.underlying59 rfl (Dk.info_dsk hql4)) (by assumption) ?_
        simp only [Act.put, List.setIfInBounds_toArray, List.set_cons_zero, List.set_cons_succ]
        refine wpAnyH_take (i := 1) (oi := ⟨some 86, _, _, _, _, _⟩) (v := .pointer (some ⟨r, 0, none⟩)) rfl (by kernel_rfl) (by kernel_rfl) (by kernel_rfl) (fun _ _ _ h => h) (Or.inl ⟨by rfl, ?_⟩) (by assumption) ?_
        · intro w hSw; (try dsimp only at hSw); go_simp
        simp only [Act.put, List.setIfInBounds_toArray, List.set_cons_zero, List.set_cons_succ]
        refine wpAnyH_take (i := 2) (oi := ⟨some 87, _, _, _, _, _⟩) (v := .pointer (some ⟨N + 1, 1, none⟩)) rfl (by kernel_rfl) (by kernel_rfl) (by kernel_rfl) (fun _ _ _ h => h) (Or.inl ⟨by rfl, ?_⟩) (by assumption) ?_
        · intro w hSw; (try dsimp only at hSw); go_simp
        simp only [Act.put, List.setIfInBounds_toArray, List.set_cons_zero, List.set_cons_succ]
        refine wpAnyH_take (i := 3) (oi := ⟨some 88, _, _, _, _, _⟩) (v := .int .i64 x.i) rfl (by kernel_rfl) (by kernel_rfl) (by kernel_rfl) (fun _ _ _ h => h) (Or.inl ⟨by rfl, ?_⟩) (by assumption) ?_
        · intro w hSw; (try dsimp only at hSw); have hh : w.cell? ⟨N + 1, 1, none⟩ = some (.int .i64 x.i) := Sm.cells_of hSw.2 1 _ (by rw [HCS.out]; rfl); go_simp
        simp only [Act.put, List.setIfInBounds_toArray, List.set_cons_zero, List.set_cons_succ]
        refine wpAnyH_take (i := 4) (oi := ⟨some 89, _, _, _, _, _⟩) (v := .pointer (some ⟨N + 1, 2, none⟩)) rfl (by kernel_rfl) (by kernel_rfl) (by kernel_rfl) (fun _ _ _ h => h) (Or.inl ⟨by rfl, ?_⟩) (by assumption) ?_
        · intro w hSw; (try dsimp only at hSw); go_simp
        simp only [Act.put, List.setIfInBounds_toArray, List.set_cons_zero, List.set_cons_succ]
        refine wpAnyH_take (i := 5) (oi := ⟨some 90, _, _, _, _, _⟩) (v := .int .i64 x.n) rfl (by kernel_rfl) (by kernel_rfl) (by kernel_rfl) (fun _ _ _ h => h) (Or.inl ⟨by rfl, ?_⟩) (by assumption) ?_
        · intro w hSw; (try dsimp only at hSw); have hh : w.cell? ⟨N + 1, 2, none⟩ = some (.int .i64 x.n) := Sm.cells_of hSw.2 2 _ (by rw [HCS.out]; rfl); go_simp
        simp only [Act.put, List.setIfInBounds_toArray, List.set_cons_zero, List.set_cons_succ]
        refine wpAnyH_take (i := 6) (oi := ⟨some 91, _, _, _, _, _⟩) (v := .pointer (some ⟨N + 1, 4, none⟩)) rfl (by kernel_rfl) (by kernel_rfl) (by kernel_rfl) (fun _ _ _ h => h) (Or.inl ⟨by rfl, ?_⟩) (by assumption) ?_
        · intro w hSw; (try dsimp only at hSw); go_simp
        simp only [Act.put, List.setIfInBounds_toArray, List.set_cons_zero, List.set_cons_succ]
        refine wpAnyH_take (i := 7) (oi := ⟨some 92, _, _, _, _, _⟩) (v := .string x.x) rfl (by kernel_rfl) (by kernel_rfl) (by kernel_rfl) (fun _ _ _ h => h) (Or.inl ⟨by rfl, ?_⟩) (by assumption) ?_
        · intro w hSw; (try dsimp only at hSw); have hh : w.cell? ⟨N + 1, 4, none⟩ = some (.string x.x) := Sm.cells_of hSw.2 4 _ (by rw [HCS.out]; rfl); go_simp
        simp only [Act.put, List.setIfInBounds_toArray, List.set_cons_zero, List.set_cons_succ]
        refine wpAnyH_take (i := 9) (oi := ⟨some 94, _, _, _, _, _⟩) (v := .int .i64 er) rfl (by kernel_rfl) (by kernel_rfl) (by kernel_rfl) (fun _ _ _ h => h) (Or.inl ⟨by rfl, ?_⟩) (by assumption) ?_
        · intro w hSw; (try dsimp only at hSw); go_simp
        simp only [Act.put, List.setIfInBounds_toArray, List.set_cons_zero, List.set_cons_succ]
        refine wpAnyH_ready (rs := [8]) (by kernel_rfl) (by simp) ?_
        refine (AllReadyH.cons (o := ⟨some 93, _, _, _, _, _⟩) rfl (fun K hK => ?_) AllReadyH.nil)
        go_simp
        refine (Dk.spoil_in G9.pair.own x.i x.n x.x hx).mono ?_
        rintro e vb ⟨fpb, rfl, sb⟩
        have Gb := G9.step h9 sb
        have pb := (sb.turned.block P (Sm.lt_of p9) hPf).trans p9
        rw [← HER.out]
        refine hK.out _ _ ⟨pb, Gb.act⟩ (fun hHeld => ?_)
        clear hK K
        refine wpAnyH_take (i := 10) (oi := ⟨some 95, _, _, _, _, _⟩) (v := .bool true) rfl (by kernel_rfl) (by kernel_rfl) (by kernel_rfl) (fun _ _ _ h => h) (Or.inl ⟨by rfl, ?_⟩) (by assumption) ?_
        · intro w hSw; (try dsimp only at hSw); go_simp
        simp only [Act.put, List.setIfInBounds_toArray, List.set_cons_zero, List.set_cons_succ]
        have hr2 : vb.heap[N + 1 + 1]? = _ := Gb.res
        have y0 := Sm.cells_of hr2 0 _ rfl
        have y1 := Sm.cells_of hr2 1 _ rfl
        have y2 := Sm.cells_of hr2 2 _ rfl
        have y3 := Sm.cells_of hr2 3 _ rfl
        have q0 := Sm.free_of hr2 0
        have q1 := Sm.free_of hr2 1
        have q2 := Sm.free_of hr2 2
        have q3 := Sm.free_of hr2 3
        have GE : Hid (Dk.Pair Z B w0 ((((vb.setCell ⟨N + 1 + 1, 0, none⟩ (.slice tA tn tc)).setCell ⟨N + 1 + 1, 1, none⟩ (.slice tB tm td)).setCell ⟨N + 1 + 1, 2, none⟩ (.int .i64 f2)).setCell ⟨N + 1 + 1, 3, none⟩ (.bool o2)) r fpb (.agg #[.slice tA tn tc, .slice tB tm td, .int .i64 f2, .bool o2]) (Dk.spoil M x.i x.n x.x.data.toList).1) := Gb.fin (.slice tA tn tc) (.slice tB tm td) (.int .i64 f2) (.bool o2) HBN
        have hS9 : ((((vb.setCell ⟨N + 1 + 1, 0, none⟩ (.slice tA tn tc)).setCell ⟨N + 1 + 1, 1, none⟩ (.slice tB tm td)).setCell ⟨N + 1 + 1, 2, none⟩ (.int .i64 f2)).setCell ⟨N + 1 + 1, 3, none⟩ (.bool o2)).heap[P]? = some (.cells ql.toArray 59 (0, 0)) ∧ ((((vb.setCell ⟨N + 1 + 1, 0, none⟩ (.slice tA tn tc)).setCell ⟨N + 1 + 1, 1, none⟩ (.slice tB tm td)).setCell ⟨N + 1 + 1, 2, none⟩ (.int .i64 f2)).setCell ⟨N + 1 + 1, 3, none⟩ (.bool o2)).heap[N + 1]? = some (.cells cs.toArray 66 (0, 0)) := And.intro ((Dk.set4_other vb (N + 2) (.slice tA tn tc) (.slice tB tm td) (.int .i64 f2) (.bool o2) P (by omega)).trans pb) ((Dk.set4_other vb (N + 2) (.slice tA tn tc) (.slice tB tm td) (.int .i64 f2) (.bool o2) (N + 1) (by omega)).trans Gb.act)
        have r9 := Dk.set4 hr2 rfl (.slice tA tn tc) (.slice tB tm td) (.int .i64 f2) (.bool o2)
        refine wpAnyH_ready (rs := [11]) (by kernel_rfl) (by simp) ?_
        refine (AllReadyH.cons (o := ⟨none, _, _, _, _, _⟩) rfl (fun K hK => ?_) AllReadyH.nil)
        rw [HQA.out]
        go_simp
        clear y0 y1 y2 y3 q0 q1 q2 q3 hr2
        generalize ((((vb.setCell ⟨N + 1 + 1, 0, none⟩ (.slice tA tn tc)).setCell ⟨N + 1 + 1, 1, none⟩ (.slice tB tm td)).setCell ⟨N + 1 + 1, 2, none⟩ (.int .i64 f2)).setCell ⟨N + 1 + 1, 3, none⟩ (.bool o2)) = ve at *
        refine hK.out _ _ hS9 (fun hHeld => ?_)
        clear hK K
        refine wpAnyH_take (i := 12) (oi := ⟨some 7, _, _, _, _, _⟩) (v := .bool true) rfl (by kernel_rfl) (by kernel_rfl) (by kernel_rfl) (fun _ _ _ h => h) (Or.inl ⟨by rfl, ?_⟩) (by assumption) ?_
        · intro w hSw; (try dsimp only at hSw); go_simp
        simp only [Act.put, List.setIfInBounds_toArray, List.set_cons_zero, List.set_cons_succ]
        refine wpAnyH_done (by kernel_rfl) ?_ _
        have z0 := Sm.cells_of r9 0 _ rfl
        have z1 := Sm.cells_of r9 1 _ rfl
        have z2 := Sm.cells_of r9 2 _ rfl
        have z3 := Sm.cells_of r9 3 _ rfl
        go_wp2
        refine bodyPost_ret (v := .tuple #[.agg #[.slice tA tn tc, .slice tB tm td, .int .i64 f2, .bool o2], .bool true]) ((results_cell_tmp rfl _ _ _).trans (by go_simp)) rfl ⟨_, _, rfl, by rw [Dk.doAct_4 E4.out]; exact GE.out⟩
      · by_cases e2 : x.d = 2
        · rw [e2] at d0
          have E2 := Lib.hid e2
          clear h1 g1 a1 r1 hfN d1 d4 d6 e0 e1 e4 e2 DA
          go_wp2_with fail
          refine (Dk.fuse_in F1.pair.own x.n hok.n).mono ?_
          rintro e u1 ⟨fp1, rfl, st⟩
          have F2 := F1.step (F1.pair.ref.fuse x.n) st
          have d2' : u1.cell? ⟨N + 1, 2, none⟩ = some (.int .i64 x.n) := Sm.cells_of F2.act 2 _ (by rw [HCS.out]; rfl)
          have b2c := Sm.cells_of F2.box 2 _ rfl
          have b2f := Sm.free_of F2.box 2
          have F3 := F2.box2 HBN (.int .i64 (max x.n (-1)))
          clear st F1 F2 d2 c0 c1 c2 c3 d0
          go_upto_region 21 with (fail)
          clear d2' b2c b2f
          generalize u1.setCell ⟨N, 2, none⟩ (.int .i64 (max x.n (-1))) = u2 at *
          generalize max x.n (-1) = mx at *
          have hr2 : u2.heap[N + 1 + 1]? = _ := F3.res
          have c0 := Sm.cells_of F3.box 0 _ rfl
          have c1 := Sm.cells_of F3.box 1 _ rfl
          have c2 := Sm.cells_of F3.box 2 _ rfl
          have c3 := Sm.cells_of F3.box 3 _ rfl
          have y0 := Sm.cells_of hr2 0 _ rfl
          have y1 := Sm.cells_of hr2 1 _ rfl
          have y2 := Sm.cells_of hr2 2 _ rfl
          have y3 := Sm.cells_of hr2 3 _ rfl
          have q0 := Sm.free_of hr2 0
          have q1 := Sm.free_of hr2 1
          have q2 := Sm.free_of hr2 2
          have q3 := Sm.free_of hr2 3
          have GE := Lib.hid (F3.fin (.slice sA sn sc) (.slice sB sm sd) (.int .i64 mx) (.bool o) HBN)
          clear hr2 F3
          go_wp2
          refine bodyPost_ret (v := .tuple #[.agg #[.slice sA sn sc, .slice sB sm sd, .int .i64 mx, .bool o], .bool true]) ((results_cell_tmp rfl _ _ _).trans (by go_simp)) rfl ⟨_, _, rfl, by rw [Dk.doAct_2 E2.out]; exact GE.out⟩
        · by_cases e3 : x.d = 3
          · rw [e3] at d0
            have E3 := Lib.hid e3
            have hio := F1.pair.own.off hok.keep hB
            clear h1 g1 a1 r1 hfN d1 d2 d4 e0 e1 e4 e2 e3 DA
            obtain ⟨kA, kc, hkv, _⟩ := id hok.keep
            rw [hkv] at d6 hio
            have CR : Hid (∀ wx fpx, Dk.RefAt wx fpx (.agg #[.slice sA sn sc, .slice sB sm sd, .int .i64 f, .bool o]) M → (∀ k, fpx k → k < wx.heap.size) → Dk.IntsAt wx (.slice kA x.keep.length kc) x.keep → Calls Try.prog 51 #[.agg #[.slice sA sn sc, .slice sB sm sd, .int .i64 f, .bool o], .slice kA x.keep.length kc] wx fun e w' => ∃ v', e = .returned v' ∧ Dk.RefAt w' fpx v' (Dk.crash M x.keep) ∧ Below wx.heap.size wx w') := fun wx fpx h1 h2 h3 => r7Crash_any wx fpx _ M F1.pair.own.disk.ok h1 h2 HQ.out h3
            have HIO : Hid (∀ wx fpx M', Dk.Own B w0 wx r fpx M' → Dk.IntsAt wx (.slice kA x.keep.length kc) x.keep) := fun wx fpx M' ho => by
              have := (ho.off hok.keep hB).1
              rw [hkv] at this
              exact this
            have HKV := Lib.hid hkv
            clear hkv
            go_wp2_with fail
            refine (Dk.crash_in F1.pair.own (by have := HQ.out; omega) hio.1 hio.2).mono ?_
            rintro e u1 ⟨fp1, rfl, st⟩
            have hR := F1.pair.ref.step st
            have hII := HIO.out u1 fp1 _ st.own
            have hk : ∀ i, N ≤ i → i < N + 3 → u1.heap[i]? = w1.heap[i]? := fun i h1 h2 => st.turned.block i (by have := Sm.lt_of F1.res; omega) (F1.hi i h1 h2)
            have bx := (hk N (Nat.le_refl _) (by omega)).trans F1.box
            have ax := (hk (N + 1) (by omega) (by omega)).trans F1.act
            clear c0 c1 c2 c3 d0 d6 hio hk
            have c0 := Sm.cells_of bx 0 _ rfl
            have c1 := Sm.cells_of bx 1 _ rfl
            have c2 := Sm.cells_of bx 2 _ rfl
            have c3 := Sm.cells_of bx 3 _ rfl
            have d6 : u1.cell? ⟨N + 1, 6, none⟩ = some (.slice kA x.keep.length kc) := by
              rw [← HKV.out]
              exact Sm.cells_of ax 6 x.kv (by rw [HCS.out]; rfl)
            clear bx ax
            go_wp2_with fail
            refine (CR.out u1 fp1 hR st.own.lt hII).mono ?_
            rintro e u2 ⟨vn, rfl, href, k2⟩
            obtain ⟨tA, tn, tc, tB, tm, td, f2, o2, rfl⟩ := href.four
            have F2 := F1.step2 st k2 href
            clear c0 c1 c2 c3 d6 st k2 href hR hII F1
            have hr2 : u2.heap[N + 1 + 1]? = _ := F2.res
            have c0 := Sm.cells_of F2.box 0 _ rfl
            have c1 := Sm.cells_of F2.box 1 _ rfl
            have c2 := Sm.cells_of F2.box 2 _ rfl
            have c3 := Sm.cells_of F2.box 3 _ rfl
            have y0 := Sm.cells_of hr2 0 _ rfl
            have y1 := Sm.cells_of hr2 1 _ rfl
            have y2 := Sm.cells_of hr2 2 _ rfl
            have y3 := Sm.cells_of hr2 3 _ rfl
            have q0 := Sm.free_of hr2 0
            have q1 := Sm.free_of hr2 1
            have q2 := Sm.free_of hr2 2
            have q3 := Sm.free_of hr2 3
            have GE := Lib.hid (F2.fin (.slice tA tn tc) (.slice tB tm td) (.int .i64 f2) (.bool o2) HBN)
            clear hr2 F2
            go_wp2
            refine bodyPost_ret (v := .tuple #[.agg #[.slice tA tn tc, .slice tB tm td, .int .i64 f2, .bool o2], .bool true]) ((results_cell_tmp rfl _ _ _).trans (by go_simp)) rfl ⟨_, _, rfl, by rw [Dk.doAct_3 E3.out]; exact GE.out⟩
          · by_cases e5 : x.d = 5
            · rw [e5] at d0
              have E5 : Hid (Dk.doAct M x = M) := Dk.doAct_else ⟨e0, e1, e2, e3, e4⟩
              clear h1 g1 a1 r1 hfN d2 d4 d6 e0 e1 e4 e2 e3 e5 DA
              obtain ⟨rs, hrs⟩ : ∃ y : ByteArray, y = ⟨(Dk.readOf M x.i).1.toArray⟩ := ⟨_, rfl⟩
              obtain ⟨rc, hrc⟩ : ∃ y, y = (Dk.readOf M x.i).2 := ⟨_, rfl⟩
              have RD : Hid (∀ wx, Dk.RefAt wx fp (.agg #[.slice sA sn sc, .slice sB sm sd, .int .i64 f, .bool o]) M → Calls Try.prog 54 #[.agg #[.slice sA sn sc, .slice sB sm sd, .int .i64 f, .bool o], .int .i64 x.i] wx fun e w' => e = .returned (.tuple #[.string rs, .int .i64 rc]) ∧ Below wx.heap.size wx w') := fun wx hh => by
                have := Dk.read_ref hh HQ.out x.i
                rw [← hrs, ← hrc] at this
                exact this
              have RP : Hid (∀ wx, Dk.Own B w0 wx r fp M → Calls Try.prog 46 #[.pointer (some ⟨r, 0, none⟩), .int .i64 x.i] wx fun e w' => e = .returned (.tuple #[.string rs, .int .i64 rc]) ∧ Below wx.heap.size wx w') := fun wx hh => by
                have := Dk.read_in hh x.i
                rw [← hrs, ← hrc] at this
                exact this.mono fun e w' hx => ⟨hx.1, hx.2.2⟩
              clear hrs hrc
              go_wp2_with fail
              refine (RD.out _ F1.pair.ref).mono ?_
              rintro e u1 ⟨rfl, k1⟩
              have F2 := F1.low k1
              have d1' : u1.cell? ⟨N + 1, 1, none⟩ = some (.int .i64 x.i) := Sm.cells_of F2.act 1 _ (by rw [HCS.out]; rfl)
              clear c0 c1 c2 c3 k1 F1 d0 d1
              go_wp2_with fail
              refine (RP.out _ F2.pair.own).mono ?_
              rintro e u2 ⟨rfl, k2⟩
              have F3 := F2.low k2
              clear F2 k2 d1'
              have hr2 : u2.heap[N + 1 + 1]? = _ := F3.res
              have c0 := Sm.cells_of F3.box 0 _ rfl
              have c1 := Sm.cells_of F3.box 1 _ rfl
              have c2 := Sm.cells_of F3.box 2 _ rfl
              have c3 := Sm.cells_of F3.box 3 _ rfl
              have y0 := Sm.cells_of hr2 0 _ rfl
              have y1 := Sm.cells_of hr2 1 _ rfl
              have y2 := Sm.cells_of hr2 2 _ rfl
              have y3 := Sm.cells_of hr2 3 _ rfl
              have q0 := Sm.free_of hr2 0
              have q1 := Sm.free_of hr2 1
              have q2 := Sm.free_of hr2 2
              have q3 := Sm.free_of hr2 3
              have GE := Lib.hid (F3.fin (.slice sA sn sc) (.slice sB sm sd) (.int .i64 f) (.bool o) HBN)
              clear hr2 F3
              go_wp2
              refine bodyPost_ret (v := .tuple #[.agg #[.slice sA sn sc, .slice sB sm sd, .int .i64 f, .bool o], .bool true]) ((results_cell_tmp rfl _ _ _).trans (by go_simp)) rfl ⟨_, _, rfl, by rw [E5.out]; exact GE.out⟩
            · have E6 : Hid (Dk.doAct M x = M) := Dk.doAct_else ⟨e0, e1, e2, e3, e4⟩
              clear h1 g1 a1 r1 hfN d1 d2 d4 d6 DA c0 c1 c2 c3
              have hr2 : w1.heap[N + 1 + 1]? = _ := F1.res
              have c0 := Sm.cells_of F1.box 0 _ rfl
              have c1 := Sm.cells_of F1.box 1 _ rfl
              have c2 := Sm.cells_of F1.box 2 _ rfl
              have c3 := Sm.cells_of F1.box 3 _ rfl
              have y0 := Sm.cells_of hr2 0 _ rfl
              have y1 := Sm.cells_of hr2 1 _ rfl
              have y2 := Sm.cells_of hr2 2 _ rfl
              have y3 := Sm.cells_of hr2 3 _ rfl
              have q0 := Sm.free_of hr2 0
              have q1 := Sm.free_of hr2 1
              have q2 := Sm.free_of hr2 2
              have q3 := Sm.free_of hr2 3
              have GE := Lib.hid (F1.fin (.slice sA sn sc) (.slice sB sm sd) (.int .i64 f) (.bool o) HBN)
              clear hr2 F1
              go_wp2
              refine bodyPost_ret (v := .tuple #[.agg #[.slice sA sn sc, .slice sB sm sd, .int .i64 f, .bool o], .bool true]) ((results_cell_tmp rfl _ _ _).trans (by go_simp)) rfl ⟨_, _, rfl, by rw [E6.out]; exact GE.out⟩
end Go.Proofs.Ytimbcmcmidnlfaa
