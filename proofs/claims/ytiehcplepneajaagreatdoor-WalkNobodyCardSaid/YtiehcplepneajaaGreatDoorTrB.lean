/-
  Texts that belong together, laid into one.
-/
import Derived.Test.YtiehcplepneajaaGreatDoorTrA
import Derived.Test.YtiehcplepneajaaGreatDoorOmOwn
import Derived.Test.YtiehcplepneajaaGreatDoorMSha
import Derived.Test.YtiehcplepneajaaGreatDoorPaCut
import Derived.Test.YtiehcplepneajaaGreatDoorBuPage
import Derived.Shelf.Abstract
import Derived.Sort.Grow
import Derived.Deep.RegionHeld3
/-
  A tree in memory: one block of sixteen slices and thirty-one hashes; the pairs' rows beside it.
-/
namespace Go.Proofs.YtiehcplepneajaaGreatDoor
open Go.RowKit
namespace Tr
open Om (Pr)
/-- Block r holds these sixteen values and thirty-one hashes. -/
structure Blk (w : World) (r : Nat) (S : Nat → Value) (M : Nat → List UInt8) : Prop where
  cells : w.heap[r]? = some (.cells (cellsOf S M).toArray 103 (0, 0))
  full : Full M
section
variable {w w' : World} {r : Nat} {S : Nat → Value} {M : Nat → List UInt8}
theorem Blk.lt (h : Blk w r S M) : r < w.heap.size := Sm.lt_of h.cells
theorem Blk.keep (h : Blk w r S M) (e : w'.heap[r]? = w.heap[r]?) : Blk w' r S M := ⟨e.trans h.cells, h.full⟩
theorem Blk.below {B : Nat} (h : Blk w r S M) (k : Below B w w') (hb : r < B) : Blk w' r S M := h.keep (k.block r hb)
theorem Blk.low (h : Blk w r S M) (k : Below w.heap.size w w') : Blk w' r S M := h.below k h.lt
theorem Blk.slot (h : Blk w r S M) {i : Nat} (hi : i < 16) : w.cell? ⟨r, i, none⟩ = some (S i) := Sm.cells_of h.cells i _ (by rw [List.getElem?_toArray]; exact cells_low hi)
theorem Blk.free (h : Blk w r S M) (o : Nat) : w.frozen? ⟨r, o, none⟩ = false := Sm.free_of h.cells o
theorem Blk.cell (h : Blk w r S M) {k j : Nat} (hk : k < 31) (hj : j < 32) : w.cell? ⟨r, 16 + 32 * k + j, none⟩ = (Lib.byteCells (M k))[j]? := by
  have hl : (Lib.byteCells (M k)).length = 32 := h.full.cells k hk
  rw [List.getElem?_eq_getElem (by omega)]
  exact Sm.cells_of h.cells _ _ (by rw [List.getElem?_toArray, cells_high h.full hk hj, List.getElem?_eq_getElem (by omega)])
theorem Blk.node (h : Blk w r S M) {k : Nat} (hk : k < 31) : w.rangeAt r (16 + 32 * k) (Lib.byteCells (M k)) := fun j v hv => by
  have hl : (Lib.byteCells (M k)).length = 32 := h.full.cells k hk
  have hj : j < 32 := by have := (List.getElem?_eq_some_iff.1 hv).1; omega
  rw [h.cell hk hj]
  exact hv
theorem Blk.node' (h : Blk w r S M) {k : Nat} (hk : k < 31) : w.rangeAt r (16 + k * 32) (Lib.byteCells (M k)) := by
  rw [Nat.mul_comm]
  exact h.node hk
theorem Blk.there (h : Blk w r S M) {k : Nat} (hk : k < 31) : w.there r (16 + 32 * k) 32 := fun j hj => ⟨by
  have hl : (Lib.byteCells (M k)).length = 32 := h.full.cells k hk
  rw [h.cell hk hj, List.getElem?_eq_getElem (by omega)]
  rfl, h.free _⟩
theorem Blk.whole (h : Blk w r S M) : w.rangeAt r 0 (cellsOf S M) := Sm.range_row h.cells
theorem Blk.set (h : Blk w r S M) {i : Nat} (hi : i < 16) (v : Value) : Blk (w.setCell ⟨r, i, none⟩ v) r (upd S i v) M := ⟨by
  rw [Sm.heap_set h.cells i v, List.setIfInBounds_toArray, cells_set hi], h.full⟩
theorem Blk.put (h : Blk w r S M) {k : Nat} (hk : k < 31) {v : List UInt8} (hv : v.length = 32) : Blk (w.setCells r (16 + 32 * k) (Lib.byteCells v)) r S (upd M k v) := ⟨by
  have hbl : (Lib.byteCells v).length = 32 := by rw [Lib.byteCells_length, hv]
  have hl := cells_length (S := S) h.full
  have := Sm.heap_setCells (Lib.byteCells v) (16 + 32 * k) w _ h.cells (by rw [List.size_toArray, hl, hbl]; omega)
  rw [this, List.toList_toArray, cells_put h.full hk hv], h.full.upd k hv⟩
theorem Blk.congr {T : Nat → Value} {R : Nat → List UInt8} (h : Blk w r S M) (h1 : ∀ i, i < 16 → S i = T i) (h2 : ∀ k, k < 31 → M k = R k) : Blk w r T R :=
  ⟨by rw [← cells_congr h1 h2]; exact h.cells, fun k hk => by rw [← h2 k hk]; exact h.full k hk⟩
/-- A row of pairs is no tree. -/
theorem Blk.apart (h : Blk w r S M) {i : Nat} {cs : Array Value} {t : TypeId} {f : Nat × Nat} (hi : w.heap[i]? = some (.cells cs t f)) (ht : t ≠ 103) : i ≠ r := fun e => by
  subst e
  rw [h.cells] at hi
  simp only [Option.some.injEq, Obj.cells.injEq] at hi
  exact ht hi.2.1.symm
end
/-- The buckets' rows. -/
def Rows (w : World) (S : Nat → Value) (l : List Pr) : Prop := ∀ i, i < 16 → ∃ A c, S i = .slice A (Bu.part l i).length c ∧ Om.Row w 0 A c (Bu.part l i)
theorem Rows.keep {w w' : World} {S : Nat → Value} {l : List Pr} (h : Rows w S l) (k : ∀ (i : Nat) (cs : Array Value), w.heap[i]? = some (Obj.cells cs 79 (0, 0)) → w'.heap[i]? = w.heap[i]?) : Rows w' S l := fun i hi => by
  obtain ⟨A, c, h1, h2⟩ := h i hi
  exact ⟨A, c, h1, h2.keep k⟩
theorem Rows.low {w w' : World} {S : Nat → Value} {l : List Pr} (h : Rows w S l) (k : Below w.heap.size w w') : Rows w' S l := h.keep fun _ _ hi => k.block _ (Sm.lt_of hi)
/-- Block r is a tree of these pairs. -/
structure TreeAt (w : World) (r : Nat) (l : List Pr) : Prop where
  fit : Fit l
  blk : ∃ S, Blk w r S (nk l) ∧ Rows w S l
theorem pair_tree : 79 ≠ 103 := by decide
section
variable {w w' : World} {r : Nat} {l : List Pr}
theorem TreeAt.lt (h : TreeAt w r l) : r < w.heap.size := by obtain ⟨S, h, _⟩ := h.blk; exact h.lt
theorem TreeAt.low (h : TreeAt w r l) (k : Below w.heap.size w w') : TreeAt w' r l := by
  obtain ⟨S, h1, h2⟩ := h.blk
  exact ⟨h.fit, S, h1.low k, h2.low k⟩
theorem TreeAt.kind (h : TreeAt w r l) : ∃ cs, w.heap[r]? = some (.cells cs 103 (0, 0)) := by
  obtain ⟨S, h1, _⟩ := h.blk
  exact ⟨_, h1.cells⟩
/-- Another tree is turned. -/
theorem TreeAt.beside {q : Nat} {cs : Array Value} (h : TreeAt w r l) (hq : w.heap[q]? = some (.cells cs 103 (0, 0))) (hn : q ≠ r) (k : w.grownBy w' (some q)) : TreeAt w' r l := by
  obtain ⟨S, h1, h2⟩ := h.blk
  refine ⟨h.fit, S, h1.keep (k.block r h1.lt fun e => hn (Option.some.inj e).symm), h2.keep fun i cs' hi => k.block i (Sm.lt_of hi) fun e => ?_⟩
  have e := Option.some.inj e
  subst e
  rw [hq] at hi
  simp only [Option.some.injEq, Obj.cells.injEq] at hi
  exact pair_tree hi.2.1.symm
theorem TreeAt.part (h : TreeAt w r l) {i : Nat} (hi : i < 16) : ∃ A c, w.cell? ⟨r, i, none⟩ = some (.slice A (Bu.part l i).length c) ∧ Om.Row w 0 A c (Bu.part l i) := by
  obtain ⟨S, h1, h2⟩ := h.blk
  obtain ⟨A, c, e, h3⟩ := h2 i hi
  exact ⟨A, c, by rw [h1.slot hi, e], h3⟩
theorem TreeAt.node (h : TreeAt w r l) {k : Nat} (hk : k < 31) : w.rangeAt r (16 + 32 * k) (Lib.byteCells (nk l k)) := by
  obtain ⟨S, h1, _⟩ := h.blk
  exact h1.node hk
end
end Tr
end Go.Proofs.YtiehcplepneajaaGreatDoor

/-
  tree's texts of leaves and inner nodes, their hashes, and a node's place.
-/
namespace Go.Proofs.YtiehcplepneajaaGreatDoor
open Go.RowKit
namespace Tr
/-- Bytes as a text. -/
def tx (l : List UInt8) : ByteArray := ⟨l.toArray⟩
theorem tx_list (l : List UInt8) : (tx l).data.toList = l := by unfold tx; simp
theorem tx_size (l : List UInt8) : (tx l).size = l.length := by unfold tx; show l.toArray.size = _; simp
theorem tx_cat (a : List UInt8) (s : ByteArray) : (⟨a.toArray⟩ ++ s : ByteArray) = tx (a ++ s.data.toList) := by
  unfold tx
  apply Om.ba_ext
  simp
theorem tx_tx (a b : List UInt8) : (tx a ++ tx b : ByteArray) = tx (a ++ b) := by
  have := tx_cat a (tx b)
  rw [tx_list] at this
  exact this
end Tr
set_option maxRecDepth 100000 in
theorem tLeafText_any (w : World) (s : ByteArray) (hs : s.size ≤ 1152921504606846000) : Calls Tryz.prog 110 #[.string s] w fun e w' => e = .returned (.string (Tr.tx (76 :: s.data.toList))) ∧ w = w' := by
  have h1 : 1 + s.size ≤ 9223372036854775807 := by omega
  have hc := Tr.tx_cat [76] s
  go_enter Tryz.func110, Tryz.ntmps110
  go_wp2
  go_ret
  exact ⟨rfl, rfl⟩
/-- A hash that a call's end stores into its result. -/
theorem Tr.size32 {l : List UInt8} (h : l.length = 32) : (Lib.byteCells l).toArray.size = 32 := by rw [Sm.bytes_size, h]
theorem Tr.zero32 {l : List UInt8} (h : l.length = 32) : (Sm.rowB 32 []).size = (Lib.byteCells l).toArray.size := by rw [Tr.size32 h]; exact Sm.rowB_size (by simp)
set_option maxRecDepth 100000 in
set_option maxHeartbeats 1000000 in
theorem tLeaf_any {w : World} (hH : Sm.HAt w) (hK : Sm.KAt w) (hsz : 1 < w.heap.size) (s : ByteArray) (hs : s.size ≤ 1152921504606846000) :
    Calls Tryz.prog 74 #[.string s] w fun e w' => e = .returned (.agg (Lib.byteCells (Sm.sum (76 :: s.data.toList))).toArray) ∧ Below w.heap.size w w' := by
  have b1 : Below w.heap.size w (w.alloc (.cells (Sm.rowB 32 []) 36)) := (Below.refl _ w).alloc (Nat.le_refl _) _
  have HR := Lib.hid (Sm.heap_row32 w)
  have hlt : w.heap.size < (w.alloc (.cells (Sm.rowB 32 []) 36)).heap.size := by simp
  obtain ⟨l, hl⟩ : ∃ l, l = Sm.sum (76 :: s.data.toList) := ⟨_, rfl⟩
  have hll : l.length = 32 := by rw [hl]; exact Sm.sum_length _
  have HS : Hid (∀ wx : World, Below w.heap.size w wx → Calls Tryz.prog 79 #[.string (Tr.tx (76 :: s.data.toList))] wx fun e w' => e = .returned (.agg (Lib.byteCells l).toArray) ∧ Below wx.heap.size wx w') := fun wx hb => by
    have := sum_any (Tr.tx (76 :: s.data.toList)) (hH.low hb (by omega)) (hK.low hb hsz) (Nat.lt_of_lt_of_le hsz hb.size) (by rw [Tr.tx_size, List.length_cons, Ba.ba_size]; omega)
    rw [Tr.tx_list, ← hl] at this
    exact this
  have LT := Lib.hid (fun wx => tLeafText_any wx s hs)
  have hsz32 := Tr.size32 hll
  have hz32 := Tr.zero32 hll
  have hone := Sm.bytes_one l
  obtain ⟨T, hT⟩ : ∃ t, t = Tr.tx (76 :: s.data.toList) := ⟨_, rfl⟩
  rw [← hT] at HS LT
  rw [← hl]
  obtain ⟨cs, hcs⟩ : ∃ c, c = (Lib.byteCells l).toArray := ⟨_, rfl⟩
  rw [← hcs] at HS hsz32 hz32 hone ⊢
  have HB := Lib.hid b1
  clear hH hK hsz hs hT hcs hl hll b1
  go_enter Tryz.func74, Tryz.ntmps74
  go_wp2_with first
    | (go_at_call 110; refine (LT.out _).mono ?_; rintro e w1 ⟨rfl, rfl⟩)
    | (go_at_call 79; refine (HS.out _ HB.out).mono ?_; rintro e w2 ⟨rfl, k2⟩; have HR2 := Lib.hid ((k2.block _ hlt).trans HR.out); have B2 : Hid (Below w.heap.size w w2) := HB.out.trans (k2.mono (Nat.le_of_lt hlt)); clear k2)
    | (with_reducible refine wpList_store_row rfl 36 (.tmp 2) (.tmp 5) rfl w.heap.size cs rfl rfl 36 _ (by exact HR2.out) (Sm.infoHash hsz32) hz32 hone ?_)
  exact bodyPost_ret (v := .agg cs) (results_cell_row rfl _ _ w.heap.size 36 _ (0, 0) _ rfl (setRow_heap _ w.heap.size _ _ _ _ HR2.out) Tryz.underlying36 rfl (Sm.infoHash hsz32)) rfl ⟨rfl, Sm.below_setRow B2.out (Nat.le_refl _) _⟩
set_option maxRecDepth 100000 in
set_option maxHeartbeats 1000000 in
theorem tInnerText_any (w : World) (a b : List UInt8) (ha : a.length = 32) (hb : b.length = 32) :
    Calls Tryz.prog 104 #[.agg (Lib.byteCells a).toArray, .agg (Lib.byteCells b).toArray] w fun e w' => e = .returned (.string (Tr.tx (Tr.innerT a b))) ∧ Below w.heap.size w w' := by
  obtain ⟨N, hN⟩ : ∃ N, N = w.heap.size := ⟨_, rfl⟩
  obtain ⟨w2, hw2⟩ : ∃ w2, w2 = (w.alloc (.cells (Lib.byteCells a).toArray 36)).alloc (.cells (Lib.byteCells b).toArray 36) := ⟨_, rfl⟩
  have b2 : Below w.heap.size w w2 := by rw [hw2]; exact ((Below.refl _ w).alloc (Nat.le_refl _) _).alloc (by simp) _
  have g0 : w2.heap[N]? = some (.cells (Lib.byteCells a).toArray 36 (0, 0)) := by rw [hw2, hN, Below.heap_alloc _ _ _ (by simp)]; exact heap_alloc_new _ _
  have g1 : w2.heap[N + 1]? = some (.cells (Lib.byteCells b).toArray 36 (0, 0)) := by
    have := heap_alloc_new (w.alloc (.cells (Lib.byteCells a).toArray 36)) (.cells (Lib.byteCells b).toArray 36)
    rw [hw2, hN]
    simpa using this
  have HB := Lib.hid b2
  have c0 : ∀ n, (convert 127 9 (.slice (some ⟨N, 0, none⟩) 32 32)).run Tryz.prog (w2.drewN n) = .ok (.string (Tr.tx a)) (w2.drewN n) := fun n => Sm.conv_row (w := w2.drewN n) g0 ha
  have c1 : ∀ n, (convert 127 9 (.slice (some ⟨N + 1, 0, none⟩) 32 32)).run Tryz.prog (w2.drewN n) = .ok (.string (Tr.tx b)) (w2.drewN n) := fun n => Sm.conv_row (w := w2.drewN n) g1 hb
  have e1 : (⟨#[78]⟩ ++ Tr.tx a : ByteArray) = Tr.tx (78 :: a) := by have := Tr.tx_cat [78] (Tr.tx a); rw [Tr.tx_list] at this; exact this
  have e2 : (Tr.tx (78 :: a) ++ Tr.tx b : ByteArray) = Tr.tx (Tr.innerT a b) := Tr.tx_tx _ _
  have z1 : (Tr.tx a).size = 32 := by rw [Tr.tx_size, ha]
  have z2 : (Tr.tx b).size = 32 := by rw [Tr.tx_size, hb]
  have z3 : (Tr.tx (78 :: a)).size = 33 := by rw [Tr.tx_size, List.length_cons, ha]
  have hN1 : (w.alloc (.cells (Lib.byteCells a).toArray 36)).heap.size = N + 1 := by rw [hN]; simp
  generalize Tr.tx (Tr.innerT a b) = R at *
  generalize Tr.tx (78 :: a) = R1 at *
  generalize Tr.tx a = ta at *
  generalize Tr.tx b = tb at *
  go_enter Tryz.func104, Tryz.ntmps104
  go_upto_region 1 with (fail)
  rw [← hw2, ← hN]
  clear hw2 hN g0 g1 ha hb
  go_quiet (fail)
  go_wp2
  go_ret
  exact ⟨rfl, Sm.below_drewN HB.out _⟩
set_option maxRecDepth 100000 in
set_option maxHeartbeats 1000000 in
theorem tInner_any {w : World} (hH : Sm.HAt w) (hK : Sm.KAt w) (hsz : 1 < w.heap.size) (a b : List UInt8) (ha : a.length = 32) (hb : b.length = 32) :
    Calls Tryz.prog 72 #[.agg (Lib.byteCells a).toArray, .agg (Lib.byteCells b).toArray] w fun e w' => e = .returned (.agg (Lib.byteCells (Sm.sum (Tr.innerT a b))).toArray) ∧ Below w.heap.size w w' := by
  obtain ⟨N, hN⟩ : ∃ N, N = w.heap.size := ⟨_, rfl⟩
  obtain ⟨w2, hw2⟩ : ∃ w2, w2 = ((w.alloc (.cells (Lib.byteCells a).toArray 36)).alloc (.cells (Lib.byteCells b).toArray 36)).alloc (.cells (Sm.rowB 32 []) 36) := ⟨_, rfl⟩
  have b2 : Below w.heap.size w w2 := by rw [hw2]; exact (((Below.refl _ w).alloc (Nat.le_refl _) _).alloc (by simp) _).alloc (by simp; omega) _
  have g0 : w2.heap[N]? = some (.cells (Lib.byteCells a).toArray 36 (0, 0)) := by rw [hw2, hN, Below.heap_alloc _ _ _ (by simp; omega), Below.heap_alloc _ _ _ (by simp)]; exact heap_alloc_new _ _
  have g1 : w2.heap[N + 1]? = some (.cells (Lib.byteCells b).toArray 36 (0, 0)) := by
    have := heap_alloc_new (w.alloc (.cells (Lib.byteCells a).toArray 36)) (.cells (Lib.byteCells b).toArray 36)
    rw [hw2, hN, Below.heap_alloc _ _ _ (by simp)]
    simpa using this
  have g2 : w2.heap[N + 1 + 1]? = some (.cells (Sm.rowB 32 []) 36 (0, 0)) := by
    have := heap_alloc_new ((w.alloc (.cells (Lib.byteCells a).toArray 36)).alloc (.cells (Lib.byteCells b).toArray 36)) (.cells (Sm.rowB 32 []) 36)
    rw [hw2, hN]
    simpa using this
  have HB := Lib.hid b2
  have G0 := Lib.hid g0
  have G1 := Lib.hid g1
  have G2 := Lib.hid g2
  have hlt2 := Sm.lt_of g2
  have hN2 : N ≤ w2.heap.size := by omega
  have za := Tr.size32 ha
  have zb := Tr.size32 hb
  obtain ⟨l, hl⟩ : ∃ l, l = Sm.sum (Tr.innerT a b) := ⟨_, rfl⟩
  have hll : l.length = 32 := by rw [hl]; exact Sm.sum_length _
  have hsz32 := Tr.size32 hll
  have hz32 := Tr.zero32 hll
  have hone := Sm.bytes_one l
  have HS : Hid (∀ wx : World, Below w.heap.size w wx → Calls Tryz.prog 79 #[.string (Tr.tx (Tr.innerT a b))] wx fun e w' => e = .returned (.agg (Lib.byteCells l).toArray) ∧ Below wx.heap.size wx w') := fun wx hbx => by
    have := sum_any (Tr.tx (Tr.innerT a b)) (hH.low hbx (by omega)) (hK.low hbx hsz) (Nat.lt_of_lt_of_le hsz hbx.size) (by rw [Tr.tx_size]; unfold Tr.innerT; rw [List.length_cons, List.length_append, ha, hb]; omega)
    rw [Tr.tx_list, ← hl] at this
    exact this
  have IT := Lib.hid (fun wx => tInnerText_any wx a b ha hb)
  rw [← hl]
  have HN2 : Hid (N = w.heap.size) := hN
  have hs1 : (w.alloc (.cells (Lib.byteCells a).toArray 36)).heap.size = N + 1 := by rw [hN]; simp
  have hs2 : ((w.alloc (.cells (Lib.byteCells a).toArray 36)).alloc (.cells (Lib.byteCells b).toArray 36)).heap.size = N + 1 + 1 := by rw [hN]; simp
  obtain ⟨T, hT⟩ : ∃ t, t = Tr.tx (Tr.innerT a b) := ⟨_, rfl⟩
  rw [← hT] at HS IT
  obtain ⟨cs, hcs⟩ : ∃ c, c = (Lib.byteCells l).toArray := ⟨_, rfl⟩
  rw [← hcs] at HS hsz32 hz32 hone ⊢
  obtain ⟨ca, hca⟩ : ∃ c, c = (Lib.byteCells a).toArray := ⟨_, rfl⟩
  obtain ⟨cb, hcb⟩ : ∃ c, c = (Lib.byteCells b).toArray := ⟨_, rfl⟩
  rw [← hca] at IT G0 za hw2 ⊢
  rw [← hcb] at IT G1 zb hw2 ⊢
  clear hs1 hs2 hH hK hsz hcs hl hll g0 g1 g2 b2 ha hb hT hca hcb
  go_enter Tryz.func72, Tryz.ntmps72
  go_upto_region 1 with (fail)
  change Code.wp _ _ _ _ (((w.alloc (.cells ca 36)).alloc (.cells cb 36)).alloc (.cells (Sm.rowB 32 []) 36))
  rw [← hw2, ← hN]
  clear hw2 hN
  go_wp2_with first
    | (with_reducible refine wpList_load_row rfl 36 (.tmp 2) rfl N rfl 36 ca (0, 0) _ (by exact G0.out) Tryz.underlying36 rfl (Sm.infoHash za) ?_)
    | (with_reducible refine wpList_load_row rfl 36 (.tmp 3) rfl (N + 1) rfl 36 cb (0, 0) _ (by exact G1.out) Tryz.underlying36 rfl (Sm.infoHash zb) ?_)
    | (go_at_call 104; refine (IT.out _).mono ?_; rintro e w3 ⟨rfl, k3⟩; have HR3 := Lib.hid ((k3.block _ hlt2).trans G2.out); have B3 : Hid (Below w.heap.size w w3) := HB.out.trans (k3.mono HB.out.size); have HL3 : Hid (N + 1 + 1 < w3.heap.size) := Nat.lt_of_lt_of_le hlt2 k3.size; clear k3)
    | (go_at_call 79; refine (HS.out _ B3.out).mono ?_; rintro e w4 ⟨rfl, k4⟩; have HR4 := Lib.hid ((k4.block _ HL3.out).trans HR3.out); have B4 : Hid (Below w.heap.size w w4) := B3.out.trans (k4.mono B3.out.size); clear k4)
    | (with_reducible refine wpList_store_row rfl 36 (.tmp 4) (.tmp 8) rfl (N + 1 + 1) cs rfl rfl 36 _ (by exact HR4.out) (Sm.infoHash hsz32) hz32 hone ?_)
  exact bodyPost_ret (v := .agg cs) (results_cell_row rfl _ _ (N + 1 + 1) 36 _ (0, 0) _ rfl (setRow_heap _ (N + 1 + 1) _ _ _ _ HR4.out) Tryz.underlying36 rfl (Sm.infoHash hsz32)) rfl ⟨rfl, Sm.below_setRow B4.out (by rw [← HN2.out]; omega) _⟩
set_option maxRecDepth 100000 in
/-- A node's place in its row. -/
theorem tPlace_any (w : World) {level i : Nat} (h : level ≤ 4) (hi : i < 16) :
    Calls Tryz.prog 78 #[.int .i64 (level : Int), .int .i64 (i : Int)] w fun e w' => e = .returned (.int .i64 (Tr.at_ level i : Nat)) ∧ w = w' := by
  obtain ⟨k, hk⟩ : ∃ k, k = Tr.at_ level i := ⟨_, rfl⟩
  have hk2 : k = 32 - 2 * 2 ^ level + i := hk
  rw [← hk]
  clear hk
  match level, h with
  | 0, _ | 1, _ | 2, _ | 3, _ | 4, _ =>
    have hs : IntKind.i64.wrap ((k : Int)) = (k : Int) := by simp [IntKind.wrap, IntKind.bits, IntKind.signed]; omega
    subst hk2
    go_enter Tryz.func78, Tryz.ntmps78
    go_wp2
    go_ret
    exact ⟨congrArg (fun x : Int => Ending.returned (Value.int .i64 x)) (by omega), rfl⟩
end Go.Proofs.YtiehcplepneajaaGreatDoor

/-
  cmp.Compare of texts, byPath, All's order, a pair with texts of its own.
-/
namespace Go.Proofs.YtiehcplepneajaaGreatDoor
open Go.RowKit Go.Sort
namespace Tr
open Om (Pr lt)
theorem lt_list (a b : ByteArray) : Op.bytesLess a.toList b.toList = lt a b := by unfold lt; rw [Lib.toList_data, Lib.toList_data]
end Tr
set_option maxRecDepth 100000 in
theorem nanStr_any (w : World) (a : ByteArray) : Calls Tryz.prog 139 #[.string a] w fun e w' => e = .returned (.bool false) ∧ w = w' := by
  have h : (a.toList == a.toList) = true := by simp
  go_enter Tryz.func139, Tryz.ntmps139
  go_wp2
  go_ret
  exact ⟨rfl, rfl⟩
set_option maxRecDepth 100000 in
set_option maxHeartbeats 1000000 in
theorem cmpStr_any (w : World) (a b : ByteArray) : Calls Tryz.prog 101 #[.string a, .string b] w fun e w' => e = .returned (.int .i64 (Tr.cmpS a b)) ∧ w = w' := by
  have NA := Lib.hid (fun wx => nanStr_any wx a)
  have NB := Lib.hid (fun wx => nanStr_any wx b)
  have l1 := Tr.lt_list a b
  have l2 := Tr.lt_list b a
  unfold Tr.cmpS
  cases h1 : Om.lt a b
  · rw [h1] at l1
    by_cases h2 : a = b
    · subst h2
      rw [h1] at l2
      rw [if_neg (by decide), if_pos rfl]
      clear h1 l1
      go_enter Tryz.func101, Tryz.ntmps101
      go_wp2_with first
        | (go_at_call 139; refine (NA.out _).mono ?_; rintro e w1 ⟨rfl, rfl⟩)
      go_ret
      exact ⟨rfl, rfl⟩
    · rw [if_neg (by decide), if_neg h2]
      rw [Om.lt_total h2 h1] at l2
      have l3 : (a.toList == b.toList) = false := by
        rw [Bool.eq_false_iff]
        intro h3
        have h4 : a.toList = b.toList := by simpa using h3
        rw [Lib.toList_data, Lib.toList_data] at h4
        exact h2 (Om.ba_ext h4)
      clear h1 h2
      go_enter Tryz.func101, Tryz.ntmps101
      go_wp2_with first
        | (go_at_call 139; refine (NA.out _).mono ?_; clear NA; rintro e w1 ⟨rfl, rfl⟩)
        | (go_at_call 139; refine (NB.out _).mono ?_; clear NB; rintro e w2 ⟨rfl, rfl⟩)
      go_ret
      exact ⟨rfl, rfl⟩
  · rw [h1] at l1
    rw [if_pos rfl]
    clear h1 l2
    go_enter Tryz.func101, Tryz.ntmps101
    go_wp2_with first
      | (go_at_call 139; refine (NA.out _).mono ?_; clear NA; rintro e w1 ⟨rfl, rfl⟩)
      | (go_at_call 139; refine (NB.out _).mono ?_; clear NB; rintro e w2 ⟨rfl, rfl⟩)
    go_ret
    exact ⟨rfl, rfl⟩
set_option maxRecDepth 100000 in
set_option maxHeartbeats 1000000 in
theorem tByPath_any (w : World) (x : Om.Pr) (p : ByteArray) : Calls Tryz.prog 77 #[.agg #[.string x.p, .string x.v], .string p] w fun e w' => e = .returned (.int .i64 (Tr.cmpS x.p p)) ∧ w' = w.alloc (.cells #[.string x.p, .string x.v] 79) := by
  have CM := Lib.hid (fun wx => cmpStr_any wx x.p p)
  generalize Tr.cmpS x.p p = c at *
  go_enter Tryz.func77, Tryz.ntmps77
  go_wp2_with (go_at_call 101; refine (CM.out _).mono ?_; rintro e w1 ⟨rfl, rfl⟩)
  go_ret
  exact ⟨rfl, rfl⟩
set_option maxRecDepth 100000 in
set_option maxHeartbeats 1000000 in
theorem tAll1_any (w : World) (x y : Om.Pr) : Calls Tryz.prog 76 #[.agg #[.string x.p, .string x.v], .agg #[.string y.p, .string y.v]] w fun e w' => e = .returned (.int .i64 (Tr.cmpS x.p y.p)) ∧ ∃ q os', w' = grow (w.drewN q) os' := by
  have BP := Lib.hid (fun wx => tByPath_any wx x y.p)
  generalize Tr.cmpS x.p y.p = c at *
  go_enter Tryz.func76, Tryz.ntmps76
  go_wp2_with (go_at_call 77; refine (BP.out _).mono ?_; rintro e w1 ⟨rfl, rfl⟩)
  go_ret
  exact ⟨rfl, 0, _, by rw [alloc_eq_grow, alloc_eq_grow, alloc_eq_grow, grow_grow, grow_grow]; rfl⟩
set_option maxRecDepth 100000 in
set_option maxHeartbeats 1000000 in
theorem tOwn_any (w : World) (p v : ByteArray) (hp : p.size ≤ 281474976710656) (hv : v.size ≤ 281474976710656) :
    Calls Tryz.prog 53 #[.string p, .string v] w fun e w' => e = .returned (.agg #[.string p, .string v]) ∧ Below w.heap.size w w' := by
  have b1 : Below w.heap.size w (w.alloc (.cells #[.string ⟨#[]⟩, .string ⟨#[]⟩] 79)) := (Below.refl _ w).alloc (Nat.le_refl _) _
  have CP := Lib.hid (fun wx => strClone_any p wx hp)
  have CV := Lib.hid (fun wx => strClone_any v wx hv)
  have HG := Lib.hid (heap_alloc_new w (.cells #[.string ⟨#[]⟩, .string ⟨#[]⟩] 79))
  have HB := Lib.hid b1
  have HL : Hid (w.heap.size < (w.alloc (.cells #[.string ⟨#[]⟩, .string ⟨#[]⟩] 79)).heap.size) := by show _ < _; simp
  clear b1
  go_enter Tryz.func53, Tryz.ntmps53
  go_wp2_with first
    | (go_at_call 70; refine (CP.out _).mono ?_; clear CP; rintro e w1 ⟨rfl, k1⟩; have G1 := Lib.hid ((k1.block _ HL.out).trans HG.out); have B1 : Hid (Below w.heap.size w w1) := HB.out.trans (k1.mono (Nat.le_of_lt HL.out)); have L1 : Hid (w.heap.size < w1.heap.size) := Nat.lt_of_lt_of_le HL.out k1.size; clear k1)
    | (go_at_call 70; refine (CV.out _).mono ?_; clear CV; rintro e w2 ⟨rfl, k2⟩; have g2 := (k2.block _ L1.out).trans G1.out; have B2 : Hid (Below w.heap.size w w2) := B1.out.trans (k2.mono (Nat.le_of_lt L1.out)); have y0 := Sm.cells_of g2 0 _ rfl; have y1 := Sm.cells_of g2 1 _ rfl; have f0 := Sm.free_of g2 0; have f1 := Sm.free_of g2 1; clear k2)
  obtain ⟨fs, hfs⟩ := Om.und_pair
  have g3 : ((w2.setCell ⟨w.heap.size, 0, none⟩ (.string p)).setCell ⟨w.heap.size, 1, none⟩ (.string v)).heap[w.heap.size]? = some (.cells #[.string p, .string v] 79 (0, 0)) := Sm.heap_set (Sm.heap_set g2 0 (.string p)) 1 (.string v)
  exact bodyPost_ret (v := .agg #[.string p, .string v]) (results_cell_row rfl _ _ w.heap.size 79 _ (0, 0) _ rfl g3 hfs rfl (by kernel_rfl)) rfl ⟨rfl, (B2.out.setCell (p := ⟨w.heap.size, 0, none⟩) (Nat.le_refl _) _).setCell (p := ⟨w.heap.size, 1, none⟩) (Nat.le_refl _) _⟩
end Go.Proofs.YtiehcplepneajaaGreatDoor

/-
  tree's text of a place, and the hash of it.
-/
namespace Go.Proofs.YtiehcplepneajaaGreatDoor
open Go.RowKit
set_option maxRecDepth 100000 in
set_option maxHeartbeats 2000000 in
theorem tText_leaf {w : World} (hH : Sm.HAt w) (hK : Sm.KAt w) (hsz : 1 < w.heap.size) {r : Nat} {S : Nat → Value} {M : Nat → List UInt8} (hB : Tr.Blk w r S M) {k : Nat} (hk : k < 16) {A : Option Addr} {c : Nat} {l : List Om.Pr} (hS : S k = .slice A l.length c) (hit : Om.listAt w A l) (hp : Bu.pageE (k : Int) l = 0) :
    Calls Tryz.prog 88 #[.pointer (some ⟨r, 0, none⟩), .int .i64 (k : Int)] w fun e w' => e = .returned (.string (Tr.tx (76 :: Bu.bytes l))) ∧ Below w.heap.size w w' := by
  obtain ⟨h1, h2, h3, h4⟩ := Bu.pageE_ok hp
  have hfair := (Bu.may_iff.1 h2).1
  have PG : Hid (Calls Tryz.prog 73 #[.int .i64 (k : Int), .slice A l.length c] w fun e w' => e = .returned (.tuple #[.string (Tr.tx (Bu.bytes l)), .int .i64 0]) ∧ Below w.heap.size w w') := by
    have := buPage_any hH hK hsz (k : Int) c hit (by omega) (fun x hx => by have := Bu.fair_len (hfair x hx); rw [Ba.ba_size] at this; omega)
    rw [Bu.page_good hp] at this
    exact this
  have hbl : (Tr.tx (Bu.bytes l)).size ≤ 1152921504606846000 := by
    have q1 := Bu.prsB_len hfair
    have q2 := R12.enc_len (n := l.length) (by omega)
    rw [Tr.tx_size]
    unfold Bu.bytes
    rw [List.length_append]
    omega
  have LT := Lib.hid (fun wx => tLeafText_any wx (Tr.tx (Bu.bytes l)) hbl)
  rw [Tr.tx_list] at LT
  have hsl := hB.slot hk
  rw [hS] at hsl
  have hki : (k : Int) < 16 := by omega
  obtain ⟨T, hT⟩ : ∃ t, t = Tr.tx (76 :: Bu.bytes l) := ⟨_, rfl⟩
  rw [← hT] at LT ⊢
  obtain ⟨P, hP⟩ : ∃ t, t = Tr.tx (Bu.bytes l) := ⟨_, rfl⟩
  rw [← hP] at LT PG
  clear h1 h2 h3 h4 hfair hbl hT hP hp hit hS hB hH hK hsz
  go_enter Tryz.func88, Tryz.ntmps88
  go_wp2_with first
    | (go_at_call 73; refine PG.out.mono ?_; rintro e w1 ⟨rfl, k1⟩; have B1 := Lib.hid k1; clear k1)
    | (go_at_call 110; refine (LT.out _).mono ?_; rintro e w2 ⟨rfl, rfl⟩)
  go_ret
  exact ⟨rfl, B1.out⟩
set_option maxRecDepth 100000 in
set_option maxHeartbeats 2000000 in
theorem tText_inner {w : World} {r : Nat} {S : Nat → Value} {M : Nat → List UInt8} (hB : Tr.Blk w r S M) {k : Nat} (h1 : 16 ≤ k) (h2 : k < 31) :
    Calls Tryz.prog 88 #[.pointer (some ⟨r, 0, none⟩), .int .i64 (k : Int)] w fun e w' => e = .returned (.string (Tr.tx (Tr.innerT (M (2 * (k - 16))) (M (2 * (k - 16) + 1))))) ∧ Below w.heap.size w w' := by
  obtain ⟨q, hq⟩ : ∃ q, q = k - 16 := ⟨_, rfl⟩
  have hki : ¬ (k : Int) < 16 := by omega
  have hw1 : IntKind.i64.wrap ((k : Int) - 16) = ((q : Nat) : Int) := by simp [IntKind.wrap, IntKind.bits, IntKind.signed]; omega
  obtain ⟨kid, hkid⟩ : ∃ kid, kid = 2 * q := ⟨_, rfl⟩
  have hw2 : IntKind.i64.wrap (2 * ((q : Nat) : Int)) = ((kid : Nat) : Int) := by simp [IntKind.wrap, IntKind.bits, IntKind.signed]; omega
  have hw3 : IntKind.i64.wrap (((kid : Nat) : Int) + 1) = ((kid + 1 : Nat) : Int) := by simp [IntKind.wrap, IntKind.bits, IntKind.signed]; omega
  rw [← hq, ← hkid]
  have HK1 : Hid (kid < 31) := by show _ < _; omega
  have HK2 : Hid (kid + 1 < 31) := by show _ < _; omega
  have HF1 := Lib.hid (hB.full kid HK1.out)
  have HF2 := Lib.hid (hB.full (kid + 1) HK2.out)
  have HS1 := Lib.hid hw3
  have HI1 : (kid : Int) < 31 := by have := HK1.out; omega
  have HI2 : ((kid + 1 : Nat) : Int) < 31 := by have := HK2.out; omega
  have HBD : Hid (Tr.Blk w.drew r S M) := hB.low (Below.refl _ w).drew
  have HB1 : Hid (Below w.heap.size w w.drew) := (Below.refl _ w).drew
  have IT := Lib.hid (fun wx => tInnerText_any wx (M kid) (M (kid + 1)) HF1.out HF2.out)
  clear hB h1 h2 hq hkid hw3
  go_enter Tryz.func88, Tryz.ntmps88
  go_upto_region 5 with (fail)
  refine wp_region_held_drew (S := fun w' => Tr.Blk w' r S M) (by kernel_rfl) HBD.out (fun hHeld => ?_)
  refine wpAnyH_take (i := 0) (oi := ⟨some 26, _, _, _, _, _⟩) (v := .pointer (some ⟨r, 0, none⟩)) rfl (by kernel_rfl) (by kernel_rfl) (by kernel_rfl) (fun _ _ _ h => h) (Or.inl ⟨by rfl, ?_⟩) (by assumption) ?_
  · intro w hSw; (try dsimp only at hSw); go_simp
  simp only [Act.put, List.setIfInBounds_toArray, List.set_cons_zero, List.set_cons_succ]
  refine wpAnyH_take (i := 1) (oi := ⟨some 27, _, _, _, _, _⟩) (v := .int .i64 ((kid : Nat) : Int)) rfl (by kernel_rfl) (by kernel_rfl) (by kernel_rfl) (fun _ _ _ h => h) (Or.inl ⟨by rfl, ?_⟩) (by assumption) ?_
  · intro w hSw; (try dsimp only at hSw); go_simp
  simp only [Act.put, List.setIfInBounds_toArray, List.set_cons_zero, List.set_cons_succ]
  refine wpAnyH_take (i := 2) (oi := ⟨some 28, _, _, _, _, _⟩) (v := .pointer (some ⟨r, 0, none⟩)) rfl (by kernel_rfl) (by kernel_rfl) (by kernel_rfl) (fun _ _ _ h => h) (Or.inl ⟨by rfl, ?_⟩) (by assumption) ?_
  · intro w hSw; (try dsimp only at hSw); go_simp
  simp only [Act.put, List.setIfInBounds_toArray, List.set_cons_zero, List.set_cons_succ]
  refine wpAnyH_take (i := 3) (oi := ⟨some 29, _, _, _, _, _⟩) (v := .pointer (some ⟨r, 16, none⟩)) rfl (by kernel_rfl) (by kernel_rfl) (by kernel_rfl) (fun _ _ _ h => h) (Or.inl ⟨by rfl, ?_⟩) (by assumption) ?_
  · intro w hSw; (try dsimp only at hSw); go_simp
  simp only [Act.put, List.setIfInBounds_toArray, List.set_cons_zero, List.set_cons_succ]
  refine wpAnyH_take (i := 4) (oi := ⟨some 30, _, _, _, _, _⟩) (v := .pointer (some ⟨r, 16 + kid * 32, none⟩)) rfl (by kernel_rfl) (by kernel_rfl) (by kernel_rfl) (fun _ _ _ h => h) (Or.inl ⟨by rfl, ?_⟩) (by assumption) ?_
  · intro w hSw; (try dsimp only at hSw); go_simp
  simp only [Act.put, List.setIfInBounds_toArray, List.set_cons_zero, List.set_cons_succ]
  refine wpAnyH_take (i := 5) (oi := ⟨some 31, _, _, _, _, _⟩) (v := .agg (Lib.byteCells (M kid)).toArray) rfl (by kernel_rfl) (by kernel_rfl) (by kernel_rfl) (fun _ _ _ h => h) (yieldsIf_load_mid (by rfl) _ _ rfl _ _ rfl (Lib.byteCells (M kid)) _ (fun w hS => hS.node' HK1.out) Tryz.underlying36 rfl (Sm.infoHash (Tr.size32 HF1.out))) (by assumption) ?_
  simp only [Act.put, List.setIfInBounds_toArray, List.set_cons_zero, List.set_cons_succ]
  refine wpAnyH_take (i := 6) (oi := ⟨some 32, _, _, _, _, _⟩) (v := .pointer (some ⟨r, 0, none⟩)) rfl (by kernel_rfl) (by kernel_rfl) (by kernel_rfl) (fun _ _ _ h => h) (Or.inl ⟨by rfl, ?_⟩) (by assumption) ?_
  · intro w hSw; (try dsimp only at hSw); go_simp
  simp only [Act.put, List.setIfInBounds_toArray, List.set_cons_zero, List.set_cons_succ]
  refine wpAnyH_take (i := 7) (oi := ⟨some 33, _, _, _, _, _⟩) (v := .int .i64 ((kid : Nat) : Int)) rfl (by kernel_rfl) (by kernel_rfl) (by kernel_rfl) (fun _ _ _ h => h) (Or.inl ⟨by rfl, ?_⟩) (by assumption) ?_
  · intro w hSw; (try dsimp only at hSw); go_simp
  simp only [Act.put, List.setIfInBounds_toArray, List.set_cons_zero, List.set_cons_succ]
  refine wpAnyH_take (i := 8) (oi := ⟨some 34, _, _, _, _, _⟩) (v := .int .i64 ((kid + 1 : Nat) : Int)) rfl (by kernel_rfl) (by kernel_rfl) (by kernel_rfl) (fun _ _ _ h => h) (Or.inl ⟨by rfl, ?_⟩) (by assumption) ?_
  · intro w hSw; (try dsimp only at hSw); have q := HS1.out; go_simp
  simp only [Act.put, List.setIfInBounds_toArray, List.set_cons_zero, List.set_cons_succ]
  refine wpAnyH_take (i := 9) (oi := ⟨some 35, _, _, _, _, _⟩) (v := .pointer (some ⟨r, 0, none⟩)) rfl (by kernel_rfl) (by kernel_rfl) (by kernel_rfl) (fun _ _ _ h => h) (Or.inl ⟨by rfl, ?_⟩) (by assumption) ?_
  · intro w hSw; (try dsimp only at hSw); go_simp
  simp only [Act.put, List.setIfInBounds_toArray, List.set_cons_zero, List.set_cons_succ]
  refine wpAnyH_take (i := 10) (oi := ⟨some 36, _, _, _, _, _⟩) (v := .pointer (some ⟨r, 16, none⟩)) rfl (by kernel_rfl) (by kernel_rfl) (by kernel_rfl) (fun _ _ _ h => h) (Or.inl ⟨by rfl, ?_⟩) (by assumption) ?_
  · intro w hSw; (try dsimp only at hSw); go_simp
  simp only [Act.put, List.setIfInBounds_toArray, List.set_cons_zero, List.set_cons_succ]
  refine wpAnyH_take (i := 11) (oi := ⟨some 37, _, _, _, _, _⟩) (v := .pointer (some ⟨r, 16 + (kid + 1) * 32, none⟩)) rfl (by kernel_rfl) (by kernel_rfl) (by kernel_rfl) (fun _ _ _ h => h) (Or.inl ⟨by rfl, ?_⟩) (by assumption) ?_
  · intro w hSw; (try dsimp only at hSw); have q : ¬ 31 ≤ (kid : Int) + 1 := by have := HK2.out; omega
    have q2 : (0 : Int) ≤ (kid : Int) + 1 := by omega
    go_simp
  simp only [Act.put, List.setIfInBounds_toArray, List.set_cons_zero, List.set_cons_succ]
  refine wpAnyH_take (i := 12) (oi := ⟨some 38, _, _, _, _, _⟩) (v := .agg (Lib.byteCells (M (kid + 1))).toArray) rfl (by kernel_rfl) (by kernel_rfl) (by kernel_rfl) (fun _ _ _ h => h) (yieldsIf_load_mid (by rfl) _ _ rfl _ _ rfl (Lib.byteCells (M (kid + 1))) _ (fun w hS => hS.node' HK2.out) Tryz.underlying36 rfl (Sm.infoHash (Tr.size32 HF2.out))) (by assumption) ?_
  simp only [Act.put, List.setIfInBounds_toArray, List.set_cons_zero, List.set_cons_succ]
  refine wpAnyH_ready (rs := [13]) (by kernel_rfl) (by simp) ?_
  refine (AllReadyH.cons (o := ⟨some 39, _, _, _, _, _⟩) rfl (fun K hK => ?_) AllReadyH.nil)
  go_simp
  refine (IT.out _).mono ?_
  rintro e w2 ⟨rfl, k2⟩
  have B2 := Lib.hid (HBD.out.low k2)
  have BB := Lib.hid (Sm.low_low HB1.out HB1.out.size k2)
  refine hK.out _ _ B2.out (fun hHeld => ?_)
  clear hK K
  refine wpAnyH_take (i := 14) (oi := ⟨some 4, _, _, _, _, _⟩) (v := .string (Tr.tx (Tr.innerT (M kid) (M (kid + 1))))) rfl (by kernel_rfl) (by kernel_rfl) (by kernel_rfl) (fun _ _ _ h => h) (Or.inl ⟨by rfl, ?_⟩) (by assumption) ?_
  · intro w hSw; (try dsimp only at hSw); go_simp
  simp only [Act.put, List.setIfInBounds_toArray, List.set_cons_zero, List.set_cons_succ]
  refine wpAnyH_done (by kernel_rfl) ?_ _
  go_wp2
  go_ret
  exact ⟨rfl, BB.out⟩
end Go.Proofs.YtiehcplepneajaaGreatDoor

/-
  tree's made: a node as it is when it is made anew; own of Node, Twin, and the step that makes nodes from one place on upwards.
-/
namespace Go.Proofs.YtiehcplepneajaaGreatDoor
open Go.RowKit
namespace Tr
open Om (Pr)
theorem ndT_length (l : List Pr) (hl : Bu.may l = true) (h48 : l.length ≤ 48) (k : Nat) (hk : k < 31) : (tk l k).length ≤ 100000 := by
  by_cases h : k < 16
  · rw [tk_leaf l h]
    unfold leafT Bu.bytes
    have hm := (Bu.may_iff.1 (Bu.may_part hl k)).1
    have q1 := Bu.prsB_len hm
    have q3 := Bu.part_length l k
    have q2 := R12.enc_len (n := (Bu.part l k).length) (by omega)
    rw [List.length_cons, List.length_append]
    omega
  · rw [tk_inner l (by omega) hk]
    unfold innerT
    rw [List.length_cons, List.length_append, nk_length, nk_length]
    omega
/-- The kids of a place are made. -/
def Kids (M : Nat → List UInt8) (l : List Pr) (k : Nat) : Prop := 16 ≤ k → M (2 * (k - 16)) = nk l (2 * (k - 16)) ∧ M (2 * (k - 16) + 1) = nk l (2 * (k - 16) + 1)
theorem Kids.all (l : List Pr) (k : Nat) : Kids (nk l) l k := fun _ => ⟨rfl, rfl⟩
end Tr
theorem tText_any {w : World} (hH : Sm.HAt w) (hK : Sm.KAt w) (hsz : 1 < w.heap.size) {r : Nat} {S : Nat → Value} {M : Nat → List UInt8} {l : List Om.Pr} (hB : Tr.Blk w r S M) (hR : Tr.Rows w S l) (hf : Tr.Fit l) {k : Nat} (hk : k < 31) (hkid : Tr.Kids M l k) :
    Calls Tryz.prog 88 #[.pointer (some ⟨r, 0, none⟩), .int .i64 (k : Int)] w fun e w' => e = .returned (.string (Tr.tx (Tr.tk l k))) ∧ Below w.heap.size w w' := by
  by_cases h : k < 16
  · obtain ⟨A, c, hS, hrow⟩ := hR k h
    have := tText_leaf hH hK hsz hB h hS hrow.listAt (Bu.page_part hf.may hf.len ⟨by omega, by omega⟩)
    rw [Tr.tk_leaf l h]
    exact this
  · have := tText_inner hB (k := k) (by omega) hk
    obtain ⟨e1, e2⟩ := hkid (by omega)
    rw [e1, e2, ← Tr.tk_inner l (by omega) hk] at this
    exact this
set_option maxRecDepth 100000 in
set_option maxHeartbeats 1000000 in
theorem tMade_any {w : World} (hH : Sm.HAt w) (hK : Sm.KAt w) (hsz : 1 < w.heap.size) {r : Nat} {S : Nat → Value} {M : Nat → List UInt8} {l : List Om.Pr} (hB : Tr.Blk w r S M) (hR : Tr.Rows w S l) (hf : Tr.Fit l) {k : Nat} (hk : k < 31) (hkid : Tr.Kids M l k) :
    Calls Tryz.prog 54 #[.pointer (some ⟨r, 0, none⟩), .int .i64 (k : Int)] w fun e w' => e = .returned (.agg (Lib.byteCells (Tr.nk l k)).toArray) ∧ Below w.heap.size w w' := by
  have b1 : Below w.heap.size w (w.alloc (.cells (Sm.rowB 32 []) 36)) := (Below.refl _ w).alloc (Nat.le_refl _) _
  have HR := Lib.hid (Sm.heap_row32 w)
  have hlt : w.heap.size < (w.alloc (.cells (Sm.rowB 32 []) 36)).heap.size := by simp
  have TT : Hid (∀ wx : World, Below w.heap.size w wx → Calls Tryz.prog 88 #[.pointer (some ⟨r, 0, none⟩), .int .i64 (k : Int)] wx fun e w' => e = .returned (.string (Tr.tx (Tr.tk l k))) ∧ Below wx.heap.size wx w') := fun wx hb =>
    tText_any (hH.low hb (by omega)) (hK.low hb hsz) (Nat.lt_of_lt_of_le hsz hb.size) (hB.low hb) (hR.low hb) hf hk hkid
  have hlen := Tr.ndT_length l hf.may hf.len k hk
  obtain ⟨m, hm⟩ : ∃ m, m = Tr.nk l k := ⟨_, rfl⟩
  have hll : m.length = 32 := by rw [hm]; exact Tr.nk_length l k
  have HS : Hid (∀ wx : World, Below w.heap.size w wx → Calls Tryz.prog 79 #[.string (Tr.tx (Tr.tk l k))] wx fun e w' => e = .returned (.agg (Lib.byteCells m).toArray) ∧ Below wx.heap.size wx w') := fun wx hb => by
    have := sum_any (Tr.tx (Tr.tk l k)) (hH.low hb (by omega)) (hK.low hb hsz) (Nat.lt_of_lt_of_le hsz hb.size) (by rw [Tr.tx_size]; omega)
    rw [Tr.tx_list, ← Tr.nk_text, ← hm] at this
    exact this
  have hsz32 := Tr.size32 hll
  have hz32 := Tr.zero32 hll
  have hone := Sm.bytes_one m
  obtain ⟨T, hT⟩ : ∃ t, t = Tr.tx (Tr.tk l k) := ⟨_, rfl⟩
  rw [← hT] at HS TT
  rw [← hm]
  obtain ⟨cs, hcs⟩ : ∃ c, c = (Lib.byteCells m).toArray := ⟨_, rfl⟩
  rw [← hcs] at HS hsz32 hz32 hone ⊢
  have HB := Lib.hid b1
  clear hH hK hsz hT hcs hm hll b1 hB hR hf hkid hlen hk
  go_enter Tryz.func54, Tryz.ntmps54
  go_wp2_with first
    | (go_at_call 88; refine (TT.out _ HB.out).mono ?_; rintro e w1 ⟨rfl, k1⟩; have HR1 := Lib.hid ((k1.block _ hlt).trans HR.out); have B1 : Hid (Below w.heap.size w w1) := HB.out.trans (k1.mono (Nat.le_of_lt hlt)); have L1 : Hid (w.heap.size < w1.heap.size) := Nat.lt_of_lt_of_le hlt k1.size; clear k1)
    | (go_at_call 79; refine (HS.out _ B1.out).mono ?_; rintro e w2 ⟨rfl, k2⟩; have HR2 := Lib.hid ((k2.block _ L1.out).trans HR1.out); have B2 : Hid (Below w.heap.size w w2) := B1.out.trans (k2.mono (Nat.le_of_lt L1.out)); clear k2)
    | (with_reducible refine wpList_store_row rfl 36 (.tmp 4) (.tmp 8) rfl w.heap.size cs rfl rfl 36 _ (by exact HR2.out) (Sm.infoHash hsz32) hz32 hone ?_)
  exact bodyPost_ret (v := .agg cs) (results_cell_row rfl _ _ w.heap.size 36 _ (0, 0) _ rfl (setRow_heap _ w.heap.size _ _ _ _ HR2.out) Tryz.underlying36 rfl (Sm.infoHash hsz32)) rfl ⟨rfl, Sm.below_setRow B2.out (Nat.le_refl _) _⟩
end Go.Proofs.YtiehcplepneajaaGreatDoor
