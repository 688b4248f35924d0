/-
  What Sum of a text and Digits do.
-/
import Derived.Test.YtkijdpgdniaagaaDoorShSum
namespace Go.Proofs.YtkijdpgdniaagaaDoor
open Go.RowKit

set_option maxRecDepth 100000 in
set_option maxHeartbeats 2000000 in
theorem sum_any (s : ByteArray) {w : World} (hH : Sm.HAt w) (hK : Sm.KAt w) (hsz : 1 < w.heap.size) (hlen : s.size ≤ 1152921504606846976) :
    Calls Tryd.prog 15 #[.string s] w fun e w' => e = .returned (.agg (Lib.byteCells (Sm.sum s.data.toList)).toArray) ∧ Below w.heap.size w w' := by
  have HH := Lib.hid hH
  have HK := Lib.hid hK
  clear hH hK
  have hb1 : Below w.heap.size w (w.alloc (.cells (Sm.rowB 32 []) 24)) := (Below.refl _ w).alloc (Nat.le_refl _) _
  have hr1 := Sm.heap_row32 w
  have hh1 := HH.out.low hb1 (by omega)
  have hk1 := HK.out.low hb1 hsz
  have hs1 : (w.alloc (.cells (Sm.rowB 32 []) 24)).heap.size = w.heap.size + 1 := by simp
  go_enter Tryd.func15, Tryd.ntmps15
  go_wp2_with fail
  change Calls _ _ _ (w.alloc (.cells (Sm.rowB 32 []) 24)) _
  generalize w.alloc (.cells (Sm.rowB 32 []) 24) = W1 at *
  refine (new_any W1 hh1).mono ?_
  rintro e w1 ⟨rfl, rfl⟩
  have hb2 : Below W1.heap.size W1 (W1.alloc Sm.fresh) := (Below.refl _ W1).alloc (Nat.le_refl _) _
  have hi2 := Sm.is_new W1
  have hr2 := (hb2.block w.heap.size (by omega)).trans hr1
  have hb2w : Below w.heap.size w (W1.alloc Sm.fresh) := hb1.trans (hb2.mono (by omega))
  have hs2 : (W1.alloc Sm.fresh).heap.size = w.heap.size + 2 := by simp; omega
  generalize W1.alloc Sm.fresh = W2 at *
  rw [hs1] at hi2 ⊢
  have hk2 := HK.out.low hb2w hsz
  have HI2 := Lib.hid hi2
  have HK2 := Lib.hid hk2
  have HR2 := Lib.hid hr2
  clear hi2 hk2 hr2 hr1 hb1 hb2 hh1 hk1 hs1
  go_wp2_with fail
  refine (write_any s HI2.out HK2.out (by omega) (by omega) (by simp; omega)).mono ?_
  rintro e w3 ⟨rfl, hg3, hi3⟩
  have hs3 := hg3.size
  have hr3 := (hg3.block w.heap.size (by omega) (by intro e; have := Option.some.inj e; omega)).trans HR2.out
  have hb3w : Below w.heap.size w w3 := hb2w.trans (Sm.grown_from hg3 (by omega) (by omega))
  have hk3 := HK.out.low hb3w hsz
  rw [List.nil_append] at hi3
  have HI3 := Lib.hid hi3
  have HK3 := Lib.hid hk3
  have HR3 := Lib.hid hr3
  clear hi3 hk3 hr3 hg3
  go_wp2_with fail
  refine (xsum_any HI3.out HK3.out (by exact hlen) (by omega)).mono ?_
  rintro e w4 ⟨rfl, hb4⟩
  have hr4 : w4.heap[w.heap.size]? = some (.cells (Sm.rowB 32 []) 24 (0, 0)) := (hb4.block _ (by omega)).trans HR3.out
  have HR4 := Lib.hid hr4
  have hsz32 : (Lib.byteCells (Sm.sum s.data.toList)).toArray.size = 32 := by simp [Lib.byteCells, Sm.sum_length]
  have hone := Sm.bytes_one (Sm.sum s.data.toList)
  have hz32 : (Sm.rowB 32 []).size = (Lib.byteCells (Sm.sum s.data.toList)).toArray.size := by rw [hsz32]; exact Sm.rowB_size (by simp)
  obtain ⟨cs2, hcs2⟩ : ∃ c, c = (Lib.byteCells (Sm.sum s.data.toList)).toArray := ⟨_, rfl⟩
  rw [← hcs2] at hsz32 hone hz32 ⊢
  have HC2 := Lib.hid hcs2
  clear hcs2 hr4
  go_wp2_with (with_reducible refine wpList_store_row rfl 24 (.tmp 2) (.tmp 9) rfl w.heap.size cs2 rfl rfl 24 _ (by exact HR4.out) (Sm.infoHash hsz32) hz32 hone ?_)
  exact bodyPost_ret (v := .agg cs2) (results_cell_row rfl _ _ w.heap.size 24 _ (0, 0) _ rfl (setRow_heap _ w.heap.size _ _ _ _ HR4.out) Tryd.underlying24 rfl (Sm.infoHash hsz32)) rfl ⟨by rw [HC2.out], Sm.below_setRow (hb3w.trans (hb4.mono (by omega))) (Nat.le_refl _) _⟩
end Go.Proofs.YtkijdpgdniaagaaDoor
