/-
  What mac's xored and blockOf do.
-/
import Derived.Test.YtkijdpgdniaagaaDoorMcMem
namespace Go.Proofs.YtkijdpgdniaagaaDoor
open Go.RowKit

set_option maxRecDepth 100000 in
set_option maxHeartbeats 2000000 in
theorem xored_any (l : List UInt8) (hl : l.length = 64) (m : UInt8) (w : World) :
    Calls Tryd.prog 43 #[.agg (Lib.byteCells l).toArray, .int .u8 m.toNat] w fun e w' => e = .returned (.string ⟨(Sm.xored m l).toArray⟩) ∧ Below w.heap.size w w' := by
  have hm := m.toNat_lt
  obtain ⟨cs, hcs⟩ : ∃ c, c = (Lib.byteCells l).toArray := ⟨_, rfl⟩
  rw [← hcs]
  have HC := Lib.hid hcs
  clear hcs
  go_enter Tryd.func43, Tryd.ntmps43
  go_wp2
  have g1 : (w.alloc (.cells cs 77)).heap[w.heap.size]? = some (.cells (Lib.byteCells (Sm.half m l 0)).toArray 77 (0, 0)) := by
    rw [Sm.half_zero, ← HC.out]; exact heap_alloc_new w _
  have g2 : Below w.heap.size w (w.alloc (.cells cs 77)) := (Below.refl _ w).alloc (Nat.le_refl _) _
  generalize w.alloc (.cells cs 77) = W1 at *
  obtain ⟨N, hN⟩ : ∃ N, N = w.heap.size := ⟨_, rfl⟩
  rw [← hN] at g1 g2 ⊢
  have HN := Lib.hid hN
  clear hN
  go_loopw [6] (fun i wr => ∃ k : Nat, k ≤ 64 ∧ i = .int .i64 k ∧ wr.heap[N]? = some (.cells (Lib.byteCells (Sm.half m l k)).toArray 77 (0, 0)) ∧ Below N w wr) (fun i _ => 64 - (intOf i).toNat)
  case atStart => exact ⟨0, by omega, rfl, g1, g2⟩
  case round =>
    clear g1 g2
    obtain ⟨k, hk, rfl, hrow, hbk⟩ := hrel
    have HR := Lib.hid hrow
    clear hrow
    by_cases hlt : k < 64
    · have c0 := Sm.row_cell HR.out k (by rw [Sm.half_length, hl]; exact hlt)
      rw [Sm.half_get _ _ _ (by omega)] at c0
      have fz := Sm.free_of HR.out k
      have hx := Sm.w_xor8 (l.getD k 0) m
      have hst := Sm.half_set m l k (by omega)
      have HST := Lib.hid hst
      have hb1 := byte_fits (l.getD k 0)
      clear hst
      generalize l.getD k 0 = x at *
      go_wp2
      go_roundw
      case rel =>
        refine ⟨k + 1, by omega, by go_num, ?_, hbk.setCell (p := ⟨N, k, none⟩) (Nat.le_refl _) _⟩
        rw [← HST.out, ← Sm.bytes_set]
        exact Sm.heap_set HR.out k _
      case measure => simp [intOf]; omega
    · obtain rfl : k = 64 := by omega
      have hr := HR.out
      have hall : Sm.half m l 64 = Sm.xored m l := by rw [← hl]; exact Sm.half_all m l
      rw [hall] at hr
      have hcv := Sm.conv_row (n := 64) hr (by rw [Sm.xored_length, hl])
      clear hall hr
      go_wp2
      go_ret
      exact ⟨rfl, by rw [← HN.out]; exact hbk⟩

namespace Sm
theorem heap_row64 (w : World) : (w.alloc (.cells (rowB 64 []) 77)).heap[w.heap.size]? = some (.cells (rowB 64 []) 77 (0, 0)) := heap_alloc_new w _
/-- The row of a block into which a key was copied. -/
theorem copy_row (k : List UInt8) : ((rowB 64 []).toList.take 0 ++ Lib.byteCells (k.take k.length) ++ (rowB 64 []).toList.drop (0 + k.length)).toArray = (Lib.byteCells (k ++ List.replicate (64 - k.length) 0)).toArray := by
  have e1 : (rowB 64 []).toList = Lib.byteCells (List.replicate 64 0) := by unfold rowB; rfl
  rw [e1, List.take_length, List.take_zero, List.nil_append, Nat.zero_add, Lib.byteCells_append]
  congr 2
  rw [Lib.byteCells, Lib.byteCells, List.map_replicate, List.map_replicate, List.drop_replicate]
/-- What copy makes of a block. -/
theorem copy_block {w : World} {N : Nat} (ty : TypeId) (s : ByteArray) (hs : s.size ≤ 64) (h : w.heap[N]? = some (.cells (rowB 64 []) 77 (0, 0))) :
    (Builtin.copy_ #[31, 9] ty #[.slice (some ⟨N, 0, none⟩) 64 64, .string s]).run Tryd.prog w = .ok (.int .i64 (s.size : Int)) (w.setRow N (Lib.byteCells (s.data.toList ++ List.replicate (64 - s.size) 0)).toArray) := by
  have e : s.data.toList.length = s.size := rfl
  have r := run_copy_cut (P := Tryd.prog) w 31 9 ty 5 N 0 64 64 s _ 77 s.size (by omega) Tryd.underlying31 info_u8 h (by rw [rowB_size (by simp)]; omega)
  have c := copy_row s.data.toList
  rw [e] at c
  rw [c] at r
  exact r
end Sm

set_option maxRecDepth 100000 in
set_option maxHeartbeats 2000000 in
theorem blockOf_short (s : ByteArray) (hs : s.size ≤ 64) (w : World) :
    Calls Tryd.prog 41 #[.string s] w fun e w' => e = .returned (.agg (Lib.byteCells (Sm.kblock s.data.toList)).toArray) ∧ Below w.heap.size w w' := by
  have hk : Sm.kblock s.data.toList = s.data.toList ++ List.replicate (64 - s.size) 0 := by
    have h : Sm.keyed s.data.toList = s.data.toList := by unfold Sm.keyed; rw [if_neg (by show ¬ 64 < s.size; omega)]
    unfold Sm.kblock; rw [h]; rfl
  have hsi : ¬ (64 : Int) < s.size := by omega
  have hlen : (Lib.byteCells (Sm.kblock s.data.toList)).toArray.size = 64 := by rw [Sm.bytes_size, Sm.kblock_length]
  have g1 := Sm.heap_row64 w
  have g2 : Below w.heap.size w (w.alloc (.cells (Sm.rowB 64 []) 77)) := (Below.refl _ w).alloc (Nat.le_refl _) _
  have hone := Sm.bytes_one (Sm.kblock s.data.toList)
  have HK := Lib.hid hk
  clear hk
  go_enter Tryd.func41, Tryd.ntmps41
  go_upto_region 4 with (fail)
  change Code.wp _ _ _ _ (w.alloc (.cells (Sm.rowB 64 []) 77))
  generalize w.alloc (.cells (Sm.rowB 64 []) 77) = W1 at *
  have hcp := Sm.copy_block 3 s hs g1
  rw [← HK.out] at hcp
  obtain ⟨cs, hcs⟩ : ∃ c, c = (Lib.byteCells (Sm.kblock s.data.toList)).toArray := ⟨_, rfl⟩
  rw [← hcs] at hcp hlen hone
  have HC := Lib.hid hcs
  clear hcs
  have g3 : (W1.setRow w.heap.size cs).heap[w.heap.size]? = some (.cells cs 77 (0, 0)) := setRow_heap W1 w.heap.size _ _ _ _ g1
  have g4 : Below w.heap.size w (W1.setRow w.heap.size cs) := Sm.below_setRow g2 (Nat.le_refl _) _
  generalize W1.setRow w.heap.size cs = W2 at *
  have HR2 := Lib.hid g3
  clear g1 g2 g3
  go_wp2_with (first | (with_reducible refine wpList_load_row rfl 77 (.tmp 2) rfl w.heap.size rfl 77 cs (0, 0) _ (by exact HR2.out) Tryd.underlying77 rfl (Sm.infoBlk hlen) ?_) | (with_reducible refine wpList_store_row rfl 77 (.tmp 2) (.tmp 14) rfl w.heap.size cs rfl rfl 77 _ (by exact HR2.out) (Sm.infoBlk hlen) rfl hone ?_))
  exact bodyPost_ret (v := .agg cs) (results_cell_row rfl _ _ w.heap.size 77 _ (0, 0) _ rfl (setRow_heap _ w.heap.size _ _ _ _ HR2.out) Tryd.underlying77 rfl (Sm.infoBlk hlen)) rfl ⟨by rw [HC.out], Sm.below_setRow g4 (Nat.le_refl _) _⟩

set_option maxRecDepth 100000 in
set_option maxHeartbeats 2000000 in
theorem blockOf_long (s : ByteArray) (hs : 64 < s.size) {w : World} (hH : Sm.HAt w) (hK : Sm.KAt w) (hsz : 1 < w.heap.size) (hmax : s.size ≤ 1152921504606846976) :
    Calls Tryd.prog 41 #[.string s] w fun e w' => e = .returned (.agg (Lib.byteCells (Sm.kblock s.data.toList)).toArray) ∧ Below w.heap.size w w' := by
  have hk : Sm.kblock s.data.toList = Sm.sum s.data.toList ++ List.replicate (64 - (ByteArray.mk (Sm.sum s.data.toList).toArray).size) 0 := by
    have h : Sm.keyed s.data.toList = Sm.sum s.data.toList := if_pos hs
    unfold Sm.kblock; rw [h]; rfl
  have hsi : (64 : Int) < s.size := by omega
  have hlen : (Lib.byteCells (Sm.kblock s.data.toList)).toArray.size = 64 := by rw [Sm.bytes_size, Sm.kblock_length]
  have g1 := Sm.heap_row64 w
  have g2 : Below w.heap.size w (w.alloc (.cells (Sm.rowB 64 []) 77)) := (Below.refl _ w).alloc (Nat.le_refl _) _
  have hs1 : w.heap.size < (w.alloc (.cells (Sm.rowB 64 []) 77)).heap.size := by simp
  have hone := Sm.bytes_one (Sm.kblock s.data.toList)
  have HK := Lib.hid hk
  have HH := Lib.hid hH
  have HKK := Lib.hid hK
  clear hk hH hK
  go_enter Tryd.func41, Tryd.ntmps41
  go_wp2_with fail
  change Calls _ _ _ (w.alloc (.cells (Sm.rowB 64 []) 77)) _
  generalize w.alloc (.cells (Sm.rowB 64 []) 77) = W1 at *
  refine (sum_any s (HH.out.low g2 (by omega)) (HKK.out.low g2 hsz) (by omega) hmax).mono ?_
  rintro e W2 ⟨rfl, k2⟩
  have g3 := (k2.block w.heap.size hs1).trans g1
  have g4 : Below w.heap.size w W2 := Sm.low_low g2 (Nat.le_refl _) k2
  have hsum := Sm.sum_length s.data.toList
  have hsz32 : (Lib.byteCells (Sm.sum s.data.toList)).toArray.size = 32 := by rw [Sm.bytes_size, hsum]
  have hone2 := Sm.bytes_one (Sm.sum s.data.toList)
  have hst : ∀ (c : Array Value), c.size = 32 → (storeCells ⟨W2.heap.size, 0, none⟩ (Lib.byteCells (Sm.sum s.data.toList)).toArray.toList).run Tryd.prog (W2.alloc (.cells c 24)) = .ok () (W2.alloc (.cells (Lib.byteCells (Sm.sum s.data.toList)).toArray 24)) := fun c hc =>
    run_storeCells_new (P := Tryd.prog) W2 24 c _ (Sm.infoHash hsz32) (by rw [hsz32]; exact hc) hone2
  have hcv : (convert 31 9 (.slice (some ⟨W2.heap.size, 0, none⟩) 32 32)).run Tryd.prog (W2.alloc (.cells (Lib.byteCells (Sm.sum s.data.toList)).toArray 24)) = .ok (.string ⟨(Sm.sum s.data.toList).toArray⟩) (W2.alloc (.cells (Lib.byteCells (Sm.sum s.data.toList)).toArray 24)) :=
    Sm.conv_row (heap_alloc_new W2 _) hsum
  have hrow : ∀ o, (W2.alloc o).heap[w.heap.size]? = some (.cells (Sm.rowB 64 []) 77 (0, 0)) := fun o => by
    rw [Below.heap_alloc _ _ _ (Sm.lt_of g3)]; exact g3
  have hle : (ByteArray.mk (Sm.sum s.data.toList).toArray).size ≤ 64 := by
    have : (ByteArray.mk (Sm.sum s.data.toList).toArray).size = (Sm.sum s.data.toList).length := rfl
    omega
  obtain ⟨cl, hcl⟩ : ∃ c, c = (Lib.byteCells (Sm.sum s.data.toList)).toArray := ⟨_, rfl⟩
  rw [← hcl] at hst hcv hsz32 hone2 ⊢
  have hcp := Sm.copy_block 3 ⟨(Sm.sum s.data.toList).toArray⟩ hle (hrow (.cells cl 24))
  have e5 : (ByteArray.mk (Sm.sum s.data.toList).toArray).data.toList = Sm.sum s.data.toList := rfl
  rw [e5, ← HK.out] at hcp
  obtain ⟨cs, hcs⟩ : ∃ c, c = (Lib.byteCells (Sm.kblock s.data.toList)).toArray := ⟨_, rfl⟩
  rw [← hcs] at hcp hlen hone
  have HC := Lib.hid hcs
  have g5 : ((W2.alloc (.cells cl 24)).setRow w.heap.size cs).heap[w.heap.size]? = some (.cells cs 77 (0, 0)) := setRow_heap (W2.alloc (.cells cl 24)) w.heap.size _ _ _ _ (hrow (.cells cl 24))
  have g6 : Below w.heap.size w ((W2.alloc (.cells cl 24)).setRow w.heap.size cs) := Sm.below_setRow (g4.alloc g4.size _) (Nat.le_refl _) _
  generalize (W2.alloc (.cells cl 24)).setRow w.heap.size cs = W3 at *
  have HR2 := Lib.hid g5
  clear g1 g2 g3 g5 hcs hcl hrow e5 hsum hone2 k2
  go_wp2_with (first | (with_reducible refine wpList_load_row rfl 77 (.tmp 2) rfl w.heap.size rfl 77 cs (0, 0) _ (by exact HR2.out) Tryd.underlying77 rfl (Sm.infoBlk hlen) ?_) | (with_reducible refine wpList_store_row rfl 77 (.tmp 2) (.tmp 14) rfl w.heap.size cs rfl rfl 77 _ (by exact HR2.out) (Sm.infoBlk hlen) rfl hone ?_))
  exact bodyPost_ret (v := .agg cs) (results_cell_row rfl _ _ w.heap.size 77 _ (0, 0) _ rfl (setRow_heap _ w.heap.size _ _ _ _ HR2.out) Tryd.underlying77 rfl (Sm.infoBlk hlen)) rfl ⟨by rw [HC.out], Sm.below_setRow g6 (Nat.le_refl _) _⟩

theorem blockOf_any (s : ByteArray) {w : World} (hH : Sm.HAt w) (hK : Sm.KAt w) (hsz : 1 < w.heap.size) (hmax : s.size ≤ 1152921504606846976) :
    Calls Tryd.prog 41 #[.string s] w fun e w' => e = .returned (.agg (Lib.byteCells (Sm.kblock s.data.toList)).toArray) ∧ Below w.heap.size w w' := by
  by_cases h : s.size ≤ 64
  · exact blockOf_short s h w
  · exact blockOf_long s (by omega) hH hK hsz hmax
end Go.Proofs.YtkijdpgdniaagaaDoor
