/-
  Texts that belong together, laid into one.
-/
import Derived.Test.YtibpgmcpcelmpaaGreatDoorMBase
import Derived.Test.YtibpgmcpcelmpaaGreatDoorMSha
import Derived.Deep.RegionHeld3
import Derived.Deep.Cut
/-
  HMAC-SHA256 as plain functions.
-/
namespace Go.Proofs.YtibpgmcpcelmpaaGreatDoor.Sm

/-- What of a key goes into its block. -/
def keyed (k : List UInt8) : List UInt8 := if 64 < k.length then sum k else k
/-- A key's block. -/
def kblock (k : List UInt8) : List UInt8 := keyed k ++ List.replicate (64 - (keyed k).length) 0
def xored (m : UInt8) (l : List UInt8) : List UInt8 := l.map (· ^^^ m)
def tag (k t : List UInt8) : List UInt8 := sum (xored 92 (kblock k) ++ sum (xored 54 (kblock k) ++ t))
theorem keyed_le (k : List UInt8) : (keyed k).length ≤ 64 := by
  unfold keyed
  split
  · rw [sum_length]; decide
  · omega
theorem kblock_length (k : List UInt8) : (kblock k).length = 64 := by
  have := keyed_le k
  simp [kblock]; omega
theorem xored_length (m : UInt8) (l : List UInt8) : (xored m l).length = l.length := by simp [xored]
theorem tag_length (k t : List UInt8) : (tag k t).length = 32 := sum_length _
theorem kblock_noughts (k : List UInt8) (n : Nat) (h : k.length + n ≤ 64) : kblock (k ++ List.replicate n 0) = kblock k := by
  have h1 : keyed (k ++ List.replicate n 0) = k ++ List.replicate n 0 := by unfold keyed; rw [if_neg (by simp; omega)]
  have h2 : keyed k = k := by unfold keyed; rw [if_neg (by omega)]
  unfold kblock
  rw [h1, h2, List.append_assoc]
  congr 1
  rw [List.length_append, List.length_replicate, List.replicate_append_replicate]
  congr 1
  omega
theorem kblock_long (k : List UInt8) (h : 64 < k.length) : kblock (sum k) = kblock k := by
  have h1 : keyed k = sum k := if_pos h
  have h2 : keyed (sum k) = sum k := by unfold keyed; rw [if_neg (by rw [sum_length]; decide)]
  unfold kblock
  rw [h1, h2]
theorem tag_noughts (k t : List UInt8) (n : Nat) (h : k.length + n ≤ 64) : tag (k ++ List.replicate n 0) t = tag k t := by
  unfold tag; rw [kblock_noughts k n h]
theorem tag_long (k t : List UInt8) (h : 64 < k.length) : tag (sum k) t = tag k t := by
  unfold tag; rw [kblock_long k h]
theorem kblock_get (k : List UInt8) (h : k.length ≤ 64) (i : Nat) : (kblock k).getD i 0 = k.getD i 0 := by
  have h1 : keyed k = k := by unfold keyed; rw [if_neg (by omega)]
  unfold kblock
  rw [h1, List.getD_eq_getElem?_getD, List.getElem?_append, List.getD_eq_getElem?_getD]
  split
  · rfl
  · rw [List.getElem?_eq_none (l := k) (by omega), List.getElem?_replicate]
    split <;> rfl
end Go.Proofs.YtibpgmcpcelmpaaGreatDoor.Sm

/-
  Small facts on worlds and rows of bytes, for mac.
-/
namespace Go.Proofs.YtibpgmcpcelmpaaGreatDoor.Sm
open Go.RowKit

/-- A block, of which the first k bytes are xored. -/
def half (m : UInt8) (l : List UInt8) (k : Nat) : List UInt8 := xored m (l.take k) ++ l.drop k
theorem half_zero (m : UInt8) (l : List UInt8) : half m l 0 = l := by simp [half, xored]
theorem half_all (m : UInt8) (l : List UInt8) : half m l l.length = xored m l := by simp [half]
theorem half_length (m : UInt8) (l : List UInt8) (k : Nat) : (half m l k).length = l.length := by
  simp [half, xored]; omega
theorem half_get (m : UInt8) (l : List UInt8) (k : Nat) (h : k < l.length) : (half m l k).getD k 0 = l.getD k 0 := by
  have hl : (xored m (l.take k)).length = k := by simp [xored]; omega
  rw [List.getD_eq_getElem?_getD, List.getD_eq_getElem?_getD, half, List.getElem?_append_right (by omega), hl, List.getElem?_drop]
  simp
theorem half_set (m : UInt8) (l : List UInt8) (k : Nat) (h : k < l.length) : (half m l k).set k (l.getD k 0 ^^^ m) = half m l (k + 1) := by
  have hl : (xored m (l.take k)).length = k := by simp [xored]; omega
  have hd : l.drop k = l[k] :: l.drop (k + 1) := List.drop_eq_getElem_cons h
  have e : xored m (l.take k ++ [l[k]]) = xored m (l.take k) ++ [l[k] ^^^ m] := by unfold xored; rw [List.map_append]; rfl
  rw [half, List.set_append_right _ _ (by omega), hl, Nat.sub_self, hd, List.set_cons_zero, half, List.take_succ_eq_append_getElem h, e, List.getD_eq_getElem?_getD, List.getElem?_eq_getElem h, List.append_assoc]
  rfl
theorem infoBlk {c : Array Value} (h : c.size = 64) : (Tryz.prog.info? 175).map (·.size) = some c.size := by rw [h]; kernel_rfl
end Go.Proofs.YtibpgmcpcelmpaaGreatDoor.Sm

/-
  What mac's xored and blockOf do.
-/
namespace Go.Proofs.YtibpgmcpcelmpaaGreatDoor
open Go.RowKit

set_option maxRecDepth 100000 in
set_option maxHeartbeats 2000000 in
theorem xored_any (l : List UInt8) (hl : l.length = 64) (m : UInt8) (w : World) :
    Calls Tryz.prog 103 #[.agg (Lib.byteCells l).toArray, .int .u8 m.toNat] w fun e w' => e = .returned (.string ⟨(Sm.xored m l).toArray⟩) ∧ Below w.heap.size w w' := by
  have hm := m.toNat_lt
  obtain ⟨cs, hcs⟩ : ∃ c, c = (Lib.byteCells l).toArray := ⟨_, rfl⟩
  rw [← hcs]
  have HC := Lib.hid hcs
  clear hcs
  go_enter Tryz.func103, Tryz.ntmps103
  go_wp2
  have g1 : (w.alloc (.cells cs 175)).heap[w.heap.size]? = some (.cells (Lib.byteCells (Sm.half m l 0)).toArray 175 (0, 0)) := by
    rw [Sm.half_zero, ← HC.out]; exact heap_alloc_new w _
  have g2 : Below w.heap.size w (w.alloc (.cells cs 175)) := (Below.refl _ w).alloc (Nat.le_refl _) _
  generalize w.alloc (.cells cs 175) = W1 at *
  obtain ⟨N, hN⟩ : ∃ N, N = w.heap.size := ⟨_, rfl⟩
  rw [← hN] at g1 g2 ⊢
  have HN := Lib.hid hN
  clear hN
  go_loopw [6] (fun i wr => ∃ k : Nat, k ≤ 64 ∧ i = .int .i64 k ∧ wr.heap[N]? = some (.cells (Lib.byteCells (Sm.half m l k)).toArray 175 (0, 0)) ∧ Below N w wr) (fun i _ => 64 - (intOf i).toNat)
  case atStart => exact ⟨0, by omega, rfl, g1, g2⟩
  case round =>
    clear g1 g2
    obtain ⟨k, hk, rfl, hrow, hbk⟩ := hrel
    have HR := Lib.hid hrow
    clear hrow
    by_cases hlt : k < 64
    · have c0 := Sm.row_cell HR.out k (by rw [Sm.half_length, hl]; exact hlt)
      rw [Sm.half_get _ _ _ (by omega)] at c0
      have fz := Sm.free_of HR.out k
      have hx := Sm.w_xor8 (l.getD k 0) m
      have hst := Sm.half_set m l k (by omega)
      have HST := Lib.hid hst
      have hb1 := byte_fits (l.getD k 0)
      clear hst
      generalize l.getD k 0 = x at *
      go_wp2
      go_roundw
      case rel =>
        refine ⟨k + 1, by omega, by go_num, ?_, hbk.setCell (p := ⟨N, k, none⟩) (Nat.le_refl _) _⟩
        rw [← HST.out, ← Sm.bytes_set]
        exact Sm.heap_set HR.out k _
      case measure => simp [intOf]; omega
    · obtain rfl : k = 64 := by omega
      have hr := HR.out
      have hall : Sm.half m l 64 = Sm.xored m l := by rw [← hl]; exact Sm.half_all m l
      rw [hall] at hr
      have hcv := Sm.conv_row (n := 64) hr (by rw [Sm.xored_length, hl])
      clear hall hr
      go_wp2
      go_ret
      exact ⟨rfl, by rw [← HN.out]; exact hbk⟩

namespace Sm
theorem heap_row64 (w : World) : (w.alloc (.cells (rowB 64 []) 175)).heap[w.heap.size]? = some (.cells (rowB 64 []) 175 (0, 0)) := heap_alloc_new w _
/-- The row of a block into which a key was copied. -/
theorem copy_row (k : List UInt8) : ((rowB 64 []).toList.take 0 ++ Lib.byteCells (k.take k.length) ++ (rowB 64 []).toList.drop (0 + k.length)).toArray = (Lib.byteCells (k ++ List.replicate (64 - k.length) 0)).toArray := by
  have e1 : (rowB 64 []).toList = Lib.byteCells (List.replicate 64 0) := by unfold rowB; rfl
  rw [e1, List.take_length, List.take_zero, List.nil_append, Nat.zero_add, Lib.byteCells_append]
  congr 2
  rw [Lib.byteCells, Lib.byteCells, List.map_replicate, List.map_replicate, List.drop_replicate]
/-- What copy makes of a block. -/
theorem copy_block {w : World} {N : Nat} (ty : TypeId) (s : ByteArray) (hs : s.size ≤ 64) (h : w.heap[N]? = some (.cells (rowB 64 []) 175 (0, 0))) :
    (Builtin.copy_ #[85, 9] ty #[.slice (some ⟨N, 0, none⟩) 64 64, .string s]).run Tryz.prog w = .ok (.int .i64 (s.size : Int)) (w.setRow N (Lib.byteCells (s.data.toList ++ List.replicate (64 - s.size) 0)).toArray) := by
  have e : s.data.toList.length = s.size := rfl
  have r := run_copy_cut (P := Tryz.prog) w 85 9 ty 5 N 0 64 64 s _ 175 s.size (by omega) Tryz.underlying85 info_u8s h (by rw [rowB_size (by simp)]; omega)
  have c := copy_row s.data.toList
  rw [e] at c
  rw [c] at r
  exact r
end Sm

set_option maxRecDepth 100000 in
set_option maxHeartbeats 2000000 in
theorem blockOf_short (s : ByteArray) (hs : s.size ≤ 64) (w : World) :
    Calls Tryz.prog 101 #[.string s] w fun e w' => e = .returned (.agg (Lib.byteCells (Sm.kblock s.data.toList)).toArray) ∧ Below w.heap.size w w' := by
  have hk : Sm.kblock s.data.toList = s.data.toList ++ List.replicate (64 - s.size) 0 := by
    have h : Sm.keyed s.data.toList = s.data.toList := by unfold Sm.keyed; rw [if_neg (by show ¬ 64 < s.size; omega)]
    unfold Sm.kblock; rw [h]; rfl
  have hsi : ¬ (64 : Int) < s.size := by omega
  have hlen : (Lib.byteCells (Sm.kblock s.data.toList)).toArray.size = 64 := by rw [Sm.bytes_size, Sm.kblock_length]
  have g1 := Sm.heap_row64 w
  have g2 : Below w.heap.size w (w.alloc (.cells (Sm.rowB 64 []) 175)) := (Below.refl _ w).alloc (Nat.le_refl _) _
  have hone := Sm.bytes_one (Sm.kblock s.data.toList)
  have HK := Lib.hid hk
  clear hk
  go_enter Tryz.func101, Tryz.ntmps101
  go_upto_region 4 with (fail)
  change Code.wp _ _ _ _ (w.alloc (.cells (Sm.rowB 64 []) 175))
  generalize w.alloc (.cells (Sm.rowB 64 []) 175) = W1 at *
  have hcp := Sm.copy_block 3 s hs g1
  rw [← HK.out] at hcp
  obtain ⟨cs, hcs⟩ : ∃ c, c = (Lib.byteCells (Sm.kblock s.data.toList)).toArray := ⟨_, rfl⟩
  rw [← hcs] at hcp hlen hone
  have HC := Lib.hid hcs
  clear hcs
  have g3 : (W1.setRow w.heap.size cs).heap[w.heap.size]? = some (.cells cs 175 (0, 0)) := setRow_heap W1 w.heap.size _ _ _ _ g1
  have g4 : Below w.heap.size w (W1.setRow w.heap.size cs) := Sm.below_setRow g2 (Nat.le_refl _) _
  generalize W1.setRow w.heap.size cs = W2 at *
  have HR2 := Lib.hid g3
  clear g1 g2 g3
  go_wp2_with (first | (with_reducible refine wpList_load_row rfl 175 (.tmp 2) rfl w.heap.size rfl 175 cs (0, 0) _ (by exact HR2.out) Tryz.underlying175 rfl (Sm.infoBlk hlen) ?_) | (with_reducible refine wpList_store_row rfl 175 (.tmp 2) (.tmp 14) rfl w.heap.size cs rfl rfl 175 _ (by exact HR2.out) (Sm.infoBlk hlen) rfl hone ?_))
  exact bodyPost_ret (v := .agg cs) (results_cell_row rfl _ _ w.heap.size 175 _ (0, 0) _ rfl (setRow_heap _ w.heap.size _ _ _ _ HR2.out) Tryz.underlying175 rfl (Sm.infoBlk hlen)) rfl ⟨by rw [HC.out], Sm.below_setRow g4 (Nat.le_refl _) _⟩

set_option maxRecDepth 100000 in
set_option maxHeartbeats 2000000 in
theorem blockOf_long (s : ByteArray) (hs : 64 < s.size) {w : World} (hH : Sm.HAt w) (hK : Sm.KAt w) (hsz : 1 < w.heap.size) (hmax : s.size ≤ 1152921504606846976) :
    Calls Tryz.prog 101 #[.string s] w fun e w' => e = .returned (.agg (Lib.byteCells (Sm.kblock s.data.toList)).toArray) ∧ Below w.heap.size w w' := by
  have hk : Sm.kblock s.data.toList = Sm.sum s.data.toList ++ List.replicate (64 - (ByteArray.mk (Sm.sum s.data.toList).toArray).size) 0 := by
    have h : Sm.keyed s.data.toList = Sm.sum s.data.toList := if_pos hs
    unfold Sm.kblock; rw [h]; rfl
  have hsi : (64 : Int) < s.size := by omega
  have hlen : (Lib.byteCells (Sm.kblock s.data.toList)).toArray.size = 64 := by rw [Sm.bytes_size, Sm.kblock_length]
  have g1 := Sm.heap_row64 w
  have g2 : Below w.heap.size w (w.alloc (.cells (Sm.rowB 64 []) 175)) := (Below.refl _ w).alloc (Nat.le_refl _) _
  have hs1 : w.heap.size < (w.alloc (.cells (Sm.rowB 64 []) 175)).heap.size := by simp
  have hone := Sm.bytes_one (Sm.kblock s.data.toList)
  have HK := Lib.hid hk
  have HH := Lib.hid hH
  have HKK := Lib.hid hK
  clear hk hH hK
  go_enter Tryz.func101, Tryz.ntmps101
  go_wp2_with fail
  change Calls _ _ _ (w.alloc (.cells (Sm.rowB 64 []) 175)) _
  generalize w.alloc (.cells (Sm.rowB 64 []) 175) = W1 at *
  refine (sum_any s (HH.out.low g2 (by omega)) (HKK.out.low g2 hsz) (by omega) hmax).mono ?_
  rintro e W2 ⟨rfl, k2⟩
  have g3 := (k2.block w.heap.size hs1).trans g1
  have g4 : Below w.heap.size w W2 := Sm.low_low g2 (Nat.le_refl _) k2
  have hsum := Sm.sum_length s.data.toList
  have hsz32 : (Lib.byteCells (Sm.sum s.data.toList)).toArray.size = 32 := by rw [Sm.bytes_size, hsum]
  have hone2 := Sm.bytes_one (Sm.sum s.data.toList)
  have hst : ∀ (c : Array Value), c.size = 32 → (storeCells ⟨W2.heap.size, 0, none⟩ (Lib.byteCells (Sm.sum s.data.toList)).toArray.toList).run Tryz.prog (W2.alloc (.cells c 64)) = .ok () (W2.alloc (.cells (Lib.byteCells (Sm.sum s.data.toList)).toArray 64)) := fun c hc =>
    run_storeCells_new (P := Tryz.prog) W2 64 c _ (Sm.infoHash hsz32) (by rw [hsz32]; exact hc) hone2
  have hcv : (convert 85 9 (.slice (some ⟨W2.heap.size, 0, none⟩) 32 32)).run Tryz.prog (W2.alloc (.cells (Lib.byteCells (Sm.sum s.data.toList)).toArray 64)) = .ok (.string ⟨(Sm.sum s.data.toList).toArray⟩) (W2.alloc (.cells (Lib.byteCells (Sm.sum s.data.toList)).toArray 64)) :=
    Sm.conv_row (heap_alloc_new W2 _) hsum
  have hrow : ∀ o, (W2.alloc o).heap[w.heap.size]? = some (.cells (Sm.rowB 64 []) 175 (0, 0)) := fun o => by
    rw [Below.heap_alloc _ _ _ (Sm.lt_of g3)]; exact g3
  have hle : (ByteArray.mk (Sm.sum s.data.toList).toArray).size ≤ 64 := by
    have : (ByteArray.mk (Sm.sum s.data.toList).toArray).size = (Sm.sum s.data.toList).length := rfl
    omega
  obtain ⟨cl, hcl⟩ : ∃ c, c = (Lib.byteCells (Sm.sum s.data.toList)).toArray := ⟨_, rfl⟩
  rw [← hcl] at hst hcv hsz32 hone2 ⊢
  have hcp := Sm.copy_block 3 ⟨(Sm.sum s.data.toList).toArray⟩ hle (hrow (.cells cl 64))
  have e5 : (ByteArray.mk (Sm.sum s.data.toList).toArray).data.toList = Sm.sum s.data.toList := rfl
  rw [e5, ← HK.out] at hcp
  obtain ⟨cs, hcs⟩ : ∃ c, c = (Lib.byteCells (Sm.kblock s.data.toList)).toArray := ⟨_, rfl⟩
  rw [← hcs] at hcp hlen hone
  have HC := Lib.hid hcs
  have g5 : ((W2.alloc (.cells cl 64)).setRow w.heap.size cs).heap[w.heap.size]? = some (.cells cs 175 (0, 0)) := setRow_heap (W2.alloc (.cells cl 64)) w.heap.size _ _ _ _ (hrow (.cells cl 64))
  have g6 : Below w.heap.size w ((W2.alloc (.cells cl 64)).setRow w.heap.size cs) := Sm.below_setRow (g4.alloc g4.size _) (Nat.le_refl _) _
  generalize (W2.alloc (.cells cl 64)).setRow w.heap.size cs = W3 at *
  have HR2 := Lib.hid g5
  clear g1 g2 g3 g5 hcs hcl hrow e5 hsum hone2 k2
  go_wp2_with (first | (with_reducible refine wpList_load_row rfl 175 (.tmp 2) rfl w.heap.size rfl 175 cs (0, 0) _ (by exact HR2.out) Tryz.underlying175 rfl (Sm.infoBlk hlen) ?_) | (with_reducible refine wpList_store_row rfl 175 (.tmp 2) (.tmp 14) rfl w.heap.size cs rfl rfl 175 _ (by exact HR2.out) (Sm.infoBlk hlen) rfl hone ?_))
  exact bodyPost_ret (v := .agg cs) (results_cell_row rfl _ _ w.heap.size 175 _ (0, 0) _ rfl (setRow_heap _ w.heap.size _ _ _ _ HR2.out) Tryz.underlying175 rfl (Sm.infoBlk hlen)) rfl ⟨by rw [HC.out], Sm.below_setRow g6 (Nat.le_refl _) _⟩

theorem blockOf_any (s : ByteArray) {w : World} (hH : Sm.HAt w) (hK : Sm.KAt w) (hsz : 1 < w.heap.size) (hmax : s.size ≤ 1152921504606846976) :
    Calls Tryz.prog 101 #[.string s] w fun e w' => e = .returned (.agg (Lib.byteCells (Sm.kblock s.data.toList)).toArray) ∧ Below w.heap.size w w' := by
  by_cases h : s.size ≤ 64
  · exact blockOf_short s h w
  · exact blockOf_long s (by omega) hH hK hsz hmax
end Go.Proofs.YtibpgmcpcelmpaaGreatDoor

/-
  What mac's hash and Tag do.
-/
namespace Go.Proofs.YtibpgmcpcelmpaaGreatDoor
open Go.RowKit

set_option maxRecDepth 100000 in
set_option maxHeartbeats 2000000 in
theorem hash_any (s t : ByteArray) {w : World} (hH : Sm.HAt w) (hK : Sm.KAt w) (hsz : 1 < w.heap.size) (hlen : s.size + t.size ≤ 1152921504606846976) :
    Calls Tryz.prog 102 #[.string s, .string t] w fun e w' => e = .returned (.agg (Lib.byteCells (Sm.sum (s.data.toList ++ t.data.toList))).toArray) ∧ Below w.heap.size w w' := by
  have HH := Lib.hid hH
  have HK := Lib.hid hK
  clear hH hK
  have hb1 : Below w.heap.size w (w.alloc (.cells (Sm.rowB 32 []) 64)) := (Below.refl _ w).alloc (Nat.le_refl _) _
  have hr1 := Sm.heap_row32 w
  have hh1 := HH.out.low hb1 (by omega)
  have hk1 := HK.out.low hb1 hsz
  have hs1 : (w.alloc (.cells (Sm.rowB 32 []) 64)).heap.size = w.heap.size + 1 := by simp
  go_enter Tryz.func102, Tryz.ntmps102
  go_wp2_with fail
  change Calls _ _ _ (w.alloc (.cells (Sm.rowB 32 []) 64)) _
  generalize w.alloc (.cells (Sm.rowB 32 []) 64) = W1 at *
  refine (new_any W1 hh1).mono ?_
  rintro e w1 ⟨rfl, rfl⟩
  have hb2 : Below W1.heap.size W1 (W1.alloc Sm.fresh) := (Below.refl _ W1).alloc (Nat.le_refl _) _
  have hi2 := Sm.is_new W1
  have hr2 := (hb2.block w.heap.size (by omega)).trans hr1
  have hb2w : Below w.heap.size w (W1.alloc Sm.fresh) := hb1.trans (hb2.mono (by omega))
  have hs2 : (W1.alloc Sm.fresh).heap.size = w.heap.size + 2 := by simp; omega
  generalize W1.alloc Sm.fresh = W2 at *
  rw [hs1] at hi2 ⊢
  have hk2 := HK.out.low hb2w hsz
  have HI2 := Lib.hid hi2
  have HK2 := Lib.hid hk2
  have HR2 := Lib.hid hr2
  clear hi2 hk2 hr2 hr1 hb1 hb2 hh1 hk1 hs1
  go_wp2_with fail
  refine (write_any s HI2.out HK2.out (by omega) (by omega) (by simp; omega)).mono ?_
  rintro e w3 ⟨rfl, hg3, hi3⟩
  have hs3 := hg3.size
  have hr3 := (hg3.block w.heap.size (by omega) (by intro e; have := Option.some.inj e; omega)).trans HR2.out
  have hb3w : Below w.heap.size w w3 := hb2w.trans (Sm.grown_from hg3 (by omega) (by omega))
  have hk3 := HK.out.low hb3w hsz
  rw [List.nil_append] at hi3
  have HI3 := Lib.hid hi3
  have HK3 := Lib.hid hk3
  have HR3 := Lib.hid hr3
  clear hi3 hk3 hr3 hg3
  go_wp2_with fail
  refine (write_any t HI3.out HK3.out (by omega) (by omega) (by show s.size + t.size ≤ _; omega)).mono ?_
  rintro e w3b ⟨rfl, hg3, hi3⟩
  have hs3b := hg3.size
  have hr3 := (hg3.block w.heap.size (by omega) (by intro e; have := Option.some.inj e; omega)).trans HR3.out
  have hb3b : Below w.heap.size w w3b := hb3w.trans (Sm.grown_from hg3 (by omega) (by omega))
  have hk3 := HK.out.low hb3b hsz
  have HI3b := Lib.hid hi3
  have HK3b := Lib.hid hk3
  have HR3b := Lib.hid hr3
  clear hi3 hk3 hr3 hg3
  go_wp2_with fail
  refine (xsum_any HI3b.out HK3b.out (by rw [List.length_append]; exact hlen) (by omega)).mono ?_
  rintro e w4 ⟨rfl, hb4⟩
  have hr4 : w4.heap[w.heap.size]? = some (.cells (Sm.rowB 32 []) 64 (0, 0)) := (hb4.block _ (by omega)).trans HR3b.out
  have HR4 := Lib.hid hr4
  have hsz32 : (Lib.byteCells (Sm.sum (s.data.toList ++ t.data.toList))).toArray.size = 32 := by simp [Lib.byteCells, Sm.sum_length]
  have hone := Sm.bytes_one (Sm.sum (s.data.toList ++ t.data.toList))
  have hz32 : (Sm.rowB 32 []).size = (Lib.byteCells (Sm.sum (s.data.toList ++ t.data.toList))).toArray.size := by rw [hsz32]; exact Sm.rowB_size (by simp)
  obtain ⟨cs2, hcs2⟩ : ∃ c, c = (Lib.byteCells (Sm.sum (s.data.toList ++ t.data.toList))).toArray := ⟨_, rfl⟩
  rw [← hcs2] at hsz32 hone hz32 ⊢
  have HC2 := Lib.hid hcs2
  clear hcs2 hr4
  go_wp2_with (with_reducible refine wpList_store_row rfl 64 (.tmp 4) (.tmp 14) rfl w.heap.size cs2 rfl rfl 64 _ (by exact HR4.out) (Sm.infoHash hsz32) hz32 hone ?_)
  exact bodyPost_ret (v := .agg cs2) (results_cell_row rfl _ _ w.heap.size 64 _ (0, 0) _ rfl (setRow_heap _ w.heap.size _ _ _ _ HR4.out) Tryz.underlying64 rfl (Sm.infoHash hsz32)) rfl ⟨by rw [HC2.out], Sm.below_setRow (hb3b.trans (hb4.mono (by omega))) (Nat.le_refl _) _⟩

set_option maxRecDepth 100000 in
set_option maxHeartbeats 4000000 in
theorem tag_any (k t : ByteArray) {w : World} (hH : Sm.HAt w) (hK : Sm.KAt w) (hsz : 1 < w.heap.size) (hk : k.size ≤ 1152921504606846976) (ht : t.size ≤ 1152921504606846912) :
    Calls Tryz.prog 71 #[.string k, .string t] w fun e w' => e = .returned (.agg (Lib.byteCells (Sm.tag k.data.toList t.data.toList)).toArray) ∧ Below w.heap.size w w' := by
  have HH := Lib.hid hH
  have HK := Lib.hid hK
  clear hH hK
  have b1 : Below w.heap.size w (w.alloc (.cells (Sm.rowB 32 []) 64)) := (Below.refl _ w).alloc (Nat.le_refl _) _
  have r1 := Sm.heap_row32 w
  have s1 : w.heap.size < (w.alloc (.cells (Sm.rowB 32 []) 64)).heap.size := by simp
  go_enter Tryz.func71, Tryz.ntmps71
  go_wp2_with fail
  change Calls _ _ _ (w.alloc (.cells (Sm.rowB 32 []) 64)) _
  generalize w.alloc (.cells (Sm.rowB 32 []) 64) = W1 at *
  refine (blockOf_any k (HH.out.low b1 (by omega)) (HK.out.low b1 hsz) (by omega) hk).mono ?_
  rintro e W2 ⟨rfl, k2⟩
  have b2 := Sm.low_low b1 (Nat.le_refl _) k2
  have r2 := (k2.block _ s1).trans r1
  have s2 := k2.size
  have hkb := Sm.kblock_length k.data.toList
  obtain ⟨kb, hkb2⟩ : ∃ l, l = Sm.kblock k.data.toList := ⟨_, rfl⟩
  have hT : Hid (Sm.tag k.data.toList t.data.toList = Sm.sum (Sm.xored 92 kb ++ Sm.sum (Sm.xored 54 kb ++ t.data.toList))) := by rw [hkb2]; rfl
  rw [← hkb2] at hkb ⊢
  clear hkb2 k2
  have hsz64 : (Lib.byteCells kb).toArray.size = 64 := by rw [Sm.bytes_size, hkb]
  have hone := Sm.bytes_one kb
  have hst : ∀ (c : Array Value), c.size = 64 → (storeCells ⟨W2.heap.size, 0, none⟩ (Lib.byteCells kb).toArray.toList).run Tryz.prog (W2.alloc (.cells c 175)) = .ok () (W2.alloc (.cells (Lib.byteCells kb).toArray 175)) := fun c hc =>
    run_storeCells_new (P := Tryz.prog) W2 175 c _ (Sm.infoBlk hsz64) (by rw [hsz64]; exact hc) hone
  have r3 := heap_alloc_new W2 (.cells (Lib.byteCells kb).toArray 175)
  have b3 : Below w.heap.size w (W2.alloc (.cells (Lib.byteCells kb).toArray 175)) := b2.alloc b2.size _
  have q3 : (W2.alloc (.cells (Lib.byteCells kb).toArray 175)).heap[w.heap.size]? = some (.cells (Sm.rowB 32 []) 64 (0, 0)) := by
    rw [Below.heap_alloc _ _ _ (Sm.lt_of r2)]; exact r2
  have s3 : (W2.alloc (.cells (Lib.byteCells kb).toArray 175)).heap.size = W2.heap.size + 1 := by simp
  obtain ⟨cl, hcl⟩ : ∃ c, c = Lib.byteCells kb := ⟨_, rfl⟩
  rw [← hcl] at hst hsz64 r3 b3 q3 s3 ⊢
  have HCL := Lib.hid hcl
  clear hcl hone r1 r2 b1
  have XI : Hid (∀ wx : World, Calls Tryz.prog 103 #[.agg cl.toArray, .int .u8 54] wx fun e w' => e = .returned (.string ⟨(Sm.xored 54 kb).toArray⟩) ∧ Below wx.heap.size wx w') := by
    rw [HCL.out]; exact fun wx => xored_any kb hkb 54 wx
  have XO : Hid (∀ wx : World, Calls Tryz.prog 103 #[.agg cl.toArray, .int .u8 92] wx fun e w' => e = .returned (.string ⟨(Sm.xored 92 kb).toArray⟩) ∧ Below wx.heap.size wx w') := by
    rw [HCL.out]; exact fun wx => xored_any kb hkb 92 wx
  have hcsz : cl.toArray.size = 64 := hsz64
  go_upto_region 2 with (fail)
  clear hst
  generalize W2.alloc (.cells cl.toArray 175) = W3 at *
  obtain ⟨N5, hN5⟩ : ∃ N, N = W2.heap.size := ⟨_, rfl⟩
  rw [← hN5] at r3 s2 s3 ⊢
  have HR3 := Lib.hid r3
  have HN5 := Lib.hid hN5
  have h5 : w.heap.size < N5 := Nat.lt_of_lt_of_le s1 s2
  clear r3 hN5 b2 s1 s2
  go_wp2_with (with_reducible refine wpList_load_row rfl 175 (.tmp 5) rfl N5 rfl 175 cl.toArray (0, 0) _ (by exact HR3.out) Tryz.underlying175 rfl (Sm.infoBlk hcsz) ?_)
  refine (XI.out _).mono ?_
  rintro e W4 ⟨rfl, k4⟩
  have b4 := Sm.low_low b3 (Nat.le_refl _) k4
  have s4 := k4.size
  have r4 := (k4.block N5 (by omega)).trans HR3.out
  have q4 := (k4.block w.heap.size (by omega)).trans q3
  clear k4 q3 HR3 b3
  have HR4 := Lib.hid r4
  clear r4
  go_wp2_with fail
  have hxi := Sm.xored_length 54 kb
  have eI : (ByteArray.mk (Sm.xored 54 kb).toArray).size = (Sm.xored 54 kb).length := rfl
  have hHA := hash_any ⟨(Sm.xored 54 kb).toArray⟩ t (HH.out.low b4 (by omega)) (HK.out.low b4 hsz) (by omega) (by omega)
  refine hHA.mono ?_
  rintro e W5 ⟨rfl, k5⟩
  have b5 := Sm.low_low b4 (Nat.le_refl _) k5
  have s5 := k5.size
  have r5 := (k5.block N5 (by omega)).trans HR4.out
  have q5 := (k5.block w.heap.size (by omega)).trans q4
  clear k5 q4 HR4 b4 hHA eI hxi
  have hT2 : Hid (Sm.tag k.data.toList t.data.toList = Sm.sum (Sm.xored 92 kb ++ Sm.sum ((ByteArray.mk (Sm.xored 54 kb).toArray).data.toList ++ t.data.toList))) := hT.out
  obtain ⟨hi, hhi⟩ : ∃ h, h = Sm.sum ((ByteArray.mk (Sm.xored 54 kb).toArray).data.toList ++ t.data.toList) := ⟨_, rfl⟩
  have hil : hi.length = 32 := by rw [hhi]; exact Sm.sum_length _
  rw [← hhi] at hT2 ⊢
  have hsz32 : (Lib.byteCells hi).toArray.size = 32 := by rw [Sm.bytes_size, hil]
  have hone := Sm.bytes_one hi
  have hst : ∀ (c : Array Value), c.size = 32 → (storeCells ⟨W5.heap.size, 0, none⟩ (Lib.byteCells hi).toArray.toList).run Tryz.prog (W5.alloc (.cells c 64)) = .ok () (W5.alloc (.cells (Lib.byteCells hi).toArray 64)) := fun c hc =>
    run_storeCells_new (P := Tryz.prog) W5 64 c _ (Sm.infoHash hsz32) (by rw [hsz32]; exact hc) hone
  have p6 := heap_alloc_new W5 (.cells (Lib.byteCells hi).toArray 64)
  have b6 : Below w.heap.size w (W5.alloc (.cells (Lib.byteCells hi).toArray 64)) := b5.alloc b5.size _
  have r6 : (W5.alloc (.cells (Lib.byteCells hi).toArray 64)).heap[N5]? = some (.cells cl.toArray 175 (0, 0)) := by
    rw [Below.heap_alloc _ _ _ (Sm.lt_of r5)]; exact r5
  have q6 : (W5.alloc (.cells (Lib.byteCells hi).toArray 64)).heap[w.heap.size]? = some (.cells (Sm.rowB 32 []) 64 (0, 0)) := by
    rw [Below.heap_alloc _ _ _ (Sm.lt_of q5)]; exact q5
  have s6 : (W5.alloc (.cells (Lib.byteCells hi).toArray 64)).heap.size = W5.heap.size + 1 := by simp
  have hcv6 := Sm.conv_row (n := 32) p6 hil
  have hsz32b := hsz32
  obtain ⟨co, hco⟩ : ∃ c, c = Lib.byteCells (Sm.sum ((ByteArray.mk (Sm.xored 92 kb).toArray).data.toList ++ (ByteArray.mk hi.toArray).data.toList)) := ⟨_, rfl⟩
  have hxo := Sm.xored_length 92 kb
  have eO : (ByteArray.mk (Sm.xored 92 kb).toArray).size = (Sm.xored 92 kb).length := rfl
  have eH : (ByteArray.mk hi.toArray).size = hi.length := rfl
  have HASH : Hid (∀ wx : World, Sm.HAt wx → Sm.KAt wx → 1 < wx.heap.size → Calls Tryz.prog 102 #[.string ⟨(Sm.xored 92 kb).toArray⟩, .string ⟨hi.toArray⟩] wx fun e w' => e = .returned (.agg co.toArray) ∧ Below wx.heap.size wx w') := by
    intro wx h1 h2 h3
    rw [hco]
    exact hash_any _ _ h1 h2 h3 (by omega)
  have hcol : co.length = 32 := by rw [hco, Lib.byteCells_length, Sm.sum_length]
  have hoc : ∀ v ∈ co, v.oneCell' = true := by rw [hco]; exact Lib.byteCells_one _
  have HT3 : Hid (Sm.tag k.data.toList t.data.toList = Sm.sum ((ByteArray.mk (Sm.xored 92 kb).toArray).data.toList ++ (ByteArray.mk hi.toArray).data.toList)) := hT2.out
  have HRES : Hid ((Value.agg co.toArray) = .agg (Lib.byteCells (Sm.tag k.data.toList t.data.toList)).toArray) := by
    show _ = _
    rw [HT3.out, ← hco]
  have hund : Tryz.prog.underlying 175 = some (.array 64 5) := Tryz.underlying175
  have hicl : (Tryz.prog.info? 175).map (·.size) = some cl.length := by rw [Sm.infoBlk hcsz]; simp
  have hioc : (Tryz.prog.info? 64).map (·.size) = some co.length := by rw [hcol]; kernel_rfl
  have HP6 := Lib.hid p6
  have HIL := Lib.hid hil
  obtain ⟨ci, hci⟩ : ∃ c, c = Lib.byteCells hi := ⟨_, rfl⟩
  rw [← hci] at HP6 hst hsz32 p6 b6 r6 q6 s6 hcv6 ⊢
  have HCI := Lib.hid hci
  have lt6 := Sm.lt_of q5
  clear hci hT hT2 HT3 hhi hone p6 r5 q5 hcv6 hxo eO eH hco hsz32b b5 s4 s5 XI
  go_upto_region 3 with (fail)
  clear hst
  generalize W5.alloc (.cells ci.toArray 64) = W6 at *
  obtain ⟨N6, hN6⟩ : ∃ N, N = W5.heap.size := ⟨_, rfl⟩
  rw [← hN6] at HP6 s6 lt6 ⊢
  have CONV : Hid (∀ wx : World, wx.heap[N6]? = some (.cells ci.toArray 64 (0, 0)) → (convert 85 9 (.slice (some ⟨N6, 0, none⟩) 32 32)).run Tryz.prog wx = .ok (.string ⟨hi.toArray⟩) wx) := by
    intro wx h
    rw [HCI.out] at h
    exact Sm.conv_row h HIL.out
  have h6 : N6 < W6.drew.heap.size := by show N6 < W6.heap.size; omega
  have h56 : N5 < W6.drew.heap.size := Sm.lt_of r6
  have h46 : w.heap.size < W6.drew.heap.size := Sm.lt_of q6
  have hz32 : (Sm.rowB 32 []).size = 32 := Sm.rowB_size (by simp)
  have hzl : (Sm.rowB 32 []).size = co.length := by rw [hz32, hcol]
  have R6 : Hid (W6.drew.heap[N5]? = some (.cells cl.toArray 175 (0, 0))) := r6
  have P6 : Hid (W6.drew.heap[N6]? = some (.cells ci.toArray 64 (0, 0))) := HP6.out
  have Q6 : Hid (W6.drew.heap[w.heap.size]? = some (.cells (Sm.rowB 32 []) 64 (0, 0))) := q6
  have B6 : Hid (Below w.heap.size w W6.drew) := b6.drew
  have H45 : Hid (N5 ≠ w.heap.size) := by show N5 ≠ w.heap.size; omega
  have H46 : Hid (N6 ≠ w.heap.size) := by show N6 ≠ w.heap.size; omega
  have HZ32 := Lib.hid hz32
  have HZL := Lib.hid hzl
  have HCOL := Lib.hid hcol
  clear r6 q6 b6 HP6 hN6 hz32 hzl
  go_region_held3 (fun w' => w'.rangeAt N5 0 cl ∧ (convert 85 9 (.slice (some ⟨N6, 0, none⟩) 32 32)).run Tryz.prog w' = .ok (.string ⟨hi.toArray⟩) w' ∧ w'.there w.heap.size 0 32)
    (first | exact ⟨Sm.range_row R6.out, CONV.out _ P6.out, Sm.there_row Q6.out HZ32.out⟩ | exact ⟨Sm.range_row R7.out, CONV.out _ P7.out, Sm.there_row Q7.out HZ32.out⟩ | exact ⟨Sm.range_row R8.out, CONV.out _ P8.out, Sm.there_row Q8.out HZ32.out⟩ | exact ⟨World.rangeAt_setCells_apart (Sm.range_row R8.out) _ _ _ (.inl H45.out), CONV.out _ (Sm.other_setCells H46.out P8.out), World.there_setCells (Sm.there_row Q8.out HZ32.out) _ _ _⟩)
    ((first
      | (go_at_call 103; refine (XO.out _).mono ?_; rintro e w7 ⟨rfl, k7⟩; have R7 := Lib.hid ((k7.block N5 h56).trans R6.out); have P7 := Lib.hid ((k7.block N6 h6).trans P6.out); have Q7 := Lib.hid ((k7.block w.heap.size h46).trans Q6.out); have B7 := Lib.hid (Sm.low_low B6.out (Nat.le_refl _) k7); clear k7)
      | (go_at_call 102; refine (HASH.out _ (HH.out.low B7.out (by omega)) (HK.out.low B7.out hsz) (Nat.lt_of_lt_of_le hsz B7.out.size)).mono ?_; rintro e w8 ⟨rfl, k8⟩; have R8 := Lib.hid ((k8.block N5 (Sm.lt_of R7.out)).trans R7.out); have P8 := Lib.hid ((k8.block N6 (Sm.lt_of P7.out)).trans P7.out); have Q8 := Lib.hid ((k8.block w.heap.size (Sm.lt_of Q7.out)).trans Q7.out); have B8 := Lib.hid (Sm.low_low B7.out (Nat.le_refl _) k8); clear k8)))
  go_wp2
  exact bodyPost_ret (v := .agg co.toArray) (results_cell_row rfl _ _ w.heap.size 64 _ (0, 0) _ rfl (Sm.heap_setAll Q8.out HZL.out) Tryz.underlying64 rfl (by rw [List.size_toArray]; exact hioc)) rfl ⟨by rw [HRES.out], Sm.below_setCells (Nat.le_refl _) _ _ B8.out⟩
end Go.Proofs.YtibpgmcpcelmpaaGreatDoor

/-
  What mac's Key, Equal, and the law's awake do.
-/
namespace Go.Proofs.YtibpgmcpcelmpaaGreatDoor
open Go.RowKit
namespace Sm
theorem tag_jefe : digits (tag [74, 101, 102, 101] [119, 104, 97, 116, 32, 100, 111, 32, 121, 97, 32, 119, 97, 110, 116, 32, 102, 111, 114, 32, 110, 111, 116, 104, 105, 110, 103, 63]) = [53, 98, 100, 99, 99, 49, 52, 54, 98, 102, 54, 48, 55, 53, 52, 101, 54, 97, 48, 52, 50, 52, 50, 54, 48, 56, 57, 53, 55, 53, 99, 55, 53, 97, 48, 48, 51, 102, 48, 56, 57, 100, 50, 55, 51, 57, 56, 51, 57, 100, 101, 99, 53, 56, 98, 57, 54, 52, 101, 99, 51, 56, 52, 51] := by decide +kernel
theorem w_or8 (a b : UInt8) : bits .or .u8 (a.toNat : Int) (b.toNat : Int) = ((a ||| b).toNat : Int) := by
  show IntKind.u8.wrap ((BitVec.ofInt 8 (a.toNat : Int) ||| BitVec.ofInt 8 (b.toNat : Int)).toNat : Int) = _
  rw [BitVec.toNat_or, ofInt8 a, ofInt8 b, ← UInt8.toNat_or]
  have := (a ||| b).toNat_lt
  rw [IntKind.wrap_u8]; omega
/-- What the first k bytes differ by. -/
def other (l l' : List UInt8) : Nat → UInt8
  | 0 => 0
  | k + 1 => other l l' k ||| (l.getD k 0 ^^^ l'.getD k 0)
theorem or_zero (a b : UInt8) : (a ||| b) = 0 ↔ a = 0 ∧ b = 0 := by
  rw [← UInt8.toNat_inj, ← UInt8.toNat_inj, ← UInt8.toNat_inj, UInt8.toNat_or]
  show a.toNat ||| b.toNat = 0 ↔ _
  exact Nat.or_eq_zero_iff
theorem xor_zero (a b : UInt8) : (a ^^^ b) = 0 ↔ a = b := UInt8.xor_eq_zero_iff
theorem other_zero (l l' : List UInt8) (k : Nat) : other l l' k = 0 ↔ ∀ i, i < k → l.getD i 0 = l'.getD i 0 := by
  induction k with
  | zero => simp [other]
  | succ k ih =>
    rw [other, or_zero, ih, xor_zero]
    constructor
    · rintro ⟨h1, h2⟩ i hi
      by_cases e : i = k
      · rw [e]; exact h2
      · exact h1 i (by omega)
    · exact fun h => ⟨fun i hi => h i (by omega), h k (by omega)⟩
theorem other_all (l l' : List UInt8) (h : l.length = 32) (h' : l'.length = 32) : other l l' 32 = 0 ↔ l = l' := by
  rw [other_zero]
  constructor
  · intro hi
    apply List.ext_getElem (by omega)
    intro i h1 h2
    have := hi i (by omega)
    simpa [List.getD_eq_getElem?_getD, h1, h2] using this
  · rintro rfl i _
    rfl
theorem infoKey {c : Array Value} (h : c.size = 32) : (Tryz.prog.info? 74).map (·.size) = some c.size := by rw [h]; kernel_rfl
theorem heap_key (w : World) : (w.alloc (.cells (rowB 32 []) 74)).heap[w.heap.size]? = some (.cells (rowB 32 []) 74 (0, 0)) := heap_alloc_new w _
end Sm

set_option maxRecDepth 100000 in
set_option maxHeartbeats 2000000 in
theorem equal_any (l l' : List UInt8) (hl : l.length = 32) (hl' : l'.length = 32) (w : World) :
    Calls Tryz.prog 57 #[.agg (Lib.byteCells l).toArray, .agg (Lib.byteCells l').toArray] w fun e w' => e = .returned (.bool (l == l')) ∧ Below w.heap.size w w' := by
  obtain ⟨cs, hcs⟩ : ∃ c, c = (Lib.byteCells l).toArray := ⟨_, rfl⟩
  obtain ⟨cs', hcs'⟩ : ∃ c, c = (Lib.byteCells l').toArray := ⟨_, rfl⟩
  rw [← hcs, ← hcs']
  have HC := Lib.hid hcs
  have HC' := Lib.hid hcs'
  clear hcs hcs'
  go_enter Tryz.func57, Tryz.ntmps57
  go_wp2
  have g1 : ((w.alloc (.cells cs 64)).alloc (.cells cs' 64)).heap[w.heap.size]? = some (.cells (Lib.byteCells l).toArray 64 (0, 0)) := by
    rw [← HC.out, Below.heap_alloc _ _ _ (by simp)]; exact heap_alloc_new w _
  have g2 : ((w.alloc (.cells cs 64)).alloc (.cells cs' 64)).heap[w.heap.size + 1]? = some (.cells (Lib.byteCells l').toArray 64 (0, 0)) := by
    rw [← HC'.out]
    have := heap_alloc_new (w.alloc (.cells cs 64)) (.cells cs' 64)
    simpa using this
  have g3 : Below w.heap.size w ((w.alloc (.cells cs 64)).alloc (.cells cs' 64)) := ((Below.refl _ w).alloc (Nat.le_refl _) _).alloc (by simp) _
  generalize (w.alloc (.cells cs 64)).alloc (.cells cs' 64) = W1 at *
  obtain ⟨N, hN⟩ : ∃ N, N = w.heap.size := ⟨_, rfl⟩
  rw [← hN] at g1 g2 g3 ⊢
  have HN := Lib.hid hN
  clear hN
  go_loopw [5, 7] (fun o i wr => ∃ k : Nat, k ≤ 32 ∧ i = .int .i64 k ∧ o = .int .u8 (Sm.other l l' k).toNat ∧ wr.heap[N]? = some (.cells (Lib.byteCells l).toArray 64 (0, 0)) ∧ wr.heap[N + 1]? = some (.cells (Lib.byteCells l').toArray 64 (0, 0)) ∧ Below N w wr) (fun _ i _ => 32 - (intOf i).toNat)
  case atStart => exact ⟨0, by omega, rfl, rfl, g1, g2, g3⟩
  case round =>
    clear g1 g2 g3
    obtain ⟨k, hk, rfl, rfl, hr1, hr2, hbk⟩ := hrel
    have HR1 := Lib.hid hr1
    have HR2 := Lib.hid hr2
    clear hr1 hr2
    by_cases hlt : k < 32
    · have c1 := Sm.row_cell HR1.out k (by omega)
      have c2 := Sm.row_cell HR2.out k (by omega)
      have ho : Hid (Sm.other l l' (k + 1) = Sm.other l l' k ||| (l.getD k 0 ^^^ l'.getD k 0)) := rfl
      have hx := Sm.w_xor8 (l.getD k 0) (l'.getD k 0)
      have HY : Hid (bits .or .u8 ((Sm.other l l' k).toNat : Int) (((l.getD k 0).toNat ^^^ (l'.getD k 0).toNat : Nat) : Int) = ((Sm.other l l' k ||| (l.getD k 0 ^^^ l'.getD k 0)).toNat : Int)) := by
        show _ = _
        rw [← UInt8.toNat_xor]
        exact Sm.w_or8 _ _
      have f1 := byte_fits (l.getD k 0)
      have f2 := byte_fits (l'.getD k 0)
      have f3 := byte_fits (Sm.other l l' k)
      generalize l.getD k 0 = x at *
      generalize l'.getD k 0 = y at *
      generalize Sm.other l l' k = z at *
      go_wp2
      go_quiet (fail)
      go_wp2
      go_roundw
      case rel => exact ⟨k + 1, by omega, by go_num, by rw [ho.out, ← HY.out], HR1.out, HR2.out, Sm.below_drewN hbk _⟩
      case measure => simp [intOf]; omega
    · obtain rfl : k = 32 := by omega
      have hz := Sm.other_all l l' hl hl'
      generalize Sm.other l l' 32 = z at *
      by_cases he : l = l'
      · have hz0 : z = 0 := hz.2 he
        have hb : (l == l') = true := by rw [beq_iff_eq]; exact he
        rw [hz0]
        clear hz hz0 he
        go_wp2
        go_ret
        exact ⟨by rw [hb]; rfl, by rw [← HN.out]; exact hbk⟩
      · have hz0 : z ≠ 0 := fun h => he (hz.1 h)
        have hzp : z.toNat ≠ 0 := fun h => hz0 (UInt8.toNat_inj.1 h)
        generalize z.toNat = m at *
        have hzn : ((m : Int) == 0) = false := by rw [beq_eq_false_iff_ne]; omega
        have hb : (l == l') = false := by rw [beq_eq_false_iff_ne]; exact he
        have HB := Lib.hid hb
        clear hz0 he hb hzp
        go_wp2
        go_ret
        exact ⟨by rw [HB.out]; rfl, by rw [← HN.out]; exact hbk⟩

set_option maxRecDepth 100000 in
set_option maxHeartbeats 2000000 in
theorem key_any (l : List UInt8) (hl : l.length = 32) (t : ByteArray) {w : World} (hH : Sm.HAt w) (hK : Sm.KAt w) (hsz : 1 < w.heap.size) (ht : t.size ≤ 1152921504606846912) :
    Calls Tryz.prog 69 #[.agg (Lib.byteCells l).toArray, .string t] w fun e w' => e = .returned (.agg (Lib.byteCells (Sm.tag l t.data.toList)).toArray) ∧ Below w.heap.size w w' := by
  have HH := Lib.hid hH
  have HK := Lib.hid hK
  clear hH hK
  obtain ⟨cs, hcs⟩ : ∃ c, c = (Lib.byteCells l).toArray := ⟨_, rfl⟩
  rw [← hcs]
  have g1 : (w.alloc (.cells cs 74)).heap[w.heap.size]? = some (.cells (Lib.byteCells l).toArray 74 (0, 0)) := by
    rw [← hcs]; exact heap_alloc_new w _
  have g2 : Below w.heap.size w (w.alloc (.cells cs 74)) := (Below.refl _ w).alloc (Nat.le_refl _) _
  have g3 : (w.alloc (.cells cs 74)).heap.size = w.heap.size + 1 := by simp
  clear hcs
  go_enter Tryz.func69, Tryz.ntmps69
  go_upto_region 1 with (fail)
  have r1 := Sm.heap_key (w.alloc (.cells cs 74))
  have b1 := g2.alloc g2.size (.cells (Sm.rowB 32 []) 74)
  have g4 := (Below.heap_alloc (w.alloc (.cells cs 74)) (.cells (Sm.rowB 32 []) 74) w.heap.size (by omega)).trans g1
  rw [g3] at r1
  change Code.wp _ _ _ _ ((w.alloc (.cells cs 74)).alloc (.cells (Sm.rowB 32 []) 74))
  clear g1 g2 g3
  generalize (w.alloc (.cells cs 74)).alloc (.cells (Sm.rowB 32 []) 74) = W1 at *
  have hcv := Sm.conv_row (n := 32) g4 hl
  have s1 := Sm.lt_of r1
  have eL : (ByteArray.mk l.toArray).size = l.length := rfl
  have hT := tag_any ⟨l.toArray⟩ t (HH.out.low b1 (by omega)) (HK.out.low b1 hsz) (by omega) (by omega) ht
  have HT := Lib.hid hT
  have HR1 := Lib.hid r1
  clear hT r1 g4 eL
  go_wp2_with fail
  refine (HT.out).mono ?_
  rintro e W2 ⟨rfl, k2⟩
  have b2 := Sm.low_low b1 (Nat.le_refl _) k2
  have r2 := (k2.block (w.heap.size + 1) s1).trans HR1.out
  have HR2 := Lib.hid r2
  have hsz32 : (Lib.byteCells (Sm.tag (ByteArray.mk l.toArray).data.toList t.data.toList)).toArray.size = 32 := by rw [Sm.bytes_size, Sm.tag_length]
  have hone := Sm.bytes_one (Sm.tag (ByteArray.mk l.toArray).data.toList t.data.toList)
  have hz32 : (Sm.rowB 32 []).size = (Lib.byteCells (Sm.tag (ByteArray.mk l.toArray).data.toList t.data.toList)).toArray.size := by rw [hsz32]; exact Sm.rowB_size (by simp)
  obtain ⟨cs2, hcs2⟩ : ∃ c, c = (Lib.byteCells (Sm.tag (ByteArray.mk l.toArray).data.toList t.data.toList)).toArray := ⟨_, rfl⟩
  have HC2 : Hid (cs2 = (Lib.byteCells (Sm.tag l t.data.toList)).toArray) := hcs2
  rw [← hcs2] at hsz32 hone hz32 ⊢
  clear hcs2 r2 k2 hcv HT HR1
  go_wp2_with (with_reducible refine wpList_store_row rfl 74 (.tmp 4) (.tmp 8) rfl (w.heap.size + 1) cs2 rfl rfl 74 _ (by exact HR2.out) (Sm.infoKey hsz32) hz32 hone ?_)
  exact bodyPost_ret (v := .agg cs2) (results_cell_row rfl _ _ (w.heap.size + 1) 74 _ (0, 0) _ rfl (setRow_heap _ (w.heap.size + 1) _ _ _ _ HR2.out) Tryz.underlying74 rfl (Sm.infoKey hsz32)) rfl ⟨by rw [HC2.out], Sm.below_setRow b2 (by omega) _⟩

theorem jefe_small : (ByteArray.mk #[119, 104, 97, 116, 32, 100, 111, 32, 121, 97, 32, 119, 97, 110, 116, 32, 102, 111, 114, 32, 110, 111, 116, 104, 105, 110, 103, 63]).size ≤ 1152921504606846912 := by decide
end Go.Proofs.YtibpgmcpcelmpaaGreatDoor
