/-
  What blockOf, bytes and enciphered do.
-/
import Derived.Test.YtkannddaihlcdaaAeCipher
namespace Go.Proofs.Ytkannddaihlcdaa
open Go.RowKit
namespace Ae
theorem infoBlk {c : Array Value} (h : c.size = 4) : (Try.prog.info? 41).map (·.size) = some c.size := by rw [h]; kernel_rfl
theorem info16 {c : Array Value} (h : c.size = 16) : (Try.prog.info? 22).map (·.size) = some c.size := by rw [h]; kernel_rfl
theorem zeroBlk : (Try.prog.info? 41).map (fun i => (i.zero, i.size)) = some (some (.agg (Sm.rowOf 4 [])), 4) := by kernel_rfl
theorem zero16 : (Try.prog.info? 22).map (fun i => (i.zero, i.size)) = some (some (.agg (Sm.rowB 16 [])), 16) := by kernel_rfl
theorem cols_eq (l : List UInt8) : cols l = (List.range 4).map (Sm.word l) := rfl
end Ae

set_option maxRecDepth 100000 in
set_option maxHeartbeats 4000000 in
theorem blockOf_any (w : World) (l : List UInt8) (hl : l.length = 16) :
    Calls Try.prog 18 #[.agg (Lib.byteCells l).toArray] w fun e w' => e = .returned (.agg (Sm.nums (Ae.cols l)).toArray) ∧ Below w.heap.size w w' := by
  obtain ⟨ck, hck⟩ : ∃ c, c = (Lib.byteCells l).toArray := ⟨_, rfl⟩
  obtain ⟨z0, hz0⟩ : ∃ z, z = Sm.rowOf 4 [] := ⟨_, rfl⟩
  have hz1 := (zero_of_info Ae.zeroBlk).1
  rw [← hz0] at hz1
  rw [← hck]
  have g1 : ((w.alloc (.cells ck 22)).alloc (.cells z0 41)).heap[w.heap.size]? = some (.cells (Lib.byteCells l).toArray 22 (0, 0)) := by
    rw [Below.heap_alloc _ _ _ (by simp), ← hck]; exact heap_alloc_new w _
  have g2 : ((w.alloc (.cells ck 22)).alloc (.cells z0 41)).heap[w.heap.size + 1]? = some (.cells (Sm.rowOf 4 []) 41 (0, 0)) := by
    rw [← hz0]; simpa using heap_alloc_new (w.alloc (.cells ck 22)) (.cells z0 41)
  have b2 : Below w.heap.size w ((w.alloc (.cells ck 22)).alloc (.cells z0 41)) := ((Below.refl _ w).alloc (Nat.le_refl _) _).alloc (by simp) _
  clear hck hz0
  go_enter Try.func18, Try.ntmps18
  go_upto_region 1 with (fail)
  generalize (w.alloc (.cells ck 22)).alloc (.cells z0 41) = W2 at *
  clear hz1
  obtain ⟨N, hN⟩ : ∃ N, N = w.heap.size := ⟨_, rfl⟩
  rw [← hN] at g1 g2 b2 ⊢
  have HN := Lib.hid hN
  clear hN
  go_wp2_with fail
  go_loopw [4] (fun i wr => ∃ k : Nat, k ≤ 4 ∧ i = .int .i64 k ∧ wr.heap[N + 1]? = some (.cells (Sm.rowOf 4 ((List.range k).map (Sm.word l))) 41 (0, 0)) ∧ wr.heap[N]? = some (.cells (Lib.byteCells l).toArray 22 (0, 0)) ∧ Below N w wr) (fun i _ => 4 - (intOf i).toNat)
  case atStart => exact ⟨0, by omega, rfl, g2, g1, b2⟩
  case round =>
    clear g1 g2 b2
    obtain ⟨k, hk, rfl, hr1, hr2, hbk⟩ := hrel
    have HR1 := Lib.hid hr1
    have HR2 := Lib.hid hr2
    clear hr1 hr2
    by_cases hlt : k < 4
    · have c0 : wr.drew.cell? ⟨N, 4 * k, none⟩ = some (.int .u8 ((l.getD (4 * k) 0).toNat : Int)) := Sm.row_cell HR2.out _ (by omega)
      have c1 : wr.drew.cell? ⟨N, 4 * k + 1, none⟩ = some (.int .u8 ((l.getD (4 * k + 1) 0).toNat : Int)) := Sm.row_cell HR2.out _ (by omega)
      have c2 : wr.drew.cell? ⟨N, 4 * k + 2, none⟩ = some (.int .u8 ((l.getD (4 * k + 2) 0).toNat : Int)) := Sm.row_cell HR2.out _ (by omega)
      have c3 : wr.drew.cell? ⟨N, 4 * k + 3, none⟩ = some (.int .u8 ((l.getD (4 * k + 3) 0).toNat : Int)) := Sm.row_cell HR2.out _ (by omega)
      obtain ⟨old, hold⟩ := Sm.rowOf_some (n := 4) (l := (List.range k).map (Sm.word l)) k (by simp; omega) (by omega)
      have hold : wr.drew.cell? ⟨N + 1, k, none⟩ = some old := Sm.cells_of HR1.out k old hold
      have fz : wr.drew.frozen? ⟨N + 1, k, none⟩ = false := Sm.free_of HR1.out k
      have HWD : Hid (Sm.word l k = Sm.be4 (l.getD (4 * k) 0).toNat (l.getD (4 * k + 1) 0).toNat (l.getD (4 * k + 2) 0).toNat (l.getD (4 * k + 3) 0).toNat) := rfl
      have WD : Hid (Calls Try.prog 28 #[.int .u8 (l.getD (4 * k) 0).toNat, .int .u8 (l.getD (4 * k + 1) 0).toNat, .int .u8 (l.getD (4 * k + 2) 0).toNat, .int .u8 (l.getD (4 * k + 3) 0).toNat] wr.drew fun e w' => e = .returned (.int .u32 (Sm.word l k : Nat)) ∧ w' = wr.drew) :=
        (word_any _ _ _ _ (UInt8.toNat_lt _) (UInt8.toNat_lt _) (UInt8.toNat_lt _) (UInt8.toNat_lt _) wr.drew).mono fun _ _ ⟨h1, h2⟩ => ⟨by rw [h1, HWD.out], h2.symm⟩
      generalize l.getD (4 * k) 0 = x0 at *
      generalize l.getD (4 * k + 1) 0 = x1 at *
      generalize l.getD (4 * k + 2) 0 = x2 at *
      generalize l.getD (4 * k + 3) 0 = x3 at *
      have e0 : (4 * (k : Int)).toNat = 4 * k := by omega
      have e1 : (4 * (k : Int) + 1).toNat = 4 * k + 1 := by omega
      have e2 : (4 * (k : Int) + 2).toNat = 4 * k + 2 := by omega
      have e3 : (4 * (k : Int) + 3).toNat = 4 * k + 3 := by omega
      have v0 : IntKind.i64.wrap (4 * (k : Int)) = 4 * (k : Int) := IntWalk.i64_in _ (by omega)
      have v1 : IntKind.i64.wrap (4 * (k : Int) + 1) = 4 * (k : Int) + 1 := IntWalk.i64_in _ (by omega)
      have v2 : IntKind.i64.wrap (4 * (k : Int) + 2) = 4 * (k : Int) + 2 := IntWalk.i64_in _ (by omega)
      have v3 : IntKind.i64.wrap (4 * (k : Int) + 3) = 4 * (k : Int) + 3 := IntWalk.i64_in _ (by omega)
      have u0 : 4 * (k : Int) < 16 := by omega
      have u1 : 4 * (k : Int) + 1 < 16 := by omega
      have u2 : 4 * (k : Int) + 2 < 16 := by omega
      have u3 : 4 * (k : Int) + 3 < 16 := by omega
      have p0 : 0 ≤ 4 * (k : Int) := by omega
      have p1 : 0 ≤ 4 * (k : Int) + 1 := by omega
      have p2 : 0 ≤ 4 * (k : Int) + 2 := by omega
      have p3 : 0 ≤ 4 * (k : Int) + 3 := by omega
      have q0 : (k : Int) < 4 := by omega
      go_wp2_with fail
      go_still_tail 22, (by kernel_rfl)
      still_call WD.out
      repeat still_step
      refine wpStill_nil ?_
      change wpList _ _ _ _ _ wr.drew
      go_wp2
      go_roundw
      case rel =>
        refine ⟨k + 1, by omega, by go_num, ?_, (Below.heap_setCell _ _ _ _ (by simp)).trans HR2.out, (hbk.setCell (p := ⟨N + 1, k, none⟩) (by simp) _).drew⟩
        have e := Sm.rowOf_set (n := 4) (l := (List.range k).map (Sm.word l)) (by simp; omega) (Sm.word l k)
        rw [List.length_map, List.length_range] at e
        rw [Sm.words_range, ← e]
        exact Sm.heap_set HR1.out k _
      case measure => simp [intOf]; omega
    · obtain rfl : k = 4 := by omega
      clear hlt hk
      have hr := HR1.out
      rw [Sm.rowOf_full (by simp)] at hr
      have hsz : (Sm.nums (Ae.cols l)).toArray.size = 4 := by simp [Sm.nums, Ae.cols_length]
      have hone := Ae.nums_one (Ae.cols l)
      obtain ⟨cs, hcs⟩ : ∃ c, c = (Sm.nums (Ae.cols l)).toArray := ⟨_, rfl⟩
      have hr2 : wr.heap[N + 1]? = some (.cells cs 41 (0, 0)) := by rw [hcs, Ae.cols_eq]; exact hr
      rw [← hcs] at hsz hone
      have HR3 := Lib.hid hr2
      have HC := Lib.hid hcs
      clear hcs hr hr2
      go_wp2_with (first | (with_reducible refine wpList_load_row rfl 41 (.tmp 2) rfl (N + 1) rfl 41 cs (0, 0) _ (by exact HR3.out) Try.underlying41 rfl (Ae.infoBlk hsz) ?_) | (with_reducible refine wpList_store_row rfl 41 (.tmp 2) (.tmp 30) rfl (N + 1) cs rfl rfl 41 _ (by exact HR3.out) (Ae.infoBlk hsz) rfl hone ?_))
      exact bodyPost_ret (v := .agg cs) (results_cell_row rfl _ _ (N + 1) 41 _ (0, 0) _ rfl (setRow_heap _ (N + 1) _ _ _ _ HR3.out) Try.underlying41 rfl (Ae.infoBlk hsz)) rfl ⟨by rw [HC.out], by rw [← HN.out]; exact Sm.below_setRow hbk (Nat.le_succ _) _⟩

set_option maxRecDepth 100000 in
set_option maxHeartbeats 4000000 in
theorem bytes_any (w : World) (b : List Nat) (hb : b.length = 4) (hlt4 : ∀ x ∈ b, x < 4294967296) :
    Calls Try.prog 19 #[.agg (Sm.nums b).toArray] w fun e w' => e = .returned (.agg (Lib.byteCells (Ae.bytes b)).toArray) ∧ Below w.heap.size w w' := by
  obtain ⟨ck, hck⟩ : ∃ c, c = (Sm.nums b).toArray := ⟨_, rfl⟩
  obtain ⟨z0, hz0⟩ : ∃ z, z = Sm.rowB 16 [] := ⟨_, rfl⟩
  have hz1 := (zero_of_info Ae.zero16).1
  rw [← hz0] at hz1
  rw [← hck]
  have g1 : ((w.alloc (.cells ck 41)).alloc (.cells z0 22)).heap[w.heap.size]? = some (.cells (Sm.nums b).toArray 41 (0, 0)) := by
    rw [Below.heap_alloc _ _ _ (by simp), ← hck]; exact heap_alloc_new w _
  have g2 : ((w.alloc (.cells ck 41)).alloc (.cells z0 22)).heap[w.heap.size + 1]? = some (.cells (Sm.rowB 16 []) 22 (0, 0)) := by
    rw [← hz0]; simpa using heap_alloc_new (w.alloc (.cells ck 41)) (.cells z0 22)
  have b2 : Below w.heap.size w ((w.alloc (.cells ck 41)).alloc (.cells z0 22)) := ((Below.refl _ w).alloc (Nat.le_refl _) _).alloc (by simp) _
  clear hck hz0
  go_enter Try.func19, Try.ntmps19
  go_upto_region 1 with (fail)
  generalize (w.alloc (.cells ck 41)).alloc (.cells z0 22) = W2 at *
  clear hz1
  obtain ⟨N, hN⟩ : ∃ N, N = w.heap.size := ⟨_, rfl⟩
  rw [← hN] at g1 g2 b2 ⊢
  have HN := Lib.hid hN
  clear hN
  go_wp2_with fail
  go_loopw [4] (fun i wr => ∃ k : Nat, k ≤ 16 ∧ i = .int .i64 k ∧ wr.heap[N + 1]? = some (.cells (Sm.rowB 16 ((List.range k).map (Ae.outB b))) 22 (0, 0)) ∧ wr.heap[N]? = some (.cells (Sm.nums b).toArray 41 (0, 0)) ∧ Below N w wr) (fun i _ => 16 - (intOf i).toNat)
  case atStart => exact ⟨0, by omega, rfl, g2, g1, b2⟩
  case round =>
    clear g1 g2 b2
    obtain ⟨k, hk, rfl, hr1, hr2, hbk⟩ := hrel
    have HR1 := Lib.hid hr1
    have HR2 := Lib.hid hr2
    clear hr1 hr2
    by_cases hlt : k < 16
    · have c0 := Sm.cells_of HR2.out (k / 4) _ (by rw [List.getElem?_toArray]; exact Sm.nums_get (by omega))
      obtain ⟨old, hold⟩ := Sm.rowB_some (n := 16) (l := (List.range k).map (Ae.outB b)) k (by simp; omega) (by omega)
      have hold := Sm.cells_of HR1.out k old hold
      have fz := Sm.free_of HR1.out k
      have hx := Sm.getD_lt hlt4 (k / 4)
      obtain ⟨y, hy⟩ : ∃ y, y = Ae.outB b k := ⟨_, rfl⟩
      have HO : Hid (y = UInt8.ofNat (Ae.byteAt (b.getD (k / 4) 0) (k % 4))) := hy
      have HY := Lib.hid hy
      clear hy
      generalize b.getD (k / 4) 0 = x at *
      have BA : Hid (∀ wx : World, Calls Try.prog 29 #[.int .u32 x, .int .i64 ((k : Int) % 4)] wx fun e w' => e = .returned (.int .u8 (y.toNat : Int)) ∧ wx = w') := fun wx => by
        have h := byteAt_any x (k % 4) hx (Nat.mod_lt _ (by decide)) wx
        rw [show ((k % 4 : Nat) : Int) = (k : Int) % 4 by omega] at h
        exact h.mono fun _ _ ⟨h1, h2⟩ => ⟨by rw [h1, HO.out, Ae.ofNat8 _ (Ae.byteAt_lt _ _)], h2⟩
      go_wp2_with fail
      refine (BA.out _).mono ?_
      rintro e w' ⟨rfl, rfl⟩
      go_wp2_with fail
      go_roundw
      case rel =>
        refine ⟨k + 1, by omega, by go_num, ?_, (Below.heap_setCell _ _ _ _ (by simp)).trans HR2.out, (hbk.setCell (p := ⟨N + 1, k, none⟩) (by simp) _)⟩
        have e := Sm.rowB_set (n := 16) (l := (List.range k).map (Ae.outB b)) (by simp; omega) y
        rw [List.length_map, List.length_range] at e
        rw [Sm.range_snoc, ← HY.out, ← e]
        exact Sm.heap_set HR1.out k _
      case measure => simp [intOf]; omega
    · obtain rfl : k = 16 := by omega
      clear hlt hk
      have hr := HR1.out
      rw [Sm.rowB_full (by simp)] at hr
      have hsz : (Lib.byteCells (Ae.bytes b)).toArray.size = 16 := by rw [Sm.bytes_size, Ae.bytes_length]
      have hone := Sm.bytes_one (Ae.bytes b)
      obtain ⟨cs, hcs⟩ : ∃ c, c = (Lib.byteCells (Ae.bytes b)).toArray := ⟨_, rfl⟩
      have hr2 : wr.heap[N + 1]? = some (.cells cs 22 (0, 0)) := by rw [hcs]; exact hr
      rw [← hcs] at hsz hone
      have HR3 := Lib.hid hr2
      have HC := Lib.hid hcs
      clear hcs hr hr2
      go_wp2_with (first | (with_reducible refine wpList_load_row rfl 22 (.tmp 2) rfl (N + 1) rfl 22 cs (0, 0) _ (by exact HR3.out) Try.underlying22 rfl (Ae.info16 hsz) ?_) | (with_reducible refine wpList_store_row rfl 22 (.tmp 2) (.tmp 17) rfl (N + 1) cs rfl rfl 22 _ (by exact HR3.out) (Ae.info16 hsz) rfl hone ?_))
      exact bodyPost_ret (v := .agg cs) (results_cell_row rfl _ _ (N + 1) 22 _ (0, 0) _ rfl (setRow_heap _ (N + 1) _ _ _ _ HR3.out) Try.underlying22 rfl (Ae.info16 hsz)) rfl ⟨by rw [HC.out], by rw [← HN.out]; exact Sm.below_setRow hbk (Nat.le_succ _) _⟩
end Go.Proofs.Ytkannddaihlcdaa
