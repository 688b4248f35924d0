/-
  What spread does: a block's 64 words.
-/
import Derived.Test.YtkijdpgdniaagaaDoorShMem
namespace Go.Proofs.YtkijdpgdniaagaaDoor
open Go.RowKit

theorem byte_fits (c : UInt8) : 0 ≤ (c.toNat : Int) ∧ (c.toNat : Int) < 256 := by have := c.toNat_lt; omega

set_option maxHeartbeats 4000000 in
theorem spread_any (w : World) (b o : Nat) (blk : List UInt8) (_hl : blk.length = 64) (hb : b < w.heap.size) (hc : ∀ j, j < 64 → w.cell? ⟨b, o + j, none⟩ = some (.int .u8 (blk.getD j 0).toNat)) :
    Calls Tryd.prog 52 #[.pointer (some ⟨b, o, none⟩)] w fun e w' => e = .returned (.agg (Sm.nums (Sm.words blk 48)).toArray) ∧ Below w.heap.size w w' := by
  have HC := Lib.hid hc
  clear hc _hl
  go_enter Tryd.func52, Tryd.ntmps52
  go_wp2
  have g1 := Sm.heap_alloc_row w
  have g2 : Below w.heap.size w (w.alloc (.cells (Sm.rowOf 64 []) 53)) := (Below.refl _ w).alloc (Nat.le_refl _) _
  change Code.wp _ _ _ _ (w.alloc (.cells (Sm.rowOf 64 []) 53))
  generalize w.alloc (.cells (Sm.rowOf 64 []) 53) = W1 at *
  obtain ⟨N, hN⟩ : ∃ N, N = w.heap.size := ⟨_, rfl⟩
  rw [← hN] at g1 g2 hb ⊢
  have HN := Lib.hid hN
  clear hN
  have hne : b ≠ N := by omega
  go_loopw [10] (fun i wr => ∃ k : Nat, k ≤ 16 ∧ i = .int .i64 k ∧ wr.heap[N]? = some (.cells (Sm.rowOf 64 ((List.range k).map (Sm.word blk))) 53 (0, 0)) ∧ Below N w wr) (fun i _ => 16 - (intOf i).toNat)
  case atStart => exact ⟨0, by omega, rfl, g1, g2⟩
  case round =>
    obtain ⟨k, hk, rfl, hrow, hbk⟩ := hrel
    have HR := Lib.hid hrow
    clear hrow g1 g2
    by_cases hlt : k < 16
    · have c0 : wr.cell? ⟨b, o + 4 * k, none⟩ = some (.int .u8 (blk.getD (4 * k) 0).toNat) := (hbk.cell (p := ⟨b, o + 4 * k, none⟩) hb).trans (HC.out (4 * k) (by omega))
      have c1 : wr.cell? ⟨b, o + 4 * k + 1, none⟩ = some (.int .u8 (blk.getD (4 * k + 1) 0).toNat) := (hbk.cell (p := ⟨b, o + 4 * k + 1, none⟩) hb).trans (HC.out (4 * k + 1) (by omega))
      have c2 : wr.cell? ⟨b, o + 4 * k + 2, none⟩ = some (.int .u8 (blk.getD (4 * k + 2) 0).toNat) := (hbk.cell (p := ⟨b, o + 4 * k + 2, none⟩) hb).trans (HC.out (4 * k + 2) (by omega))
      have c3 : wr.cell? ⟨b, o + 4 * k + 3, none⟩ = some (.int .u8 (blk.getD (4 * k + 3) 0).toNat) := (hbk.cell (p := ⟨b, o + 4 * k + 3, none⟩) hb).trans (HC.out (4 * k + 3) (by omega))
      have fz := Sm.free_of HR.out k
      obtain ⟨old, hold⟩ := Sm.rowOf_some (n := 64) (l := (List.range k).map (Sm.word blk)) k (by simp; omega) (by omega)
      have hold := Sm.cells_of HR.out k old hold
      have hsl := fun wx => Sm.slice64 b o (4 * k) (by omega) wx
      rw [show ((4 * k : Nat) : Int) = 4 * (k : Int) by omega] at hsl
      have b0 := byte_fits (blk.getD (4 * k) 0)
      have b1 := byte_fits (blk.getD (4 * k + 1) 0)
      have b2 := byte_fits (blk.getD (4 * k + 2) 0)
      have b3 := byte_fits (blk.getD (4 * k + 3) 0)
      generalize hx0 : blk.getD (4 * k) 0 = x0 at *
      generalize hx1 : blk.getD (4 * k + 1) 0 = x1 at *
      generalize hx2 : blk.getD (4 * k + 2) 0 = x2 at *
      generalize hx3 : blk.getD (4 * k + 3) 0 = x3 at *
      have HX0 := Lib.hid hx0
      have HX1 := Lib.hid hx1
      have HX2 := Lib.hid hx2
      have HX3 := Lib.hid hx3
      clear hx0 hx1 hx2 hx3
      go_wp2
      go_region
      all_goals go_wp2
      go_roundw
      case rel =>
        refine ⟨k + 1, by omega, by go_num, ?_, (hbk.setCell (p := ⟨N, k, none⟩) (Nat.le_refl _) _).drew⟩
        have h := Sm.heap_set HR.out k (.int .u32 (Sm.word blk k))
        have e := Sm.rowOf_set (n := 64) (l := (List.range k).map (Sm.word blk)) (by simp; omega) (Sm.word blk k)
        rw [List.length_map, List.length_range] at e
        rw [e, ← Sm.words_range] at h
        refine Eq.trans (congrArg (fun v => (wr.setCell ⟨N, k, none⟩ (.int .u32 v)).heap[N]?) ?_) h
        rw [Sm.word, HX0.out, HX1.out, HX2.out, HX3.out]
        exact Sm.w_be4 x0 x1 x2 x3
      case measure => simp [intOf]; omega
    · obtain rfl : k = 16 := by omega
      go_wp2
      rw [show ((16 : Nat) : Int) = 16 from rfl]
      obtain ⟨w1, hw1⟩ : ∃ w1, w1 = wr := ⟨_, rfl⟩
      rw [← hw1] at HR hbk ⊢
      clear hw1
      go_loopw [5] (fun i wq => ∃ j : Nat, 16 ≤ j ∧ j ≤ 64 ∧ i = .int .i64 j ∧ wq.heap[N]? = some (.cells (Sm.rowOf 64 (Sm.words blk (j - 16))) 53 (0, 0)) ∧ Below N w wq) (fun i _ => 64 - (intOf i).toNat)
      case atStart => exact ⟨16, by omega, by omega, rfl, HR.out, hbk⟩
      case round =>
        clear HR hbk
        obtain ⟨j, hj1, hj2, rfl, hrow, hbk⟩ := hrel
        have HR := Lib.hid hrow
        clear hrow
        by_cases hlt : j < 64
        · have hlen : (Sm.words blk (j - 16)).length = j := by rw [Sm.words_length]; omega
          have hall := Sm.words_lt blk (j - 16)
          have q1 := Sm.cells_of HR.out (j - 15) _ (Sm.rowOf_get (by omega))
          have q2 := Sm.cells_of HR.out (j - 2) _ (Sm.rowOf_get (by omega))
          have q3 := Sm.cells_of HR.out (j - 16) _ (Sm.rowOf_get (by omega))
          have q4 := Sm.cells_of HR.out (j - 7) _ (Sm.rowOf_get (by omega))
          obtain ⟨old, hold⟩ := Sm.rowOf_some (n := 64) (l := Sm.words blk (j - 16)) j (by omega) hlt
          have hold := Sm.cells_of HR.out j old hold
          have fz := Sm.free_of HR.out j
          have HLEN := Lib.hid hlen
          obtain ⟨L, hL⟩ : ∃ L, L = Sm.words blk (j - 16) := ⟨_, rfl⟩
          rw [← hL] at q1 q2 q3 q4 hall
          have l1 := Sm.getD_lt hall (j - 15)
          have l2 := Sm.getD_lt hall (j - 2)
          have l3 := Sm.getD_lt hall (j - 16)
          have l4 := Sm.getD_lt hall (j - 7)
          have hnx : Sm.next L = Sm.add (Sm.add (Sm.add (L.getD (j - 16) 0) (Sm.s0 (L.getD (j - 15) 0))) (L.getD (j - 7) 0)) (Sm.s1 (L.getD (j - 2) 0)) := by
            unfold Sm.next; rw [hL, HLEN.out]
          have HL := Lib.hid hL
          have HNX := Lib.hid hnx
          clear hL hlen hall hnx
          generalize L.getD (j - 15) 0 = x1 at *
          generalize L.getD (j - 2) 0 = x2 at *
          generalize L.getD (j - 16) 0 = x3 at *
          generalize L.getD (j - 7) 0 = x4 at *
          have r1 := fun wx => rot_any x1 7 l1 (by decide) (by decide) wx
          have r2 := fun wx => rot_any x1 18 l1 (by decide) (by decide) wx
          have r3 := fun wx => rot_any x2 17 l2 (by decide) (by decide) wx
          have r4 := fun wx => rot_any x2 19 l2 (by decide) (by decide) wx
          have R1 := Lib.hid r1
          have R2 := Lib.hid r2
          have R3 := Lib.hid r3
          have R4 := Lib.hid r4
          clear r1 r2 r3 r4
          go_wp2
          go_quiet (fail)
          go_wp2_with fail
          refine (R1.out _).mono ?_
          rintro e w' ⟨rfl, rfl⟩
          go_wp2_with fail
          refine (R2.out _).mono ?_
          rintro e w' ⟨rfl, rfl⟩
          go_wp2_with fail
          refine (R3.out _).mono ?_
          rintro e w' ⟨rfl, rfl⟩
          go_wp2_with fail
          refine (R4.out _).mono ?_
          rintro e w' ⟨rfl, rfl⟩
          go_wp2_with fail
          go_region
          go_wp2
          go_roundw
          case rel =>
            refine ⟨j + 1, by omega, by omega, by go_num, ?_, ?_⟩
            · rw [Sm.w_s0 l1, Sm.w_s1 l2, Sm.w_add4, ← HNX.out, show j + 1 - 16 = (j - 16) + 1 by omega]
              show _ = some (Obj.cells (Sm.rowOf 64 (Sm.words blk (j - 16) ++ [Sm.next (Sm.words blk (j - 16))])) 53 (0, 0))
              rw [HL.out, ← Sm.rowOf_set (by rw [HLEN.out]; exact hlt), HLEN.out]
              exact Sm.heap_set (w := wr.drewN _) HR.out j _
            · exact (Sm.below_drewN hbk _).setCell (p := ⟨N, j, none⟩) (Nat.le_refl _) _
          case measure => simp [intOf]; omega
        · obtain rfl : j = 64 := by omega
          have hsz := Sm.rowOf_size (n := 64) (l := Sm.words blk 48) (by rw [Sm.words_length]; omega)
          have hone := Sm.rowOf_one 64 (Sm.words blk 48)
          have hfull := Sm.rowOf_full (n := 64) (l := Sm.words blk 48) (by rw [Sm.words_length])
          have hr : wr.heap[N]? = some (.cells (Sm.rowOf 64 (Sm.words blk 48)) 53 (0, 0)) := HR.out
          rw [hfull] at hsz hone hr
          have HR2 := Lib.hid hr
          clear hfull hr
          go_wp2_with (first | (with_reducible refine wpList_load_row rfl 53 (.tmp 2) rfl N rfl 53 _ (0, 0) _ (by exact HR2.out) Tryd.underlying53 rfl (Sm.info64 hsz) ?_) | (with_reducible refine wpList_store_row rfl 53 (.tmp 2) (.tmp 86) rfl N _ rfl rfl 53 _ (by exact HR2.out) (Sm.info64 hsz) rfl hone ?_))
          exact bodyPost_ret (v := .agg (Sm.nums (Sm.words blk 48)).toArray) (results_cell_row rfl _ _ N 53 _ (0, 0) _ rfl (setRow_heap _ N _ _ _ _ HR2.out) Tryd.underlying53 rfl (Sm.info64 hsz)) rfl ⟨rfl, by rw [← HN.out]; exact Sm.below_setRow hbk (Nat.le_refl _) _⟩
end Go.Proofs.YtkijdpgdniaagaaDoor
