/-
  Texts that belong together, laid into one.
-/
import Derived.Test.YtiehcplepneajaaGreatDoorMBase
import Derived.Test.YtiehcplepneajaaGreatDoorProg
import Derived.WalkLawsBesides
import Derived.Lib.Hide
import Derived.Outline
import Derived.Deep.QuietTactic
import Derived.BigQuiet
import Derived.BigRegion
import Derived.Laws.CopyOwn
import Derived.Lib.UnsafeStr
import Derived.Deep.WholeRow
import Derived.Deep.MidRow
import Derived.Lib.BufferWrite
import Derived.StillTailTactics
import Derived.Deep.RegionLaw
/-
  What rot does: a number of 32 bits, turned to the right.
-/
namespace Go.Proofs.YtiehcplepneajaaGreatDoor
open Go.RowKit

theorem and31 (x : Nat) (h : x < 18446744073709551616) : bits .and .u64 (x : Int) 31 = ((x % 32 : Nat) : Int) := by
  have := bits_mask .u64 64 (by decide) (fun n h0 h1 => by simp [IntKind.wrap, IntKind.bits, IntKind.signed]; omega) 5 (by decide) (x : Int) (by omega) (by omega)
  simpa using this

theorem ret_u32 {a b : Int} (h : a = b) : Ending.returned (.int .u32 a) = .returned (.int .u32 b) := by rw [h]

set_option maxHeartbeats 400000 in
theorem rotl_any (x n : Nat) (hx : x < 4294967296) (h1 : 1 ≤ n) (h2 : n ≤ 31) (w : World) :
    Calls Tryz.prog 175 #[.int .u32 x, .int .i64 (-(n : Int))] w fun e w' => e = .returned (.int .u32 (Sm.rot x n)) ∧ w = w' := by
  have hc : IntKind.u64.wrap (-(n : Int)) = ((18446744073709551616 - n : Nat) : Int) := by
    simp [IntKind.wrap, IntKind.bits, IntKind.signed]; omega
  have hk : bits .and .u64 (IntKind.u64.wrap (-(n : Int))) 31 = 32 - (n : Int) := by
    rw [hc, and31 _ (by omega)]; omega
  clear hc
  go_enter Tryz.func175, Tryz.ntmps175
  go_wp2
  go_ret
  refine ⟨ret_u32 ?_, rfl⟩
  have e2 : 32 - (32 - n) = n := by omega
  have e3 : ((x : Int) * 2 ^ (32 - n)) = ((x * 2 ^ (32 - n) : Nat) : Int) := by push_cast; rfl
  have e4 : ((x : Int) / 2 ^ n) = ((x / 2 ^ n : Nat) : Int) := by push_cast; rfl
  rw [e2, e3, e4, show ((x * 2 ^ (32 - n) : Nat) : Int) % 4294967296 = ((x * 2 ^ (32 - n) % 4294967296 : Nat) : Int) by omega]
  exact Sm.w_or (Nat.mod_lt _ (by decide)) (Nat.lt_of_le_of_lt (Nat.div_le_self _ _) hx)

theorem rot_any (x n : Nat) (hx : x < 4294967296) (h1 : 1 ≤ n) (h2 : n ≤ 31) (w : World) :
    Calls Tryz.prog 167 #[.int .u32 x, .int .i64 n] w fun e w' => e = .returned (.int .u32 (Sm.rot x n)) ∧ w = w' := by
  go_enter Tryz.func167, Tryz.ntmps167
  go_wp2_with (go_at_call 175; refine (rotl_any x n hx h1 h2 _).mono ?_; rintro e w' ⟨rfl, rfl⟩)
  go_ret
  exact ⟨rfl, rfl⟩
end Go.Proofs.YtiehcplepneajaaGreatDoor

/-
  Small facts on worlds, for sha.
-/
namespace Go.Proofs.YtiehcplepneajaaGreatDoor.Sm
open Go.RowKit

theorem w_be4 (a b c d : UInt8) : bits .or .u32 (bits .or .u32 (bits .or .u32 ((a.toNat : Int) * 16777216) ((b.toNat : Int) * 65536)) ((c.toNat : Int) * 256)) (d.toNat : Int) = (be4 a.toNat b.toNat c.toNat d.toNat : Nat) := by
  have ha := a.toNat_lt
  have hb := b.toNat_lt
  have hc := c.toNat_lt
  have hd := d.toNat_lt
  rw [show (a.toNat : Int) * 16777216 = ((a.toNat * 16777216 : Nat) : Int) by omega, show (b.toNat : Int) * 65536 = ((b.toNat * 65536 : Nat) : Int) by omega, show (c.toNat : Int) * 256 = ((c.toNat * 256 : Nat) : Int) by omega,
    w_or (by omega) (by omega), w_or (or_lt (by omega) (by omega)) (by omega), w_or (or_lt (or_lt (by omega) (by omega)) (by omega)) (by omega), be4_or _ _ _ _ (by omega) (by omega) (by omega) (by omega)]
theorem info64 {c : Array Value} (h : c.size = 64) : (Tryz.prog.info? 172).map (·.size) = some c.size := by
  rw [h]; kernel_rfl
theorem w_s0 {x : Nat} (h : x < 4294967296) : bits .xor .u32 (bits .xor .u32 (rot x 7 : Nat) (rot x 18 : Nat)) ((x : Int) / 8) = (s0 x : Nat) := by
  rw [show (x : Int) / 8 = ((x / 8 : Nat) : Int) by omega, w_xor (rot_lt h) (rot_lt h), w_xor (xor_lt (rot_lt h) (rot_lt h)) (by omega)]; rfl
theorem w_s1 {x : Nat} (h : x < 4294967296) : bits .xor .u32 (bits .xor .u32 (rot x 17 : Nat) (rot x 19 : Nat)) ((x : Int) / 1024) = (s1 x : Nat) := by
  rw [show (x : Int) / 1024 = ((x / 1024 : Nat) : Int) by omega, w_xor (rot_lt h) (rot_lt h), w_xor (xor_lt (rot_lt h) (rot_lt h)) (by omega)]; rfl
theorem w_add4 (a b c d : Nat) : ((a : Int) + b + c + d) % 4294967296 = (add (add (add a b) c) d : Nat) := by unfold add; omega
theorem heap_alloc_row (w : World) : (w.alloc (.cells (rowOf 64 []) 172)).heap[w.heap.size]? = some (.cells (rowOf 64 []) 172 (0, 0)) := heap_alloc_new w _
theorem slice64 (b o l : Nat) (h : l < 64) (w : World) :
    (Instr.sliceAt 194 (.pointer (some ⟨b, o, none⟩)) (some (.int .i64 (l : Int))) none none).run Tryz.prog w = .ok (.slice (some ⟨b, o + l, none⟩) (64 - l) (64 - l)) w := by
  have e : Tryz.prog.arrayLen 194 = 64 := by kernel_rfl
  have hs : (sizeOf (Tryz.prog.elem 194)).run Tryz.prog w = .ok 1 w := by kernel_rfl
  rw [run_sliceAt_array_l w 194 ⟨b, o, none⟩ (by kernel_rfl) .i64 l (by omega) (by rw [e]; omega), hs]
  simp only [Result.andThen_ok, slicedAt, e, Int.toNat_natCast]
  rw [if_neg (by omega)]
  simp [Addr.add]
end Go.Proofs.YtiehcplepneajaaGreatDoor.Sm

/-
  What spread does: a block's 64 words.
-/
namespace Go.Proofs.YtiehcplepneajaaGreatDoor
open Go.RowKit

set_option maxHeartbeats 4000000 in
theorem spread_any (w : World) (b o : Nat) (blk : List UInt8) (_hl : blk.length = 64) (hb : b < w.heap.size) (hc : ∀ j, j < 64 → w.cell? ⟨b, o + j, none⟩ = some (.int .u8 (blk.getD j 0).toNat)) :
    Calls Tryz.prog 166 #[.pointer (some ⟨b, o, none⟩)] w fun e w' => e = .returned (.agg (Sm.nums (Sm.words blk 48)).toArray) ∧ Below w.heap.size w w' := by
  have HC := Lib.hid hc
  clear hc _hl
  go_enter Tryz.func166, Tryz.ntmps166
  go_wp2
  have g1 := Sm.heap_alloc_row w
  have g2 : Below w.heap.size w (w.alloc (.cells (Sm.rowOf 64 []) 172)) := (Below.refl _ w).alloc (Nat.le_refl _) _
  change Code.wp _ _ _ _ (w.alloc (.cells (Sm.rowOf 64 []) 172))
  generalize w.alloc (.cells (Sm.rowOf 64 []) 172) = W1 at *
  obtain ⟨N, hN⟩ : ∃ N, N = w.heap.size := ⟨_, rfl⟩
  rw [← hN] at g1 g2 hb ⊢
  have HN := Lib.hid hN
  clear hN
  have hne : b ≠ N := by omega
  go_loopw [10] (fun i wr => ∃ k : Nat, k ≤ 16 ∧ i = .int .i64 k ∧ wr.heap[N]? = some (.cells (Sm.rowOf 64 ((List.range k).map (Sm.word blk))) 172 (0, 0)) ∧ Below N w wr) (fun i _ => 16 - (intOf i).toNat)
  case atStart => exact ⟨0, by omega, rfl, g1, g2⟩
  case round =>
    obtain ⟨k, hk, rfl, hrow, hbk⟩ := hrel
    have HR := Lib.hid hrow
    clear hrow g1 g2
    by_cases hlt : k < 16
    · have c0 : wr.cell? ⟨b, o + 4 * k, none⟩ = some (.int .u8 (blk.getD (4 * k) 0).toNat) := (hbk.cell (p := ⟨b, o + 4 * k, none⟩) hb).trans (HC.out (4 * k) (by omega))
      have c1 : wr.cell? ⟨b, o + 4 * k + 1, none⟩ = some (.int .u8 (blk.getD (4 * k + 1) 0).toNat) := (hbk.cell (p := ⟨b, o + 4 * k + 1, none⟩) hb).trans (HC.out (4 * k + 1) (by omega))
      have c2 : wr.cell? ⟨b, o + 4 * k + 2, none⟩ = some (.int .u8 (blk.getD (4 * k + 2) 0).toNat) := (hbk.cell (p := ⟨b, o + 4 * k + 2, none⟩) hb).trans (HC.out (4 * k + 2) (by omega))
      have c3 : wr.cell? ⟨b, o + 4 * k + 3, none⟩ = some (.int .u8 (blk.getD (4 * k + 3) 0).toNat) := (hbk.cell (p := ⟨b, o + 4 * k + 3, none⟩) hb).trans (HC.out (4 * k + 3) (by omega))
      have fz := Sm.free_of HR.out k
      obtain ⟨old, hold⟩ := Sm.rowOf_some (n := 64) (l := (List.range k).map (Sm.word blk)) k (by simp; omega) (by omega)
      have hold := Sm.cells_of HR.out k old hold
      have hsl := fun wx => Sm.slice64 b o (4 * k) (by omega) wx
      rw [show ((4 * k : Nat) : Int) = 4 * (k : Int) by omega] at hsl
      have b0 := byte_fits (blk.getD (4 * k) 0)
      have b1 := byte_fits (blk.getD (4 * k + 1) 0)
      have b2 := byte_fits (blk.getD (4 * k + 2) 0)
      have b3 := byte_fits (blk.getD (4 * k + 3) 0)
      generalize hx0 : blk.getD (4 * k) 0 = x0 at *
      generalize hx1 : blk.getD (4 * k + 1) 0 = x1 at *
      generalize hx2 : blk.getD (4 * k + 2) 0 = x2 at *
      generalize hx3 : blk.getD (4 * k + 3) 0 = x3 at *
      have HX0 := Lib.hid hx0
      have HX1 := Lib.hid hx1
      have HX2 := Lib.hid hx2
      have HX3 := Lib.hid hx3
      clear hx0 hx1 hx2 hx3
      go_wp2
      go_region
      all_goals go_wp2
      go_roundw
      case rel =>
        refine ⟨k + 1, by omega, by go_num, ?_, (hbk.setCell (p := ⟨N, k, none⟩) (Nat.le_refl _) _).drew⟩
        have h := Sm.heap_set HR.out k (.int .u32 (Sm.word blk k))
        have e := Sm.rowOf_set (n := 64) (l := (List.range k).map (Sm.word blk)) (by simp; omega) (Sm.word blk k)
        rw [List.length_map, List.length_range] at e
        rw [e, ← Sm.words_range] at h
        refine Eq.trans (congrArg (fun v => (wr.setCell ⟨N, k, none⟩ (.int .u32 v)).heap[N]?) ?_) h
        rw [Sm.word, HX0.out, HX1.out, HX2.out, HX3.out]
        exact Sm.w_be4 x0 x1 x2 x3
      case measure => simp [intOf]; omega
    · obtain rfl : k = 16 := by omega
      go_wp2
      rw [show ((16 : Nat) : Int) = 16 from rfl]
      obtain ⟨w1, hw1⟩ : ∃ w1, w1 = wr := ⟨_, rfl⟩
      rw [← hw1] at HR hbk ⊢
      clear hw1
      go_loopw [5] (fun i wq => ∃ j : Nat, 16 ≤ j ∧ j ≤ 64 ∧ i = .int .i64 j ∧ wq.heap[N]? = some (.cells (Sm.rowOf 64 (Sm.words blk (j - 16))) 172 (0, 0)) ∧ Below N w wq) (fun i _ => 64 - (intOf i).toNat)
      case atStart => exact ⟨16, by omega, by omega, rfl, HR.out, hbk⟩
      case round =>
        clear HR hbk
        obtain ⟨j, hj1, hj2, rfl, hrow, hbk⟩ := hrel
        have HR := Lib.hid hrow
        clear hrow
        by_cases hlt : j < 64
        · have hlen : (Sm.words blk (j - 16)).length = j := by rw [Sm.words_length]; omega
          have hall := Sm.words_lt blk (j - 16)
          have q1 := Sm.cells_of HR.out (j - 15) _ (Sm.rowOf_get (by omega))
          have q2 := Sm.cells_of HR.out (j - 2) _ (Sm.rowOf_get (by omega))
          have q3 := Sm.cells_of HR.out (j - 16) _ (Sm.rowOf_get (by omega))
          have q4 := Sm.cells_of HR.out (j - 7) _ (Sm.rowOf_get (by omega))
          obtain ⟨old, hold⟩ := Sm.rowOf_some (n := 64) (l := Sm.words blk (j - 16)) j (by omega) hlt
          have hold := Sm.cells_of HR.out j old hold
          have fz := Sm.free_of HR.out j
          have HLEN := Lib.hid hlen
          obtain ⟨L, hL⟩ : ∃ L, L = Sm.words blk (j - 16) := ⟨_, rfl⟩
          rw [← hL] at q1 q2 q3 q4 hall
          have l1 := Sm.getD_lt hall (j - 15)
          have l2 := Sm.getD_lt hall (j - 2)
          have l3 := Sm.getD_lt hall (j - 16)
          have l4 := Sm.getD_lt hall (j - 7)
          have hnx : Sm.next L = Sm.add (Sm.add (Sm.add (L.getD (j - 16) 0) (Sm.s0 (L.getD (j - 15) 0))) (L.getD (j - 7) 0)) (Sm.s1 (L.getD (j - 2) 0)) := by
            unfold Sm.next; rw [hL, HLEN.out]
          have HL := Lib.hid hL
          have HNX := Lib.hid hnx
          clear hL hlen hall hnx
          generalize L.getD (j - 15) 0 = x1 at *
          generalize L.getD (j - 2) 0 = x2 at *
          generalize L.getD (j - 16) 0 = x3 at *
          generalize L.getD (j - 7) 0 = x4 at *
          have r1 := fun wx => rot_any x1 7 l1 (by decide) (by decide) wx
          have r2 := fun wx => rot_any x1 18 l1 (by decide) (by decide) wx
          have r3 := fun wx => rot_any x2 17 l2 (by decide) (by decide) wx
          have r4 := fun wx => rot_any x2 19 l2 (by decide) (by decide) wx
          have R1 := Lib.hid r1
          have R2 := Lib.hid r2
          have R3 := Lib.hid r3
          have R4 := Lib.hid r4
          clear r1 r2 r3 r4
          go_wp2
          go_quiet (fail)
          go_wp2_with fail
          refine (R1.out _).mono ?_
          rintro e w' ⟨rfl, rfl⟩
          go_wp2_with fail
          refine (R2.out _).mono ?_
          rintro e w' ⟨rfl, rfl⟩
          go_wp2_with fail
          refine (R3.out _).mono ?_
          rintro e w' ⟨rfl, rfl⟩
          go_wp2_with fail
          refine (R4.out _).mono ?_
          rintro e w' ⟨rfl, rfl⟩
          go_wp2_with fail
          go_region
          go_wp2
          go_roundw
          case rel =>
            refine ⟨j + 1, by omega, by omega, by go_num, ?_, ?_⟩
            · rw [Sm.w_s0 l1, Sm.w_s1 l2, Sm.w_add4, ← HNX.out, show j + 1 - 16 = (j - 16) + 1 by omega]
              show _ = some (Obj.cells (Sm.rowOf 64 (Sm.words blk (j - 16) ++ [Sm.next (Sm.words blk (j - 16))])) 172 (0, 0))
              rw [HL.out, ← Sm.rowOf_set (by rw [HLEN.out]; exact hlt), HLEN.out]
              exact Sm.heap_set (w := wr.drewN _) HR.out j _
            · exact (Sm.below_drewN hbk _).setCell (p := ⟨N, j, none⟩) (Nat.le_refl _) _
          case measure => simp [intOf]; omega
        · obtain rfl : j = 64 := by omega
          have hsz := Sm.rowOf_size (n := 64) (l := Sm.words blk 48) (by rw [Sm.words_length]; omega)
          have hone := Sm.rowOf_one 64 (Sm.words blk 48)
          have hfull := Sm.rowOf_full (n := 64) (l := Sm.words blk 48) (by rw [Sm.words_length])
          have hr : wr.heap[N]? = some (.cells (Sm.rowOf 64 (Sm.words blk 48)) 172 (0, 0)) := HR.out
          rw [hfull] at hsz hone hr
          have HR2 := Lib.hid hr
          clear hfull hr
          go_wp2_with (first | (with_reducible refine wpList_load_row rfl 172 (.tmp 2) rfl N rfl 172 _ (0, 0) _ (by exact HR2.out) Tryz.underlying172 rfl (Sm.info64 hsz) ?_) | (with_reducible refine wpList_store_row rfl 172 (.tmp 2) (.tmp 86) rfl N _ rfl rfl 172 _ (by exact HR2.out) (Sm.info64 hsz) rfl hone ?_))
          exact bodyPost_ret (v := .agg (Sm.nums (Sm.words blk 48)).toArray) (results_cell_row rfl _ _ N 172 _ (0, 0) _ rfl (setRow_heap _ N _ _ _ _ HR2.out) Tryz.underlying172 rfl (Sm.info64 hsz)) rfl ⟨rfl, by rw [← HN.out]; exact Sm.below_setRow hbk (Nat.le_refl _) _⟩
end Go.Proofs.YtiehcplepneajaaGreatDoor

/-
  A Sha in memory; the walk's numbers of a round.
-/
namespace Go.Proofs.YtiehcplepneajaaGreatDoor
open Go.RowKit
namespace Sm

/-- The cells of a Sha: made or not, the words, what waits, how many bytes. -/
def cells (m : Bool) (v : V) (wt : List UInt8) (n : Nat) : Array Value := (.bool m :: (nums v.l ++ (Lib.byteCells wt ++ [.int .i64 (n : Int)]))).toArray
/-- A Sha lies in block b. -/
def At (w : World) (b : Nat) (m : Bool) (v : V) (wt : List UInt8) (n : Nat) : Prop := w.heap[b]? = some (.cells (cells m v wt n) 196 (0, 0))
/-- The numbers k stand in their variable. -/
def KAt (w : World) : Prop := ∀ i, i < 64 → w.cell? ⟨1, i, none⟩ = some (.int .u32 (ks.getD i 0 : Nat))

theorem At.cell {w : World} {b : Nat} {m : Bool} {v : V} {wt : List UInt8} {n : Nat} (h : At w b m v wt n) (i : Nat) (x : Value) (hx : (cells m v wt n)[i]? = some x) : w.cell? ⟨b, i, none⟩ = some x := cells_of h i x hx
theorem At.words {w : World} {b : Nat} {m : Bool} {v : V} {wt : List UInt8} {n : Nat} (h : At w b m v wt n) :
    w.cell? ⟨b, 1, none⟩ = some (.int .u32 v.a) ∧ w.cell? ⟨b, 2, none⟩ = some (.int .u32 v.b) ∧ w.cell? ⟨b, 3, none⟩ = some (.int .u32 v.c) ∧ w.cell? ⟨b, 4, none⟩ = some (.int .u32 v.d) ∧
    w.cell? ⟨b, 5, none⟩ = some (.int .u32 v.e) ∧ w.cell? ⟨b, 6, none⟩ = some (.int .u32 v.f) ∧ w.cell? ⟨b, 7, none⟩ = some (.int .u32 v.g) ∧ w.cell? ⟨b, 8, none⟩ = some (.int .u32 v.h) :=
  ⟨h.cell 1 _ rfl, h.cell 2 _ rfl, h.cell 3 _ rfl, h.cell 4 _ rfl, h.cell 5 _ rfl, h.cell 6 _ rfl, h.cell 7 _ rfl, h.cell 8 _ rfl⟩
theorem At.made {w : World} {b : Nat} {m : Bool} {v : V} {wt : List UInt8} {n : Nat} (h : At w b m v wt n) : w.cell? ⟨b, 0, none⟩ = some (.bool m) := h.cell 0 _ rfl
theorem At.wait {w : World} {b : Nat} {m : Bool} {v : V} {wt : List UInt8} {n : Nat} (h : At w b m v wt n) (j : Nat) (hj : j < wt.length) : w.cell? ⟨b, 9 + j, none⟩ = some (.int .u8 (wt.getD j 0).toNat) := by
  refine h.cell (9 + j) _ ?_
  rw [cells, List.getElem?_toArray, show 9 + j = (j + 8) + 1 by omega, List.getElem?_cons_succ, List.getElem?_append_right (by simp [nums, V.l]), show j + 8 - (nums v.l).length = j by simp [nums, V.l], List.getElem?_append_left (by simpa [Lib.byteCells] using hj)]
  exact byteCells_get hj
theorem At.len {w : World} {b : Nat} {m : Bool} {v : V} {wt : List UInt8} {n : Nat} (h : At w b m v wt n) (hl : wt.length = 64) : w.cell? ⟨b, 73, none⟩ = some (.int .i64 n) := by
  refine h.cell 73 _ ?_
  rw [cells, List.getElem?_toArray, show 73 = 72 + 1 from rfl, List.getElem?_cons_succ, List.getElem?_append_right (by simp [nums, V.l]), show 72 - (nums v.l).length = 64 by simp [nums, V.l], List.getElem?_append_right (by simp [Lib.byteCells, hl])]
  simp [Lib.byteCells, hl]
theorem At.free {w : World} {b : Nat} {m : Bool} {v : V} {wt : List UInt8} {n : Nat} (h : At w b m v wt n) (o : Nat) : w.frozen? ⟨b, o, none⟩ = false := free_of h o
theorem At.lt {w : World} {b : Nat} {m : Bool} {v : V} {wt : List UInt8} {n : Nat} (h : At w b m v wt n) : b < w.heap.size := lt_of h
theorem At.low {w w' : World} {b : Nat} {m : Bool} {v : V} {wt : List UInt8} {n : Nat} (h : At w b m v wt n) (k : Below w.heap.size w w') : At w' b m v wt n := (k.block b h.lt).trans h

theorem set_word (m : Bool) (v : V) (wt : List UInt8) (n : Nat) (x : Nat) :
    (cells m v wt n).setIfInBounds 1 (.int .u32 x) = cells m { v with a := x } wt n ∧ (cells m v wt n).setIfInBounds 2 (.int .u32 x) = cells m { v with b := x } wt n ∧
    (cells m v wt n).setIfInBounds 3 (.int .u32 x) = cells m { v with c := x } wt n ∧ (cells m v wt n).setIfInBounds 4 (.int .u32 x) = cells m { v with d := x } wt n ∧
    (cells m v wt n).setIfInBounds 5 (.int .u32 x) = cells m { v with e := x } wt n ∧ (cells m v wt n).setIfInBounds 6 (.int .u32 x) = cells m { v with f := x } wt n ∧
    (cells m v wt n).setIfInBounds 7 (.int .u32 x) = cells m { v with g := x } wt n ∧ (cells m v wt n).setIfInBounds 8 (.int .u32 x) = cells m { v with h := x } wt n := by
  refine ⟨?_, ?_, ?_, ?_, ?_, ?_, ?_, ?_⟩ <;> (apply Array.ext'; simp [cells, nums, V.l])
theorem grown_cell {w w' : World} {b c o : Nat} (h : w.grownBy w' (some b)) (hc : c < w.heap.size) (hn : c ≠ b) : w'.cell? ⟨c, o, none⟩ = w.cell? ⟨c, o, none⟩ :=
  World.cell?_of_block (w := w) (h.block c hc (fun e => hn (by have := Option.some.inj e; omega)))
theorem KAt.grown {w w' : World} {b : Nat} (h : KAt w) (k : w.grownBy w' (some b)) (hb : b ≠ 1) (hs : 1 < w.heap.size) : KAt w' := fun i hi => (grown_cell k hs hb.symm).trans (h i hi)
theorem w_ch {e f g : Nat} (he : e < 4294967296) (hf : f < 4294967296) (hg : g < 4294967296) :
    bits .xor .u32 (bits .and .u32 (e : Int) f) (bits .and .u32 (bits .xor .u32 IntKind.u32.max (e : Int)) g) = (chs e f g : Nat) := by
  rw [show IntKind.u32.max = 4294967295 from rfl, w_comp he, w_and he hf, w_and (comp_lt he) hg, w_xor (and_lt hf) (and_lt hg)]; rfl
theorem w_maj {a b c : Nat} (ha : a < 4294967296) (hb : b < 4294967296) (hc : c < 4294967296) :
    bits .xor .u32 (bits .xor .u32 (bits .and .u32 (a : Int) b) (bits .and .u32 (a : Int) c)) (bits .and .u32 (b : Int) c) = (maj a b c : Nat) := by
  rw [w_and ha hb, w_and ha hc, w_and hb hc, w_xor (and_lt hb) (and_lt hc), w_xor (xor_lt (and_lt hb) (and_lt hc)) (and_lt hc)]; rfl
theorem w_x3 {a b c : Nat} (ha : a < 4294967296) (hb : b < 4294967296) (hc : c < 4294967296) : bits .xor .u32 (bits .xor .u32 (a : Int) b) c = ((a ^^^ b ^^^ c : Nat) : Int) := by
  rw [w_xor ha hb, w_xor (xor_lt ha hb) hc]
theorem w_t1 {u : V} (h : u.Ok) (k w : Nat) :
    ((u.h : Int) + bits .xor .u32 (bits .xor .u32 (rot u.e 6 : Nat) (rot u.e 11 : Nat)) (rot u.e 25 : Nat) + bits .xor .u32 (bits .and .u32 (u.e : Int) u.f) (bits .and .u32 (bits .xor .u32 IntKind.u32.max (u.e : Int)) u.g) + k + w) % 4294967296 = (t1 u k w : Nat) := by
  rw [w_ch h.e h.f h.g, w_x3 (rot_lt h.e) (rot_lt h.e) (rot_lt h.e)]
  unfold t1 add sum1; omega
theorem w_t1q {u : V} (h : u.Ok) (k : Nat) :
    ((((u.h : Int) + bits .xor .u32 (bits .xor .u32 (rot u.e 6 : Nat) (rot u.e 11 : Nat)) (rot u.e 25 : Nat)) % 4294967296 + bits .xor .u32 (bits .and .u32 (u.e : Int) u.f) (bits .and .u32 (bits .xor .u32 IntKind.u32.max (u.e : Int)) u.g)) % 4294967296 + k) % 4294967296 = (((add (add (add u.h (sum1 u.e)) (chs u.e u.f u.g)) k : Nat)) : Int) := by
  rw [w_ch h.e h.f h.g, w_x3 (rot_lt h.e) (rot_lt h.e) (rot_lt h.e)]
  unfold add sum1; omega
theorem w_t1r (u : V) (k w : Nat) : (((add (add (add u.h (sum1 u.e)) (chs u.e u.f u.g)) k : Nat) : Int) + w) % 4294967296 = (t1 u k w : Nat) := by unfold t1 add; omega
theorem w_t2 {u : V} (h : u.Ok) :
    (bits .xor .u32 (bits .xor .u32 (rot u.a 2 : Nat) (rot u.a 13 : Nat)) (rot u.a 22 : Nat) + bits .xor .u32 (bits .xor .u32 (bits .and .u32 (u.a : Int) u.b) (bits .and .u32 (u.a : Int) u.c)) (bits .and .u32 (u.b : Int) u.c)) % 4294967296 = (t2 u : Nat) := by
  rw [w_maj h.a h.b h.c, w_x3 (rot_lt h.a) (rot_lt h.a) (rot_lt h.a)]
  unfold t2 add sum0; omega
theorem At.drewN {w : World} {b : Nat} {m : Bool} {v : V} {wt : List UInt8} {n : Nat} (h : At w b m v wt n) (j : Nat) : At (w.drewN j) b m v wt n := h
/-- The words of a row. -/
def V.of (l : List Nat) : V := ⟨l.getD 0 0, l.getD 1 0, l.getD 2 0, l.getD 3 0, l.getD 4 0, l.getD 5 0, l.getD 6 0, l.getD 7 0⟩
/-- The first j words with those added that there were. -/
def mix (u v : V) : Nat → V
  | 0 => u
  | j + 1 => V.of ((mix u v j).l.set j (add ((mix u v j).l.getD j 0) (v.l.getD j 0)))
theorem mix_all (u v : V) : mix u v 8 = plus u v := rfl
theorem At.word {w : World} {b : Nat} {m : Bool} {v : V} {wt : List UInt8} {n : Nat} (h : At w b m v wt n) (j : Nat) (hj : j < 8) : w.cell? ⟨b, 1 + j, none⟩ = some (.int .u32 (v.l.getD j 0 : Nat)) := by
  obtain ⟨a1, a2, a3, a4, a5, a6, a7, a8⟩ := h.words
  obtain rfl | rfl | rfl | rfl | rfl | rfl | rfl | rfl : j = 0 ∨ j = 1 ∨ j = 2 ∨ j = 3 ∨ j = 4 ∨ j = 5 ∨ j = 6 ∨ j = 7 := by omega
  · exact a1
  · exact a2
  · exact a3
  · exact a4
  · exact a5
  · exact a6
  · exact a7
  · exact a8
theorem set_at (m : Bool) (v : V) (wt : List UInt8) (n : Nat) (x j : Nat) (hj : j < 8) : (cells m v wt n).setIfInBounds (1 + j) (.int .u32 x) = cells m (V.of (v.l.set j x)) wt n := by
  obtain ⟨a1, a2, a3, a4, a5, a6, a7, a8⟩ := set_word m v wt n x
  obtain rfl | rfl | rfl | rfl | rfl | rfl | rfl | rfl : j = 0 ∨ j = 1 ∨ j = 2 ∨ j = 3 ∨ j = 4 ∨ j = 5 ∨ j = 6 ∨ j = 7 := by omega
  · exact a1
  · exact a2
  · exact a3
  · exact a4
  · exact a5
  · exact a6
  · exact a7
  · exact a8
end Sm

end Go.Proofs.YtiehcplepneajaaGreatDoor

/-
  The eight words, put one on, in the one statement that does it: a region of turn.
-/
namespace Go.Proofs.YtiehcplepneajaaGreatDoor
open Go.RowKit

namespace Sm
/-- The region of that number in a code. -/
def region? (n : Nat) : Code → Option Code
  | .region i ops d => if i = n then some (.region i ops d) else none
  | .seq a b => match region? n a with
    | some c => some c
    | none => region? n b
  | .cond _ a b => match region? n a with
    | some c => some c
    | none => region? n b
  | .block _ c => region? n c
  | .loop c => region? n c
  | .scope c => region? n c
  | _ => none
end Sm
noncomputable def r8 : Code := (Tryz.f143.body.bind (Sm.region? 8)).getD .skip

/-- The world behind the eight stores. -/
def put8 (w : World) (b : Nat) (a1 a2 a3 a4 a5 a6 a7 a8 : Int) : World :=
  ((((((((w.setCell ⟨b, 8, none⟩ (.int .u32 a8)).setCell ⟨b, 7, none⟩ (.int .u32 a7)).setCell ⟨b, 6, none⟩ (.int .u32 a6)).setCell ⟨b, 5, none⟩ (.int .u32 a5)).setCell ⟨b, 4, none⟩ (.int .u32 a4)).setCell ⟨b, 3, none⟩ (.int .u32 a3)).setCell ⟨b, 2, none⟩ (.int .u32 a2)).setCell ⟨b, 1, none⟩ (.int .u32 a1)).drew

set_option maxRecDepth 100000 in
set_option maxHeartbeats 4000000 in
theorem r8_any {w : World} {b : Nat} {u : Sm.V} {y1 y2 : Nat} (K : Act → World → Prop)
    (a1 : w.cell? ⟨b, 1, none⟩ = some (.int .u32 u.a)) (a2 : w.cell? ⟨b, 2, none⟩ = some (.int .u32 u.b)) (a3 : w.cell? ⟨b, 3, none⟩ = some (.int .u32 u.c)) (a4 : w.cell? ⟨b, 4, none⟩ = some (.int .u32 u.d))
    (a5 : w.cell? ⟨b, 5, none⟩ = some (.int .u32 u.e)) (a6 : w.cell? ⟨b, 6, none⟩ = some (.int .u32 u.f)) (a7 : w.cell? ⟨b, 7, none⟩ = some (.int .u32 u.g)) (a8 : w.cell? ⟨b, 8, none⟩ = some (.int .u32 u.h))
    (f1 : w.frozen? ⟨b, 1, none⟩ = false) (f2 : w.frozen? ⟨b, 2, none⟩ = false) (f3 : w.frozen? ⟨b, 3, none⟩ = false) (f4 : w.frozen? ⟨b, 4, none⟩ = false)
    (f5 : w.frozen? ⟨b, 5, none⟩ = false) (f6 : w.frozen? ⟨b, 6, none⟩ = false) (f7 : w.frozen? ⟨b, 7, none⟩ = false) (f8 : w.frozen? ⟨b, 8, none⟩ = false)
    {c1 c2 c3 c4 c5 c6 c13 c14 c15 c16 c17 c18 c19 c20 c21 c22 c23 c24 c25 c26 c27 c28 c29 c30 c31 c32 c33 c34 c35 c36 c37 c38 c39 c40 c41 c42 c43 c44 c45 c46 c47 c48 c49 c50 c51 c52 c53 c54 c55 c56 c57 c58 c59 c60 c61 c62 c63 c64 c65 c66 c67 c68 c69 c70 c71 c72 c73 c74 c75 c76 c77 c78 c79 c80 c81 c82 c83 c84 c85 c86 c87 c88 c89 c90 c91 c92 c93 c94 c95 c96 c97 c98 c99 c100 c101 c102 c103 c104 c105 c106 c107 c108 c109 c110 c111 c112 c113 c114 c115 c116 c117 c118 c119 c120 c121 c122 c123 c124 c125 c126 c127 c128 c129 c130 c131 c132 c133 c134 c135 c136 c137 c138 c139 c140 c141 c142 c143 c144 c145 c146 c147 c148 c149 c150 c151 c152 c153 c154 : Value}
    (h : ∀ x94 x95 x96 x97 x98 x99 x100 x101 x102 x103 x104 x105 x106 x107 x108 x109 x110 x111 x112 x113 x114 x115 x116 x117 x118 x119 x120 x121 x122 x123 x124 x125 x126 x127 x128 x129 x130 x131 x132 x133 x134 x135 x136 x137 x138 : Value, K ⟨List.toArray ((.pointer (some ⟨b, 1, none⟩) : Value) :: (c1 : Value) :: (c2 : Value) :: (c3 : Value) :: (c4 : Value) :: (c5 : Value) :: (c6 : Value) :: (.int .u32 (u.a : Nat) : Value) :: (.int .u32 (u.b : Nat) : Value) :: (.int .u32 (u.c : Nat) : Value) :: (.int .u32 (u.e : Nat) : Value) :: (.int .u32 (y1 : Nat) : Value) :: (.int .u32 (y2 : Nat) : Value) :: (c13 : Value) :: (c14 : Value) :: (c15 : Value) :: (c16 : Value) :: (c17 : Value) :: (c18 : Value) :: (c19 : Value) :: (c20 : Value) :: (c21 : Value) :: (c22 : Value) :: (c23 : Value) :: (c24 : Value) :: (c25 : Value) :: (c26 : Value) :: (c27 : Value) :: (c28 : Value) :: (c29 : Value) :: (c30 : Value) :: (c31 : Value) :: (c32 : Value) :: (c33 : Value) :: (c34 : Value) :: (c35 : Value) :: (c36 : Value) :: (c37 : Value) :: (c38 : Value) :: (c39 : Value) :: (c40 : Value) :: (c41 : Value) :: (c42 : Value) :: (c43 : Value) :: (c44 : Value) :: (c45 : Value) :: (c46 : Value) :: (c47 : Value) :: (c48 : Value) :: (c49 : Value) :: (c50 : Value) :: (c51 : Value) :: (c52 : Value) :: (c53 : Value) :: (c54 : Value) :: (c55 : Value) :: (c56 : Value) :: (c57 : Value) :: (c58 : Value) :: (c59 : Value) :: (c60 : Value) :: (c61 : Value) :: (c62 : Value) :: (c63 : Value) :: (c64 : Value) :: (c65 : Value) :: (c66 : Value) :: (c67 : Value) :: (c68 : Value) :: (c69 : Value) :: (c70 : Value) :: (c71 : Value) :: (c72 : Value) :: (c73 : Value) :: (c74 : Value) :: (c75 : Value) :: (c76 : Value) :: (c77 : Value) :: (c78 : Value) :: (c79 : Value) :: (c80 : Value) :: (c81 : Value) :: (c82 : Value) :: (c83 : Value) :: (c84 : Value) :: (c85 : Value) :: (c86 : Value) :: (c87 : Value) :: (c88 : Value) :: (c89 : Value) :: (c90 : Value) :: (c91 : Value) :: (c92 : Value) :: (c93 : Value) :: (x94 : Value) :: (x95 : Value) :: (x96 : Value) :: (x97 : Value) :: (x98 : Value) :: (x99 : Value) :: (x100 : Value) :: (x101 : Value) :: (x102 : Value) :: (x103 : Value) :: (x104 : Value) :: (x105 : Value) :: (x106 : Value) :: (x107 : Value) :: (x108 : Value) :: (x109 : Value) :: (x110 : Value) :: (x111 : Value) :: (x112 : Value) :: (x113 : Value) :: (x114 : Value) :: (x115 : Value) :: (x116 : Value) :: (x117 : Value) :: (x118 : Value) :: (x119 : Value) :: (x120 : Value) :: (x121 : Value) :: (x122 : Value) :: (x123 : Value) :: (x124 : Value) :: (x125 : Value) :: (x126 : Value) :: (x127 : Value) :: (x128 : Value) :: (x129 : Value) :: (x130 : Value) :: (x131 : Value) :: (x132 : Value) :: (x133 : Value) :: (x134 : Value) :: (x135 : Value) :: (x136 : Value) :: (x137 : Value) :: (x138 : Value) :: (c139 : Value) :: (c140 : Value) :: (c141 : Value) :: (c142 : Value) :: (c143 : Value) :: (c144 : Value) :: (c145 : Value) :: (c146 : Value) :: (c147 : Value) :: (c148 : Value) :: (c149 : Value) :: (c150 : Value) :: (c151 : Value) :: (c152 : Value) :: (c153 : Value) :: (c154 : Value) :: []), []⟩ (put8 w b ((y1 + y2 : Int) % 4294967296) u.a u.b u.c ((u.d + y1 : Int) % 4294967296) u.e u.f u.g)) :
    Code.wp Tryz.prog r8 (Exit.then K fun _ _ _ => False) ⟨List.toArray ((.pointer (some ⟨b, 1, none⟩) : Value) :: (c1 : Value) :: (c2 : Value) :: (c3 : Value) :: (c4 : Value) :: (c5 : Value) :: (c6 : Value) :: (.int .u32 (u.a : Nat) : Value) :: (.int .u32 (u.b : Nat) : Value) :: (.int .u32 (u.c : Nat) : Value) :: (.int .u32 (u.e : Nat) : Value) :: (.int .u32 (y1 : Nat) : Value) :: (.int .u32 (y2 : Nat) : Value) :: (c13 : Value) :: (c14 : Value) :: (c15 : Value) :: (c16 : Value) :: (c17 : Value) :: (c18 : Value) :: (c19 : Value) :: (c20 : Value) :: (c21 : Value) :: (c22 : Value) :: (c23 : Value) :: (c24 : Value) :: (c25 : Value) :: (c26 : Value) :: (c27 : Value) :: (c28 : Value) :: (c29 : Value) :: (c30 : Value) :: (c31 : Value) :: (c32 : Value) :: (c33 : Value) :: (c34 : Value) :: (c35 : Value) :: (c36 : Value) :: (c37 : Value) :: (c38 : Value) :: (c39 : Value) :: (c40 : Value) :: (c41 : Value) :: (c42 : Value) :: (c43 : Value) :: (c44 : Value) :: (c45 : Value) :: (c46 : Value) :: (c47 : Value) :: (c48 : Value) :: (c49 : Value) :: (c50 : Value) :: (c51 : Value) :: (c52 : Value) :: (c53 : Value) :: (c54 : Value) :: (c55 : Value) :: (c56 : Value) :: (c57 : Value) :: (c58 : Value) :: (c59 : Value) :: (c60 : Value) :: (c61 : Value) :: (c62 : Value) :: (c63 : Value) :: (c64 : Value) :: (c65 : Value) :: (c66 : Value) :: (c67 : Value) :: (c68 : Value) :: (c69 : Value) :: (c70 : Value) :: (c71 : Value) :: (c72 : Value) :: (c73 : Value) :: (c74 : Value) :: (c75 : Value) :: (c76 : Value) :: (c77 : Value) :: (c78 : Value) :: (c79 : Value) :: (c80 : Value) :: (c81 : Value) :: (c82 : Value) :: (c83 : Value) :: (c84 : Value) :: (c85 : Value) :: (c86 : Value) :: (c87 : Value) :: (c88 : Value) :: (c89 : Value) :: (c90 : Value) :: (c91 : Value) :: (c92 : Value) :: (c93 : Value) :: (c94 : Value) :: (c95 : Value) :: (c96 : Value) :: (c97 : Value) :: (c98 : Value) :: (c99 : Value) :: (c100 : Value) :: (c101 : Value) :: (c102 : Value) :: (c103 : Value) :: (c104 : Value) :: (c105 : Value) :: (c106 : Value) :: (c107 : Value) :: (c108 : Value) :: (c109 : Value) :: (c110 : Value) :: (c111 : Value) :: (c112 : Value) :: (c113 : Value) :: (c114 : Value) :: (c115 : Value) :: (c116 : Value) :: (c117 : Value) :: (c118 : Value) :: (c119 : Value) :: (c120 : Value) :: (c121 : Value) :: (c122 : Value) :: (c123 : Value) :: (c124 : Value) :: (c125 : Value) :: (c126 : Value) :: (c127 : Value) :: (c128 : Value) :: (c129 : Value) :: (c130 : Value) :: (c131 : Value) :: (c132 : Value) :: (c133 : Value) :: (c134 : Value) :: (c135 : Value) :: (c136 : Value) :: (c137 : Value) :: (c138 : Value) :: (c139 : Value) :: (c140 : Value) :: (c141 : Value) :: (c142 : Value) :: (c143 : Value) :: (c144 : Value) :: (c145 : Value) :: (c146 : Value) :: (c147 : Value) :: (c148 : Value) :: (c149 : Value) :: (c150 : Value) :: (c151 : Value) :: (c152 : Value) :: (c153 : Value) :: (c154 : Value) :: []), []⟩ w := by
  have H := Lib.hid h
  clear h
  conv => arg 2; whnf
  go_region
  exact H.out _ _ _ _ _ _ _ _ _ _ _ _ _ _ _ _ _ _ _ _ _ _ _ _ _ _ _ _ _ _ _ _ _ _ _ _ _ _ _ _ _ _ _ _ _
end Go.Proofs.YtiehcplepneajaaGreatDoor

/-
  The first of a round's two sums: a region of turn that calls rot three times.
-/
namespace Go.Proofs.YtiehcplepneajaaGreatDoor
open Go.RowKit

theorem wp_then {P : Program} {c : Code} {Q : Exit → Act → World → Prop} {a : Act} {w : World} (h : c.wp P (Exit.then (fun a' w' => Q .normal a' w') fun _ _ _ => False) a w) : c.wp P Q a w :=
  wp_mono h fun e _ _ h => by cases e <;> first | exact h | exact h.elim

noncomputable def r6 : Code := (Tryz.f143.body.bind (Sm.region? 6)).getD .skip

set_option maxRecDepth 100000 in
set_option maxHeartbeats 4000000 in
theorem r6_any {w : World} {b N k : Nat} {u : Sm.V} {xk xw : Nat} (K : Act → World → Prop) (hok : u.Ok) (hk : k < 64)
    (a6 : w.cell? ⟨b, 6, none⟩ = some (.int .u32 u.f)) (a7 : w.cell? ⟨b, 7, none⟩ = some (.int .u32 u.g)) (a8 : w.cell? ⟨b, 8, none⟩ = some (.int .u32 u.h))
    (ck : w.cell? ⟨1, k, none⟩ = some (.int .u32 xk)) (cw : w.cell? ⟨N, k, none⟩ = some (.int .u32 xw))
    {c1 c2 c3 c5 c7 c8 c9 c11 c12 c13 c14 c15 c16 c17 c18 c19 c20 c21 c22 c23 c24 c25 c26 c27 c28 c29 c30 c31 c32 c33 c34 c35 c36 c37 c38 c39 c40 c41 c42 c43 c44 c45 c46 c47 c48 c49 c50 c51 c52 c53 c54 c55 c56 c57 c58 c59 c60 c61 c62 c63 c64 c65 c66 c67 c68 c69 c70 c71 c72 c73 c74 c75 c76 c77 c78 c79 c80 c81 c82 c83 c84 c85 c86 c87 c88 c89 c90 c91 c92 c93 c94 c95 c96 c97 c98 c99 c100 c101 c102 c103 c104 c105 c106 c107 c108 c109 c110 c111 c112 c113 c114 c115 c116 c117 c118 c119 c120 c121 c122 c123 c124 c125 c126 c127 c128 c129 c130 c131 c132 c133 c134 c135 c136 c137 c138 c139 c140 c141 c142 c143 c144 c145 c146 c147 c148 c149 c150 c151 c152 c153 c154 : Value}
    (h : ∀ (nq : Nat) (x38 x39 x40 x41 x42 x43 x44 x45 x46 x47 x48 x49 x50 x51 x52 x53 x54 x55 x56 x57 x58 x59 x60 x61 x62 x63 x64 x65 x66 x67 x68 x69 x70 x71 x72 x73 : Value), K ⟨List.toArray ((.pointer (some ⟨b, 1, none⟩) : Value) :: (c1 : Value) :: (c2 : Value) :: (c3 : Value) :: (.pointer (some ⟨N, 0, none⟩) : Value) :: (c5 : Value) :: (.int .i64 k : Value) :: (c7 : Value) :: (c8 : Value) :: (c9 : Value) :: (.int .u32 (u.e : Nat) : Value) :: (.int .u32 (Sm.t1 u xk xw : Nat) : Value) :: (c12 : Value) :: (c13 : Value) :: (c14 : Value) :: (c15 : Value) :: (c16 : Value) :: (c17 : Value) :: (c18 : Value) :: (c19 : Value) :: (c20 : Value) :: (c21 : Value) :: (c22 : Value) :: (c23 : Value) :: (c24 : Value) :: (c25 : Value) :: (c26 : Value) :: (c27 : Value) :: (c28 : Value) :: (c29 : Value) :: (c30 : Value) :: (c31 : Value) :: (c32 : Value) :: (c33 : Value) :: (c34 : Value) :: (c35 : Value) :: (c36 : Value) :: (c37 : Value) :: (x38 : Value) :: (x39 : Value) :: (x40 : Value) :: (x41 : Value) :: (x42 : Value) :: (x43 : Value) :: (x44 : Value) :: (x45 : Value) :: (x46 : Value) :: (x47 : Value) :: (x48 : Value) :: (x49 : Value) :: (x50 : Value) :: (x51 : Value) :: (x52 : Value) :: (x53 : Value) :: (x54 : Value) :: (x55 : Value) :: (x56 : Value) :: (x57 : Value) :: (x58 : Value) :: (x59 : Value) :: (x60 : Value) :: (x61 : Value) :: (x62 : Value) :: (x63 : Value) :: (x64 : Value) :: (x65 : Value) :: (x66 : Value) :: (x67 : Value) :: (x68 : Value) :: (x69 : Value) :: (x70 : Value) :: (x71 : Value) :: (x72 : Value) :: (x73 : Value) :: (c74 : Value) :: (c75 : Value) :: (c76 : Value) :: (c77 : Value) :: (c78 : Value) :: (c79 : Value) :: (c80 : Value) :: (c81 : Value) :: (c82 : Value) :: (c83 : Value) :: (c84 : Value) :: (c85 : Value) :: (c86 : Value) :: (c87 : Value) :: (c88 : Value) :: (c89 : Value) :: (c90 : Value) :: (c91 : Value) :: (c92 : Value) :: (c93 : Value) :: (c94 : Value) :: (c95 : Value) :: (c96 : Value) :: (c97 : Value) :: (c98 : Value) :: (c99 : Value) :: (c100 : Value) :: (c101 : Value) :: (c102 : Value) :: (c103 : Value) :: (c104 : Value) :: (c105 : Value) :: (c106 : Value) :: (c107 : Value) :: (c108 : Value) :: (c109 : Value) :: (c110 : Value) :: (c111 : Value) :: (c112 : Value) :: (c113 : Value) :: (c114 : Value) :: (c115 : Value) :: (c116 : Value) :: (c117 : Value) :: (c118 : Value) :: (c119 : Value) :: (c120 : Value) :: (c121 : Value) :: (c122 : Value) :: (c123 : Value) :: (c124 : Value) :: (c125 : Value) :: (c126 : Value) :: (c127 : Value) :: (c128 : Value) :: (c129 : Value) :: (c130 : Value) :: (c131 : Value) :: (c132 : Value) :: (c133 : Value) :: (c134 : Value) :: (c135 : Value) :: (c136 : Value) :: (c137 : Value) :: (c138 : Value) :: (c139 : Value) :: (c140 : Value) :: (c141 : Value) :: (c142 : Value) :: (c143 : Value) :: (c144 : Value) :: (c145 : Value) :: (c146 : Value) :: (c147 : Value) :: (c148 : Value) :: (c149 : Value) :: (c150 : Value) :: (c151 : Value) :: (c152 : Value) :: (c153 : Value) :: (c154 : Value) :: []), []⟩ (w.drewN nq)) :
    Code.wp Tryz.prog r6 (Exit.then K fun _ _ _ => False) ⟨List.toArray ((.pointer (some ⟨b, 1, none⟩) : Value) :: (c1 : Value) :: (c2 : Value) :: (c3 : Value) :: (.pointer (some ⟨N, 0, none⟩) : Value) :: (c5 : Value) :: (.int .i64 k : Value) :: (c7 : Value) :: (c8 : Value) :: (c9 : Value) :: (.int .u32 (u.e : Nat) : Value) :: (c11 : Value) :: (c12 : Value) :: (c13 : Value) :: (c14 : Value) :: (c15 : Value) :: (c16 : Value) :: (c17 : Value) :: (c18 : Value) :: (c19 : Value) :: (c20 : Value) :: (c21 : Value) :: (c22 : Value) :: (c23 : Value) :: (c24 : Value) :: (c25 : Value) :: (c26 : Value) :: (c27 : Value) :: (c28 : Value) :: (c29 : Value) :: (c30 : Value) :: (c31 : Value) :: (c32 : Value) :: (c33 : Value) :: (c34 : Value) :: (c35 : Value) :: (c36 : Value) :: (c37 : Value) :: (c38 : Value) :: (c39 : Value) :: (c40 : Value) :: (c41 : Value) :: (c42 : Value) :: (c43 : Value) :: (c44 : Value) :: (c45 : Value) :: (c46 : Value) :: (c47 : Value) :: (c48 : Value) :: (c49 : Value) :: (c50 : Value) :: (c51 : Value) :: (c52 : Value) :: (c53 : Value) :: (c54 : Value) :: (c55 : Value) :: (c56 : Value) :: (c57 : Value) :: (c58 : Value) :: (c59 : Value) :: (c60 : Value) :: (c61 : Value) :: (c62 : Value) :: (c63 : Value) :: (c64 : Value) :: (c65 : Value) :: (c66 : Value) :: (c67 : Value) :: (c68 : Value) :: (c69 : Value) :: (c70 : Value) :: (c71 : Value) :: (c72 : Value) :: (c73 : Value) :: (c74 : Value) :: (c75 : Value) :: (c76 : Value) :: (c77 : Value) :: (c78 : Value) :: (c79 : Value) :: (c80 : Value) :: (c81 : Value) :: (c82 : Value) :: (c83 : Value) :: (c84 : Value) :: (c85 : Value) :: (c86 : Value) :: (c87 : Value) :: (c88 : Value) :: (c89 : Value) :: (c90 : Value) :: (c91 : Value) :: (c92 : Value) :: (c93 : Value) :: (c94 : Value) :: (c95 : Value) :: (c96 : Value) :: (c97 : Value) :: (c98 : Value) :: (c99 : Value) :: (c100 : Value) :: (c101 : Value) :: (c102 : Value) :: (c103 : Value) :: (c104 : Value) :: (c105 : Value) :: (c106 : Value) :: (c107 : Value) :: (c108 : Value) :: (c109 : Value) :: (c110 : Value) :: (c111 : Value) :: (c112 : Value) :: (c113 : Value) :: (c114 : Value) :: (c115 : Value) :: (c116 : Value) :: (c117 : Value) :: (c118 : Value) :: (c119 : Value) :: (c120 : Value) :: (c121 : Value) :: (c122 : Value) :: (c123 : Value) :: (c124 : Value) :: (c125 : Value) :: (c126 : Value) :: (c127 : Value) :: (c128 : Value) :: (c129 : Value) :: (c130 : Value) :: (c131 : Value) :: (c132 : Value) :: (c133 : Value) :: (c134 : Value) :: (c135 : Value) :: (c136 : Value) :: (c137 : Value) :: (c138 : Value) :: (c139 : Value) :: (c140 : Value) :: (c141 : Value) :: (c142 : Value) :: (c143 : Value) :: (c144 : Value) :: (c145 : Value) :: (c146 : Value) :: (c147 : Value) :: (c148 : Value) :: (c149 : Value) :: (c150 : Value) :: (c151 : Value) :: (c152 : Value) :: (c153 : Value) :: (c154 : Value) :: []), []⟩ w := by
  have H2 : Hid (∀ z : Int, z = (Sm.t1 u xk xw : Nat) → ∀ (nq : Nat) (x38 x39 x40 x41 x42 x43 x44 x45 x46 x47 x48 x49 x50 x51 x52 x53 x54 x55 x56 x57 x58 x59 x60 x61 x62 x63 x64 x65 x66 x67 x68 x69 x70 x71 x72 x73 : Value), K ⟨List.toArray ((.pointer (some ⟨b, 1, none⟩) : Value) :: (c1 : Value) :: (c2 : Value) :: (c3 : Value) :: (.pointer (some ⟨N, 0, none⟩) : Value) :: (c5 : Value) :: (.int .i64 k : Value) :: (c7 : Value) :: (c8 : Value) :: (c9 : Value) :: (.int .u32 (u.e : Nat) : Value) :: (.int .u32 z : Value) :: (c12 : Value) :: (c13 : Value) :: (c14 : Value) :: (c15 : Value) :: (c16 : Value) :: (c17 : Value) :: (c18 : Value) :: (c19 : Value) :: (c20 : Value) :: (c21 : Value) :: (c22 : Value) :: (c23 : Value) :: (c24 : Value) :: (c25 : Value) :: (c26 : Value) :: (c27 : Value) :: (c28 : Value) :: (c29 : Value) :: (c30 : Value) :: (c31 : Value) :: (c32 : Value) :: (c33 : Value) :: (c34 : Value) :: (c35 : Value) :: (c36 : Value) :: (c37 : Value) :: (x38 : Value) :: (x39 : Value) :: (x40 : Value) :: (x41 : Value) :: (x42 : Value) :: (x43 : Value) :: (x44 : Value) :: (x45 : Value) :: (x46 : Value) :: (x47 : Value) :: (x48 : Value) :: (x49 : Value) :: (x50 : Value) :: (x51 : Value) :: (x52 : Value) :: (x53 : Value) :: (x54 : Value) :: (x55 : Value) :: (x56 : Value) :: (x57 : Value) :: (x58 : Value) :: (x59 : Value) :: (x60 : Value) :: (x61 : Value) :: (x62 : Value) :: (x63 : Value) :: (x64 : Value) :: (x65 : Value) :: (x66 : Value) :: (x67 : Value) :: (x68 : Value) :: (x69 : Value) :: (x70 : Value) :: (x71 : Value) :: (x72 : Value) :: (x73 : Value) :: (c74 : Value) :: (c75 : Value) :: (c76 : Value) :: (c77 : Value) :: (c78 : Value) :: (c79 : Value) :: (c80 : Value) :: (c81 : Value) :: (c82 : Value) :: (c83 : Value) :: (c84 : Value) :: (c85 : Value) :: (c86 : Value) :: (c87 : Value) :: (c88 : Value) :: (c89 : Value) :: (c90 : Value) :: (c91 : Value) :: (c92 : Value) :: (c93 : Value) :: (c94 : Value) :: (c95 : Value) :: (c96 : Value) :: (c97 : Value) :: (c98 : Value) :: (c99 : Value) :: (c100 : Value) :: (c101 : Value) :: (c102 : Value) :: (c103 : Value) :: (c104 : Value) :: (c105 : Value) :: (c106 : Value) :: (c107 : Value) :: (c108 : Value) :: (c109 : Value) :: (c110 : Value) :: (c111 : Value) :: (c112 : Value) :: (c113 : Value) :: (c114 : Value) :: (c115 : Value) :: (c116 : Value) :: (c117 : Value) :: (c118 : Value) :: (c119 : Value) :: (c120 : Value) :: (c121 : Value) :: (c122 : Value) :: (c123 : Value) :: (c124 : Value) :: (c125 : Value) :: (c126 : Value) :: (c127 : Value) :: (c128 : Value) :: (c129 : Value) :: (c130 : Value) :: (c131 : Value) :: (c132 : Value) :: (c133 : Value) :: (c134 : Value) :: (c135 : Value) :: (c136 : Value) :: (c137 : Value) :: (c138 : Value) :: (c139 : Value) :: (c140 : Value) :: (c141 : Value) :: (c142 : Value) :: (c143 : Value) :: (c144 : Value) :: (c145 : Value) :: (c146 : Value) :: (c147 : Value) :: (c148 : Value) :: (c149 : Value) :: (c150 : Value) :: (c151 : Value) :: (c152 : Value) :: (c153 : Value) :: (c154 : Value) :: []), []⟩ (w.drewN nq)) := fun z hz nq x38 x39 x40 x41 x42 x43 x44 x45 x46 x47 x48 x49 x50 x51 x52 x53 x54 x55 x56 x57 x58 x59 x60 x61 x62 x63 x64 x65 x66 x67 x68 x69 x70 x71 x72 x73 => by
    subst hz
    exact h nq x38 x39 x40 x41 x42 x43 x44 x45 x46 x47 x48 x49 x50 x51 x52 x53 x54 x55 x56 x57 x58 x59 x60 x61 x62 x63 x64 x65 x66 x67 x68 x69 x70 x71 x72 x73
  have R1 := Lib.hid (fun wx => rot_any u.e 6 hok.e (by decide) (by decide) wx)
  have R2 := Lib.hid (fun wx => rot_any u.e 11 hok.e (by decide) (by decide) wx)
  have R3 := Lib.hid (fun wx => rot_any u.e 25 hok.e (by decide) (by decide) wx)
  have HOK := Lib.hid hok
  have hk0 : (k : Int) < 64 := by omega
  have hsg : IntKind.u32.signed = false := rfl
  clear h hok
  conv => arg 2; whnf
  go_quiet ((first | (go_at_call 167; exact Sm.q_one (R1.out _)) | (go_at_call 167; exact Sm.q_one (R2.out _)) | (go_at_call 167; exact Sm.q_one (R3.out _)) | (go_at_call 167; exact Sm.q_more (R1.out _)) | (go_at_call 167; exact Sm.q_more (R2.out _)) | (go_at_call 167; exact Sm.q_more (R3.out _))))
  all_goals
    refine H2.out _ ?_ _ _ _ _ _ _ _ _ _ _ _ _ _ _ _ _ _ _ _ _ _ _ _ _ _ _ _ _ _ _ _ _ _ _ _ _ _
    rw [Sm.w_ch HOK.out.e HOK.out.f HOK.out.g, Sm.w_x3 (Sm.rot_lt HOK.out.e) (Sm.rot_lt HOK.out.e) (Sm.rot_lt HOK.out.e)]
    unfold Sm.t1 Sm.add Sm.sum1
    omega
end Go.Proofs.YtiehcplepneajaaGreatDoor

/-
  What turn does: the eight words of a Sha, turned by the block that waits in it.
-/
namespace Go.Proofs.YtiehcplepneajaaGreatDoor
open Go.RowKit

theorem grown_drew {a w : World} {r : Option Nat} (h : a.grownBy w r) : a.grownBy w.drew r := ⟨h.os, h.tape, h.output, h.size, h.block⟩
theorem put8_grown {w w' : World} {b : Nat} {x1 x2 x3 x4 x5 x6 x7 x8 : Int} (h : put8 w b x1 x2 x3 x4 x5 x6 x7 x8 = w') : w.grownBy w' (some b) := by
  have h8 := Sm.grown_set (Sm.grown_refl w (some b)) 8 (.int .u32 x8)
  have h7 := Sm.grown_set h8 7 (.int .u32 x7)
  have h6 := Sm.grown_set h7 6 (.int .u32 x6)
  have h5 := Sm.grown_set h6 5 (.int .u32 x5)
  have h4 := Sm.grown_set h5 4 (.int .u32 x4)
  have h3 := Sm.grown_set h4 3 (.int .u32 x3)
  have h2 := Sm.grown_set h3 2 (.int .u32 x2)
  have h1 := Sm.grown_set h2 1 (.int .u32 x1)
  unfold put8 at h
  rw [← h]
  exact grown_drew h1
theorem put8_at {w w' : World} {b : Nat} {m : Bool} {u : Sm.V} {wt : List UInt8} {n y1 y2 : Nat} (h : Sm.At w b m u wt n)
    (hw : put8 w b (((y1 : Int) + (y2 : Int)) % 4294967296) u.a u.b u.c (((u.d : Int) + (y1 : Int)) % 4294967296) u.e u.f u.g = w') :
    Sm.At w' b m ⟨Sm.add y1 y2, u.a, u.b, u.c, Sm.add u.d y1, u.e, u.f, u.g⟩ wt n := by
  have e1 : ((y1 : Int) + (y2 : Int)) % 4294967296 = (Sm.add y1 y2 : Nat) := by unfold Sm.add; omega
  have e2 : ((u.d : Int) + (y1 : Int)) % 4294967296 = (Sm.add u.d y1 : Nat) := by unfold Sm.add; omega
  rw [e1, e2] at hw
  unfold Sm.At at h ⊢
  have k8 := Sm.heap_set h 8 (.int .u32 u.g)
  rw [(Sm.set_word _ _ _ _ _).2.2.2.2.2.2.2] at k8
  have k7 := Sm.heap_set k8 7 (.int .u32 u.f)
  rw [(Sm.set_word _ _ _ _ _).2.2.2.2.2.2.1] at k7
  have k6 := Sm.heap_set k7 6 (.int .u32 u.e)
  rw [(Sm.set_word _ _ _ _ _).2.2.2.2.2.1] at k6
  have k5 := Sm.heap_set k6 5 (.int .u32 (Sm.add u.d y1 : Nat))
  rw [(Sm.set_word _ _ _ _ _).2.2.2.2.1] at k5
  have k4 := Sm.heap_set k5 4 (.int .u32 u.c)
  rw [(Sm.set_word _ _ _ _ _).2.2.2.1] at k4
  have k3 := Sm.heap_set k4 3 (.int .u32 u.b)
  rw [(Sm.set_word _ _ _ _ _).2.2.1] at k3
  have k2 := Sm.heap_set k3 2 (.int .u32 u.a)
  rw [(Sm.set_word _ _ _ _ _).2.1] at k2
  have k1 := Sm.heap_set k2 1 (.int .u32 (Sm.add y1 y2 : Nat))
  rw [(Sm.set_word _ _ _ _ _).1] at k1
  unfold put8 at hw
  rw [← hw, heap_drew]
  exact k1

set_option maxRecDepth 100000 in
set_option maxHeartbeats 8000000 in
theorem turn_any {w : World} {b : Nat} {m : Bool} {v : Sm.V} {wt : List UInt8} {n : Nat} (hat : Sm.At w b m v wt n) (hv : v.Ok) (hl : wt.length = 64) (hK : Sm.KAt w) (h1 : b ≠ 1) (hsz : 1 < w.heap.size) :
    Calls Tryz.prog 143 #[.pointer (some ⟨b, 1, none⟩), .pointer (some ⟨b, 9, none⟩)] w fun e w' => e = .returned (.tuple #[]) ∧ w.grownBy w' (some b) ∧ Sm.At w' b m (Sm.turn v wt) wt n := by
  have hlt := hat.lt
  have hsp := spread_any w b 9 wt hl hlt (fun j hj => hat.wait j (by omega))
  have HSP := Lib.hid hsp
  have HAT := Lib.hid hat
  have HK := Lib.hid hK
  have HV := Lib.hid hv
  clear hsp hat hK hv
  go_enter Tryz.func143, Tryz.ntmps143
  go_wp2_with fail
  refine (HSP.out).mono ?_
  rintro e w1 ⟨rfl, hb1⟩
  have hws : (Sm.nums (Sm.words wt 48)).toArray.size = 64 := by rw [← Sm.rowOf_full (n := 64) (by rw [Sm.words_length]), Sm.rowOf_size (by rw [Sm.words_length]; omega)]
  have hone : (Sm.nums (Sm.words wt 48)).toArray.all (·.oneCell') = true := by rw [← Sm.rowOf_full (n := 64) (by rw [Sm.words_length])]; exact Sm.rowOf_one _ _
  have hinfo := Sm.info64 hws
  have HAT1 := Lib.hid (HAT.out.low hb1)
  have HWS := Lib.hid hws
  clear hws
  generalize hws : (Sm.nums (Sm.words wt 48)).toArray = ws at *
  have HW := Lib.hid hws
  clear hws
  have hst : ∀ c : Array Value, c.size = 64 → (storeCells ⟨w1.heap.size, 0, none⟩ ws.toList).run Tryz.prog (w1.alloc (.cells c 172)) = .ok () (w1.alloc (.cells ws 172)) :=
    fun c hc => run_storeCells_new w1 172 c ws hinfo (by rw [HWS.out]; exact hc) hone
  have hws64 : ws.size = 64 := HWS.out
  clear hone hinfo
  obtain ⟨a1, a2, a3, a4, a5, a6, a7, a8⟩ := (HAT1.out.low ((Below.refl _ w1).alloc (Nat.le_refl _) (.cells ws 172))).words
  go_wp2_with fail
  have g0 : Below w.heap.size w ((w1.alloc (.cells ws 172)).alloc (.cells (Sm.nums v.l).toArray 193)) := (hb1.alloc hb1.size _).alloc (Nat.le_trans hb1.size (by simp)) _
  have g1 : ((w1.alloc (.cells ws 172)).alloc (.cells (Sm.nums v.l).toArray 193)).heap[w1.heap.size]? = some (.cells ws 172 (0, 0)) := by
    rw [Below.heap_alloc _ _ _ (by simp)]; exact heap_alloc_new w1 _
  have g2 : ((w1.alloc (.cells ws 172)).alloc (.cells (Sm.nums v.l).toArray 193)).heap[w1.heap.size + 1]? = some (.cells (Sm.nums v.l).toArray 193 (0, 0)) := by
    have := heap_alloc_new (w1.alloc (.cells ws 172)) (.cells (Sm.nums v.l).toArray 193)
    simpa using this
  have g3 := HAT.out.low g0
  have hNw : b ≠ w1.heap.size := by have := hb1.size; omega
  have hNo : b ≠ w1.heap.size + 1 := by have := hb1.size; omega
  have hNs : w.heap.size ≤ w1.heap.size := hb1.size
  clear a1 a2 a3 a4 a5 a6 a7 a8 hst hb1
  change Code.wp _ _ _ _ ((w1.alloc (.cells ws 172)).alloc (.cells (Sm.nums v.l).toArray 193))
  generalize ((w1.alloc (.cells ws 172)).alloc (.cells (Sm.nums v.l).toArray 193)) = W0 at *
  generalize w1.heap.size = N at *
  go_loopw [19] (fun i wr => ∃ k : Nat, k ≤ 64 ∧ i = .int .i64 k ∧ Sm.At wr b m (Sm.rounds v Sm.ks (Sm.words wt 48) k) wt n ∧ wr.heap[N]? = some (.cells ws 172 (0, 0)) ∧ wr.heap[N + 1]? = some (.cells (Sm.nums v.l).toArray 193 (0, 0)) ∧ w.grownBy wr (some b)) (fun i _ => 64 - (intOf i).toNat)
  case atStart => exact ⟨0, by omega, rfl, g3, g1, g2, Sm.grown_below (Sm.grown_refl _ _) g0⟩
  case round =>
    clear g0 g1 g2 g3
    obtain ⟨k, hk, rfl, hat, hNW, hNO, hgr⟩ := hrel
    have HA := Lib.hid hat
    have HNW := Lib.hid hNW
    have HNO := Lib.hid hNO
    have hk1 := HK.out.grown hgr h1 hsz
    have HK1 := Lib.hid hk1
    clear hat hNW hNO hk1
    by_cases hlt2 : k < 64
    · have hok := Sm.rounds_ok HV.out Sm.ks (Sm.words wt 48) k
      have hrd : Sm.rounds v Sm.ks (Sm.words wt 48) (k + 1) = Sm.round (Sm.rounds v Sm.ks (Sm.words wt 48) k) (Sm.ks.getD k 0) ((Sm.words wt 48).getD k 0) := rfl
      have HRD := Lib.hid hrd
      clear hrd
      generalize Sm.rounds v Sm.ks (Sm.words wt 48) k = u at *
      have ck := HK1.out k hlt2
      have cw := Sm.cells_of HNW.out k (.int .u32 ((Sm.words wt 48).getD k 0 : Nat)) (by rw [← HW.out, List.getElem?_toArray]; exact Sm.nums_get (by rw [Sm.words_length]; omega))
      have lk := Sm.getD_lt Sm.ks_lt k
      have lw := Sm.getD_lt (Sm.words_lt wt 48) k
      generalize Sm.ks.getD k 0 = xk at *
      generalize (Sm.words wt 48).getD k 0 = xw at *
      obtain ⟨a1, a2, a3, a4, a5, a6, a7, a8⟩ := HA.out.words
      have f1 := HA.out.free 1
      have f2 := HA.out.free 2
      have f3 := HA.out.free 3
      have f4 := HA.out.free 4
      have f5 := HA.out.free 5
      have f6 := HA.out.free 6
      have f7 := HA.out.free 7
      have f8 := HA.out.free 8
      have R4 := Lib.hid (fun wx => rot_any u.a 2 hok.a (by decide) (by decide) wx)
      have R5 := Lib.hid (fun wx => rot_any u.a 13 hok.a (by decide) (by decide) wx)
      have R6 := Lib.hid (fun wx => rot_any u.a 22 hok.a (by decide) (by decide) wx)
      have HOK := Lib.hid hok
      clear hok
      go_wp2_with fail
      go_quiet (fail)
      generalize hwx : wr.drewN _ = wx
      have hgr2 : w.grownBy wx (some b) := by rw [← hwx]; exact Sm.grown_drewN hgr _
      have HA2 : Hid (Sm.At wx b m u wt n) := by rw [← hwx]; exact HA.out
      have HNW2 : Hid (wx.heap[N]? = some (.cells ws 172 (0, 0))) := by rw [← hwx]; exact HNW.out
      have HNO2 : Hid (wx.heap[N + 1]? = some (.cells (Sm.nums v.l).toArray 193 (0, 0))) := by rw [← hwx]; exact HNO.out
      have b6 : wx.cell? ⟨b, 6, none⟩ = some (.int .u32 u.f) := by rw [← hwx]; exact a6
      have b7 : wx.cell? ⟨b, 7, none⟩ = some (.int .u32 u.g) := by rw [← hwx]; exact a7
      have b8 : wx.cell? ⟨b, 8, none⟩ = some (.int .u32 u.h) := by rw [← hwx]; exact a8
      have bk : wx.cell? ⟨1, k, none⟩ = some (.int .u32 xk) := by rw [← hwx]; exact ck
      have bw : wx.cell? ⟨N, k, none⟩ = some (.int .u32 xw) := by rw [← hwx]; exact cw
      clear hwx a1 a2 a3 a4 a5 a6 a7 a8 f1 f2 f3 f4 f5 f6 f7 f8 ck cw hgr HA HNW HNO HK1
      go_wp2_with fail
      refine wp_then (r6_any _ HOK.out hlt2 b6 b7 b8 bk bw ?_)
      intro nq x38 x39 x40 x41 x42 x43 x44 x45 x46 x47 x48 x49 x50 x51 x52 x53 x54 x55 x56 x57 x58 x59 x60 x61 x62 x63 x64 x65 x66 x67 x68 x69 x70 x71 x72 x73
      generalize hwy : wx.drewN nq = wy
      have hgr3 : w.grownBy wy (some b) := by rw [← hwy]; exact Sm.grown_drewN hgr2 _
      have HA3 : Hid (Sm.At wy b m u wt n) := by rw [← hwy]; exact HA2.out
      have HNW3 : Hid (wy.heap[N]? = some (.cells ws 172 (0, 0))) := by rw [← hwy]; exact HNW2.out
      have HNO3 : Hid (wy.heap[N + 1]? = some (.cells (Sm.nums v.l).toArray 193 (0, 0))) := by rw [← hwy]; exact HNO2.out
      clear hwy hgr2 HA2 HNW2 HNO2 b6 b7 b8 bk bw
      obtain ⟨y1, hy1⟩ : ∃ y, y = Sm.t1 u xk xw := ⟨_, rfl⟩
      rw [← hy1]
      have HY1 := Lib.hid hy1
      clear hy1
      go_wp2_with fail
      refine (R4.out _).mono ?_
      rintro e w' ⟨rfl, rfl⟩
      go_wp2_with fail
      refine (R5.out _).mono ?_
      rintro e w' ⟨rfl, rfl⟩
      go_wp2_with fail
      refine (R6.out _).mono ?_
      rintro e w' ⟨rfl, rfl⟩
      go_wp2_with fail
      rw [Sm.w_t2 HOK.out]
      refine wp_then (r8_any _ HA3.out.words.1 HA3.out.words.2.1 HA3.out.words.2.2.1 HA3.out.words.2.2.2.1 HA3.out.words.2.2.2.2.1 HA3.out.words.2.2.2.2.2.1 HA3.out.words.2.2.2.2.2.2.1 HA3.out.words.2.2.2.2.2.2.2
        (HA3.out.free 1) (HA3.out.free 2) (HA3.out.free 3) (HA3.out.free 4) (HA3.out.free 5) (HA3.out.free 6) (HA3.out.free 7) (HA3.out.free 8) ?_)
      intro x94 x95 x96 x97 x98 x99 x100 x101 x102 x103 x104 x105 x106 x107 x108 x109 x110 x111 x112 x113 x114 x115 x116 x117 x118 x119 x120 x121 x122 x123 x124 x125 x126 x127 x128 x129 x130 x131 x132 x133 x134 x135 x136 x137 x138
      generalize hwz : put8 wy b _ _ _ _ _ _ _ _ = wz
      have HZ := Lib.hid hwz
      clear hwz
      go_wp2
      go_roundw
      case rel =>
        have K := put8_at HA3.out HZ.out
        rw [HY1.out] at K
        have K2 : Sm.At wz b m (Sm.rounds v Sm.ks (Sm.words wt 48) (k + 1)) wt n := by rw [HRD.out]; exact K
        refine ⟨k + 1, by omega, by go_num, K2, ?_, ?_, Sm.grown_trans hgr3 (put8_grown HZ.out)⟩
        · exact ((put8_grown HZ.out).block N (Sm.lt_of HNW3.out) (fun e => hNw (Option.some.inj e.symm))).trans HNW3.out
        · exact ((put8_grown HZ.out).block (N + 1) (Sm.lt_of HNO3.out) (fun e => hNo (Option.some.inj e.symm))).trans HNO3.out
      case measure => simp [intOf]; omega
    · obtain rfl : k = 64 := by omega
      clear HK1
      generalize hu : Sm.rounds v Sm.ks (Sm.words wt 48) 64 = u at *
      have HU := Lib.hid hu
      clear hu
      go_wp2
      rw [show ((64 : Nat) : Int) = 64 from rfl]
      obtain ⟨w2, hw2⟩ : ∃ w2, w2 = wr := ⟨_, rfl⟩
      rw [← hw2] at HA HNO hgr ⊢
      clear hw2 HNW
      go_loopw [140] (fun i wq => ∃ j : Nat, j ≤ 8 ∧ i = .int .i64 j ∧ Sm.At wq b m (Sm.mix u v j) wt n ∧ wq.heap[N + 1]? = some (.cells (Sm.nums v.l).toArray 193 (0, 0)) ∧ w.grownBy wq (some b)) (fun i _ => 8 - (intOf i).toNat)
      case atStart => exact ⟨0, by omega, rfl, HA.out, HNO.out, hgr⟩
      case round =>
        clear HA HNO hgr
        obtain ⟨j, hj, rfl, hat, hNO, hgr⟩ := hrel
        have HA := Lib.hid hat
        have HNO := Lib.hid hNO
        clear hat hNO
        by_cases hlt3 : j < 8
        · have ca := HA.out.word j hlt3
          have co := Sm.cells_of HNO.out j (.int .u32 (v.l.getD j 0 : Nat)) (by rw [List.getElem?_toArray]; exact Sm.nums_get hlt3)
          have cf := HA.out.free (1 + j)
          have hstep : Sm.mix u v (j + 1) = Sm.V.of ((Sm.mix u v j).l.set j (Sm.add ((Sm.mix u v j).l.getD j 0) (v.l.getD j 0))) := rfl
          have HST := Lib.hid hstep
          clear hstep
          generalize Sm.mix u v j = z at *
          generalize z.l.getD j 0 = x at *
          generalize v.l.getD j 0 = y at *
          have hNo2 : ¬ b = N + 1 := hNo
          go_wp2
          go_region
          go_wp2
          go_roundw
          case rel =>
            rw [show ((x : Int) + y) % 4294967296 = (Sm.add x y : Nat) by unfold Sm.add; omega]
            have g := Sm.grown_set hgr (1 + j) (.int .u32 (Sm.add x y : Nat))
            refine ⟨j + 1, by omega, by go_num, ?_, ?_, ⟨g.os, g.tape, g.output, g.size, g.block⟩⟩
            · rw [HST.out]
              unfold Sm.At
              rw [← Sm.set_at _ _ _ _ _ _ hlt3, heap_drew]
              exact Sm.heap_set HA.out _ _
            · rw [heap_drew, Below.heap_setCell _ _ _ _ (by simpa using hNo2 ∘ Eq.symm)]
              exact HNO.out
          case measure => simp [intOf]; omega
        · obtain rfl : j = 8 := by omega
          have ha : Sm.At wr b m (Sm.turn v wt) wt n := by
            have h := HA.out
            rw [Sm.mix_all, ← HU.out] at h
            exact h
          have HA2 := Lib.hid ha
          clear ha
          go_wp2
          go_end0
          exact ⟨rfl, hgr, HA2.out⟩
end Go.Proofs.YtiehcplepneajaaGreatDoor

/-
  What Write does: a text put behind what was written.
-/
namespace Go.Proofs.YtiehcplepneajaaGreatDoor
open Go.RowKit
namespace Sm

/-- A Sha lies in block b to which t was written. -/
def Is (w : World) (b : Nat) (t : List UInt8) : Prop := ∃ wt : List UInt8, wt.length = 64 ∧ wt.take (t.length % 64) = tail t ∧ At w b true (st t) wt t.length
theorem Is.low {w w' : World} {b : Nat} {t : List UInt8} (h : Is w b t) (k : Below w.heap.size w w') : Is w' b t := let ⟨wt, h1, h2, h3⟩ := h; ⟨wt, h1, h2, h3.low k⟩
theorem Is.lt {w : World} {b : Nat} {t : List UInt8} (h : Is w b t) : b < w.heap.size := let ⟨_, _, _, h3⟩ := h; h3.lt

/-- What a copy out of a string, cut at the row's end, does. -/
theorem run_copy_cut {P : Program} (w : World) (dT sT ty elem : TypeId) (g o dLen dCap : Nat) (s : ByteArray) (cur : Array Value) (t : TypeId) (k : Nat) (hk : k = min s.size dLen)
    (hu : P.underlying dT = some (.slice elem)) (hs : (P.info? elem).map (·.size) = some 1) (hg : w.heap[g]? = some (.cells cur t (0, 0))) (hfit : o + k ≤ cur.size) :
    (Builtin.copy_ #[dT, sT] ty #[.slice (some ⟨g, o, none⟩) dLen dCap, .string s]).run P w =
      .ok (goInt k) (w.setRow g (cur.toList.take o ++ Lib.byteCells (s.data.toList.take k) ++ cur.toList.drop (o + k)).toArray) := by
  have hmin : Nat.min s.size dLen = k := hk.symm
  have hks : k ≤ s.data.toList.length := by have : s.data.toList.length = s.size := rfl; omega
  have hlen : (Lib.byteCells (s.data.toList.take k)).length = k := by rw [Lib.byteCells_length, List.length_take]; omega
  have hst := run_storeCells_at P g o t (Lib.byteCells (s.data.toList.take k)) 0 cur w hg (by rw [hlen]; simpa using hfit) (Lib.byteCells_one _)
  have htk : List.take k (List.map (fun b : UInt8 => Value.int IntKind.u8 (b.toNat : Int)) s.data.toList) = Lib.byteCells (s.data.toList.take k) := by rw [Lib.byteCells, List.map_take]
  rw [hlen] at hst
  simp only [Nat.add_zero] at hst
  cases hq : P.info? elem with
  | none => simp [hq] at hs
  | some i =>
    simp [Builtin.copy_, run_underlying hu, Builtin.lenOf, Builtin.firstCells, sizeOf, typeInfo, hq, hmin]
    rw [htk, hst]
    simp [Result.andThen]
theorem wpList_copy_cut {P : Program} {w : World} {ops : Array Oper} {rest : List Oper} {o : Oper} {a : Act} {Q : Exit → Act → World → Prop} (hgd : o.guard = none) (d s : Operand) (dT sT : TypeId)
    (ho : o.op = .call { callee := .builtin .copy, args := #[d, s], argTypes := #[dT, sT] }) (elem : TypeId) (hu : P.underlying dT = some (.slice elem)) (hsz : (P.info? elem).map (·.size) = some 1)
    (g off dLen dCap : Nat) (str : ByteArray) (hd : a.eval d = .slice (some ⟨g, off, none⟩) dLen dCap) (hs : a.eval s = .string str) (k : Nat) (hk : k = min str.size dLen)
    (cur : Array Value) (t : TypeId) (hg : w.heap[g]? = some (.cells cur t (0, 0))) (hfit : off + k ≤ cur.size)
    (h : wpList P ops Q rest (a.put o.dst (.int .i64 k)) (w.setRow g (cur.toList.take off ++ Lib.byteCells (str.data.toList.take k) ++ cur.toList.drop (off + k)).toArray)) : wpList P ops Q (o :: rest) a w := by
  refine wpList_plain hgd fun K hK => ?_
  have hrun := run_copy_cut (P := P) w dT sT o.type elem g off dLen dCap str cur t k hk hu hsz hg hfit
  unfold Oper.wp
  simp [execOp, ho, resolve, invoke, builtin, hd, hs, hrun, Result.andThen]
  rw [List.append_assoc] at h
  exact hK _ _ h

theorem ext_end (s : ByteArray) (a : Nat) : (s.extract a s.size).data.toList = s.data.toList.drop a := by
  rw [Lib.extract_data, List.take_of_length_le (by rw [List.length_drop]; exact Nat.le_refl _)]
theorem cells_size (m : Bool) (v : V) (wt : List UInt8) (n : Nat) (hl : wt.length = 64) : (cells m v wt n).size = 74 := by simp [cells, nums, V.l, Lib.byteCells, hl]
/-- The cells of a Sha in which bytes were copied to what waits. -/
theorem cells_copy (m : Bool) (v : V) (wt p : List UInt8) (n i : Nat) (hl : wt.length = 64) (hi : i + p.length ≤ 64) :
    ((cells m v wt n).toList.take (9 + i) ++ Lib.byteCells p ++ (cells m v wt n).toList.drop (9 + i + p.length)).toArray = cells m v (wt.take i ++ (p ++ wt.drop (i + p.length))) n := by
  have hA : (Value.bool m :: nums v.l).length = 9 := by simp [nums, V.l]
  have e : (cells m v wt n).toList = (Value.bool m :: nums v.l) ++ (Lib.byteCells wt ++ [.int .i64 (n : Int)]) := by simp [cells]
  have hb : (Lib.byteCells wt).length = 64 := by rw [Lib.byteCells_length, hl]
  have e1 : (cells m v wt n).toList.take (9 + i) = (Value.bool m :: nums v.l) ++ Lib.byteCells (wt.take i) := by
    rw [e, List.take_append, hA, List.take_of_length_le (by omega), show 9 + i - 9 = i by omega, List.take_append_of_le_length (by omega), Lib.byteCells, Lib.byteCells, List.map_take]
  have e2 : (cells m v wt n).toList.drop (9 + i + p.length) = Lib.byteCells (wt.drop (i + p.length)) ++ [.int .i64 (n : Int)] := by
    rw [e, List.drop_append, hA, List.drop_of_length_le (by omega), List.nil_append, show 9 + i + p.length - 9 = i + p.length by omega, List.drop_append_of_le_length (by omega), Lib.byteCells, Lib.byteCells, List.map_drop]
  rw [e1, e2]
  simp [cells, Lib.byteCells]
theorem cells_len (m : Bool) (v : V) (wt : List UInt8) (n k : Nat) (hl : wt.length = 64) : (cells m v wt n).setIfInBounds 73 (.int .i64 (k : Int)) = cells m v wt k := by
  apply Array.ext'
  have e : ∀ n : Nat, (cells m v wt n).toList = ((Value.bool m :: nums v.l) ++ Lib.byteCells wt) ++ [.int .i64 (n : Int)] := fun n => by simp [cells]
  have h1 : ((Value.bool m :: nums v.l) ++ Lib.byteCells wt).length = 73 := by simp [nums, V.l, Lib.byteCells, hl]
  rw [Array.toList_setIfInBounds, e, e, List.set_append_right _ _ (by omega), h1]
  rfl
end Sm

def strLen : Value → Nat
  | .string s => s.size
  | _ => 0
theorem info_u8s : (Tryz.prog.info? 5).map (·.size) = some 1 := by kernel_rfl

set_option maxRecDepth 100000 in
set_option maxHeartbeats 4000000 in
theorem write_any {w : World} {b : Nat} {t : List UInt8} (s : ByteArray) (his : Sm.Is w b t) (hK : Sm.KAt w) (h1 : b ≠ 1) (hsz : 1 < w.heap.size) (hlen : t.length + s.size ≤ 4611686018427387904) :
    Calls Tryz.prog 112 #[.pointer (some ⟨b, 0, none⟩), .string s] w fun e w' => e = .returned (.int .i64 s.size) ∧ w.grownBy w' (some b) ∧ Sm.Is w' b (t ++ s.data.toList) := by
  have hmade := his.choose_spec.2.2.made
  have HIS := Lib.hid his
  have HK := Lib.hid hK
  clear his hK
  go_enter Tryz.func112, Tryz.ntmps112
  go_wp2
  go_loopw [5] (fun r wr => ∃ (q : List UInt8) (rs : ByteArray), r = .string rs ∧ q ++ rs.data.toList = t ++ s.data.toList ∧ Sm.Is wr b q ∧ w.grownBy wr (some b)) (fun r _ => strLen r)
  case atStart => exact ⟨t, s, rfl, rfl, HIS.out, Sm.grown_refl _ _⟩
  case round =>
    obtain ⟨q, rs, rfl, hqs, hin, hgr⟩ := hrel
    have HQ := Lib.hid hqs
    have hlq : q.length + rs.size ≤ 4611686018427387904 := by
      have := congrArg List.length hqs
      rw [List.length_append, List.length_append] at this
      have e1 : rs.data.toList.length = rs.size := rfl
      have e2 : s.data.toList.length = s.size := rfl
      omega
    clear hqs
    by_cases hz : rs.size = 0
    · have hemp : rs.toList.isEmpty = true := by rw [Lib.toList_data]; exact List.isEmpty_iff.2 (List.eq_nil_of_length_eq_zero hz)
      go_wp2
      go_ret
      have e : rs.data.toList = [] := List.eq_nil_of_length_eq_zero hz
      have h := HQ.out
      rw [e, List.append_nil] at h
      exact ⟨rfl, hgr, by rw [← h]; exact hin⟩
    · have hemp : rs.toList.isEmpty = false := by
        rw [Lib.toList_data, Bool.eq_false_iff]; intro h; exact hz (by rw [List.isEmpty_iff] at h; show rs.data.toList.length = 0; rw [h]; rfl)
      obtain ⟨wt, hwl, hwt, hat⟩ := hin
      have HWT := Lib.hid hwt
      have HA := Lib.hid hat
      have c73 := hat.len hwl
      have f73 := hat.free 73
      have hsl := fun wx => Sm.slice64 b 9 (q.length % 64) (Nat.mod_lt _ (by decide)) wx
      rw [show ((q.length % 64 : Nat) : Int) = (q.length : Int) % 64 by omega] at hsl
      clear hwt hat
      obtain ⟨k, hk⟩ : ∃ k, k = min rs.size (64 - q.length % 64) := ⟨_, rfl⟩
      have hk1 : k ≤ rs.size := by omega
      have hk2 : k ≤ 64 - q.length % 64 := by omega
      have hk3 : 1 ≤ k := by omega
      have hsz74 := Sm.cells_size true (Sm.st q) wt q.length hwl
      have hpl : (rs.data.toList.take k).length = k := by rw [List.length_take]; have : rs.data.toList.length = rs.size := rfl; omega
      have hcp : (Builtin.copy_ #[127, 9] 3 #[.slice (some ⟨b, 9 + q.length % 64, none⟩) (64 - q.length % 64) (64 - q.length % 64), .string rs]).run Tryz.prog wr =
          .ok (.int .i64 k) (wr.setRow b (Sm.cells true (Sm.st q) (wt.take (q.length % 64) ++ (rs.data.toList.take k ++ wt.drop (q.length % 64 + k))) q.length)) := by
        have h := Sm.run_copy_cut (P := Tryz.prog) wr 127 9 3 5 b (9 + q.length % 64) (64 - q.length % 64) (64 - q.length % 64) rs _ 196 k hk Tryz.underlying127 info_u8s HA.out (by rw [hsz74]; omega)
        have e := Sm.cells_copy true (Sm.st q) wt (rs.data.toList.take k) q.length (q.length % 64) hwl (by rw [hpl]; omega)
        rw [hpl] at e
        rw [e] at h
        exact h
      rw [HWT.out] at hcp
      obtain ⟨w2, hw2⟩ : ∃ w2, w2 = wr.setRow b (Sm.cells true (Sm.st q) (Sm.tail q ++ (rs.data.toList.take k ++ wt.drop (q.length % 64 + k))) q.length) := ⟨_, rfl⟩
      have HA2 : Hid (Sm.At w2 b true (Sm.st q) (Sm.tail q ++ (rs.data.toList.take k ++ wt.drop (q.length % 64 + k))) q.length) := by
        rw [hw2]; exact setRow_heap wr b _ _ _ _ HA.out
      have hg2 : w.grownBy w2 (some b) := by
        rw [hw2]; exact Sm.grown_trans hgr ⟨rfl, rfl, rfl, by rw [size_setRow]; exact Nat.le_refl _, fun i _ hn => setRow_other _ _ _ _ (fun e => hn (by rw [e]))⟩
      rw [← hw2] at hcp
      clear hw2
      have hl2 : (Sm.tail q ++ (rs.data.toList.take k ++ wt.drop (q.length % 64 + k))).length = 64 := by
        rw [List.length_append, List.length_append, Sm.tail_length, hpl, List.length_drop, hwl]; omega
      have hdrop : q.length % 64 + k = 64 → wt.drop (q.length % 64 + k) = [] := fun h => List.drop_of_length_le (by omega)
      have HDROP := Lib.hid hdrop
      clear hdrop
      obtain ⟨p, hp⟩ : ∃ p, p = rs.data.toList.take k := ⟨_, rfl⟩
      rw [← hp] at HA2 hl2 hpl
      have c73b := HA2.out.len hl2
      have f73b := HA2.out.free 73
      have hqs2 : (q ++ p) ++ (rs.extract k rs.size).data.toList = t ++ s.data.toList := by
        rw [← HQ.out, List.append_assoc, hp]
        rw [Sm.ext_end, List.take_append_drop]
      have HP := Lib.hid hp
      have HQ2 := Lib.hid hqs2
      have HCP := Lib.hid hsz74
      have HKK := Lib.hid hk
      clear hp hqs2 hsz74 HIS HWT hk
      have hk4 : (k : Int) ≤ rs.size := by omega
      by_cases hfull : q.length % 64 + k = 64
      · have hfi : (q.length : Int) % 64 + k = 64 := by omega
        have hfb : ((q.length : Int) % 64 + k == 64) = true := by rw [beq_iff_eq]; exact hfi
        have hd0 := HDROP.out hfull
        rw [hd0, List.append_nil] at HA2 hl2
        have hst := Sm.st_full q p (by rw [hpl]; omega)
        have hA3 : Hid (Sm.At (w2.setCell ⟨b, 73, none⟩ (.int .i64 ((q.length : Int) + k))) b true (Sm.st q) (Sm.tail q ++ p) (q.length + k)) := by
          have h := Sm.heap_set HA2.out 73 (.int .i64 ((q.length + k : Nat) : Int))
          rw [Sm.cells_len _ _ _ _ _ hl2] at h
          exact h
        have hg3 := Sm.grown_set hg2 73 (.int .i64 ((q.length : Int) + k))
        have hk3 := HK.out.grown hg3 h1 hsz
        have hs3 := Nat.lt_of_lt_of_le hsz hg3.size
        have HST := Lib.hid hst
        have HL2 := Lib.hid hl2
        have HK3 := Lib.hid hk3
        clear hst hd0 hk3 hl2
        go_wp2_with fail
        generalize w2.setCell ⟨b, 73, none⟩ (.int .i64 ((q.length : Int) + k)) = w3 at *
        go_still_tail 6, (by kernel_rfl)
        have hA4 : Sm.At w3.drew b true (Sm.st q) (Sm.tail q ++ p) (q.length + k) := hA3.out
        have hg4 : w.grownBy w3.drew (some b) := grown_drew hg3
        have hK4 : Sm.KAt w3.drew := HK3.out
        have hs4 : 1 < w3.drew.heap.size := hs3
        have HA4 := Lib.hid hA4
        have HK4 := Lib.hid hK4
        clear hA4 hK4
        change wpList _ _ _ _ _ w3.drew
        generalize w3.drew = w4 at *
        go_wp2_with fail
        refine (turn_any HA4.out (Sm.st_ok q) HL2.out HK4.out h1 hs4).mono ?_
        rintro e w5 ⟨rfl, hg5, ha5⟩
        have HA5 := Lib.hid ha5
        clear ha5
        go_wp2
        go_roundw
        case rel =>
          refine ⟨q ++ p, _, rfl, HQ2.out, ?_, Sm.grown_trans hg4 hg5⟩
          refine ⟨_, HL2.out, ?_, ?_⟩
          · rw [HST.out.2, show (q ++ p).length % 64 = 0 by rw [List.length_append, hpl]; omega]; rfl
          · rw [HST.out.1, List.length_append, hpl]
            exact HA5.out
        case measure =>
          have : (rs.extract k rs.size).size = rs.size - k := by simp
          simp only [strLen, this]
          omega
      · have hfi : ((q.length : Int) % 64 + k == 64) = false := by rw [beq_eq_false_iff_ne]; omega
        have hfi2 : ¬ ((q.length : Int) % 64 + k = 64) := by omega
        go_wp2
        go_roundw
        case rel =>
          have hst := Sm.st_short q p (by rw [hpl]; omega)
          refine ⟨q ++ p, _, rfl, HQ2.out, ?_, Sm.grown_set hg2 73 (.int .i64 ((q.length : Int) + k))⟩
          refine ⟨_, hl2, ?_, ?_⟩
          · rw [hst.2, ← List.append_assoc, List.length_append, hpl, List.take_append_of_le_length (by rw [List.length_append, Sm.tail_length, hpl]; omega), List.take_of_length_le (by rw [List.length_append, Sm.tail_length, hpl]; omega)]
          · have h := Sm.heap_set HA2.out 73 (.int .i64 ((q.length + k : Nat) : Int))
            rw [Sm.cells_len _ _ _ _ _ hl2] at h
            rw [hst.1, List.length_append, hpl]
            exact h
        case measure =>
          have : (rs.extract k rs.size).size = rs.size - k := by simp
          simp only [strLen, this]
          omega
end Go.Proofs.YtiehcplepneajaaGreatDoor

/-
  What New, Len, Twin do.
-/
namespace Go.Proofs.YtiehcplepneajaaGreatDoor
open Go.RowKit
namespace Sm
/-- The numbers h stand in their variable. -/
def HAt (w : World) : Prop := ∀ i, i < 8 → w.cell? ⟨0, i, none⟩ = some (.int .u32 (h0.l.getD i 0 : Nat))
def fresh : Obj := .cells (cells true h0 (List.replicate 64 0) 0) 196
theorem is_new (w : World) : Is (w.alloc fresh) w.heap.size [] := ⟨List.replicate 64 0, by simp, rfl, heap_alloc_new w _⟩
theorem KAt.low {w w' : World} {B : Nat} (h : KAt w) (k : Below B w w') (hB : 1 < B) : KAt w' := fun i hi => (k.cell (p := ⟨1, i, none⟩) hB).trans (h i hi)
theorem HAt.low {w w' : World} {B : Nat} (h : HAt w) (k : Below B w w') (hB : 0 < B) : HAt w' := fun i hi => (k.cell (p := ⟨0, i, none⟩) hB).trans (h i hi)
theorem HAt.grown {w w' : World} {b : Nat} (h : HAt w) (k : w.grownBy w' (some b)) (hb : b ≠ 0) (hs : 0 < w.heap.size) : HAt w' := fun i hi => (grown_cell k hs (Ne.symm hb)).trans (h i hi)
end Sm

theorem wpList_build_eq {P : Program} {ops : Array Oper} {rest : List Oper} {o : Oper} {a : Act} {w : World} {Q : Exit → Act → World → Prop} (hg : o.guard = none) (t : TypeId) (parts : Array (Nat × Operand)) (ho : o.op = .build t parts)
    (cells : Array Value) (hc : P.built t (parts.map fun (i, x) => (i, a.eval x)).toList = some cells)
    (h : wpList P ops Q rest (a.put o.dst (.agg cells)) w) : wpList P ops Q (o :: rest) a w := by
  refine wpList_build hg t parts ho (by rw [hc]; rfl) ?_
  rw [hc]
  exact h

set_option maxRecDepth 100000 in
set_option maxHeartbeats 1000000 in
theorem new_any (w : World) (h : Sm.HAt w) : Calls Tryz.prog 111 #[] w fun e w' => e = .returned (.pointer (some ⟨w.heap.size, 0, none⟩)) ∧ w.alloc Sm.fresh = w' := by
  have a0 := h 0 (by decide)
  have a1 := h 1 (by decide)
  have a2 := h 2 (by decide)
  have a3 := h 3 (by decide)
  have a4 := h 4 (by decide)
  have a5 := h 5 (by decide)
  have a6 := h 6 (by decide)
  have a7 := h 7 (by decide)
  simp only [Sm.h0, Sm.V.l, List.getD_cons_zero, List.getD_cons_succ] at a0 a1 a2 a3 a4 a5 a6 a7
  clear h
  go_enter Tryz.func111, Tryz.ntmps111
  go_wp2_with (refine wpList_build_eq rfl 196 _ rfl (Sm.cells true Sm.h0 (List.replicate 64 0) 0) (by kernel_rfl) ?_)
  go_ret
  exact ⟨rfl, rfl⟩
end Go.Proofs.YtiehcplepneajaaGreatDoor

/-
  What padding does: what is put behind a text of n bytes.
-/
namespace Go.Proofs.YtiehcplepneajaaGreatDoor
open Go.RowKit
namespace Sm
theorem made128 : madeCells (Value.int .u8 0).cells (128 * 1) = (Lib.byteCells (List.replicate 128 0)).toArray := by kernel_rfl
theorem be8_length (n : Nat) : (be8 n).length = 8 := by simp [be8]
theorem be8_step (n k : Nat) (hk : k < 8) : (be8 n).take (k + 1) = (be8 n).take k ++ [UInt8.ofNat (n / 2 ^ (56 - 8 * k))] := by
  rw [List.take_succ_eq_append_getElem (by rw [be8_length]; exact hk)]
  simp [be8]
theorem pad_start (z : Nat) (hz : z < 64) : ((Lib.byteCells (List.replicate 128 0)).set 0 (.int .u8 128)).take (1 + z) = Lib.byteCells (128 :: List.replicate z 0) := by
  rw [show List.replicate 128 (0 : UInt8) = 0 :: List.replicate 127 0 from rfl]
  simp only [Lib.byteCells, List.map_cons, List.set_cons_zero, List.map_replicate]
  rw [Nat.add_comm 1 z, List.take_succ_cons, List.take_replicate, show min z 127 = z by omega]
  rfl
end Sm


set_option maxRecDepth 100000 in
set_option maxHeartbeats 2000000 in
theorem padding_any (n : Nat) (hn : n ≤ 1152921504606846976) (w : World) :
    Calls Tryz.prog 144 #[.int .i64 n] w fun e w' => e = .returned (.string ⟨(Sm.pad n).toArray⟩) ∧ Below w.heap.size w w' := by
  obtain ⟨i0, hi, hz0, hz1, hz2⟩ := info_parts info3_u8
  obtain ⟨z, hz⟩ : ∃ z, z = (119 - n % 64) % 64 := ⟨_, rfl⟩
  have hzi : (55 - (n : Int) % 64 + 64) % 64 = (z : Int) := by omega
  have hz64 : z < 64 := by omega
  have hmk : ∀ wx : World, (Instr.makeSlice 127 (.int .i64 (1 + (z : Int))) (.int .i64 128)).run Tryz.prog wx = .ok (.slice (some ⟨wx.heap.size, 0, none⟩) (1 + z) 128) (wx.alloc (.cells (Lib.byteCells (List.replicate 128 0)).toArray 5)) := fun wx => by
    have h := run_make (P := Tryz.prog) wx 127 5 i0 (.int .u8 0) Tryz.underlying127 hi hz0 .i64 .i64 (1 + (z : Int)) 128 (by omega) (by omega) (by rw [hz2]; omega) (by omega)
    rw [hz1, show (1 + (z : Int)).toNat = 1 + z by omega, show (128 : Int).toNat = 128 from rfl, Sm.made128] at h
    exact h
  have hz0c : (Lib.byteCells (List.replicate 128 0))[0]? = some (.int .u8 0) := rfl
  have HZ := Lib.hid hz
  clear hz
  go_enter Tryz.func144, Tryz.ntmps144
  go_wp2
  have g1 : Below w.heap.size w (w.alloc (.cells ((Lib.byteCells (List.replicate 128 0)).set 0 (.int .u8 128)).toArray 5)) := (Below.refl _ w).alloc (Nat.le_refl _) _
  have g2 : (w.alloc (.cells ((Lib.byteCells (List.replicate 128 0)).set 0 (.int .u8 128)).toArray 5)).ownsRow w.heap.size 5 1 (.slice (some ⟨w.heap.size, 0, none⟩) (1 + z) 128) (1 + z) (Lib.byteCells (128 :: List.replicate z 0 ++ (Sm.be8 (n * 8)).take 0)) := by
    refine ⟨by simp [Lib.byteCells]; omega, .inr ⟨w.heap.size, 128, _, rfl, Nat.le_refl _, heap_alloc_new w _, by omega, by unfold maxLen; omega, by simp [Lib.byteCells], ?_⟩⟩
    rw [List.take_zero, List.append_nil, Nat.mul_one, ← Sm.pad_start z hz64]
  change Code.wp _ _ _ _ (w.alloc (.cells ((Lib.byteCells (List.replicate 128 0)).set 0 (.int .u8 128)).toArray 5))
  generalize w.alloc (.cells ((Lib.byteCells (List.replicate 128 0)).set 0 (.int .u8 128)).toArray 5) = W1 at *
  obtain ⟨N, hN⟩ : ∃ N, N = w.heap.size := ⟨_, rfl⟩
  rw [← hN] at g1 g2 ⊢
  have HN := Lib.hid hN
  clear hN hmk hzi
  go_loopw [4, 16] (fun v i wr => ∃ k : Nat, k ≤ 8 ∧ i = .int .i64 k ∧ v = .slice (some ⟨N, 0, none⟩) (1 + z + k) 128 ∧ wr.ownsRow N 5 1 (.slice (some ⟨N, 0, none⟩) (1 + z + k) 128) (1 + z + k) (Lib.byteCells (128 :: List.replicate z 0 ++ (Sm.be8 (n * 8)).take k)) ∧ Below N w wr) (fun _ i _ => 8 - (intOf i).toNat)
  case atStart => exact ⟨0, by omega, rfl, rfl, g2, g1⟩
  case round =>
    clear g1 g2
    obtain ⟨k, hk, rfl, rfl, hown, hbk⟩ := hrel
    have HO := Lib.hid hown
    clear hown
    by_cases hlt : k < 8
    · have hbs := hbk.size
      have hX : ((n : Int) * 8 / 2 ^ (56 - 8 * k) % 256) = ((UInt8.ofNat (n * 8 / 2 ^ (56 - 8 * k))).toNat : Int) := by
        rw [UInt8.toNat_ofNat']; push_cast; rfl
      have HX := Lib.hid hX
      clear hX
      go_wp2_with (at_builtin; refine wpList_append_fits _ rfl (.tmp 19) (.tmp 28) 127 rfl N 5 i0 1 Tryz.underlying127 hi hz1 N (1 + z + k) 128 _ rfl (HO.out.alloc _) ⟨wr.heap.size, 0, none⟩ 1 1 [.int .u8 ((n : Int) * 8 / 2 ^ (56 - 8 * k) % 256)] rfl rfl ?c1 ?c2 ?c3 ?_)
      case c1 =>
        intro j u hj
        match j, hj with
        | 0, hj => simp at hj; subst hj; simp [Addr.add]
      case c2 => intro u hu; simp at hu; subst hu; rfl
      case c3 => omega
      · intro w1 hown' hgrow
        rw [HX.out] at hown' hgrow
        have ho2 : w1.ownsRow N 5 1 (.slice (some ⟨N, 0, none⟩) (1 + z + (k + 1)) 128) (1 + z + (k + 1)) (Lib.byteCells (128 :: List.replicate z 0 ++ (Sm.be8 (n * 8)).take (k + 1))) := by
          rw [Sm.be8_step _ _ hlt, ← List.append_assoc, Lib.byteCells_append]
          exact hown'
        have HO2 := Lib.hid ho2
        have hb2 : Below N w w1 := (hbk.alloc (by rw [HN.out]; exact hbs) _).grown hgrow (by rw [HN.out]; simp; omega) (fun j hj => by have := Option.some.inj hj; omega)
        clear hown' hgrow ho2
        go_wp2
        go_roundw
        case rel => exact ⟨k + 1, by omega, by go_num, rfl, HO2.out, hb2⟩
        case measure => simp [intOf]; omega
    · obtain rfl : k = 8 := by omega
      have hle : (Sm.be8 (n * 8)).take 8 = Sm.be8 (n * 8) := List.take_of_length_le (by rw [Sm.be8_length]; exact Nat.le_refl _)
      have hpad : 128 :: List.replicate z 0 ++ Sm.be8 (n * 8) = Sm.pad n := by rw [HZ.out]; rfl
      have hlen : (Sm.pad n).length = 1 + z + 8 := by rw [Sm.pad_length, HZ.out]; omega
      have h := HO.out
      rw [hle, hpad] at h
      have hcv : ∀ wx, wx = wr → (convert 127 9 (.slice (some ⟨N, 0, none⟩) (1 + z + 8) 128)).run Tryz.prog wx = .ok (.string ⟨(Sm.pad n).toArray⟩) wx := by
        rintro wx rfl
        have e := run_convert_bytes_back (P := Tryz.prog) wx 127 9 5 ⟨N, 0, none⟩ 128 (Sm.pad n) Tryz.underlying127 Tryz.underlying5 Tryz.underlying9 (fun j hj => h.cells (g := N) rfl j _ (by simp [Lib.byteCells, hj]))
        rw [hlen] at e
        exact e
      have hcv2 := hcv wr rfl
      clear hcv h hle hpad hlen
      go_wp2
      go_ret
      exact ⟨rfl, by rw [← HN.out]; exact hbk⟩
end Go.Proofs.YtiehcplepneajaaGreatDoor

/-
  What Sum tells of one that was written.
-/
namespace Go.Proofs.YtiehcplepneajaaGreatDoor
open Go.RowKit
namespace Sm
theorem cells_one (m : Bool) (v : V) (wt : List UInt8) (n : Nat) : (cells m v wt n).all (·.oneCell') = true := by
  rw [Array.all_eq_true_iff_forall_mem]
  intro x hx
  simp only [cells, List.mem_toArray, List.mem_cons, List.mem_append, List.not_mem_nil, or_false] at hx
  rcases hx with rfl | h | h | rfl
  · rfl
  · obtain ⟨y, _, rfl⟩ := List.mem_map.1 h; rfl
  · exact Lib.byteCells_one _ _ h
  · rfl
theorem infoSha {c : Array Value} (h : c.size = 74) : (Tryz.prog.info? 196).map (·.size) = some c.size := by rw [h]; kernel_rfl
theorem infoHash {c : Array Value} (h : c.size = 32) : (Tryz.prog.info? 36).map (·.size) = some c.size := by rw [h]; kernel_rfl
theorem heap_row32 (w : World) : (w.alloc (.cells (rowB 32 []) 36)).heap[w.heap.size]? = some (.cells (rowB 32 []) 36 (0, 0)) := heap_alloc_new w _
def outB (l : List Nat) (i : Nat) : UInt8 := UInt8.ofNat (l.getD (i / 4) 0 / 2 ^ (24 - i % 4 * 8))
theorem outN_eq (l : List Nat) : outN l = (List.range 32).map (outB l) := rfl
theorem zeroSha : (Tryz.prog.info? 196).map (fun i => (i.zero, i.size)) = some (some (.agg (cells false ⟨0, 0, 0, 0, 0, 0, 0, 0⟩ (List.replicate 64 0) 0)), 74) := by kernel_rfl
theorem zero_made : ∃ zc : Array Value, zc.size = 74 ∧ ∀ w, (zeroValue 196).run Tryz.prog w = .ok (.agg zc) w := ⟨_, cells_size _ _ _ _ (by simp), (zero_of_info zeroSha).1⟩
end Sm

set_option maxRecDepth 100000 in
set_option maxHeartbeats 4000000 in
theorem xsum_any {w : World} {b : Nat} {t : List UInt8} (his : Sm.Is w b t) (hK : Sm.KAt w) (hlen : t.length ≤ 1152921504606846976) (hsz : 1 < w.heap.size) :
    Calls Tryz.prog 113 #[.pointer (some ⟨b, 0, none⟩)] w fun e w' => e = .returned (.agg (Lib.byteCells (Sm.sum t)).toArray) ∧ Below w.heap.size w w' := by
  obtain ⟨wt, hwl, hwt, hat⟩ := his
  have hlt := hat.lt
  have ha1 : ∀ o, (w.alloc o).heap[b]? = some (.cells (Sm.cells true (Sm.st t) wt t.length) 196 (0, 0)) := fun o => by rw [Below.heap_alloc _ _ _ hlt]; exact hat
  have hs74 := Sm.cells_size true (Sm.st t) wt t.length hwl
  have hinfo := Sm.infoSha hs74
  have hone := Sm.cells_one true (Sm.st t) wt t.length
  have hst : ∀ (o : Obj) (c : Array Value), c.size = 74 → (storeCells ⟨w.heap.size + 1, 0, none⟩ (Sm.cells true (Sm.st t) wt t.length).toList).run Tryz.prog ((w.alloc o).alloc (.cells c 196)) = .ok () ((w.alloc o).alloc (.cells (Sm.cells true (Sm.st t) wt t.length) 196)) := fun o c hc => by
    have h := run_storeCells_new (P := Tryz.prog) (w.alloc o) 196 c (Sm.cells true (Sm.st t) wt t.length) hinfo (by rw [hs74]; exact hc) hone
    simpa using h
  have hc0 : ∀ o, (w.alloc o).cell? ⟨b, 0, none⟩ = some (.bool true) := fun o => Sm.At.made (ha1 o)
  have hc73 : ∀ (o o' : Obj), ((w.alloc o).alloc o').cell? ⟨b, 73, none⟩ = some (.int .i64 t.length) := fun o o' =>
    Sm.At.len (w := (w.alloc o).alloc o') (m := true) (v := Sm.st t) (by unfold Sm.At; rw [Below.heap_alloc _ _ _ (by simp; omega)]; exact ha1 o) hwl
  have hnew : ∀ o, ((w.alloc o).alloc (.cells (Sm.cells true (Sm.st t) wt t.length) 196)).heap[w.heap.size + 1]? = some (.cells (Sm.cells true (Sm.st t) wt t.length) 196 (0, 0)) := fun o => by
    have := heap_alloc_new (w.alloc o) (.cells (Sm.cells true (Sm.st t) wt t.length) 196)
    simpa using this
  have HA1 := Lib.hid ha1
  have HNEW := Lib.hid hnew
  have HK := Lib.hid hK
  have HWT := Lib.hid hwt
  have hcs : ∃ cs, cs = Sm.cells true (Sm.st t) wt t.length := ⟨_, rfl⟩
  obtain ⟨cs, hcs⟩ := hcs
  rw [← hcs] at HA1 HNEW hinfo hone hst hs74
  have HCS := Lib.hid hcs
  have H74 := Lib.hid hs74
  clear ha1 hnew hK hwt hat hcs hone
  obtain ⟨zc, hzs, hzv⟩ := Sm.zero_made
  go_enter Tryz.func113, Tryz.ntmps113
  go_wp2_with (with_reducible refine wpList_load_row rfl 196 (.tmp 17) rfl b rfl 196 cs (0, 0) _ (by exact HA1.out _) Tryz.underlying196 rfl (by exact hinfo) ?_)
  refine (padding_any t.length hlen _).mono ?_
  rintro e w3 ⟨rfl, hb3⟩
  obtain ⟨W2, hW2⟩ : ∃ W, W = (w.alloc (.cells (Sm.rowB 32 []) 36)).alloc (.cells cs 196) := ⟨_, rfl⟩
  have hb3' : Below W2.heap.size W2 w3 := by rw [hW2]; exact hb3
  clear hb3
  have hs2 : W2.heap.size = w.heap.size + 1 + 1 := by rw [hW2]; simp
  have hb2 : Below w.heap.size w W2 := by rw [hW2]; exact ((Below.refl _ w).alloc (Nat.le_refl _) _).alloc (by simp) _
  have hr2 : W2.heap[w.heap.size]? = some (.cells (Sm.rowB 32 []) 36 (0, 0)) := by
    rw [hW2, Below.heap_alloc _ _ _ (by simp)]; exact Sm.heap_row32 w
  have hr3 : w3.heap[w.heap.size]? = some (.cells (Sm.rowB 32 []) 36 (0, 0)) := (hb3'.block _ (by omega)).trans hr2
  have hi3 : Sm.Is w3 (w.heap.size + 1) t := ⟨wt, hwl, HWT.out, by
    unfold Sm.At
    rw [hb3'.block _ (by omega), hW2, HNEW.out, HCS.out]⟩
  have hb4 : Below w.heap.size w w3 := hb2.trans (hb3'.mono (by omega))
  have hk4 := HK.out.low hb4 hsz
  have hs3 : w.heap.size + 1 + 1 ≤ w3.heap.size := by have := hb3'.size; omega
  have HR3 := Lib.hid hr3
  have HI3 := Lib.hid hi3
  have HK4 := Lib.hid hk4
  clear hW2 hs2 hb2 hr2 hb3' hr3 hi3 hk4 hst hc0 hc73 hinfo hzs hzv hwl hlt
  go_wp2_with fail
  refine (write_any ⟨(Sm.pad t.length).toArray⟩ HI3.out HK4.out (by omega) (by omega) (by have h := Sm.pad_length t.length; have e : (ByteArray.mk (Sm.pad t.length).toArray).size = (Sm.pad t.length).length := rfl; omega)).mono ?_
  rintro e w5 ⟨rfl, hg5, hi5⟩
  obtain ⟨wt5, hwl5, hwt5, ha5⟩ := hi5
  have HA5 := Lib.hid ha5
  have hr5 : w5.heap[w.heap.size]? = some (.cells (Sm.rowB 32 []) 36 (0, 0)) := (hg5.block _ (Sm.lt_of HR3.out) (by intro e; have := Option.some.inj e; omega)).trans HR3.out
  have HR5 := Lib.hid hr5
  have hb5 : Below w.heap.size w w5 := hb4.trans (Sm.grown_from hg5 (by omega) (by omega))
  have hs5 := Nat.le_trans hs3 hg5.size
  clear ha5 hr5 hg5 hb4 hs3 hwt5
  go_wp2_with fail
  have g1 := Sm.heap_row32 w5
  have g2 : Below w5.heap.size w5 (w5.alloc (.cells (Sm.rowB 32 []) 36)) := (Below.refl _ w5).alloc (Nat.le_refl _) _
  change Code.wp _ _ _ _ (w5.alloc (.cells (Sm.rowB 32 []) 36))
  generalize w5.alloc (.cells (Sm.rowB 32 []) 36) = W6 at *
  have hva := Sm.st_ok (t ++ Sm.pad t.length)
  have HSUM : Hid (Sm.sum t = Sm.outN (Sm.st (t ++ Sm.pad t.length)).l) := rfl
  have HA7 : Hid (Sm.At w5 (w.heap.size + 1) true (Sm.st (t ++ Sm.pad t.length)) wt5 (t ++ Sm.pad t.length).length) := HA5.out
  generalize Sm.st (t ++ Sm.pad t.length) = v5 at *
  generalize (t ++ Sm.pad t.length).length = n5 at *
  clear HA5
  obtain ⟨N1, hN1⟩ : ∃ N, N = w.heap.size + 1 := ⟨_, rfl⟩
  rw [← hN1] at HA7 ⊢
  obtain ⟨N5, hN5⟩ : ∃ N, N = w5.heap.size := ⟨_, rfl⟩
  rw [← hN5] at g1 g2 hs5 ⊢
  have hne15 : N1 ≠ N5 := by omega
  have HN1 := Lib.hid hN1
  have HN5 := Lib.hid hN5
  clear hN1 hN5
  go_loopw [25] (fun i wr => ∃ k : Nat, k ≤ 32 ∧ i = .int .i64 k ∧ wr.heap[N5]? = some (.cells (Sm.rowB 32 ((List.range k).map (Sm.outB v5.l))) 36 (0, 0)) ∧ Below N5 w5 wr) (fun i _ => 32 - (intOf i).toNat)
  case atStart => exact ⟨0, by omega, rfl, g1, g2⟩
  case round =>
    clear g1 g2
    obtain ⟨k, hk, rfl, hrow, hbk⟩ := hrel
    have HR := Lib.hid hrow
    clear hrow
    have haw : Sm.At wr N1 true v5 wt5 n5 := HA7.out.low (by rw [← HN5.out]; exact hbk)
    by_cases hlt : k < 32
    · have cw := haw.word (k / 4) (by omega)
      obtain ⟨old, hold⟩ := Sm.rowB_some (n := 32) (l := (List.range k).map (Sm.outB v5.l)) k (by simp; omega) hlt
      have hold := Sm.cells_of HR.out k old hold
      have hfz := Sm.free_of HR.out k
      have hx : Hid (Sm.outB v5.l k = UInt8.ofNat (v5.l.getD (k / 4) 0 / 2 ^ (24 - k % 4 * 8))) := rfl
      clear haw
      generalize v5.l.getD (k / 4) 0 = x at *
      have hX : ((x : Int) / 2 ^ (24 - k % 4 * 8) % 256) = ((UInt8.ofNat (x / 2 ^ (24 - k % 4 * 8))).toNat : Int) := by
        rw [UInt8.toNat_ofNat']; push_cast; rfl
      have HX := Lib.hid hX
      have hk4 : 0 ≤ 24 - (k : Int) % 4 * 8 := by omega
      clear hX
      go_wp2
      go_roundw
      case rel =>
        refine ⟨k + 1, by omega, by go_num, ?_, ?_⟩
        · have e := Sm.rowB_set (n := 32) (l := (List.range k).map (Sm.outB v5.l)) (by simp; omega) (Sm.outB v5.l k)
          rw [List.length_map, List.length_range] at e
          rw [HX.out, Sm.range_snoc, ← e, hx.out]
          exact Sm.heap_set HR.out k _
        · exact hbk.setCell (p := ⟨N5, k, none⟩) (Nat.le_refl _) _
      case measure => simp [intOf]; omega
    · obtain rfl : k = 32 := by omega
      have hlen32 : ((List.range 32).map (Sm.outB v5.l)).length = 32 := by simp
      have hfull := Sm.rowB_full (n := 32) hlen32
      have hr : wr.heap[N5]? = some (.cells (Lib.byteCells (Sm.sum t)).toArray 36 (0, 0)) := by rw [HR.out, hfull, HSUM.out, Sm.outN_eq]
      have hsz32 : (Lib.byteCells (Sm.sum t)).toArray.size = 32 := by simp [Lib.byteCells, Sm.sum_length]
      have hr0 : wr.heap[w.heap.size]? = some (.cells (Sm.rowB 32 []) 36 (0, 0)) := (hbk.block _ (by omega)).trans HR5.out
      have HR8 := Lib.hid hr
      have HR0 := Lib.hid hr0
      have hone := Sm.bytes_one (Sm.sum t)
      have hz32 : (Sm.rowB 32 []).size = (Lib.byteCells (Sm.sum t)).toArray.size := by rw [hsz32]; exact Sm.rowB_size (by simp)
      clear hr hr0 haw hfull hlen32
      obtain ⟨cs2, hcs2⟩ : ∃ c, c = (Lib.byteCells (Sm.sum t)).toArray := ⟨_, rfl⟩
      rw [← hcs2] at HR8 hsz32 hone hz32
      have HC2 := Lib.hid hcs2
      clear hcs2
      go_wp2_with (first | (with_reducible refine wpList_load_row rfl 36 (.tmp 4) rfl N5 rfl 36 cs2 (0, 0) _ (by exact HR8.out) Tryz.underlying36 rfl (Sm.infoHash hsz32) ?_) | (with_reducible refine wpList_store_row rfl 36 (.tmp 2) (.tmp 42) rfl w.heap.size cs2 rfl rfl 36 _ (by exact HR0.out) (Sm.infoHash hsz32) hz32 hone ?_))
      exact bodyPost_ret (v := .agg cs2) (results_cell_row rfl _ _ w.heap.size 36 _ (0, 0) _ rfl (setRow_heap _ w.heap.size _ _ _ _ HR0.out) Tryz.underlying36 rfl (Sm.infoHash hsz32)) rfl ⟨by rw [HC2.out], Sm.below_setRow (hb5.trans (hbk.mono (by omega))) (Nat.le_refl _) _⟩
end Go.Proofs.YtiehcplepneajaaGreatDoor

/-
  What Sum of a text and Digits do.
-/
namespace Go.Proofs.YtiehcplepneajaaGreatDoor
open Go.RowKit

set_option maxRecDepth 100000 in
set_option maxHeartbeats 2000000 in
theorem sum_any (s : ByteArray) {w : World} (hH : Sm.HAt w) (hK : Sm.KAt w) (hsz : 1 < w.heap.size) (hlen : s.size ≤ 1152921504606846976) :
    Calls Tryz.prog 79 #[.string s] w fun e w' => e = .returned (.agg (Lib.byteCells (Sm.sum s.data.toList)).toArray) ∧ Below w.heap.size w w' := by
  have HH := Lib.hid hH
  have HK := Lib.hid hK
  clear hH hK
  have hb1 : Below w.heap.size w (w.alloc (.cells (Sm.rowB 32 []) 36)) := (Below.refl _ w).alloc (Nat.le_refl _) _
  have hr1 := Sm.heap_row32 w
  have hh1 := HH.out.low hb1 (by omega)
  have hk1 := HK.out.low hb1 hsz
  have hs1 : (w.alloc (.cells (Sm.rowB 32 []) 36)).heap.size = w.heap.size + 1 := by simp
  go_enter Tryz.func79, Tryz.ntmps79
  go_wp2_with fail
  change Calls _ _ _ (w.alloc (.cells (Sm.rowB 32 []) 36)) _
  generalize w.alloc (.cells (Sm.rowB 32 []) 36) = W1 at *
  refine (new_any W1 hh1).mono ?_
  rintro e w1 ⟨rfl, rfl⟩
  have hb2 : Below W1.heap.size W1 (W1.alloc Sm.fresh) := (Below.refl _ W1).alloc (Nat.le_refl _) _
  have hi2 := Sm.is_new W1
  have hr2 := (hb2.block w.heap.size (by omega)).trans hr1
  have hb2w : Below w.heap.size w (W1.alloc Sm.fresh) := hb1.trans (hb2.mono (by omega))
  have hs2 : (W1.alloc Sm.fresh).heap.size = w.heap.size + 2 := by simp; omega
  generalize W1.alloc Sm.fresh = W2 at *
  rw [hs1] at hi2 ⊢
  have hk2 := HK.out.low hb2w hsz
  have HI2 := Lib.hid hi2
  have HK2 := Lib.hid hk2
  have HR2 := Lib.hid hr2
  clear hi2 hk2 hr2 hr1 hb1 hb2 hh1 hk1 hs1
  go_wp2_with fail
  refine (write_any s HI2.out HK2.out (by omega) (by omega) (by simp; omega)).mono ?_
  rintro e w3 ⟨rfl, hg3, hi3⟩
  have hs3 := hg3.size
  have hr3 := (hg3.block w.heap.size (by omega) (by intro e; have := Option.some.inj e; omega)).trans HR2.out
  have hb3w : Below w.heap.size w w3 := hb2w.trans (Sm.grown_from hg3 (by omega) (by omega))
  have hk3 := HK.out.low hb3w hsz
  rw [List.nil_append] at hi3
  have HI3 := Lib.hid hi3
  have HK3 := Lib.hid hk3
  have HR3 := Lib.hid hr3
  clear hi3 hk3 hr3 hg3
  go_wp2_with fail
  refine (xsum_any HI3.out HK3.out (by exact hlen) (by omega)).mono ?_
  rintro e w4 ⟨rfl, hb4⟩
  have hr4 : w4.heap[w.heap.size]? = some (.cells (Sm.rowB 32 []) 36 (0, 0)) := (hb4.block _ (by omega)).trans HR3.out
  have HR4 := Lib.hid hr4
  have hsz32 : (Lib.byteCells (Sm.sum s.data.toList)).toArray.size = 32 := by simp [Lib.byteCells, Sm.sum_length]
  have hone := Sm.bytes_one (Sm.sum s.data.toList)
  have hz32 : (Sm.rowB 32 []).size = (Lib.byteCells (Sm.sum s.data.toList)).toArray.size := by rw [hsz32]; exact Sm.rowB_size (by simp)
  obtain ⟨cs2, hcs2⟩ : ∃ c, c = (Lib.byteCells (Sm.sum s.data.toList)).toArray := ⟨_, rfl⟩
  rw [← hcs2] at hsz32 hone hz32 ⊢
  have HC2 := Lib.hid hcs2
  clear hcs2 hr4
  go_wp2_with (with_reducible refine wpList_store_row rfl 36 (.tmp 2) (.tmp 9) rfl w.heap.size cs2 rfl rfl 36 _ (by exact HR4.out) (Sm.infoHash hsz32) hz32 hone ?_)
  exact bodyPost_ret (v := .agg cs2) (results_cell_row rfl _ _ w.heap.size 36 _ (0, 0) _ rfl (setRow_heap _ w.heap.size _ _ _ _ HR4.out) Tryz.underlying36 rfl (Sm.infoHash hsz32)) rfl ⟨by rw [HC2.out], Sm.below_setRow (hb3w.trans (hb4.mono (by omega))) (Nat.le_refl _) _⟩
end Go.Proofs.YtiehcplepneajaaGreatDoor

/-
  What Digits does: a hash as digits.
-/
namespace Go.Proofs.YtiehcplepneajaaGreatDoor
open Go.RowKit
namespace Sm
def hexes : ByteArray := ⟨#[48, 49, 50, 51, 52, 53, 54, 55, 56, 57, 97, 98, 99, 100, 101, 102]⟩
theorem hex_at (k : IntKind) (i : Nat) (h : i < 16) (w : World) : (Instr.index 9 (.string ⟨#[48, 49, 50, 51, 52, 53, 54, 55, 56, 57, 97, 98, 99, 100, 101, 102]⟩) (.int k (i : Int))).run Tryz.prog w = .ok (.int .u8 (digit i).toNat) w := by
  obtain rfl | rfl | rfl | rfl | rfl | rfl | rfl | rfl | rfl | rfl | rfl | rfl | rfl | rfl | rfl | rfl : i = 0 ∨ i = 1 ∨ i = 2 ∨ i = 3 ∨ i = 4 ∨ i = 5 ∨ i = 6 ∨ i = 7 ∨ i = 8 ∨ i = 9 ∨ i = 10 ∨ i = 11 ∨ i = 12 ∨ i = 13 ∨ i = 14 ∨ i = 15 := by omega
  all_goals kernel_rfl
theorem hash_at (l : List UInt8) (hl : l.length = 32) (k : Nat) (hk : k < 32) (w : World) : (Instr.index 36 (.agg (Lib.byteCells l).toArray) (.int .i64 (k : Int))).run Tryz.prog w = .ok (.int .u8 (l.getD k 0).toNat) w := by
  have hs : (sizeOf 5).run Tryz.prog w = .ok 1 w := by kernel_rfl
  have hc : (Lib.byteCells l)[k]? = some (.int .u8 (l.getD k 0).toNat) := byteCells_get (by omega)
  have hp : (part 5 (Lib.byteCells l).toArray k).run Tryz.prog w = .ok (.int .u8 (l.getD k 0).toNat) w := by
    have ha : (isAgg 5).run Tryz.prog w = .ok false w := by kernel_rfl
    simp [part, ha, hc]
  simp [Instr.index, run_underlying Tryz.underlying36, asIntOf, hs, hk]
  simpa using hp
theorem two_new (W : World) (a b : Value) (t : TypeId) : ∀ j u, [a, b][j]? = some u → (W.alloc (.cells #[a, b] t)).cell? ((⟨W.heap.size, 0, none⟩ : Addr).add j) = some u := fun j u hj => by
  have h := heap_alloc_new W (.cells #[a, b] t)
  rw [Addr.add_mid]
  match j, hj with
  | 0, hj => simp at hj; subst hj; exact cells_of h 0 _ rfl
  | 1, hj => simp at hj; subst hj; exact cells_of h 1 _ rfl
theorem two_one (x y : Int) : ∀ u ∈ [Value.int .u8 x, Value.int .u8 y], u.oneCell' = true := fun u hu => by
  simp at hu; rcases hu with rfl | rfl <;> rfl
theorem digits_snoc (l : List UInt8) (c : UInt8) : digits (l ++ [c]) = digits l ++ [digit (c.toNat / 16), digit (c.toNat % 16)] := by
  induction l with
  | nil => rfl
  | cons a l ih => simp [digits, ih]
theorem digits_length (l : List UInt8) : (digits l).length = 2 * l.length := by
  induction l with
  | nil => rfl
  | cons a l ih => simp [digits, ih]; omega
end Sm

end Go.Proofs.YtiehcplepneajaaGreatDoor

/-
  What awake, Len, Twin do.
-/
namespace Go.Proofs.YtiehcplepneajaaGreatDoor
open Go.RowKit
namespace Sm
theorem sum_abc : digits (sum [97, 98, 99]) = [98, 97, 55, 56, 49, 54, 98, 102, 56, 102, 48, 49, 99, 102, 101, 97, 52, 49, 52, 49, 52, 48, 100, 101, 53, 100, 97, 101, 50, 50, 50, 51, 98, 48, 48, 51, 54, 49, 97, 51, 57, 54, 49, 55, 55, 97, 57, 99, 98, 52, 49, 48, 102, 102, 54, 49, 102, 50, 48, 48, 49, 53, 97, 100] := by decide +kernel
/-- Two hashes, compared. -/
theorem eq_hash (l l' : List UInt8) (h : l.length = 32) (h' : l'.length = 32) (w : World) :
    (Op.equalIn 10000 36 (.agg (Lib.byteCells l).toArray) (.agg (Lib.byteCells l').toArray)).run Tryz.prog w = .ok (l == l') w := eq_row 32 Tryz.underlying36 l l' h h' w
end Sm
theorem ret_str {a b : ByteArray} (h : a = b) : Ending.returned (.string a) = .returned (.string b) := by rw [h]

end Go.Proofs.YtiehcplepneajaaGreatDoor

/-
  Small facts on worlds that a law's walk chains.
-/
namespace Go.Proofs.YtiehcplepneajaaGreatDoor
open Go.RowKit
namespace Sm
theorem grown_low {w w1 w2 : World} {B b : Nat} (k : Below B w w1) (hB : B ≤ w.heap.size) (h : w1.grownBy w2 (some b)) (hb : B ≤ b) : Below B w w2 := k.trans (grown_from h hb (Nat.le_trans hB k.size))
end Sm
theorem append_data (a b : ByteArray) : (a ++ b).data.toList = a.data.toList ++ b.data.toList := by
  rw [ByteArray.data_append]; simp
theorem append_size (a b : ByteArray) : (a ++ b).size = a.size + b.size := by
  simp
end Go.Proofs.YtiehcplepneajaaGreatDoor
