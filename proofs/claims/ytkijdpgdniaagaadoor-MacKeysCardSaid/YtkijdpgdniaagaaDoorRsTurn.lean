/-
  What the document's turn does: the words behind a block.
-/
import Derived.Test.YtkijdpgdniaagaaDoorRsR19
import Derived.Deep.RegionHeld3
namespace Go.Proofs.YtkijdpgdniaagaaDoor
open Go.RowKit
namespace Sm
theorem nums_one (l : List Nat) : (nums l).toArray.all (·.oneCell') = true := by
  rw [Array.all_eq_true_iff_forall_mem]
  intro v hv
  obtain ⟨x, _, rfl⟩ := List.mem_map.1 (by simpa [nums] using hv : v ∈ nums l)
  rfl
theorem nums_set (z : V) (j x : Nat) (hj : j < 8) : (nums z.l).toArray.setIfInBounds j (.int .u32 (x : Nat)) = (nums (V.of (z.l.set j x)).l).toArray := by
  obtain rfl | rfl | rfl | rfl | rfl | rfl | rfl | rfl : j = 0 ∨ j = 1 ∨ j = 2 ∨ j = 3 ∨ j = 4 ∨ j = 5 ∨ j = 6 ∨ j = 7 := by omega
  all_goals rfl
theorem w_t1c {u : V} (h : u.Ok) (k w : Nat) :
    IntKind.u32.wrap (IntKind.u32.wrap (IntKind.u32.wrap (IntKind.u32.wrap ((u.h : Int) + bits .xor .u32 (bits .xor .u32 (rot u.e 6 : Nat) (rot u.e 11 : Nat)) (rot u.e 25 : Nat)) + bits .xor .u32 (bits .and .u32 (u.e : Int) u.f) (bits .and .u32 (bits .xor .u32 4294967295 (u.e : Int)) u.g)) + k) + w) = (t1 u k w : Nat) := by
  rw [show (4294967295 : Int) = IntKind.u32.max from rfl, w_ch h.e h.f h.g, w_x3 (rot_lt h.e) (rot_lt h.e) (rot_lt h.e), IntKind.wrap_u32, IntKind.wrap_u32, IntKind.wrap_u32, IntKind.wrap_u32]
  unfold t1 add sum1
  omega
theorem w_mulb4 (a b c d : UInt8) : ((a.toNat : Int) * 16777216 + (b.toNat : Int) * 65536 + (c.toNat : Int) * 256 + (d.toNat : Int)) = (be4 a.toNat b.toNat c.toNat d.toNat : Nat) := by
  unfold be4; omega
end Sm

set_option maxRecDepth 100000 in
set_option maxHeartbeats 8000000 in
theorem rsturn_any (w : World) (v : Sm.V) (hv : v.Ok) (blk : List UInt8) (b o cap : Nat) (hb : b < w.heap.size) (hc : ∀ j, j < 64 → w.cell? ⟨b, o + j, none⟩ = some (.int .u8 (blk.getD j 0).toNat)) :
    Calls Tryd.prog 32 #[.agg (Sm.nums v.l).toArray, .agg (Sm.nums Sm.ks).toArray, .slice (some ⟨b, o, none⟩) 64 cap] w fun e w' => e = .returned (.agg (Sm.nums (Sm.turn v blk).l).toArray) ∧ Below w.heap.size w w' := by
  have HC := Lib.hid hc
  have HV := Lib.hid hv
  have hks : (Sm.nums Sm.ks).toArray.size = 64 := by rw [List.size_toArray, Sm.nums_length, Sm.ks_length]
  have hvs : (Sm.nums v.l).toArray.size = 8 := rfl
  clear hc hv
  obtain ⟨ca, hca⟩ : ∃ c, c = (Sm.nums v.l).toArray := ⟨_, rfl⟩
  obtain ⟨ck, hck⟩ : ∃ c, c = (Sm.nums Sm.ks).toArray := ⟨_, rfl⟩
  rw [← hca] at hvs ⊢
  rw [← hck] at hks ⊢
  have HCA := Lib.hid hca
  have HCK := Lib.hid hck
  clear hca hck
  go_enter Tryd.func32, Tryd.ntmps32
  have g1 : ((((w.alloc (.cells ca 54)).alloc (.cells ck 53)).alloc (.cells (Sm.rowOf 8 []) 54)).alloc (.cells (Sm.rowOf 64 []) 53)).heap[w.heap.size + 1 + 1 + 1]? = some (.cells (Sm.rowOf 64 []) 53 (0, 0)) := by
    have := heap_alloc_new (((w.alloc (.cells ca 54)).alloc (.cells ck 53)).alloc (.cells (Sm.rowOf 8 []) 54)) (.cells (Sm.rowOf 64 []) 53)
    simpa using this
  have g2 : ((((w.alloc (.cells ca 54)).alloc (.cells ck 53)).alloc (.cells (Sm.rowOf 8 []) 54)).alloc (.cells (Sm.rowOf 64 []) 53)).heap[w.heap.size + 1 + 1]? = some (.cells (Sm.rowOf 8 []) 54 (0, 0)) := by
    rw [Below.heap_alloc _ _ _ (by simp)]
    have := heap_alloc_new ((w.alloc (.cells ca 54)).alloc (.cells ck 53)) (.cells (Sm.rowOf 8 []) 54)
    simpa using this
  have g3 : ((((w.alloc (.cells ca 54)).alloc (.cells ck 53)).alloc (.cells (Sm.rowOf 8 []) 54)).alloc (.cells (Sm.rowOf 64 []) 53)).heap[w.heap.size + 1]? = some (.cells ck 53 (0, 0)) := by
    rw [Below.heap_alloc _ _ _ (by simp; try omega), Below.heap_alloc _ _ _ (by simp)]
    have := heap_alloc_new (w.alloc (.cells ca 54)) (.cells ck 53)
    simpa using this
  have g4 : ((((w.alloc (.cells ca 54)).alloc (.cells ck 53)).alloc (.cells (Sm.rowOf 8 []) 54)).alloc (.cells (Sm.rowOf 64 []) 53)).heap[w.heap.size]? = some (.cells ca 54 (0, 0)) := by
    rw [Below.heap_alloc _ _ _ (by simp; try omega), Below.heap_alloc _ _ _ (by simp; try omega), Below.heap_alloc _ _ _ (by simp)]
    exact heap_alloc_new w _
  have g5 : Below w.heap.size w ((((w.alloc (.cells ca 54)).alloc (.cells ck 53)).alloc (.cells (Sm.rowOf 8 []) 54)).alloc (.cells (Sm.rowOf 64 []) 53)) :=
    ((((Below.refl _ w).alloc (Nat.le_refl _) _).alloc (by simp) _).alloc (by simp; try omega) _).alloc (by simp; try omega) _
  go_wp2_with fail
  change Code.wp _ _ _ _ ((((w.alloc (.cells ca 54)).alloc (.cells ck 53)).alloc (.cells (Sm.rowOf 8 []) 54)).alloc (.cells (Sm.rowOf 64 []) 53))
  generalize (((w.alloc (.cells ca 54)).alloc (.cells ck 53)).alloc (.cells (Sm.rowOf 8 []) 54)).alloc (.cells (Sm.rowOf 64 []) 53) = W1 at *
  obtain ⟨N0, hN0⟩ : ∃ N, N = w.heap.size := ⟨_, rfl⟩
  obtain ⟨N1, hN1⟩ : ∃ N, N = w.heap.size + 1 := ⟨_, rfl⟩
  obtain ⟨N2, hN2⟩ : ∃ N, N = w.heap.size + 1 + 1 := ⟨_, rfl⟩
  obtain ⟨N3, hN3⟩ : ∃ N, N = w.heap.size + 1 + 1 + 1 := ⟨_, rfl⟩
  rw [← hN3] at g1 ⊢
  rw [← hN2] at g2 ⊢
  rw [← hN1] at g3 ⊢
  rw [← hN0] at g4 g5 hb ⊢
  have h01 : N0 < N1 := by omega
  have h12 : N1 < N2 := by omega
  have h23 : N2 < N3 := by omega
  have HN0 := Lib.hid hN0
  have G2 := Lib.hid g2
  have G3 := Lib.hid g3
  have G4 := Lib.hid g4
  have hs1 : N3 < W1.heap.size := Sm.lt_of g1
  have hcw : ∀ j, j < 64 → W1.cell? ⟨b, o + j, none⟩ = some (.int .u8 (blk.getD j 0).toNat) := fun j hj => (g5.cell (p := ⟨b, o + j, none⟩) hb).trans (HC.out j hj)
  have HCW := Lib.hid hcw
  clear hN0 hN1 hN2 hN3 g2 g3 g4 hcw HC
  have hne : b ≠ N3 := by omega
  have hbs : b < N3 := by omega
  go_loopw [8] (fun i wr => ∃ k : Nat, k ≤ 16 ∧ i = .int .i64 k ∧ wr.heap[N3]? = some (.cells (Sm.rowOf 64 ((List.range k).map (Sm.word blk))) 53 (0, 0)) ∧ Below N3 W1 wr) (fun i _ => 16 - (intOf i).toNat)
  case atStart => exact ⟨0, by omega, rfl, g1, Below.refl _ _⟩
  case round =>
    obtain ⟨k, hk, rfl, hrow, hbk⟩ := hrel
    have HR := Lib.hid hrow
    clear hrow g1
    by_cases hlt : k < 16
    · have c0 : wr.cell? ⟨b, o + 4 * k, none⟩ = some (.int .u8 (blk.getD (4 * k) 0).toNat) := (hbk.cell (p := ⟨b, o + 4 * k, none⟩) hbs).trans (HCW.out (4 * k) (by omega))
      have c1 : wr.cell? ⟨b, o + (4 * k + 1), none⟩ = some (.int .u8 (blk.getD (4 * k + 1) 0).toNat) := (hbk.cell (p := ⟨b, o + (4 * k + 1), none⟩) hbs).trans (HCW.out (4 * k + 1) (by omega))
      have c2 : wr.cell? ⟨b, o + (4 * k + 2), none⟩ = some (.int .u8 (blk.getD (4 * k + 2) 0).toNat) := (hbk.cell (p := ⟨b, o + (4 * k + 2), none⟩) hbs).trans (HCW.out (4 * k + 2) (by omega))
      have c3 : wr.cell? ⟨b, o + (4 * k + 3), none⟩ = some (.int .u8 (blk.getD (4 * k + 3) 0).toNat) := (hbk.cell (p := ⟨b, o + (4 * k + 3), none⟩) hbs).trans (HCW.out (4 * k + 3) (by omega))
      have fz := Sm.free_of HR.out k
      obtain ⟨old, hold⟩ := Sm.rowOf_some (n := 64) (l := (List.range k).map (Sm.word blk)) k (by simp; try omega) (by omega)
      have hold := Sm.cells_of HR.out k old hold
      have b0 := byte_fits (blk.getD (4 * k) 0)
      have b1 := byte_fits (blk.getD (4 * k + 1) 0)
      have b2 := byte_fits (blk.getD (4 * k + 2) 0)
      have b3 := byte_fits (blk.getD (4 * k + 3) 0)
      generalize hx0 : blk.getD (4 * k) 0 = x0 at *
      generalize hx1 : blk.getD (4 * k + 1) 0 = x1 at *
      generalize hx2 : blk.getD (4 * k + 2) 0 = x2 at *
      generalize hx3 : blk.getD (4 * k + 3) 0 = x3 at *
      have HX0 := Lib.hid hx0
      have HX1 := Lib.hid hx1
      have HX2 := Lib.hid hx2
      have HX3 := Lib.hid hx3
      clear hx0 hx1 hx2 hx3
      go_wp2
      go_region
      all_goals go_wp2
      go_roundw
      case rel =>
        refine ⟨k + 1, by omega, by go_num, ?_, (hbk.setCell (p := ⟨N3, k, none⟩) (Nat.le_refl _) _).drew⟩
        have h := Sm.heap_set HR.out k (.int .u32 (Sm.word blk k))
        have e := Sm.rowOf_set (n := 64) (l := (List.range k).map (Sm.word blk)) (by simp; omega) (Sm.word blk k)
        rw [List.length_map, List.length_range] at e
        rw [e, ← Sm.words_range] at h
        refine Eq.trans (congrArg (fun v => (wr.setCell ⟨N3, k, none⟩ (.int .u32 v)).heap[N3]?) ?_) h
        rw [Sm.word, HX0.out, HX1.out, HX2.out, HX3.out]
        exact Sm.w_mulb4 x0 x1 x2 x3
      case measure => simp [intOf]; omega
    · obtain rfl : k = 16 := by omega
      go_wp2
      rw [show ((16 : Nat) : Int) = 16 from rfl]
      obtain ⟨w1, hw1⟩ : ∃ w1, w1 = wr := ⟨_, rfl⟩
      rw [← hw1] at HR hbk ⊢
      clear hw1
      go_loopw [9] (fun i wq => ∃ j : Nat, 16 ≤ j ∧ j ≤ 64 ∧ i = .int .i64 j ∧ wq.heap[N3]? = some (.cells (Sm.rowOf 64 (Sm.words blk (j - 16))) 53 (0, 0)) ∧ Below N3 W1 wq) (fun i _ => 64 - (intOf i).toNat)
      case atStart => exact ⟨16, by omega, by omega, rfl, HR.out, hbk⟩
      case round =>
        clear HR hbk
        obtain ⟨j, hj1, hj2, rfl, hrow, hbk⟩ := hrel
        have HR := Lib.hid hrow
        clear hrow
        by_cases hlt : j < 64
        · have hlen : (Sm.words blk (j - 16)).length = j := by rw [Sm.words_length]; omega
          have hall := Sm.words_lt blk (j - 16)
          have q1 := Sm.cells_of HR.out (j - 15) _ (Sm.rowOf_get (by omega))
          have q2 := Sm.cells_of HR.out (j - 2) _ (Sm.rowOf_get (by omega))
          have q3 := Sm.cells_of HR.out (j - 16) _ (Sm.rowOf_get (by omega))
          have q4 := Sm.cells_of HR.out (j - 7) _ (Sm.rowOf_get (by omega))
          obtain ⟨old, hold⟩ := Sm.rowOf_some (n := 64) (l := Sm.words blk (j - 16)) j (by omega) hlt
          have hold := Sm.cells_of HR.out j old hold
          have fz := Sm.free_of HR.out j
          have HLEN := Lib.hid hlen
          obtain ⟨L, hL⟩ : ∃ L, L = Sm.words blk (j - 16) := ⟨_, rfl⟩
          rw [← hL] at q1 q2 q3 q4 hall
          have l1 := Sm.getD_lt hall (j - 15)
          have l2 := Sm.getD_lt hall (j - 2)
          have l3 := Sm.getD_lt hall (j - 16)
          have l4 := Sm.getD_lt hall (j - 7)
          have hnx : Sm.next L = Sm.add (Sm.add (Sm.add (L.getD (j - 16) 0) (Sm.s0 (L.getD (j - 15) 0))) (L.getD (j - 7) 0)) (Sm.s1 (L.getD (j - 2) 0)) := by
            unfold Sm.next; rw [hL, HLEN.out]
          have HL := Lib.hid hL
          have HNX := Lib.hid hnx
          clear hL hlen hall hnx
          generalize L.getD (j - 15) 0 = x1 at *
          generalize L.getD (j - 2) 0 = x2 at *
          generalize L.getD (j - 16) 0 = x3 at *
          generalize L.getD (j - 7) 0 = x4 at *
          have R1 : Hid (∀ wx : World, Calls Tryd.prog 46 #[.int .u32 (x1 : Nat), .int .u64 7] wx fun e w' => e = .returned (.int .u32 (Sm.rot x1 7 : Nat)) ∧ wx = w') := fun wx => rsrot_any x1 7 l1 (by decide) (by decide) wx
          have R2 : Hid (∀ wx : World, Calls Tryd.prog 46 #[.int .u32 (x1 : Nat), .int .u64 18] wx fun e w' => e = .returned (.int .u32 (Sm.rot x1 18 : Nat)) ∧ wx = w') := fun wx => rsrot_any x1 18 l1 (by decide) (by decide) wx
          have R3 : Hid (∀ wx : World, Calls Tryd.prog 46 #[.int .u32 (x2 : Nat), .int .u64 17] wx fun e w' => e = .returned (.int .u32 (Sm.rot x2 17 : Nat)) ∧ wx = w') := fun wx => rsrot_any x2 17 l2 (by decide) (by decide) wx
          have R4 : Hid (∀ wx : World, Calls Tryd.prog 46 #[.int .u32 (x2 : Nat), .int .u64 19] wx fun e w' => e = .returned (.int .u32 (Sm.rot x2 19 : Nat)) ∧ wx = w') := fun wx => rsrot_any x2 19 l2 (by decide) (by decide) wx
          have sA : Hid (∀ v : Value, (wr.drew.setCell ⟨N3, j, none⟩ v).cell? ⟨N3, j - 16, none⟩ = some (.int .u32 x3)) := fun v =>
            (World.cell?_setCell_other wr.drew ⟨N3, j, none⟩ ⟨N3, j - 16, none⟩ v (by intro e; injection e with _ e2; omega)).trans q3
          have sB : Hid (∀ v : Value, (wr.drew.setCell ⟨N3, j, none⟩ v).cell? ⟨N3, j - 7, none⟩ = some (.int .u32 x4)) := fun v =>
            (World.cell?_setCell_other wr.drew ⟨N3, j, none⟩ ⟨N3, j - 7, none⟩ v (by intro e; injection e with _ e2; omega)).trans q4
          have Q3 := Lib.hid q3
          have Q4 := Lib.hid q4
          go_upto_region 11 with (fail)
          have i1 : (16 : Int) ≤ j := by omega
          have i2 : (0 : Int) ≤ (j : Int) - 16 := by omega
          have i3 : (j : Int) - 16 < 64 := by omega
          have i4 : ((j : Int) - 16).toNat = j - 16 := by omega
          have i5 : (7 : Int) ≤ j := by omega
          have i6 : (0 : Int) ≤ (j : Int) - 7 := by omega
          have i7 : (j : Int) - 7 < 64 := by omega
          have i8 : ((j : Int) - 7).toNat = j - 7 := by omega
          have i9 : (0 : Int) ≤ (j : Int) := by omega
          have i10 : (j : Int) < 64 := by omega
          have i11 : IntKind.i64.wrap ((j : Int) - 16) = (j : Int) - 16 := by rw [IntKind.wrap_i64]; omega
          have i12 : IntKind.i64.wrap ((j : Int) - 7) = (j : Int) - 7 := by rw [IntKind.wrap_i64]; omega
          go_region_held3 (fun w' => w'.cell? ⟨N3, j - 16, none⟩ = some (.int .u32 x3) ∧ w'.cell? ⟨N3, j - 7, none⟩ = some (.int .u32 x4))
            (first | exact ⟨Q3.out, Q4.out⟩ | exact ⟨sA.out _, sB.out _⟩)
            ((first
              | (go_at_call 46; (with_reducible refine (R1.out _).mono ?_); rintro e w' ⟨rfl, rfl⟩)
              | (go_at_call 46; (with_reducible refine (R2.out _).mono ?_); rintro e w' ⟨rfl, rfl⟩)
              | (go_at_call 46; (with_reducible refine (R3.out _).mono ?_); rintro e w' ⟨rfl, rfl⟩)
              | (go_at_call 46; (with_reducible refine (R4.out _).mono ?_); rintro e w' ⟨rfl, rfl⟩)))
          all_goals go_wp2
          go_roundw
          case rel =>
            refine ⟨j + 1, by omega, by omega, by go_num, ?_, (hbk.setCell (p := ⟨N3, j, none⟩) (Nat.le_refl _) _).drew⟩
            have h := Sm.heap_set HR.out j (.int .u32 (Sm.next L : Nat))
            have e := Sm.rowOf_set (n := 64) (l := Sm.words blk (j - 16)) (by rw [HLEN.out]; exact hlt) (Sm.next L)
            rw [HLEN.out] at e
            rw [e] at h
            have e2 : Sm.words blk (j + 1 - 16) = Sm.words blk (j - 16) ++ [Sm.next L] := by
              rw [show j + 1 - 16 = (j - 16) + 1 by omega, HL.out]; rfl
            rw [e2]
            refine Eq.trans (congrArg (fun v => (wr.setCell ⟨N3, j, none⟩ (.int .u32 v)).heap[N3]?) ?_) h
            rw [HNX.out, Sm.w_s0 l1, Sm.w_s1 l2]
            unfold Sm.add
            omega
          case measure => simp [intOf]; omega
        · obtain rfl : j = 64 := by omega
          have hlw : (Sm.words blk 48).length = 64 := by rw [Sm.words_length]
          have hfull := Sm.rowOf_full (n := 64) (l := Sm.words blk 48) hlw
          have hr : wr.heap[N3]? = some (.cells (Sm.rowOf 64 (Sm.words blk 48)) 53 (0, 0)) := HR.out
          rw [hfull] at hr
          have HRW := Lib.hid hr
          have R4 := Lib.hid ((hbk.block N0 (by omega)).trans G4.out)
          have R3 := Lib.hid ((hbk.block N1 (by omega)).trans G3.out)
          have R2 := Lib.hid ((hbk.block N2 (by omega)).trans G2.out)
          have bk : Below N0 w wr := g5.trans (hbk.mono (by omega))
          have hsw : N3 < wr.heap.size := Nat.lt_of_lt_of_le hs1 hbk.size
          clear hfull hr HR hbk g5 HCW
          obtain ⟨w2, hw2⟩ : ∃ w2, w2 = wr := ⟨_, rfl⟩
          rw [← hw2] at HRW R2 R3 R4 bk hsw ⊢
          clear hw2
          have hvone : ca.all (·.oneCell') = true := by rw [HCA.out]; exact Sm.nums_one _
          have hst : ∀ (c : Array Value), c.size = 8 → (storeCells ⟨w2.heap.size, 0, none⟩ ca.toList).run Tryd.prog (w2.alloc (.cells c 54)) = .ok () (w2.alloc (.cells ca 54)) := fun c hc =>
            run_storeCells_new (P := Tryd.prog) w2 54 c _ (Sm.info8 hvs) (by rw [hvs]; exact hc) hvone
          have q1 := heap_alloc_new w2 (.cells ca 54)
          have q2 : (w2.alloc (.cells ca 54)).heap[N0]? = some (.cells ca 54 (0, 0)) := by rw [Below.heap_alloc _ _ _ (by omega)]; exact R4.out
          have q3 : (w2.alloc (.cells ca 54)).heap[N1]? = some (.cells ck 53 (0, 0)) := by rw [Below.heap_alloc _ _ _ (by omega)]; exact R3.out
          have q4 : (w2.alloc (.cells ca 54)).heap[N2]? = some (.cells (Sm.rowOf 8 []) 54 (0, 0)) := by rw [Below.heap_alloc _ _ _ (by omega)]; exact R2.out
          have q5 : (w2.alloc (.cells ca 54)).heap[N3]? = some (.cells (Sm.nums (Sm.words blk 48)).toArray 53 (0, 0)) := by rw [Below.heap_alloc _ _ _ (by omega)]; exact HRW.out
          have b2 : Below N0 w (w2.alloc (.cells ca 54)) := bk.alloc (by omega) _
          have RA := Lib.hid R4.out
          clear R2 R3 R4 HRW bk
          go_wp2_with (with_reducible refine wpList_load_row rfl 54 (.tmp 3) rfl N0 rfl 54 ca (0, 0) _ (by exact RA.out) Tryd.underlying54 rfl (Sm.info8 hvs) ?_)
          clear hst RA
          generalize w2.alloc (.cells ca 54) = W3 at *
          obtain ⟨N4, hN4⟩ : ∃ N, N = w2.heap.size := ⟨_, rfl⟩
          rw [← hN4] at q1 hsw ⊢
          have hs4 : N4 < W3.heap.size := Sm.lt_of q1
          rw [HCA.out] at q1
          have Q2 := Lib.hid q2
          have Q3 := Lib.hid q3
          have Q4 := Lib.hid q4
          have Q5 := Lib.hid q5
          clear q2 q3 q4 q5 hN4
          go_loopw [13] (fun i wr => ∃ k : Nat, k ≤ 64 ∧ i = .int .i64 k ∧ wr.heap[N4]? = some (.cells (Sm.nums (Sm.rounds v Sm.ks (Sm.words blk 48) k).l).toArray 54 (0, 0)) ∧ Below N4 W3 wr) (fun i _ => 64 - (intOf i).toNat)
          case atStart => exact ⟨0, by omega, rfl, q1, Below.refl _ _⟩
          case round =>
            clear q1
            obtain ⟨k, hk, rfl, hrow, hbk⟩ := hrel
            have HR := Lib.hid hrow
            clear hrow
            by_cases hlt : k < 64
            · have hok := Sm.rounds_ok HV.out Sm.ks (Sm.words blk 48) k
              have HRD : Hid (Sm.rounds v Sm.ks (Sm.words blk 48) (k + 1) = Sm.round (Sm.rounds v Sm.ks (Sm.words blk 48) k) (Sm.ks.getD k 0) ((Sm.words blk 48).getD k 0)) := rfl
              generalize Sm.rounds v Sm.ks (Sm.words blk 48) k = u at *
              have hck : wr.cell? ⟨N1, k, none⟩ = some (.int .u32 (Sm.ks.getD k 0 : Nat)) := by
                refine Sm.cells_of ((hbk.block N1 (by omega)).trans Q3.out) k _ ?_
                rw [HCK.out, List.getElem?_toArray]
                exact Sm.nums_get (by rw [Sm.ks_length]; exact hlt)
              have hcw : wr.cell? ⟨N3, k, none⟩ = some (.int .u32 ((Sm.words blk 48).getD k 0 : Nat)) := by
                refine Sm.cells_of ((hbk.block N3 (by omega)).trans Q5.out) k _ ?_
                rw [List.getElem?_toArray]
                exact Sm.nums_get (by rw [Sm.words_length]; exact hlt)
              have lk := Sm.getD_lt Sm.ks_lt k
              have lw := Sm.getD_lt (Sm.words_lt blk 48) k
              generalize Sm.ks.getD k 0 = xk at *
              generalize (Sm.words blk 48).getD k 0 = xw at *
              have a1 := Sm.cells_of HR.out 0 (.int .u32 u.a) rfl
              have a2 := Sm.cells_of HR.out 1 (.int .u32 u.b) rfl
              have a3 := Sm.cells_of HR.out 2 (.int .u32 u.c) rfl
              have a4 := Sm.cells_of HR.out 3 (.int .u32 u.d) rfl
              have a5 := Sm.cells_of HR.out 4 (.int .u32 u.e) rfl
              have a6 := Sm.cells_of HR.out 5 (.int .u32 u.f) rfl
              have a7 := Sm.cells_of HR.out 6 (.int .u32 u.g) rfl
              have a8 := Sm.cells_of HR.out 7 (.int .u32 u.h) rfl
              have R1 : Hid (∀ wx : World, Calls Tryd.prog 46 #[.int .u32 (u.e : Nat), .int .u64 6] wx fun e w' => e = .returned (.int .u32 (Sm.rot u.e 6 : Nat)) ∧ wx = w') := fun wx => rsrot_any u.e 6 hok.e (by decide) (by decide) wx
              have R2 : Hid (∀ wx : World, Calls Tryd.prog 46 #[.int .u32 (u.e : Nat), .int .u64 11] wx fun e w' => e = .returned (.int .u32 (Sm.rot u.e 11 : Nat)) ∧ wx = w') := fun wx => rsrot_any u.e 11 hok.e (by decide) (by decide) wx
              have R3 : Hid (∀ wx : World, Calls Tryd.prog 46 #[.int .u32 (u.e : Nat), .int .u64 25] wx fun e w' => e = .returned (.int .u32 (Sm.rot u.e 25 : Nat)) ∧ wx = w') := fun wx => rsrot_any u.e 25 hok.e (by decide) (by decide) wx
              have R4 : Hid (∀ wx : World, Calls Tryd.prog 46 #[.int .u32 (u.a : Nat), .int .u64 2] wx fun e w' => e = .returned (.int .u32 (Sm.rot u.a 2 : Nat)) ∧ wx = w') := fun wx => rsrot_any u.a 2 hok.a (by decide) (by decide) wx
              have R5 : Hid (∀ wx : World, Calls Tryd.prog 46 #[.int .u32 (u.a : Nat), .int .u64 13] wx fun e w' => e = .returned (.int .u32 (Sm.rot u.a 13 : Nat)) ∧ wx = w') := fun wx => rsrot_any u.a 13 hok.a (by decide) (by decide) wx
              have R6 : Hid (∀ wx : World, Calls Tryd.prog 46 #[.int .u32 (u.a : Nat), .int .u64 22] wx fun e w' => e = .returned (.int .u32 (Sm.rot u.a 22 : Nat)) ∧ wx = w') := fun wx => rsrot_any u.a 22 hok.a (by decide) (by decide) wx
              have HOK := Lib.hid hok
              have hk0 : (k : Int) < 64 := by omega
              have hsg : IntKind.u32.signed = false := rfl
              clear hok
              go_wp2_with fail
              go_quiet (fail)
              generalize hwx : wr.drewN _ = wx
              have HA2 : Hid (wx.heap[N4]? = some (.cells (Sm.nums u.l).toArray 54 (0, 0))) := by rw [← hwx]; exact HR.out
              have b8 : wx.cell? ⟨N4, 7, none⟩ = some (.int .u32 u.h) := by rw [← hwx]; exact a8
              have b4 : wx.cell? ⟨N4, 3, none⟩ = some (.int .u32 u.d) := by rw [← hwx]; exact a4
              have bk : wx.cell? ⟨N1, k, none⟩ = some (.int .u32 xk) := by rw [← hwx]; exact hck
              have bw : wx.cell? ⟨N3, k, none⟩ = some (.int .u32 xw) := by rw [← hwx]; exact hcw
              have hb2 : Below N4 W3 wx := by rw [← hwx]; exact Sm.below_drewN hbk _
              clear hwx a1 a2 a3 a4 a5 a6 a7 a8 hck hcw hbk HR
              go_wp2_with fail
              have C8 := Lib.hid b8
              have CK := Lib.hid bk
              have CW := Lib.hid bw
              have D4 := Lib.hid b4
              have B2 := Lib.hid hb2
              clear b8 bk bw b4 hb2
              go_region_held3 (fun w' => w'.cell? ⟨N4, 7, none⟩ = some (.int .u32 u.h) ∧ w'.cell? ⟨N1, k, none⟩ = some (.int .u32 xk) ∧ w'.cell? ⟨N3, k, none⟩ = some (.int .u32 xw))
                (exact ⟨C8.out, CK.out, CW.out⟩)
                ((first
                  | (go_at_call 46; (with_reducible refine (R1.out _).mono ?_); rintro e w' ⟨rfl, rfl⟩)
                  | (go_at_call 46; (with_reducible refine (R2.out _).mono ?_); rintro e w' ⟨rfl, rfl⟩)
                  | (go_at_call 46; (with_reducible refine (R3.out _).mono ?_); rintro e w' ⟨rfl, rfl⟩)))
              generalize hwy : wx.drew = wy
              have HA3 : Hid (wy.heap[N4]? = some (.cells (Sm.nums u.l).toArray 54 (0, 0))) := by rw [← hwy]; exact HA2.out
              have d4 : wy.cell? ⟨N4, 3, none⟩ = some (.int .u32 u.d) := by rw [← hwy]; exact D4.out
              have hb3 : Below N4 W3 wy := by rw [← hwy]; exact B2.out.drew
              clear hwy HA2 D4 B2 C8 CK CW
              rw [Sm.w_t1c HOK.out]
              obtain ⟨y1, hy1⟩ : ∃ y, y = Sm.t1 u xk xw := ⟨_, rfl⟩
              rw [← hy1]
              have HY1 := Lib.hid hy1
              clear hy1
              go_wp2_with fail
              refine (R4.out _).mono ?_
              rintro e w' ⟨rfl, rfl⟩
              go_wp2_with fail
              refine (R5.out _).mono ?_
              rintro e w' ⟨rfl, rfl⟩
              go_wp2_with fail
              refine (R6.out _).mono ?_
              rintro e w' ⟨rfl, rfl⟩
              go_upto_region 19 with (fail)
              rw [Sm.w_t2 HOK.out]
              obtain ⟨y2, hy2⟩ : ∃ y, y = Sm.t2 u := ⟨_, rfl⟩
              rw [← hy2]
              have HY2 := Lib.hid hy2
              clear hy2 R1 R2 R3 R4 R5 R6
              have hy1b : y1 < 4294967296 := by rw [HY1.out]; exact Sm.add_lt _ _
              have hy2b : y2 < 4294967296 := by rw [HY2.out]; exact Sm.add_lt _ _
              refine wp_then (r19_any _ hy1b hy2b HOK.out.d d4 (old := (Sm.nums u.l).toArray) rfl HA3 ?_)
              intro x168 x169 x170 x171 x172 x173 x174 x175 x176 x177 x178 x179 x180 x181
              have e1 : ((y1 : Int) + (y2 : Int)) % 4294967296 = (Sm.add y1 y2 : Nat) := by unfold Sm.add; omega
              have e2 : ((u.d : Int) + (y1 : Int)) % 4294967296 = (Sm.add u.d y1 : Nat) := by unfold Sm.add; omega
              rw [e1, e2]
              have hfin : (wy.setRow N4 (Sm.nums (Sm.round u xk xw).l).toArray).heap[N4]? = some (.cells (Sm.nums (Sm.round u xk xw).l).toArray 54 (0, 0)) := setRow_heap wy N4 _ _ _ _ HA3.out
              have hfb : Below N4 W3 (wy.setRow N4 (Sm.nums (Sm.round u xk xw).l).toArray) := Sm.below_setRow hb3 (Nat.le_refl _) _
              have hro : (Sm.nums (Sm.round u xk xw).l).toArray = #[Value.int .u32 (Sm.add y1 y2 : Nat), .int .u32 (u.a : Nat), .int .u32 (u.b : Nat), .int .u32 (u.c : Nat), .int .u32 (Sm.add u.d y1 : Nat), .int .u32 (u.e : Nat), .int .u32 (u.f : Nat), .int .u32 (u.g : Nat)] := by
                rw [HY1.out, HY2.out]; rfl
              rw [← hro]
              generalize wy.setRow N4 (Sm.nums (Sm.round u xk xw).l).toArray = wz at *
              have HFIN := Lib.hid hfin
              clear hfin hro e1 e2 HA3 d4 hb3
              go_wp2
              go_roundw
              case rel => exact ⟨k + 1, by omega, by go_num, by rw [HRD.out]; exact HFIN.out, hfb⟩
              case measure => simp [intOf]; omega
            · obtain rfl : k = 64 := by omega
              generalize hu : Sm.rounds v Sm.ks (Sm.words blk 48) 64 = u at *
              have HU := Lib.hid hu
              clear hu
              have R2 := Lib.hid ((hbk.block N2 (by omega)).trans Q4.out)
              have R0 := Lib.hid ((hbk.block N0 (by omega)).trans Q2.out)
              have bb : Below N0 w wr := b2.trans (hbk.mono (by omega))
              have hsr : N4 < wr.heap.size := Nat.lt_of_lt_of_le hs4 hbk.size
              clear hbk Q2 Q3 Q4 Q5
              go_wp2
              rw [show ((64 : Nat) : Int) = 64 from rfl]
              obtain ⟨w5, hw5⟩ : ∃ w5, w5 = wr := ⟨_, rfl⟩
              rw [← hw5] at HR R2 R0 bb hsr ⊢
              clear hw5
              go_loopw [22] (fun i wq => ∃ j : Nat, j ≤ 8 ∧ i = .int .i64 j ∧ wq.heap[N4]? = some (.cells (Sm.nums (Sm.mix u v j).l).toArray 54 (0, 0)) ∧ Below N4 w5 wq) (fun i _ => 8 - (intOf i).toNat)
              case atStart => exact ⟨0, by omega, rfl, HR.out, Below.refl _ _⟩
              case round =>
                clear HR
                obtain ⟨j, hj, rfl, hrow, hbk⟩ := hrel
                have HR := Lib.hid hrow
                clear hrow
                by_cases hlt : j < 8
                · have ca1 := Sm.cells_of HR.out j (.int .u32 ((Sm.mix u v j).l.getD j 0 : Nat)) (by rw [List.getElem?_toArray]; exact Sm.nums_get hlt)
                  have ca2 : wr.cell? ⟨N0, j, none⟩ = some (.int .u32 (v.l.getD j 0 : Nat)) := by
                    refine Sm.cells_of ((hbk.block N0 (by omega)).trans R0.out) j _ ?_
                    rw [HCA.out, List.getElem?_toArray]
                    exact Sm.nums_get hlt
                  have cf := Sm.free_of HR.out j
                  have HST : Hid (Sm.mix u v (j + 1) = Sm.V.of ((Sm.mix u v j).l.set j (Sm.add ((Sm.mix u v j).l.getD j 0) (v.l.getD j 0)))) := rfl
                  generalize Sm.mix u v j = z at *
                  generalize hxz : z.l.getD j 0 = x at *
                  generalize v.l.getD j 0 = y at *
                  have HXZ := Lib.hid hxz
                  clear hxz
                  have hji : (j : Int) < 8 := by omega
                  go_wp2_with fail
                  refine wp_then (r23_any _ hlt ca1 ca2 cf ?_)
                  intro x186 x187 x188 x189 x190 x191 x192 x193 x194
                  rw [show ((x : Int) + y) % 4294967296 = (Sm.add x y : Nat) by unfold Sm.add; omega]
                  have hN4 := (hbk.setCell (p := ⟨N4, j, none⟩) (Nat.le_refl _) (.int .u32 (Sm.add x y : Nat))).drew
                  have hh4 : (wr.setCell ⟨N4, j, none⟩ (.int .u32 (Sm.add x y : Nat))).drew.heap[N4]? = some (.cells (Sm.nums (Sm.mix u v (j + 1)).l).toArray 54 (0, 0)) := by
                    rw [HST.out, ← Sm.nums_set z j _ hlt]
                    exact Sm.heap_set HR.out j _
                  generalize (wr.setCell ⟨N4, j, none⟩ (.int .u32 (Sm.add x y : Nat))).drew = wz at *
                  have HH4 := Lib.hid hh4
                  clear hh4 ca1 ca2 cf
                  go_wp2
                  go_roundw
                  case rel => exact ⟨j + 1, by omega, by go_num, HH4.out, hN4⟩
                  case measure => simp [intOf]; omega
                · obtain rfl : j = 8 := by omega
                  have hr : wr.heap[N4]? = some (.cells (Sm.nums (Sm.turn v blk).l).toArray 54 (0, 0)) := by
                    have h := HR.out
                    rw [Sm.mix_all, ← HU.out] at h
                    unfold Sm.turn
                    exact h
                  have HR8 := Lib.hid hr
                  have HR2 := Lib.hid ((hbk.block N2 (by omega)).trans R2.out)
                  have hsz8 : (Sm.nums (Sm.turn v blk).l).toArray.size = 8 := by rw [List.size_toArray, Sm.nums_length]; rfl
                  have hz8 : (Sm.rowOf 8 []).size = (Sm.nums (Sm.turn v blk).l).toArray.size := by rw [hsz8]; exact Sm.rowOf_size (by simp)
                  have hone8 := Sm.nums_one (Sm.turn v blk).l
                  have bfin : Below N0 w wr := bb.trans (hbk.mono (by omega))
                  clear hr HR R2 R0 bb hbk
                  obtain ⟨cs, hcs⟩ : ∃ c, c = (Sm.nums (Sm.turn v blk).l).toArray := ⟨_, rfl⟩
                  rw [← hcs] at HR8 hsz8 hz8 hone8
                  have HCS := Lib.hid hcs
                  clear hcs
                  go_wp2_with (first | (with_reducible refine wpList_load_row rfl 54 (.tmp 12) rfl N4 rfl 54 cs (0, 0) _ (by exact HR8.out) Tryd.underlying54 rfl (Sm.info8 hsz8) ?_) | (with_reducible refine wpList_store_row rfl 54 (.tmp 6) (.tmp 195) rfl N2 cs rfl rfl 54 _ (by exact HR2.out) (Sm.info8 hsz8) hz8 hone8 ?_))
                  exact bodyPost_ret (v := .agg cs) (results_cell_row rfl _ _ N2 54 _ (0, 0) _ rfl (setRow_heap _ N2 _ _ _ _ HR2.out) Tryd.underlying54 rfl (Sm.info8 hsz8)) rfl ⟨by rw [HCS.out], by rw [← HN0.out]; exact Sm.below_setRow bfin (by omega) _⟩
end Go.Proofs.YtkijdpgdniaagaaDoor
