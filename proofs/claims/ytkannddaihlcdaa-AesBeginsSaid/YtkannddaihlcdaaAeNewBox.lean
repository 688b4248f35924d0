/-
  What newBox makes: S of all bytes.
-/
import Derived.Test.YtkannddaihlcdaaAeBox
import Derived.IntWalk
import Derived.StillTailTactics
namespace Go.Proofs.Ytkannddaihlcdaa
open Go.RowKit
namespace Ae
theorem pwRow_length (k : Nat) : (pwRow k).length = k + 1 := by simp [pwRow]
theorem pwRow_get (k i : Nat) (h : i ≤ k) : ((pwRow k).getD i 0).toNat = pw i := by
  have : (pwRow k)[i]? = some (UInt8.ofNat (pw i)) := by simp [pwRow, show i < k + 1 by omega]
  rw [List.getD_eq_getElem?_getD, this]
  show (UInt8.ofNat (pw i)).toNat = pw i
  rw [UInt8.toNat_ofNat']
  exact Nat.mod_eq_of_lt (pw_lt i)
theorem pwRow_snoc (k : Nat) : pwRow (k + 1) = pwRow k ++ [UInt8.ofNat (pw (k + 1))] := by
  unfold pwRow; rw [List.range_succ]; simp
theorem ofNat8 (x : Nat) (h : x < 256) : ((UInt8.ofNat x).toNat : Int) = x := by
  rw [UInt8.toNat_ofNat']; omega
theorem heap_pw (w : World) : (w.alloc (.cells (Sm.rowB 256 []) 54)).heap[w.heap.size]? = some (.cells (Sm.rowB 256 []) 54 (0, 0)) := heap_alloc_new w _
/-- S's row, as cells. -/
def sCells (k : Nat) : Array Value := (Lib.byteCells (sRow k)).toArray
theorem sCells_zero : sCells 0 = Sm.rowB 256 [] := by
  unfold sCells Sm.rowB sRow
  rfl
theorem sCells_get (k i : Nat) (h : i < 256) : ∃ v, (sCells k)[i]? = some v := ⟨_, Array.getElem?_eq_getElem (by rw [sCells, Sm.bytes_size, sRow_length]; exact h)⟩
theorem sCells_set (k : Nat) : (sCells k).setIfInBounds (pw k) (.int .u8 ((UInt8.ofNat (ofM (pw (255 - k)))).toNat : Int)) = sCells (k + 1) := Sm.bytes_set _ _ _
theorem infoBox {c : Array Value} (h : c.size = 256) : (Try.prog.info? 55).map (·.size) = some c.size := by rw [h]; kernel_rfl
theorem zeroBox : (Try.prog.info? 55).map (fun i => (i.zero, i.size)) = some (some (.agg (Sm.rowB 256 [])), 256) := by kernel_rfl
theorem zero256 : (Try.prog.info? 54).map (fun i => (i.zero, i.size)) = some (some (.agg (Sm.rowB 256 [])), 256) := by kernel_rfl
theorem pw_row {w : World} {N k i : Nat} {t : TypeId} (h : w.heap[N]? = some (.cells (Sm.rowB 256 (pwRow k)) t (0, 0))) (hi : i ≤ k) : w.cell? ⟨N, i, none⟩ = some (.int .u8 (pw i : Nat)) := by
  refine Sm.cells_of h i _ ?_
  unfold Sm.rowB
  rw [List.getElem?_toArray, Sm.byteCells_get (by rw [List.length_append, pwRow_length]; omega), List.getD_eq_getElem?_getD, List.getElem?_append_left (by rw [pwRow_length]; omega), ← List.getD_eq_getElem?_getD, pwRow_get k i hi]
end Ae

set_option maxRecDepth 100000 in
set_option maxHeartbeats 4000000 in
theorem newBox_any (w : World) : Calls Try.prog 24 #[] w fun e w' => e = .returned (.agg (Lib.byteCells Ae.box).toArray) ∧ Below w.heap.size w w' := by
  obtain ⟨z0, hz0⟩ : ∃ z, z = Sm.rowB 256 [] := ⟨_, rfl⟩
  have hz1 := (zero_of_info Ae.zeroBox).1
  have hz2 := (zero_of_info Ae.zero256).1
  rw [← hz0] at hz1 hz2
  have HZ := Lib.hid hz0
  clear hz0
  go_enter Try.func24, Try.ntmps24
  go_upto_region 2 with (fail)
  have g1 : ((w.alloc (.cells z0 55)).alloc (.cells z0 54)).heap[w.heap.size]? = some (.cells (Ae.sCells 0) 55 (0, 0)) := by
    rw [Below.heap_alloc _ _ _ (by simp), Ae.sCells_zero, ← HZ.out]; exact heap_alloc_new w _
  have g2 : ((w.alloc (.cells z0 55)).alloc (.cells z0 54)).heap[w.heap.size + 1]? = some (.cells (Sm.rowB 256 []) 54 (0, 0)) := by
    rw [← HZ.out]; simpa using heap_alloc_new (w.alloc (.cells z0 55)) (.cells z0 54)
  have b2 : Below w.heap.size w ((w.alloc (.cells z0 55)).alloc (.cells z0 54)) := ((Below.refl _ w).alloc (Nat.le_refl _) _).alloc (by simp) _
  clear hz1 hz2
  generalize (w.alloc (.cells z0 55)).alloc (.cells z0 54) = W2 at *
  clear HZ
  obtain ⟨N, hN⟩ : ∃ N, N = w.heap.size := ⟨_, rfl⟩
  rw [← hN] at g1 g2 b2 ⊢
  have HN := Lib.hid hN
  obtain ⟨old, hold⟩ := Sm.rowB_some (n := 256) (l := []) 0 (by simp) (by decide)
  have hold := Sm.cells_of g2 0 old hold
  have fz := Sm.free_of g2 0
  have g3 : (W2.setCell ⟨N + 1, 0, none⟩ (.int .u8 1)).heap[N + 1]? = some (.cells (Sm.rowB 256 (Ae.pwRow 0)) 54 (0, 0)) := by
    have e := Sm.heap_set g2 0 (.int .u8 1)
    have e2 := Sm.rowB_set (n := 256) (l := []) (by simp) 1
    rw [List.length_nil] at e2
    rw [show (Value.int .u8 1) = .int .u8 ((1 : UInt8).toNat : Int) from rfl] at e
    rw [e2] at e
    exact e
  have g4 : (W2.setCell ⟨N + 1, 0, none⟩ (.int .u8 1)).heap[N]? = some (.cells (Ae.sCells 0) 55 (0, 0)) := (Below.heap_setCell _ _ _ _ (by simp)).trans g1
  have b3 : Below N w (W2.setCell ⟨N + 1, 0, none⟩ (.int .u8 1)) := b2.setCell (p := ⟨N + 1, 0, none⟩) (by simp) _
  clear hN g1 g2 b2
  go_wp2_with fail
  generalize W2.setCell ⟨N + 1, 0, none⟩ (.int .u8 1) = W3 at *
  clear hold fz
  go_loopw [5] (fun i wr => ∃ k : Nat, k ≤ 255 ∧ i = .int .i64 k ∧ wr.heap[N + 1]? = some (.cells (Sm.rowB 256 (Ae.pwRow k)) 54 (0, 0)) ∧ wr.heap[N]? = some (.cells (Ae.sCells 0) 55 (0, 0)) ∧ Below N w wr) (fun i _ => 255 - (intOf i).toNat)
  case atStart => exact ⟨0, by omega, rfl, g3, g4, b3⟩
  case round =>
    clear g3 g4 b3
    obtain ⟨k, hk, rfl, hr1, hr2, hbk⟩ := hrel
    have HR1 := Lib.hid hr1
    have HR2 := Lib.hid hr2
    clear hr1 hr2
    by_cases hlt : k < 255
    · have c0 := Ae.pw_row HR1.out (Nat.le_refl k)
      obtain ⟨old, hold⟩ := Sm.rowB_some (n := 256) (l := Ae.pwRow k) (k + 1) (by rw [Ae.pwRow_length]; omega) (by omega)
      have hold := Sm.cells_of HR1.out (k + 1) old hold
      have fz := Sm.free_of HR1.out (k + 1)
      have hp := Ae.pw_lt k
      have hpi : (Ae.pw k : Int) < 256 := by omega
      have T := Lib.hid (twice_any (Ae.pw k) (by omega))
      obtain ⟨y, hy⟩ : ∃ y, y = UInt8.ofNat (Ae.pw (k + 1)) := ⟨_, rfl⟩
      have HX : Hid (bits .xor .u8 (Ae.pw k : Int) ((Ae.twice (Ae.pw k) : Nat) % 256 : Int) = (y.toNat : Int)) := by
        show _ = _
        rw [hy, show ((Ae.twice (Ae.pw k) : Nat) % 256 : Int) = ((Ae.twice (Ae.pw k) % 256 : Nat) : Int) by omega, Ae.w_xor8 hp (Nat.mod_lt _ (by decide)), Ae.ofNat8 _ (Ae.pw_lt _)]
        rfl
      have hl1 : (k : Int) < 255 := by omega
      have HY := Lib.hid hy
      clear hy
      generalize Ae.pw k = x at *
      go_wp2_with fail
      have hw1 : IntKind.i64.wrap ((k : Int) + 1) = (k : Int) + 1 := IntWalk.i64_in _ (by omega)
      have hz1 : (0 : Int) ≤ (k : Int) + 1 := by omega
      have hk2 : (k : Int) < 256 := by omega
      have hk3 : (k : Int) + 1 < 256 := by omega
      have hn1 : ((k : Int) + 1).toNat = k + 1 := by omega
      have hw8 : IntKind.u8.wrap ((Ae.twice x : Nat) : Int) = ((Ae.twice x : Nat) % 256 : Int) := IntKind.wrap_u8' _
      have TD : Hid (Calls Try.prog 33 #[.int .u32 x] wr.drew fun e w' => e = .returned (.int .u32 (Ae.twice x : Nat)) ∧ w' = wr.drew) := (T.out _).mono fun _ _ ⟨h1, h2⟩ => ⟨h1, h2.symm⟩
      have d0 : wr.drew.cell? ⟨N + 1, k, none⟩ = some (.int .u8 (x : Nat)) := c0
      have hwx : IntKind.u32.wrap (x : Int) = (x : Int) := Sm.wrap32n _ (by omega)
      go_still_tail 13, (by kernel_rfl)
      still_call TD.out
      repeat still_step
      refine wpStill_nil ?_
      change wpList _ _ _ _ _ wr.drew
      have hold' : wr.drew.cell? ⟨N + 1, k + 1, none⟩ = some old := hold
      have fz' : wr.drew.frozen? ⟨N + 1, k + 1, none⟩ = false := fz
      have HX2 := HX.out
      go_wp2
      go_roundw
      case rel =>
        refine ⟨k + 1, by omega, by go_num, ?_, (Below.heap_setCell _ _ _ _ (by simp)).trans HR2.out, (hbk.setCell (p := ⟨N + 1, k + 1, none⟩) (by simp) _).drew⟩
        have e := Sm.rowB_set (n := 256) (l := Ae.pwRow k) (by rw [Ae.pwRow_length]; omega) y
        rw [Ae.pwRow_length] at e
        rw [Ae.pwRow_snoc, ← HY.out, ← e]
        exact Sm.heap_set HR1.out (k + 1) _
      case measure => simp [intOf]; omega
    · obtain rfl : k = 255 := by omega
      clear hlt hk
      go_wp2_with fail
      rw [show ((255 : Nat) : Int) = 255 from rfl]
      go_loopw [22] (fun i wr => ∃ k : Nat, k ≤ 255 ∧ i = .int .i64 k ∧ wr.heap[N + 1]? = some (.cells (Sm.rowB 256 (Ae.pwRow 255)) 54 (0, 0)) ∧ wr.heap[N]? = some (.cells (Ae.sCells k) 55 (0, 0)) ∧ Below N w wr) (fun i _ => 255 - (intOf i).toNat)
      case atStart => exact ⟨0, by omega, rfl, HR1.out, HR2.out, hbk⟩
      case round =>
        clear HR1 HR2 hbk
        obtain ⟨k, hk, rfl, hr1, hr2, hbk⟩ := hrel
        have HR1 := Lib.hid hr1
        have HR2 := Lib.hid hr2
        clear hr1 hr2
        by_cases hlt : k < 255
        · have c0 : wr.drew.cell? ⟨N + 1, k, none⟩ = some (.int .u8 (Ae.pw k : Nat)) := Ae.pw_row HR1.out (by omega)
          have c1 : wr.drew.cell? ⟨N + 1, 255 - k, none⟩ = some (.int .u8 (Ae.pw (255 - k) : Nat)) := Ae.pw_row HR1.out (by omega)
          obtain ⟨old, hold⟩ := Ae.sCells_get k (Ae.pw k) (Ae.pw_lt k)
          have hold : wr.drew.cell? ⟨N, Ae.pw k, none⟩ = some old := Sm.cells_of HR2.out (Ae.pw k) old hold
          have fz : wr.drew.frozen? ⟨N, Ae.pw k, none⟩ = false := Sm.free_of HR2.out (Ae.pw k)
          have hp := Ae.pw_lt k
          have hpi : (Ae.pw k : Int) < 256 := by omega
          have hq := Ae.pw_lt (255 - k)
          obtain ⟨y, hy⟩ : ∃ y, y = UInt8.ofNat (Ae.ofM (Ae.pw (255 - k))) := ⟨_, rfl⟩
          have OM : Hid (Calls Try.prog 34 #[.int .u8 (Ae.pw (255 - k) : Nat)] wr.drew fun e w' => e = .returned (.int .u8 (y.toNat : Int)) ∧ w' = wr.drew) := (ofMirror_any _ hq wr.drew).mono fun _ _ ⟨h1, h2⟩ => ⟨by rw [h1, hy, Ae.ofNat8 _ (Ae.ofM_lt hq)], h2.symm⟩
          have hset := Ae.sCells_set k
          rw [← hy] at hset
          have HSET := Lib.hid hset
          have hl1 : (k : Int) < 255 := by omega
          have hl2 : (k : Int) < 256 := by omega
          have hm0 : (0 : Int) ≤ 255 - (k : Int) := by omega
          have hm4 : (k : Int) ≤ 255 := by omega
          have hm1 : 255 - (k : Int) < 256 := by omega
          have hm2 : (255 - (k : Int)).toNat = 255 - k := by omega
          have hm3 : IntKind.i64.wrap (255 - (k : Int)) = 255 - (k : Int) := IntWalk.i64_in _ (by omega)
          clear hy hset
          generalize Ae.pw (255 - k) = z at *
          generalize Ae.pw k = x at *
          go_wp2_with fail
          go_still_tail 9, (by kernel_rfl)
          still_call OM.out
          repeat still_step
          refine wpStill_nil ?_
          change wpList _ _ _ _ _ wr.drew
          go_wp2
          go_roundw
          case rel =>
            refine ⟨k + 1, by omega, by go_num, (Below.heap_setCell _ _ _ _ (by simp)).trans HR1.out, ?_, (hbk.setCell (p := ⟨N, x, none⟩) (by simp) _).drew⟩
            rw [← HSET.out]
            exact Sm.heap_set HR2.out x _
          case measure => simp [intOf]; omega
        · obtain rfl : k = 255 := by omega
          clear hlt hk
          obtain ⟨y, hy⟩ : ∃ y, y = UInt8.ofNat (Ae.ofM 0) := ⟨_, rfl⟩
          have OM : Hid (∀ wx : World, Calls Try.prog 34 #[.int .u8 0] wx fun e w' => e = .returned (.int .u8 (y.toNat : Int)) ∧ wx = w') := fun wx => (ofMirror_any 0 (by decide) wx).mono fun _ _ ⟨h1, h2⟩ => ⟨by rw [h1, hy, Ae.ofNat8 _ (Ae.ofM_lt (by decide))], h2⟩
          obtain ⟨old, hold⟩ := Ae.sCells_get 255 0 (by decide)
          have hold := Sm.cells_of HR2.out 0 old hold
          have fz := Sm.free_of HR2.out 0
          have hr : (wr.setCell ⟨N, 0, none⟩ (.int .u8 (y.toNat : Int))).heap[N]? = some (.cells (Lib.byteCells Ae.box).toArray 55 (0, 0)) := by
            have e := Sm.heap_set HR2.out 0 (.int .u8 (y.toNat : Int))
            rw [Ae.sCells, Sm.bytes_set, hy] at e
            rw [hy]
            exact e
          have hb : Below N w (wr.setCell ⟨N, 0, none⟩ (.int .u8 (y.toNat : Int))) := hbk.setCell (p := ⟨N, 0, none⟩) (by simp) _
          clear hy
          have hsz : (Lib.byteCells Ae.box).toArray.size = 256 := by rw [Sm.bytes_size, Ae.box_length]
          have hone := Sm.bytes_one Ae.box
          obtain ⟨cs, hcs⟩ : ∃ c, c = (Lib.byteCells Ae.box).toArray := ⟨_, rfl⟩
          rw [← hcs] at hr hsz hone
          have HR := Lib.hid hr
          have HC := Lib.hid hcs
          clear hcs hr
          have HOLD := Lib.hid hold
          clear hold
          go_wp2_with fail
          refine (OM.out _).mono ?_
          rintro e w' ⟨rfl, rfl⟩
          have hold := HOLD.out
          go_wp2_with (first | (with_reducible refine wpList_load_row rfl 55 (.tmp 0) rfl N rfl 55 cs (0, 0) _ (by exact HR.out) Try.underlying55 rfl (Ae.infoBox hsz) ?_) | (with_reducible refine wpList_store_row rfl 55 (.tmp 0) (.tmp 37) rfl N cs rfl rfl 55 _ (by exact HR.out) (Ae.infoBox hsz) rfl hone ?_))
          exact bodyPost_ret (v := .agg cs) (results_cell_row rfl _ _ N 55 _ (0, 0) _ rfl (setRow_heap _ N _ _ _ _ HR.out) Try.underlying55 rfl (Ae.infoBox hsz)) rfl ⟨by rw [HC.out], by rw [← HN.out]; exact Sm.below_setRow hb (Nat.le_refl _) _⟩
end Go.Proofs.Ytkannddaihlcdaa
