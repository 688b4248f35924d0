/-
  What the document's Block answers.
-/
import Derived.Test.YtaoceongfndplaaRaSched
import Derived.Test.YtaoceongfndplaaRaOne
namespace Go.Proofs.Ytaoceongfndplaa
open Go.RowKit
namespace Ae
/-- The table that the document's all makes, where it lies. -/
theorem all_at {w : World} {N : Nat} {A : Option Addr} {c : Nat} (h : w.ownsRow N 5 1 (.slice A 256 c) 256 (Lib.byteCells (s8 256))) : ∃ gs, A = some ⟨gs, 0, none⟩ ∧ N ≤ gs ∧ BytesAt w gs (s8 256) := by
  rcases h.2 with ⟨_, hn⟩ | ⟨g, cap, cur, hv, hBg, _⟩
  · omega
  · simp only [Value.slice.injEq] at hv
    obtain ⟨rfl, -, rfl⟩ := hv
    refine ⟨g, rfl, hBg, fun j hj => ?_⟩
    have hc := h.cells (g := g) rfl j _ (Sm.byteCells_get hj)
    rw [Addr.add_mid, Nat.zero_add] at hc
    exact hc
theorem row_bytes {w : World} {g : Nat} {l : List UInt8} {t : TypeId} (h : w.heap[g]? = some (.cells (Lib.byteCells l).toArray t (0, 0))) : BytesAt w g l := fun j hj => Sm.row_cell h j hj
theorem infoA16 {c : Array Value} (h : c.size = 16) : (Try.prog.info? 24).map (·.size) = some c.size := by rw [h]; kernel_rfl
theorem zeroA16 : (Try.prog.info? 24).map (fun i => (i.zero, i.size)) = some (some (.agg (Sm.rowB 16 [])), 16) := by kernel_rfl
end Ae

set_option maxRecDepth 100000 in
set_option maxHeartbeats 4000000 in
theorem refBlock_any (w : World) (key l : List UInt8) (hkey : key.length = 32) (hl : l.length = 16) :
    Calls Try.prog 7 #[.agg (Lib.byteCells key).toArray, .agg (Lib.byteCells l).toArray] w fun e w' => e = .returned (.agg (Lib.byteCells (Ae.block key l)).toArray) ∧ Below w.heap.size w w' := by
  obtain ⟨ck, hck⟩ : ∃ c, c = Lib.byteCells key := ⟨_, rfl⟩
  obtain ⟨cl, hcl⟩ : ∃ c, c = Lib.byteCells l := ⟨_, rfl⟩
  have hckl : ck.length = 32 := by rw [hck, Lib.byteCells_length, hkey]
  have hz1 := (zero_of_info Ae.zeroA16).1
  obtain ⟨z0, hz0⟩ : ∃ z, z = Sm.rowB 16 [] := ⟨_, rfl⟩
  rw [← hz0] at hz1
  have HZ := Lib.hid hz0
  have hzs : z0.size = 16 := by rw [hz0]; exact Sm.rowB_size (by simp)
  obtain ⟨N, hN⟩ : ∃ N, N = w.heap.size := ⟨_, rfl⟩
  obtain ⟨W3, hW3⟩ : ∃ W, W = ((w.alloc (.cells ck.toArray 22)).alloc (.cells cl.toArray 24)).alloc (.cells z0 24) := ⟨_, rfl⟩
  have s3 : W3.heap.size = N + 3 := by rw [hW3, hN]; simp
  have r0 : W3.heap[N]? = some (.cells ck.toArray 22 (0, 0)) := by
    rw [hW3, hN, Below.heap_alloc _ _ _ (by simp; omega), Below.heap_alloc _ _ _ (by simp)]; exact heap_alloc_new w _
  have r1 : W3.heap[N + 1]? = some (.cells (Lib.byteCells l).toArray 24 (0, 0)) := by
    rw [hW3, hN, Below.heap_alloc _ _ _ (by simp), ← hcl]
    simpa using heap_alloc_new (w.alloc (.cells ck.toArray 22)) (.cells cl.toArray 24)
  have r2 : W3.heap[N + 2]? = some (.cells z0 24 (0, 0)) := by
    rw [hW3, hN]
    simpa using heap_alloc_new ((w.alloc (.cells ck.toArray 22)).alloc (.cells cl.toArray 24)) (.cells z0 24)
  have b3 : Below N w W3 := by
    rw [hW3, hN]
    exact (((Below.refl _ w).alloc (Nat.le_refl _) _).alloc (by simp) _).alloc (by simp; omega) _
  have SC := Lib.hid (fun (wx : World) (gs cs : Nat) (h : Ae.BytesAt wx gs (Ae.s8 256)) => refSched_any (w := wx) cs h key hkey)
  have ON := Lib.hid (fun (wx : World) (gs G gi cs C ci : Nat) (h1 : Ae.BytesAt wx gs (Ae.s8 256)) (h2 : Ae.WsAt wx G (Ae.ks key) 60) (h3 : Ae.BytesAt wx gi (Ae.bytes (Ae.cols l))) => one_any (w := wx) cs C ci h1 h2 h3 (Ae.cols_lt l) (Ae.ks_lt key))
  rw [← hck] at SC
  rw [← hck, ← hcl, ← hN]
  have HN := Lib.hid hN
  have HW3 := Lib.hid hW3
  have R0 := Lib.hid r0
  have R1 := Lib.hid r1
  have R2 := Lib.hid r2
  have HL := Lib.hid hl
  clear hW3 hN hck hcl hz0 r0 r1 r2
  go_enter Try.func7, Try.ntmps7
  go_upto_region 1 with (fail)
  rw [← HW3.out, ← HN.out]
  clear HW3
  have AL := refAll_any W3
  go_wp2_with fail
  refine AL.mono ?_
  rintro e w4 ⟨A, cs, rfl, hown, k4⟩
  obtain ⟨gs, rfl, hgs, hs8⟩ := Ae.all_at hown
  have s4 := k4.size
  have P0 := Lib.hid ((k4.block N (by omega)).trans R0.out)
  have P1 := Lib.hid ((k4.block (N + 1) (by omega)).trans R1.out)
  have P2 := Lib.hid ((k4.block (N + 2) (by omega)).trans R2.out)
  have B4 : Below N w w4 := b3.trans (k4.mono (by omega))
  have hgl : gs < w4.heap.size := Ae.cell_lt (hs8 0 (by rw [Ae.s8_length]; decide))
  have k5 : Below w4.heap.size w4 (w4.alloc (.cells z0 24)) := (Below.refl _ w4).alloc (Nat.le_refl _) _
  have m5 := heap_alloc_new w4 (.cells z0 24)
  have s5 : (w4.alloc (.cells z0 24)).heap.size = w4.heap.size + 1 := by simp
  clear AL hown k4 R0 R1 R2
  go_upto_region 3 with (fail)
  generalize w4.alloc (.cells z0 24) = w5 at *
  obtain ⟨M, hM⟩ : ∃ M, M = w4.heap.size := ⟨_, rfl⟩
  rw [← hM] at m5 k5 s5 hgl s4 ⊢
  have Q0 : Hid (w5.drew.heap[N]? = some (.cells ck.toArray 22 (0, 0))) := (k5.block N (by omega)).trans P0.out
  have Q1 : Hid (w5.drew.heap[N + 1]? = some (.cells (Lib.byteCells l).toArray 24 (0, 0))) := (k5.block (N + 1) (by omega)).trans P1.out
  have Q2 : Hid (w5.drew.heap[N + 2]? = some (.cells z0 24 (0, 0))) := (k5.block (N + 2) (by omega)).trans P2.out
  have QM : Hid (w5.drew.heap[M]? = some (.cells z0 24 (0, 0))) := m5
  have QS : Hid (Ae.BytesAt w5.drew gs (Ae.s8 256)) := hs8.keep hgl k5.drew
  have B5 : Hid (Below N w w5.drew) := (B4.trans (k5.mono (by omega))).drew
  have sz5 : w5.drew.heap.size = M + 1 := s5
  have hund : Try.prog.underlying 22 = some (.array 32 5) := Try.underlying22
  have hick : (Try.prog.info? 22).map (·.size) = some ck.length := by rw [hckl]; kernel_rfl
  clear hM m5 k5 hs8 B4 P0 P1 P2 hz1
  refine wp_region_held_drew (S := fun w' => w'.rangeAt N 0 ck) (by kernel_rfl) (Sm.range_row Q0.out) (fun hHeld => ?_)
  refine wpAnyH_take (i := 0) (oi := ⟨some 10, _, _, _, _, _⟩) (v := .agg ck.toArray) rfl (by kernel_rfl) (by kernel_rfl) (by kernel_rfl) (fun _ _ _ h => h) (yieldsIf_load_mid (by rfl) _ _ rfl _ _ rfl ck _ (fun w hS => hS) hund rfl hick) (by assumption) ?_
  simp only [Act.put, List.setIfInBounds_toArray, List.set_cons_zero, List.set_cons_succ]
  refine wpAnyH_take (i := 1) (oi := ⟨some 11, _, _, _, _, _⟩) (v := .slice (some ⟨gs, 0, none⟩) 256 cs) rfl (by kernel_rfl) (by kernel_rfl) (by kernel_rfl) (fun _ _ _ h => h) (Or.inl ⟨by rfl, ?_⟩) (by assumption) ?_
  · intro w hSw; (try dsimp only at hSw); go_simp
  simp only [Act.put, List.setIfInBounds_toArray, List.set_cons_zero, List.set_cons_succ]
  refine wpAnyH_take (i := 3) (oi := ⟨some 13, _, _, _, _, _⟩) (v := .slice (some ⟨gs, 0, none⟩) 256 cs) rfl (by kernel_rfl) (by kernel_rfl) (by kernel_rfl) (fun _ _ _ h => h) (Or.inl ⟨by rfl, ?_⟩) (by assumption) ?_
  · intro w hSw; (try dsimp only at hSw); go_simp
  simp only [Act.put, List.setIfInBounds_toArray, List.set_cons_zero, List.set_cons_succ]
  refine wpAnyH_take (i := 4) (oi := ⟨some 14, _, _, _, _, _⟩) (v := .slice (some ⟨N + 1, 0, none⟩) 16 16) rfl (by kernel_rfl) (by kernel_rfl) (by kernel_rfl) (fun _ _ _ h => h) (Or.inl ⟨by rfl, ?_⟩) (by assumption) ?_
  · intro w hSw; (try dsimp only at hSw); go_simp
  simp only [Act.put, List.setIfInBounds_toArray, List.set_cons_zero, List.set_cons_succ]
  refine wpAnyH_ready (rs := [2]) (by kernel_rfl) (by simp) ?_
  refine AllReadyH.cons (o := ⟨some 12, _, _, _, _, _⟩) rfl (fun K hK => ?_) AllReadyH.nil
  go_simp
  refine (SC.out _ gs cs QS.out).mono ?_
  rintro e w6 ⟨G, C, rfl, hws, k6⟩
  have P0 := Lib.hid ((k6.block N (by omega)).trans Q0.out)
  have P1 := Lib.hid ((k6.block (N + 1) (by omega)).trans Q1.out)
  have P2 := Lib.hid ((k6.block (N + 2) (by omega)).trans Q2.out)
  have PM := Lib.hid ((k6.block M (by omega)).trans QM.out)
  have PS := Lib.hid (QS.out.keep (by omega) k6)
  have PW := Lib.hid hws
  have B6 := Lib.hid (B5.out.trans (k6.mono (by omega)))
  have s6 := k6.size
  have hb6 : Ae.BytesAt w6 (N + 1) (Ae.bytes (Ae.cols l)) := by rw [Ae.bytes_cols l HL.out]; exact Ae.row_bytes P1.out
  have HB6 := Lib.hid hb6
  clear k6 hws hb6
  refine hK.out _ _ (Sm.range_row P0.out) (fun hHeld => ?_)
  clear hK K
  refine wpAnyH_ready (rs := [5]) (by kernel_rfl) (by simp) ?_
  refine AllReadyH.cons (o := ⟨some 15, _, _, _, _, _⟩) rfl (fun K hK => ?_) AllReadyH.nil
  go_simp
  refine (ON.out _ gs G (N + 1) cs C 16 PS.out PW.out HB6.out).mono ?_
  rintro e w7 ⟨g7, c7, rfl, hg7, hb7, k7⟩
  have O0 := Lib.hid ((k7.block N (by omega)).trans P0.out)
  have O2 := Lib.hid ((k7.block (N + 2) (by omega)).trans P2.out)
  have OM := Lib.hid ((k7.block M (by omega)).trans PM.out)
  have OB := Lib.hid hb7
  have B7 := Lib.hid (B6.out.trans (k7.mono (by omega)))
  have s7 := k7.size
  clear k7 hb7
  refine hK.out _ _ (Sm.range_row O0.out) (fun hHeld => ?_)
  clear hK K
  refine wpAnyH_take (i := 6) (oi := ⟨some 7, _, _, _, _, _⟩) (v := .slice (some ⟨g7, 0, none⟩) 16 c7) rfl (by kernel_rfl) (by kernel_rfl) (by kernel_rfl) (fun _ _ _ h => h) (Or.inl ⟨by rfl, ?_⟩) (by assumption) ?_
  · intro w hSw; (try dsimp only at hSw); go_simp
  simp only [Act.put, List.setIfInBounds_toArray, List.set_cons_zero, List.set_cons_succ]
  refine wpAnyH_done (by kernel_rfl) ?_ _
  have hbl : Ae.bytes (Ae.enc (Ae.ks key) (Ae.cols l)) = Ae.block key l := rfl
  rw [hbl] at OB
  have hlen := Ae.block_length key l
  obtain ⟨ob, hob⟩ : ∃ o, o = Ae.block key l := ⟨_, rfl⟩
  rw [← hob] at OB hlen
  have HOB := Lib.hid hob
  have OMz : Hid (w7.heap[M]? = some (.cells (Sm.rowB 16 (ob.take 0)) 24 (0, 0))) := by
    show _ = _
    rw [OM.out, HZ.out, List.take_zero]
  have hg7n : g7 ≠ M := by omega
  clear hbl hob hHeld
  go_wp2_with fail
  go_loopw [8] (fun i wr => ∃ k : Nat, k ≤ 16 ∧ i = .int .i64 k ∧ wr.heap[M]? = some (.cells (Sm.rowB 16 (ob.take k)) 24 (0, 0)) ∧ Ae.BytesAt wr g7 ob ∧ Below M w7 wr) (fun i _ => 16 - (intOf i).toNat)
  case atStart => exact ⟨0, by omega, rfl, OMz.out, OB.out, Below.refl _ _⟩
  case round =>
    clear OMz OB OM
    obtain ⟨k, hk, rfl, hr1, hby, hbk⟩ := hrel
    have HR1 := Lib.hid hr1
    clear hr1
    by_cases hlt : k < 16
    · have q1 : (k : Int) < 16 := by omega
      have htl : (ob.take k).length = k := by rw [List.length_take]; omega
      obtain ⟨old, hold⟩ := Sm.rowB_some (n := 16) (l := ob.take k) k (by omega) (by omega)
      have hold := Sm.cells_of HR1.out k old hold
      have fz := Sm.free_of HR1.out k
      have cb := hby k (by omega)
      have hsn : ob.take (k + 1) = ob.take k ++ [ob.getD k 0] := by
        rw [List.take_add_one, List.getD_eq_getElem?_getD, List.getElem?_eq_getElem (by omega)]
        rfl
      obtain ⟨b, hb⟩ : ∃ b, b = ob.getD k 0 := ⟨_, rfl⟩
      rw [← hb] at cb hsn
      have HBY := Lib.hid hby
      have HSN := Lib.hid hsn
      have hset := Sm.rowB_set (n := 16) (l := ob.take k) (by omega) b
      rw [htl] at hset
      have HSET := Lib.hid hset
      clear hb hsn hby hset
      go_wp2_with fail
      go_roundw
      case rel =>
        refine ⟨k + 1, by omega, by go_num, ?_, fun j hj => ?_, hbk.setCell (p := ⟨M, k, none⟩) (Nat.le_refl _) _⟩
        · rw [HSN.out, ← HSET.out]
          exact Sm.heap_set HR1.out k _
        · rw [← HBY.out j hj]
          exact World.cell?_of_block (Below.heap_setCell _ _ _ _ hg7n)
      case measure => simp [intOf]; omega
    · obtain rfl : k = 16 := by omega
      have q1 : ¬ ((16 : Nat) : Int) < 16 := by omega
      have hr := HR1.out
      rw [List.take_of_length_le (by omega), Sm.rowB_full hlen] at hr
      have hsz : (Lib.byteCells ob).toArray.size = 16 := by rw [Sm.bytes_size, hlen]
      have hone := Sm.bytes_one ob
      have HOZ := Lib.hid ((hbk.block (N + 2) (by omega)).trans O2.out)
      have B8 := Lib.hid (B7.out.trans (hbk.mono (by omega)))
      obtain ⟨co, hco⟩ : ∃ c, c = (Lib.byteCells ob).toArray := ⟨_, rfl⟩
      rw [← hco] at hr hsz hone
      have HR2 := Lib.hid hr
      have HCO := Lib.hid hco
      have hz2 : z0.size = co.size := by rw [hzs, hsz]
      clear hr hco HR1 hby
      go_wp2_with (first | (with_reducible refine wpList_load_row rfl 24 (.tmp 6) rfl M rfl 24 co (0, 0) _ (by exact HR2.out) Try.underlying24 rfl (Ae.infoA16 hsz) ?_) | (with_reducible refine wpList_store_row rfl 24 (.tmp 4) (.tmp 26) rfl (N + 2) co rfl rfl 24 _ (by exact HOZ.out) (Ae.infoA16 hsz) hz2 hone ?_))
      exact bodyPost_ret (v := .agg co) (results_cell_row rfl _ _ (N + 2) 24 _ (0, 0) _ rfl (setRow_heap _ (N + 2) _ _ _ _ HOZ.out) Try.underlying24 rfl (Ae.infoA16 hsz)) rfl ⟨by rw [HCO.out, HOB.out], Sm.below_setRow B8.out (by omega) _⟩
end Go.Proofs.Ytaoceongfndplaa
