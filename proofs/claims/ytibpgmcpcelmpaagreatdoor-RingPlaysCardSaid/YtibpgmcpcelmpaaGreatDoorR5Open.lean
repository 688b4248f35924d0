/-
  The document's own Open of seal.
-/
import Derived.Test.YtibpgmcpcelmpaaGreatDoorR5Ops
namespace Go.Proofs.YtibpgmcpcelmpaaGreatDoor
open Go.RowKit Pk

set_option maxRecDepth 100000 in
set_option maxHeartbeats 2000000 in
theorem r5Open_any (w : World) (k : List UInt8) (hk : k.length = 32) (x : Se.Env) (ok : x.Ok) (about : ByteArray) (ha : about.size ≤ 20000) :
    Calls Tryz.prog 27 #[.agg (Lib.byteCells k).toArray, .agg x.cells.toArray, .string about] w fun e w' =>
      e = .returned (.tuple #[.string ⟨(Se.opened k x about.data.toList).1.toArray⟩, .int .i64 (Se.opened k x about.data.toList).2]) ∧ Below w.heap.size w w' := by
  obtain ⟨ck, hck⟩ : ∃ c, c = Lib.byteCells k := ⟨_, rfl⟩
  have hckl : ck.length = 32 := by rw [hck, Lib.byteCells_length, hk]
  obtain ⟨cs, hcs⟩ : ∃ c, c = x.cells := ⟨_, rfl⟩
  have hcsl : cs.length = 36 := by rw [hcs]; exact Se.cells_length _ ok.tag
  obtain ⟨N, hN⟩ : ∃ N, N = w.heap.size := ⟨_, rfl⟩
  obtain ⟨W2, hW2⟩ : ∃ W, W = (w.alloc (.cells ck.toArray 63)).alloc (.cells cs.toArray 66) := ⟨_, rfl⟩
  have g0 : W2.heap[N]? = some (.cells ck.toArray 63 (0, 0)) := by
    rw [hW2, Below.heap_alloc _ _ _ (by simp; omega), hN]; exact heap_alloc_new w _
  have g1 : W2.heap[N + 1]? = some (.cells cs.toArray 66 (0, 0)) := by
    rw [hW2, hN]
    simpa using heap_alloc_new (w.alloc (.cells ck.toArray 63)) (.cells cs.toArray 66)
  have b2 : Below N w W2 := by
    rw [hW2, hN]; exact ((Below.refl _ w).alloc (Nat.le_refl _) _).alloc (by simp) _
  have s2 : W2.heap.size = N + 2 := by rw [hW2, hN]; simp
  have RI : Hid (∀ wx : World, Calls Tryz.prog 35 #[.agg cs.toArray] wx fun e w' => e = .returned (.bool (decide x.Right)) ∧ Below wx.heap.size wx w') := fun wx => by rw [hcs]; exact r5Right_any wx x
  rw [← hck, ← hcs, ← hN]
  have hick := R5.infoA32 hckl
  have hicka := R5.infoA32a hckl
  have hics := R5.infoEnvL hcsl
  have hicsa := Se.infoEnv (c := cs.toArray) (by rw [List.size_toArray, hcsl])
  have G0 := Lib.hid g0
  have G1 := Lib.hid g1
  have B2 := Lib.hid b2
  have HN := Lib.hid hN
  have HW := Lib.hid hW2
  unfold Se.opened
  by_cases hr : x.Right
  · rw [if_pos hr, decide_eq_true hr] at *
    have hds : x.data.size ≤ 8192 := hr.2
    obtain ⟨tg, htg⟩ : ∃ t, t = Se.tagOf k x about.data.toList := ⟨_, rfl⟩
    have htgl : tg.length = 32 := by rw [htg]; exact Se.tagOf_length _ _ _
    obtain ⟨tc, htc⟩ : ∃ c, c = Lib.byteCells tg := ⟨_, rfl⟩
    obtain ⟨tl, htl⟩ : ∃ c, c = Lib.byteCells x.tag := ⟨_, rfl⟩
    have htll : tl.length = 32 := by rw [htl, Lib.byteCells_length, ok.tag]
    have TAG : Hid (∀ wx : World, Calls Tryz.prog 33 #[.agg ck.toArray, .agg cs.toArray, .string about] wx fun e w' => e = .returned (.agg tc.toArray) ∧ Below wx.heap.size wx w') := fun wx => by
      rw [hck, hcs, htc, htg]; exact r5Tag_any wx k hk x ok hr.1.1 about ha (by omega)
    have hE1 := fun wx => Sm.eq_row 32 Tryz.underlying63 tg x.tag htgl ok.tag wx
    rw [← htc, ← htl] at hE1
    have TL : Hid (∀ wx : World, wx.heap[N + 1]? = some (.cells cs.toArray 66 (0, 0)) → wx.rangeAt (N + 1) 4 tl) := fun wx h j v hv => by
      refine Sm.cells_of h (4 + j) v ?_
      rw [hcs, List.getElem?_toArray]
      show (([.int .i64 x.key, .int .u32 x.boot, .int .u64 x.n, .string x.data] : List Value) ++ Lib.byteCells x.tag)[4 + j]? = _
      rw [List.getElem?_append_right (by simp), ← htl]
      simpa using hv
    have hitl : (Tryz.prog.info? 64).map (·.size) = some tl.length := by rw [htll]; kernel_rfl
    have hcd : cs[3]? = some (.string x.data) := by rw [hcs]; rfl
    rw [← htg]
    by_cases ht : x.tag = tg
    · rw [if_pos ht]
      rw [show (tg == x.tag) = true by rw [beq_iff_eq]; exact ht.symm] at hE1
      obtain ⟨rs, hrs⟩ : ∃ b : ByteArray, b = ⟨(Se.strm k x.boot x.n x.data.data.toList).toArray⟩ := ⟨_, rfl⟩
      have ST : Hid (∀ wx : World, Calls Tryz.prog 32 #[.agg ck.toArray, .agg cs.toArray, .string x.data] wx fun e w' => e = .returned (.string rs) ∧ Below wx.heap.size wx w') := fun wx => by
        rw [hck, hcs, hrs]; exact r5Stream_any wx k hk x x.data (by omega)
      rw [← hrs]
      clear g0 g1 b2 hN hW2 hck hcs htg htc htl hrs ht hr
      go_enter Tryz.func27, Tryz.ntmps27
      go_upto_region 1 with (fail)
      rw [← HW.out, ← HN.out]
      go_wp2_with (with_reducible refine wpList_load_row rfl 66 (.tmp 4) rfl (N + 1) rfl 66 cs.toArray (0, 0) _ (by exact G1.out) Tryz.underlying66 rfl hicsa ?_)
      refine (RI.out _).mono ?_
      rintro e w3 ⟨rfl, k3⟩
      have E0 : Hid (w3.drew.heap[N]? = some (.cells ck.toArray 63 (0, 0))) := (k3.block N (by omega)).trans G0.out
      have E1 : Hid (w3.drew.heap[N + 1]? = some (.cells cs.toArray 66 (0, 0))) := (k3.block (N + 1) (by omega)).trans G1.out
      have EB : Hid (Below N w w3.drew) := (B2.out.trans (k3.mono (by omega))).drew
      clear k3 G0 G1 B2 RI
      go_upto_region 3 with (fail)
      refine wp_region_held_drew (S := fun w' => w'.heap[N]? = some (.cells ck.toArray 63 (0, 0)) ∧ w'.heap[N + 1]? = some (.cells cs.toArray 66 (0, 0))) (by kernel_rfl) ⟨E0.out, E1.out⟩ (fun hHeld => ?_)
      generalize w3.drew = W0 at *
      refine wpAnyH_take (i := 0) (oi := ⟨some 11, _, _, _, _, _⟩) (v := .agg ck.toArray) rfl (by kernel_rfl) (by kernel_rfl) (by kernel_rfl) (fun _ _ _ h => h) (yieldsIf_load_mid (by rfl) _ _ rfl _ _ rfl ck _ (fun w hS => Sm.range_row hS.1) Tryz.underlying63 rfl hick) (by assumption) ?_
      simp only [Act.put, List.setIfInBounds_toArray, List.set_cons_zero, List.set_cons_succ]
      refine wpAnyH_take (i := 1) (oi := ⟨some 12, _, _, _, _, _⟩) (v := .agg cs.toArray) rfl (by kernel_rfl) (by kernel_rfl) (by kernel_rfl) (fun _ _ _ h => h) (yieldsIf_load_mid (by rfl) _ _ rfl _ _ rfl cs _ (fun w hS => Sm.range_row hS.2) Tryz.underlying66 rfl hics) (by assumption) ?_
      simp only [Act.put, List.setIfInBounds_toArray, List.set_cons_zero, List.set_cons_succ]
      refine wpAnyH_take (i := 2) (oi := ⟨some 13, _, _, _, _, _⟩) (v := .string about) rfl (by kernel_rfl) (by kernel_rfl) (by kernel_rfl) (fun _ _ _ h => h) (Or.inl ⟨by rfl, ?_⟩) (by assumption) ?_
      · intro w hSw; (try dsimp only at hSw); go_simp
      simp only [Act.put, List.setIfInBounds_toArray, List.set_cons_zero, List.set_cons_succ]
      refine wpAnyH_take (i := 4) (oi := ⟨some 15, _, _, _, _, _⟩) (v := .pointer (some ⟨N + 1, 4, none⟩)) rfl (by kernel_rfl) (by kernel_rfl) (by kernel_rfl) (fun _ _ _ h => h) (Or.inl ⟨by rfl, ?_⟩) (by assumption) ?_
      · intro w hSw; (try dsimp only at hSw); go_simp
      simp only [Act.put, List.setIfInBounds_toArray, List.set_cons_zero, List.set_cons_succ]
      refine wpAnyH_take (i := 5) (oi := ⟨some 16, _, _, _, _, _⟩) (v := .agg tl.toArray) rfl (by kernel_rfl) (by kernel_rfl) (by kernel_rfl) (fun _ _ _ h => h) (yieldsIf_load_mid (by rfl) _ _ rfl _ _ rfl tl _ (fun w hS => TL.out _ hS.2) Tryz.underlying64 rfl hitl) (by assumption) ?_
      simp only [Act.put, List.setIfInBounds_toArray, List.set_cons_zero, List.set_cons_succ]
      refine wpAnyH_ready (rs := [3]) (by kernel_rfl) (by simp) ?_
      refine (AllReadyH.cons (o := ⟨some 14, _, _, _, _, _⟩) rfl (fun K hK => ?_) AllReadyH.nil)
      go_simp
      refine (TAG.out _).mono ?_
      rintro e w5 ⟨rfl, k5⟩
      have E0w5 := Lib.hid ((k5.block N (Sm.lt_of E0.out)).trans E0.out)
      have E1w5 := Lib.hid ((k5.block (N + 1) (Sm.lt_of E1.out)).trans E1.out)
      have EBw5 := Lib.hid (EB.out.trans (k5.mono (by have := Sm.lt_of E0.out; omega)))
      clear k5
      refine hK.out _ _ ⟨E0w5.out, E1w5.out⟩ (fun hHeld => ?_)
      clear hK K
      refine wpAnyH_take (i := 6) (oi := ⟨some 17, _, _, _, _, _⟩) (v := .bool false) rfl (by kernel_rfl) (by kernel_rfl) (by kernel_rfl) (fun _ _ _ h => h) (Or.inl ⟨by rfl, ?_⟩) (by assumption) ?_
      · intro w hSw; (try dsimp only at hSw); go_simp
      simp only [Act.put, List.setIfInBounds_toArray, List.set_cons_zero, List.set_cons_succ]
      refine wpAnyH_done (by kernel_rfl) ?_ _
      have c3 : w5.cell? ⟨N + 1, 3, none⟩ = some (.string x.data) := Sm.cells_of E1w5.out 3 _ (by rw [List.getElem?_toArray]; exact hcd)
      go_wp2_with (first | (with_reducible refine wpList_load_row rfl 63 (.tmp 3) rfl N rfl 63 ck.toArray (0, 0) _ (by exact E0w5.out) Tryz.underlying63 rfl hicka ?_) | (with_reducible refine wpList_load_row rfl 66 (.tmp 4) rfl (N + 1) rfl 66 cs.toArray (0, 0) _ (by exact E1w5.out) Tryz.underlying66 rfl hicsa ?_))
      refine (ST.out _).mono ?_
      rintro e w6 ⟨rfl, k6⟩
      go_wp2_with fail
      refine bodyPost_ret (results_tmp2 rfl _ _ _) rfl ?_
      exact ⟨rfl, EBw5.out.trans (k6.mono (by have := EBw5.out.size; have := HN.out; omega))⟩
    · rw [if_neg ht]
      rw [show (tg == x.tag) = false by rw [beq_eq_false_iff_ne]; exact fun h => ht h.symm] at hE1
      clear g0 g1 b2 hN hW2 hck hcs htg htc htl ht hr
      go_enter Tryz.func27, Tryz.ntmps27
      go_upto_region 1 with (fail)
      rw [← HW.out, ← HN.out]
      go_wp2_with (with_reducible refine wpList_load_row rfl 66 (.tmp 4) rfl (N + 1) rfl 66 cs.toArray (0, 0) _ (by exact G1.out) Tryz.underlying66 rfl hicsa ?_)
      refine (RI.out _).mono ?_
      rintro e w3 ⟨rfl, k3⟩
      have E0 : Hid (w3.drew.heap[N]? = some (.cells ck.toArray 63 (0, 0))) := (k3.block N (by omega)).trans G0.out
      have E1 : Hid (w3.drew.heap[N + 1]? = some (.cells cs.toArray 66 (0, 0))) := (k3.block (N + 1) (by omega)).trans G1.out
      have EB : Hid (Below N w w3.drew) := (B2.out.trans (k3.mono (by omega))).drew
      clear k3 G0 G1 B2 RI
      go_upto_region 3 with (fail)
      refine wp_region_held_drew (S := fun w' => w'.heap[N]? = some (.cells ck.toArray 63 (0, 0)) ∧ w'.heap[N + 1]? = some (.cells cs.toArray 66 (0, 0))) (by kernel_rfl) ⟨E0.out, E1.out⟩ (fun hHeld => ?_)
      generalize w3.drew = W0 at *
      refine wpAnyH_take (i := 0) (oi := ⟨some 11, _, _, _, _, _⟩) (v := .agg ck.toArray) rfl (by kernel_rfl) (by kernel_rfl) (by kernel_rfl) (fun _ _ _ h => h) (yieldsIf_load_mid (by rfl) _ _ rfl _ _ rfl ck _ (fun w hS => Sm.range_row hS.1) Tryz.underlying63 rfl hick) (by assumption) ?_
      simp only [Act.put, List.setIfInBounds_toArray, List.set_cons_zero, List.set_cons_succ]
      refine wpAnyH_take (i := 1) (oi := ⟨some 12, _, _, _, _, _⟩) (v := .agg cs.toArray) rfl (by kernel_rfl) (by kernel_rfl) (by kernel_rfl) (fun _ _ _ h => h) (yieldsIf_load_mid (by rfl) _ _ rfl _ _ rfl cs _ (fun w hS => Sm.range_row hS.2) Tryz.underlying66 rfl hics) (by assumption) ?_
      simp only [Act.put, List.setIfInBounds_toArray, List.set_cons_zero, List.set_cons_succ]
      refine wpAnyH_take (i := 2) (oi := ⟨some 13, _, _, _, _, _⟩) (v := .string about) rfl (by kernel_rfl) (by kernel_rfl) (by kernel_rfl) (fun _ _ _ h => h) (Or.inl ⟨by rfl, ?_⟩) (by assumption) ?_
      · intro w hSw; (try dsimp only at hSw); go_simp
      simp only [Act.put, List.setIfInBounds_toArray, List.set_cons_zero, List.set_cons_succ]
      refine wpAnyH_take (i := 4) (oi := ⟨some 15, _, _, _, _, _⟩) (v := .pointer (some ⟨N + 1, 4, none⟩)) rfl (by kernel_rfl) (by kernel_rfl) (by kernel_rfl) (fun _ _ _ h => h) (Or.inl ⟨by rfl, ?_⟩) (by assumption) ?_
      · intro w hSw; (try dsimp only at hSw); go_simp
      simp only [Act.put, List.setIfInBounds_toArray, List.set_cons_zero, List.set_cons_succ]
      refine wpAnyH_take (i := 5) (oi := ⟨some 16, _, _, _, _, _⟩) (v := .agg tl.toArray) rfl (by kernel_rfl) (by kernel_rfl) (by kernel_rfl) (fun _ _ _ h => h) (yieldsIf_load_mid (by rfl) _ _ rfl _ _ rfl tl _ (fun w hS => TL.out _ hS.2) Tryz.underlying64 rfl hitl) (by assumption) ?_
      simp only [Act.put, List.setIfInBounds_toArray, List.set_cons_zero, List.set_cons_succ]
      refine wpAnyH_ready (rs := [3]) (by kernel_rfl) (by simp) ?_
      refine (AllReadyH.cons (o := ⟨some 14, _, _, _, _, _⟩) rfl (fun K hK => ?_) AllReadyH.nil)
      go_simp
      refine (TAG.out _).mono ?_
      rintro e w5 ⟨rfl, k5⟩
      have E0w5 := Lib.hid ((k5.block N (Sm.lt_of E0.out)).trans E0.out)
      have E1w5 := Lib.hid ((k5.block (N + 1) (Sm.lt_of E1.out)).trans E1.out)
      have EBw5 := Lib.hid (EB.out.trans (k5.mono (by have := Sm.lt_of E0.out; omega)))
      clear k5
      refine hK.out _ _ ⟨E0w5.out, E1w5.out⟩ (fun hHeld => ?_)
      clear hK K
      refine wpAnyH_take (i := 6) (oi := ⟨some 17, _, _, _, _, _⟩) (v := .bool true) rfl (by kernel_rfl) (by kernel_rfl) (by kernel_rfl) (fun _ _ _ h => h) (Or.inl ⟨by rfl, ?_⟩) (by assumption) ?_
      · intro w hSw; (try dsimp only at hSw); go_simp
      simp only [Act.put, List.setIfInBounds_toArray, List.set_cons_zero, List.set_cons_succ]
      refine wpAnyH_done (by kernel_rfl) ?_ _
      go_wp2_with fail
      refine bodyPost_ret (results_tmp2 rfl _ _ _) rfl ?_
      exact ⟨rfl, EBw5.out⟩
  · rw [if_neg hr, decide_eq_false hr] at *
    clear g0 g1 b2 hN hW2 hck hcs hr
    go_enter Tryz.func27, Tryz.ntmps27
    go_upto_region 1 with (fail)
    rw [← HW.out, ← HN.out]
    go_wp2_with (with_reducible refine wpList_load_row rfl 66 (.tmp 4) rfl (N + 1) rfl 66 cs.toArray (0, 0) _ (by exact G1.out) Tryz.underlying66 rfl hicsa ?_)
    refine (RI.out _).mono ?_
    rintro e w3 ⟨rfl, k3⟩
    go_wp2_with fail
    refine bodyPost_ret (results_tmp2 rfl _ _ _) rfl ?_
    exact ⟨rfl, B2.out.trans (k3.mono (by omega))⟩
end Go.Proofs.YtibpgmcpcelmpaaGreatDoor
