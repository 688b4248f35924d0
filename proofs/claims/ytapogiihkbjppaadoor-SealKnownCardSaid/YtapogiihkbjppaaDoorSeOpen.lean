/-
  What seal's Open does.
-/
import Derived.Test.YtapogiihkbjppaaDoorSeClose
namespace Go.Proofs.YtapogiihkbjppaaDoor
open Go.RowKit Pk
namespace Se
/-- What Open answers. -/
def opened (k : List UInt8) (x : Env) (about : List UInt8) : List UInt8 × Nat :=
  if x.Right then (if x.tag = tagOf k x about then (strm k x.boot x.n x.data.data.toList, 0) else ([], 13)) else ([], 1)
end Se

set_option maxRecDepth 100000 in
set_option maxHeartbeats 1000000 in
theorem open_any {w : World} (hH : Sm.HAt w) (hK : Sm.KAt w) (hsz : 1 < w.heap.size) (k : List UInt8) (hk : k.length = 32) (x : Se.Env) (ok : x.Ok) (about : ByteArray) (ha : about.size ≤ 1099511627776) :
    Calls Tryd.prog 9 #[.agg (Lib.byteCells k).toArray, .agg x.cells.toArray, .string about] w fun e w' =>
      e = .returned (.tuple #[.string ⟨(Se.opened k x about.data.toList).1.toArray⟩, .int .i64 (Se.opened k x about.data.toList).2]) ∧ Below w.heap.size w w' := by
  obtain ⟨ckl, hck⟩ : ∃ c, c = Lib.byteCells k := ⟨_, rfl⟩
  have hckl : ckl.length = 32 := by rw [hck, Lib.byteCells_length, hk]
  have HH := Lib.hid hH
  have HK := Lib.hid hK
  have HCK := Lib.hid hck
  obtain ⟨cs, hcs⟩ : ∃ c, c = x.cells := ⟨_, rfl⟩
  have hcsl : cs.length = 36 := by rw [hcs]; exact Se.cells_length x ok.tag
  have hcss : cs.toArray.size = 36 := by rw [List.size_toArray, hcsl]
  have HCS := Lib.hid hcs
  obtain ⟨N, hN⟩ : ∃ N, N = w.heap.size := ⟨_, rfl⟩
  have hN1 : 1 < N := by omega
  have r0 : ((w.alloc (.cells ckl.toArray 23)).alloc (.cells cs.toArray 28)).heap[N]? = some (.cells ckl.toArray 23 (0, 0)) := by
    rw [hN, Below.heap_alloc _ _ _ (by simp)]; exact heap_alloc_new w _
  have r1 : ((w.alloc (.cells ckl.toArray 23)).alloc (.cells cs.toArray 28)).heap[N + 1]? = some (.cells cs.toArray 28 (0, 0)) := by
    rw [hN]
    simpa using heap_alloc_new (w.alloc (.cells ckl.toArray 23)) (.cells cs.toArray 28)
  have b2 : Below N w ((w.alloc (.cells ckl.toArray 23)).alloc (.cells cs.toArray 28)) := by
    rw [hN]; exact ((Below.refl _ w).alloc (Nat.le_refl _) _).alloc (by simp) _
  have s2 : ((w.alloc (.cells ckl.toArray 23)).alloc (.cells cs.toArray 28)).heap.size = N + 2 := by rw [hN]; simp
  have R0 := Lib.hid r0
  have R1 := Lib.hid r1
  have B2 := Lib.hid b2
  have hicl : (Tryd.prog.info? 23).map (·.size) = some ckl.toArray.size := by rw [List.size_toArray, hckl]; kernel_rfl
  rw [← hck, ← hcs, ← hN]
  have HN := Lib.hid hN
  have RI : Hid (∀ wx : World, Calls Tryd.prog 22 #[.agg cs.toArray] wx fun e w' => e = .returned (.bool (decide x.Right)) ∧ Below wx.heap.size wx w') := fun wx => by
    rw [hcs]; exact right_any wx x ok
  clear hck hcs hN hH hK r0 r1 b2
  unfold Se.opened
  by_cases hr : x.Right
  · rw [if_pos hr]
    rw [decide_eq_true hr] at RI
    have TL : Hid (∀ wx : World, wx.heap[N + 1]? = some (.cells cs.toArray 28 (0, 0)) → wx.rangeAt (N + 1) 4 (Lib.byteCells x.tag)) := fun wx h j v hv => by
      rw [HCS.out] at h
      have hj := (List.getElem?_eq_some_iff.1 hv).1
      rw [Lib.byteCells_length] at hj
      rw [Se.EnvAt.tag h j hj, ← hv, Sm.byteCells_get hj]
    have hxl : (Lib.byteCells x.tag).length = 32 := by rw [Lib.byteCells_length, ok.tag]
    have hgl := Se.tagOf_length k x about.data.toList
    obtain ⟨tg, htg⟩ : ∃ t, t = Se.tagOf k x about.data.toList := ⟨_, rfl⟩
    have TAG : Hid (∀ wx : World, Sm.HAt wx → Sm.KAt wx → 1 < wx.heap.size → Calls Tryd.prog 21 #[.agg ckl.toArray, .agg cs.toArray, .string about] wx fun e w' => e = .returned (.agg (Lib.byteCells tg).toArray) ∧ Below wx.heap.size wx w') := fun wx h1 h2 h3 => by
      rw [HCK.out, HCS.out, htg]
      exact tagOf_any h1 h2 h3 k hk x ok hr.1.1 about ha (Nat.le_trans hr.2 (by decide))
    rw [← htg] at hgl ⊢
    have EQ := Lib.hid (equal_any x.tag tg ok.tag hgl)
    obtain ⟨tl, htl⟩ : ∃ t, t = Lib.byteCells x.tag := ⟨_, rfl⟩
    rw [← htl] at TL EQ hxl
    obtain ⟨tc, htc⟩ : ∃ t, t = (Lib.byteCells tg).toArray := ⟨_, rfl⟩
    rw [← htc] at TAG EQ
    have hitl : (Tryd.prog.info? 26).map (·.size) = some tl.length := by rw [hxl]; kernel_rfl
    have hick : (Tryd.prog.info? 23).map (·.size) = some ckl.length := by rw [hckl]; kernel_rfl
    have hics : (Tryd.prog.info? 28).map (·.size) = some cs.length := by rw [hcsl]; kernel_rfl
    have HTG := Lib.hid htg
    clear htg htl htc hgl hxl hicl
    by_cases he : x.tag = tg
    · rw [if_pos he]
      rw [beq_iff_eq.2 he] at EQ
      go_enter Tryd.func9, Tryd.ntmps9
      go_upto_region 1 with (fail)
      rw [← HN.out]
      generalize (w.alloc (.cells ckl.toArray 23)).alloc (.cells cs.toArray 28) = W2 at *
      go_wp2_with (with_reducible refine wpList_load_row rfl 28 (.tmp 4) rfl (N + 1) rfl 28 cs.toArray (0, 0) _ (by exact R1.out) Tryd.underlying28 rfl (Se.infoEnv hcss) ?_)
      refine (RI.out _).mono ?_
      rintro e w3 ⟨rfl, k3⟩
      have P3 := Lib.hid ((k3.block N (by omega)).trans R0.out)
      have Q3 := Lib.hid ((k3.block (N + 1) (by omega)).trans R1.out)
      have B3 := Lib.hid (B2.out.trans (k3.mono (by omega)))
      have s3 := k3.size
      clear k3 R0 R1 B2 RI
      have P3 : Hid (w3.drew.heap[N]? = some (.cells ckl.toArray 23 (0, 0))) := P3.out
      have Q3 : Hid (w3.drew.heap[N + 1]? = some (.cells cs.toArray 28 (0, 0))) := Q3.out
      have B3 : Hid (Below N w w3.drew) := B3.out.drew
      have s3 : W2.heap.size ≤ w3.drew.heap.size := s3
      have T3 := Lib.hid (TL.out _ Q3.out)
      go_upto_region 3 with (fail)
      refine wp_region_held_drew (S := fun w' => w'.rangeAt N 0 ckl ∧ w'.rangeAt (N + 1) 0 cs ∧ w'.rangeAt (N + 1) 4 tl) (by kernel_rfl) ⟨Sm.range_row P3.out, Sm.range_row Q3.out, T3.out⟩ (fun hHeld => ?_)
      refine wpAnyH_take (i := 0) (oi := ⟨some 11, _, _, _, _, _⟩) (v := .pointer (some ⟨N + 1, 4, none⟩)) rfl (by kernel_rfl) (by kernel_rfl) (by kernel_rfl) (fun _ _ _ h => h) (Or.inl ⟨by rfl, ?_⟩) (by assumption) ?_
      · intro w hSw; (try dsimp only at hSw); go_simp
      simp only [Act.put, List.setIfInBounds_toArray, List.set_cons_zero, List.set_cons_succ]
      refine wpAnyH_take (i := 1) (oi := ⟨some 12, _, _, _, _, _⟩) (v := .agg tl.toArray) rfl (by kernel_rfl) (by kernel_rfl) (by kernel_rfl) (fun _ _ _ h => h) (yieldsIf_load_mid (by rfl) _ _ rfl _ _ rfl tl _ (fun w hS => hS.2.2) Tryd.underlying26 rfl hitl) (by assumption) ?_
      simp only [Act.put, List.setIfInBounds_toArray, List.set_cons_zero, List.set_cons_succ]
      refine wpAnyH_take (i := 2) (oi := ⟨some 13, _, _, _, _, _⟩) (v := .agg ckl.toArray) rfl (by kernel_rfl) (by kernel_rfl) (by kernel_rfl) (fun _ _ _ h => h) (yieldsIf_load_mid (by rfl) _ _ rfl _ _ rfl ckl _ (fun w hS => hS.1) Tryd.underlying23 rfl hick) (by assumption) ?_
      simp only [Act.put, List.setIfInBounds_toArray, List.set_cons_zero, List.set_cons_succ]
      refine wpAnyH_take (i := 3) (oi := ⟨some 14, _, _, _, _, _⟩) (v := .agg cs.toArray) rfl (by kernel_rfl) (by kernel_rfl) (by kernel_rfl) (fun _ _ _ h => h) (yieldsIf_load_mid (by rfl) _ _ rfl _ _ rfl cs _ (fun w hS => hS.2.1) Tryd.underlying28 rfl hics) (by assumption) ?_
      simp only [Act.put, List.setIfInBounds_toArray, List.set_cons_zero, List.set_cons_succ]
      refine wpAnyH_take (i := 4) (oi := ⟨some 15, _, _, _, _, _⟩) (v := .string about) rfl (by kernel_rfl) (by kernel_rfl) (by kernel_rfl) (fun _ _ _ h => h) (Or.inl ⟨by rfl, ?_⟩) (by assumption) ?_
      · intro w hSw; (try dsimp only at hSw); go_simp
      simp only [Act.put, List.setIfInBounds_toArray, List.set_cons_zero, List.set_cons_succ]
      refine wpAnyH_ready (rs := [5]) (by kernel_rfl) (by simp) ?_
      refine AllReadyH.cons (o := ⟨some 16, _, _, _, _, _⟩) rfl (fun K hK => ?_) AllReadyH.nil
      go_simp
      refine (TAG.out _ (HH.out.low B3.out (by omega)) (HK.out.low B3.out hN1) (by omega)).mono ?_
      rintro e w4 ⟨rfl, k4⟩
      have P4 := Lib.hid ((k4.block N (by omega)).trans P3.out)
      have Q4 := Lib.hid ((k4.block (N + 1) (by omega)).trans Q3.out)
      have T4 := Lib.hid (TL.out _ Q4.out)
      have B4 := Lib.hid (B3.out.trans (k4.mono (by omega)))
      have s4 := k4.size
      clear k4
      refine hK.out _ _ ⟨Sm.range_row P4.out, Sm.range_row Q4.out, T4.out⟩ (fun hHeld => ?_)
      clear hK K
      refine wpAnyH_ready (rs := [6]) (by kernel_rfl) (by simp) ?_
      refine AllReadyH.cons (o := ⟨some 17, _, _, _, _, _⟩) rfl (fun K hK => ?_) AllReadyH.nil
      go_simp
      refine (EQ.out _).mono ?_
      rintro e w5 ⟨rfl, k5⟩
      have P5 := Lib.hid ((k5.block N (by omega)).trans P4.out)
      have Q5 := Lib.hid ((k5.block (N + 1) (by omega)).trans Q4.out)
      have T5 := Lib.hid (TL.out _ Q5.out)
      have B5 := Lib.hid (B4.out.trans (k5.mono (by omega)))
      have s5 := k5.size
      clear k5
      refine hK.out _ _ ⟨Sm.range_row P5.out, Sm.range_row Q5.out, T5.out⟩ (fun hHeld => ?_)
      clear hK K
      refine wpAnyH_take (i := 7) (oi := ⟨some 18, _, _, _, _, _⟩) (v := .bool false) rfl (by kernel_rfl) (by kernel_rfl) (by kernel_rfl) (fun _ _ _ h => h) (Or.inl ⟨by rfl, ?_⟩) (by assumption) ?_
      · intro w hSw; (try dsimp only at hSw); go_simp
      simp only [Act.put, List.setIfInBounds_toArray, List.set_cons_zero, List.set_cons_succ]
      refine wpAnyH_done (by kernel_rfl) ?_ _
      have STR : Hid (∀ wx : World, Sm.HAt wx → Sm.KAt wx → 1 < wx.heap.size → Calls Tryd.prog 20 #[.agg ckl.toArray, .agg cs.toArray, .string x.data] wx fun e w' => e = .returned (.string ⟨(Se.strm k x.boot x.n x.data.data.toList).toArray⟩) ∧ Below wx.heap.size wx w') := fun wx h1 h2 h3 => by
        rw [HCK.out, HCS.out]
        exact streamed_any h1 h2 h3 k hk x x.data (Nat.le_trans hr.2 (by decide))
      have c5 : w5.cell? ⟨N + 1, 3, none⟩ = some (.string x.data) := by
        have h := Q5.out
        rw [HCS.out] at h
        exact (Se.EnvAt.cell h).2.2.2
      have hick2 : (Tryd.prog.info? 23).map (·.size) = some ckl.toArray.size := by rw [List.size_toArray]; exact hick
      go_wp2_with (first | (with_reducible refine wpList_load_row rfl 23 (.tmp 3) rfl N rfl 23 ckl.toArray (0, 0) _ (by exact P5.out) Tryd.underlying23 rfl hick2 ?_) | (with_reducible refine wpList_load_row rfl 28 (.tmp 4) rfl (N + 1) rfl 28 cs.toArray (0, 0) _ (by exact Q5.out) Tryd.underlying28 rfl (Se.infoEnv hcss) ?_))
      refine (STR.out _ (HH.out.low B5.out (by omega)) (HK.out.low B5.out hN1) (by omega)).mono ?_
      rintro e w6 ⟨rfl, k6⟩
      go_wp2_with fail
      refine bodyPost_ret (results_tmp2 rfl _ _ _) rfl ?_
      exact ⟨rfl, B5.out.trans (k6.mono (by omega))⟩
    · rw [if_neg he]
      rw [beq_eq_false_iff_ne.2 he] at EQ
      show Calls _ _ _ _ fun e w' => e = .returned (.tuple #[.string ⟨#[]⟩, .int .i64 13]) ∧ Below N w w'
      go_enter Tryd.func9, Tryd.ntmps9
      go_upto_region 1 with (fail)
      rw [← HN.out]
      generalize (w.alloc (.cells ckl.toArray 23)).alloc (.cells cs.toArray 28) = W2 at *
      go_wp2_with (with_reducible refine wpList_load_row rfl 28 (.tmp 4) rfl (N + 1) rfl 28 cs.toArray (0, 0) _ (by exact R1.out) Tryd.underlying28 rfl (Se.infoEnv hcss) ?_)
      refine (RI.out _).mono ?_
      rintro e w3 ⟨rfl, k3⟩
      have P3 := Lib.hid ((k3.block N (by omega)).trans R0.out)
      have Q3 := Lib.hid ((k3.block (N + 1) (by omega)).trans R1.out)
      have B3 := Lib.hid (B2.out.trans (k3.mono (by omega)))
      have s3 := k3.size
      clear k3 R0 R1 B2 RI
      have P3 : Hid (w3.drew.heap[N]? = some (.cells ckl.toArray 23 (0, 0))) := P3.out
      have Q3 : Hid (w3.drew.heap[N + 1]? = some (.cells cs.toArray 28 (0, 0))) := Q3.out
      have B3 : Hid (Below N w w3.drew) := B3.out.drew
      have s3 : W2.heap.size ≤ w3.drew.heap.size := s3
      have T3 := Lib.hid (TL.out _ Q3.out)
      go_upto_region 3 with (fail)
      refine wp_region_held_drew (S := fun w' => w'.rangeAt N 0 ckl ∧ w'.rangeAt (N + 1) 0 cs ∧ w'.rangeAt (N + 1) 4 tl) (by kernel_rfl) ⟨Sm.range_row P3.out, Sm.range_row Q3.out, T3.out⟩ (fun hHeld => ?_)
      refine wpAnyH_take (i := 0) (oi := ⟨some 11, _, _, _, _, _⟩) (v := .pointer (some ⟨N + 1, 4, none⟩)) rfl (by kernel_rfl) (by kernel_rfl) (by kernel_rfl) (fun _ _ _ h => h) (Or.inl ⟨by rfl, ?_⟩) (by assumption) ?_
      · intro w hSw; (try dsimp only at hSw); go_simp
      simp only [Act.put, List.setIfInBounds_toArray, List.set_cons_zero, List.set_cons_succ]
      refine wpAnyH_take (i := 1) (oi := ⟨some 12, _, _, _, _, _⟩) (v := .agg tl.toArray) rfl (by kernel_rfl) (by kernel_rfl) (by kernel_rfl) (fun _ _ _ h => h) (yieldsIf_load_mid (by rfl) _ _ rfl _ _ rfl tl _ (fun w hS => hS.2.2) Tryd.underlying26 rfl hitl) (by assumption) ?_
      simp only [Act.put, List.setIfInBounds_toArray, List.set_cons_zero, List.set_cons_succ]
      refine wpAnyH_take (i := 2) (oi := ⟨some 13, _, _, _, _, _⟩) (v := .agg ckl.toArray) rfl (by kernel_rfl) (by kernel_rfl) (by kernel_rfl) (fun _ _ _ h => h) (yieldsIf_load_mid (by rfl) _ _ rfl _ _ rfl ckl _ (fun w hS => hS.1) Tryd.underlying23 rfl hick) (by assumption) ?_
      simp only [Act.put, List.setIfInBounds_toArray, List.set_cons_zero, List.set_cons_succ]
      refine wpAnyH_take (i := 3) (oi := ⟨some 14, _, _, _, _, _⟩) (v := .agg cs.toArray) rfl (by kernel_rfl) (by kernel_rfl) (by kernel_rfl) (fun _ _ _ h => h) (yieldsIf_load_mid (by rfl) _ _ rfl _ _ rfl cs _ (fun w hS => hS.2.1) Tryd.underlying28 rfl hics) (by assumption) ?_
      simp only [Act.put, List.setIfInBounds_toArray, List.set_cons_zero, List.set_cons_succ]
      refine wpAnyH_take (i := 4) (oi := ⟨some 15, _, _, _, _, _⟩) (v := .string about) rfl (by kernel_rfl) (by kernel_rfl) (by kernel_rfl) (fun _ _ _ h => h) (Or.inl ⟨by rfl, ?_⟩) (by assumption) ?_
      · intro w hSw; (try dsimp only at hSw); go_simp
      simp only [Act.put, List.setIfInBounds_toArray, List.set_cons_zero, List.set_cons_succ]
      refine wpAnyH_ready (rs := [5]) (by kernel_rfl) (by simp) ?_
      refine AllReadyH.cons (o := ⟨some 16, _, _, _, _, _⟩) rfl (fun K hK => ?_) AllReadyH.nil
      go_simp
      refine (TAG.out _ (HH.out.low B3.out (by omega)) (HK.out.low B3.out hN1) (by omega)).mono ?_
      rintro e w4 ⟨rfl, k4⟩
      have P4 := Lib.hid ((k4.block N (by omega)).trans P3.out)
      have Q4 := Lib.hid ((k4.block (N + 1) (by omega)).trans Q3.out)
      have T4 := Lib.hid (TL.out _ Q4.out)
      have B4 := Lib.hid (B3.out.trans (k4.mono (by omega)))
      have s4 := k4.size
      clear k4
      refine hK.out _ _ ⟨Sm.range_row P4.out, Sm.range_row Q4.out, T4.out⟩ (fun hHeld => ?_)
      clear hK K
      refine wpAnyH_ready (rs := [6]) (by kernel_rfl) (by simp) ?_
      refine AllReadyH.cons (o := ⟨some 17, _, _, _, _, _⟩) rfl (fun K hK => ?_) AllReadyH.nil
      go_simp
      refine (EQ.out _).mono ?_
      rintro e w5 ⟨rfl, k5⟩
      have P5 := Lib.hid ((k5.block N (by omega)).trans P4.out)
      have Q5 := Lib.hid ((k5.block (N + 1) (by omega)).trans Q4.out)
      have T5 := Lib.hid (TL.out _ Q5.out)
      have B5 := Lib.hid (B4.out.trans (k5.mono (by omega)))
      have s5 := k5.size
      clear k5
      refine hK.out _ _ ⟨Sm.range_row P5.out, Sm.range_row Q5.out, T5.out⟩ (fun hHeld => ?_)
      clear hK K
      refine wpAnyH_take (i := 7) (oi := ⟨some 18, _, _, _, _, _⟩) (v := .bool true) rfl (by kernel_rfl) (by kernel_rfl) (by kernel_rfl) (fun _ _ _ h => h) (Or.inl ⟨by rfl, ?_⟩) (by assumption) ?_
      · intro w hSw; (try dsimp only at hSw); go_simp
      simp only [Act.put, List.setIfInBounds_toArray, List.set_cons_zero, List.set_cons_succ]
      refine wpAnyH_done (by kernel_rfl) ?_ _
      go_wp2_with fail
      refine bodyPost_ret (results_tmp2 rfl _ _ _) rfl ?_
      exact ⟨rfl, B5.out⟩
  · rw [if_neg hr]
    rw [decide_eq_false hr] at RI
    show Calls _ _ _ _ fun e w' => e = .returned (.tuple #[.string ⟨#[]⟩, .int .i64 1]) ∧ Below N w w'
    go_enter Tryd.func9, Tryd.ntmps9
    go_upto_region 1 with (fail)
    rw [← HN.out]
    generalize (w.alloc (.cells ckl.toArray 23)).alloc (.cells cs.toArray 28) = W2 at *
    go_wp2_with (with_reducible refine wpList_load_row rfl 28 (.tmp 4) rfl (N + 1) rfl 28 cs.toArray (0, 0) _ (by exact R1.out) Tryd.underlying28 rfl (Se.infoEnv hcss) ?_)
    refine (RI.out _).mono ?_
    rintro e w3 ⟨rfl, k3⟩
    go_wp2_with fail
    refine bodyPost_ret (results_tmp2 rfl _ _ _) rfl ?_
    exact ⟨rfl, B2.out.trans (k3.mono (by omega))⟩
end Go.Proofs.YtapogiihkbjppaaDoor
