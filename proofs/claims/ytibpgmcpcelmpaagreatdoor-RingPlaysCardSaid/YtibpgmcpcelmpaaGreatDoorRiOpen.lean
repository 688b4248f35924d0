/-
  What ring's Open does.
-/
import Derived.Test.YtibpgmcpcelmpaaGreatDoorRiWrap
import Derived.Test.YtibpgmcpcelmpaaGreatDoorSeOne
import Derived.Test.YtibpgmcpcelmpaaGreatDoorSeRead
namespace Go.Proofs.YtibpgmcpcelmpaaGreatDoor
open Go.RowKit
namespace Ri
/-- What Open answers. -/
def OpenPost (w : World) (r m : Nat) (M : ByteArray) (boot n : Nat) (cur : Int) (b : ByteArray) (about : List UInt8) (e : Ending) (w' : World) : Prop :=
  e = .returned (.tuple #[.string ⟨(opens M.data.toList cur b about).1.toArray⟩, .int .i64 (opens M.data.toList cur b about).2]) ∧ RingAt w' r m M boot n cur ∧ Turned w w' r m
theorem _root_.Go.Proofs.YtibpgmcpcelmpaaGreatDoor.Se.infoEnv2 {c : List Value} (h : c.length = 36) : (Tryz.prog.info? 66).map (·.size) = some c.length := by rw [h]; kernel_rfl
theorem zero_ok : Se.zero.Ok := ⟨by decide, by decide, by decide, by decide, by rfl⟩
end Ri

set_option maxRecDepth 100000 in
theorem rgOpen_none {w : World} {v : Value} (h : Ri.None w v) (b about : ByteArray) :
    Calls Tryz.prog 9 #[v, .string b, .string about] w fun e w' => e = .returned (.tuple #[.string ⟨#[]⟩, .int .i64 2]) ∧ w = w' := by
  have NO := Lib.hid (rgNone_is h)
  clear h
  go_enter Tryz.func9, Tryz.ntmps9
  go_wp2_with fail
  refine (NO.out).mono ?_
  rintro e w1 ⟨rfl, rfl⟩
  go_wp2_with fail
  refine bodyPost_ret (results_tmp2 rfl _ _ _) rfl ?_
  exact ⟨rfl, rfl⟩

set_option maxRecDepth 100000 in
set_option maxHeartbeats 4000000 in
theorem rgOpen_any {w : World} (hH : Sm.HAt w) (hK : Sm.KAt w) {r m : Nat} {M : ByteArray} (hM : M.size ≤ 1152921504606846976) {boot n : Nat} {cur : Int} (h : Ri.RingAt w r m M boot n cur)
    (b about : ByteArray) (hbs : b.size ≤ 281474976710656) (ha : about.size ≤ 1099511627776) :
    Calls Tryz.prog 9 #[.pointer (some ⟨r, 0, none⟩), .string b, .string about] w (Ri.OpenPost w r m M boot n cur b about.data.toList) := by
  have NO := Lib.hid (rgNone_not h)
  have H := Lib.hid h
  have HH := Lib.hid hH
  have HK := Lib.hid hK
  have h22 := h.two hH hK
  have hsz2 : 2 ≤ w.heap.size := by have := h.lt.1; omega
  have hz1 := (zero_of_info Se.zeroEnv).1
  have hzs : Se.zero.cells.toArray.size = 36 := Se.cells_length _ (by rfl)
  obtain ⟨z0, hz0⟩ : ∃ z, z = Se.zero.cells.toArray := ⟨_, rfl⟩
  rw [← hz0] at hz1 hzs
  obtain ⟨en, hen⟩ : ∃ e, e = (Se.read b).1 := ⟨_, rfl⟩
  obtain ⟨er, her⟩ : ∃ e, e = (Se.read b).2 := ⟨_, rfl⟩
  obtain ⟨ce, hce⟩ : ∃ c, c = en.cells := ⟨_, rfl⟩
  have hok : en.Ok := by
    rw [hen, Se.read]
    split
    · exact Se.got_ok b
    · exact Ri.zero_ok
  have hcel : ce.length = 36 := by rw [hce]; exact Se.cells_length _ hok.tag
  have hceo : ce.toArray.all (·.oneCell') = true := by rw [hce]; exact Se.cells_one _
  have RD : Hid (∀ wx : World, Calls Tryz.prog 24 #[.string b] wx fun e w' => e = .returned (.tuple #[.agg ce.toArray, .int .i64 er]) ∧ Below wx.heap.size wx w') := fun wx => by
    rw [hce, hen, her]; exact read5_any wx b hbs
  have HO : Hid (Ri.opens M.data.toList cur b about.data.toList = if er = 0 then (if en.key ≤ cur then Se.opened (Ri.key M.data.toList en.key) en about.data.toList else ([], 20)) else ([], er)) := by
    show _ = _
    rw [hen, her]; rfl
  have hc0 : ce[0]? = some (.int .i64 en.key) := by rw [hce]; rfl
  have HCE := Lib.hid hce
  have hkb := hok.key
  have HOK := Lib.hid hok
  have CU : Hid (∀ wx : World, Ri.RingAt wx r m M boot n cur → Calls Tryz.prog 14 #[.pointer (some ⟨r, 0, none⟩)] wx fun e w' => e = .returned (.int .i64 cur) ∧ wx = w') := fun wx q => rgCurrent_any q
  have hst : ∀ wx : World, (storeCells ⟨wx.heap.size, 0, none⟩ ce).run Tryz.prog (wx.alloc (.cells z0 66)) = .ok () (wx.alloc (.cells ce.toArray 66)) := fun wx =>
    run_storeCells_new (P := Tryz.prog) wx 66 z0 _ (Se.infoEnv (by rw [List.size_toArray, hcel])) (by rw [hzs, List.size_toArray, hcel]) hceo
  unfold Ri.OpenPost
  rw [HO.out]
  clear h hH hK hz0 hen her hce hok HO
  by_cases h0 : er = 0
  · rw [if_pos h0]
    rw [h0] at RD
    clear h0
    by_cases hk : en.key ≤ cur
    · rw [if_pos hk]
      have hk2 : ¬ cur < en.key := by omega
      obtain ⟨ck, hck⟩ : ∃ c, c = Lib.byteCells (Ri.key M.data.toList en.key) := ⟨_, rfl⟩
      have KEYC : Hid (∀ wx : World, Sm.HAt wx → Sm.KAt wx → Ri.RingAt wx r m M boot n cur → Calls Tryz.prog 22 #[.pointer (some ⟨r, 0, none⟩), .int .i64 en.key] wx fun e w' => e = .returned (.agg ck.toArray) ∧ Ri.RingAt w' r m M boot n cur ∧ wx.grownBy w' (some m)) := fun wx a b c => by
        rw [hck]; exact rgkey_any a b hM c en.key
      obtain ⟨os, hos⟩ : ∃ o : ByteArray, o = ⟨(Se.opened (Ri.key M.data.toList en.key) en about.data.toList).1.toArray⟩ := ⟨_, rfl⟩
      obtain ⟨oe, hoe⟩ : ∃ o : Nat, o = (Se.opened (Ri.key M.data.toList en.key) en about.data.toList).2 := ⟨_, rfl⟩
      have OPEN : Hid (∀ wx : World, Sm.HAt wx → Sm.KAt wx → 1 < wx.heap.size → Calls Tryz.prog 25 #[.agg ck.toArray, .agg ce.toArray, .string about] wx fun e w' => e = .returned (.tuple #[.string os, .int .i64 oe]) ∧ Below wx.heap.size wx w') := fun wx a b c => by
        rw [hck, HCE.out, hos, hoe]
        exact open_any a b c (Ri.key M.data.toList en.key) (Ri.key_length _ _) en HOK.out about ha
      rw [← hos, ← hoe]
      clear hck hos hoe
      go_enter Tryz.func9, Tryz.ntmps9
      go_wp2_with fail
      refine (NO.out).mono ?_
      rintro e w1 ⟨rfl, rfl⟩
      go_wp2_with fail
      refine (RD.out _).mono ?_
      rintro e w2 ⟨rfl, k2⟩
      have RA2 := Lib.hid (H.out.below k2 (Nat.le_refl _))
      have TU2 := Lib.hid (Ri.Turned.of_below (r := r) (m := m) k2)
      clear k2 NO RD
      have hst2 := hst w2
      clear hst
      go_upto_region 6 with (fail)
      have HE3 := Lib.hid (heap_alloc_new w2 (.cells ce.toArray 66))
      have RA3 := Lib.hid (RA2.out.alloc (.cells ce.toArray 66))
      have TU3 := Lib.hid (TU2.out.alloc (.cells ce.toArray 66))
      clear hst2
      generalize w2.alloc (.cells ce.toArray 66) = w3 at *
      obtain ⟨E, hE⟩ : ∃ E, E = w2.heap.size := ⟨_, rfl⟩
      rw [← hE] at HE3 ⊢
      clear hE RA2 TU2
      have c0 : w3.cell? ⟨E, 0, none⟩ = some (.int .i64 en.key) := Sm.cells_of HE3.out 0 _ (by rw [List.getElem?_toArray]; exact hc0)
      have CUD : Hid (∀ k, Calls Tryz.prog 14 #[.pointer (some ⟨r, 0, none⟩)] (w3.drewN k) fun e w' => e = .returned (.int .i64 cur) ∧ w3.drewN k = w') := fun k => CU.out _ (RA3.out.drewN k)
      go_quiet ((first
        | (go_at_call 14; with_reducible exact Sm.q_one (CUD.out _))
        | (go_at_call 14; with_reducible exact Sm.q_more (CUD.out _))))
      generalize hw3 : w3.drewN _ = w4
      have HE4 : Hid (w4.heap[E]? = some (.cells ce.toArray 66 (0, 0))) := by
        show _ = _
        rw [← hw3]; exact HE3.out
      have RA4 : Hid (Ri.RingAt w4 r m M boot n cur) := by
        show Ri.RingAt _ _ _ _ _ _ _
        rw [← hw3]; exact RA3.out.drewN _
      have TU4 : Hid (Ri.Turned w w4 r m) := by
        show Ri.Turned _ _ _ _
        rw [← hw3]; exact TU3.out.drewN _
      have hc0a : ce.toArray[0]? = some (.int .i64 en.key) := by rw [List.getElem?_toArray]; exact hc0
      clear hw3 HE3 RA3 TU3 c0 CUD CU hc0
      go_upto_region 8 with (fail)
      refine wp_region_held_drew (S := fun w' => w'.heap[E]? = some (.cells ce.toArray 66 (0, 0))) (by kernel_rfl) HE4.out (fun hHeld => ?_)
      refine wpAnyH_take (i := 0) (oi := ⟨some 25, _, _, _, _, _⟩) (v := .pointer (some ⟨r, 0, none⟩)) rfl (by kernel_rfl) (by kernel_rfl) (by kernel_rfl) (fun _ _ _ h => h) (Or.inl ⟨by rfl, ?_⟩) (by assumption) ?_
      · intro w hSw; (try dsimp only at hSw); go_simp
      simp only [Act.put, List.setIfInBounds_toArray, List.set_cons_zero, List.set_cons_succ]
      refine wpAnyH_take (i := 1) (oi := ⟨some 26, _, _, _, _, _⟩) (v := .pointer (some ⟨E, 0, none⟩)) rfl (by kernel_rfl) (by kernel_rfl) (by kernel_rfl) (fun _ _ _ h => h) (Or.inl ⟨by rfl, ?_⟩) (by assumption) ?_
      · intro w hSw; (try dsimp only at hSw); go_simp
      simp only [Act.put, List.setIfInBounds_toArray, List.set_cons_zero, List.set_cons_succ]
      refine wpAnyH_take (i := 2) (oi := ⟨some 27, _, _, _, _, _⟩) (v := .int .i64 en.key) rfl (by kernel_rfl) (by kernel_rfl) (by kernel_rfl) (fun _ _ _ h => h) (Or.inl ⟨by rfl, ?_⟩) (by assumption) ?_
      · intro w hSw; (try dsimp only at hSw); have c := Sm.cells_of hSw 0 _ hc0a; go_simp
      simp only [Act.put, List.setIfInBounds_toArray, List.set_cons_zero, List.set_cons_succ]
      refine wpAnyH_take (i := 4) (oi := ⟨some 29, _, _, _, _, _⟩) (v := .agg ce.toArray) rfl (by kernel_rfl) (by kernel_rfl) (by kernel_rfl) (fun _ _ _ h => h) (yieldsIf_load_mid (by rfl) _ _ rfl _ _ rfl ce _ (fun w hS => Sm.range_row hS) Tryz.underlying66 rfl (Se.infoEnv2 hcel)) (by assumption) ?_
      simp only [Act.put, List.setIfInBounds_toArray, List.set_cons_zero, List.set_cons_succ]
      refine wpAnyH_take (i := 5) (oi := ⟨some 30, _, _, _, _, _⟩) (v := .string about) rfl (by kernel_rfl) (by kernel_rfl) (by kernel_rfl) (fun _ _ _ h => h) (Or.inl ⟨by rfl, ?_⟩) (by assumption) ?_
      · intro w hSw; (try dsimp only at hSw); go_simp
      simp only [Act.put, List.setIfInBounds_toArray, List.set_cons_zero, List.set_cons_succ]
      refine wpAnyH_ready (rs := [3]) (by kernel_rfl) (by simp) ?_
      refine (AllReadyH.cons (o := ⟨some 28, _, _, _, _, _⟩) rfl (fun K hK => ?_) AllReadyH.nil)
      go_simp
      refine (KEYC.out _ (HH.out.low ((TU4.out.drew).low h22 hsz2) (by decide)) (HK.out.low ((TU4.out.drew).low h22 hsz2) (by decide)) RA4.out.drew).mono ?_
      rintro e w5 ⟨rfl, ra5, gr5⟩
      have RA5 := Lib.hid ra5
      have TU5 := Lib.hid (TU4.out.drew.trans (Ri.Turned.of_grown gr5))
      have HE5 := Lib.hid (Ri.grown_ring gr5 RA4.out.drew (show w4.drew.heap[E]? = _ from HE4.out))
      clear ra5 gr5
      refine hK.out _ _ HE5.out (fun hHeld => ?_)
      clear hK K
      refine wpAnyH_ready (rs := [6]) (by kernel_rfl) (by simp) ?_
      refine (AllReadyH.cons (o := ⟨some 31, _, _, _, _, _⟩) rfl (fun K hK => ?_) AllReadyH.nil)
      go_simp
      refine (OPEN.out _ (HH.out.low (TU5.out.low h22 hsz2) (by decide)) (HK.out.low (TU5.out.low h22 hsz2) (by decide)) (by have := TU5.out.size; omega)).mono ?_
      rintro e w6 ⟨rfl, bl6⟩
      have RA6 := Lib.hid (RA5.out.below bl6 (Nat.le_refl _))
      have TU6 := Lib.hid (TU5.out.trans (Ri.Turned.of_below bl6))
      have HE6 := Lib.hid ((bl6.block E (Sm.lt_of HE5.out)).trans HE5.out)
      clear bl6
      refine hK.out _ _ HE6.out (fun hHeld => ?_)
      clear hK K
      refine wpAnyH_take (i := 7) (oi := ⟨some 32, _, _, _, _, _⟩) (v := .string os) rfl (by kernel_rfl) (by kernel_rfl) (by kernel_rfl) (fun _ _ _ h => h) (Or.inl ⟨by rfl, ?_⟩) (by assumption) ?_
      · intro w hSw; (try dsimp only at hSw); go_simp
      simp only [Act.put, List.setIfInBounds_toArray, List.set_cons_zero, List.set_cons_succ]
      refine wpAnyH_take (i := 8) (oi := ⟨some 33, _, _, _, _, _⟩) (v := .int .i64 oe) rfl (by kernel_rfl) (by kernel_rfl) (by kernel_rfl) (fun _ _ _ h => h) (Or.inl ⟨by rfl, ?_⟩) (by assumption) ?_
      · intro w hSw; (try dsimp only at hSw); go_simp
      simp only [Act.put, List.setIfInBounds_toArray, List.set_cons_zero, List.set_cons_succ]
      refine wpAnyH_take (i := 9) (oi := ⟨some 6, _, _, _, _, _⟩) (v := .string os) rfl (by kernel_rfl) (by kernel_rfl) (by kernel_rfl) (fun _ _ _ h => h) (Or.inl ⟨by rfl, ?_⟩) (by assumption) ?_
      · intro w hSw; (try dsimp only at hSw); go_simp
      simp only [Act.put, List.setIfInBounds_toArray, List.set_cons_zero, List.set_cons_succ]
      refine wpAnyH_take (i := 10) (oi := ⟨some 7, _, _, _, _, _⟩) (v := .int .i64 oe) rfl (by kernel_rfl) (by kernel_rfl) (by kernel_rfl) (fun _ _ _ h => h) (Or.inl ⟨by rfl, ?_⟩) (by assumption) ?_
      · intro w hSw; (try dsimp only at hSw); go_simp
      simp only [Act.put, List.setIfInBounds_toArray, List.set_cons_zero, List.set_cons_succ]
      refine wpAnyH_done (by kernel_rfl) ?_ _
      go_wp2_with fail
      refine bodyPost_ret (results_tmp2 rfl _ _ _) rfl ?_
      exact ⟨rfl, RA6.out, TU6.out⟩
    · rw [if_neg hk]
      have hk2 : cur < en.key := by omega
      go_enter Tryz.func9, Tryz.ntmps9
      go_wp2_with fail
      refine (NO.out).mono ?_
      rintro e w1 ⟨rfl, rfl⟩
      go_wp2_with fail
      refine (RD.out _).mono ?_
      rintro e w2 ⟨rfl, k2⟩
      have RA2 := Lib.hid (H.out.below k2 (Nat.le_refl _))
      have TU2 := Lib.hid (Ri.Turned.of_below (r := r) (m := m) k2)
      clear k2 NO RD
      have hst2 := hst w2
      clear hst
      go_upto_region 6 with (fail)
      have HE3 := Lib.hid (heap_alloc_new w2 (.cells ce.toArray 66))
      have RA3 := Lib.hid (RA2.out.alloc (.cells ce.toArray 66))
      have TU3 := Lib.hid (TU2.out.alloc (.cells ce.toArray 66))
      clear hst2
      generalize w2.alloc (.cells ce.toArray 66) = w3 at *
      obtain ⟨E, hE⟩ : ∃ E, E = w2.heap.size := ⟨_, rfl⟩
      rw [← hE] at HE3 ⊢
      clear hE RA2 TU2
      have c0 : w3.cell? ⟨E, 0, none⟩ = some (.int .i64 en.key) := Sm.cells_of HE3.out 0 _ (by rw [List.getElem?_toArray]; exact hc0)
      have CUD : Hid (∀ k, Calls Tryz.prog 14 #[.pointer (some ⟨r, 0, none⟩)] (w3.drewN k) fun e w' => e = .returned (.int .i64 cur) ∧ w3.drewN k = w') := fun k => CU.out _ (RA3.out.drewN k)
      go_quiet ((first
        | (go_at_call 14; with_reducible exact Sm.q_one (CUD.out _))
        | (go_at_call 14; with_reducible exact Sm.q_more (CUD.out _))))
      go_wp2_with fail
      refine bodyPost_ret (results_tmp2 rfl _ _ _) rfl ?_
      exact ⟨rfl, RA3.out.drewN _, TU3.out.drewN _⟩
  · rw [if_neg h0]
    have h1 : ((er : Int) != 0) = true := by
      rw [bne_iff_ne]; omega
    go_enter Tryz.func9, Tryz.ntmps9
    go_wp2_with fail
    refine (NO.out).mono ?_
    rintro e w1 ⟨rfl, rfl⟩
    go_wp2_with fail
    refine (RD.out _).mono ?_
    rintro e w2 ⟨rfl, k2⟩
    have RA2 := Lib.hid (H.out.below k2 (Nat.le_refl _))
    have TU2 := Lib.hid (Ri.Turned.of_below (r := r) (m := m) k2)
    clear k2 NO RD
    have hst2 := hst w2
    clear hst
    go_wp2_with fail
    refine bodyPost_ret (results_tmp2 rfl _ _ _) rfl ?_
    exact ⟨rfl, RA2.out.alloc _, TU2.out.alloc _⟩
end Go.Proofs.YtibpgmcpcelmpaaGreatDoor
