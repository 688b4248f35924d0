/-
  What ring's Wrap does.
-/
import Derived.Test.YtibpgmcpcelmpaaGreatDoorRiOne
import Derived.Test.YtibpgmcpcelmpaaGreatDoorRiNew
import Derived.Test.YtibpgmcpcelmpaaGreatDoorSeOne
import Derived.Deep.CutRange
namespace Go.Proofs.YtibpgmcpcelmpaaGreatDoor
open Go.RowKit
namespace Ri
/-- What Wrap answers to a text that is not too long. -/
def WrapPost (w : World) (r m : Nat) (M : ByteArray) (boot n : Nat) (cur : Int) (about text : List UInt8) (e : Ending) (w' : World) : Prop :=
  e = .returned (.tuple #[.string ⟨(wrap M.data.toList cur boot n about text).1.toArray⟩, .int .i64 0]) ∧ RingAt w' r m M boot (n + 1) cur ∧ Turned w w' r m
theorem boot_cell {w : World} {r m : Nat} {M : ByteArray} {boot n : Nat} {cur : Int} (h : RingAt w r m M boot n cur) : w.cell? ⟨r, 1, none⟩ = some (.int .u32 boot) := Sm.cells_of h.ring 1 _ rfl
theorem env_types : 66 ≠ 62 ∧ 66 ≠ 102 := by decide
theorem grown_ring {w w' : World} {r m : Nat} {M : ByteArray} {boot n : Nat} {cur : Int} (k : w.grownBy w' (some m)) (h : RingAt w r m M boot n cur) {b : Nat} {cs : Array Value} {t : TypeId} {f : Nat × Nat} (hb : w.heap[b]? = some (.cells cs t f)) : w'.heap[b]? = some (.cells cs t f) := by
  obtain ⟨es, c, hm, _⟩ := h.keys
  exact grown_cells k hm hb
end Ri

set_option maxRecDepth 100000 in
theorem rgWrap_none {w : World} {v : Value} (h : Ri.None w v) (about text : ByteArray) :
    Calls Tryz.prog 8 #[v, .string about, .string text] w fun e w' => e = .returned (.tuple #[.string ⟨#[]⟩, .int .i64 2]) ∧ w = w' := by
  have NO := Lib.hid (rgNone_is h)
  clear h
  go_enter Tryz.func8, Tryz.ntmps8
  go_wp2_with fail
  refine (NO.out).mono ?_
  rintro e w1 ⟨rfl, rfl⟩
  go_wp2_with fail
  refine bodyPost_ret (results_tmp2 rfl _ _ _) rfl ?_
  exact ⟨rfl, rfl⟩

set_option maxRecDepth 100000 in
theorem rgWrap_long {w : World} {r m : Nat} {M : ByteArray} {boot n : Nat} {cur : Int} (h : Ri.RingAt w r m M boot n cur) (about text : ByteArray) (ht : 8192 < text.size) :
    Calls Tryz.prog 8 #[.pointer (some ⟨r, 0, none⟩), .string about, .string text] w fun e w' => e = .returned (.tuple #[.string ⟨#[]⟩, .int .i64 3]) ∧ w = w' := by
  have NO := Lib.hid (rgNone_not h)
  have hti : (8192 : Int) < text.size := by omega
  clear h ht
  go_enter Tryz.func8, Tryz.ntmps8
  go_wp2_with fail
  refine (NO.out).mono ?_
  rintro e w1 ⟨rfl, rfl⟩
  go_wp2_with fail
  refine bodyPost_ret (results_tmp2 rfl _ _ _) rfl ?_
  exact ⟨rfl, rfl⟩

set_option maxRecDepth 100000 in
set_option maxHeartbeats 4000000 in
theorem rgWrap_any {w : World} (hH : Sm.HAt w) (hK : Sm.KAt w) {r m : Nat} {M : ByteArray} (hM : M.size ≤ 1152921504606846976) {boot n : Nat} {cur : Int} (h : Ri.RingAt w r m M boot n cur)
    (hc : 0 ≤ cur ∧ cur ≤ 1048576) (hb : boot < 2 ^ 32) (hn : n + 1 < 2 ^ 64) (about text : ByteArray) (ha : about.size ≤ 1099511627776) (ht : text.size ≤ 8192) :
    Calls Tryz.prog 8 #[.pointer (some ⟨r, 0, none⟩), .string about, .string text] w (Ri.WrapPost w r m M boot n cur about.data.toList text.data.toList) := by
  have NO := Lib.hid (rgNone_not h)
  have hti : ¬ (8192 : Int) < text.size := by omega
  have hd : Ri.RingAt w.drew r m M boot n cur := ⟨h.ring, h.keys⟩
  have c2 := Sm.cells_of hd.ring 2 _ (show (Ri.cells M boot n cur m)[2]? = some (.int .u64 n) from rfl)
  have h2 := Sm.heap_set hd.ring 2 (.int .u64 ((n + 1 : Nat) : Int))
  have e2 : (Ri.cells M boot n cur m).setIfInBounds 2 (.int .u64 ((n + 1 : Nat) : Int)) = Ri.cells M boot (n + 1) cur m := by simp [Ri.cells]
  rw [e2] at h2
  have k2 := Sm.grown_set (Sm.grown_refl w.drew (some r)) 2 (.int .u64 ((n + 1 : Nat) : Int))
  have R2 := Lib.hid (hd.set k2 h2)
  have K2 : Hid (w.grownBy (w.drew.setCell ⟨r, 2, none⟩ (.int .u64 ((n + 1 : Nat) : Int))) (some r)) := Sm.grown_trans (a := w) (b := w.drew) ⟨rfl, rfl, rfl, Nat.le_refl _, fun _ _ _ => rfl⟩ k2
  have AD := Lib.hid (Ri.add64 ⟨r, 2, none⟩ w.drew n 1 ((n + 1 : Nat) : Int) c2 (Sm.free_of hd.ring 2) (by rw [IntKind.wrap_u64]; omega))
  have CU1 := Lib.hid (rgCurrent_any hd)
  have CU2 := Lib.hid (rgCurrent_any R2.out)
  have hsub : IntKind.u64.wrap (((n + 1 : Nat) : Int) - 1) = n := by rw [IntKind.wrap_u64]; omega
  have H := Lib.hid h
  have HH := Lib.hid hH
  have HK := Lib.hid hK
  clear c2 h2 e2 k2 hd h hH hK
  obtain ⟨w2, hw2⟩ : ∃ x, x = w.drew.setCell ⟨r, 2, none⟩ (.int .u64 ((n + 1 : Nat) : Int)) := ⟨_, rfl⟩
  rw [← hw2] at R2 K2 AD CU2
  clear hw2
  obtain ⟨n1, hn1⟩ : ∃ k : Int, k = ((n + 1 : Nat) : Int) := ⟨_, rfl⟩
  rw [← hn1] at AD hsub
  clear hn1
  go_enter Tryz.func8, Tryz.ntmps8
  go_wp2_with fail
  refine (NO.out).mono ?_
  rintro e w1 ⟨rfl, rfl⟩
  go_upto_region 5 with (fail)
  go_cut [8, 9] from 17 (fun s8 s9 wx => s8 = .int .i64 cur ∧ s9 = .int .u64 (n : Int) ∧ w2 = wx)
  case first =>
    refine wp_region_held_drew (S := fun _ => True) (by kernel_rfl) trivial (fun hHeld => ?_)
    refine wpAnyH_take (i := 0) (oi := ⟨some 17, _, _, _, _, _⟩) (v := .pointer (some ⟨r, 0, none⟩)) rfl (by kernel_rfl) (by kernel_rfl) (by kernel_rfl) (fun _ _ _ h => h) (Or.inl ⟨by rfl, ?_⟩) (by assumption) ?_
    · intro w hSw; go_simp
    simp only [Act.put, List.setIfInBounds_toArray, List.set_cons_zero, List.set_cons_succ]
    refine wpAnyH_take (i := 2) (oi := ⟨some 19, _, _, _, _, _⟩) (v := .pointer (some ⟨r, 0, none⟩)) rfl (by kernel_rfl) (by kernel_rfl) (by kernel_rfl) (fun _ _ _ h => h) (Or.inl ⟨by rfl, ?_⟩) (by assumption) ?_
    · intro w hSw; go_simp
    simp only [Act.put, List.setIfInBounds_toArray, List.set_cons_zero, List.set_cons_succ]
    refine wpAnyH_take (i := 3) (oi := ⟨some 20, _, _, _, _, _⟩) (v := .pointer (some ⟨r, 0, none⟩)) rfl (by kernel_rfl) (by kernel_rfl) (by kernel_rfl) (fun _ _ _ h => h) (Or.inl ⟨by rfl, ?_⟩) (by assumption) ?_
    · intro w hSw; go_simp
    simp only [Act.put, List.setIfInBounds_toArray, List.set_cons_zero, List.set_cons_succ]
    refine wpAnyH_take (i := 4) (oi := ⟨some 21, _, _, _, _, _⟩) (v := .pointer (some ⟨r, 2, none⟩)) rfl (by kernel_rfl) (by kernel_rfl) (by kernel_rfl) (fun _ _ _ h => h) (Or.inl ⟨by rfl, ?_⟩) (by assumption) ?_
    · intro w hSw; go_simp
    simp only [Act.put, List.setIfInBounds_toArray, List.set_cons_zero, List.set_cons_succ]
    refine wpAnyH_ready (rs := [1]) (by kernel_rfl) (by simp) ?_
    refine AllReadyH.cons (o := ⟨some 18, _, _, _, _, _⟩) rfl (fun K hK => ?_) AllReadyH.nil
    go_simp
    refine (CU1.out).mono ?_
    rintro e w3 ⟨rfl, rfl⟩
    refine hK.out _ _ trivial (fun hHeld => ?_)
    clear hK K
    refine wpAnyH_ready (rs := [5]) (by kernel_rfl) (by simp) ?_
    refine AllReadyH.cons (o := ⟨some 22, _, _, _, _, _⟩) rfl (fun K hK => ?_) AllReadyH.nil
    go_simp
    refine (AD.out).mono ?_
    rintro e w3 ⟨rfl, rfl⟩
    refine hK.out _ _ trivial (fun hHeld => ?_)
    clear hK K
    refine wpAnyH_take (i := 6) (oi := ⟨some 23, _, _, _, _, _⟩) (v := .int .u64 (n : Int)) rfl (by kernel_rfl) (by kernel_rfl) (by kernel_rfl) (fun _ _ _ h => h) (Or.inl ⟨by rfl, ?_⟩) (by assumption) ?_
    · intro w hSw; (try dsimp only at hSw); go_simp
    simp only [Act.put, List.setIfInBounds_toArray, List.set_cons_zero, List.set_cons_succ]
    refine wpAnyH_take (i := 7) (oi := ⟨some 8, _, _, _, _, _⟩) (v := .int .i64 cur) rfl (by kernel_rfl) (by kernel_rfl) (by kernel_rfl) (fun _ _ _ h => h) (Or.inl ⟨by rfl, ?_⟩) (by assumption) ?_
    · intro w hSw; (try dsimp only at hSw); go_simp
    simp only [Act.put, List.setIfInBounds_toArray, List.set_cons_zero, List.set_cons_succ]
    refine wpAnyH_take (i := 8) (oi := ⟨some 9, _, _, _, _, _⟩) (v := .int .u64 (n : Int)) rfl (by kernel_rfl) (by kernel_rfl) (by kernel_rfl) (fun _ _ _ h => h) (Or.inl ⟨by rfl, ?_⟩) (by assumption) ?_
    · intro w hSw; (try dsimp only at hSw); go_simp
    simp only [Act.put, List.setIfInBounds_toArray, List.set_cons_zero, List.set_cons_succ]
    refine wpAnyH_done (by kernel_rfl) ?_ _
    go_wp2_with fail
    go_meet
    exact ⟨rfl, rfl, rfl⟩
  case rest =>
    obtain ⟨rfl, rfl, rfl⟩ := hcut
    go_upto_region 6 with (fail)
    have h22 := H.out.two HH.out HK.out
    have hsz2 : 2 ≤ w.heap.size := by have := H.out.lt.1; omega
    have RA0 := Lib.hid R2.out.drew
    have TU0 := Lib.hid ((Ri.Turned.of_ring (m := m) K2.out).drew)
    have hz1 := (zero_of_info Se.zeroEnv).1
    have hzs : Se.zero.cells.toArray.size = 36 := Se.cells_length _ (by rfl)
    obtain ⟨z0, hz0⟩ : ∃ z, z = Se.zero.cells.toArray := ⟨_, rfl⟩
    rw [← hz0] at hz1 hzs
    have htl : text.data.toList.length = text.size := by rw [Array.length_toList]; rfl
    obtain ⟨ck, hck⟩ : ∃ c, c = Lib.byteCells (Ri.key M.data.toList cur) := ⟨_, rfl⟩
    obtain ⟨en, hen⟩ : ∃ e, e = Se.sealed (Ri.key M.data.toList cur) cur boot n about.data.toList text.data.toList := ⟨_, rfl⟩
    have hok := Se.sealed_ok (k := Ri.key M.data.toList cur) (about := about.data.toList) hc hb (show n < 2 ^ 64 by omega) (show text.data.toList.length ≤ 8192 by omega)
    rw [← hen] at hok
    obtain ⟨ce, hce⟩ : ∃ c, c = en.cells := ⟨_, rfl⟩
    have hcel : ce.length = 36 := by rw [hce]; exact Se.cells_length _ hok.1.tag
    have hceo : ce.toArray.all (·.oneCell') = true := by rw [hce]; exact Se.cells_one _
    have KEYC : Hid (∀ wx : World, Sm.HAt wx → Sm.KAt wx → Ri.RingAt wx r m M boot (n + 1) cur → Calls Tryz.prog 22 #[.pointer (some ⟨r, 0, none⟩), .int .i64 cur] wx fun e w' => e = .returned (.agg ck.toArray) ∧ Ri.RingAt w' r m M boot (n + 1) cur ∧ wx.grownBy w' (some m)) := fun wx a b c => by
      rw [hck]; exact rgkey_any a b hM c cur
    have CLOSE : Hid (∀ wx : World, Sm.HAt wx → Sm.KAt wx → 1 < wx.heap.size → Calls Tryz.prog 21 #[.agg ck.toArray, .int .i64 cur, .int .u32 boot, .int .u64 n, .string about, .string text] wx fun e w' => e = .returned (.tuple #[.agg ce.toArray, .int .i64 0]) ∧ Below wx.heap.size wx w') := fun wx a b c => by
      have q := close_any a b c (Ri.key M.data.toList cur) (Ri.key_length _ _) cur (by omega) boot n hb (by omega) about text ha (by omega)
      unfold Se.close at q
      rw [if_pos hc, if_pos (by omega), ← hen] at q
      rw [hck, hce]
      exact q
    have hsp : Se.spelled en = (Se.bytes en, 0) := by unfold Se.spelled; rw [if_pos hok.2]
    have hwr : (Ri.wrap M.data.toList cur boot n about.data.toList text.data.toList).1 = Se.bytes en := by rw [Ri.wrap_ok (by omega), hen]
    obtain ⟨bx, hbx⟩ : ∃ b : ByteArray, b = ⟨(Se.bytes en).toArray⟩ := ⟨_, rfl⟩
    have BY : Hid (∀ wx : World, Calls Tryz.prog 23 #[.agg ce.toArray] wx fun e w' => e = .returned (.tuple #[.string bx, .int .i64 0]) ∧ Below wx.heap.size wx w') := fun wx => by
      have q := bytes5_any wx en hok.1
      rw [hsp] at q
      rw [hce, hbx]
      exact q
    have HWR : Hid (bx = ⟨(Ri.wrap M.data.toList cur boot n about.data.toList text.data.toList).1.toArray⟩) := by
      show _ = _
      rw [hbx, hwr]
    clear hz0 htl hck hen hok hce hsp hwr hbx R2 K2 NO AD CU1 CU2
    go_cut [10, 11] from 24 (fun s10 s11 wx => ∃ E : Nat, s10 = .pointer (some ⟨E, 0, none⟩) ∧ s11 = .int .i64 0 ∧ wx.heap[E]? = some (.cells ce.toArray 66 (0, 0)) ∧ Ri.RingAt wx r m M boot (n + 1) cur ∧ Ri.Turned w wx r m)
    case first =>
      refine wp_region_held_drew (S := fun w' => w'.cell? ⟨r, 1, none⟩ = some (.int .u32 boot)) (by kernel_rfl) (Ri.boot_cell RA0.out) (fun hHeld => ?_)
      generalize w2.drew = W0 at *
      refine wpAnyH_take (i := 0) (oi := ⟨some 25, _, _, _, _, _⟩) (v := .pointer (some ⟨r, 0, none⟩)) rfl (by kernel_rfl) (by kernel_rfl) (by kernel_rfl) (fun _ _ _ h => h) (Or.inl ⟨by rfl, ?_⟩) (by assumption) ?_
      · intro w hSw; (try dsimp only at hSw); go_simp
      simp only [Act.put, List.setIfInBounds_toArray, List.set_cons_zero, List.set_cons_succ]
      refine wpAnyH_take (i := 1) (oi := ⟨some 26, _, _, _, _, _⟩) (v := .int .i64 cur) rfl (by kernel_rfl) (by kernel_rfl) (by kernel_rfl) (fun _ _ _ h => h) (Or.inl ⟨by rfl, ?_⟩) (by assumption) ?_
      · intro w hSw; (try dsimp only at hSw); go_simp
      simp only [Act.put, List.setIfInBounds_toArray, List.set_cons_zero, List.set_cons_succ]
      refine wpAnyH_take (i := 3) (oi := ⟨some 28, _, _, _, _, _⟩) (v := .int .i64 cur) rfl (by kernel_rfl) (by kernel_rfl) (by kernel_rfl) (fun _ _ _ h => h) (Or.inl ⟨by rfl, ?_⟩) (by assumption) ?_
      · intro w hSw; (try dsimp only at hSw); go_simp
      simp only [Act.put, List.setIfInBounds_toArray, List.set_cons_zero, List.set_cons_succ]
      refine wpAnyH_take (i := 4) (oi := ⟨some 29, _, _, _, _, _⟩) (v := .pointer (some ⟨r, 0, none⟩)) rfl (by kernel_rfl) (by kernel_rfl) (by kernel_rfl) (fun _ _ _ h => h) (Or.inl ⟨by rfl, ?_⟩) (by assumption) ?_
      · intro w hSw; (try dsimp only at hSw); go_simp
      simp only [Act.put, List.setIfInBounds_toArray, List.set_cons_zero, List.set_cons_succ]
      refine wpAnyH_take (i := 5) (oi := ⟨some 30, _, _, _, _, _⟩) (v := .pointer (some ⟨r, 0, none⟩)) rfl (by kernel_rfl) (by kernel_rfl) (by kernel_rfl) (fun _ _ _ h => h) (Or.inl ⟨by rfl, ?_⟩) (by assumption) ?_
      · intro w hSw; (try dsimp only at hSw); go_simp
      simp only [Act.put, List.setIfInBounds_toArray, List.set_cons_zero, List.set_cons_succ]
      refine wpAnyH_take (i := 6) (oi := ⟨some 31, _, _, _, _, _⟩) (v := .pointer (some ⟨r, 1, none⟩)) rfl (by kernel_rfl) (by kernel_rfl) (by kernel_rfl) (fun _ _ _ h => h) (Or.inl ⟨by rfl, ?_⟩) (by assumption) ?_
      · intro w hSw; (try dsimp only at hSw); go_simp
      simp only [Act.put, List.setIfInBounds_toArray, List.set_cons_zero, List.set_cons_succ]
      refine wpAnyH_take (i := 7) (oi := ⟨some 32, _, _, _, _, _⟩) (v := .int .u32 boot) rfl (by kernel_rfl) (by kernel_rfl) (by kernel_rfl) (fun _ _ _ h => h) (Or.inl ⟨by rfl, ?_⟩) (by assumption) ?_
      · intro w hSw; (try dsimp only at hSw); go_simp
      simp only [Act.put, List.setIfInBounds_toArray, List.set_cons_zero, List.set_cons_succ]
      refine wpAnyH_take (i := 8) (oi := ⟨some 33, _, _, _, _, _⟩) (v := .int .u64 (n : Int)) rfl (by kernel_rfl) (by kernel_rfl) (by kernel_rfl) (fun _ _ _ h => h) (Or.inl ⟨by rfl, ?_⟩) (by assumption) ?_
      · intro w hSw; (try dsimp only at hSw); go_simp
      simp only [Act.put, List.setIfInBounds_toArray, List.set_cons_zero, List.set_cons_succ]
      refine wpAnyH_take (i := 9) (oi := ⟨some 34, _, _, _, _, _⟩) (v := .string about) rfl (by kernel_rfl) (by kernel_rfl) (by kernel_rfl) (fun _ _ _ h => h) (Or.inl ⟨by rfl, ?_⟩) (by assumption) ?_
      · intro w hSw; (try dsimp only at hSw); go_simp
      simp only [Act.put, List.setIfInBounds_toArray, List.set_cons_zero, List.set_cons_succ]
      refine wpAnyH_take (i := 10) (oi := ⟨some 35, _, _, _, _, _⟩) (v := .string text) rfl (by kernel_rfl) (by kernel_rfl) (by kernel_rfl) (fun _ _ _ h => h) (Or.inl ⟨by rfl, ?_⟩) (by assumption) ?_
      · intro w hSw; (try dsimp only at hSw); go_simp
      simp only [Act.put, List.setIfInBounds_toArray, List.set_cons_zero, List.set_cons_succ]
      refine wpAnyH_ready (rs := [2, 15]) (by kernel_rfl) (by simp) ?_
      refine (AllReadyH.cons (o := ⟨some 27, _, _, _, _, _⟩) rfl (fun K hK => ?_) (AllReadyH.cons (o := ⟨some 10, _, _, _, _, _⟩) rfl (fun K hK => ?_) AllReadyH.nil))
      · go_simp
        refine (KEYC.out _ (HH.out.low (TU0.out.low h22 hsz2) (by decide)) (HK.out.low (TU0.out.low h22 hsz2) (by decide)) RA0.out).mono ?_
        rintro e w4 ⟨rfl, raw4, grw4⟩
        have RAw4 := Lib.hid raw4
        have TUw4 := Lib.hid (TU0.out.trans (Ri.Turned.of_grown grw4))
        refine hK.out _ _ (Ri.boot_cell RAw4.out) (fun hHeld => ?_)
        clear hK K
        refine wpAnyH_ready (rs := [11, 15]) (by kernel_rfl) (by simp) ?_
        refine (AllReadyH.cons (o := ⟨some 36, _, _, _, _, _⟩) rfl (fun K hK => ?_) (AllReadyH.cons (o := ⟨some 10, _, _, _, _, _⟩) rfl (fun K hK => ?_) AllReadyH.nil))
        · go_simp
          refine (CLOSE.out _ (HH.out.low (TUw4.out.low h22 hsz2) (by decide)) (HK.out.low (TUw4.out.low h22 hsz2) (by decide)) (by have := TUw4.out.size; omega)).mono ?_
          rintro e w5 ⟨rfl, blw5⟩
          have RAw5 := Lib.hid (RAw4.out.below blw5 (Nat.le_refl _))
          have TUw5 := Lib.hid (TUw4.out.trans (Ri.Turned.of_below blw5))
          refine hK.out _ _ (Ri.boot_cell RAw5.out) (fun hHeld => ?_)
          clear hK K
          refine wpAnyH_take (i := 12) (oi := ⟨some 24, _, _, _, _, _⟩) (v := .tuple #[.agg ce.toArray, .int .i64 0]) rfl (by kernel_rfl) (by kernel_rfl) (by kernel_rfl) (fun _ _ _ h => h) (Or.inl ⟨by rfl, ?_⟩) (by assumption) ?_
          · intro w hSw; (try dsimp only at hSw); go_simp
          simp only [Act.put, List.setIfInBounds_toArray, List.set_cons_zero, List.set_cons_succ]
          refine wpAnyH_take (i := 13) (oi := ⟨some 37, _, _, _, _, _⟩) (v := .agg ce.toArray) rfl (by kernel_rfl) (by kernel_rfl) (by kernel_rfl) (fun _ _ _ h => h) (Or.inl ⟨by rfl, ?_⟩) (by assumption) ?_
          · intro w hSw; (try dsimp only at hSw); go_simp
          simp only [Act.put, List.setIfInBounds_toArray, List.set_cons_zero, List.set_cons_succ]
          refine wpAnyH_take (i := 14) (oi := ⟨some 38, _, _, _, _, _⟩) (v := .int .i64 0) rfl (by kernel_rfl) (by kernel_rfl) (by kernel_rfl) (fun _ _ _ h => h) (Or.inl ⟨by rfl, ?_⟩) (by assumption) ?_
          · intro w hSw; (try dsimp only at hSw); go_simp
          simp only [Act.put, List.setIfInBounds_toArray, List.set_cons_zero, List.set_cons_succ]
          refine wpAnyH_ready (rs := [15]) (by kernel_rfl) (by simp) ?_
          refine (AllReadyH.cons (o := ⟨some 10, _, _, _, _, _⟩) rfl (fun K hK => ?_) AllReadyH.nil)
          go_simp
          have RAw6 := Lib.hid (RAw5.out.alloc (.cells z0 66))
          have TUw6 := Lib.hid (TUw5.out.alloc (.cells z0 66))
          have HEw6 := Lib.hid (heap_alloc_new w5 (.cells z0 66))
          have lE : w.heap.size ≤ w5.heap.size := TUw5.out.size
          obtain ⟨E, hE⟩ : ∃ E, E = w5.heap.size := ⟨_, rfl⟩
          rw [← hE] at HEw6 lE ⊢
          have HEE := Lib.hid hE
          generalize w5.alloc (.cells z0 66) = w6 at *
          clear hE
          refine hK.out _ _ (Ri.boot_cell RAw6.out) (fun hHeld => ?_)
          clear hK K
          refine wpAnyH_ready (rs := [16]) (by kernel_rfl) (by simp) ?_
          refine (AllReadyH.cons (o := ⟨none, _, _, _, _, _⟩) rfl (fun K hK => ?_) AllReadyH.nil)
          rw [if_pos (by simp [Region.wanted])]
          refine wp_store_mid 66 (.tmp 10) (.tmp 37) rfl E 0 ce.toArray rfl rfl (Sm.there_row HEw6.out (by rw [hzs, List.size_toArray, hcel])) (Se.infoEnv (by rw [List.size_toArray, hcel])) hceo ?_
          have RAf := Lib.hid (RAw6.out.setCells HEw6.out Ri.env_types.1 Ri.env_types.2 0 ce)
          have TUf := Lib.hid (TUw6.out.setCells lE 0 ce)
          have HEf := Lib.hid (Sm.heap_setAll (vs := ce) HEw6.out (by rw [hzs, hcel]))
          refine hK.out _ _ (Ri.boot_cell RAf.out) (fun hHeld => ?_)
          clear hK K
          refine wpAnyH_take (i := 17) (oi := ⟨some 11, _, _, _, _, _⟩) (v := .int .i64 0) rfl (by kernel_rfl) (by kernel_rfl) (by kernel_rfl) (fun _ _ _ h => h) (Or.inl ⟨by rfl, ?_⟩) (by assumption) ?_
          · intro w hSw; (try dsimp only at hSw); go_simp
          simp only [Act.put, List.setIfInBounds_toArray, List.set_cons_zero, List.set_cons_succ]
          refine wpAnyH_done (by kernel_rfl) ?_ _
          go_wp2_with fail
          go_meet
          exact ⟨E, rfl, rfl, HEf.out, RAf.out, TUf.out⟩
        · go_simp
          have RAw5 := Lib.hid (RAw4.out.alloc (.cells z0 66))
          have TUw5 := Lib.hid (TUw4.out.alloc (.cells z0 66))
          have HEw5 := Lib.hid (heap_alloc_new w4 (.cells z0 66))
          have lE : w.heap.size ≤ w4.heap.size := TUw4.out.size
          obtain ⟨E, hE⟩ : ∃ E, E = w4.heap.size := ⟨_, rfl⟩
          rw [← hE] at HEw5 lE ⊢
          have HEE := Lib.hid hE
          generalize w4.alloc (.cells z0 66) = w5 at *
          clear hE
          refine hK.out _ _ (Ri.boot_cell RAw5.out) (fun hHeld => ?_)
          clear hK K
          refine wpAnyH_ready (rs := [11]) (by kernel_rfl) (by simp) ?_
          refine (AllReadyH.cons (o := ⟨some 36, _, _, _, _, _⟩) rfl (fun K hK => ?_) AllReadyH.nil)
          go_simp
          refine (CLOSE.out _ (HH.out.low (TUw5.out.low h22 hsz2) (by decide)) (HK.out.low (TUw5.out.low h22 hsz2) (by decide)) (by have := TUw5.out.size; omega)).mono ?_
          rintro e w6 ⟨rfl, blw6⟩
          have RAw6 := Lib.hid (RAw5.out.below blw6 (Nat.le_refl _))
          have TUw6 := Lib.hid (TUw5.out.trans (Ri.Turned.of_below blw6))
          have HEw6 := Lib.hid ((blw6.block E (Sm.lt_of HEw5.out)).trans HEw5.out)
          refine hK.out _ _ (Ri.boot_cell RAw6.out) (fun hHeld => ?_)
          clear hK K
          refine wpAnyH_take (i := 12) (oi := ⟨some 24, _, _, _, _, _⟩) (v := .tuple #[.agg ce.toArray, .int .i64 0]) rfl (by kernel_rfl) (by kernel_rfl) (by kernel_rfl) (fun _ _ _ h => h) (Or.inl ⟨by rfl, ?_⟩) (by assumption) ?_
          · intro w hSw; (try dsimp only at hSw); go_simp
          simp only [Act.put, List.setIfInBounds_toArray, List.set_cons_zero, List.set_cons_succ]
          refine wpAnyH_take (i := 13) (oi := ⟨some 37, _, _, _, _, _⟩) (v := .agg ce.toArray) rfl (by kernel_rfl) (by kernel_rfl) (by kernel_rfl) (fun _ _ _ h => h) (Or.inl ⟨by rfl, ?_⟩) (by assumption) ?_
          · intro w hSw; (try dsimp only at hSw); go_simp
          simp only [Act.put, List.setIfInBounds_toArray, List.set_cons_zero, List.set_cons_succ]
          refine wpAnyH_take (i := 14) (oi := ⟨some 38, _, _, _, _, _⟩) (v := .int .i64 0) rfl (by kernel_rfl) (by kernel_rfl) (by kernel_rfl) (fun _ _ _ h => h) (Or.inl ⟨by rfl, ?_⟩) (by assumption) ?_
          · intro w hSw; (try dsimp only at hSw); go_simp
          simp only [Act.put, List.setIfInBounds_toArray, List.set_cons_zero, List.set_cons_succ]
          refine wpAnyH_ready (rs := [16]) (by kernel_rfl) (by simp) ?_
          refine (AllReadyH.cons (o := ⟨none, _, _, _, _, _⟩) rfl (fun K hK => ?_) AllReadyH.nil)
          rw [if_pos (by simp [Region.wanted])]
          refine wp_store_mid 66 (.tmp 10) (.tmp 37) rfl E 0 ce.toArray rfl rfl (Sm.there_row HEw6.out (by rw [hzs, List.size_toArray, hcel])) (Se.infoEnv (by rw [List.size_toArray, hcel])) hceo ?_
          have RAf := Lib.hid (RAw6.out.setCells HEw6.out Ri.env_types.1 Ri.env_types.2 0 ce)
          have TUf := Lib.hid (TUw6.out.setCells lE 0 ce)
          have HEf := Lib.hid (Sm.heap_setAll (vs := ce) HEw6.out (by rw [hzs, hcel]))
          refine hK.out _ _ (Ri.boot_cell RAf.out) (fun hHeld => ?_)
          clear hK K
          refine wpAnyH_take (i := 17) (oi := ⟨some 11, _, _, _, _, _⟩) (v := .int .i64 0) rfl (by kernel_rfl) (by kernel_rfl) (by kernel_rfl) (fun _ _ _ h => h) (Or.inl ⟨by rfl, ?_⟩) (by assumption) ?_
          · intro w hSw; (try dsimp only at hSw); go_simp
          simp only [Act.put, List.setIfInBounds_toArray, List.set_cons_zero, List.set_cons_succ]
          refine wpAnyH_done (by kernel_rfl) ?_ _
          go_wp2_with fail
          go_meet
          exact ⟨E, rfl, rfl, HEf.out, RAf.out, TUf.out⟩
      · go_simp
        have RAw4 := Lib.hid (RA0.out.alloc (.cells z0 66))
        have TUw4 := Lib.hid (TU0.out.alloc (.cells z0 66))
        have HEw4 := Lib.hid (heap_alloc_new W0 (.cells z0 66))
        have lE : w.heap.size ≤ W0.heap.size := TU0.out.size
        obtain ⟨E, hE⟩ : ∃ E, E = W0.heap.size := ⟨_, rfl⟩
        rw [← hE] at HEw4 lE ⊢
        have HEE := Lib.hid hE
        generalize W0.alloc (.cells z0 66) = w4 at *
        clear hE
        refine hK.out _ _ (Ri.boot_cell RAw4.out) (fun hHeld => ?_)
        clear hK K
        refine wpAnyH_ready (rs := [2]) (by kernel_rfl) (by simp) ?_
        refine (AllReadyH.cons (o := ⟨some 27, _, _, _, _, _⟩) rfl (fun K hK => ?_) AllReadyH.nil)
        go_simp
        refine (KEYC.out _ (HH.out.low (TUw4.out.low h22 hsz2) (by decide)) (HK.out.low (TUw4.out.low h22 hsz2) (by decide)) RAw4.out).mono ?_
        rintro e w5 ⟨rfl, raw5, grw5⟩
        have RAw5 := Lib.hid raw5
        have HEw5 := Lib.hid (Ri.grown_ring grw5 RAw4.out HEw4.out)
        have TUw5 := Lib.hid (TUw4.out.trans (Ri.Turned.of_grown grw5))
        refine hK.out _ _ (Ri.boot_cell RAw5.out) (fun hHeld => ?_)
        clear hK K
        refine wpAnyH_ready (rs := [11]) (by kernel_rfl) (by simp) ?_
        refine (AllReadyH.cons (o := ⟨some 36, _, _, _, _, _⟩) rfl (fun K hK => ?_) AllReadyH.nil)
        go_simp
        refine (CLOSE.out _ (HH.out.low (TUw5.out.low h22 hsz2) (by decide)) (HK.out.low (TUw5.out.low h22 hsz2) (by decide)) (by have := TUw5.out.size; omega)).mono ?_
        rintro e w6 ⟨rfl, blw6⟩
        have RAw6 := Lib.hid (RAw5.out.below blw6 (Nat.le_refl _))
        have TUw6 := Lib.hid (TUw5.out.trans (Ri.Turned.of_below blw6))
        have HEw6 := Lib.hid ((blw6.block E (Sm.lt_of HEw5.out)).trans HEw5.out)
        refine hK.out _ _ (Ri.boot_cell RAw6.out) (fun hHeld => ?_)
        clear hK K
        refine wpAnyH_take (i := 12) (oi := ⟨some 24, _, _, _, _, _⟩) (v := .tuple #[.agg ce.toArray, .int .i64 0]) rfl (by kernel_rfl) (by kernel_rfl) (by kernel_rfl) (fun _ _ _ h => h) (Or.inl ⟨by rfl, ?_⟩) (by assumption) ?_
        · intro w hSw; (try dsimp only at hSw); go_simp
        simp only [Act.put, List.setIfInBounds_toArray, List.set_cons_zero, List.set_cons_succ]
        refine wpAnyH_take (i := 13) (oi := ⟨some 37, _, _, _, _, _⟩) (v := .agg ce.toArray) rfl (by kernel_rfl) (by kernel_rfl) (by kernel_rfl) (fun _ _ _ h => h) (Or.inl ⟨by rfl, ?_⟩) (by assumption) ?_
        · intro w hSw; (try dsimp only at hSw); go_simp
        simp only [Act.put, List.setIfInBounds_toArray, List.set_cons_zero, List.set_cons_succ]
        refine wpAnyH_take (i := 14) (oi := ⟨some 38, _, _, _, _, _⟩) (v := .int .i64 0) rfl (by kernel_rfl) (by kernel_rfl) (by kernel_rfl) (fun _ _ _ h => h) (Or.inl ⟨by rfl, ?_⟩) (by assumption) ?_
        · intro w hSw; (try dsimp only at hSw); go_simp
        simp only [Act.put, List.setIfInBounds_toArray, List.set_cons_zero, List.set_cons_succ]
        refine wpAnyH_ready (rs := [16]) (by kernel_rfl) (by simp) ?_
        refine (AllReadyH.cons (o := ⟨none, _, _, _, _, _⟩) rfl (fun K hK => ?_) AllReadyH.nil)
        rw [if_pos (by simp [Region.wanted])]
        refine wp_store_mid 66 (.tmp 10) (.tmp 37) rfl E 0 ce.toArray rfl rfl (Sm.there_row HEw6.out (by rw [hzs, List.size_toArray, hcel])) (Se.infoEnv (by rw [List.size_toArray, hcel])) hceo ?_
        have RAf := Lib.hid (RAw6.out.setCells HEw6.out Ri.env_types.1 Ri.env_types.2 0 ce)
        have TUf := Lib.hid (TUw6.out.setCells lE 0 ce)
        have HEf := Lib.hid (Sm.heap_setAll (vs := ce) HEw6.out (by rw [hzs, hcel]))
        refine hK.out _ _ (Ri.boot_cell RAf.out) (fun hHeld => ?_)
        clear hK K
        refine wpAnyH_take (i := 17) (oi := ⟨some 11, _, _, _, _, _⟩) (v := .int .i64 0) rfl (by kernel_rfl) (by kernel_rfl) (by kernel_rfl) (fun _ _ _ h => h) (Or.inl ⟨by rfl, ?_⟩) (by assumption) ?_
        · intro w hSw; (try dsimp only at hSw); go_simp
        simp only [Act.put, List.setIfInBounds_toArray, List.set_cons_zero, List.set_cons_succ]
        refine wpAnyH_done (by kernel_rfl) ?_ _
        go_wp2_with fail
        go_meet
        exact ⟨E, rfl, rfl, HEf.out, RAf.out, TUf.out⟩
    case rest =>
      obtain ⟨E, rfl, rfl, hE, ra, tu⟩ := hcut
      have HE := Lib.hid hE
      have RA := Lib.hid ra
      have TU := Lib.hid tu
      clear hE ra tu
      go_wp2_with (with_reducible refine wpList_load_row rfl 66 (.tmp 10) rfl E rfl 66 ce.toArray (0, 0) _ (by exact HE.out) Tryz.underlying66 rfl (Se.infoEnv (by rw [List.size_toArray, hcel])) ?_)
      refine (BY.out _).mono ?_
      rintro e w9 ⟨rfl, b9⟩
      go_wp2_with fail
      refine bodyPost_ret (results_tmp2 rfl _ _ _) rfl ?_
      exact ⟨by rw [← HWR.out]; rfl, RA.out.below b9 (Nat.le_refl _), TU.out.trans (Ri.Turned.of_below b9)⟩
end Go.Proofs.YtibpgmcpcelmpaaGreatDoor
