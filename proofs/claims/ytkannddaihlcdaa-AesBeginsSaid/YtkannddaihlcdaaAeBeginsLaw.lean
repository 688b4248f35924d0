/-
  AesBegins answers true for every key, nonce, two texts and any place, and turns nothing of what was there.
-/
import Derived.Test.YtkannddaihlcdaaAeXor
namespace Go.Proofs.Ytkannddaihlcdaa
open Go.RowKit
namespace Ae
theorem cut_list (s : ByteArray) (n : Nat) : (s.extract 0 n).data.toList = s.data.toList.take n := by
  rw [ByteArray.data_extract, Array.toList_extract]
  simp [List.extract_eq_take_drop]
theorem stream_cut (key nonce : List UInt8) (a : ByteArray) (n : Nat) :
    (⟨(stream key nonce (a.extract 0 n).data.toList).toArray⟩ : ByteArray) = (ByteArray.mk (stream key nonce a.data.toList).toArray).extract 0 n := by
  apply ByteArray.ext
  apply Array.ext'
  rw [cut_list, cut_list, stream_take]
end Ae

set_option maxRecDepth 100000 in
set_option maxHeartbeats 4000000 in
theorem aesBegins_any (w : World) (key nonce : List UInt8) (hkey : key.length = 32) (hnon : nonce.length = 12) (a b : ByteArray) (at_ : Nat) (hat : at_ < 65536) :
    Calls Try.prog 7 #[.agg (Lib.byteCells key).toArray, .agg (Lib.byteCells nonce).toArray, .string a, .string b, .int .u16 at_] w fun e w' => e = .returned (.bool true) ∧ Below w.heap.size w w' := by
  obtain ⟨ckl, hck⟩ : ∃ c, c = Lib.byteCells key := ⟨_, rfl⟩
  obtain ⟨cnl, hcn⟩ : ∃ c, c = Lib.byteCells nonce := ⟨_, rfl⟩
  have hckn : ckl.length = 32 := by rw [hck, Lib.byteCells_length, hkey]
  have hcnn : cnl.length = 12 := by rw [hcn, Lib.byteCells_length, hnon]
  have STR : Hid (∀ (wx : World) (t : ByteArray), t.size ≤ 1099511627776 → Calls Try.prog 12 #[.agg ckl.toArray, .agg cnl.toArray, .string t] wx fun e w' => e = .returned (.string ⟨(Ae.stream key nonce t.data.toList).toArray⟩) ∧ Below wx.heap.size wx w') := by
    intro wx t ht; rw [hck, hcn]; exact stream_any wx key nonce hkey hnon t ht
  rw [← hck, ← hcn]
  obtain ⟨N, hN⟩ : ∃ N, N = w.heap.size := ⟨_, rfl⟩
  have g1 : ((w.alloc (.cells ckl.toArray 25)).alloc (.cells cnl.toArray 29)).heap[N]? = some (.cells ckl.toArray 25 (0, 0)) := by
    rw [hN, Below.heap_alloc _ _ _ (by simp)]; exact heap_alloc_new w _
  have g2 : ((w.alloc (.cells ckl.toArray 25)).alloc (.cells cnl.toArray 29)).heap[N + 1]? = some (.cells cnl.toArray 29 (0, 0)) := by
    rw [hN]; simpa using heap_alloc_new (w.alloc (.cells ckl.toArray 25)) (.cells cnl.toArray 29)
  have b2 : Below N w ((w.alloc (.cells ckl.toArray 25)).alloc (.cells cnl.toArray 29)) := by
    rw [hN]; exact ((Below.refl _ w).alloc (Nat.le_refl _) _).alloc (by simp) _
  have AW := Lib.hid awake4_any
  have HU1 : Hid (Try.prog.underlying 25 = some (.array 32 5)) := Try.underlying25
  have HU2 : Hid (Try.prog.underlying 29 = some (.array 12 5)) := Try.underlying29
  have HI1 : Hid ((Try.prog.info? 25).map (·.size) = some ckl.length) := by show _ = _; rw [hckn]; kernel_rfl
  have HI2 : Hid ((Try.prog.info? 29).map (·.size) = some cnl.length) := by show _ = _; rw [hcnn]; kernel_rfl
  clear hck hcn hckn hcnn hkey hnon
  go_enter Try.func7, Try.ntmps7
  go_wp2_with fail
  generalize (w.alloc (.cells ckl.toArray 25)).alloc (.cells cnl.toArray 29) = W2 at *
  refine (AW.out _).mono ?_
  rintro e w3 ⟨rfl, k3⟩
  have hHN : N ≤ w.heap.size := by omega
  have s2 := Sm.lt_of g2
  have b3 := Sm.low_low b2 hHN k3
  have G1 : Hid (w3.drew.heap[N]? = some (.cells ckl.toArray 25 (0, 0))) := (k3.block N (by omega)).trans g1
  have G2 : Hid (w3.drew.heap[N + 1]? = some (.cells cnl.toArray 29 (0, 0))) := (k3.block (N + 1) s2).trans g2
  have B3 : Below N w w3.drew := b3.drew
  rw [← hN]
  have HN := Lib.hid hN
  clear g1 g2 b2 k3 s2 hN
  by_cases hga : 5000 < a.size
  · have hgi : (5000 : Int) < a.size := by omega
    go_wp2
    go_ret
    exact ⟨rfl, by rw [← HN.out]; exact b3⟩
  · have hgi : ¬ (5000 : Int) < a.size := by omega
    by_cases hgb : 5000 < b.size
    · have hgj : (5000 : Int) < b.size := by omega
      go_wp2
      go_ret
      exact ⟨rfl, by rw [← HN.out]; exact b3⟩
    · have hgj : ¬ (5000 : Int) < b.size := by omega
      obtain ⟨x, hx⟩ : ∃ x : ByteArray, x = ⟨(Ae.stream key nonce a.data.toList).toArray⟩ := ⟨_, rfl⟩
      obtain ⟨y, hy⟩ : ∃ y : ByteArray, y = ⟨(Ae.stream key nonce b.data.toList).toArray⟩ := ⟨_, rfl⟩
      have SA : Hid (∀ wx : World, Calls Try.prog 12 #[.agg ckl.toArray, .agg cnl.toArray, .string a] wx fun e w' => e = .returned (.string x) ∧ Below wx.heap.size wx w') := fun wx => by rw [hx]; exact STR.out wx a (by omega)
      have SB : Hid (∀ wx : World, Calls Try.prog 12 #[.agg ckl.toArray, .agg cnl.toArray, .string b] wx fun e w' => e = .returned (.string y) ∧ Below wx.heap.size wx w') := fun wx => by rw [hy]; exact STR.out wx b (by omega)
      have hxs : x.size = a.size := by
        rw [hx]; show (Ae.stream key nonce a.data.toList).length = a.size
        rw [Ae.stream_length]; rfl
      have hys : y.size = b.size := by
        rw [hy]; show (Ae.stream key nonce b.data.toList).length = b.size
        rw [Ae.stream_length]; rfl
      obtain ⟨v, hv⟩ : ∃ v : ByteArray, v = ⟨(Ae.xorL a.data.toList b.data.toList).toArray⟩ := ⟨_, rfl⟩
      have X1 : Hid (∀ wx : World, Calls Try.prog 15 #[.string x, .string y] wx fun e w' => e = .returned (.string v) ∧ Below wx.heap.size wx w') := fun wx => by
        refine (xor_any wx x y (by omega) (by omega)).mono fun e w' ⟨h1, h2⟩ => ⟨?_, h2⟩
        rw [h1, hv, hx, hy]
        show Ending.returned (.string ⟨(Ae.xorL (Ae.stream key nonce a.data.toList) (Ae.stream key nonce b.data.toList)).toArray⟩) = _
        rw [Ae.xor_streams]
      have X2 : Hid (∀ wx : World, Calls Try.prog 15 #[.string a, .string b] wx fun e w' => e = .returned (.string v) ∧ Below wx.heap.size wx w') := fun wx => by
        rw [hv]; exact xor_any wx a b (by omega) (by omega)
      obtain ⟨m, hm⟩ : ∃ m, m = min at_ a.size := ⟨_, rfl⟩
      have hma : m ≤ a.size := by omega
      obtain ⟨a1, ha1⟩ : ∃ a1, a1 = a.extract 0 m := ⟨_, rfl⟩
      obtain ⟨x1, hx1⟩ : ∃ x1, x1 = x.extract 0 m := ⟨_, rfl⟩
      have S1 : Hid (∀ wx : World, Calls Try.prog 12 #[.agg ckl.toArray, .agg cnl.toArray, .string a1] wx fun e w' => e = .returned (.string x1) ∧ Below wx.heap.size wx w') := fun wx => by
        have hsz : a1.size ≤ 1099511627776 := by
          have : (a.extract 0 m).data.toList.length = m := by rw [Ae.cut_list a m, List.length_take]; show min m a.size = m; omega
          have e : (a.extract 0 m).size = (a.extract 0 m).data.toList.length := rfl
          rw [ha1]; omega
        refine (STR.out wx a1 hsz).mono fun e w' ⟨h1, h2⟩ => ⟨?_, h2⟩
        rw [h1, hx1, ha1, Ae.stream_cut key nonce a m, hx]
      have HA1 := Lib.hid ha1
      have HX1 := Lib.hid hx1
      have HM := Lib.hid hm
      have HXS := Lib.hid hxs
      have HYS := Lib.hid hys
      clear ha1 hx1 hm hx hy hv hxs hys STR
      go_upto_region 5 with (fail)
      refine wp_region_held_drew (S := fun w' => w'.rangeAt N 0 ckl ∧ w'.rangeAt (N + 1) 0 cnl) (by kernel_rfl) ⟨Sm.range_row G1.out, Sm.range_row G2.out⟩ (fun hHeld => ?_)
      refine wpAnyH_take (i := 0) (oi := ⟨some 24, _, _, _, _, _⟩) (v := .agg ckl.toArray) rfl (by kernel_rfl) (by kernel_rfl) (by kernel_rfl) (fun _ _ _ h => h) (yieldsIf_load_mid (by rfl) _ _ rfl _ _ rfl ckl _ (fun w hS => hS.1) HU1.out rfl HI1.out) (by assumption) ?_
      simp only [Act.put, List.setIfInBounds_toArray, List.set_cons_zero, List.set_cons_succ]
      refine wpAnyH_take (i := 1) (oi := ⟨some 25, _, _, _, _, _⟩) (v := .agg cnl.toArray) rfl (by kernel_rfl) (by kernel_rfl) (by kernel_rfl) (fun _ _ _ h => h) (yieldsIf_load_mid (by rfl) _ _ rfl _ _ rfl cnl _ (fun w hS => hS.2) HU2.out rfl HI2.out) (by assumption) ?_
      simp only [Act.put, List.setIfInBounds_toArray, List.set_cons_zero, List.set_cons_succ]
      refine wpAnyH_take (i := 2) (oi := ⟨some 26, _, _, _, _, _⟩) (v := .string a) rfl (by kernel_rfl) (by kernel_rfl) (by kernel_rfl) (fun _ _ _ h => h) (Or.inl ⟨by rfl, ?_⟩) (by assumption) ?_
      · intro w hSw; (try dsimp only at hSw); go_simp
      simp only [Act.put, List.setIfInBounds_toArray, List.set_cons_zero, List.set_cons_succ]
      refine wpAnyH_take (i := 4) (oi := ⟨some 28, _, _, _, _, _⟩) (v := .agg ckl.toArray) rfl (by kernel_rfl) (by kernel_rfl) (by kernel_rfl) (fun _ _ _ h => h) (yieldsIf_load_mid (by rfl) _ _ rfl _ _ rfl ckl _ (fun w hS => hS.1) HU1.out rfl HI1.out) (by assumption) ?_
      simp only [Act.put, List.setIfInBounds_toArray, List.set_cons_zero, List.set_cons_succ]
      refine wpAnyH_take (i := 5) (oi := ⟨some 29, _, _, _, _, _⟩) (v := .agg cnl.toArray) rfl (by kernel_rfl) (by kernel_rfl) (by kernel_rfl) (fun _ _ _ h => h) (yieldsIf_load_mid (by rfl) _ _ rfl _ _ rfl cnl _ (fun w hS => hS.2) HU2.out rfl HI2.out) (by assumption) ?_
      simp only [Act.put, List.setIfInBounds_toArray, List.set_cons_zero, List.set_cons_succ]
      refine wpAnyH_take (i := 6) (oi := ⟨some 30, _, _, _, _, _⟩) (v := .string b) rfl (by kernel_rfl) (by kernel_rfl) (by kernel_rfl) (fun _ _ _ h => h) (Or.inl ⟨by rfl, ?_⟩) (by assumption) ?_
      · intro w hSw; (try dsimp only at hSw); go_simp
      simp only [Act.put, List.setIfInBounds_toArray, List.set_cons_zero, List.set_cons_succ]
      refine wpAnyH_ready (rs := [3]) (by kernel_rfl) (by simp) ?_
      refine AllReadyH.cons (o := ⟨some 27, _, _, _, _, _⟩) rfl (fun K hK => ?_) AllReadyH.nil
      go_simp
      refine (SA.out _).mono ?_
      rintro e w4 ⟨rfl, k4⟩
      have s4 := Sm.lt_of G2.out
      have B4 := Sm.low_low B3 hHN k4
      have G1a := Lib.hid ((k4.block N (by omega)).trans G1.out)
      have G2a := Lib.hid ((k4.block (N + 1) s4).trans G2.out)
      clear k4
      refine hK.out _ _ ⟨Sm.range_row G1a.out, Sm.range_row G2a.out⟩ (fun hHeld => ?_)
      clear hK K
      refine wpAnyH_ready (rs := [7]) (by kernel_rfl) (by simp) ?_
      refine AllReadyH.cons (o := ⟨some 31, _, _, _, _, _⟩) rfl (fun K hK => ?_) AllReadyH.nil
      go_simp
      refine (SB.out _).mono ?_
      rintro e w5 ⟨rfl, k5⟩
      have s5 := Sm.lt_of G2a.out
      have B5 := Sm.low_low B4 hHN k5
      have G1b := Lib.hid ((k5.block N (by omega)).trans G1a.out)
      have G2b := Lib.hid ((k5.block (N + 1) s5).trans G2a.out)
      clear k5
      refine hK.out _ _ ⟨Sm.range_row G1b.out, Sm.range_row G2b.out⟩ (fun hHeld => ?_)
      clear hK K
      refine wpAnyH_take (i := 8) (oi := ⟨some 11, _, _, _, _, _⟩) (v := .string x) rfl (by kernel_rfl) (by kernel_rfl) (by kernel_rfl) (fun _ _ _ h => h) (Or.inl ⟨by rfl, ?_⟩) (by assumption) ?_
      · intro w hSw; (try dsimp only at hSw); go_simp
      simp only [Act.put, List.setIfInBounds_toArray, List.set_cons_zero, List.set_cons_succ]
      refine wpAnyH_take (i := 9) (oi := ⟨some 12, _, _, _, _, _⟩) (v := .string y) rfl (by kernel_rfl) (by kernel_rfl) (by kernel_rfl) (fun _ _ _ h => h) (Or.inl ⟨by rfl, ?_⟩) (by assumption) ?_
      · intro w hSw; (try dsimp only at hSw); go_simp
      simp only [Act.put, List.setIfInBounds_toArray, List.set_cons_zero, List.set_cons_succ]
      refine wpAnyH_done (by kernel_rfl) ?_ _
      go_upto_region 6 with (fail)
      go_cut [13] from 32 (fun s13 wx => s13 = .int .i64 (m : Int) ∧ w5 = wx)
      case first =>
        by_cases hle : at_ ≤ a.size
        · have hm2 : (m : Int) = at_ := by have := HM.out; omega
          have hlei : (at_ : Int) ≤ a.size := by omega
          have HM2 := Lib.hid hm2
          clear hm2
          go_wp2_with fail
          go_meet
          exact ⟨by rw [HM2.out], rfl⟩
        · have hm2 : (m : Int) = a.size := by have := HM.out; omega
          have hlei : ¬ (at_ : Int) ≤ a.size := by omega
          have hlej : (a.size : Int) < at_ := by omega
          have HM2 := Lib.hid hm2
          clear hm2
          go_wp2_with fail
          go_meet
          exact ⟨by rw [HM2.out], rfl⟩
      case rest =>
        obtain ⟨rfl, rfl⟩ := hcut
        go_wp2_with fail
        have e1 : ((x.size : Int) == (a.size : Int)) = true := by rw [beq_iff_eq, HXS.out]
        have e2 : ((y.size : Int) == (b.size : Int)) = true := by rw [beq_iff_eq, HYS.out]
        have c1 := HA1.out.symm
        have c2 := HX1.out.symm
        have l1 : (m : Int) ≤ a.size := by omega
        have l2 : (m : Int) ≤ x.size := by have := HXS.out; omega
        have B6 : Below N w w5.drew := B5.drew
        have G1d : Hid (w5.drew.heap[N]? = some (.cells ckl.toArray 25 (0, 0))) := G1b.out
        have G2d : Hid (w5.drew.heap[N + 1]? = some (.cells cnl.toArray 29 (0, 0))) := G2b.out
        refine wp_region_held_drew (S := fun w' => w'.rangeAt N 0 ckl ∧ w'.rangeAt (N + 1) 0 cnl) (by kernel_rfl) ⟨Sm.range_row G1d.out, Sm.range_row G2d.out⟩ (fun hHeld => ?_)
        refine wpAnyH_take (i := 0) (oi := ⟨some 37, _, _, _, _, _⟩) (v := .string x) rfl (by kernel_rfl) (by kernel_rfl) (by kernel_rfl) (fun _ _ _ h => h) (Or.inl ⟨by rfl, ?_⟩) (by assumption) ?_
        · intro w hSw; (try dsimp only at hSw); go_simp
        simp only [Act.put, List.setIfInBounds_toArray, List.set_cons_zero, List.set_cons_succ]
        refine wpAnyH_take (i := 1) (oi := ⟨some 38, _, _, _, _, _⟩) (v := .int .i64 (x.size : Int)) rfl (by kernel_rfl) (by kernel_rfl) (by kernel_rfl) (fun _ _ _ h => h) (Or.inl ⟨by rfl, ?_⟩) (by assumption) ?_
        · intro w hSw; (try dsimp only at hSw); go_simp
        simp only [Act.put, List.setIfInBounds_toArray, List.set_cons_zero, List.set_cons_succ]
        refine wpAnyH_take (i := 2) (oi := ⟨some 39, _, _, _, _, _⟩) (v := .string a) rfl (by kernel_rfl) (by kernel_rfl) (by kernel_rfl) (fun _ _ _ h => h) (Or.inl ⟨by rfl, ?_⟩) (by assumption) ?_
        · intro w hSw; (try dsimp only at hSw); go_simp
        simp only [Act.put, List.setIfInBounds_toArray, List.set_cons_zero, List.set_cons_succ]
        refine wpAnyH_take (i := 3) (oi := ⟨some 40, _, _, _, _, _⟩) (v := .int .i64 (a.size : Int)) rfl (by kernel_rfl) (by kernel_rfl) (by kernel_rfl) (fun _ _ _ h => h) (Or.inl ⟨by rfl, ?_⟩) (by assumption) ?_
        · intro w hSw; (try dsimp only at hSw); go_simp
        simp only [Act.put, List.setIfInBounds_toArray, List.set_cons_zero, List.set_cons_succ]
        refine wpAnyH_take (i := 4) (oi := ⟨some 41, _, _, _, _, _⟩) (v := .bool true) rfl (by kernel_rfl) (by kernel_rfl) (by kernel_rfl) (fun _ _ _ h => h) (Or.inl ⟨by rfl, ?_⟩) (by assumption) ?_
        · intro w hSw; (try dsimp only at hSw); go_simp
        simp only [Act.put, List.setIfInBounds_toArray, List.set_cons_zero, List.set_cons_succ]
        refine wpAnyH_take (i := 5) (oi := ⟨some 42, _, _, _, _, _⟩) (v := .bool true) rfl (by kernel_rfl) (by kernel_rfl) (by kernel_rfl) (fun _ _ _ h => h) (Or.inl ⟨by rfl, ?_⟩) (by assumption) ?_
        · intro w hSw; (try dsimp only at hSw); go_simp
        simp only [Act.put, List.setIfInBounds_toArray, List.set_cons_zero, List.set_cons_succ]
        refine wpAnyH_take (i := 6) (oi := ⟨some 43, _, _, _, _, _⟩) (v := .string y) rfl (by kernel_rfl) (by kernel_rfl) (by kernel_rfl) (fun _ _ _ h => h) (Or.inl ⟨by rfl, ?_⟩) (by assumption) ?_
        · intro w hSw; (try dsimp only at hSw); go_simp
        simp only [Act.put, List.setIfInBounds_toArray, List.set_cons_zero, List.set_cons_succ]
        refine wpAnyH_take (i := 7) (oi := ⟨some 44, _, _, _, _, _⟩) (v := .int .i64 (y.size : Int)) rfl (by kernel_rfl) (by kernel_rfl) (by kernel_rfl) (fun _ _ _ h => h) (Or.inl ⟨by rfl, ?_⟩) (by assumption) ?_
        · intro w hSw; (try dsimp only at hSw); go_simp
        simp only [Act.put, List.setIfInBounds_toArray, List.set_cons_zero, List.set_cons_succ]
        refine wpAnyH_take (i := 8) (oi := ⟨some 45, _, _, _, _, _⟩) (v := .string b) rfl (by kernel_rfl) (by kernel_rfl) (by kernel_rfl) (fun _ _ _ h => h) (Or.inl ⟨by rfl, ?_⟩) (by assumption) ?_
        · intro w hSw; (try dsimp only at hSw); go_simp
        simp only [Act.put, List.setIfInBounds_toArray, List.set_cons_zero, List.set_cons_succ]
        refine wpAnyH_take (i := 9) (oi := ⟨some 46, _, _, _, _, _⟩) (v := .int .i64 (b.size : Int)) rfl (by kernel_rfl) (by kernel_rfl) (by kernel_rfl) (fun _ _ _ h => h) (Or.inl ⟨by rfl, ?_⟩) (by assumption) ?_
        · intro w hSw; (try dsimp only at hSw); go_simp
        simp only [Act.put, List.setIfInBounds_toArray, List.set_cons_zero, List.set_cons_succ]
        refine wpAnyH_take (i := 10) (oi := ⟨some 47, _, _, _, _, _⟩) (v := .bool true) rfl (by kernel_rfl) (by kernel_rfl) (by kernel_rfl) (fun _ _ _ h => h) (Or.inl ⟨by rfl, ?_⟩) (by assumption) ?_
        · intro w hSw; (try dsimp only at hSw); go_simp
        simp only [Act.put, List.setIfInBounds_toArray, List.set_cons_zero, List.set_cons_succ]
        refine wpAnyH_take (i := 11) (oi := ⟨some 48, _, _, _, _, _⟩) (v := .bool true) rfl (by kernel_rfl) (by kernel_rfl) (by kernel_rfl) (fun _ _ _ h => h) (Or.inl ⟨by rfl, ?_⟩) (by assumption) ?_
        · intro w hSw; (try dsimp only at hSw); go_simp
        simp only [Act.put, List.setIfInBounds_toArray, List.set_cons_zero, List.set_cons_succ]
        refine wpAnyH_take (i := 12) (oi := ⟨some 49, _, _, _, _, _⟩) (v := .bool true) rfl (by kernel_rfl) (by kernel_rfl) (by kernel_rfl) (fun _ _ _ h => h) (Or.inl ⟨by rfl, ?_⟩) (by assumption) ?_
        · intro w hSw; (try dsimp only at hSw); go_simp
        simp only [Act.put, List.setIfInBounds_toArray, List.set_cons_zero, List.set_cons_succ]
        refine wpAnyH_take (i := 13) (oi := ⟨some 50, _, _, _, _, _⟩) (v := .agg ckl.toArray) rfl (by kernel_rfl) (by kernel_rfl) (by kernel_rfl) (fun _ _ _ h => h) (yieldsIf_load_mid (by rfl) _ _ rfl _ _ rfl ckl _ (fun w hS => hS.1) HU1.out rfl HI1.out) (by assumption) ?_
        simp only [Act.put, List.setIfInBounds_toArray, List.set_cons_zero, List.set_cons_succ]
        refine wpAnyH_take (i := 14) (oi := ⟨some 51, _, _, _, _, _⟩) (v := .agg cnl.toArray) rfl (by kernel_rfl) (by kernel_rfl) (by kernel_rfl) (fun _ _ _ h => h) (yieldsIf_load_mid (by rfl) _ _ rfl _ _ rfl cnl _ (fun w hS => hS.2) HU2.out rfl HI2.out) (by assumption) ?_
        simp only [Act.put, List.setIfInBounds_toArray, List.set_cons_zero, List.set_cons_succ]
        refine wpAnyH_take (i := 15) (oi := ⟨some 52, _, _, _, _, _⟩) (v := .string a) rfl (by kernel_rfl) (by kernel_rfl) (by kernel_rfl) (fun _ _ _ h => h) (Or.inl ⟨by rfl, ?_⟩) (by assumption) ?_
        · intro w hSw; (try dsimp only at hSw); go_simp
        simp only [Act.put, List.setIfInBounds_toArray, List.set_cons_zero, List.set_cons_succ]
        refine wpAnyH_take (i := 16) (oi := ⟨some 53, _, _, _, _, _⟩) (v := .int .i64 (m : Int)) rfl (by kernel_rfl) (by kernel_rfl) (by kernel_rfl) (fun _ _ _ h => h) (Or.inl ⟨by rfl, ?_⟩) (by assumption) ?_
        · intro w hSw; (try dsimp only at hSw); go_simp
        simp only [Act.put, List.setIfInBounds_toArray, List.set_cons_zero, List.set_cons_succ]
        refine wpAnyH_take (i := 17) (oi := ⟨some 54, _, _, _, _, _⟩) (v := .string a1) rfl (by kernel_rfl) (by kernel_rfl) (by kernel_rfl) (fun _ _ _ h => h) (Or.inl ⟨by rfl, ?_⟩) (by assumption) ?_
        · intro w hSw; (try dsimp only at hSw); go_simp
        simp only [Act.put, List.setIfInBounds_toArray, List.set_cons_zero, List.set_cons_succ]
        refine wpAnyH_take (i := 19) (oi := ⟨some 56, _, _, _, _, _⟩) (v := .string x) rfl (by kernel_rfl) (by kernel_rfl) (by kernel_rfl) (fun _ _ _ h => h) (Or.inl ⟨by rfl, ?_⟩) (by assumption) ?_
        · intro w hSw; (try dsimp only at hSw); go_simp
        simp only [Act.put, List.setIfInBounds_toArray, List.set_cons_zero, List.set_cons_succ]
        refine wpAnyH_take (i := 20) (oi := ⟨some 57, _, _, _, _, _⟩) (v := .int .i64 (m : Int)) rfl (by kernel_rfl) (by kernel_rfl) (by kernel_rfl) (fun _ _ _ h => h) (Or.inl ⟨by rfl, ?_⟩) (by assumption) ?_
        · intro w hSw; (try dsimp only at hSw); go_simp
        simp only [Act.put, List.setIfInBounds_toArray, List.set_cons_zero, List.set_cons_succ]
        refine wpAnyH_take (i := 21) (oi := ⟨some 58, _, _, _, _, _⟩) (v := .string x1) rfl (by kernel_rfl) (by kernel_rfl) (by kernel_rfl) (fun _ _ _ h => h) (Or.inl ⟨by rfl, ?_⟩) (by assumption) ?_
        · intro w hSw; (try dsimp only at hSw); go_simp
        simp only [Act.put, List.setIfInBounds_toArray, List.set_cons_zero, List.set_cons_succ]
        refine wpAnyH_ready (rs := [18]) (by kernel_rfl) (by simp) ?_
        refine AllReadyH.cons (o := ⟨some 55, _, _, _, _, _⟩) rfl (fun K hK => ?_) AllReadyH.nil
        go_simp
        refine (S1.out _).mono ?_
        rintro e w7 ⟨rfl, k7⟩
        have s7 := Sm.lt_of G2d.out
        have B7 := Sm.low_low B6 hHN k7
        have G1e := Lib.hid ((k7.block N (by omega)).trans G1d.out)
        have G2e := Lib.hid ((k7.block (N + 1) s7).trans G2d.out)
        clear k7
        refine hK.out _ _ ⟨Sm.range_row G1e.out, Sm.range_row G2e.out⟩ (fun hHeld => ?_)
        clear hK K
        refine wpAnyH_take (i := 22) (oi := ⟨some 59, _, _, _, _, _⟩) (v := .bool true) rfl (by kernel_rfl) (by kernel_rfl) (by kernel_rfl) (fun _ _ _ h => h) (Or.inl ⟨by rfl, ?_⟩) (by assumption) ?_
        · intro w hSw; (try dsimp only at hSw); go_simp
        simp only [Act.put, List.setIfInBounds_toArray, List.set_cons_zero, List.set_cons_succ]
        refine wpAnyH_take (i := 23) (oi := ⟨some 60, _, _, _, _, _⟩) (v := .bool true) rfl (by kernel_rfl) (by kernel_rfl) (by kernel_rfl) (fun _ _ _ h => h) (Or.inl ⟨by rfl, ?_⟩) (by assumption) ?_
        · intro w hSw; (try dsimp only at hSw); go_simp
        simp only [Act.put, List.setIfInBounds_toArray, List.set_cons_zero, List.set_cons_succ]
        refine wpAnyH_take (i := 24) (oi := ⟨some 61, _, _, _, _, _⟩) (v := .bool true) rfl (by kernel_rfl) (by kernel_rfl) (by kernel_rfl) (fun _ _ _ h => h) (Or.inl ⟨by rfl, ?_⟩) (by assumption) ?_
        · intro w hSw; (try dsimp only at hSw); go_simp
        simp only [Act.put, List.setIfInBounds_toArray, List.set_cons_zero, List.set_cons_succ]
        refine wpAnyH_take (i := 25) (oi := ⟨some 62, _, _, _, _, _⟩) (v := .string x) rfl (by kernel_rfl) (by kernel_rfl) (by kernel_rfl) (fun _ _ _ h => h) (Or.inl ⟨by rfl, ?_⟩) (by assumption) ?_
        · intro w hSw; (try dsimp only at hSw); go_simp
        simp only [Act.put, List.setIfInBounds_toArray, List.set_cons_zero, List.set_cons_succ]
        refine wpAnyH_take (i := 26) (oi := ⟨some 63, _, _, _, _, _⟩) (v := .string y) rfl (by kernel_rfl) (by kernel_rfl) (by kernel_rfl) (fun _ _ _ h => h) (Or.inl ⟨by rfl, ?_⟩) (by assumption) ?_
        · intro w hSw; (try dsimp only at hSw); go_simp
        simp only [Act.put, List.setIfInBounds_toArray, List.set_cons_zero, List.set_cons_succ]
        refine wpAnyH_take (i := 28) (oi := ⟨some 65, _, _, _, _, _⟩) (v := .string a) rfl (by kernel_rfl) (by kernel_rfl) (by kernel_rfl) (fun _ _ _ h => h) (Or.inl ⟨by rfl, ?_⟩) (by assumption) ?_
        · intro w hSw; (try dsimp only at hSw); go_simp
        simp only [Act.put, List.setIfInBounds_toArray, List.set_cons_zero, List.set_cons_succ]
        refine wpAnyH_take (i := 29) (oi := ⟨some 66, _, _, _, _, _⟩) (v := .string b) rfl (by kernel_rfl) (by kernel_rfl) (by kernel_rfl) (fun _ _ _ h => h) (Or.inl ⟨by rfl, ?_⟩) (by assumption) ?_
        · intro w hSw; (try dsimp only at hSw); go_simp
        simp only [Act.put, List.setIfInBounds_toArray, List.set_cons_zero, List.set_cons_succ]
        refine wpAnyH_ready (rs := [27]) (by kernel_rfl) (by simp) ?_
        refine AllReadyH.cons (o := ⟨some 64, _, _, _, _, _⟩) rfl (fun K hK => ?_) AllReadyH.nil
        go_simp
        refine (X1.out _).mono ?_
        rintro e w8 ⟨rfl, k8⟩
        have s8 := Sm.lt_of G2e.out
        have B8 := Sm.low_low B7 hHN k8
        have G1f := Lib.hid ((k8.block N (by omega)).trans G1e.out)
        have G2f := Lib.hid ((k8.block (N + 1) s8).trans G2e.out)
        clear k8
        refine hK.out _ _ ⟨Sm.range_row G1f.out, Sm.range_row G2f.out⟩ (fun hHeld => ?_)
        clear hK K
        refine wpAnyH_ready (rs := [30]) (by kernel_rfl) (by simp) ?_
        refine AllReadyH.cons (o := ⟨some 67, _, _, _, _, _⟩) rfl (fun K hK => ?_) AllReadyH.nil
        go_simp
        refine (X2.out _).mono ?_
        rintro e w9 ⟨rfl, k9⟩
        have s9 := Sm.lt_of G2f.out
        have B9 := Sm.low_low B8 hHN k9
        have G1g := Lib.hid ((k9.block N (by omega)).trans G1f.out)
        have G2g := Lib.hid ((k9.block (N + 1) s9).trans G2f.out)
        clear k9
        refine hK.out _ _ ⟨Sm.range_row G1g.out, Sm.range_row G2g.out⟩ (fun hHeld => ?_)
        clear hK K
        refine wpAnyH_take (i := 31) (oi := ⟨some 68, _, _, _, _, _⟩) (v := .bool true) rfl (by kernel_rfl) (by kernel_rfl) (by kernel_rfl) (fun _ _ _ h => h) (Or.inl ⟨by rfl, ?_⟩) (by assumption) ?_
        · intro w hSw; (try dsimp only at hSw); go_simp
        simp only [Act.put, List.setIfInBounds_toArray, List.set_cons_zero, List.set_cons_succ]
        refine wpAnyH_take (i := 32) (oi := ⟨some 69, _, _, _, _, _⟩) (v := .bool true) rfl (by kernel_rfl) (by kernel_rfl) (by kernel_rfl) (fun _ _ _ h => h) (Or.inl ⟨by rfl, ?_⟩) (by assumption) ?_
        · intro w hSw; (try dsimp only at hSw); go_simp
        simp only [Act.put, List.setIfInBounds_toArray, List.set_cons_zero, List.set_cons_succ]
        refine wpAnyH_take (i := 33) (oi := ⟨some 10, _, _, _, _, _⟩) (v := .bool true) rfl (by kernel_rfl) (by kernel_rfl) (by kernel_rfl) (fun _ _ _ h => h) (Or.inl ⟨by rfl, ?_⟩) (by assumption) ?_
        · intro w hSw; (try dsimp only at hSw); go_simp
        simp only [Act.put, List.setIfInBounds_toArray, List.set_cons_zero, List.set_cons_succ]
        refine wpAnyH_done (by kernel_rfl) ?_ _
        go_wp2
        go_ret
        exact ⟨rfl, by rw [← HN.out]; exact B9⟩
end Go.Proofs.Ytkannddaihlcdaa
