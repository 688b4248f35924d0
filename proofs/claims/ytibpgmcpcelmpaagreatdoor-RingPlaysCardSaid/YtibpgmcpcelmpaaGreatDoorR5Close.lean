/-
  The document's own Close of seal.
-/
import Derived.Test.YtibpgmcpcelmpaaGreatDoorR5Ops
namespace Go.Proofs.YtibpgmcpcelmpaaGreatDoor
open Go.RowKit Pk

set_option maxRecDepth 100000 in
set_option maxHeartbeats 1000000 in
theorem r5Close_any (w : World) (k : List UInt8) (hk : k.length = 32) (key : Int) (hkey : -9223372036854775808 ≤ key ∧ key ≤ 9223372036854775807) (boot n : Nat) (hb : boot < 2 ^ 32) (hn : n < 2 ^ 64) (about text : ByteArray) (ha : about.size ≤ 20000) (ht : text.size ≤ 9223372036854775807) :
    Calls Tryz.prog 16 #[.agg (Lib.byteCells k).toArray, .int .i64 key, .int .u32 boot, .int .u64 n, .string about, .string text] w fun e w' =>
      e = .returned (.tuple #[.agg (Se.close k key boot n about.data.toList text.data.toList).1.cells.toArray, .int .i64 (Se.close k key boot n about.data.toList text.data.toList).2]) ∧ Below w.heap.size w w' := by
  obtain ⟨ckl, hck⟩ : ∃ c, c = Lib.byteCells k := ⟨_, rfl⟩
  have hckl : ckl.length = 32 := by rw [hck, Lib.byteCells_length, hk]
  have htl : text.data.toList.length = text.size := by rw [Array.length_toList]; rfl
  have HCK := Lib.hid hck
  obtain ⟨N, hN⟩ : ∃ N, N = w.heap.size := ⟨_, rfl⟩
  have r0 : (w.alloc (.cells ckl.toArray 63)).heap[N]? = some (.cells ckl.toArray 63 (0, 0)) := by rw [hN]; exact heap_alloc_new w _
  have b1 : Below N w (w.alloc (.cells ckl.toArray 63)) := by rw [hN]; exact Se.below_new w _
  have s1 : (w.alloc (.cells ckl.toArray 63)).heap.size = N + 1 := by rw [hN]; simp
  rw [← hck, ← hN]
  have HN := Lib.hid hN
  clear hck hN
  have hz1 := (zero_of_info Se.zeroEnv).1
  have hzs : Se.zero.cells.toArray.size = 36 := Se.cells_length _ (by rfl)
  have hzo := Se.cells_one Se.zero
  obtain ⟨z0, hz0⟩ : ∃ z, z = Se.zero.cells.toArray := ⟨_, rfl⟩
  rw [← hz0] at hz1 hzs hzo
  have HZ := Lib.hid hz0
  have r1 : ((w.alloc (.cells ckl.toArray 63)).alloc (.cells z0 66)).heap[N + 1]? = some (.cells z0 66 (0, 0)) := by
    rw [← s1]; exact heap_alloc_new _ _
  have R0 : Hid (((w.alloc (.cells ckl.toArray 63)).alloc (.cells z0 66)).heap[N]? = some (.cells ckl.toArray 63 (0, 0))) := by
    show _ = _
    rw [Below.heap_alloc _ _ _ (by omega)]; exact r0
  have R1 := Lib.hid r1
  have B2 : Hid (Below N w ((w.alloc (.cells ckl.toArray 63)).alloc (.cells z0 66))) := by
    show Below _ _ _
    exact b1.alloc (by omega) _
  have s2 : ((w.alloc (.cells ckl.toArray 63)).alloc (.cells z0 66)).heap.size = N + 2 := by rw [HN.out]; simp
  clear hz0 r0 r1 b1 s1
  unfold Se.close
  by_cases h0 : 0 ≤ key ∧ key ≤ 1048576
  · rw [if_pos h0]
    have k1 : ¬ key < 0 := by omega
    have k2 := h0.2
    have k3 := h0.1
    by_cases h1 : text.data.toList.length ≤ 8192
    · rw [if_pos h1]
      rw [htl] at h1
      have h1i : (text.size : Int) ≤ 8192 := by omega
      have hsl : (Se.strm k boot n text.data.toList).length = text.size := by rw [Se.strm_length, htl]
      obtain ⟨e0, he0⟩ : ∃ e : Se.Env, e = ⟨key, boot, n, ⟨#[]⟩, List.replicate 32 0⟩ := ⟨_, rfl⟩
      have hc0 : e0.cells.length = 36 := Se.cells_length _ (by rw [he0]; rfl)
      obtain ⟨c0, hc0e⟩ : ∃ c, c = e0.cells := ⟨_, rfl⟩
      rw [← hc0e] at hc0
      have hc0s : c0.toArray.size = 36 := by rw [List.size_toArray, hc0]
      have hone0 : c0.toArray.all (·.oneCell') = true := by rw [hc0e]; exact Se.cells_one _
      have BE : Hid (Tryz.prog.built 66 [(0, .int .i64 key), (1, .int .u32 boot), (2, .int .u64 n)] = some c0.toArray) := by
        show _ = _
        rw [hc0e, he0]; exact Se.builtEnv key boot n
      have HC0 : Hid (c0 = e0.cells) := hc0e
      have HE0 := Lib.hid he0
      clear hc0e he0
      go_enter Tryz.func16, Tryz.ntmps16
      go_upto_region 1 with (fail)
      rw [← HN.out]
      generalize (w.alloc (.cells ckl.toArray 63)).alloc (.cells z0 66) = W2 at *
      have p3 := heap_alloc_new W2 (.cells c0.toArray 66)
      have b3 : Below N w (W2.alloc (.cells c0.toArray 66)) := B2.out.alloc (by omega) _
      have q3 : (W2.alloc (.cells c0.toArray 66)).heap[N]? = some (.cells ckl.toArray 63 (0, 0)) := by
        rw [Below.heap_alloc _ _ _ (by omega)]; exact R0.out
      have r3 : (W2.alloc (.cells c0.toArray 66)).heap[N + 1]? = some (.cells z0 66 (0, 0)) := by
        rw [Below.heap_alloc _ _ _ (by omega)]; exact R1.out
      have s3 : (W2.alloc (.cells c0.toArray 66)).heap.size = N + 3 := by simp; omega
      rw [s2] at p3
      have hst : (storeCells ⟨N + 2, 0, none⟩ c0).run Tryz.prog (W2.alloc (.cells z0 66)) = .ok () (W2.alloc (.cells c0.toArray 66)) := by
        rw [← s2]
        exact run_storeCells_new (P := Tryz.prog) W2 66 z0 _ (Se.infoEnv hc0s) (by rw [hc0s]; exact hzs) hone0
      go_upto_region 6 with (with_reducible refine wpList_build_eq rfl 66 _ rfl c0.toArray (by with_unfolding_all exact BE.out) ?_)
      clear hst
      have P3 := Lib.hid p3
      have Q3 := Lib.hid q3
      have R3 := Lib.hid r3
      have B3 := Lib.hid b3
      clear p3 q3 r3 b3 BE
      generalize W2.alloc (.cells c0.toArray 66) = W3 at *
      have STR : Hid (∀ wx : World, Calls Tryz.prog 32 #[.agg ckl.toArray, .agg c0.toArray, .string text] wx fun e w' => e = .returned (.string ⟨(Se.strm k boot n text.data.toList).toArray⟩) ∧ Below wx.heap.size wx w') := fun wx => by
        have h := r5Stream_any wx k hk e0 text (by omega)
        rw [HCK.out, HC0.out]
        rw [HE0.out] at h ⊢
        exact h
      have hicl : (Tryz.prog.info? 63).map (·.size) = some ckl.toArray.size := by rw [List.size_toArray, hckl]; kernel_rfl
      go_wp2_with (first | (with_reducible refine wpList_load_row rfl 63 (.tmp 6) rfl N rfl 63 ckl.toArray (0, 0) _ (by exact Q3.out) Tryz.underlying63 rfl hicl ?_) | (with_reducible refine wpList_load_row rfl 66 (.tmp 14) rfl (N + 2) rfl 66 c0.toArray (0, 0) _ (by exact P3.out) Tryz.underlying66 rfl (Se.infoEnv hc0s) ?_))
      refine (STR.out _).mono ?_
      rintro e w4 ⟨rfl, k4⟩
      have P4 := Lib.hid ((k4.block (N + 2) (by omega)).trans P3.out)
      have Q4 := Lib.hid ((k4.block N (by omega)).trans Q3.out)
      have R4 := Lib.hid ((k4.block (N + 1) (by omega)).trans R3.out)
      have B4 := Lib.hid (B3.out.trans (k4.mono (by omega)))
      have s4 := k4.size
      clear k4 P3 Q3 R3 B3 STR
      obtain ⟨d, hd⟩ : ∃ d, d = Se.strm k boot n text.data.toList := ⟨_, rfl⟩
      rw [← hd] at hsl ⊢
      obtain ⟨e1, he1⟩ : ∃ e : Se.Env, e = Se.bare k key boot n text.data.toList := ⟨_, rfl⟩
      have c43 : w4.cell? ⟨N + 2, 3, none⟩ = some (.string ⟨#[]⟩) := Sm.cells_of P4.out 3 _ (by rw [HC0.out, HE0.out]; rfl)
      have f43 := Sm.free_of P4.out 3
      have p5 : (w4.setCell ⟨N + 2, 3, none⟩ (.string ⟨d.toArray⟩)).heap[N + 2]? = some (.cells e1.cells.toArray 66 (0, 0)) := by
        rw [Sm.heap_set P4.out 3 _, HC0.out, HE0.out, he1, hd]
        rfl
      have q5 : (w4.setCell ⟨N + 2, 3, none⟩ (.string ⟨d.toArray⟩)).heap[N]? = some (.cells ckl.toArray 63 (0, 0)) := by
        rw [Below.heap_setCell _ _ _ _ (by show N ≠ N + 2; omega)]; exact Q4.out
      have r5 : (w4.setCell ⟨N + 2, 3, none⟩ (.string ⟨d.toArray⟩)).heap[N + 1]? = some (.cells z0 66 (0, 0)) := by
        rw [Below.heap_setCell _ _ _ _ (by show N + 1 ≠ N + 2; omega)]; exact R4.out
      have b5 : Below N w (w4.setCell ⟨N + 2, 3, none⟩ (.string ⟨d.toArray⟩)) := B4.out.setCell (by show N ≤ N + 2; omega) _
      have s5 : (w4.setCell ⟨N + 2, 3, none⟩ (.string ⟨d.toArray⟩)).heap.size = w4.heap.size := by simp
      have HD := Lib.hid hd
      have HE1 := Lib.hid he1
      clear hd he1
      go_upto_region 7 with (fail)
      generalize w4.setCell ⟨N + 2, 3, none⟩ (.string ⟨d.toArray⟩) = w5 at *
      have P5 := Lib.hid p5
      have Q5 := Lib.hid q5
      have R5 := Lib.hid r5
      have B5 := Lib.hid b5
      clear p5 q5 r5 b5 c43 f43 P4 Q4 R4 B4
      have hc1 : e1.cells.length = 36 := Se.cells_length _ (by rw [HE1.out]; rfl)
      have ok1 : e1.Ok := by
        rw [HE1.out]
        refine ⟨hkey, hb, hn, ?_, by rfl⟩
        show (Se.strm k boot n text.data.toList).toArray.size ≤ _
        rw [List.size_toArray, ← HD.out]
        omega
      have hr1 : 0 ≤ e1.key := by rw [HE1.out]; exact h0.1
      have hd1 : e1.data.size ≤ 20000 := by
        rw [HE1.out]
        show (Se.strm k boot n text.data.toList).toArray.size ≤ _
        rw [List.size_toArray, ← HD.out]
        omega
      have hT : Se.tagOf k e1 about.data.toList = Se.tagOf k (Se.bare k key boot n text.data.toList) about.data.toList := by rw [HE1.out]
      have htl2 := Se.tagOf_length k e1 about.data.toList
      obtain ⟨tg, htg⟩ : ∃ t, t = Lib.byteCells (Se.tagOf k e1 about.data.toList) := ⟨_, rfl⟩
      have htgl : tg.length = 32 := by rw [htg, Lib.byteCells_length, htl2]
      have hto : tg.toArray.all (·.oneCell') = true := by rw [htg]; exact Sm.bytes_one _
      obtain ⟨c1, hc1e⟩ : ∃ c, c = e1.cells := ⟨_, rfl⟩
      rw [← hc1e] at hc1
      have hc1s : c1.toArray.size = 36 := by rw [List.size_toArray, hc1]
      have TAG : Hid (∀ wx : World, Calls Tryz.prog 33 #[.agg ckl.toArray, .agg c1.toArray, .string about] wx fun e w' => e = .returned (.agg tg.toArray) ∧ Below wx.heap.size wx w') := fun wx => by
        rw [HCK.out, hc1e, htg]
        exact r5Tag_any wx k hk e1 ok1 hr1 about ha hd1
      have P6 : Hid (w5.heap[N + 2]? = some (.cells c1.toArray 66 (0, 0))) := by
        show _ = _
        rw [hc1e]; exact P5.out
      obtain ⟨c2, hc2e⟩ : ∃ c, c = (Se.sealed k key boot n about.data.toList text.data.toList).cells := ⟨_, rfl⟩
      have hc12 : c1.toArray.toList.take 4 ++ (tg ++ c1.toArray.toList.drop (4 + tg.length)) = c2 := by
        rw [hc2e, htgl, hc1e, htg, hT, HE1.out]
        rfl
      have hc2 : c2.length = 36 := by rw [hc2e]; exact Se.cells_length _ (Se.tagOf_length _ _ _)
      have hc2s : c2.toArray.size = 36 := by rw [List.size_toArray, hc2]
      have hc2o : c2.toArray.all (·.oneCell') = true := by rw [hc2e]; exact Se.cells_one _
      have HC12 := Lib.hid hc12
      have HC2 := Lib.hid hc2e
      have hith : (Tryz.prog.info? 64).map (·.size) = some tg.toArray.size := Sm.infoHash (by rw [List.size_toArray, htgl])
      clear htg hc1e hc2e hc12 hT P5 ok1 hd1 htl2 HE1 HD HE0 HC0
      go_wp2_with (first | (with_reducible refine wpList_load_row rfl 63 (.tmp 6) rfl N rfl 63 ckl.toArray (0, 0) _ (by exact Q5.out) Tryz.underlying63 rfl hicl ?_) | (with_reducible refine wpList_load_row rfl 66 (.tmp 14) rfl (N + 2) rfl 66 c1.toArray (0, 0) _ (by exact P6.out) Tryz.underlying66 rfl (Se.infoEnv hc1s) ?_))
      refine (TAG.out _).mono ?_
      rintro e w7 ⟨rfl, k7⟩
      have P7 := Lib.hid ((k7.block (N + 2) (by omega)).trans P6.out)
      have R7 := Lib.hid ((k7.block (N + 1) (by omega)).trans R5.out)
      have B7 := Lib.hid (B5.out.trans (k7.mono (by omega)))
      have s7 := k7.size
      have ht7 : w7.there (N + 2) 4 tg.toArray.size := fun j hj => by
        rw [List.size_toArray, htgl] at hj
        exact ⟨by rw [Sm.cells_of P7.out (4 + j) _ (Array.getElem?_eq_getElem (by omega))]; rfl, Sm.free_of P7.out _⟩
      have HT7 := Lib.hid ht7
      clear k7 P6 Q5 R5 B5 TAG ht7
      go_upto_region 8 with (with_reducible refine wpList_store_mid rfl 64 (.tmp 39) (.tmp 38) rfl (N + 2) 4 tg.toArray rfl rfl (by exact HT7.out) hith hto ?_)
      have p8 := Sm.heap_setCells tg 4 w7 c1.toArray P7.out (by rw [hc1s, htgl]; exact Nat.le_refl _)
      rw [HC12.out] at p8
      have P8 := Lib.hid p8
      have R8 : Hid ((w7.setCells (N + 2) 4 tg).heap[N + 1]? = some (.cells z0 66 (0, 0))) := Sm.other_setCells (by omega) R7.out
      have B8 : Hid (Below N w (w7.setCells (N + 2) 4 tg)) := Sm.below_setCells (by omega) _ _ B7.out
      clear p8 P7 R7 B7 HT7
      generalize w7.setCells (N + 2) 4 tg = w8 at *
      have hz2 : z0.size = c2.toArray.size := by rw [hzs, hc2s]
      go_wp2_with (first | (with_reducible refine wpList_load_row rfl 66 (.tmp 14) rfl (N + 2) rfl 66 c2.toArray (0, 0) _ (by exact P8.out) Tryz.underlying66 rfl (Se.infoEnv hc2s) ?_) | (with_reducible refine wpList_store_row rfl 66 (.tmp 12) (.tmp 40) rfl (N + 1) c2.toArray rfl rfl 66 _ (by exact R8.out) (Se.infoEnv hc2s) hz2 hc2o ?_))
      exact bodyPost_ret (v := .tuple #[.agg c2.toArray, .int .i64 0]) (Se.results_row_tmp rfl _ _ (N + 1) 66 _ (0, 0) _ _ rfl (setRow_heap _ (N + 1) _ _ _ _ R8.out) Tryz.underlying66 rfl (Se.infoEnv hc2s) rfl) rfl ⟨by rw [HC2.out]; rfl, Sm.below_setRow B8.out (by omega) _⟩
    · rw [if_neg h1]
      rw [htl] at h1
      have h1i : ¬ (text.size : Int) ≤ 8192 := by omega
      show Calls _ _ _ _ fun e w' => e = .returned (.tuple #[.agg Se.zero.cells.toArray, .int .i64 3]) ∧ Below N w w'
      rw [← HZ.out]
      go_enter Tryz.func16, Tryz.ntmps16
      go_upto_region 1 with (fail)
      rw [← HN.out]
      generalize (w.alloc (.cells ckl.toArray 63)).alloc (.cells z0 66) = W2 at *
      clear hz1
      go_wp2_with (first | (with_reducible refine wpList_build_eq rfl 66 #[] rfl z0 (by rw [HZ.out]; kernel_rfl) ?_) | (with_reducible refine wpList_store_row rfl 66 (.tmp 12) (.tmp 25) rfl (N + 1) z0 rfl rfl 66 _ (by exact R1.out) (Se.infoEnv hzs) rfl hzo ?_))
      exact bodyPost_ret (v := .tuple #[.agg z0, .int .i64 3]) (Se.results_row_tmp rfl _ _ (N + 1) 66 _ (0, 0) _ _ rfl (setRow_heap _ (N + 1) _ _ _ _ R1.out) Tryz.underlying66 rfl (Se.infoEnv hzs) rfl) rfl ⟨rfl, Sm.below_setRow B2.out (by omega) _⟩
  · rw [if_neg h0]
    show Calls _ _ _ _ fun e w' => e = .returned (.tuple #[.agg Se.zero.cells.toArray, .int .i64 1]) ∧ Below N w w'
    rw [← HZ.out]
    by_cases hl : key < 0
    · skip
      go_enter Tryz.func16, Tryz.ntmps16
      go_upto_region 1 with (fail)
      rw [← HN.out]
      generalize (w.alloc (.cells ckl.toArray 63)).alloc (.cells z0 66) = W2 at *
      clear hz1
      go_wp2_with (first | (with_reducible refine wpList_build_eq rfl 66 #[] rfl z0 (by rw [HZ.out]; kernel_rfl) ?_) | (with_reducible refine wpList_store_row rfl 66 (.tmp 12) (.tmp 21) rfl (N + 1) z0 rfl rfl 66 _ (by exact R1.out) (Se.infoEnv hzs) rfl hzo ?_))
      exact bodyPost_ret (v := .tuple #[.agg z0, .int .i64 1]) (Se.results_row_tmp rfl _ _ (N + 1) 66 _ (0, 0) _ _ rfl (setRow_heap _ (N + 1) _ _ _ _ R1.out) Tryz.underlying66 rfl (Se.infoEnv hzs) rfl) rfl ⟨rfl, Sm.below_setRow B2.out (by omega) _⟩
    · have hg : 1048576 < key := by omega
      go_enter Tryz.func16, Tryz.ntmps16
      go_upto_region 1 with (fail)
      rw [← HN.out]
      generalize (w.alloc (.cells ckl.toArray 63)).alloc (.cells z0 66) = W2 at *
      clear hz1
      go_wp2_with (first | (with_reducible refine wpList_build_eq rfl 66 #[] rfl z0 (by rw [HZ.out]; kernel_rfl) ?_) | (with_reducible refine wpList_store_row rfl 66 (.tmp 12) (.tmp 21) rfl (N + 1) z0 rfl rfl 66 _ (by exact R1.out) (Se.infoEnv hzs) rfl hzo ?_))
      exact bodyPost_ret (v := .tuple #[.agg z0, .int .i64 1]) (Se.results_row_tmp rfl _ _ (N + 1) 66 _ (0, 0) _ _ rfl (setRow_heap _ (N + 1) _ _ _ _ R1.out) Tryz.underlying66 rfl (Se.infoEnv hzs) rfl) rfl ⟨rfl, Sm.below_setRow B2.out (by omega) _⟩
end Go.Proofs.YtibpgmcpcelmpaaGreatDoor
