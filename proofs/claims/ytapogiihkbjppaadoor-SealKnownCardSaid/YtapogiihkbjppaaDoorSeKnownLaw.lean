/-
  SealKnown: the chapter's examples; the limits.
-/
import Derived.Test.YtapogiihkbjppaaDoorSeKnMath
import Derived.Test.YtapogiihkbjppaaDoorSeEq
namespace Go.Proofs.YtapogiihkbjppaaDoor
open Go.RowKit Pk

set_option maxRecDepth 100000 in
set_option maxHeartbeats 8000000 in
theorem sealKnown_any {w : World} (hH : Sm.HAt w) (hK : Sm.KAt w) (hsz : 1 < w.heap.size) :
    Calls Tryd.prog 3 #[] w fun e w' => e = .returned (.bool true) ∧ Below w.heap.size w w' := by
  have HH := Lib.hid hH
  have HK := Lib.hid hK
  have hz1 := (zero_of_info Se.zeroEnv).1
  have hzs : Se.zero.cells.toArray.size = 36 := Se.cells_length _ (by rfl)
  obtain ⟨z0, hz0⟩ : ∃ z, z = Se.zero.cells.toArray := ⟨_, rfl⟩
  rw [← hz0] at hz1 hzs
  have hzk1 := (zero_of_info Se.zeroKey9).1
  have hzks : (Sm.rowB 32 []).size = 32 := by rfl
  obtain ⟨zk, hzk⟩ : ∃ z, z = Sm.rowB 32 [] := ⟨_, rfl⟩
  rw [← hzk] at hzk1 hzks
  obtain ⟨zr3, hzr3⟩ : ∃ z, z = Sm.rowB 8193 [] := ⟨_, rfl⟩
  obtain ⟨zr2, hzr2⟩ : ∃ z, z = Sm.rowB 8192 [] := ⟨_, rfl⟩
  obtain ⟨S3, hS3⟩ : ∃ b : ByteArray, b = ⟨(List.replicate 8193 0).toArray⟩ := ⟨_, rfl⟩
  obtain ⟨S2, hS2⟩ : ∃ b : ByteArray, b = ⟨(List.replicate 8192 0).toArray⟩ := ⟨_, rfl⟩
  have hS3l : S3.data.toList = List.replicate 8193 0 := by rw [hS3]
  have hS2l : S2.data.toList = List.replicate 8192 0 := by rw [hS2]
  have hS3s : S3.size ≤ 9000 := by have h := congrArg List.length hS3l; rw [Array.length_toList, List.length_replicate] at h; exact Nat.le_trans (Nat.le_of_eq h) (by omega)
  have hS2s : S2.size ≤ 9000 := by have h := congrArg List.length hS2l; rw [Array.length_toList, List.length_replicate] at h; exact Nat.le_trans (Nat.le_of_eq h) (by omega)
  have MK3 : Hid (∀ W : World, (Instr.makeSlice 32 (.int .i64 8193) (.int .i64 8193)).run Tryd.prog W = .ok (.slice (some ⟨W.heap.size, 0, none⟩) 8193 8193) (W.alloc (.cells zr3 5))) := fun W => by rw [hzr3]; exact Se.makeN 8193 (by omega) W
  have MK2 : Hid (∀ W : World, (Instr.makeSlice 32 (.int .i64 8192) (.int .i64 8192)).run Tryd.prog W = .ok (.slice (some ⟨W.heap.size, 0, none⟩) 8192 8192) (W.alloc (.cells zr2 5))) := fun W => by rw [hzr2]; exact Se.makeN 8192 (by omega) W
  have CV3 : Hid (∀ (W : World) (M : Nat), W.heap[M]? = some (.cells zr3 5 (0, 0)) → (convert 32 9 (.slice (some ⟨M, 0, none⟩) 8193 8193)).run Tryd.prog W = .ok (.string S3) W) := fun W M h => by rw [hzr3] at h; rw [hS3]; exact Se.convN 8193 h
  have CV2 : Hid (∀ (W : World) (M : Nat), W.heap[M]? = some (.cells zr2 5 (0, 0)) → (convert 32 9 (.slice (some ⟨M, 0, none⟩) 8192 8192)).run Tryd.prog W = .ok (.string S2) W) := fun W M h => by rw [hzr2] at h; rw [hS2]; exact Se.convN 8192 h
  obtain ⟨ck, hck⟩ : ∃ c, c = Lib.byteCells Se.nine := ⟨_, rfl⟩
  have hckl : ck.length = 32 := by rw [hck, Lib.byteCells_length]; rfl
  have hcks : ck.toArray.size = 32 := by rw [List.size_toArray, hckl]
  have hcko : ck.toArray.all (·.oneCell') = true := by rw [hck]; kernel_rfl
  have hicl : (Tryd.prog.info? 23).map (·.size) = some ck.toArray.size := by rw [hcks]; kernel_rfl
  have hick : (Tryd.prog.info? 23).map (·.size) = some ck.length := by rw [hckl]; kernel_rfl
  have BK : Hid (Tryd.prog.built 23 [(0, .int .u8 9)] = some ck.toArray) := by
    show _ = _
    rw [hck]; exact Se.builtNine
  have hstk : (storeCells ⟨w.heap.size, 0, none⟩ ck).run Tryd.prog (w.alloc (.cells zk 23)) = .ok () (w.alloc (.cells ck.toArray 23)) :=
    run_storeCells_new (P := Tryd.prog) w 23 zk _ hicl (by rw [hcks]; exact hzks) hcko
  have STE : Hid (∀ (c : List Value), c.length = 36 → c.toArray.all (·.oneCell') = true → ∀ wx : World, (storeCells ⟨wx.heap.size, 0, none⟩ c).run Tryd.prog (wx.alloc (.cells z0 28)) = .ok () (wx.alloc (.cells c.toArray 28))) := fun c h1 h2 wx => by
    have h3 : c.toArray.size = 36 := by rw [List.size_toArray, h1]
    exact run_storeCells_new (P := Tryd.prog) wx 28 z0 _ (Se.infoEnv h3) (by rw [h3]; exact hzs) h2
  obtain ⟨cz, hcz⟩ : ∃ c, c = (Se.zero).cells := ⟨_, rfl⟩
  have hczl : cz.length = 36 := by rw [hcz]; exact Se.cells_length _ (by rfl)
  have hczs : cz.toArray.size = 36 := by rw [List.size_toArray, hczl]
  have hczo : cz.toArray.all (·.oneCell') = true := by rw [hcz]; exact Se.cells_one _
  have hicz := Se.infoEnv hczs
  obtain ⟨c8, hc8⟩ : ∃ c, c = (Se.most8).cells := ⟨_, rfl⟩
  have hc8l : c8.length = 36 := by rw [hc8]; exact Se.cells_length _ Se.most8_tag
  have hc8s : c8.toArray.size = 36 := by rw [List.size_toArray, hc8l]
  have hc8o : c8.toArray.all (·.oneCell') = true := by rw [hc8]; exact Se.cells_one _
  have hic8 := Se.infoEnv hc8s
  obtain ⟨ce, hce⟩ : ∃ c, c = (Se.exam).cells := ⟨_, rfl⟩
  have hcel : ce.length = 36 := by rw [hce]; exact Se.cells_length _ Se.exam_ok.1.tag
  have hces : ce.toArray.size = 36 := by rw [List.size_toArray, hcel]
  have hceo : ce.toArray.all (·.oneCell') = true := by rw [hce]; exact Se.cells_one _
  have hice := Se.infoEnv hces
  obtain ⟨cf, hcf⟩ : ∃ c, c = (Se.four).cells := ⟨_, rfl⟩
  have hcfl : cf.length = 36 := by rw [hcf]; exact Se.cells_length _ Se.four_ok.tag
  have hcfs : cf.toArray.size = 36 := by rw [List.size_toArray, hcfl]
  have hcfo : cf.toArray.all (·.oneCell') = true := by rw [hcf]; exact Se.cells_one _
  have hicf := Se.infoEnv hcfs
  have CL1 : Hid (∀ wx : World, Sm.HAt wx → Sm.KAt wx → 1 < wx.heap.size → Calls Tryd.prog 8 #[.agg ck.toArray, .int .i64 (-1), .int .u32 0, .int .u64 0, .string ⟨#[]⟩, .string ⟨#[]⟩] wx fun e w' => e = .returned (.tuple #[.agg cz.toArray, .int .i64 1]) ∧ Below wx.heap.size wx w') := fun wx a b c => by
    have g := close_any a b c Se.nine Se.nine_length ((-1)) (by decide) 0 0 (by decide) (by decide) ⟨#[]⟩ ⟨#[]⟩ (by decide) (by decide)
    have q : Se.close Se.nine ((-1)) 0 0 (⟨#[]⟩ : ByteArray).data.toList (⟨#[]⟩ : ByteArray).data.toList = _ := Se.close_low
    rw [q] at g
    rw [hck, hcz]
    exact g
  have CL2 : Hid (∀ wx : World, Sm.HAt wx → Sm.KAt wx → 1 < wx.heap.size → Calls Tryd.prog 8 #[.agg ck.toArray, .int .i64 1048577, .int .u32 0, .int .u64 0, .string ⟨#[]⟩, .string ⟨#[]⟩] wx fun e w' => e = .returned (.tuple #[.agg cz.toArray, .int .i64 1]) ∧ Below wx.heap.size wx w') := fun wx a b c => by
    have g := close_any a b c Se.nine Se.nine_length (1048577) (by decide) 0 0 (by decide) (by decide) ⟨#[]⟩ ⟨#[]⟩ (by decide) (by decide)
    have q : Se.close Se.nine (1048577) 0 0 (⟨#[]⟩ : ByteArray).data.toList (⟨#[]⟩ : ByteArray).data.toList = _ := Se.close_high
    rw [q] at g
    rw [hck, hcz]
    exact g
  have CL3 : Hid (∀ wx : World, Sm.HAt wx → Sm.KAt wx → 1 < wx.heap.size → Calls Tryd.prog 8 #[.agg ck.toArray, .int .i64 0, .int .u32 0, .int .u64 0, .string ⟨#[]⟩, .string S3] wx fun e w' => e = .returned (.tuple #[.agg cz.toArray, .int .i64 3]) ∧ Below wx.heap.size wx w') := fun wx a b c => by
    have g := close_any a b c Se.nine Se.nine_length (0) (by decide) 0 0 (by decide) (by decide) ⟨#[]⟩ S3 (by decide) (by omega)
    have q : Se.close Se.nine (0) 0 0 (⟨#[]⟩ : ByteArray).data.toList (S3 : ByteArray).data.toList = _ := (Se.close_long' rfl hS3l)
    rw [q] at g
    rw [hck, hcz]
    exact g
  have CL4 : Hid (∀ wx : World, Sm.HAt wx → Sm.KAt wx → 1 < wx.heap.size → Calls Tryd.prog 8 #[.agg ck.toArray, .int .i64 1048576, .int .u32 4294967295, .int .u64 18446744073709551615, .string ⟨#[97]⟩, .string S2] wx fun e w' => e = .returned (.tuple #[.agg c8.toArray, .int .i64 0]) ∧ Below wx.heap.size wx w') := fun wx a b c => by
    have g := close_any a b c Se.nine Se.nine_length (1048576) (by decide) 4294967295 18446744073709551615 (by decide) (by decide) ⟨#[97]⟩ S2 (by decide) (by omega)
    have q : Se.close Se.nine (1048576) 4294967295 18446744073709551615 (⟨#[97]⟩ : ByteArray).data.toList (S2 : ByteArray).data.toList = _ := (Se.close_most' rfl hS2l)
    rw [q] at g
    rw [hck, hc8]
    exact g
  have CL5 : Hid (∀ wx : World, Sm.HAt wx → Sm.KAt wx → 1 < wx.heap.size → Calls Tryd.prog 8 #[.agg ck.toArray, .int .i64 1, .int .u32 2, .int .u64 3, .string ⟨#[97]⟩, .string ⟨#[104, 101, 108, 108, 111]⟩] wx fun e w' => e = .returned (.tuple #[.agg ce.toArray, .int .i64 0]) ∧ Below wx.heap.size wx w') := fun wx a b c => by
    have g := close_any a b c Se.nine Se.nine_length (1) (by decide) 2 3 (by decide) (by decide) ⟨#[97]⟩ ⟨#[104, 101, 108, 108, 111]⟩ (by decide) (by decide)
    have q : Se.close Se.nine (1) 2 3 (⟨#[97]⟩ : ByteArray).data.toList (⟨#[104, 101, 108, 108, 111]⟩ : ByteArray).data.toList = _ := Se.close_exam
    rw [q] at g
    rw [hck, hce]
    exact g
  have OP1 : Hid (∀ wx : World, Sm.HAt wx → Sm.KAt wx → 1 < wx.heap.size → Calls Tryd.prog 9 #[.agg ck.toArray, .agg ce.toArray, .string ⟨#[97]⟩] wx fun e w' => e = .returned (.tuple #[.string ⟨#[104, 101, 108, 108, 111]⟩, .int .i64 0]) ∧ Below wx.heap.size wx w') := fun wx a b c => by
    have g := open_any a b c Se.nine Se.nine_length Se.exam Se.exam_ok.1 ⟨#[97]⟩ (by decide)
    have q : Se.opened Se.nine Se.exam (⟨#[97]⟩ : ByteArray).data.toList = _ := Se.open_hello
    rw [q] at g
    rw [hck, hce]
    exact g
  have OP2 : Hid (∀ wx : World, Sm.HAt wx → Sm.KAt wx → 1 < wx.heap.size → Calls Tryd.prog 9 #[.agg ck.toArray, .agg ce.toArray, .string ⟨#[98]⟩] wx fun e w' => e = .returned (.tuple #[.string ⟨#[]⟩, .int .i64 13]) ∧ Below wx.heap.size wx w') := fun wx a b c => by
    have g := open_any a b c Se.nine Se.nine_length Se.exam Se.exam_ok.1 ⟨#[98]⟩ (by decide)
    have q : Se.opened Se.nine Se.exam (⟨#[98]⟩ : ByteArray).data.toList = _ := Se.open_other
    rw [q] at g
    rw [hck, hce]
    exact g
  have OP3 : Hid (∀ wx : World, Sm.HAt wx → Sm.KAt wx → 1 < wx.heap.size → Calls Tryd.prog 9 #[.agg ck.toArray, .agg cf.toArray, .string ⟨#[97]⟩] wx fun e w' => e = .returned (.tuple #[.string ⟨#[]⟩, .int .i64 13]) ∧ Below wx.heap.size wx w') := fun wx a b c => by
    have g := open_any a b c Se.nine Se.nine_length Se.four Se.four_ok ⟨#[97]⟩ (by decide)
    have q : Se.opened Se.nine Se.four (⟨#[97]⟩ : ByteArray).data.toList = _ := Se.open_four
    rw [q] at g
    rw [hck, hcf]
    exact g
  obtain ⟨bw, hbw⟩ : ∃ b, b = Se.examB := ⟨_, rfl⟩
  obtain ⟨bc, hbc⟩ : ∃ b, b = Se.cutB := ⟨_, rfl⟩
  obtain ⟨bm, hbm⟩ : ∃ b, b = Se.moreB := ⟨_, rfl⟩
  have hbws : 32 ≤ bw.size ∧ bw.size ≤ 9000 := by rw [hbw, Se.examB_size]; exact ⟨Se.bytes_long, Se.bytes_most⟩
  have BY : Hid (∀ wx : World, Calls Tryd.prog 10 #[.agg ce.toArray] wx fun e w' => e = .returned (.tuple #[.string bw, .int .i64 0]) ∧ Below wx.heap.size wx w') := fun wx => by
    have g := bytes5_any wx Se.exam Se.exam_ok.1
    rw [Se.spelled_exam] at g
    rw [hce, hbw]
    exact g
  have RD1 : Hid (∀ wx : World, Calls Tryd.prog 11 #[.string bw] wx fun e w' => e = .returned (.tuple #[.agg ce.toArray, .int .i64 0]) ∧ Below wx.heap.size wx w') := fun wx => by
    have g := read5_any wx bw (by omega)
    rw [hbw, Se.read_exam] at g
    rw [hce, hbw]; exact g
  have RD2 : Hid (∀ wx : World, Calls Tryd.prog 11 #[.string bc] wx fun e w' => e = .returned (.tuple #[.agg cz.toArray, .int .i64 7]) ∧ Below wx.heap.size wx w') := fun wx => by
    have g := read5_any wx bc (by rw [hbc]; have := Se.cutB_size; omega)
    rw [hbc, Se.read_cut] at g
    rw [hcz, hbc]; exact g
  have RD3 : Hid (∀ wx : World, Calls Tryd.prog 11 #[.string bm] wx fun e w' => e = .returned (.tuple #[.agg cz.toArray, .int .i64 8]) ∧ Below wx.heap.size wx w') := fun wx => by
    have g := read5_any wx bm (by rw [hbm]; have := Se.moreB_size; omega)
    rw [hbm, Se.read_more] at g
    rw [hcz, hbm]; exact g
  have hcut : bw.extract 0 (bw.size - 1) = bc := by rw [hbw, hbc]; exact Se.exam_cut
  have hmore : bw ++ ⟨#[120]⟩ = bm := by rw [hbw, hbm]; exact Se.exam_more
  have AW : Hid (∀ wx : World, Sm.HAt wx → Sm.KAt wx → 1 < wx.heap.size → Calls Tryd.prog 12 #[] wx fun e w' => e = .returned (.bool true) ∧ Below wx.heap.size wx w') := fun wx h1 h2 h3 => awake5_any h1 h2 h3
  obtain ⟨d8, hd8⟩ : ∃ d, d = Se.most8.data := ⟨_, rfl⟩
  have hd8s : (d8.size : Int) = 8192 := by rw [hd8, Se.most8_data]; rfl
  have hc83 : c8.toArray[3]? = some (.string d8) := by rw [hc8, hd8]; exact Se.cells3 _
  have hce2 : ce.toArray[2]? = some (.int .u64 3) := by rw [hce]; exact Se.cells2 _
  have HFOUR : Hid (ce.toArray.setIfInBounds 2 (.int .u64 4) = cf.toArray) := by
    show _ = _
    rw [hce, hcf]; exact Se.four_cells
  have HCE := Lib.hid hce
  obtain ⟨N, hN⟩ : ∃ N, N = w.heap.size := ⟨_, rfl⟩
  have hN1 : 1 < N := by omega
  have K1 : Hid ((w.alloc (.cells ck.toArray 23)).heap[N]? = some (.cells ck.toArray 23 (0, 0))) := by
    show _ = _
    rw [hN]; exact heap_alloc_new w _
  have B1 : Hid (Below N w (w.alloc (.cells ck.toArray 23))) := by
    show Below N _ _
    rw [hN]; exact Se.below_new w _
  have s1 : N < (w.alloc (.cells ck.toArray 23)).heap.size := by rw [hN]; simp
  rw [← hN]
  have HN := Lib.hid hN
  clear hH hK hz0 hzk hzr3 hzr2 hS3 hS2 hS3l hS2l hS3s hS2s hck hcz hc8 hce hcf hbw hbc hbm hd8 hN hcko
  go_enter Tryd.func3, Tryd.ntmps3
  go_upto_region 2 with (with_reducible refine wpList_build_eq rfl 23 _ rfl ck.toArray (by with_unfolding_all exact BK.out) ?_)
  rw [← HN.out]
  clear hstk hzk1
  generalize w.alloc (.cells ck.toArray 23) = w1 at *
  go_wp2_with (with_reducible refine wpList_load_row rfl 23 (.tmp 1) rfl N rfl 23 ck.toArray (0, 0) _ (by exact K1.out) Tryd.underlying23 rfl hicl ?_)
  refine (CL1.out _ (HH.out.low B1.out (by omega)) (HK.out.low B1.out hN1) (by omega)).mono ?_
  rintro e w2 ⟨rfl, k2⟩
  have K2 := Lib.hid ((k2.block N (by omega)).trans K1.out)
  have B2 := Lib.hid (B1.out.trans (k2.mono (by omega)))
  have s2 : N < w2.heap.size := Nat.lt_of_lt_of_le s1 k2.size
  clear k2 K1 B1 s1
  have hst3 := STE.out cz hczl hczo w2
  go_upto_region 3 with (fail)
  have K3 := Lib.hid ((Below.heap_alloc w2 (.cells cz.toArray 28) N (by omega)).trans K2.out)
  have B3 := Lib.hid (B2.out.alloc (by omega) (.cells cz.toArray 28))
  have s3 : N < (w2.alloc (.cells cz.toArray 28)).heap.size := by simp; omega
  clear hst3 K2 B2 s2
  generalize w2.alloc (.cells cz.toArray 28) = w3 at *
  obtain ⟨M3, hM3⟩ : ∃ M, M = w2.heap.size := ⟨_, rfl⟩
  rw [← hM3]
  clear hM3
  go_wp2_with (with_reducible refine wpList_load_row rfl 23 (.tmp 1) rfl N rfl 23 ck.toArray (0, 0) _ (by exact K3.out) Tryd.underlying23 rfl hicl ?_)
  refine (CL2.out _ (HH.out.low B3.out (by omega)) (HK.out.low B3.out hN1) (by omega)).mono ?_
  rintro e w4 ⟨rfl, k4⟩
  have K4 := Lib.hid ((k4.block N (by omega)).trans K3.out)
  have B4 := Lib.hid (B3.out.trans (k4.mono (by omega)))
  have s4 : N < w4.heap.size := Nat.lt_of_lt_of_le s3 k4.size
  clear k4 K3 B3 s3
  have hst5 := STE.out cz hczl hczo w4
  go_upto_region 4 with (fail)
  have K5 := Lib.hid ((Below.heap_alloc w4 (.cells cz.toArray 28) N (by omega)).trans K4.out)
  have B5 := Lib.hid (B4.out.alloc (by omega) (.cells cz.toArray 28))
  have s5 : N < (w4.alloc (.cells cz.toArray 28)).heap.size := by simp; omega
  clear hst5 K4 B4 s4
  generalize w4.alloc (.cells cz.toArray 28) = w5 at *
  obtain ⟨M5, hM5⟩ : ∃ M, M = w4.heap.size := ⟨_, rfl⟩
  rw [← hM5]
  clear hM5
  go_upto_region 4 with (fail)
  have KD := Lib.hid (show w5.drew.heap[N]? = some (.cells ck.toArray 23 (0, 0)) from K5.out)
  have BD := Lib.hid B5.out.drew
  have sD : N < w5.drew.heap.size := s5
  go_cut [6, 7] from 38 (fun sa sb wx => ∃ (E : Nat) (wk : World), wk = wx ∧ sa = .pointer (some ⟨E, 0, none⟩) ∧ sb = .int .i64 3 ∧ wk.heap[N]? = some (.cells ck.toArray 23 (0, 0)) ∧ Below N w wk ∧ N < wk.heap.size)
  case first =>
    refine wp_region_held_drew (S := fun w' => w'.heap[N]? = some (.cells ck.toArray 23 (0, 0))) (by kernel_rfl) KD.out (fun hHeld => ?_)
    generalize w5.drew = W0 at *
    refine wpAnyH_take (i := 0) (oi := ⟨some 39, _, _, _, _, _⟩) (v := .agg ck.toArray) rfl (by kernel_rfl) (by kernel_rfl) (by kernel_rfl) (fun _ _ _ h => h) (yieldsIf_load_mid (by rfl) _ _ rfl _ _ rfl ck _ (fun w hS => Sm.range_row hS) Tryd.underlying23 rfl hick) (by assumption) ?_
    simp only [Act.put, List.setIfInBounds_toArray, List.set_cons_zero, List.set_cons_succ]
    refine wpAnyH_ready (rs := [1, 7]) (by kernel_rfl) (by simp) ?_
    refine (AllReadyH.cons (o := ⟨some 40, _, _, _, _, _⟩) rfl (fun K hK => ?_) (AllReadyH.cons (o := ⟨some 6, _, _, _, _, _⟩) rfl (fun K hK => ?_) AllReadyH.nil))
    · have hmk := MK3.out W0
      go_simp
      have Ka0m := Lib.hid ((Below.heap_alloc W0 (.cells zr3 5) N (by omega)).trans KD.out)
      have Ba0m := Lib.hid (BD.out.alloc (by omega) (.cells zr3 5))
      have sa0m : N < (W0.alloc (.cells zr3 5)).heap.size := by simp; omega
      have Ga0m := Lib.hid (heap_alloc_new W0 (.cells zr3 5))
      have la0m : W0.heap.size < (W0.alloc (.cells zr3 5)).heap.size := by simp
      clear hmk
      generalize W0.alloc (.cells zr3 5) = Wa0m at *
      obtain ⟨Gb0m, hGb0m⟩ : ∃ G, G = W0.heap.size := ⟨_, rfl⟩
      rw [← hGb0m] at Ga0m la0m ⊢
      clear hGb0m
      refine hK.out _ _ Ka0m.out (fun hHeld => ?_)
      clear hK K
      refine wpAnyH_ready (rs := [2, 7]) (by kernel_rfl) (by simp) ?_
      refine (AllReadyH.cons (o := ⟨some 41, _, _, _, _, _⟩) rfl (fun K hK => ?_) (AllReadyH.cons (o := ⟨some 6, _, _, _, _, _⟩) rfl (fun K hK => ?_) AllReadyH.nil))
      · have hcv := CV3.out _ _ Ga0m.out
        go_simp
        clear hcv
        refine hK.out _ _ Ka0m.out (fun hHeld => ?_)
        clear hK K
        refine wpAnyH_ready (rs := [3, 7]) (by kernel_rfl) (by simp) ?_
        refine (AllReadyH.cons (o := ⟨some 42, _, _, _, _, _⟩) rfl (fun K hK => ?_) (AllReadyH.cons (o := ⟨some 6, _, _, _, _, _⟩) rfl (fun K hK => ?_) AllReadyH.nil))
        · go_simp
          refine (CL3.out _ (HH.out.low Ba0m.out (by omega)) (HK.out.low Ba0m.out hN1) (by omega)).mono ?_
          rintro e Wc2c ⟨rfl, kc2c⟩
          have Kc2c := Lib.hid ((kc2c.block N (by omega)).trans Ka0m.out)
          have Bc2c := Lib.hid (Ba0m.out.trans (kc2c.mono (by omega)))
          have sc2c : N < Wc2c.heap.size := Nat.lt_of_lt_of_le sa0m kc2c.size
          refine hK.out _ _ Kc2c.out (fun hHeld => ?_)
          clear hK K
          refine wpAnyH_take (i := 4) (oi := ⟨some 38, _, _, _, _, _⟩) (v := .tuple #[.agg cz.toArray, .int .i64 3]) rfl (by kernel_rfl) (by kernel_rfl) (by kernel_rfl) (fun _ _ _ h => h) (Or.inl ⟨by rfl, ?_⟩) (by assumption) ?_
          · intro w hSw; (try dsimp only at hSw); go_simp
          simp only [Act.put, List.setIfInBounds_toArray, List.set_cons_zero, List.set_cons_succ]
          refine wpAnyH_take (i := 5) (oi := ⟨some 43, _, _, _, _, _⟩) (v := .agg cz.toArray) rfl (by kernel_rfl) (by kernel_rfl) (by kernel_rfl) (fun _ _ _ h => h) (Or.inl ⟨by rfl, ?_⟩) (by assumption) ?_
          · intro w hSw; (try dsimp only at hSw); go_simp
          simp only [Act.put, List.setIfInBounds_toArray, List.set_cons_zero, List.set_cons_succ]
          refine wpAnyH_take (i := 6) (oi := ⟨some 44, _, _, _, _, _⟩) (v := .int .i64 3) rfl (by kernel_rfl) (by kernel_rfl) (by kernel_rfl) (fun _ _ _ h => h) (Or.inl ⟨by rfl, ?_⟩) (by assumption) ?_
          · intro w hSw; (try dsimp only at hSw); go_simp
          simp only [Act.put, List.setIfInBounds_toArray, List.set_cons_zero, List.set_cons_succ]
          refine wpAnyH_ready (rs := [7]) (by kernel_rfl) (by simp) ?_
          refine (AllReadyH.cons (o := ⟨some 6, _, _, _, _, _⟩) rfl (fun K hK => ?_) AllReadyH.nil)
          go_simp
          have Kb3e := Lib.hid ((Below.heap_alloc Wc2c (.cells z0 28) N (by omega)).trans Kc2c.out)
          have Bb3e := Lib.hid (Bc2c.out.alloc (by omega) (.cells z0 28))
          have sb3e : N < (Wc2c.alloc (.cells z0 28)).heap.size := by simp; omega
          have Hb3e := Lib.hid (heap_alloc_new Wc2c (.cells z0 28))
          have lb3e : Wc2c.heap.size < (Wc2c.alloc (.cells z0 28)).heap.size := by simp
          have lE3e : N < Wc2c.heap.size := sc2c
          generalize Wc2c.alloc (.cells z0 28) = Wb3e at *
          obtain ⟨E3e, hE3e⟩ : ∃ E, E = Wc2c.heap.size := ⟨_, rfl⟩
          rw [← hE3e] at Hb3e lb3e lE3e ⊢
          clear hE3e
          refine hK.out _ _ Kb3e.out (fun hHeld => ?_)
          clear hK K
          refine wpAnyH_ready (rs := [8]) (by kernel_rfl) (by simp) ?_
          refine (AllReadyH.cons (o := ⟨none, _, _, _, _, _⟩) rfl (fun K hK => ?_) AllReadyH.nil)
          rw [if_pos (by simp [Region.wanted])]
          refine wp_store_mid 28 (.tmp 6) (.tmp 43) rfl E3e 0 cz.toArray rfl rfl (Sm.there_row Hb3e.out (by rw [hzs, hczs])) hicz hczo ?_
          have Kf := Lib.hid ((Sm.other_setCells (by omega) Kb3e.out : (Wb3e.setCells E3e 0 cz).heap[N]? = _))
          have Bf : Below N w (Wb3e.setCells E3e 0 cz) := Sm.below_setCells (by omega) _ _ Bb3e.out
          have Ef := Lib.hid (Sm.heap_setAll (vs := cz) Hb3e.out (by rw [hzs, hczl]))
          have sf := Sm.lt_of Kf.out
          have lf := Sm.lt_of Ef.out
          refine hK.out _ _ Kf.out (fun hHeld => ?_)
          clear hK K
          refine wpAnyH_take (i := 9) (oi := ⟨some 7, _, _, _, _, _⟩) (v := .int .i64 3) rfl (by kernel_rfl) (by kernel_rfl) (by kernel_rfl) (fun _ _ _ h => h) (Or.inl ⟨by rfl, ?_⟩) (by assumption) ?_
          · intro w hSw; (try dsimp only at hSw); go_simp
          simp only [Act.put, List.setIfInBounds_toArray, List.set_cons_zero, List.set_cons_succ]
          refine wpAnyH_done (by kernel_rfl) ?_ _
          go_wp2_with fail
          go_meet
          exact ⟨E3e, _, rfl, rfl, rfl, Kf.out, Bf, sf⟩
        · go_simp
          have Kb2e := Lib.hid ((Below.heap_alloc Wa0m (.cells z0 28) N (by omega)).trans Ka0m.out)
          have Bb2e := Lib.hid (Ba0m.out.alloc (by omega) (.cells z0 28))
          have sb2e : N < (Wa0m.alloc (.cells z0 28)).heap.size := by simp; omega
          have Hb2e := Lib.hid (heap_alloc_new Wa0m (.cells z0 28))
          have lb2e : Wa0m.heap.size < (Wa0m.alloc (.cells z0 28)).heap.size := by simp
          have lE2e : N < Wa0m.heap.size := sa0m
          have G22 := Lib.hid ((Below.heap_alloc Wa0m (.cells z0 28) Gb0m la0m).trans Ga0m.out)
          have l22 : Gb0m < (Wa0m.alloc (.cells z0 28)).heap.size := by simp; omega
          generalize Wa0m.alloc (.cells z0 28) = Wb2e at *
          obtain ⟨E2e, hE2e⟩ : ∃ E, E = Wa0m.heap.size := ⟨_, rfl⟩
          rw [← hE2e] at Hb2e lb2e lE2e ⊢
          clear hE2e
          refine hK.out _ _ Kb2e.out (fun hHeld => ?_)
          clear hK K
          refine wpAnyH_ready (rs := [3]) (by kernel_rfl) (by simp) ?_
          refine (AllReadyH.cons (o := ⟨some 42, _, _, _, _, _⟩) rfl (fun K hK => ?_) AllReadyH.nil)
          go_simp
          refine (CL3.out _ (HH.out.low Bb2e.out (by omega)) (HK.out.low Bb2e.out hN1) (by omega)).mono ?_
          rintro e Wc3c ⟨rfl, kc3c⟩
          have Kc3c := Lib.hid ((kc3c.block N (by omega)).trans Kb2e.out)
          have Bc3c := Lib.hid (Bb2e.out.trans (kc3c.mono (by omega)))
          have sc3c : N < Wc3c.heap.size := Nat.lt_of_lt_of_le sb2e kc3c.size
          have HE2ec := Lib.hid ((kc3c.block E2e (by omega)).trans Hb2e.out)
          have kE2ec : E2e < Wc3c.heap.size := Nat.lt_of_lt_of_le lb2e kc3c.size
          refine hK.out _ _ Kc3c.out (fun hHeld => ?_)
          clear hK K
          refine wpAnyH_take (i := 4) (oi := ⟨some 38, _, _, _, _, _⟩) (v := .tuple #[.agg cz.toArray, .int .i64 3]) rfl (by kernel_rfl) (by kernel_rfl) (by kernel_rfl) (fun _ _ _ h => h) (Or.inl ⟨by rfl, ?_⟩) (by assumption) ?_
          · intro w hSw; (try dsimp only at hSw); go_simp
          simp only [Act.put, List.setIfInBounds_toArray, List.set_cons_zero, List.set_cons_succ]
          refine wpAnyH_take (i := 5) (oi := ⟨some 43, _, _, _, _, _⟩) (v := .agg cz.toArray) rfl (by kernel_rfl) (by kernel_rfl) (by kernel_rfl) (fun _ _ _ h => h) (Or.inl ⟨by rfl, ?_⟩) (by assumption) ?_
          · intro w hSw; (try dsimp only at hSw); go_simp
          simp only [Act.put, List.setIfInBounds_toArray, List.set_cons_zero, List.set_cons_succ]
          refine wpAnyH_take (i := 6) (oi := ⟨some 44, _, _, _, _, _⟩) (v := .int .i64 3) rfl (by kernel_rfl) (by kernel_rfl) (by kernel_rfl) (fun _ _ _ h => h) (Or.inl ⟨by rfl, ?_⟩) (by assumption) ?_
          · intro w hSw; (try dsimp only at hSw); go_simp
          simp only [Act.put, List.setIfInBounds_toArray, List.set_cons_zero, List.set_cons_succ]
          refine wpAnyH_ready (rs := [8]) (by kernel_rfl) (by simp) ?_
          refine (AllReadyH.cons (o := ⟨none, _, _, _, _, _⟩) rfl (fun K hK => ?_) AllReadyH.nil)
          rw [if_pos (by simp [Region.wanted])]
          refine wp_store_mid 28 (.tmp 6) (.tmp 43) rfl E2e 0 cz.toArray rfl rfl (Sm.there_row HE2ec.out (by rw [hzs, hczs])) hicz hczo ?_
          have Kf := Lib.hid ((Sm.other_setCells (by omega) Kc3c.out : (Wc3c.setCells E2e 0 cz).heap[N]? = _))
          have Bf : Below N w (Wc3c.setCells E2e 0 cz) := Sm.below_setCells (by omega) _ _ Bc3c.out
          have Ef := Lib.hid (Sm.heap_setAll (vs := cz) HE2ec.out (by rw [hzs, hczl]))
          have sf := Sm.lt_of Kf.out
          have lf := Sm.lt_of Ef.out
          refine hK.out _ _ Kf.out (fun hHeld => ?_)
          clear hK K
          refine wpAnyH_take (i := 9) (oi := ⟨some 7, _, _, _, _, _⟩) (v := .int .i64 3) rfl (by kernel_rfl) (by kernel_rfl) (by kernel_rfl) (fun _ _ _ h => h) (Or.inl ⟨by rfl, ?_⟩) (by assumption) ?_
          · intro w hSw; (try dsimp only at hSw); go_simp
          simp only [Act.put, List.setIfInBounds_toArray, List.set_cons_zero, List.set_cons_succ]
          refine wpAnyH_done (by kernel_rfl) ?_ _
          go_wp2_with fail
          go_meet
          exact ⟨E2e, _, rfl, rfl, rfl, Kf.out, Bf, sf⟩
      · go_simp
        have Kb1e := Lib.hid ((Below.heap_alloc Wa0m (.cells z0 28) N (by omega)).trans Ka0m.out)
        have Bb1e := Lib.hid (Ba0m.out.alloc (by omega) (.cells z0 28))
        have sb1e : N < (Wa0m.alloc (.cells z0 28)).heap.size := by simp; omega
        have Hb1e := Lib.hid (heap_alloc_new Wa0m (.cells z0 28))
        have lb1e : Wa0m.heap.size < (Wa0m.alloc (.cells z0 28)).heap.size := by simp
        have lE1e : N < Wa0m.heap.size := sa0m
        have G21 := Lib.hid ((Below.heap_alloc Wa0m (.cells z0 28) Gb0m la0m).trans Ga0m.out)
        have l21 : Gb0m < (Wa0m.alloc (.cells z0 28)).heap.size := by simp; omega
        generalize Wa0m.alloc (.cells z0 28) = Wb1e at *
        obtain ⟨E1e, hE1e⟩ : ∃ E, E = Wa0m.heap.size := ⟨_, rfl⟩
        rw [← hE1e] at Hb1e lb1e lE1e ⊢
        clear hE1e
        refine hK.out _ _ Kb1e.out (fun hHeld => ?_)
        clear hK K
        refine wpAnyH_ready (rs := [2]) (by kernel_rfl) (by simp) ?_
        refine (AllReadyH.cons (o := ⟨some 41, _, _, _, _, _⟩) rfl (fun K hK => ?_) AllReadyH.nil)
        have hcv := CV3.out _ _ G21.out
        go_simp
        clear hcv
        refine hK.out _ _ Kb1e.out (fun hHeld => ?_)
        clear hK K
        refine wpAnyH_ready (rs := [3]) (by kernel_rfl) (by simp) ?_
        refine (AllReadyH.cons (o := ⟨some 42, _, _, _, _, _⟩) rfl (fun K hK => ?_) AllReadyH.nil)
        go_simp
        refine (CL3.out _ (HH.out.low Bb1e.out (by omega)) (HK.out.low Bb1e.out hN1) (by omega)).mono ?_
        rintro e Wc3c ⟨rfl, kc3c⟩
        have Kc3c := Lib.hid ((kc3c.block N (by omega)).trans Kb1e.out)
        have Bc3c := Lib.hid (Bb1e.out.trans (kc3c.mono (by omega)))
        have sc3c : N < Wc3c.heap.size := Nat.lt_of_lt_of_le sb1e kc3c.size
        have HE1ec := Lib.hid ((kc3c.block E1e (by omega)).trans Hb1e.out)
        have kE1ec : E1e < Wc3c.heap.size := Nat.lt_of_lt_of_le lb1e kc3c.size
        refine hK.out _ _ Kc3c.out (fun hHeld => ?_)
        clear hK K
        refine wpAnyH_take (i := 4) (oi := ⟨some 38, _, _, _, _, _⟩) (v := .tuple #[.agg cz.toArray, .int .i64 3]) rfl (by kernel_rfl) (by kernel_rfl) (by kernel_rfl) (fun _ _ _ h => h) (Or.inl ⟨by rfl, ?_⟩) (by assumption) ?_
        · intro w hSw; (try dsimp only at hSw); go_simp
        simp only [Act.put, List.setIfInBounds_toArray, List.set_cons_zero, List.set_cons_succ]
        refine wpAnyH_take (i := 5) (oi := ⟨some 43, _, _, _, _, _⟩) (v := .agg cz.toArray) rfl (by kernel_rfl) (by kernel_rfl) (by kernel_rfl) (fun _ _ _ h => h) (Or.inl ⟨by rfl, ?_⟩) (by assumption) ?_
        · intro w hSw; (try dsimp only at hSw); go_simp
        simp only [Act.put, List.setIfInBounds_toArray, List.set_cons_zero, List.set_cons_succ]
        refine wpAnyH_take (i := 6) (oi := ⟨some 44, _, _, _, _, _⟩) (v := .int .i64 3) rfl (by kernel_rfl) (by kernel_rfl) (by kernel_rfl) (fun _ _ _ h => h) (Or.inl ⟨by rfl, ?_⟩) (by assumption) ?_
        · intro w hSw; (try dsimp only at hSw); go_simp
        simp only [Act.put, List.setIfInBounds_toArray, List.set_cons_zero, List.set_cons_succ]
        refine wpAnyH_ready (rs := [8]) (by kernel_rfl) (by simp) ?_
        refine (AllReadyH.cons (o := ⟨none, _, _, _, _, _⟩) rfl (fun K hK => ?_) AllReadyH.nil)
        rw [if_pos (by simp [Region.wanted])]
        refine wp_store_mid 28 (.tmp 6) (.tmp 43) rfl E1e 0 cz.toArray rfl rfl (Sm.there_row HE1ec.out (by rw [hzs, hczs])) hicz hczo ?_
        have Kf := Lib.hid ((Sm.other_setCells (by omega) Kc3c.out : (Wc3c.setCells E1e 0 cz).heap[N]? = _))
        have Bf : Below N w (Wc3c.setCells E1e 0 cz) := Sm.below_setCells (by omega) _ _ Bc3c.out
        have Ef := Lib.hid (Sm.heap_setAll (vs := cz) HE1ec.out (by rw [hzs, hczl]))
        have sf := Sm.lt_of Kf.out
        have lf := Sm.lt_of Ef.out
        refine hK.out _ _ Kf.out (fun hHeld => ?_)
        clear hK K
        refine wpAnyH_take (i := 9) (oi := ⟨some 7, _, _, _, _, _⟩) (v := .int .i64 3) rfl (by kernel_rfl) (by kernel_rfl) (by kernel_rfl) (fun _ _ _ h => h) (Or.inl ⟨by rfl, ?_⟩) (by assumption) ?_
        · intro w hSw; (try dsimp only at hSw); go_simp
        simp only [Act.put, List.setIfInBounds_toArray, List.set_cons_zero, List.set_cons_succ]
        refine wpAnyH_done (by kernel_rfl) ?_ _
        go_wp2_with fail
        go_meet
        exact ⟨E1e, _, rfl, rfl, rfl, Kf.out, Bf, sf⟩
    · go_simp
      have Kb0e := Lib.hid ((Below.heap_alloc W0 (.cells z0 28) N (by omega)).trans KD.out)
      have Bb0e := Lib.hid (BD.out.alloc (by omega) (.cells z0 28))
      have sb0e : N < (W0.alloc (.cells z0 28)).heap.size := by simp; omega
      have Hb0e := Lib.hid (heap_alloc_new W0 (.cells z0 28))
      have lb0e : W0.heap.size < (W0.alloc (.cells z0 28)).heap.size := by simp
      have lE0e : N < W0.heap.size := sD
      generalize W0.alloc (.cells z0 28) = Wb0e at *
      obtain ⟨E0e, hE0e⟩ : ∃ E, E = W0.heap.size := ⟨_, rfl⟩
      rw [← hE0e] at Hb0e lb0e lE0e ⊢
      clear hE0e
      refine hK.out _ _ Kb0e.out (fun hHeld => ?_)
      clear hK K
      refine wpAnyH_ready (rs := [1]) (by kernel_rfl) (by simp) ?_
      refine (AllReadyH.cons (o := ⟨some 40, _, _, _, _, _⟩) rfl (fun K hK => ?_) AllReadyH.nil)
      have hmk := MK3.out Wb0e
      go_simp
      have Ka1m := Lib.hid ((Below.heap_alloc Wb0e (.cells zr3 5) N (by omega)).trans Kb0e.out)
      have Ba1m := Lib.hid (Bb0e.out.alloc (by omega) (.cells zr3 5))
      have sa1m : N < (Wb0e.alloc (.cells zr3 5)).heap.size := by simp; omega
      have Ga1m := Lib.hid (heap_alloc_new Wb0e (.cells zr3 5))
      have la1m : Wb0e.heap.size < (Wb0e.alloc (.cells zr3 5)).heap.size := by simp
      have HE0ea := Lib.hid ((Below.heap_alloc Wb0e (.cells zr3 5) E0e (by omega)).trans Hb0e.out)
      have kE0ea : E0e < (Wb0e.alloc (.cells zr3 5)).heap.size := by simp; omega
      clear hmk
      generalize Wb0e.alloc (.cells zr3 5) = Wa1m at *
      obtain ⟨Gb1m, hGb1m⟩ : ∃ G, G = Wb0e.heap.size := ⟨_, rfl⟩
      rw [← hGb1m] at Ga1m la1m ⊢
      clear hGb1m
      refine hK.out _ _ Ka1m.out (fun hHeld => ?_)
      clear hK K
      refine wpAnyH_ready (rs := [2]) (by kernel_rfl) (by simp) ?_
      refine (AllReadyH.cons (o := ⟨some 41, _, _, _, _, _⟩) rfl (fun K hK => ?_) AllReadyH.nil)
      have hcv := CV3.out _ _ Ga1m.out
      go_simp
      clear hcv
      refine hK.out _ _ Ka1m.out (fun hHeld => ?_)
      clear hK K
      refine wpAnyH_ready (rs := [3]) (by kernel_rfl) (by simp) ?_
      refine (AllReadyH.cons (o := ⟨some 42, _, _, _, _, _⟩) rfl (fun K hK => ?_) AllReadyH.nil)
      go_simp
      refine (CL3.out _ (HH.out.low Ba1m.out (by omega)) (HK.out.low Ba1m.out hN1) (by omega)).mono ?_
      rintro e Wc3c ⟨rfl, kc3c⟩
      have Kc3c := Lib.hid ((kc3c.block N (by omega)).trans Ka1m.out)
      have Bc3c := Lib.hid (Ba1m.out.trans (kc3c.mono (by omega)))
      have sc3c : N < Wc3c.heap.size := Nat.lt_of_lt_of_le sa1m kc3c.size
      have HE0ec := Lib.hid ((kc3c.block E0e (by omega)).trans HE0ea.out)
      have kE0ec : E0e < Wc3c.heap.size := Nat.lt_of_lt_of_le kE0ea kc3c.size
      refine hK.out _ _ Kc3c.out (fun hHeld => ?_)
      clear hK K
      refine wpAnyH_take (i := 4) (oi := ⟨some 38, _, _, _, _, _⟩) (v := .tuple #[.agg cz.toArray, .int .i64 3]) rfl (by kernel_rfl) (by kernel_rfl) (by kernel_rfl) (fun _ _ _ h => h) (Or.inl ⟨by rfl, ?_⟩) (by assumption) ?_
      · intro w hSw; (try dsimp only at hSw); go_simp
      simp only [Act.put, List.setIfInBounds_toArray, List.set_cons_zero, List.set_cons_succ]
      refine wpAnyH_take (i := 5) (oi := ⟨some 43, _, _, _, _, _⟩) (v := .agg cz.toArray) rfl (by kernel_rfl) (by kernel_rfl) (by kernel_rfl) (fun _ _ _ h => h) (Or.inl ⟨by rfl, ?_⟩) (by assumption) ?_
      · intro w hSw; (try dsimp only at hSw); go_simp
      simp only [Act.put, List.setIfInBounds_toArray, List.set_cons_zero, List.set_cons_succ]
      refine wpAnyH_take (i := 6) (oi := ⟨some 44, _, _, _, _, _⟩) (v := .int .i64 3) rfl (by kernel_rfl) (by kernel_rfl) (by kernel_rfl) (fun _ _ _ h => h) (Or.inl ⟨by rfl, ?_⟩) (by assumption) ?_
      · intro w hSw; (try dsimp only at hSw); go_simp
      simp only [Act.put, List.setIfInBounds_toArray, List.set_cons_zero, List.set_cons_succ]
      refine wpAnyH_ready (rs := [8]) (by kernel_rfl) (by simp) ?_
      refine (AllReadyH.cons (o := ⟨none, _, _, _, _, _⟩) rfl (fun K hK => ?_) AllReadyH.nil)
      rw [if_pos (by simp [Region.wanted])]
      refine wp_store_mid 28 (.tmp 6) (.tmp 43) rfl E0e 0 cz.toArray rfl rfl (Sm.there_row HE0ec.out (by rw [hzs, hczs])) hicz hczo ?_
      have Kf := Lib.hid ((Sm.other_setCells (by omega) Kc3c.out : (Wc3c.setCells E0e 0 cz).heap[N]? = _))
      have Bf : Below N w (Wc3c.setCells E0e 0 cz) := Sm.below_setCells (by omega) _ _ Bc3c.out
      have Ef := Lib.hid (Sm.heap_setAll (vs := cz) HE0ec.out (by rw [hzs, hczl]))
      have sf := Sm.lt_of Kf.out
      have lf := Sm.lt_of Ef.out
      refine hK.out _ _ Kf.out (fun hHeld => ?_)
      clear hK K
      refine wpAnyH_take (i := 9) (oi := ⟨some 7, _, _, _, _, _⟩) (v := .int .i64 3) rfl (by kernel_rfl) (by kernel_rfl) (by kernel_rfl) (fun _ _ _ h => h) (Or.inl ⟨by rfl, ?_⟩) (by assumption) ?_
      · intro w hSw; (try dsimp only at hSw); go_simp
      simp only [Act.put, List.setIfInBounds_toArray, List.set_cons_zero, List.set_cons_succ]
      refine wpAnyH_done (by kernel_rfl) ?_ _
      go_wp2_with fail
      go_meet
      exact ⟨E0e, _, rfl, rfl, rfl, Kf.out, Bf, sf⟩
  case rest =>
  obtain ⟨M6, w6, rfl, rfl, rfl, k6, b6, s6⟩ := hcut
  have K6 := Lib.hid k6
  have B6 := Lib.hid b6
  clear k6 b6 KD BD sD K5 B5 s5
  go_upto_region 5 with (fail)
  have KD := Lib.hid (show w6.drew.heap[N]? = some (.cells ck.toArray 23 (0, 0)) from K6.out)
  have BD := Lib.hid B6.out.drew
  have sD : N < w6.drew.heap.size := s6
  go_cut [8, 9] from 45 (fun sa sb wx => ∃ (E : Nat) (wk : World), wk = wx ∧ sa = .pointer (some ⟨E, 0, none⟩) ∧ sb = .int .i64 0 ∧ wk.heap[N]? = some (.cells ck.toArray 23 (0, 0)) ∧ Below N w wk ∧ N < wk.heap.size ∧ wk.heap[E]? = some (.cells c8.toArray 28 (0, 0)) ∧ N < E ∧ E < wk.heap.size)
  case first =>
    refine wp_region_held_drew (S := fun w' => w'.heap[N]? = some (.cells ck.toArray 23 (0, 0))) (by kernel_rfl) KD.out (fun hHeld => ?_)
    generalize w6.drew = W0 at *
    refine wpAnyH_take (i := 0) (oi := ⟨some 46, _, _, _, _, _⟩) (v := .agg ck.toArray) rfl (by kernel_rfl) (by kernel_rfl) (by kernel_rfl) (fun _ _ _ h => h) (yieldsIf_load_mid (by rfl) _ _ rfl _ _ rfl ck _ (fun w hS => Sm.range_row hS) Tryd.underlying23 rfl hick) (by assumption) ?_
    simp only [Act.put, List.setIfInBounds_toArray, List.set_cons_zero, List.set_cons_succ]
    refine wpAnyH_ready (rs := [1, 7]) (by kernel_rfl) (by simp) ?_
    refine (AllReadyH.cons (o := ⟨some 47, _, _, _, _, _⟩) rfl (fun K hK => ?_) (AllReadyH.cons (o := ⟨some 8, _, _, _, _, _⟩) rfl (fun K hK => ?_) AllReadyH.nil))
    · have hmk := MK2.out W0
      go_simp
      have Ka0m := Lib.hid ((Below.heap_alloc W0 (.cells zr2 5) N (by omega)).trans KD.out)
      have Ba0m := Lib.hid (BD.out.alloc (by omega) (.cells zr2 5))
      have sa0m : N < (W0.alloc (.cells zr2 5)).heap.size := by simp; omega
      have Ga0m := Lib.hid (heap_alloc_new W0 (.cells zr2 5))
      have la0m : W0.heap.size < (W0.alloc (.cells zr2 5)).heap.size := by simp
      clear hmk
      generalize W0.alloc (.cells zr2 5) = Wa0m at *
      obtain ⟨Gb0m, hGb0m⟩ : ∃ G, G = W0.heap.size := ⟨_, rfl⟩
      rw [← hGb0m] at Ga0m la0m ⊢
      clear hGb0m
      refine hK.out _ _ Ka0m.out (fun hHeld => ?_)
      clear hK K
      refine wpAnyH_ready (rs := [2, 7]) (by kernel_rfl) (by simp) ?_
      refine (AllReadyH.cons (o := ⟨some 48, _, _, _, _, _⟩) rfl (fun K hK => ?_) (AllReadyH.cons (o := ⟨some 8, _, _, _, _, _⟩) rfl (fun K hK => ?_) AllReadyH.nil))
      · have hcv := CV2.out _ _ Ga0m.out
        go_simp
        clear hcv
        refine hK.out _ _ Ka0m.out (fun hHeld => ?_)
        clear hK K
        refine wpAnyH_ready (rs := [3, 7]) (by kernel_rfl) (by simp) ?_
        refine (AllReadyH.cons (o := ⟨some 49, _, _, _, _, _⟩) rfl (fun K hK => ?_) (AllReadyH.cons (o := ⟨some 8, _, _, _, _, _⟩) rfl (fun K hK => ?_) AllReadyH.nil))
        · go_simp
          refine (CL4.out _ (HH.out.low Ba0m.out (by omega)) (HK.out.low Ba0m.out hN1) (by omega)).mono ?_
          rintro e Wc2c ⟨rfl, kc2c⟩
          have Kc2c := Lib.hid ((kc2c.block N (by omega)).trans Ka0m.out)
          have Bc2c := Lib.hid (Ba0m.out.trans (kc2c.mono (by omega)))
          have sc2c : N < Wc2c.heap.size := Nat.lt_of_lt_of_le sa0m kc2c.size
          refine hK.out _ _ Kc2c.out (fun hHeld => ?_)
          clear hK K
          refine wpAnyH_take (i := 4) (oi := ⟨some 45, _, _, _, _, _⟩) (v := .tuple #[.agg c8.toArray, .int .i64 0]) rfl (by kernel_rfl) (by kernel_rfl) (by kernel_rfl) (fun _ _ _ h => h) (Or.inl ⟨by rfl, ?_⟩) (by assumption) ?_
          · intro w hSw; (try dsimp only at hSw); go_simp
          simp only [Act.put, List.setIfInBounds_toArray, List.set_cons_zero, List.set_cons_succ]
          refine wpAnyH_take (i := 5) (oi := ⟨some 50, _, _, _, _, _⟩) (v := .agg c8.toArray) rfl (by kernel_rfl) (by kernel_rfl) (by kernel_rfl) (fun _ _ _ h => h) (Or.inl ⟨by rfl, ?_⟩) (by assumption) ?_
          · intro w hSw; (try dsimp only at hSw); go_simp
          simp only [Act.put, List.setIfInBounds_toArray, List.set_cons_zero, List.set_cons_succ]
          refine wpAnyH_take (i := 6) (oi := ⟨some 51, _, _, _, _, _⟩) (v := .int .i64 0) rfl (by kernel_rfl) (by kernel_rfl) (by kernel_rfl) (fun _ _ _ h => h) (Or.inl ⟨by rfl, ?_⟩) (by assumption) ?_
          · intro w hSw; (try dsimp only at hSw); go_simp
          simp only [Act.put, List.setIfInBounds_toArray, List.set_cons_zero, List.set_cons_succ]
          refine wpAnyH_ready (rs := [7]) (by kernel_rfl) (by simp) ?_
          refine (AllReadyH.cons (o := ⟨some 8, _, _, _, _, _⟩) rfl (fun K hK => ?_) AllReadyH.nil)
          go_simp
          have Kb3e := Lib.hid ((Below.heap_alloc Wc2c (.cells z0 28) N (by omega)).trans Kc2c.out)
          have Bb3e := Lib.hid (Bc2c.out.alloc (by omega) (.cells z0 28))
          have sb3e : N < (Wc2c.alloc (.cells z0 28)).heap.size := by simp; omega
          have Hb3e := Lib.hid (heap_alloc_new Wc2c (.cells z0 28))
          have lb3e : Wc2c.heap.size < (Wc2c.alloc (.cells z0 28)).heap.size := by simp
          have lE3e : N < Wc2c.heap.size := sc2c
          generalize Wc2c.alloc (.cells z0 28) = Wb3e at *
          obtain ⟨E3e, hE3e⟩ : ∃ E, E = Wc2c.heap.size := ⟨_, rfl⟩
          rw [← hE3e] at Hb3e lb3e lE3e ⊢
          clear hE3e
          refine hK.out _ _ Kb3e.out (fun hHeld => ?_)
          clear hK K
          refine wpAnyH_ready (rs := [8]) (by kernel_rfl) (by simp) ?_
          refine (AllReadyH.cons (o := ⟨none, _, _, _, _, _⟩) rfl (fun K hK => ?_) AllReadyH.nil)
          rw [if_pos (by simp [Region.wanted])]
          refine wp_store_mid 28 (.tmp 8) (.tmp 50) rfl E3e 0 c8.toArray rfl rfl (Sm.there_row Hb3e.out (by rw [hzs, hc8s])) hic8 hc8o ?_
          have Kf := Lib.hid ((Sm.other_setCells (by omega) Kb3e.out : (Wb3e.setCells E3e 0 c8).heap[N]? = _))
          have Bf : Below N w (Wb3e.setCells E3e 0 c8) := Sm.below_setCells (by omega) _ _ Bb3e.out
          have Ef := Lib.hid (Sm.heap_setAll (vs := c8) Hb3e.out (by rw [hzs, hc8l]))
          have sf := Sm.lt_of Kf.out
          have lf := Sm.lt_of Ef.out
          refine hK.out _ _ Kf.out (fun hHeld => ?_)
          clear hK K
          refine wpAnyH_take (i := 9) (oi := ⟨some 9, _, _, _, _, _⟩) (v := .int .i64 0) rfl (by kernel_rfl) (by kernel_rfl) (by kernel_rfl) (fun _ _ _ h => h) (Or.inl ⟨by rfl, ?_⟩) (by assumption) ?_
          · intro w hSw; (try dsimp only at hSw); go_simp
          simp only [Act.put, List.setIfInBounds_toArray, List.set_cons_zero, List.set_cons_succ]
          refine wpAnyH_done (by kernel_rfl) ?_ _
          go_wp2_with fail
          go_meet
          exact ⟨E3e, _, rfl, rfl, rfl, Kf.out, Bf, sf, Ef.out, lE3e, lf⟩
        · go_simp
          have Kb2e := Lib.hid ((Below.heap_alloc Wa0m (.cells z0 28) N (by omega)).trans Ka0m.out)
          have Bb2e := Lib.hid (Ba0m.out.alloc (by omega) (.cells z0 28))
          have sb2e : N < (Wa0m.alloc (.cells z0 28)).heap.size := by simp; omega
          have Hb2e := Lib.hid (heap_alloc_new Wa0m (.cells z0 28))
          have lb2e : Wa0m.heap.size < (Wa0m.alloc (.cells z0 28)).heap.size := by simp
          have lE2e : N < Wa0m.heap.size := sa0m
          have G22 := Lib.hid ((Below.heap_alloc Wa0m (.cells z0 28) Gb0m la0m).trans Ga0m.out)
          have l22 : Gb0m < (Wa0m.alloc (.cells z0 28)).heap.size := by simp; omega
          generalize Wa0m.alloc (.cells z0 28) = Wb2e at *
          obtain ⟨E2e, hE2e⟩ : ∃ E, E = Wa0m.heap.size := ⟨_, rfl⟩
          rw [← hE2e] at Hb2e lb2e lE2e ⊢
          clear hE2e
          refine hK.out _ _ Kb2e.out (fun hHeld => ?_)
          clear hK K
          refine wpAnyH_ready (rs := [3]) (by kernel_rfl) (by simp) ?_
          refine (AllReadyH.cons (o := ⟨some 49, _, _, _, _, _⟩) rfl (fun K hK => ?_) AllReadyH.nil)
          go_simp
          refine (CL4.out _ (HH.out.low Bb2e.out (by omega)) (HK.out.low Bb2e.out hN1) (by omega)).mono ?_
          rintro e Wc3c ⟨rfl, kc3c⟩
          have Kc3c := Lib.hid ((kc3c.block N (by omega)).trans Kb2e.out)
          have Bc3c := Lib.hid (Bb2e.out.trans (kc3c.mono (by omega)))
          have sc3c : N < Wc3c.heap.size := Nat.lt_of_lt_of_le sb2e kc3c.size
          have HE2ec := Lib.hid ((kc3c.block E2e (by omega)).trans Hb2e.out)
          have kE2ec : E2e < Wc3c.heap.size := Nat.lt_of_lt_of_le lb2e kc3c.size
          refine hK.out _ _ Kc3c.out (fun hHeld => ?_)
          clear hK K
          refine wpAnyH_take (i := 4) (oi := ⟨some 45, _, _, _, _, _⟩) (v := .tuple #[.agg c8.toArray, .int .i64 0]) rfl (by kernel_rfl) (by kernel_rfl) (by kernel_rfl) (fun _ _ _ h => h) (Or.inl ⟨by rfl, ?_⟩) (by assumption) ?_
          · intro w hSw; (try dsimp only at hSw); go_simp
          simp only [Act.put, List.setIfInBounds_toArray, List.set_cons_zero, List.set_cons_succ]
          refine wpAnyH_take (i := 5) (oi := ⟨some 50, _, _, _, _, _⟩) (v := .agg c8.toArray) rfl (by kernel_rfl) (by kernel_rfl) (by kernel_rfl) (fun _ _ _ h => h) (Or.inl ⟨by rfl, ?_⟩) (by assumption) ?_
          · intro w hSw; (try dsimp only at hSw); go_simp
          simp only [Act.put, List.setIfInBounds_toArray, List.set_cons_zero, List.set_cons_succ]
          refine wpAnyH_take (i := 6) (oi := ⟨some 51, _, _, _, _, _⟩) (v := .int .i64 0) rfl (by kernel_rfl) (by kernel_rfl) (by kernel_rfl) (fun _ _ _ h => h) (Or.inl ⟨by rfl, ?_⟩) (by assumption) ?_
          · intro w hSw; (try dsimp only at hSw); go_simp
          simp only [Act.put, List.setIfInBounds_toArray, List.set_cons_zero, List.set_cons_succ]
          refine wpAnyH_ready (rs := [8]) (by kernel_rfl) (by simp) ?_
          refine (AllReadyH.cons (o := ⟨none, _, _, _, _, _⟩) rfl (fun K hK => ?_) AllReadyH.nil)
          rw [if_pos (by simp [Region.wanted])]
          refine wp_store_mid 28 (.tmp 8) (.tmp 50) rfl E2e 0 c8.toArray rfl rfl (Sm.there_row HE2ec.out (by rw [hzs, hc8s])) hic8 hc8o ?_
          have Kf := Lib.hid ((Sm.other_setCells (by omega) Kc3c.out : (Wc3c.setCells E2e 0 c8).heap[N]? = _))
          have Bf : Below N w (Wc3c.setCells E2e 0 c8) := Sm.below_setCells (by omega) _ _ Bc3c.out
          have Ef := Lib.hid (Sm.heap_setAll (vs := c8) HE2ec.out (by rw [hzs, hc8l]))
          have sf := Sm.lt_of Kf.out
          have lf := Sm.lt_of Ef.out
          refine hK.out _ _ Kf.out (fun hHeld => ?_)
          clear hK K
          refine wpAnyH_take (i := 9) (oi := ⟨some 9, _, _, _, _, _⟩) (v := .int .i64 0) rfl (by kernel_rfl) (by kernel_rfl) (by kernel_rfl) (fun _ _ _ h => h) (Or.inl ⟨by rfl, ?_⟩) (by assumption) ?_
          · intro w hSw; (try dsimp only at hSw); go_simp
          simp only [Act.put, List.setIfInBounds_toArray, List.set_cons_zero, List.set_cons_succ]
          refine wpAnyH_done (by kernel_rfl) ?_ _
          go_wp2_with fail
          go_meet
          exact ⟨E2e, _, rfl, rfl, rfl, Kf.out, Bf, sf, Ef.out, lE2e, lf⟩
      · go_simp
        have Kb1e := Lib.hid ((Below.heap_alloc Wa0m (.cells z0 28) N (by omega)).trans Ka0m.out)
        have Bb1e := Lib.hid (Ba0m.out.alloc (by omega) (.cells z0 28))
        have sb1e : N < (Wa0m.alloc (.cells z0 28)).heap.size := by simp; omega
        have Hb1e := Lib.hid (heap_alloc_new Wa0m (.cells z0 28))
        have lb1e : Wa0m.heap.size < (Wa0m.alloc (.cells z0 28)).heap.size := by simp
        have lE1e : N < Wa0m.heap.size := sa0m
        have G21 := Lib.hid ((Below.heap_alloc Wa0m (.cells z0 28) Gb0m la0m).trans Ga0m.out)
        have l21 : Gb0m < (Wa0m.alloc (.cells z0 28)).heap.size := by simp; omega
        generalize Wa0m.alloc (.cells z0 28) = Wb1e at *
        obtain ⟨E1e, hE1e⟩ : ∃ E, E = Wa0m.heap.size := ⟨_, rfl⟩
        rw [← hE1e] at Hb1e lb1e lE1e ⊢
        clear hE1e
        refine hK.out _ _ Kb1e.out (fun hHeld => ?_)
        clear hK K
        refine wpAnyH_ready (rs := [2]) (by kernel_rfl) (by simp) ?_
        refine (AllReadyH.cons (o := ⟨some 48, _, _, _, _, _⟩) rfl (fun K hK => ?_) AllReadyH.nil)
        have hcv := CV2.out _ _ G21.out
        go_simp
        clear hcv
        refine hK.out _ _ Kb1e.out (fun hHeld => ?_)
        clear hK K
        refine wpAnyH_ready (rs := [3]) (by kernel_rfl) (by simp) ?_
        refine (AllReadyH.cons (o := ⟨some 49, _, _, _, _, _⟩) rfl (fun K hK => ?_) AllReadyH.nil)
        go_simp
        refine (CL4.out _ (HH.out.low Bb1e.out (by omega)) (HK.out.low Bb1e.out hN1) (by omega)).mono ?_
        rintro e Wc3c ⟨rfl, kc3c⟩
        have Kc3c := Lib.hid ((kc3c.block N (by omega)).trans Kb1e.out)
        have Bc3c := Lib.hid (Bb1e.out.trans (kc3c.mono (by omega)))
        have sc3c : N < Wc3c.heap.size := Nat.lt_of_lt_of_le sb1e kc3c.size
        have HE1ec := Lib.hid ((kc3c.block E1e (by omega)).trans Hb1e.out)
        have kE1ec : E1e < Wc3c.heap.size := Nat.lt_of_lt_of_le lb1e kc3c.size
        refine hK.out _ _ Kc3c.out (fun hHeld => ?_)
        clear hK K
        refine wpAnyH_take (i := 4) (oi := ⟨some 45, _, _, _, _, _⟩) (v := .tuple #[.agg c8.toArray, .int .i64 0]) rfl (by kernel_rfl) (by kernel_rfl) (by kernel_rfl) (fun _ _ _ h => h) (Or.inl ⟨by rfl, ?_⟩) (by assumption) ?_
        · intro w hSw; (try dsimp only at hSw); go_simp
        simp only [Act.put, List.setIfInBounds_toArray, List.set_cons_zero, List.set_cons_succ]
        refine wpAnyH_take (i := 5) (oi := ⟨some 50, _, _, _, _, _⟩) (v := .agg c8.toArray) rfl (by kernel_rfl) (by kernel_rfl) (by kernel_rfl) (fun _ _ _ h => h) (Or.inl ⟨by rfl, ?_⟩) (by assumption) ?_
        · intro w hSw; (try dsimp only at hSw); go_simp
        simp only [Act.put, List.setIfInBounds_toArray, List.set_cons_zero, List.set_cons_succ]
        refine wpAnyH_take (i := 6) (oi := ⟨some 51, _, _, _, _, _⟩) (v := .int .i64 0) rfl (by kernel_rfl) (by kernel_rfl) (by kernel_rfl) (fun _ _ _ h => h) (Or.inl ⟨by rfl, ?_⟩) (by assumption) ?_
        · intro w hSw; (try dsimp only at hSw); go_simp
        simp only [Act.put, List.setIfInBounds_toArray, List.set_cons_zero, List.set_cons_succ]
        refine wpAnyH_ready (rs := [8]) (by kernel_rfl) (by simp) ?_
        refine (AllReadyH.cons (o := ⟨none, _, _, _, _, _⟩) rfl (fun K hK => ?_) AllReadyH.nil)
        rw [if_pos (by simp [Region.wanted])]
        refine wp_store_mid 28 (.tmp 8) (.tmp 50) rfl E1e 0 c8.toArray rfl rfl (Sm.there_row HE1ec.out (by rw [hzs, hc8s])) hic8 hc8o ?_
        have Kf := Lib.hid ((Sm.other_setCells (by omega) Kc3c.out : (Wc3c.setCells E1e 0 c8).heap[N]? = _))
        have Bf : Below N w (Wc3c.setCells E1e 0 c8) := Sm.below_setCells (by omega) _ _ Bc3c.out
        have Ef := Lib.hid (Sm.heap_setAll (vs := c8) HE1ec.out (by rw [hzs, hc8l]))
        have sf := Sm.lt_of Kf.out
        have lf := Sm.lt_of Ef.out
        refine hK.out _ _ Kf.out (fun hHeld => ?_)
        clear hK K
        refine wpAnyH_take (i := 9) (oi := ⟨some 9, _, _, _, _, _⟩) (v := .int .i64 0) rfl (by kernel_rfl) (by kernel_rfl) (by kernel_rfl) (fun _ _ _ h => h) (Or.inl ⟨by rfl, ?_⟩) (by assumption) ?_
        · intro w hSw; (try dsimp only at hSw); go_simp
        simp only [Act.put, List.setIfInBounds_toArray, List.set_cons_zero, List.set_cons_succ]
        refine wpAnyH_done (by kernel_rfl) ?_ _
        go_wp2_with fail
        go_meet
        exact ⟨E1e, _, rfl, rfl, rfl, Kf.out, Bf, sf, Ef.out, lE1e, lf⟩
    · go_simp
      have Kb0e := Lib.hid ((Below.heap_alloc W0 (.cells z0 28) N (by omega)).trans KD.out)
      have Bb0e := Lib.hid (BD.out.alloc (by omega) (.cells z0 28))
      have sb0e : N < (W0.alloc (.cells z0 28)).heap.size := by simp; omega
      have Hb0e := Lib.hid (heap_alloc_new W0 (.cells z0 28))
      have lb0e : W0.heap.size < (W0.alloc (.cells z0 28)).heap.size := by simp
      have lE0e : N < W0.heap.size := sD
      generalize W0.alloc (.cells z0 28) = Wb0e at *
      obtain ⟨E0e, hE0e⟩ : ∃ E, E = W0.heap.size := ⟨_, rfl⟩
      rw [← hE0e] at Hb0e lb0e lE0e ⊢
      clear hE0e
      refine hK.out _ _ Kb0e.out (fun hHeld => ?_)
      clear hK K
      refine wpAnyH_ready (rs := [1]) (by kernel_rfl) (by simp) ?_
      refine (AllReadyH.cons (o := ⟨some 47, _, _, _, _, _⟩) rfl (fun K hK => ?_) AllReadyH.nil)
      have hmk := MK2.out Wb0e
      go_simp
      have Ka1m := Lib.hid ((Below.heap_alloc Wb0e (.cells zr2 5) N (by omega)).trans Kb0e.out)
      have Ba1m := Lib.hid (Bb0e.out.alloc (by omega) (.cells zr2 5))
      have sa1m : N < (Wb0e.alloc (.cells zr2 5)).heap.size := by simp; omega
      have Ga1m := Lib.hid (heap_alloc_new Wb0e (.cells zr2 5))
      have la1m : Wb0e.heap.size < (Wb0e.alloc (.cells zr2 5)).heap.size := by simp
      have HE0ea := Lib.hid ((Below.heap_alloc Wb0e (.cells zr2 5) E0e (by omega)).trans Hb0e.out)
      have kE0ea : E0e < (Wb0e.alloc (.cells zr2 5)).heap.size := by simp; omega
      clear hmk
      generalize Wb0e.alloc (.cells zr2 5) = Wa1m at *
      obtain ⟨Gb1m, hGb1m⟩ : ∃ G, G = Wb0e.heap.size := ⟨_, rfl⟩
      rw [← hGb1m] at Ga1m la1m ⊢
      clear hGb1m
      refine hK.out _ _ Ka1m.out (fun hHeld => ?_)
      clear hK K
      refine wpAnyH_ready (rs := [2]) (by kernel_rfl) (by simp) ?_
      refine (AllReadyH.cons (o := ⟨some 48, _, _, _, _, _⟩) rfl (fun K hK => ?_) AllReadyH.nil)
      have hcv := CV2.out _ _ Ga1m.out
      go_simp
      clear hcv
      refine hK.out _ _ Ka1m.out (fun hHeld => ?_)
      clear hK K
      refine wpAnyH_ready (rs := [3]) (by kernel_rfl) (by simp) ?_
      refine (AllReadyH.cons (o := ⟨some 49, _, _, _, _, _⟩) rfl (fun K hK => ?_) AllReadyH.nil)
      go_simp
      refine (CL4.out _ (HH.out.low Ba1m.out (by omega)) (HK.out.low Ba1m.out hN1) (by omega)).mono ?_
      rintro e Wc3c ⟨rfl, kc3c⟩
      have Kc3c := Lib.hid ((kc3c.block N (by omega)).trans Ka1m.out)
      have Bc3c := Lib.hid (Ba1m.out.trans (kc3c.mono (by omega)))
      have sc3c : N < Wc3c.heap.size := Nat.lt_of_lt_of_le sa1m kc3c.size
      have HE0ec := Lib.hid ((kc3c.block E0e (by omega)).trans HE0ea.out)
      have kE0ec : E0e < Wc3c.heap.size := Nat.lt_of_lt_of_le kE0ea kc3c.size
      refine hK.out _ _ Kc3c.out (fun hHeld => ?_)
      clear hK K
      refine wpAnyH_take (i := 4) (oi := ⟨some 45, _, _, _, _, _⟩) (v := .tuple #[.agg c8.toArray, .int .i64 0]) rfl (by kernel_rfl) (by kernel_rfl) (by kernel_rfl) (fun _ _ _ h => h) (Or.inl ⟨by rfl, ?_⟩) (by assumption) ?_
      · intro w hSw; (try dsimp only at hSw); go_simp
      simp only [Act.put, List.setIfInBounds_toArray, List.set_cons_zero, List.set_cons_succ]
      refine wpAnyH_take (i := 5) (oi := ⟨some 50, _, _, _, _, _⟩) (v := .agg c8.toArray) rfl (by kernel_rfl) (by kernel_rfl) (by kernel_rfl) (fun _ _ _ h => h) (Or.inl ⟨by rfl, ?_⟩) (by assumption) ?_
      · intro w hSw; (try dsimp only at hSw); go_simp
      simp only [Act.put, List.setIfInBounds_toArray, List.set_cons_zero, List.set_cons_succ]
      refine wpAnyH_take (i := 6) (oi := ⟨some 51, _, _, _, _, _⟩) (v := .int .i64 0) rfl (by kernel_rfl) (by kernel_rfl) (by kernel_rfl) (fun _ _ _ h => h) (Or.inl ⟨by rfl, ?_⟩) (by assumption) ?_
      · intro w hSw; (try dsimp only at hSw); go_simp
      simp only [Act.put, List.setIfInBounds_toArray, List.set_cons_zero, List.set_cons_succ]
      refine wpAnyH_ready (rs := [8]) (by kernel_rfl) (by simp) ?_
      refine (AllReadyH.cons (o := ⟨none, _, _, _, _, _⟩) rfl (fun K hK => ?_) AllReadyH.nil)
      rw [if_pos (by simp [Region.wanted])]
      refine wp_store_mid 28 (.tmp 8) (.tmp 50) rfl E0e 0 c8.toArray rfl rfl (Sm.there_row HE0ec.out (by rw [hzs, hc8s])) hic8 hc8o ?_
      have Kf := Lib.hid ((Sm.other_setCells (by omega) Kc3c.out : (Wc3c.setCells E0e 0 c8).heap[N]? = _))
      have Bf : Below N w (Wc3c.setCells E0e 0 c8) := Sm.below_setCells (by omega) _ _ Bc3c.out
      have Ef := Lib.hid (Sm.heap_setAll (vs := c8) HE0ec.out (by rw [hzs, hc8l]))
      have sf := Sm.lt_of Kf.out
      have lf := Sm.lt_of Ef.out
      refine hK.out _ _ Kf.out (fun hHeld => ?_)
      clear hK K
      refine wpAnyH_take (i := 9) (oi := ⟨some 9, _, _, _, _, _⟩) (v := .int .i64 0) rfl (by kernel_rfl) (by kernel_rfl) (by kernel_rfl) (fun _ _ _ h => h) (Or.inl ⟨by rfl, ?_⟩) (by assumption) ?_
      · intro w hSw; (try dsimp only at hSw); go_simp
      simp only [Act.put, List.setIfInBounds_toArray, List.set_cons_zero, List.set_cons_succ]
      refine wpAnyH_done (by kernel_rfl) ?_ _
      go_wp2_with fail
      go_meet
      exact ⟨E0e, _, rfl, rfl, rfl, Kf.out, Bf, sf, Ef.out, lE0e, lf⟩
  case rest =>
  obtain ⟨M7, w7, rfl, rfl, rfl, k7, b7, s7, x7x, hM7', lX7⟩ := hcut
  have K7 := Lib.hid k7
  have B7 := Lib.hid b7
  have X7 := Lib.hid x7x
  clear x7x
  clear k7 b7 KD BD sD K6 B6 s6
  go_wp2_with (with_reducible refine wpList_load_row rfl 23 (.tmp 1) rfl N rfl 23 ck.toArray (0, 0) _ (by exact K7.out) Tryd.underlying23 rfl hicl ?_)
  refine (CL5.out _ (HH.out.low B7.out (by omega)) (HK.out.low B7.out hN1) (by omega)).mono ?_
  rintro e w8 ⟨rfl, k8⟩
  have K8 := Lib.hid ((k8.block N (by omega)).trans K7.out)
  have B8 := Lib.hid (B7.out.trans (k8.mono (by omega)))
  have s8 : N < w8.heap.size := Nat.lt_of_lt_of_le s7 k8.size
  have X8 := Lib.hid ((k8.block M7 (by omega)).trans X7.out)
  have lX8 : M7 < w8.heap.size := Nat.lt_of_lt_of_le lX7 k8.size
  clear k8 K7 B7 s7 X7 lX7
  have hst9 := STE.out ce hcel hceo w8
  go_upto_region 7 with (fail)
  have Y9 := Lib.hid (heap_alloc_new w8 (.cells ce.toArray 28))
  have lY9 : w8.heap.size < (w8.alloc (.cells ce.toArray 28)).heap.size := by simp
  have hM9' : N < w8.heap.size := s8
  have dX9 : M7 < w8.heap.size := lX8
  have K9 := Lib.hid ((Below.heap_alloc w8 (.cells ce.toArray 28) N (by omega)).trans K8.out)
  have B9 := Lib.hid (B8.out.alloc (by omega) (.cells ce.toArray 28))
  have s9 : N < (w8.alloc (.cells ce.toArray 28)).heap.size := by simp; omega
  have X9 := Lib.hid ((Below.heap_alloc w8 (.cells ce.toArray 28) M7 (by omega)).trans X8.out)
  have lX9 : M7 < (w8.alloc (.cells ce.toArray 28)).heap.size := by simp; omega
  clear hst9 K8 B8 s8 X8 lX8
  generalize w8.alloc (.cells ce.toArray 28) = w9 at *
  obtain ⟨M9, hM9⟩ : ∃ M, M = w8.heap.size := ⟨_, rfl⟩
  rw [← hM9] at Y9 lY9 hM9' dX9 ⊢
  clear hM9
  go_wp2_with (first | (with_reducible refine wpList_load_row rfl 23 (.tmp 1) rfl N rfl 23 ck.toArray (0, 0) _ (by exact K9.out) Tryd.underlying23 rfl hicl ?_) | (with_reducible refine wpList_load_row rfl 28 (.tmp 10) rfl M9 rfl 28 ce.toArray (0, 0) _ (by exact Y9.out) Tryd.underlying28 rfl hice ?_))
  refine (OP1.out _ (HH.out.low B9.out (by omega)) (HK.out.low B9.out hN1) (by omega)).mono ?_
  rintro e w10 ⟨rfl, k10⟩
  have K10 := Lib.hid ((k10.block N (by omega)).trans K9.out)
  have B10 := Lib.hid (B9.out.trans (k10.mono (by omega)))
  have s10 : N < w10.heap.size := Nat.lt_of_lt_of_le s9 k10.size
  have X10 := Lib.hid ((k10.block M7 (by omega)).trans X9.out)
  have lX10 : M7 < w10.heap.size := Nat.lt_of_lt_of_le lX9 k10.size
  have Y10 := Lib.hid ((k10.block M9 (by omega)).trans Y9.out)
  have lY10 : M9 < w10.heap.size := Nat.lt_of_lt_of_le lY9 k10.size
  clear k10 K9 B9 s9 X9 Y9 lX9 lY9
  go_wp2_with (first | (with_reducible refine wpList_load_row rfl 23 (.tmp 1) rfl N rfl 23 ck.toArray (0, 0) _ (by exact K10.out) Tryd.underlying23 rfl hicl ?_) | (with_reducible refine wpList_load_row rfl 28 (.tmp 10) rfl M9 rfl 28 ce.toArray (0, 0) _ (by exact Y10.out) Tryd.underlying28 rfl hice ?_))
  refine (OP2.out _ (HH.out.low B10.out (by omega)) (HK.out.low B10.out hN1) (by omega)).mono ?_
  rintro e w11 ⟨rfl, k11⟩
  have K11 := Lib.hid ((k11.block N (by omega)).trans K10.out)
  have B11 := Lib.hid (B10.out.trans (k11.mono (by omega)))
  have s11 : N < w11.heap.size := Nat.lt_of_lt_of_le s10 k11.size
  have X11 := Lib.hid ((k11.block M7 (by omega)).trans X10.out)
  have lX11 : M7 < w11.heap.size := Nat.lt_of_lt_of_le lX10 k11.size
  have Y11 := Lib.hid ((k11.block M9 (by omega)).trans Y10.out)
  have lY11 : M9 < w11.heap.size := Nat.lt_of_lt_of_le lY10 k11.size
  clear k11 K10 B10 s10 X10 Y10 lX10 lY10
  have hst12 := STE.out ce hcel hceo w11
  go_upto_region 10 with (with_reducible refine wpList_load_row rfl 28 (.tmp 10) rfl M9 rfl 28 ce.toArray (0, 0) _ (by exact Y11.out) Tryd.underlying28 rfl hice ?_)
  have Z12 := Lib.hid (heap_alloc_new w11 (.cells ce.toArray 28))
  have lZ12 : w11.heap.size < (w11.alloc (.cells ce.toArray 28)).heap.size := by simp
  have hM12' : N < w11.heap.size := s11
  have dX12 : M7 < w11.heap.size := lX11
  have dY12 : M9 < w11.heap.size := lY11
  have K12 := Lib.hid ((Below.heap_alloc w11 (.cells ce.toArray 28) N (by omega)).trans K11.out)
  have B12 := Lib.hid (B11.out.alloc (by omega) (.cells ce.toArray 28))
  have s12 : N < (w11.alloc (.cells ce.toArray 28)).heap.size := by simp; omega
  have X12 := Lib.hid ((Below.heap_alloc w11 (.cells ce.toArray 28) M7 (by omega)).trans X11.out)
  have lX12 : M7 < (w11.alloc (.cells ce.toArray 28)).heap.size := by simp; omega
  have Y12 := Lib.hid ((Below.heap_alloc w11 (.cells ce.toArray 28) M9 (by omega)).trans Y11.out)
  have lY12 : M9 < (w11.alloc (.cells ce.toArray 28)).heap.size := by simp; omega
  clear hst12 K11 B11 s11 X11 Y11 lX11 lY11
  generalize w11.alloc (.cells ce.toArray 28) = w12 at *
  obtain ⟨M12, hM12⟩ : ∃ M, M = w11.heap.size := ⟨_, rfl⟩
  rw [← hM12] at Z12 lZ12 hM12' dX12 dY12 ⊢
  clear hM12
  have hc13 := Sm.cells_of Z12.out 2 _ hce2
  have hf13 := Sm.free_of Z12.out 2
  go_upto_region 11 with (fail)
  have Z13 : Hid ((w12.setCell ⟨M12, 2, none⟩ (.int .u64 4)).heap[M12]? = some (.cells cf.toArray 28 (0, 0))) := by
    show _ = _
    rw [Sm.heap_set Z12.out 2 _, HFOUR.out]
  have K13 := Lib.hid ((Below.heap_setCell w12 ⟨M12, 2, none⟩ (.int .u64 4) N (by show N ≠ M12; omega)).trans K12.out)
  have B13 := Lib.hid (B12.out.setCell (p := ⟨M12, 2, none⟩) (by show N ≤ M12; omega) (.int .u64 4))
  have s13 : N < (w12.setCell ⟨M12, 2, none⟩ (.int .u64 4)).heap.size := by simp; omega
  have X13 := Lib.hid ((Below.heap_setCell w12 ⟨M12, 2, none⟩ (.int .u64 4) M7 (by show M7 ≠ M12; omega)).trans X12.out)
  have lX13 : M7 < (w12.setCell ⟨M12, 2, none⟩ (.int .u64 4)).heap.size := by simp; omega
  have Y13 := Lib.hid ((Below.heap_setCell w12 ⟨M12, 2, none⟩ (.int .u64 4) M9 (by show M9 ≠ M12; omega)).trans Y12.out)
  have lY13 : M9 < (w12.setCell ⟨M12, 2, none⟩ (.int .u64 4)).heap.size := by simp; omega
  have lZ13 : M12 < (w12.setCell ⟨M12, 2, none⟩ (.int .u64 4)).heap.size := by simp; omega
  clear hc13 hf13 K12 B12 s12 X12 lX12 Y12 lY12 Z12 lZ12
  generalize w12.setCell ⟨M12, 2, none⟩ (.int .u64 4) = w13 at *
  go_wp2_with (first | (with_reducible refine wpList_load_row rfl 23 (.tmp 1) rfl N rfl 23 ck.toArray (0, 0) _ (by exact K13.out) Tryd.underlying23 rfl hicl ?_) | (with_reducible refine wpList_load_row rfl 28 (.tmp 16) rfl M12 rfl 28 cf.toArray (0, 0) _ (by exact Z13.out) Tryd.underlying28 rfl hicf ?_))
  refine (OP3.out _ (HH.out.low B13.out (by omega)) (HK.out.low B13.out hN1) (by omega)).mono ?_
  rintro e w14 ⟨rfl, k14⟩
  have K14 := Lib.hid ((k14.block N (by omega)).trans K13.out)
  have B14 := Lib.hid (B13.out.trans (k14.mono (by omega)))
  have s14 : N < w14.heap.size := Nat.lt_of_lt_of_le s13 k14.size
  have X14 := Lib.hid ((k14.block M7 (by omega)).trans X13.out)
  have lX14 : M7 < w14.heap.size := Nat.lt_of_lt_of_le lX13 k14.size
  have Y14 := Lib.hid ((k14.block M9 (by omega)).trans Y13.out)
  have lY14 : M9 < w14.heap.size := Nat.lt_of_lt_of_le lY13 k14.size
  have Z14 := Lib.hid ((k14.block M12 (by omega)).trans Z13.out)
  have lZ14 : M12 < w14.heap.size := Nat.lt_of_lt_of_le lZ13 k14.size
  clear k14 K13 B13 s13 X13 Y13 Z13 lX13 lY13 lZ13
  go_wp2_with (with_reducible refine wpList_load_row rfl 28 (.tmp 10) rfl M9 rfl 28 ce.toArray (0, 0) _ (by exact Y14.out) Tryd.underlying28 rfl hice ?_)
  refine (BY.out _).mono ?_
  rintro e w15 ⟨rfl, k15⟩
  have K15 := Lib.hid ((k15.block N (by omega)).trans K14.out)
  have B15 := Lib.hid (B14.out.trans (k15.mono (by omega)))
  have s15 : N < w15.heap.size := Nat.lt_of_lt_of_le s14 k15.size
  have X15 := Lib.hid ((k15.block M7 (by omega)).trans X14.out)
  have lX15 : M7 < w15.heap.size := Nat.lt_of_lt_of_le lX14 k15.size
  have Y15 := Lib.hid ((k15.block M9 (by omega)).trans Y14.out)
  have lY15 : M9 < w15.heap.size := Nat.lt_of_lt_of_le lY14 k15.size
  have Z15 := Lib.hid ((k15.block M12 (by omega)).trans Z14.out)
  have lZ15 : M12 < w15.heap.size := Nat.lt_of_lt_of_le lZ14 k15.size
  clear k15 K14 B14 s14 X14 Y14 Z14 lX14 lY14 lZ14
  have hbz : ((bw.size : Int) == 0) = false := by rw [beq_eq_false_iff_ne]; omega
  go_wp2_with fail
  refine (RD1.out _).mono ?_
  rintro e w16 ⟨rfl, k16⟩
  have K16 := Lib.hid ((k16.block N (by omega)).trans K15.out)
  have B16 := Lib.hid (B15.out.trans (k16.mono (by omega)))
  have s16 : N < w16.heap.size := Nat.lt_of_lt_of_le s15 k16.size
  have X16 := Lib.hid ((k16.block M7 (by omega)).trans X15.out)
  have lX16 : M7 < w16.heap.size := Nat.lt_of_lt_of_le lX15 k16.size
  have Y16 := Lib.hid ((k16.block M9 (by omega)).trans Y15.out)
  have lY16 : M9 < w16.heap.size := Nat.lt_of_lt_of_le lY15 k16.size
  have Z16 := Lib.hid ((k16.block M12 (by omega)).trans Z15.out)
  have lZ16 : M12 < w16.heap.size := Nat.lt_of_lt_of_le lZ15 k16.size
  clear k16 K15 B15 s15 X15 Y15 Z15 lX15 lY15 lZ15
  have hst17 := STE.out ce hcel hceo w16
  go_upto_region 16 with (fail)
  have V17 := Lib.hid (heap_alloc_new w16 (.cells ce.toArray 28))
  have lV17 : w16.heap.size < (w16.alloc (.cells ce.toArray 28)).heap.size := by simp
  have hM17' : N < w16.heap.size := s16
  have dX17 : M7 < w16.heap.size := lX16
  have dY17 : M9 < w16.heap.size := lY16
  have dZ17 : M12 < w16.heap.size := lZ16
  have K17 := Lib.hid ((Below.heap_alloc w16 (.cells ce.toArray 28) N (by omega)).trans K16.out)
  have B17 := Lib.hid (B16.out.alloc (by omega) (.cells ce.toArray 28))
  have s17 : N < (w16.alloc (.cells ce.toArray 28)).heap.size := by simp; omega
  have X17 := Lib.hid ((Below.heap_alloc w16 (.cells ce.toArray 28) M7 (by omega)).trans X16.out)
  have lX17 : M7 < (w16.alloc (.cells ce.toArray 28)).heap.size := by simp; omega
  have Y17 := Lib.hid ((Below.heap_alloc w16 (.cells ce.toArray 28) M9 (by omega)).trans Y16.out)
  have lY17 : M9 < (w16.alloc (.cells ce.toArray 28)).heap.size := by simp; omega
  have Z17 := Lib.hid ((Below.heap_alloc w16 (.cells ce.toArray 28) M12 (by omega)).trans Z16.out)
  have lZ17 : M12 < (w16.alloc (.cells ce.toArray 28)).heap.size := by simp; omega
  clear hst17 K16 B16 s16 X16 Y16 Z16 lX16 lY16 lZ16
  generalize w16.alloc (.cells ce.toArray 28) = w17 at *
  obtain ⟨M17, hM17⟩ : ∃ M, M = w16.heap.size := ⟨_, rfl⟩
  rw [← hM17] at V17 lV17 hM17' dX17 dY17 dZ17 ⊢
  clear hM17
  have hs1 : IntKind.i64.wrap ((bw.size : Int) - 1) = (bw.size : Int) - 1 := IntWalk.i64_in _ (by omega)
  have hs2 : ((bw.size : Int) - 1).toNat = bw.size - 1 := by omega
  have hs3 : 0 ≤ (bw.size : Int) - 1 := by omega
  have hs4 : (bw.size : Int) - 1 ≤ bw.size := by omega
  go_wp2_with fail
  refine (RD2.out _).mono ?_
  rintro e w18 ⟨rfl, k18⟩
  have K18 := Lib.hid ((k18.block N (by omega)).trans K17.out)
  have B18 := Lib.hid (B17.out.trans (k18.mono (by omega)))
  have s18 : N < w18.heap.size := Nat.lt_of_lt_of_le s17 k18.size
  have X18 := Lib.hid ((k18.block M7 (by omega)).trans X17.out)
  have lX18 : M7 < w18.heap.size := Nat.lt_of_lt_of_le lX17 k18.size
  have Y18 := Lib.hid ((k18.block M9 (by omega)).trans Y17.out)
  have lY18 : M9 < w18.heap.size := Nat.lt_of_lt_of_le lY17 k18.size
  have Z18 := Lib.hid ((k18.block M12 (by omega)).trans Z17.out)
  have lZ18 : M12 < w18.heap.size := Nat.lt_of_lt_of_le lZ17 k18.size
  have V18 := Lib.hid ((k18.block M17 (by omega)).trans V17.out)
  have lV18 : M17 < w18.heap.size := Nat.lt_of_lt_of_le lV17 k18.size
  clear k18 K17 B17 s17 X17 Y17 Z17 V17 lX17 lY17 lZ17 lV17
  have hst19 := STE.out cz hczl hczo w18
  go_upto_region 17 with (fail)
  have K19 := Lib.hid ((Below.heap_alloc w18 (.cells cz.toArray 28) N (by omega)).trans K18.out)
  have B19 := Lib.hid (B18.out.alloc (by omega) (.cells cz.toArray 28))
  have s19 : N < (w18.alloc (.cells cz.toArray 28)).heap.size := by simp; omega
  have X19 := Lib.hid ((Below.heap_alloc w18 (.cells cz.toArray 28) M7 (by omega)).trans X18.out)
  have lX19 : M7 < (w18.alloc (.cells cz.toArray 28)).heap.size := by simp; omega
  have Y19 := Lib.hid ((Below.heap_alloc w18 (.cells cz.toArray 28) M9 (by omega)).trans Y18.out)
  have lY19 : M9 < (w18.alloc (.cells cz.toArray 28)).heap.size := by simp; omega
  have Z19 := Lib.hid ((Below.heap_alloc w18 (.cells cz.toArray 28) M12 (by omega)).trans Z18.out)
  have lZ19 : M12 < (w18.alloc (.cells cz.toArray 28)).heap.size := by simp; omega
  have V19 := Lib.hid ((Below.heap_alloc w18 (.cells cz.toArray 28) M17 (by omega)).trans V18.out)
  have lV19 : M17 < (w18.alloc (.cells cz.toArray 28)).heap.size := by simp; omega
  clear hst19 K18 B18 s18 X18 Y18 Z18 V18 lX18 lY18 lZ18 lV18
  generalize w18.alloc (.cells cz.toArray 28) = w19 at *
  obtain ⟨M19, hM19⟩ : ∃ M, M = w18.heap.size := ⟨_, rfl⟩
  rw [← hM19]
  clear hM19
  go_wp2_with fail
  refine (RD3.out _).mono ?_
  rintro e w20 ⟨rfl, k20⟩
  have K20 := Lib.hid ((k20.block N (by omega)).trans K19.out)
  have B20 := Lib.hid (B19.out.trans (k20.mono (by omega)))
  have s20 : N < w20.heap.size := Nat.lt_of_lt_of_le s19 k20.size
  have X20 := Lib.hid ((k20.block M7 (by omega)).trans X19.out)
  have lX20 : M7 < w20.heap.size := Nat.lt_of_lt_of_le lX19 k20.size
  have Y20 := Lib.hid ((k20.block M9 (by omega)).trans Y19.out)
  have lY20 : M9 < w20.heap.size := Nat.lt_of_lt_of_le lY19 k20.size
  have Z20 := Lib.hid ((k20.block M12 (by omega)).trans Z19.out)
  have lZ20 : M12 < w20.heap.size := Nat.lt_of_lt_of_le lZ19 k20.size
  have V20 := Lib.hid ((k20.block M17 (by omega)).trans V19.out)
  have lV20 : M17 < w20.heap.size := Nat.lt_of_lt_of_le lV19 k20.size
  clear k20 K19 B19 s19 X19 Y19 Z19 V19 lX19 lY19 lZ19 lV19
  have hst21 := STE.out cz hczl hczo w20
  have hsz21 : 1 < (w20.alloc (.cells cz.toArray 28)).heap.size := by simp; omega
  have K21 := Lib.hid ((Below.heap_alloc w20 (.cells cz.toArray 28) N (by omega)).trans K20.out)
  have B21 := Lib.hid (B20.out.alloc (by omega) (.cells cz.toArray 28))
  have s21 : N < (w20.alloc (.cells cz.toArray 28)).heap.size := by simp; omega
  have X21 := Lib.hid ((Below.heap_alloc w20 (.cells cz.toArray 28) M7 (by omega)).trans X20.out)
  have lX21 : M7 < (w20.alloc (.cells cz.toArray 28)).heap.size := by simp; omega
  have Y21 := Lib.hid ((Below.heap_alloc w20 (.cells cz.toArray 28) M9 (by omega)).trans Y20.out)
  have lY21 : M9 < (w20.alloc (.cells cz.toArray 28)).heap.size := by simp; omega
  have Z21 := Lib.hid ((Below.heap_alloc w20 (.cells cz.toArray 28) M12 (by omega)).trans Z20.out)
  have lZ21 : M12 < (w20.alloc (.cells cz.toArray 28)).heap.size := by simp; omega
  have V21 := Lib.hid ((Below.heap_alloc w20 (.cells cz.toArray 28) M17 (by omega)).trans V20.out)
  have lV21 : M17 < (w20.alloc (.cells cz.toArray 28)).heap.size := by simp; omega
  go_wp2_with fail
  refine (AW.out _ (HH.out.low B21.out (by omega)) (HK.out.low B21.out hN1) hsz21).mono ?_
  rintro e wf ⟨rfl, kf⟩
  have Xf := Lib.hid ((kf.block M7 lX21).trans X21.out)
  have Yf := Lib.hid ((kf.block M9 lY21).trans Y21.out)
  have Vf := Lib.hid ((kf.block M17 lV21).trans V21.out)
  have Bf : Below N w wf := B21.out.trans (kf.mono (by omega))
  have cf8 := Sm.cells_of Xf.out 3 _ hc83
  go_wp2_with (first | (with_reducible refine Sm.wpList_load_row_g 28 (.tmp 21) rfl M17 rfl 28 ce.toArray (0, 0) _ (by exact Vf.out) Tryd.underlying28 rfl hice ?_ rfl) | (with_reducible refine Sm.wpList_load_row_g 28 (.tmp 10) rfl M9 rfl 28 ce.toArray (0, 0) _ (by exact Yf.out) Tryd.underlying28 rfl hice ?_ rfl) | (refine Se.wpList_eql_env 28 (.tmp 149) (.tmp 150) rfl Se.exam Se.exam (by show Value.agg ce.toArray = _; rw [HCE.out]) (by show Value.agg ce.toArray = _; rw [HCE.out]) Se.exam_ok.1.tag Se.exam_ok.1.tag ?_ (by rfl); rw [Se.eqb_self]))
  go_ret
  exact ⟨rfl, Bf⟩
end Go.Proofs.YtapogiihkbjppaaDoor
