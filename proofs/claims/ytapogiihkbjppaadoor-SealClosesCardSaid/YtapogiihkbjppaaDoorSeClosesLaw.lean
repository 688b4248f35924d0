/-
  SealCloses: what a text is sealed to, and what bars it, is the document's.
-/
import Derived.Test.YtapogiihkbjppaaDoorR5Close
import Derived.Test.YtapogiihkbjppaaDoorSeAwake
import Derived.Test.YtapogiihkbjppaaDoorSeEq
namespace Go.Proofs.YtapogiihkbjppaaDoor
open Go.RowKit Pk
namespace Se
theorem close_tag (k : List UInt8) (key : Int) (boot n : Nat) (about t : List UInt8) : (close k key boot n about t).1.tag.length = 32 := by
  unfold close
  split
  · split
    · exact tagOf_length _ _ _
    · rfl
  · rfl
end Se

set_option maxRecDepth 100000 in
set_option maxHeartbeats 2000000 in
theorem sealCloses_some {w : World} (hH : Sm.HAt w) (hK : Sm.KAt w) (hsz : 1 < w.heap.size) (k : List UInt8) (hk : k.length = 32) (key : Int) (hkey : -9223372036854775808 ≤ key ∧ key ≤ 9223372036854775807) (boot n : Nat) (hb : boot < 2 ^ 32) (hn : n < 2 ^ 64) (about text : ByteArray) (ha : about.size ≤ 300) (ht : text.size ≤ 300 ∨ (8192 < text.size ∧ text.size ≤ 20000)) :
    Calls Tryd.prog 4 #[.agg (Lib.byteCells k).toArray, .int .i64 key, .int .u32 boot, .int .u64 n, .string about, .string text] w fun e w' => e = .returned (.bool true) ∧ Below w.heap.size w w' := by
  have HH := Lib.hid hH
  have HK := Lib.hid hK
  obtain ⟨ck, hck⟩ : ∃ c, c = Lib.byteCells k := ⟨_, rfl⟩
  have hckl : ck.length = 32 := by rw [hck, Lib.byteCells_length, hk]
  obtain ⟨N, hN⟩ : ∃ N, N = w.heap.size := ⟨_, rfl⟩
  have hN1 : 1 < N := by omega
  have r1 : (w.alloc (.cells ck.toArray 23)).heap[N]? = some (.cells ck.toArray 23 (0, 0)) := by rw [hN]; exact heap_alloc_new w _
  have b1 : Below N w (w.alloc (.cells ck.toArray 23)) := by rw [hN]; exact Se.below_new w _
  have s1 : (w.alloc (.cells ck.toArray 23)).heap.size = N + 1 := by rw [hN]; simp
  have hicl : (Tryd.prog.info? 23).map (·.size) = some ck.toArray.size := by rw [List.size_toArray, hckl]; kernel_rfl
  have hz1 := (zero_of_info Se.zeroEnv).1
  have hzs : Se.zero.cells.toArray.size = 36 := Se.cells_length _ (by rfl)
  obtain ⟨z0, hz0⟩ : ∃ z, z = Se.zero.cells.toArray := ⟨_, rfl⟩
  rw [← hz0] at hz1 hzs
  obtain ⟨en, hen⟩ : ∃ e, e = (Se.close k key boot n about.data.toList text.data.toList).1 := ⟨_, rfl⟩
  obtain ⟨er, her⟩ : ∃ e, e = (Se.close k key boot n about.data.toList text.data.toList).2 := ⟨_, rfl⟩
  have htg : en.tag.length = 32 := by rw [hen]; exact Se.close_tag _ _ _ _ _ _
  obtain ⟨ce, hce⟩ : ∃ c, c = en.cells := ⟨_, rfl⟩
  have hcel : ce.length = 36 := by rw [hce]; exact Se.cells_length _ htg
  have hceo : ce.toArray.all (·.oneCell') = true := by rw [hce]; exact Se.cells_one _
  have hes : ce.toArray.size = 36 := by rw [List.size_toArray, hcel]
  have CL : Hid (∀ wx : World, Sm.HAt wx → Sm.KAt wx → 1 < wx.heap.size → Calls Tryd.prog 8 #[.agg ck.toArray, .int .i64 key, .int .u32 boot, .int .u64 n, .string about, .string text] wx fun e w' => e = .returned (.tuple #[.agg ce.toArray, .int .i64 er]) ∧ Below wx.heap.size wx w') := fun wx a b c => by
    rw [hck, hce, hen, her]; exact close_any a b c k hk key hkey boot n hb hn about text (by omega) (by omega)
  have CR : Hid (∀ wx : World, Calls Tryd.prog 13 #[.agg ck.toArray, .int .i64 key, .int .u32 boot, .int .u64 n, .string about, .string text] wx fun e w' => e = .returned (.tuple #[.agg ce.toArray, .int .i64 er]) ∧ Below wx.heap.size wx w') := fun wx => by
    rw [hck, hce, hen, her]; exact r5Close_any wx k hk key hkey boot n hb hn about text (by omega) (by omega)
  have AW : Hid (∀ wx : World, Sm.HAt wx → Sm.KAt wx → 1 < wx.heap.size → Calls Tryd.prog 12 #[] wx fun e w' => e = .returned (.bool true) ∧ Below wx.heap.size wx w') := fun wx h1 h2 h3 => awake5_any h1 h2 h3
  have hst : ∀ wx : World, (storeCells ⟨wx.heap.size, 0, none⟩ ce).run Tryd.prog (wx.alloc (.cells z0 28)) = .ok () (wx.alloc (.cells ce.toArray 28)) := fun wx =>
    run_storeCells_new (P := Tryd.prog) wx 28 z0 _ (Se.infoEnv hes) (by rw [hes]; exact hzs) hceo
  have g1 : ¬ (300 : Int) < about.size := by omega
  have HCE := Lib.hid hce
  have HTG := Lib.hid htg
  rw [← hck, ← hN]
  have HN := Lib.hid hN
  have R1 := Lib.hid r1
  have B1 := Lib.hid b1
  clear hz0 hen her hce htg hcel hceo hH hK hck hN r1 b1
  rcases ht with ht | ⟨ht, ht2⟩
  · have g2 : ¬ (300 : Int) < text.size := by omega
    have g4 : ¬ (20000 : Int) < text.size := by omega
    go_enter Tryd.func4, Tryd.ntmps4
    go_upto_region 1 with (fail)
    rw [← HN.out]
    generalize w.alloc (.cells ck.toArray 23) = W1 at *
    go_wp2_with fail
    refine (AW.out _ (HH.out.low B1.out (by omega)) (HK.out.low B1.out hN1) (by omega)).mono ?_
    rintro e w2 ⟨rfl, k2⟩
    have R2 := Lib.hid ((k2.block N (by omega)).trans R1.out)
    have B2 := Lib.hid (B1.out.trans (k2.mono (by omega)))
    have s2 := k2.size
    clear k2 R1 B1 AW
    go_wp2_with (with_reducible refine wpList_load_row rfl 23 (.tmp 6) rfl N rfl 23 ck.toArray (0, 0) _ (by exact R2.out) Tryd.underlying23 rfl hicl ?_)
    refine (CL.out _ (HH.out.low B2.out (by omega)) (HK.out.low B2.out hN1) (by omega)).mono ?_
    rintro e w3 ⟨rfl, k3⟩
    have R3 := Lib.hid ((k3.block N (by omega)).trans R2.out)
    have B3 := Lib.hid (B2.out.trans (k3.mono (by omega)))
    have s3 := k3.size
    have hst3 := hst w3
    clear k3 R2 B2 CL
    go_upto_region 6 with (fail)
    have P4 := Lib.hid (heap_alloc_new w3 (.cells ce.toArray 28))
    have R4 := Lib.hid ((Below.heap_alloc w3 (.cells ce.toArray 28) N (by omega)).trans R3.out)
    have B4 := Lib.hid (B3.out.alloc (by omega) (.cells ce.toArray 28))
    have s4 : (w3.alloc (.cells ce.toArray 28)).heap.size = w3.heap.size + 1 := by simp
    clear hst3 R3 B3
    generalize w3.alloc (.cells ce.toArray 28) = w4 at *
    obtain ⟨M, hM⟩ : ∃ M, M = w3.heap.size := ⟨_, rfl⟩
    rw [← hM] at P4 s4 ⊢
    have hNM : N < M := by omega
    clear hM s3
    go_wp2_with (with_reducible refine wpList_load_row rfl 23 (.tmp 6) rfl N rfl 23 ck.toArray (0, 0) _ (by exact R4.out) Tryd.underlying23 rfl hicl ?_)
    refine (CR.out _).mono ?_
    rintro e w5 ⟨rfl, k5⟩
    have P5 := Lib.hid ((k5.block M (by omega)).trans P4.out)
    have B5 := Lib.hid (B4.out.trans (k5.mono (by omega)))
    have s5 := k5.size
    have hst5 := hst w5
    clear k5 P4 R4 B4 CR hst
    go_upto_region 7 with (fail)
    have Q6 := Lib.hid (heap_alloc_new w5 (.cells ce.toArray 28))
    have P6 := Lib.hid ((Below.heap_alloc w5 (.cells ce.toArray 28) M (by omega)).trans P5.out)
    have B6 := Lib.hid (B5.out.alloc (by omega) (.cells ce.toArray 28))
    clear hst5 P5 B5 hz1
    generalize w5.alloc (.cells ce.toArray 28) = w6 at *
    obtain ⟨M2, hM2⟩ : ∃ M, M = w5.heap.size := ⟨_, rfl⟩
    rw [← hM2] at Q6 ⊢
    clear hM2
    go_wp2_with (first | (with_reducible refine wpList_load_row rfl 28 (.tmp 13) rfl M rfl 28 ce.toArray (0, 0) _ (by exact P6.out) Tryd.underlying28 rfl (Se.infoEnv hes) ?_) | (with_reducible refine wpList_load_row rfl 28 (.tmp 15) rfl M2 rfl 28 ce.toArray (0, 0) _ (by exact Q6.out) Tryd.underlying28 rfl (Se.infoEnv hes) ?_) | (refine Se.wpList_eql_env 28 (.tmp 57) (.tmp 58) rfl en en (by show Value.agg ce.toArray = _; rw [HCE.out]) (by show Value.agg ce.toArray = _; rw [HCE.out]) HTG.out HTG.out ?_ (by rfl); rw [Se.eqb_self]))
    go_ret
    exact ⟨rfl, B6.out⟩
  · have g2 : (300 : Int) < text.size := by omega
    have g3 : ¬ (text.size : Int) ≤ 8192 := by omega
    have g4 : ¬ (20000 : Int) < text.size := by omega
    go_enter Tryd.func4, Tryd.ntmps4
    go_upto_region 1 with (fail)
    rw [← HN.out]
    generalize w.alloc (.cells ck.toArray 23) = W1 at *
    go_wp2_with fail
    refine (AW.out _ (HH.out.low B1.out (by omega)) (HK.out.low B1.out hN1) (by omega)).mono ?_
    rintro e w2 ⟨rfl, k2⟩
    have R2 := Lib.hid ((k2.block N (by omega)).trans R1.out)
    have B2 := Lib.hid (B1.out.trans (k2.mono (by omega)))
    have s2 := k2.size
    clear k2 R1 B1 AW
    go_wp2_with (with_reducible refine wpList_load_row rfl 23 (.tmp 6) rfl N rfl 23 ck.toArray (0, 0) _ (by exact R2.out) Tryd.underlying23 rfl hicl ?_)
    refine (CL.out _ (HH.out.low B2.out (by omega)) (HK.out.low B2.out hN1) (by omega)).mono ?_
    rintro e w3 ⟨rfl, k3⟩
    have R3 := Lib.hid ((k3.block N (by omega)).trans R2.out)
    have B3 := Lib.hid (B2.out.trans (k3.mono (by omega)))
    have s3 := k3.size
    have hst3 := hst w3
    clear k3 R2 B2 CL
    go_upto_region 6 with (fail)
    have P4 := Lib.hid (heap_alloc_new w3 (.cells ce.toArray 28))
    have R4 := Lib.hid ((Below.heap_alloc w3 (.cells ce.toArray 28) N (by omega)).trans R3.out)
    have B4 := Lib.hid (B3.out.alloc (by omega) (.cells ce.toArray 28))
    have s4 : (w3.alloc (.cells ce.toArray 28)).heap.size = w3.heap.size + 1 := by simp
    clear hst3 R3 B3
    generalize w3.alloc (.cells ce.toArray 28) = w4 at *
    obtain ⟨M, hM⟩ : ∃ M, M = w3.heap.size := ⟨_, rfl⟩
    rw [← hM] at P4 s4 ⊢
    have hNM : N < M := by omega
    clear hM s3
    go_wp2_with (with_reducible refine wpList_load_row rfl 23 (.tmp 6) rfl N rfl 23 ck.toArray (0, 0) _ (by exact R4.out) Tryd.underlying23 rfl hicl ?_)
    refine (CR.out _).mono ?_
    rintro e w5 ⟨rfl, k5⟩
    have P5 := Lib.hid ((k5.block M (by omega)).trans P4.out)
    have B5 := Lib.hid (B4.out.trans (k5.mono (by omega)))
    have s5 := k5.size
    have hst5 := hst w5
    clear k5 P4 R4 B4 CR hst
    go_upto_region 7 with (fail)
    have Q6 := Lib.hid (heap_alloc_new w5 (.cells ce.toArray 28))
    have P6 := Lib.hid ((Below.heap_alloc w5 (.cells ce.toArray 28) M (by omega)).trans P5.out)
    have B6 := Lib.hid (B5.out.alloc (by omega) (.cells ce.toArray 28))
    clear hst5 P5 B5 hz1
    generalize w5.alloc (.cells ce.toArray 28) = w6 at *
    obtain ⟨M2, hM2⟩ : ∃ M, M = w5.heap.size := ⟨_, rfl⟩
    rw [← hM2] at Q6 ⊢
    clear hM2
    go_wp2_with (first | (with_reducible refine wpList_load_row rfl 28 (.tmp 13) rfl M rfl 28 ce.toArray (0, 0) _ (by exact P6.out) Tryd.underlying28 rfl (Se.infoEnv hes) ?_) | (with_reducible refine wpList_load_row rfl 28 (.tmp 15) rfl M2 rfl 28 ce.toArray (0, 0) _ (by exact Q6.out) Tryd.underlying28 rfl (Se.infoEnv hes) ?_) | (refine Se.wpList_eql_env 28 (.tmp 57) (.tmp 58) rfl en en (by show Value.agg ce.toArray = _; rw [HCE.out]) (by show Value.agg ce.toArray = _; rw [HCE.out]) HTG.out HTG.out ?_ (by rfl); rw [Se.eqb_self]))
    go_ret
    exact ⟨rfl, B6.out⟩

set_option maxRecDepth 100000 in
set_option maxHeartbeats 2000000 in
theorem sealCloses_any {w : World} (hH : Sm.HAt w) (hK : Sm.KAt w) (hsz : 1 < w.heap.size) (k : List UInt8) (hk : k.length = 32) (key : Int) (hkey : -9223372036854775808 ≤ key ∧ key ≤ 9223372036854775807) (boot n : Nat) (hb : boot < 2 ^ 32) (hn : n < 2 ^ 64) (about text : ByteArray) :
    Calls Tryd.prog 4 #[.agg (Lib.byteCells k).toArray, .int .i64 key, .int .u32 boot, .int .u64 n, .string about, .string text] w fun e w' => e = .returned (.bool true) ∧ Below w.heap.size w w' := by
  by_cases h1 : about.size ≤ 300
  · by_cases h2 : text.size ≤ 300 ∨ (8192 < text.size ∧ text.size ≤ 20000)
    · exact sealCloses_some hH hK hsz k hk key hkey boot n hb hn about text h1 h2
    · have g1 : ¬ (300 : Int) < about.size := by omega
      have g2 : (300 : Int) < text.size := by omega
      have AW : Hid (∀ wx : World, Sm.HAt wx → Sm.KAt wx → 1 < wx.heap.size → Calls Tryd.prog 12 #[] wx fun e w' => e = .returned (.bool true) ∧ Below wx.heap.size wx w') := fun wx h1 h2 h3 => awake5_any h1 h2 h3
      have HH := Lib.hid hH
      have HK := Lib.hid hK
      obtain ⟨N, hN⟩ : ∃ N, N = w.heap.size := ⟨_, rfl⟩
      have HN := Lib.hid hN
      by_cases h3 : text.size ≤ 8192
      · have g3 : (text.size : Int) ≤ 8192 := by omega
        clear hH hK hN
        obtain ⟨ck, hck⟩ : ∃ c, c = (Lib.byteCells k).toArray := ⟨_, rfl⟩
        rw [← hck, ← HN.out]
        have b1 : Below N w (w.alloc (.cells ck 23)) := by rw [HN.out]; exact Se.below_new w _
        have s1 : (w.alloc (.cells ck 23)).heap.size = N + 1 := by rw [HN.out]; simp
        have hN1 : 1 < N := by have := HN.out; omega
        have B1 := Lib.hid b1
        clear hck b1
        go_enter Tryd.func4, Tryd.ntmps4
        go_upto_region 1 with (fail)
        generalize w.alloc (.cells ck 23) = W1 at *
        go_wp2_with fail
        refine (AW.out _ (HH.out.low B1.out (by omega)) (HK.out.low B1.out hN1) (by omega)).mono ?_
        rintro e w2 ⟨rfl, k2⟩
        go_wp2
        go_ret
        exact ⟨rfl, B1.out.trans (k2.mono (by omega))⟩
      · have g3 : ¬ (text.size : Int) ≤ 8192 := by omega
        have g4 : (20000 : Int) < text.size := by omega
        clear hH hK hN
        obtain ⟨ck, hck⟩ : ∃ c, c = (Lib.byteCells k).toArray := ⟨_, rfl⟩
        rw [← hck, ← HN.out]
        have b1 : Below N w (w.alloc (.cells ck 23)) := by rw [HN.out]; exact Se.below_new w _
        have s1 : (w.alloc (.cells ck 23)).heap.size = N + 1 := by rw [HN.out]; simp
        have hN1 : 1 < N := by have := HN.out; omega
        have B1 := Lib.hid b1
        clear hck b1
        go_enter Tryd.func4, Tryd.ntmps4
        go_upto_region 1 with (fail)
        generalize w.alloc (.cells ck 23) = W1 at *
        go_wp2_with fail
        refine (AW.out _ (HH.out.low B1.out (by omega)) (HK.out.low B1.out hN1) (by omega)).mono ?_
        rintro e w2 ⟨rfl, k2⟩
        go_wp2
        go_ret
        exact ⟨rfl, B1.out.trans (k2.mono (by omega))⟩
  · have g1 : (300 : Int) < about.size := by omega
    have AW : Hid (∀ wx : World, Sm.HAt wx → Sm.KAt wx → 1 < wx.heap.size → Calls Tryd.prog 12 #[] wx fun e w' => e = .returned (.bool true) ∧ Below wx.heap.size wx w') := fun wx h1 h2 h3 => awake5_any h1 h2 h3
    have HH := Lib.hid hH
    have HK := Lib.hid hK
    obtain ⟨N, hN⟩ : ∃ N, N = w.heap.size := ⟨_, rfl⟩
    have HN := Lib.hid hN
    clear hH hK hN
    obtain ⟨ck, hck⟩ : ∃ c, c = (Lib.byteCells k).toArray := ⟨_, rfl⟩
    rw [← hck, ← HN.out]
    have b1 : Below N w (w.alloc (.cells ck 23)) := by rw [HN.out]; exact Se.below_new w _
    have s1 : (w.alloc (.cells ck 23)).heap.size = N + 1 := by rw [HN.out]; simp
    have hN1 : 1 < N := by have := HN.out; omega
    have B1 := Lib.hid b1
    clear hck b1
    go_enter Tryd.func4, Tryd.ntmps4
    go_upto_region 1 with (fail)
    generalize w.alloc (.cells ck 23) = W1 at *
    go_wp2_with fail
    refine (AW.out _ (HH.out.low B1.out (by omega)) (HK.out.low B1.out hN1) (by omega)).mono ?_
    rintro e w2 ⟨rfl, k2⟩
    go_wp2
    go_ret
    exact ⟨rfl, B1.out.trans (k2.mono (by omega))⟩
end Go.Proofs.YtapogiihkbjppaaDoor
