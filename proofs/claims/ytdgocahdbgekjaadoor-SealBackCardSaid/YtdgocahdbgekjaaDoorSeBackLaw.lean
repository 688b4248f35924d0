/-
  SealBack: what was closed is opened, through its bytes, too.
-/
import Derived.Test.YtdgocahdbgekjaaDoorSeOnlyLaw
namespace Go.Proofs.YtdgocahdbgekjaaDoor
open Go.RowKit Pk

set_option maxRecDepth 100000 in
set_option maxHeartbeats 4000000 in
theorem sealBack_any {w : World} (hH : Sm.HAt w) (hK : Sm.KAt w) (hsz : 1 < w.heap.size) (k : List UInt8) (hk : k.length = 32) (key : Int) (hkey : -9223372036854775808 ≤ key ∧ key ≤ 9223372036854775807) (boot n : Nat) (hb : boot < 2 ^ 32) (hn : n < 2 ^ 64) (about text : ByteArray) (ha : about.size ≤ 9223372036854775807) (ht : text.size ≤ 9223372036854775807) :
    Calls Tryd.prog 7 #[.agg (Lib.byteCells k).toArray, .int .i64 key, .int .u32 boot, .int .u64 n, .string about, .string text] w fun e w' => e = .returned (.bool true) ∧ Below w.heap.size w w' := by
  have HH := Lib.hid hH
  have HK := Lib.hid hK
  obtain ⟨ckl, hck⟩ : ∃ c, c = Lib.byteCells k := ⟨_, rfl⟩
  have hckl : ckl.length = 32 := by rw [hck, Lib.byteCells_length, hk]
  obtain ⟨N, hN⟩ : ∃ N, N = w.heap.size := ⟨_, rfl⟩
  have r1 : (w.alloc (.cells ckl.toArray 23)).heap[N]? = some (.cells ckl.toArray 23 (0, 0)) := by rw [hN]; exact heap_alloc_new w _
  have b1 : Below N w (w.alloc (.cells ckl.toArray 23)) := by rw [hN]; exact Se.below_new w _
  have s1 : (w.alloc (.cells ckl.toArray 23)).heap.size = N + 1 := by rw [hN]; simp
  have hN1 : 1 < N := by omega
  have hicl : (Tryd.prog.info? 23).map (·.size) = some ckl.toArray.size := by rw [List.size_toArray, hckl]; kernel_rfl
  have hz1 := (zero_of_info Se.zeroEnv).1
  have hzs : Se.zero.cells.toArray.size = 36 := Se.cells_length _ (by rfl)
  obtain ⟨z0, hz0⟩ : ∃ z, z = Se.zero.cells.toArray := ⟨_, rfl⟩
  rw [← hz0] at hz1 hzs
  rw [← hck, ← hN]
  have HCK := Lib.hid hck
  have HN := Lib.hid hN
  have R1 := Lib.hid r1
  have B1 := Lib.hid b1
  clear hz0 hH hK hck hN r1 b1
  have AW : Hid (∀ wx : World, Sm.HAt wx → Sm.KAt wx → 1 < wx.heap.size → Calls Tryd.prog 14 #[] wx fun e w' => e = .returned (.bool true) ∧ Below wx.heap.size wx w') := fun wx h1 h2 h3 => awake5_any h1 h2 h3
  by_cases ha8 : about.size ≤ 8192
  · have hai : (about.size : Int) ≤ 8192 := by omega
    by_cases ht8 : text.size ≤ 8192
    · have hti : (text.size : Int) ≤ 8192 := by omega
      by_cases h0 : 0 ≤ key
      · by_cases h1 : key ≤ 1048576
        · have hk2 : 0 ≤ key ∧ key ≤ 1048576 := ⟨h0, h1⟩
          have htl : text.data.toList.length = text.size := by rw [Array.length_toList]; rfl
          obtain ⟨en, hen⟩ : ∃ e, e = Se.sealed k key boot n about.data.toList text.data.toList := ⟨_, rfl⟩
          have hco : Se.close k key boot n about.data.toList text.data.toList = (en, 0) := by
            unfold Se.close
            rw [if_pos hk2, if_pos (by omega), hen]
          have hok := Se.sealed_ok (k := k) (about := about.data.toList) hk2 hb hn (show text.data.toList.length ≤ 8192 by omega)
          rw [← hen] at hok
          have hop : Se.opened k en about.data.toList = (text.data.toList, 0) := by rw [hen]; exact Se.opened_sealed hk2 hb hn (by omega)
          have hel : en.cells.length = 36 := Se.cells_length _ hok.1.tag
          have heo : en.cells.toArray.all (·.oneCell') = true := Se.cells_one _
          obtain ⟨ce, hce⟩ : ∃ c, c = en.cells := ⟨_, rfl⟩
          rw [← hce] at hel heo
          have hes : ce.toArray.size = 36 := by rw [List.size_toArray, hel]
          have HCE := Lib.hid hce
          have CL : Hid (∀ wx : World, Sm.HAt wx → Sm.KAt wx → 1 < wx.heap.size → Calls Tryd.prog 10 #[.agg ckl.toArray, .int .i64 key, .int .u32 boot, .int .u64 n, .string about, .string text] wx fun e w' => e = .returned (.tuple #[.agg ce.toArray, .int .i64 0]) ∧ Below wx.heap.size wx w') := fun wx h1 h2 h3 => by
            have h := close_any h1 h2 h3 k hk key hkey boot n hb hn about text (by omega) ht
            rw [hco] at h
            rw [HCK.out, hce]
            exact h
          have OP : Hid (∀ wx : World, Sm.HAt wx → Sm.KAt wx → 1 < wx.heap.size → Calls Tryd.prog 11 #[.agg ckl.toArray, .agg ce.toArray, .string about] wx fun e w' => e = .returned (.tuple #[.string text, .int .i64 0]) ∧ Below wx.heap.size wx w') := fun wx h1 h2 h3 => by
            have h := open_any h1 h2 h3 k hk en hok.1 about (by omega)
            rw [hop] at h
            rw [HCK.out, hce]
            exact h.mono (fun e w' ⟨h1, h2⟩ => (⟨by rw [h1, Se.bytes_array]; rfl, h2⟩ : e = Ending.returned (.tuple #[.string text, .int .i64 0]) ∧ Below wx.heap.size wx w'))
          have hsp : Se.spelled en = (Se.bytes en, 0) := by unfold Se.spelled; rw [if_pos hok.2]
          have hbl : (Se.bytes en).length ≤ 9000 := by
            have h1 := enc_len (n := en.key.toNat) (by have := hok.1.key; omega)
            have h2 := enc_len (n := en.boot) (by have := hok.1.boot; omega)
            have h3 := enc_len (n := en.n) (by have := hok.1.n; omega)
            have hdl : en.data.data.toList.length = en.data.size := by rw [Array.length_toList]; rfl
            have h5 := hok.2.2
            have h4 := enc_len (n := en.data.data.toList.length) (by omega)
            have h6 := hok.1.tag
            simp only [Se.bytes, Se.head, Se.txt, List.length_append]
            omega
          obtain ⟨bx, hbx⟩ : ∃ b : ByteArray, b = ⟨(Se.bytes en).toArray⟩ := ⟨_, rfl⟩
          have BY : Hid (∀ wx : World, Calls Tryd.prog 12 #[.agg ce.toArray] wx fun e w' => e = .returned (.tuple #[.string bx, .int .i64 0]) ∧ Below wx.heap.size wx w') := fun wx => by
            have h := bytes5_any wx en hok.1
            rw [hsp] at h
            rw [hce, hbx]
            exact h
          have RX : Hid (∀ wx : World, Calls Tryd.prog 13 #[.string bx] wx fun e w' => e = .returned (.tuple #[.agg ce.toArray, .int .i64 0]) ∧ Below wx.heap.size wx w') := fun wx => by
            have h := read5_any wx ⟨(Se.bytes en).toArray⟩ (by show (Se.bytes en).toArray.size ≤ _; rw [List.size_toArray]; omega)
            rw [Se.read_bytes hok.1 hok.2] at h
            rw [hbx, hce]
            exact h
          obtain ⟨d, hd⟩ : ∃ d, d = en.data := ⟨_, rfl⟩
          have hds : d.size = text.size := by
            rw [hd, hen]
            show (Se.strm k boot n text.data.toList).toArray.size = _
            rw [List.size_toArray, Se.strm_length, htl]
          have CELL : Hid (∀ (wx : World) (b : Nat), wx.heap[b]? = some (.cells ce.toArray 28 (0, 0)) → wx.cell? ⟨b, 3, none⟩ = some (.string d)) := fun wx b h => by
            rw [hce] at h
            rw [hd]
            exact (Se.EnvAt.cell h).2.2.2
          have HTG : Hid (en.tag.length = 32) := hok.1.tag
          clear hk2 htl hen hco hok hop hce hsp hbl hbx hd
          go_enter Tryd.func7, Tryd.ntmps7
          go_upto_region 1 with (fail)
          rw [← HN.out]
          generalize w.alloc (.cells ckl.toArray 23) = W1 at *
          go_wp2_with fail
          refine (AW.out _ (HH.out.low B1.out (by have := HN.out; omega)) (HK.out.low B1.out hN1) (by omega)).mono ?_
          rintro e w2 ⟨rfl, k2⟩
          have R2 := Lib.hid ((k2.block N (by omega)).trans R1.out)
          have B2 := Lib.hid (B1.out.trans (k2.mono (by omega)))
          have s2 := k2.size
          clear k2 R1 B1 AW
          have hst : ∀ wx : World, (storeCells ⟨wx.heap.size, 0, none⟩ ce).run Tryd.prog (wx.alloc (.cells z0 28)) = .ok () (wx.alloc (.cells ce.toArray 28)) := fun wx =>
            run_storeCells_new (P := Tryd.prog) wx 28 z0 _ (Se.infoEnv hes) (by rw [hes]; exact hzs) heo
          go_wp2_with (with_reducible refine wpList_load_row rfl 23 (.tmp 6) rfl N rfl 23 ckl.toArray (0, 0) _ (by exact R2.out) Tryd.underlying23 rfl hicl ?_)
          refine (CL.out _ (HH.out.low B2.out (by have := HN.out; omega)) (HK.out.low B2.out hN1) (by omega)).mono ?_
          rintro e w3 ⟨rfl, k3⟩
          have R3 := Lib.hid ((k3.block N (by omega)).trans R2.out)
          have B3 := Lib.hid (B2.out.trans (k3.mono (by omega)))
          have s3 := k3.size
          have p4 := heap_alloc_new w3 (.cells ce.toArray 28)
          have r4 : (w3.alloc (.cells ce.toArray 28)).heap[N]? = some (.cells ckl.toArray 23 (0, 0)) := by rw [Below.heap_alloc _ _ _ (by omega)]; exact R3.out
          have b4 : Below N w (w3.alloc (.cells ce.toArray 28)) := B3.out.alloc (by omega) _
          have s4 : (w3.alloc (.cells ce.toArray 28)).heap.size = w3.heap.size + 1 := by simp
          have hst3 := hst w3
          clear k3 R2 B2 CL
          go_upto_region 6 with (fail)
          generalize w3.alloc (.cells ce.toArray 28) = w4 at *
          obtain ⟨M, hM⟩ : ∃ M, M = w3.heap.size := ⟨_, rfl⟩
          rw [← hM] at p4 s4 ⊢
          have hNM : N < M := by omega
          have P4 := Lib.hid p4
          have R4 := Lib.hid r4
          have B4 := Lib.hid b4
          clear hst3 p4 r4 b4 hM R3 B3 s3
          go_wp2_with (with_reducible refine wpList_load_row rfl 28 (.tmp 13) rfl M rfl 28 ce.toArray (0, 0) _ (by exact P4.out) Tryd.underlying28 rfl (Se.infoEnv hes) ?_)
          refine (BY.out _).mono ?_
          rintro e w5 ⟨rfl, k5⟩
          have P5 := Lib.hid ((k5.block M (by omega)).trans P4.out)
          have R5 := Lib.hid ((k5.block N (by omega)).trans R4.out)
          have B5 := Lib.hid (B4.out.trans (k5.mono (by omega)))
          have s5 := k5.size
          clear k5 P4 R4 B4 BY
          go_wp2_with fail
          refine (RX.out _).mono ?_
          rintro e w6 ⟨rfl, k6⟩
          have P6 := Lib.hid ((k6.block M (by omega)).trans P5.out)
          have R6 := Lib.hid ((k6.block N (by omega)).trans R5.out)
          have B6 := Lib.hid (B5.out.trans (k6.mono (by omega)))
          have s6 := k6.size
          have q7 := heap_alloc_new w6 (.cells ce.toArray 28)
          have p7 : (w6.alloc (.cells ce.toArray 28)).heap[M]? = some (.cells ce.toArray 28 (0, 0)) := by rw [Below.heap_alloc _ _ _ (by omega)]; exact P6.out
          have r7 : (w6.alloc (.cells ce.toArray 28)).heap[N]? = some (.cells ckl.toArray 23 (0, 0)) := by rw [Below.heap_alloc _ _ _ (by omega)]; exact R6.out
          have b7 : Below N w (w6.alloc (.cells ce.toArray 28)) := B6.out.alloc (by omega) _
          have s7 : (w6.alloc (.cells ce.toArray 28)).heap.size = w6.heap.size + 1 := by simp
          have hst6 := hst w6
          clear k6 P5 R5 B5 RX
          go_upto_region 8 with (fail)
          generalize w6.alloc (.cells ce.toArray 28) = w7 at *
          obtain ⟨M2, hM2⟩ : ∃ M, M = w6.heap.size := ⟨_, rfl⟩
          rw [← hM2] at q7 s7 ⊢
          have P7 := Lib.hid p7
          have Q7 := Lib.hid q7
          have R7 := Lib.hid r7
          have B7 := Lib.hid b7
          have hMM : M < M2 := by omega
          clear hst hst6 p7 q7 r7 b7 hM2 P6 R6 B6 hz1
          go_wp2_with (first | (with_reducible refine wpList_load_row rfl 23 (.tmp 6) rfl N rfl 23 ckl.toArray (0, 0) _ (by exact R7.out) Tryd.underlying23 rfl hicl ?_) | (with_reducible refine wpList_load_row rfl 28 (.tmp 17) rfl M2 rfl 28 ce.toArray (0, 0) _ (by exact Q7.out) Tryd.underlying28 rfl (Se.infoEnv hes) ?_))
          refine (OP.out _ (HH.out.low B7.out (by have := HN.out; omega)) (HK.out.low B7.out hN1) (by omega)).mono ?_
          rintro e w8 ⟨rfl, k8⟩
          have P8 := Lib.hid ((k8.block M (by omega)).trans P7.out)
          have Q8 := Lib.hid ((k8.block M2 (by omega)).trans Q7.out)
          have B8 := Lib.hid (B7.out.trans (k8.mono (by omega)))
          have c3 := CELL.out _ _ P8.out
          clear k8 P7 Q7 R7 B7 OP CELL
          go_wp2_with (first | (with_reducible refine Sm.wpList_load_row_g 28 (.tmp 17) rfl M2 rfl 28 ce.toArray (0, 0) _ (by exact Q8.out) Tryd.underlying28 rfl (Se.infoEnv hes) ?_ (by with_unfolding_all rfl)) | (with_reducible refine Sm.wpList_load_row_g 28 (.tmp 13) rfl M rfl 28 ce.toArray (0, 0) _ (by exact P8.out) Tryd.underlying28 rfl (Se.infoEnv hes) ?_ (by with_unfolding_all rfl)) | (refine Se.wpList_eql_env 28 (.tmp 81) (.tmp 82) rfl en en (by show Value.agg ce.toArray = _; rw [HCE.out]) (by show Value.agg ce.toArray = _; rw [HCE.out]) HTG.out HTG.out ?_ (by rfl); rw [Se.eqb_self]))
          go_ret
          exact ⟨rfl, B8.out⟩
        · clear hz1
          go_enter Tryd.func7, Tryd.ntmps7
          go_upto_region 1 with (fail)
          rw [← HN.out]
          generalize w.alloc (.cells ckl.toArray 23) = W1 at *
          go_wp2_with fail
          refine (AW.out _ (HH.out.low B1.out (by have := HN.out; omega)) (HK.out.low B1.out hN1) (by omega)).mono ?_
          rintro e w2 ⟨rfl, k2⟩
          have R2 := Lib.hid ((k2.block N (by omega)).trans R1.out)
          have B2 := Lib.hid (B1.out.trans (k2.mono (by omega)))
          have s2 := k2.size
          clear k2 R1 B1 AW
          go_wp2_with fail
          go_ret
          exact ⟨rfl, B2.out⟩
      · clear hz1
        go_enter Tryd.func7, Tryd.ntmps7
        go_upto_region 1 with (fail)
        rw [← HN.out]
        generalize w.alloc (.cells ckl.toArray 23) = W1 at *
        go_wp2_with fail
        refine (AW.out _ (HH.out.low B1.out (by have := HN.out; omega)) (HK.out.low B1.out hN1) (by omega)).mono ?_
        rintro e w2 ⟨rfl, k2⟩
        have R2 := Lib.hid ((k2.block N (by omega)).trans R1.out)
        have B2 := Lib.hid (B1.out.trans (k2.mono (by omega)))
        have s2 := k2.size
        clear k2 R1 B1 AW
        go_wp2_with fail
        go_ret
        exact ⟨rfl, B2.out⟩
    · have hti : ¬ (text.size : Int) ≤ 8192 := by omega
      clear hz1
      go_enter Tryd.func7, Tryd.ntmps7
      go_upto_region 1 with (fail)
      rw [← HN.out]
      generalize w.alloc (.cells ckl.toArray 23) = W1 at *
      go_wp2_with fail
      refine (AW.out _ (HH.out.low B1.out (by have := HN.out; omega)) (HK.out.low B1.out hN1) (by omega)).mono ?_
      rintro e w2 ⟨rfl, k2⟩
      have R2 := Lib.hid ((k2.block N (by omega)).trans R1.out)
      have B2 := Lib.hid (B1.out.trans (k2.mono (by omega)))
      have s2 := k2.size
      clear k2 R1 B1 AW
      go_wp2_with fail
      go_ret
      exact ⟨rfl, B2.out⟩
  · have hai : ¬ (about.size : Int) ≤ 8192 := by omega
    clear hz1
    go_enter Tryd.func7, Tryd.ntmps7
    go_upto_region 1 with (fail)
    rw [← HN.out]
    generalize w.alloc (.cells ckl.toArray 23) = W1 at *
    go_wp2_with fail
    refine (AW.out _ (HH.out.low B1.out (by have := HN.out; omega)) (HK.out.low B1.out hN1) (by omega)).mono ?_
    rintro e w2 ⟨rfl, k2⟩
    have R2 := Lib.hid ((k2.block N (by omega)).trans R1.out)
    have B2 := Lib.hid (B1.out.trans (k2.mono (by omega)))
    have s2 := k2.size
    clear k2 R1 B1 AW
    go_wp2_with fail
    go_ret
    exact ⟨rfl, B2.out⟩
end Go.Proofs.YtdgocahdbgekjaaDoor
