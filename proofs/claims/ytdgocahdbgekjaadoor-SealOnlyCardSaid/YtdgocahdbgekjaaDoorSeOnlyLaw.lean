/-
  SealOnly: what bytes are read as is right and has just these bytes; what has bytes is read from them.
-/
import Derived.Test.YtdgocahdbgekjaaDoorSeEq
import Derived.Deep.CutRange
namespace Go.Proofs.YtdgocahdbgekjaaDoor
open Go.RowKit Pk
namespace Se
theorem bytes_array (b : ByteArray) : (⟨b.data.toList.toArray⟩ : ByteArray) = b := by
  obtain ⟨a⟩ := b
  simp
theorem read_fst (s : ByteArray) : (read s).1 = if fault s = 0 then got s else zero := by simp only [read]
theorem read_snd (s : ByteArray) : (read s).2 = fault s := by simp only [read]
theorem read_tag (s : ByteArray) : (read s).1.tag.length = 32 := by
  rw [read_fst]
  by_cases h : fault s = 0
  · rw [if_pos h]; exact (got_ok s).tag
  · rw [if_neg h]; rfl
end Se

set_option maxRecDepth 100000 in
set_option maxHeartbeats 1000000 in
theorem sealOnly_any {w : World} (hH : Sm.HAt w) (hK : Sm.KAt w) (hsz : 1 < w.heap.size) (x : Se.Env) (ok : x.Ok) (s : ByteArray) (hs : s.size ≤ 9223372036854775807) :
    Calls Tryd.prog 8 #[.agg x.cells.toArray, .string s] w fun e w' => e = .returned (.bool true) ∧ Below w.heap.size w w' := by
  have hz1 := (zero_of_info Se.zeroEnv).1
  have hzs : Se.zero.cells.toArray.size = 36 := Se.cells_length _ (by rfl)
  obtain ⟨z0, hz0⟩ : ∃ z, z = Se.zero.cells.toArray := ⟨_, rfl⟩
  rw [← hz0] at hz1 hzs
  have HZ := Lib.hid hz0
  have HH := Lib.hid hH
  have HK := Lib.hid hK
  obtain ⟨cs, hcs⟩ : ∃ c, c = x.cells := ⟨_, rfl⟩
  have hcsl : cs.length = 36 := by rw [hcs]; exact Se.cells_length x ok.tag
  have hcss : cs.toArray.size = 36 := by rw [List.size_toArray, hcsl]
  obtain ⟨N, hN⟩ : ∃ N, N = w.heap.size := ⟨_, rfl⟩
  have r1 : (w.alloc (.cells cs.toArray 28)).heap[N]? = some (.cells cs.toArray 28 (0, 0)) := by rw [hN]; exact heap_alloc_new w _
  have b1 : Below N w (w.alloc (.cells cs.toArray 28)) := by rw [hN]; exact Se.below_new w _
  have s1 : (w.alloc (.cells cs.toArray 28)).heap.size = N + 1 := by rw [hN]; simp
  have hN1 : 1 < N := by omega
  have CELL : Hid (∀ wx : World, wx.heap[N]? = some (.cells cs.toArray 28 (0, 0)) → wx.cell? ⟨N, 0, none⟩ = some (.int .i64 x.key) ∧ wx.cell? ⟨N, 3, none⟩ = some (.string x.data)) := fun wx h => by
    rw [hcs] at h
    exact ⟨(Se.EnvAt.cell h).1, (Se.EnvAt.cell h).2.2.2⟩
  have XB : Hid (∀ wx : World, Calls Tryd.prog 12 #[.agg cs.toArray] wx fun e w' => e = .returned (.tuple #[.string ⟨(Se.spelled x).1.toArray⟩, .int .i64 (Se.spelled x).2]) ∧ Below wx.heap.size wx w') := fun wx => by
    rw [hcs]; exact bytes5_any wx x ok
  rw [← hcs, ← hN]
  have HCS := Lib.hid hcs
  have HN := Lib.hid hN
  have R1 := Lib.hid r1
  have B1 := Lib.hid b1
  clear hz0 hH hK hcs hN r1 b1
  have AW : Hid (∀ wx : World, Sm.HAt wx → Sm.KAt wx → 1 < wx.heap.size → Calls Tryd.prog 14 #[] wx fun e w' => e = .returned (.bool true) ∧ Below wx.heap.size wx w') := fun wx h1 h2 h3 => awake5_any h1 h2 h3
  have hxd := ok.data
  by_cases hd : x.data.size ≤ 20000
  · have hdi : (x.data.size : Int) ≤ 20000 := by omega
    by_cases hb : s.size ≤ 20000
    · have hbi : (s.size : Int) ≤ 20000 := by omega
      go_enter Tryd.func8, Tryd.ntmps8
      go_upto_region 1 with (fail)
      rw [← HN.out]
      generalize w.alloc (.cells cs.toArray 28) = W1 at *
      go_wp2_with fail
      refine (AW.out _ (HH.out.low B1.out (by have := HN.out; omega)) (HK.out.low B1.out hN1) (by omega)).mono ?_
      rintro e w2 ⟨rfl, k2⟩
      have R2 := Lib.hid ((k2.block N (by omega)).trans R1.out)
      have B2 := Lib.hid (B1.out.trans (k2.mono (by omega)))
      have s2 := k2.size
      clear k2 R1 B1 AW
      obtain ⟨-, c3⟩ := CELL.out _ R2.out
      have RD : Hid (∀ wx : World, Calls Tryd.prog 13 #[.string s] wx fun e w' => e = .returned (.tuple #[.agg (Se.read s).1.cells.toArray, .int .i64 (Se.read s).2]) ∧ Below wx.heap.size wx w') := fun wx => read5_any wx s (by omega)
      have hyt := Se.read_tag s
      have hrd1 := Se.read_fst s
      rw [Se.read_snd s] at RD
      obtain ⟨y, hy⟩ : ∃ y, y = (Se.read s).1 := ⟨_, rfl⟩
      rw [← hy] at RD hyt hrd1
      obtain ⟨cy, hcy⟩ : ∃ c, c = y.cells := ⟨_, rfl⟩
      rw [← hcy] at RD
      have hcyl : cy.length = 36 := by rw [hcy]; exact Se.cells_length _ hyt
      have hcys : cy.toArray.size = 36 := by rw [List.size_toArray, hcyl]
      have hcyo : cy.toArray.all (·.oneCell') = true := by rw [hcy]; exact Se.cells_one _
      have HCY := Lib.hid hcy
      have HRD1 := Lib.hid hrd1
      clear hy hcy hrd1
      go_wp2_with fail
      refine (RD.out _).mono ?_
      rintro e w3 ⟨rfl, k3⟩
      have R3 := Lib.hid ((k3.block N (by omega)).trans R2.out)
      have B3 := Lib.hid (B2.out.trans (k3.mono (by omega)))
      have s3 := k3.size
      have p4 := heap_alloc_new w3 (.cells cy.toArray 28)
      have r4 : (w3.alloc (.cells cy.toArray 28)).heap[N]? = some (.cells cs.toArray 28 (0, 0)) := by rw [Below.heap_alloc _ _ _ (by omega)]; exact R3.out
      have b4 : Below N w (w3.alloc (.cells cy.toArray 28)) := B3.out.alloc (by omega) _
      have s4 : (w3.alloc (.cells cy.toArray 28)).heap.size = w3.heap.size + 1 := by simp
      have hst : (storeCells ⟨w3.heap.size, 0, none⟩ cy).run Tryd.prog (w3.alloc (.cells z0 28)) = .ok () (w3.alloc (.cells cy.toArray 28)) :=
        run_storeCells_new (P := Tryd.prog) w3 28 z0 _ (Se.infoEnv hcys) (by rw [hcys]; exact hzs) hcyo
      clear k3 R2 B2 c3
      go_upto_region 6 with (fail)
      generalize w3.alloc (.cells cy.toArray 28) = w4 at *
      obtain ⟨M, hM⟩ : ∃ M, M = w3.heap.size := ⟨_, rfl⟩
      rw [← hM] at p4 s4 ⊢
      have hNM : N < M := by omega
      have P4 := Lib.hid p4
      have R4 := Lib.hid r4
      have B4 := Lib.hid b4
      clear hst p4 r4 b4 hM hz1 R3 B3 s3
      go_upto_if 30 with (fail)
      go_cut [5, 6] from 24 to 61 (fun s5 _ wx => s5 = .pointer (some ⟨M, 0, none⟩) ∧ wx.heap[N]? = some (.cells cs.toArray 28 (0, 0)) ∧ Below N w wx ∧ N < wx.heap.size)
      case first =>
        by_cases hf : Se.fault s = 0
        · have hyg : y = Se.got s := by rw [HRD1.out, if_pos hf]
          have hyb : Se.spelled y = (s.data.toList, 0) := by
            unfold Se.spelled
            rw [hyg, if_pos (Se.got_right s), Se.got_bytes hf]
          have YB : Hid (∀ wx : World, Calls Tryd.prog 12 #[.agg cy.toArray] wx fun e w' => e = .returned (.tuple #[.string s, .int .i64 0]) ∧ Below wx.heap.size wx w') := fun wx => by
            have h := bytes5_any wx y (by rw [hyg]; exact Se.got_ok s)
            rw [hyb] at h
            rw [HCY.out]
            have h2 := h.mono (fun e w' ⟨h1, h2⟩ => (⟨by rw [h1, Se.bytes_array]; rfl, h2⟩ : e = Ending.returned (.tuple #[.string s, .int .i64 0]) ∧ Below wx.heap.size wx w'))
            exact h2
          have hyr : y.Right := by rw [hyg]; exact Se.got_right s
          obtain ⟨⟨hk0, hk1⟩, hyd⟩ := hyr
          have hydi : (y.data.size : Int) ≤ 8192 := by omega
          have YC : Hid (∀ wx : World, wx.heap[M]? = some (.cells cy.toArray 28 (0, 0)) → wx.cell? ⟨M, 0, none⟩ = some (.int .i64 y.key) ∧ wx.cell? ⟨M, 3, none⟩ = some (.string y.data)) := fun wx h => by
            rw [HCY.out] at h
            exact ⟨(Se.EnvAt.cell h).1, (Se.EnvAt.cell h).2.2.2⟩
          rw [hf]
          clear hyg hyb hf
          go_wp2_with (with_reducible refine wpList_load_row rfl 28 (.tmp 5) rfl M rfl 28 cy.toArray (0, 0) _ (by exact P4.out) Tryd.underlying28 rfl (Se.infoEnv hcys) ?_)
          refine (YB.out _).mono ?_
          rintro e w5 ⟨rfl, k5⟩
          obtain ⟨d0, d3⟩ := YC.out _ ((k5.block M (by omega)).trans P4.out)
          go_wp2_with fail
          go_meet
          exact ⟨rfl, (k5.block N (by omega)).trans R4.out, B4.out.trans (k5.mono (by omega)), Nat.lt_of_lt_of_le (by omega) k5.size⟩
        · have hyg : y = Se.zero := by rw [HRD1.out, if_neg hf]
          have hzc : cy.toArray = z0 := by rw [HCY.out, HZ.out, hyg]
          have hfb : ((Se.fault s : Int) == 0) = false := by rw [beq_eq_false_iff_ne]; omega
          rw [hfb]
          have P4z : Hid (w4.heap[M]? = some (.cells z0 28 (0, 0))) := by
            show _ = _
            rw [← hzc]; exact P4.out
          clear hyg hzc hfb hf
          go_wp2_with (first | (with_reducible refine wpList_load_row rfl 28 (.tmp 5) rfl M rfl 28 z0 (0, 0) _ (by exact P4z.out) Tryd.underlying28 rfl (Se.infoEnv hzs) ?_) | (with_reducible refine wpList_build_eq rfl 28 #[] rfl z0 (by rw [HZ.out]; kernel_rfl) ?_) | (refine Se.wpList_neq_env 28 (.tmp 59) (.tmp 60) rfl Se.zero Se.zero (by show Value.agg z0 = _; rw [HZ.out]) (by show Value.agg z0 = _; rw [HZ.out]) (by rfl) (by rfl) ?_ (by rfl); rw [Se.eqb_self]))
          go_meet
          exact ⟨rfl, R4.out, B4.out, by omega⟩
      case rest =>
        obtain ⟨rfl, r5, b5, s5⟩ := hcut
        have R5 := Lib.hid r5
        have B5 := Lib.hid b5
        clear P4 R4 B4 r5 b5 s4 RD HRD1 HCY hyt hcyl hcys hcyo s2
        generalize wc = w5 at *
        by_cases hr : x.Right
        · have hsp : Se.spelled x = (Se.bytes x, 0) := by unfold Se.spelled; rw [if_pos hr]
          rw [hsp] at XB
          have hbl : (Se.bytes x).length ≤ 9000 := by
            have h1 := enc_len (n := x.key.toNat) (by have := ok.key; omega)
            have h2 := enc_len (n := x.boot) (by have := ok.boot; omega)
            have h3 := enc_len (n := x.n) (by have := ok.n; omega)
            have hdl : x.data.data.toList.length = x.data.size := by rw [Array.length_toList]; rfl
            have h4 := enc_len (n := x.data.data.toList.length) (by omega)
            have h5 := hr.2
            have h6 := ok.tag
            simp only [Se.bytes, Se.head, Se.txt, List.length_append]
            omega
          have RX : Hid (∀ wx : World, Calls Tryd.prog 13 #[.string ⟨(Se.bytes x).toArray⟩] wx fun e w' => e = .returned (.tuple #[.agg cs.toArray, .int .i64 0]) ∧ Below wx.heap.size wx w') := fun wx => by
            have h := read5_any wx ⟨(Se.bytes x).toArray⟩ (by show (Se.bytes x).toArray.size ≤ _; rw [List.size_toArray]; omega)
            rw [Se.read_bytes ok hr] at h
            rw [HCS.out]
            exact h
          have hcso : cs.toArray.all (·.oneCell') = true := by rw [HCS.out]; exact Se.cells_one _
          have hz1 := (zero_of_info Se.zeroEnv).1
          rw [← HZ.out] at hz1
          clear hsp hbl hr
          generalize (Se.bytes x).toArray = bx at *
          go_wp2_with (with_reducible refine wpList_load_row rfl 28 (.tmp 2) rfl N rfl 28 cs.toArray (0, 0) _ (by exact R5.out) Tryd.underlying28 rfl (Se.infoEnv hcss) ?_)
          refine (XB.out _).mono ?_
          rintro e w6 ⟨rfl, k6⟩
          have R6 := Lib.hid ((k6.block N (by omega)).trans R5.out)
          have B6 := Lib.hid (B5.out.trans (k6.mono (by omega)))
          have s6 := k6.size
          clear k6 R5 B5 XB
          go_wp2_with fail
          refine (RX.out _).mono ?_
          rintro e w7 ⟨rfl, k7⟩
          have R7 := Lib.hid ((k7.block N (by omega)).trans R6.out)
          have B7 := Lib.hid (B6.out.trans (k7.mono (by omega)))
          have s7 := k7.size
          have p8 := heap_alloc_new w7 (.cells cs.toArray 28)
          have r8 : (w7.alloc (.cells cs.toArray 28)).heap[N]? = some (.cells cs.toArray 28 (0, 0)) := by rw [Below.heap_alloc _ _ _ (by omega)]; exact R7.out
          have b8 : Below N w (w7.alloc (.cells cs.toArray 28)) := B7.out.alloc (by omega) _
          have hst : (storeCells ⟨w7.heap.size, 0, none⟩ cs).run Tryd.prog (w7.alloc (.cells z0 28)) = .ok () (w7.alloc (.cells cs.toArray 28)) :=
            run_storeCells_new (P := Tryd.prog) w7 28 z0 _ (Se.infoEnv hcss) (by rw [hcss]; exact hzs) hcso
          clear k7 R6 B6 RX
          go_upto_region 16 with (fail)
          generalize w7.alloc (.cells cs.toArray 28) = w8 at *
          obtain ⟨M2, hM2⟩ : ∃ M, M = w7.heap.size := ⟨_, rfl⟩
          rw [← hM2] at p8 ⊢
          have P8 := Lib.hid p8
          have R8 := Lib.hid r8
          have B8 := Lib.hid b8
          clear hst p8 r8 b8 hM2 hz1
          go_wp2_with (first | (with_reducible refine Sm.wpList_load_row_g 28 (.tmp 11) rfl M2 rfl 28 cs.toArray (0, 0) _ (by exact P8.out) Tryd.underlying28 rfl (Se.infoEnv hcss) ?_ (by with_unfolding_all rfl)) | (with_reducible refine Sm.wpList_load_row_g 28 (.tmp 2) rfl N rfl 28 cs.toArray (0, 0) _ (by exact R8.out) Tryd.underlying28 rfl (Se.infoEnv hcss) ?_ (by with_unfolding_all rfl)) | (refine Se.wpList_eql_env 28 (.tmp 99) (.tmp 100) rfl x x (by show Value.agg cs.toArray = _; rw [HCS.out]) (by show Value.agg cs.toArray = _; rw [HCS.out]) ok.tag ok.tag ?_ (by rfl); rw [Se.eqb_self]))
          go_ret
          exact ⟨rfl, B8.out⟩
        · have hsp : Se.spelled x = ([], 1) := by unfold Se.spelled; rw [if_neg hr]
          rw [hsp] at XB
          clear hsp
          by_cases hk0 : x.key < 0
          · clear hr
            go_wp2_with (with_reducible refine wpList_load_row rfl 28 (.tmp 2) rfl N rfl 28 cs.toArray (0, 0) _ (by exact R5.out) Tryd.underlying28 rfl (Se.infoEnv hcss) ?_)
            refine (XB.out _).mono ?_
            rintro e w6 ⟨rfl, k6⟩
            obtain ⟨c0, c3⟩ := CELL.out _ ((k6.block N (by omega)).trans R5.out)
            have B6 := Lib.hid (B5.out.trans (k6.mono (by omega)))
            clear k6 R5 B5 XB
            go_wp2_with fail
            go_ret
            exact ⟨rfl, B6.out⟩
          · by_cases hk1 : 1048576 < x.key
            · clear hr
              go_wp2_with (with_reducible refine wpList_load_row rfl 28 (.tmp 2) rfl N rfl 28 cs.toArray (0, 0) _ (by exact R5.out) Tryd.underlying28 rfl (Se.infoEnv hcss) ?_)
              refine (XB.out _).mono ?_
              rintro e w6 ⟨rfl, k6⟩
              obtain ⟨c0, c3⟩ := CELL.out _ ((k6.block N (by omega)).trans R5.out)
              have B6 := Lib.hid (B5.out.trans (k6.mono (by omega)))
              clear k6 R5 B5 XB
              go_wp2_with fail
              go_ret
              exact ⟨rfl, B6.out⟩
            · have hd8 : (8192 : Int) < x.data.size := by
                have h : ¬ x.data.size ≤ 8192 := fun h => hr ⟨⟨by omega, by omega⟩, h⟩
                omega
              clear hr
              go_wp2_with (with_reducible refine wpList_load_row rfl 28 (.tmp 2) rfl N rfl 28 cs.toArray (0, 0) _ (by exact R5.out) Tryd.underlying28 rfl (Se.infoEnv hcss) ?_)
              refine (XB.out _).mono ?_
              rintro e w6 ⟨rfl, k6⟩
              obtain ⟨c0, c3⟩ := CELL.out _ ((k6.block N (by omega)).trans R5.out)
              have B6 := Lib.hid (B5.out.trans (k6.mono (by omega)))
              clear k6 R5 B5 XB
              go_wp2_with fail
              go_ret
              exact ⟨rfl, B6.out⟩
    · have hbi : ¬ (s.size : Int) ≤ 20000 := by omega
      clear hz1
      go_enter Tryd.func8, Tryd.ntmps8
      go_upto_region 1 with (fail)
      rw [← HN.out]
      generalize w.alloc (.cells cs.toArray 28) = W1 at *
      go_wp2_with fail
      refine (AW.out _ (HH.out.low B1.out (by have := HN.out; omega)) (HK.out.low B1.out hN1) (by omega)).mono ?_
      rintro e w2 ⟨rfl, k2⟩
      obtain ⟨-, c3⟩ := CELL.out _ ((k2.block N (by omega)).trans R1.out)
      have B2 := Lib.hid (B1.out.trans (k2.mono (by omega)))
      clear k2 R1 B1 AW
      go_wp2_with fail
      go_ret
      exact ⟨rfl, B2.out⟩
  · have hdi : ¬ (x.data.size : Int) ≤ 20000 := by omega
    clear hz1
    go_enter Tryd.func8, Tryd.ntmps8
    go_upto_region 1 with (fail)
    rw [← HN.out]
    generalize w.alloc (.cells cs.toArray 28) = W1 at *
    go_wp2_with fail
    refine (AW.out _ (HH.out.low B1.out (by have := HN.out; omega)) (HK.out.low B1.out hN1) (by omega)).mono ?_
    rintro e w2 ⟨rfl, k2⟩
    obtain ⟨-, c3⟩ := CELL.out _ ((k2.block N (by omega)).trans R1.out)
    have B2 := Lib.hid (B1.out.trans (k2.mono (by omega)))
    clear k2 R1 B1 AW
    go_wp2_with fail
    go_ret
    exact ⟨rfl, B2.out⟩
end Go.Proofs.YtdgocahdbgekjaaDoor
