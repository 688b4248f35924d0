/-
  What a statement's sector is: some text, whatever is given.
-/
import Derived.Test.YtnmagfodjcookaaGreatG10Acts
import Derived.Test.YtnmagfodjcookaaGreatR10Sectors
import Derived.Test.YtnmagfodjcookaaGreatDkRLook
import Derived.Lib.BufferWrite
import Derived.StillTailTactics
namespace Go.Proofs.YtnmagfodjcookaaGreat
open Go.RowKit
namespace G10
theorem bytes_drop (L : List UInt8) (n : Nat) : (Lib.byteCells L).drop n = Lib.byteCells (L.drop n) := by
  unfold Lib.byteCells; rw [List.map_drop]
theorem zero64 : (Tryz.prog.info? 82).map (fun i => (i.zero, i.size)) = some (some (.agg (Lib.byteCells (List.replicate 64 0)).toArray), 64) := by kernel_rfl
set_option maxRecDepth 100000 in
theorem copy60 {w : World} {N : Nat} (L : List UInt8) (hL : L.length = 64) (s : ByteArray) (h : w.heap[N]? = some (.cells (Lib.byteCells L).toArray 82 (0, 0))) :
    ∃ (n : Int) (L' : List UInt8), L'.length = 64 ∧ (Builtin.copy_ #[65, 9] 3 #[.slice (some ⟨N, 0, none⟩) 60 64, .string s]).run Tryz.prog w = .ok (.int .i64 n) (w.setRow N (Lib.byteCells L').toArray) := by
  have hz : (Lib.byteCells L).toArray.size = 64 := by simp [Lib.byteCells_length, hL]
  have hzl : (Lib.byteCells L).toArray.toList = Lib.byteCells L := by simp
  by_cases hle : s.size ≤ 60
  · have r := Lib.run_copy_row_string (P := Tryz.prog) w 65 9 3 5 N 0 60 64 s _ 82 Tryz.underlying65 Dk.info_u8s h hle (by rw [hz]; omega)
    refine ⟨s.size, s.data.toList ++ L.drop s.size, by simp [hL]; omega, ?_⟩
    rw [r, List.take_zero, List.nil_append, hzl, Nat.zero_add, Lib.byteCells_append, bytes_drop]
    rfl
  · have hlen : (Lib.byteCells (s.data.toList.take 60)).length = 60 := by rw [Lib.byteCells_length, List.length_take]; simp; omega
    have hst := run_storeCells_at Tryz.prog N 0 82 (Lib.byteCells (s.data.toList.take 60)) 0 _ w h (by rw [hlen, hz]; omega) (Lib.byteCells_one _)
    have hmin : Nat.min s.size 60 = 60 := Nat.min_eq_right (by omega)
    have htk : List.take 60 (List.map (fun b : UInt8 => Value.int IntKind.u8 (b.toNat : Int)) s.data.toList) = Lib.byteCells (s.data.toList.take 60) := by
      rw [← List.map_take]; rfl
    refine ⟨60, s.data.toList.take 60 ++ L.drop 60, by simp [hL]; omega, ?_⟩
    rw [hlen] at hst
    simp only [Nat.add_zero] at hst
    have hu := Tryz.underlying65
    have hs := Dk.info_u8s
    cases hq : Tryz.prog.info? 5 with
    | none => simp [hq] at hs
    | some i =>
      simp [Builtin.copy_, run_underlying hu, Builtin.lenOf, Builtin.firstCells, sizeOf, typeInfo, hq, hmin]
      rw [htk, hst]
      simp [Result.andThen]
      refine ⟨rfl, ?_⟩
      rw [Lib.byteCells_append, bytes_drop]
set_option maxRecDepth 100000 in
theorem copy64 {w : World} {N : Nat} (L : List UInt8) (hL : L.length = 64) (s : ByteArray) (h : w.heap[N]? = some (.cells (Lib.byteCells L).toArray 82 (0, 0))) :
    ∃ (n : Int) (L' : List UInt8), L'.length = 64 ∧ (Builtin.copy_ #[65, 9] 3 #[.slice (some ⟨N, 0, none⟩) 64 64, .string s]).run Tryz.prog w = .ok (.int .i64 n) (w.setRow N (Lib.byteCells L').toArray) := by
  have hz : (Lib.byteCells L).toArray.size = 64 := by simp [Lib.byteCells_length, hL]
  have hzl : (Lib.byteCells L).toArray.toList = Lib.byteCells L := by simp
  by_cases hle : s.size ≤ 64
  · have r := Lib.run_copy_row_string (P := Tryz.prog) w 65 9 3 5 N 0 64 64 s _ 82 Tryz.underlying65 Dk.info_u8s h hle (by rw [hz]; omega)
    refine ⟨s.size, s.data.toList ++ L.drop s.size, by simp [hL]; omega, ?_⟩
    rw [r, List.take_zero, List.nil_append, hzl, Nat.zero_add, Lib.byteCells_append, bytes_drop]
    rfl
  · have hlen : (Lib.byteCells (s.data.toList.take 64)).length = 64 := by rw [Lib.byteCells_length, List.length_take]; simp; omega
    have hst := run_storeCells_at Tryz.prog N 0 82 (Lib.byteCells (s.data.toList.take 64)) 0 _ w h (by rw [hlen, hz]; omega) (Lib.byteCells_one _)
    have hmin : Nat.min s.size 64 = 64 := Nat.min_eq_right (by omega)
    have htk : List.take 64 (List.map (fun b : UInt8 => Value.int IntKind.u8 (b.toNat : Int)) s.data.toList) = Lib.byteCells (s.data.toList.take 64) := by
      rw [← List.map_take]; rfl
    refine ⟨64, s.data.toList.take 64 ++ L.drop 64, by simp [hL]; omega, ?_⟩
    rw [hlen] at hst
    simp only [Nat.add_zero] at hst
    have hu := Tryz.underlying65
    have hs := Dk.info_u8s
    cases hq : Tryz.prog.info? 5 with
    | none => simp [hq] at hs
    | some i =>
      simp [Builtin.copy_, run_underlying hu, Builtin.lenOf, Builtin.firstCells, sizeOf, typeInfo, hq, hmin]
      rw [htk, hst]
      simp [Result.andThen]
      refine ⟨rfl, ?_⟩
      rw [Lib.byteCells_append, bytes_drop]
theorem conv_part {w : World} {N n : Nat} {l : List UInt8} {t : TypeId} (h : w.heap[N]? = some (.cells (Lib.byteCells l).toArray t (0, 0))) (hn : n ≤ l.length) :
    (convert 65 9 (.slice (some ⟨N, 0, none⟩) n l.length)).run Tryz.prog w = .ok (.string ⟨(l.take n).toArray⟩) w := by
  have e := run_convert_bytes_back (P := Tryz.prog) w 65 9 5 ⟨N, 0, none⟩ l.length (l.take n) Tryz.underlying65 Tryz.underlying5 Tryz.underlying9 (fun j hj => by
    have hj2 : j < l.length := by rw [List.length_take] at hj; omega
    have := Sm.row_cell h j hj2
    rw [List.getD_eq_getElem?_getD, List.getElem?_eq_getElem hj2] at this
    rw [Addr.add_mid, Nat.zero_add, List.getElem_take]
    exact this)
  rw [List.length_take, Nat.min_eq_left hn] at e
  exact e
end G10
set_option maxRecDepth 100000 in
set_option maxHeartbeats 4000000 in
theorem sector10_any (w : World) (x : G10.Ac) (hok : x.Ok) (ht : x.t.size ≤ 2000) :
    Calls Tryz.prog 13 #[.agg #[.int .i64 x.d, .string x.t, .int .u64 x.g, .int .u64 x.u, .int .u64 x.v, .int .u8 x.p]] w fun e w' => ∃ s : ByteArray, e = .returned (.string s) ∧ Below w.heap.size w w' := by
  have hz1 := (zero_of_info G10.zero64).1
  obtain ⟨z0, hz0⟩ : ∃ z, z = (Lib.byteCells (List.replicate 64 0)).toArray := ⟨_, rfl⟩
  rw [← hz0] at hz1
  have HZ := Lib.hid hz0
  obtain ⟨g, hg⟩ : ∃ g : Nat, x.g = (g : Int) := ⟨x.g.toNat, by have := hok.g; omega⟩
  obtain ⟨u, hu⟩ : ∃ g : Nat, x.u = (g : Int) := ⟨x.u.toNat, by have := hok.u; omega⟩
  obtain ⟨v, hv⟩ : ∃ g : Nat, x.v = (g : Int) := ⟨x.v.toNat, by have := hok.v; omega⟩
  obtain ⟨p, hp⟩ : ∃ p : Nat, x.p = (p : Int) := ⟨x.p.toNat, by have := hok.p; omega⟩
  have hp255 : p ≤ 255 := by have := hok.p; omega
  rw [hg, hu, hv, hp]
  clear hz0 hg hu hv hp hok
  obtain ⟨w2, hw2⟩ : ∃ y, y = (w.alloc (.cells #[.int .i64 x.d, .string x.t, .int .u64 (g : Int), .int .u64 (u : Int), .int .u64 (v : Int), .int .u8 (p : Int)] 50)).alloc (.cells z0 82) := ⟨_, rfl⟩
  have b2 : Below w.heap.size w w2 := by rw [hw2]; exact ((Below.refl _ w).alloc (Nat.le_refl _) _).alloc (by simp) _
  have g1 : w2.heap[w.heap.size]? = some (.cells #[.int .i64 x.d, .string x.t, .int .u64 (g : Int), .int .u64 (u : Int), .int .u64 (v : Int), .int .u8 (p : Int)] 50 (0, 0)) := by rw [hw2, Below.heap_alloc _ _ _ (by simp)]; exact heap_alloc_new w _
  have g2 : w2.heap[w.heap.size + 1]? = some (.cells (Lib.byteCells (List.replicate 64 0)).toArray 82 (0, 0)) := by
    have := heap_alloc_new (w.alloc (.cells #[.int .i64 x.d, .string x.t, .int .u64 (g : Int), .int .u64 (u : Int), .int .u64 (v : Int), .int .u8 (p : Int)] 50)) (.cells z0 82)
    rw [World.size_alloc] at this
    rw [hw2, ← HZ.out]; exact this
  have HW2 := Lib.hid hw2
  obtain ⟨N, hN⟩ : ∃ N, N = w.heap.size := ⟨_, rfl⟩
  have HN := Lib.hid hN
  rw [← hN] at b2 g1 g2 ⊢
  have B2 := Lib.hid b2
  have G1 := Lib.hid g1
  have G2 := Lib.hid g2
  have d0 := Sm.cells_of g1 0 _ rfl
  have d1 := Sm.cells_of g1 1 _ rfl
  have d2 := Sm.cells_of g1 2 _ rfl
  have d3 := Sm.cells_of g1 3 _ rfl
  have d4 := Sm.cells_of g1 4 _ rfl
  have d5 := Sm.cells_of g1 5 _ rfl
  have ed1 : w2.drew.cell? ⟨N, 1, none⟩ = some (.string x.t) := d1
  clear hw2 hN b2 g1 g2
  by_cases e0 : x.d = 0
  · rw [e0] at d0
    obtain ⟨P, hP⟩ : ∃ P, P = Pt.parts 32 x.t.data.toList := ⟨_, rfl⟩
    have hP1 : 1 ≤ P := by rw [hP]; exact Pt.parts_pos 32 _
    have hP21 : P ≤ 63 := by rw [hP]; unfold Pt.parts; simp; omega
    have SEC : Hid (∀ wx : World, Calls Tryz.prog 34 #[.string x.t, .int .u64 (g : Int), .int .u64 (u : Int), .int .u64 (v : Int)] wx fun e w' => ∃ A c, e = .returned (.slice A P c) ∧ P ≤ c ∧ Kp.StrsAt w' A (Lg.closeds (Lg.nums g u v) x.t.data.toList) ∧ (∀ q o, A = some ⟨q, o, none⟩ → wx.heap.size ≤ q) ∧ Below wx.heap.size wx w') := fun wx => by rw [hP]; exact r10Sectors_any wx x.t g u v ht
    have CLL : Hid ((Lg.closeds (Lg.nums g u v) x.t.data.toList).length = P) := by show _ = _; rw [Lg.closeds_length, hP]
    obtain ⟨q, hq⟩ : ∃ q, q = p % P := ⟨_, rfl⟩
    have hqP : q < P := by rw [hq]; exact Nat.mod_lt _ (by omega)
    have m1 : IntKind.i64.wrap (p : Int) = (p : Int) := IntWalk.i64_in _ (by omega)
    have m2 : (p : Int).tmod (P : Int) = (q : Int) := by rw [Int.tmod_eq_emod_of_nonneg (by omega), hq]; omega
    have m3 : (q : Int) < (P : Int) := by omega
    have m4 : ((P : Int) == 0) = false := beq_eq_false_iff_ne.2 (by omega)
    have m5 : IntKind.i64.wrap (q : Int) = (q : Int) := IntWalk.i64_in _ (by omega)
    clear e0 hP hq
    go_enter Tryz.func13, Tryz.ntmps13
    go_upto_region 2 with (fail)
    rw [← HW2.out, ← HN.out]
    go_upto_region 5 with (go_at_call 34; refine (SEC.out _).mono ?_; rintro e w5 ⟨A, c, rfl, hPc, hst, -, k5⟩)
    obtain ⟨gb, go, rfl, hgs, hgc⟩ := hst
    have cq := hgc q (by rw [CLL.out]; exact hqP)
    have d3' : w5.cell? ⟨N, 5, none⟩ = some (.int .u8 (p : Int)) := (k5.cell (p := ⟨N, 5, none⟩) (Sm.lt_of G1.out)).trans d5
    have b5 := B2.out.trans (k5.mono (by rw [HN.out]; exact B2.out.size))
    have B5 := Lib.hid b5
    obtain ⟨sc, hsc⟩ : ∃ b : ByteArray, b = ⟨((Lg.closeds (Lg.nums g u v) x.t.data.toList).getD q []).toArray⟩ := ⟨_, rfl⟩
    rw [← hsc] at cq
    clear hgc d0 d1 d2 d3 d4 d5 k5 b5 hsc ed1
    go_wp2
    go_ret
    exact ⟨sc, rfl, B5.out⟩
  · obtain ⟨L0, hL0⟩ : ∃ L : List UInt8, L = List.replicate 64 0 := ⟨_, rfl⟩
    have hL64 : L0.length = 64 := by rw [hL0]; simp
    rw [← hL0] at G2 HZ
    have HL64 := Lib.hid hL64
    have G2d : w2.drew.heap[N + 1]? = some (.cells (Lib.byteCells L0).toArray 82 (0, 0)) := G2.out
    have B2d : Below N w w2.drew := ⟨B2.out.os, B2.out.tape, B2.out.output, B2.out.size, B2.out.block⟩
    clear hL0 hL64
    by_cases e1 : x.d = 1
    · rw [e1] at d0
      obtain ⟨nc, L1, hL1, hcp⟩ := G10.copy60 L0 HL64.out x.t G2d
      have g3 := setRow_heap w2.drew (N + 1) _ (Lib.byteCells L1).toArray _ _ G2d
      have b3 : Below N w (w2.drew.setRow (N + 1) (Lib.byteCells L1).toArray) := Sm.below_setRow B2d (Nat.le_succ N) _
      have HL1 := Lib.hid hL1
      have G3 := Lib.hid g3
      have B3 := Lib.hid b3
      clear e0 e1 hL1 g3 b3 G2d B2d
      go_enter Tryz.func13, Tryz.ntmps13
      go_upto_region 2 with (fail)
      rw [← HW2.out, ← HN.out]
      go_upto_region 7 with (fail)
      go_still_tail 3, (by kernel_rfl)
      repeat still_step
      try refine wpStill_nil ?_
      change wpList _ _ _ _ _ w2.drew
      go_upto_region 8 with (fail)
      generalize w2.drew.setRow (N + 1) (Lib.byteCells L1).toArray = w3 at *
      have hcv := G10.conv_part (n := 60) G3.out (by rw [HL1.out]; omega)
      rw [HL1.out] at hcv
      obtain ⟨s1, hs1⟩ : ∃ b : ByteArray, b = ⟨(L1.take 60).toArray⟩ := ⟨_, rfl⟩
      have hs1s : s1.size ≤ 281474976710656 := by rw [hs1]; simp [ByteArray.size]; omega
      rw [← hs1] at hcv
      have CLO := Lib.hid (r7Close_any w3 s1 hs1s)
      clear hs1 hs1s hcp
      go_wp2_with (go_at_call 35; refine CLO.out.mono ?_; rintro e w4 ⟨rfl, k4⟩)
      go_ret
      exact ⟨_, rfl, B3.out.trans (k4.mono (by rw [HN.out]; exact B3.out.size))⟩
    · by_cases e2 : x.d = 2
      · rw [e2] at d0
        obtain ⟨nc, L1, hL1, hcp⟩ := G10.copy64 L0 HL64.out x.t G2d
        have g3 := setRow_heap w2.drew (N + 1) _ (Lib.byteCells L1).toArray _ _ G2d
        have b3 : Below N w (w2.drew.setRow (N + 1) (Lib.byteCells L1).toArray) := Sm.below_setRow B2d (Nat.le_succ N) _
        have HL1 := Lib.hid hL1
        have G3 := Lib.hid g3
        have B3 := Lib.hid b3
        clear e0 e1 e2 hL1 g3 b3 G2d B2d
        go_enter Tryz.func13, Tryz.ntmps13
        go_upto_region 2 with (fail)
        rw [← HW2.out, ← HN.out]
        go_upto_region 10 with (fail)
        go_still_tail 3, (by kernel_rfl)
        repeat still_step
        try refine wpStill_nil ?_
        change wpList _ _ _ _ _ w2.drew
        go_upto_region 11 with (fail)
        generalize w2.drew.setRow (N + 1) (Lib.byteCells L1).toArray = w3 at *
        have hcv := G10.conv_part (n := 64) G3.out (by rw [HL1.out]; omega)
        rw [HL1.out] at hcv
        obtain ⟨s1, hs1⟩ : ∃ b : ByteArray, b = ⟨(L1.take 64).toArray⟩ := ⟨_, rfl⟩
        rw [← hs1] at hcv
        clear hs1 hcp
        go_wp2
        go_ret
        exact ⟨s1, rfl, B3.out⟩
      · have hcv := G10.conv_part (n := 64) G2.out (by rw [HL64.out]; omega)
        rw [HL64.out] at hcv
        obtain ⟨s1, hs1⟩ : ∃ b : ByteArray, b = ⟨(L0.take 64).toArray⟩ := ⟨_, rfl⟩
        rw [← hs1] at hcv
        clear hs1 G2d B2d
        go_enter Tryz.func13, Tryz.ntmps13
        go_upto_region 2 with (fail)
        rw [← HW2.out, ← HN.out]
        go_wp2
        go_ret
        exact ⟨s1, rfl, B2.out⟩
end Go.Proofs.YtnmagfodjcookaaGreat
