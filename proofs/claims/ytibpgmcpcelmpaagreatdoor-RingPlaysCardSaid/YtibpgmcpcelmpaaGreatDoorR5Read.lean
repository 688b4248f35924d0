/-
  The document's own Read of seal.
-/
import Derived.Test.YtibpgmcpcelmpaaGreatDoorR5RdMath
import Derived.Test.YtibpgmcpcelmpaaGreatDoorR5Fns
import Derived.Test.YtibpgmcpcelmpaaGreatDoorPkTell
namespace Go.Proofs.YtibpgmcpcelmpaaGreatDoor
open Go.RowKit Pk
namespace Se
theorem zeroIn : (Tryz.prog.info? 121).map (fun i => (i.zero, i.size)) = some (some (.agg #[.string ⟨#[]⟩, .int .i64 0, .int .i64 0]), 3) := by kernel_rfl
theorem rin_far {w w' : World} {b e : Nat} {r : Rd} (h : RStp w w' b r) (hne : e ≠ b) (hl : e < w.heap.size) : w'.heap[e]? = w.heap[e]? := h.grown.block e hl (fun q => hne (Option.some.inj q))
theorem rin_set {w : World} {b e : Nat} {r : Rd} (h : rinAt w b r) (hne : b ≠ e) (o : Nat) (v : Value) : rinAt (w.setCell ⟨e, o, none⟩ v) b r := (Below.heap_setCell w ⟨e, o, none⟩ v b hne).trans h
end Se

set_option maxRecDepth 100000 in
set_option maxHeartbeats 4000000 in
theorem r5Read_any (w : World) (s : ByteArray) (hs : s.size ≤ 281474976710656) :
    Calls Tryz.prog 26 #[.string s] w fun e w' => e = .returned (.tuple #[.agg (Se.read s).1.cells.toArray, .int .i64 (Se.read s).2]) ∧ Below w.heap.size w w' := by
  have hz1 := (zero_of_info Se.zeroEnv).1
  have hzs : Se.zero.cells.toArray.size = 36 := Se.cells_length _ (by rfl)
  have hzo := Se.cells_one Se.zero
  obtain ⟨z0, hz0⟩ : ∃ z, z = Se.zero.cells.toArray := ⟨_, rfl⟩
  rw [← hz0] at hz1 hzs hzo
  have hbz : Tryz.prog.built 66 [] = some z0 := by rw [hz0]; exact Se.builtZero
  have hzi := (zero_of_info Se.zeroIn).1
  obtain ⟨N, hN⟩ : ∃ N, N = w.heap.size := ⟨_, rfl⟩
  have ok0 : Rd.Ok ⟨s, 0, 0⟩ := ⟨Nat.zero_le _, Nat.zero_le _, hs⟩
  have ok1 : (Se.rd1 s).2.Ok := ok0.most _
  have ok2 : (Se.rd2 s).2.Ok := ok1.most _
  have ok3 : (Se.rd3 s).2.Ok := ok2.num
  have ok4 : (Se.rd4 s).2.Ok := ok3.text _
  have hs4 : (Se.rd4 s).2.s = s := Se.rd4_s s
  have m1 := Se.most_le ⟨s, 0, 0⟩ 1048576 (by decide)
  have m2 := Se.most_le (Se.rd1 s).2 4294967295 (by decide)
  have m4 := Se.text_le (Se.rd3 s).2 8192 (by decide)
  obtain ⟨W3, hW3⟩ : ∃ W, W = ((w.alloc (.cells z0 66)).alloc (.cells #[.string s, .int .i64 0, .int .i64 0] 121)).alloc (.cells z0 66) := ⟨_, rfl⟩
  have g0 : W3.heap[N]? = some (.cells z0 66 (0, 0)) := by
    rw [hW3, Below.heap_alloc _ _ _ (by simp; omega), Below.heap_alloc _ _ _ (by simp; omega), hN]; exact heap_alloc_new w _
  have g1 : rinAt W3 (N + 1) ⟨s, 0, 0⟩ := by
    show W3.heap[N + 1]? = _
    rw [hW3, Below.heap_alloc _ _ _ (by simp; omega), hN]
    simpa using heap_alloc_new (w.alloc (.cells z0 66)) (.cells #[.string s, .int .i64 0, .int .i64 0] 121)
  have g2 : W3.heap[N + 2]? = some (.cells Se.zero.cells.toArray 66 (0, 0)) := by
    rw [hW3, hN, ← hz0]
    simpa using heap_alloc_new ((w.alloc (.cells z0 66)).alloc (.cells #[.string s, .int .i64 0, .int .i64 0] 121)) (.cells z0 66)
  have b3 : Below N w W3 := by
    rw [hW3, hN]; exact (((Below.refl _ w).alloc (Nat.le_refl _) _).alloc (by simp) _).alloc (by simp; omega) _
  have s3 : W3.heap.size = N + 3 := by rw [hW3, hN]; simp
  have C1 : Hid (∀ wx : World, rinAt wx (N + 1) ⟨s, 0, 0⟩ → Calls Tryz.prog 58 #[.pointer (some ⟨N + 1, 0, none⟩), .int .i64 1048576] wx fun e w' => e = .returned (.int .i64 (Se.rd1 s).1) ∧ RStp wx w' (N + 1) (Se.rd1 s).2) := fun wx h => rmost_in h ok0 1048576 (by decide)
  have C2 : Hid (∀ wx : World, rinAt wx (N + 1) (Se.rd1 s).2 → Calls Tryz.prog 58 #[.pointer (some ⟨N + 1, 0, none⟩), .int .i64 4294967295] wx fun e w' => e = .returned (.int .i64 (Se.rd2 s).1) ∧ RStp wx w' (N + 1) (Se.rd2 s).2) := fun wx h => rmost_in h ok1 4294967295 (by decide)
  have C3 : Hid (∀ wx : World, rinAt wx (N + 1) (Se.rd2 s).2 → Calls Tryz.prog 59 #[.pointer (some ⟨N + 1, 0, none⟩)] wx fun e w' => e = .returned (.int .u64 (Se.rd3 s).1) ∧ RStp wx w' (N + 1) (Se.rd3 s).2) := fun wx h => rnum_in h ok2
  have C4 : Hid (∀ wx : World, rinAt wx (N + 1) (Se.rd3 s).2 → Calls Tryz.prog 60 #[.pointer (some ⟨N + 1, 0, none⟩), .int .i64 8192] wx fun e w' => e = .returned (.string ⟨(Se.rd4 s).1.toArray⟩) ∧ RStp wx w' (N + 1) (Se.rd4 s).2) := fun wx h => rtext_in h ok3 8192 (by decide)
  have RB := Lib.hid (Se.read_bad (b := s))
  have RS := Lib.hid (Se.read_short (b := s))
  have RL := Lib.hid (Se.read_long (b := s))
  have RR := Lib.hid (Se.read_right (b := s))
  have hrl := (Se.rd4 s).2.rest_length
  rw [hs4] at hrl
  have hpos := ok4.pos
  rw [hs4] at hpos
  have hf8 := ok4.f
  have hu32 : IntKind.u32.wrap ((Se.rd2 s).1 : Int) = (Se.rd2 s).1 := by
    have e : (Se.rd2 s).1 = ((Se.rd1 s).2.most 4294967295).1 := rfl
    rw [IntKind.wrap_u32]; omega
  obtain ⟨v1, hv1⟩ : ∃ v, v = (Se.rd1 s).1 := ⟨_, rfl⟩
  obtain ⟨v2, hv2⟩ : ∃ v, v = (Se.rd2 s).1 := ⟨_, rfl⟩
  obtain ⟨v3, hv3⟩ : ∃ v, v = (Se.rd3 s).1 := ⟨_, rfl⟩
  obtain ⟨v4, hv4⟩ : ∃ v : ByteArray, v = ⟨(Se.rd4 s).1.toArray⟩ := ⟨_, rfl⟩
  obtain ⟨ps, hps⟩ : ∃ p, p = (Se.rd4 s).2.pos := ⟨_, rfl⟩
  obtain ⟨fs, hfs⟩ : ∃ p, p = (Se.rd4 s).2.f := ⟨_, rfl⟩
  obtain ⟨rl, hrr⟩ : ∃ l, l = (Se.rd4 s).2.rest := ⟨_, rfl⟩
  rw [← hv1] at C1 RR
  rw [← hv2] at C2 RR hu32
  rw [← hv3] at C3 RR
  rw [← hv4] at C4 RR
  rw [← hfs] at RB RS RL RR hf8
  rw [← hrr] at RS RL RR hrl
  rw [← hps] at hrl hpos
  have IN4 : Hid (∀ wx : World, rinAt wx (N + 1) (Se.rd4 s).2 → wx.cell? ⟨N + 1, 1, none⟩ = some (.int .i64 (ps : Int)) ∧ wx.cell? ⟨N + 1, 2, none⟩ = some (.int .i64 (fs : Int))) := fun wx h => by
    obtain ⟨-, h1, h2⟩ := h.cell
    rw [hps, hfs]; exact ⟨h1, h2⟩
  have IDX : Hid (∀ (j : Nat) (hj : ps + j < s.size), s[ps + j] = rl.getD j 0) := fun j hj => by
    have h1 : rl = s.data.toList.drop ps := by rw [hrr, hps, Rd.rest, hs4]
    rw [h1, List.getD_eq_getElem?_getD, List.getElem?_drop]
    rw [List.getElem?_eq_getElem (by rw [Array.length_toList]; exact hj)]
    rfl
  rw [← hN]
  have HN := Lib.hid hN
  have HW := Lib.hid hW3
  have HZ0 := Lib.hid hz0
  have G0 := Lib.hid g0
  have G1 := Lib.hid g1
  have G2 := Lib.hid g2
  have B3 := Lib.hid b3
  obtain ⟨r4, hr4⟩ : ∃ r, r = (Se.rd4 s).2 := ⟨_, rfl⟩
  rw [← hr4] at C4 IN4
  clear hz0 hN hW3 g0 g1 g2 b3 ok0 ok1 ok2 ok3 ok4 hs4 m1 m2 m4 hv1 hv2 hv3 hv4 hps hfs hrr hr4
  go_enter Tryz.func26, Tryz.ntmps26
  go_upto_region 3 with (fail)
  rw [← HW.out, ← HN.out]
  clear HW hz1 hzi
  go_wp2_with fail
  refine (C1.out _ G1.out).mono ?_
  rintro e u1 ⟨rfl, p1⟩
  have I1 := Lib.hid p1.inAt
  have Z1 := Lib.hid ((p1.grown.block N (by omega) (fun q => by have := Option.some.inj q; omega)).trans G0.out)
  have X1 := Lib.hid ((p1.grown.block (N + 2) (by omega) (fun q => by have := Option.some.inj q; omega)).trans G2.out)
  have B1a := Lib.hid (B3.out.trans (Sm.grown_from p1.grown (show N ≤ N + 1 by omega) (by omega)))
  have s1a : N + 3 ≤ u1.heap.size := Nat.le_trans (by omega) p1.grown.size
  have c1 : u1.cell? ⟨N + 2, 0, none⟩ = some (.int .i64 0) := Sm.cells_of X1.out 0 _ rfl
  have f1 := Sm.free_of X1.out 0
  have x1 : (u1.setCell ⟨N + 2, 0, none⟩ (.int .i64 (v1 : Int))).heap[N + 2]? = some (.cells (⟨(v1 : Int), 0, 0, ⟨#[]⟩, List.replicate 32 0⟩ : Se.Env).cells.toArray 66 (0, 0)) := by
    rw [Sm.heap_set X1.out 0 _]; rfl
  have X1 := Lib.hid x1
  have z1 : (u1.setCell ⟨N + 2, 0, none⟩ (.int .i64 (v1 : Int))).heap[N]? = some (.cells z0 66 (0, 0)) := by
    rw [Below.heap_setCell _ _ _ _ (by show N ≠ N + 2; omega)]; exact Z1.out
  have Z1 := Lib.hid z1
  have I1 := Lib.hid (Se.rin_set I1.out (show N + 1 ≠ N + 2 by omega) 0 (.int .i64 (v1 : Int)))
  have B1 := Lib.hid (B1a.out.setCell (p := ⟨N + 2, 0, none⟩) (by show N ≤ N + 2; omega) (.int .i64 (v1 : Int)))
  have s1 : N + 3 ≤ (u1.setCell ⟨N + 2, 0, none⟩ (.int .i64 (v1 : Int))).heap.size := by simp; omega
  clear p1 x1 z1 B1a C1 G1 G0 G2 B3
  go_upto_region 4 with (fail)
  clear c1 f1 s1a
  generalize u1.setCell ⟨N + 2, 0, none⟩ (.int .i64 (v1 : Int)) = w1 at *
  go_wp2_with fail
  refine (C2.out _ I1.out).mono ?_
  rintro e u2 ⟨rfl, p2⟩
  have I2 := Lib.hid p2.inAt
  have Z2 := Lib.hid ((p2.grown.block N (by omega) (fun q => by have := Option.some.inj q; omega)).trans Z1.out)
  have X2 := Lib.hid ((p2.grown.block (N + 2) (by omega) (fun q => by have := Option.some.inj q; omega)).trans X1.out)
  have B2a := Lib.hid (B1.out.trans (Sm.grown_from p2.grown (show N ≤ N + 1 by omega) (by omega)))
  have s2a : N + 3 ≤ u2.heap.size := Nat.le_trans (by omega) p2.grown.size
  have c2 : u2.cell? ⟨N + 2, 1, none⟩ = some (.int .u32 0) := Sm.cells_of X2.out 1 _ rfl
  have f2 := Sm.free_of X2.out 1
  have x2 : (u2.setCell ⟨N + 2, 1, none⟩ (.int .u32 (v2 : Int))).heap[N + 2]? = some (.cells (⟨(v1 : Int), v2, 0, ⟨#[]⟩, List.replicate 32 0⟩ : Se.Env).cells.toArray 66 (0, 0)) := by
    rw [Sm.heap_set X2.out 1 _]; rfl
  have X2 := Lib.hid x2
  have z2 : (u2.setCell ⟨N + 2, 1, none⟩ (.int .u32 (v2 : Int))).heap[N]? = some (.cells z0 66 (0, 0)) := by
    rw [Below.heap_setCell _ _ _ _ (by show N ≠ N + 2; omega)]; exact Z2.out
  have Z2 := Lib.hid z2
  have I2 := Lib.hid (Se.rin_set I2.out (show N + 1 ≠ N + 2 by omega) 1 (.int .u32 (v2 : Int)))
  have B2 := Lib.hid (B2a.out.setCell (p := ⟨N + 2, 1, none⟩) (by show N ≤ N + 2; omega) (.int .u32 (v2 : Int)))
  have s2 : N + 3 ≤ (u2.setCell ⟨N + 2, 1, none⟩ (.int .u32 (v2 : Int))).heap.size := by simp; omega
  clear p2 x2 z2 B2a C2 I1 Z1 X1 B1
  go_upto_region 5 with (fail)
  clear c2 f2 s2a
  generalize u2.setCell ⟨N + 2, 1, none⟩ (.int .u32 (v2 : Int)) = w2 at *
  go_wp2_with fail
  refine (C3.out _ I2.out).mono ?_
  rintro e u3 ⟨rfl, p3⟩
  have I3 := Lib.hid p3.inAt
  have Z3 := Lib.hid ((p3.grown.block N (by omega) (fun q => by have := Option.some.inj q; omega)).trans Z2.out)
  have X3 := Lib.hid ((p3.grown.block (N + 2) (by omega) (fun q => by have := Option.some.inj q; omega)).trans X2.out)
  have B3a := Lib.hid (B2.out.trans (Sm.grown_from p3.grown (show N ≤ N + 1 by omega) (by omega)))
  have s3a : N + 3 ≤ u3.heap.size := Nat.le_trans (by omega) p3.grown.size
  have c3 : u3.cell? ⟨N + 2, 2, none⟩ = some (.int .u64 0) := Sm.cells_of X3.out 2 _ rfl
  have f3 := Sm.free_of X3.out 2
  have x3 : (u3.setCell ⟨N + 2, 2, none⟩ (.int .u64 (v3 : Int))).heap[N + 2]? = some (.cells (⟨(v1 : Int), v2, v3, ⟨#[]⟩, List.replicate 32 0⟩ : Se.Env).cells.toArray 66 (0, 0)) := by
    rw [Sm.heap_set X3.out 2 _]; rfl
  have X3 := Lib.hid x3
  have z3 : (u3.setCell ⟨N + 2, 2, none⟩ (.int .u64 (v3 : Int))).heap[N]? = some (.cells z0 66 (0, 0)) := by
    rw [Below.heap_setCell _ _ _ _ (by show N ≠ N + 2; omega)]; exact Z3.out
  have Z3 := Lib.hid z3
  have I3 := Lib.hid (Se.rin_set I3.out (show N + 1 ≠ N + 2 by omega) 2 (.int .u64 (v3 : Int)))
  have B3 := Lib.hid (B3a.out.setCell (p := ⟨N + 2, 2, none⟩) (by show N ≤ N + 2; omega) (.int .u64 (v3 : Int)))
  have s3 : N + 3 ≤ (u3.setCell ⟨N + 2, 2, none⟩ (.int .u64 (v3 : Int))).heap.size := by simp; omega
  clear p3 x3 z3 B3a C3 I2 Z2 X2 B2
  go_upto_region 6 with (fail)
  clear c3 f3 s3a
  generalize u3.setCell ⟨N + 2, 2, none⟩ (.int .u64 (v3 : Int)) = w3 at *
  go_wp2_with fail
  refine (C4.out _ I3.out).mono ?_
  rintro e u4 ⟨rfl, p4⟩
  have I4 := Lib.hid p4.inAt
  have Z4 := Lib.hid ((p4.grown.block N (by omega) (fun q => by have := Option.some.inj q; omega)).trans Z3.out)
  have X4 := Lib.hid ((p4.grown.block (N + 2) (by omega) (fun q => by have := Option.some.inj q; omega)).trans X3.out)
  have B4a := Lib.hid (B3.out.trans (Sm.grown_from p4.grown (show N ≤ N + 1 by omega) (by omega)))
  have s4a : N + 3 ≤ u4.heap.size := Nat.le_trans (by omega) p4.grown.size
  have c4 : u4.cell? ⟨N + 2, 3, none⟩ = some (.string ⟨#[]⟩) := Sm.cells_of X4.out 3 _ rfl
  have f4 := Sm.free_of X4.out 3
  have x4 : (u4.setCell ⟨N + 2, 3, none⟩ (.string v4)).heap[N + 2]? = some (.cells (⟨(v1 : Int), v2, v3, v4, List.replicate 32 0⟩ : Se.Env).cells.toArray 66 (0, 0)) := by
    rw [Sm.heap_set X4.out 3 _]; rfl
  have X4 := Lib.hid x4
  have z4 : (u4.setCell ⟨N + 2, 3, none⟩ (.string v4)).heap[N]? = some (.cells z0 66 (0, 0)) := by
    rw [Below.heap_setCell _ _ _ _ (by show N ≠ N + 2; omega)]; exact Z4.out
  have Z4 := Lib.hid z4
  have I4 := Lib.hid (Se.rin_set I4.out (show N + 1 ≠ N + 2 by omega) 3 (.string v4))
  have B4 := Lib.hid (B4a.out.setCell (p := ⟨N + 2, 3, none⟩) (by show N ≤ N + 2; omega) (.string v4))
  have s4 : N + 3 ≤ (u4.setCell ⟨N + 2, 3, none⟩ (.string v4)).heap.size := by simp; omega
  clear p4 x4 z4 B4a C4 I3 Z3 X3 B3
  go_upto_region 7 with (fail)
  clear c4 f4 s4a
  generalize u4.setCell ⟨N + 2, 3, none⟩ (.string v4) = w4 at *
  have i4 := (IN4.out _ I4.out).1
  have f4 := (IN4.out _ I4.out).2
  by_cases hbad : fs = 0
  · have q0 : ((fs : Int) != 0) = false := by rw [bne_eq_false_iff_eq]; omega
    have q1 : (fs : Int) = 0 := by omega
    by_cases hl : rl.length < 32
    · have q2 : IntKind.i64.wrap ((s.size : Int) - ps) = (s.size : Int) - ps := IntWalk.i64_in _ (by omega)
      have q3 : (s.size : Int) - ps < 32 := by omega
      go_wp2_with (first | (with_reducible refine wpList_build_eq rfl 66 #[] rfl z0 (by rw [HZ0.out]; kernel_rfl) ?_) | (with_reducible refine wpList_store_row rfl 66 (.tmp 2) (.tmp 41) rfl N z0 rfl rfl 66 _ (by exact Z4.out) (Se.infoEnv hzs) rfl hzo ?_))
      exact bodyPost_ret (v := .tuple #[.agg z0, .int .i64 7]) (Se.results_row_tmp rfl _ _ N 66 _ (0, 0) _ _ rfl (setRow_heap _ N _ _ _ _ Z4.out) Tryz.underlying66 rfl (Se.infoEnv hzs) rfl) rfl ⟨by (rw [RS.out hbad hl, HZ0.out]; try rfl), Sm.below_setRow B4.out (Nat.le_refl _) _⟩
    · by_cases hl2 : 32 < rl.length
      · have q2 : IntKind.i64.wrap ((s.size : Int) - ps) = (s.size : Int) - ps := IntWalk.i64_in _ (by omega)
        have q3 : ¬ (s.size : Int) - ps < 32 := by omega
        have q4 : 32 < (s.size : Int) - ps := by omega
        go_wp2_with (first | (with_reducible refine wpList_build_eq rfl 66 #[] rfl z0 (by rw [HZ0.out]; kernel_rfl) ?_) | (with_reducible refine wpList_store_row rfl 66 (.tmp 2) (.tmp 50) rfl N z0 rfl rfl 66 _ (by exact Z4.out) (Se.infoEnv hzs) rfl hzo ?_))
        exact bodyPost_ret (v := .tuple #[.agg z0, .int .i64 8]) (Se.results_row_tmp rfl _ _ N 66 _ (0, 0) _ _ rfl (setRow_heap _ N _ _ _ _ Z4.out) Tryz.underlying66 rfl (Se.infoEnv hzs) rfl) rfl ⟨by (rw [RL.out hbad hl2, HZ0.out]; try rfl), Sm.below_setRow B4.out (Nat.le_refl _) _⟩
      · have hl3 : rl.length = 32 := by omega
        have q2 : IntKind.i64.wrap ((s.size : Int) - ps) = (s.size : Int) - ps := IntWalk.i64_in _ (by omega)
        have q3 : ¬ (s.size : Int) - ps < 32 := by omega
        have q4 : ¬ 32 < (s.size : Int) - ps := by omega
        have hp32 : ps + 32 = s.size := by omega
        obtain ⟨e4, he4⟩ : ∃ e : Se.Env, e = ⟨(v1 : Int), v2, v3, v4, List.replicate 32 0⟩ := ⟨_, rfl⟩
        have X5 : Hid (w4.heap[N + 2]? = some (.cells (Se.held e4 (rl.take 0)).cells.toArray 66 (0, 0))) := by
          show _ = _
          rw [X4.out, he4]; rfl
        have HE4 := Lib.hid he4
        have Z5 := Lib.hid Z4.out
        clear he4 X4
        obtain ⟨en, hen⟩ : ∃ e : Se.Env, e = ⟨(v1 : Int), v2, v3, v4, rl⟩ := ⟨_, rfl⟩
        have hpe : Se.held e4 rl = en := by rw [Se.held_full _ _ hl3, HE4.out, hen]
        have htg : en.tag.length = 32 := by rw [hen]; exact hl3
        have HEN := Lib.hid hen
        clear hen
        go_wp2_with fail
        obtain ⟨wz, hwz⟩ : ∃ x, x = w4 := ⟨_, rfl⟩
        rw [← hwz] at X5 Z5 B4 I4 i4 ⊢
        clear hwz Z4 f4
        go_loopw [6] (fun i wr => ∃ j : Nat, j ≤ 32 ∧ i = .int .i64 j ∧ wr.heap[N + 2]? = some (.cells (Se.held e4 (rl.take j)).cells.toArray 66 (0, 0)) ∧ wr.heap[N]? = some (.cells z0 66 (0, 0)) ∧ rinAt wr (N + 1) r4 ∧ Below N w wr) (fun i _ => 32 - (intOf i).toNat)
        case atStart => exact ⟨0, by omega, rfl, X5.out, Z5.out, I4.out, B4.out⟩
        case round =>
          clear X5 Z5 I4 B4 i4
          obtain ⟨j, hj, rfl, hx, hz, hi, hbk⟩ := hrel
          have HX := Lib.hid hx
          have HZ := Lib.hid hz
          have HI := Lib.hid hi
          clear hx hz hi
          have i5 := (IN4.out _ HI.out).1
          by_cases hlt : j < 32
          · have p1 : (j : Int) < 32 := by omega
            have hjl : (rl.take j).length = j := by rw [List.length_take]; omega
            have hold := Sm.cells_of HX.out (4 + j) _ (Array.getElem?_eq_getElem (by rw [List.size_toArray, Se.cells_length _ (Se.held_length _ _ (by omega))]; omega))
            have fz := Sm.free_of HX.out (4 + j)
            have q5 : IntKind.i64.wrap ((ps : Int) + j) = (ps : Int) + j := IntWalk.i64_in _ (by omega)
            have q6 : 0 ≤ (ps : Int) + j := by omega
            have q7 : (ps : Int) + j < s.size := by omega
            have q8 : ((ps : Int) + j).toNat = ps + j := by omega
            have hsx : ∀ h : ps + j < s.size, s[ps + j]'h = rl.getD j 0 := fun h => IDX.out j h
            obtain ⟨c, hc⟩ : ∃ c, c = rl.getD j 0 := ⟨_, rfl⟩
            rw [← hc] at hsx
            have HC := Lib.hid hc
            clear hc
            go_wp2_with fail
            go_roundw
            case rel =>
              refine ⟨j + 1, by omega, by go_num, ?_, ?_, Se.rin_set HI.out (by omega) _ _, hbk.setCell (p := ⟨N + 2, 4 + j, none⟩) (by show N ≤ N + 2; omega) _⟩
              · have e1 : rl.take (j + 1) = rl.take j ++ [c] := by
                  rw [HC.out, List.take_succ_eq_append_getElem (by omega), List.getD_eq_getElem?_getD, List.getElem?_eq_getElem (by omega)]; rfl
                have e2 := Se.held_set e4 (rl.take j) c (by omega)
                rw [hjl] at e2
                rw [e1, ← e2]
                first | exact Sm.heap_set HX.out (4 + j) _ | (rw [← hsx (by omega)]; exact Sm.heap_set HX.out (4 + j) _)
              · rw [Below.heap_setCell _ _ _ _ (by show N ≠ N + 2; omega)]; exact HZ.out
            case measure => simp [intOf]; omega
          · obtain rfl : j = 32 := by omega
            have p1 : ¬ ((32 : Nat) : Int) < 32 := by omega
            have hx := HX.out
            rw [List.take_of_length_le (by omega), hpe] at hx
            have hes : en.cells.toArray.size = 36 := by rw [List.size_toArray, Se.cells_length _ htg]
            have heo : en.cells.toArray.all (·.oneCell') = true := Se.cells_one _
            obtain ⟨ce, hce⟩ : ∃ c, c = en.cells.toArray := ⟨_, rfl⟩
            rw [← hce] at hx hes heo
            have HCE := Lib.hid hce
            have HX2 := Lib.hid hx
            clear hx HX hce
            go_wp2_with (first | (with_reducible refine wpList_load_row rfl 66 (.tmp 5) rfl (N + 2) rfl 66 ce (0, 0) _ (by exact HX2.out) Tryz.underlying66 rfl (Se.infoEnv hes) ?_) | (with_reducible refine wpList_store_row rfl 66 (.tmp 2) (.tmp 66) rfl N ce rfl rfl 66 _ (by exact HZ.out) (Se.infoEnv hes) (by rw [hzs, hes]) heo ?_))
            exact bodyPost_ret (v := .tuple #[.agg ce, .int .i64 0]) (Se.results_row_tmp rfl _ _ N 66 _ (0, 0) _ _ rfl (setRow_heap _ N _ _ _ _ HZ.out) Tryz.underlying66 rfl (Se.infoEnv hes) rfl) rfl ⟨by (rw [RR.out hbad hl3, HCE.out, HEN.out]; try rfl), Sm.below_setRow hbk (Nat.le_refl _) _⟩
  · have q0 : ((fs : Int) != 0) = true := by rw [bne_iff_ne]; omega
    go_upto_region 8 with (fail)
    have E0 : Hid (w4.drew.heap[N]? = some (.cells z0 66 (0, 0))) := Z4.out
    have EI : Hid (rinAt w4.drew (N + 1) r4) := I4.out
    have EB := Lib.hid B4.out.drew
    refine wp_region_held_drew (S := fun w' => w'.cell? ⟨N + 1, 2, none⟩ = some (.int .i64 (fs : Int))) (by kernel_rfl) (IN4.out _ EI.out).2 (fun hHeld => ?_)
    generalize w4.drew = W0 at *
    refine wpAnyH_take (i := 0) (oi := ⟨some 28, _, _, _, _, _⟩) (v := .agg z0) rfl (by kernel_rfl) (by kernel_rfl) (by kernel_rfl) (fun _ _ _ h => h) (Or.inl ⟨by rfl, ?_⟩) (by assumption) ?_
    · intro w hSw; (try dsimp only at hSw); go_simp; exact HZ0.out.symm
    simp only [Act.put, List.setIfInBounds_toArray, List.set_cons_zero, List.set_cons_succ]
    refine wpAnyH_take (i := 1) (oi := ⟨some 29, _, _, _, _, _⟩) (v := .pointer (some ⟨N + 1, 0, none⟩)) rfl (by kernel_rfl) (by kernel_rfl) (by kernel_rfl) (fun _ _ _ h => h) (Or.inl ⟨by rfl, ?_⟩) (by assumption) ?_
    · intro w hSw; (try dsimp only at hSw); go_simp
    simp only [Act.put, List.setIfInBounds_toArray, List.set_cons_zero, List.set_cons_succ]
    refine wpAnyH_take (i := 2) (oi := ⟨some 30, _, _, _, _, _⟩) (v := .pointer (some ⟨N + 1, 0, none⟩)) rfl (by kernel_rfl) (by kernel_rfl) (by kernel_rfl) (fun _ _ _ h => h) (Or.inl ⟨by rfl, ?_⟩) (by assumption) ?_
    · intro w hSw; (try dsimp only at hSw); go_simp
    simp only [Act.put, List.setIfInBounds_toArray, List.set_cons_zero, List.set_cons_succ]
    refine wpAnyH_take (i := 3) (oi := ⟨some 31, _, _, _, _, _⟩) (v := .pointer (some ⟨N + 1, 2, none⟩)) rfl (by kernel_rfl) (by kernel_rfl) (by kernel_rfl) (fun _ _ _ h => h) (Or.inl ⟨by rfl, ?_⟩) (by assumption) ?_
    · intro w hSw; (try dsimp only at hSw); go_simp
    simp only [Act.put, List.setIfInBounds_toArray, List.set_cons_zero, List.set_cons_succ]
    refine wpAnyH_take (i := 4) (oi := ⟨some 32, _, _, _, _, _⟩) (v := .int .i64 (fs : Int)) rfl (by kernel_rfl) (by kernel_rfl) (by kernel_rfl) (fun _ _ _ h => h) (Or.inl ⟨by rfl, ?_⟩) (by assumption) ?_
    · intro w hSw; (try dsimp only at hSw); go_simp
    simp only [Act.put, List.setIfInBounds_toArray, List.set_cons_zero, List.set_cons_succ]
    refine wpAnyH_ready (rs := [5]) (by kernel_rfl) (by simp) ?_
    refine (AllReadyH.cons (o := ⟨none, _, _, _, _, _⟩) rfl (fun K hK => ?_) AllReadyH.nil)
    rw [if_pos (by simp [Region.wanted])]
    refine wp_store_mid 66 (.tmp 2) (.tmp 28) rfl N 0 z0 rfl rfl (Sm.there_row E0.out rfl) (Se.infoEnv hzs) hzo ?_
    have HRF := Lib.hid (Sm.heap_setAll (vs := z0.toList) E0.out (by simp))
    have BF : Below N w (W0.setCells N 0 z0.toList) := Sm.below_setCells (Nat.le_refl _) _ _ EB.out
    have hfin : (W0.setCells N 0 z0.toList).cell? ⟨N + 1, 2, none⟩ = some (.int .i64 (fs : Int)) := Sm.cells_of (Sm.other_setCells (by omega) EI.out) 2 _ (by rw [← (Option.some.inj ((Sm.cells_of EI.out 2 _ rfl).symm.trans (IN4.out _ EI.out).2))]; rfl)
    refine hK.out _ _ hfin (fun hHeld => ?_)
    clear hK K
    refine wpAnyH_take (i := 6) (oi := ⟨some 3, _, _, _, _, _⟩) (v := .int .i64 (fs : Int)) rfl (by kernel_rfl) (by kernel_rfl) (by kernel_rfl) (fun _ _ _ h => h) (Or.inl ⟨by rfl, ?_⟩) (by assumption) ?_
    · intro w hSw; (try dsimp only at hSw); go_simp
    simp only [Act.put, List.setIfInBounds_toArray, List.set_cons_zero, List.set_cons_succ]
    refine wpAnyH_done (by kernel_rfl) ?_ _
    go_wp2
    exact bodyPost_ret (v := .tuple #[.agg z0, .int .i64 fs]) (Se.results_row_tmp rfl _ _ N 66 _ (0, 0) _ _ rfl HRF.out Tryz.underlying66 rfl (Se.infoEnv hzs) rfl) rfl ⟨by (rw [RB.out hbad, HZ0.out]; try rfl), BF⟩
end Go.Proofs.YtibpgmcpcelmpaaGreatDoor
