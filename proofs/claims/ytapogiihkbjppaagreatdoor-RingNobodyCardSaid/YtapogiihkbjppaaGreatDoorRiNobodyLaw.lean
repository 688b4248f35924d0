/-
  RingNobody: what is none does nothing.
-/
import Derived.Test.YtapogiihkbjppaaGreatDoorRiRewrap
import Derived.Test.YtapogiihkbjppaaGreatDoorRiAwake
namespace Go.Proofs.YtapogiihkbjppaaGreatDoor
open Go.RowKit
namespace Ri
theorem builtBare : Tryz.prog.built 66 [] = some bareCells := by kernel_rfl
theorem bare_one : bareCells.all (·.oneCell') = true := by kernel_rfl
end Ri

set_option maxRecDepth 100000 in
set_option maxHeartbeats 2000000 in
theorem ringNobody_any {w : World} (hH : Sm.HAt w) (hK : Sm.KAt w) (hsz : 1 < w.heap.size) (b about : ByteArray) (hb : b.size ≤ 9223372036854775807) (ha : about.size ≤ 9223372036854775807) :
    Calls Tryz.prog 6 #[.string b, .string about] w fun e w' => e = .returned (.bool true) ∧ Below w.heap.size w w' := by
  have AW := Lib.hid (awake6_any hH hK hsz)
  obtain ⟨N, hN⟩ : ∃ N, N = w.heap.size := ⟨_, rfl⟩
  rw [← hN] at AW ⊢
  have HN := Lib.hid hN
  clear hN hH hK hsz
  by_cases hb3 : b.size ≤ 300
  · have hbi : (b.size : Int) ≤ 300 := by omega
    by_cases ha3 : about.size ≤ 300
    · have hai : (about.size : Int) ≤ 300 := by omega
      have hab : ¬ (300 : Int) < about.size := by omega
      have hbb : ¬ (300 : Int) < b.size := by omega
      obtain ⟨zr, hzr⟩ : ∃ z, z = Ri.bareCells := ⟨_, rfl⟩
      have hzz := (zero_of_info Ri.zeroRing).1
      have hzs : zr.size = 7 := by rw [hzr]; rfl
      have hzo : zr.all (·.oneCell') = true := by rw [hzr]; exact Ri.bare_one
      rw [← hzr] at hzz
      have BE : Hid (Tryz.prog.built 66 [] = some zr) := by
        show _ = _
        rw [hzr]; exact Ri.builtBare
      have hst : ∀ wx : World, (storeCells ⟨wx.heap.size, 0, none⟩ zr.toList).run Tryz.prog (wx.alloc (.cells zr 66)) = .ok () (wx.alloc (.cells zr 66)) := fun wx =>
        run_storeCells_new (P := Tryz.prog) wx 66 zr _ (Ri.infoRing hzs) rfl hzo
      have HZR := Lib.hid hzr
      have NW : Hid (∀ wx : World, Calls Tryz.prog 10 #[.string ⟨#[109]⟩, .int .i64 0, .int .u32 0] wx (Ri.NewPost wx ⟨#[109]⟩ 0 0)) := fun wx => rgNew_any wx ⟨#[109]⟩ (by decide) 0 0 (by decide)
      have NN : ∀ wx, Ri.None wx (.pointer none) := fun wx => .inl rfl
      have W0 : Hid (∀ (wx : World) (x y : ByteArray), Calls Tryz.prog 11 #[.pointer none, .string x, .string y] wx fun e w' => e = .returned (.tuple #[.string ⟨#[]⟩, .int .i64 2]) ∧ wx = w') := fun wx x y => rgWrap_none (NN wx) x y
      have O0 : Hid (∀ (wx : World) (x y : ByteArray), Calls Tryz.prog 14 #[.pointer none, .string x, .string y] wx fun e w' => e = .returned (.tuple #[.string ⟨#[]⟩, .int .i64 2]) ∧ wx = w') := fun wx x y => rgOpen_none (NN wx) x y
      have R0 : Hid (∀ (wx : World) (v : Value) (x y z : ByteArray), Calls Tryz.prog 23 #[.pointer none, .string x, .string y, v, .string z] wx fun e w' => e = .returned (.tuple #[.string ⟨#[]⟩, .int .i64 2]) ∧ wx = w') := fun wx v x y z => rgRewrap_none (NN wx) x y z
      have R1 : Hid (∀ (wx : World) (r m : Nat) (x y z : ByteArray), Ri.RingAt wx r m ⟨#[109]⟩ 0 0 0 → Calls Tryz.prog 23 #[.pointer (some ⟨r, 0, none⟩), .string x, .string y, .pointer none, .string z] wx fun e w' => e = .returned (.tuple #[.string ⟨#[]⟩, .int .i64 2]) ∧ wx = w') := fun wx r m x y z h => rgRewrap_tonone h (NN wx) x y z
      have WB : Hid (∀ (wx : World) (bb : Nat) (x y : ByteArray), wx.heap[bb]? = some (.cells zr 66 (0, 0)) → Calls Tryz.prog 11 #[.pointer (some ⟨bb, 0, none⟩), .string x, .string y] wx fun e w' => e = .returned (.tuple #[.string ⟨#[]⟩, .int .i64 2]) ∧ wx = w') := fun wx bb x y h => rgWrap_none (.inr ⟨bb, rfl, by rw [h, hzr]⟩) x y
      have C0 : Hid (∀ wx : World, Calls Tryz.prog 13 #[.pointer none] wx fun e w' => e = .returned (.tuple #[.int .u32 0, .int .u64 0]) ∧ wx = w') := fun wx => rgCount_none (NN wx)
      have T0 : Hid (∀ wx : World, Calls Tryz.prog 12 #[.pointer none] wx fun e w' => e = .returned (.int .i64 2) ∧ wx = w') := fun wx => rgRotate_none (NN wx)
      have U0 : Hid (∀ wx : World, Calls Tryz.prog 16 #[.pointer none] wx fun e w' => e = .returned (.int .i64 0) ∧ wx = w') := fun wx => rgCurrent_none (NN wx)
      clear hzr NN hzs hzo
      go_enter Tryz.func6, Tryz.ntmps6
      go_wp2_with fail
      refine (AW.out).mono ?_
      rintro e w1 ⟨rfl, b1⟩
      have hst1 := hst w1
      have s1 := b1.size
      have B1 := Lib.hid b1
      have hn1 : N ≤ w1.heap.size := by have := HN.out; omega
      clear hst b1 AW
      go_upto_region 7 with (with_reducible refine wpList_build_eq rfl 66 _ rfl zr (by with_unfolding_all exact BE.out) ?_)
      have HB2 := Lib.hid (heap_alloc_new w1 (.cells zr 66))
      have B2 := Lib.hid (B1.out.alloc hn1 (.cells zr 66))
      have s2 : (w1.alloc (.cells zr 66)).heap.size = w1.heap.size + 1 := by simp
      clear hst1 hzz
      generalize w1.alloc (.cells zr 66) = w2 at *
      obtain ⟨bb, hbb⟩ : ∃ x, x = w1.heap.size := ⟨_, rfl⟩
      rw [← hbb] at HB2 s2 ⊢
      have hnb : N ≤ bb := by omega
      clear hbb s1 hn1 B1
      go_wp2_with fail
      refine (NW.out _).mono ?_
      rintro e w3 ⟨r, m, rfl, ra3, hr, hm, b3⟩
      have RA3 := Lib.hid ra3
      have B3 := Lib.hid (B2.out.trans (b3.mono (by omega)))
      have HB3 := Lib.hid ((b3.block bb (by omega)).trans HB2.out)
      clear ra3 b3 NW HB2 B2 hr hm s2
      go_wp2_with fail
      refine (W0.out _ _ _).mono ?_
      rintro e w4 ⟨rfl, rfl⟩
      go_wp2_with fail
      refine (O0.out _ _ _).mono ?_
      rintro e w4 ⟨rfl, rfl⟩
      go_wp2_with fail
      refine (R0.out _ _ _ _ _).mono ?_
      rintro e w4 ⟨rfl, rfl⟩
      go_wp2_with fail
      refine (R1.out _ r m _ _ _ RA3.out).mono ?_
      rintro e w4 ⟨rfl, rfl⟩
      go_wp2_with fail
      refine (WB.out _ bb _ _ HB3.out).mono ?_
      rintro e w4 ⟨rfl, rfl⟩
      go_wp2_with fail
      refine (C0.out _).mono ?_
      rintro e w4 ⟨rfl, rfl⟩
      go_wp2_with fail
      refine (T0.out _).mono ?_
      rintro e w4 ⟨rfl, rfl⟩
      go_wp2_with fail
      refine (U0.out _).mono ?_
      rintro e w4 ⟨rfl, rfl⟩
      go_wp2_with fail
      refine bodyPost_ret (results_tmp rfl _ _ _) rfl ?_
      exact ⟨rfl, B3.out⟩
    · have hai : (300 : Int) < about.size := by omega
      have hbb : ¬ (300 : Int) < b.size := by omega
      go_enter Tryz.func6, Tryz.ntmps6
      go_wp2_with fail
      refine (AW.out).mono ?_
      rintro e w1 ⟨rfl, b1⟩
      go_wp2_with fail
      refine bodyPost_ret (results_tmp rfl _ _ _) rfl ?_
      exact ⟨rfl, b1⟩
  · have hbi : (300 : Int) < b.size := by omega
    go_enter Tryz.func6, Tryz.ntmps6
    go_wp2_with fail
    refine (AW.out).mono ?_
    rintro e w1 ⟨rfl, b1⟩
    go_wp2_with fail
    refine bodyPost_ret (results_tmp rfl _ _ _) rfl ?_
    exact ⟨rfl, b1⟩
end Go.Proofs.YtapogiihkbjppaaGreatDoor
