/-
  What turn does: the eight words of a Sha, turned by the block that waits in it.
-/
import Derived.Test.YtkijdpgdniaagaaDoorShR6
namespace Go.Proofs.YtkijdpgdniaagaaDoor
open Go.RowKit

theorem grown_drew {a w : World} {r : Option Nat} (h : a.grownBy w r) : a.grownBy w.drew r := ⟨h.os, h.tape, h.output, h.size, h.block⟩
theorem put8_grown {w w' : World} {b : Nat} {x1 x2 x3 x4 x5 x6 x7 x8 : Int} (h : put8 w b x1 x2 x3 x4 x5 x6 x7 x8 = w') : w.grownBy w' (some b) := by
  have h8 := Sm.grown_set (Sm.grown_refl w (some b)) 8 (.int .u32 x8)
  have h7 := Sm.grown_set h8 7 (.int .u32 x7)
  have h6 := Sm.grown_set h7 6 (.int .u32 x6)
  have h5 := Sm.grown_set h6 5 (.int .u32 x5)
  have h4 := Sm.grown_set h5 4 (.int .u32 x4)
  have h3 := Sm.grown_set h4 3 (.int .u32 x3)
  have h2 := Sm.grown_set h3 2 (.int .u32 x2)
  have h1 := Sm.grown_set h2 1 (.int .u32 x1)
  unfold put8 at h
  rw [← h]
  exact grown_drew h1
theorem put8_at {w w' : World} {b : Nat} {m : Bool} {u : Sm.V} {wt : List UInt8} {n y1 y2 : Nat} (h : Sm.At w b m u wt n)
    (hw : put8 w b (((y1 : Int) + (y2 : Int)) % 4294967296) u.a u.b u.c (((u.d : Int) + (y1 : Int)) % 4294967296) u.e u.f u.g = w') :
    Sm.At w' b m ⟨Sm.add y1 y2, u.a, u.b, u.c, Sm.add u.d y1, u.e, u.f, u.g⟩ wt n := by
  have e1 : ((y1 : Int) + (y2 : Int)) % 4294967296 = (Sm.add y1 y2 : Nat) := by unfold Sm.add; omega
  have e2 : ((u.d : Int) + (y1 : Int)) % 4294967296 = (Sm.add u.d y1 : Nat) := by unfold Sm.add; omega
  rw [e1, e2] at hw
  unfold Sm.At at h ⊢
  have k8 := Sm.heap_set h 8 (.int .u32 u.g)
  rw [(Sm.set_word _ _ _ _ _).2.2.2.2.2.2.2] at k8
  have k7 := Sm.heap_set k8 7 (.int .u32 u.f)
  rw [(Sm.set_word _ _ _ _ _).2.2.2.2.2.2.1] at k7
  have k6 := Sm.heap_set k7 6 (.int .u32 u.e)
  rw [(Sm.set_word _ _ _ _ _).2.2.2.2.2.1] at k6
  have k5 := Sm.heap_set k6 5 (.int .u32 (Sm.add u.d y1 : Nat))
  rw [(Sm.set_word _ _ _ _ _).2.2.2.2.1] at k5
  have k4 := Sm.heap_set k5 4 (.int .u32 u.c)
  rw [(Sm.set_word _ _ _ _ _).2.2.2.1] at k4
  have k3 := Sm.heap_set k4 3 (.int .u32 u.b)
  rw [(Sm.set_word _ _ _ _ _).2.2.1] at k3
  have k2 := Sm.heap_set k3 2 (.int .u32 u.a)
  rw [(Sm.set_word _ _ _ _ _).2.1] at k2
  have k1 := Sm.heap_set k2 1 (.int .u32 (Sm.add y1 y2 : Nat))
  rw [(Sm.set_word _ _ _ _ _).1] at k1
  unfold put8 at hw
  rw [← hw, heap_drew]
  exact k1

set_option maxRecDepth 100000 in
set_option maxHeartbeats 8000000 in
theorem turn_any {w : World} {b : Nat} {m : Bool} {v : Sm.V} {wt : List UInt8} {n : Nat} (hat : Sm.At w b m v wt n) (hv : v.Ok) (hl : wt.length = 64) (hK : Sm.KAt w) (h1 : b ≠ 1) (hsz : 1 < w.heap.size) :
    Calls Tryd.prog 39 #[.pointer (some ⟨b, 1, none⟩), .pointer (some ⟨b, 9, none⟩)] w fun e w' => e = .returned (.tuple #[]) ∧ w.grownBy w' (some b) ∧ Sm.At w' b m (Sm.turn v wt) wt n := by
  have hlt := hat.lt
  have hsp := spread_any w b 9 wt hl hlt (fun j hj => hat.wait j (by omega))
  have HSP := Lib.hid hsp
  have HAT := Lib.hid hat
  have HK := Lib.hid hK
  have HV := Lib.hid hv
  clear hsp hat hK hv
  go_enter Tryd.func39, Tryd.ntmps39
  go_wp2_with fail
  refine (HSP.out).mono ?_
  rintro e w1 ⟨rfl, hb1⟩
  have hws : (Sm.nums (Sm.words wt 48)).toArray.size = 64 := by rw [← Sm.rowOf_full (n := 64) (by rw [Sm.words_length]), Sm.rowOf_size (by rw [Sm.words_length]; omega)]
  have hone : (Sm.nums (Sm.words wt 48)).toArray.all (·.oneCell') = true := by rw [← Sm.rowOf_full (n := 64) (by rw [Sm.words_length])]; exact Sm.rowOf_one _ _
  have hinfo := Sm.info64 hws
  have HAT1 := Lib.hid (HAT.out.low hb1)
  have HWS := Lib.hid hws
  clear hws
  generalize hws : (Sm.nums (Sm.words wt 48)).toArray = ws at *
  have HW := Lib.hid hws
  clear hws
  have hst : ∀ c : Array Value, c.size = 64 → (storeCells ⟨w1.heap.size, 0, none⟩ ws.toList).run Tryd.prog (w1.alloc (.cells c 53)) = .ok () (w1.alloc (.cells ws 53)) :=
    fun c hc => run_storeCells_new w1 53 c ws hinfo (by rw [HWS.out]; exact hc) hone
  have hws64 : ws.size = 64 := HWS.out
  clear hone hinfo
  obtain ⟨a1, a2, a3, a4, a5, a6, a7, a8⟩ := (HAT1.out.low ((Below.refl _ w1).alloc (Nat.le_refl _) (.cells ws 53))).words
  go_wp2_with fail
  have g0 : Below w.heap.size w ((w1.alloc (.cells ws 53)).alloc (.cells (Sm.nums v.l).toArray 70)) := (hb1.alloc hb1.size _).alloc (Nat.le_trans hb1.size (by simp)) _
  have g1 : ((w1.alloc (.cells ws 53)).alloc (.cells (Sm.nums v.l).toArray 70)).heap[w1.heap.size]? = some (.cells ws 53 (0, 0)) := by
    rw [Below.heap_alloc _ _ _ (by simp)]; exact heap_alloc_new w1 _
  have g2 : ((w1.alloc (.cells ws 53)).alloc (.cells (Sm.nums v.l).toArray 70)).heap[w1.heap.size + 1]? = some (.cells (Sm.nums v.l).toArray 70 (0, 0)) := by
    have := heap_alloc_new (w1.alloc (.cells ws 53)) (.cells (Sm.nums v.l).toArray 70)
    simpa using this
  have g3 := HAT.out.low g0
  have hNw : b ≠ w1.heap.size := by have := hb1.size; omega
  have hNo : b ≠ w1.heap.size + 1 := by have := hb1.size; omega
  have hNs : w.heap.size ≤ w1.heap.size := hb1.size
  clear a1 a2 a3 a4 a5 a6 a7 a8 hst hb1
  change Code.wp _ _ _ _ ((w1.alloc (.cells ws 53)).alloc (.cells (Sm.nums v.l).toArray 70))
  generalize ((w1.alloc (.cells ws 53)).alloc (.cells (Sm.nums v.l).toArray 70)) = W0 at *
  generalize w1.heap.size = N at *
  go_loopw [19] (fun i wr => ∃ k : Nat, k ≤ 64 ∧ i = .int .i64 k ∧ Sm.At wr b m (Sm.rounds v Sm.ks (Sm.words wt 48) k) wt n ∧ wr.heap[N]? = some (.cells ws 53 (0, 0)) ∧ wr.heap[N + 1]? = some (.cells (Sm.nums v.l).toArray 70 (0, 0)) ∧ w.grownBy wr (some b)) (fun i _ => 64 - (intOf i).toNat)
  case atStart => exact ⟨0, by omega, rfl, g3, g1, g2, Sm.grown_below (Sm.grown_refl _ _) g0⟩
  case round =>
    clear g0 g1 g2 g3
    obtain ⟨k, hk, rfl, hat, hNW, hNO, hgr⟩ := hrel
    have HA := Lib.hid hat
    have HNW := Lib.hid hNW
    have HNO := Lib.hid hNO
    have hk1 := HK.out.grown hgr h1 hsz
    have HK1 := Lib.hid hk1
    clear hat hNW hNO hk1
    by_cases hlt2 : k < 64
    · have hok := Sm.rounds_ok HV.out Sm.ks (Sm.words wt 48) k
      have hrd : Sm.rounds v Sm.ks (Sm.words wt 48) (k + 1) = Sm.round (Sm.rounds v Sm.ks (Sm.words wt 48) k) (Sm.ks.getD k 0) ((Sm.words wt 48).getD k 0) := rfl
      have HRD := Lib.hid hrd
      clear hrd
      generalize Sm.rounds v Sm.ks (Sm.words wt 48) k = u at *
      have ck := HK1.out k hlt2
      have cw := Sm.cells_of HNW.out k (.int .u32 ((Sm.words wt 48).getD k 0 : Nat)) (by rw [← HW.out, List.getElem?_toArray]; exact Sm.nums_get (by rw [Sm.words_length]; omega))
      have lk := Sm.getD_lt Sm.ks_lt k
      have lw := Sm.getD_lt (Sm.words_lt wt 48) k
      generalize Sm.ks.getD k 0 = xk at *
      generalize (Sm.words wt 48).getD k 0 = xw at *
      obtain ⟨a1, a2, a3, a4, a5, a6, a7, a8⟩ := HA.out.words
      have f1 := HA.out.free 1
      have f2 := HA.out.free 2
      have f3 := HA.out.free 3
      have f4 := HA.out.free 4
      have f5 := HA.out.free 5
      have f6 := HA.out.free 6
      have f7 := HA.out.free 7
      have f8 := HA.out.free 8
      have R4 := Lib.hid (fun wx => rot_any u.a 2 hok.a (by decide) (by decide) wx)
      have R5 := Lib.hid (fun wx => rot_any u.a 13 hok.a (by decide) (by decide) wx)
      have R6 := Lib.hid (fun wx => rot_any u.a 22 hok.a (by decide) (by decide) wx)
      have HOK := Lib.hid hok
      clear hok
      go_wp2_with fail
      go_quiet (fail)
      generalize hwx : wr.drewN _ = wx
      have hgr2 : w.grownBy wx (some b) := by rw [← hwx]; exact Sm.grown_drewN hgr _
      have HA2 : Hid (Sm.At wx b m u wt n) := by rw [← hwx]; exact HA.out
      have HNW2 : Hid (wx.heap[N]? = some (.cells ws 53 (0, 0))) := by rw [← hwx]; exact HNW.out
      have HNO2 : Hid (wx.heap[N + 1]? = some (.cells (Sm.nums v.l).toArray 70 (0, 0))) := by rw [← hwx]; exact HNO.out
      have b6 : wx.cell? ⟨b, 6, none⟩ = some (.int .u32 u.f) := by rw [← hwx]; exact a6
      have b7 : wx.cell? ⟨b, 7, none⟩ = some (.int .u32 u.g) := by rw [← hwx]; exact a7
      have b8 : wx.cell? ⟨b, 8, none⟩ = some (.int .u32 u.h) := by rw [← hwx]; exact a8
      have bk : wx.cell? ⟨1, k, none⟩ = some (.int .u32 xk) := by rw [← hwx]; exact ck
      have bw : wx.cell? ⟨N, k, none⟩ = some (.int .u32 xw) := by rw [← hwx]; exact cw
      clear hwx a1 a2 a3 a4 a5 a6 a7 a8 f1 f2 f3 f4 f5 f6 f7 f8 ck cw hgr HA HNW HNO HK1
      go_wp2_with fail
      refine wp_then (r6_any _ HOK.out hlt2 b6 b7 b8 bk bw ?_)
      intro nq x38 x39 x40 x41 x42 x43 x44 x45 x46 x47 x48 x49 x50 x51 x52 x53 x54 x55 x56 x57 x58 x59 x60 x61 x62 x63 x64 x65 x66 x67 x68 x69 x70 x71 x72 x73
      generalize hwy : wx.drewN nq = wy
      have hgr3 : w.grownBy wy (some b) := by rw [← hwy]; exact Sm.grown_drewN hgr2 _
      have HA3 : Hid (Sm.At wy b m u wt n) := by rw [← hwy]; exact HA2.out
      have HNW3 : Hid (wy.heap[N]? = some (.cells ws 53 (0, 0))) := by rw [← hwy]; exact HNW2.out
      have HNO3 : Hid (wy.heap[N + 1]? = some (.cells (Sm.nums v.l).toArray 70 (0, 0))) := by rw [← hwy]; exact HNO2.out
      clear hwy hgr2 HA2 HNW2 HNO2 b6 b7 b8 bk bw
      obtain ⟨y1, hy1⟩ : ∃ y, y = Sm.t1 u xk xw := ⟨_, rfl⟩
      rw [← hy1]
      have HY1 := Lib.hid hy1
      clear hy1
      go_wp2_with fail
      refine (R4.out _).mono ?_
      rintro e w' ⟨rfl, rfl⟩
      go_wp2_with fail
      refine (R5.out _).mono ?_
      rintro e w' ⟨rfl, rfl⟩
      go_wp2_with fail
      refine (R6.out _).mono ?_
      rintro e w' ⟨rfl, rfl⟩
      go_wp2_with fail
      rw [Sm.w_t2 HOK.out]
      refine wp_then (r8_any _ HA3.out.words.1 HA3.out.words.2.1 HA3.out.words.2.2.1 HA3.out.words.2.2.2.1 HA3.out.words.2.2.2.2.1 HA3.out.words.2.2.2.2.2.1 HA3.out.words.2.2.2.2.2.2.1 HA3.out.words.2.2.2.2.2.2.2
        (HA3.out.free 1) (HA3.out.free 2) (HA3.out.free 3) (HA3.out.free 4) (HA3.out.free 5) (HA3.out.free 6) (HA3.out.free 7) (HA3.out.free 8) ?_)
      intro x94 x95 x96 x97 x98 x99 x100 x101 x102 x103 x104 x105 x106 x107 x108 x109 x110 x111 x112 x113 x114 x115 x116 x117 x118 x119 x120 x121 x122 x123 x124 x125 x126 x127 x128 x129 x130 x131 x132 x133 x134 x135 x136 x137 x138
      generalize hwz : put8 wy b _ _ _ _ _ _ _ _ = wz
      have HZ := Lib.hid hwz
      clear hwz
      go_wp2
      go_roundw
      case rel =>
        have K := put8_at HA3.out HZ.out
        rw [HY1.out] at K
        have K2 : Sm.At wz b m (Sm.rounds v Sm.ks (Sm.words wt 48) (k + 1)) wt n := by rw [HRD.out]; exact K
        refine ⟨k + 1, by omega, by go_num, K2, ?_, ?_, Sm.grown_trans hgr3 (put8_grown HZ.out)⟩
        · exact ((put8_grown HZ.out).block N (Sm.lt_of HNW3.out) (fun e => hNw (Option.some.inj e.symm))).trans HNW3.out
        · exact ((put8_grown HZ.out).block (N + 1) (Sm.lt_of HNO3.out) (fun e => hNo (Option.some.inj e.symm))).trans HNO3.out
      case measure => simp [intOf]; omega
    · obtain rfl : k = 64 := by omega
      clear HK1
      generalize hu : Sm.rounds v Sm.ks (Sm.words wt 48) 64 = u at *
      have HU := Lib.hid hu
      clear hu
      go_wp2
      rw [show ((64 : Nat) : Int) = 64 from rfl]
      obtain ⟨w2, hw2⟩ : ∃ w2, w2 = wr := ⟨_, rfl⟩
      rw [← hw2] at HA HNO hgr ⊢
      clear hw2 HNW
      go_loopw [140] (fun i wq => ∃ j : Nat, j ≤ 8 ∧ i = .int .i64 j ∧ Sm.At wq b m (Sm.mix u v j) wt n ∧ wq.heap[N + 1]? = some (.cells (Sm.nums v.l).toArray 70 (0, 0)) ∧ w.grownBy wq (some b)) (fun i _ => 8 - (intOf i).toNat)
      case atStart => exact ⟨0, by omega, rfl, HA.out, HNO.out, hgr⟩
      case round =>
        clear HA HNO hgr
        obtain ⟨j, hj, rfl, hat, hNO, hgr⟩ := hrel
        have HA := Lib.hid hat
        have HNO := Lib.hid hNO
        clear hat hNO
        by_cases hlt3 : j < 8
        · have ca := HA.out.word j hlt3
          have co := Sm.cells_of HNO.out j (.int .u32 (v.l.getD j 0 : Nat)) (by rw [List.getElem?_toArray]; exact Sm.nums_get hlt3)
          have cf := HA.out.free (1 + j)
          have hstep : Sm.mix u v (j + 1) = Sm.V.of ((Sm.mix u v j).l.set j (Sm.add ((Sm.mix u v j).l.getD j 0) (v.l.getD j 0))) := rfl
          have HST := Lib.hid hstep
          clear hstep
          generalize Sm.mix u v j = z at *
          generalize z.l.getD j 0 = x at *
          generalize v.l.getD j 0 = y at *
          have hNo2 : ¬ b = N + 1 := hNo
          go_wp2
          go_region
          go_wp2
          go_roundw
          case rel =>
            rw [show ((x : Int) + y) % 4294967296 = (Sm.add x y : Nat) by unfold Sm.add; omega]
            have g := Sm.grown_set hgr (1 + j) (.int .u32 (Sm.add x y : Nat))
            refine ⟨j + 1, by omega, by go_num, ?_, ?_, ⟨g.os, g.tape, g.output, g.size, g.block⟩⟩
            · rw [HST.out]
              unfold Sm.At
              rw [← Sm.set_at _ _ _ _ _ _ hlt3, heap_drew]
              exact Sm.heap_set HA.out _ _
            · rw [heap_drew, Below.heap_setCell _ _ _ _ (by simpa using hNo2 ∘ Eq.symm)]
              exact HNO.out
          case measure => simp [intOf]; omega
        · obtain rfl : j = 8 := by omega
          have ha : Sm.At wr b m (Sm.turn v wt) wt n := by
            have h := HA.out
            rw [Sm.mix_all, ← HU.out] at h
            exact h
          have HA2 := Lib.hid ha
          clear ha
          go_wp2
          go_end0
          exact ⟨rfl, hgr, HA2.out⟩
end Go.Proofs.YtkijdpgdniaagaaDoor
