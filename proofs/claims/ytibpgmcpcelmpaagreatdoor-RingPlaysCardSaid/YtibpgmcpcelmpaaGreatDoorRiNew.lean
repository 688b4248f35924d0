/-
  What ring's New, Rotate and Count do.
-/
import Derived.Test.YtibpgmcpcelmpaaGreatDoorRiOne
import Derived.Test.YtibpgmcpcelmpaaGreatDoorMPack
import Derived.Test.YtibpgmcpcelmpaaGreatDoorSeOne
namespace Go.Proofs.YtibpgmcpcelmpaaGreatDoor
open Go.RowKit
namespace Ri
theorem zeroRing : (Tryz.prog.info? 62).map (fun i => (i.zero, i.size)) = some (some (.agg bareCells), 7) := by kernel_rfl
theorem infoRing {c : Array Value} (h : c.size = 7) : (Tryz.prog.info? 62).map (·.size) = some c.size := by rw [h]; kernel_rfl
theorem builtRing (M : ByteArray) (boot cur : Int) (m : Option Nat) : Tryz.prog.built 62 [(0, .string M), (1, .int .u32 boot), (4, .int .i64 cur), (5, .map m)] = some #[.string M, .int .u32 boot, .int .u64 0, .int .i32 0, .int .u32 0, .int .i64 cur, .map m] := by kernel_rfl
theorem cells_one (M : ByteArray) (boot n : Nat) (cur : Int) (m : Nat) : (cells M boot n cur m).all (·.oneCell') = true := by simp [cells, Value.oneCell']
/-- What New answers. -/
def NewPost (w : World) (M : ByteArray) (boot : Nat) (cur : Int) (e : Ending) (w' : World) : Prop :=
  ∃ r m, e = .returned (.tuple #[.pointer (some ⟨r, 0, none⟩), .int .i64 0]) ∧ RingAt w' r m M boot 0 cur ∧ w.heap.size ≤ r ∧ w.heap.size ≤ m ∧ Below w.heap.size w w'
end Ri

set_option maxRecDepth 100000 in
set_option maxHeartbeats 1000000 in
theorem rgRotate_any {w : World} {r m : Nat} {M : ByteArray} {boot n : Nat} {cur : Int} (h : Ri.RingAt w r m M boot n cur) (hc : 0 ≤ cur ∧ cur < 1048576) :
    Calls Tryz.prog 12 #[.pointer (some ⟨r, 0, none⟩)] w fun e w' => e = .returned (.int .i64 0) ∧ Ri.RingAt w' r m M boot n (cur + 1) ∧ w.grownBy w' (some r) := by
  have NO := Lib.hid (rgNone_not h)
  have c3 := Sm.cells_of h.ring 3 _ (show (Ri.cells M boot n cur m)[3]? = some (.int .i32 0) from rfl)
  have f3 := Sm.free_of h.ring 3
  have LK := Lib.hid (Ri.lock_free ⟨r, 3, none⟩ w c3 f3)
  have h1 := Sm.heap_set h.ring 3 (.int .i32 1)
  have h2 := Sm.heap_set h1 5 (.int .i64 (cur + 1))
  have h3 := Sm.heap_set h2 3 (.int .i32 0)
  have e3 : (((Ri.cells M boot n cur m).setIfInBounds 3 (.int .i32 1)).setIfInBounds 5 (.int .i64 (cur + 1))).setIfInBounds 3 (.int .i32 0) = Ri.cells M boot n (cur + 1) m := by simp [Ri.cells]
  rw [e3] at h3
  have k1 := Sm.grown_set (Sm.grown_refl w (some r)) 3 (.int .i32 1)
  have k3 := Sm.grown_set (Sm.grown_set k1 5 (.int .i64 (cur + 1))) 3 (.int .i32 0)
  have R3 := Lib.hid (h.set k3 h3)
  have K3 := Lib.hid k3
  have c5 : (w.setCell ⟨r, 3, none⟩ (.int .i32 1)).cell? ⟨r, 5, none⟩ = some (.int .i64 cur) := Sm.cells_of h1 5 _ (by simp [Ri.cells])
  have f5 := Sm.free_of h1 5
  have UL := Lib.hid (Ri.unlock_deferred ⟨r, 3, none⟩ .returning _ (Sm.cells_of h2 3 _ (by simp [Ri.cells])) (Sm.free_of h2 3))
  have q : ¬ cur = 1048576 := by omega
  have q0 := hc.1
  have q1 := hc.2
  clear h h1 h2 h3 e3 k1 k3 c3 f3 hc
  generalize w.setCell ⟨r, 3, none⟩ (.int .i32 1) = w1 at *
  go_enter_defers Tryz.func12, Tryz.ntmps12
  go_wp2_with fail
  refine (NO.out).mono ?_
  rintro e w2 ⟨rfl, rfl⟩
  go_wp2_with fail
  refine (LK.out).mono ?_
  rintro e w2 ⟨rfl, rfl⟩
  go_wp2_with fail
  refine leaves_cons (f := 29) (args := #[.pointer (some ⟨r, 3, none⟩)]) (by simp) (by simp [go_sem]) ?_
  refine (UL.out).mono ?_
  rintro e u' w'' ⟨rfl, rfl, rfl⟩
  exact ⟨_, results_tmp rfl _ _ _, rfl, R3.out, K3.out⟩

set_option maxRecDepth 100000 in
set_option maxHeartbeats 1000000 in
theorem rgRotate_full {w : World} {r m : Nat} {M : ByteArray} {boot n : Nat} (h : Ri.RingAt w r m M boot n 1048576) :
    Calls Tryz.prog 12 #[.pointer (some ⟨r, 0, none⟩)] w fun e w' => e = .returned (.int .i64 6) ∧ w = w' := by
  have NO := Lib.hid (rgNone_not h)
  have c3 := Sm.cells_of h.ring 3 _ (show (Ri.cells M boot n 1048576 m)[3]? = some (.int .i32 0) from rfl)
  have f3 := Sm.free_of h.ring 3
  have LK := Lib.hid (Ri.lock_free ⟨r, 3, none⟩ w c3 f3)
  have h1 := Sm.heap_set h.ring 3 (.int .i32 1)
  have HB := Lib.hid (Ri.set_back h.ring (show (Ri.cells M boot n 1048576 m)[3]? = some (.int .i32 0) from rfl) (.int .i32 1))
  have c5 : (w.setCell ⟨r, 3, none⟩ (.int .i32 1)).cell? ⟨r, 5, none⟩ = some (.int .i64 1048576) := Sm.cells_of h1 5 _ (by simp [Ri.cells])
  have UL := Lib.hid (Ri.unlock_deferred ⟨r, 3, none⟩ .returning _ (Sm.cells_of h1 3 _ (by simp [Ri.cells])) (Sm.free_of h1 3))
  clear h h1 c3 f3
  generalize w.setCell ⟨r, 3, none⟩ (.int .i32 1) = w1 at *
  go_enter_defers Tryz.func12, Tryz.ntmps12
  go_wp2_with fail
  refine (NO.out).mono ?_
  rintro e w2 ⟨rfl, rfl⟩
  go_wp2_with fail
  refine (LK.out).mono ?_
  rintro e w2 ⟨rfl, rfl⟩
  go_wp2_with fail
  refine leaves_cons (f := 29) (args := #[.pointer (some ⟨r, 3, none⟩)]) (by simp) (by simp [go_sem]) ?_
  refine (UL.out).mono ?_
  rintro e u' w'' ⟨rfl, rfl, rfl⟩
  exact ⟨_, results_tmp rfl _ _ _, rfl, HB.out.symm⟩

set_option maxRecDepth 100000 in
theorem rgRotate_none {w : World} {v : Value} (h : Ri.None w v) :
    Calls Tryz.prog 12 #[v] w fun e w' => e = .returned (.int .i64 2) ∧ w = w' := by
  have NO := Lib.hid (rgNone_is h)
  clear h
  go_enter_defers Tryz.func12, Tryz.ntmps12
  go_wp2_with fail
  refine (NO.out).mono ?_
  rintro e w1 ⟨rfl, rfl⟩
  go_wp2_with fail
  exact ⟨_, results_tmp rfl _ _ _, rfl, rfl⟩

set_option maxRecDepth 100000 in
set_option maxHeartbeats 1000000 in
theorem rgCount_any {w : World} {r m : Nat} {M : ByteArray} {boot n : Nat} {cur : Int} (h : Ri.RingAt w r m M boot n cur) :
    Calls Tryz.prog 13 #[.pointer (some ⟨r, 0, none⟩)] w fun e w' => e = .returned (.tuple #[.int .u32 boot, .int .u64 n]) ∧ ∃ k, w' = w.drewN k := by
  have NO := Lib.hid (rgNone_not h)
  have LD : Hid (∀ k, Calls Tryz.prog 30 #[.pointer (some ⟨r, 2, none⟩)] (w.drewN k) fun e w' => e = .returned (.int .u64 n) ∧ w.drewN k = w') := fun k =>
    Ri.load64 ⟨r, 2, none⟩ (w.drewN k) n (Sm.cells_of (w := w.drewN k) h.ring 2 _ (show (Ri.cells M boot n cur m)[2]? = some (.int .u64 n) from rfl))
  have c1 := Sm.cells_of h.ring 1 _ (show (Ri.cells M boot n cur m)[1]? = some (.int .u32 boot) from rfl)
  clear h
  go_enter Tryz.func13, Tryz.ntmps13
  go_wp2_with fail
  refine (NO.out).mono ?_
  rintro e w2 ⟨rfl, rfl⟩
  go_wp2_with fail
  go_quiet ((first
    | (go_at_call 30; with_reducible exact Sm.q_one (LD.out _))
    | (go_at_call 30; with_reducible exact Sm.q_more (LD.out _))))
  go_wp2
  refine bodyPost_ret (results_tmp2 rfl _ _ _) rfl ?_
  exact ⟨rfl, _, rfl⟩

set_option maxRecDepth 100000 in
theorem rgCount_none {w : World} {v : Value} (h : Ri.None w v) :
    Calls Tryz.prog 13 #[v] w fun e w' => e = .returned (.tuple #[.int .u32 0, .int .u64 0]) ∧ w = w' := by
  have NO := Lib.hid (rgNone_is h)
  clear h
  go_enter Tryz.func13, Tryz.ntmps13
  go_wp2_with fail
  refine (NO.out).mono ?_
  rintro e w1 ⟨rfl, rfl⟩
  go_wp2_with fail
  refine bodyPost_ret (results_tmp2 rfl _ _ _) rfl ?_
  exact ⟨rfl, rfl⟩

set_option maxRecDepth 100000 in
theorem rgNew_bad (w : World) (s : ByteArray) (boot : Nat) (cur : Int) (h : ¬ (0 ≤ cur ∧ cur ≤ 1048576)) :
    Calls Tryz.prog 6 #[.string s, .int .i64 cur, .int .u32 boot] w fun e w' => e = .returned (.tuple #[.pointer none, .int .i64 1]) ∧ w = w' := by
  by_cases h0 : 0 ≤ cur
  · have h1 : ¬ cur ≤ 1048576 := fun h2 => h ⟨h0, h2⟩
    have h2 : 1048576 < cur := by omega
    have h3 : ¬ cur < 0 := by omega
    clear h
    go_enter Tryz.func6, Tryz.ntmps6
    go_wp2_with fail
    refine bodyPost_ret (results_tmp2 rfl _ _ _) rfl ?_
    exact ⟨rfl, rfl⟩
  · have h1 : cur < 0 := by omega
    clear h
    go_enter Tryz.func6, Tryz.ntmps6
    go_wp2_with fail
    refine bodyPost_ret (results_tmp2 rfl _ _ _) rfl ?_
    exact ⟨rfl, rfl⟩

set_option maxRecDepth 100000 in
set_option maxHeartbeats 1000000 in
theorem rgNew_any (w : World) (s : ByteArray) (hs : s.size ≤ 281474976710656) (boot : Nat) (cur : Int) (h : 0 ≤ cur ∧ cur ≤ 1048576) :
    Calls Tryz.prog 6 #[.string s, .int .i64 cur, .int .u32 boot] w (Ri.NewPost w s boot cur) := by
  have CL := Lib.hid (clone_any s w hs)
  have hmk : ∀ wx : World, (Instr.makeMap 50 none).run Tryz.prog wx = .ok (.map (some wx.heap.size)) (wx.alloc (.map #[] 0)) := fun wx => by
    simp [Instr.makeMap]
  obtain ⟨zr, hzr⟩ : ∃ z, z = Ri.bareCells := ⟨_, rfl⟩
  have hzz := (zero_of_info Ri.zeroRing).1
  have hzs : zr.size = 7 := by rw [hzr]; rfl
  rw [← hzr] at hzz
  have h0 : ¬ cur < 0 := by omega
  have h1 := h.2
  have BU : Hid (∀ m : Nat, Tryz.prog.built 62 [(0, .string s), (1, .int .u32 boot), (4, .int .i64 cur), (5, .map (some m))] = some (Ri.cells s boot 0 cur m)) := fun m => Ri.builtRing s boot cur (some m)
  clear hzr h
  go_enter Tryz.func6, Tryz.ntmps6
  go_wp2_with fail
  refine (CL.out).mono ?_
  rintro e w1 ⟨rfl, k1⟩
  obtain ⟨c0, hc0⟩ : ∃ c, c = Ri.cells s boot 0 cur w1.heap.size := ⟨_, rfl⟩
  have hcs : c0.size = 7 := by rw [hc0]; rfl
  have hco : c0.all (·.oneCell') = true := by rw [hc0]; exact Ri.cells_one _ _ _ _ _
  have BE : Hid (Tryz.prog.built 62 [(0, .string s), (1, .int .u32 boot), (4, .int .i64 cur), (5, .map (some w1.heap.size))] = some c0) := by
    show _ = _
    rw [hc0]; exact BU.out _
  have hst : (storeCells ⟨(w1.alloc (.map #[] 0)).heap.size, 0, none⟩ c0.toList).run Tryz.prog ((w1.alloc (.map #[] 0)).alloc (.cells zr 62)) = .ok () ((w1.alloc (.map #[] 0)).alloc (.cells c0 62)) :=
    run_storeCells_new (P := Tryz.prog) (w1.alloc (.map #[] 0)) 62 zr _ (Ri.infoRing hcs) (by rw [hcs]; exact hzs) hco
  have s2 : (w1.alloc (.map #[] 0)).heap.size = w1.heap.size + 1 := by simp
  have hr := heap_alloc_new (w1.alloc (.map #[] 0)) (.cells c0 62)
  have hm := (Below.heap_alloc (w1.alloc (.map #[] 0)) (.cells c0 62) w1.heap.size (by omega)).trans (heap_alloc_new w1 (.map #[] 0))
  rw [s2] at hst hr
  have bb : Below w.heap.size w ((w1.alloc (.map #[] 0)).alloc (.cells c0 62)) := (k1.alloc k1.size _).alloc (by have := k1.size; omega) _
  have POST : Hid (Ri.NewPost w s boot cur (.returned (.tuple #[.pointer (some ⟨w1.heap.size + 1, 0, none⟩), .int .i64 0])) ((w1.alloc (.map #[] 0)).alloc (.cells c0 62))) := by
    refine ⟨w1.heap.size + 1, w1.heap.size, rfl, ⟨?_, #[], 0, hm, fun e hx => by simp at hx⟩, by have := k1.size; omega, k1.size, bb⟩
    rw [hr, hc0]
  clear hc0 hcs hco hr hm s2 bb k1 BU
  go_wp2_with (with_reducible refine wpList_build_eq rfl 62 _ rfl c0 (by with_unfolding_all exact BE.out) ?_)
  refine bodyPost_ret (results_tmp2 rfl _ _ _) rfl ?_
  have hp := POST.out
  generalize (w1.alloc (.map #[] 0)).alloc (.cells c0 62) = w4 at *
  exact hp
end Go.Proofs.YtibpgmcpcelmpaaGreatDoor
