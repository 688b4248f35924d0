/-
  sync.Once, not yet done, its lock free: the function is called once, between the lock and 'done'. For whatever function, by its contract.
-/
import Derived.Test.YtapogiihkbjppaaGreatDoorRiLock
import Derived.Test.YtapogiihkbjppaaGreatDoorRiAt
namespace Go.Proofs.YtapogiihkbjppaaGreatDoor
open Go.RowKit
namespace Ri
set_option maxRecDepth 100000 in
theorem load_not (a : Addr) (w : World) (h0 : w.cell? a = some (.int .u32 0)) :
    Calls Tryz.prog 85 #[.pointer (some a)] w fun e w' => e = .returned (.bool false) ∧ w = w' := by
  have hl := run_call_load (P := Tryz.prog) Tryz.func112 (by kernel_rfl) (by kernel_rfl) (by kernel_rfl) .u32 (by kernel_rfl) h0
  go_enter Tryz.func85, Tryz.ntmps85
  go_wp2
  go_ret
  exact ⟨rfl, rfl⟩
theorem once_get {c : Array Value} {k : Nat} {v : Value} (h : c[k]? = some v) {j : Nat} (hj : j ≠ k) (x : Value) : (c.setIfInBounds j x)[k]? = some v := by
  rw [Array.getElem?_setIfInBounds, if_neg hj]; exact h
set_option maxRecDepth 100000 in
set_option maxHeartbeats 1600000 in
theorem slow_any {g f : Nat} {t : TypeId} {caps : Array Value} {cg cg2 : Array Value} {w : World} (hg : w.heap[g]? = some (.cells cg t (0, 0))) (h0 : cg[0]? = some (.int .u32 0)) (h1 : cg[1]? = some (.int .i32 0)) (h20 : cg2[0]? = some (.int .u32 0)) (h21 : cg2[1]? = some (.int .i32 1))
    (hf : (callFunc f caps).run Tryz.prog = fun w => .ok (.enter f caps) w)
    (hF : Calls Tryz.prog f caps (w.setCell ⟨g, 1, none⟩ (.int .i32 1)) fun e w' => e = .returned (.tuple #[]) ∧ w'.heap[g]? = some (.cells cg2 t (0, 0)) ∧ (w.setCell ⟨g, 1, none⟩ (.int .i32 1)).grownBy w' (some g)) :
    Calls Tryz.prog 86 #[.pointer (some ⟨g, 0, none⟩), .func (.func f) #[] caps] w fun e w' => e = .returned (.tuple #[]) ∧
      w'.heap[g]? = some (.cells ((cg2.setIfInBounds 0 (.int .u32 1)).setIfInBounds 1 (.int .i32 0)) t (0, 0)) ∧ w.grownBy w' (some g) := by
  have c1 := Sm.cells_of hg 1 _ h1
  have f1 := Sm.free_of hg 1
  have hg1 := Sm.heap_set hg 1 (.int .i32 1)
  have k1 : w.grownBy (w.setCell ⟨g, 1, none⟩ (.int .i32 1)) (some g) := Sm.grown_set (Sm.grown_refl w _) 1 _
  have c0 := Sm.cells_of hg1 0 _ (once_get h0 (by decide) _)
  have LK := Lib.hid (lock_free ⟨g, 1, none⟩ w c1 f1)
  have LD := Lib.hid (load_not ⟨g, 0, none⟩ _ c0)
  have HF := Lib.hid hF
  have hnot := not_run
  have K1 := Lib.hid k1
  have H20 := Lib.hid h20
  have H21 := Lib.hid h21
  clear hg h0 h1 h20 h21 hF c1 f1 hg1 k1 c0
  generalize w.setCell ⟨g, 1, none⟩ (.int .i32 1) = w1 at *
  go_enter_defers Tryz.func86, Tryz.ntmps86
  go_wp2_with fail
  refine (LK.out).mono ?_
  rintro e w2 ⟨rfl, rfl⟩
  go_wp2_with fail
  refine (LD.out).mono ?_
  rintro e w3 ⟨rfl, rfl⟩
  go_wp2_with fail
  refine (HF.out).mono ?_
  rintro e w4 ⟨rfl, hg4, k4⟩
  have K4 := Lib.hid (Sm.grown_trans K1.out k4)
  have s0 := Sm.cells_of hg4 0 _ H20.out
  have f0 := Sm.free_of hg4 0
  have s1 : (w4.drew.setCell ⟨g, 0, none⟩ (.int .u32 1)).cell? ⟨g, 1, none⟩ = some (.int .i32 1) := (World.cell?_setCell_other w4.drew ⟨g, 0, none⟩ ⟨g, 1, none⟩ _ (by simp)).trans (Sm.cells_of hg4 1 _ H21.out)
  have f1 : (w4.drew.setCell ⟨g, 0, none⟩ (.int .u32 1)).frozen? ⟨g, 1, none⟩ = false := by
    have := Sm.free_of hg4 1
    simp [this]
  have ST := Lib.hid (store_deferred ⟨g, 0, none⟩ _ .returning w4 s0 f0)
  have UL := Lib.hid (fun u => unlock_deferred ⟨g, 1, none⟩ u (w4.drew.setCell ⟨g, 0, none⟩ (.int .u32 1)) s1 f1)
  have hg5 := Sm.heap_set (w := w4.drew.setCell ⟨g, 0, none⟩ (.int .u32 1)) (Sm.heap_set (w := w4.drew) hg4 0 (.int .u32 1)) 1 (.int .i32 0)
  have HG5 := Lib.hid hg5
  have K5 := Lib.hid (Sm.grown_set (Sm.grown_set (w := w4.drew) (Sm.grown_drewN K4.out 1) 0 (.int .u32 1)) 1 (.int .i32 0))
  clear hg4 k4 s0 f0 s1 f1 hg5 HF LD LK
  go_wp2_with fail
  refine leaves_cons (f := 113) (args := #[.pointer (some ⟨g, 0, none⟩), .bool true]) (by simp) (by simp [go_sem]) ?_
  refine (ST.out).mono ?_
  rintro e u' w5 ⟨rfl, rfl, rfl⟩
  refine leaves_cons (f := 32) (args := #[.pointer (some ⟨g, 1, none⟩)]) (by simp [settle]) (by simp [go_sem]) ?_
  refine (UL.out _).mono ?_
  rintro e u' w6 ⟨rfl, rfl, rfl⟩
  simp [Leaves, settle, results, Tryz.results86]
  exact ⟨HG5.out, K5.out⟩
set_option maxRecDepth 100000 in
set_option maxHeartbeats 1600000 in
theorem do_first {g f : Nat} {t : TypeId} {caps : Array Value} {cg cg2 : Array Value} {w : World} (hg : w.heap[g]? = some (.cells cg t (0, 0))) (h0 : cg[0]? = some (.int .u32 0)) (h1 : cg[1]? = some (.int .i32 0)) (h20 : cg2[0]? = some (.int .u32 0)) (h21 : cg2[1]? = some (.int .i32 1))
    (hf : (callFunc f caps).run Tryz.prog = fun w => .ok (.enter f caps) w)
    (hF : Calls Tryz.prog f caps (w.setCell ⟨g, 1, none⟩ (.int .i32 1)) fun e w' => e = .returned (.tuple #[]) ∧ w'.heap[g]? = some (.cells cg2 t (0, 0)) ∧ (w.setCell ⟨g, 1, none⟩ (.int .i32 1)).grownBy w' (some g)) :
    Calls Tryz.prog 53 #[.pointer (some ⟨g, 0, none⟩), .func (.func f) #[] caps] w fun e w' => e = .returned (.tuple #[]) ∧
      w'.heap[g]? = some (.cells ((cg2.setIfInBounds 0 (.int .u32 1)).setIfInBounds 1 (.int .i32 0)) t (0, 0)) ∧ w.grownBy w' (some g) := by
  have SL := Lib.hid (slow_any hg h0 h1 h20 h21 hf hF)
  have LD := Lib.hid (load_not ⟨g, 0, none⟩ w (Sm.cells_of hg 0 _ h0))
  have hnot := not_run
  clear hg h0 h1 h20 h21 hf hF
  go_enter Tryz.func53, Tryz.ntmps53
  go_wp2_with fail
  refine (LD.out).mono ?_
  rintro e w3 ⟨rfl, rfl⟩
  go_wp2_with fail
  refine (SL.out).mono ?_
  rintro e w4 ⟨rfl, hg4, k4⟩
  go_wp2_with fail
  go_end0
  exact ⟨rfl, hg4, k4⟩
end Ri
end Go.Proofs.YtapogiihkbjppaaGreatDoor
