/-
  ring's slot: where a key stands, made or not.
-/
import Derived.Test.YtapogiihkbjppaaGreatDoorRiFns
import Derived.Test.YtapogiihkbjppaaGreatDoorRiMake
namespace Go.Proofs.YtapogiihkbjppaaGreatDoor
open Go.RowKit
open Go.ChangeMaps (setBlock)
namespace Ri
/-- A key's cells, not made yet. -/
def made0 : Array Value := ([Value.int .u32 0, .int .i32 0, .int .u32 0] ++ Lib.byteCells (List.replicate 32 0)).toArray
theorem zeroMade : (Tryz.prog.info? 113).map (fun i => (i.zero, i.size)) = some (some (.agg made0), 35) := by kernel_rfl
theorem builtMade : Tryz.prog.built 113 [] = some made0 := by kernel_rfl
theorem infoMade {c : Array Value} (h : c.size = 35) : (Tryz.prog.info? 113).map (·.size) = some c.size := by rw [h]; kernel_rfl
theorem made0_size : made0.size = 35 := by decide
theorem made0_one : made0.all (·.oneCell') = true := by kernel_rfl
theorem block_set {w : World} {m : Nat} {o : Obj} (h : m < w.heap.size) : (setBlock w m o).heap[m]? = some o := by
  simp [setBlock, h]
theorem block_other {w : World} {m b : Nat} {o : Obj} (h : b ≠ m) : (setBlock w m o).heap[b]? = w.heap[b]? := by
  simp [setBlock, Ne.symm h]
theorem block_size {w : World} {m : Nat} {o : Obj} : (setBlock w m o).heap.size = w.heap.size := by simp [setBlock]
/-- What slot answers: a key that is made, or one that isn't yet, told to the map. -/
def Slot (w : World) (r m : Nat) (M : ByteArray) (boot n : Nat) (cur i : Int) (e : Ending) (w' : World) : Prop :=
  ∃ g, e = .returned (.pointer (some ⟨g, 0, none⟩)) ∧ w.grownBy w' (some m) ∧ w'.heap[r]? = some (.cells (cells M boot n cur m) 66 (0, 0)) ∧
    ((MadeAt w' g (key M.data.toList i) ∧ KeysAt w' m M.data.toList) ∨
     (w.heap.size ≤ g ∧ w'.heap[g]? = some (.cells made0 113 (0, 0)) ∧ ∃ es c, w'.heap[m]? = some (.map es c) ∧ ∀ e ∈ es.toList, EntryAt w M.data.toList e ∨ (e.key = .int .i64 i ∧ e.val = .pointer (some ⟨g, 0, none⟩))))
theorem zero_pMade (w : World) : (zeroValue 106).run Tryz.prog w = .ok (.pointer none) w := by kernel_rfl
theorem cells_back (M : ByteArray) (boot n : Nat) (cur : Int) (m : Nat) : ((cells M boot n cur m).setIfInBounds 3 (.int .i32 1)).setIfInBounds 3 (.int .i32 0) = cells M boot n cur m := by simp [cells]
end Ri

set_option maxRecDepth 100000 in
set_option maxHeartbeats 1600000 in
theorem rgSlot_any {w : World} {r m : Nat} {M : ByteArray} {boot n : Nat} {cur : Int} (h : Ri.RingAt w r m M boot n cur) (i : Int) :
    Calls Tryz.prog 52 #[.pointer (some ⟨r, 0, none⟩), .int .i64 i] w (Ri.Slot w r m M boot n cur i) := by
  have c3 := Sm.cells_of h.ring 3 _ (show (Ri.cells M boot n cur m)[3]? = some (.int .i32 0) from rfl)
  have f3 := Sm.free_of h.ring 3
  have LK := Lib.hid (Ri.lock_free ⟨r, 3, none⟩ w c3 f3)
  have k1 : w.grownBy (w.setCell ⟨r, 3, none⟩ (.int .i32 1)) (some r) := Sm.grown_set (Sm.grown_refl w _) 3 _
  have hr1 := Sm.heap_set h.ring 3 (.int .i32 1)
  have hb := Ri.set_back h.ring (show (Ri.cells M boot n cur m)[3]? = some (.int .i32 0) from rfl) (.int .i32 1)
  obtain ⟨es, c, hm, he⟩ := h.keys
  have hne := h.ne
  have hm1 : (w.setCell ⟨r, 3, none⟩ (.int .i32 1)).heap[m]? = some (.map es c) := (k1.block m h.lt.2 (fun e => hne (Option.some.inj e).symm)).trans hm
  have he1 : ∀ e ∈ es.toList, Ri.EntryAt (w.setCell ⟨r, 3, none⟩ (.int .i32 1)) M.data.toList e := fun e hx => by
    obtain ⟨j, g, a, b, hg⟩ := he e hx
    exact ⟨j, g, a, b, (k1.block g (Sm.lt_of hg) (fun e => Ri.ne_type hg h.ring Ri.made_ring (Option.some.inj e))).trans hg⟩
  have c6 : (w.setCell ⟨r, 3, none⟩ (.int .i32 1)).cell? ⟨r, 6, none⟩ = some (.map (some m)) := Sm.cells_of hr1 6 _ (by rw [Array.getElem?_setIfInBounds]; rfl)
  have hlook := Ri.look_keys (P := Tryz.prog) Tryz.underlying64 Tryz.underlying3 (Ri.zero_pMade _) hm1 he1 i
  obtain ⟨w1, hw1⟩ : ∃ w1, w1 = w.setCell ⟨r, 3, none⟩ (.int .i32 1) := ⟨_, rfl⟩
  rw [← hw1] at LK k1 hr1 hb hm1 he1 c6 hlook
  have s1 : w1.heap.size = w.heap.size := by rw [hw1]; simp
  have HB := Lib.hid hb
  have HR1 := Lib.hid hr1
  have HM1 := Lib.hid hm1
  have HE := Lib.hid he
  have HM := Lib.hid hm
  have H := Lib.hid h
  have HE1 := Lib.hid he1
  have K1 := Lib.hid k1
  rcases hlook with ⟨g, hg, hl⟩ | ⟨hno, hl⟩
  · have HG := Lib.hid hg
    have UL := Lib.hid (Ri.unlock_deferred ⟨r, 3, none⟩ .returning w1 (Sm.cells_of hr1 3 _ (by rw [Array.getElem?_setIfInBounds]; rfl)) (Sm.free_of hr1 3))
    clear hw1 c3 f3 k1 hr1 hb hm hm1 he he1 h hg hne s1
    go_enter_defers Tryz.func52, Tryz.ntmps52
    go_wp2_with fail
    refine (LK.out).mono ?_
    rintro e w2 ⟨rfl, rfl⟩
    go_wp2_with fail
    refine leaves_cons (f := 32) (args := #[.pointer (some ⟨r, 3, none⟩)]) (by simp) (by simp [go_sem]) ?_
    refine (UL.out).mono ?_
    rintro e u' w'' ⟨rfl, rfl, rfl⟩
    rw [HB.out]
    have hgw : Ri.MadeAt w g (Ri.key M.data.toList i) := by
      by_cases hgr : g = r
      · have := Ri.ne_type HG.out HR1.out Ri.made_ring
        exact absurd hgr this
      · rw [← HB.out]
        exact (Below.heap_setCell _ _ _ _ hgr).trans HG.out
    exact ⟨_, results_tmp rfl _ _ _, g, rfl, Sm.grown_refl _ _, H.out.ring, .inl ⟨hgw, H.out.keys⟩⟩
  · obtain ⟨mz, hmz⟩ : ∃ z, z = Ri.made0 := ⟨_, rfl⟩
    have hzz := (zero_of_info Ri.zeroMade).1
    have hms := Ri.made0_size
    have hmo := Ri.made0_one
    rw [← hmz] at hzz hms hmo
    have BE : Hid (Tryz.prog.built 113 [] = some mz) := by
      show _ = _
      rw [hmz]; exact Ri.builtMade
    have hst : (storeCells ⟨w1.heap.size, 0, none⟩ mz.toList).run Tryz.prog (w1.alloc (.cells mz 113)) = .ok () (w1.alloc (.cells mz 113)) :=
      run_storeCells_new (P := Tryz.prog) w1 113 mz _ (Ri.infoMade hms) rfl hmo
    obtain ⟨g, hgg⟩ : ∃ g, g = w1.heap.size := ⟨_, rfl⟩
    have hlr : r < g := by have := h.lt.1; omega
    have hlm : m < g := by have := h.lt.2; omega
    have b2 : Below g w1 (w1.alloc (.cells mz 113)) := by rw [hgg]; exact (Below.refl _ w1).alloc (Nat.le_refl _) _
    have hg2 : (w1.alloc (.cells mz 113)).heap[g]? = some (.cells mz 113 (0, 0)) := by rw [hgg]; exact heap_alloc_new w1 _
    have hm2 := (b2.block m hlm).trans hm1
    have hr2 := (b2.block r hlr).trans hr1
    have c62 : (w1.alloc (.cells mz 113)).cell? ⟨r, 6, none⟩ = some (.map (some m)) := Sm.cells_of hr2 6 _ (by rw [Array.getElem?_setIfInBounds]; rfl)
    have hput := Ri.put_keys (P := Tryz.prog) Tryz.underlying64 Tryz.underlying3 hm2 (fun e hx => by obtain ⟨j, _, a, _⟩ := he e hx; exact ⟨j, a⟩) i hno (.pointer (some ⟨g, 0, none⟩))
    obtain ⟨es2, hes2⟩ : ∃ es2, es2 = es.push { key := .int .i64 i, val := .pointer (some ⟨g, 0, none⟩), born := c } := ⟨_, rfl⟩
    rw [← hes2] at hput
    obtain ⟨w3, hw3⟩ : ∃ w3, w3 = setBlock (w1.alloc (.cells mz 113)) m (.map es2 (c + 1)) := ⟨_, rfl⟩
    have hr3 : w3.heap[r]? = some (.cells ((Ri.cells M boot n cur m).setIfInBounds 3 (.int .i32 1)) 66 (0, 0)) := by rw [hw3, Ri.block_other hne]; exact hr2
    have hm3 : w3.heap[m]? = some (.map es2 (c + 1)) := by rw [hw3]; exact Ri.block_set (Sm.lt_of hm2)
    have hg3 : w3.heap[g]? = some (.cells mz 113 (0, 0)) := by rw [hw3, Ri.block_other (by omega)]; exact hg2
    have hs3 : w3.heap.size = w.heap.size + 1 := by rw [hw3, Ri.block_size]; simp; omega
    have ho3 : ∀ b, b < w.heap.size → b ≠ m → b ≠ r → w3.heap[b]? = w.heap[b]? := fun b hb h1 h2 => by
      rw [hw3, Ri.block_other h1]
      exact (b2.block b (by omega)).trans (k1.block b hb (fun e => h2 (Option.some.inj e)))
    have hgr3 : w3.os = w.os ∧ w3.tape = w.tape ∧ w3.output = w.output := by
      rw [hw3]
      exact ⟨b2.os.trans k1.os, b2.tape.trans k1.tape, b2.output.trans k1.output⟩
    have hr4 := Sm.heap_set hr3 3 (.int .i32 0)
    rw [Ri.cells_back] at hr4
    have UL := Lib.hid (Ri.unlock_deferred ⟨r, 3, none⟩ .returning w3 (Sm.cells_of hr3 3 _ (by rw [Array.getElem?_setIfInBounds]; rfl)) (Sm.free_of hr3 3))
    have POST : Hid (Ri.Slot w r m M boot n cur i (.returned (.pointer (some ⟨g, 0, none⟩))) (w3.setCell ⟨r, 3, none⟩ (.int .i32 0))) := by
      refine ⟨g, rfl, ⟨hgr3.1, hgr3.2.1, hgr3.2.2, by simp; omega, fun b hb hn => ?_⟩, hr4, .inr ⟨by omega, ?_, es2, c + 1, ?_, fun e hx => ?_⟩⟩
      · by_cases hbr : b = r
        · rw [hbr, hr4, h.ring]
        · rw [Below.heap_setCell _ _ _ _ hbr]
          exact ho3 b hb (fun e => hn (by rw [e])) hbr
      · rw [Below.heap_setCell _ _ _ _ (by show g ≠ r; omega), hg3, hmz]
      · rw [Below.heap_setCell _ _ _ _ (by show m ≠ r; omega)]; exact hm3
      · rw [hes2, Array.toList_push, List.mem_append, List.mem_singleton] at hx
        rcases hx with hx | rfl
        · exact .inl (he e hx)
        · exact .inr ⟨rfl, rfl⟩
    rw [← hw3, hgg] at hput
    rw [hgg] at POST
    clear hw1 c3 f3 k1 hr1 hb hm hm1 he he1 h hne s1 hno hms hmo hlr hlm b2 hg2 hm2 hr2 hes2 hr3 hm3 hg3 hs3 ho3 hgr3 hr4 hmz HB HR1 HM1 HE HM H HE1 K1
    clear hw3 hgg
    go_enter_defers Tryz.func52, Tryz.ntmps52
    go_wp2_with fail
    refine (LK.out).mono ?_
    rintro e w2 ⟨rfl, rfl⟩
    go_wp2_with (with_reducible refine wpList_build_eq rfl 113 _ rfl mz (by with_unfolding_all exact BE.out) ?_)
    refine leaves_cons (f := 32) (args := #[.pointer (some ⟨r, 3, none⟩)]) (by simp) (by simp [go_sem]) ?_
    refine (UL.out).mono ?_
    rintro e u' w'' ⟨rfl, rfl, rfl⟩
    refine ⟨_, results_tmp rfl _ _ _, ?_⟩
    have hp := POST.out
    generalize w3.setCell ⟨r, 3, none⟩ (.int .i32 0) = w4 at *
    exact hp
end Go.Proofs.YtapogiihkbjppaaGreatDoor
