/-
  WalkNobody answers true for every two numbers, two hashes and row of pairs, and turns nothing of what was there.
-/
import Derived.Test.YtiehcplepneajaaGreatDoorWkThree
import Derived.Test.YtiehcplepneajaaGreatDoorWkTwo
import Derived.Test.YtiehcplepneajaaGreatDoorOmGreat
namespace Go.Proofs.YtiehcplepneajaaGreatDoor
open Go.RowKit
namespace Wk
set_option maxRecDepth 100000 in
theorem wpList_zero {o : Oper} {a : Act} {w : World} {Q : Exit → Act → World → Prop} {ops : Array Oper} {rest : List Oper} (ho : o.op = .build 36 #[]) {cz : Array Value} (hcz : Tryz.prog.built 36 [] = some cz) (h : wpList Tryz.prog ops Q rest (a.put o.dst (.agg cz)) w) (hgd : Region.wanted o (yielded ops a.tmps) = true) : wpList Tryz.prog ops Q (o :: rest) a w :=
  wpList_step fun L hL => by
    have e0 : ((#[] : Array (Nat × Operand)).map fun (x : Nat × Operand) => (x.1, a.eval x.2)) = #[] := Array.map_empty
    have hb := run_build (P := Tryz.prog) w 36 #[] cz hcz
    rw [if_pos hgd]
    have he : (execOp a.eval o).run Tryz.prog w = .ok (.value (.agg cz)) w := by
      unfold execOp
      rw [ho]
      simp only [e0, Sem.run_bind, Sem.run_pure, hb, Result.andThen_ok]
    unfold Oper.wp
    rw [he, Oper.upon_value]
    exact hL _ _ h
end Wk
set_option maxRecDepth 100000 in
set_option maxHeartbeats 4000000 in
theorem walkNobody_any {w : World} (G : Tr.Gd w) (level i : Int) {x y : List UInt8} (hx : x.length = 32) (hy : y.length = 32) {A : Option Addr} {l : List Om.Pr} (c : Nat) (hit : Om.listAt w A l) :
    Calls Tryz.prog 4 #[.int .i64 level, .int .i64 i, .agg (Lib.byteCells x).toArray, .agg (Lib.byteCells y).toArray, .slice A l.length c] w fun e w' => e = .returned (.bool true) ∧ Below w.heap.size w w' := by
  obtain ⟨cx, hcx⟩ : ∃ c, c = (Lib.byteCells x).toArray := ⟨_, rfl⟩
  obtain ⟨cy, hcy⟩ : ∃ c, c = (Lib.byteCells y).toArray := ⟨_, rfl⟩
  have sx : cx.size = 32 := by rw [hcx]; exact Tr.size32 hx
  have sy : cy.size = 32 := by rw [hcy]; exact Tr.size32 hy
  obtain ⟨w2, hw2⟩ : ∃ w2, w2 = (w.alloc (.cells cx 36)).alloc (.cells cy 36) := ⟨_, rfl⟩
  obtain ⟨N, hN⟩ : ∃ N, N = w.heap.size := ⟨_, rfl⟩
  have b2 : Below w.heap.size w w2 := by rw [hw2]; exact ((Below.refl _ w).alloc (Nat.le_refl _) _).alloc (by simp) _
  have g0 : w2.heap[N]? = some (.cells cx 36 (0, 0)) := by rw [hw2, hN, Below.heap_alloc _ _ _ (by simp)]; exact heap_alloc_new _ _
  have g1 : w2.heap[N + 1]? = some (.cells cy 36 (0, 0)) := by
    have := heap_alloc_new (w.alloc (.cells cx 36)) (.cells cy 36)
    rw [hw2, hN]
    simpa using this
  have hN1 : (w.alloc (.cells cx 36)).heap.size = N + 1 := by rw [hN]; simp
  have AW : Hid (∀ wx : World, Below w2.heap.size w2 wx → Calls Tryz.prog 14 #[] wx fun e w' => e = .returned (.bool true) ∧ Below wx.heap.size wx w') := fun wx hb => awake16_any ((G.low b2).low hb)
  have hit2 := hit.below b2
  obtain ⟨g, hg⟩ := Om.fairL_or l
  have GP := Lib.hid (greatPairs_any (c := c) hit2 g hg)
  have HB2 := Lib.hid b2
  rw [← hcx, ← hcy]
  cases g with
  | true =>
    clear hit hit2 hg G hcx hcy b2 g0 g1
    go_enter Tryz.func4, Tryz.ntmps4
    go_upto_region 1 with (fail)
    change Code.wp _ _ _ _ ((w.alloc (.cells cx 36)).alloc (.cells cy 36))
    rw [← hw2, ← hN]
    clear hw2 hN hN1
    go_wp2_with first
      | (go_at_call 13; refine GP.out.mono ?_; rintro e w3 ⟨rfl, rfl⟩)
      | (go_at_call 14; refine (AW.out _ (Below.refl _ _)).mono ?_; rintro e w3 ⟨rfl, k3⟩; have K3 := Lib.hid k3; clear k3)
    go_ret
    exact ⟨rfl, HB2.out.trans (K3.out.mono HB2.out.size)⟩
  | false =>
    have hf : Om.FairL l := by
      rcases Classical.em (Om.FairL l) with q | q
      · exact q
      · exact absurd (hg.2 q) (by decide)
    have PG : Hid (∀ wx : World, Below w2.heap.size w2 wx → Calls Tryz.prog 30 #[.pointer none, .int .i64 i, .slice A l.length c] wx fun e w' => e = .returned (.bool false) ∧ Below wx.heap.size wx w') := fun wx k => wkPage_nil ((G.low b2).low k) i c (hit2.below k) (by have := hf.1; omega) (fun z hz => by have := hf.mem z hz; omega)
    have ND : Hid (∀ wx : World, Below w2.heap.size w2 wx → Calls Tryz.prog 29 #[.pointer none, .int .i64 level, .int .i64 i, .agg cx, .agg cy] wx fun e w' => e = .returned (.bool false) ∧ Below wx.heap.size wx w') := fun wx k => by rw [hcx, hcy]; exact wkNode_nil ((G.low b2).low k) level i hx hy
    obtain ⟨cz, hcz⟩ : ∃ c, c = (Lib.byteCells Tr.zeros).toArray := ⟨_, rfl⟩
    have heq : ∀ wx : World, (Op.equalIn 10000 36 (.agg cz) (.agg cz)).run Tryz.prog wx = .ok true wx := fun wx => by
      have := Sm.eq_hash Tr.zeros Tr.zeros Tr.zeros_length Tr.zeros_length wx
      rw [← hcz] at this
      rw [this]
      simp
    have RT : Hid (∀ wx : World, Calls Tryz.prog 26 #[.pointer none] wx fun e w' => e = .returned (.agg cz) ∧ Below wx.heap.size wx w') := fun wx => by rw [hcz]; exact wkRoot_nil wx
    have HCZ : Hid (Tryz.prog.built 36 [] = some cz) := by show _ = _; rw [hcz]; exact Tr.hash_built
    have HG0 := Lib.hid g0
    have HG1 := Lib.hid g1
    clear hit hit2 hg G hcx hcy b2 g0 g1 hcz hf
    go_enter Tryz.func4, Tryz.ntmps4
    go_upto_region 1 with (fail)
    change Code.wp _ _ _ _ ((w.alloc (.cells cx 36)).alloc (.cells cy 36))
    rw [← hw2, ← hN]
    clear hw2 hN hN1
    go_wp2_with first
      | (go_at_call 13; refine GP.out.mono ?_; rintro e w3 ⟨rfl, rfl⟩)
      | (go_at_call 23; refine (wkDone_nil _).mono ?_; rintro e w3 ⟨rfl, k3⟩; have B3 := Lib.hid k3; clear k3)
      | (go_at_call 22; refine (wkWant_nil _ _).mono ?_; rintro e w4 ⟨rfl, k4⟩; have B4 := Lib.hid (B3.out.trans (k4.mono B3.out.size)); have L0 := Lib.hid ((B4.out.block _ (Sm.lt_of HG0.out)).trans HG0.out); have L1 := Lib.hid ((B4.out.block _ (Sm.lt_of HG1.out)).trans HG1.out); clear k4)
      | (refine Sm.wpList_load_row_g 36 (.tmp 7) rfl N rfl 36 cx (0, 0) _ (by exact L0.out) Tryz.underlying36 rfl (Sm.infoHash sx) ?_ ?_; rotate_left; rfl)
      | (refine Sm.wpList_load_row_g 36 (.tmp 8) rfl (N + 1) rfl 36 cy (0, 0) _ (by exact L1.out) Tryz.underlying36 rfl (Sm.infoHash sy) ?_ ?_; rotate_left; rfl)
      | (go_at_call 29; refine (ND.out _ B4.out).mono ?_; rintro e w5 ⟨rfl, k5⟩; have B5 := Lib.hid (B4.out.trans (k5.mono B4.out.size)); clear k5)
      | (go_at_call 30; refine (PG.out _ B5.out).mono ?_; rintro e w6 ⟨rfl, k6⟩; have B6 := Lib.hid (B5.out.trans (k6.mono B5.out.size)); clear k6)
      | (go_at_call 26; refine (RT.out _).mono ?_; rintro e w7 ⟨rfl, k7⟩; have B7 := Lib.hid (B6.out.trans (k7.mono B6.out.size)); clear k7)
      | (refine Wk.wpList_zero rfl HCZ.out ?_ ?_; rotate_left; rfl)
      | (go_at_call 28; refine (wkTexts_nil _).mono ?_; rintro e w8 ⟨rfl, k8⟩; have B8 := Lib.hid (B7.out.trans (k8.mono B7.out.size)); clear k8)
      | (go_at_call 14; refine (AW.out _ B8.out).mono ?_; rintro e w9 ⟨rfl, k9⟩; have B9 := Lib.hid (B8.out.trans (k9.mono B8.out.size)); clear k9)
    go_ret
    exact ⟨rfl, HB2.out.trans (B9.out.mono HB2.out.size)⟩
end Go.Proofs.YtiehcplepneajaaGreatDoor
