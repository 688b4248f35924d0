/-
  TreeNobody answers true for every two texts and two numbers, and turns nothing of what was there.
-/
import Derived.Test.YtkoipingokglpaaDoorTrE
namespace Go.Proofs.YtkoipingokglpaaDoor
open Go.RowKit
namespace Tr
set_option maxRecDepth 100000 in
theorem wpList_zero {o : Oper} {a : Act} {w : World} {Q : Exit → Act → World → Prop} {ops : Array Oper} {rest : List Oper} (ho : o.op = .build 23 #[]) {cz : Array Value} (hcz : Tryd.prog.built 23 [] = some cz) (h : wpList Tryd.prog ops Q rest (a.put o.dst (.agg cz)) w) (hgd : Region.wanted o (yielded ops a.tmps) = true) : wpList Tryd.prog ops Q (o :: rest) a w :=
  wpList_step fun L hL => by
    have e0 : ((#[] : Array (Nat × Operand)).map fun (x : Nat × Operand) => (x.1, a.eval x.2)) = #[] := Array.map_empty
    have hb := run_build (P := Tryd.prog) w 23 #[] cz hcz
    rw [if_pos hgd]
    have he : (execOp a.eval o).run Tryd.prog w = .ok (.value (.agg cz)) w := by
      unfold execOp
      rw [ho]
      simp only [e0, Sem.run_bind, Sem.run_pure, hb, Result.andThen_ok]
    unfold Oper.wp
    rw [he, Oper.upon_value]
    exact hL _ _ h
end Tr
set_option maxRecDepth 100000 in
theorem tSet_nil (w : World) (p v : ByteArray) : Calls Tryd.prog 16 #[.pointer none, .string p, .string v] w fun e w' => e = .returned (.int .i64 2) ∧ w = w' := by
  go_enter Tryd.func16, Tryd.ntmps16
  go_wp2
  go_ret
  exact ⟨rfl, rfl⟩
set_option maxRecDepth 100000 in
theorem tDrop_nil (w : World) (p : ByteArray) : Calls Tryd.prog 17 #[.pointer none, .string p] w fun e w' => e = .returned (.bool false) ∧ w = w' := by
  go_enter Tryd.func17, Tryd.ntmps17
  go_wp2
  go_ret
  exact ⟨rfl, rfl⟩
set_option maxRecDepth 100000 in
theorem tTwin_nil (w : World) : Calls Tryd.prog 22 #[.pointer none] w fun e w' => e = .returned (.pointer none) ∧ w = w' := by
  go_enter Tryd.func22, Tryd.ntmps22
  go_wp2
  go_ret
  exact ⟨rfl, rfl⟩
set_option maxRecDepth 100000 in
set_option maxHeartbeats 4000000 in
theorem treeNobody_any {w : World} (G : Tr.Gd w) (p : ByteArray) (hp : p.size ≤ 9223372036854775807) (v : ByteArray) (hv : v.size ≤ 9223372036854775807) (level i : Int) :
    Calls Tryd.prog 4 #[.string p, .string v, .int .i64 level, .int .i64 i] w fun e w' => e = .returned (.bool true) ∧ Below w.heap.size w w' := by
  have AW : Hid (∀ wx : World, Below w.heap.size w wx → Calls Tryd.prog 10 #[] wx fun e w' => e = .returned (.bool true) ∧ Below wx.heap.size wx w') := fun wx hb => awake15_any (G.low hb)
  clear G
  by_cases h1 : 1000 < p.size
  · have h1i : (1000 : Int) < (p.size : Int) := by omega
    go_enter Tryd.func4, Tryd.ntmps4
    go_wp2_with (go_at_call 10; refine (AW.out _ (Below.refl _ _)).mono ?_; rintro e w3 ⟨rfl, k3⟩)
    go_ret
    exact ⟨rfl, k3⟩
  have h1i : ¬ (1000 : Int) < (p.size : Int) := by omega
  by_cases h2 : 1000 < v.size
  · have h2i : (1000 : Int) < (v.size : Int) := by omega
    go_enter Tryd.func4, Tryd.ntmps4
    go_wp2_with (go_at_call 10; refine (AW.out _ (Below.refl _ _)).mono ?_; rintro e w3 ⟨rfl, k3⟩)
    go_ret
    exact ⟨rfl, k3⟩
  have h2i : ¬ (1000 : Int) < (v.size : Int) := by omega
  obtain ⟨cz, hcz⟩ : ∃ c, c = (Lib.byteCells Tr.zeros).toArray := ⟨_, rfl⟩
  have hzs : cz.size = 32 := by rw [hcz]; exact Tr.size32 Tr.zeros_length
  have hone : cz.all (·.oneCell') = true := by rw [hcz]; exact Sm.bytes_one _
  have heq : ∀ wx : World, (Op.equalIn 10000 23 (.agg cz) (.agg cz)).run Tryd.prog wx = .ok true wx := fun wx => by
    have := Sm.eq_hash Tr.zeros Tr.zeros Tr.zeros_length Tr.zeros_length wx
    rw [← hcz] at this
    rw [this]
    simp
  have ND : Hid (∀ wx : World, Calls Tryd.prog 15 #[.pointer none, .int .i64 level, .int .i64 i] wx fun e w' => e = .returned (.tuple #[.agg cz, .bool false]) ∧ Below wx.heap.size wx w') := fun wx => by rw [hcz]; exact tNode_nil wx level i
  have RT : Hid (∀ wx : World, Calls Tryd.prog 18 #[.pointer none] wx fun e w' => e = .returned (.agg cz) ∧ Below wx.heap.size wx w') := fun wx => by rw [hcz]; exact tRoot_nil wx
  have HCZ : Hid (Tryd.prog.built 23 [] = some cz) := by show _ = _; rw [hcz]; exact Tr.hash_built
  clear hcz h1 h2 hp hv
  go_enter Tryd.func4, Tryd.ntmps4
  go_upto_region 4 with (fail)
  go_wp2_with fail
  refine (ND.out _).mono ?_
  rintro e w1 ⟨rfl, k1⟩
  have B1 := Lib.hid k1
  have hst : ∀ (c : Array Value), c.size = 32 → (storeCells ⟨w1.heap.size, 0, none⟩ cz.toList).run Tryd.prog (w1.alloc (.cells c 23)) = .ok () (w1.alloc (.cells cz 23)) := fun c hc =>
    run_storeCells_new (P := Tryd.prog) w1 23 c cz (Sm.infoHash hzs) (by rw [hzs]; exact hc) hone
  have G2 := Lib.hid (heap_alloc_new w1 (.cells cz 23))
  have B2 : Hid (Below w.heap.size w (w1.alloc (.cells cz 23))) := B1.out.alloc B1.out.size _
  clear k1
  go_upto_region 5 with (fail)
  clear hst
  generalize w1.alloc (.cells cz 23) = W2 at *
  generalize w1.heap.size = N at *
  go_wp2_with first
    | (go_at_call 16; refine (tSet_nil _ _ _).mono ?_; rintro e w3 ⟨rfl, rfl⟩)
    | (go_at_call 17; refine (tDrop_nil _ _).mono ?_; rintro e w3 ⟨rfl, rfl⟩)
    | (go_at_call 18; refine (RT.out _).mono ?_; rintro e w4 ⟨rfl, k4⟩; have B4 : Hid (Below w.heap.size w w4) := B2.out.trans (k4.mono B2.out.size); have G4 := Lib.hid ((k4.block _ (Sm.lt_of G2.out)).trans G2.out); clear k4)
    | (refine Tr.wpList_zero rfl HCZ.out ?_ (by rfl))
    | (refine Sm.wpList_load_row_g 23 (.tmp 10) rfl N rfl 23 cz (0, 0) _ (by exact G4.out) Tryd.underlying23 rfl (Sm.infoHash hzs) ?_ ?_; rotate_left; rfl)
    | (go_at_call 19; refine (tPairs_nil _ _).mono ?_; rintro e w5 ⟨rfl, rfl⟩)
    | (go_at_call 20; refine (tAll_nil _).mono ?_; rintro e w6 ⟨A6, c6, rfl, k6⟩; have B6 : Hid (Below w.heap.size w w6) := B4.out.trans (k6.mono B4.out.size); clear k6)
    | (go_at_call 21; refine (tTexts_nil _).mono ?_; rintro e w7 ⟨rfl, rfl⟩)
    | (go_at_call 22; refine (tTwin_nil _).mono ?_; rintro e w8 ⟨rfl, rfl⟩)
    | (go_at_call 10; refine (AW.out _ B6.out).mono ?_; rintro e w9 ⟨rfl, k9⟩)
  go_ret
  exact ⟨rfl, B6.out.trans (k9.mono B6.out.size)⟩
end Go.Proofs.YtkoipingokglpaaDoor
