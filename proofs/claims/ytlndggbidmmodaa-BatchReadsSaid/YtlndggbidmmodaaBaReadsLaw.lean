/-
  BatchReads.
-/
import Derived.Test.YtlndggbidmmodaaR12Read
import Derived.Test.YtlndggbidmmodaaBaAwake
import Derived.Test.YtlndggbidmmodaaBaBackLaw
namespace Go.Proofs.Ytlndggbidmmodaa
open Go.RowKit Pk
set_option maxRecDepth 100000 in
set_option maxHeartbeats 8000000 in
theorem batchreads_any (w : World) (s : ByteArray) :
    Calls Try.prog 5 #[.string s] w fun e w' => e = .returned (.bool true) ∧ Below w.heap.size w w' := by
  have AW := Lib.hid (fun wx => awake12_any wx)
  by_cases hs : 3000 < s.size
  · have hsi : (3000 : Int) < s.size := by omega
    obtain ⟨u, hu⟩ : ∃ u, u = s.extract 0 3000 := ⟨_, rfl⟩
    have hul : u.size = 3000 := by rw [hu]; exact Ba.cut3000 hs
    have HU := Lib.hid hu
    clear hu
    have RD : Hid (∀ wx : World, Calls Try.prog 23 #[.string u] wx fun e w' => ∃ A c, e = .returned (.tuple #[.agg #[.int .i64 (Ba.read u).1.ix, .int .i64 (Ba.read u).1.ep, .slice A (Ba.read u).1.ops.length c], .int .i64 ((Ba.read u).2 : Nat)]) ∧ Ba.listAt w' A (Ba.read u).1.ops ∧ Below wx.heap.size wx w') := fun wx => baRead_any wx u (by omega)
    have RR : Hid (∀ wx : World, Calls Try.prog 24 #[.string u] wx fun e w' => ∃ A c, e = .returned (.tuple #[.agg #[.int .i64 (Ba.read u).1.ix, .int .i64 (Ba.read u).1.ep, .slice A (Ba.read u).1.ops.length c], .int .i64 ((Ba.read u).2 : Nat)]) ∧ Ba.listAt w' A (Ba.read u).1.ops ∧ Below wx.heap.size wx w') := fun wx => r12Read_any wx u (by omega)
    have hgl : (Ba.read u).1.ops.length ≤ 9223372036854775807 := by
      unfold Ba.read
      split
      · have := (Ba.got_small u).1; simp only; omega
      · simp [Ba.zero]
    obtain ⟨gb, hgb⟩ : ∃ g, g = (Ba.read u).1 := ⟨_, rfl⟩
    obtain ⟨E, hE⟩ : ∃ g, g = (Ba.read u).2 := ⟨_, rfl⟩
    rw [← hgb, ← hE] at RD RR
    rw [← hgb] at hgl
    obtain ⟨gx, ge, G⟩ := gb
    simp only at RD RR hgl
    have SA : Hid (∀ (wx : World) (A A' : Option Addr) (c c' : Nat), Ba.listAt wx A G → Ba.listAt wx A' G → Calls Try.prog 20 #[.agg #[.int .i64 gx, .int .i64 ge, .slice A G.length c], .agg #[.int .i64 gx, .int .i64 ge, .slice A' G.length c']] wx fun e w' => e = .returned (.bool true) ∧ Below wx.heap.size wx w') := fun wx A A' c c' h1 h2 => r12Same_any ⟨gx, ge, G⟩ ⟨gx, ge, G⟩ c c' h1 h2 hgl true (by simp)
    have hEE : ((E : Int) == (E : Int)) = true := by simp
    clear hgb hE hgl
    go_enter Try.func5, Try.ntmps5
    go_upto_region 3 with (fail)
    rw [← HU.out]
    go_wp2_with fail
    refine (RD.out _).mono ?_
    rintro e w1 ⟨A1, c1, rfl, h1, k1⟩
    have z0 : (w1.alloc (.cells #[.int .i64 0, .int .i64 0, .slice none 0 0] 31)).frozen? ⟨w1.heap.size, 0, none⟩ = false := Sm.free_of (heap_alloc_new w1 _) 0
    have k2 : Below w1.heap.size w1 (w1.alloc (.cells #[.int .i64 gx, .int .i64 ge, .slice A1 G.length c1] 31)) := (Below.refl _ w1).alloc (Nat.le_refl _) _
    have P2 := Lib.hid (heap_alloc_new w1 (.cells #[.int .i64 gx, .int .i64 ge, .slice A1 G.length c1] 31))
    have L2 := Lib.hid (h1.below k2)
    have B2 := Lib.hid (k1.trans (k2.mono k1.size))
    clear h1 k1 k2
    go_upto_region 4 with (fail)
    obtain ⟨P, hP⟩ : ∃ P, P = w1.heap.size := ⟨_, rfl⟩
    rw [← hP] at P2 ⊢
    clear hP z0
    generalize w1.alloc (.cells #[.int .i64 gx, .int .i64 ge, .slice A1 G.length c1] 31) = w2 at *
    go_wp2_with fail
    refine (RR.out _).mono ?_
    rintro e w3 ⟨A2, c2, rfl, h3, k3⟩
    have z0 : (w3.alloc (.cells #[.int .i64 0, .int .i64 0, .slice none 0 0] 31)).frozen? ⟨w3.heap.size, 0, none⟩ = false := Sm.free_of (heap_alloc_new w3 _) 0
    have k4 : Below w3.heap.size w3 (w3.alloc (.cells #[.int .i64 gx, .int .i64 ge, .slice A2 G.length c2] 31)) := (Below.refl _ w3).alloc (Nat.le_refl _) _
    have Q4 := Lib.hid (heap_alloc_new w3 (.cells #[.int .i64 gx, .int .i64 ge, .slice A2 G.length c2] 31))
    have P4 := Lib.hid ((k4.block P (Nat.lt_of_lt_of_le (Sm.lt_of P2.out) k3.size)).trans ((k3.block P (Sm.lt_of P2.out)).trans P2.out))
    have L4 := Lib.hid ((L2.out.below k3).below k4)
    have M4 := Lib.hid (h3.below k4)
    have B3 := B2.out.trans (k3.mono B2.out.size)
    have B4 := Lib.hid (B3.trans (k4.mono B3.size))
    clear h3 k3 k4 B3 B2 L2 P2
    go_upto_region 5 with (fail)
    obtain ⟨Q, hQ⟩ : ∃ P, P = w3.heap.size := ⟨_, rfl⟩
    rw [← hQ] at Q4 ⊢
    clear hQ z0
    generalize w3.alloc (.cells #[.int .i64 gx, .int .i64 ge, .slice A2 G.length c2] 31) = w4 at *
    have p0 := Sm.cells_of P4.out 0 _ rfl
    have p1 := Sm.cells_of P4.out 1 _ rfl
    have p2 := Sm.cells_of P4.out 2 _ rfl
    have q0 := Sm.cells_of Q4.out 0 _ rfl
    have q1 := Sm.cells_of Q4.out 1 _ rfl
    have q2 := Sm.cells_of Q4.out 2 _ rfl
    go_wp2_with fail
    refine (SA.out _ _ _ _ _ L4.out M4.out).mono ?_
    rintro e w5 ⟨rfl, k5⟩
    have B5 := Lib.hid (B4.out.trans (k5.mono B4.out.size))
    clear k5 P4 Q4 L4 M4 B4 p0 p1 p2 q0 q1 q2
    go_wp2_with fail
    refine (AW.out _).mono ?_
    rintro e w6 ⟨rfl, k6⟩
    go_wp2_with fail
    go_ret
    exact ⟨rfl, B5.out.trans (k6.mono B5.out.size)⟩
  · have hsi : ¬ (3000 : Int) < s.size := by omega
    obtain ⟨u, hu⟩ : ∃ u, u = s := ⟨_, rfl⟩
    subst hu
    have RD : Hid (∀ wx : World, Calls Try.prog 23 #[.string u] wx fun e w' => ∃ A c, e = .returned (.tuple #[.agg #[.int .i64 (Ba.read u).1.ix, .int .i64 (Ba.read u).1.ep, .slice A (Ba.read u).1.ops.length c], .int .i64 ((Ba.read u).2 : Nat)]) ∧ Ba.listAt w' A (Ba.read u).1.ops ∧ Below wx.heap.size wx w') := fun wx => baRead_any wx u (by omega)
    have RR : Hid (∀ wx : World, Calls Try.prog 24 #[.string u] wx fun e w' => ∃ A c, e = .returned (.tuple #[.agg #[.int .i64 (Ba.read u).1.ix, .int .i64 (Ba.read u).1.ep, .slice A (Ba.read u).1.ops.length c], .int .i64 ((Ba.read u).2 : Nat)]) ∧ Ba.listAt w' A (Ba.read u).1.ops ∧ Below wx.heap.size wx w') := fun wx => r12Read_any wx u (by omega)
    have hgl : (Ba.read u).1.ops.length ≤ 9223372036854775807 := by
      unfold Ba.read
      split
      · have := (Ba.got_small u).1; simp only; omega
      · simp [Ba.zero]
    obtain ⟨gb, hgb⟩ : ∃ g, g = (Ba.read u).1 := ⟨_, rfl⟩
    obtain ⟨E, hE⟩ : ∃ g, g = (Ba.read u).2 := ⟨_, rfl⟩
    rw [← hgb, ← hE] at RD RR
    rw [← hgb] at hgl
    obtain ⟨gx, ge, G⟩ := gb
    simp only at RD RR hgl
    have SA : Hid (∀ (wx : World) (A A' : Option Addr) (c c' : Nat), Ba.listAt wx A G → Ba.listAt wx A' G → Calls Try.prog 20 #[.agg #[.int .i64 gx, .int .i64 ge, .slice A G.length c], .agg #[.int .i64 gx, .int .i64 ge, .slice A' G.length c']] wx fun e w' => e = .returned (.bool true) ∧ Below wx.heap.size wx w') := fun wx A A' c c' h1 h2 => r12Same_any ⟨gx, ge, G⟩ ⟨gx, ge, G⟩ c c' h1 h2 hgl true (by simp)
    have hEE : ((E : Int) == (E : Int)) = true := by simp
    clear hgb hE hgl
    go_enter Try.func5, Try.ntmps5
    go_wp2_with fail
    refine (RD.out _).mono ?_
    rintro e w1 ⟨A1, c1, rfl, h1, k1⟩
    have z0 : (w1.alloc (.cells #[.int .i64 0, .int .i64 0, .slice none 0 0] 31)).frozen? ⟨w1.heap.size, 0, none⟩ = false := Sm.free_of (heap_alloc_new w1 _) 0
    have k2 : Below w1.heap.size w1 (w1.alloc (.cells #[.int .i64 gx, .int .i64 ge, .slice A1 G.length c1] 31)) := (Below.refl _ w1).alloc (Nat.le_refl _) _
    have P2 := Lib.hid (heap_alloc_new w1 (.cells #[.int .i64 gx, .int .i64 ge, .slice A1 G.length c1] 31))
    have L2 := Lib.hid (h1.below k2)
    have B2 := Lib.hid (k1.trans (k2.mono k1.size))
    clear h1 k1 k2
    go_upto_region 4 with (fail)
    obtain ⟨P, hP⟩ : ∃ P, P = w1.heap.size := ⟨_, rfl⟩
    rw [← hP] at P2 ⊢
    clear hP z0
    generalize w1.alloc (.cells #[.int .i64 gx, .int .i64 ge, .slice A1 G.length c1] 31) = w2 at *
    go_wp2_with fail
    refine (RR.out _).mono ?_
    rintro e w3 ⟨A2, c2, rfl, h3, k3⟩
    have z0 : (w3.alloc (.cells #[.int .i64 0, .int .i64 0, .slice none 0 0] 31)).frozen? ⟨w3.heap.size, 0, none⟩ = false := Sm.free_of (heap_alloc_new w3 _) 0
    have k4 : Below w3.heap.size w3 (w3.alloc (.cells #[.int .i64 gx, .int .i64 ge, .slice A2 G.length c2] 31)) := (Below.refl _ w3).alloc (Nat.le_refl _) _
    have Q4 := Lib.hid (heap_alloc_new w3 (.cells #[.int .i64 gx, .int .i64 ge, .slice A2 G.length c2] 31))
    have P4 := Lib.hid ((k4.block P (Nat.lt_of_lt_of_le (Sm.lt_of P2.out) k3.size)).trans ((k3.block P (Sm.lt_of P2.out)).trans P2.out))
    have L4 := Lib.hid ((L2.out.below k3).below k4)
    have M4 := Lib.hid (h3.below k4)
    have B3 := B2.out.trans (k3.mono B2.out.size)
    have B4 := Lib.hid (B3.trans (k4.mono B3.size))
    clear h3 k3 k4 B3 B2 L2 P2
    go_upto_region 5 with (fail)
    obtain ⟨Q, hQ⟩ : ∃ P, P = w3.heap.size := ⟨_, rfl⟩
    rw [← hQ] at Q4 ⊢
    clear hQ z0
    generalize w3.alloc (.cells #[.int .i64 gx, .int .i64 ge, .slice A2 G.length c2] 31) = w4 at *
    have p0 := Sm.cells_of P4.out 0 _ rfl
    have p1 := Sm.cells_of P4.out 1 _ rfl
    have p2 := Sm.cells_of P4.out 2 _ rfl
    have q0 := Sm.cells_of Q4.out 0 _ rfl
    have q1 := Sm.cells_of Q4.out 1 _ rfl
    have q2 := Sm.cells_of Q4.out 2 _ rfl
    go_wp2_with fail
    refine (SA.out _ _ _ _ _ L4.out M4.out).mono ?_
    rintro e w5 ⟨rfl, k5⟩
    have B5 := Lib.hid (B4.out.trans (k5.mono B4.out.size))
    clear k5 P4 Q4 L4 M4 B4 p0 p1 p2 q0 q1 q2
    go_wp2_with fail
    refine (AW.out _).mono ?_
    rintro e w6 ⟨rfl, k6⟩
    go_wp2_with fail
    go_ret
    exact ⟨rfl, B5.out.trans (k6.mono B5.out.size)⟩
end Go.Proofs.Ytlndggbidmmodaa
