/-
  net's own: a packet with bytes of its own.
-/
import Derived.Test.YtimbcmcmidnlfaaNtConcat
import Derived.Test.YtimbcmcmidnlfaaShelf
import Derived.Laws.ResultCell
namespace Go.Proofs.Ytimbcmcmidnlfaa
open Go.RowKit
set_option maxRecDepth 100000 in
theorem nt_clone (w : World) (s : ByteArray) (h : s.size ≤ 281474976710656) : Calls Try.prog 59 #[.string s] w fun e w' => e = .returned (.string s) ∧ Below w.heap.size w w' := by
  have CL := Lib.hid (stringslite_Clone s w h)
  clear h
  go_enter Try.func59, Try.ntmps59
  go_wp2_with fail
  refine CL.out.mono ?_
  rintro e w1 ⟨rfl, b1⟩
  go_wp2_with fail
  go_ret
  exact ⟨rfl, b1⟩
set_option maxRecDepth 100000 in
theorem ntOwn_any (w : World) (p : Nt.Pk) (h : p.d.size ≤ 1099511627776) : Calls Try.prog 35 #[.agg p.cells.toArray] w fun e w' => e = .returned (.agg p.cells.toArray) ∧ Below w.heap.size w w' := by
  obtain ⟨f, t, d⟩ := p
  simp only at h
  have SC : Hid (∀ wx : World, Calls Try.prog 59 #[.string d] wx fun e w' => e = .returned (.string d) ∧ Below wx.heap.size wx w') := fun wx => nt_clone wx d (by omega)
  unfold Nt.Pk.cells
  simp only
  obtain ⟨N, hN⟩ : ∃ N, N = w.heap.size := ⟨_, rfl⟩
  obtain ⟨w1, hw1⟩ : ∃ x, x = (w.alloc (.cells #[.int .i64 f, .int .i64 t, .string d] 25)).alloc (.cells #[.int .i64 0, .int .i64 0, .string ⟨#[]⟩] 25) := ⟨_, rfl⟩
  have b1 : Below N w w1 := by rw [hw1, hN]; exact ((Below.refl _ w).alloc (Nat.le_refl _) _).alloc (by simp) _
  have g0 : w1.heap[N]? = some (.cells #[.int .i64 f, .int .i64 t, .string d] 25 (0, 0)) := by
    rw [hw1, hN, Below.heap_alloc _ _ _ (by simp)]; exact heap_alloc_new w _
  have g1 : w1.heap[N + 1]? = some (.cells #[.int .i64 0, .int .i64 0, .string ⟨#[]⟩] 25 (0, 0)) := by
    rw [hw1, hN]; simpa using heap_alloc_new (w.alloc (.cells #[.int .i64 f, .int .i64 t, .string d] 25)) (.cells #[.int .i64 0, .int .i64 0, .string ⟨#[]⟩] 25)
  have HN := Lib.hid hN
  clear h hN
  go_enter Try.func35, Try.ntmps35
  go_wp2_with fail
  rw [← hw1, ← HN.out]
  clear hw1
  refine (SC.out w1).mono ?_
  rintro e w2 ⟨rfl, k2⟩
  have b2 := b1.trans (k2.mono (by rw [HN.out]; exact b1.size))
  have g0 := (k2.block N (Sm.lt_of g0)).trans g0
  have g1 := (k2.block (N + 1) (Sm.lt_of g1)).trans g1
  clear k2 b1 SC
  have g3 := Sm.heap_set g0 2 (.string d)
  have g4 := (Below.heap_setCell w2 ⟨N, 2, none⟩ (.string d) (N + 1) (by show N + 1 ≠ N; omega)).trans g1
  have c2 := Sm.cells_of g0 2 _ rfl
  have f2 := Sm.free_of g0 2
  have b3 := b2.setCell (p := ⟨N, 2, none⟩) (Nat.le_refl N) (.string d)
  clear g0 g1 b2
  obtain ⟨w3, hw3⟩ : ∃ x, x = w2.setCell ⟨N, 2, none⟩ (.string d) := ⟨_, rfl⟩
  rw [← hw3] at g3 g4 b3
  have d0 := Sm.cells_of g3 0 (.int .i64 f) rfl
  have d1 := Sm.cells_of g3 1 (.int .i64 t) rfl
  have d2 := Sm.cells_of g3 2 (.string d) rfl
  have e0 := Sm.cells_of g4 0 _ rfl
  have e1 := Sm.cells_of g4 1 _ rfl
  have e2 := Sm.cells_of g4 2 _ rfl
  have f0 := Sm.free_of g4 0
  have f1 := Sm.free_of g4 1
  have f3 := Sm.free_of g4 2
  have B3 := Lib.hid b3
  have G4 := Lib.hid g4
  clear g3 g4 b3
  go_upto_region 2 with (fail)
  rw [← hw3]
  clear hw3 c2 f2
  go_wp2
  refine bodyPost_ret (v := .agg #[.int .i64 f, .int .i64 t, .string d]) ?_ rfl ⟨rfl, ?_⟩
  · refine results_cell_row rfl _ _ (N + 1) 25 #[.int .i64 f, .int .i64 t, .string d] (0, 0) _ rfl ?_ Try.underlying25 rfl (by kernel_rfl)
    exact Sm.heap_set (Sm.heap_set (Sm.heap_set G4.out 0 (.int .i64 f)) 1 (.int .i64 t)) 2 (.string d)
  · rw [← HN.out]
    exact ((B3.out.setCell (p := ⟨N + 1, 0, none⟩) (by show N ≤ N + 1; omega) _).setCell (p := ⟨N + 1, 1, none⟩) (by show N ≤ N + 1; omega) _).setCell (p := ⟨N + 1, 2, none⟩) (by show N ≤ N + 1; omega) _
end Go.Proofs.Ytimbcmcmidnlfaa
