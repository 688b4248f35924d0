/-
  What the statements' helper bare does.
-/
import Derived.Test.YtpecpcedcjdbhaaRead
namespace Go.Proofs.Ytpecpcedcjdbhaa
open Go.RowKit Pk

/-- What of an item counts. -/
def bareI (a : It) : It :=
  if a.d = 0 then ⟨0, a.n, 0, ⟨#[]⟩, 0, 0⟩
  else if a.d = 1 then ⟨0, 0, a.i, ⟨#[]⟩, 0, 0⟩
  else if a.d = 2 then ⟨0, 0, 0, a.s, 0, 0⟩
  else if a.d = 3 then ⟨0, 0, 0, ⟨#[]⟩, a.b, 0⟩
  else ⟨0, 0, 0, ⟨#[]⟩, 0, 0⟩

theorem two_new {w : World} (o : Obj) (C : Array Value) : ((w.alloc o).alloc (.cells C 24)).heap[w.heap.size + 1]? = some (.cells C 24 (0, 0)) := by
  have := heap_alloc_new (w.alloc o) (.cells C 24)
  simpa using this

set_option maxHeartbeats 4000000 in
theorem bare_any (w : World) (a : It) (ha : a.Ok) :
    Calls Try.prog 31 #[itV a] w fun e w' => e = .returned (itV (bareI a)) ∧ Below w.heap.size w w' := by
  obtain ⟨h1, h2, h3, h4, h5, h6⟩ := ha
  unfold itV bareI
  by_cases d0 : a.d = 0
  · rw [if_pos d0, d0]
    clear d0
    go_enter Try.func31, Try.ntmps31
    go_wp2_with fail
    have q := two_new (w := w) (.cells #[.int .u8 0, .int .u64 a.n, .int .i64 a.i, .string a.s, .int .u8 a.b, .int .i64 a.m] 24) #[.int .u8 0, .int .u64 a.n, .int .i64 0, .string ⟨#[]⟩, .int .u8 0, .int .i64 0]
    have qb : Below w.heap.size w ((w.alloc (.cells #[.int .u8 0, .int .u64 a.n, .int .i64 a.i, .string a.s, .int .u8 a.b, .int .i64 a.m] 24)).alloc (.cells #[.int .u8 0, .int .u64 a.n, .int .i64 0, .string ⟨#[]⟩, .int .u8 0, .int .i64 0] 24)) := ((Below.refl _ w).alloc (Nat.le_refl _) _).alloc (by simp) _
    generalize ((w.alloc (.cells #[.int .u8 0, .int .u64 a.n, .int .i64 a.i, .string a.s, .int .u8 a.b, .int .i64 a.m] 24)).alloc (.cells #[.int .u8 0, .int .u64 a.n, .int .i64 0, .string ⟨#[]⟩, .int .u8 0, .int .i64 0] 24)) = W at *
    have y0 := cells_of q 0 _ rfl
    have y1 := cells_of q 1 _ rfl
    have y2 := cells_of q 2 _ rfl
    have y3 := cells_of q 3 _ rfl
    have y4 := cells_of q 4 _ rfl
    have y5 := cells_of q 5 _ rfl
    exact bodyPost_ret (v := .agg #[.int .u8 0, .int .u64 a.n, .int .i64 0, .string ⟨#[]⟩, .int .u8 0, .int .i64 0]) (by simp [results, Try.results31, go_sem, y0, y1, y2, y3, y4, y5]) rfl ⟨rfl, qb⟩
  · rw [if_neg d0]
    have e0 : ((a.d : Int) == 0) = false := by rw [beq_eq_false_iff_ne]; omega
    by_cases d1 : a.d = 1
    · rw [if_pos d1, d1]
      clear d0 d1 e0
      go_enter Try.func31, Try.ntmps31
      go_wp2_with fail
      have q := two_new (w := w) (.cells #[.int .u8 1, .int .u64 a.n, .int .i64 a.i, .string a.s, .int .u8 a.b, .int .i64 a.m] 24) #[.int .u8 0, .int .u64 0, .int .i64 a.i, .string ⟨#[]⟩, .int .u8 0, .int .i64 0]
      have qb : Below w.heap.size w ((w.alloc (.cells #[.int .u8 1, .int .u64 a.n, .int .i64 a.i, .string a.s, .int .u8 a.b, .int .i64 a.m] 24)).alloc (.cells #[.int .u8 0, .int .u64 0, .int .i64 a.i, .string ⟨#[]⟩, .int .u8 0, .int .i64 0] 24)) := ((Below.refl _ w).alloc (Nat.le_refl _) _).alloc (by simp) _
      generalize ((w.alloc (.cells #[.int .u8 1, .int .u64 a.n, .int .i64 a.i, .string a.s, .int .u8 a.b, .int .i64 a.m] 24)).alloc (.cells #[.int .u8 0, .int .u64 0, .int .i64 a.i, .string ⟨#[]⟩, .int .u8 0, .int .i64 0] 24)) = W at *
      have y0 := cells_of q 0 _ rfl
      have y1 := cells_of q 1 _ rfl
      have y2 := cells_of q 2 _ rfl
      have y3 := cells_of q 3 _ rfl
      have y4 := cells_of q 4 _ rfl
      have y5 := cells_of q 5 _ rfl
      exact bodyPost_ret (v := .agg #[.int .u8 0, .int .u64 0, .int .i64 a.i, .string ⟨#[]⟩, .int .u8 0, .int .i64 0]) (by simp [results, Try.results31, go_sem, y0, y1, y2, y3, y4, y5]) rfl ⟨rfl, qb⟩
    · rw [if_neg d1]
      have e1 : ((a.d : Int) == 1) = false := by rw [beq_eq_false_iff_ne]; omega
      by_cases d2 : a.d = 2
      · rw [if_pos d2, d2]
        clear d0 d1 e0 e1 d2
        go_enter Try.func31, Try.ntmps31
        go_wp2_with fail
        have q := two_new (w := w) (.cells #[.int .u8 2, .int .u64 a.n, .int .i64 a.i, .string a.s, .int .u8 a.b, .int .i64 a.m] 24) #[.int .u8 0, .int .u64 0, .int .i64 0, .string a.s, .int .u8 0, .int .i64 0]
        have qb : Below w.heap.size w ((w.alloc (.cells #[.int .u8 2, .int .u64 a.n, .int .i64 a.i, .string a.s, .int .u8 a.b, .int .i64 a.m] 24)).alloc (.cells #[.int .u8 0, .int .u64 0, .int .i64 0, .string a.s, .int .u8 0, .int .i64 0] 24)) := ((Below.refl _ w).alloc (Nat.le_refl _) _).alloc (by simp) _
        generalize ((w.alloc (.cells #[.int .u8 2, .int .u64 a.n, .int .i64 a.i, .string a.s, .int .u8 a.b, .int .i64 a.m] 24)).alloc (.cells #[.int .u8 0, .int .u64 0, .int .i64 0, .string a.s, .int .u8 0, .int .i64 0] 24)) = W at *
        have y0 := cells_of q 0 _ rfl
        have y1 := cells_of q 1 _ rfl
        have y2 := cells_of q 2 _ rfl
        have y3 := cells_of q 3 _ rfl
        have y4 := cells_of q 4 _ rfl
        have y5 := cells_of q 5 _ rfl
        exact bodyPost_ret (v := .agg #[.int .u8 0, .int .u64 0, .int .i64 0, .string a.s, .int .u8 0, .int .i64 0]) (by simp [results, Try.results31, go_sem, y0, y1, y2, y3, y4, y5]) rfl ⟨rfl, qb⟩
      · rw [if_neg d2]
        have e2 : ((a.d : Int) == 2) = false := by rw [beq_eq_false_iff_ne]; omega
        by_cases d3 : a.d = 3
        · rw [if_pos d3, d3]
          clear d0 d1 e0 e1 d2 e2 d3
          go_enter Try.func31, Try.ntmps31
          go_wp2_with fail
          have q := two_new (w := w) (.cells #[.int .u8 3, .int .u64 a.n, .int .i64 a.i, .string a.s, .int .u8 a.b, .int .i64 a.m] 24) #[.int .u8 0, .int .u64 0, .int .i64 0, .string ⟨#[]⟩, .int .u8 a.b, .int .i64 0]
          have qb : Below w.heap.size w ((w.alloc (.cells #[.int .u8 3, .int .u64 a.n, .int .i64 a.i, .string a.s, .int .u8 a.b, .int .i64 a.m] 24)).alloc (.cells #[.int .u8 0, .int .u64 0, .int .i64 0, .string ⟨#[]⟩, .int .u8 a.b, .int .i64 0] 24)) := ((Below.refl _ w).alloc (Nat.le_refl _) _).alloc (by simp) _
          generalize ((w.alloc (.cells #[.int .u8 3, .int .u64 a.n, .int .i64 a.i, .string a.s, .int .u8 a.b, .int .i64 a.m] 24)).alloc (.cells #[.int .u8 0, .int .u64 0, .int .i64 0, .string ⟨#[]⟩, .int .u8 a.b, .int .i64 0] 24)) = W at *
          have y0 := cells_of q 0 _ rfl
          have y1 := cells_of q 1 _ rfl
          have y2 := cells_of q 2 _ rfl
          have y3 := cells_of q 3 _ rfl
          have y4 := cells_of q 4 _ rfl
          have y5 := cells_of q 5 _ rfl
          exact bodyPost_ret (v := .agg #[.int .u8 0, .int .u64 0, .int .i64 0, .string ⟨#[]⟩, .int .u8 a.b, .int .i64 0]) (by simp [results, Try.results31, go_sem, y0, y1, y2, y3, y4, y5]) rfl ⟨rfl, qb⟩
        · rw [if_neg d3]
          have e3 : ((a.d : Int) == 3) = false := by rw [beq_eq_false_iff_ne]; omega
          clear d0 d1 d2 d3
          go_enter Try.func31, Try.ntmps31
          go_wp2_with fail
          have q := two_new (w := w) (.cells #[.int .u8 a.d, .int .u64 a.n, .int .i64 a.i, .string a.s, .int .u8 a.b, .int .i64 a.m] 24) #[.int .u8 0, .int .u64 0, .int .i64 0, .string ⟨#[]⟩, .int .u8 0, .int .i64 0]
          have qb : Below w.heap.size w ((w.alloc (.cells #[.int .u8 a.d, .int .u64 a.n, .int .i64 a.i, .string a.s, .int .u8 a.b, .int .i64 a.m] 24)).alloc (.cells #[.int .u8 0, .int .u64 0, .int .i64 0, .string ⟨#[]⟩, .int .u8 0, .int .i64 0] 24)) := ((Below.refl _ w).alloc (Nat.le_refl _) _).alloc (by simp) _
          generalize ((w.alloc (.cells #[.int .u8 a.d, .int .u64 a.n, .int .i64 a.i, .string a.s, .int .u8 a.b, .int .i64 a.m] 24)).alloc (.cells #[.int .u8 0, .int .u64 0, .int .i64 0, .string ⟨#[]⟩, .int .u8 0, .int .i64 0] 24)) = W at *
          have y0 := cells_of q 0 _ rfl
          have y1 := cells_of q 1 _ rfl
          have y2 := cells_of q 2 _ rfl
          have y3 := cells_of q 3 _ rfl
          have y4 := cells_of q 4 _ rfl
          have y5 := cells_of q 5 _ rfl
          exact bodyPost_ret (v := .agg #[.int .u8 0, .int .u64 0, .int .i64 0, .string ⟨#[]⟩, .int .u8 0, .int .i64 0]) (by simp [results, Try.results31, go_sem, y0, y1, y2, y3, y4, y5]) rfl ⟨rfl, qb⟩
end Go.Proofs.Ytpecpcedcjdbhaa
