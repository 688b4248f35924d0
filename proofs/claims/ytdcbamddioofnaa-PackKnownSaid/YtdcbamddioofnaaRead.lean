/-
  What the statements' helpers do: read, bare.
-/
import Derived.Test.YtdcbamddioofnaaWr
namespace Go.Proofs.Ytdcbamddioofnaa
open Go.RowKit Pk

/-- What is read for an item, and the reader behind it. -/
def rdI (r : Rd) (a : It) : It × Rd :=
  if a.d = 0 then (⟨0, r.num.1, 0, ⟨#[]⟩, 0, 0⟩, r.num.2)
  else if a.d = 1 then (⟨0, 0, zag r.num.1, ⟨#[]⟩, 0, 0⟩, r.num.2)
  else if a.d = 2 then (⟨0, 0, 0, ⟨(r.text a.m).1.toArray⟩, 0, 0⟩, (r.text a.m).2)
  else if a.d = 3 then (⟨0, 0, 0, ⟨#[]⟩, r.byte.1, 0⟩, r.byte.2)
  else (⟨0, (r.most a.m).1, 0, ⟨#[]⟩, 0, 0⟩, (r.most a.m).2)

def itV (a : It) : Value := .agg #[.int .u8 a.d, .int .u64 a.n, .int .i64 a.i, .string a.s, .int .u8 a.b, .int .i64 a.m]

theorem rdI_ok {r : Rd} (hr : r.Ok) (a : It) : (rdI r a).2.Ok := by
  unfold rdI
  split
  · exact hr.num
  · split
    · exact hr.num
    · split
      · exact hr.text a.m
      · split
        · exact hr.byte
        · exact hr.most a.m

def zeroCells : Array Value := #[.int .u8 0, .int .u64 0, .int .i64 0, .string ⟨#[]⟩, .int .u8 0, .int .i64 0]
theorem Stp.old {w w1 : World} {o : Obj} {b : Nat} {r : Rd} (h : Stp ((w.alloc o).alloc (.cells zeroCells 24)) w1 b r) (hlt : b < w.heap.size) :
    w1.heap[w.heap.size + 1]? = some (.cells zeroCells 24 (0, 0)) := by
  rw [h.grown.block (w.heap.size + 1) (by simp) (fun e => by have := Option.some.inj e; omega)]
  have := heap_alloc_new (w.alloc o) (.cells zeroCells 24)
  simpa using this

def set6 (w : World) (k : Nat) (v0 v1 v2 v3 v4 v5 : Value) : World :=
  ((((((w.setCell ⟨k, 0, none⟩ v0).setCell ⟨k, 1, none⟩ v1).setCell ⟨k, 2, none⟩ v2).setCell ⟨k, 3, none⟩ v3).setCell ⟨k, 4, none⟩ v4).setCell ⟨k, 5, none⟩ v5)
theorem set6_heap {w : World} {k : Nat} (h : w.heap[k]? = some (.cells zeroCells 24 (0, 0))) (v0 v1 v2 v3 v4 v5 : Value) :
    (set6 w k v0 v1 v2 v3 v4 v5).heap[k]? = some (.cells #[v0, v1, v2, v3, v4, v5] 24 (0, 0)) := by
  unfold set6
  rw [heap_set (heap_set (heap_set (heap_set (heap_set (heap_set h 0 v0) 1 v1) 2 v2) 3 v3) 4 v4) 5 v5]
  rfl
theorem set6_other (w : World) (k : Nat) (v0 v1 v2 v3 v4 v5 : Value) (j : Nat) (h : j ≠ k) : (set6 w k v0 v1 v2 v3 v4 v5).heap[j]? = w.heap[j]? := by
  unfold set6
  rw [Below.heap_setCell _ ⟨k, 5, none⟩ _ j h, Below.heap_setCell _ ⟨k, 4, none⟩ _ j h, Below.heap_setCell _ ⟨k, 3, none⟩ _ j h, Below.heap_setCell _ ⟨k, 2, none⟩ _ j h, Below.heap_setCell _ ⟨k, 1, none⟩ _ j h, Below.heap_setCell _ ⟨k, 0, none⟩ _ j h]
theorem set6_grown {a w : World} {k : Nat} {B : Nat} (h : Below B a w) (hk : B ≤ k) (v0 v1 v2 v3 v4 v5 : Value) : Below B a (set6 w k v0 v1 v2 v3 v4 v5) := by
  have s0 := h.setCell (p := ⟨k, 0, none⟩) hk v0
  have s1 := s0.setCell (p := ⟨k, 1, none⟩) hk v1
  have s2 := s1.setCell (p := ⟨k, 2, none⟩) hk v2
  have s3 := s2.setCell (p := ⟨k, 3, none⟩) hk v3
  have s4 := s3.setCell (p := ⟨k, 4, none⟩) hk v4
  exact s4.setCell (p := ⟨k, 5, none⟩) hk v5
theorem set6_stp {w w1 : World} {o : Obj} {b : Nat} {r : Rd} (h : Stp ((w.alloc o).alloc (.cells zeroCells 24)) w1 b r) (hlt : b < w.heap.size) (v0 v1 v2 v3 v4 v5 : Value) :
    Stp w (set6 w1 (w.heap.size + 1) v0 v1 v2 v3 v4 v5) b r := by
  have g := set6_grown (Below.refl (w.heap.size + 1) w1) (Nat.le_refl _) v0 v1 v2 v3 v4 v5
  have h2 := h.grown.size
  have h3 := g.size
  have h4 : ((w.alloc o).alloc (.cells zeroCells 24)).heap.size = w.heap.size + 1 + 1 := by simp
  refine ⟨⟨g.os.trans h.grown.os, g.tape.trans h.grown.tape, g.output.trans h.grown.output, by omega, fun k hk hn => ?_⟩, ?_⟩
  · rw [g.block k (by omega), h.grown.block k (by omega) hn, Below.heap_alloc _ _ _ (by simp; omega), Below.heap_alloc _ _ _ hk]
  · unfold inAt
    rw [g.block b (by omega)]
    exact h.inAt

theorem most_lt (r : Rd) (m : Int) : (r.most m).1 < 2 ^ 64 := by
  unfold Rd.most
  simp only
  split
  · exact (cnt_bd r.rest m).1
  · omega

set_option maxHeartbeats 4000000 in
theorem read_in {w : World} {b : Nat} {r : Rd} (hin : inAt w b r) (hr : r.Ok) (a : It) (ha : a.Ok) :
    Calls Try.prog 6 #[.pointer (some ⟨b, 0, none⟩), itV a] w fun e w' => e = .returned (itV (rdI r a).1) ∧ Stp w w' b (rdI r a).2 := by
  obtain ⟨h1, h2, h3, h4, h5, h6⟩ := ha
  unfold itV rdI
  by_cases d0 : a.d = 0
  · rw [if_pos d0, d0]
    clear d0
    have hlt := hin.lt
    go_enter Try.func6, Try.ntmps6
    go_wp2_with fail
    refine (num_in ((hin.below ((Below.refl _ w).alloc (Nat.le_refl _) _)).below ((Below.refl _ _).alloc (Nat.le_refl _) _)) hr).mono ?_
    rintro e w1 ⟨rfl, hst⟩
    have hz := hst.old hlt
    have z0 := cells_of hz 0 _ rfl
    have z1 := cells_of hz 1 _ rfl
    have z2 := cells_of hz 2 _ rfl
    have z3 := cells_of hz 3 _ rfl
    have z4 := cells_of hz 4 _ rfl
    have z5 := cells_of hz 5 _ rfl
    have f0 := free_of hz 0
    have f1 := free_of hz 1
    have f2 := free_of hz 2
    have f3 := free_of hz 3
    have f4 := free_of hz 4
    have f5 := free_of hz 5
    have HZ := Lib.hid hz
    clear hz
    go_wp2_with fail
    have q := set6_heap HZ.out (.int .u8 0) (.int .u64 r.num.1) (.int .i64 0) (.string ⟨#[]⟩) (.int .u8 0) (.int .i64 0)
    have qs := set6_stp hst hlt (.int .u8 0) (.int .u64 r.num.1) (.int .i64 0) (.string ⟨#[]⟩) (.int .u8 0) (.int .i64 0)
    change bodyPost _ _ _ _ _ (set6 w1 (w.heap.size + 1) (.int .u8 0) (.int .u64 r.num.1) (.int .i64 0) (.string ⟨#[]⟩) (.int .u8 0) (.int .i64 0))
    generalize set6 w1 (w.heap.size + 1) (.int .u8 0) (.int .u64 r.num.1) (.int .i64 0) (.string ⟨#[]⟩) (.int .u8 0) (.int .i64 0) = W at *
    have y0 := cells_of q 0 _ rfl
    have y1 := cells_of q 1 _ rfl
    have y2 := cells_of q 2 _ rfl
    have y3 := cells_of q 3 _ rfl
    have y4 := cells_of q 4 _ rfl
    have y5 := cells_of q 5 _ rfl
    exact bodyPost_ret (v := .agg #[.int .u8 0, .int .u64 r.num.1, .int .i64 0, .string ⟨#[]⟩, .int .u8 0, .int .i64 0]) (by simp [results, Try.results6, go_sem, y0, y1, y2, y3, y4, y5]) rfl ⟨rfl, qs⟩
  · rw [if_neg d0]
    have e0 : ((a.d : Int) == 0) = false := by rw [beq_eq_false_iff_ne]; omega
    by_cases d1 : a.d = 1
    · rw [if_pos d1, d1]
      clear d0 d1 e0
      have hlt := hin.lt
      go_enter Try.func6, Try.ntmps6
      go_wp2_with fail
      refine (int_in ((hin.below ((Below.refl _ w).alloc (Nat.le_refl _) _)).below ((Below.refl _ _).alloc (Nat.le_refl _) _)) hr).mono ?_
      rintro e w1 ⟨rfl, hst⟩
      have hz := hst.old hlt
      have z0 := cells_of hz 0 _ rfl
      have z1 := cells_of hz 1 _ rfl
      have z2 := cells_of hz 2 _ rfl
      have z3 := cells_of hz 3 _ rfl
      have z4 := cells_of hz 4 _ rfl
      have z5 := cells_of hz 5 _ rfl
      have f0 := free_of hz 0
      have f1 := free_of hz 1
      have f2 := free_of hz 2
      have f3 := free_of hz 3
      have f4 := free_of hz 4
      have f5 := free_of hz 5
      have HZ := Lib.hid hz
      clear hz
      go_wp2_with fail
      have q := set6_heap HZ.out (.int .u8 0) (.int .u64 0) (.int .i64 (zag r.num.1)) (.string ⟨#[]⟩) (.int .u8 0) (.int .i64 0)
      have qs := set6_stp hst hlt (.int .u8 0) (.int .u64 0) (.int .i64 (zag r.num.1)) (.string ⟨#[]⟩) (.int .u8 0) (.int .i64 0)
      change bodyPost _ _ _ _ _ (set6 w1 (w.heap.size + 1) (.int .u8 0) (.int .u64 0) (.int .i64 (zag r.num.1)) (.string ⟨#[]⟩) (.int .u8 0) (.int .i64 0))
      generalize set6 w1 (w.heap.size + 1) (.int .u8 0) (.int .u64 0) (.int .i64 (zag r.num.1)) (.string ⟨#[]⟩) (.int .u8 0) (.int .i64 0) = W at *
      have y0 := cells_of q 0 _ rfl
      have y1 := cells_of q 1 _ rfl
      have y2 := cells_of q 2 _ rfl
      have y3 := cells_of q 3 _ rfl
      have y4 := cells_of q 4 _ rfl
      have y5 := cells_of q 5 _ rfl
      exact bodyPost_ret (v := .agg #[.int .u8 0, .int .u64 0, .int .i64 (zag r.num.1), .string ⟨#[]⟩, .int .u8 0, .int .i64 0]) (by simp [results, Try.results6, go_sem, y0, y1, y2, y3, y4, y5]) rfl ⟨rfl, qs⟩
    · rw [if_neg d1]
      have e1 : ((a.d : Int) == 1) = false := by rw [beq_eq_false_iff_ne]; omega
      by_cases d2 : a.d = 2
      · rw [if_pos d2, d2]
        clear d0 d1 e0 e1 d2
        have hlt := hin.lt
        go_enter Try.func6, Try.ntmps6
        go_wp2_with fail
        refine (text_in ((hin.below ((Below.refl _ w).alloc (Nat.le_refl _) _)).below ((Below.refl _ _).alloc (Nat.le_refl _) _)) hr a.m h6).mono ?_
        rintro e w1 ⟨rfl, hst⟩
        have hz := hst.old hlt
        have z0 := cells_of hz 0 _ rfl
        have z1 := cells_of hz 1 _ rfl
        have z2 := cells_of hz 2 _ rfl
        have z3 := cells_of hz 3 _ rfl
        have z4 := cells_of hz 4 _ rfl
        have z5 := cells_of hz 5 _ rfl
        have f0 := free_of hz 0
        have f1 := free_of hz 1
        have f2 := free_of hz 2
        have f3 := free_of hz 3
        have f4 := free_of hz 4
        have f5 := free_of hz 5
        have HZ := Lib.hid hz
        clear hz
        go_wp2_with fail
        have q := set6_heap HZ.out (.int .u8 0) (.int .u64 0) (.int .i64 0) (.string ⟨(r.text a.m).1.toArray⟩) (.int .u8 0) (.int .i64 0)
        have qs := set6_stp hst hlt (.int .u8 0) (.int .u64 0) (.int .i64 0) (.string ⟨(r.text a.m).1.toArray⟩) (.int .u8 0) (.int .i64 0)
        change bodyPost _ _ _ _ _ (set6 w1 (w.heap.size + 1) (.int .u8 0) (.int .u64 0) (.int .i64 0) (.string ⟨(r.text a.m).1.toArray⟩) (.int .u8 0) (.int .i64 0))
        generalize set6 w1 (w.heap.size + 1) (.int .u8 0) (.int .u64 0) (.int .i64 0) (.string ⟨(r.text a.m).1.toArray⟩) (.int .u8 0) (.int .i64 0) = W at *
        have y0 := cells_of q 0 _ rfl
        have y1 := cells_of q 1 _ rfl
        have y2 := cells_of q 2 _ rfl
        have y3 := cells_of q 3 _ rfl
        have y4 := cells_of q 4 _ rfl
        have y5 := cells_of q 5 _ rfl
        exact bodyPost_ret (v := .agg #[.int .u8 0, .int .u64 0, .int .i64 0, .string ⟨(r.text a.m).1.toArray⟩, .int .u8 0, .int .i64 0]) (by simp [results, Try.results6, go_sem, y0, y1, y2, y3, y4, y5]) rfl ⟨rfl, qs⟩
      · rw [if_neg d2]
        have e2 : ((a.d : Int) == 2) = false := by rw [beq_eq_false_iff_ne]; omega
        by_cases d3 : a.d = 3
        · rw [if_pos d3, d3]
          clear d0 d1 e0 e1 d2 e2 d3
          have hlt := hin.lt
          go_enter Try.func6, Try.ntmps6
          go_wp2_with fail
          refine (byte_in ((hin.below ((Below.refl _ w).alloc (Nat.le_refl _) _)).below ((Below.refl _ _).alloc (Nat.le_refl _) _)) hr).mono ?_
          rintro e w1 ⟨rfl, hst⟩
          have hz := hst.old hlt
          have z0 := cells_of hz 0 _ rfl
          have z1 := cells_of hz 1 _ rfl
          have z2 := cells_of hz 2 _ rfl
          have z3 := cells_of hz 3 _ rfl
          have z4 := cells_of hz 4 _ rfl
          have z5 := cells_of hz 5 _ rfl
          have f0 := free_of hz 0
          have f1 := free_of hz 1
          have f2 := free_of hz 2
          have f3 := free_of hz 3
          have f4 := free_of hz 4
          have f5 := free_of hz 5
          have HZ := Lib.hid hz
          clear hz
          go_wp2_with fail
          have q := set6_heap HZ.out (.int .u8 0) (.int .u64 0) (.int .i64 0) (.string ⟨#[]⟩) (.int .u8 r.byte.1) (.int .i64 0)
          have qs := set6_stp hst hlt (.int .u8 0) (.int .u64 0) (.int .i64 0) (.string ⟨#[]⟩) (.int .u8 r.byte.1) (.int .i64 0)
          change bodyPost _ _ _ _ _ (set6 w1 (w.heap.size + 1) (.int .u8 0) (.int .u64 0) (.int .i64 0) (.string ⟨#[]⟩) (.int .u8 r.byte.1) (.int .i64 0))
          generalize set6 w1 (w.heap.size + 1) (.int .u8 0) (.int .u64 0) (.int .i64 0) (.string ⟨#[]⟩) (.int .u8 r.byte.1) (.int .i64 0) = W at *
          have y0 := cells_of q 0 _ rfl
          have y1 := cells_of q 1 _ rfl
          have y2 := cells_of q 2 _ rfl
          have y3 := cells_of q 3 _ rfl
          have y4 := cells_of q 4 _ rfl
          have y5 := cells_of q 5 _ rfl
          exact bodyPost_ret (v := .agg #[.int .u8 0, .int .u64 0, .int .i64 0, .string ⟨#[]⟩, .int .u8 r.byte.1, .int .i64 0]) (by simp [results, Try.results6, go_sem, y0, y1, y2, y3, y4, y5]) rfl ⟨rfl, qs⟩
        · rw [if_neg d3]
          have e3 : ((a.d : Int) == 3) = false := by rw [beq_eq_false_iff_ne]; omega
          clear d0 d1 d2 d3
          have hwr : IntKind.u64.wrap ((r.most a.m).1 : Int) = (r.most a.m).1 := IntWalk.u64_in _ (by have := most_lt r a.m; omega)
          have hlt := hin.lt
          go_enter Try.func6, Try.ntmps6
          go_wp2_with fail
          refine (most_in ((hin.below ((Below.refl _ w).alloc (Nat.le_refl _) _)).below ((Below.refl _ _).alloc (Nat.le_refl _) _)) hr a.m h6).mono ?_
          rintro e w1 ⟨rfl, hst⟩
          have hz := hst.old hlt
          have z0 := cells_of hz 0 _ rfl
          have z1 := cells_of hz 1 _ rfl
          have z2 := cells_of hz 2 _ rfl
          have z3 := cells_of hz 3 _ rfl
          have z4 := cells_of hz 4 _ rfl
          have z5 := cells_of hz 5 _ rfl
          have f0 := free_of hz 0
          have f1 := free_of hz 1
          have f2 := free_of hz 2
          have f3 := free_of hz 3
          have f4 := free_of hz 4
          have f5 := free_of hz 5
          have HZ := Lib.hid hz
          clear hz
          go_wp2_with fail
          have q := set6_heap HZ.out (.int .u8 0) (.int .u64 (r.most a.m).1) (.int .i64 0) (.string ⟨#[]⟩) (.int .u8 0) (.int .i64 0)
          have qs := set6_stp hst hlt (.int .u8 0) (.int .u64 (r.most a.m).1) (.int .i64 0) (.string ⟨#[]⟩) (.int .u8 0) (.int .i64 0)
          change bodyPost _ _ _ _ _ (set6 w1 (w.heap.size + 1) (.int .u8 0) (.int .u64 (r.most a.m).1) (.int .i64 0) (.string ⟨#[]⟩) (.int .u8 0) (.int .i64 0))
          generalize set6 w1 (w.heap.size + 1) (.int .u8 0) (.int .u64 (r.most a.m).1) (.int .i64 0) (.string ⟨#[]⟩) (.int .u8 0) (.int .i64 0) = W at *
          have y0 := cells_of q 0 _ rfl
          have y1 := cells_of q 1 _ rfl
          have y2 := cells_of q 2 _ rfl
          have y3 := cells_of q 3 _ rfl
          have y4 := cells_of q 4 _ rfl
          have y5 := cells_of q 5 _ rfl
          exact bodyPost_ret (v := .agg #[.int .u8 0, .int .u64 (r.most a.m).1, .int .i64 0, .string ⟨#[]⟩, .int .u8 0, .int .i64 0]) (by simp [results, Try.results6, go_sem, y0, y1, y2, y3, y4, y5]) rfl ⟨rfl, qs⟩
end Go.Proofs.Ytdcbamddioofnaa
