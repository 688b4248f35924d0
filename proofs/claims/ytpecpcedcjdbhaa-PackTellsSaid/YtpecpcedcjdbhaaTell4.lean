/-
  What told does: what a call reads, as the document has it.
-/
import Derived.Test.YtpecpcedcjdbhaaTell3
namespace Go.Proofs.Ytpecpcedcjdbhaa
open Go.RowKit Pk

theorem rinAt.lt {w : World} {b : Nat} {r : Rd} (h : rinAt w b r) : b < w.heap.size := (Array.getElem?_eq_some_iff.1 h).1
theorem rinAt.below {w w' : World} {b : Nat} {r : Rd} (h : rinAt w b r) (k : Below w.heap.size w w') : rinAt w' b r := h.low k
theorem num_lt (r : Rd) : r.num.1 < 2 ^ 64 := by
  unfold Rd.num
  simp only
  split
  · exact (dec_bd r.rest).1
  · omega

theorem RStp.old {w w1 : World} {o : Obj} {b : Nat} {r : Rd} (h : RStp ((w.alloc o).alloc (.cells zeroCells 24)) w1 b r) (hlt : b < w.heap.size) :
    w1.heap[w.heap.size + 1]? = some (.cells zeroCells 24 (0, 0)) := by
  rw [h.grown.block (w.heap.size + 1) (by simp) (fun e => by have := Option.some.inj e; omega)]
  have := heap_alloc_new (w.alloc o) (.cells zeroCells 24)
  simpa using this

theorem set6_rstp {w w1 : World} {o : Obj} {b : Nat} {r : Rd} (h : RStp ((w.alloc o).alloc (.cells zeroCells 24)) w1 b r) (hlt : b < w.heap.size) (v0 v1 v2 v3 v4 v5 : Value) :
    RStp w (set6 w1 (w.heap.size + 1) v0 v1 v2 v3 v4 v5) b r := by
  have g := set6_grown (Below.refl (w.heap.size + 1) w1) (Nat.le_refl _) v0 v1 v2 v3 v4 v5
  have h2 := h.grown.size
  have h3 := g.size
  have h4 : ((w.alloc o).alloc (.cells zeroCells 24)).heap.size = w.heap.size + 1 + 1 := by simp
  refine ⟨⟨g.os.trans h.grown.os, g.tape.trans h.grown.tape, g.output.trans h.grown.output, by omega, fun k hk hn => ?_⟩, ?_⟩
  · rw [g.block k (by omega), h.grown.block k (by omega) hn, Below.heap_alloc _ _ _ (by simp; omega), Below.heap_alloc _ _ _ hk]
  · unfold rinAt
    rw [g.block b (by omega)]
    exact h.inAt

set_option maxHeartbeats 4000000 in
theorem told_in {w : World} {b : Nat} {r : Rd} (hin : rinAt w b r) (hr : r.Ok) (a : It) (ha : a.Ok) :
    Calls Try.prog 28 #[.pointer (some ⟨b, 0, none⟩), itV a] w fun e w' => e = .returned (itV (rdI r a).1) ∧ RStp w w' b (rdI r a).2 := by
  obtain ⟨h1, h2, h3, h4, h5, h6⟩ := ha
  have hnum := num_lt r
  unfold itV rdI
  by_cases d0 : a.d = 0
  · rw [if_pos d0, d0]
    clear d0
    have hlt := hin.lt
    go_enter Try.func28, Try.ntmps28
    go_wp2_with fail
    refine (rnum_in ((hin.below ((Below.refl _ w).alloc (Nat.le_refl _) _)).below ((Below.refl _ _).alloc (Nat.le_refl _) _)) hr).mono ?_
    rintro e w1 ⟨rfl, hst⟩
    have hz := hst.old hlt
    have z0 := cells_of hz 0 _ rfl
    have z1 := cells_of hz 1 _ rfl
    have z2 := cells_of hz 2 _ rfl
    have z3 := cells_of hz 3 _ rfl
    have z4 := cells_of hz 4 _ rfl
    have z5 := cells_of hz 5 _ rfl
    have f0 := free_of hz 0
    have f1 := free_of hz 1
    have f2 := free_of hz 2
    have f3 := free_of hz 3
    have f4 := free_of hz 4
    have f5 := free_of hz 5
    have HZ := Lib.hid hz
    clear hz
    go_wp2_with fail
    have q := set6_heap HZ.out (.int .u8 0) (.int .u64 r.num.1) (.int .i64 0) (.string ⟨#[]⟩) (.int .u8 0) (.int .i64 0)
    have qs := set6_rstp hst hlt (.int .u8 0) (.int .u64 r.num.1) (.int .i64 0) (.string ⟨#[]⟩) (.int .u8 0) (.int .i64 0)
    change bodyPost _ _ _ _ _ (set6 w1 (w.heap.size + 1) (.int .u8 0) (.int .u64 r.num.1) (.int .i64 0) (.string ⟨#[]⟩) (.int .u8 0) (.int .i64 0))
    generalize set6 w1 (w.heap.size + 1) (.int .u8 0) (.int .u64 r.num.1) (.int .i64 0) (.string ⟨#[]⟩) (.int .u8 0) (.int .i64 0) = W at *
    have y0 := cells_of q 0 _ rfl
    have y1 := cells_of q 1 _ rfl
    have y2 := cells_of q 2 _ rfl
    have y3 := cells_of q 3 _ rfl
    have y4 := cells_of q 4 _ rfl
    have y5 := cells_of q 5 _ rfl
    exact bodyPost_ret (v := .agg #[.int .u8 0, .int .u64 r.num.1, .int .i64 0, .string ⟨#[]⟩, .int .u8 0, .int .i64 0]) (by simp [results, Try.results28, go_sem, y0, y1, y2, y3, y4, y5]) rfl ⟨rfl, qs⟩
  · rw [if_neg d0]
    have e0 : ((a.d : Int) == 0) = false := by rw [beq_eq_false_iff_ne]; omega
    by_cases d1 : a.d = 1
    · rw [if_pos d1, d1]
      clear d0 d1 e0
      have hlt := hin.lt
      go_enter Try.func28, Try.ntmps28
      go_wp2_with fail
      refine (rnum_in ((hin.below ((Below.refl _ w).alloc (Nat.le_refl _) _)).below ((Below.refl _ _).alloc (Nat.le_refl _) _)) hr).mono ?_
      rintro e w1 ⟨rfl, hst⟩
      have HST := Lib.hid hst
      clear hst
      go_wp2_with fail
      refine (zag_any _ hnum _).mono ?_
      rintro e w2 ⟨rfl, rfl⟩
      have hst := HST.out
      have hz := hst.old hlt
      have z0 := cells_of hz 0 _ rfl
      have z1 := cells_of hz 1 _ rfl
      have z2 := cells_of hz 2 _ rfl
      have z3 := cells_of hz 3 _ rfl
      have z4 := cells_of hz 4 _ rfl
      have z5 := cells_of hz 5 _ rfl
      have f0 := free_of hz 0
      have f1 := free_of hz 1
      have f2 := free_of hz 2
      have f3 := free_of hz 3
      have f4 := free_of hz 4
      have f5 := free_of hz 5
      have HZ := Lib.hid hz
      clear hz
      go_wp2_with fail
      have q := set6_heap HZ.out (.int .u8 0) (.int .u64 0) (.int .i64 (zag r.num.1)) (.string ⟨#[]⟩) (.int .u8 0) (.int .i64 0)
      have qs := set6_rstp hst hlt (.int .u8 0) (.int .u64 0) (.int .i64 (zag r.num.1)) (.string ⟨#[]⟩) (.int .u8 0) (.int .i64 0)
      change bodyPost _ _ _ _ _ (set6 w1 (w.heap.size + 1) (.int .u8 0) (.int .u64 0) (.int .i64 (zag r.num.1)) (.string ⟨#[]⟩) (.int .u8 0) (.int .i64 0))
      generalize set6 w1 (w.heap.size + 1) (.int .u8 0) (.int .u64 0) (.int .i64 (zag r.num.1)) (.string ⟨#[]⟩) (.int .u8 0) (.int .i64 0) = W at *
      have y0 := cells_of q 0 _ rfl
      have y1 := cells_of q 1 _ rfl
      have y2 := cells_of q 2 _ rfl
      have y3 := cells_of q 3 _ rfl
      have y4 := cells_of q 4 _ rfl
      have y5 := cells_of q 5 _ rfl
      exact bodyPost_ret (v := .agg #[.int .u8 0, .int .u64 0, .int .i64 (zag r.num.1), .string ⟨#[]⟩, .int .u8 0, .int .i64 0]) (by simp [results, Try.results28, go_sem, y0, y1, y2, y3, y4, y5]) rfl ⟨rfl, qs⟩
    · rw [if_neg d1]
      have e1 : ((a.d : Int) == 1) = false := by rw [beq_eq_false_iff_ne]; omega
      by_cases d2 : a.d = 2
      · rw [if_pos d2, d2]
        clear d0 d1 e0 e1 d2
        have hlt := hin.lt
        go_enter Try.func28, Try.ntmps28
        go_wp2_with fail
        refine (rtext_in ((hin.below ((Below.refl _ w).alloc (Nat.le_refl _) _)).below ((Below.refl _ _).alloc (Nat.le_refl _) _)) hr a.m h6).mono ?_
        rintro e w1 ⟨rfl, hst⟩
        have hz := hst.old hlt
        have z0 := cells_of hz 0 _ rfl
        have z1 := cells_of hz 1 _ rfl
        have z2 := cells_of hz 2 _ rfl
        have z3 := cells_of hz 3 _ rfl
        have z4 := cells_of hz 4 _ rfl
        have z5 := cells_of hz 5 _ rfl
        have f0 := free_of hz 0
        have f1 := free_of hz 1
        have f2 := free_of hz 2
        have f3 := free_of hz 3
        have f4 := free_of hz 4
        have f5 := free_of hz 5
        have HZ := Lib.hid hz
        clear hz
        go_wp2_with fail
        have q := set6_heap HZ.out (.int .u8 0) (.int .u64 0) (.int .i64 0) (.string ⟨(r.text a.m).1.toArray⟩) (.int .u8 0) (.int .i64 0)
        have qs := set6_rstp hst hlt (.int .u8 0) (.int .u64 0) (.int .i64 0) (.string ⟨(r.text a.m).1.toArray⟩) (.int .u8 0) (.int .i64 0)
        change bodyPost _ _ _ _ _ (set6 w1 (w.heap.size + 1) (.int .u8 0) (.int .u64 0) (.int .i64 0) (.string ⟨(r.text a.m).1.toArray⟩) (.int .u8 0) (.int .i64 0))
        generalize set6 w1 (w.heap.size + 1) (.int .u8 0) (.int .u64 0) (.int .i64 0) (.string ⟨(r.text a.m).1.toArray⟩) (.int .u8 0) (.int .i64 0) = W at *
        have y0 := cells_of q 0 _ rfl
        have y1 := cells_of q 1 _ rfl
        have y2 := cells_of q 2 _ rfl
        have y3 := cells_of q 3 _ rfl
        have y4 := cells_of q 4 _ rfl
        have y5 := cells_of q 5 _ rfl
        exact bodyPost_ret (v := .agg #[.int .u8 0, .int .u64 0, .int .i64 0, .string ⟨(r.text a.m).1.toArray⟩, .int .u8 0, .int .i64 0]) (by simp [results, Try.results28, go_sem, y0, y1, y2, y3, y4, y5]) rfl ⟨rfl, qs⟩
      · rw [if_neg d2]
        have e2 : ((a.d : Int) == 2) = false := by rw [beq_eq_false_iff_ne]; omega
        by_cases d3 : a.d = 3
        · rw [if_pos d3, d3]
          clear d0 d1 e0 e1 d2 e2 d3
          have hlt := hin.lt
          go_enter Try.func28, Try.ntmps28
          go_wp2_with fail
          refine (rbyte_in ((hin.below ((Below.refl _ w).alloc (Nat.le_refl _) _)).below ((Below.refl _ _).alloc (Nat.le_refl _) _)) hr).mono ?_
          rintro e w1 ⟨rfl, hst⟩
          have hz := hst.old hlt
          have z0 := cells_of hz 0 _ rfl
          have z1 := cells_of hz 1 _ rfl
          have z2 := cells_of hz 2 _ rfl
          have z3 := cells_of hz 3 _ rfl
          have z4 := cells_of hz 4 _ rfl
          have z5 := cells_of hz 5 _ rfl
          have f0 := free_of hz 0
          have f1 := free_of hz 1
          have f2 := free_of hz 2
          have f3 := free_of hz 3
          have f4 := free_of hz 4
          have f5 := free_of hz 5
          have HZ := Lib.hid hz
          clear hz
          go_wp2_with fail
          have q := set6_heap HZ.out (.int .u8 0) (.int .u64 0) (.int .i64 0) (.string ⟨#[]⟩) (.int .u8 r.byte.1) (.int .i64 0)
          have qs := set6_rstp hst hlt (.int .u8 0) (.int .u64 0) (.int .i64 0) (.string ⟨#[]⟩) (.int .u8 r.byte.1) (.int .i64 0)
          change bodyPost _ _ _ _ _ (set6 w1 (w.heap.size + 1) (.int .u8 0) (.int .u64 0) (.int .i64 0) (.string ⟨#[]⟩) (.int .u8 r.byte.1) (.int .i64 0))
          generalize set6 w1 (w.heap.size + 1) (.int .u8 0) (.int .u64 0) (.int .i64 0) (.string ⟨#[]⟩) (.int .u8 r.byte.1) (.int .i64 0) = W at *
          have y0 := cells_of q 0 _ rfl
          have y1 := cells_of q 1 _ rfl
          have y2 := cells_of q 2 _ rfl
          have y3 := cells_of q 3 _ rfl
          have y4 := cells_of q 4 _ rfl
          have y5 := cells_of q 5 _ rfl
          exact bodyPost_ret (v := .agg #[.int .u8 0, .int .u64 0, .int .i64 0, .string ⟨#[]⟩, .int .u8 r.byte.1, .int .i64 0]) (by simp [results, Try.results28, go_sem, y0, y1, y2, y3, y4, y5]) rfl ⟨rfl, qs⟩
        · rw [if_neg d3]
          have e3 : ((a.d : Int) == 3) = false := by rw [beq_eq_false_iff_ne]; omega
          clear d0 d1 d2 d3
          have hwr : IntKind.u64.wrap ((r.most a.m).1 : Int) = (r.most a.m).1 := IntWalk.u64_in _ (by have := most_lt r a.m; omega)
          have hlt := hin.lt
          go_enter Try.func28, Try.ntmps28
          go_wp2_with fail
          refine (rmost_in ((hin.below ((Below.refl _ w).alloc (Nat.le_refl _) _)).below ((Below.refl _ _).alloc (Nat.le_refl _) _)) hr a.m h6).mono ?_
          rintro e w1 ⟨rfl, hst⟩
          have hz := hst.old hlt
          have z0 := cells_of hz 0 _ rfl
          have z1 := cells_of hz 1 _ rfl
          have z2 := cells_of hz 2 _ rfl
          have z3 := cells_of hz 3 _ rfl
          have z4 := cells_of hz 4 _ rfl
          have z5 := cells_of hz 5 _ rfl
          have f0 := free_of hz 0
          have f1 := free_of hz 1
          have f2 := free_of hz 2
          have f3 := free_of hz 3
          have f4 := free_of hz 4
          have f5 := free_of hz 5
          have HZ := Lib.hid hz
          clear hz
          go_wp2_with fail
          have q := set6_heap HZ.out (.int .u8 0) (.int .u64 (r.most a.m).1) (.int .i64 0) (.string ⟨#[]⟩) (.int .u8 0) (.int .i64 0)
          have qs := set6_rstp hst hlt (.int .u8 0) (.int .u64 (r.most a.m).1) (.int .i64 0) (.string ⟨#[]⟩) (.int .u8 0) (.int .i64 0)
          change bodyPost _ _ _ _ _ (set6 w1 (w.heap.size + 1) (.int .u8 0) (.int .u64 (r.most a.m).1) (.int .i64 0) (.string ⟨#[]⟩) (.int .u8 0) (.int .i64 0))
          generalize set6 w1 (w.heap.size + 1) (.int .u8 0) (.int .u64 (r.most a.m).1) (.int .i64 0) (.string ⟨#[]⟩) (.int .u8 0) (.int .i64 0) = W at *
          have y0 := cells_of q 0 _ rfl
          have y1 := cells_of q 1 _ rfl
          have y2 := cells_of q 2 _ rfl
          have y3 := cells_of q 3 _ rfl
          have y4 := cells_of q 4 _ rfl
          have y5 := cells_of q 5 _ rfl
          exact bodyPost_ret (v := .agg #[.int .u8 0, .int .u64 (r.most a.m).1, .int .i64 0, .string ⟨#[]⟩, .int .u8 0, .int .i64 0]) (by simp [results, Try.results28, go_sem, y0, y1, y2, y3, y4, y5]) rfl ⟨rfl, qs⟩
end Go.Proofs.Ytpecpcedcjdbhaa
