/-
  batch's fields and Read.
-/
import Derived.Test.YtlndggbidmmodaaBaRd
namespace Go.Proofs.Ytlndggbidmmodaa
open Go.RowKit Pk
namespace Ba
/-- Where fields stands: the reader r in block b, what was read in block M, the operations in blocks of the call's own. -/
structure Fd (w W : World) (b M : Nat) (ix ep : Int) (A : Option Addr) (c : Nat) (l : List Op) (r : Rd) : Prop where
  stp : Stp w W b r
  box : W.heap[M]? = some (.cells #[.int .i64 ix, .int .i64 ep, .slice A l.length c] 31 (0, 0))
  row : Row W w.heap.size A c l
  ne : b ≠ M
  new : w.heap.size ≤ M
section
variable {w W W' : World} {b M : Nat} {ix ep : Int} {A : Option Addr} {c : Nat} {l : List Op} {r r' : Rd}
theorem Fd.low (h : Fd w W b M ix ep A c l r) : w.heap.size ≤ W.heap.size := h.stp.grown.size
theorem Fd.step (h : Fd w W b M ix ep A c l r) (k : Stp W W' b r') : Fd w W' b M ix ep A c l r' :=
  ⟨k.after h.stp.grown, (k.grown.block M (Sm.lt_of h.box) (fun e => h.ne (Option.some.inj e).symm)).trans h.box, h.row.turned h.stp.inAt (by decide) k.grown, h.ne, h.new⟩
theorem Fd.drewN (h : Fd w W b M ix ep A c l r) (n : Nat) : Fd w (W.drewN n) b M ix ep A c l r := ⟨⟨grown_drewN h.stp.grown n, h.stp.inAt⟩, h.box, h.row, h.ne, h.new⟩
theorem Fd.alloc (h : Fd w W b M ix ep A c l r) (o : Obj) : Fd w (W.alloc o) b M ix ep A c l r :=
  h.step ⟨⟨rfl, rfl, rfl, by simp, fun j hj _ => Below.heap_alloc _ _ _ hj⟩, (Below.heap_alloc _ _ _ h.stp.inAt.lt).trans h.stp.inAt⟩
theorem Fd.set (h : Fd w W b M ix ep A c l r) (i : Nat) (v : Value) (ix' ep' : Int) (hx : (#[.int .i64 ix, .int .i64 ep, .slice A l.length c] : Array Value).setIfInBounds i v = #[.int .i64 ix', .int .i64 ep', .slice A l.length c]) : Fd w (W.setCell ⟨M, i, none⟩ v) b M ix' ep' A c l r :=
  ⟨⟨⟨h.stp.grown.os, h.stp.grown.tape, h.stp.grown.output, by simpa using h.stp.grown.size, fun j hj hn => (Below.heap_setCell _ _ _ _ (by have := h.new; show j ≠ M; omega)).trans (h.stp.grown.block j hj hn)⟩, (Below.heap_setCell _ _ _ _ h.ne).trans h.stp.inAt⟩, by
    have e := Sm.heap_set h.box i v
    rw [hx] at e
    exact e, h.row.keep fun j cs hj => Below.heap_setCell _ _ _ _ (fun e => by
      have e2 : j = M := e
      subst e2
      rw [h.box] at hj
      simp only [Option.some.injEq, Obj.cells.injEq] at hj
      exact absurd hj.2.1 (by decide)), h.ne, h.new⟩
theorem Fd.push (h : Fd w W b M ix ep A c l r) {A' : Option Addr} {c' : Nat} {x : Op} (hr : Row W' w.heap.size A' c' (l ++ [x])) (g : W.grownBy W' (Value.slice A l.length c).ownBlock) : Fd w (W'.setCell ⟨M, 2, none⟩ (.slice A' (l.length + 1) c')) b M ix ep A' c' (l ++ [x]) r := by
  have hl : (l ++ [x]).length = l.length + 1 := by rw [List.length_append]; rfl
  have hbx := (g.block M (Sm.lt_of h.box) (fun e => h.row.off h.box (by decide) e.symm)).trans h.box
  have hin : inAt W' b r := (g.block b h.stp.inAt.lt (fun e => h.row.off (cs := #[.string r.s, .int .i64 r.pos, .int .i64 r.f]) h.stp.inAt (by decide) e.symm)).trans h.stp.inAt
  have hgw : w.grownBy W' (some b) := ⟨g.os.trans h.stp.grown.os, g.tape.trans h.stp.grown.tape, g.output.trans h.stp.grown.output, Nat.le_trans h.low g.size, fun j hj hn => (g.block j (Nat.lt_of_lt_of_le hj h.low) (fun e => by
    have := (h.row.blk e.symm).1
    omega)).trans (h.stp.grown.block j hj hn)⟩
  refine ⟨⟨⟨hgw.os, hgw.tape, hgw.output, by simpa using hgw.size, fun j hj hn => (Below.heap_setCell _ _ _ _ (by have := h.new; show j ≠ M; omega)).trans (hgw.block j hj hn)⟩, (Below.heap_setCell _ _ _ _ h.ne).trans hin⟩, ?_, hr.keep fun j cs hj => Below.heap_setCell _ _ _ _ (fun e => ?_), h.ne, h.new⟩
  · have e := Sm.heap_set hbx 2 (.slice A' (l.length + 1) c')
    rw [hl]
    exact e
  · have e2 : j = M := e
    subst e2
    rw [hbx] at hj
    simp only [Option.some.injEq, Obj.cells.injEq] at hj
    exact absurd hj.2.1 (by decide)
/-- The same stored anew. -/
theorem Fd.again (h : Fd w W b M ix ep A c l r) : Fd w (((W.setCell ⟨M, 0, none⟩ (.int .i64 ix)).setCell ⟨M, 1, none⟩ (.int .i64 ep)).setCell ⟨M, 2, none⟩ (.slice A l.length c)) b M ix ep A c l r :=
  ((h.set 0 (.int .i64 ix) ix ep (by simp)).set 1 (.int .i64 ep) ix ep (by simp)).set 2 (.slice A l.length c) ix ep (by simp)
end
end Ba
set_option maxRecDepth 100000 in
set_option maxHeartbeats 8000000 in
theorem baFields_any {w : World} {b : Nat} (s : ByteArray) (hin : inAt w b ⟨s, 0, 0⟩) (hs : s.size ≤ 281474976710656) :
    Calls Try.prog 46 #[.pointer (some ⟨b, 0, none⟩)] w fun e w' => ∃ A n c, e = .returned (.tuple #[.agg #[.int .i64 ((Ba.rdI s).1 : Int), .int .i64 ((Ba.rdE s).1 : Int), .slice A n c], .int .i64 (Ba.fault1 s : Nat)]) ∧ (Ba.fault1 s = 0 → n = (Ba.rdO s).1.length ∧ Ba.listAt w' A (Ba.rdO s).1) ∧ w.grownBy w' (some b) := by
  obtain ⟨M, hM⟩ : ∃ M, M = w.heap.size := ⟨_, rfl⟩
  have hlt := hin.lt
  have S1 : Hid (Ba.Fd w (w.alloc (.cells #[.int .i64 0, .int .i64 0, .slice none 0 0] 31)) b M 0 0 none 0 [] ⟨s, 0, 0⟩) :=
    ⟨⟨⟨rfl, rfl, rfl, by simp, fun j hj _ => Below.heap_alloc _ _ _ hj⟩, (Below.heap_alloc _ _ _ hlt).trans hin⟩, by rw [hM]; exact heap_alloc_new w _, Ba.Row.nil _ _, by omega, by omega⟩
  have HM := Lib.hid hM
  have ok0 : Rd.Ok ⟨s, 0, 0⟩ := ⟨Nat.zero_le _, Nat.zero_le _, hs⟩
  obtain ⟨v1, hv1⟩ : ∃ v, v = (Ba.rdI s).1 := ⟨_, rfl⟩
  obtain ⟨r1, hr1⟩ : ∃ v, v = (Ba.rdI s).2 := ⟨_, rfl⟩
  obtain ⟨v2, hv2⟩ : ∃ v, v = (Ba.rdE s).1 := ⟨_, rfl⟩
  obtain ⟨r2, hr2⟩ : ∃ v, v = (Ba.rdE s).2 := ⟨_, rfl⟩
  obtain ⟨n, hn⟩ : ∃ v, v = (Ba.rdN s).1 := ⟨_, rfl⟩
  obtain ⟨r3, hr3⟩ : ∃ v, v = (Ba.rdN s).2 := ⟨_, rfl⟩
  have M1 : Hid (∀ wx, inAt wx b ⟨s, 0, 0⟩ → Calls Try.prog 68 #[.pointer (some ⟨b, 0, none⟩), .int .i64 4611686018427387904] wx fun e w' => e = .returned (.int .i64 (v1 : Int)) ∧ Stp wx w' b r1) := fun wx h => by rw [hv1, hr1]; exact most_in h ok0 4611686018427387904 (by decide)
  have ok1 : r1.Ok := by rw [hr1]; exact ok0.most _
  have M2 : Hid (∀ wx, inAt wx b r1 → Calls Try.prog 68 #[.pointer (some ⟨b, 0, none⟩), .int .i64 9223372036854775807] wx fun e w' => e = .returned (.int .i64 (v2 : Int)) ∧ Stp wx w' b r2) := fun wx h => by rw [hv2, hr2]; rw [hr1] at h ok1; exact most_in h ok1 9223372036854775807 (by decide)
  have ok2 : r2.Ok := by rw [hr2]; rw [hr1] at ok1; exact ok1.most _
  have M3 : Hid (∀ wx, inAt wx b r2 → Calls Try.prog 68 #[.pointer (some ⟨b, 0, none⟩), .int .i64 4] wx fun e w' => e = .returned (.int .i64 (n : Int)) ∧ Stp wx w' b r3) := fun wx h => by rw [hn, hr3]; rw [hr2] at h ok2; exact most_in h ok2 4 (by decide)
  have ok3 : r3.Ok := by rw [hr3]; rw [hr2] at ok2; exact ok2.most _
  have hn4 : n ≤ 4 := by
    have := Rm.most_le (Ba.rdE s).2 4 (by decide)
    have e : ((Ba.rdE s).2.most 4).1 = n := by rw [hn]; rfl
    rw [e] at this
    omega
  obtain ⟨hF1, hF2⟩ := Ba.fields_fault s
  rw [← hn, ← hr3] at hF1 hF2
  rw [← hv1, ← hv2]
  obtain ⟨FE, hFE⟩ : ∃ v, v = Ba.fault1 s := ⟨_, rfl⟩
  obtain ⟨LO, hLO⟩ : ∃ v, v = (Ba.rdO s).1 := ⟨_, rfl⟩
  rw [← hFE, ← hLO] at hF2
  rw [← hFE] at hF1
  rw [← hFE, ← hLO]
  have HF1 := Lib.hid hF1
  have HF2 := Lib.hid hF2
  clear hv1 hr1 hv2 hr2 hn hr3 hF1 hF2 hFE hLO hin hM hlt ok0 hs ok1 ok2
  go_enter Try.func46, Try.ntmps46
  go_upto_region 1 with (fail)
  rw [← HM.out]
  generalize w.alloc (.cells #[.int .i64 0, .int .i64 0, .slice none 0 0] 31) = W1 at *
  go_wp2_with fail
  refine (M1.out _ S1.out.stp.inAt).mono ?_
  rintro e w2 ⟨rfl, st⟩
  have S1b := Lib.hid (S1.out.step st)
  have c0 := Sm.cells_of S1b.out.box 0 _ rfl
  have f0 := Sm.free_of S1b.out.box 0
  have S2 : Hid (Ba.Fd w (w2.setCell ⟨M, 0, none⟩ (.int .i64 (v1 : Int))) b M v1 0 none 0 [] r1) := S1b.out.set 0 (.int .i64 (v1 : Int)) v1 0 (by rfl)
  go_upto_region 2 with (fail)
  generalize w2.setCell ⟨M, 0, none⟩ (.int .i64 (v1 : Int)) = w3 at *
  clear S1 S1b c0 f0 st M1
  go_wp2_with fail
  refine (M2.out _ S2.out.stp.inAt).mono ?_
  rintro e w4 ⟨rfl, st⟩
  have S2b := Lib.hid (S2.out.step st)
  have c0 := Sm.cells_of S2b.out.box 1 _ rfl
  have f0 := Sm.free_of S2b.out.box 1
  have S3 : Hid (Ba.Fd w (w4.setCell ⟨M, 1, none⟩ (.int .i64 (v2 : Int))) b M v1 v2 none 0 [] r2) := S2b.out.set 1 (.int .i64 (v2 : Int)) v1 v2 (by rfl)
  go_upto_region 3 with (fail)
  generalize w4.setCell ⟨M, 1, none⟩ (.int .i64 (v2 : Int)) = w5 at *
  clear S2 S2b c0 f0 st M2
  go_wp2_with fail
  refine (M3.out _ S3.out.stp.inAt).mono ?_
  rintro e w6 ⟨rfl, st⟩
  have S4 := Lib.hid (S3.out.step st)
  clear S3 st M3
  go_upto_region 4 with (fail)
  go_loopw [14] (fun i wr => ∃ (A : Option Addr) (c : Nat) (l : List Ba.Op) (r : Rd), i = .int .i64 (l.length : Nat) ∧ l.length ≤ n ∧ r.Ok ∧ Hid (Ba.pdE (n - l.length) r = FE) ∧ Hid (FE = 0 → l ++ (Ba.pdOps (n - l.length) r).1 = LO) ∧ Ba.Fd w wr b M v1 v2 A c l r) (fun i _ => n - (intOf i).toNat)
  case atStart => exact ⟨none, 0, [], r3, rfl, Nat.zero_le _, ok3, HF1.out, HF2.out, S4.out⟩
  case round =>
    clear S4 HF1 HF2 ok3
    obtain ⟨A, c, l, r, rfl, hk, hrok, h1, h2, s⟩ := hrel
    have S5 := Lib.hid s
    clear s
    by_cases hkn : l.length < n
    · have hki : (l.length : Int) < (n : Int) := by omega
      have hsuc : IntKind.i64.wrap ((l.length : Int) + 1) = ((l.length + 1 : Nat) : Int) := by simp [IntKind.wrap, IntKind.bits, IntKind.signed]; omega
      have RD := Lib.hid (baRd_any S5.out.stp.inAt hrok)
      have e1 := h1.out
      have e2 := h2.out
      have hnk : n - l.length = (n - (l.length + 1)) + 1 := by omega
      rw [hnk] at e1 e2
      have hok2 := Ba.pdOp_ok hrok
      by_cases he : (Ba.pdOp r).2.2 = 0
      · rw [Ba.pdE_good he] at e1
        rw [Ba.pdOps_good he] at e2
        simp only at e2
        rw [he] at RD
        obtain ⟨x, hx⟩ : ∃ x, x = (Ba.pdOp r).1 := ⟨_, rfl⟩
        obtain ⟨r', hr'⟩ : ∃ x, x = (Ba.pdOp r).2.1 := ⟨_, rfl⟩
        rw [← hx, ← hr'] at RD e2
        rw [← hr'] at hok2 e1
        have E1 := Lib.hid e1
        have E2 : Hid (FE = 0 → (l ++ [x]) ++ (Ba.pdOps (n - (l.length + 1)) r').1 = LO) := fun h0 => by rw [List.append_assoc]; exact e2 h0
        clear e1 e2 hnk h1 h2 hx hr' he
        go_wp2_with fail
        refine RD.out.mono ?_
        rintro e w7 ⟨rfl, st⟩
        have S6 := Lib.hid (S5.out.step st)
        clear S5 st RD
        have z0 : (w7.alloc (.cells #[.int .u8 0, .string ⟨#[]⟩, .string ⟨#[]⟩] 37)).frozen? ⟨w7.heap.size, 0, none⟩ = false := Sm.free_of (heap_alloc_new w7 _) 0
        have S7 := Lib.hid (S6.out.alloc (.cells #[.int .u8 (x.k : Int), .string x.p, .string x.v] 37))
        have gx := heap_alloc_new w7 (.cells #[.int .u8 (x.k : Int), .string x.p, .string x.v] 37)
        go_upto_region 8 with (fail)
        obtain ⟨X, hX⟩ : ∃ X, X = w7.heap.size := ⟨_, rfl⟩
        rw [← hX] at gx ⊢
        generalize w7.alloc (.cells #[.int .u8 (x.k : Int), .string x.p, .string x.v] 37) = w8 at *
        clear S6 z0 hX
        have y0 := Sm.cells_of gx 0 _ rfl
        have y1 := Sm.cells_of gx 1 _ rfl
        have y2 := Sm.cells_of gx 2 _ rfl
        have c2 := Sm.cells_of S7.out.box 2 _ rfl
        have S8 := Lib.hid (S7.out.alloc (.cells #[.int .u8 (x.k : Int), .string x.p, .string x.v] 37))
        have g8 := Lib.hid (heap_alloc_new w8 (.cells #[.int .u8 (x.k : Int), .string x.p, .string x.v] 37))
        go_upto_region 9 with (at_builtin; refine Ba.wp_push rfl _ _ rfl rfl S8.out.row x rfl g8.out (by omega) S8.out.low ?_; intro A' c' w9 hrow hgrow; have S9 := Lib.hid (S8.out.push hrow hgrow); have f2 : w9.frozen? ⟨M, 2, none⟩ = false := (Sm.free_of ((hgrow.block M (Sm.lt_of S8.out.box) (fun e => S8.out.row.off S8.out.box (by decide) e.symm)).trans S8.out.box) 2); have d2 : w9.cell? ⟨M, 2, none⟩ = some (.slice A l.length c) := Sm.cells_of ((hgrow.block M (Sm.lt_of S8.out.box) (fun e => S8.out.row.off S8.out.box (by decide) e.symm)).trans S8.out.box) 2 _ rfl)
        go_wp2
        go_roundw
        case rel => exact ⟨A', c', l ++ [x], r', by rw [List.length_append]; rfl, by rw [List.length_append]; exact hkn, hok2, by rw [List.length_append]; exact E1.out, by rw [List.length_append]; exact E2.out, S9.out⟩
        case measure => simp [intOf]; omega
      · rw [Ba.pdE_bad he] at e1
        have hei : (((Ba.pdOp r).2.2 : Int) != 0) = true := by rw [bne_iff_ne]; omega
        have hF0 : ¬ FE = 0 := by rw [← e1]; exact he
        rw [e1] at RD hei
        obtain ⟨x, hx⟩ : ∃ x, x = (Ba.pdOp r).1 := ⟨_, rfl⟩
        obtain ⟨r', hr'⟩ : ∃ x, x = (Ba.pdOp r).2.1 := ⟨_, rfl⟩
        rw [← hx, ← hr'] at RD
        have HF0 := Lib.hid hF0
        clear e1 e2 hnk h1 h2 hx hr' he hok2 hF0
        go_wp2_with fail
        refine RD.out.mono ?_
        rintro e w7 ⟨rfl, st⟩
        have S6 := Lib.hid (S5.out.step st)
        clear S5 st RD
        have z0 : (w7.alloc (.cells #[.int .u8 0, .string ⟨#[]⟩, .string ⟨#[]⟩] 37)).frozen? ⟨w7.heap.size, 0, none⟩ = false := Sm.free_of (heap_alloc_new w7 _) 0
        have S7 := Lib.hid (S6.out.alloc (.cells #[.int .u8 (x.k : Int), .string x.p, .string x.v] 37))
        go_upto_region 7 with (fail)
        generalize w7.alloc (.cells #[.int .u8 (x.k : Int), .string x.p, .string x.v] 37) = w8 at *
        clear S6 z0
        have c0 := Sm.cells_of S7.out.box 0 _ rfl
        have c1 := Sm.cells_of S7.out.box 1 _ rfl
        have c2 := Sm.cells_of S7.out.box 2 _ rfl
        have f0 := Sm.free_of S7.out.box 0
        have f1 := Sm.free_of S7.out.box 1
        have f2 := Sm.free_of S7.out.box 2
        have SE := Lib.hid S7.out.again
        go_wp2
        refine bodyPost_ret (v := .tuple #[.agg #[.int .i64 (v1 : Int), .int .i64 (v2 : Int), .slice A l.length c], .int .i64 (FE : Int)]) ((results_cell_tmp rfl _ _ _).trans (by go_simp)) rfl ⟨A, l.length, c, rfl, fun h0 => absurd h0 HF0.out, SE.out.stp.grown⟩
    · have hki : ¬ (l.length : Int) < (n : Int) := by omega
      have e1 := h1.out
      have e2 := h2.out
      rw [show n - l.length = 0 by omega] at e1 e2
      have ef : Ba.pdE 0 r = r.fin := by unfold Ba.pdE Ba.pdOps; simp
      rw [ef] at e1
      have el : FE = 0 → l = LO := fun h0 => by have := e2 h0; rwa [show (Ba.pdOps 0 r).1 = [] from rfl, List.append_nil] at this
      have EL := Lib.hid el
      have EN : Hid (∀ n, Calls Try.prog 70 #[.pointer (some ⟨b, 0, none⟩)] (wr.drewN n) fun e w' => e = .returned (.int .i64 FE) ∧ ∃ m, w' = (wr.drewN n).drewN m) := fun n => by rw [← e1]; exact fin_in S5.out.stp.inAt hrok
      have EN0 : Hid (Calls Try.prog 70 #[.pointer (some ⟨b, 0, none⟩)] wr.drew fun e w' => e = .returned (.int .i64 FE) ∧ ∃ m, w' = wr.drew.drewN m) := by show Calls _ _ _ _ _; rw [← e1]; exact fin_in S5.out.stp.inAt hrok
      clear e1 e2 ef el h1 h2 hrok
      have c0 := Sm.cells_of S5.out.box 0 _ rfl
      have c1 := Sm.cells_of S5.out.box 1 _ rfl
      have c2 := Sm.cells_of S5.out.box 2 _ rfl
      have f0 := Sm.free_of S5.out.box 0
      have f1 := Sm.free_of S5.out.box 1
      have f2 := Sm.free_of S5.out.box 2
      have SE := Lib.hid S5.out.again
      have SD : Hid (∀ m, Ba.Fd w ((((wr.drewN m).setCell ⟨M, 0, none⟩ (.int .i64 (v1 : Int))).setCell ⟨M, 1, none⟩ (.int .i64 (v2 : Int))).setCell ⟨M, 2, none⟩ (.slice A l.length c)) b M v1 v2 A c l r) := fun m => (S5.out.drewN m).again
      go_upto_region 10 with (fail)
      go_region_with (go_at_call 70; refine EN0.out.mono ?_; rintro e w9 ⟨rfl, m, rfl⟩)
      all_goals go_wp2
      all_goals refine bodyPost_ret (v := .tuple #[.agg #[.int .i64 (v1 : Int), .int .i64 (v2 : Int), .slice A l.length c], .int .i64 (FE : Int)]) ((results_cell_tmp rfl _ _ _).trans (by go_simp)) rfl ⟨A, l.length, c, rfl, fun h0 => ⟨by rw [EL.out h0], ?_⟩, (SD.out (1 + m)).stp.grown⟩
      all_goals rw [← EL.out h0]
      all_goals exact (SD.out (1 + m)).row.listAt
end Go.Proofs.Ytlndggbidmmodaa
