/-
  batch's read, fields and Read.
-/
import Derived.Test.YtlndggbidmmodaaBaOwn
import Derived.Test.YtlndggbidmmodaaBaRight
import Derived.Test.YtlndggbidmmodaaIn4
import Derived.Laws.ResultCell
namespace Go.Proofs.Ytlndggbidmmodaa
open Go.RowKit Pk
namespace Ba
/-- What batch's own read answers: it goes on behind a text that fails. -/
def pdOp (r : Rd) : Op × Rd × Nat :=
  if r.byte.2.f ≠ 0 then (⟨r.byte.1, no, no⟩, r.byte.2, r.byte.2.f)
  else if r.byte.1 ≠ 1 ∧ r.byte.1 ≠ 2 then (⟨r.byte.1, no, no⟩, r.byte.2, 10)
  else if r.byte.1 = 1 then (⟨1, ⟨(r.byte.2.text 33).1.toArray⟩, ⟨((r.byte.2.text 33).2.text 32).1.toArray⟩⟩, ((r.byte.2.text 33).2.text 32).2, 0)
  else (⟨2, ⟨(r.byte.2.text 33).1.toArray⟩, no⟩, (r.byte.2.text 33).2, 0)
def pdOps : Nat → Rd → List Op × Rd × Nat
  | 0, r => ([], r, 0)
  | n + 1, r => if (pdOp r).2.2 ≠ 0 then ([], (pdOp r).2.1, (pdOp r).2.2) else ((pdOp r).1 :: (pdOps n (pdOp r).2.1).1, (pdOps n (pdOp r).2.1).2)
def pdE (n : Nat) (r : Rd) : Nat := if (pdOps n r).2.2 ≠ 0 then (pdOps n r).2.2 else (pdOps n r).2.1.fin
def rdE2 (n : Nat) (r : Rd) : Nat := if (rdOps n r).2.2 ≠ 0 then (rdOps n r).2.2 else if (rdOps n r).2.1.rest ≠ [] then 8 else 0
theorem go_stuck {r : Rd} (h : r.f ≠ 0) (sz e : Nat) : r.go sz e = r := by unfold Rd.go; rw [if_neg h]
theorem byte_stuck {r : Rd} (h : r.f ≠ 0) : r.byte.2 = r := go_stuck h _ _
theorem text_stuck {r : Rd} (h : r.f ≠ 0) (m : Int) : (r.text m).2 = r := go_stuck h _ _
theorem most_stuck {r : Rd} (h : r.f ≠ 0) (m : Int) : (r.most m).2 = r := go_stuck h _ _
theorem most_zero {r : Rd} {m : Int} (h : (r.most m).2.f ≠ 0) : (r.most m).1 = 0 := by
  have h1 : r.pass (cnt r.rest m).2.2 = false := by
    apply pass_false
    by_cases hf : r.f = 0
    · right
      intro e
      apply h
      show (r.go _ (cnt r.rest m).2.2).f = 0
      rw [e, go_ok hf]
      exact hf
    · exact .inl hf
  unfold Rd.most
  simp only [h1]
  rfl
theorem pdE_stuck (n : Nat) {r : Rd} (h : r.f ≠ 0) : pdE n r = r.f := by
  match n with
  | 0 => unfold pdE; rw [if_neg (by simp [pdOps])]; show r.fin = _; unfold Rd.fin; rw [if_pos h]
  | n + 1 =>
    have e : (pdOp r).2.2 = r.f := by
      unfold pdOp
      rw [byte_stuck h, if_pos h]
    unfold pdE pdOps
    rw [e, if_pos h]
    simp only
    rw [if_pos h]
theorem pd_same {r : Rd} (h : (rdOp r).2.2 = 0) : pdOp r = rdOp r := by
  unfold rdOp at h
  unfold rdOp pdOp
  by_cases h1 : r.byte.2.f = 0
  · rw [if_neg (show ¬ r.byte.2.f ≠ 0 by omega)] at h
    rw [if_neg (show ¬ r.byte.2.f ≠ 0 by omega), if_neg (show ¬ r.byte.2.f ≠ 0 by omega)]
    by_cases h2 : r.byte.1 ≠ 1 ∧ r.byte.1 ≠ 2
    · rw [if_pos h2, if_pos h2]
    · rw [if_neg h2] at h
      rw [if_neg h2, if_neg h2]
      by_cases h3 : (r.byte.2.text 33).2.f = 0
      · rw [if_neg (show ¬ (r.byte.2.text 33).2.f ≠ 0 by omega)] at h
        rw [if_neg (show ¬ (r.byte.2.text 33).2.f ≠ 0 by omega)]
        by_cases h4 : r.byte.1 = 1
        · rw [if_pos h4] at h
          rw [if_pos h4, if_pos h4]
          simp only at h
          rw [h]
        · rw [if_neg h4, if_neg h4]
      · rw [if_pos h3] at h; exact absurd h h3
  · rw [if_pos h1] at h; exact absurd h h1
theorem pd_fault {r : Rd} (h : (rdOp r).2.2 ≠ 0) : (pdOp r).2.2 = (rdOp r).2.2 ∨ ((pdOp r).2.2 = 0 ∧ (pdOp r).2.1.f = (rdOp r).2.2) := by
  unfold rdOp at h
  unfold rdOp pdOp
  by_cases h1 : r.byte.2.f = 0
  · rw [if_neg (show ¬ r.byte.2.f ≠ 0 by omega)] at h
    rw [if_neg (show ¬ r.byte.2.f ≠ 0 by omega), if_neg (show ¬ r.byte.2.f ≠ 0 by omega)]
    by_cases h2 : r.byte.1 ≠ 1 ∧ r.byte.1 ≠ 2
    · rw [if_pos h2, if_pos h2]; exact .inl rfl
    · rw [if_neg h2] at h
      rw [if_neg h2, if_neg h2]
      right
      by_cases h3 : (r.byte.2.text 33).2.f = 0
      · rw [if_neg (show ¬ (r.byte.2.text 33).2.f ≠ 0 by omega)] at h
        rw [if_neg (show ¬ (r.byte.2.text 33).2.f ≠ 0 by omega)]
        by_cases h4 : r.byte.1 = 1
        · rw [if_pos h4, if_pos h4]; exact ⟨rfl, rfl⟩
        · rw [if_neg h4] at h; exact absurd rfl h
      · rw [if_pos h3]
        by_cases h4 : r.byte.1 = 1
        · rw [if_pos h4]
          refine ⟨rfl, ?_⟩
          show ((r.byte.2.text 33).2.text 32).2.f = _
          rw [text_stuck h3]
        · rw [if_neg h4]; exact ⟨rfl, rfl⟩
  · rw [if_pos h1, if_pos h1]; exact .inl rfl
theorem pdOps_bad {n : Nat} {r : Rd} (h : (pdOp r).2.2 ≠ 0) : pdOps (n + 1) r = ([], (pdOp r).2.1, (pdOp r).2.2) := by rw [pdOps, if_pos h]
theorem pdOps_good {n : Nat} {r : Rd} (h : (pdOp r).2.2 = 0) : pdOps (n + 1) r = ((pdOp r).1 :: (pdOps n (pdOp r).2.1).1, (pdOps n (pdOp r).2.1).2) := by rw [pdOps, if_neg (show ¬ (pdOp r).2.2 ≠ 0 by omega)]
theorem rdOps_bad {n : Nat} {r : Rd} (h : (rdOp r).2.2 ≠ 0) : rdOps (n + 1) r = ([], (rdOp r).2.1, (rdOp r).2.2) := by rw [rdOps, if_pos h]
theorem rdOps_good {n : Nat} {r : Rd} (h : (rdOp r).2.2 = 0) : rdOps (n + 1) r = ((rdOp r).1 :: (rdOps n (rdOp r).2.1).1, (rdOps n (rdOp r).2.1).2) := by rw [rdOps, if_neg (show ¬ (rdOp r).2.2 ≠ 0 by omega)]
theorem pdE_bad {n : Nat} {r : Rd} (h : (pdOp r).2.2 ≠ 0) : pdE (n + 1) r = (pdOp r).2.2 := by unfold pdE; rw [pdOps_bad h]; simp only; rw [if_pos h]
theorem pdE_good {n : Nat} {r : Rd} (h : (pdOp r).2.2 = 0) : pdE (n + 1) r = pdE n (pdOp r).2.1 := by unfold pdE; rw [pdOps_good h]
theorem pd_rd : ∀ (n : Nat) {r : Rd} (_ : r.f = 0), pdE n r = rdE2 n r ∧ (pdE n r = 0 → (pdOps n r).1 = (rdOps n r).1)
  | 0, r, hf => by
    constructor
    · unfold pdE rdE2 pdOps rdOps Rd.fin
      simp [hf]
    · intro _; rfl
  | n + 1, r, hf => by
    by_cases h : (rdOp r).2.2 = 0
    · have e := pd_same h
      have h' : (pdOp r).2.2 = 0 := by rw [e]; exact h
      obtain ⟨-, -, hf2, -⟩ := rdOp_went h
      obtain ⟨i1, i2⟩ := pd_rd n hf2
      have a1 : pdE (n + 1) r = pdE n (rdOp r).2.1 := by rw [pdE_good h', e]
      have a2 : rdE2 (n + 1) r = rdE2 n (rdOp r).2.1 := by unfold rdE2; rw [rdOps_good h]
      refine ⟨by rw [a1, a2, i1], fun h0 => ?_⟩
      rw [a1] at h0
      rw [pdOps_good h', rdOps_good h, e]
      simp only
      rw [i2 h0]
    · have a2 : rdE2 (n + 1) r = (rdOp r).2.2 := by
        unfold rdE2
        rw [rdOps_bad h]
        simp only
        rw [if_pos h]
      have a1 : pdE (n + 1) r = (rdOp r).2.2 := by
        rcases pd_fault h with e | ⟨e1, e2⟩
        · rw [pdE_bad (by rw [e]; exact h), e]
        · rw [pdE_good e1, pdE_stuck n (by rw [e2]; exact h), e2]
      refine ⟨by rw [a1, a2], fun h0 => ?_⟩
      rw [a1] at h0
      exact absurd h0 h
/-- The fault of reading, ahead of Right. -/
def fault1 (s : ByteArray) : Nat := if (rdN s).2.f ≠ 0 then (rdN s).2.f else if (rdO s).2.2 ≠ 0 then (rdO s).2.2 else if (rdO s).2.1.rest ≠ [] then 8 else 0
theorem fault_two (s : ByteArray) : fault s = if fault1 s ≠ 0 then fault1 s else right (got s) := by
  unfold fault fault1
  by_cases h1 : (rdN s).2.f = 0
  · rw [if_neg (show ¬ (rdN s).2.f ≠ 0 by omega), if_neg (show ¬ (rdN s).2.f ≠ 0 by omega)]
    by_cases h2 : (rdO s).2.2 = 0
    · rw [if_neg (show ¬ (rdO s).2.2 ≠ 0 by omega), if_neg (show ¬ (rdO s).2.2 ≠ 0 by omega)]
      by_cases h3 : (rdO s).2.1.rest = []
      · rw [if_neg (by simp [h3]), if_neg (by simp [h3])]
      · rw [if_pos h3, if_pos h3]; rfl
    · rw [if_pos h2, if_pos h2, if_pos h2]
  · rw [if_pos h1, if_pos h1, if_pos h1]
/-- What fields reads is just that. -/
theorem fields_fault (s : ByteArray) : pdE (rdN s).1 (rdN s).2 = fault1 s ∧ (fault1 s = 0 → (pdOps (rdN s).1 (rdN s).2).1 = (rdO s).1) := by
  unfold fault1
  by_cases h : (rdN s).2.f = 0
  · obtain ⟨i1, i2⟩ := pd_rd (rdN s).1 h
    rw [if_neg (by rw [h]; decide)]
    exact ⟨i1, fun h0 => i2 (by rw [i1]; exact h0)⟩
  · rw [if_pos h]
    exact ⟨pdE_stuck _ h, fun h0 => absurd h0 h⟩
theorem pdOp_ok {r : Rd} (h : r.Ok) : (pdOp r).2.1.Ok := by
  unfold pdOp
  split
  · exact h.byte
  · split
    · exact h.byte
    · split
      · exact (h.byte.text _).text _
      · exact h.byte.text _
theorem byte_lt (r : Rd) : r.byte.1 < 256 := by
  have h : ∀ c : Bool, (if c = true then (r.rest.headD 0).toNat else 0) < 256 := by
    intro c
    cases c
    · show 0 < 256
      decide
    · exact UInt8.toNat_lt _
  exact h _
end Ba
namespace Ba
/-- Where read stands: the reader r in block b, what was read in block M. -/
structure Rs (w W : World) (b M : Nat) (x : Op) (r : Rd) : Prop where
  stp : Stp w W b r
  row : W.heap[M]? = some (.cells #[.int .u8 (x.k : Int), .string x.p, .string x.v] 37 (0, 0))
  ne : b ≠ M
  new : w.heap.size ≤ M
theorem Rs.step {w W W' : World} {b M : Nat} {x : Op} {r r' : Rd} (h : Rs w W b M x r) (k : Stp W W' b r') : Rs w W' b M x r' :=
  ⟨k.after h.stp.grown, (k.grown.block M (Sm.lt_of h.row) (fun e => h.ne (Option.some.inj e).symm)).trans h.row, h.ne, h.new⟩
theorem Rs.set {w W : World} {b M : Nat} {x x' : Op} {r : Rd} (h : Rs w W b M x r) (i : Nat) (v : Value) (hx : (#[.int .u8 (x.k : Int), .string x.p, .string x.v] : Array Value).setIfInBounds i v = #[.int .u8 (x'.k : Int), .string x'.p, .string x'.v]) : Rs w (W.setCell ⟨M, i, none⟩ v) b M x' r :=
  ⟨⟨⟨h.stp.grown.os, h.stp.grown.tape, h.stp.grown.output, by simpa using h.stp.grown.size, fun j hj hn => (Below.heap_setCell _ _ _ _ (by have := h.new; show j ≠ M; omega)).trans (h.stp.grown.block j hj hn)⟩, (Below.heap_setCell _ _ _ _ h.ne).trans h.stp.inAt⟩, by
    have e := Sm.heap_set h.row i v
    rw [hx] at e
    exact e, h.ne, h.new⟩
theorem Rs.drewN {w W : World} {b M : Nat} {x : Op} {r : Rd} (h : Rs w W b M x r) (n : Nat) : Rs w (W.drewN n) b M x r := ⟨⟨grown_drewN h.stp.grown n, h.stp.inAt⟩, h.row, h.ne, h.new⟩
end Ba
namespace Ba
/-- The same stored anew. -/
theorem rs_again {w W : World} {b M : Nat} {x : Op} {r : Rd} (h : Rs w W b M x r) : Rs w (((W.setCell ⟨M, 0, none⟩ (.int .u8 (x.k : Int))).setCell ⟨M, 1, none⟩ (.string x.p)).setCell ⟨M, 2, none⟩ (.string x.v)) b M x r :=
  ((h.set (x' := x) 0 (.int .u8 (x.k : Int)) (by simp)).set (x' := x) 1 (.string x.p) (by simp)).set (x' := x) 2 (.string x.v) (by simp)
end Ba
set_option maxRecDepth 100000 in
set_option maxHeartbeats 4000000 in
theorem baRd_any {w : World} {b : Nat} {r : Rd} (hin : inAt w b r) (hr : r.Ok) :
    Calls Try.prog 69 #[.pointer (some ⟨b, 0, none⟩)] w fun e w' => e = .returned (.tuple #[.agg #[.int .u8 ((Ba.pdOp r).1.k : Int), .string (Ba.pdOp r).1.p, .string (Ba.pdOp r).1.v], .int .i64 ((Ba.pdOp r).2.2 : Nat)]) ∧ Stp w w' b (Ba.pdOp r).2.1 := by
  obtain ⟨M, hM⟩ : ∃ M, M = w.heap.size := ⟨_, rfl⟩
  have hlt := hin.lt
  have S1 : Hid (Ba.Rs w (w.alloc (.cells #[.int .u8 0, .string ⟨#[]⟩, .string ⟨#[]⟩] 37)) b M ⟨0, Ba.no, Ba.no⟩ r) :=
    ⟨⟨⟨rfl, rfl, rfl, by simp, fun j hj _ => Below.heap_alloc _ _ _ hj⟩, (Below.heap_alloc _ _ _ hlt).trans hin⟩, by rw [hM]; exact heap_alloc_new w _, by omega, by omega⟩
  have HM := Lib.hid hM
  have hbl := Ba.byte_lt r
  unfold Ba.pdOp
  obtain ⟨k, hk⟩ : ∃ k, k = r.byte.1 := ⟨_, rfl⟩
  obtain ⟨r1, hr1⟩ : ∃ k, k = r.byte.2 := ⟨_, rfl⟩
  have BY : Hid (∀ wx, inAt wx b r → Calls Try.prog 86 #[.pointer (some ⟨b, 0, none⟩)] wx fun e w' => e = .returned (.int .u8 (k : Int)) ∧ Stp wx w' b r1) := fun wx h => by rw [hk, hr1]; exact byte_in h hr
  have ok1 : r1.Ok := by rw [hr1]; exact hr.byte
  rw [← hk] at hbl ⊢
  rw [← hr1]
  clear hin hM hk hr1 hlt
  have KI := Lib.hid (fun wx => baIsKind_any wx k)
  by_cases hf : r1.f = 0
  · rw [if_neg (by omega)]
    by_cases hk : k ≠ 1 ∧ k ≠ 2
    · rw [if_pos hk]
      rw [Ba.kind_no hk.1 hk.2] at KI
      clear hk
      go_enter Try.func69, Try.ntmps69
      go_upto_region 1 with (fail)
      rw [← HM.out]
      generalize w.alloc (.cells #[.int .u8 0, .string ⟨#[]⟩, .string ⟨#[]⟩] 37) = W1 at *
      go_wp2_with fail
      refine (BY.out _ S1.out.stp.inAt).mono ?_
      rintro e w2 ⟨rfl, st⟩
      have S2 := Lib.hid (S1.out.step st)
      have c0 := Sm.cells_of S2.out.row 0 _ rfl
      have f0 := Sm.free_of S2.out.row 0
      have S3 : Hid (Ba.Rs w (w2.setCell ⟨M, 0, none⟩ (.int .u8 (k : Int))) b M ⟨k, Ba.no, Ba.no⟩ r1) := S2.out.set 0 (.int .u8 (k : Int)) (by rfl)
      go_upto_region 2 with (fail)
      generalize w2.setCell ⟨M, 0, none⟩ (.int .u8 (k : Int)) = w3 at *
      clear S1 S2 c0 f0 st BY
      have FA := Lib.hid (fault_in S3.out.stp.inAt)
      unfold Rd.fault at FA
      rw [if_pos hf] at FA
      go_wp2_with fail
      refine FA.out.mono ?_
      rintro e w4 ⟨rfl, n, rfl⟩
      have S4 := Lib.hid (S3.out.drewN n)
      clear S3 FA
      generalize w3.drewN n = w4 at *
      have c00 := Sm.cells_of S4.out.row 0 _ rfl
      go_wp2_with fail
      refine (KI.out _).mono ?_
      rintro e w5 ⟨rfl, rfl⟩
      clear KI
      clear c00
      have c0 := Sm.cells_of S4.out.row 0 _ rfl
      have c1 := Sm.cells_of S4.out.row 1 _ rfl
      have c2 := Sm.cells_of S4.out.row 2 _ rfl
      have f0 := Sm.free_of S4.out.row 0
      have f1 := Sm.free_of S4.out.row 1
      have f2 := Sm.free_of S4.out.row 2
      have SE := Lib.hid (Ba.rs_again S4.out)
      go_wp2
      refine bodyPost_ret (v := .tuple #[.agg #[.int .u8 (k : Int), .string ⟨#[]⟩, .string ⟨#[]⟩], .int .i64 10]) ((results_cell_tmp rfl _ _ _).trans (by go_simp <;> rfl)) rfl ⟨rfl, ?_⟩
      exact SE.out.stp
    · rw [if_neg hk]
      have hkk : Ba.kind k = true := by unfold Ba.kind; simp; omega
      rw [hkk] at KI
      clear hkk
      by_cases hk1 : k = 1
      · rw [if_pos hk1]
        have HK1 := Lib.hid hk1
        have e1 : ((k : Int) == 1) = true := by rw [hk1]; rfl
        clear hk hk1
        obtain ⟨tp, htp⟩ : ∃ x : ByteArray, x = ⟨(r1.text 33).1.toArray⟩ := ⟨_, rfl⟩
        obtain ⟨r2, hr2⟩ : ∃ x, x = (r1.text 33).2 := ⟨_, rfl⟩
        have ok2 : r2.Ok := by rw [hr2]; exact ok1.text _
        have T1 : Hid (∀ wx, inAt wx b r1 → Calls Try.prog 88 #[.pointer (some ⟨b, 0, none⟩), .int .i64 33] wx fun e w' => e = .returned (.string tp) ∧ Stp wx w' b r2) := fun wx h => by rw [htp, hr2]; exact text_in h ok1 33 (by decide)
        rw [← htp, ← hr2]
        clear htp hr2
        obtain ⟨tv, htv⟩ : ∃ x : ByteArray, x = ⟨(r2.text 32).1.toArray⟩ := ⟨_, rfl⟩
        obtain ⟨r3, hr3⟩ : ∃ x, x = (r2.text 32).2 := ⟨_, rfl⟩
        have T2 : Hid (∀ wx, inAt wx b r2 → Calls Try.prog 88 #[.pointer (some ⟨b, 0, none⟩), .int .i64 32] wx fun e w' => e = .returned (.string tv) ∧ Stp wx w' b r3) := fun wx h => by rw [htv, hr3]; exact text_in h ok2 32 (by decide)
        rw [← htv, ← hr3]
        clear htv hr3
        go_enter Try.func69, Try.ntmps69
        go_upto_region 1 with (fail)
        rw [← HM.out]
        generalize w.alloc (.cells #[.int .u8 0, .string ⟨#[]⟩, .string ⟨#[]⟩] 37) = W1 at *
        go_wp2_with fail
        refine (BY.out _ S1.out.stp.inAt).mono ?_
        rintro e w2 ⟨rfl, st⟩
        have S2 := Lib.hid (S1.out.step st)
        have c0 := Sm.cells_of S2.out.row 0 _ rfl
        have f0 := Sm.free_of S2.out.row 0
        have S3 : Hid (Ba.Rs w (w2.setCell ⟨M, 0, none⟩ (.int .u8 (k : Int))) b M ⟨k, Ba.no, Ba.no⟩ r1) := S2.out.set 0 (.int .u8 (k : Int)) (by rfl)
        go_upto_region 2 with (fail)
        generalize w2.setCell ⟨M, 0, none⟩ (.int .u8 (k : Int)) = w3 at *
        clear S1 S2 c0 f0 st BY
        have FA := Lib.hid (fault_in S3.out.stp.inAt)
        unfold Rd.fault at FA
        rw [if_pos hf] at FA
        go_wp2_with fail
        refine FA.out.mono ?_
        rintro e w4 ⟨rfl, n, rfl⟩
        have S4 := Lib.hid (S3.out.drewN n)
        clear S3 FA
        generalize w3.drewN n = w4 at *
        have c00 := Sm.cells_of S4.out.row 0 _ rfl
        go_wp2_with fail
        refine (KI.out _).mono ?_
        rintro e w5 ⟨rfl, rfl⟩
        clear KI
        go_wp2_with fail
        refine (T1.out _ S4.out.stp.inAt).mono ?_
        rintro e w5 ⟨rfl, st⟩
        have S5 := Lib.hid (S4.out.step st)
        clear T1 S4 st c00
        have c1 := Sm.cells_of S5.out.row 1 _ rfl
        have f1 := Sm.free_of S5.out.row 1
        have S6 : Hid (Ba.Rs w (w5.setCell ⟨M, 1, none⟩ (.string tp)) b M ⟨k, tp, Ba.no⟩ r2) := S5.out.set 1 (.string tp) (by rfl)
        go_upto_region 8 with (fail)
        generalize w5.setCell ⟨M, 1, none⟩ (.string tp) = w6 at *
        clear S5 c1 f1
        have c00 := Sm.cells_of S6.out.row 0 _ rfl
        go_wp2_with fail
        refine (T2.out _ S6.out.stp.inAt).mono ?_
        rintro e w7 ⟨rfl, st⟩
        have S7 := Lib.hid (S6.out.step st)
        clear T2 S6 st c00
        have c2 := Sm.cells_of S7.out.row 2 _ rfl
        have f2 := Sm.free_of S7.out.row 2
        have S8 : Hid (Ba.Rs w (w7.setCell ⟨M, 2, none⟩ (.string tv)) b M ⟨k, tp, tv⟩ r3) := S7.out.set 2 (.string tv) (by rfl)
        go_upto_region 10 with (fail)
        generalize w7.setCell ⟨M, 2, none⟩ (.string tv) = w8 at *
        clear S7 c2 f2
        have c0 := Sm.cells_of S8.out.row 0 _ rfl
        have c1 := Sm.cells_of S8.out.row 1 _ rfl
        have c2 := Sm.cells_of S8.out.row 2 _ rfl
        have f0 := Sm.free_of S8.out.row 0
        have f1 := Sm.free_of S8.out.row 1
        have f2 := Sm.free_of S8.out.row 2
        have SE := Lib.hid (Ba.rs_again S8.out)
        go_wp2
        refine bodyPost_ret (v := .tuple #[.agg #[.int .u8 (k : Int), .string tp, .string tv], .int .i64 0]) ((results_cell_tmp rfl _ _ _).trans (by go_simp <;> rfl)) rfl ⟨by rw [HK1.out]; rfl, ?_⟩
        exact SE.out.stp
      · rw [if_neg hk1]
        have HK2 : Hid (k = 2) := by show _ = _; omega
        have e1 : ((k : Int) == 1) = false := by rw [beq_eq_false_iff_ne]; omega
        clear hk hk1
        obtain ⟨tp, htp⟩ : ∃ x : ByteArray, x = ⟨(r1.text 33).1.toArray⟩ := ⟨_, rfl⟩
        obtain ⟨r2, hr2⟩ : ∃ x, x = (r1.text 33).2 := ⟨_, rfl⟩
        have ok2 : r2.Ok := by rw [hr2]; exact ok1.text _
        have T1 : Hid (∀ wx, inAt wx b r1 → Calls Try.prog 88 #[.pointer (some ⟨b, 0, none⟩), .int .i64 33] wx fun e w' => e = .returned (.string tp) ∧ Stp wx w' b r2) := fun wx h => by rw [htp, hr2]; exact text_in h ok1 33 (by decide)
        rw [← htp, ← hr2]
        clear htp hr2
        go_enter Try.func69, Try.ntmps69
        go_upto_region 1 with (fail)
        rw [← HM.out]
        generalize w.alloc (.cells #[.int .u8 0, .string ⟨#[]⟩, .string ⟨#[]⟩] 37) = W1 at *
        go_wp2_with fail
        refine (BY.out _ S1.out.stp.inAt).mono ?_
        rintro e w2 ⟨rfl, st⟩
        have S2 := Lib.hid (S1.out.step st)
        have c0 := Sm.cells_of S2.out.row 0 _ rfl
        have f0 := Sm.free_of S2.out.row 0
        have S3 : Hid (Ba.Rs w (w2.setCell ⟨M, 0, none⟩ (.int .u8 (k : Int))) b M ⟨k, Ba.no, Ba.no⟩ r1) := S2.out.set 0 (.int .u8 (k : Int)) (by rfl)
        go_upto_region 2 with (fail)
        generalize w2.setCell ⟨M, 0, none⟩ (.int .u8 (k : Int)) = w3 at *
        clear S1 S2 c0 f0 st BY
        have FA := Lib.hid (fault_in S3.out.stp.inAt)
        unfold Rd.fault at FA
        rw [if_pos hf] at FA
        go_wp2_with fail
        refine FA.out.mono ?_
        rintro e w4 ⟨rfl, n, rfl⟩
        have S4 := Lib.hid (S3.out.drewN n)
        clear S3 FA
        generalize w3.drewN n = w4 at *
        have c00 := Sm.cells_of S4.out.row 0 _ rfl
        go_wp2_with fail
        refine (KI.out _).mono ?_
        rintro e w5 ⟨rfl, rfl⟩
        clear KI
        go_wp2_with fail
        refine (T1.out _ S4.out.stp.inAt).mono ?_
        rintro e w5 ⟨rfl, st⟩
        have S5 := Lib.hid (S4.out.step st)
        clear T1 S4 st c00
        have c1 := Sm.cells_of S5.out.row 1 _ rfl
        have f1 := Sm.free_of S5.out.row 1
        have S6 : Hid (Ba.Rs w (w5.setCell ⟨M, 1, none⟩ (.string tp)) b M ⟨k, tp, Ba.no⟩ r2) := S5.out.set 1 (.string tp) (by rfl)
        go_upto_region 8 with (fail)
        generalize w5.setCell ⟨M, 1, none⟩ (.string tp) = w6 at *
        clear S5 c1 f1
        have c00 := Sm.cells_of S6.out.row 0 _ rfl
        clear c00
        have c0 := Sm.cells_of S6.out.row 0 _ rfl
        have c1 := Sm.cells_of S6.out.row 1 _ rfl
        have c2 := Sm.cells_of S6.out.row 2 _ rfl
        have f0 := Sm.free_of S6.out.row 0
        have f1 := Sm.free_of S6.out.row 1
        have f2 := Sm.free_of S6.out.row 2
        have SE := Lib.hid (Ba.rs_again S6.out)
        go_wp2
        refine bodyPost_ret (v := .tuple #[.agg #[.int .u8 (k : Int), .string tp, .string ⟨#[]⟩], .int .i64 0]) ((results_cell_tmp rfl _ _ _).trans (by go_simp <;> rfl)) rfl ⟨by rw [HK2.out]; rfl, ?_⟩
        exact SE.out.stp
  · rw [if_pos hf]
    have hfi : ((r1.f : Int) == 0) = false := by rw [beq_eq_false_iff_ne]; omega
    have hfn : ((r1.f : Int) != 0) = true := by rw [bne_iff_ne]; omega
    go_enter Try.func69, Try.ntmps69
    go_upto_region 1 with (fail)
    rw [← HM.out]
    generalize w.alloc (.cells #[.int .u8 0, .string ⟨#[]⟩, .string ⟨#[]⟩] 37) = W1 at *
    go_wp2_with fail
    refine (BY.out _ S1.out.stp.inAt).mono ?_
    rintro e w2 ⟨rfl, st⟩
    have S2 := Lib.hid (S1.out.step st)
    have c0 := Sm.cells_of S2.out.row 0 _ rfl
    have f0 := Sm.free_of S2.out.row 0
    have S3 : Hid (Ba.Rs w (w2.setCell ⟨M, 0, none⟩ (.int .u8 (k : Int))) b M ⟨k, Ba.no, Ba.no⟩ r1) := S2.out.set 0 (.int .u8 (k : Int)) (by rfl)
    go_upto_region 2 with (fail)
    generalize w2.setCell ⟨M, 0, none⟩ (.int .u8 (k : Int)) = w3 at *
    clear S1 S2 c0 f0 st BY
    have FA := Lib.hid (fault_in S3.out.stp.inAt)
    unfold Rd.fault at FA
    rw [if_neg hf] at FA
    clear hf
    go_wp2_with fail
    refine FA.out.mono ?_
    rintro e w4 ⟨rfl, n, rfl⟩
    have S4 := Lib.hid (S3.out.drewN n)
    clear S3 FA
    generalize w3.drewN n = w4 at *
    have c0 := Sm.cells_of S4.out.row 0 _ rfl
    have c1 := Sm.cells_of S4.out.row 1 _ rfl
    have c2 := Sm.cells_of S4.out.row 2 _ rfl
    have f0 := Sm.free_of S4.out.row 0
    have f1 := Sm.free_of S4.out.row 1
    have f2 := Sm.free_of S4.out.row 2
    have SE := Lib.hid (Ba.rs_again S4.out)
    go_wp2
    refine bodyPost_ret (v := .tuple #[.agg #[.int .u8 (k : Int), .string ⟨#[]⟩, .string ⟨#[]⟩], .int .i64 (r1.f : Int)]) ((results_cell_tmp rfl _ _ _).trans (by go_simp <;> rfl)) rfl ⟨rfl, ?_⟩
    exact SE.out.stp
end Go.Proofs.Ytlndggbidmmodaa
