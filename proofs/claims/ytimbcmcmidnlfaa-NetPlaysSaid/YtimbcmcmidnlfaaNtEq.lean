/-
  Two packets, compared.
-/
import Derived.Test.YtimbcmcmidnlfaaNtAll
namespace Go.Proofs.Ytimbcmcmidnlfaa
open Go.RowKit
namespace Nt
def eqb (x y : Pk) : Bool := x.f == y.f && (x.t == y.t && x.d.toList == y.d.toList)
theorem bytes_of (a b : ByteArray) (h : a.toList = b.toList) : a = b := by
  rw [ByteArray.toList_eq, ByteArray.toList_eq] at h
  obtain ⟨a⟩ := a
  obtain ⟨b⟩ := b
  exact congrArg ByteArray.mk (Array.ext' h)
theorem eqb_dec (x y : Pk) : eqb x y = decide (x = y) := by
  rw [Bool.eq_iff_iff, decide_eq_true_eq]
  constructor
  · intro h
    simp only [eqb, Bool.and_eq_true, beq_iff_eq] at h
    exact Pk.eq h.1 h.2.1 (bytes_of _ _ h.2.2)
  · rintro rfl
    simp [eqb]
theorem pk_check : (match (Try.prog.fieldsOf 25).toList with
    | [a, b, c] => decide ((a.name ≠ "_" ∧ b.name ≠ "_" ∧ c.name ≠ "_") ∧ (a.type = 3 ∧ b.type = 3 ∧ c.type = 9) ∧ (a.offset = 0 ∧ b.offset = 1 ∧ c.offset = 2))
    | _ => false) = true := by kernel_rfl
theorem pk_und : Try.prog.underlying 25 = some (.struct (Try.prog.fieldsOf 25)) := by kernel_rfl
theorem pk_in : Try.prog.stoodInHeld 25 = false := by kernel_rfl
theorem eq_pk (x y : Pk) (w : World) : (Op.equalIn 10000 25 (.agg x.cells.toArray) (.agg y.cells.toArray)).run Try.prog w = .ok (decide (x = y)) w := by
  rw [run_equalIn_struct w 9999 25 _ _ pk_und pk_in, ← eqb_dec]
  have hc := pk_check
  split at hc
  · rename_i a b c hl
    rw [hl]
    simp only [decide_eq_true_eq] at hc
    obtain ⟨⟨n0, n1, n2⟩, ⟨t0, t1, t2⟩, o0, o1, o2⟩ := hc
    have p0 : ∀ z : Pk, (Go.part 3 z.cells.toArray 0).run Try.prog w = .ok (.int .i64 z.f) w := fun z => by simp [Go.part, Pk.cells]
    have p1 : ∀ z : Pk, (Go.part 3 z.cells.toArray 1).run Try.prog w = .ok (.int .i64 z.t) w := fun z => by simp [Go.part, Pk.cells]
    have p2 : ∀ z : Pk, (Go.part 9 z.cells.toArray 2).run Try.prog w = .ok (.string z.d) w := fun z => by simp [Go.part, Pk.cells]
    have e0 := run_equalIn_int w 9998 3 .i64 .i64 x.f y.f Try.underlying3
    have e1 := run_equalIn_int w 9998 3 .i64 .i64 x.t y.t Try.underlying3
    have e2 := run_equalIn_string w 9998 9 x.d y.d Try.underlying9
    simp only [Op.eqFields, n0, n1, n2, t0, t1, t2, o0, o1, o2, ne_eq, not_false_eq_true, if_true, Sem.run_bind, p0, p1, p2, Result.andThen_ok, Sem.run_ite, Sem.run_pure, e0, e1, e2]
    unfold eqb
    cases x.f == y.f <;> cases x.t == y.t <;> cases x.d.toList == y.d.toList <;> simp
  · exact absurd hc (by decide)
theorem pk_guard : Try.prog.eqGuardType Try.prog.depth 25 = false := by kernel_rfl
section
variable {o : Oper} {a : Act} {w : World} {K : Act → World → Prop} {Q : Exit → Act → World → Prop}
theorem wp_eql_pk (t2 : TypeId) (p q : Operand) (ho : o.op = .binOp .eql 25 p q t2) (x y : Pk)
    (hp : a.eval p = .agg x.cells.toArray) (hq : a.eval q = .agg y.cells.toArray) (h : K (a.put o.dst (.bool (decide (x = y)))) w) : o.wp Try.prog a w K Q := by
  unfold Oper.wp execOp
  simp only [ho, Sem.run_bind, hp, hq, run_eqGuard_agg w .eql 25 p q _ _ pk_guard, run_eql_struct, eq_pk x y w, Result.andThen_ok, Sem.run_pure]
  exact h
theorem wp_neq_pk (t2 : TypeId) (p q : Operand) (ho : o.op = .binOp .neq 25 p q t2) (x y : Pk)
    (hp : a.eval p = .agg x.cells.toArray) (hq : a.eval q = .agg y.cells.toArray) (h : K (a.put o.dst (.bool (!decide (x = y)))) w) : o.wp Try.prog a w K Q := by
  unfold Oper.wp execOp
  simp only [ho, Sem.run_bind, hp, hq, run_eqGuard_agg w .neq 25 p q _ _ pk_guard, run_neq_struct, eq_pk x y w, Result.andThen_ok, Sem.run_pure]
  exact h
theorem wpList_eql_pk {ops : Array Oper} {rest : List Oper} (t2 : TypeId) (p q : Operand) (ho : o.op = .binOp .eql 25 p q t2) (x y : Pk)
    (hp : a.eval p = .agg x.cells.toArray) (hq : a.eval q = .agg y.cells.toArray) (h : wpList Try.prog ops Q rest (a.put o.dst (.bool (decide (x = y)))) w) (hgd : Region.wanted o (yielded ops a.tmps) = true) : wpList Try.prog ops Q (o :: rest) a w :=
  wpList_step fun L hL => by
    rw [if_pos hgd]
    exact wp_eql_pk t2 p q ho x y hp hq (hL _ _ h)
theorem wpList_neq_pk {ops : Array Oper} {rest : List Oper} (t2 : TypeId) (p q : Operand) (ho : o.op = .binOp .neq 25 p q t2) (x y : Pk)
    (hp : a.eval p = .agg x.cells.toArray) (hq : a.eval q = .agg y.cells.toArray) (h : wpList Try.prog ops Q rest (a.put o.dst (.bool (!decide (x = y)))) w) (hgd : Region.wanted o (yielded ops a.tmps) = true) : wpList Try.prog ops Q (o :: rest) a w :=
  wpList_step fun L hL => by
    rw [if_pos hgd]
    exact wp_neq_pk t2 p q ho x y hp hq (hL _ _ h)
end
end Nt
end Go.Proofs.Ytimbcmcmidnlfaa
