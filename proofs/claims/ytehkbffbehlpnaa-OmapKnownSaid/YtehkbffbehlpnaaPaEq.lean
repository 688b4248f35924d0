/-
  Two mounts, compared; path's Same.
-/
import Derived.Test.YtehkbffbehlpnaaPaFind
namespace Go.Proofs.Ytehkbffbehlpnaa
open Go.RowKit
namespace Pa
def eqb (x y : Mo) : Bool := x.n.toList == y.n.toList && x.s == y.s
theorem eqb_iff {x y : Mo} : eqb x y = true ↔ x = y := by
  obtain ⟨n, s⟩ := x
  obtain ⟨m, r⟩ := y
  unfold eqb
  rw [Bool.and_eq_true]
  constructor
  · rintro ⟨h1, h2⟩
    have e1 : n = m := same_iff.1 h1
    have e2 : s = r := by simpa using h2
    rw [e1, e2]
  · intro h
    injection h with h1 h2
    subst h1 h2
    exact ⟨same_iff.2 rfl, by simp⟩
theorem mo_check : (match (Try.prog.fieldsOf 89).toList with
    | [a, b] => decide ((a.name ≠ "_" ∧ b.name ≠ "_") ∧ (a.type = 9 ∧ b.type = 4) ∧ (a.offset = 0 ∧ b.offset = 1))
    | _ => false) = true := by kernel_rfl
theorem mo_in : Try.prog.stoodInHeld 89 = false := by kernel_rfl
theorem eq_mo (x y : Mo) (w : World) : (Op.equalIn 10000 89 (.agg #[.string x.n, .bool x.s]) (.agg #[.string y.n, .bool y.s])).run Try.prog w = .ok (eqb x y) w := by
  rw [run_equalIn_struct w 9999 89 _ _ mount_und mo_in]
  have hc := mo_check
  split at hc
  · rename_i a b hl
    rw [hl]
    simp only [decide_eq_true_eq] at hc
    obtain ⟨⟨n0, n1⟩, ⟨t0, t1⟩, o0, o1⟩ := hc
    have p0 : ∀ z : Mo, (Go.part 9 #[.string z.n, .bool z.s] 0).run Try.prog w = .ok (.string z.n) w := fun z => by simp [Go.part]
    have p1 : ∀ z : Mo, (Go.part 4 #[.string z.n, .bool z.s] 1).run Try.prog w = .ok (.bool z.s) w := fun z => by simp [Go.part]
    have e0 := run_equalIn_string w 9998 9 x.n y.n Try.underlying9
    have e1 := run_equalIn_bool w 9998 4 x.s y.s Try.underlying4
    simp only [Op.eqFields, n0, n1, t0, t1, o0, o1, ne_eq, not_false_eq_true, if_true, Sem.run_bind, p0, p1, Result.andThen_ok, Sem.run_ite, Sem.run_pure, e0, e1]
    unfold eqb
    cases x.n.toList == y.n.toList <;> cases x.s == y.s <;> simp
  · exact absurd hc (by decide)
theorem mo_guard : Try.prog.eqGuardType Try.prog.depth 89 = false := by kernel_rfl
theorem yields_neq {ops : Array Oper} {S : World → Prop} {op : Oper} {a : Act} (hw : Region.wanted op (yielded ops a.tmps) = true) (t2 : TypeId) (p q : Operand) (ho : op.op = .binOp .neq 89 p q t2) (x y : Mo)
    (hp : a.eval p = .agg #[.string x.n, .bool x.s]) (hq : a.eval q = .agg #[.string y.n, .bool y.s]) : YieldsIf Try.prog ops S op (.bool (!eqb x y)) a :=
  .inl ⟨hw, fun w _ => by
    unfold execOp
    simp only [ho, Sem.run_bind, hp, hq, run_eqGuard_agg w .neq 89 p q _ _ mo_guard, run_neq_struct, eq_mo x y w, Result.andThen_ok, Sem.run_pure]⟩
theorem yields_eql {ops : Array Oper} {S : World → Prop} {op : Oper} {a : Act} (hw : Region.wanted op (yielded ops a.tmps) = true) (t2 : TypeId) (p q : Operand) (ho : op.op = .binOp .eql 89 p q t2) (x y : Mo)
    (hp : a.eval p = .agg #[.string x.n, .bool x.s]) (hq : a.eval q = .agg #[.string y.n, .bool y.s]) : YieldsIf Try.prog ops S op (.bool (eqb x y)) a :=
  .inl ⟨hw, fun w _ => by
    unfold execOp
    simp only [ho, Sem.run_bind, hp, hq, run_eqGuard_agg w .eql 89 p q _ _ mo_guard, run_eql_struct, eq_mo x y w, Result.andThen_ok, Sem.run_pure]⟩
theorem wpList_eql_mo {o : Oper} {a : Act} {w : World} {Q : Exit → Act → World → Prop} {ops : Array Oper} {rest : List Oper} (t2 : TypeId) (p q : Operand) (ho : o.op = .binOp .eql 89 p q t2) (x y : Mo)
    (hp : a.eval p = .agg #[.string x.n, .bool x.s]) (hq : a.eval q = .agg #[.string y.n, .bool y.s]) (h : wpList Try.prog ops Q rest (a.put o.dst (.bool (eqb x y))) w) (hgd : Region.wanted o (yielded ops a.tmps) = true) : wpList Try.prog ops Q (o :: rest) a w :=
  wpList_step fun L hL => by
    rw [if_pos hgd]
    unfold Oper.wp execOp
    simp only [ho, Sem.run_bind, hp, hq, run_eqGuard_agg w .eql 89 p q _ _ mo_guard, run_eql_struct, eq_mo x y w, Result.andThen_ok, Sem.run_pure]
    exact hL _ _ h
/-- The same mounts in the same row. -/
theorem list_eq {l m : List Mo} (hl : l.length = m.length) (h : ∀ j (h1 : j < l.length) (h2 : j < m.length), l[j] = m[j]) : l = m := List.ext_getElem hl h
end Pa
end Go.Proofs.Ytehkbffbehlpnaa
