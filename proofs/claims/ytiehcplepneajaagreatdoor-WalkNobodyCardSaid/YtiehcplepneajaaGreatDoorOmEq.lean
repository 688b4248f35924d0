/-
  Two pairs compared; maps.Equal; omap's Same.
-/
import Derived.Test.YtiehcplepneajaaGreatDoorOmMath
import Derived.Test.YtiehcplepneajaaGreatDoorMBase
import Derived.Test.YtiehcplepneajaaGreatDoorOmActs
import Derived.Deep.LoopGhost
namespace Go.Proofs.YtiehcplepneajaaGreatDoor
open Go.RowKit Go.Maps
namespace Om
def eqb (x y : Pr) : Bool := x.p.toList == y.p.toList && x.v.toList == y.v.toList
theorem ba_same {a b : ByteArray} : (a.toList == b.toList) = true ↔ a = b := by
  rw [Lib.toList_data, Lib.toList_data]
  constructor
  · intro h
    have h' : a.data.toList = b.data.toList := by simpa using h
    exact ByteArray.ext (Array.ext' h')
  · intro h; subst h; simp
theorem eqb_iff {x y : Pr} : eqb x y = true ↔ x = y := by
  obtain ⟨p, v⟩ := x
  obtain ⟨p', v'⟩ := y
  unfold eqb
  rw [Bool.and_eq_true]
  constructor
  · rintro ⟨h2, h3⟩
    have e2 : p = p' := ba_same.1 h2
    have e3 : v = v' := ba_same.1 h3
    rw [e2, e3]
  · intro h
    injection h with h2 h3
    subst h2 h3
    exact ⟨ba_same.2 rfl, ba_same.2 rfl⟩
theorem pre_check : (match (Tryz.prog.fieldsOf 79).toList with
    | [b, c] => decide ((b.name ≠ "_" ∧ c.name ≠ "_") ∧ (b.type = 9 ∧ c.type = 9) ∧ (b.offset = 0 ∧ c.offset = 1))
    | _ => false) = true := by kernel_rfl
theorem pre_und : Tryz.prog.underlying 79 = some (.struct (Tryz.prog.fieldsOf 79)) := by kernel_rfl
theorem pre_in : Tryz.prog.stoodInHeld 79 = false := by kernel_rfl
theorem eq_pair (x y : Pr) (w : World) : (Go.Op.equalIn 10000 79 (.agg #[.string x.p, .string x.v]) (.agg #[.string y.p, .string y.v])).run Tryz.prog w = .ok (eqb x y) w := by
  rw [run_equalIn_struct w 9999 79 _ _ pre_und pre_in]
  have hc := pre_check
  split at hc
  · rename_i b c hl
    rw [hl]
    simp only [decide_eq_true_eq] at hc
    obtain ⟨⟨n1, n2⟩, ⟨t1, t2⟩, o1, o2⟩ := hc
    have p1 : ∀ z : Pr, (Go.part 9 #[.string z.p, .string z.v] 0).run Tryz.prog w = .ok (.string z.p) w := fun z => by simp [Go.part]
    have p2 : ∀ z : Pr, (Go.part 9 #[.string z.p, .string z.v] 1).run Tryz.prog w = .ok (.string z.v) w := fun z => by simp [Go.part]
    have e1 := run_equalIn_string w 9998 9 x.p y.p Tryz.underlying9
    have e2 := run_equalIn_string w 9998 9 x.v y.v Tryz.underlying9
    simp only [Go.Op.eqFields, n1, n2, t1, t2, o1, o2, ne_eq, not_false_eq_true, if_true, Sem.run_bind, p1, p2, Result.andThen_ok, Sem.run_ite, Sem.run_pure, e1, e2]
    unfold eqb
    cases x.p.toList == y.p.toList <;> cases x.v.toList == y.v.toList <;> simp
  · exact absurd hc (by decide)
theorem pre_guard : Tryz.prog.eqGuardType Tryz.prog.depth 79 = false := by kernel_rfl
theorem yields_neq {ops : Array Oper} {S : World → Prop} {op : Oper} {a : Act} (hw : Region.wanted op (yielded ops a.tmps) = true) (t2 : TypeId) (p q : Operand) (ho : op.op = .binOp .neq 79 p q t2) (x y : Pr)
    (hp : a.eval p = .agg #[.string x.p, .string x.v]) (hq : a.eval q = .agg #[.string y.p, .string y.v]) : YieldsIf Tryz.prog ops S op (.bool (!eqb x y)) a :=
  .inl ⟨hw, fun w _ => by
    unfold execOp
    simp only [ho, Sem.run_bind, hp, hq, run_eqGuard_agg w .neq 79 p q _ _ pre_guard, run_neq_struct, eq_pair x y w, Result.andThen_ok, Sem.run_pure]⟩
theorem wpList_neq_pair {o : Oper} {a : Act} {w : World} {Q : Exit → Act → World → Prop} {ops : Array Oper} {rest : List Oper} (t2 : TypeId) (p q : Operand) (ho : o.op = .binOp .neq 79 p q t2) (x y : Pr)
    (hp : a.eval p = .agg #[.string x.p, .string x.v]) (hq : a.eval q = .agg #[.string y.p, .string y.v]) (h : wpList Tryz.prog ops Q rest (a.put o.dst (.bool (!eqb x y))) w) (hgd : Region.wanted o (yielded ops a.tmps) = true) : wpList Tryz.prog ops Q (o :: rest) a w :=
  wpList_step fun L hL => by
    rw [if_pos hgd]
    unfold Oper.wp execOp
    simp only [ho, Sem.run_bind, hp, hq, run_eqGuard_agg w .neq 79 p q _ _ pre_guard, run_neq_struct, eq_pair x y w, Result.andThen_ok, Sem.run_pure]
    exact hL _ _ h
theorem wpList_eql_pair {o : Oper} {a : Act} {w : World} {Q : Exit → Act → World → Prop} {ops : Array Oper} {rest : List Oper} (t2 : TypeId) (p q : Operand) (ho : o.op = .binOp .eql 79 p q t2) (x y : Pr)
    (hp : a.eval p = .agg #[.string x.p, .string x.v]) (hq : a.eval q = .agg #[.string y.p, .string y.v]) (h : wpList Tryz.prog ops Q rest (a.put o.dst (.bool (eqb x y))) w) (hgd : Region.wanted o (yielded ops a.tmps) = true) : wpList Tryz.prog ops Q (o :: rest) a w :=
  wpList_step fun L hL => by
    rw [if_pos hgd]
    unfold Oper.wp execOp
    simp only [ho, Sem.run_bind, hp, hq, run_eqGuard_agg w .eql 79 p q _ _ pre_guard, run_eql_struct, eq_pair x y w, Result.andThen_ok, Sem.run_pure]
    exact hL _ _ h
end Om
end Go.Proofs.YtiehcplepneajaaGreatDoor
