/-
  Two envelopes, compared.
-/
import Derived.Test.YtapogiihkbjppaaDoorSeAwake
namespace Go.Proofs.YtapogiihkbjppaaDoor
open Go.RowKit Pk
namespace Se
def eqb (x y : Env) : Bool := x.key == y.key && (x.boot == y.boot && (x.n == y.n && (x.data.toList == y.data.toList && x.tag == y.tag)))
theorem bytes_of_list {a b : ByteArray} (h : a.toList = b.toList) : a = b := by
  rw [ByteArray.toList_eq, ByteArray.toList_eq] at h
  obtain ⟨a⟩ := a
  obtain ⟨b⟩ := b
  exact congrArg ByteArray.mk (Array.ext' h)
theorem eqb_iff (x y : Env) : eqb x y = true ↔ x = y := by
  constructor
  · intro h
    simp only [eqb, Bool.and_eq_true, beq_iff_eq] at h
    obtain ⟨h1, h2, h3, h4, h5⟩ := h
    obtain ⟨a, b, c, d, e⟩ := x
    obtain ⟨a', b', c', d', e'⟩ := y
    simp only at h1 h2 h3 h4 h5
    rw [h1, h2, h3, bytes_of_list h4, h5]
  · rintro rfl
    simp [eqb]
theorem env_check : (match (Tryd.prog.fieldsOf 28).toList with
    | [a, b, c, d, e] => decide ((a.name ≠ "_" ∧ b.name ≠ "_" ∧ c.name ≠ "_" ∧ d.name ≠ "_" ∧ e.name ≠ "_") ∧ (a.type = 3 ∧ b.type = 24 ∧ c.type = 25 ∧ d.type = 9 ∧ e.type = 26) ∧ (a.offset = 0 ∧ b.offset = 1 ∧ c.offset = 2 ∧ d.offset = 3 ∧ e.offset = 4))
    | _ => false) = true := by kernel_rfl
theorem env_und : Tryd.prog.underlying 28 = some (.struct (Tryd.prog.fieldsOf 28)) := by kernel_rfl
theorem env_in : Tryd.prog.stoodInHeld 28 = false := by kernel_rfl
theorem part_hash (x : Env) (h : x.tag.length = 32) (w : World) : (Go.part 26 x.cells.toArray 4).run Tryd.prog w = .ok (.agg (Lib.byteCells x.tag).toArray) w := by
  have h2 : (Lib.byteCells x.tag).length ≤ 32 := by rw [Lib.byteCells_length, h]; exact Nat.le_refl _
  have e : List.take 32 (List.drop 4 x.cells) = Lib.byteCells x.tag := by
    show List.take 32 (Lib.byteCells x.tag) = _
    exact List.take_of_length_le h2
  simp [Go.part, e]
theorem eq_row_d (d : Nat) (l l' : List UInt8) (h : l.length = 32) (h' : l'.length = 32) (w : World) :
    (Op.equalIn (d + 2) 26 (.agg (Lib.byteCells l).toArray) (.agg (Lib.byteCells l').toArray)).run Tryd.prog w = .ok (l == l') w := by
  have hc : Tryd.prog.cellsOf 5 = 1 := by kernel_rfl
  have ht : Tryd.prog.underlying 26 = some (.array 32 5) := Tryd.underlying26
  obtain ⟨i0, hi, _, _, _⟩ := info_parts info3_u8
  have e := run_equalIn_array (P := Tryd.prog) (w := w) (d + 1) (Lib.byteCells l).toArray (Lib.byteCells l').toArray ht hi
  rw [e, hc, Sm.eqItems_bytes d l l' w (List.range 32) (fun i hi => by have := List.mem_range.1 hi; omega), Sm.all_eq 32 l l' h h']
theorem eq_env (x y : Env) (hx : x.tag.length = 32) (hy : y.tag.length = 32) (w : World) :
    (Op.equalIn 10000 28 (.agg x.cells.toArray) (.agg y.cells.toArray)).run Tryd.prog w = .ok (eqb x y) w := by
  rw [run_equalIn_struct w 9999 28 _ _ env_und env_in]
  have hc := env_check
  split at hc
  · rename_i a b c d e hl
    rw [hl]
    simp only [decide_eq_true_eq] at hc
    obtain ⟨⟨n0, n1, n2, n3, n4⟩, ⟨t0, t1, t2, t3, t4⟩, o0, o1, o2, o3, o4⟩ := hc
    have p0 : ∀ z : Env, (Go.part 3 z.cells.toArray 0).run Tryd.prog w = .ok (.int .i64 z.key) w := fun z => by simp [Go.part, Env.cells]
    have p1 : ∀ z : Env, (Go.part 24 z.cells.toArray 1).run Tryd.prog w = .ok (.int .u32 z.boot) w := fun z => by simp [Go.part, Env.cells]
    have p2 : ∀ z : Env, (Go.part 25 z.cells.toArray 2).run Tryd.prog w = .ok (.int .u64 z.n) w := fun z => by simp [Go.part, Env.cells]
    have p3 : ∀ z : Env, (Go.part 9 z.cells.toArray 3).run Tryd.prog w = .ok (.string z.data) w := fun z => by simp [Go.part, Env.cells]
    have e0 := run_equalIn_int w 9998 3 .i64 .i64 x.key y.key Tryd.underlying3
    have e1 := run_equalIn_int w 9998 24 .u32 .u32 x.boot y.boot Tryd.underlying24
    have e2 := run_equalIn_int w 9998 25 .u64 .u64 x.n y.n Tryd.underlying25
    have e3 := run_equalIn_string w 9998 9 x.data y.data Tryd.underlying9
    have e4 := eq_row_d 9997 x.tag y.tag hx hy w
    have b1 : ((x.boot : Int) == (y.boot : Int)) = (x.boot == y.boot) := by rw [Bool.eq_iff_iff, beq_iff_eq, beq_iff_eq]; omega
    have b2 : ((x.n : Int) == (y.n : Int)) = (x.n == y.n) := by rw [Bool.eq_iff_iff, beq_iff_eq, beq_iff_eq]; omega
    rw [b1] at e1
    rw [b2] at e2
    simp only [Op.eqFields, n0, n1, n2, n3, n4, t0, t1, t2, t3, t4, o0, o1, o2, o3, o4, ne_eq, not_false_eq_true, if_true, Sem.run_bind, p0, p1, p2, p3, part_hash x hx, part_hash y hy, Result.andThen_ok, Sem.run_ite, Sem.run_pure, e0, e1, e2, e3, e4]
    unfold eqb
    cases x.key == y.key <;> cases x.boot == y.boot <;> cases x.n == y.n <;> cases x.data.toList == y.data.toList <;> cases x.tag == y.tag <;> simp
  · exact absurd hc (by decide)
theorem env_guard : Tryd.prog.eqGuardType Tryd.prog.depth 28 = false := by kernel_rfl
theorem wpList_eql_env {ops : Array Oper} {rest : List Oper} {o : Oper} {a : Act} {w : World} {Q : Exit → Act → World → Prop} (t2 : TypeId) (p q : Operand) (ho : o.op = .binOp .eql 28 p q t2) (x y : Env)
    (hp : a.eval p = .agg x.cells.toArray) (hq : a.eval q = .agg y.cells.toArray) (hx : x.tag.length = 32) (hy : y.tag.length = 32)
    (h : wpList Tryd.prog ops Q rest (a.put o.dst (.bool (eqb x y))) w) (hgd : Region.wanted o (yielded ops a.tmps) = true) : wpList Tryd.prog ops Q (o :: rest) a w :=
  wpList_step fun L hL => by
    rw [if_pos hgd]
    unfold Oper.wp execOp
    simp only [ho, Sem.run_bind, hp, hq, run_eqGuard_agg w .eql 28 p q _ _ env_guard, run_eql_struct, eq_env x y hx hy w, Result.andThen_ok, Sem.run_pure]
    exact hL _ _ h
theorem wpList_neq_env {ops : Array Oper} {rest : List Oper} {o : Oper} {a : Act} {w : World} {Q : Exit → Act → World → Prop} (t2 : TypeId) (p q : Operand) (ho : o.op = .binOp .neq 28 p q t2) (x y : Env)
    (hp : a.eval p = .agg x.cells.toArray) (hq : a.eval q = .agg y.cells.toArray) (hx : x.tag.length = 32) (hy : y.tag.length = 32)
    (h : wpList Tryd.prog ops Q rest (a.put o.dst (.bool (!eqb x y))) w) (hgd : Region.wanted o (yielded ops a.tmps) = true) : wpList Tryd.prog ops Q (o :: rest) a w :=
  wpList_step fun L hL => by
    rw [if_pos hgd]
    unfold Oper.wp execOp
    simp only [ho, Sem.run_bind, hp, hq, run_eqGuard_agg w .neq 28 p q _ _ env_guard, run_neq_struct, eq_env x y hx hy w, Result.andThen_ok, Sem.run_pure]
    exact hL _ _ h
theorem eqb_self (x : Env) : eqb x x = true := (eqb_iff x x).2 rfl
end Se
end Go.Proofs.YtapogiihkbjppaaDoor
