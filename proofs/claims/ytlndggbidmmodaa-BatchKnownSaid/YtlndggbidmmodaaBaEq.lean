/-
  Two operations, two batches, compared: slices.Equal, batch's Same, and the document's.
-/
import Derived.Test.YtlndggbidmmodaaPaFind
import Derived.Test.YtlndggbidmmodaaBaActs
namespace Go.Proofs.Ytlndggbidmmodaa
open Go.RowKit
namespace Ba
def eqb (x y : Op) : Bool := x.k == y.k && (x.p.toList == y.p.toList && x.v.toList == y.v.toList)
theorem eqb_iff {x y : Op} : eqb x y = true ↔ x = y := by
  obtain ⟨k, p, v⟩ := x
  obtain ⟨k', p', v'⟩ := y
  unfold eqb
  rw [Bool.and_eq_true, Bool.and_eq_true]
  constructor
  · rintro ⟨h1, h2, h3⟩
    have e1 : k = k' := by simpa using h1
    have e2 : p = p' := Pa.same_iff.1 h2
    have e3 : v = v' := Pa.same_iff.1 h3
    rw [e1, e2, e3]
  · intro h
    injection h with h1 h2 h3
    subst h1 h2 h3
    exact ⟨by simp, Pa.same_iff.2 rfl, Pa.same_iff.2 rfl⟩
theorem ope_check : (match (Try.prog.fieldsOf 37).toList with
    | [a, b, c] => decide ((a.name ≠ "_" ∧ b.name ≠ "_" ∧ c.name ≠ "_") ∧ (a.type = 5 ∧ b.type = 9 ∧ c.type = 9) ∧ (a.offset = 0 ∧ b.offset = 1 ∧ c.offset = 2))
    | _ => false) = true := by kernel_rfl
theorem ope_und : Try.prog.underlying 37 = some (.struct (Try.prog.fieldsOf 37)) := by kernel_rfl
theorem ope_in : Try.prog.stoodInHeld 37 = false := by kernel_rfl
theorem eq_op (x y : Op) (w : World) : (Go.Op.equalIn 10000 37 (.agg #[.int .u8 (x.k : Int), .string x.p, .string x.v]) (.agg #[.int .u8 (y.k : Int), .string y.p, .string y.v])).run Try.prog w = .ok (eqb x y) w := by
  rw [run_equalIn_struct w 9999 37 _ _ ope_und ope_in]
  have hc := ope_check
  split at hc
  · rename_i a b c hl
    rw [hl]
    simp only [decide_eq_true_eq] at hc
    obtain ⟨⟨n0, n1, n2⟩, ⟨t0, t1, t2⟩, o0, o1, o2⟩ := hc
    have p0 : ∀ z : Op, (Go.part 5 #[.int .u8 (z.k : Int), .string z.p, .string z.v] 0).run Try.prog w = .ok (.int .u8 (z.k : Int)) w := fun z => by simp [Go.part]
    have p1 : ∀ z : Op, (Go.part 9 #[.int .u8 (z.k : Int), .string z.p, .string z.v] 1).run Try.prog w = .ok (.string z.p) w := fun z => by simp [Go.part]
    have p2 : ∀ z : Op, (Go.part 9 #[.int .u8 (z.k : Int), .string z.p, .string z.v] 2).run Try.prog w = .ok (.string z.v) w := fun z => by simp [Go.part]
    have e0 := run_equalIn_int w 9998 5 .u8 .u8 x.k y.k Try.underlying5
    have b0 : ((x.k : Int) == (y.k : Int)) = (x.k == y.k) := by rw [Bool.eq_iff_iff, beq_iff_eq, beq_iff_eq]; omega
    rw [b0] at e0
    have e1 := run_equalIn_string w 9998 9 x.p y.p Try.underlying9
    have e2 := run_equalIn_string w 9998 9 x.v y.v Try.underlying9
    simp only [Go.Op.eqFields, n0, n1, n2, t0, t1, t2, o0, o1, o2, ne_eq, not_false_eq_true, if_true, Sem.run_bind, p0, p1, p2, Result.andThen_ok, Sem.run_ite, Sem.run_pure, e0, e1, e2]
    unfold eqb
    cases x.k == y.k <;> cases x.p.toList == y.p.toList <;> cases x.v.toList == y.v.toList <;> simp
  · exact absurd hc (by decide)
theorem ope_guard : Try.prog.eqGuardType Try.prog.depth 37 = false := by kernel_rfl
theorem yields_neq {ops : Array Oper} {S : World → Prop} {op : Oper} {a : Act} (hw : Region.wanted op (yielded ops a.tmps) = true) (t2 : TypeId) (p q : Operand) (ho : op.op = .binOp .neq 37 p q t2) (x y : Op)
    (hp : a.eval p = .agg #[.int .u8 (x.k : Int), .string x.p, .string x.v]) (hq : a.eval q = .agg #[.int .u8 (y.k : Int), .string y.p, .string y.v]) : YieldsIf Try.prog ops S op (.bool (!eqb x y)) a :=
  .inl ⟨hw, fun w _ => by
    unfold execOp
    simp only [ho, Sem.run_bind, hp, hq, run_eqGuard_agg w .neq 37 p q _ _ ope_guard, run_neq_struct, eq_op x y w, Result.andThen_ok, Sem.run_pure]⟩
theorem wpList_neq_op {o : Oper} {a : Act} {w : World} {Q : Exit → Act → World → Prop} {ops : Array Oper} {rest : List Oper} (t2 : TypeId) (p q : Operand) (ho : o.op = .binOp .neq 37 p q t2) (x y : Op)
    (hp : a.eval p = .agg #[.int .u8 (x.k : Int), .string x.p, .string x.v]) (hq : a.eval q = .agg #[.int .u8 (y.k : Int), .string y.p, .string y.v]) (h : wpList Try.prog ops Q rest (a.put o.dst (.bool (!eqb x y))) w) (hgd : Region.wanted o (yielded ops a.tmps) = true) : wpList Try.prog ops Q (o :: rest) a w :=
  wpList_step fun L hL => by
    rw [if_pos hgd]
    unfold Oper.wp execOp
    simp only [ho, Sem.run_bind, hp, hq, run_eqGuard_agg w .neq 37 p q _ _ ope_guard, run_neq_struct, eq_op x y w, Result.andThen_ok, Sem.run_pure]
    exact hL _ _ h
theorem wpList_eql_op {o : Oper} {a : Act} {w : World} {Q : Exit → Act → World → Prop} {ops : Array Oper} {rest : List Oper} (t2 : TypeId) (p q : Operand) (ho : o.op = .binOp .eql 37 p q t2) (x y : Op)
    (hp : a.eval p = .agg #[.int .u8 (x.k : Int), .string x.p, .string x.v]) (hq : a.eval q = .agg #[.int .u8 (y.k : Int), .string y.p, .string y.v]) (h : wpList Try.prog ops Q rest (a.put o.dst (.bool (eqb x y))) w) (hgd : Region.wanted o (yielded ops a.tmps) = true) : wpList Try.prog ops Q (o :: rest) a w :=
  wpList_step fun L hL => by
    rw [if_pos hgd]
    unfold Oper.wp execOp
    simp only [ho, Sem.run_bind, hp, hq, run_eqGuard_agg w .eql 37 p q _ _ ope_guard, run_eql_struct, eq_op x y w, Result.andThen_ok, Sem.run_pure]
    exact hL _ _ h
/-- The same operations in the same row. -/
theorem ops_eq {l m : List Op} (hl : l.length = m.length) (h : ∀ j (h1 : j < l.length) (h2 : j < m.length), l[j] = m[j]) : l = m := List.ext_getElem hl h
end Ba
set_option maxRecDepth 100000 in
set_option maxHeartbeats 1000000 in
theorem slEqOps_some (w : World) (b1 o1 c b2 o2 d : Nat) (l m : List Ba.Op) (hlm : l.length = m.length) (hlb : l.length ≤ 9223372036854775807) (h1 : Ba.opsAt w b1 o1 l) (h2 : Ba.opsAt w b2 o2 m) (g : Bool) (hg : g = true ↔ l = m) :
    Calls Try.prog 43 #[.slice (some ⟨b1, o1, none⟩) l.length c, .slice (some ⟨b2, o2, none⟩) m.length d] w fun e w' => e = .returned (.bool g) ∧ Below w.heap.size w w' := by
  have H1 := Lib.hid h1
  have H2 := Lib.hid h2
  have HG := Lib.hid hg
  have hi1 : (l.length : Int) = (m.length : Int) := by omega
  have hi2 : ((l.length : Int) == (m.length : Int)) = true := by simp [hi1]
  clear h1 h2 hg
  go_enter Try.func43, Try.ntmps43
  have HLM := Lib.hid hlm
  have H3 := Lib.hid hi1
  clear hlm
  go_wp2
  clear hi1 hi2
  go_loopw [13] (fun s13 wr => ∃ i : Nat, s13 = .int .i64 i ∧ i ≤ l.length ∧ (∀ j (h1 : j < l.length) (h2 : j < m.length), j < i → l[j] = m[j]) ∧ Below w.heap.size w wr ∧ Ba.opsAt wr b1 o1 l ∧ Ba.opsAt wr b2 o2 m) (fun s13 _ => l.length - (intOf s13).toNat)
  case atStart => exact ⟨0, rfl, Nat.zero_le _, fun j _ _ h => absurd h (Nat.not_lt_zero _), Below.refl _ w, H1.out, H2.out⟩
  case round =>
    obtain ⟨i, rfl, hi, hall, bw, m1, m2⟩ := hrel
    have HA := Lib.hid hall
    have M1 := Lib.hid m1
    have M2 := Lib.hid m2
    clear hall m1 m2
    by_cases hil : i < l.length
    · have hii : (i : Int) < l.length := by omega
      have him : i < m.length := by have := HLM.out; omega
      have hiim : (i : Int) < m.length := by omega
      have hsuc : IntKind.i64.wrap ((i : Int) + 1) = ((i + 1 : Nat) : Int) := by simp [IntKind.wrap, IntKind.bits, IntKind.signed]; omega
      obtain ⟨c0, c1, c2⟩ := M1.out i hil
      obtain ⟨d0, d1, d2⟩ := M2.out i him
      obtain ⟨x, hx⟩ : ∃ x, x = l[i] := ⟨_, rfl⟩
      obtain ⟨y, hy⟩ : ∃ y, y = m[i] := ⟨_, rfl⟩
      rw [← hx] at c0 c1 c2
      rw [← hy] at d0 d1 d2
      have HX := Lib.hid hx
      have HY := Lib.hid hy
      clear hx hy
      by_cases he : Ba.eqb x y = true
      · have hxy : x = y := Ba.eqb_iff.1 he
        have hnext : ∀ j (h1 : j < l.length) (h2 : j < m.length), j < i + 1 → l[j] = m[j] := fun j h1 h2 hj => by
          by_cases e : j = i
          · subst e; rw [← HX.out, ← HY.out]; exact hxy
          · exact HA.out j h1 h2 (by omega)
        have HN := Lib.hid hnext
        have hen : (!Ba.eqb x y) = false := by rw [he]; rfl
        clear hnext hxy
        go_upto_region 6 with (fail)
        refine wp_region_held_drew (S := fun w' => (w'.cell? ⟨b1, o1 + i * 3, none⟩ = some (.int .u8 (x.k : Int)) ∧ w'.cell? ⟨b1, o1 + i * 3 + 1, none⟩ = some (.string x.p) ∧ w'.cell? ⟨b1, o1 + i * 3 + 2, none⟩ = some (.string x.v)) ∧ (w'.cell? ⟨b2, o2 + i * 3, none⟩ = some (.int .u8 (y.k : Int)) ∧ w'.cell? ⟨b2, o2 + i * 3 + 1, none⟩ = some (.string y.p) ∧ w'.cell? ⟨b2, o2 + i * 3 + 2, none⟩ = some (.string y.v))) (by kernel_rfl) ⟨⟨c0, c1, c2⟩, d0, d1, d2⟩ (fun hHeld => ?_)
        refine wpAnyH_take (i := 0) (oi := ⟨some 16, _, _, _, _, _⟩) (v := .slice (some ⟨b1, o1, none⟩) l.length c) rfl (by kernel_rfl) (by kernel_rfl) (by kernel_rfl) (fun _ _ _ h => h) (Or.inl ⟨by rfl, ?_⟩) (by assumption) ?_
        · intro w hSw; (try dsimp only at hSw); go_simp
        simp only [Act.put, List.setIfInBounds_toArray, List.set_cons_zero, List.set_cons_succ]
        refine wpAnyH_take (i := 1) (oi := ⟨some 17, _, _, _, _, _⟩) (v := .int .i64 (i : Int)) rfl (by kernel_rfl) (by kernel_rfl) (by kernel_rfl) (fun _ _ _ h => h) (Or.inl ⟨by rfl, ?_⟩) (by assumption) ?_
        · intro w hSw; (try dsimp only at hSw); go_simp
        simp only [Act.put, List.setIfInBounds_toArray, List.set_cons_zero, List.set_cons_succ]
        refine wpAnyH_take (i := 2) (oi := ⟨some 18, _, _, _, _, _⟩) (v := .pointer (some ⟨b1, o1 + i * 3, none⟩)) rfl (by kernel_rfl) (by kernel_rfl) (by kernel_rfl) (fun _ _ _ h => h) (Or.inl ⟨by rfl, ?_⟩) (by assumption) ?_
        · intro w hSw; (try dsimp only at hSw); go_simp
        simp only [Act.put, List.setIfInBounds_toArray, List.set_cons_zero, List.set_cons_succ]
        refine wpAnyH_take (i := 3) (oi := ⟨some 19, _, _, _, _, _⟩) (v := .agg #[.int .u8 (x.k : Int), .string x.p, .string x.v]) rfl (by kernel_rfl) (by kernel_rfl) (by kernel_rfl) (fun _ _ _ h => h) (Or.inl ⟨by rfl, ?_⟩) (by assumption) ?_
        · intro w hSw; (try dsimp only at hSw); obtain ⟨⟨q0, q1, q2⟩, q3, q4, q5⟩ := hSw; go_simp
        simp only [Act.put, List.setIfInBounds_toArray, List.set_cons_zero, List.set_cons_succ]
        refine wpAnyH_take (i := 4) (oi := ⟨some 20, _, _, _, _, _⟩) (v := .slice (some ⟨b2, o2, none⟩) m.length d) rfl (by kernel_rfl) (by kernel_rfl) (by kernel_rfl) (fun _ _ _ h => h) (Or.inl ⟨by rfl, ?_⟩) (by assumption) ?_
        · intro w hSw; (try dsimp only at hSw); go_simp
        simp only [Act.put, List.setIfInBounds_toArray, List.set_cons_zero, List.set_cons_succ]
        refine wpAnyH_take (i := 5) (oi := ⟨some 21, _, _, _, _, _⟩) (v := .int .i64 (i : Int)) rfl (by kernel_rfl) (by kernel_rfl) (by kernel_rfl) (fun _ _ _ h => h) (Or.inl ⟨by rfl, ?_⟩) (by assumption) ?_
        · intro w hSw; (try dsimp only at hSw); go_simp
        simp only [Act.put, List.setIfInBounds_toArray, List.set_cons_zero, List.set_cons_succ]
        refine wpAnyH_take (i := 6) (oi := ⟨some 22, _, _, _, _, _⟩) (v := .pointer (some ⟨b2, o2 + i * 3, none⟩)) rfl (by kernel_rfl) (by kernel_rfl) (by kernel_rfl) (fun _ _ _ h => h) (Or.inl ⟨by rfl, ?_⟩) (by assumption) ?_
        · intro w hSw; (try dsimp only at hSw); go_simp
        simp only [Act.put, List.setIfInBounds_toArray, List.set_cons_zero, List.set_cons_succ]
        refine wpAnyH_take (i := 7) (oi := ⟨some 23, _, _, _, _, _⟩) (v := .agg #[.int .u8 (y.k : Int), .string y.p, .string y.v]) rfl (by kernel_rfl) (by kernel_rfl) (by kernel_rfl) (fun _ _ _ h => h) (Or.inl ⟨by rfl, ?_⟩) (by assumption) ?_
        · intro w hSw; (try dsimp only at hSw); obtain ⟨⟨q0, q1, q2⟩, q3, q4, q5⟩ := hSw; go_simp
        simp only [Act.put, List.setIfInBounds_toArray, List.set_cons_zero, List.set_cons_succ]
        refine wpAnyH_take (i := 8) (oi := ⟨some 24, _, _, _, _, _⟩) (v := .bool (!Ba.eqb x y)) rfl (by kernel_rfl) (by kernel_rfl) (by kernel_rfl) (fun _ _ _ h => h) (Ba.yields_neq (by rfl) _ _ _ rfl x y rfl rfl) (by assumption) ?_
        simp only [Act.put, List.setIfInBounds_toArray, List.set_cons_zero, List.set_cons_succ]
        refine wpAnyH_done (by kernel_rfl) ?_ _
        rw [hen]
        go_wp2_with fail
        go_roundw
        case rel => exact ⟨i + 1, rfl, by omega, HN.out, bw.drew, M1.out, M2.out⟩
        case measure => simp only [intOf]; omega
      · have hgf : g = false := by
          cases hgc : g
          · rfl
          · exfalso
            have e := HG.out.1 hgc
            subst e
            exact he (Ba.eqb_iff.2 (by rw [HX.out, HY.out]))
        subst hgf
        have hen : (!Ba.eqb x y) = true := by rw [Bool.eq_false_iff.2 he]; rfl
        go_upto_region 6 with (fail)
        refine wp_region_held_drew (S := fun w' => (w'.cell? ⟨b1, o1 + i * 3, none⟩ = some (.int .u8 (x.k : Int)) ∧ w'.cell? ⟨b1, o1 + i * 3 + 1, none⟩ = some (.string x.p) ∧ w'.cell? ⟨b1, o1 + i * 3 + 2, none⟩ = some (.string x.v)) ∧ (w'.cell? ⟨b2, o2 + i * 3, none⟩ = some (.int .u8 (y.k : Int)) ∧ w'.cell? ⟨b2, o2 + i * 3 + 1, none⟩ = some (.string y.p) ∧ w'.cell? ⟨b2, o2 + i * 3 + 2, none⟩ = some (.string y.v))) (by kernel_rfl) ⟨⟨c0, c1, c2⟩, d0, d1, d2⟩ (fun hHeld => ?_)
        refine wpAnyH_take (i := 0) (oi := ⟨some 16, _, _, _, _, _⟩) (v := .slice (some ⟨b1, o1, none⟩) l.length c) rfl (by kernel_rfl) (by kernel_rfl) (by kernel_rfl) (fun _ _ _ h => h) (Or.inl ⟨by rfl, ?_⟩) (by assumption) ?_
        · intro w hSw; (try dsimp only at hSw); go_simp
        simp only [Act.put, List.setIfInBounds_toArray, List.set_cons_zero, List.set_cons_succ]
        refine wpAnyH_take (i := 1) (oi := ⟨some 17, _, _, _, _, _⟩) (v := .int .i64 (i : Int)) rfl (by kernel_rfl) (by kernel_rfl) (by kernel_rfl) (fun _ _ _ h => h) (Or.inl ⟨by rfl, ?_⟩) (by assumption) ?_
        · intro w hSw; (try dsimp only at hSw); go_simp
        simp only [Act.put, List.setIfInBounds_toArray, List.set_cons_zero, List.set_cons_succ]
        refine wpAnyH_take (i := 2) (oi := ⟨some 18, _, _, _, _, _⟩) (v := .pointer (some ⟨b1, o1 + i * 3, none⟩)) rfl (by kernel_rfl) (by kernel_rfl) (by kernel_rfl) (fun _ _ _ h => h) (Or.inl ⟨by rfl, ?_⟩) (by assumption) ?_
        · intro w hSw; (try dsimp only at hSw); go_simp
        simp only [Act.put, List.setIfInBounds_toArray, List.set_cons_zero, List.set_cons_succ]
        refine wpAnyH_take (i := 3) (oi := ⟨some 19, _, _, _, _, _⟩) (v := .agg #[.int .u8 (x.k : Int), .string x.p, .string x.v]) rfl (by kernel_rfl) (by kernel_rfl) (by kernel_rfl) (fun _ _ _ h => h) (Or.inl ⟨by rfl, ?_⟩) (by assumption) ?_
        · intro w hSw; (try dsimp only at hSw); obtain ⟨⟨q0, q1, q2⟩, q3, q4, q5⟩ := hSw; go_simp
        simp only [Act.put, List.setIfInBounds_toArray, List.set_cons_zero, List.set_cons_succ]
        refine wpAnyH_take (i := 4) (oi := ⟨some 20, _, _, _, _, _⟩) (v := .slice (some ⟨b2, o2, none⟩) m.length d) rfl (by kernel_rfl) (by kernel_rfl) (by kernel_rfl) (fun _ _ _ h => h) (Or.inl ⟨by rfl, ?_⟩) (by assumption) ?_
        · intro w hSw; (try dsimp only at hSw); go_simp
        simp only [Act.put, List.setIfInBounds_toArray, List.set_cons_zero, List.set_cons_succ]
        refine wpAnyH_take (i := 5) (oi := ⟨some 21, _, _, _, _, _⟩) (v := .int .i64 (i : Int)) rfl (by kernel_rfl) (by kernel_rfl) (by kernel_rfl) (fun _ _ _ h => h) (Or.inl ⟨by rfl, ?_⟩) (by assumption) ?_
        · intro w hSw; (try dsimp only at hSw); go_simp
        simp only [Act.put, List.setIfInBounds_toArray, List.set_cons_zero, List.set_cons_succ]
        refine wpAnyH_take (i := 6) (oi := ⟨some 22, _, _, _, _, _⟩) (v := .pointer (some ⟨b2, o2 + i * 3, none⟩)) rfl (by kernel_rfl) (by kernel_rfl) (by kernel_rfl) (fun _ _ _ h => h) (Or.inl ⟨by rfl, ?_⟩) (by assumption) ?_
        · intro w hSw; (try dsimp only at hSw); go_simp
        simp only [Act.put, List.setIfInBounds_toArray, List.set_cons_zero, List.set_cons_succ]
        refine wpAnyH_take (i := 7) (oi := ⟨some 23, _, _, _, _, _⟩) (v := .agg #[.int .u8 (y.k : Int), .string y.p, .string y.v]) rfl (by kernel_rfl) (by kernel_rfl) (by kernel_rfl) (fun _ _ _ h => h) (Or.inl ⟨by rfl, ?_⟩) (by assumption) ?_
        · intro w hSw; (try dsimp only at hSw); obtain ⟨⟨q0, q1, q2⟩, q3, q4, q5⟩ := hSw; go_simp
        simp only [Act.put, List.setIfInBounds_toArray, List.set_cons_zero, List.set_cons_succ]
        refine wpAnyH_take (i := 8) (oi := ⟨some 24, _, _, _, _, _⟩) (v := .bool (!Ba.eqb x y)) rfl (by kernel_rfl) (by kernel_rfl) (by kernel_rfl) (fun _ _ _ h => h) (Ba.yields_neq (by rfl) _ _ _ rfl x y rfl rfl) (by assumption) ?_
        simp only [Act.put, List.setIfInBounds_toArray, List.set_cons_zero, List.set_cons_succ]
        refine wpAnyH_done (by kernel_rfl) ?_ _
        rw [hen]
        go_wp2_with fail
        go_ret
        exact ⟨by rfl, bw.drew⟩
    · have hii : ¬ (i : Int) < l.length := by omega
      have hiim : ¬ (i : Int) < m.length := by have := HLM.out; omega
      have hgt : g = true := HG.out.2 (Ba.ops_eq HLM.out fun j h1 h2 => HA.out j h1 h2 (by omega))
      subst hgt
      go_wp2
      go_ret
      exact ⟨by rfl, bw⟩
set_option maxRecDepth 100000 in
theorem slEqOps_zero (w : World) (A C : Option Addr) (c d : Nat) : Calls Try.prog 43 #[.slice A 0 c, .slice C 0 d] w fun e w' => e = .returned (.bool true) ∧ Below w.heap.size w w' := by
  go_enter Try.func43, Try.ntmps43
  go_wp2
  refine wp_loop_rounds 1 ?_
  rw [rounds_succ]
  go_wp2
  go_ret
  exact ⟨rfl, Below.refl _ w⟩
set_option maxRecDepth 100000 in
theorem slEqOps_lens (w : World) (A C : Option Addr) (n m c d : Nat) (hn : n ≠ m) : Calls Try.prog 43 #[.slice A n c, .slice C m d] w fun e w' => e = .returned (.bool false) ∧ Below w.heap.size w w' := by
  have h1 : ¬ (n : Int) = (m : Int) := by omega
  have h2 : ((n : Int) == (m : Int)) = false := by rw [beq_eq_false_iff_ne]; exact h1
  clear hn
  go_enter Try.func43, Try.ntmps43
  go_wp2
  go_ret
  exact ⟨rfl, Below.refl _ w⟩
theorem slEqOps_any {w : World} {A C : Option Addr} {l m : List Ba.Op} (c d : Nat) (h1 : Ba.listAt w A l) (h2 : Ba.listAt w C m) (hlb : l.length ≤ 9223372036854775807) (g : Bool) (hg : g = true ↔ l = m) :
    Calls Try.prog 43 #[.slice A l.length c, .slice C m.length d] w fun e w' => e = .returned (.bool g) ∧ Below w.heap.size w w' := by
  by_cases hlm : l.length = m.length
  · rcases h1 with rfl | ⟨b1, o1, rfl, -, m1⟩
    · have hm : m = [] := List.eq_nil_of_length_eq_zero hlm.symm
      subst hm
      have : g = true := hg.2 rfl
      rw [this]
      exact slEqOps_zero w A C c d
    · rcases h2 with rfl | ⟨b2, o2, rfl, -, m2⟩
      · have hm : l = [] := List.eq_nil_of_length_eq_zero hlm
        subst hm
        have : g = true := hg.2 rfl
        rw [this]
        exact slEqOps_zero w _ C c d
      · exact slEqOps_some w b1 o1 c b2 o2 d l m hlm hlb m1 m2 g hg
  · have : g = false := by
      cases hgc : g
      · rfl
      · exact absurd (by rw [hg.1 hgc]) hlm
    rw [this]
    exact slEqOps_lens w A C _ _ c d hlm
set_option maxRecDepth 100000 in
set_option maxHeartbeats 1000000 in
theorem baSame_any {w : World} {A C : Option Addr} (a b : Ba.Bt) (c d : Nat) (h1 : Ba.listAt w A a.ops) (h2 : Ba.listAt w C b.ops) (hlb : a.ops.length ≤ 9223372036854775807) (g : Bool) (hg : g = true ↔ a = b) :
    Calls Try.prog 21 #[.agg #[.int .i64 a.ix, .int .i64 a.ep, .slice A a.ops.length c], .agg #[.int .i64 b.ix, .int .i64 b.ep, .slice C b.ops.length d]] w fun e w' => e = .returned (.bool g) ∧ Below w.heap.size w w' := by
  obtain ⟨ix, ep, l⟩ := a
  obtain ⟨jx, jp, m⟩ := b
  simp only at h1 h2 hlb ⊢
  obtain ⟨N, hN⟩ : ∃ N, N = w.heap.size := ⟨_, rfl⟩
  obtain ⟨W1, hW1⟩ : ∃ x, x = w.alloc (.cells #[.int .i64 ix, .int .i64 ep, .slice A l.length c] 31) := ⟨_, rfl⟩
  have gn := heap_alloc_new w (.cells #[.int .i64 ix, .int .i64 ep, .slice A l.length c] 31)
  have b1 : Below w.heap.size w (w.alloc (.cells #[.int .i64 ix, .int .i64 ep, .slice A l.length c] 31)) := (Below.refl _ w).alloc (Nat.le_refl _) _
  rw [← hW1] at gn b1
  have hs1 : W1.heap.size = w.heap.size + 1 := by rw [hW1]; simp
  obtain ⟨W2, hW2⟩ : ∃ x, x = W1.alloc (.cells #[.int .i64 jx, .int .i64 jp, .slice C m.length d] 31) := ⟨_, rfl⟩
  have g2 := heap_alloc_new W1 (.cells #[.int .i64 jx, .int .i64 jp, .slice C m.length d] 31)
  have b2 : Below W1.heap.size W1 (W1.alloc (.cells #[.int .i64 jx, .int .i64 jp, .slice C m.length d] 31)) := (Below.refl _ _).alloc (Nat.le_refl _) _
  rw [← hW2] at g2 b2
  have gn2 := (b2.block w.heap.size (Sm.lt_of gn)).trans gn
  rw [hs1] at g2
  have b12 : Below w.heap.size w W2 := b1.trans (b2.mono (by omega))
  rw [← hN] at gn2 g2 b12 ⊢
  have L1 := (h1.below b1).below b2
  have L2 := (h2.below b1).below b2
  have HN := Lib.hid hN
  have HW : Hid (W2 = (w.alloc (.cells #[.int .i64 ix, .int .i64 ep, .slice A l.length c] 31)).alloc (.cells #[.int .i64 jx, .int .i64 jp, .slice C m.length d] 31)) := by show _ = _; rw [hW2, hW1]
  have x0 := Sm.cells_of gn2 0 _ rfl
  have x1 := Sm.cells_of gn2 1 _ rfl
  have x2 := Sm.cells_of gn2 2 _ rfl
  have y0 := Sm.cells_of g2 0 _ rfl
  have y1 := Sm.cells_of g2 1 _ rfl
  have y2 := Sm.cells_of g2 2 _ rfl
  by_cases e1 : ix = jx
  · have q1 : (ix == jx) = true := by simp [e1]
    by_cases e2 : ep = jp
    · have q2 : (ep == jp) = true := by simp [e2]
      have hg2 : g = true ↔ l = m := by
        rw [hg]
        constructor
        · intro e; injection e
        · intro e; rw [e1, e2, e]
      have EQ := Lib.hid (slEqOps_any c d L1 L2 hlb g hg2)
      have B12 := Lib.hid b12
      clear hg hg2 L1 L2 gn gn2 g2 b1 b2 b12 h1 h2 hN hW1 hW2 hs1 e1 e2
      go_enter Try.func21, Try.ntmps21
      go_upto_region 1 with (fail)
      rw [← HN.out, ← HW.out]
      go_wp2_with fail
      refine EQ.out.mono ?_
      rintro e w3 ⟨rfl, b3⟩
      go_wp2_with fail
      go_ret
      exact ⟨rfl, B12.out.trans (b3.mono (Nat.le_trans (Nat.le_of_eq HN.out) B12.out.size))⟩
    · have q2 : (ep == jp) = false := by simpa using e2
      have hgf : g = false := by
        cases hgc : g
        · rfl
        · have e := hg.1 hgc
          injection e with e1 e2 e3
          exact absurd e2 (by assumption)
      subst hgf
      have B12 := Lib.hid b12
      clear hg L1 L2 gn gn2 g2 b1 b2 b12 h1 h2 hN hW1 hW2 hs1 e1
      go_enter Try.func21, Try.ntmps21
      go_upto_region 1 with (fail)
      rw [← HN.out, ← HW.out]
      go_wp2_with fail
      go_ret
      exact ⟨rfl, B12.out⟩
  · have q1 : (ix == jx) = false := by simpa using e1
    have hgf : g = false := by
      cases hgc : g
      · rfl
      · have e := hg.1 hgc
        injection e with e1 e2 e3
        exact absurd e1 (by assumption)
    subst hgf
    have B12 := Lib.hid b12
    clear hg L1 L2 gn gn2 g2 b1 b2 b12 h1 h2 hN hW1 hW2 hs1 
    go_enter Try.func21, Try.ntmps21
    go_upto_region 1 with (fail)
    rw [← HN.out, ← HW.out]
    go_wp2_with fail
    go_ret
    exact ⟨rfl, B12.out⟩
set_option maxRecDepth 100000 in
set_option maxHeartbeats 2000000 in
theorem r12Same_any {w : World} {A C : Option Addr} (a b : Ba.Bt) (c d : Nat) (h1 : Ba.listAt w A a.ops) (h2 : Ba.listAt w C b.ops) (hlb : a.ops.length ≤ 9223372036854775807) (g : Bool) (hg : g = true ↔ a = b) :
    Calls Try.prog 20 #[.agg #[.int .i64 a.ix, .int .i64 a.ep, .slice A a.ops.length c], .agg #[.int .i64 b.ix, .int .i64 b.ep, .slice C b.ops.length d]] w fun e w' => e = .returned (.bool g) ∧ Below w.heap.size w w' := by
  obtain ⟨ix, ep, l⟩ := a
  obtain ⟨jx, jp, m⟩ := b
  simp only at h1 h2 hlb ⊢
  obtain ⟨N, hN⟩ : ∃ N, N = w.heap.size := ⟨_, rfl⟩
  obtain ⟨W1, hW1⟩ : ∃ x, x = w.alloc (.cells #[.int .i64 ix, .int .i64 ep, .slice A l.length c] 31) := ⟨_, rfl⟩
  have gn := heap_alloc_new w (.cells #[.int .i64 ix, .int .i64 ep, .slice A l.length c] 31)
  have b1 : Below w.heap.size w (w.alloc (.cells #[.int .i64 ix, .int .i64 ep, .slice A l.length c] 31)) := (Below.refl _ w).alloc (Nat.le_refl _) _
  rw [← hW1] at gn b1
  have hs1 : W1.heap.size = w.heap.size + 1 := by rw [hW1]; simp
  obtain ⟨W2, hW2⟩ : ∃ x, x = W1.alloc (.cells #[.int .i64 jx, .int .i64 jp, .slice C m.length d] 31) := ⟨_, rfl⟩
  have g2 := heap_alloc_new W1 (.cells #[.int .i64 jx, .int .i64 jp, .slice C m.length d] 31)
  have b2 : Below W1.heap.size W1 (W1.alloc (.cells #[.int .i64 jx, .int .i64 jp, .slice C m.length d] 31)) := (Below.refl _ _).alloc (Nat.le_refl _) _
  rw [← hW2] at g2 b2
  have gn2 := (b2.block w.heap.size (Sm.lt_of gn)).trans gn
  rw [hs1] at g2
  have b12 : Below w.heap.size w W2 := b1.trans (b2.mono (by omega))
  rw [← hN] at gn2 g2 b12 ⊢
  have L1 := (h1.below b1).below b2
  have L2 := (h2.below b1).below b2
  have HN := Lib.hid hN
  have HW : Hid (W2 = (w.alloc (.cells #[.int .i64 ix, .int .i64 ep, .slice A l.length c] 31)).alloc (.cells #[.int .i64 jx, .int .i64 jp, .slice C m.length d] 31)) := by show _ = _; rw [hW2, hW1]
  have x0 := Sm.cells_of gn2 0 _ rfl
  have x1 := Sm.cells_of gn2 1 _ rfl
  have x2 := Sm.cells_of gn2 2 _ rfl
  have y0 := Sm.cells_of g2 0 _ rfl
  have y1 := Sm.cells_of g2 1 _ rfl
  have y2 := Sm.cells_of g2 2 _ rfl
  by_cases e1 : ix = jx
  · have q1 : (ix != jx) = false := by simp [e1]
    by_cases e2 : ep = jp
    · have q2 : (ep != jp) = false := by simp [e2]
      have hg2 : g = true ↔ l = m := by
        rw [hg]
        constructor
        · intro e; injection e
        · intro e; rw [e1, e2, e]
      by_cases e3 : l.length = m.length
      · have q3 : ((l.length : Int) != (m.length : Int)) = false := by simp [e3]
        have q4 : (l.length : Int) = (m.length : Int) := by omega
        have HG := Lib.hid hg2
        have B12 := Lib.hid b12
        have G1 := Lib.hid gn2
        have G2 := Lib.hid g2
        have HL1 := Lib.hid L1
        have HL2 := Lib.hid L2
        have HLM := Lib.hid e3
        clear hg hg2 L1 L2 gn gn2 g2 b1 b2 b12 h1 h2 hN hW1 hW2 hs1 e1 e2 e3
        go_enter Try.func20, Try.ntmps20
        go_upto_region 1 with (fail)
        rw [← HN.out, ← HW.out]
        go_upto_region 4 with (fail)
        clear x0 x1 x2 y0 y1 y2 q3 q4 q1 q2
        go_loopw [5] (fun s5 wr => ∃ i : Nat, s5 = .int .i64 i ∧ i ≤ l.length ∧ (∀ j (h1 : j < l.length) (h2 : j < m.length), j < i → l[j] = m[j]) ∧ Below N w wr ∧ wr.heap[N]? = some (.cells #[.int .i64 ix, .int .i64 ep, .slice A l.length c] 31 (0, 0)) ∧ wr.heap[N + 1]? = some (.cells #[.int .i64 jx, .int .i64 jp, .slice C m.length d] 31 (0, 0)) ∧ Ba.listAt wr A l ∧ Ba.listAt wr C m) (fun s5 _ => l.length - (intOf s5).toNat)
        case atStart => exact ⟨0, rfl, Nat.zero_le _, fun j _ _ h => absurd h (Nat.not_lt_zero _), B12.out, G1.out, G2.out, HL1.out, HL2.out⟩
        case round =>
          clear B12 G1 G2 HL1 HL2
          obtain ⟨i, rfl, hi, hall, bw, w1, w2, m1, m2⟩ := hrel
          have HA := Lib.hid hall
          have x2 := Sm.cells_of w1 2 _ rfl
          have y2 := Sm.cells_of w2 2 _ rfl
          have G1 := Lib.hid w1
          have G2 := Lib.hid w2
          have M1 := Lib.hid m1
          have M2 := Lib.hid m2
          clear hall m1 m2 w1 w2
          by_cases hil : i < l.length
          · have hii : (i : Int) < l.length := by omega
            have him : i < m.length := by have := HLM.out; omega
            have hiim : (i : Int) < m.length := by omega
            have hsuc : IntKind.i64.wrap ((i : Int) + 1) = ((i + 1 : Nat) : Int) := by simp [IntKind.wrap, IntKind.bits, IntKind.signed]; omega
            obtain ⟨p1, o1, rfl, -, c0, c1, c2⟩ := M1.out.get (Below.refl _ _) i hil
            obtain ⟨p2, o2, rfl, -, d0, d1, d2⟩ := M2.out.get (Below.refl _ _) i him
            obtain ⟨x, hx⟩ : ∃ x, x = l[i] := ⟨_, rfl⟩
            obtain ⟨y, hy⟩ : ∃ y, y = m[i] := ⟨_, rfl⟩
            rw [← hx] at c0 c1 c2
            rw [← hy] at d0 d1 d2
            have HX := Lib.hid hx
            have HY := Lib.hid hy
            clear hx hy
            by_cases he : Ba.eqb x y = true
            · have hxy : x = y := Ba.eqb_iff.1 he
              have hnext : ∀ j (h1 : j < l.length) (h2 : j < m.length), j < i + 1 → l[j] = m[j] := fun j h1 h2 hj => by
                by_cases e : j = i
                · subst e; rw [← HX.out, ← HY.out]; exact hxy
                · exact HA.out j h1 h2 (by omega)
              have HNX := Lib.hid hnext
              have hen : (!Ba.eqb x y) = false := by rw [he]; rfl
              clear hnext hxy
              go_upto_region 6 with (fail)
              refine wp_region_held_drew (S := fun w' => (w'.cell? ⟨N, 2, none⟩ = some (.slice (some ⟨p1, o1, none⟩) l.length c) ∧ w'.cell? ⟨N + 1, 2, none⟩ = some (.slice (some ⟨p2, o2, none⟩) m.length d)) ∧ (w'.cell? ⟨p1, o1 + i * 3, none⟩ = some (.int .u8 (x.k : Int)) ∧ w'.cell? ⟨p1, o1 + i * 3 + 1, none⟩ = some (.string x.p) ∧ w'.cell? ⟨p1, o1 + i * 3 + 2, none⟩ = some (.string x.v)) ∧ (w'.cell? ⟨p2, o2 + i * 3, none⟩ = some (.int .u8 (y.k : Int)) ∧ w'.cell? ⟨p2, o2 + i * 3 + 1, none⟩ = some (.string y.p) ∧ w'.cell? ⟨p2, o2 + i * 3 + 2, none⟩ = some (.string y.v))) (by kernel_rfl) ⟨⟨x2, y2⟩, ⟨c0, c1, c2⟩, d0, d1, d2⟩ (fun hHeld => ?_)
              refine wpAnyH_take (i := 0) (oi := ⟨some 34, _, _, _, _, _⟩) (v := .pointer (some ⟨N, 2, none⟩)) rfl (by kernel_rfl) (by kernel_rfl) (by kernel_rfl) (fun _ _ _ h => h) (Or.inl ⟨by rfl, ?_⟩) (by assumption) ?_
              · intro w hSw; (try dsimp only at hSw); go_simp
              simp only [Act.put, List.setIfInBounds_toArray, List.set_cons_zero, List.set_cons_succ]
              refine wpAnyH_take (i := 1) (oi := ⟨some 35, _, _, _, _, _⟩) (v := .slice (some ⟨p1, o1, none⟩) l.length c) rfl (by kernel_rfl) (by kernel_rfl) (by kernel_rfl) (fun _ _ _ h => h) (Or.inl ⟨by rfl, ?_⟩) (by assumption) ?_
              · intro w hSw; (try dsimp only at hSw); obtain ⟨⟨s0, s1⟩, ⟨q0, q1, q2⟩, q3, q4, q5⟩ := hSw; go_simp
              simp only [Act.put, List.setIfInBounds_toArray, List.set_cons_zero, List.set_cons_succ]
              refine wpAnyH_take (i := 2) (oi := ⟨some 36, _, _, _, _, _⟩) (v := .int .i64 (i : Int)) rfl (by kernel_rfl) (by kernel_rfl) (by kernel_rfl) (fun _ _ _ h => h) (Or.inl ⟨by rfl, ?_⟩) (by assumption) ?_
              · intro w hSw; (try dsimp only at hSw); go_simp
              simp only [Act.put, List.setIfInBounds_toArray, List.set_cons_zero, List.set_cons_succ]
              refine wpAnyH_take (i := 3) (oi := ⟨some 37, _, _, _, _, _⟩) (v := .pointer (some ⟨p1, o1 + i * 3, none⟩)) rfl (by kernel_rfl) (by kernel_rfl) (by kernel_rfl) (fun _ _ _ h => h) (Or.inl ⟨by rfl, ?_⟩) (by assumption) ?_
              · intro w hSw; (try dsimp only at hSw); go_simp
              simp only [Act.put, List.setIfInBounds_toArray, List.set_cons_zero, List.set_cons_succ]
              refine wpAnyH_take (i := 4) (oi := ⟨some 38, _, _, _, _, _⟩) (v := .agg #[.int .u8 (x.k : Int), .string x.p, .string x.v]) rfl (by kernel_rfl) (by kernel_rfl) (by kernel_rfl) (fun _ _ _ h => h) (Or.inl ⟨by rfl, ?_⟩) (by assumption) ?_
              · intro w hSw; (try dsimp only at hSw); obtain ⟨⟨s0, s1⟩, ⟨q0, q1, q2⟩, q3, q4, q5⟩ := hSw; go_simp
              simp only [Act.put, List.setIfInBounds_toArray, List.set_cons_zero, List.set_cons_succ]
              refine wpAnyH_take (i := 5) (oi := ⟨some 39, _, _, _, _, _⟩) (v := .pointer (some ⟨N + 1, 2, none⟩)) rfl (by kernel_rfl) (by kernel_rfl) (by kernel_rfl) (fun _ _ _ h => h) (Or.inl ⟨by rfl, ?_⟩) (by assumption) ?_
              · intro w hSw; (try dsimp only at hSw); go_simp
              simp only [Act.put, List.setIfInBounds_toArray, List.set_cons_zero, List.set_cons_succ]
              refine wpAnyH_take (i := 6) (oi := ⟨some 40, _, _, _, _, _⟩) (v := .slice (some ⟨p2, o2, none⟩) m.length d) rfl (by kernel_rfl) (by kernel_rfl) (by kernel_rfl) (fun _ _ _ h => h) (Or.inl ⟨by rfl, ?_⟩) (by assumption) ?_
              · intro w hSw; (try dsimp only at hSw); obtain ⟨⟨s0, s1⟩, ⟨q0, q1, q2⟩, q3, q4, q5⟩ := hSw; go_simp
              simp only [Act.put, List.setIfInBounds_toArray, List.set_cons_zero, List.set_cons_succ]
              refine wpAnyH_take (i := 7) (oi := ⟨some 41, _, _, _, _, _⟩) (v := .int .i64 (i : Int)) rfl (by kernel_rfl) (by kernel_rfl) (by kernel_rfl) (fun _ _ _ h => h) (Or.inl ⟨by rfl, ?_⟩) (by assumption) ?_
              · intro w hSw; (try dsimp only at hSw); go_simp
              simp only [Act.put, List.setIfInBounds_toArray, List.set_cons_zero, List.set_cons_succ]
              refine wpAnyH_take (i := 8) (oi := ⟨some 42, _, _, _, _, _⟩) (v := .pointer (some ⟨p2, o2 + i * 3, none⟩)) rfl (by kernel_rfl) (by kernel_rfl) (by kernel_rfl) (fun _ _ _ h => h) (Or.inl ⟨by rfl, ?_⟩) (by assumption) ?_
              · intro w hSw; (try dsimp only at hSw); go_simp
              simp only [Act.put, List.setIfInBounds_toArray, List.set_cons_zero, List.set_cons_succ]
              refine wpAnyH_take (i := 9) (oi := ⟨some 43, _, _, _, _, _⟩) (v := .agg #[.int .u8 (y.k : Int), .string y.p, .string y.v]) rfl (by kernel_rfl) (by kernel_rfl) (by kernel_rfl) (fun _ _ _ h => h) (Or.inl ⟨by rfl, ?_⟩) (by assumption) ?_
              · intro w hSw; (try dsimp only at hSw); obtain ⟨⟨s0, s1⟩, ⟨q0, q1, q2⟩, q3, q4, q5⟩ := hSw; go_simp
              simp only [Act.put, List.setIfInBounds_toArray, List.set_cons_zero, List.set_cons_succ]
              refine wpAnyH_take (i := 10) (oi := ⟨some 44, _, _, _, _, _⟩) (v := .bool (!Ba.eqb x y)) rfl (by kernel_rfl) (by kernel_rfl) (by kernel_rfl) (fun _ _ _ h => h) (Ba.yields_neq (by rfl) _ _ _ rfl x y rfl rfl) (by assumption) ?_
              simp only [Act.put, List.setIfInBounds_toArray, List.set_cons_zero, List.set_cons_succ]
              refine wpAnyH_done (by kernel_rfl) ?_ _
              rw [hen]
              go_wp2_with fail
              go_roundw
              case rel => exact ⟨i + 1, rfl, by omega, HNX.out, bw.drew, G1.out, G2.out, M1.out, M2.out⟩
              case measure => simp only [intOf]; omega
            · have hgf : g = false := by
                cases hgc : g
                · rfl
                · exfalso
                  have e := HG.out.1 hgc
                  subst e
                  exact he (Ba.eqb_iff.2 (by rw [HX.out, HY.out]))
              subst hgf
              have hen : (!Ba.eqb x y) = true := by rw [Bool.eq_false_iff.2 he]; rfl
              go_upto_region 6 with (fail)
              refine wp_region_held_drew (S := fun w' => (w'.cell? ⟨N, 2, none⟩ = some (.slice (some ⟨p1, o1, none⟩) l.length c) ∧ w'.cell? ⟨N + 1, 2, none⟩ = some (.slice (some ⟨p2, o2, none⟩) m.length d)) ∧ (w'.cell? ⟨p1, o1 + i * 3, none⟩ = some (.int .u8 (x.k : Int)) ∧ w'.cell? ⟨p1, o1 + i * 3 + 1, none⟩ = some (.string x.p) ∧ w'.cell? ⟨p1, o1 + i * 3 + 2, none⟩ = some (.string x.v)) ∧ (w'.cell? ⟨p2, o2 + i * 3, none⟩ = some (.int .u8 (y.k : Int)) ∧ w'.cell? ⟨p2, o2 + i * 3 + 1, none⟩ = some (.string y.p) ∧ w'.cell? ⟨p2, o2 + i * 3 + 2, none⟩ = some (.string y.v))) (by kernel_rfl) ⟨⟨x2, y2⟩, ⟨c0, c1, c2⟩, d0, d1, d2⟩ (fun hHeld => ?_)
              refine wpAnyH_take (i := 0) (oi := ⟨some 34, _, _, _, _, _⟩) (v := .pointer (some ⟨N, 2, none⟩)) rfl (by kernel_rfl) (by kernel_rfl) (by kernel_rfl) (fun _ _ _ h => h) (Or.inl ⟨by rfl, ?_⟩) (by assumption) ?_
              · intro w hSw; (try dsimp only at hSw); go_simp
              simp only [Act.put, List.setIfInBounds_toArray, List.set_cons_zero, List.set_cons_succ]
              refine wpAnyH_take (i := 1) (oi := ⟨some 35, _, _, _, _, _⟩) (v := .slice (some ⟨p1, o1, none⟩) l.length c) rfl (by kernel_rfl) (by kernel_rfl) (by kernel_rfl) (fun _ _ _ h => h) (Or.inl ⟨by rfl, ?_⟩) (by assumption) ?_
              · intro w hSw; (try dsimp only at hSw); obtain ⟨⟨s0, s1⟩, ⟨q0, q1, q2⟩, q3, q4, q5⟩ := hSw; go_simp
              simp only [Act.put, List.setIfInBounds_toArray, List.set_cons_zero, List.set_cons_succ]
              refine wpAnyH_take (i := 2) (oi := ⟨some 36, _, _, _, _, _⟩) (v := .int .i64 (i : Int)) rfl (by kernel_rfl) (by kernel_rfl) (by kernel_rfl) (fun _ _ _ h => h) (Or.inl ⟨by rfl, ?_⟩) (by assumption) ?_
              · intro w hSw; (try dsimp only at hSw); go_simp
              simp only [Act.put, List.setIfInBounds_toArray, List.set_cons_zero, List.set_cons_succ]
              refine wpAnyH_take (i := 3) (oi := ⟨some 37, _, _, _, _, _⟩) (v := .pointer (some ⟨p1, o1 + i * 3, none⟩)) rfl (by kernel_rfl) (by kernel_rfl) (by kernel_rfl) (fun _ _ _ h => h) (Or.inl ⟨by rfl, ?_⟩) (by assumption) ?_
              · intro w hSw; (try dsimp only at hSw); go_simp
              simp only [Act.put, List.setIfInBounds_toArray, List.set_cons_zero, List.set_cons_succ]
              refine wpAnyH_take (i := 4) (oi := ⟨some 38, _, _, _, _, _⟩) (v := .agg #[.int .u8 (x.k : Int), .string x.p, .string x.v]) rfl (by kernel_rfl) (by kernel_rfl) (by kernel_rfl) (fun _ _ _ h => h) (Or.inl ⟨by rfl, ?_⟩) (by assumption) ?_
              · intro w hSw; (try dsimp only at hSw); obtain ⟨⟨s0, s1⟩, ⟨q0, q1, q2⟩, q3, q4, q5⟩ := hSw; go_simp
              simp only [Act.put, List.setIfInBounds_toArray, List.set_cons_zero, List.set_cons_succ]
              refine wpAnyH_take (i := 5) (oi := ⟨some 39, _, _, _, _, _⟩) (v := .pointer (some ⟨N + 1, 2, none⟩)) rfl (by kernel_rfl) (by kernel_rfl) (by kernel_rfl) (fun _ _ _ h => h) (Or.inl ⟨by rfl, ?_⟩) (by assumption) ?_
              · intro w hSw; (try dsimp only at hSw); go_simp
              simp only [Act.put, List.setIfInBounds_toArray, List.set_cons_zero, List.set_cons_succ]
              refine wpAnyH_take (i := 6) (oi := ⟨some 40, _, _, _, _, _⟩) (v := .slice (some ⟨p2, o2, none⟩) m.length d) rfl (by kernel_rfl) (by kernel_rfl) (by kernel_rfl) (fun _ _ _ h => h) (Or.inl ⟨by rfl, ?_⟩) (by assumption) ?_
              · intro w hSw; (try dsimp only at hSw); obtain ⟨⟨s0, s1⟩, ⟨q0, q1, q2⟩, q3, q4, q5⟩ := hSw; go_simp
              simp only [Act.put, List.setIfInBounds_toArray, List.set_cons_zero, List.set_cons_succ]
              refine wpAnyH_take (i := 7) (oi := ⟨some 41, _, _, _, _, _⟩) (v := .int .i64 (i : Int)) rfl (by kernel_rfl) (by kernel_rfl) (by kernel_rfl) (fun _ _ _ h => h) (Or.inl ⟨by rfl, ?_⟩) (by assumption) ?_
              · intro w hSw; (try dsimp only at hSw); go_simp
              simp only [Act.put, List.setIfInBounds_toArray, List.set_cons_zero, List.set_cons_succ]
              refine wpAnyH_take (i := 8) (oi := ⟨some 42, _, _, _, _, _⟩) (v := .pointer (some ⟨p2, o2 + i * 3, none⟩)) rfl (by kernel_rfl) (by kernel_rfl) (by kernel_rfl) (fun _ _ _ h => h) (Or.inl ⟨by rfl, ?_⟩) (by assumption) ?_
              · intro w hSw; (try dsimp only at hSw); go_simp
              simp only [Act.put, List.setIfInBounds_toArray, List.set_cons_zero, List.set_cons_succ]
              refine wpAnyH_take (i := 9) (oi := ⟨some 43, _, _, _, _, _⟩) (v := .agg #[.int .u8 (y.k : Int), .string y.p, .string y.v]) rfl (by kernel_rfl) (by kernel_rfl) (by kernel_rfl) (fun _ _ _ h => h) (Or.inl ⟨by rfl, ?_⟩) (by assumption) ?_
              · intro w hSw; (try dsimp only at hSw); obtain ⟨⟨s0, s1⟩, ⟨q0, q1, q2⟩, q3, q4, q5⟩ := hSw; go_simp
              simp only [Act.put, List.setIfInBounds_toArray, List.set_cons_zero, List.set_cons_succ]
              refine wpAnyH_take (i := 10) (oi := ⟨some 44, _, _, _, _, _⟩) (v := .bool (!Ba.eqb x y)) rfl (by kernel_rfl) (by kernel_rfl) (by kernel_rfl) (fun _ _ _ h => h) (Ba.yields_neq (by rfl) _ _ _ rfl x y rfl rfl) (by assumption) ?_
              simp only [Act.put, List.setIfInBounds_toArray, List.set_cons_zero, List.set_cons_succ]
              refine wpAnyH_done (by kernel_rfl) ?_ _
              rw [hen]
              go_wp2_with fail
              go_ret
              exact ⟨by rfl, bw.drew⟩
          · have hii : ¬ (i : Int) < l.length := by omega
            have hiim : ¬ (i : Int) < m.length := by have := HLM.out; omega
            have hgt : g = true := HG.out.2 (Ba.ops_eq HLM.out fun j h1 h2 => HA.out j h1 h2 (by omega))
            subst hgt
            go_wp2
            go_ret
            exact ⟨by rfl, bw⟩
      · have q3 : ((l.length : Int) != (m.length : Int)) = true := by rw [bne_iff_ne]; omega
        have q4 : ¬ (l.length : Int) = (m.length : Int) := by omega
        have hgf : g = false := by
          cases hgc : g
          · rfl
          · have e := hg.1 hgc
            injection e with e1 e2 e3
            exact absurd (congrArg List.length e3) (by assumption)
        subst hgf
        have B12 := Lib.hid b12
        clear hg L1 L2 gn gn2 g2 b1 b2 b12 h1 h2 hN hW1 hW2 hs1 e1 e2
        go_enter Try.func20, Try.ntmps20
        go_upto_region 1 with (fail)
        rw [← HN.out, ← HW.out]
        go_wp2_with fail
        go_ret
        exact ⟨rfl, B12.out⟩
    · have q2 : (ep != jp) = true := by rw [bne_iff_ne]; exact e2
      have hgf : g = false := by
        cases hgc : g
        · rfl
        · have e := hg.1 hgc
          injection e with e1 e2 e3
          exact absurd e2 (by assumption)
      subst hgf
      have B12 := Lib.hid b12
      clear hg L1 L2 gn gn2 g2 b1 b2 b12 h1 h2 hN hW1 hW2 hs1 e1
      go_enter Try.func20, Try.ntmps20
      go_upto_region 1 with (fail)
      rw [← HN.out, ← HW.out]
      go_wp2_with fail
      go_ret
      exact ⟨rfl, B12.out⟩
  · have q1 : (ix != jx) = true := by rw [bne_iff_ne]; exact e1
    have hgf : g = false := by
      cases hgc : g
      · rfl
      · have e := hg.1 hgc
        injection e with e1 e2 e3
        exact absurd e1 (by assumption)
    subst hgf
    have B12 := Lib.hid b12
    clear hg L1 L2 gn gn2 g2 b1 b2 b12 h1 h2 hN hW1 hW2 hs1 
    go_enter Try.func20, Try.ntmps20
    go_upto_region 1 with (fail)
    rw [← HN.out, ← HW.out]
    go_wp2_with fail
    go_ret
    exact ⟨rfl, B12.out⟩
end Go.Proofs.Ytlndggbidmmodaa
