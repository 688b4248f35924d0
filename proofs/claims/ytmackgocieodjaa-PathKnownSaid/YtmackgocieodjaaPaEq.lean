/-
  Two mounts, compared; path's Same.
-/
import Derived.Test.YtmackgocieodjaaPaFind
namespace Go.Proofs.Ytmackgocieodjaa
open Go.RowKit
namespace Pa
def eqb (x y : Mo) : Bool := x.n.toList == y.n.toList && x.s == y.s
theorem eqb_iff {x y : Mo} : eqb x y = true ↔ x = y := by
  obtain ⟨n, s⟩ := x
  obtain ⟨m, r⟩ := y
  unfold eqb
  rw [Bool.and_eq_true]
  constructor
  · rintro ⟨h1, h2⟩
    have e1 : n = m := same_iff.1 h1
    have e2 : s = r := by simpa using h2
    rw [e1, e2]
  · intro h
    injection h with h1 h2
    subst h1 h2
    exact ⟨same_iff.2 rfl, by simp⟩
theorem mo_check : (match (Try.prog.fieldsOf 32).toList with
    | [a, b] => decide ((a.name ≠ "_" ∧ b.name ≠ "_") ∧ (a.type = 9 ∧ b.type = 4) ∧ (a.offset = 0 ∧ b.offset = 1))
    | _ => false) = true := by kernel_rfl
theorem mo_in : Try.prog.stoodInHeld 32 = false := by kernel_rfl
theorem eq_mo (x y : Mo) (w : World) : (Op.equalIn 10000 32 (.agg #[.string x.n, .bool x.s]) (.agg #[.string y.n, .bool y.s])).run Try.prog w = .ok (eqb x y) w := by
  rw [run_equalIn_struct w 9999 32 _ _ mount_und mo_in]
  have hc := mo_check
  split at hc
  · rename_i a b hl
    rw [hl]
    simp only [decide_eq_true_eq] at hc
    obtain ⟨⟨n0, n1⟩, ⟨t0, t1⟩, o0, o1⟩ := hc
    have p0 : ∀ z : Mo, (Go.part 9 #[.string z.n, .bool z.s] 0).run Try.prog w = .ok (.string z.n) w := fun z => by simp [Go.part]
    have p1 : ∀ z : Mo, (Go.part 4 #[.string z.n, .bool z.s] 1).run Try.prog w = .ok (.bool z.s) w := fun z => by simp [Go.part]
    have e0 := run_equalIn_string w 9998 9 x.n y.n Try.underlying9
    have e1 := run_equalIn_bool w 9998 4 x.s y.s Try.underlying4
    simp only [Op.eqFields, n0, n1, t0, t1, o0, o1, ne_eq, not_false_eq_true, if_true, Sem.run_bind, p0, p1, Result.andThen_ok, Sem.run_ite, Sem.run_pure, e0, e1]
    unfold eqb
    cases x.n.toList == y.n.toList <;> cases x.s == y.s <;> simp
  · exact absurd hc (by decide)
theorem mo_guard : Try.prog.eqGuardType Try.prog.depth 32 = false := by kernel_rfl
theorem yields_neq {ops : Array Oper} {S : World → Prop} {op : Oper} {a : Act} (hw : Region.wanted op (yielded ops a.tmps) = true) (t2 : TypeId) (p q : Operand) (ho : op.op = .binOp .neq 32 p q t2) (x y : Mo)
    (hp : a.eval p = .agg #[.string x.n, .bool x.s]) (hq : a.eval q = .agg #[.string y.n, .bool y.s]) : YieldsIf Try.prog ops S op (.bool (!eqb x y)) a :=
  .inl ⟨hw, fun w _ => by
    unfold execOp
    simp only [ho, Sem.run_bind, hp, hq, run_eqGuard_agg w .neq 32 p q _ _ mo_guard, run_neq_struct, eq_mo x y w, Result.andThen_ok, Sem.run_pure]⟩
theorem yields_eql {ops : Array Oper} {S : World → Prop} {op : Oper} {a : Act} (hw : Region.wanted op (yielded ops a.tmps) = true) (t2 : TypeId) (p q : Operand) (ho : op.op = .binOp .eql 32 p q t2) (x y : Mo)
    (hp : a.eval p = .agg #[.string x.n, .bool x.s]) (hq : a.eval q = .agg #[.string y.n, .bool y.s]) : YieldsIf Try.prog ops S op (.bool (eqb x y)) a :=
  .inl ⟨hw, fun w _ => by
    unfold execOp
    simp only [ho, Sem.run_bind, hp, hq, run_eqGuard_agg w .eql 32 p q _ _ mo_guard, run_eql_struct, eq_mo x y w, Result.andThen_ok, Sem.run_pure]⟩
theorem wpList_eql_mo {o : Oper} {a : Act} {w : World} {Q : Exit → Act → World → Prop} {ops : Array Oper} {rest : List Oper} (t2 : TypeId) (p q : Operand) (ho : o.op = .binOp .eql 32 p q t2) (x y : Mo)
    (hp : a.eval p = .agg #[.string x.n, .bool x.s]) (hq : a.eval q = .agg #[.string y.n, .bool y.s]) (h : wpList Try.prog ops Q rest (a.put o.dst (.bool (eqb x y))) w) (hgd : Region.wanted o (yielded ops a.tmps) = true) : wpList Try.prog ops Q (o :: rest) a w :=
  wpList_step fun L hL => by
    rw [if_pos hgd]
    unfold Oper.wp execOp
    simp only [ho, Sem.run_bind, hp, hq, run_eqGuard_agg w .eql 32 p q _ _ mo_guard, run_eql_struct, eq_mo x y w, Result.andThen_ok, Sem.run_pure]
    exact hL _ _ h
/-- The same mounts in the same row. -/
theorem list_eq {l m : List Mo} (hl : l.length = m.length) (h : ∀ j (h1 : j < l.length) (h2 : j < m.length), l[j] = m[j]) : l = m := List.ext_getElem hl h
end Pa
set_option maxRecDepth 100000 in
set_option maxHeartbeats 1000000 in
theorem paEqual_some (w : World) (b1 o1 c b2 o2 d : Nat) (l m : List Pa.Mo) (hlm : l.length = m.length) (hlb : l.length ≤ 9223372036854775807) (h1 : Pa.mosAt w b1 o1 l) (h2 : Pa.mosAt w b2 o2 m) (g : Bool) (hg : g = true ↔ l = m) :
    Calls Try.prog 29 #[.slice (some ⟨b1, o1, none⟩) l.length c, .slice (some ⟨b2, o2, none⟩) m.length d] w fun e w' => e = .returned (.bool g) ∧ Below w.heap.size w w' := by
  have H1 := Lib.hid h1
  have H2 := Lib.hid h2
  have HG := Lib.hid hg
  have hi1 : (l.length : Int) = (m.length : Int) := by omega
  have hi2 : ((l.length : Int) == (m.length : Int)) = true := by simp [hi1]
  clear h1 h2 hg
  go_enter Try.func29, Try.ntmps29
  have HLM := Lib.hid hlm
  have H3 := Lib.hid hi1
  clear hlm
  go_wp2
  clear hi1 hi2
  go_loopw [13] (fun s13 wr => ∃ i : Nat, s13 = .int .i64 i ∧ i ≤ l.length ∧ (∀ j (h1 : j < l.length) (h2 : j < m.length), j < i → l[j] = m[j]) ∧ Below w.heap.size w wr ∧ Pa.mosAt wr b1 o1 l ∧ Pa.mosAt wr b2 o2 m) (fun s13 _ => l.length - (intOf s13).toNat)
  case atStart => exact ⟨0, rfl, Nat.zero_le _, fun j _ _ h => absurd h (Nat.not_lt_zero _), Below.refl _ w, H1.out, H2.out⟩
  case round =>
    obtain ⟨i, rfl, hi, hall, bw, m1, m2⟩ := hrel
    have HA := Lib.hid hall
    have M1 := Lib.hid m1
    have M2 := Lib.hid m2
    clear hall m1 m2
    by_cases hil : i < l.length
    · have hii : (i : Int) < l.length := by omega
      have him : i < m.length := by have := HLM.out; omega
      have hiim : (i : Int) < m.length := by omega
      have hsuc : IntKind.i64.wrap ((i : Int) + 1) = ((i + 1 : Nat) : Int) := by simp [IntKind.wrap, IntKind.bits, IntKind.signed]; omega
      obtain ⟨c0, c1⟩ := M1.out i hil
      obtain ⟨d0, d1⟩ := M2.out i him
      obtain ⟨x, hx⟩ : ∃ x, x = l[i] := ⟨_, rfl⟩
      obtain ⟨y, hy⟩ : ∃ y, y = m[i] := ⟨_, rfl⟩
      rw [← hx] at c0 c1
      rw [← hy] at d0 d1
      have HX := Lib.hid hx
      have HY := Lib.hid hy
      clear hx hy
      by_cases he : Pa.eqb x y = true
      · have hxy : x = y := Pa.eqb_iff.1 he
        have hnext : ∀ j (h1 : j < l.length) (h2 : j < m.length), j < i + 1 → l[j] = m[j] := fun j h1 h2 hj => by
          by_cases e : j = i
          · subst e; rw [← HX.out, ← HY.out]; exact hxy
          · exact HA.out j h1 h2 (by omega)
        have HN := Lib.hid hnext
        have hen : (!Pa.eqb x y) = false := by rw [he]; rfl
        clear hnext hxy
        go_upto_region 6 with (fail)
        refine wp_region_held_drew (S := fun w' => (w'.cell? ⟨b1, o1 + i * 2, none⟩ = some (.string x.n) ∧ w'.cell? ⟨b1, o1 + i * 2 + 1, none⟩ = some (.bool x.s)) ∧ (w'.cell? ⟨b2, o2 + i * 2, none⟩ = some (.string y.n) ∧ w'.cell? ⟨b2, o2 + i * 2 + 1, none⟩ = some (.bool y.s))) (by kernel_rfl) ⟨⟨c0, c1⟩, d0, d1⟩ (fun hHeld => ?_)
        refine wpAnyH_take (i := 0) (oi := ⟨some 16, _, _, _, _, _⟩) (v := .slice (some ⟨b1, o1, none⟩) l.length c) rfl (by kernel_rfl) (by kernel_rfl) (by kernel_rfl) (fun _ _ _ h => h) (Or.inl ⟨by rfl, ?_⟩) (by assumption) ?_
        · intro w hSw; (try dsimp only at hSw); go_simp
        simp only [Act.put, List.setIfInBounds_toArray, List.set_cons_zero, List.set_cons_succ]
        refine wpAnyH_take (i := 1) (oi := ⟨some 17, _, _, _, _, _⟩) (v := .int .i64 (i : Int)) rfl (by kernel_rfl) (by kernel_rfl) (by kernel_rfl) (fun _ _ _ h => h) (Or.inl ⟨by rfl, ?_⟩) (by assumption) ?_
        · intro w hSw; (try dsimp only at hSw); go_simp
        simp only [Act.put, List.setIfInBounds_toArray, List.set_cons_zero, List.set_cons_succ]
        refine wpAnyH_take (i := 2) (oi := ⟨some 18, _, _, _, _, _⟩) (v := .pointer (some ⟨b1, o1 + i * 2, none⟩)) rfl (by kernel_rfl) (by kernel_rfl) (by kernel_rfl) (fun _ _ _ h => h) (Or.inl ⟨by rfl, ?_⟩) (by assumption) ?_
        · intro w hSw; (try dsimp only at hSw); go_simp
        simp only [Act.put, List.setIfInBounds_toArray, List.set_cons_zero, List.set_cons_succ]
        refine wpAnyH_take (i := 3) (oi := ⟨some 19, _, _, _, _, _⟩) (v := .agg #[.string x.n, .bool x.s]) rfl (by kernel_rfl) (by kernel_rfl) (by kernel_rfl) (fun _ _ _ h => h) (Or.inl ⟨by rfl, ?_⟩) (by assumption) ?_
        · intro w hSw; (try dsimp only at hSw); obtain ⟨⟨q0, q1⟩, q2, q3⟩ := hSw; go_simp
        simp only [Act.put, List.setIfInBounds_toArray, List.set_cons_zero, List.set_cons_succ]
        refine wpAnyH_take (i := 4) (oi := ⟨some 20, _, _, _, _, _⟩) (v := .slice (some ⟨b2, o2, none⟩) m.length d) rfl (by kernel_rfl) (by kernel_rfl) (by kernel_rfl) (fun _ _ _ h => h) (Or.inl ⟨by rfl, ?_⟩) (by assumption) ?_
        · intro w hSw; (try dsimp only at hSw); go_simp
        simp only [Act.put, List.setIfInBounds_toArray, List.set_cons_zero, List.set_cons_succ]
        refine wpAnyH_take (i := 5) (oi := ⟨some 21, _, _, _, _, _⟩) (v := .int .i64 (i : Int)) rfl (by kernel_rfl) (by kernel_rfl) (by kernel_rfl) (fun _ _ _ h => h) (Or.inl ⟨by rfl, ?_⟩) (by assumption) ?_
        · intro w hSw; (try dsimp only at hSw); go_simp
        simp only [Act.put, List.setIfInBounds_toArray, List.set_cons_zero, List.set_cons_succ]
        refine wpAnyH_take (i := 6) (oi := ⟨some 22, _, _, _, _, _⟩) (v := .pointer (some ⟨b2, o2 + i * 2, none⟩)) rfl (by kernel_rfl) (by kernel_rfl) (by kernel_rfl) (fun _ _ _ h => h) (Or.inl ⟨by rfl, ?_⟩) (by assumption) ?_
        · intro w hSw; (try dsimp only at hSw); go_simp
        simp only [Act.put, List.setIfInBounds_toArray, List.set_cons_zero, List.set_cons_succ]
        refine wpAnyH_take (i := 7) (oi := ⟨some 23, _, _, _, _, _⟩) (v := .agg #[.string y.n, .bool y.s]) rfl (by kernel_rfl) (by kernel_rfl) (by kernel_rfl) (fun _ _ _ h => h) (Or.inl ⟨by rfl, ?_⟩) (by assumption) ?_
        · intro w hSw; (try dsimp only at hSw); obtain ⟨⟨q0, q1⟩, q2, q3⟩ := hSw; go_simp
        simp only [Act.put, List.setIfInBounds_toArray, List.set_cons_zero, List.set_cons_succ]
        refine wpAnyH_take (i := 8) (oi := ⟨some 24, _, _, _, _, _⟩) (v := .bool (!Pa.eqb x y)) rfl (by kernel_rfl) (by kernel_rfl) (by kernel_rfl) (fun _ _ _ h => h) (Pa.yields_neq (by rfl) _ _ _ rfl x y rfl rfl) (by assumption) ?_
        simp only [Act.put, List.setIfInBounds_toArray, List.set_cons_zero, List.set_cons_succ]
        refine wpAnyH_done (by kernel_rfl) ?_ _
        rw [hen]
        go_wp2_with fail
        go_roundw
        case rel => exact ⟨i + 1, rfl, by omega, HN.out, bw.drew, M1.out, M2.out⟩
        case measure => simp only [intOf]; omega
      · have hgf : g = false := by
          cases hgc : g
          · rfl
          · exfalso
            have e := HG.out.1 hgc
            subst e
            exact he (Pa.eqb_iff.2 (by rw [HX.out, HY.out]))
        subst hgf
        have hen : (!Pa.eqb x y) = true := by rw [Bool.eq_false_iff.2 he]; rfl
        go_upto_region 6 with (fail)
        refine wp_region_held_drew (S := fun w' => (w'.cell? ⟨b1, o1 + i * 2, none⟩ = some (.string x.n) ∧ w'.cell? ⟨b1, o1 + i * 2 + 1, none⟩ = some (.bool x.s)) ∧ (w'.cell? ⟨b2, o2 + i * 2, none⟩ = some (.string y.n) ∧ w'.cell? ⟨b2, o2 + i * 2 + 1, none⟩ = some (.bool y.s))) (by kernel_rfl) ⟨⟨c0, c1⟩, d0, d1⟩ (fun hHeld => ?_)
        refine wpAnyH_take (i := 0) (oi := ⟨some 16, _, _, _, _, _⟩) (v := .slice (some ⟨b1, o1, none⟩) l.length c) rfl (by kernel_rfl) (by kernel_rfl) (by kernel_rfl) (fun _ _ _ h => h) (Or.inl ⟨by rfl, ?_⟩) (by assumption) ?_
        · intro w hSw; (try dsimp only at hSw); go_simp
        simp only [Act.put, List.setIfInBounds_toArray, List.set_cons_zero, List.set_cons_succ]
        refine wpAnyH_take (i := 1) (oi := ⟨some 17, _, _, _, _, _⟩) (v := .int .i64 (i : Int)) rfl (by kernel_rfl) (by kernel_rfl) (by kernel_rfl) (fun _ _ _ h => h) (Or.inl ⟨by rfl, ?_⟩) (by assumption) ?_
        · intro w hSw; (try dsimp only at hSw); go_simp
        simp only [Act.put, List.setIfInBounds_toArray, List.set_cons_zero, List.set_cons_succ]
        refine wpAnyH_take (i := 2) (oi := ⟨some 18, _, _, _, _, _⟩) (v := .pointer (some ⟨b1, o1 + i * 2, none⟩)) rfl (by kernel_rfl) (by kernel_rfl) (by kernel_rfl) (fun _ _ _ h => h) (Or.inl ⟨by rfl, ?_⟩) (by assumption) ?_
        · intro w hSw; (try dsimp only at hSw); go_simp
        simp only [Act.put, List.setIfInBounds_toArray, List.set_cons_zero, List.set_cons_succ]
        refine wpAnyH_take (i := 3) (oi := ⟨some 19, _, _, _, _, _⟩) (v := .agg #[.string x.n, .bool x.s]) rfl (by kernel_rfl) (by kernel_rfl) (by kernel_rfl) (fun _ _ _ h => h) (Or.inl ⟨by rfl, ?_⟩) (by assumption) ?_
        · intro w hSw; (try dsimp only at hSw); obtain ⟨⟨q0, q1⟩, q2, q3⟩ := hSw; go_simp
        simp only [Act.put, List.setIfInBounds_toArray, List.set_cons_zero, List.set_cons_succ]
        refine wpAnyH_take (i := 4) (oi := ⟨some 20, _, _, _, _, _⟩) (v := .slice (some ⟨b2, o2, none⟩) m.length d) rfl (by kernel_rfl) (by kernel_rfl) (by kernel_rfl) (fun _ _ _ h => h) (Or.inl ⟨by rfl, ?_⟩) (by assumption) ?_
        · intro w hSw; (try dsimp only at hSw); go_simp
        simp only [Act.put, List.setIfInBounds_toArray, List.set_cons_zero, List.set_cons_succ]
        refine wpAnyH_take (i := 5) (oi := ⟨some 21, _, _, _, _, _⟩) (v := .int .i64 (i : Int)) rfl (by kernel_rfl) (by kernel_rfl) (by kernel_rfl) (fun _ _ _ h => h) (Or.inl ⟨by rfl, ?_⟩) (by assumption) ?_
        · intro w hSw; (try dsimp only at hSw); go_simp
        simp only [Act.put, List.setIfInBounds_toArray, List.set_cons_zero, List.set_cons_succ]
        refine wpAnyH_take (i := 6) (oi := ⟨some 22, _, _, _, _, _⟩) (v := .pointer (some ⟨b2, o2 + i * 2, none⟩)) rfl (by kernel_rfl) (by kernel_rfl) (by kernel_rfl) (fun _ _ _ h => h) (Or.inl ⟨by rfl, ?_⟩) (by assumption) ?_
        · intro w hSw; (try dsimp only at hSw); go_simp
        simp only [Act.put, List.setIfInBounds_toArray, List.set_cons_zero, List.set_cons_succ]
        refine wpAnyH_take (i := 7) (oi := ⟨some 23, _, _, _, _, _⟩) (v := .agg #[.string y.n, .bool y.s]) rfl (by kernel_rfl) (by kernel_rfl) (by kernel_rfl) (fun _ _ _ h => h) (Or.inl ⟨by rfl, ?_⟩) (by assumption) ?_
        · intro w hSw; (try dsimp only at hSw); obtain ⟨⟨q0, q1⟩, q2, q3⟩ := hSw; go_simp
        simp only [Act.put, List.setIfInBounds_toArray, List.set_cons_zero, List.set_cons_succ]
        refine wpAnyH_take (i := 8) (oi := ⟨some 24, _, _, _, _, _⟩) (v := .bool (!Pa.eqb x y)) rfl (by kernel_rfl) (by kernel_rfl) (by kernel_rfl) (fun _ _ _ h => h) (Pa.yields_neq (by rfl) _ _ _ rfl x y rfl rfl) (by assumption) ?_
        simp only [Act.put, List.setIfInBounds_toArray, List.set_cons_zero, List.set_cons_succ]
        refine wpAnyH_done (by kernel_rfl) ?_ _
        rw [hen]
        go_wp2_with fail
        go_ret
        exact ⟨by rfl, bw.drew⟩
    · have hii : ¬ (i : Int) < l.length := by omega
      have hiim : ¬ (i : Int) < m.length := by have := HLM.out; omega
      have hgt : g = true := HG.out.2 (Pa.list_eq HLM.out fun j h1 h2 => HA.out j h1 h2 (by omega))
      subst hgt
      go_wp2
      go_ret
      exact ⟨by rfl, bw⟩
set_option maxRecDepth 100000 in
theorem paEqual_zero (w : World) (A C : Option Addr) (c d : Nat) : Calls Try.prog 29 #[.slice A 0 c, .slice C 0 d] w fun e w' => e = .returned (.bool true) ∧ Below w.heap.size w w' := by
  go_enter Try.func29, Try.ntmps29
  go_wp2
  refine wp_loop_rounds 1 ?_
  rw [rounds_succ]
  go_wp2
  go_ret
  exact ⟨rfl, Below.refl _ w⟩
set_option maxRecDepth 100000 in
theorem paEqual_lens (w : World) (A C : Option Addr) (n m c d : Nat) (hn : n ≠ m) : Calls Try.prog 29 #[.slice A n c, .slice C m d] w fun e w' => e = .returned (.bool false) ∧ Below w.heap.size w w' := by
  have h1 : ¬ (n : Int) = (m : Int) := by omega
  have h2 : ((n : Int) == (m : Int)) = false := by rw [beq_eq_false_iff_ne]; exact h1
  clear hn
  go_enter Try.func29, Try.ntmps29
  go_wp2
  go_ret
  exact ⟨rfl, Below.refl _ w⟩
theorem paEqual_any {w : World} {A C : Option Addr} {l m : List Pa.Mo} (c d : Nat) (h1 : Pa.listAt w A l) (h2 : Pa.listAt w C m) (hlb : l.length ≤ 9223372036854775807) (g : Bool) (hg : g = true ↔ l = m) :
    Calls Try.prog 29 #[.slice A l.length c, .slice C m.length d] w fun e w' => e = .returned (.bool g) ∧ Below w.heap.size w w' := by
  by_cases hlm : l.length = m.length
  · rcases h1 with rfl | ⟨b1, o1, rfl, -, m1⟩
    · have hm : m = [] := List.eq_nil_of_length_eq_zero hlm.symm
      subst hm
      have : g = true := hg.2 rfl
      rw [this]
      exact paEqual_zero w A C c d
    · rcases h2 with rfl | ⟨b2, o2, rfl, -, m2⟩
      · have hm : l = [] := List.eq_nil_of_length_eq_zero hlm
        subst hm
        have : g = true := hg.2 rfl
        rw [this]
        exact paEqual_zero w _ C c d
      · exact paEqual_some w b1 o1 c b2 o2 d l m hlm hlb m1 m2 g hg
  · have : g = false := by
      cases hgc : g
      · rfl
      · exact absurd (by rw [hg.1 hgc]) hlm
    rw [this]
    exact paEqual_lens w A C _ _ c d hlm
set_option maxRecDepth 100000 in
theorem paSame_any {w : World} {A C : Option Addr} {l m : List Pa.Mo} (c d : Nat) (h1 : Pa.listAt w A l) (h2 : Pa.listAt w C m) (hlb : l.length ≤ 9223372036854775807) (g : Bool) (hg : g = true ↔ l = m) :
    Calls Try.prog 22 #[.slice A l.length c, .slice C m.length d] w fun e w' => e = .returned (.bool g) ∧ Below w.heap.size w w' := by
  have EQ := Lib.hid (paEqual_any c d h1 h2 hlb g hg)
  clear h1 h2 hg
  go_enter Try.func22, Try.ntmps22
  go_wp2_with (go_at_call 29; refine (EQ.out).mono ?_; rintro e w2 ⟨rfl, b2⟩)
  go_ret
  exact ⟨rfl, b2⟩
end Go.Proofs.Ytmackgocieodjaa
