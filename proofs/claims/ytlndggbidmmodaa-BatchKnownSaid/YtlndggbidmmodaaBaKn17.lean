/-
  The last statement of BatchKnown, in whatever order its operations come up.
-/
import Derived.Test.YtlndggbidmmodaaBaKn16
import Derived.Test.YtlndggbidmmodaaBaEq
import Derived.Deep.MidRow
namespace Go.Proofs.Ytlndggbidmmodaa
open Go.RowKit Pk
namespace Ba
noncomputable def kn17 : Array Oper := ((Try.f10.body.bind (regionOps 17))).getD #[]
def F17 (N q : Nat) (f v : Nat → Value) : Act := { tmps := #[v 46, .pointer (some ⟨N, 0, none⟩), f 2, f 3, f 4, f 5, f 6, f 7, f 8, .pointer (some ⟨q, 0, none⟩), f 10, f 11, f 12, f 13, f 14, f 15, f 16, f 17, f 18, f 19, f 20, f 21, f 22, f 23, f 24, f 25, f 26, f 27, f 28, f 29, f 30, f 31, f 32, f 33, f 34, f 35, f 36, f 37, f 38, f 39, f 40, f 41, f 42, f 43, f 44, f 45, f 46, f 47, f 48, f 49, f 50, f 51, f 52, f 53, f 54, f 55, f 56, f 57, f 58, f 59, f 60, f 61, f 62, f 63, f 64, f 65, f 66, f 67, f 68, f 69, f 70, f 71, f 72, f 73, f 74, f 75, f 76, f 77, f 78, f 79, f 80, f 81, f 82, f 83, f 84, f 85, f 86, f 87, f 88, f 89, f 90, f 91, f 92, f 93, f 94, f 95, f 96, f 97, f 98, f 99, f 100, f 101, f 102, f 103, f 104, f 105, f 106, f 107, f 108, f 109, f 110, f 111, v 0, v 1, v 2, v 3, v 4, v 5, v 6, v 7, v 8, v 9, v 10, v 11, v 12, v 13, v 14, v 15, v 16, v 17, v 18, v 19, v 20, v 21, v 22, v 23, v 24, v 25, v 26, v 27, v 28, v 29, v 30, v 31, v 32, v 33, v 34, v 35, v 36, v 37, v 38, v 39, v 40, v 41, v 42, v 43, v 44, v 45], defers := [] }
def xs17 (q b off c : Nat) : List Value := [.pointer (some ⟨q, 2, none⟩), .slice (some ⟨b, off, none⟩) 1 c, .int .i64 1, .bool true, .bool true, .pointer (some ⟨q, 2, none⟩), .slice (some ⟨b, off, none⟩) 1 c, .pointer (some ⟨b, off, none⟩), .agg #[.int .u8 1, .string ⟨#[97, 112, 112, 47, 97]⟩, .string ⟨#[49]⟩], .agg #[.int .u8 1, .string ⟨#[97, 112, 112, 47, 97]⟩, .string ⟨#[49]⟩], .bool true, .bool true, .bool true, .pointer (some ⟨q, 0, none⟩), .int .i64 3, .bool true, .bool true, .bool true, .agg #[.int .i64 1, .int .i64 1, .slice none 0 0], .int .i64 0, .bool true, .bool true, .bool true, .agg #[.int .i64 0, .int .i64 1, .slice none 0 0], .int .i64 1, .bool true, .bool true, .bool true, .agg #[.int .i64 4611686018427387904, .int .i64 9223372036854775807, .slice none 0 0], .int .i64 0, .bool true, .bool true, .bool true, .agg #[.int .i64 4611686018427387905, .int .i64 1, .slice none 0 0], .int .i64 1, .bool true, .bool true, .bool true, undef, .agg #[.int .i64 3, .int .i64 1, .slice (some ⟨b, off, none⟩) 1 c], .bool false, .bool true, .bool true, .bool true, .bool true, .bool true, .bool true]
def Fact17 (q b off c : Nat) (w : World) (i : Nat) (x : Value) : Prop :=
  if i = 38 then ∃ A, x = .agg #[.int .i64 1, .int .i64 2, .slice A 1 1] ∧ listAt w A one.ops else x = (xs17 q b off c).getD i undef
theorem Fact17.mono {q b off c : Nat} {w w' : World} (h : Below w.heap.size w w') (i : Nat) {x : Value} (g : Fact17 q b off c w i x) : Fact17 q b off c w' i x := by
  unfold Fact17 at *
  split
  · rename_i hi
    rw [if_pos hi] at g
    obtain ⟨A, e, l⟩ := g
    exact ⟨A, e, l.below h⟩
  · rename_i hi
    rw [if_neg hi] at g
    exact g
def In17 (N q b off c : Nat) (w0 w : World) : Prop := Below w0.heap.size w0 w ∧ Kn17 N q b off (some ⟨b, off, none⟩) c w ∧ listAt w (some ⟨b, off, none⟩) [put1]
theorem In17.below {N q b off c : Nat} {w0 w w' : World} (h : In17 N q b off c w0 w) (k : Below w.heap.size w w') : In17 N q b off c w0 w' := ⟨h.1.trans (k.mono h.1.size), h.2.1.below k, h.2.2.below k⟩
theorem size17 : kn17.size = 47 := by kernel_rfl
theorem back17 : (kn17.toList.zipIdx.all fun p => p.1.after.all fun e => e.on < p.2) = true := by kernel_rfl
theorem after17 (j : Nat) (o : Oper) (h : kn17[j]? = some o) : ∀ e ∈ o.after, e.on < j := by
  intro e he
  have h1 := List.all_eq_true.1 back17 (o, j) (by
    rw [List.mk_mem_zipIdx_iff_getElem?]
    simpa using h)
  have := Array.all_eq_true'.1 h1 e he
  simpa using this
def St17 (N q b off c : Nat) (f : Nat → Value) (i : Nat) : Prop := ∀ (v : Nat → Value) (w w0 : World) (o : Oper) (Q : Exit → Act → World → Prop) (K : Act → World → Prop), kn17[i]? = some o → In17 N q b off c w0 w →
  (∀ e ∈ o.after, Region.binds .any e = true → Fact17 q b off c w e.on (v e.on)) →
  (∀ x w', In17 N q b off c w0 w' → Below w.heap.size w w' → Fact17 q b off c w' i x → K (F17 N q f (upd v i x)) w') → wpOp Try.prog kn17 Q i K (F17 N q f v) w
section
variable {N q : Nat} {f v : Nat → Value} {w w' : World} {o : Oper} {Q : Exit → Act → World → Prop} {K : Act → World → Prop} {i : Nat}
theorem run17 {x : Value} (ho : kn17[i]? = some o) (hw : Region.wanted o (yielded kn17 (F17 N q f v).tmps) = true) (hput : (F17 N q f v).put o.dst x = F17 N q f (upd v i x)) (hr : (execOp (F17 N q f v).eval o).run Try.prog w = .ok (.value x) w') (hK : K (F17 N q f (upd v i x)) w') : wpOp Try.prog kn17 Q i K (F17 N q f v) w := by
  unfold wpOp
  simp only [ho]
  rw [if_pos hw]
  refine .inl ?_
  unfold Oper.wp
  rw [hr]
  show K ((F17 N q f v).put o.dst x) w'
  rw [hput]
  exact hK
theorem call17 {fn : FuncId} {args : Array Value} {R : Ending → World → Prop} (ho : kn17[i]? = some o) (hw : Region.wanted o (yielded kn17 (F17 N q f v).tmps) = true) (hput : ∀ x, (F17 N q f v).put o.dst x = F17 N q f (upd v i x)) (hr : (execOp (F17 N q f v).eval o).run Try.prog w = .ok (.enter fn args) w) (hc : Calls Try.prog fn args w R) (hK : ∀ e w', R e w' → ∃ x, e = .returned x ∧ K (F17 N q f (upd v i x)) w') : wpOp Try.prog kn17 Q i K (F17 N q f v) w := by
  unfold wpOp
  simp only [ho]
  rw [if_pos hw]
  refine .inl ?_
  unfold Oper.wp
  rw [hr]
  refine hc.mono fun e w' h => ?_
  obtain ⟨x, rfl, hk⟩ := hK e w' h
  show K ((F17 N q f v).put o.dst x) w'
  rw [hput]
  exact hk
theorem wanted17 {g : Nat} {d : Nat} (hg : o.guard = some (g, true)) (hd : (kn17[g]?).bind (·.dst) = some d) (hx : (F17 N q f v).tmps[d]? = some (.bool true)) : Region.wanted o (yielded kn17 (F17 N q f v).tmps) = true := by
  unfold Region.wanted yielded
  rw [hg]
  simp only [hd, Option.bind_some, hx]
  rfl
theorem eql17 {ρ : Operand → Value} (t2 : TypeId) (p r : Operand) (ho : o.op = .binOp .eql 37 p r t2) (hp : ρ p = .agg #[.int .u8 1, .string ⟨#[97, 112, 112, 47, 97]⟩, .string ⟨#[49]⟩]) (hq : ρ r = .agg #[.int .u8 1, .string ⟨#[97, 112, 112, 47, 97]⟩, .string ⟨#[49]⟩]) : (execOp ρ o).run Try.prog w = .ok (.value (.bool true)) w := by
  have he := eq_op put1 put1 w
  rw [eqb_iff.2 rfl] at he
  have he' : (Go.Op.equalIn 10000 37 (.agg #[.int .u8 1, .string ⟨#[97, 112, 112, 47, 97]⟩, .string ⟨#[49]⟩]) (.agg #[.int .u8 1, .string ⟨#[97, 112, 112, 47, 97]⟩, .string ⟨#[49]⟩])).run Try.prog w = .ok true w := he
  unfold execOp
  simp only [ho, Sem.run_bind, hp, hq, run_eqGuard_agg w .eql 37 p r _ _ ope_guard, run_eql_struct, he', Result.andThen_ok, Sem.run_pure]
theorem load17 {ρ : Operand → Value} (ty : TypeId) (x : Operand) (ho : o.op = .load ty x) (b o' : Nat) (hx : ρ x = .pointer (some ⟨b, o', none⟩)) (cs : List Value) (d : TypeDesc) (hc : w.rangeAt b o' cs) (hu : Try.prog.underlying ty = some d) (hd : d.isRow = true) (hi : (Try.prog.info? ty).map (·.size) = some cs.length) : (execOp ρ o).run Try.prog w = .ok (.value (.agg cs.toArray)) w := by
  unfold execOp
  simp only [ho, hx, Instr.loadAt, Instr.sureAddr, Sem.run_bind, Sem.run_pure, Result.andThen_ok, run_loadVar_mid w b o' ty cs d hc hu hd hi]
theorem range3 {b o' : Nat} {x y z : Value} (h0 : w.cell? ⟨b, o', none⟩ = some x) (h1 : w.cell? ⟨b, o' + 1, none⟩ = some y) (h2 : w.cell? ⟨b, o' + 2, none⟩ = some z) : w.rangeAt b o' [x, y, z] := by
  intro j u hj
  match j, hj with
  | 0, hj => cases hj; exact h0
  | 1, hj => cases hj; exact h1
  | 2, hj => cases hj; exact h2
  | n + 3, hj => cases hj
end
theorem und_batch : ∃ fs, Try.prog.underlying 31 = some (.struct fs) := ⟨Try.prog.fieldsOf 31, by kernel_rfl⟩
theorem right17 (w : World) (ix ep : Int) (n : Nat) (h1 : -9223372036854775808 ≤ ix ∧ ix ≤ 9223372036854775807) (h2 : -9223372036854775808 ≤ ep ∧ ep ≤ 9223372036854775807) (h : right ⟨ix, ep, []⟩ = n) : Calls Try.prog 22 #[.agg #[.int .i64 ix, .int .i64 ep, .slice none 0 0]] w fun e w' => e = .returned (.int .i64 (n : Nat)) ∧ Below w.heap.size w w' := by
  have := baRight_any (w := w) (A := none) ⟨ix, ep, []⟩ 0 (.inl rfl) ⟨h1, h2, fun o ho => (by cases ho), by simp⟩ (fun o ho => (by cases ho))
  rw [h] at this
  exact this

set_option maxRecDepth 100000 in
theorem s17_0 (N q b off c : Nat) (f : Nat → Value) : St17 N q b off c f 0 := by
  intro v w w0 o Q K ho hin hn hK
  have e : kn17[0]? = some { dst := some 112, op := Op.fieldAddr 31 (Operand.tmp 9) 2, type := 0, pos := "closed.go:39", after := #[], guard := none } := by kernel_rfl
  obtain rfl := Option.some.inj (e.symm.trans ho)
  clear e
  have hw : Region.wanted { dst := some 112, op := Op.fieldAddr 31 (Operand.tmp 9) 2, type := 0, pos := "closed.go:39", after := #[], guard := none } (yielded kn17 (F17 N q f v).tmps) = true := rfl
  refine run17 (x := .pointer (some ⟨q, 2, none⟩)) (w' := w) ho hw (by kernel_rfl) ?_ (hK _ _ hin (Below.refl _ w) rfl)
  obtain ⟨-, ⟨c0, c1, c2⟩, -⟩ := hin.2.1
  have hc : ∀ x, (F17 N q f v).eval (.const x) = x := fun _ => rfl
  have h9' : (F17 N q f v).eval (.tmp 9) = .pointer (some ⟨q, 0, none⟩) := rfl
  clear hn hK hin hw ho 
  generalize (F17 N q f v).eval = ρ at *
  unfold execOp
  go_simp
set_option maxRecDepth 100000 in
theorem s17_1 (N q b off c : Nat) (f : Nat → Value) : St17 N q b off c f 1 := by
  intro v w w0 o Q K ho hin hn hK
  have e : kn17[1]? = some { dst := some 113, op := Op.load 23 (Operand.tmp 112), type := 23, pos := "closed.go:39", after := #[{ on := 0, ground := Ground.data }], guard := none } := by kernel_rfl
  obtain rfl := Option.some.inj (e.symm.trans ho)
  clear e
  have h0 : v 0 = .pointer (some ⟨q, 2, none⟩) := hn ⟨0, .data⟩ (by simp) rfl
  have hw : Region.wanted { dst := some 113, op := Op.load 23 (Operand.tmp 112), type := 23, pos := "closed.go:39", after := #[{ on := 0, ground := Ground.data }], guard := none } (yielded kn17 (F17 N q f v).tmps) = true := rfl
  refine run17 (x := .slice (some ⟨b, off, none⟩) 1 c) (w' := w) ho hw (by kernel_rfl) ?_ (hK _ _ hin (Below.refl _ w) rfl)
  obtain ⟨-, ⟨c0, c1, c2⟩, -⟩ := hin.2.1
  have hc : ∀ x, (F17 N q f v).eval (.const x) = x := fun _ => rfl
  have h9' : (F17 N q f v).eval (.tmp 9) = .pointer (some ⟨q, 0, none⟩) := rfl
  have q0 : (F17 N q f v).eval (.tmp 112) = .pointer (some ⟨q, 2, none⟩) := h0
  clear hn hK hin hw ho h0
  generalize (F17 N q f v).eval = ρ at *
  unfold execOp
  go_simp
set_option maxRecDepth 100000 in
theorem s17_2 (N q b off c : Nat) (f : Nat → Value) : St17 N q b off c f 2 := by
  intro v w w0 o Q K ho hin hn hK
  have e : kn17[2]? = some { dst := some 114, op := Op.call { callee := Callee.builtin Builtin.len, args := #[Operand.tmp 113], argTypes := #[23] }, type := 3, pos := "closed.go:39", after := #[{ on := 1, ground := Ground.data }], guard := none } := by kernel_rfl
  obtain rfl := Option.some.inj (e.symm.trans ho)
  clear e
  have h1 : v 1 = .slice (some ⟨b, off, none⟩) 1 c := hn ⟨1, .data⟩ (by simp) rfl
  have hw : Region.wanted { dst := some 114, op := Op.call { callee := Callee.builtin Builtin.len, args := #[Operand.tmp 113], argTypes := #[23] }, type := 3, pos := "closed.go:39", after := #[{ on := 1, ground := Ground.data }], guard := none } (yielded kn17 (F17 N q f v).tmps) = true := rfl
  refine run17 (x := .int .i64 1) (w' := w) ho hw (by kernel_rfl) ?_ (hK _ _ hin (Below.refl _ w) rfl)
  obtain ⟨-, ⟨c0, c1, c2⟩, -⟩ := hin.2.1
  have hc : ∀ x, (F17 N q f v).eval (.const x) = x := fun _ => rfl
  have h9' : (F17 N q f v).eval (.tmp 9) = .pointer (some ⟨q, 0, none⟩) := rfl
  have q1 : (F17 N q f v).eval (.tmp 113) = .slice (some ⟨b, off, none⟩) 1 c := h1
  clear hn hK hin hw ho h1
  generalize (F17 N q f v).eval = ρ at *
  unfold execOp
  go_simp
set_option maxRecDepth 100000 in
theorem s17_3 (N q b off c : Nat) (f : Nat → Value) : St17 N q b off c f 3 := by
  intro v w w0 o Q K ho hin hn hK
  have e : kn17[3]? = some { dst := some 115, op := Op.binOp BinOp.eql 3 (Operand.tmp 114) (Operand.const (Value.int IntKind.i64 1)) 3, type := 4, pos := "closed.go:39", after := #[{ on := 2, ground := Ground.data }], guard := none } := by kernel_rfl
  obtain rfl := Option.some.inj (e.symm.trans ho)
  clear e
  have h2 : v 2 = .int .i64 1 := hn ⟨2, .data⟩ (by simp) rfl
  have hw : Region.wanted { dst := some 115, op := Op.binOp BinOp.eql 3 (Operand.tmp 114) (Operand.const (Value.int IntKind.i64 1)) 3, type := 4, pos := "closed.go:39", after := #[{ on := 2, ground := Ground.data }], guard := none } (yielded kn17 (F17 N q f v).tmps) = true := rfl
  refine run17 (x := .bool true) (w' := w) ho hw (by kernel_rfl) ?_ (hK _ _ hin (Below.refl _ w) rfl)
  obtain ⟨-, ⟨c0, c1, c2⟩, -⟩ := hin.2.1
  have hc : ∀ x, (F17 N q f v).eval (.const x) = x := fun _ => rfl
  have h9' : (F17 N q f v).eval (.tmp 9) = .pointer (some ⟨q, 0, none⟩) := rfl
  have q2 : (F17 N q f v).eval (.tmp 114) = .int .i64 1 := h2
  clear hn hK hin hw ho h2
  generalize (F17 N q f v).eval = ρ at *
  unfold execOp
  go_simp
set_option maxRecDepth 100000 in
theorem s17_4 (N q b off c : Nat) (f : Nat → Value) : St17 N q b off c f 4 := by
  intro v w w0 o Q K ho hin hn hK
  have e : kn17[4]? = some { dst := some 116, op := Op.move (Operand.tmp 115), type := 4, pos := "closed.go:39", after := #[{ on := 3, ground := Ground.data }], guard := none } := by kernel_rfl
  obtain rfl := Option.some.inj (e.symm.trans ho)
  clear e
  have h3 : v 3 = .bool true := hn ⟨3, .data⟩ (by simp) rfl
  have hw : Region.wanted { dst := some 116, op := Op.move (Operand.tmp 115), type := 4, pos := "closed.go:39", after := #[{ on := 3, ground := Ground.data }], guard := none } (yielded kn17 (F17 N q f v).tmps) = true := rfl
  exact run17 (x := v 3) (w' := w) ho hw (by kernel_rfl) rfl (hK _ _ hin (Below.refl _ w) h3)
set_option maxRecDepth 100000 in
theorem s17_5 (N q b off c : Nat) (f : Nat → Value) : St17 N q b off c f 5 := by
  intro v w w0 o Q K ho hin hn hK
  have e : kn17[5]? = some { dst := some 117, op := Op.fieldAddr 31 (Operand.tmp 9) 2, type := 0, pos := "closed.go:39", after := #[{ on := 4, ground := Ground.guard }], guard := some (4, true) } := by kernel_rfl
  obtain rfl := Option.some.inj (e.symm.trans ho)
  clear e
  have h4 : v 4 = .bool true := hn ⟨4, .guard⟩ (by simp) rfl
  have hw : Region.wanted { dst := some 117, op := Op.fieldAddr 31 (Operand.tmp 9) 2, type := 0, pos := "closed.go:39", after := #[{ on := 4, ground := Ground.guard }], guard := some (4, true) } (yielded kn17 (F17 N q f v).tmps) = true := wanted17 (g := 4) (d := 116) rfl (by kernel_rfl) (by show some (v 4) = _; rw [h4])
  refine run17 (x := .pointer (some ⟨q, 2, none⟩)) (w' := w) ho hw (by kernel_rfl) ?_ (hK _ _ hin (Below.refl _ w) rfl)
  obtain ⟨-, ⟨c0, c1, c2⟩, -⟩ := hin.2.1
  have hc : ∀ x, (F17 N q f v).eval (.const x) = x := fun _ => rfl
  have h9' : (F17 N q f v).eval (.tmp 9) = .pointer (some ⟨q, 0, none⟩) := rfl
  clear hn hK hin hw ho h4
  generalize (F17 N q f v).eval = ρ at *
  unfold execOp
  go_simp
set_option maxRecDepth 100000 in
theorem s17_6 (N q b off c : Nat) (f : Nat → Value) : St17 N q b off c f 6 := by
  intro v w w0 o Q K ho hin hn hK
  have e : kn17[6]? = some { dst := some 118, op := Op.load 23 (Operand.tmp 117), type := 23, pos := "closed.go:39", after := #[{ on := 5, ground := Ground.data }, { on := 4, ground := Ground.guard }], guard := some (4, true) } := by kernel_rfl
  obtain rfl := Option.some.inj (e.symm.trans ho)
  clear e
  have h5 : v 5 = .pointer (some ⟨q, 2, none⟩) := hn ⟨5, .data⟩ (by simp) rfl
  have h4 : v 4 = .bool true := hn ⟨4, .guard⟩ (by simp) rfl
  have hw : Region.wanted { dst := some 118, op := Op.load 23 (Operand.tmp 117), type := 23, pos := "closed.go:39", after := #[{ on := 5, ground := Ground.data }, { on := 4, ground := Ground.guard }], guard := some (4, true) } (yielded kn17 (F17 N q f v).tmps) = true := wanted17 (g := 4) (d := 116) rfl (by kernel_rfl) (by show some (v 4) = _; rw [h4])
  refine run17 (x := .slice (some ⟨b, off, none⟩) 1 c) (w' := w) ho hw (by kernel_rfl) ?_ (hK _ _ hin (Below.refl _ w) rfl)
  obtain ⟨-, ⟨c0, c1, c2⟩, -⟩ := hin.2.1
  have hc : ∀ x, (F17 N q f v).eval (.const x) = x := fun _ => rfl
  have h9' : (F17 N q f v).eval (.tmp 9) = .pointer (some ⟨q, 0, none⟩) := rfl
  have q5 : (F17 N q f v).eval (.tmp 117) = .pointer (some ⟨q, 2, none⟩) := h5
  clear hn hK hin hw ho h5 h4
  generalize (F17 N q f v).eval = ρ at *
  unfold execOp
  go_simp
set_option maxRecDepth 100000 in
theorem s17_7 (N q b off c : Nat) (f : Nat → Value) : St17 N q b off c f 7 := by
  intro v w w0 o Q K ho hin hn hK
  have e : kn17[7]? = some { dst := some 119, op := Op.indexAddr 23 (Operand.tmp 118) (Operand.const (Value.int IntKind.i64 0)), type := 0, pos := "closed.go:39", after := #[{ on := 6, ground := Ground.data }, { on := 4, ground := Ground.guard }], guard := some (4, true) } := by kernel_rfl
  obtain rfl := Option.some.inj (e.symm.trans ho)
  clear e
  have h6 : v 6 = .slice (some ⟨b, off, none⟩) 1 c := hn ⟨6, .data⟩ (by simp) rfl
  have h4 : v 4 = .bool true := hn ⟨4, .guard⟩ (by simp) rfl
  have hw : Region.wanted { dst := some 119, op := Op.indexAddr 23 (Operand.tmp 118) (Operand.const (Value.int IntKind.i64 0)), type := 0, pos := "closed.go:39", after := #[{ on := 6, ground := Ground.data }, { on := 4, ground := Ground.guard }], guard := some (4, true) } (yielded kn17 (F17 N q f v).tmps) = true := wanted17 (g := 4) (d := 116) rfl (by kernel_rfl) (by show some (v 4) = _; rw [h4])
  refine run17 (x := .pointer (some ⟨b, off, none⟩)) (w' := w) ho hw (by kernel_rfl) ?_ (hK _ _ hin (Below.refl _ w) rfl)
  obtain ⟨-, ⟨c0, c1, c2⟩, -⟩ := hin.2.1
  have hc : ∀ x, (F17 N q f v).eval (.const x) = x := fun _ => rfl
  have h9' : (F17 N q f v).eval (.tmp 9) = .pointer (some ⟨q, 0, none⟩) := rfl
  have q6 : (F17 N q f v).eval (.tmp 118) = .slice (some ⟨b, off, none⟩) 1 c := h6
  clear hn hK hin hw ho h6 h4
  generalize (F17 N q f v).eval = ρ at *
  unfold execOp
  go_simp
set_option maxRecDepth 100000 in
theorem s17_8 (N q b off c : Nat) (f : Nat → Value) : St17 N q b off c f 8 := by
  intro v w w0 o Q K ho hin hn hK
  have e : kn17[8]? = some { dst := some 120, op := Op.load 37 (Operand.tmp 119), type := 37, pos := "closed.go:39", after := #[{ on := 7, ground := Ground.data }, { on := 4, ground := Ground.guard }], guard := some (4, true) } := by kernel_rfl
  obtain rfl := Option.some.inj (e.symm.trans ho)
  clear e
  have h7 : v 7 = .pointer (some ⟨b, off, none⟩) := hn ⟨7, .data⟩ (by simp) rfl
  have h4 : v 4 = .bool true := hn ⟨4, .guard⟩ (by simp) rfl
  have hw : Region.wanted { dst := some 120, op := Op.load 37 (Operand.tmp 119), type := 37, pos := "closed.go:39", after := #[{ on := 7, ground := Ground.data }, { on := 4, ground := Ground.guard }], guard := some (4, true) } (yielded kn17 (F17 N q f v).tmps) = true := wanted17 (g := 4) (d := 116) rfl (by kernel_rfl) (by show some (v 4) = _; rw [h4])
  obtain ⟨fs, hu⟩ := und_op
  obtain ⟨-, -, c0, c1, c2⟩ := hin.2.1
  exact run17 (x := .agg #[.int .u8 1, .string ⟨#[97, 112, 112, 47, 97]⟩, .string ⟨#[49]⟩]) (w' := w) ho hw (by kernel_rfl) (load17 _ _ rfl b off (h7 : v 7 = _) _ _ (range3 c0 c1 c2) hu rfl (by kernel_rfl)) (hK _ _ hin (Below.refl _ w) rfl)
set_option maxRecDepth 100000 in
theorem s17_9 (N q b off c : Nat) (f : Nat → Value) : St17 N q b off c f 9 := by
  intro v w w0 o Q K ho hin hn hK
  have e : kn17[9]? = some { dst := some 121, op := Op.load 37 (Operand.tmp 1), type := 37, pos := "closed.go:39", after := #[{ on := 4, ground := Ground.guard }], guard := some (4, true) } := by kernel_rfl
  obtain rfl := Option.some.inj (e.symm.trans ho)
  clear e
  have h4 : v 4 = .bool true := hn ⟨4, .guard⟩ (by simp) rfl
  have hw : Region.wanted { dst := some 121, op := Op.load 37 (Operand.tmp 1), type := 37, pos := "closed.go:39", after := #[{ on := 4, ground := Ground.guard }], guard := some (4, true) } (yielded kn17 (F17 N q f v).tmps) = true := wanted17 (g := 4) (d := 116) rfl (by kernel_rfl) (by show some (v 4) = _; rw [h4])
  obtain ⟨fs, hu⟩ := und_op
  obtain ⟨⟨c0, c1, c2⟩, -⟩ := hin.2.1
  exact run17 (x := .agg #[.int .u8 1, .string ⟨#[97, 112, 112, 47, 97]⟩, .string ⟨#[49]⟩]) (w' := w) ho hw (by kernel_rfl) (load17 _ _ rfl N 0 rfl _ _ (range3 c0 c1 c2) hu rfl (by kernel_rfl)) (hK _ _ hin (Below.refl _ w) rfl)
set_option maxRecDepth 100000 in
theorem s17_10 (N q b off c : Nat) (f : Nat → Value) : St17 N q b off c f 10 := by
  intro v w w0 o Q K ho hin hn hK
  have e : kn17[10]? = some { dst := some 122, op := Op.binOp BinOp.eql 37 (Operand.tmp 120) (Operand.tmp 121) 37, type := 4, pos := "closed.go:39", after := #[{ on := 8, ground := Ground.data }, { on := 9, ground := Ground.data }, { on := 4, ground := Ground.guard }], guard := some (4, true) } := by kernel_rfl
  obtain rfl := Option.some.inj (e.symm.trans ho)
  clear e
  have h8 : v 8 = .agg #[.int .u8 1, .string ⟨#[97, 112, 112, 47, 97]⟩, .string ⟨#[49]⟩] := hn ⟨8, .data⟩ (by simp) rfl
  have h9 : v 9 = .agg #[.int .u8 1, .string ⟨#[97, 112, 112, 47, 97]⟩, .string ⟨#[49]⟩] := hn ⟨9, .data⟩ (by simp) rfl
  have h4 : v 4 = .bool true := hn ⟨4, .guard⟩ (by simp) rfl
  have hw : Region.wanted { dst := some 122, op := Op.binOp BinOp.eql 37 (Operand.tmp 120) (Operand.tmp 121) 37, type := 4, pos := "closed.go:39", after := #[{ on := 8, ground := Ground.data }, { on := 9, ground := Ground.data }, { on := 4, ground := Ground.guard }], guard := some (4, true) } (yielded kn17 (F17 N q f v).tmps) = true := wanted17 (g := 4) (d := 116) rfl (by kernel_rfl) (by show some (v 4) = _; rw [h4])
  exact run17 (x := .bool true) (w' := w) ho hw (by kernel_rfl) (eql17 _ _ _ rfl (h8 : v 8 = _) (h9 : v 9 = _)) (hK _ _ hin (Below.refl _ w) rfl)
set_option maxRecDepth 100000 in
theorem s17_11 (N q b off c : Nat) (f : Nat → Value) : St17 N q b off c f 11 := by
  intro v w w0 o Q K ho hin hn hK
  have e : kn17[11]? = some { dst := some 123, op := Op.pick (Operand.tmp 116) (Operand.tmp 122) (Operand.const (Value.bool false)), type := 4, pos := "closed.go:39", after := #[{ on := 4, ground := Ground.data }, { on := 10, ground := Ground.data }], guard := none } := by kernel_rfl
  obtain rfl := Option.some.inj (e.symm.trans ho)
  clear e
  have h4 : v 4 = .bool true := hn ⟨4, .data⟩ (by simp) rfl
  have h10 : v 10 = .bool true := hn ⟨10, .data⟩ (by simp) rfl
  have hw : Region.wanted { dst := some 123, op := Op.pick (Operand.tmp 116) (Operand.tmp 122) (Operand.const (Value.bool false)), type := 4, pos := "closed.go:39", after := #[{ on := 4, ground := Ground.data }, { on := 10, ground := Ground.data }], guard := none } (yielded kn17 (F17 N q f v).tmps) = true := rfl
  refine run17 (x := .bool true) (w' := w) ho hw (by kernel_rfl) ?_ (hK _ _ hin (Below.refl _ w) rfl)
  obtain ⟨-, ⟨c0, c1, c2⟩, -⟩ := hin.2.1
  have hc : ∀ x, (F17 N q f v).eval (.const x) = x := fun _ => rfl
  have h9' : (F17 N q f v).eval (.tmp 9) = .pointer (some ⟨q, 0, none⟩) := rfl
  have q4 : (F17 N q f v).eval (.tmp 116) = .bool true := h4
  have q10 : (F17 N q f v).eval (.tmp 122) = .bool true := h10
  clear hn hK hin hw ho h4 h10
  generalize (F17 N q f v).eval = ρ at *
  unfold execOp
  go_simp
set_option maxRecDepth 100000 in
theorem s17_12 (N q b off c : Nat) (f : Nat → Value) : St17 N q b off c f 12 := by
  intro v w w0 o Q K ho hin hn hK
  have e : kn17[12]? = some { dst := some 124, op := Op.move (Operand.tmp 123), type := 4, pos := "closed.go:39", after := #[{ on := 11, ground := Ground.data }, { on := 4, ground := Ground.chain }], guard := none } := by kernel_rfl
  obtain rfl := Option.some.inj (e.symm.trans ho)
  clear e
  have h11 : v 11 = .bool true := hn ⟨11, .data⟩ (by simp) rfl
  have hw : Region.wanted { dst := some 124, op := Op.move (Operand.tmp 123), type := 4, pos := "closed.go:39", after := #[{ on := 11, ground := Ground.data }, { on := 4, ground := Ground.chain }], guard := none } (yielded kn17 (F17 N q f v).tmps) = true := rfl
  exact run17 (x := v 11) (w' := w) ho hw (by kernel_rfl) rfl (hK _ _ hin (Below.refl _ w) h11)
set_option maxRecDepth 100000 in
theorem s17_13 (N q b off c : Nat) (f : Nat → Value) : St17 N q b off c f 13 := by
  intro v w w0 o Q K ho hin hn hK
  have e : kn17[13]? = some { dst := some 125, op := Op.fieldAddr 31 (Operand.tmp 9) 0, type := 0, pos := "closed.go:39", after := #[{ on := 12, ground := Ground.guard }], guard := some (12, true) } := by kernel_rfl
  obtain rfl := Option.some.inj (e.symm.trans ho)
  clear e
  have h12 : v 12 = .bool true := hn ⟨12, .guard⟩ (by simp) rfl
  have hw : Region.wanted { dst := some 125, op := Op.fieldAddr 31 (Operand.tmp 9) 0, type := 0, pos := "closed.go:39", after := #[{ on := 12, ground := Ground.guard }], guard := some (12, true) } (yielded kn17 (F17 N q f v).tmps) = true := wanted17 (g := 12) (d := 124) rfl (by kernel_rfl) (by show some (v 12) = _; rw [h12])
  refine run17 (x := .pointer (some ⟨q, 0, none⟩)) (w' := w) ho hw (by kernel_rfl) ?_ (hK _ _ hin (Below.refl _ w) rfl)
  obtain ⟨-, ⟨c0, c1, c2⟩, -⟩ := hin.2.1
  have hc : ∀ x, (F17 N q f v).eval (.const x) = x := fun _ => rfl
  have h9' : (F17 N q f v).eval (.tmp 9) = .pointer (some ⟨q, 0, none⟩) := rfl
  clear hn hK hin hw ho h12
  generalize (F17 N q f v).eval = ρ at *
  unfold execOp
  go_simp
set_option maxRecDepth 100000 in
theorem s17_14 (N q b off c : Nat) (f : Nat → Value) : St17 N q b off c f 14 := by
  intro v w w0 o Q K ho hin hn hK
  have e : kn17[14]? = some { dst := some 126, op := Op.load 3 (Operand.tmp 125), type := 3, pos := "closed.go:39", after := #[{ on := 13, ground := Ground.data }, { on := 12, ground := Ground.guard }], guard := some (12, true) } := by kernel_rfl
  obtain rfl := Option.some.inj (e.symm.trans ho)
  clear e
  have h13 : v 13 = .pointer (some ⟨q, 0, none⟩) := hn ⟨13, .data⟩ (by simp) rfl
  have h12 : v 12 = .bool true := hn ⟨12, .guard⟩ (by simp) rfl
  have hw : Region.wanted { dst := some 126, op := Op.load 3 (Operand.tmp 125), type := 3, pos := "closed.go:39", after := #[{ on := 13, ground := Ground.data }, { on := 12, ground := Ground.guard }], guard := some (12, true) } (yielded kn17 (F17 N q f v).tmps) = true := wanted17 (g := 12) (d := 124) rfl (by kernel_rfl) (by show some (v 12) = _; rw [h12])
  refine run17 (x := .int .i64 3) (w' := w) ho hw (by kernel_rfl) ?_ (hK _ _ hin (Below.refl _ w) rfl)
  obtain ⟨-, ⟨c0, c1, c2⟩, -⟩ := hin.2.1
  have hc : ∀ x, (F17 N q f v).eval (.const x) = x := fun _ => rfl
  have h9' : (F17 N q f v).eval (.tmp 9) = .pointer (some ⟨q, 0, none⟩) := rfl
  have q13 : (F17 N q f v).eval (.tmp 125) = .pointer (some ⟨q, 0, none⟩) := h13
  clear hn hK hin hw ho h13 h12
  generalize (F17 N q f v).eval = ρ at *
  unfold execOp
  go_simp
set_option maxRecDepth 100000 in
theorem s17_15 (N q b off c : Nat) (f : Nat → Value) : St17 N q b off c f 15 := by
  intro v w w0 o Q K ho hin hn hK
  have e : kn17[15]? = some { dst := some 127, op := Op.binOp BinOp.eql 3 (Operand.tmp 126) (Operand.const (Value.int IntKind.i64 3)) 3, type := 4, pos := "closed.go:39", after := #[{ on := 14, ground := Ground.data }, { on := 12, ground := Ground.guard }], guard := some (12, true) } := by kernel_rfl
  obtain rfl := Option.some.inj (e.symm.trans ho)
  clear e
  have h14 : v 14 = .int .i64 3 := hn ⟨14, .data⟩ (by simp) rfl
  have h12 : v 12 = .bool true := hn ⟨12, .guard⟩ (by simp) rfl
  have hw : Region.wanted { dst := some 127, op := Op.binOp BinOp.eql 3 (Operand.tmp 126) (Operand.const (Value.int IntKind.i64 3)) 3, type := 4, pos := "closed.go:39", after := #[{ on := 14, ground := Ground.data }, { on := 12, ground := Ground.guard }], guard := some (12, true) } (yielded kn17 (F17 N q f v).tmps) = true := wanted17 (g := 12) (d := 124) rfl (by kernel_rfl) (by show some (v 12) = _; rw [h12])
  refine run17 (x := .bool true) (w' := w) ho hw (by kernel_rfl) ?_ (hK _ _ hin (Below.refl _ w) rfl)
  obtain ⟨-, ⟨c0, c1, c2⟩, -⟩ := hin.2.1
  have hc : ∀ x, (F17 N q f v).eval (.const x) = x := fun _ => rfl
  have h9' : (F17 N q f v).eval (.tmp 9) = .pointer (some ⟨q, 0, none⟩) := rfl
  have q14 : (F17 N q f v).eval (.tmp 126) = .int .i64 3 := h14
  clear hn hK hin hw ho h14 h12
  generalize (F17 N q f v).eval = ρ at *
  unfold execOp
  go_simp
set_option maxRecDepth 100000 in
theorem s17_16 (N q b off c : Nat) (f : Nat → Value) : St17 N q b off c f 16 := by
  intro v w w0 o Q K ho hin hn hK
  have e : kn17[16]? = some { dst := some 128, op := Op.pick (Operand.tmp 124) (Operand.tmp 127) (Operand.const (Value.bool false)), type := 4, pos := "closed.go:39", after := #[{ on := 12, ground := Ground.data }, { on := 15, ground := Ground.data }], guard := none } := by kernel_rfl
  obtain rfl := Option.some.inj (e.symm.trans ho)
  clear e
  have h12 : v 12 = .bool true := hn ⟨12, .data⟩ (by simp) rfl
  have h15 : v 15 = .bool true := hn ⟨15, .data⟩ (by simp) rfl
  have hw : Region.wanted { dst := some 128, op := Op.pick (Operand.tmp 124) (Operand.tmp 127) (Operand.const (Value.bool false)), type := 4, pos := "closed.go:39", after := #[{ on := 12, ground := Ground.data }, { on := 15, ground := Ground.data }], guard := none } (yielded kn17 (F17 N q f v).tmps) = true := rfl
  refine run17 (x := .bool true) (w' := w) ho hw (by kernel_rfl) ?_ (hK _ _ hin (Below.refl _ w) rfl)
  obtain ⟨-, ⟨c0, c1, c2⟩, -⟩ := hin.2.1
  have hc : ∀ x, (F17 N q f v).eval (.const x) = x := fun _ => rfl
  have h9' : (F17 N q f v).eval (.tmp 9) = .pointer (some ⟨q, 0, none⟩) := rfl
  have q12 : (F17 N q f v).eval (.tmp 124) = .bool true := h12
  have q15 : (F17 N q f v).eval (.tmp 127) = .bool true := h15
  clear hn hK hin hw ho h12 h15
  generalize (F17 N q f v).eval = ρ at *
  unfold execOp
  go_simp
set_option maxRecDepth 100000 in
theorem s17_17 (N q b off c : Nat) (f : Nat → Value) : St17 N q b off c f 17 := by
  intro v w w0 o Q K ho hin hn hK
  have e : kn17[17]? = some { dst := some 129, op := Op.move (Operand.tmp 128), type := 4, pos := "closed.go:39", after := #[{ on := 16, ground := Ground.data }, { on := 12, ground := Ground.chain }], guard := none } := by kernel_rfl
  obtain rfl := Option.some.inj (e.symm.trans ho)
  clear e
  have h16 : v 16 = .bool true := hn ⟨16, .data⟩ (by simp) rfl
  have hw : Region.wanted { dst := some 129, op := Op.move (Operand.tmp 128), type := 4, pos := "closed.go:39", after := #[{ on := 16, ground := Ground.data }, { on := 12, ground := Ground.chain }], guard := none } (yielded kn17 (F17 N q f v).tmps) = true := rfl
  exact run17 (x := v 16) (w' := w) ho hw (by kernel_rfl) rfl (hK _ _ hin (Below.refl _ w) h16)
set_option maxRecDepth 100000 in
theorem s17_18 (N q b off c : Nat) (f : Nat → Value) : St17 N q b off c f 18 := by
  intro v w w0 o Q K ho hin hn hK
  have e : kn17[18]? = some { dst := some 130, op := Op.build 31 #[(0, Operand.const (Value.int IntKind.i64 1)), (1, Operand.const (Value.int IntKind.i64 1))], type := 31, pos := "closed.go:39", after := #[{ on := 17, ground := Ground.guard }], guard := some (17, true) } := by kernel_rfl
  obtain rfl := Option.some.inj (e.symm.trans ho)
  clear e
  have h17 : v 17 = .bool true := hn ⟨17, .guard⟩ (by simp) rfl
  have hw : Region.wanted { dst := some 130, op := Op.build 31 #[(0, Operand.const (Value.int IntKind.i64 1)), (1, Operand.const (Value.int IntKind.i64 1))], type := 31, pos := "closed.go:39", after := #[{ on := 17, ground := Ground.guard }], guard := some (17, true) } (yielded kn17 (F17 N q f v).tmps) = true := wanted17 (g := 17) (d := 129) rfl (by kernel_rfl) (by show some (v 17) = _; rw [h17])
  exact run17 (x := .agg #[.int .i64 1, .int .i64 1, .slice none 0 0]) (w' := w) ho hw (by kernel_rfl) (run_bd 31 _ rfl [(0, .int .i64 1), (1, .int .i64 1)] rfl _ (by kernel_rfl)) (hK _ _ hin (Below.refl _ w) rfl)
set_option maxRecDepth 100000 in
theorem s17_19 (N q b off c : Nat) (f : Nat → Value) : St17 N q b off c f 19 := by
  intro v w w0 o Q K ho hin hn hK
  have e : kn17[19]? = some { dst := some 131, op := Op.call { callee := Callee.value (Operand.func 22), args := #[Operand.tmp 130], argTypes := #[31] }, type := 27, pos := "closed.go:39", after := #[{ on := 18, ground := Ground.data }, { on := 17, ground := Ground.chain }, { on := 17, ground := Ground.guard }], guard := some (17, true) } := by kernel_rfl
  obtain rfl := Option.some.inj (e.symm.trans ho)
  clear e
  have h18 : v 18 = .agg #[.int .i64 1, .int .i64 1, .slice none 0 0] := hn ⟨18, .data⟩ (by simp) rfl
  have h17 : v 17 = .bool true := hn ⟨17, .chain⟩ (by simp) rfl
  have hw : Region.wanted { dst := some 131, op := Op.call { callee := Callee.value (Operand.func 22), args := #[Operand.tmp 130], argTypes := #[31] }, type := 27, pos := "closed.go:39", after := #[{ on := 18, ground := Ground.data }, { on := 17, ground := Ground.chain }, { on := 17, ground := Ground.guard }], guard := some (17, true) } (yielded kn17 (F17 N q f v).tmps) = true := wanted17 (g := 17) (d := 129) rfl (by kernel_rfl) (by show some (v 17) = _; rw [h17])
  refine call17 (fn := 22) (args := #[.agg #[.int .i64 1, .int .i64 1, .slice none 0 0]]) ho hw (fun x => by kernel_rfl) (by rw [← h18]; kernel_rfl) (right17 w 1 1 0 (by omega) (by omega) (by decide)) ?_
  rintro e w' ⟨rfl, k⟩
  exact ⟨_, rfl, hK _ _ (hin.below k) k rfl⟩
set_option maxRecDepth 100000 in
theorem s17_20 (N q b off c : Nat) (f : Nat → Value) : St17 N q b off c f 20 := by
  intro v w w0 o Q K ho hin hn hK
  have e : kn17[20]? = some { dst := some 132, op := Op.binOp BinOp.eql 27 (Operand.tmp 131) (Operand.const (Value.int IntKind.i64 0)) 27, type := 4, pos := "closed.go:39", after := #[{ on := 19, ground := Ground.data }, { on := 17, ground := Ground.guard }], guard := some (17, true) } := by kernel_rfl
  obtain rfl := Option.some.inj (e.symm.trans ho)
  clear e
  have h19 : v 19 = .int .i64 0 := hn ⟨19, .data⟩ (by simp) rfl
  have h17 : v 17 = .bool true := hn ⟨17, .guard⟩ (by simp) rfl
  have hw : Region.wanted { dst := some 132, op := Op.binOp BinOp.eql 27 (Operand.tmp 131) (Operand.const (Value.int IntKind.i64 0)) 27, type := 4, pos := "closed.go:39", after := #[{ on := 19, ground := Ground.data }, { on := 17, ground := Ground.guard }], guard := some (17, true) } (yielded kn17 (F17 N q f v).tmps) = true := wanted17 (g := 17) (d := 129) rfl (by kernel_rfl) (by show some (v 17) = _; rw [h17])
  refine run17 (x := .bool true) (w' := w) ho hw (by kernel_rfl) ?_ (hK _ _ hin (Below.refl _ w) rfl)
  obtain ⟨-, ⟨c0, c1, c2⟩, -⟩ := hin.2.1
  have hc : ∀ x, (F17 N q f v).eval (.const x) = x := fun _ => rfl
  have h9' : (F17 N q f v).eval (.tmp 9) = .pointer (some ⟨q, 0, none⟩) := rfl
  have q19 : (F17 N q f v).eval (.tmp 131) = .int .i64 0 := h19
  clear hn hK hin hw ho h19 h17
  generalize (F17 N q f v).eval = ρ at *
  unfold execOp
  go_simp
set_option maxRecDepth 100000 in
theorem s17_21 (N q b off c : Nat) (f : Nat → Value) : St17 N q b off c f 21 := by
  intro v w w0 o Q K ho hin hn hK
  have e : kn17[21]? = some { dst := some 133, op := Op.pick (Operand.tmp 129) (Operand.tmp 132) (Operand.const (Value.bool false)), type := 4, pos := "closed.go:39", after := #[{ on := 17, ground := Ground.data }, { on := 20, ground := Ground.data }], guard := none } := by kernel_rfl
  obtain rfl := Option.some.inj (e.symm.trans ho)
  clear e
  have h17 : v 17 = .bool true := hn ⟨17, .data⟩ (by simp) rfl
  have h20 : v 20 = .bool true := hn ⟨20, .data⟩ (by simp) rfl
  have hw : Region.wanted { dst := some 133, op := Op.pick (Operand.tmp 129) (Operand.tmp 132) (Operand.const (Value.bool false)), type := 4, pos := "closed.go:39", after := #[{ on := 17, ground := Ground.data }, { on := 20, ground := Ground.data }], guard := none } (yielded kn17 (F17 N q f v).tmps) = true := rfl
  refine run17 (x := .bool true) (w' := w) ho hw (by kernel_rfl) ?_ (hK _ _ hin (Below.refl _ w) rfl)
  obtain ⟨-, ⟨c0, c1, c2⟩, -⟩ := hin.2.1
  have hc : ∀ x, (F17 N q f v).eval (.const x) = x := fun _ => rfl
  have h9' : (F17 N q f v).eval (.tmp 9) = .pointer (some ⟨q, 0, none⟩) := rfl
  have q17 : (F17 N q f v).eval (.tmp 129) = .bool true := h17
  have q20 : (F17 N q f v).eval (.tmp 132) = .bool true := h20
  clear hn hK hin hw ho h17 h20
  generalize (F17 N q f v).eval = ρ at *
  unfold execOp
  go_simp
set_option maxRecDepth 100000 in
theorem s17_22 (N q b off c : Nat) (f : Nat → Value) : St17 N q b off c f 22 := by
  intro v w w0 o Q K ho hin hn hK
  have e : kn17[22]? = some { dst := some 134, op := Op.move (Operand.tmp 133), type := 4, pos := "closed.go:39", after := #[{ on := 21, ground := Ground.data }, { on := 19, ground := Ground.chain }], guard := none } := by kernel_rfl
  obtain rfl := Option.some.inj (e.symm.trans ho)
  clear e
  have h21 : v 21 = .bool true := hn ⟨21, .data⟩ (by simp) rfl
  have hw : Region.wanted { dst := some 134, op := Op.move (Operand.tmp 133), type := 4, pos := "closed.go:39", after := #[{ on := 21, ground := Ground.data }, { on := 19, ground := Ground.chain }], guard := none } (yielded kn17 (F17 N q f v).tmps) = true := rfl
  exact run17 (x := v 21) (w' := w) ho hw (by kernel_rfl) rfl (hK _ _ hin (Below.refl _ w) h21)
set_option maxRecDepth 100000 in
theorem s17_23 (N q b off c : Nat) (f : Nat → Value) : St17 N q b off c f 23 := by
  intro v w w0 o Q K ho hin hn hK
  have e : kn17[23]? = some { dst := some 135, op := Op.build 31 #[(1, Operand.const (Value.int IntKind.i64 1))], type := 31, pos := "closed.go:39", after := #[{ on := 22, ground := Ground.guard }], guard := some (22, true) } := by kernel_rfl
  obtain rfl := Option.some.inj (e.symm.trans ho)
  clear e
  have h22 : v 22 = .bool true := hn ⟨22, .guard⟩ (by simp) rfl
  have hw : Region.wanted { dst := some 135, op := Op.build 31 #[(1, Operand.const (Value.int IntKind.i64 1))], type := 31, pos := "closed.go:39", after := #[{ on := 22, ground := Ground.guard }], guard := some (22, true) } (yielded kn17 (F17 N q f v).tmps) = true := wanted17 (g := 22) (d := 134) rfl (by kernel_rfl) (by show some (v 22) = _; rw [h22])
  exact run17 (x := .agg #[.int .i64 0, .int .i64 1, .slice none 0 0]) (w' := w) ho hw (by kernel_rfl) (run_bd 31 _ rfl [(1, .int .i64 1)] rfl _ (by kernel_rfl)) (hK _ _ hin (Below.refl _ w) rfl)
set_option maxRecDepth 100000 in
theorem s17_24 (N q b off c : Nat) (f : Nat → Value) : St17 N q b off c f 24 := by
  intro v w w0 o Q K ho hin hn hK
  have e : kn17[24]? = some { dst := some 136, op := Op.call { callee := Callee.value (Operand.func 22), args := #[Operand.tmp 135], argTypes := #[31] }, type := 27, pos := "closed.go:39", after := #[{ on := 23, ground := Ground.data }, { on := 22, ground := Ground.chain }, { on := 22, ground := Ground.guard }], guard := some (22, true) } := by kernel_rfl
  obtain rfl := Option.some.inj (e.symm.trans ho)
  clear e
  have h23 : v 23 = .agg #[.int .i64 0, .int .i64 1, .slice none 0 0] := hn ⟨23, .data⟩ (by simp) rfl
  have h22 : v 22 = .bool true := hn ⟨22, .chain⟩ (by simp) rfl
  have hw : Region.wanted { dst := some 136, op := Op.call { callee := Callee.value (Operand.func 22), args := #[Operand.tmp 135], argTypes := #[31] }, type := 27, pos := "closed.go:39", after := #[{ on := 23, ground := Ground.data }, { on := 22, ground := Ground.chain }, { on := 22, ground := Ground.guard }], guard := some (22, true) } (yielded kn17 (F17 N q f v).tmps) = true := wanted17 (g := 22) (d := 134) rfl (by kernel_rfl) (by show some (v 22) = _; rw [h22])
  refine call17 (fn := 22) (args := #[.agg #[.int .i64 0, .int .i64 1, .slice none 0 0]]) ho hw (fun x => by kernel_rfl) (by rw [← h23]; kernel_rfl) (right17 w 0 1 1 (by omega) (by omega) (by decide)) ?_
  rintro e w' ⟨rfl, k⟩
  exact ⟨_, rfl, hK _ _ (hin.below k) k rfl⟩
set_option maxRecDepth 100000 in
theorem s17_25 (N q b off c : Nat) (f : Nat → Value) : St17 N q b off c f 25 := by
  intro v w w0 o Q K ho hin hn hK
  have e : kn17[25]? = some { dst := some 137, op := Op.binOp BinOp.eql 27 (Operand.tmp 136) (Operand.const (Value.int IntKind.i64 1)) 27, type := 4, pos := "closed.go:39", after := #[{ on := 24, ground := Ground.data }, { on := 22, ground := Ground.guard }], guard := some (22, true) } := by kernel_rfl
  obtain rfl := Option.some.inj (e.symm.trans ho)
  clear e
  have h24 : v 24 = .int .i64 1 := hn ⟨24, .data⟩ (by simp) rfl
  have h22 : v 22 = .bool true := hn ⟨22, .guard⟩ (by simp) rfl
  have hw : Region.wanted { dst := some 137, op := Op.binOp BinOp.eql 27 (Operand.tmp 136) (Operand.const (Value.int IntKind.i64 1)) 27, type := 4, pos := "closed.go:39", after := #[{ on := 24, ground := Ground.data }, { on := 22, ground := Ground.guard }], guard := some (22, true) } (yielded kn17 (F17 N q f v).tmps) = true := wanted17 (g := 22) (d := 134) rfl (by kernel_rfl) (by show some (v 22) = _; rw [h22])
  refine run17 (x := .bool true) (w' := w) ho hw (by kernel_rfl) ?_ (hK _ _ hin (Below.refl _ w) rfl)
  obtain ⟨-, ⟨c0, c1, c2⟩, -⟩ := hin.2.1
  have hc : ∀ x, (F17 N q f v).eval (.const x) = x := fun _ => rfl
  have h9' : (F17 N q f v).eval (.tmp 9) = .pointer (some ⟨q, 0, none⟩) := rfl
  have q24 : (F17 N q f v).eval (.tmp 136) = .int .i64 1 := h24
  clear hn hK hin hw ho h24 h22
  generalize (F17 N q f v).eval = ρ at *
  unfold execOp
  go_simp
set_option maxRecDepth 100000 in
theorem s17_26 (N q b off c : Nat) (f : Nat → Value) : St17 N q b off c f 26 := by
  intro v w w0 o Q K ho hin hn hK
  have e : kn17[26]? = some { dst := some 138, op := Op.pick (Operand.tmp 134) (Operand.tmp 137) (Operand.const (Value.bool false)), type := 4, pos := "closed.go:39", after := #[{ on := 22, ground := Ground.data }, { on := 25, ground := Ground.data }], guard := none } := by kernel_rfl
  obtain rfl := Option.some.inj (e.symm.trans ho)
  clear e
  have h22 : v 22 = .bool true := hn ⟨22, .data⟩ (by simp) rfl
  have h25 : v 25 = .bool true := hn ⟨25, .data⟩ (by simp) rfl
  have hw : Region.wanted { dst := some 138, op := Op.pick (Operand.tmp 134) (Operand.tmp 137) (Operand.const (Value.bool false)), type := 4, pos := "closed.go:39", after := #[{ on := 22, ground := Ground.data }, { on := 25, ground := Ground.data }], guard := none } (yielded kn17 (F17 N q f v).tmps) = true := rfl
  refine run17 (x := .bool true) (w' := w) ho hw (by kernel_rfl) ?_ (hK _ _ hin (Below.refl _ w) rfl)
  obtain ⟨-, ⟨c0, c1, c2⟩, -⟩ := hin.2.1
  have hc : ∀ x, (F17 N q f v).eval (.const x) = x := fun _ => rfl
  have h9' : (F17 N q f v).eval (.tmp 9) = .pointer (some ⟨q, 0, none⟩) := rfl
  have q22 : (F17 N q f v).eval (.tmp 134) = .bool true := h22
  have q25 : (F17 N q f v).eval (.tmp 137) = .bool true := h25
  clear hn hK hin hw ho h22 h25
  generalize (F17 N q f v).eval = ρ at *
  unfold execOp
  go_simp
set_option maxRecDepth 100000 in
theorem s17_27 (N q b off c : Nat) (f : Nat → Value) : St17 N q b off c f 27 := by
  intro v w w0 o Q K ho hin hn hK
  have e : kn17[27]? = some { dst := some 139, op := Op.move (Operand.tmp 138), type := 4, pos := "closed.go:39", after := #[{ on := 26, ground := Ground.data }, { on := 24, ground := Ground.chain }], guard := none } := by kernel_rfl
  obtain rfl := Option.some.inj (e.symm.trans ho)
  clear e
  have h26 : v 26 = .bool true := hn ⟨26, .data⟩ (by simp) rfl
  have hw : Region.wanted { dst := some 139, op := Op.move (Operand.tmp 138), type := 4, pos := "closed.go:39", after := #[{ on := 26, ground := Ground.data }, { on := 24, ground := Ground.chain }], guard := none } (yielded kn17 (F17 N q f v).tmps) = true := rfl
  exact run17 (x := v 26) (w' := w) ho hw (by kernel_rfl) rfl (hK _ _ hin (Below.refl _ w) h26)
set_option maxRecDepth 100000 in
theorem s17_28 (N q b off c : Nat) (f : Nat → Value) : St17 N q b off c f 28 := by
  intro v w w0 o Q K ho hin hn hK
  have e : kn17[28]? = some { dst := some 140, op := Op.build 31 #[(0, Operand.const (Value.int IntKind.i64 4611686018427387904)), (1, Operand.const (Value.int IntKind.i64 9223372036854775807))], type := 31, pos := "closed.go:39", after := #[{ on := 27, ground := Ground.guard }], guard := some (27, true) } := by kernel_rfl
  obtain rfl := Option.some.inj (e.symm.trans ho)
  clear e
  have h27 : v 27 = .bool true := hn ⟨27, .guard⟩ (by simp) rfl
  have hw : Region.wanted { dst := some 140, op := Op.build 31 #[(0, Operand.const (Value.int IntKind.i64 4611686018427387904)), (1, Operand.const (Value.int IntKind.i64 9223372036854775807))], type := 31, pos := "closed.go:39", after := #[{ on := 27, ground := Ground.guard }], guard := some (27, true) } (yielded kn17 (F17 N q f v).tmps) = true := wanted17 (g := 27) (d := 139) rfl (by kernel_rfl) (by show some (v 27) = _; rw [h27])
  exact run17 (x := .agg #[.int .i64 4611686018427387904, .int .i64 9223372036854775807, .slice none 0 0]) (w' := w) ho hw (by kernel_rfl) (run_bd 31 _ rfl [(0, .int .i64 4611686018427387904), (1, .int .i64 9223372036854775807)] rfl _ (by kernel_rfl)) (hK _ _ hin (Below.refl _ w) rfl)
set_option maxRecDepth 100000 in
theorem s17_29 (N q b off c : Nat) (f : Nat → Value) : St17 N q b off c f 29 := by
  intro v w w0 o Q K ho hin hn hK
  have e : kn17[29]? = some { dst := some 141, op := Op.call { callee := Callee.value (Operand.func 22), args := #[Operand.tmp 140], argTypes := #[31] }, type := 27, pos := "closed.go:39", after := #[{ on := 28, ground := Ground.data }, { on := 27, ground := Ground.chain }, { on := 27, ground := Ground.guard }], guard := some (27, true) } := by kernel_rfl
  obtain rfl := Option.some.inj (e.symm.trans ho)
  clear e
  have h28 : v 28 = .agg #[.int .i64 4611686018427387904, .int .i64 9223372036854775807, .slice none 0 0] := hn ⟨28, .data⟩ (by simp) rfl
  have h27 : v 27 = .bool true := hn ⟨27, .chain⟩ (by simp) rfl
  have hw : Region.wanted { dst := some 141, op := Op.call { callee := Callee.value (Operand.func 22), args := #[Operand.tmp 140], argTypes := #[31] }, type := 27, pos := "closed.go:39", after := #[{ on := 28, ground := Ground.data }, { on := 27, ground := Ground.chain }, { on := 27, ground := Ground.guard }], guard := some (27, true) } (yielded kn17 (F17 N q f v).tmps) = true := wanted17 (g := 27) (d := 139) rfl (by kernel_rfl) (by show some (v 27) = _; rw [h27])
  refine call17 (fn := 22) (args := #[.agg #[.int .i64 4611686018427387904, .int .i64 9223372036854775807, .slice none 0 0]]) ho hw (fun x => by kernel_rfl) (by rw [← h28]; kernel_rfl) (right17 w 4611686018427387904 9223372036854775807 0 (by omega) (by omega) (by decide)) ?_
  rintro e w' ⟨rfl, k⟩
  exact ⟨_, rfl, hK _ _ (hin.below k) k rfl⟩
set_option maxRecDepth 100000 in
theorem s17_30 (N q b off c : Nat) (f : Nat → Value) : St17 N q b off c f 30 := by
  intro v w w0 o Q K ho hin hn hK
  have e : kn17[30]? = some { dst := some 142, op := Op.binOp BinOp.eql 27 (Operand.tmp 141) (Operand.const (Value.int IntKind.i64 0)) 27, type := 4, pos := "closed.go:39", after := #[{ on := 29, ground := Ground.data }, { on := 27, ground := Ground.guard }], guard := some (27, true) } := by kernel_rfl
  obtain rfl := Option.some.inj (e.symm.trans ho)
  clear e
  have h29 : v 29 = .int .i64 0 := hn ⟨29, .data⟩ (by simp) rfl
  have h27 : v 27 = .bool true := hn ⟨27, .guard⟩ (by simp) rfl
  have hw : Region.wanted { dst := some 142, op := Op.binOp BinOp.eql 27 (Operand.tmp 141) (Operand.const (Value.int IntKind.i64 0)) 27, type := 4, pos := "closed.go:39", after := #[{ on := 29, ground := Ground.data }, { on := 27, ground := Ground.guard }], guard := some (27, true) } (yielded kn17 (F17 N q f v).tmps) = true := wanted17 (g := 27) (d := 139) rfl (by kernel_rfl) (by show some (v 27) = _; rw [h27])
  refine run17 (x := .bool true) (w' := w) ho hw (by kernel_rfl) ?_ (hK _ _ hin (Below.refl _ w) rfl)
  obtain ⟨-, ⟨c0, c1, c2⟩, -⟩ := hin.2.1
  have hc : ∀ x, (F17 N q f v).eval (.const x) = x := fun _ => rfl
  have h9' : (F17 N q f v).eval (.tmp 9) = .pointer (some ⟨q, 0, none⟩) := rfl
  have q29 : (F17 N q f v).eval (.tmp 141) = .int .i64 0 := h29
  clear hn hK hin hw ho h29 h27
  generalize (F17 N q f v).eval = ρ at *
  unfold execOp
  go_simp
set_option maxRecDepth 100000 in
theorem s17_31 (N q b off c : Nat) (f : Nat → Value) : St17 N q b off c f 31 := by
  intro v w w0 o Q K ho hin hn hK
  have e : kn17[31]? = some { dst := some 143, op := Op.pick (Operand.tmp 139) (Operand.tmp 142) (Operand.const (Value.bool false)), type := 4, pos := "closed.go:39", after := #[{ on := 27, ground := Ground.data }, { on := 30, ground := Ground.data }], guard := none } := by kernel_rfl
  obtain rfl := Option.some.inj (e.symm.trans ho)
  clear e
  have h27 : v 27 = .bool true := hn ⟨27, .data⟩ (by simp) rfl
  have h30 : v 30 = .bool true := hn ⟨30, .data⟩ (by simp) rfl
  have hw : Region.wanted { dst := some 143, op := Op.pick (Operand.tmp 139) (Operand.tmp 142) (Operand.const (Value.bool false)), type := 4, pos := "closed.go:39", after := #[{ on := 27, ground := Ground.data }, { on := 30, ground := Ground.data }], guard := none } (yielded kn17 (F17 N q f v).tmps) = true := rfl
  refine run17 (x := .bool true) (w' := w) ho hw (by kernel_rfl) ?_ (hK _ _ hin (Below.refl _ w) rfl)
  obtain ⟨-, ⟨c0, c1, c2⟩, -⟩ := hin.2.1
  have hc : ∀ x, (F17 N q f v).eval (.const x) = x := fun _ => rfl
  have h9' : (F17 N q f v).eval (.tmp 9) = .pointer (some ⟨q, 0, none⟩) := rfl
  have q27 : (F17 N q f v).eval (.tmp 139) = .bool true := h27
  have q30 : (F17 N q f v).eval (.tmp 142) = .bool true := h30
  clear hn hK hin hw ho h27 h30
  generalize (F17 N q f v).eval = ρ at *
  unfold execOp
  go_simp
set_option maxRecDepth 100000 in
theorem s17_32 (N q b off c : Nat) (f : Nat → Value) : St17 N q b off c f 32 := by
  intro v w w0 o Q K ho hin hn hK
  have e : kn17[32]? = some { dst := some 144, op := Op.move (Operand.tmp 143), type := 4, pos := "closed.go:39", after := #[{ on := 31, ground := Ground.data }, { on := 29, ground := Ground.chain }], guard := none } := by kernel_rfl
  obtain rfl := Option.some.inj (e.symm.trans ho)
  clear e
  have h31 : v 31 = .bool true := hn ⟨31, .data⟩ (by simp) rfl
  have hw : Region.wanted { dst := some 144, op := Op.move (Operand.tmp 143), type := 4, pos := "closed.go:39", after := #[{ on := 31, ground := Ground.data }, { on := 29, ground := Ground.chain }], guard := none } (yielded kn17 (F17 N q f v).tmps) = true := rfl
  exact run17 (x := v 31) (w' := w) ho hw (by kernel_rfl) rfl (hK _ _ hin (Below.refl _ w) h31)
set_option maxRecDepth 100000 in
theorem s17_33 (N q b off c : Nat) (f : Nat → Value) : St17 N q b off c f 33 := by
  intro v w w0 o Q K ho hin hn hK
  have e : kn17[33]? = some { dst := some 145, op := Op.build 31 #[(0, Operand.const (Value.int IntKind.i64 4611686018427387905)), (1, Operand.const (Value.int IntKind.i64 1))], type := 31, pos := "closed.go:39", after := #[{ on := 32, ground := Ground.guard }], guard := some (32, true) } := by kernel_rfl
  obtain rfl := Option.some.inj (e.symm.trans ho)
  clear e
  have h32 : v 32 = .bool true := hn ⟨32, .guard⟩ (by simp) rfl
  have hw : Region.wanted { dst := some 145, op := Op.build 31 #[(0, Operand.const (Value.int IntKind.i64 4611686018427387905)), (1, Operand.const (Value.int IntKind.i64 1))], type := 31, pos := "closed.go:39", after := #[{ on := 32, ground := Ground.guard }], guard := some (32, true) } (yielded kn17 (F17 N q f v).tmps) = true := wanted17 (g := 32) (d := 144) rfl (by kernel_rfl) (by show some (v 32) = _; rw [h32])
  exact run17 (x := .agg #[.int .i64 4611686018427387905, .int .i64 1, .slice none 0 0]) (w' := w) ho hw (by kernel_rfl) (run_bd 31 _ rfl [(0, .int .i64 4611686018427387905), (1, .int .i64 1)] rfl _ (by kernel_rfl)) (hK _ _ hin (Below.refl _ w) rfl)
set_option maxRecDepth 100000 in
theorem s17_34 (N q b off c : Nat) (f : Nat → Value) : St17 N q b off c f 34 := by
  intro v w w0 o Q K ho hin hn hK
  have e : kn17[34]? = some { dst := some 146, op := Op.call { callee := Callee.value (Operand.func 22), args := #[Operand.tmp 145], argTypes := #[31] }, type := 27, pos := "closed.go:39", after := #[{ on := 33, ground := Ground.data }, { on := 32, ground := Ground.chain }, { on := 32, ground := Ground.guard }], guard := some (32, true) } := by kernel_rfl
  obtain rfl := Option.some.inj (e.symm.trans ho)
  clear e
  have h33 : v 33 = .agg #[.int .i64 4611686018427387905, .int .i64 1, .slice none 0 0] := hn ⟨33, .data⟩ (by simp) rfl
  have h32 : v 32 = .bool true := hn ⟨32, .chain⟩ (by simp) rfl
  have hw : Region.wanted { dst := some 146, op := Op.call { callee := Callee.value (Operand.func 22), args := #[Operand.tmp 145], argTypes := #[31] }, type := 27, pos := "closed.go:39", after := #[{ on := 33, ground := Ground.data }, { on := 32, ground := Ground.chain }, { on := 32, ground := Ground.guard }], guard := some (32, true) } (yielded kn17 (F17 N q f v).tmps) = true := wanted17 (g := 32) (d := 144) rfl (by kernel_rfl) (by show some (v 32) = _; rw [h32])
  refine call17 (fn := 22) (args := #[.agg #[.int .i64 4611686018427387905, .int .i64 1, .slice none 0 0]]) ho hw (fun x => by kernel_rfl) (by rw [← h33]; kernel_rfl) (right17 w 4611686018427387905 1 1 (by omega) (by omega) (by decide)) ?_
  rintro e w' ⟨rfl, k⟩
  exact ⟨_, rfl, hK _ _ (hin.below k) k rfl⟩
set_option maxRecDepth 100000 in
theorem s17_35 (N q b off c : Nat) (f : Nat → Value) : St17 N q b off c f 35 := by
  intro v w w0 o Q K ho hin hn hK
  have e : kn17[35]? = some { dst := some 147, op := Op.binOp BinOp.eql 27 (Operand.tmp 146) (Operand.const (Value.int IntKind.i64 1)) 27, type := 4, pos := "closed.go:39", after := #[{ on := 34, ground := Ground.data }, { on := 32, ground := Ground.guard }], guard := some (32, true) } := by kernel_rfl
  obtain rfl := Option.some.inj (e.symm.trans ho)
  clear e
  have h34 : v 34 = .int .i64 1 := hn ⟨34, .data⟩ (by simp) rfl
  have h32 : v 32 = .bool true := hn ⟨32, .guard⟩ (by simp) rfl
  have hw : Region.wanted { dst := some 147, op := Op.binOp BinOp.eql 27 (Operand.tmp 146) (Operand.const (Value.int IntKind.i64 1)) 27, type := 4, pos := "closed.go:39", after := #[{ on := 34, ground := Ground.data }, { on := 32, ground := Ground.guard }], guard := some (32, true) } (yielded kn17 (F17 N q f v).tmps) = true := wanted17 (g := 32) (d := 144) rfl (by kernel_rfl) (by show some (v 32) = _; rw [h32])
  refine run17 (x := .bool true) (w' := w) ho hw (by kernel_rfl) ?_ (hK _ _ hin (Below.refl _ w) rfl)
  obtain ⟨-, ⟨c0, c1, c2⟩, -⟩ := hin.2.1
  have hc : ∀ x, (F17 N q f v).eval (.const x) = x := fun _ => rfl
  have h9' : (F17 N q f v).eval (.tmp 9) = .pointer (some ⟨q, 0, none⟩) := rfl
  have q34 : (F17 N q f v).eval (.tmp 146) = .int .i64 1 := h34
  clear hn hK hin hw ho h34 h32
  generalize (F17 N q f v).eval = ρ at *
  unfold execOp
  go_simp
set_option maxRecDepth 100000 in
theorem s17_36 (N q b off c : Nat) (f : Nat → Value) : St17 N q b off c f 36 := by
  intro v w w0 o Q K ho hin hn hK
  have e : kn17[36]? = some { dst := some 148, op := Op.pick (Operand.tmp 144) (Operand.tmp 147) (Operand.const (Value.bool false)), type := 4, pos := "closed.go:39", after := #[{ on := 32, ground := Ground.data }, { on := 35, ground := Ground.data }], guard := none } := by kernel_rfl
  obtain rfl := Option.some.inj (e.symm.trans ho)
  clear e
  have h32 : v 32 = .bool true := hn ⟨32, .data⟩ (by simp) rfl
  have h35 : v 35 = .bool true := hn ⟨35, .data⟩ (by simp) rfl
  have hw : Region.wanted { dst := some 148, op := Op.pick (Operand.tmp 144) (Operand.tmp 147) (Operand.const (Value.bool false)), type := 4, pos := "closed.go:39", after := #[{ on := 32, ground := Ground.data }, { on := 35, ground := Ground.data }], guard := none } (yielded kn17 (F17 N q f v).tmps) = true := rfl
  refine run17 (x := .bool true) (w' := w) ho hw (by kernel_rfl) ?_ (hK _ _ hin (Below.refl _ w) rfl)
  obtain ⟨-, ⟨c0, c1, c2⟩, -⟩ := hin.2.1
  have hc : ∀ x, (F17 N q f v).eval (.const x) = x := fun _ => rfl
  have h9' : (F17 N q f v).eval (.tmp 9) = .pointer (some ⟨q, 0, none⟩) := rfl
  have q32 : (F17 N q f v).eval (.tmp 144) = .bool true := h32
  have q35 : (F17 N q f v).eval (.tmp 147) = .bool true := h35
  clear hn hK hin hw ho h32 h35
  generalize (F17 N q f v).eval = ρ at *
  unfold execOp
  go_simp
set_option maxRecDepth 100000 in
theorem s17_37 (N q b off c : Nat) (f : Nat → Value) : St17 N q b off c f 37 := by
  intro v w w0 o Q K ho hin hn hK
  have e : kn17[37]? = some { dst := some 149, op := Op.move (Operand.tmp 148), type := 4, pos := "closed.go:39", after := #[{ on := 36, ground := Ground.data }, { on := 34, ground := Ground.chain }], guard := none } := by kernel_rfl
  obtain rfl := Option.some.inj (e.symm.trans ho)
  clear e
  have h36 : v 36 = .bool true := hn ⟨36, .data⟩ (by simp) rfl
  have hw : Region.wanted { dst := some 149, op := Op.move (Operand.tmp 148), type := 4, pos := "closed.go:39", after := #[{ on := 36, ground := Ground.data }, { on := 34, ground := Ground.chain }], guard := none } (yielded kn17 (F17 N q f v).tmps) = true := rfl
  exact run17 (x := v 36) (w' := w) ho hw (by kernel_rfl) rfl (hK _ _ hin (Below.refl _ w) h36)
set_option maxRecDepth 100000 in
theorem s17_38 (N q b off c : Nat) (f : Nat → Value) : St17 N q b off c f 38 := by
  intro v w w0 o Q K ho hin hn hK
  have e : kn17[38]? = some { dst := some 150, op := Op.call { callee := Callee.value (Operand.func 28), args := #[], argTypes := #[] }, type := 31, pos := "closed.go:39", after := #[{ on := 37, ground := Ground.chain }, { on := 37, ground := Ground.guard }], guard := some (37, true) } := by kernel_rfl
  obtain rfl := Option.some.inj (e.symm.trans ho)
  clear e
  have h37 : v 37 = .bool true := hn ⟨37, .chain⟩ (by simp) rfl
  have hw : Region.wanted { dst := some 150, op := Op.call { callee := Callee.value (Operand.func 28), args := #[], argTypes := #[] }, type := 31, pos := "closed.go:39", after := #[{ on := 37, ground := Ground.chain }, { on := 37, ground := Ground.guard }], guard := some (37, true) } (yielded kn17 (F17 N q f v).tmps) = true := wanted17 (g := 37) (d := 149) rfl (by kernel_rfl) (by show some (v 37) = _; rw [h37])
  refine call17 (fn := 28) (args := #[]) ho hw (fun x => by kernel_rfl) (by kernel_rfl) (one12_any w) ?_
  rintro e w' ⟨⟨A, rfl, h⟩, k⟩
  exact ⟨_, rfl, hK _ _ (hin.below k) k ⟨A, rfl, h⟩⟩
set_option maxRecDepth 100000 in
theorem s17_39 (N q b off c : Nat) (f : Nat → Value) : St17 N q b off c f 39 := by
  intro v w w0 o Q K ho hin hn hK
  have e : kn17[39]? = some { dst := some 151, op := Op.load 31 (Operand.tmp 9), type := 31, pos := "closed.go:39", after := #[{ on := 37, ground := Ground.guard }], guard := some (37, true) } := by kernel_rfl
  obtain rfl := Option.some.inj (e.symm.trans ho)
  clear e
  have h37 : v 37 = .bool true := hn ⟨37, .guard⟩ (by simp) rfl
  have hw : Region.wanted { dst := some 151, op := Op.load 31 (Operand.tmp 9), type := 31, pos := "closed.go:39", after := #[{ on := 37, ground := Ground.guard }], guard := some (37, true) } (yielded kn17 (F17 N q f v).tmps) = true := wanted17 (g := 37) (d := 149) rfl (by kernel_rfl) (by show some (v 37) = _; rw [h37])
  obtain ⟨fs, hu⟩ := und_batch
  obtain ⟨-, ⟨c0, c1, c2⟩, -⟩ := hin.2.1
  exact run17 (x := .agg #[.int .i64 3, .int .i64 1, .slice (some ⟨b, off, none⟩) 1 c]) (w' := w) ho hw (by kernel_rfl) (load17 _ _ rfl q 0 rfl _ _ (range3 c0 c1 c2) hu rfl (by kernel_rfl)) (hK _ _ hin (Below.refl _ w) rfl)
set_option maxRecDepth 100000 in
theorem s17_40 (N q b off c : Nat) (f : Nat → Value) : St17 N q b off c f 40 := by
  intro v w w0 o Q K ho hin hn hK
  have e : kn17[40]? = some { dst := some 152, op := Op.call { callee := Callee.value (Operand.func 21), args := #[Operand.tmp 150, Operand.tmp 151], argTypes := #[31, 31] }, type := 4, pos := "closed.go:39", after := #[{ on := 38, ground := Ground.data }, { on := 39, ground := Ground.data }, { on := 38, ground := Ground.chain }, { on := 37, ground := Ground.guard }], guard := some (37, true) } := by kernel_rfl
  obtain rfl := Option.some.inj (e.symm.trans ho)
  clear e
  obtain ⟨A, hA, hl⟩ : ∃ A, v 38 = .agg #[.int .i64 1, .int .i64 2, .slice A 1 1] ∧ listAt w A one.ops := hn ⟨38, .data⟩ (by simp) rfl
  have h39 : v 39 = .agg #[.int .i64 3, .int .i64 1, .slice (some ⟨b, off, none⟩) 1 c] := hn ⟨39, .data⟩ (by simp) rfl
  have h37 : v 37 = .bool true := hn ⟨37, .guard⟩ (by simp) rfl
  have hw : Region.wanted { dst := some 152, op := Op.call { callee := Callee.value (Operand.func 21), args := #[Operand.tmp 150, Operand.tmp 151], argTypes := #[31, 31] }, type := 4, pos := "closed.go:39", after := #[{ on := 38, ground := Ground.data }, { on := 39, ground := Ground.data }, { on := 38, ground := Ground.chain }, { on := 37, ground := Ground.guard }], guard := some (37, true) } (yielded kn17 (F17 N q f v).tmps) = true := wanted17 (g := 37) (d := 149) rfl (by kernel_rfl) (by show some (v 37) = _; rw [h37])
  refine call17 (fn := 21) (args := #[.agg #[.int .i64 1, .int .i64 2, .slice A 1 1], .agg #[.int .i64 3, .int .i64 1, .slice (some ⟨b, off, none⟩) 1 c]]) ho hw (fun x => by kernel_rfl) (by rw [← hA, ← h39]; kernel_rfl) (baSame_any one ⟨3, 1, [put1]⟩ 1 c hl hin.2.2 (by decide) false (by simp [one])) ?_
  rintro e w' ⟨rfl, k⟩
  exact ⟨_, rfl, hK _ _ (hin.below k) k rfl⟩
set_option maxRecDepth 100000 in
theorem s17_41 (N q b off c : Nat) (f : Nat → Value) : St17 N q b off c f 41 := by
  intro v w w0 o Q K ho hin hn hK
  have e : kn17[41]? = some { dst := some 153, op := Op.unOp UnOp.not 4 (Operand.tmp 152), type := 4, pos := "closed.go:39", after := #[{ on := 40, ground := Ground.data }, { on := 37, ground := Ground.guard }], guard := some (37, true) } := by kernel_rfl
  obtain rfl := Option.some.inj (e.symm.trans ho)
  clear e
  have h40 : v 40 = .bool false := hn ⟨40, .data⟩ (by simp) rfl
  have h37 : v 37 = .bool true := hn ⟨37, .guard⟩ (by simp) rfl
  have hw : Region.wanted { dst := some 153, op := Op.unOp UnOp.not 4 (Operand.tmp 152), type := 4, pos := "closed.go:39", after := #[{ on := 40, ground := Ground.data }, { on := 37, ground := Ground.guard }], guard := some (37, true) } (yielded kn17 (F17 N q f v).tmps) = true := wanted17 (g := 37) (d := 149) rfl (by kernel_rfl) (by show some (v 37) = _; rw [h37])
  refine run17 (x := .bool true) (w' := w) ho hw (by kernel_rfl) ?_ (hK _ _ hin (Below.refl _ w) rfl)
  obtain ⟨-, ⟨c0, c1, c2⟩, -⟩ := hin.2.1
  have hc : ∀ x, (F17 N q f v).eval (.const x) = x := fun _ => rfl
  have h9' : (F17 N q f v).eval (.tmp 9) = .pointer (some ⟨q, 0, none⟩) := rfl
  have q40 : (F17 N q f v).eval (.tmp 152) = .bool false := h40
  clear hn hK hin hw ho h40 h37
  generalize (F17 N q f v).eval = ρ at *
  unfold execOp
  go_simp
set_option maxRecDepth 100000 in
theorem s17_42 (N q b off c : Nat) (f : Nat → Value) : St17 N q b off c f 42 := by
  intro v w w0 o Q K ho hin hn hK
  have e : kn17[42]? = some { dst := some 154, op := Op.pick (Operand.tmp 149) (Operand.tmp 153) (Operand.const (Value.bool false)), type := 4, pos := "closed.go:39", after := #[{ on := 37, ground := Ground.data }, { on := 41, ground := Ground.data }], guard := none } := by kernel_rfl
  obtain rfl := Option.some.inj (e.symm.trans ho)
  clear e
  have h37 : v 37 = .bool true := hn ⟨37, .data⟩ (by simp) rfl
  have h41 : v 41 = .bool true := hn ⟨41, .data⟩ (by simp) rfl
  have hw : Region.wanted { dst := some 154, op := Op.pick (Operand.tmp 149) (Operand.tmp 153) (Operand.const (Value.bool false)), type := 4, pos := "closed.go:39", after := #[{ on := 37, ground := Ground.data }, { on := 41, ground := Ground.data }], guard := none } (yielded kn17 (F17 N q f v).tmps) = true := rfl
  refine run17 (x := .bool true) (w' := w) ho hw (by kernel_rfl) ?_ (hK _ _ hin (Below.refl _ w) rfl)
  obtain ⟨-, ⟨c0, c1, c2⟩, -⟩ := hin.2.1
  have hc : ∀ x, (F17 N q f v).eval (.const x) = x := fun _ => rfl
  have h9' : (F17 N q f v).eval (.tmp 9) = .pointer (some ⟨q, 0, none⟩) := rfl
  have q37 : (F17 N q f v).eval (.tmp 149) = .bool true := h37
  have q41 : (F17 N q f v).eval (.tmp 153) = .bool true := h41
  clear hn hK hin hw ho h37 h41
  generalize (F17 N q f v).eval = ρ at *
  unfold execOp
  go_simp
set_option maxRecDepth 100000 in
theorem s17_43 (N q b off c : Nat) (f : Nat → Value) : St17 N q b off c f 43 := by
  intro v w w0 o Q K ho hin hn hK
  have e : kn17[43]? = some { dst := some 155, op := Op.move (Operand.tmp 154), type := 4, pos := "closed.go:39", after := #[{ on := 42, ground := Ground.data }, { on := 40, ground := Ground.chain }], guard := none } := by kernel_rfl
  obtain rfl := Option.some.inj (e.symm.trans ho)
  clear e
  have h42 : v 42 = .bool true := hn ⟨42, .data⟩ (by simp) rfl
  have hw : Region.wanted { dst := some 155, op := Op.move (Operand.tmp 154), type := 4, pos := "closed.go:39", after := #[{ on := 42, ground := Ground.data }, { on := 40, ground := Ground.chain }], guard := none } (yielded kn17 (F17 N q f v).tmps) = true := rfl
  exact run17 (x := v 42) (w' := w) ho hw (by kernel_rfl) rfl (hK _ _ hin (Below.refl _ w) h42)
set_option maxRecDepth 100000 in
theorem s17_44 (N q b off c : Nat) (f : Nat → Value) : St17 N q b off c f 44 := by
  intro v w w0 o Q K ho hin hn hK
  have e : kn17[44]? = some { dst := some 156, op := Op.call { callee := Callee.value (Operand.func 13), args := #[], argTypes := #[] }, type := 4, pos := "closed.go:39", after := #[{ on := 43, ground := Ground.chain }, { on := 43, ground := Ground.guard }], guard := some (43, true) } := by kernel_rfl
  obtain rfl := Option.some.inj (e.symm.trans ho)
  clear e
  have h43 : v 43 = .bool true := hn ⟨43, .chain⟩ (by simp) rfl
  have hw : Region.wanted { dst := some 156, op := Op.call { callee := Callee.value (Operand.func 13), args := #[], argTypes := #[] }, type := 4, pos := "closed.go:39", after := #[{ on := 43, ground := Ground.chain }, { on := 43, ground := Ground.guard }], guard := some (43, true) } (yielded kn17 (F17 N q f v).tmps) = true := wanted17 (g := 43) (d := 155) rfl (by kernel_rfl) (by show some (v 43) = _; rw [h43])
  refine call17 (fn := 13) (args := #[]) ho hw (fun x => by kernel_rfl) (by kernel_rfl) (awake12_any w) ?_
  rintro e w' ⟨rfl, k⟩
  exact ⟨_, rfl, hK _ _ (hin.below k) k rfl⟩
set_option maxRecDepth 100000 in
theorem s17_45 (N q b off c : Nat) (f : Nat → Value) : St17 N q b off c f 45 := by
  intro v w w0 o Q K ho hin hn hK
  have e : kn17[45]? = some { dst := some 157, op := Op.pick (Operand.tmp 155) (Operand.tmp 156) (Operand.const (Value.bool false)), type := 4, pos := "closed.go:39", after := #[{ on := 43, ground := Ground.data }, { on := 44, ground := Ground.data }], guard := none } := by kernel_rfl
  obtain rfl := Option.some.inj (e.symm.trans ho)
  clear e
  have h43 : v 43 = .bool true := hn ⟨43, .data⟩ (by simp) rfl
  have h44 : v 44 = .bool true := hn ⟨44, .data⟩ (by simp) rfl
  have hw : Region.wanted { dst := some 157, op := Op.pick (Operand.tmp 155) (Operand.tmp 156) (Operand.const (Value.bool false)), type := 4, pos := "closed.go:39", after := #[{ on := 43, ground := Ground.data }, { on := 44, ground := Ground.data }], guard := none } (yielded kn17 (F17 N q f v).tmps) = true := rfl
  refine run17 (x := .bool true) (w' := w) ho hw (by kernel_rfl) ?_ (hK _ _ hin (Below.refl _ w) rfl)
  obtain ⟨-, ⟨c0, c1, c2⟩, -⟩ := hin.2.1
  have hc : ∀ x, (F17 N q f v).eval (.const x) = x := fun _ => rfl
  have h9' : (F17 N q f v).eval (.tmp 9) = .pointer (some ⟨q, 0, none⟩) := rfl
  have q43 : (F17 N q f v).eval (.tmp 155) = .bool true := h43
  have q44 : (F17 N q f v).eval (.tmp 156) = .bool true := h44
  clear hn hK hin hw ho h43 h44
  generalize (F17 N q f v).eval = ρ at *
  unfold execOp
  go_simp
set_option maxRecDepth 100000 in
theorem s17_46 (N q b off c : Nat) (f : Nat → Value) : St17 N q b off c f 46 := by
  intro v w w0 o Q K ho hin hn hK
  have e : kn17[46]? = some { dst := some 0, op := Op.assign (Operand.tmp 157), type := 4, pos := "closed.go:39", after := #[{ on := 45, ground := Ground.data }, { on := 44, ground := Ground.chain }, { on := 0, ground := Ground.phase }, { on := 1, ground := Ground.phase }, { on := 2, ground := Ground.phase }, { on := 3, ground := Ground.phase }, { on := 4, ground := Ground.phase }, { on := 5, ground := Ground.phase }, { on := 6, ground := Ground.phase }, { on := 7, ground := Ground.phase }, { on := 8, ground := Ground.phase }, { on := 9, ground := Ground.phase }, { on := 10, ground := Ground.phase }, { on := 11, ground := Ground.phase }, { on := 12, ground := Ground.phase }, { on := 13, ground := Ground.phase }, { on := 14, ground := Ground.phase }, { on := 15, ground := Ground.phase }, { on := 16, ground := Ground.phase }, { on := 17, ground := Ground.phase }, { on := 18, ground := Ground.phase }, { on := 19, ground := Ground.phase }, { on := 20, ground := Ground.phase }, { on := 21, ground := Ground.phase }, { on := 22, ground := Ground.phase }, { on := 23, ground := Ground.phase }, { on := 24, ground := Ground.phase }, { on := 25, ground := Ground.phase }, { on := 26, ground := Ground.phase }, { on := 27, ground := Ground.phase }, { on := 28, ground := Ground.phase }, { on := 29, ground := Ground.phase }, { on := 30, ground := Ground.phase }, { on := 31, ground := Ground.phase }, { on := 32, ground := Ground.phase }, { on := 33, ground := Ground.phase }, { on := 34, ground := Ground.phase }, { on := 35, ground := Ground.phase }, { on := 36, ground := Ground.phase }, { on := 37, ground := Ground.phase }, { on := 38, ground := Ground.phase }, { on := 39, ground := Ground.phase }, { on := 40, ground := Ground.phase }, { on := 41, ground := Ground.phase }, { on := 42, ground := Ground.phase }, { on := 43, ground := Ground.phase }, { on := 44, ground := Ground.phase }, { on := 45, ground := Ground.phase }], guard := none } := by kernel_rfl
  obtain rfl := Option.some.inj (e.symm.trans ho)
  clear e
  have h45 : v 45 = .bool true := hn ⟨45, .data⟩ (by simp) rfl
  have hw : Region.wanted { dst := some 0, op := Op.assign (Operand.tmp 157), type := 4, pos := "closed.go:39", after := #[{ on := 45, ground := Ground.data }, { on := 44, ground := Ground.chain }, { on := 0, ground := Ground.phase }, { on := 1, ground := Ground.phase }, { on := 2, ground := Ground.phase }, { on := 3, ground := Ground.phase }, { on := 4, ground := Ground.phase }, { on := 5, ground := Ground.phase }, { on := 6, ground := Ground.phase }, { on := 7, ground := Ground.phase }, { on := 8, ground := Ground.phase }, { on := 9, ground := Ground.phase }, { on := 10, ground := Ground.phase }, { on := 11, ground := Ground.phase }, { on := 12, ground := Ground.phase }, { on := 13, ground := Ground.phase }, { on := 14, ground := Ground.phase }, { on := 15, ground := Ground.phase }, { on := 16, ground := Ground.phase }, { on := 17, ground := Ground.phase }, { on := 18, ground := Ground.phase }, { on := 19, ground := Ground.phase }, { on := 20, ground := Ground.phase }, { on := 21, ground := Ground.phase }, { on := 22, ground := Ground.phase }, { on := 23, ground := Ground.phase }, { on := 24, ground := Ground.phase }, { on := 25, ground := Ground.phase }, { on := 26, ground := Ground.phase }, { on := 27, ground := Ground.phase }, { on := 28, ground := Ground.phase }, { on := 29, ground := Ground.phase }, { on := 30, ground := Ground.phase }, { on := 31, ground := Ground.phase }, { on := 32, ground := Ground.phase }, { on := 33, ground := Ground.phase }, { on := 34, ground := Ground.phase }, { on := 35, ground := Ground.phase }, { on := 36, ground := Ground.phase }, { on := 37, ground := Ground.phase }, { on := 38, ground := Ground.phase }, { on := 39, ground := Ground.phase }, { on := 40, ground := Ground.phase }, { on := 41, ground := Ground.phase }, { on := 42, ground := Ground.phase }, { on := 43, ground := Ground.phase }, { on := 44, ground := Ground.phase }, { on := 45, ground := Ground.phase }], guard := none } (yielded kn17 (F17 N q f v).tmps) = true := rfl
  exact run17 (x := v 45) (w' := w) ho hw (by kernel_rfl) rfl (hK _ _ hin (Below.refl _ w) h45)
theorem all17 (N q b off c : Nat) (f : Nat → Value) : ∀ i, i < 47 → St17 N q b off c f i
  | 0, _ => s17_0 N q b off c f
  | 1, _ => s17_1 N q b off c f
  | 2, _ => s17_2 N q b off c f
  | 3, _ => s17_3 N q b off c f
  | 4, _ => s17_4 N q b off c f
  | 5, _ => s17_5 N q b off c f
  | 6, _ => s17_6 N q b off c f
  | 7, _ => s17_7 N q b off c f
  | 8, _ => s17_8 N q b off c f
  | 9, _ => s17_9 N q b off c f
  | 10, _ => s17_10 N q b off c f
  | 11, _ => s17_11 N q b off c f
  | 12, _ => s17_12 N q b off c f
  | 13, _ => s17_13 N q b off c f
  | 14, _ => s17_14 N q b off c f
  | 15, _ => s17_15 N q b off c f
  | 16, _ => s17_16 N q b off c f
  | 17, _ => s17_17 N q b off c f
  | 18, _ => s17_18 N q b off c f
  | 19, _ => s17_19 N q b off c f
  | 20, _ => s17_20 N q b off c f
  | 21, _ => s17_21 N q b off c f
  | 22, _ => s17_22 N q b off c f
  | 23, _ => s17_23 N q b off c f
  | 24, _ => s17_24 N q b off c f
  | 25, _ => s17_25 N q b off c f
  | 26, _ => s17_26 N q b off c f
  | 27, _ => s17_27 N q b off c f
  | 28, _ => s17_28 N q b off c f
  | 29, _ => s17_29 N q b off c f
  | 30, _ => s17_30 N q b off c f
  | 31, _ => s17_31 N q b off c f
  | 32, _ => s17_32 N q b off c f
  | 33, _ => s17_33 N q b off c f
  | 34, _ => s17_34 N q b off c f
  | 35, _ => s17_35 N q b off c f
  | 36, _ => s17_36 N q b off c f
  | 37, _ => s17_37 N q b off c f
  | 38, _ => s17_38 N q b off c f
  | 39, _ => s17_39 N q b off c f
  | 40, _ => s17_40 N q b off c f
  | 41, _ => s17_41 N q b off c f
  | 42, _ => s17_42 N q b off c f
  | 43, _ => s17_43 N q b off c f
  | 44, _ => s17_44 N q b off c f
  | 45, _ => s17_45 N q b off c f
  | 46, _ => s17_46 N q b off c f
  | n + 47, h => absurd h (by omega)
def Inv17 (N q b off c : Nat) (f : Nat → Value) (w0 : World) (listed : Array Bool) (a : Act) (w : World) : Prop := ∃ v : Nat → Value, a = F17 N q f v ∧ In17 N q b off c w0 w ∧ ∀ i, i < 47 → listed.getD i false = true → Fact17 q b off c w i (v i)
theorem kn17_any {Q : Exit → Act → World → Prop} (N q b off c : Nat) (f v0 : Nat → Value) (w0 w : World) (hin : In17 N q b off c w0 w) (a : Act) (ha : a = F17 N q f v0)
    (H : ∀ (v : Nat → Value) (w' : World), Below w0.heap.size w0 w' → v 46 = .bool true → Q .normal (F17 N q f v) w') :
    (Code.region 17 kn17 true).wp Try.prog Q a w := by
  subst ha
  refine wp_region_any (by kernel_rfl) ?_
  refine wpAny_inv after17 (Inv17 N q b off c f w0) ?_ ?_ _ _ _ _ (by simp) ?_ ?_
  · rintro listed a w1 i o ⟨v, rfl, i1, f1⟩ hi hu ho hn
    have hi47 : i < 47 := by have := (Array.getElem?_eq_some_iff.1 ho).1; rw [size17] at this; exact this
    refine all17 N q b off c f i hi47 v w1 w0 o Q _ ho i1 (fun e he hb => f1 e.on (by have := after17 i o ho e he; omega) (hn e he hb)) fun x w' i2 b2 f2 => ?_
    refine ⟨upd v i x, rfl, i2, fun j hj hl => ?_⟩
    by_cases hji : j = i
    · subst hji
      rw [upd_at]
      exact f2
    · rw [upd_ne v x hji]
      rw [getD_set_ne false (Ne.symm hji)] at hl
      exact (f1 j hj hl).mono b2
  · rintro listed a w1 ⟨v, rfl, i1, f1⟩ hall
    exact H v w1 i1.1 (f1 46 (by omega) (hall 46 (by rw [size17]; omega)))
  · unfold still
    exact Nat.le_trans (List.length_filter_le _ _) (by simp)
  · have no : ∀ i, (Array.replicate kn17.size false).getD i false = false := fun i => by
      rw [Array.getD_eq_getD_getElem?, Array.getElem?_replicate]
      split <;> rfl
    exact ⟨_, rfl, hin.below (Below.refl _ w).drew, fun i _ h => by (rw [no] at h; cases h)⟩
theorem kn17_at {Q : Exit → Act → World → Prop} {a : Act} (N q b off c : Nat) (w0 w : World) (hin : In17 N q b off c w0 w) (ha : a = F17 N q (fun i => a.tmps.getD i undef) (fun j => a.tmps.getD (bif Nat.beq j 46 then 0 else j + 112) undef))
    (H : ∀ (f v : Nat → Value) (w' : World), Below w0.heap.size w0 w' → v 46 = .bool true → Q .normal (F17 N q f v) w') :
    (Code.region 17 kn17 true).wp Try.prog Q a w := kn17_any N q b off c _ _ w0 w hin a ha fun v => H _ v
end Ba
end Go.Proofs.Ytlndggbidmmodaa
