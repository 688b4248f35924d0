/-
  The batch that BatchKnown filters: two(), the slice of two operations, Filter, the variable, in whatever order they come up.
-/
import Derived.Test.YtlndggbidmmodaaBaKnMath
namespace Go.Proofs.Ytlndggbidmmodaa
open Go.RowKit Pk
namespace Ba
noncomputable def kn16 : Array Oper := ((Try.f10.body.bind (regionOps 16))).getD #[]
def F16 (N : Nat) (f v : Nat → Value) : Act := { tmps := #[f 0, .pointer (some ⟨N, 0, none⟩), f 2, f 3, f 4, f 5, f 6, f 7, f 8, v 6, f 10, f 11, f 12, f 13, f 14, f 15, f 16, f 17, f 18, f 19, f 20, f 21, f 22, f 23, f 24, f 25, f 26, f 27, f 28, f 29, f 30, f 31, f 32, f 33, f 34, f 35, f 36, f 37, f 38, f 39, f 40, f 41, f 42, f 43, f 44, f 45, f 46, f 47, f 48, f 49, f 50, f 51, f 52, f 53, f 54, f 55, f 56, f 57, f 58, f 59, f 60, f 61, f 62, f 63, f 64, f 65, f 66, f 67, f 68, f 69, f 70, f 71, f 72, f 73, f 74, f 75, f 76, f 77, f 78, f 79, f 80, f 81, f 82, f 83, f 84, f 85, f 86, f 87, f 88, f 89, f 90, f 91, f 92, f 93, f 94, f 95, f 96, f 97, f 98, f 99, f 100, f 101, f 102, f 103, f 104, f 105, v 0, v 1, v 2, v 3, v 4, v 5, f 112, f 113, f 114, f 115, f 116, f 117, f 118, f 119, f 120, f 121, f 122, f 123, f 124, f 125, f 126, f 127, f 128, f 129, f 130, f 131, f 132, f 133, f 134, f 135, f 136, f 137, f 138, f 139, f 140, f 141, f 142, f 143, f 144, f 145, f 146, f 147, f 148, f 149, f 150, f 151, f 152, f 153, f 154, f 155, f 156, f 157], defers := [] }
def Fact16 (N : Nat) (w : World) (i : Nat) (x : Value) : Prop :=
  match i with
  | 0 => ∃ A, x = .slice A 2 2 ∧ Pa.listAt w A Pa.twoL
  | 1 => x = .agg #[.int .u8 1, .string ⟨#[97, 112, 112, 47, 97]⟩, .string ⟨#[49]⟩]
  | 2 => x = .agg #[.int .u8 2, .string ⟨#[111, 112, 115, 47, 98]⟩, .string ⟨#[]⟩]
  | 3 => ∃ A, x = .slice A 2 2 ∧ listAt w A [put1, del1]
  | 4 => ∃ A, x = .agg #[.int .i64 3, .int .i64 1, .slice A 2 2] ∧ listAt w A [put1, del1]
  | 5 => ∃ A c, x = .agg #[.int .i64 3, .int .i64 1, .slice A 1 c] ∧ listAt w A [put1]
  | 6 => ∃ b, x = .pointer (some ⟨b, 0, none⟩) ∧ N < b ∧ w.heap[b]? = some (.cells #[.int .i64 0, .int .i64 0, .slice none 0 0] 31 (0, 0))
  | _ => True
theorem Fact16.mono {N : Nat} {w w' : World} (h : Below w.heap.size w w') (i : Nat) {x : Value} (g : Fact16 N w i x) : Fact16 N w' i x := by
  match i, g with
  | 0, ⟨A, e, l⟩ => exact ⟨A, e, l.below h⟩
  | 1, g => exact g
  | 2, g => exact g
  | 3, ⟨A, e, l⟩ => exact ⟨A, e, l.below h⟩
  | 4, ⟨A, e, l⟩ => exact ⟨A, e, l.below h⟩
  | 5, ⟨A, c, e, l⟩ => exact ⟨A, c, e, l.below h⟩
  | 6, ⟨b, e, hb, g⟩ => exact ⟨b, e, hb, (h.block _ (Sm.lt_of g)).trans g⟩
  | n + 7, _ => trivial
def Fin16 (w : World) (v : Nat → Value) : Prop := ∃ b A c, v 6 = .pointer (some ⟨b, 0, none⟩) ∧ b < w.heap.size ∧ (w.cell? ⟨b, 0, none⟩ = some (.int .i64 3) ∧ w.cell? ⟨b, 1, none⟩ = some (.int .i64 1) ∧ w.cell? ⟨b, 2, none⟩ = some (.slice A 1 c)) ∧ listAt w A [put1]
def Inv16 (N : Nat) (f : Nat → Value) (w0 : World) (listed : Array Bool) (a : Act) (w : World) : Prop := ∃ v : Nat → Value, a = F16 N f v ∧ Below N w0 w ∧ N < w.heap.size ∧ PutAt N w ∧ (listed.getD 7 false = true → Fin16 w v ∧ ∀ i, i < 7 → listed.getD i false = true) ∧ (listed.getD 7 false = false → ∀ i, i < 7 → listed.getD i false = true → Fact16 N w i (v i))
theorem size16 : kn16.size = 8 := by kernel_rfl
theorem back16 : (kn16.toList.zipIdx.all fun p => p.1.after.all fun e => e.on < p.2) = true := by kernel_rfl
theorem after16 (j : Nat) (o : Oper) (h : kn16[j]? = some o) : ∀ e ∈ o.after, e.on < j := by
  intro e he
  have h1 := List.all_eq_true.1 back16 (o, j) (by
    rw [List.mk_mem_zipIdx_iff_getElem?]
    simpa using h)
  have := Array.all_eq_true'.1 h1 e he
  simpa using this
/-- What one of the first seven operations does. -/
def St16 (N : Nat) (f : Nat → Value) (i : Nat) : Prop := ∀ (v : Nat → Value) (w : World) (o : Oper) (Q : Exit → Act → World → Prop) (K : Act → World → Prop), kn16[i]? = some o → N < w.heap.size → PutAt N w →
  (∀ e ∈ o.after, Region.binds .any e = true → Fact16 N w e.on (v e.on)) →
  (∀ x w', Below w.heap.size w w' → Fact16 N w' i x → K (F16 N f (upd v i x)) w') → wpOp Try.prog kn16 Q i K (F16 N f v) w
theorem of_run {N : Nat} {f v : Nat → Value} {w w' : World} {o : Oper} {Q : Exit → Act → World → Prop} {K : Act → World → Prop} {i : Nat} {x : Value} (ho : kn16[i]? = some o) (hg : o.guard = none) (hput : (F16 N f v).put o.dst x = F16 N f (upd v i x)) (hr : (execOp (F16 N f v).eval o).run Try.prog w = .ok (.value x) w') (hK : K (F16 N f (upd v i x)) w') : wpOp Try.prog kn16 Q i K (F16 N f v) w := by
  unfold wpOp
  simp only [ho]
  rw [if_pos (by unfold Region.wanted; rw [hg])]
  refine .inl ?_
  unfold Oper.wp
  rw [hr]
  show K ((F16 N f v).put o.dst x) w'
  rw [hput]
  exact hK
theorem of_call {N : Nat} {f v : Nat → Value} {w : World} {o : Oper} {Q : Exit → Act → World → Prop} {K : Act → World → Prop} {i : Nat} {fn : FuncId} {args : Array Value} {R : Ending → World → Prop} (ho : kn16[i]? = some o) (hg : o.guard = none) (hput : ∀ x, (F16 N f v).put o.dst x = F16 N f (upd v i x)) (hr : (execOp (F16 N f v).eval o).run Try.prog w = .ok (.enter fn args) w) (hc : Calls Try.prog fn args w R) (hK : ∀ e w', R e w' → ∃ x, e = .returned x ∧ K (F16 N f (upd v i x)) w') : wpOp Try.prog kn16 Q i K (F16 N f v) w := by
  unfold wpOp
  simp only [ho]
  rw [if_pos (by unfold Region.wanted; rw [hg])]
  refine .inl ?_
  unfold Oper.wp
  rw [hr]
  refine hc.mono fun e w' h => ?_
  obtain ⟨x, rfl, hk⟩ := hK e w' h
  show K ((F16 N f v).put o.dst x) w'
  rw [hput]
  exact hk

set_option maxRecDepth 100000 in
theorem s16_0 (N : Nat) (f : Nat → Value) : St16 N f 0 := by
  intro v w o Q K ho n g hn hK
  have e : kn16[0]? = some ⟨some 106, .call { callee := .value (.func 27), args := #[], argTypes := #[] }, 22, "closed.go:38", #[], none⟩ := by kernel_rfl
  obtain rfl := Option.some.inj (e.symm.trans ho)
  clear e
  refine of_call (fn := 27) (args := #[]) ho rfl (fun x => by kernel_rfl) (by kernel_rfl) (two12_any w) ?_
  rintro e w' ⟨⟨A, rfl, h⟩, b⟩
  exact ⟨_, rfl, hK _ _ b ⟨A, rfl, h⟩⟩
set_option maxRecDepth 100000 in
theorem s16_1 (N : Nat) (f : Nat → Value) : St16 N f 1 := by
  intro v w o Q K ho n g hn hK
  have e : kn16[1]? = some ⟨some 107, .load 37 (.tmp 1), 37, "closed.go:38", #[], none⟩ := by kernel_rfl
  obtain rfl := Option.some.inj (e.symm.trans ho)
  clear e
  obtain ⟨fs, hu⟩ := und_op
  have hr := run_loadVar_row (P := Try.prog) w N 37 37 #[.int .u8 1, .string ⟨#[97, 112, 112, 47, 97]⟩, .string ⟨#[49]⟩] (0, 0) _ g hu rfl (by kernel_rfl)
  refine of_run (x := .agg #[.int .u8 1, .string ⟨#[97, 112, 112, 47, 97]⟩, .string ⟨#[49]⟩]) (w' := w) ho rfl (by kernel_rfl) ?_ (hK _ _ (Below.refl _ w) rfl)
  unfold execOp
  simp only [show (F16 N f v).eval (.tmp 1) = .pointer (some ⟨N, 0, none⟩) from rfl, Instr.loadAt, Instr.sureAddr, Sem.run_bind, Sem.run_pure, Result.andThen_ok, hr]
set_option maxRecDepth 100000 in
theorem s16_2 (N : Nat) (f : Nat → Value) : St16 N f 2 := by
  intro v w o Q K ho n g hn hK
  have e : kn16[2]? = some ⟨some 108, .build 37 #[(0, .const (.int .u8 2)), (1, .const (.string ⟨#[111, 112, 115, 47, 98]⟩))], 37, "closed.go:38", #[], none⟩ := by kernel_rfl
  obtain rfl := Option.some.inj (e.symm.trans ho)
  clear e
  exact of_run ho rfl (by kernel_rfl) (run_bd 37 _ rfl [(0, .int .u8 2), (1, .string ⟨#[111, 112, 115, 47, 98]⟩)] rfl #[.int .u8 2, .string ⟨#[111, 112, 115, 47, 98]⟩, .string ⟨#[]⟩] (by kernel_rfl)) (hK _ _ (Below.refl _ w) rfl)
set_option maxRecDepth 100000 in
theorem s16_3 (N : Nat) (f : Nat → Value) : St16 N f 3 := by
  intro v w o Q K ho n g hn hK
  have e : kn16[3]? = some ⟨some 109, .buildSlice 23 2 #[(0, .tmp 107), (1, .tmp 108)], 23, "closed.go:38", #[⟨1, .data⟩, ⟨2, .data⟩], none⟩ := by kernel_rfl
  obtain rfl := Option.some.inj (e.symm.trans ho)
  clear e
  have h1 : v 1 = .agg #[.int .u8 1, .string ⟨#[97, 112, 112, 47, 97]⟩, .string ⟨#[49]⟩] := hn ⟨1, .data⟩ (by simp) rfl
  have h2 : v 2 = .agg #[.int .u8 2, .string ⟨#[111, 112, 115, 47, 98]⟩, .string ⟨#[]⟩] := hn ⟨2, .data⟩ (by simp) rfl
  refine of_run ho rfl (by kernel_rfl) (run_bs 23 37 2 _ rfl (by kernel_rfl) [(0, .agg #[.int .u8 1, .string ⟨#[97, 112, 112, 47, 97]⟩, .string ⟨#[49]⟩]), (1, .agg #[.int .u8 2, .string ⟨#[111, 112, 115, 47, 98]⟩, .string ⟨#[]⟩])] (by show [(0, v 1), (1, v 2)] = _; rw [h1, h2]) #[.int .u8 1, .string ⟨#[97, 112, 112, 47, 97]⟩, .string ⟨#[49]⟩, .int .u8 2, .string ⟨#[111, 112, 115, 47, 98]⟩, .string ⟨#[]⟩] (by kernel_rfl)) (hK _ _ (new_below w _) ⟨_, rfl, list_new w _ ?_⟩)
  intro k hk
  have hk : k < 2 := hk
  obtain rfl | rfl : k = 0 ∨ k = 1 := by omega
  all_goals exact ⟨rfl, rfl, rfl⟩
set_option maxRecDepth 100000 in
theorem s16_4 (N : Nat) (f : Nat → Value) : St16 N f 4 := by
  intro v w o Q K ho n g hn hK
  have e : kn16[4]? = some ⟨some 110, .build 31 #[(0, .const (.int .i64 3)), (1, .const (.int .i64 1)), (2, .tmp 109)], 31, "closed.go:38", #[⟨3, .data⟩], none⟩ := by kernel_rfl
  obtain rfl := Option.some.inj (e.symm.trans ho)
  clear e
  obtain ⟨A, hA, hl⟩ : Fact16 N w 3 (v 3) := hn ⟨3, .data⟩ (by simp) rfl
  exact of_run ho rfl (by kernel_rfl) (run_bd 31 _ rfl [(0, .int .i64 3), (1, .int .i64 1), (2, .slice A 2 2)] (by show [(0, _), (1, _), (2, v 3)] = _; rw [hA]; rfl) #[.int .i64 3, .int .i64 1, .slice A 2 2] (by kernel_rfl)) (hK _ _ (Below.refl _ w) ⟨A, rfl, hl⟩)
set_option maxRecDepth 100000 in
theorem s16_5 (N : Nat) (f : Nat → Value) : St16 N f 5 := by
  intro v w o Q K ho n g hn hK
  have e : kn16[5]? = some ⟨some 111, .call { callee := .value (.func 18), args := #[.tmp 106, .tmp 110], argTypes := #[22, 31] }, 31, "closed.go:38", #[⟨0, .data⟩, ⟨4, .data⟩, ⟨0, .chain⟩], none⟩ := by kernel_rfl
  obtain rfl := Option.some.inj (e.symm.trans ho)
  clear e
  obtain ⟨A, hA, hl⟩ : Fact16 N w 0 (v 0) := hn ⟨0, .data⟩ (by simp) rfl
  obtain ⟨C, hC, hm⟩ : Fact16 N w 4 (v 4) := hn ⟨4, .data⟩ (by simp) rfl
  have hf := baFilter_any 2 hl (by decide) ⟨3, 1, [put1, del1]⟩ 2 hm (by decide) (fun o ho => by have ho : o ∈ [put1, del1] := ho; simp only [List.mem_cons, List.not_mem_nil, or_false] at ho; rcases ho with rfl | rfl <;> decide)
  simp only [filt_known] at hf
  refine of_call (fn := 18) (args := #[.slice A 2 2, .agg #[.int .i64 3, .int .i64 1, .slice C 2 2]]) ho rfl (fun x => by kernel_rfl) ?_ hf ?_
  · rw [← hA, ← hC]; kernel_rfl
  · rintro e w' ⟨A, c, rfl, h, b⟩
    exact ⟨_, rfl, hK _ _ b ⟨A, c, rfl, h.listAt⟩⟩
set_option maxRecDepth 100000 in
theorem s16_6 (N : Nat) (f : Nat → Value) : St16 N f 6 := by
  intro v w o Q K ho n g hn hK
  have e : kn16[6]? = some ⟨some 9, .alloc 31, 0, "closed.go:38", #[], none⟩ := by kernel_rfl
  obtain rfl := Option.some.inj (e.symm.trans ho)
  clear e
  have g2 := heap_alloc_new w (.cells #[.int .i64 0, .int .i64 0, .slice none 0 0] 31)
  refine of_run (x := .pointer (some ⟨w.heap.size, 0, none⟩)) (w' := w.alloc (.cells #[.int .i64 0, .int .i64 0, .slice none 0 0] 31)) ho rfl (by kernel_rfl) ?_ (hK _ _ (new_below w _) ⟨_, rfl, n, g2⟩)
  unfold execOp
  go_simp
set_option maxRecDepth 100000 in
theorem s16_7 (N : Nat) (f v : Nat → Value) (w w0 : World) (Q : Exit → Act → World → Prop) (K : Act → World → Prop) (n : N < w.heap.size) (g : PutAt N w) (b0 : Below N w0 w) (h5 : Fact16 N w 5 (v 5)) (h6 : Fact16 N w 6 (v 6)) (hK : ∀ w', Below N w0 w' → N < w'.heap.size → PutAt N w' → Fin16 w' v → K (F16 N f v) w') : wpOp Try.prog kn16 Q 7 K (F16 N f v) w := by
  have ho : kn16[7]? = some ⟨none, .store 31 (.tmp 9) (.tmp 111), 0, "closed.go:38", #[⟨6, .data⟩, ⟨5, .data⟩, ⟨5, .chain⟩, ⟨0, .phase⟩, ⟨1, .phase⟩, ⟨2, .phase⟩, ⟨3, .phase⟩, ⟨4, .phase⟩, ⟨5, .phase⟩, ⟨6, .phase⟩], none⟩ := by kernel_rfl
  obtain ⟨A, c, e5, hl⟩ := h5
  obtain ⟨b, e6, hb, hg⟩ := h6
  unfold wpOp
  simp only [ho]
  rw [if_pos (by unfold Region.wanted; rfl)]
  refine .inl ?_
  unfold Oper.wp
  have z0 : w.frozen? ⟨b, 0, none⟩ = false := Sm.free_of hg 0
  have z1 : w.frozen? ⟨b, 1, none⟩ = false := Sm.free_of hg 1
  have z2 : w.frozen? ⟨b, 2, none⟩ = false := Sm.free_of hg 2
  obtain ⟨c0, c1, c2⟩ := row_three hg
  have hr : (execOp (F16 N f v).eval ⟨none, .store 31 (.tmp 9) (.tmp 111), 0, "closed.go:38", #[⟨6, .data⟩, ⟨5, .data⟩, ⟨5, .chain⟩, ⟨0, .phase⟩, ⟨1, .phase⟩, ⟨2, .phase⟩, ⟨3, .phase⟩, ⟨4, .phase⟩, ⟨5, .phase⟩, ⟨6, .phase⟩], none⟩).run Try.prog w = .ok .skip (((w.setCell ⟨b, 0, none⟩ (.int .i64 3)).setCell ⟨b, 1, none⟩ (.int .i64 1)).setCell ⟨b, 2, none⟩ (.slice A 1 c)) := by
    have q9 : (F16 N f v).eval (.tmp 9) = .pointer (some ⟨b, 0, none⟩) := e6
    have q11 : (F16 N f v).eval (.tmp 111) = .agg #[.int .i64 3, .int .i64 1, .slice A 1 c] := e5
    generalize (F16 N f v).eval = ρ at q9 q11 ⊢
    unfold execOp
    go_simp
  rw [hr]
  show K (F16 N f v) _
  have hbs := Sm.lt_of hg
  have hne : N ≠ b := by omega
  refine hK _ (((b0.setCell (Nat.le_of_lt hb) _).setCell (Nat.le_of_lt hb) _).setCell (Nat.le_of_lt hb) _) (by simpa using n) ?_ ⟨b, A, c, e6, by simpa using hbs, ?_, ?_⟩
  · unfold PutAt
    rw [Below.heap_setCell _ _ _ _ hne, Below.heap_setCell _ _ _ _ hne, Below.heap_setCell _ _ _ _ hne]
    exact g
  · refine ⟨?_, ?_, ?_⟩
    · rw [World.cell?_setCell_other _ _ _ _ (by simp), World.cell?_setCell_other _ _ _ _ (by simp)]
      go_simp
    · rw [World.cell?_setCell_other _ _ _ _ (by simp)]
      go_simp
    · go_simp
  · exact list_set3 hg (by intro k; simp) hl _ _ _
theorem all16 (N : Nat) (f : Nat → Value) : ∀ i, i < 7 → St16 N f i
  | 0, _ => s16_0 N f
  | 1, _ => s16_1 N f
  | 2, _ => s16_2 N f
  | 3, _ => s16_3 N f
  | 4, _ => s16_4 N f
  | 5, _ => s16_5 N f
  | 6, _ => s16_6 N f
  | n + 7, h => absurd h (by omega)
theorem upd_at (v : Nat → Value) (i : Nat) (x : Value) : upd v i x i = x := by unfold upd; rw [show Nat.beq i i = true from Nat.beq_refl i]; rfl
theorem upd_ne (v : Nat → Value) {i j : Nat} (x : Value) (h : j ≠ i) : upd v i x j = v j := by unfold upd; rw [show Nat.beq j i = false from by cases hh : Nat.beq j i; rfl; exact absurd (Nat.eq_of_beq_eq_true hh) h]; rfl
theorem kn16_any {Q : Exit → Act → World → Prop} (N : Nat) (f v0 : Nat → Value) (w0 w : World) (hb : Below N w0 w) (hN : N < w.heap.size) (g : PutAt N w) (a : Act) (ha : a = F16 N f v0)
    (H : ∀ (v : Nat → Value) (w' : World), Below N w0 w' → N < w'.heap.size → PutAt N w' → Fin16 w' v → Q .normal (F16 N f v) w') :
    (Code.region 16 kn16 true).wp Try.prog Q a w := by
  subst ha
  refine wp_region_any (by kernel_rfl) ?_
  refine wpAny_inv after16 (Inv16 N f w0) ?_ ?_ _ _ _ _ (by simp) ?_ ?_
  · rintro listed a w1 i o ⟨v, rfl, b1, n1, g1, d1, f1⟩ hi hu ho hn
    have hi8 : i < 8 := by have := (Array.getElem?_eq_some_iff.1 ho).1; rw [size16] at this; exact this
    by_cases hi7 : i = 7
    · subst hi7
      have e : kn16[7]? = some ⟨none, .store 31 (.tmp 9) (.tmp 111), 0, "closed.go:38", #[⟨6, .data⟩, ⟨5, .data⟩, ⟨5, .chain⟩, ⟨0, .phase⟩, ⟨1, .phase⟩, ⟨2, .phase⟩, ⟨3, .phase⟩, ⟨4, .phase⟩, ⟨5, .phase⟩, ⟨6, .phase⟩], none⟩ := by kernel_rfl
      obtain rfl := Option.some.inj (e.symm.trans ho)
      have l5 : listed.getD 5 false = true := hn ⟨5, .data⟩ (by simp) rfl
      have l6 : listed.getD 6 false = true := hn ⟨6, .data⟩ (by simp) rfl
      have hat : (listed.setIfInBounds 7 true).getD 7 false = true := by simp [hi]
      have all : ∀ j, j < 7 → (listed.setIfInBounds 7 true).getD j false = true := fun j hj => by
        rw [getD_set_ne false (by omega)]
        obtain rfl | rfl | rfl | rfl | rfl | rfl | rfl : j = 0 ∨ j = 1 ∨ j = 2 ∨ j = 3 ∨ j = 4 ∨ j = 5 ∨ j = 6 := by omega
        · exact hn ⟨0, .phase⟩ (by simp) rfl
        · exact hn ⟨1, .phase⟩ (by simp) rfl
        · exact hn ⟨2, .phase⟩ (by simp) rfl
        · exact hn ⟨3, .phase⟩ (by simp) rfl
        · exact hn ⟨4, .phase⟩ (by simp) rfl
        · exact hn ⟨5, .phase⟩ (by simp) rfl
        · exact hn ⟨6, .phase⟩ (by simp) rfl
      exact s16_7 N f v w1 w0 Q _ n1 g1 b1 (f1 hu 5 (by omega) l5) (f1 hu 6 (by omega) l6) fun w' b2 n2 g2 hF => ⟨v, rfl, b2, n2, g2, fun _ => ⟨hF, all⟩, fun h => by rw [hat] at h; cases h⟩
    · have hi7' : i < 7 := by omega
      cases h7 : listed.getD 7 false with
      | true =>
        have := (d1 h7).2 i hi7'
        rw [hu] at this
        cases this
      | false =>
        refine all16 N f i hi7' v w1 o Q _ ho n1 g1 (fun e he hb => f1 h7 e.on (by have := after16 i o ho e he; omega) (hn e he hb)) fun x w' b2 f2 => ?_
        refine ⟨upd v i x, rfl, b1.trans (b2.mono (Nat.le_of_lt n1)), Nat.lt_of_lt_of_le n1 b2.size, (b2.block N n1).trans g1, fun h => ?_, fun _ j hj hl => ?_⟩
        · rw [getD_set_ne false (by omega), h7] at h
          cases h
        · by_cases hji : j = i
          · subst hji
            rw [upd_at]
            exact f2
          · rw [upd_ne v x hji]
            rw [getD_set_ne false (Ne.symm hji)] at hl
            exact (f1 h7 j hj hl).mono b2
  · rintro listed a w1 ⟨v, rfl, b1, n1, g1, d1, f1⟩ hall
    exact H v w1 b1 n1 g1 (d1 (hall 7 (by rw [size16]; omega))).1
  · unfold still
    exact Nat.le_trans (List.length_filter_le _ _) (by simp)
  · have no : ∀ i, (Array.replicate kn16.size false).getD i false = false := fun i => by
      rw [Array.getD_eq_getD_getElem?, Array.getElem?_replicate]
      split <;> rfl
    exact ⟨_, rfl, hb.drew, hN, g, fun h => by (rw [no] at h; cases h), fun _ i _ h => by (rw [no] at h; cases h)⟩
theorem kn16_at {Q : Exit → Act → World → Prop} {a : Act} (N : Nat) (w0 w : World) (hb : Below N w0 w) (hN : N < w.heap.size) (g : PutAt N w) (ha : a = F16 N (fun i => a.tmps.getD i undef) (fun j => a.tmps.getD (bif Nat.beq j 6 then 9 else j + 106) undef))
    (H : ∀ (f v : Nat → Value) (w' : World), Below N w0 w' → N < w'.heap.size → PutAt N w' → Fin16 w' v → Q .normal (F16 N f v) w') :
    (Code.region 16 kn16 true).wp Try.prog Q a w := kn16_any N _ _ w0 w hb hN g a ha fun v => H _ v
/-- What region 17 reads. -/
def Kn17 (N q b off : Nat) (A : Option Addr) (c : Nat) (w : World) : Prop :=
  (w.cell? ⟨N, 0, none⟩ = some (.int .u8 1) ∧ w.cell? ⟨N, 1, none⟩ = some (.string ⟨#[97, 112, 112, 47, 97]⟩) ∧ w.cell? ⟨N, 2, none⟩ = some (.string ⟨#[49]⟩)) ∧
  (w.cell? ⟨q, 0, none⟩ = some (.int .i64 3) ∧ w.cell? ⟨q, 1, none⟩ = some (.int .i64 1) ∧ w.cell? ⟨q, 2, none⟩ = some (.slice A 1 c)) ∧
  (w.cell? ⟨b, off, none⟩ = some (.int .u8 1) ∧ w.cell? ⟨b, off + 1, none⟩ = some (.string ⟨#[97, 112, 112, 47, 97]⟩) ∧ w.cell? ⟨b, off + 2, none⟩ = some (.string ⟨#[49]⟩))
theorem cell_low {w w' : World} (k : Below w.heap.size w w') {a : Addr} {v : Value} (h : w.cell? a = some v) : w'.cell? a = some v := (k.cell (World.block_lt_of_cell? w a h)).trans h
theorem Kn17.below {N q b off : Nat} {A : Option Addr} {c : Nat} {w w' : World} (h : Kn17 N q b off A c w) (k : Below w.heap.size w w') : Kn17 N q b off A c w' := by
  obtain ⟨⟨a0, a1, a2⟩, ⟨b0, b1, b2⟩, c0, c1, c2⟩ := h
  exact ⟨⟨cell_low k a0, cell_low k a1, cell_low k a2⟩, ⟨cell_low k b0, cell_low k b1, cell_low k b2⟩, cell_low k c0, cell_low k c1, cell_low k c2⟩
theorem Kn17.of {N q : Nat} {A : Option Addr} {c : Nat} {w : World} (hg : PutAt N w) (hq : w.cell? ⟨q, 0, none⟩ = some (.int .i64 3) ∧ w.cell? ⟨q, 1, none⟩ = some (.int .i64 1) ∧ w.cell? ⟨q, 2, none⟩ = some (.slice A 1 c)) (hl : listAt w A [put1]) : ∃ b off, A = some ⟨b, off, none⟩ ∧ Kn17 N q b off A c w := by
  rcases hl with h | ⟨b, off, e, hb, h⟩
  · cases h
  · have h0 := h 0 (by decide)
    rw [Nat.zero_mul, Nat.add_zero] at h0
    exact ⟨b, off, e, row_three hg, hq, h0⟩
end Ba
end Go.Proofs.Ytlndggbidmmodaa
