/-
  The table that BatchKnown builds in one statement: eleven slices that don't hang on one another, in whatever order they come up.
-/
import Derived.Test.YtlndggbidmmodaaBaInv
import Derived.Test.YtlndggbidmmodaaBaAwake
import Derived.Great.BuildSlice
import Derived.Great.Walk
namespace Go.Proofs.Ytlndggbidmmodaa
open Go.RowKit Pk
namespace Ba
def regionOps (n : Nat) : Code → Option (Array Oper)
  | .region id ops _ => if id == n then some ops else none
  | .seq a b => match regionOps n a with | some x => some x | none => regionOps n b
  | .cond _ a b => match regionOps n a with | some x => some x | none => regionOps n b
  | .block _ a => regionOps n a
  | .loop a => regionOps n a
  | .scope a => regionOps n a
  | _ => none
noncomputable def kn3 : Array Oper := ((Try.f10.body.bind (regionOps 3))).getD #[]
theorem region_of {P : Program} {ops : Array Oper} (ops' : Array Oper) {id : Nat} {Q : Exit → Act → World → Prop} {a : Act} {w : World} (h : ops = ops') (H : (Code.region id ops' true).wp P Q a w) : (Code.region id ops true).wp P Q a w := by subst h; exact H
inductive Kd where
  | val (x : Value)
  | sl (l : List Op)
  | row (l : List Op) (e : Int)
  | tab

def tab (t : ByteArray) : List (List Op × Int) := [([⟨1, ⟨#[97, 112, 112, 47, 97]⟩, ⟨#[49]⟩⟩], 0), ([], 1), ([⟨1, ⟨#[119, 101, 98, 47, 97]⟩, ⟨#[]⟩⟩], 21), ([⟨2, ⟨#[97, 112, 112, 47, 97]⟩, ⟨#[49]⟩⟩], 1), ([⟨3, ⟨#[97, 112, 112, 47, 97]⟩, ⟨#[]⟩⟩], 10), ([⟨1, ⟨#[97, 112, 112]⟩, ⟨#[]⟩⟩], 20), ([⟨1, ⟨#[97, 112, 112, 47, 97]⟩, ⟨#[49]⟩⟩, ⟨1, ⟨#[97, 112, 112, 47, 97]⟩, ⟨#[49]⟩⟩, ⟨1, ⟨#[97, 112, 112, 47, 97]⟩, ⟨#[49]⟩⟩, ⟨1, ⟨#[97, 112, 112, 47, 97]⟩, ⟨#[49]⟩⟩], 0), ([⟨1, ⟨#[97, 112, 112, 47, 97]⟩, ⟨#[49]⟩⟩, ⟨1, ⟨#[97, 112, 112, 47, 97]⟩, ⟨#[49]⟩⟩, ⟨1, ⟨#[97, 112, 112, 47, 97]⟩, ⟨#[49]⟩⟩, ⟨1, ⟨#[97, 112, 112, 47, 97]⟩, ⟨#[49]⟩⟩, ⟨1, ⟨#[97, 112, 112, 47, 97]⟩, ⟨#[49]⟩⟩], 3), ([⟨1, ⟨#[111, 112, 115, 47, 97]⟩, t⟩], 3), ([⟨1, ⟨#[111, 112, 115, 47, 97]⟩, (t.extract 0 32)⟩], 0), ([⟨2, ⟨#[111, 112, 115, 47, 97]⟩, ⟨#[]⟩⟩], 0)]
def kds (t : ByteArray) : List Kd := [.val (.agg #[.int .u8 1, .string ⟨#[97, 112, 112, 47, 97]⟩, .string ⟨#[49]⟩]), .sl [⟨1, ⟨#[97, 112, 112, 47, 97]⟩, ⟨#[49]⟩⟩], .row [⟨1, ⟨#[97, 112, 112, 47, 97]⟩, ⟨#[49]⟩⟩] 0, .row [] 1, .val (.agg #[.int .u8 1, .string ⟨#[119, 101, 98, 47, 97]⟩, .string ⟨#[]⟩]), .sl [⟨1, ⟨#[119, 101, 98, 47, 97]⟩, ⟨#[]⟩⟩], .row [⟨1, ⟨#[119, 101, 98, 47, 97]⟩, ⟨#[]⟩⟩] 21, .val (.agg #[.int .u8 2, .string ⟨#[97, 112, 112, 47, 97]⟩, .string ⟨#[49]⟩]), .sl [⟨2, ⟨#[97, 112, 112, 47, 97]⟩, ⟨#[49]⟩⟩], .row [⟨2, ⟨#[97, 112, 112, 47, 97]⟩, ⟨#[49]⟩⟩] 1, .val (.agg #[.int .u8 3, .string ⟨#[97, 112, 112, 47, 97]⟩, .string ⟨#[]⟩]), .sl [⟨3, ⟨#[97, 112, 112, 47, 97]⟩, ⟨#[]⟩⟩], .row [⟨3, ⟨#[97, 112, 112, 47, 97]⟩, ⟨#[]⟩⟩] 10, .val (.agg #[.int .u8 1, .string ⟨#[97, 112, 112]⟩, .string ⟨#[]⟩]), .sl [⟨1, ⟨#[97, 112, 112]⟩, ⟨#[]⟩⟩], .row [⟨1, ⟨#[97, 112, 112]⟩, ⟨#[]⟩⟩] 20, .val (.agg #[.int .u8 1, .string ⟨#[97, 112, 112, 47, 97]⟩, .string ⟨#[49]⟩]), .val (.agg #[.int .u8 1, .string ⟨#[97, 112, 112, 47, 97]⟩, .string ⟨#[49]⟩]), .val (.agg #[.int .u8 1, .string ⟨#[97, 112, 112, 47, 97]⟩, .string ⟨#[49]⟩]), .val (.agg #[.int .u8 1, .string ⟨#[97, 112, 112, 47, 97]⟩, .string ⟨#[49]⟩]), .sl [⟨1, ⟨#[97, 112, 112, 47, 97]⟩, ⟨#[49]⟩⟩, ⟨1, ⟨#[97, 112, 112, 47, 97]⟩, ⟨#[49]⟩⟩, ⟨1, ⟨#[97, 112, 112, 47, 97]⟩, ⟨#[49]⟩⟩, ⟨1, ⟨#[97, 112, 112, 47, 97]⟩, ⟨#[49]⟩⟩], .row [⟨1, ⟨#[97, 112, 112, 47, 97]⟩, ⟨#[49]⟩⟩, ⟨1, ⟨#[97, 112, 112, 47, 97]⟩, ⟨#[49]⟩⟩, ⟨1, ⟨#[97, 112, 112, 47, 97]⟩, ⟨#[49]⟩⟩, ⟨1, ⟨#[97, 112, 112, 47, 97]⟩, ⟨#[49]⟩⟩] 0, .val (.agg #[.int .u8 1, .string ⟨#[97, 112, 112, 47, 97]⟩, .string ⟨#[49]⟩]), .val (.agg #[.int .u8 1, .string ⟨#[97, 112, 112, 47, 97]⟩, .string ⟨#[49]⟩]), .val (.agg #[.int .u8 1, .string ⟨#[97, 112, 112, 47, 97]⟩, .string ⟨#[49]⟩]), .val (.agg #[.int .u8 1, .string ⟨#[97, 112, 112, 47, 97]⟩, .string ⟨#[49]⟩]), .val (.agg #[.int .u8 1, .string ⟨#[97, 112, 112, 47, 97]⟩, .string ⟨#[49]⟩]), .sl [⟨1, ⟨#[97, 112, 112, 47, 97]⟩, ⟨#[49]⟩⟩, ⟨1, ⟨#[97, 112, 112, 47, 97]⟩, ⟨#[49]⟩⟩, ⟨1, ⟨#[97, 112, 112, 47, 97]⟩, ⟨#[49]⟩⟩, ⟨1, ⟨#[97, 112, 112, 47, 97]⟩, ⟨#[49]⟩⟩, ⟨1, ⟨#[97, 112, 112, 47, 97]⟩, ⟨#[49]⟩⟩], .row [⟨1, ⟨#[97, 112, 112, 47, 97]⟩, ⟨#[49]⟩⟩, ⟨1, ⟨#[97, 112, 112, 47, 97]⟩, ⟨#[49]⟩⟩, ⟨1, ⟨#[97, 112, 112, 47, 97]⟩, ⟨#[49]⟩⟩, ⟨1, ⟨#[97, 112, 112, 47, 97]⟩, ⟨#[49]⟩⟩, ⟨1, ⟨#[97, 112, 112, 47, 97]⟩, ⟨#[49]⟩⟩] 3, .val (.string t), .val (.agg #[.int .u8 1, .string ⟨#[111, 112, 115, 47, 97]⟩, .string t]), .sl [⟨1, ⟨#[111, 112, 115, 47, 97]⟩, t⟩], .row [⟨1, ⟨#[111, 112, 115, 47, 97]⟩, t⟩] 3, .val (.string t), .val (.string (t.extract 0 32)), .val (.agg #[.int .u8 1, .string ⟨#[111, 112, 115, 47, 97]⟩, .string (t.extract 0 32)]), .sl [⟨1, ⟨#[111, 112, 115, 47, 97]⟩, (t.extract 0 32)⟩], .row [⟨1, ⟨#[111, 112, 115, 47, 97]⟩, (t.extract 0 32)⟩] 0, .val (.agg #[.int .u8 2, .string ⟨#[111, 112, 115, 47, 97]⟩, .string ⟨#[]⟩]), .sl [⟨2, ⟨#[111, 112, 115, 47, 97]⟩, ⟨#[]⟩⟩], .row [⟨2, ⟨#[111, 112, 115, 47, 97]⟩, ⟨#[]⟩⟩] 0, .tab, .tab]
def TabAt (w : World) (b : Nat) (T : List (List Op × Int)) : Prop := ∀ j (hj : j < T.length), ∃ A, w.cell? ⟨b, j * 2, none⟩ = some (.slice A T[j].1.length T[j].1.length) ∧ w.cell? ⟨b, j * 2 + 1, none⟩ = some (.int .i64 T[j].2) ∧ listAt w A T[j].1
def Fact (t : ByteArray) (w : World) : Kd → Value → Prop
  | .val y, x => x = y
  | .sl l, x => ∃ A, x = .slice A l.length l.length ∧ listAt w A l
  | .row l e, x => ∃ A, x = .agg #[.slice A l.length l.length, .int .i64 e] ∧ listAt w A l
  | .tab, x => ∃ b, x = .slice (some ⟨b, 0, none⟩) 11 11 ∧ b < w.heap.size ∧ TabAt w b (tab t)
theorem Fact.mono {t : ByteArray} {w w' : World} (h : Below w.heap.size w w') : ∀ {k : Kd} {x : Value}, Fact t w k x → Fact t w' k x
  | .val _, _, f => f
  | .sl _, _, ⟨A, e, l⟩ => ⟨A, e, l.below h⟩
  | .row _ _, _, ⟨A, e, l⟩ => ⟨A, e, l.below h⟩
  | .tab, _, ⟨b, e, hb, T⟩ => ⟨b, e, Nat.lt_of_lt_of_le hb h.size, fun j hj => by
      obtain ⟨A, c0, c1, l⟩ := T j hj
      exact ⟨A, (h.cell (p := ⟨b, j * 2, none⟩) hb).trans c0, (h.cell (p := ⟨b, j * 2 + 1, none⟩) hb).trans c1, l.below h⟩⟩
def upd (v : Nat → Value) (i : Nat) (x : Value) : Nat → Value := fun j => bif Nat.beq j i then x else v j

def knF (N : Nat) (t : ByteArray) (v : Nat → Value) : Act := { tmps := #[.bool false, .pointer (some ⟨N, 0, none⟩), .string t, v 42, undef, undef, undef, undef, undef, undef, .agg #[.int .u8 1, .string ⟨#[97, 112, 112, 47, 97]⟩, .string ⟨#[49]⟩], .string t, v 0, v 1, v 2, v 3, v 4, v 5, v 6, v 7, v 8, v 9, v 10, v 11, v 12, v 13, v 14, v 15, v 16, v 17, v 18, v 19, v 20, v 21, v 22, v 23, v 24, v 25, v 26, v 27, v 28, v 29, v 30, v 31, v 32, v 33, v 34, v 35, v 36, v 37, v 38, v 39, v 40, v 41, undef, undef, undef, undef, undef, undef, undef, undef, undef, undef, undef, undef, undef, undef, undef, undef, undef, undef, undef, undef, undef, undef, undef, undef, undef, undef, undef, undef, undef, undef, undef, undef, undef, undef, undef, undef, undef, undef, undef, undef, undef, undef, undef, undef, undef, undef, undef, undef, undef, undef, undef, undef, undef, undef, undef, undef, undef, undef, undef, undef, undef, undef, undef, undef, undef, undef, undef, undef, undef, undef, undef, undef, undef, undef, undef, undef, undef, undef, undef, undef, undef, undef, undef, undef, undef, undef, undef, undef, undef, undef, undef, undef, undef, undef, undef, undef, undef, undef, undef, undef, undef, undef, undef, undef], defers := [] }
def PutAt (N : Nat) (w : World) : Prop := w.heap[N]? = some (.cells #[.int .u8 1, .string ⟨#[97, 112, 112, 47, 97]⟩, .string ⟨#[49]⟩] 37 (0, 0))
/-- What one operation does: it yields what its kind says, and harms nothing. -/
def St (N : Nat) (t : ByteArray) (i : Nat) : Prop := ∀ (v : Nat → Value) (w : World) (o : Oper), kn3[i]? = some o → PutAt N w →
  (∀ e ∈ o.after, Region.binds .any e = true → Fact t w ((kds t).getD e.on .tab) (v e.on)) →
  o.guard = none ∧ (∀ x, (knF N t v).put o.dst x = knF N t (upd v i x)) ∧ ∃ x w', (execOp (knF N t v).eval o).run Try.prog w = .ok (.value x) w' ∧ Below w.heap.size w w' ∧ Fact t w' ((kds t).getD i .tab) x
section
variable {P : Program}
theorem run_bd {o : Oper} {ρ : Operand → Value} {w : World} (t : TypeId) (parts : Array (Nat × Operand)) (ho : o.op = .build t parts) (vals : List (Nat × Value)) (hp : parts.toList.map (fun p => (p.1, ρ p.2)) = vals) (cells : Array Value) (hf : P.built t vals = some cells) : (execOp ρ o).run P w = .ok (.value (.agg cells)) w := by
  have hr := run_build (P := P) w t (parts.map fun x => (x.1, ρ x.2)) cells (by rw [Array.toList_map, hp]; exact hf)
  unfold execOp
  simp only [ho, Sem.run_bind, hr, Result.andThen_ok, Sem.run_pure]
theorem run_bs {o : Oper} {ρ : Operand → Value} {w : World} (t e : TypeId) (len : Nat) (parts : Array (Nat × Operand)) (ho : o.op = .buildSlice t len parts) (hu : P.underlying t = some (.slice e)) (vals : List (Nat × Value)) (hp : parts.toList.map (fun p => (p.1, ρ p.2)) = vals) (cells : Array Value) (hf : P.builtSlice e len vals = some cells) : (execOp ρ o).run P w = .ok (.value (.slice (some ⟨w.heap.size, 0, none⟩) len len)) (w.alloc (.cells cells e)) := by
  unfold Program.builtSlice at hf
  cases hie : P.info? e with
  | none => simp [hie] at hf
  | some ie =>
    cases hz : ie.zero with
    | none => simp [hie, hz] at hf
    | some z =>
      simp only [hie, hz] at hf
      split at hf
      · cases hf
      · rename_i hc
        have hr := run_buildSlice (P := P) w t e len (parts.map fun x => (x.1, ρ x.2)) cells ie z hu hie hz (fun h => hc (.inl h)) (fun h => hc (.inr h)) (by rw [Array.toList_map, hp]; exact hf)
        unfold execOp
        simp only [ho, Sem.run_bind, hr, Result.andThen_ok, Sem.run_pure]
end
theorem list_new (w : World) {cs : Array Value} (l : List Op) (h : ∀ k (hk : k < l.length), cs[k * 3]? = some (.int .u8 (l[k].k : Int)) ∧ cs[k * 3 + 1]? = some (.string l[k].p) ∧ cs[k * 3 + 2]? = some (.string l[k].v)) : listAt (w.alloc (.cells cs 37)) (some ⟨w.heap.size, 0, none⟩) l := by
  have g := heap_alloc_new w (.cells cs 37)
  refine .inr ⟨w.heap.size, 0, rfl, Sm.lt_of g, fun k hk => ?_⟩
  obtain ⟨h0, h1, h2⟩ := h k hk
  unfold opAt
  rw [Nat.zero_add]
  exact ⟨Sm.cells_of g _ _ h0, Sm.cells_of g _ _ h1, Sm.cells_of g _ _ h2⟩
theorem new_below (w : World) (o : Obj) : Below w.heap.size w (w.alloc o) := (Below.refl _ w).alloc (Nat.le_refl _) _

set_option maxRecDepth 100000 in
theorem kn_0 (N : Nat) (t : ByteArray) (_ht : t.size = 33) : St N t 0 := by
  intro v w o ho g hn
  have e : kn3[0]? = some ⟨some 12, .load 37 (.tmp 1), 37, "closed.go:14", #[], none⟩ := by kernel_rfl
  obtain rfl := Option.some.inj (e.symm.trans ho)
  clear e ho
  refine ⟨rfl, fun x => by kernel_rfl, ?_⟩
  refine ⟨(.agg #[.int .u8 1, .string ⟨#[97, 112, 112, 47, 97]⟩, .string ⟨#[49]⟩]), w, ?_, Below.refl _ w, rfl⟩
  obtain ⟨fs, hu⟩ := und_op
  have hr := run_loadVar_row (P := Try.prog) w N 37 37 #[.int .u8 1, .string ⟨#[97, 112, 112, 47, 97]⟩, .string ⟨#[49]⟩] (0, 0) _ g hu rfl (by kernel_rfl)
  unfold execOp
  simp only [show (knF N t v).eval (.tmp 1) = .pointer (some ⟨N, 0, none⟩) from rfl, Instr.loadAt, Instr.sureAddr, Sem.run_bind, Sem.run_pure, Result.andThen_ok, hr]
set_option maxRecDepth 100000 in
theorem kn_1 (N : Nat) (t : ByteArray) (_ht : t.size = 33) : St N t 1 := by
  intro v w o ho g hn
  have e : kn3[1]? = some ⟨some 13, .buildSlice 23 1 #[(0, .tmp 12)], 23, "closed.go:14", #[⟨0, .data⟩], none⟩ := by kernel_rfl
  obtain rfl := Option.some.inj (e.symm.trans ho)
  clear e ho
  have h0 : Fact t w (.val (.agg #[.int .u8 1, .string ⟨#[97, 112, 112, 47, 97]⟩, .string ⟨#[49]⟩])) (v 0) := hn ⟨0, .data⟩ (by simp) rfl
  refine ⟨rfl, fun x => by kernel_rfl, ?_⟩
  refine ⟨_, w.alloc (.cells #[.int .u8 1, .string ⟨#[97, 112, 112, 47, 97]⟩, .string ⟨#[49]⟩] 37), run_bs 23 37 1 _ rfl (by kernel_rfl) [(0, (.agg #[.int .u8 1, .string ⟨#[97, 112, 112, 47, 97]⟩, .string ⟨#[49]⟩]))] (by show [(0, v 0)] = _; rw [show v 0 = _ from h0]) _ (by kernel_rfl), new_below w _, _, rfl, list_new w _ ?_⟩
  intro k hk
  have hk : k < 1 := hk
  obtain rfl : k = 0 := by omega
  all_goals exact ⟨rfl, rfl, rfl⟩
set_option maxRecDepth 100000 in
theorem kn_2 (N : Nat) (t : ByteArray) (_ht : t.size = 33) : St N t 2 := by
  intro v w o ho g hn
  have e : kn3[2]? = some ⟨some 14, .build 48 #[(0, .tmp 13), (1, .const (.int .i64 0))], 48, "closed.go:14", #[⟨1, .data⟩], none⟩ := by kernel_rfl
  obtain rfl := Option.some.inj (e.symm.trans ho)
  clear e ho
  have h1 : Fact t w (.sl [⟨1, ⟨#[97, 112, 112, 47, 97]⟩, ⟨#[49]⟩⟩]) (v 1) := hn ⟨1, .data⟩ (by simp) rfl
  refine ⟨rfl, fun x => by kernel_rfl, ?_⟩
  obtain ⟨A, hA, hl⟩ := h1
  refine ⟨.agg #[.slice A 1 1, .int .i64 0], w, run_bd 48 _ rfl [(0, .slice A 1 1), (1, .int .i64 0)] (by show [(0, v 1), (1, _)] = _; rw [hA]; rfl) _ (by kernel_rfl), Below.refl _ w, A, rfl, hl⟩
set_option maxRecDepth 100000 in
theorem kn_3 (N : Nat) (t : ByteArray) (_ht : t.size = 33) : St N t 3 := by
  intro v w o ho g hn
  have e : kn3[3]? = some ⟨some 15, .build 48 #[(0, .const (.slice none 0 0)), (1, .const (.int .i64 1))], 48, "closed.go:14", #[], none⟩ := by kernel_rfl
  obtain rfl := Option.some.inj (e.symm.trans ho)
  clear e ho
  refine ⟨rfl, fun x => by kernel_rfl, ?_⟩
  refine ⟨_, w, run_bd 48 _ rfl [(0, .slice none 0 0), (1, .int .i64 1)] rfl #[.slice none 0 0, .int .i64 1] (by kernel_rfl), Below.refl _ w, none, rfl, .inl rfl⟩
set_option maxRecDepth 100000 in
theorem kn_4 (N : Nat) (t : ByteArray) (_ht : t.size = 33) : St N t 4 := by
  intro v w o ho g hn
  have e : kn3[4]? = some ⟨some 16, .build 37 #[(0, .const (.int .u8 1)), (1, .const (.string ⟨#[119, 101, 98, 47, 97]⟩))], 37, "closed.go:14", #[], none⟩ := by kernel_rfl
  obtain rfl := Option.some.inj (e.symm.trans ho)
  clear e ho
  refine ⟨rfl, fun x => by kernel_rfl, ?_⟩
  refine ⟨(.agg #[.int .u8 1, .string ⟨#[119, 101, 98, 47, 97]⟩, .string ⟨#[]⟩]), w, run_bd 37 _ rfl [(0, .int .u8 1), (1, .string ⟨#[119, 101, 98, 47, 97]⟩)] (rfl) _ (by kernel_rfl), Below.refl _ w, rfl⟩
set_option maxRecDepth 100000 in
theorem kn_5 (N : Nat) (t : ByteArray) (_ht : t.size = 33) : St N t 5 := by
  intro v w o ho g hn
  have e : kn3[5]? = some ⟨some 17, .buildSlice 23 1 #[(0, .tmp 16)], 23, "closed.go:14", #[⟨4, .data⟩], none⟩ := by kernel_rfl
  obtain rfl := Option.some.inj (e.symm.trans ho)
  clear e ho
  have h4 : Fact t w (.val (.agg #[.int .u8 1, .string ⟨#[119, 101, 98, 47, 97]⟩, .string ⟨#[]⟩])) (v 4) := hn ⟨4, .data⟩ (by simp) rfl
  refine ⟨rfl, fun x => by kernel_rfl, ?_⟩
  refine ⟨_, w.alloc (.cells #[.int .u8 1, .string ⟨#[119, 101, 98, 47, 97]⟩, .string ⟨#[]⟩] 37), run_bs 23 37 1 _ rfl (by kernel_rfl) [(0, (.agg #[.int .u8 1, .string ⟨#[119, 101, 98, 47, 97]⟩, .string ⟨#[]⟩]))] (by show [(0, v 4)] = _; rw [show v 4 = _ from h4]) _ (by kernel_rfl), new_below w _, _, rfl, list_new w _ ?_⟩
  intro k hk
  have hk : k < 1 := hk
  obtain rfl : k = 0 := by omega
  all_goals exact ⟨rfl, rfl, rfl⟩
set_option maxRecDepth 100000 in
theorem kn_6 (N : Nat) (t : ByteArray) (_ht : t.size = 33) : St N t 6 := by
  intro v w o ho g hn
  have e : kn3[6]? = some ⟨some 18, .build 48 #[(0, .tmp 17), (1, .const (.int .i64 21))], 48, "closed.go:14", #[⟨5, .data⟩], none⟩ := by kernel_rfl
  obtain rfl := Option.some.inj (e.symm.trans ho)
  clear e ho
  have h5 : Fact t w (.sl [⟨1, ⟨#[119, 101, 98, 47, 97]⟩, ⟨#[]⟩⟩]) (v 5) := hn ⟨5, .data⟩ (by simp) rfl
  refine ⟨rfl, fun x => by kernel_rfl, ?_⟩
  obtain ⟨A, hA, hl⟩ := h5
  refine ⟨.agg #[.slice A 1 1, .int .i64 21], w, run_bd 48 _ rfl [(0, .slice A 1 1), (1, .int .i64 21)] (by show [(0, v 5), (1, _)] = _; rw [hA]; rfl) _ (by kernel_rfl), Below.refl _ w, A, rfl, hl⟩
set_option maxRecDepth 100000 in
theorem kn_7 (N : Nat) (t : ByteArray) (_ht : t.size = 33) : St N t 7 := by
  intro v w o ho g hn
  have e : kn3[7]? = some ⟨some 19, .build 37 #[(0, .const (.int .u8 2)), (1, .const (.string ⟨#[97, 112, 112, 47, 97]⟩)), (2, .const (.string ⟨#[49]⟩))], 37, "closed.go:14", #[], none⟩ := by kernel_rfl
  obtain rfl := Option.some.inj (e.symm.trans ho)
  clear e ho
  refine ⟨rfl, fun x => by kernel_rfl, ?_⟩
  refine ⟨(.agg #[.int .u8 2, .string ⟨#[97, 112, 112, 47, 97]⟩, .string ⟨#[49]⟩]), w, run_bd 37 _ rfl [(0, .int .u8 2), (1, .string ⟨#[97, 112, 112, 47, 97]⟩), (2, .string ⟨#[49]⟩)] (rfl) _ (by kernel_rfl), Below.refl _ w, rfl⟩
set_option maxRecDepth 100000 in
theorem kn_8 (N : Nat) (t : ByteArray) (_ht : t.size = 33) : St N t 8 := by
  intro v w o ho g hn
  have e : kn3[8]? = some ⟨some 20, .buildSlice 23 1 #[(0, .tmp 19)], 23, "closed.go:14", #[⟨7, .data⟩], none⟩ := by kernel_rfl
  obtain rfl := Option.some.inj (e.symm.trans ho)
  clear e ho
  have h7 : Fact t w (.val (.agg #[.int .u8 2, .string ⟨#[97, 112, 112, 47, 97]⟩, .string ⟨#[49]⟩])) (v 7) := hn ⟨7, .data⟩ (by simp) rfl
  refine ⟨rfl, fun x => by kernel_rfl, ?_⟩
  refine ⟨_, w.alloc (.cells #[.int .u8 2, .string ⟨#[97, 112, 112, 47, 97]⟩, .string ⟨#[49]⟩] 37), run_bs 23 37 1 _ rfl (by kernel_rfl) [(0, (.agg #[.int .u8 2, .string ⟨#[97, 112, 112, 47, 97]⟩, .string ⟨#[49]⟩]))] (by show [(0, v 7)] = _; rw [show v 7 = _ from h7]) _ (by kernel_rfl), new_below w _, _, rfl, list_new w _ ?_⟩
  intro k hk
  have hk : k < 1 := hk
  obtain rfl : k = 0 := by omega
  all_goals exact ⟨rfl, rfl, rfl⟩
set_option maxRecDepth 100000 in
theorem kn_9 (N : Nat) (t : ByteArray) (_ht : t.size = 33) : St N t 9 := by
  intro v w o ho g hn
  have e : kn3[9]? = some ⟨some 21, .build 48 #[(0, .tmp 20), (1, .const (.int .i64 1))], 48, "closed.go:14", #[⟨8, .data⟩], none⟩ := by kernel_rfl
  obtain rfl := Option.some.inj (e.symm.trans ho)
  clear e ho
  have h8 : Fact t w (.sl [⟨2, ⟨#[97, 112, 112, 47, 97]⟩, ⟨#[49]⟩⟩]) (v 8) := hn ⟨8, .data⟩ (by simp) rfl
  refine ⟨rfl, fun x => by kernel_rfl, ?_⟩
  obtain ⟨A, hA, hl⟩ := h8
  refine ⟨.agg #[.slice A 1 1, .int .i64 1], w, run_bd 48 _ rfl [(0, .slice A 1 1), (1, .int .i64 1)] (by show [(0, v 8), (1, _)] = _; rw [hA]; rfl) _ (by kernel_rfl), Below.refl _ w, A, rfl, hl⟩
set_option maxRecDepth 100000 in
theorem kn_10 (N : Nat) (t : ByteArray) (_ht : t.size = 33) : St N t 10 := by
  intro v w o ho g hn
  have e : kn3[10]? = some ⟨some 22, .build 37 #[(0, .const (.int .u8 3)), (1, .const (.string ⟨#[97, 112, 112, 47, 97]⟩))], 37, "closed.go:14", #[], none⟩ := by kernel_rfl
  obtain rfl := Option.some.inj (e.symm.trans ho)
  clear e ho
  refine ⟨rfl, fun x => by kernel_rfl, ?_⟩
  refine ⟨(.agg #[.int .u8 3, .string ⟨#[97, 112, 112, 47, 97]⟩, .string ⟨#[]⟩]), w, run_bd 37 _ rfl [(0, .int .u8 3), (1, .string ⟨#[97, 112, 112, 47, 97]⟩)] (rfl) _ (by kernel_rfl), Below.refl _ w, rfl⟩
set_option maxRecDepth 100000 in
theorem kn_11 (N : Nat) (t : ByteArray) (_ht : t.size = 33) : St N t 11 := by
  intro v w o ho g hn
  have e : kn3[11]? = some ⟨some 23, .buildSlice 23 1 #[(0, .tmp 22)], 23, "closed.go:14", #[⟨10, .data⟩], none⟩ := by kernel_rfl
  obtain rfl := Option.some.inj (e.symm.trans ho)
  clear e ho
  have h10 : Fact t w (.val (.agg #[.int .u8 3, .string ⟨#[97, 112, 112, 47, 97]⟩, .string ⟨#[]⟩])) (v 10) := hn ⟨10, .data⟩ (by simp) rfl
  refine ⟨rfl, fun x => by kernel_rfl, ?_⟩
  refine ⟨_, w.alloc (.cells #[.int .u8 3, .string ⟨#[97, 112, 112, 47, 97]⟩, .string ⟨#[]⟩] 37), run_bs 23 37 1 _ rfl (by kernel_rfl) [(0, (.agg #[.int .u8 3, .string ⟨#[97, 112, 112, 47, 97]⟩, .string ⟨#[]⟩]))] (by show [(0, v 10)] = _; rw [show v 10 = _ from h10]) _ (by kernel_rfl), new_below w _, _, rfl, list_new w _ ?_⟩
  intro k hk
  have hk : k < 1 := hk
  obtain rfl : k = 0 := by omega
  all_goals exact ⟨rfl, rfl, rfl⟩
set_option maxRecDepth 100000 in
theorem kn_12 (N : Nat) (t : ByteArray) (_ht : t.size = 33) : St N t 12 := by
  intro v w o ho g hn
  have e : kn3[12]? = some ⟨some 24, .build 48 #[(0, .tmp 23), (1, .const (.int .i64 10))], 48, "closed.go:14", #[⟨11, .data⟩], none⟩ := by kernel_rfl
  obtain rfl := Option.some.inj (e.symm.trans ho)
  clear e ho
  have h11 : Fact t w (.sl [⟨3, ⟨#[97, 112, 112, 47, 97]⟩, ⟨#[]⟩⟩]) (v 11) := hn ⟨11, .data⟩ (by simp) rfl
  refine ⟨rfl, fun x => by kernel_rfl, ?_⟩
  obtain ⟨A, hA, hl⟩ := h11
  refine ⟨.agg #[.slice A 1 1, .int .i64 10], w, run_bd 48 _ rfl [(0, .slice A 1 1), (1, .int .i64 10)] (by show [(0, v 11), (1, _)] = _; rw [hA]; rfl) _ (by kernel_rfl), Below.refl _ w, A, rfl, hl⟩
set_option maxRecDepth 100000 in
theorem kn_13 (N : Nat) (t : ByteArray) (_ht : t.size = 33) : St N t 13 := by
  intro v w o ho g hn
  have e : kn3[13]? = some ⟨some 25, .build 37 #[(0, .const (.int .u8 1)), (1, .const (.string ⟨#[97, 112, 112]⟩))], 37, "closed.go:14", #[], none⟩ := by kernel_rfl
  obtain rfl := Option.some.inj (e.symm.trans ho)
  clear e ho
  refine ⟨rfl, fun x => by kernel_rfl, ?_⟩
  refine ⟨(.agg #[.int .u8 1, .string ⟨#[97, 112, 112]⟩, .string ⟨#[]⟩]), w, run_bd 37 _ rfl [(0, .int .u8 1), (1, .string ⟨#[97, 112, 112]⟩)] (rfl) _ (by kernel_rfl), Below.refl _ w, rfl⟩
set_option maxRecDepth 100000 in
theorem kn_14 (N : Nat) (t : ByteArray) (_ht : t.size = 33) : St N t 14 := by
  intro v w o ho g hn
  have e : kn3[14]? = some ⟨some 26, .buildSlice 23 1 #[(0, .tmp 25)], 23, "closed.go:14", #[⟨13, .data⟩], none⟩ := by kernel_rfl
  obtain rfl := Option.some.inj (e.symm.trans ho)
  clear e ho
  have h13 : Fact t w (.val (.agg #[.int .u8 1, .string ⟨#[97, 112, 112]⟩, .string ⟨#[]⟩])) (v 13) := hn ⟨13, .data⟩ (by simp) rfl
  refine ⟨rfl, fun x => by kernel_rfl, ?_⟩
  refine ⟨_, w.alloc (.cells #[.int .u8 1, .string ⟨#[97, 112, 112]⟩, .string ⟨#[]⟩] 37), run_bs 23 37 1 _ rfl (by kernel_rfl) [(0, (.agg #[.int .u8 1, .string ⟨#[97, 112, 112]⟩, .string ⟨#[]⟩]))] (by show [(0, v 13)] = _; rw [show v 13 = _ from h13]) _ (by kernel_rfl), new_below w _, _, rfl, list_new w _ ?_⟩
  intro k hk
  have hk : k < 1 := hk
  obtain rfl : k = 0 := by omega
  all_goals exact ⟨rfl, rfl, rfl⟩
set_option maxRecDepth 100000 in
theorem kn_15 (N : Nat) (t : ByteArray) (_ht : t.size = 33) : St N t 15 := by
  intro v w o ho g hn
  have e : kn3[15]? = some ⟨some 27, .build 48 #[(0, .tmp 26), (1, .const (.int .i64 20))], 48, "closed.go:14", #[⟨14, .data⟩], none⟩ := by kernel_rfl
  obtain rfl := Option.some.inj (e.symm.trans ho)
  clear e ho
  have h14 : Fact t w (.sl [⟨1, ⟨#[97, 112, 112]⟩, ⟨#[]⟩⟩]) (v 14) := hn ⟨14, .data⟩ (by simp) rfl
  refine ⟨rfl, fun x => by kernel_rfl, ?_⟩
  obtain ⟨A, hA, hl⟩ := h14
  refine ⟨.agg #[.slice A 1 1, .int .i64 20], w, run_bd 48 _ rfl [(0, .slice A 1 1), (1, .int .i64 20)] (by show [(0, v 14), (1, _)] = _; rw [hA]; rfl) _ (by kernel_rfl), Below.refl _ w, A, rfl, hl⟩
set_option maxRecDepth 100000 in
theorem kn_16 (N : Nat) (t : ByteArray) (_ht : t.size = 33) : St N t 16 := by
  intro v w o ho g hn
  have e : kn3[16]? = some ⟨some 28, .load 37 (.tmp 1), 37, "closed.go:14", #[], none⟩ := by kernel_rfl
  obtain rfl := Option.some.inj (e.symm.trans ho)
  clear e ho
  refine ⟨rfl, fun x => by kernel_rfl, ?_⟩
  refine ⟨(.agg #[.int .u8 1, .string ⟨#[97, 112, 112, 47, 97]⟩, .string ⟨#[49]⟩]), w, ?_, Below.refl _ w, rfl⟩
  obtain ⟨fs, hu⟩ := und_op
  have hr := run_loadVar_row (P := Try.prog) w N 37 37 #[.int .u8 1, .string ⟨#[97, 112, 112, 47, 97]⟩, .string ⟨#[49]⟩] (0, 0) _ g hu rfl (by kernel_rfl)
  unfold execOp
  simp only [show (knF N t v).eval (.tmp 1) = .pointer (some ⟨N, 0, none⟩) from rfl, Instr.loadAt, Instr.sureAddr, Sem.run_bind, Sem.run_pure, Result.andThen_ok, hr]
set_option maxRecDepth 100000 in
theorem kn_17 (N : Nat) (t : ByteArray) (_ht : t.size = 33) : St N t 17 := by
  intro v w o ho g hn
  have e : kn3[17]? = some ⟨some 29, .load 37 (.tmp 1), 37, "closed.go:14", #[], none⟩ := by kernel_rfl
  obtain rfl := Option.some.inj (e.symm.trans ho)
  clear e ho
  refine ⟨rfl, fun x => by kernel_rfl, ?_⟩
  refine ⟨(.agg #[.int .u8 1, .string ⟨#[97, 112, 112, 47, 97]⟩, .string ⟨#[49]⟩]), w, ?_, Below.refl _ w, rfl⟩
  obtain ⟨fs, hu⟩ := und_op
  have hr := run_loadVar_row (P := Try.prog) w N 37 37 #[.int .u8 1, .string ⟨#[97, 112, 112, 47, 97]⟩, .string ⟨#[49]⟩] (0, 0) _ g hu rfl (by kernel_rfl)
  unfold execOp
  simp only [show (knF N t v).eval (.tmp 1) = .pointer (some ⟨N, 0, none⟩) from rfl, Instr.loadAt, Instr.sureAddr, Sem.run_bind, Sem.run_pure, Result.andThen_ok, hr]
set_option maxRecDepth 100000 in
theorem kn_18 (N : Nat) (t : ByteArray) (_ht : t.size = 33) : St N t 18 := by
  intro v w o ho g hn
  have e : kn3[18]? = some ⟨some 30, .load 37 (.tmp 1), 37, "closed.go:14", #[], none⟩ := by kernel_rfl
  obtain rfl := Option.some.inj (e.symm.trans ho)
  clear e ho
  refine ⟨rfl, fun x => by kernel_rfl, ?_⟩
  refine ⟨(.agg #[.int .u8 1, .string ⟨#[97, 112, 112, 47, 97]⟩, .string ⟨#[49]⟩]), w, ?_, Below.refl _ w, rfl⟩
  obtain ⟨fs, hu⟩ := und_op
  have hr := run_loadVar_row (P := Try.prog) w N 37 37 #[.int .u8 1, .string ⟨#[97, 112, 112, 47, 97]⟩, .string ⟨#[49]⟩] (0, 0) _ g hu rfl (by kernel_rfl)
  unfold execOp
  simp only [show (knF N t v).eval (.tmp 1) = .pointer (some ⟨N, 0, none⟩) from rfl, Instr.loadAt, Instr.sureAddr, Sem.run_bind, Sem.run_pure, Result.andThen_ok, hr]
set_option maxRecDepth 100000 in
theorem kn_19 (N : Nat) (t : ByteArray) (_ht : t.size = 33) : St N t 19 := by
  intro v w o ho g hn
  have e : kn3[19]? = some ⟨some 31, .load 37 (.tmp 1), 37, "closed.go:14", #[], none⟩ := by kernel_rfl
  obtain rfl := Option.some.inj (e.symm.trans ho)
  clear e ho
  refine ⟨rfl, fun x => by kernel_rfl, ?_⟩
  refine ⟨(.agg #[.int .u8 1, .string ⟨#[97, 112, 112, 47, 97]⟩, .string ⟨#[49]⟩]), w, ?_, Below.refl _ w, rfl⟩
  obtain ⟨fs, hu⟩ := und_op
  have hr := run_loadVar_row (P := Try.prog) w N 37 37 #[.int .u8 1, .string ⟨#[97, 112, 112, 47, 97]⟩, .string ⟨#[49]⟩] (0, 0) _ g hu rfl (by kernel_rfl)
  unfold execOp
  simp only [show (knF N t v).eval (.tmp 1) = .pointer (some ⟨N, 0, none⟩) from rfl, Instr.loadAt, Instr.sureAddr, Sem.run_bind, Sem.run_pure, Result.andThen_ok, hr]
set_option maxRecDepth 100000 in
theorem kn_20 (N : Nat) (t : ByteArray) (_ht : t.size = 33) : St N t 20 := by
  intro v w o ho g hn
  have e : kn3[20]? = some ⟨some 32, .buildSlice 23 4 #[(0, .tmp 28), (1, .tmp 29), (2, .tmp 30), (3, .tmp 31)], 23, "closed.go:14", #[⟨16, .data⟩, ⟨17, .data⟩, ⟨18, .data⟩, ⟨19, .data⟩], none⟩ := by kernel_rfl
  obtain rfl := Option.some.inj (e.symm.trans ho)
  clear e ho
  have h16 : Fact t w (.val (.agg #[.int .u8 1, .string ⟨#[97, 112, 112, 47, 97]⟩, .string ⟨#[49]⟩])) (v 16) := hn ⟨16, .data⟩ (by simp) rfl
  have h17 : Fact t w (.val (.agg #[.int .u8 1, .string ⟨#[97, 112, 112, 47, 97]⟩, .string ⟨#[49]⟩])) (v 17) := hn ⟨17, .data⟩ (by simp) rfl
  have h18 : Fact t w (.val (.agg #[.int .u8 1, .string ⟨#[97, 112, 112, 47, 97]⟩, .string ⟨#[49]⟩])) (v 18) := hn ⟨18, .data⟩ (by simp) rfl
  have h19 : Fact t w (.val (.agg #[.int .u8 1, .string ⟨#[97, 112, 112, 47, 97]⟩, .string ⟨#[49]⟩])) (v 19) := hn ⟨19, .data⟩ (by simp) rfl
  refine ⟨rfl, fun x => by kernel_rfl, ?_⟩
  refine ⟨_, w.alloc (.cells #[.int .u8 1, .string ⟨#[97, 112, 112, 47, 97]⟩, .string ⟨#[49]⟩, .int .u8 1, .string ⟨#[97, 112, 112, 47, 97]⟩, .string ⟨#[49]⟩, .int .u8 1, .string ⟨#[97, 112, 112, 47, 97]⟩, .string ⟨#[49]⟩, .int .u8 1, .string ⟨#[97, 112, 112, 47, 97]⟩, .string ⟨#[49]⟩] 37), run_bs 23 37 4 _ rfl (by kernel_rfl) [(0, (.agg #[.int .u8 1, .string ⟨#[97, 112, 112, 47, 97]⟩, .string ⟨#[49]⟩])), (1, (.agg #[.int .u8 1, .string ⟨#[97, 112, 112, 47, 97]⟩, .string ⟨#[49]⟩])), (2, (.agg #[.int .u8 1, .string ⟨#[97, 112, 112, 47, 97]⟩, .string ⟨#[49]⟩])), (3, (.agg #[.int .u8 1, .string ⟨#[97, 112, 112, 47, 97]⟩, .string ⟨#[49]⟩]))] (by show [(0, v 16), (1, v 17), (2, v 18), (3, v 19)] = _; rw [show v 16 = _ from h16, show v 17 = _ from h17, show v 18 = _ from h18, show v 19 = _ from h19]) _ (by kernel_rfl), new_below w _, _, rfl, list_new w _ ?_⟩
  intro k hk
  have hk : k < 4 := hk
  obtain rfl | rfl | rfl | rfl : k = 0 ∨ k = 1 ∨ k = 2 ∨ k = 3 := by omega
  all_goals exact ⟨rfl, rfl, rfl⟩
set_option maxRecDepth 100000 in
theorem kn_21 (N : Nat) (t : ByteArray) (_ht : t.size = 33) : St N t 21 := by
  intro v w o ho g hn
  have e : kn3[21]? = some ⟨some 33, .build 48 #[(0, .tmp 32), (1, .const (.int .i64 0))], 48, "closed.go:14", #[⟨20, .data⟩], none⟩ := by kernel_rfl
  obtain rfl := Option.some.inj (e.symm.trans ho)
  clear e ho
  have h20 : Fact t w (.sl [⟨1, ⟨#[97, 112, 112, 47, 97]⟩, ⟨#[49]⟩⟩, ⟨1, ⟨#[97, 112, 112, 47, 97]⟩, ⟨#[49]⟩⟩, ⟨1, ⟨#[97, 112, 112, 47, 97]⟩, ⟨#[49]⟩⟩, ⟨1, ⟨#[97, 112, 112, 47, 97]⟩, ⟨#[49]⟩⟩]) (v 20) := hn ⟨20, .data⟩ (by simp) rfl
  refine ⟨rfl, fun x => by kernel_rfl, ?_⟩
  obtain ⟨A, hA, hl⟩ := h20
  refine ⟨.agg #[.slice A 4 4, .int .i64 0], w, run_bd 48 _ rfl [(0, .slice A 4 4), (1, .int .i64 0)] (by show [(0, v 20), (1, _)] = _; rw [hA]; rfl) _ (by kernel_rfl), Below.refl _ w, A, rfl, hl⟩
set_option maxRecDepth 100000 in
theorem kn_22 (N : Nat) (t : ByteArray) (_ht : t.size = 33) : St N t 22 := by
  intro v w o ho g hn
  have e : kn3[22]? = some ⟨some 34, .load 37 (.tmp 1), 37, "closed.go:14", #[], none⟩ := by kernel_rfl
  obtain rfl := Option.some.inj (e.symm.trans ho)
  clear e ho
  refine ⟨rfl, fun x => by kernel_rfl, ?_⟩
  refine ⟨(.agg #[.int .u8 1, .string ⟨#[97, 112, 112, 47, 97]⟩, .string ⟨#[49]⟩]), w, ?_, Below.refl _ w, rfl⟩
  obtain ⟨fs, hu⟩ := und_op
  have hr := run_loadVar_row (P := Try.prog) w N 37 37 #[.int .u8 1, .string ⟨#[97, 112, 112, 47, 97]⟩, .string ⟨#[49]⟩] (0, 0) _ g hu rfl (by kernel_rfl)
  unfold execOp
  simp only [show (knF N t v).eval (.tmp 1) = .pointer (some ⟨N, 0, none⟩) from rfl, Instr.loadAt, Instr.sureAddr, Sem.run_bind, Sem.run_pure, Result.andThen_ok, hr]
set_option maxRecDepth 100000 in
theorem kn_23 (N : Nat) (t : ByteArray) (_ht : t.size = 33) : St N t 23 := by
  intro v w o ho g hn
  have e : kn3[23]? = some ⟨some 35, .load 37 (.tmp 1), 37, "closed.go:14", #[], none⟩ := by kernel_rfl
  obtain rfl := Option.some.inj (e.symm.trans ho)
  clear e ho
  refine ⟨rfl, fun x => by kernel_rfl, ?_⟩
  refine ⟨(.agg #[.int .u8 1, .string ⟨#[97, 112, 112, 47, 97]⟩, .string ⟨#[49]⟩]), w, ?_, Below.refl _ w, rfl⟩
  obtain ⟨fs, hu⟩ := und_op
  have hr := run_loadVar_row (P := Try.prog) w N 37 37 #[.int .u8 1, .string ⟨#[97, 112, 112, 47, 97]⟩, .string ⟨#[49]⟩] (0, 0) _ g hu rfl (by kernel_rfl)
  unfold execOp
  simp only [show (knF N t v).eval (.tmp 1) = .pointer (some ⟨N, 0, none⟩) from rfl, Instr.loadAt, Instr.sureAddr, Sem.run_bind, Sem.run_pure, Result.andThen_ok, hr]
set_option maxRecDepth 100000 in
theorem kn_24 (N : Nat) (t : ByteArray) (_ht : t.size = 33) : St N t 24 := by
  intro v w o ho g hn
  have e : kn3[24]? = some ⟨some 36, .load 37 (.tmp 1), 37, "closed.go:14", #[], none⟩ := by kernel_rfl
  obtain rfl := Option.some.inj (e.symm.trans ho)
  clear e ho
  refine ⟨rfl, fun x => by kernel_rfl, ?_⟩
  refine ⟨(.agg #[.int .u8 1, .string ⟨#[97, 112, 112, 47, 97]⟩, .string ⟨#[49]⟩]), w, ?_, Below.refl _ w, rfl⟩
  obtain ⟨fs, hu⟩ := und_op
  have hr := run_loadVar_row (P := Try.prog) w N 37 37 #[.int .u8 1, .string ⟨#[97, 112, 112, 47, 97]⟩, .string ⟨#[49]⟩] (0, 0) _ g hu rfl (by kernel_rfl)
  unfold execOp
  simp only [show (knF N t v).eval (.tmp 1) = .pointer (some ⟨N, 0, none⟩) from rfl, Instr.loadAt, Instr.sureAddr, Sem.run_bind, Sem.run_pure, Result.andThen_ok, hr]
set_option maxRecDepth 100000 in
theorem kn_25 (N : Nat) (t : ByteArray) (_ht : t.size = 33) : St N t 25 := by
  intro v w o ho g hn
  have e : kn3[25]? = some ⟨some 37, .load 37 (.tmp 1), 37, "closed.go:14", #[], none⟩ := by kernel_rfl
  obtain rfl := Option.some.inj (e.symm.trans ho)
  clear e ho
  refine ⟨rfl, fun x => by kernel_rfl, ?_⟩
  refine ⟨(.agg #[.int .u8 1, .string ⟨#[97, 112, 112, 47, 97]⟩, .string ⟨#[49]⟩]), w, ?_, Below.refl _ w, rfl⟩
  obtain ⟨fs, hu⟩ := und_op
  have hr := run_loadVar_row (P := Try.prog) w N 37 37 #[.int .u8 1, .string ⟨#[97, 112, 112, 47, 97]⟩, .string ⟨#[49]⟩] (0, 0) _ g hu rfl (by kernel_rfl)
  unfold execOp
  simp only [show (knF N t v).eval (.tmp 1) = .pointer (some ⟨N, 0, none⟩) from rfl, Instr.loadAt, Instr.sureAddr, Sem.run_bind, Sem.run_pure, Result.andThen_ok, hr]
set_option maxRecDepth 100000 in
theorem kn_26 (N : Nat) (t : ByteArray) (_ht : t.size = 33) : St N t 26 := by
  intro v w o ho g hn
  have e : kn3[26]? = some ⟨some 38, .load 37 (.tmp 1), 37, "closed.go:14", #[], none⟩ := by kernel_rfl
  obtain rfl := Option.some.inj (e.symm.trans ho)
  clear e ho
  refine ⟨rfl, fun x => by kernel_rfl, ?_⟩
  refine ⟨(.agg #[.int .u8 1, .string ⟨#[97, 112, 112, 47, 97]⟩, .string ⟨#[49]⟩]), w, ?_, Below.refl _ w, rfl⟩
  obtain ⟨fs, hu⟩ := und_op
  have hr := run_loadVar_row (P := Try.prog) w N 37 37 #[.int .u8 1, .string ⟨#[97, 112, 112, 47, 97]⟩, .string ⟨#[49]⟩] (0, 0) _ g hu rfl (by kernel_rfl)
  unfold execOp
  simp only [show (knF N t v).eval (.tmp 1) = .pointer (some ⟨N, 0, none⟩) from rfl, Instr.loadAt, Instr.sureAddr, Sem.run_bind, Sem.run_pure, Result.andThen_ok, hr]
set_option maxRecDepth 100000 in
theorem kn_27 (N : Nat) (t : ByteArray) (_ht : t.size = 33) : St N t 27 := by
  intro v w o ho g hn
  have e : kn3[27]? = some ⟨some 39, .buildSlice 23 5 #[(0, .tmp 34), (1, .tmp 35), (2, .tmp 36), (3, .tmp 37), (4, .tmp 38)], 23, "closed.go:14", #[⟨22, .data⟩, ⟨23, .data⟩, ⟨24, .data⟩, ⟨25, .data⟩, ⟨26, .data⟩], none⟩ := by kernel_rfl
  obtain rfl := Option.some.inj (e.symm.trans ho)
  clear e ho
  have h22 : Fact t w (.val (.agg #[.int .u8 1, .string ⟨#[97, 112, 112, 47, 97]⟩, .string ⟨#[49]⟩])) (v 22) := hn ⟨22, .data⟩ (by simp) rfl
  have h23 : Fact t w (.val (.agg #[.int .u8 1, .string ⟨#[97, 112, 112, 47, 97]⟩, .string ⟨#[49]⟩])) (v 23) := hn ⟨23, .data⟩ (by simp) rfl
  have h24 : Fact t w (.val (.agg #[.int .u8 1, .string ⟨#[97, 112, 112, 47, 97]⟩, .string ⟨#[49]⟩])) (v 24) := hn ⟨24, .data⟩ (by simp) rfl
  have h25 : Fact t w (.val (.agg #[.int .u8 1, .string ⟨#[97, 112, 112, 47, 97]⟩, .string ⟨#[49]⟩])) (v 25) := hn ⟨25, .data⟩ (by simp) rfl
  have h26 : Fact t w (.val (.agg #[.int .u8 1, .string ⟨#[97, 112, 112, 47, 97]⟩, .string ⟨#[49]⟩])) (v 26) := hn ⟨26, .data⟩ (by simp) rfl
  refine ⟨rfl, fun x => by kernel_rfl, ?_⟩
  refine ⟨_, w.alloc (.cells #[.int .u8 1, .string ⟨#[97, 112, 112, 47, 97]⟩, .string ⟨#[49]⟩, .int .u8 1, .string ⟨#[97, 112, 112, 47, 97]⟩, .string ⟨#[49]⟩, .int .u8 1, .string ⟨#[97, 112, 112, 47, 97]⟩, .string ⟨#[49]⟩, .int .u8 1, .string ⟨#[97, 112, 112, 47, 97]⟩, .string ⟨#[49]⟩, .int .u8 1, .string ⟨#[97, 112, 112, 47, 97]⟩, .string ⟨#[49]⟩] 37), run_bs 23 37 5 _ rfl (by kernel_rfl) [(0, (.agg #[.int .u8 1, .string ⟨#[97, 112, 112, 47, 97]⟩, .string ⟨#[49]⟩])), (1, (.agg #[.int .u8 1, .string ⟨#[97, 112, 112, 47, 97]⟩, .string ⟨#[49]⟩])), (2, (.agg #[.int .u8 1, .string ⟨#[97, 112, 112, 47, 97]⟩, .string ⟨#[49]⟩])), (3, (.agg #[.int .u8 1, .string ⟨#[97, 112, 112, 47, 97]⟩, .string ⟨#[49]⟩])), (4, (.agg #[.int .u8 1, .string ⟨#[97, 112, 112, 47, 97]⟩, .string ⟨#[49]⟩]))] (by show [(0, v 22), (1, v 23), (2, v 24), (3, v 25), (4, v 26)] = _; rw [show v 22 = _ from h22, show v 23 = _ from h23, show v 24 = _ from h24, show v 25 = _ from h25, show v 26 = _ from h26]) _ (by kernel_rfl), new_below w _, _, rfl, list_new w _ ?_⟩
  intro k hk
  have hk : k < 5 := hk
  obtain rfl | rfl | rfl | rfl | rfl : k = 0 ∨ k = 1 ∨ k = 2 ∨ k = 3 ∨ k = 4 := by omega
  all_goals exact ⟨rfl, rfl, rfl⟩
set_option maxRecDepth 100000 in
theorem kn_28 (N : Nat) (t : ByteArray) (_ht : t.size = 33) : St N t 28 := by
  intro v w o ho g hn
  have e : kn3[28]? = some ⟨some 40, .build 48 #[(0, .tmp 39), (1, .const (.int .i64 3))], 48, "closed.go:14", #[⟨27, .data⟩], none⟩ := by kernel_rfl
  obtain rfl := Option.some.inj (e.symm.trans ho)
  clear e ho
  have h27 : Fact t w (.sl [⟨1, ⟨#[97, 112, 112, 47, 97]⟩, ⟨#[49]⟩⟩, ⟨1, ⟨#[97, 112, 112, 47, 97]⟩, ⟨#[49]⟩⟩, ⟨1, ⟨#[97, 112, 112, 47, 97]⟩, ⟨#[49]⟩⟩, ⟨1, ⟨#[97, 112, 112, 47, 97]⟩, ⟨#[49]⟩⟩, ⟨1, ⟨#[97, 112, 112, 47, 97]⟩, ⟨#[49]⟩⟩]) (v 27) := hn ⟨27, .data⟩ (by simp) rfl
  refine ⟨rfl, fun x => by kernel_rfl, ?_⟩
  obtain ⟨A, hA, hl⟩ := h27
  refine ⟨.agg #[.slice A 5 5, .int .i64 3], w, run_bd 48 _ rfl [(0, .slice A 5 5), (1, .int .i64 3)] (by show [(0, v 27), (1, _)] = _; rw [hA]; rfl) _ (by kernel_rfl), Below.refl _ w, A, rfl, hl⟩
set_option maxRecDepth 100000 in
theorem kn_29 (N : Nat) (t : ByteArray) (_ht : t.size = 33) : St N t 29 := by
  intro v w o ho g hn
  have e : kn3[29]? = some ⟨some 41, .move (.tmp 2), 9, "closed.go:14", #[], none⟩ := by kernel_rfl
  obtain rfl := Option.some.inj (e.symm.trans ho)
  clear e ho
  refine ⟨rfl, fun x => by kernel_rfl, ?_⟩
  exact ⟨.string t, w, rfl, Below.refl _ w, rfl⟩
set_option maxRecDepth 100000 in
theorem kn_30 (N : Nat) (t : ByteArray) (_ht : t.size = 33) : St N t 30 := by
  intro v w o ho g hn
  have e : kn3[30]? = some ⟨some 42, .build 37 #[(0, .const (.int .u8 1)), (1, .const (.string ⟨#[111, 112, 115, 47, 97]⟩)), (2, .tmp 41)], 37, "closed.go:14", #[⟨29, .data⟩], none⟩ := by kernel_rfl
  obtain rfl := Option.some.inj (e.symm.trans ho)
  clear e ho
  have h29 : Fact t w (.val (.string t)) (v 29) := hn ⟨29, .data⟩ (by simp) rfl
  refine ⟨rfl, fun x => by kernel_rfl, ?_⟩
  refine ⟨(.agg #[.int .u8 1, .string ⟨#[111, 112, 115, 47, 97]⟩, .string t]), w, run_bd 37 _ rfl [(0, .int .u8 1), (1, .string ⟨#[111, 112, 115, 47, 97]⟩), (2, .string t)] (by show [(0, _), (1, _), (2, v 29)] = _; rw [show v 29 = _ from h29]; rfl) _ (by kernel_rfl), Below.refl _ w, rfl⟩
set_option maxRecDepth 100000 in
theorem kn_31 (N : Nat) (t : ByteArray) (_ht : t.size = 33) : St N t 31 := by
  intro v w o ho g hn
  have e : kn3[31]? = some ⟨some 43, .buildSlice 23 1 #[(0, .tmp 42)], 23, "closed.go:14", #[⟨30, .data⟩], none⟩ := by kernel_rfl
  obtain rfl := Option.some.inj (e.symm.trans ho)
  clear e ho
  have h30 : Fact t w (.val (.agg #[.int .u8 1, .string ⟨#[111, 112, 115, 47, 97]⟩, .string t])) (v 30) := hn ⟨30, .data⟩ (by simp) rfl
  refine ⟨rfl, fun x => by kernel_rfl, ?_⟩
  refine ⟨_, w.alloc (.cells #[.int .u8 1, .string ⟨#[111, 112, 115, 47, 97]⟩, .string t] 37), run_bs 23 37 1 _ rfl (by kernel_rfl) [(0, (.agg #[.int .u8 1, .string ⟨#[111, 112, 115, 47, 97]⟩, .string t]))] (by show [(0, v 30)] = _; rw [show v 30 = _ from h30]) _ (by kernel_rfl), new_below w _, _, rfl, list_new w _ ?_⟩
  intro k hk
  have hk : k < 1 := hk
  obtain rfl : k = 0 := by omega
  all_goals exact ⟨rfl, rfl, rfl⟩
set_option maxRecDepth 100000 in
theorem kn_32 (N : Nat) (t : ByteArray) (_ht : t.size = 33) : St N t 32 := by
  intro v w o ho g hn
  have e : kn3[32]? = some ⟨some 44, .build 48 #[(0, .tmp 43), (1, .const (.int .i64 3))], 48, "closed.go:14", #[⟨31, .data⟩], none⟩ := by kernel_rfl
  obtain rfl := Option.some.inj (e.symm.trans ho)
  clear e ho
  have h31 : Fact t w (.sl [⟨1, ⟨#[111, 112, 115, 47, 97]⟩, t⟩]) (v 31) := hn ⟨31, .data⟩ (by simp) rfl
  refine ⟨rfl, fun x => by kernel_rfl, ?_⟩
  obtain ⟨A, hA, hl⟩ := h31
  refine ⟨.agg #[.slice A 1 1, .int .i64 3], w, run_bd 48 _ rfl [(0, .slice A 1 1), (1, .int .i64 3)] (by show [(0, v 31), (1, _)] = _; rw [hA]; rfl) _ (by kernel_rfl), Below.refl _ w, A, rfl, hl⟩
set_option maxRecDepth 100000 in
theorem kn_33 (N : Nat) (t : ByteArray) (_ht : t.size = 33) : St N t 33 := by
  intro v w o ho g hn
  have e : kn3[33]? = some ⟨some 45, .move (.tmp 2), 9, "closed.go:14", #[], none⟩ := by kernel_rfl
  obtain rfl := Option.some.inj (e.symm.trans ho)
  clear e ho
  refine ⟨rfl, fun x => by kernel_rfl, ?_⟩
  exact ⟨.string t, w, rfl, Below.refl _ w, rfl⟩
set_option maxRecDepth 100000 in
theorem kn_34 (N : Nat) (t : ByteArray) (ht : t.size = 33) : St N t 34 := by
  intro v w o ho g hn
  have e : kn3[34]? = some ⟨some 46, .slice 9 (.tmp 45) none (some (.const (.int .i64 32))) none, 9, "closed.go:14", #[⟨33, .data⟩], none⟩ := by kernel_rfl
  obtain rfl := Option.some.inj (e.symm.trans ho)
  clear e ho
  have h33 : Fact t w (.val (.string t)) (v 33) := hn ⟨33, .data⟩ (by simp) rfl
  refine ⟨rfl, fun x => by kernel_rfl, ?_⟩
  refine ⟨.string (t.extract 0 32), w, ?_, Below.refl _ w, rfl⟩
  unfold execOp
  have hv : (knF N t v).eval (.tmp 45) = .string t := h33
  have hc : (knF N t v).eval (.const (.int .i64 32)) = .int .i64 32 := rfl
  generalize (knF N t v).eval = ρ at hv hc ⊢
  have h32 : (32 : Int) ≤ (t.size : Int) := by omega
  go_simp
set_option maxRecDepth 100000 in
theorem kn_35 (N : Nat) (t : ByteArray) (_ht : t.size = 33) : St N t 35 := by
  intro v w o ho g hn
  have e : kn3[35]? = some ⟨some 47, .build 37 #[(0, .const (.int .u8 1)), (1, .const (.string ⟨#[111, 112, 115, 47, 97]⟩)), (2, .tmp 46)], 37, "closed.go:14", #[⟨34, .data⟩], none⟩ := by kernel_rfl
  obtain rfl := Option.some.inj (e.symm.trans ho)
  clear e ho
  have h34 : Fact t w (.val (.string (t.extract 0 32))) (v 34) := hn ⟨34, .data⟩ (by simp) rfl
  refine ⟨rfl, fun x => by kernel_rfl, ?_⟩
  refine ⟨(.agg #[.int .u8 1, .string ⟨#[111, 112, 115, 47, 97]⟩, .string (t.extract 0 32)]), w, run_bd 37 _ rfl [(0, .int .u8 1), (1, .string ⟨#[111, 112, 115, 47, 97]⟩), (2, .string (t.extract 0 32))] (by show [(0, _), (1, _), (2, v 34)] = _; rw [show v 34 = _ from h34]; rfl) _ (by kernel_rfl), Below.refl _ w, rfl⟩
set_option maxRecDepth 100000 in
theorem kn_36 (N : Nat) (t : ByteArray) (_ht : t.size = 33) : St N t 36 := by
  intro v w o ho g hn
  have e : kn3[36]? = some ⟨some 48, .buildSlice 23 1 #[(0, .tmp 47)], 23, "closed.go:14", #[⟨35, .data⟩], none⟩ := by kernel_rfl
  obtain rfl := Option.some.inj (e.symm.trans ho)
  clear e ho
  have h35 : Fact t w (.val (.agg #[.int .u8 1, .string ⟨#[111, 112, 115, 47, 97]⟩, .string (t.extract 0 32)])) (v 35) := hn ⟨35, .data⟩ (by simp) rfl
  refine ⟨rfl, fun x => by kernel_rfl, ?_⟩
  refine ⟨_, w.alloc (.cells #[.int .u8 1, .string ⟨#[111, 112, 115, 47, 97]⟩, .string (t.extract 0 32)] 37), run_bs 23 37 1 _ rfl (by kernel_rfl) [(0, (.agg #[.int .u8 1, .string ⟨#[111, 112, 115, 47, 97]⟩, .string (t.extract 0 32)]))] (by show [(0, v 35)] = _; rw [show v 35 = _ from h35]) _ (by kernel_rfl), new_below w _, _, rfl, list_new w _ ?_⟩
  intro k hk
  have hk : k < 1 := hk
  obtain rfl : k = 0 := by omega
  all_goals exact ⟨rfl, rfl, rfl⟩
set_option maxRecDepth 100000 in
theorem kn_37 (N : Nat) (t : ByteArray) (_ht : t.size = 33) : St N t 37 := by
  intro v w o ho g hn
  have e : kn3[37]? = some ⟨some 49, .build 48 #[(0, .tmp 48), (1, .const (.int .i64 0))], 48, "closed.go:14", #[⟨36, .data⟩], none⟩ := by kernel_rfl
  obtain rfl := Option.some.inj (e.symm.trans ho)
  clear e ho
  have h36 : Fact t w (.sl [⟨1, ⟨#[111, 112, 115, 47, 97]⟩, (t.extract 0 32)⟩]) (v 36) := hn ⟨36, .data⟩ (by simp) rfl
  refine ⟨rfl, fun x => by kernel_rfl, ?_⟩
  obtain ⟨A, hA, hl⟩ := h36
  refine ⟨.agg #[.slice A 1 1, .int .i64 0], w, run_bd 48 _ rfl [(0, .slice A 1 1), (1, .int .i64 0)] (by show [(0, v 36), (1, _)] = _; rw [hA]; rfl) _ (by kernel_rfl), Below.refl _ w, A, rfl, hl⟩
set_option maxRecDepth 100000 in
theorem kn_38 (N : Nat) (t : ByteArray) (_ht : t.size = 33) : St N t 38 := by
  intro v w o ho g hn
  have e : kn3[38]? = some ⟨some 50, .build 37 #[(0, .const (.int .u8 2)), (1, .const (.string ⟨#[111, 112, 115, 47, 97]⟩))], 37, "closed.go:14", #[], none⟩ := by kernel_rfl
  obtain rfl := Option.some.inj (e.symm.trans ho)
  clear e ho
  refine ⟨rfl, fun x => by kernel_rfl, ?_⟩
  refine ⟨(.agg #[.int .u8 2, .string ⟨#[111, 112, 115, 47, 97]⟩, .string ⟨#[]⟩]), w, run_bd 37 _ rfl [(0, .int .u8 2), (1, .string ⟨#[111, 112, 115, 47, 97]⟩)] (rfl) _ (by kernel_rfl), Below.refl _ w, rfl⟩
set_option maxRecDepth 100000 in
theorem kn_39 (N : Nat) (t : ByteArray) (_ht : t.size = 33) : St N t 39 := by
  intro v w o ho g hn
  have e : kn3[39]? = some ⟨some 51, .buildSlice 23 1 #[(0, .tmp 50)], 23, "closed.go:14", #[⟨38, .data⟩], none⟩ := by kernel_rfl
  obtain rfl := Option.some.inj (e.symm.trans ho)
  clear e ho
  have h38 : Fact t w (.val (.agg #[.int .u8 2, .string ⟨#[111, 112, 115, 47, 97]⟩, .string ⟨#[]⟩])) (v 38) := hn ⟨38, .data⟩ (by simp) rfl
  refine ⟨rfl, fun x => by kernel_rfl, ?_⟩
  refine ⟨_, w.alloc (.cells #[.int .u8 2, .string ⟨#[111, 112, 115, 47, 97]⟩, .string ⟨#[]⟩] 37), run_bs 23 37 1 _ rfl (by kernel_rfl) [(0, (.agg #[.int .u8 2, .string ⟨#[111, 112, 115, 47, 97]⟩, .string ⟨#[]⟩]))] (by show [(0, v 38)] = _; rw [show v 38 = _ from h38]) _ (by kernel_rfl), new_below w _, _, rfl, list_new w _ ?_⟩
  intro k hk
  have hk : k < 1 := hk
  obtain rfl : k = 0 := by omega
  all_goals exact ⟨rfl, rfl, rfl⟩
set_option maxRecDepth 100000 in
theorem kn_40 (N : Nat) (t : ByteArray) (_ht : t.size = 33) : St N t 40 := by
  intro v w o ho g hn
  have e : kn3[40]? = some ⟨some 52, .build 48 #[(0, .tmp 51), (1, .const (.int .i64 0))], 48, "closed.go:14", #[⟨39, .data⟩], none⟩ := by kernel_rfl
  obtain rfl := Option.some.inj (e.symm.trans ho)
  clear e ho
  have h39 : Fact t w (.sl [⟨2, ⟨#[111, 112, 115, 47, 97]⟩, ⟨#[]⟩⟩]) (v 39) := hn ⟨39, .data⟩ (by simp) rfl
  refine ⟨rfl, fun x => by kernel_rfl, ?_⟩
  obtain ⟨A, hA, hl⟩ := h39
  refine ⟨.agg #[.slice A 1 1, .int .i64 0], w, run_bd 48 _ rfl [(0, .slice A 1 1), (1, .int .i64 0)] (by show [(0, v 39), (1, _)] = _; rw [hA]; rfl) _ (by kernel_rfl), Below.refl _ w, A, rfl, hl⟩
set_option maxRecDepth 100000 in
theorem kn_41 (N : Nat) (t : ByteArray) (_ht : t.size = 33) : St N t 41 := by
  intro v w o ho g hn
  have e : kn3[41]? = some ⟨some 53, .buildSlice 49 11 #[(0, .tmp 14), (1, .tmp 15), (2, .tmp 18), (3, .tmp 21), (4, .tmp 24), (5, .tmp 27), (6, .tmp 33), (7, .tmp 40), (8, .tmp 44), (9, .tmp 49), (10, .tmp 52)], 49, "closed.go:14", #[⟨2, .data⟩, ⟨3, .data⟩, ⟨6, .data⟩, ⟨9, .data⟩, ⟨12, .data⟩, ⟨15, .data⟩, ⟨21, .data⟩, ⟨28, .data⟩, ⟨32, .data⟩, ⟨37, .data⟩, ⟨40, .data⟩], none⟩ := by kernel_rfl
  obtain rfl := Option.some.inj (e.symm.trans ho)
  clear e ho
  have h2 : Fact t w (.row [⟨1, ⟨#[97, 112, 112, 47, 97]⟩, ⟨#[49]⟩⟩] 0) (v 2) := hn ⟨2, .data⟩ (by simp) rfl
  have h3 : Fact t w (.row [] 1) (v 3) := hn ⟨3, .data⟩ (by simp) rfl
  have h6 : Fact t w (.row [⟨1, ⟨#[119, 101, 98, 47, 97]⟩, ⟨#[]⟩⟩] 21) (v 6) := hn ⟨6, .data⟩ (by simp) rfl
  have h9 : Fact t w (.row [⟨2, ⟨#[97, 112, 112, 47, 97]⟩, ⟨#[49]⟩⟩] 1) (v 9) := hn ⟨9, .data⟩ (by simp) rfl
  have h12 : Fact t w (.row [⟨3, ⟨#[97, 112, 112, 47, 97]⟩, ⟨#[]⟩⟩] 10) (v 12) := hn ⟨12, .data⟩ (by simp) rfl
  have h15 : Fact t w (.row [⟨1, ⟨#[97, 112, 112]⟩, ⟨#[]⟩⟩] 20) (v 15) := hn ⟨15, .data⟩ (by simp) rfl
  have h21 : Fact t w (.row [⟨1, ⟨#[97, 112, 112, 47, 97]⟩, ⟨#[49]⟩⟩, ⟨1, ⟨#[97, 112, 112, 47, 97]⟩, ⟨#[49]⟩⟩, ⟨1, ⟨#[97, 112, 112, 47, 97]⟩, ⟨#[49]⟩⟩, ⟨1, ⟨#[97, 112, 112, 47, 97]⟩, ⟨#[49]⟩⟩] 0) (v 21) := hn ⟨21, .data⟩ (by simp) rfl
  have h28 : Fact t w (.row [⟨1, ⟨#[97, 112, 112, 47, 97]⟩, ⟨#[49]⟩⟩, ⟨1, ⟨#[97, 112, 112, 47, 97]⟩, ⟨#[49]⟩⟩, ⟨1, ⟨#[97, 112, 112, 47, 97]⟩, ⟨#[49]⟩⟩, ⟨1, ⟨#[97, 112, 112, 47, 97]⟩, ⟨#[49]⟩⟩, ⟨1, ⟨#[97, 112, 112, 47, 97]⟩, ⟨#[49]⟩⟩] 3) (v 28) := hn ⟨28, .data⟩ (by simp) rfl
  have h32 : Fact t w (.row [⟨1, ⟨#[111, 112, 115, 47, 97]⟩, t⟩] 3) (v 32) := hn ⟨32, .data⟩ (by simp) rfl
  have h37 : Fact t w (.row [⟨1, ⟨#[111, 112, 115, 47, 97]⟩, (t.extract 0 32)⟩] 0) (v 37) := hn ⟨37, .data⟩ (by simp) rfl
  have h40 : Fact t w (.row [⟨2, ⟨#[111, 112, 115, 47, 97]⟩, ⟨#[]⟩⟩] 0) (v 40) := hn ⟨40, .data⟩ (by simp) rfl
  refine ⟨rfl, fun x => by kernel_rfl, ?_⟩
  obtain ⟨A0, hA0, hl0⟩ := h2
  obtain ⟨A1, hA1, hl1⟩ := h3
  obtain ⟨A2, hA2, hl2⟩ := h6
  obtain ⟨A3, hA3, hl3⟩ := h9
  obtain ⟨A4, hA4, hl4⟩ := h12
  obtain ⟨A5, hA5, hl5⟩ := h15
  obtain ⟨A6, hA6, hl6⟩ := h21
  obtain ⟨A7, hA7, hl7⟩ := h28
  obtain ⟨A8, hA8, hl8⟩ := h32
  obtain ⟨A9, hA9, hl9⟩ := h37
  obtain ⟨A10, hA10, hl10⟩ := h40
  have g2 := heap_alloc_new w (.cells #[.slice A0 1 1, .int .i64 0, .slice A1 0 0, .int .i64 1, .slice A2 1 1, .int .i64 21, .slice A3 1 1, .int .i64 1, .slice A4 1 1, .int .i64 10, .slice A5 1 1, .int .i64 20, .slice A6 4 4, .int .i64 0, .slice A7 5 5, .int .i64 3, .slice A8 1 1, .int .i64 3, .slice A9 1 1, .int .i64 0, .slice A10 1 1, .int .i64 0] 48)
  have b2 := new_below w (.cells #[.slice A0 1 1, .int .i64 0, .slice A1 0 0, .int .i64 1, .slice A2 1 1, .int .i64 21, .slice A3 1 1, .int .i64 1, .slice A4 1 1, .int .i64 10, .slice A5 1 1, .int .i64 20, .slice A6 4 4, .int .i64 0, .slice A7 5 5, .int .i64 3, .slice A8 1 1, .int .i64 3, .slice A9 1 1, .int .i64 0, .slice A10 1 1, .int .i64 0] 48)
  refine ⟨_, w.alloc (.cells #[.slice A0 1 1, .int .i64 0, .slice A1 0 0, .int .i64 1, .slice A2 1 1, .int .i64 21, .slice A3 1 1, .int .i64 1, .slice A4 1 1, .int .i64 10, .slice A5 1 1, .int .i64 20, .slice A6 4 4, .int .i64 0, .slice A7 5 5, .int .i64 3, .slice A8 1 1, .int .i64 3, .slice A9 1 1, .int .i64 0, .slice A10 1 1, .int .i64 0] 48), run_bs 49 48 11 _ rfl (by kernel_rfl) [(0, .agg #[.slice A0 1 1, .int .i64 0]), (1, .agg #[.slice A1 0 0, .int .i64 1]), (2, .agg #[.slice A2 1 1, .int .i64 21]), (3, .agg #[.slice A3 1 1, .int .i64 1]), (4, .agg #[.slice A4 1 1, .int .i64 10]), (5, .agg #[.slice A5 1 1, .int .i64 20]), (6, .agg #[.slice A6 4 4, .int .i64 0]), (7, .agg #[.slice A7 5 5, .int .i64 3]), (8, .agg #[.slice A8 1 1, .int .i64 3]), (9, .agg #[.slice A9 1 1, .int .i64 0]), (10, .agg #[.slice A10 1 1, .int .i64 0])] (by show [(0, v 2), (1, v 3), (2, v 6), (3, v 9), (4, v 12), (5, v 15), (6, v 21), (7, v 28), (8, v 32), (9, v 37), (10, v 40)] = _; rw [hA0, hA1, hA2, hA3, hA4, hA5, hA6, hA7, hA8, hA9, hA10]; rfl) _ (by kernel_rfl), b2, _, rfl, Sm.lt_of g2, ?_⟩
  intro j hj
  have hj : j < 11 := hj
  obtain rfl | rfl | rfl | rfl | rfl | rfl | rfl | rfl | rfl | rfl | rfl : j = 0 ∨ j = 1 ∨ j = 2 ∨ j = 3 ∨ j = 4 ∨ j = 5 ∨ j = 6 ∨ j = 7 ∨ j = 8 ∨ j = 9 ∨ j = 10 := by omega
  · exact ⟨A0, Sm.cells_of g2 0 _ rfl, Sm.cells_of g2 1 _ rfl, hl0.below b2⟩
  · exact ⟨A1, Sm.cells_of g2 2 _ rfl, Sm.cells_of g2 3 _ rfl, hl1.below b2⟩
  · exact ⟨A2, Sm.cells_of g2 4 _ rfl, Sm.cells_of g2 5 _ rfl, hl2.below b2⟩
  · exact ⟨A3, Sm.cells_of g2 6 _ rfl, Sm.cells_of g2 7 _ rfl, hl3.below b2⟩
  · exact ⟨A4, Sm.cells_of g2 8 _ rfl, Sm.cells_of g2 9 _ rfl, hl4.below b2⟩
  · exact ⟨A5, Sm.cells_of g2 10 _ rfl, Sm.cells_of g2 11 _ rfl, hl5.below b2⟩
  · exact ⟨A6, Sm.cells_of g2 12 _ rfl, Sm.cells_of g2 13 _ rfl, hl6.below b2⟩
  · exact ⟨A7, Sm.cells_of g2 14 _ rfl, Sm.cells_of g2 15 _ rfl, hl7.below b2⟩
  · exact ⟨A8, Sm.cells_of g2 16 _ rfl, Sm.cells_of g2 17 _ rfl, hl8.below b2⟩
  · exact ⟨A9, Sm.cells_of g2 18 _ rfl, Sm.cells_of g2 19 _ rfl, hl9.below b2⟩
  · exact ⟨A10, Sm.cells_of g2 20 _ rfl, Sm.cells_of g2 21 _ rfl, hl10.below b2⟩
set_option maxRecDepth 100000 in
theorem kn_42 (N : Nat) (t : ByteArray) (_ht : t.size = 33) : St N t 42 := by
  intro v w o ho g hn
  have e : kn3[42]? = some ⟨some 3, .assign (.tmp 53), 49, "closed.go:14", #[⟨41, .data⟩, ⟨0, .phase⟩, ⟨1, .phase⟩, ⟨2, .phase⟩, ⟨3, .phase⟩, ⟨4, .phase⟩, ⟨5, .phase⟩, ⟨6, .phase⟩, ⟨7, .phase⟩, ⟨8, .phase⟩, ⟨9, .phase⟩, ⟨10, .phase⟩, ⟨11, .phase⟩, ⟨12, .phase⟩, ⟨13, .phase⟩, ⟨14, .phase⟩, ⟨15, .phase⟩, ⟨16, .phase⟩, ⟨17, .phase⟩, ⟨18, .phase⟩, ⟨19, .phase⟩, ⟨20, .phase⟩, ⟨21, .phase⟩, ⟨22, .phase⟩, ⟨23, .phase⟩, ⟨24, .phase⟩, ⟨25, .phase⟩, ⟨26, .phase⟩, ⟨27, .phase⟩, ⟨28, .phase⟩, ⟨29, .phase⟩, ⟨30, .phase⟩, ⟨31, .phase⟩, ⟨32, .phase⟩, ⟨33, .phase⟩, ⟨34, .phase⟩, ⟨35, .phase⟩, ⟨36, .phase⟩, ⟨37, .phase⟩, ⟨38, .phase⟩, ⟨39, .phase⟩, ⟨40, .phase⟩, ⟨41, .phase⟩], none⟩ := by kernel_rfl
  obtain rfl := Option.some.inj (e.symm.trans ho)
  clear e ho
  have h41 : Fact t w (.tab) (v 41) := hn ⟨41, .data⟩ (by simp) rfl
  refine ⟨rfl, fun x => by kernel_rfl, ?_⟩
  exact ⟨v 41, w, rfl, Below.refl _ w, h41⟩
theorem kn_all (N : Nat) (t : ByteArray) (ht : t.size = 33) : ∀ i, i < 43 → St N t i
  | 0, _ => kn_0 N t ht
  | 1, _ => kn_1 N t ht
  | 2, _ => kn_2 N t ht
  | 3, _ => kn_3 N t ht
  | 4, _ => kn_4 N t ht
  | 5, _ => kn_5 N t ht
  | 6, _ => kn_6 N t ht
  | 7, _ => kn_7 N t ht
  | 8, _ => kn_8 N t ht
  | 9, _ => kn_9 N t ht
  | 10, _ => kn_10 N t ht
  | 11, _ => kn_11 N t ht
  | 12, _ => kn_12 N t ht
  | 13, _ => kn_13 N t ht
  | 14, _ => kn_14 N t ht
  | 15, _ => kn_15 N t ht
  | 16, _ => kn_16 N t ht
  | 17, _ => kn_17 N t ht
  | 18, _ => kn_18 N t ht
  | 19, _ => kn_19 N t ht
  | 20, _ => kn_20 N t ht
  | 21, _ => kn_21 N t ht
  | 22, _ => kn_22 N t ht
  | 23, _ => kn_23 N t ht
  | 24, _ => kn_24 N t ht
  | 25, _ => kn_25 N t ht
  | 26, _ => kn_26 N t ht
  | 27, _ => kn_27 N t ht
  | 28, _ => kn_28 N t ht
  | 29, _ => kn_29 N t ht
  | 30, _ => kn_30 N t ht
  | 31, _ => kn_31 N t ht
  | 32, _ => kn_32 N t ht
  | 33, _ => kn_33 N t ht
  | 34, _ => kn_34 N t ht
  | 35, _ => kn_35 N t ht
  | 36, _ => kn_36 N t ht
  | 37, _ => kn_37 N t ht
  | 38, _ => kn_38 N t ht
  | 39, _ => kn_39 N t ht
  | 40, _ => kn_40 N t ht
  | 41, _ => kn_41 N t ht
  | 42, _ => kn_42 N t ht
  | n + 43, h => absurd h (by omega)
theorem kn_size : kn3.size = 43 := by kernel_rfl
theorem kn_back : (kn3.toList.zipIdx.all fun p => p.1.after.all fun e => e.on < p.2) = true := by kernel_rfl
theorem kn_after (j : Nat) (o : Oper) (h : kn3[j]? = some o) : ∀ e ∈ o.after, e.on < j := by
  intro e he
  have h1 := List.all_eq_true.1 kn_back (o, j) (by
    rw [List.mk_mem_zipIdx_iff_getElem?]
    simpa using h)
  have := Array.all_eq_true'.1 h1 e he
  simpa using this
def Inv (N : Nat) (t : ByteArray) (w0 : World) (listed : Array Bool) (a : Act) (w : World) : Prop := ∃ v : Nat → Value, a = knF N t v ∧ Below N w0 w ∧ N < w.heap.size ∧ PutAt N w ∧ ∀ i, i < 43 → listed.getD i false = true → Fact t w ((kds t).getD i .tab) (v i)
theorem kn_any {Q : Exit → Act → World → Prop} (N : Nat) (t : ByteArray) (ht : t.size = 33) (w0 w : World) (hb : Below N w0 w) (hN : N < w.heap.size) (g : PutAt N w)
    (H : ∀ (v : Nat → Value) (w' : World) (b : Nat), Below N w0 w' → N < w'.heap.size → PutAt N w' → v 42 = .slice (some ⟨b, 0, none⟩) 11 11 → b < w'.heap.size → TabAt w' b (tab t) → Q .normal (knF N t v) w') :
    (Code.region 3 kn3 true).wp Try.prog Q (knF N t fun _ => undef) w := by
  refine wp_region_any (by kernel_rfl) ?_
  refine wpAny_inv kn_after (Inv N t w0) ?_ ?_ _ _ _ _ (by simp) ?_ ?_
  · rintro listed a w1 i o ⟨v, rfl, b1, n1, g1, f1⟩ hi hu ho hn
    have hi43 : i < 43 := by have := (Array.getElem?_eq_some_iff.1 ho).1; rw [kn_size] at this; exact this
    obtain ⟨hg, hput, x, w', hr, b2, f2⟩ := kn_all N t ht i hi43 v w1 o ho g1 (fun e he hb => f1 e.on (by have := kn_after i o ho e he; omega) (hn e he hb))
    unfold wpOp
    simp only [ho]
    rw [if_pos (by unfold Region.wanted; rw [hg])]
    refine .inl ?_
    unfold Oper.wp
    rw [hr]
    show Inv N t w0 _ ((knF N t v).put o.dst x) w'
    refine ⟨upd v i x, hput x, b1.trans (b2.mono (Nat.le_of_lt n1)), Nat.lt_of_lt_of_le n1 b2.size, (b2.block N n1).trans g1, fun j hj hl => ?_⟩
    by_cases hji : j = i
    · subst hji
      have : upd v j x j = x := by unfold upd; rw [show Nat.beq j j = true from Nat.beq_refl j]; rfl
      rw [this]
      exact f2
    · have : upd v i x j = v j := by unfold upd; rw [show Nat.beq j i = false from by cases hh : Nat.beq j i; rfl; exact absurd (Nat.eq_of_beq_eq_true hh) hji]; rfl
      rw [this]
      rw [getD_set_ne false (Ne.symm hji)] at hl
      exact (f1 j hj hl).mono b2
  · rintro listed a w1 ⟨v, rfl, b1, n1, g1, f1⟩ hall
    obtain ⟨b, e, hb', T⟩ := f1 42 (by omega) (hall 42 (by rw [kn_size]; omega))
    exact H v w1 b b1 n1 g1 e hb' T
  · unfold still
    exact Nat.le_trans (List.length_filter_le _ _) (by simp)
  · exact ⟨_, rfl, hb.drew, hN, g, fun i hi h => by
      rw [kn_size, Array.getD_eq_getD_getElem?, Array.getElem?_replicate] at h
      split at h <;> cases h⟩

end Ba
end Go.Proofs.Ytlndggbidmmodaa
