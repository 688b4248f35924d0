/-
  Rows of operations of one's own, and one more behind them.
-/
import Derived.Test.YtehkbffbehlpnaaOwn
import Derived.Test.YtehkbffbehlpnaaBaActs
namespace Go.Proofs.Ytehkbffbehlpnaa
open Go.RowKit
namespace Ba
def flat (l : List Op) : List Value := l.flatMap Op.cells
theorem flat_length (l : List Op) : (flat l).length = l.length * 3 := by
  induction l with
  | nil => rfl
  | cons o r ih =>
    have e : flat (o :: r) = o.cells ++ flat r := rfl
    have e3 : o.cells.length = 3 := rfl
    rw [e, List.length_append, ih, List.length_cons, e3]; omega
theorem flat_append (l m : List Op) : flat (l ++ m) = flat l ++ flat m := by unfold flat; rw [List.flatMap_append]
theorem flat_one (o : Op) : flat [o] = o.cells := by simp [flat]
theorem flat_at : ∀ {l : List Op} {k j : Nat} (hk : k < l.length), j < 3 → (flat l)[k * 3 + j]? = l[k].cells[j]?
  | [], _, _, hk, _ => absurd hk (Nat.not_lt_zero _)
  | o :: r, 0, j, _, hj => by
    show (o.cells ++ flat r)[0 * 3 + j]? = o.cells[j]?
    rw [List.getElem?_append_left (by show 0 * 3 + j < 3; omega)]
    rw [show 0 * 3 + j = j by omega]
  | o :: r, k + 1, j, hk, hj => by
    show (o.cells ++ flat r)[(k + 1) * 3 + j]? = _
    rw [List.getElem?_append_right (by show 3 ≤ (k + 1) * 3 + j; omega)]
    have e3 : o.cells.length = 3 := rfl
    rw [e3, show (k + 1) * 3 + j - 3 = k * 3 + j by omega]
    exact flat_at (l := r) (by simpa using hk) hj
theorem cells_one' (o : Op) : ∀ u ∈ o.cells, u.oneCell' = true := by
  intro u hu
  simp only [Op.cells, List.mem_cons, List.not_mem_nil, or_false] at hu
  rcases hu with rfl | rfl | rfl <;> rfl
/-- A row of these operations, of one's own from block B on. -/
def Row (w : World) (B : Nat) (A : Option Addr) (c : Nat) (l : List Op) : Prop := w.ownsRow B 52 3 (.slice A l.length c) l.length (flat l)
theorem Row.nil (w : World) (B : Nat) : Row w B none 0 [] := World.ownsRow_nil _ _ _ _
theorem Row.blk {w : World} {B : Nat} {A : Option Addr} {c : Nat} {l : List Op} (h : Row w B A c l) {q : Nat} (hq : (Value.slice A l.length c).ownBlock = some q) : B ≤ q ∧ ∃ cs, w.heap[q]? = some (.cells cs 52 (0, 0)) := by
  rcases h.2 with ⟨e, _⟩ | ⟨g, cap, cur, e, hb, hg, _⟩
  · rw [e] at hq; cases hq
  · rw [e] at hq
    have e1 : g = q := Option.some.inj hq
    subst e1
    exact ⟨hb, cur, hg⟩
theorem Row.off {w : World} {B : Nat} {A : Option Addr} {c : Nat} {l : List Op} (h : Row w B A c l) {b : Nat} {cs : Array Value} {t : TypeId} {f : Nat × Nat} (hb : w.heap[b]? = some (.cells cs t f)) (ht : t ≠ 52) : (Value.slice A l.length c).ownBlock ≠ some b := by
  intro e
  obtain ⟨-, cs', h2⟩ := h.blk e
  rw [hb] at h2
  simp only [Option.some.injEq, Obj.cells.injEq] at h2
  exact ht h2.2.1
theorem Row.listAt {w : World} {B : Nat} {A : Option Addr} {c : Nat} {l : List Op} (h : Row w B A c l) : Ba.listAt w A l := by
  by_cases h0 : l = []
  · exact .inl h0
  · right
    have h' := h
    rcases h.2 with ⟨e, h2⟩ | ⟨g, cap, cur, e, hb, hg, _⟩
    · exact absurd (List.eq_nil_of_length_eq_zero h2) h0
    · injection e with e1 e2 e3
      subst e1
      refine ⟨g, 0, rfl, (Array.getElem?_eq_some_iff.1 hg).1, fun k hk => ?_⟩
      have hc : ∀ j, j < 3 → w.cell? ⟨g, 0 + k * 3 + j, none⟩ = l[k].cells[j]? := fun j hj => by
        rw [Nat.zero_add]
        have := h'.cellAt (k * 3 + j) (by omega)
        rw [this]
        exact flat_at hk hj
      exact ⟨hc 0 (by decide), hc 1 (by decide), hc 2 (by decide)⟩
theorem Row.keep {w w' : World} {B : Nat} {A : Option Addr} {c : Nat} {l : List Op} (h : Row w B A c l) (k : ∀ (i : Nat) (cs : Array Value), w.heap[i]? = some (Obj.cells cs 52 (0, 0)) → w'.heap[i]? = w.heap[i]?) : Row w' B A c l :=
  ⟨h.1, h.2.imp id fun ⟨g, cap, cur, hv, hb, hg, rest⟩ => ⟨g, cap, cur, hv, hb, (k g _ hg).trans hg, rest⟩⟩
theorem Row.low {w w' : World} {B : Nat} {A : Option Addr} {c : Nat} {l : List Op} (h : Row w B A c l) (k : Below w.heap.size w w') : Row w' B A c l := h.keep fun _ _ hi => k.block _ (Array.getElem?_eq_some_iff.1 hi).1
theorem Row.turned {w w' : World} {B : Nat} {A : Option Addr} {c : Nat} {l : List Op} (h : Row w B A c l) {b : Nat} {cs : Array Value} {t : TypeId} {f : Nat × Nat} (hb : w.heap[b]? = some (.cells cs t f)) (ht : t ≠ 52) (k : w.grownBy w' (some b)) : Row w' B A c l :=
  h.keep fun i cs' hi => k.block i (Array.getElem?_eq_some_iff.1 hi).1 fun e => by
    injection e with e
    subst e
    rw [hi] at hb
    simp only [Option.some.injEq, Obj.cells.injEq] at hb
    exact ht hb.2.1.symm
theorem op_info : (Try.prog.info? 52).map (fun i => (i.zero, i.size, i.bytes)) = some (some (.agg #[.int .u8 0, .string ⟨#[]⟩, .string ⟨#[]⟩]), 3, 40) := by kernel_rfl
theorem info_opL {cs : List Value} (h : cs.length = 3) : (Try.prog.info? 52).map (·.size) = some cs.length := by rw [h]; kernel_rfl
/-- One operation more. -/
theorem wp_push0 {w : World} {K0 : Act → World → Prop} {o : Oper} {a : Act} {Q : Exit → Act → World → Prop} (s y : Operand)
    (ho : o.op = .call { callee := .builtin .append, args := #[s, y], argTypes := #[37, 37] }) {B : Nat} {A : Option Addr} {c : Nat} {l : List Op} (hs : a.eval s = .slice A l.length c) (h : Row w B A c l) (x : Op) {N : Nat}
    (hy : a.eval y = .slice (some ⟨N, 0, none⟩) 1 1) (hN : w.heap[N]? = some (.cells #[.int .u8 (x.k : Int), .string x.p, .string x.v] 52 (0, 0))) (hl : l.length ≤ 1000000) (hB : B ≤ w.heap.size)
    (K : ∀ A' c' w', Row w' B A' c' (l ++ [x]) → w.grownBy w' (Value.slice A l.length c).ownBlock → K0 (a.put o.dst (.slice A' (l.length + 1) c')) w') : o.wp Try.prog a w K0 Q := by
  obtain ⟨i0, hi, hz0, hz1, hz2⟩ := info_parts op_info
  refine wp_append_own w s y 37 ho B 52 i0 (.agg #[.int .u8 0, .string ⟨#[]⟩, .string ⟨#[]⟩]) 3 40 Try.underlying37 hi hz0 hz1 hz2 rfl (by decide) _ _ _ hs h ⟨N, 0, none⟩ 1 1 x.cells hy rfl ?_ (cells_one' x) (by unfold maxLen; omega) (by omega) hB ?_
  · intro j u hu
    rw [Addr.add_mid, Nat.zero_add]
    match j with
    | 0 => rw [Sm.cells_of hN 0 _ rfl]; exact hu
    | 1 => rw [Sm.cells_of hN 1 _ rfl]; exact hu
    | 2 => rw [Sm.cells_of hN 2 _ rfl]; exact hu
    | j + 3 => simp [Op.cells] at hu
  · intro v' w' h1 h2 _
    obtain ⟨A', c', rfl⟩ := Sm.own_shape h1
    refine K A' c' w' ?_ h2
    unfold Row
    rw [List.length_append, flat_append, flat_one]
    exact h1
theorem wp_push {w : World} {ops : Array Oper} {rest : List Oper} {o : Oper} {a : Act} {Q : Exit → Act → World → Prop} (hgd : o.guard = none) (s y : Operand)
    (ho : o.op = .call { callee := .builtin .append, args := #[s, y], argTypes := #[37, 37] }) {B : Nat} {A : Option Addr} {c : Nat} {l : List Op} (hs : a.eval s = .slice A l.length c) (h : Row w B A c l) (x : Op) {N : Nat}
    (hy : a.eval y = .slice (some ⟨N, 0, none⟩) 1 1) (hN : w.heap[N]? = some (.cells #[.int .u8 (x.k : Int), .string x.p, .string x.v] 52 (0, 0))) (hl : l.length ≤ 1000000) (hB : B ≤ w.heap.size)
    (K : ∀ A' c' w', Row w' B A' c' (l ++ [x]) → w.grownBy w' (Value.slice A l.length c).ownBlock → wpList Try.prog ops Q rest (a.put o.dst (.slice A' (l.length + 1) c')) w') : wpList Try.prog ops Q (o :: rest) a w :=
  wpList_plain hgd fun _ hK => wp_push0 s y ho hs h x hy hN hl hB fun A' c' w' h1 h2 => hK _ _ (K A' c' w' h1 h2)
end Ba
end Go.Proofs.Ytehkbffbehlpnaa
