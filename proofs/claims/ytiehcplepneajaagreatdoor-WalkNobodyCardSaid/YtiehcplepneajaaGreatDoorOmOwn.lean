/-
  Rows of pairs of one's own, one more behind them, a row behind them; rows of texts of one's own.
-/
import Derived.Test.YtiehcplepneajaaGreatDoorMBase
import Derived.Test.YtiehcplepneajaaGreatDoorOmActs
import Derived.Deep.Upon
import Derived.ArgAppend
namespace Go.Proofs.YtiehcplepneajaaGreatDoor
open Go.RowKit
namespace Om
def flat (l : List Pr) : List Value := l.flatMap Pr.cells
theorem flat_length (l : List Pr) : (flat l).length = l.length * 2 := by
  induction l with
  | nil => rfl
  | cons o r ih =>
    have e : flat (o :: r) = o.cells ++ flat r := rfl
    have e3 : o.cells.length = 2 := rfl
    rw [e, List.length_append, ih, List.length_cons, e3]; omega
theorem flat_append (l m : List Pr) : flat (l ++ m) = flat l ++ flat m := by unfold flat; rw [List.flatMap_append]
theorem flat_one (o : Pr) : flat [o] = o.cells := by simp [flat]
theorem flat_at : ∀ {l : List Pr} {k j : Nat} (hk : k < l.length), j < 2 → (flat l)[k * 2 + j]? = l[k].cells[j]?
  | [], _, _, hk, _ => absurd hk (Nat.not_lt_zero _)
  | o :: r, 0, j, _, hj => by
    show (o.cells ++ flat r)[0 * 2 + j]? = o.cells[j]?
    rw [List.getElem?_append_left (by show 0 * 2 + j < 2; omega)]
    rw [show 0 * 2 + j = j by omega]
  | o :: r, k + 1, j, hk, hj => by
    show (o.cells ++ flat r)[(k + 1) * 2 + j]? = _
    rw [List.getElem?_append_right (by show 2 ≤ (k + 1) * 2 + j; omega)]
    have e3 : o.cells.length = 2 := rfl
    rw [e3, show (k + 1) * 2 + j - 2 = k * 2 + j by omega]
    exact flat_at (l := r) (by simpa using hk) hj
theorem cells_one' (o : Pr) : ∀ u ∈ o.cells, u.oneCell' = true := by
  intro u hu
  simp only [Pr.cells, List.mem_cons, List.not_mem_nil, or_false] at hu
  rcases hu with rfl | rfl <;> rfl
theorem flat_one' (l : List Pr) : ∀ u ∈ flat l, u.oneCell' = true := by
  intro u hu
  obtain ⟨o, _, ho⟩ := List.mem_flatMap.1 hu
  exact cells_one' o u ho
theorem cellsAt {w : World} {b off : Nat} {l : List Pr} (h : prsAt w b off l) : ∀ j u, (flat l)[j]? = some u → w.cell? ((⟨b, off, none⟩ : Addr).add j) = some u := by
  intro j u hu
  rw [Addr.add_mid]
  have hj : j < (flat l).length := (List.getElem?_eq_some_iff.1 hu).1
  rw [flat_length] at hj
  have hk : j / 2 < l.length := by omega
  have e : j = j / 2 * 2 + j % 2 := by omega
  have h3 : j % 2 < 2 := Nat.mod_lt _ (by decide)
  rw [e, flat_at hk h3] at hu
  obtain ⟨q0, q1⟩ := h (j / 2) hk
  have e2 : off + j = off + j / 2 * 2 + j % 2 := by omega
  rw [e2]
  match hm : j % 2, h3 with
  | 0, _ => rw [hm] at hu; rw [Nat.add_zero]; rw [q0]; exact hu
  | 1, _ => rw [hm] at hu; rw [q1]; exact hu
/-- A row of these pairs, of one's own from block B on. -/
def Row (w : World) (B : Nat) (A : Option Addr) (c : Nat) (l : List Pr) : Prop := w.ownsRow B 79 2 (.slice A l.length c) l.length (flat l)
theorem Row.nil (w : World) (B : Nat) : Row w B none 0 [] := World.ownsRow_nil _ _ _ _
theorem Row.blk {w : World} {B : Nat} {A : Option Addr} {c : Nat} {l : List Pr} (h : Row w B A c l) {q : Nat} (hq : (Value.slice A l.length c).ownBlock = some q) : B ≤ q ∧ ∃ cs, w.heap[q]? = some (.cells cs 79 (0, 0)) := by
  rcases h.2 with ⟨e, _⟩ | ⟨g, cap, cur, e, hb, hg, _⟩
  · rw [e] at hq; cases hq
  · rw [e] at hq
    have e1 : g = q := Option.some.inj hq
    subst e1
    exact ⟨hb, cur, hg⟩
theorem Row.off {w : World} {B : Nat} {A : Option Addr} {c : Nat} {l : List Pr} (h : Row w B A c l) {b : Nat} {cs : Array Value} {t : TypeId} {f : Nat × Nat} (hb : w.heap[b]? = some (.cells cs t f)) (ht : t ≠ 79) : (Value.slice A l.length c).ownBlock ≠ some b := by
  intro e
  obtain ⟨-, cs', h2⟩ := h.blk e
  rw [hb] at h2
  simp only [Option.some.injEq, Obj.cells.injEq] at h2
  exact ht h2.2.1
theorem Row.keep {w w' : World} {B : Nat} {A : Option Addr} {c : Nat} {l : List Pr} (h : Row w B A c l) (k : ∀ (i : Nat) (cs : Array Value), w.heap[i]? = some (Obj.cells cs 79 (0, 0)) → w'.heap[i]? = w.heap[i]?) : Row w' B A c l :=
  ⟨h.1, h.2.imp id fun ⟨g, cap, cur, hvs, hb, hg, hrst⟩ => ⟨g, cap, cur, hvs, hb, (k g _ hg).trans hg, hrst⟩⟩
theorem Row.low {w w' : World} {B : Nat} {A : Option Addr} {c : Nat} {l : List Pr} (h : Row w B A c l) (k : Below w.heap.size w w') : Row w' B A c l := h.keep fun _ _ hi => k.block _ (Array.getElem?_eq_some_iff.1 hi).1
theorem Row.upto {w w' : World} {B0 B : Nat} {A : Option Addr} {c : Nat} {l : List Pr} (h : Row w B0 A c l) (k : Below B w w') (hB : w.heap.size ≤ B) : Row w' B0 A c l := h.keep fun i _ hi => k.block i (Nat.lt_of_lt_of_le (Sm.lt_of hi) hB)
theorem Row.turned {w w' : World} {B : Nat} {A : Option Addr} {c : Nat} {l : List Pr} (h : Row w B A c l) {b : Nat} {cs : Array Value} {t : TypeId} {f : Nat × Nat} (hb : w.heap[b]? = some (.cells cs t f)) (ht : t ≠ 79) (k : w.grownBy w' (some b)) : Row w' B A c l :=
  h.keep fun i cs' hi => k.block i (Array.getElem?_eq_some_iff.1 hi).1 fun e => by
    injection e with e
    subst e
    rw [hi] at hb
    simp only [Option.some.injEq, Obj.cells.injEq] at hb
    exact ht hb.2.1.symm
theorem Row.base {w : World} {B B' : Nat} {A : Option Addr} {c : Nat} {l : List Pr} (h : Row w B A c l) (hB : B' ≤ B) : Row w B' A c l :=
  ⟨h.1, h.2.imp id fun ⟨g, cap, cur, hvs, hb, hg, hrst⟩ => ⟨g, cap, cur, hvs, Nat.le_trans hB hb, hg, hrst⟩⟩
theorem Row.listAt {w : World} {B : Nat} {A : Option Addr} {c : Nat} {l : List Pr} (h : Row w B A c l) : Om.listAt w A l := by
  by_cases h0 : l = []
  · exact .inl h0
  · right
    have h' := h
    rcases h.2 with ⟨e, h2⟩ | ⟨g, cap, cur, e, hb, hg, _⟩
    · exact absurd (List.eq_nil_of_length_eq_zero h2) h0
    · injection e with e1 e2 e3
      subst e1
      refine ⟨g, 0, rfl, (Array.getElem?_eq_some_iff.1 hg).1, fun k hk => ?_⟩
      have hc : ∀ j, j < 2 → w.cell? ⟨g, 0 + k * 2 + j, none⟩ = l[k].cells[j]? := fun j hj => by
        rw [Nat.zero_add]
        have := h'.cellAt (k * 2 + j) (by omega)
        rw [this]
        exact flat_at hk hj
      exact ⟨hc 0 (by decide), hc 1 (by decide)⟩
theorem pr_info : (Tryz.prog.info? 79).map (fun i => (i.zero, i.size, i.bytes)) = some (some (.agg #[.string ⟨#[]⟩, .string ⟨#[]⟩]), 2, 32) := by kernel_rfl
/-- One pair more. -/
theorem wp_push0 {w : World} {K0 : Act → World → Prop} {o : Oper} {a : Act} {Q : Exit → Act → World → Prop} (s y : Operand)
    (ho : o.op = .call { callee := .builtin .append, args := #[s, y], argTypes := #[22, 22] }) {B : Nat} {A : Option Addr} {c : Nat} {l : List Pr} (hs : a.eval s = .slice A l.length c) (h : Row w B A c l) (x : Pr) {N : Nat}
    (hy : a.eval y = .slice (some ⟨N, 0, none⟩) 1 1) (hN : w.heap[N]? = some (.cells #[.string x.p, .string x.v] 79 (0, 0))) (hl : l.length ≤ 1000000) (hB : B ≤ w.heap.size)
    (K : ∀ A' c' w', Row w' B A' c' (l ++ [x]) → w.grownBy w' (Value.slice A l.length c).ownBlock → K0 (a.put o.dst (.slice A' (l.length + 1) c')) w') : o.wp Tryz.prog a w K0 Q := by
  obtain ⟨i0, hi, hz0, hz1, hz2⟩ := info_parts pr_info
  refine wp_append_own w s y 22 ho B 79 i0 (.agg #[.string ⟨#[]⟩, .string ⟨#[]⟩]) 2 32 Tryz.underlying22 hi hz0 hz1 hz2 rfl (by decide) _ _ _ hs h ⟨N, 0, none⟩ 1 1 x.cells hy rfl ?_ (cells_one' x) (by unfold maxLen; omega) (by omega) hB ?_
  · intro j u hu
    rw [Addr.add_mid, Nat.zero_add]
    match j with
    | 0 => rw [Sm.cells_of hN 0 _ rfl]; exact hu
    | 1 => rw [Sm.cells_of hN 1 _ rfl]; exact hu
    | j + 2 => simp [Pr.cells] at hu
  · intro v' w' h1 h2 _
    obtain ⟨A', c', rfl⟩ := Sm.own_shape h1
    refine K A' c' w' ?_ h2
    unfold Row
    rw [List.length_append, flat_append, flat_one]
    exact h1
theorem wp_push {w : World} {ops : Array Oper} {rst : List Oper} {o : Oper} {a : Act} {Q : Exit → Act → World → Prop} (hgd : o.guard = none) (s y : Operand)
    (ho : o.op = .call { callee := .builtin .append, args := #[s, y], argTypes := #[22, 22] }) {B : Nat} {A : Option Addr} {c : Nat} {l : List Pr} (hs : a.eval s = .slice A l.length c) (h : Row w B A c l) (x : Pr) {N : Nat}
    (hy : a.eval y = .slice (some ⟨N, 0, none⟩) 1 1) (hN : w.heap[N]? = some (.cells #[.string x.p, .string x.v] 79 (0, 0))) (hl : l.length ≤ 1000000) (hB : B ≤ w.heap.size)
    (K : ∀ A' c' w', Row w' B A' c' (l ++ [x]) → w.grownBy w' (Value.slice A l.length c).ownBlock → wpList Tryz.prog ops Q rst (a.put o.dst (.slice A' (l.length + 1) c')) w') : wpList Tryz.prog ops Q (o :: rst) a w :=
  wpList_plain hgd fun _ hK => wp_push0 s y ho hs h x hy hN hl hB fun A' c' w' h1 h2 => hK _ _ (K A' c' w' h1 h2)
/-- A row behind it. -/
theorem wp_cat0 {w : World} {K0 : Act → World → Prop} {o : Oper} {a : Act} {Q : Exit → Act → World → Prop} (s y : Operand)
    (ho : o.op = .call { callee := .builtin .append, args := #[s, y], argTypes := #[22, 22] }) {B : Nat} {A : Option Addr} {c : Nat} {l : List Pr} (hs : a.eval s = .slice A l.length c) (h : Row w B A c l) {C : Option Addr} {d : Nat} {m : List Pr} (hy : a.eval y = .slice C m.length d) (hit : Om.listAt w C m) (hl : l.length + m.length ≤ 1000000) (hB : B ≤ w.heap.size)
    (K : ∀ A' c' w', Row w' B A' c' (l ++ m) → w.grownBy w' (Value.slice A l.length c).ownBlock → K0 (a.put o.dst (.slice A' (l.length + m.length) c')) w') : o.wp Tryz.prog a w K0 Q := by
  obtain ⟨i0, hi, hz0, hz1, hz2⟩ := info_parts pr_info
  by_cases h0 : m = []
  · subst h0
    have hsrc : Src Tryz.prog i0.size 22 (.slice C 0 d) 0 [] w := by
      cases C with
      | none => exact Src.ofNil w Tryz.underlying22 d
      | some ad => exact Src.ofSlice w Tryz.underlying22 ad 0 d [] (by simp) (by simp) (by simp)
    have hcap : l.length ≤ c := by
      rcases h.2 with ⟨e, h2⟩ | ⟨g, cap, cur, e, hb, hg, hc, _⟩
      · omega
      · injection e with e1 e2 e3
        omega
    have hr := run_append_nothing (P := Tryz.prog) w 22 22 o.type 79 i0 Tryz.underlying22 hi A l.length c hcap _ hsrc
    have hy' : a.eval y = .slice C 0 d := hy
    unfold Oper.wp execOp
    simp only [ho, resolve, invoke, builtin, Sem.run_bind, Sem.run_pure, Result.andThen_ok, List.map_toArray, List.map_cons, List.map_nil, hs, hy', hr]
    exact K A c w (by rw [List.append_nil]; exact h) ⟨rfl, rfl, rfl, Nat.le_refl _, fun _ _ _ => rfl⟩
  · rcases hit with hit | ⟨b, off, rfl, -, hops⟩
    · exact absurd hit h0
    · refine wp_append_own w s y 22 ho B 79 i0 (.agg #[.string ⟨#[]⟩, .string ⟨#[]⟩]) 2 32 Tryz.underlying22 hi hz0 hz1 hz2 rfl (by decide) _ _ _ hs h ⟨b, off, none⟩ m.length d (flat m) hy (flat_length m) (cellsAt hops) (flat_one' m) (by unfold maxLen; omega) (by omega) hB ?_
      intro v' w' h1 h2 _
      obtain ⟨A', c', rfl⟩ := Sm.own_shape h1
      refine K A' c' w' ?_ h2
      unfold Row
      rw [List.length_append, flat_append]
      exact h1
theorem wp_cat {w : World} {ops : Array Oper} {rst : List Oper} {o : Oper} {a : Act} {Q : Exit → Act → World → Prop} (hgd : o.guard = none) (s y : Operand)
    (ho : o.op = .call { callee := .builtin .append, args := #[s, y], argTypes := #[22, 22] }) {B : Nat} {A : Option Addr} {c : Nat} {l : List Pr} (hs : a.eval s = .slice A l.length c) (h : Row w B A c l) {C : Option Addr} {d : Nat} {m : List Pr} (hy : a.eval y = .slice C m.length d) (hit : Om.listAt w C m) (hl : l.length + m.length ≤ 1000000) (hB : B ≤ w.heap.size)
    (K : ∀ A' c' w', Row w' B A' c' (l ++ m) → w.grownBy w' (Value.slice A l.length c).ownBlock → wpList Tryz.prog ops Q rst (a.put o.dst (.slice A' (l.length + m.length) c')) w') : wpList Tryz.prog ops Q (o :: rst) a w :=
  wpList_plain hgd fun _ hK => wp_cat0 s y ho hs h hy hit hl hB fun A' c' w' h1 h2 => hK _ _ (K A' c' w' h1 h2)
/-- Texts as cells; a row of these, of one's own from block B on. -/
def txts (l : List ByteArray) : List Value := l.map .string
def SRow (w : World) (B : Nat) (A : Option Addr) (c : Nat) (l : List ByteArray) : Prop := w.ownsRow B 9 1 (.slice A l.length c) l.length (txts l)
theorem SRow.nil (w : World) (B : Nat) : SRow w B none 0 [] := World.ownsRow_nil _ _ _ _
theorem SRow.blk {w : World} {B : Nat} {A : Option Addr} {c : Nat} {l : List ByteArray} (h : SRow w B A c l) {q : Nat} (hq : (Value.slice A l.length c).ownBlock = some q) : B ≤ q ∧ ∃ cs, w.heap[q]? = some (.cells cs 9 (0, 0)) := by
  rcases h.2 with ⟨e, _⟩ | ⟨g, cap, cur, e, hb, hg, _⟩
  · rw [e] at hq; cases hq
  · rw [e] at hq
    have e1 : g = q := Option.some.inj hq
    subst e1
    exact ⟨hb, cur, hg⟩
theorem SRow.off {w : World} {B : Nat} {A : Option Addr} {c : Nat} {l : List ByteArray} (h : SRow w B A c l) {b : Nat} {cs : Array Value} {t : TypeId} {f : Nat × Nat} (hb : w.heap[b]? = some (.cells cs t f)) (ht : t ≠ 9) : (Value.slice A l.length c).ownBlock ≠ some b := by
  intro e
  obtain ⟨-, cs', h2⟩ := h.blk e
  rw [hb] at h2
  simp only [Option.some.injEq, Obj.cells.injEq] at h2
  exact ht h2.2.1
theorem SRow.keep {w w' : World} {B : Nat} {A : Option Addr} {c : Nat} {l : List ByteArray} (h : SRow w B A c l) (k : ∀ (i : Nat) (cs : Array Value), w.heap[i]? = some (Obj.cells cs 9 (0, 0)) → w'.heap[i]? = w.heap[i]?) : SRow w' B A c l :=
  ⟨h.1, h.2.imp id fun ⟨g, cap, cur, hvs, hb, hg, hrst⟩ => ⟨g, cap, cur, hvs, hb, (k g _ hg).trans hg, hrst⟩⟩
theorem SRow.low {w w' : World} {B : Nat} {A : Option Addr} {c : Nat} {l : List ByteArray} (h : SRow w B A c l) (k : Below w.heap.size w w') : SRow w' B A c l := h.keep fun _ _ hi => k.block _ (Array.getElem?_eq_some_iff.1 hi).1
theorem SRow.upto {w w' : World} {B0 B : Nat} {A : Option Addr} {c : Nat} {l : List ByteArray} (h : SRow w B0 A c l) (k : Below B w w') (hB : w.heap.size ≤ B) : SRow w' B0 A c l := h.keep fun i _ hi => k.block i (Nat.lt_of_lt_of_le (Sm.lt_of hi) hB)
theorem SRow.turned {w w' : World} {B : Nat} {A : Option Addr} {c : Nat} {l : List ByteArray} (h : SRow w B A c l) {b : Nat} {cs : Array Value} {t : TypeId} {f : Nat × Nat} (hb : w.heap[b]? = some (.cells cs t f)) (ht : t ≠ 9) (k : w.grownBy w' (some b)) : SRow w' B A c l :=
  h.keep fun i cs' hi => k.block i (Array.getElem?_eq_some_iff.1 hi).1 fun e => by
    injection e with e
    subst e
    rw [hi] at hb
    simp only [Option.some.injEq, Obj.cells.injEq] at hb
    exact ht hb.2.1.symm
theorem SRow.base {w : World} {B B' : Nat} {A : Option Addr} {c : Nat} {l : List ByteArray} (h : SRow w B A c l) (hB : B' ≤ B) : SRow w B' A c l :=
  ⟨h.1, h.2.imp id fun ⟨g, cap, cur, hvs, hb, hg, hrst⟩ => ⟨g, cap, cur, hvs, Nat.le_trans hB hb, hg, hrst⟩⟩
theorem txts_length (l : List ByteArray) : (txts l).length = l.length := by simp [txts]
theorem SRow.get {w : World} {B : Nat} {A : Option Addr} {c : Nat} {l : List ByteArray} (h : SRow w B A c l) {j : Nat} (hj : j < l.length) : ∃ g, A = some ⟨g, 0, none⟩ ∧ g < w.heap.size ∧ w.cell? ⟨g, j, none⟩ = some (.string l[j]) := by
  have h' := h
  rcases h.2 with ⟨e, h2⟩ | ⟨g, cap, cur, e, hb, hg, _⟩
  · omega
  · injection e with e1 e2 e3
    subst e1
    refine ⟨g, rfl, (Array.getElem?_eq_some_iff.1 hg).1, ?_⟩
    have := h'.cellAt j (by omega)
    rw [this, txts, List.getElem?_map, List.getElem?_eq_getElem hj]
    rfl
theorem str_info : (Tryz.prog.info? 9).map (fun i => (i.zero, i.size, i.bytes)) = some (some (.string ⟨#[]⟩), 1, 16) := by kernel_rfl
theorem wp_text0 {w : World} {K0 : Act → World → Prop} {o : Oper} {a : Act} {Q : Exit → Act → World → Prop} (s y : Operand)
    (ho : o.op = .call { callee := .builtin .append, args := #[s, y], argTypes := #[50, 50] }) {B : Nat} {A : Option Addr} {c : Nat} {l : List ByteArray} (hs : a.eval s = .slice A l.length c) (h : SRow w B A c l) (x : ByteArray) {N : Nat}
    (hy : a.eval y = .slice (some ⟨N, 0, none⟩) 1 1) (hN : w.heap[N]? = some (.cells #[.string x] 9 (0, 0))) (hl : l.length ≤ 1000000) (hB : B ≤ w.heap.size)
    (K : ∀ A' c' w', SRow w' B A' c' (l ++ [x]) → w.grownBy w' (Value.slice A l.length c).ownBlock → K0 (a.put o.dst (.slice A' (l.length + 1) c')) w') : o.wp Tryz.prog a w K0 Q := by
  obtain ⟨i0, hi, hz0, hz1, hz2⟩ := info_parts str_info
  refine wp_append_own w s y 50 ho B 9 i0 (.string ⟨#[]⟩) 1 16 Tryz.underlying50 hi hz0 hz1 hz2 rfl (by decide) _ _ _ hs h ⟨N, 0, none⟩ 1 1 [.string x] hy rfl ?_ (by intro u hu; rw [List.mem_singleton.1 hu]; rfl) (by unfold maxLen; omega) (by omega) hB ?_
  · intro j u hu
    rw [Addr.add_mid, Nat.zero_add]
    match j with
    | 0 => rw [Sm.cells_of hN 0 _ rfl]; exact hu
    | j + 1 => simp at hu
  · intro v' w' h1 h2 _
    obtain ⟨A', c', rfl⟩ := Sm.own_shape h1
    refine K A' c' w' ?_ h2
    unfold SRow txts
    rw [List.length_append, List.map_append]
    exact h1
theorem wp_text {w : World} {ops : Array Oper} {rst : List Oper} {o : Oper} {a : Act} {Q : Exit → Act → World → Prop} (hgd : o.guard = none) (s y : Operand)
    (ho : o.op = .call { callee := .builtin .append, args := #[s, y], argTypes := #[50, 50] }) {B : Nat} {A : Option Addr} {c : Nat} {l : List ByteArray} (hs : a.eval s = .slice A l.length c) (h : SRow w B A c l) (x : ByteArray) {N : Nat}
    (hy : a.eval y = .slice (some ⟨N, 0, none⟩) 1 1) (hN : w.heap[N]? = some (.cells #[.string x] 9 (0, 0))) (hl : l.length ≤ 1000000) (hB : B ≤ w.heap.size)
    (K : ∀ A' c' w', SRow w' B A' c' (l ++ [x]) → w.grownBy w' (Value.slice A l.length c).ownBlock → wpList Tryz.prog ops Q rst (a.put o.dst (.slice A' (l.length + 1) c')) w') : wpList Tryz.prog ops Q (o :: rst) a w :=
  wpList_plain hgd fun _ hK => wp_text0 s y ho hs h x hy hN hl hB fun A' c' w' h1 h2 => hK _ _ (K A' c' w' h1 h2)
end Om
end Go.Proofs.YtiehcplepneajaaGreatDoor
