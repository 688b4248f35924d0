/-
  net's put: a packet is on its way behind all others.
-/
import Derived.Test.YtimbcmcmidnlfaaNtNew
import Derived.Great.BuildSlice
import Derived.Deep.CutRange
namespace Go.Proofs.Ytimbcmcmidnlfaa
open Go.RowKit
namespace Nt
theorem PksAt.low {w w' : World} {B : Nat} {v : Value} {l : List Pk} (h : PksAt w B v l) (k : Below w.heap.size w w') : PksAt w' B v l := own_keep h fun _ _ hi => k.block _ (Sm.lt_of hi)
theorem PksAt.turned {w w' : World} {B : Nat} {v : Value} {l : List Pk} (h : PksAt w B v l) {r : Nat} {cs : Array Value} {t : TypeId} (hr : w.heap[r]? = some (.cells cs t (0, 0))) (ht : 25 ≠ t) (k : w.grownBy w' (some r)) : PksAt w' B v l :=
  own_keep h fun i _ hi => k.block i (Sm.lt_of hi) fun e => type_ne hi hr ht (Option.some.inj e)
theorem PksAt.cellsAt {w : World} {B : Nat} {a : Addr} {n c : Nat} {l : List Pk} (h : PksAt w B (.slice (some a) n c) l) : ∀ j u, (flat l)[j]? = some u → w.cell? (a.add j) = some u := by
  intro j u hj
  rcases h.2 with ⟨e, _⟩ | ⟨g, cap, cur, e, _, hg, _, _, _, ht⟩
  · cases e
  · simp only [Value.slice.injEq, Option.some.injEq] at e
    obtain ⟨rfl, _⟩ := e
    rw [Addr.add_mid]
    rw [← ht, List.getElem?_take] at hj
    split at hj
    · simp only [World.cell?, hg, Nat.zero_add]; simpa using hj
    · cases hj
/-- append, onto a row of packets that is full. -/
theorem run_append_new {w : World} {B : Nat} {A : Option Addr} {c : Nat} {l : List Pk} (h : PksAt w B (.slice A l.length c) l) (p : Pk) {N : Nat} (hN : w.rangeAt N 0 p.cells) (hl : l.length ≤ 1099511627776) (ty : TypeId) :
    ∃ v' w', (Builtin.append_ #[37, 37] ty #[.slice A l.length l.length, .slice (some ⟨N, 0, none⟩) 1 1]).run Try.prog w = .ok v' w' ∧ PksAt w' w.heap.size v' (l ++ [p]) ∧ w.grownBy w' none := by
  obtain ⟨i0, hi, hz0, hz1, hz2⟩ := info_parts info3_packet
  have hnews : ∀ j u, p.cells[j]? = some u → w.cell? ((⟨N, 0, none⟩ : Addr).add j) = some u := fun j u hj => by rw [Addr.add_mid]; exact hN j u hj
  have hone : ∀ u ∈ p.cells, u.oneCell' = true := by rw [← flat_one]; exact flat_single _
  have hfl : flat (l ++ [p]) = flat l ++ p.cells := by rw [flat_append, flat_one]
  cases A with
  | none =>
    have hl0 : l = [] := by
      obtain ⟨A', c', e, h2, _⟩ := h.shape
      simp only [Value.slice.injEq] at e
      rcases h2 with h2 | ⟨g, h2⟩
      · exact h2
      · rw [← e.1] at h2; cases h2
    subst hl0
    obtain ⟨v', w', hr, ho, hg, _⟩ := run_append_own (P := Try.prog) w w.heap.size 37 ty 25 i0 _ 3 32 Try.underlying37 hi hz0 hz1 hz2 rfl (by decide) (.slice none 0 0) 0 [] (World.ownsRow_nil _ _ _ _) ⟨N, 0, none⟩ 1 1 p.cells rfl hnews hone (by unfold maxLen; omega) (by omega) (Nat.le_refl _)
    refine ⟨v', w', hr, ?_, hg⟩
    have e : flat ([] ++ [p]) = [] ++ p.cells := hfl
    unfold PksAt
    rw [e]
    exact ho
  | some a =>
    obtain ⟨v', w', hr, ho, hg⟩ := run_append_arg_grows (P := Try.prog) w 37 ty 25 i0 _ 3 32 Try.underlying37 hi hz0 hz1 hz2 rfl (by decide) a l.length l.length (flat l) (flat_length l) h.cellsAt ⟨N, 0, none⟩ 1 1 p.cells rfl hnews (by omega) (by unfold maxLen; omega) (by omega)
    refine ⟨v', w', hr, ?_, hg⟩
    unfold PksAt
    rw [hfl, List.length_append]
    exact ho
theorem wp_append_new {o : Oper} {a : Act} {w : World} {K : Act → World → Prop} {Q : Exit → Act → World → Prop} (s x : Operand) (ho : o.op = .call { callee := .builtin .append, args := #[s, x], argTypes := #[37, 37] })
    {B : Nat} {A : Option Addr} {c : Nat} {l : List Pk} (hs : a.eval s = .slice A l.length l.length) (h : PksAt w B (.slice A l.length c) l) (p : Pk) {N : Nat} (hx : a.eval x = .slice (some ⟨N, 0, none⟩) 1 1) (hN : w.rangeAt N 0 p.cells) (hl : l.length ≤ 1099511627776)
    (hK : ∀ v' w', PksAt w' w.heap.size v' (l ++ [p]) → w.grownBy w' none → K (a.put o.dst v') w') : o.wp Try.prog a w K Q := by
  obtain ⟨v', w', hr, h1, h2⟩ := run_append_new h p hN hl o.type
  unfold Oper.wp execOp
  simp only [ho, resolve, invoke, builtin, Sem.run_bind, Sem.run_pure, Result.andThen_ok, List.map_toArray, List.map_cons, List.map_nil, hs, hx, hr]
  exact hK v' w' h1 h2
theorem infoPkL {cs : List Value} (h : cs.length = 3) : (Try.prog.info? 25).map (·.size) = some cs.length := by rw [h]; kernel_rfl
theorem fill_pk (p : Pk) (z : Array Value) (hz : z.size = 3) : Instr.fill (fun i => some (i * 3, 3)) z [(0, .agg p.cells.toArray)] = some p.cells.toArray := by
  obtain ⟨l, rfl⟩ : ∃ l : List Value, z = l.toArray := ⟨z.toList, by simp⟩
  match l, hz with
  | [a, b, c], _ => rfl
theorem size3 (f : Nat → Value) : ((Array.range (1 * 3)).map f).size = 3 := by simp
/-- A row of one packet, built. -/
theorem wp_build_pk {o : Oper} {a : Act} {w : World} {K : Act → World → Prop} {Q : Exit → Act → World → Prop} (x : Operand) (ho : o.op = .buildSlice 37 1 #[(0, x)]) (p : Pk) (hx : a.eval x = .agg p.cells.toArray)
    (h : K (a.put o.dst (.slice (some ⟨w.heap.size, 0, none⟩) 1 1)) (w.alloc (.cells p.cells.toArray 25))) : o.wp Try.prog a w K Q := by
  obtain ⟨i0, hi, hz0, hz1, hz2⟩ := info_parts info3_packet
  refine wp_buildSlice 37 25 1 #[(0, x)] ho p.cells.toArray i0 _ Try.underlying37 hi hz0 (by rw [hz1]; decide) (by rw [hz1]; decide) (by rw [hz1]; simp only [List.map_toArray, List.map_cons, List.map_nil, hx]; exact fill_pk p _ (size3 _)) h
end Nt
set_option maxRecDepth 100000 in
theorem ntPut_full {B : Nat} {w0 w : World} {r : Nat} {L : Nat → Prop} {M : Nt.Md} (h : Nt.Own B w0 w r L M) (p : Nt.Pk) (hl : Nt.linked p) (hc : Nt.count M.row p.f = 64) :
    Calls Try.prog 33 #[.pointer (some ⟨r, 0, none⟩), .agg p.cells.toArray] w fun e w' => e = .returned (.int .i64 6) ∧ Below w.heap.size w w' := by
  obtain ⟨A, c, hn, -⟩ := h.netBlock
  have hlt := h.lt
  obtain ⟨N, hN⟩ : ∃ N, N = w.heap.size := ⟨_, rfl⟩
  obtain ⟨w1, hw1⟩ : ∃ x, x = w.alloc (.cells p.cells.toArray 25) := ⟨_, rfl⟩
  have b1 : Below w.heap.size w w1 := by rw [hw1]; exact (Below.refl _ w).alloc (Nat.le_refl _) _
  have g0 : w1.heap[N]? = some (.cells p.cells.toArray 25 (0, 0)) := by rw [hw1, hN]; exact heap_alloc_new w _
  have hn := (b1.block r hlt).trans hn
  have B1 := Lib.hid b1
  have HN := Lib.hid hN
  have d0 := Sm.cells_of g0 0 (.int .i64 p.f) rfl
  have c3 := Sm.cells_of hn 3 _ rfl
  have c4 := Sm.cells_of hn 4 _ rfl
  unfold Nt.Pk.cells at hw1
  clear h g0 hn b1 hN hlt
  obtain ⟨f, t, d⟩ := p
  simp only at d0 hc hw1
  rcases hl with ⟨e1, e2⟩ | ⟨e1, e2⟩
  all_goals
    simp only at e1 e2
    subst e1 e2
    first | rw [hc] at c3 | rw [hc] at c4
    unfold Nt.Pk.cells
    go_enter Try.func33, Try.ntmps33
    go_upto_region 1 with (fail)
    rw [← hw1, ← HN.out]
    clear hw1
    go_region
    go_wp2
    go_ret
    exact ⟨rfl, B1.out.drew⟩
end Go.Proofs.Ytimbcmcmidnlfaa
