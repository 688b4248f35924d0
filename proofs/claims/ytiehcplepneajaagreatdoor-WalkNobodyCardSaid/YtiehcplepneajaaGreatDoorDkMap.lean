/-
  A map of slices by numbers, told as a function: looked up, stored into, deleted from, ranged over.
-/
import Derived.Maps.RangeWalk
import Derived.WalkKit
namespace Go.Proofs.YtiehcplepneajaaGreatDoor
open Go.Maps
namespace Dk
/-- An element is told by itself. -/
def hv : Value → Option (DataW Value × List MemPlace) := fun v => some (.held v, [])
abbrev key (i : Nat) : Lit := .int .i64 (i : Int)
structure Reads (N : Nat) (F : Nat → Option Value) (D : DataW Value) : Prop where
  map : IsMap D
  keys : ∀ kl, has D kl = true → ∃ i, i < N ∧ kl = key i
  has : ∀ i, i < N → Maps.has D (key i) = (F i).isSome
  at_ : ∀ i v, i < N → F i = some v → ∀ z, D.atKey (key i) z = .held v
theorem key_inj {i j : Nat} (h : key i = key j) : i = j := by
  simp only [key, Lit.int.injEq, true_and] at h
  omega
theorem key_ne {i j : Nat} (h : i ≠ j) : key i ≠ key j := fun e => h (key_inj e)
theorem isKey (i : Nat) : WideAt.IsKeyLit (key i) := trivial
theorem key_wf {i : Nat} (h : i ≤ 9223372036854775807) : (key i).wf = true := by
  simp [Lit.wf, IntKind.min, IntKind.max, IntKind.signed, IntKind.bits]
  omega
theorem keyOf_nat {P : Program} {k : TypeId} (hk : P.underlying k = some (.int .i64)) {i : Nat} (h : i ≤ 9223372036854775807) : keyOf P k (.int .i64 (i : Int)) = some (key i) := keyOf_int_mk hk (key_wf h)
theorem len_le : ∀ (N : Nat) (l : List Nat), l.Nodup → (∀ x ∈ l, x < N) → l.length ≤ N
  | 0, l, _, h => by
    cases l with
    | nil => exact Nat.le_refl _
    | cons x r => exact absurd (h x (by simp)) (by omega)
  | N + 1, l, hd, h => by
    have ih := len_le N (l.erase N) (hd.erase N) (fun x hx => by
      have h1 := (hd.mem_erase_iff).1 hx
      have := h x h1.2
      omega)
    have := List.length_erase (a := N) (l := l)
    by_cases hN : N ∈ l
    · rw [if_pos hN] at this; omega
    · rw [if_neg hN] at this; omega
theorem Reads.size {N : Nat} {F : Nat → Option Value} {D : DataW Value} (h : Reads N F D) (ht : ∃ es, D = .map es ∧ es.Pairwise (fun p q => p.1 ≠ q.1) ∧ ∀ p ∈ es, WideAt.IsKeyLit p.1) : Maps.size D ≤ N := by
  obtain ⟨es, rfl, hp, hkl⟩ := ht
  have hall : ∀ p ∈ es, ∃ i, i < N ∧ p.1 = key i := fun p hp => h.keys p.1 (List.any_eq_true.2 ⟨p, hp, WideAt.sameKey_self (hkl p hp)⟩)
  have hl : (es.map fun p => (match p.1 with | .int _ a => a.toNat | _ => 0)).length ≤ N := by
    refine len_le N _ ?_ ?_
    · rw [List.Nodup, List.pairwise_map]
      refine hp.imp_of_mem ?_
      intro p q hp hq hne
      obtain ⟨i, _, e1⟩ := hall p hp
      obtain ⟨j, _, e2⟩ := hall q hq
      rw [e1, e2] at hne ⊢
      intro e
      simp only [Int.toNat_natCast] at e
      exact hne (by rw [e])
    · intro x hx
      obtain ⟨p, hp, rfl⟩ := List.mem_map.1 hx
      obtain ⟨i, hi, e1⟩ := hall p hp
      rw [e1]
      simpa [key] using hi
  simpa [Maps.size] using hl
theorem Reads.empty (N : Nat) : Reads N (fun _ => none) (.map []) := ⟨isMap_empty, fun kl h => by simp [Maps.has] at h, fun i _ => by simp [Maps.has], fun i v _ h => by cases h⟩
theorem Reads.put {N : Nat} {F : Nat → Option Value} {D : DataW Value} (h : Reads N F D) {i : Nat} (hi : i < N) (v : Value) : Reads N (fun j => if j = i then some v else F j) (D.put (key i) (.held v)) := by
  refine ⟨h.map.put _ _, fun kl hk => ?_, fun j hj => ?_, fun j u hj hu z => ?_⟩
  · by_cases e : kl = key i
    · exact ⟨i, hi, e⟩
    · rw [has_put_other e] at hk
      exact h.keys kl hk
  · by_cases e : j = i
    · subst e
      rw [has_put_same h.map (isKey j)]
      simp
    · rw [has_put_other (key_ne e), h.has j hj]
      simp [e]
  · by_cases e : j = i
    · subst e
      rw [atKey_put_same h.map (isKey j)]
      simp at hu
      rw [hu]
    · rw [atKey_put_other (key_ne e)]
      simp [e] at hu
      exact h.at_ j u hj hu z
theorem Reads.del {N : Nat} {F : Nat → Option Value} {D : DataW Value} (h : Reads N F D) (i : Nat) : Reads N (fun j => if j = i then none else F j) (D.del (key i)) := by
  refine ⟨h.map.del _, fun kl hk => ?_, fun j hj => ?_, fun j u hj hu z => ?_⟩
  · by_cases e : kl = key i
    · rw [e, has_del_same] at hk; cases hk
    · rw [has_del_other e] at hk
      exact h.keys kl hk
  · by_cases e : j = i
    · subst e
      rw [has_del_same]
      simp
    · rw [has_del_other (key_ne e), h.has j hj]
      simp [e]
  · by_cases e : j = i
    · simp [e] at hu
    · rw [atKey_del_other (key_ne e)]
      simp [e] at hu
      exact h.at_ j u hj hu z
theorem Reads.look {N : Nat} {F : Nat → Option Value} {D : DataW Value} (h : Reads N F D) {i : Nat} (hi : i < N) (z : Value) : D.atKey (key i) (.held z) = .held ((F i).getD z) := by
  cases hF : F i with
  | some v => rw [h.at_ i v hi hF]; rfl
  | none => rw [atKey_of_not_has (by rw [h.has i hi, hF]; rfl)]; rfl
/-- Block b is a map of slices by numbers below N. -/
def MapAt (P : Program) (k : TypeId) (w : World) (b N : Nat) (F : Nat → Option Value) : Prop := ∃ D, w.ownsMap P k hv b N D ∧ Reads N F D
section
variable {P : Program} {k t e : TypeId} {w : World} {b N : Nat} {F : Nat → Option Value}
theorem owns_tight {n : Nat} {D : DataW Value} (hk : P.underlying k = some (.int .i64)) (h : w.ownsMap P k hv b n D) (hR : Reads N F D) : w.ownsMap P k hv b N D := by
  have hs := hR.size (h.entries (int_keyed hk))
  obtain ⟨es, clock, hb, Ft, hn, hD⟩ := h
  refine ⟨es, clock, hb, Ft, ?_, hD⟩
  rw [hD] at hs
  simpa [Maps.size, length_sorted] using hs
theorem MapAt.lt (h : MapAt P k w b N F) : b < w.heap.size := by obtain ⟨D, h, _⟩ := h; exact h.lt
theorem MapAt.kind (h : MapAt P k w b N F) : ∃ es c, w.heap[b]? = some (.map es c) := by obtain ⟨D, ⟨es, c, h, _⟩, _⟩ := h; exact ⟨es, c, h⟩
theorem MapAt.block {w' : World} (h : MapAt P k w b N F) (hb : w'.heap[b]? = w.heap[b]?) : MapAt P k w' b N F := by
  obtain ⟨D, ⟨es, c, h, rest⟩, hR⟩ := h
  exact ⟨D, ⟨es, c, hb.trans h, rest⟩, hR⟩
theorem MapAt.congr {F' : Nat → Option Value} (h : MapAt P k w b N F) (he : ∀ i, i < N → F' i = F i) : MapAt P k w b N F' := by
  obtain ⟨D, h, hR⟩ := h
  exact ⟨D, h, hR.map, hR.keys, fun i hi => by rw [he i hi]; exact hR.has i hi, fun i v hi hv => hR.at_ i v hi ((he i hi).symm.trans hv)⟩
theorem MapAt.made (w : World) : MapAt P k (w.alloc (.map #[] 0)) w.heap.size N (fun _ => none) :=
  ⟨_, (World.ownsMap_made w P k hv).mono (Nat.zero_le _), Reads.empty N⟩
/-- m[i]. -/
theorem MapAt.look (h : MapAt P k w b N F) (hk : P.underlying k = some (.int .i64)) (ht : P.underlying t = some (.map k e)) {z : Value} (hz : (zeroValue e).run P w = .ok z w) {i : Nat} (hi : i < N) (hN : N ≤ 4096) :
    (Instr.lookup t (.map (some b)) (.int .i64 (i : Int)) false).run P w = .ok ((F i).getD z) w := by
  obtain ⟨D, h, hR⟩ := h
  obtain ⟨v, ps, hrun, hvv⟩ := h.lookup (int_keyed hk) ht hz (show hv z = some (.held z, []) from rfl) (keyOf_nat hk (show i ≤ 9223372036854775807 by omega))
  rw [hR.look hi z] at hvv
  simp only [hv, Option.some.injEq, Prod.mk.injEq, DataW.held.injEq] at hvv
  rw [hrun, hvv.1]
/-- m[i] = v. -/
theorem MapAt.store (h : MapAt P k w b N F) (hk : P.underlying k = some (.int .i64)) (ht : P.underlying t = some (.map k e)) {i : Nat} (hi : i < N) (hN : N ≤ 4096) (v : Value) :
    ∃ w', (Instr.mapUpdate t (.map (some b)) (.int .i64 (i : Int)) v).run P w = .ok () w' ∧ MapAt P k w' b N (fun j => if j = i then some v else F j) ∧ w.mapTurned w' b := by
  obtain ⟨D, h, hR⟩ := h
  obtain ⟨w', hrun, ho, hg⟩ := h.store (int_keyed hk) ht (by unfold maxLen; omega) (keyOf_nat hk (show i ≤ 9223372036854775807 by omega)) (show hv v = some (.held v, []) from rfl)
  exact ⟨w', hrun, ⟨_, owns_tight hk ho (hR.put hi v), hR.put hi v⟩, hg⟩
/-- delete(m, i). -/
theorem MapAt.drop (h : MapAt P k w b N F) (hk : P.underlying k = some (.int .i64)) (ht : P.underlying t = some (.map k e)) {i : Nat} (hi : i < N) (hN : N ≤ 4096) (ty : TypeId) :
    ∃ w', (Builtin.delete_ #[t, k] ty #[.map (some b), .int .i64 (i : Int)]).run P w = .ok (.tuple #[]) w' ∧ MapAt P k w' b N (fun j => if j = i then none else F j) ∧ w.mapTurned w' b := by
  obtain ⟨D, h, hR⟩ := h
  obtain ⟨w', hrun, ho, hg⟩ := h.drop (int_keyed hk) ht (keyOf_nat hk (show i ≤ 9223372036854775807 by omega)) ty
  exact ⟨w', hrun, ⟨_, ho, hR.del i⟩, hg⟩
/-- A range over the map under way: which numbers are still to come. -/
def RangeAt (P : Program) (k : TypeId) (w : World) (b r N : Nat) (F : Nat → Option Value) (left : Nat → Bool) (cnt : Nat) : Prop :=
  ∃ D L, w.ranges P k hv b r N D L cnt ∧ Reads N F D ∧ ∀ i, left i = L (key i)
variable {r : Nat} {left : Nat → Bool} {cnt : Nat}
theorem RangeAt.map (h : RangeAt P k w b r N F left cnt) : MapAt P k w b N F := by
  obtain ⟨D, L, h, hR, _⟩ := h
  exact ⟨D, h.owns, hR⟩
theorem RangeAt.ne (h : RangeAt P k w b r N F left cnt) : r ≠ b := by obtain ⟨D, L, h, _⟩ := h; exact h.ne
theorem RangeAt.lt (h : RangeAt P k w b r N F left cnt) : r < w.heap.size := by obtain ⟨D, L, h, _⟩ := h; exact h.lt
theorem RangeAt.left_eq (h : RangeAt P k w b r N F left cnt) : w.rangeLeft b r = cnt := by obtain ⟨D, L, h, _⟩ := h; exact h.left_eq
theorem RangeAt.iter (h : RangeAt P k w b r N F left cnt) : ∃ m s seen c, w.heap[r]? = some (.mapIter m s seen c) := by
  obtain ⟨D, L, ⟨es, c, s, seen, c0, _, _, _, _, h, _⟩, _⟩ := h
  exact ⟨_, _, _, _, h⟩
theorem RangeAt.block {w' : World} (h : RangeAt P k w b r N F left cnt) (hb : w'.heap[b]? = w.heap[b]?) (hr : w'.heap[r]? = w.heap[r]?) : RangeAt P k w' b r N F left cnt := by
  obtain ⟨D, L, ⟨es, c, s, seen, c0, h1, h2, h3, h4, h5, rest⟩, hR, hL⟩ := h
  exact ⟨D, L, ⟨es, c, s, seen, c0, hb.trans h1, h2, h3, h4, hr.trans h5, rest⟩, hR, hL⟩
theorem MapAt.range (h : MapAt P k w b N F) (hk : P.underlying k = some (.int .i64)) (ht : P.underlying t = some (.map k e)) :
    ∃ w' cnt, (Instr.range t (.map (some b))).run P w = .ok (.pointer (some ⟨w.heap.size, 0, none⟩)) w' ∧ RangeAt P k w' b w.heap.size N F (fun i => decide (i < N) && (F i).isSome) cnt ∧ w.grownBy w' none ∧ w'.heap.size = w.heap.size + 1 := by
  obtain ⟨D, h, hR⟩ := h
  obtain ⟨w', h1, h2, h3, h4⟩ := h.range (int_keyed hk) ht
  refine ⟨w', _, h1, ⟨D, _, h2, hR, fun i => ?_⟩, h3, h4⟩
  by_cases hi : i < N
  · simp [hi, hR.has i hi]
  · cases hh : Maps.has D (key i) with
    | false => simp [hi]
    | true => obtain ⟨j, hj, e1⟩ := hR.keys _ hh; exact absurd (key_inj e1) (by omega)
theorem left_some (h : RangeAt P k w b r N F left cnt) {i : Nat} (hl : left i = true) : i < N ∧ ∃ v, F i = some v := by
  obtain ⟨D, L, hr, hR, hL⟩ := h
  have hh : Maps.has D (key i) = true := by
    rw [hL] at hl
    obtain ⟨es, c, s, seen, c0, h1, h2, h3, h4, h5, h6, h7, h8, h9, _⟩ := hr
    obtain ⟨x, hx, e1⟩ := h9 _ hl
    rw [h4]
    exact List.any_eq_true.2 ⟨_, mem_sorted.2 (List.mem_map.2 ⟨x, hx, rfl⟩), by rw [e1]; exact WideAt.sameKey_self (isKey i)⟩
  obtain ⟨j, hj, e1⟩ := hR.keys _ hh
  obtain rfl := key_inj e1
  rw [hR.has i hj, Option.isSome_iff_exists] at hh
  exact ⟨hj, hh⟩
/-- The step. -/
theorem RangeAt.next (h : RangeAt P k w b r N F left cnt) (hk : P.underlying k = some (.int .i64)) (ty : TypeId) :
    ((∀ i, left i = false) ∧ (Instr.next (.pointer (some ⟨r, 0, none⟩)) false ty).run P w = .ok (.tuple #[.bool false]) w) ∨
    ∃ i v w' cnt', i < N ∧ left i = true ∧ F i = some v ∧ (Instr.next (.pointer (some ⟨r, 0, none⟩)) false ty).run P w = .ok (.tuple #[.bool true, .int .i64 (i : Int), v]) w' ∧
      RangeAt P k w' b r N F (fun j => left j && !decide (j = i)) cnt' ∧ cnt' < cnt ∧ w.grownBy w' (some r) ∧ w'.heap.size = w.heap.size ∧ (Instr.entry (.pointer (some ⟨r, 0, none⟩))).run P w' = .ok (.tuple #[.int .i64 (i : Int), v]) w' := by
  have hls := fun i => left_some (i := i) h
  obtain ⟨D, L, hr, hR, hL⟩ := h
  rcases hr.next (int_keyed hk) ty with ⟨_, h1, h2⟩ | ⟨kv, v, kl, y, w', cnt', h1, h2, h3, h4, h5, h6, h7, h8, h9, h10⟩
  · exact .inl ⟨fun i => by rw [hL]; exact h1 _, h2⟩
  · refine .inr ?_
    have hh : Maps.has D kl = true := by
      obtain ⟨es, c, s, seen, c0, q1, q2, q3, q4, q5, q6, q7, q8, q9, _⟩ := hr
      obtain ⟨x, hx, e1⟩ := q9 _ h2
      rw [q4]
      refine List.any_eq_true.2 ⟨_, mem_sorted.2 (List.mem_map.2 ⟨x, hx, rfl⟩), ?_⟩
      rw [e1]
      exact WideAt.sameKey_self ((int_keyed hk).key h1)
    obtain ⟨i, hi, rfl⟩ := hR.keys _ hh
    obtain ⟨x, ex, ex2, _⟩ := Maps.keyOf_int_inv hk h1
    simp only [key, Lit.int.injEq, true_and] at ex2
    subst ex2
    subst ex
    have hl : left i = true := by rw [hL]; exact h2
    obtain ⟨_, u, hu⟩ := hls i hl
    have e3 := hR.at_ i u hi hu .nil
    rw [h4 .nil] at e3
    simp only [hv, Option.some.injEq] at h3
    subst h3
    simp only [DataW.held.injEq] at e3
    subst e3
    refine ⟨i, v, w', cnt', hi, hl, hu, h5, ⟨D, _, h6, hR, fun j => ?_⟩, h7, h8, h9, h10⟩
    show (left j && !decide (j = i)) = (L (key j) && !(key j).sameKey (key i))
    rw [hL]
    by_cases e : j = i
    · subst e; rw [WideAt.sameKey_self (isKey j)]; simp
    · rw [sameKey_ne (key_ne e)]; simp [e]
/-- delete in the round. -/
theorem RangeAt.drop (h : RangeAt P k w b r N F left cnt) (hk : P.underlying k = some (.int .i64)) (ht : P.underlying t = some (.map k e)) {i : Nat} (hi : i < N) (hN : N ≤ 4096) (ty : TypeId) :
    ∃ w' cnt', (Builtin.delete_ #[t, k] ty #[.map (some b), .int .i64 (i : Int)]).run P w = .ok (.tuple #[]) w' ∧ RangeAt P k w' b r N (fun j => if j = i then none else F j) (fun j => left j && !decide (j = i)) cnt' ∧ cnt' ≤ cnt ∧ w.mapTurned w' b := by
  obtain ⟨D, L, hr, hR, hL⟩ := h
  obtain ⟨w', cnt', h1, h2, h3, h4⟩ := hr.drop (int_keyed hk) ht (keyOf_nat hk (show i ≤ 9223372036854775807 by omega)) ty
  refine ⟨w', cnt', h1, ⟨_, _, h2, hR.del i, fun j => ?_⟩, h3, h4⟩
  show (left j && !decide (j = i)) = (L (key j) && !(key j).sameKey (key i))
  rw [hL]
  by_cases e : j = i
  · subst e; rw [WideAt.sameKey_self (isKey j)]; simp
  · rw [sameKey_ne (key_ne e)]; simp [e]
end
end Dk
end Go.Proofs.YtiehcplepneajaaGreatDoor
