/-
  A map of pairs by their paths, told as a row of pairs that rises: looked up, stored into, deleted from, ranged over.
-/
import Derived.Test.YtehkbffbehlpnaaOmMath
import Derived.Maps.RangeWalk
import Derived.Maps.Ext
import Derived.Maps.OwnSet
import Derived.WalkKit
namespace Go.Proofs.Ytehkbffbehlpnaa
open Go.Maps
namespace Om
/-- An element is told by itself. -/
def hv : Value → Option (DataW Value × List MemPlace) := fun v => some (.held v, [])
def key (p : ByteArray) : Lit := .string p.data.toList
def val (x : Pr) : Value := .agg #[.string x.p, .string x.v]
def ent (x : Pr) : Lit × DataW Value := (key x.p, .held (val x))
def dat (l : List Pr) : DataW Value := .map (l.map ent)
theorem key_inj {a b : ByteArray} (h : key a = key b) : a = b := by
  simp only [key, Lit.string.injEq] at h
  exact ba_ext h
theorem isKey (p : ByteArray) : WideAt.IsKeyLit (key p) := trivial
theorem before_less : ∀ a b : List UInt8, bytesBefore a b = Op.bytesLess a b
  | [], [] => rfl
  | [], _ :: _ => rfl
  | _ :: _, [] => rfl
  | a :: r, b :: s => by rw [bytesBefore, Op.bytesLess, before_less r s]
theorem key_before (a b : ByteArray) : (key a).before (key b) = lt a b := before_less _ _
theorem same_key (a b : ByteArray) : (key a).sameKey (key b) = decide (a = b) := by
  by_cases h : a = b
  · subst h; rw [WideAt.sameKey_self (isKey a)]; simp
  · rw [sameKey_ne (fun e => h (key_inj e))]; simp [h]
theorem find_get (p : ByteArray) : ∀ {l : List Pr}, Rises l → (l.find? fun x => decide (x.p = p)) = (get p l).map fun v => ⟨p, v⟩
  | [], _ => rfl
  | x :: r, h => by
    have ih := find_get p h.tail
    rcases lt_three x.p p with h1 | h1 | h1
    · rw [get_lt h1, List.find?_cons_of_neg (by simp [lt_ne h1]), ih]
    · rw [get_eq h1, List.find?_cons_of_pos (by simp [h1])]
      subst h1; rfl
    · rw [get_gt h1]
      refine List.find?_eq_none.2 fun y hy => ?_
      have : lt p y.p = true := by
        rcases List.mem_cons.1 hy with rfl | hy
        · exact h1
        · exact lt_trans h1 (h.above _ hy)
      simp [(lt_ne this).symm]
theorem filter_above {p : ByteArray} : ∀ {l : List Pr}, (∀ x ∈ l, lt p x.p = true) → (l.filter fun x => decide (x.p ≠ p)) = l := fun {l} h =>
  List.filter_eq_self.2 fun x hx => by simp [(lt_ne (h x hx)).symm]
theorem filter_del (p : ByteArray) : ∀ {l : List Pr}, Rises l → (l.filter fun x => decide (x.p ≠ p)) = del p l
  | [], _ => rfl
  | x :: r, h => by
    have ih := filter_del p h.tail
    rcases lt_three x.p p with h1 | h1 | h1
    · rw [del_lt h1, List.filter_cons_of_pos (by simp [lt_ne h1]), ih]
    · rw [del_eq h1, List.filter_cons_of_neg (by simp [h1])]
      exact filter_above fun y hy => by rw [← h1]; exact h.above _ hy
    · rw [del_gt h1]
      exact filter_above fun y hy => by
        rcases List.mem_cons.1 hy with rfl | hy
        · exact h1
        · exact lt_trans h1 (h.above _ hy)
theorem insert_front {p v : ByteArray} : ∀ {l : List Pr}, (∀ x ∈ l, lt p x.p = true) → DataW.insert (ent ⟨p, v⟩) (l.map ent) = (⟨p, v⟩ :: l).map ent
  | [], _ => rfl
  | x :: r, h => by
    show (if (key p).before (key x.p) then _ else _) = _
    rw [key_before, if_pos (h x (List.mem_cons_self ..))]
    rfl
theorem insert_put (p v : ByteArray) : ∀ {l : List Pr}, Rises l → DataW.insert (ent ⟨p, v⟩) ((l.filter fun x => decide (x.p ≠ p)).map ent) = (put p v l).map ent
  | [], _ => rfl
  | x :: r, h => by
    have ih := insert_put p v h.tail
    rcases lt_three x.p p with h1 | h1 | h1
    · rw [put_lt h1, List.filter_cons_of_pos (by simp [lt_ne h1]), List.map_cons, List.map_cons, ← ih]
      show (if (key p).before (key x.p) then _ else _) = _
      rw [key_before, if_neg (by rw [lt_asymm h1]; decide)]
    · rw [put_eq h1, List.filter_cons_of_neg (by simp [h1])]
      have ha : ∀ y ∈ r, lt p y.p = true := fun y hy => by rw [← h1]; exact h.above _ hy
      rw [filter_above ha]
      exact insert_front ha
    · rw [put_gt h1]
      have ha : ∀ y ∈ x :: r, lt p y.p = true := fun y hy => by
        rcases List.mem_cons.1 hy with rfl | hy
        · exact h1
        · exact lt_trans h1 (h.above _ hy)
      rw [filter_above ha]
      exact insert_front ha
theorem filter_ent (p : ByteArray) (l : List Pr) : ((l.map ent).filter fun q => !q.1.sameKey (key p)) = (l.filter fun x => decide (x.p ≠ p)).map ent := by
  rw [List.filter_map]
  congr 1
  refine List.filter_congr fun x _ => ?_
  show (!(key x.p).sameKey (key p)) = _
  rw [same_key]
  simp
theorem dat_put {l : List Pr} (h : Rises l) (p v : ByteArray) : (dat l).put (key p) (.held (val ⟨p, v⟩)) = dat (put p v l) := by
  show DataW.map (DataW.insert (ent ⟨p, v⟩) ((l.map ent).filter fun q => !q.1.sameKey (key p))) = _
  rw [filter_ent, insert_put p v h]
  rfl
theorem dat_del {l : List Pr} (h : Rises l) (p : ByteArray) : (dat l).del (key p) = dat (del p l) := by
  show DataW.map ((l.map ent).filter fun q => !q.1.sameKey (key p)) = _
  rw [filter_ent, filter_del p h]
  rfl
theorem find_ent (p : ByteArray) (l : List Pr) : ((l.map ent).find? fun q => q.1.sameKey (key p)) = (l.find? fun x => decide (x.p = p)).map ent := by
  rw [List.find?_map]
  congr 2
  funext x
  exact same_key x.p p
/-- What a lookup tells: the pair, or what there is else. -/
def lookV (l : List Pr) (p : ByteArray) (z : Value) : Value := match get p l with | some v => val ⟨p, v⟩ | none => z
theorem lookV_some {l : List Pr} {p v : ByteArray} (z : Value) (h : get p l = some v) : lookV l p z = val ⟨p, v⟩ := by unfold lookV; rw [h]
theorem lookV_none {l : List Pr} {p : ByteArray} (z : Value) (h : get p l = none) : lookV l p z = z := by unfold lookV; rw [h]
theorem dat_at {l : List Pr} (h : Rises l) (p : ByteArray) (z : Value) : (dat l).atKey (key p) (.held z) = .held (lookV l p z) := by
  unfold dat DataW.atKey
  dsimp only
  rw [find_ent, find_get p h]
  unfold lookV
  cases get p l <;> rfl
theorem dat_has {l : List Pr} (h : Rises l) (p : ByteArray) : Maps.has (dat l) (key p) = (get p l).isSome := by
  show (l.map ent).any (fun q => q.1.sameKey (key p)) = _
  have e : (l.map ent).any (fun q => q.1.sameKey (key p)) = ((l.map ent).find? fun q => q.1.sameKey (key p)).isSome := by rw [Bool.eq_iff_iff, List.find?_isSome, List.any_eq_true]
  rw [e, find_ent, find_get p h]
  cases get p l <;> rfl
theorem dat_size (l : List Pr) : Maps.size (dat l) = l.length := by simp [dat, Maps.size]
theorem keyOf_str {P : Program} {k : TypeId} (hk : P.underlying k = some .string) {p : ByteArray} (hp : p.size ≤ maxLen) : keyOf P k (.string p) = some (key p) := by
  rw [keyOf_string hk]
  unfold mapKey
  simp only [hk, hp, if_true]
  rfl
/-- Block b is a map of these pairs. -/
structure MapAt (P : Program) (k : TypeId) (w : World) (b : Nat) (l : List Pr) : Prop where
  rises : Rises l
  own : w.ownsMap P k hv b l.length (dat l)
section
variable {P : Program} {k t e : TypeId} {w : World} {b : Nat} {l : List Pr}
theorem owns_tight {n : Nat} (h : w.ownsMap P k hv b n (dat l)) : w.ownsMap P k hv b l.length (dat l) := by
  obtain ⟨es, clock, hb, Ft, hn, hD⟩ := h
  refine ⟨es, clock, hb, Ft, ?_, hD⟩
  have hs := congrArg Maps.size hD
  rw [dat_size] at hs
  rw [hs]
  simp [Maps.size, length_sorted]
theorem MapAt.lt (h : MapAt P k w b l) : b < w.heap.size := h.own.lt
theorem MapAt.kind (h : MapAt P k w b l) : ∃ es c, w.heap[b]? = some (.map es c) := by obtain ⟨es, c, h, _⟩ := h.own; exact ⟨es, c, h⟩
theorem MapAt.block {w' : World} (h : MapAt P k w b l) (hb : w'.heap[b]? = w.heap[b]?) : MapAt P k w' b l := by
  obtain ⟨h1, es, c, h, rest⟩ := h
  exact ⟨h1, es, c, hb.trans h, rest⟩
theorem MapAt.made (w : World) : MapAt P k (w.alloc (.map #[] 0)) w.heap.size [] := ⟨List.Pairwise.nil, World.ownsMap_made w P k hv⟩
/-- m[p]. -/
theorem MapAt.look (h : MapAt P k w b l) (hk : P.underlying k = some .string) (ht : P.underlying t = some (.map k e)) {z : Value} (hz : (zeroValue e).run P w = .ok z w) {p : ByteArray} (hp : p.size ≤ maxLen) :
    (Instr.lookup t (.map (some b)) (.string p) false).run P w = .ok (lookV l p z) w := by
  obtain ⟨v, ps, hrun, hvv⟩ := h.own.lookup (string_keyed hk) ht hz (show hv z = some (.held z, []) from rfl) (keyOf_str hk hp)
  rw [dat_at h.rises p z] at hvv
  simp only [hv, Option.some.injEq, Prod.mk.injEq, DataW.held.injEq] at hvv
  rw [hrun, hvv.1]
/-- m[p], and whether it is there. -/
theorem MapAt.look_ok (h : MapAt P k w b l) (hk : P.underlying k = some .string) (ht : P.underlying t = some (.map k e)) {z : Value} (hz : (zeroValue e).run P w = .ok z w) {p : ByteArray} (hp : p.size ≤ maxLen) :
    (Instr.lookup t (.map (some b)) (.string p) true).run P w = .ok (.tuple #[lookV l p z, .bool (get p l).isSome]) w := by
  obtain ⟨v, ps, hrun, hvv⟩ := h.own.look_ok (string_keyed hk) ht hz (show hv z = some (.held z, []) from rfl) (keyOf_str hk hp)
  rw [dat_at h.rises p z] at hvv
  simp only [hv, Option.some.injEq, Prod.mk.injEq, DataW.held.injEq] at hvv
  rw [dat_has h.rises p] at hrun
  rw [hrun, hvv.1]
/-- m[p] = (p, v). -/
theorem MapAt.store (h : MapAt P k w b l) (hk : P.underlying k = some .string) (ht : P.underlying t = some (.map k e)) (hn : l.length < maxLen) {p : ByteArray} (hp : p.size ≤ maxLen) (v : ByteArray) :
    ∃ w', (Instr.mapUpdate t (.map (some b)) (.string p) (.agg #[.string p, .string v])).run P w = .ok () w' ∧ MapAt P k w' b (put p v l) ∧ w.mapTurned w' b := by
  obtain ⟨w', hrun, ho, hg⟩ := h.own.store (string_keyed hk) ht hn (keyOf_str hk hp) (show hv (val ⟨p, v⟩) = some (.held (val ⟨p, v⟩), []) from rfl)
  rw [dat_put h.rises] at ho
  exact ⟨w', hrun, ⟨put_rises h.rises, owns_tight ho⟩, hg⟩
/-- delete(m, p). -/
theorem MapAt.drop (h : MapAt P k w b l) (hk : P.underlying k = some .string) (ht : P.underlying t = some (.map k e)) {p : ByteArray} (hp : p.size ≤ maxLen) (ty : TypeId) :
    ∃ w', (Builtin.delete_ #[t, k] ty #[.map (some b), .string p]).run P w = .ok (.tuple #[]) w' ∧ MapAt P k w' b (del p l) ∧ w.mapTurned w' b := by
  obtain ⟨w', hrun, ho, hg⟩ := h.own.drop (string_keyed hk) ht (keyOf_str hk hp) ty
  rw [dat_del h.rises] at ho
  exact ⟨w', hrun, ⟨del_rises h.rises, owns_tight ho⟩, hg⟩
/-- len(m). -/
theorem MapAt.len (h : MapAt P k w b l) (ht : P.underlying t = some (.map k e)) (ty : TypeId) : (Builtin.len_ #[t] ty #[.map (some b)]).run P w = .ok (.int .i64 (l.length : Nat)) w := by
  rw [h.own.len ht ty, dat_size]
theorem keyOf_string_inv {kv : Value} {kl : Lit} (hk : P.underlying k = some .string) (h : keyOf P k kv = some kl) : ∃ p, kv = .string p ∧ kl = key p ∧ p.size ≤ maxLen := by
  rw [keyOf_string hk] at h
  unfold mapKey at h
  rw [hk] at h
  cases kv with
  | string s =>
    simp only at h
    split at h
    · rename_i hs
      exact ⟨s, rfl, (Option.some.inj h).symm, hs⟩
    · cases h
  | _ => simp at h
/-- The paths of a map are no longer than a text may be. -/
theorem MapAt.small (h : MapAt P k w b l) (hk : P.underlying k = some .string) : ∀ x ∈ l, x.p.size ≤ maxLen := by
  obtain ⟨h1, es, c, hb, Ft, hn, hD⟩ := h
  intro x hx
  have hm : ent x ∈ (es.toList.map (WideElems.rg P k hv)).foldr DataW.insert [] := by
    injection hD with e1
    rw [← e1]
    exact List.mem_map.2 ⟨x, hx, rfl⟩
  obtain ⟨y, hy, ey⟩ := List.mem_map.1 (mem_sorted.1 hm)
  obtain ⟨z, hz⟩ := Ft.reads y hy
  have h3 := WideElems.rd_key hz
  obtain ⟨p, _, e4, hp⟩ := keyOf_string_inv hk h3
  have e5 : (WideElems.rg P k hv y).1 = z.1 := by rw [WideElems.rg_of hz]
  rw [ey] at e5
  have : key x.p = key p := by rw [← e4, ← e5]; rfl
  rw [key_inj this]
  exact hp
/-- A range over the map under way: which paths are still to come. -/
def RangeAt (P : Program) (k : TypeId) (w : World) (b r : Nat) (l : List Pr) (left : ByteArray → Bool) (cnt : Nat) : Prop :=
  ∃ L, w.ranges P k hv b r l.length (dat l) L cnt ∧ Rises l ∧ ∀ p, left p = L (key p)
variable {r : Nat} {left : ByteArray → Bool} {cnt : Nat}
theorem RangeAt.map (h : RangeAt P k w b r l left cnt) : MapAt P k w b l := by
  obtain ⟨L, h, hR, _⟩ := h
  exact ⟨hR, h.owns⟩
theorem RangeAt.ne (h : RangeAt P k w b r l left cnt) : r ≠ b := by obtain ⟨L, h, _⟩ := h; exact h.ne
theorem RangeAt.lt (h : RangeAt P k w b r l left cnt) : r < w.heap.size := by obtain ⟨L, h, _⟩ := h; exact h.lt
theorem RangeAt.left_eq (h : RangeAt P k w b r l left cnt) : w.rangeLeft b r = cnt := by obtain ⟨L, h, _⟩ := h; exact h.left_eq
theorem RangeAt.iter (h : RangeAt P k w b r l left cnt) : ∃ m s seen c, w.heap[r]? = some (.mapIter m s seen c) := by
  obtain ⟨L, ⟨es, c, s, seen, c0, _, _, _, _, h, _⟩, _⟩ := h
  exact ⟨_, _, _, _, h⟩
theorem RangeAt.block {w' : World} (h : RangeAt P k w b r l left cnt) (hb : w'.heap[b]? = w.heap[b]?) (hr : w'.heap[r]? = w.heap[r]?) : RangeAt P k w' b r l left cnt := by
  obtain ⟨L, ⟨es, c, s, seen, c0, h1, h2, h3, h4, h5, rest⟩, hR, hL⟩ := h
  exact ⟨L, ⟨es, c, s, seen, c0, hb.trans h1, h2, h3, h4, hr.trans h5, rest⟩, hR, hL⟩
theorem MapAt.range (h : MapAt P k w b l) (hk : P.underlying k = some .string) (ht : P.underlying t = some (.map k e)) :
    ∃ w', (Instr.range t (.map (some b))).run P w = .ok (.pointer (some ⟨w.heap.size, 0, none⟩)) w' ∧ RangeAt P k w' b w.heap.size l (fun p => (get p l).isSome) l.length ∧ w.grownBy w' none ∧ w'.heap.size = w.heap.size + 1 := by
  obtain ⟨w', h1, h2, h3, h4⟩ := h.own.range (string_keyed hk) ht
  rw [dat_size] at h2
  exact ⟨w', h1, ⟨_, h2, h.rises, fun p => (dat_has h.rises p).symm⟩, h3, h4⟩
/-- The step. -/
theorem RangeAt.next (h : RangeAt P k w b r l left cnt) (hk : P.underlying k = some .string) (ty : TypeId) :
    ((∀ p, left p = false) ∧ (Instr.next (.pointer (some ⟨r, 0, none⟩)) false ty).run P w = .ok (.tuple #[.bool false]) w) ∨
    ∃ p v w' cnt', left p = true ∧ get p l = some v ∧ p.size ≤ maxLen ∧ (Instr.next (.pointer (some ⟨r, 0, none⟩)) false ty).run P w = .ok (.tuple #[.bool true, .string p, .agg #[.string p, .string v]]) w' ∧
      RangeAt P k w' b r l (fun q => left q && !decide (q = p)) cnt' ∧ cnt' < cnt ∧ w.grownBy w' (some r) ∧ w'.heap.size = w.heap.size ∧ (Instr.entry (.pointer (some ⟨r, 0, none⟩))).run P w' = .ok (.tuple #[.string p, .agg #[.string p, .string v]]) w' := by
  obtain ⟨L, hr, hR, hL⟩ := h
  rcases hr.next (string_keyed hk) ty with ⟨_, h1, h2⟩ | ⟨kv, v, kl, y, w', cnt', h1, h2, h3, h4, h5, h6, h7, h8, h9, h10⟩
  · exact .inl ⟨fun i => by rw [hL]; exact h1 _, h2⟩
  · refine .inr ?_
    obtain ⟨p, rfl, rfl, hp⟩ := keyOf_string_inv hk h1
    simp only [hv, Option.some.injEq] at h3
    subst h3
    cases hg : get p l with
    | none =>
      have a1 := h4 (.held (.bool true))
      have a2 := h4 (.held (.bool false))
      rw [dat_at hR, lookV_none _ hg] at a1 a2
      rw [← a2] at a1
      cases a1
    | some u =>
      have a1 := h4 (.held (.bool true))
      rw [dat_at hR, lookV_some _ hg] at a1
      simp only [DataW.held.injEq] at a1
      subst a1
      refine ⟨p, u, w', cnt', by rw [hL]; exact h2, hg, hp, h5, ⟨_, h6, hR, fun q => ?_⟩, h7, h8, h9, h10⟩
      show (left q && !decide (q = p)) = (L (key q) && !(key q).sameKey (key p))
      rw [hL, same_key]
end
/-- A map that may be none. -/
def Has (P : Program) (k : TypeId) (w : World) (mb : Option Nat) (l : List Pr) : Prop := (mb = none ∧ l = []) ∨ ∃ b, mb = some b ∧ MapAt P k w b l
section
variable {P : Program} {k t e : TypeId} {w : World} {mb : Option Nat} {l : List Pr}
theorem Has.rises (h : Has P k w mb l) : Rises l := by
  rcases h with ⟨_, rfl⟩ | ⟨b, _, h⟩
  · exact List.Pairwise.nil
  · exact h.rises
theorem Has.block {w' : World} (h : Has P k w mb l) (hb : ∀ b, mb = some b → w'.heap[b]? = w.heap[b]?) : Has P k w' mb l := by
  rcases h with h | ⟨b, rfl, h⟩
  · exact .inl h
  · exact .inr ⟨b, rfl, h.block (hb b rfl)⟩
theorem Has.lt (h : Has P k w mb l) {b : Nat} (hb : mb = some b) : b < w.heap.size := by
  rcases h with ⟨rfl, _⟩ | ⟨b', rfl, h⟩
  · cases hb
  · cases hb; exact h.lt
theorem Has.kind (h : Has P k w mb l) {b : Nat} (hb : mb = some b) : ∃ es c, w.heap[b]? = some (.map es c) := by
  rcases h with ⟨rfl, _⟩ | ⟨b', rfl, h⟩
  · cases hb
  · cases hb; exact h.kind
theorem Has.look_ok (h : Has P k w mb l) (hk : P.underlying k = some .string) (ht : P.underlying t = some (.map k e)) {z : Value} (hz : (zeroValue e).run P w = .ok z w) {p : ByteArray} (hp : p.size ≤ maxLen) :
    (Instr.lookup t (.map mb) (.string p) true).run P w = .ok (.tuple #[lookV l p z, .bool (get p l).isSome]) w := by
  rcases h with ⟨rfl, rfl⟩ | ⟨b, rfl, h⟩
  · exact Maps.look_nil true (string_keyed hk) ht hz (keyOf_str hk hp)
  · exact h.look_ok hk ht hz hp
theorem Has.look (h : Has P k w mb l) (hk : P.underlying k = some .string) (ht : P.underlying t = some (.map k e)) {z : Value} (hz : (zeroValue e).run P w = .ok z w) {p : ByteArray} (hp : p.size ≤ maxLen) :
    (Instr.lookup t (.map mb) (.string p) false).run P w = .ok (lookV l p z) w := by
  rcases h with ⟨rfl, rfl⟩ | ⟨b, rfl, h⟩
  · exact Maps.look_nil false (string_keyed hk) ht hz (keyOf_str hk hp)
  · exact h.look hk ht hz hp
theorem Has.len (h : Has P k w mb l) (ht : P.underlying t = some (.map k e)) (ty : TypeId) : (Builtin.len_ #[t] ty #[.map mb]).run P w = .ok (.int .i64 (l.length : Nat)) w := by
  rcases h with ⟨rfl, rfl⟩ | ⟨b, rfl, h⟩
  · exact Maps.len_nil ht ty
  · exact h.len ht ty
end
theorem perm_of : ∀ {l m : List Pr}, l.Nodup → l.Subset m → m.length ≤ l.length → l.Perm m
  | [], m, _, _, hn => by rw [List.eq_nil_of_length_eq_zero (Nat.le_zero.1 hn)]
  | x :: r, m, hd, hs, hn => by
    obtain ⟨h1, h2⟩ := List.nodup_cons.1 hd
    obtain ⟨a, b, rfl⟩ := List.append_of_mem (hs (List.mem_cons_self ..))
    have hs' : r.Subset (a ++ b) := fun y hy => by
      have := hs (List.mem_cons_of_mem _ hy)
      rcases List.mem_append.1 this with h | h
      · exact List.mem_append_left _ h
      · rcases List.mem_cons.1 h with rfl | h
        · exact absurd hy h1
        · exact List.mem_append_right _ h
    have ih := perm_of h2 hs' (by simp only [List.length_append, List.length_cons] at hn ⊢; omega)
    exact (ih.cons x).trans List.perm_middle.symm
/-- Of two rows that rise: as long, and one within the other: the same. -/
theorem sub_eq {l m : List Pr} (hl : Rises l) (hm : Rises m) (hn : l.length = m.length) (h : ∀ x ∈ l, get x.p m = some x.v) : l = m := by
  have hd : l.Nodup := hl.imp fun {x y} hxy e => by rw [e, lt_irrefl] at hxy; cases hxy
  have hs : l.Subset m := fun x hx => (get_mem hm x.v).1 (h x hx)
  have hp : l.Perm m := perm_of hd hs (by omega)
  exact rises_ext hl hm fun p => by
    cases hg : get p l with
    | some v => exact ((get_mem hm v).2 (hp.mem_iff.1 ((get_mem hl v).1 hg))).symm
    | none =>
      cases hg2 : get p m with
      | none => rfl
      | some v =>
        have := (get_mem hl v).2 (hp.mem_iff.2 ((get_mem hm v).1 hg2))
        rw [hg] at this; cases this
theorem rises_sorted {l : List Pr} (h : Rises l) : (l.map (·.p)).Pairwise fun a b => lt a b = true := List.pairwise_map.2 h
theorem rises_nodup {l : List Pr} (h : Rises l) : (l.map (·.p)).Nodup := (rises_sorted h).imp fun hab e => by rw [e, lt_irrefl] at hab; cases hab
end Om
end Go.Proofs.Ytehkbffbehlpnaa
