/-
  Texts that belong together, laid into one.
-/
import Derived.Test.YtiehcplepneajaaGreatDoorMBase
import Derived.Test.YtiehcplepneajaaGreatDoorTrB
import Derived.Test.YtiehcplepneajaaGreatDoorTrA
import Derived.Test.YtiehcplepneajaaGreatDoorR14One
import Derived.Test.YtiehcplepneajaaGreatDoorMRs
import Derived.Test.YtiehcplepneajaaGreatDoorTrD
import Derived.Test.YtiehcplepneajaaGreatDoorOmOwn
import Derived.Test.YtiehcplepneajaaGreatDoorTrFront
import Derived.Test.YtiehcplepneajaaGreatDoorR13One
import Derived.Great.BuildSlice
import Derived.Deep.RegionHeld3
/-
  Rows of hashes of one's own, and one more behind them.
-/
namespace Go.Proofs.YtiehcplepneajaaGreatDoor
open Go.RowKit
namespace Tr
def hflat (l : List (List UInt8)) : List Value := l.flatMap Lib.byteCells
theorem hflat_length : ∀ {l : List (List UInt8)}, (∀ x ∈ l, x.length = 32) → (hflat l).length = l.length * 32
  | [], _ => rfl
  | x :: r, h => by
    have e : hflat (x :: r) = Lib.byteCells x ++ hflat r := rfl
    have ih := hflat_length (l := r) fun y hy => h y (by simp [hy])
    rw [e, List.length_append, ih, List.length_cons, Lib.byteCells_length, h x (by simp)]; omega
theorem hflat_append (l m : List (List UInt8)) : hflat (l ++ m) = hflat l ++ hflat m := by unfold hflat; rw [List.flatMap_append]
theorem hflat_one (x : List UInt8) : hflat [x] = Lib.byteCells x := by simp [hflat]
theorem hflat_at : ∀ {l : List (List UInt8)} (_ : ∀ x ∈ l, x.length = 32) {k : Nat} (hk : k < l.length), ((hflat l).drop (k * 32)).take 32 = Lib.byteCells l[k]
  | [], _, _, hk => absurd hk (Nat.not_lt_zero _)
  | x :: r, h, 0, _ => by
    show ((Lib.byteCells x ++ hflat r).drop (0 * 32)).take 32 = Lib.byteCells x
    have hl : (Lib.byteCells x).length = 32 := by rw [Lib.byteCells_length, h x (by simp)]
    rw [Nat.zero_mul, List.drop_zero, List.take_append_of_le_length (by omega), List.take_of_length_le (by omega)]
  | x :: r, h, k + 1, hk => by
    show ((Lib.byteCells x ++ hflat r).drop ((k + 1) * 32)).take 32 = _
    have hl : (Lib.byteCells x).length = 32 := by rw [Lib.byteCells_length, h x (by simp)]
    rw [List.drop_append, List.drop_of_length_le (by omega), List.nil_append, hl, show (k + 1) * 32 - 32 = k * 32 by omega]
    exact hflat_at (l := r) (fun y hy => h y (by simp [hy])) (by simpa using hk)
/-- A row of these hashes, of one's own from block B on. -/
structure HRow (w : World) (B : Nat) (A : Option Addr) (c : Nat) (l : List (List UInt8)) : Prop where
  len : ∀ x ∈ l, x.length = 32
  own : w.ownsRow B 36 32 (.slice A l.length c) l.length (hflat l)
theorem HRow.nil (w : World) (B : Nat) : HRow w B none 0 [] := ⟨fun _ h => (by cases h), World.ownsRow_nil _ _ _ _⟩
theorem HRow.blk {w : World} {B : Nat} {A : Option Addr} {c : Nat} {l : List (List UInt8)} (h : HRow w B A c l) {q : Nat} (hq : (Value.slice A l.length c).ownBlock = some q) : B ≤ q ∧ ∃ cs, w.heap[q]? = some (.cells cs 36 (0, 0)) := by
  rcases h.own.2 with ⟨e, _⟩ | ⟨g, cap, cur, e, hb, hg, _⟩
  · rw [e] at hq; cases hq
  · rw [e] at hq
    have e1 : g = q := Option.some.inj hq
    subst e1
    exact ⟨hb, cur, hg⟩
/-- Where it lies. -/
theorem HRow.lies {w : World} {B : Nat} {A : Option Addr} {c : Nat} {l : List (List UInt8)} (h : HRow w B A c l) (hn : l ≠ []) : ∃ g cur, A = some ⟨g, 0, none⟩ ∧ B ≤ g ∧ w.heap[g]? = some (.cells cur 36 (0, 0)) ∧ l.length * 32 ≤ cur.size ∧ cur.toList.take (l.length * 32) = hflat l := by
  rcases h.own.2 with ⟨_, e⟩ | ⟨g, cap, cur, e, hb, hg, h1, _, h3, h4⟩
  · exact absurd (List.eq_nil_of_length_eq_zero e) hn
  · injection e with e1 e2 e3
    exact ⟨g, cur, e1, hb, hg, by rw [h3]; exact Nat.mul_le_mul_right 32 h1, h4⟩
theorem mid_of {cur : Array Value} {l : List (List UInt8)} (hl : ∀ x ∈ l, x.length = 32) (h : cur.toList.take (l.length * 32) = hflat l) {k : Nat} (hk : k < l.length) : (cur.toList.drop (k * 32)).take 32 = Lib.byteCells l[k] := by
  rw [← hflat_at hl hk, ← h, List.drop_take, List.take_take]
  congr 1
  omega
theorem HRow.keep {w w' : World} {B : Nat} {A : Option Addr} {c : Nat} {l : List (List UInt8)} (h : HRow w B A c l) (k : ∀ (i : Nat) (cs : Array Value), B ≤ i → w.heap[i]? = some (Obj.cells cs 36 (0, 0)) → (Value.slice A l.length c).ownBlock = some i → w'.heap[i]? = w.heap[i]?) : HRow w' B A c l :=
  ⟨h.len, h.own.1, h.own.2.imp id fun ⟨g, cap, cur, hv, hb, hg, rest⟩ => ⟨g, cap, cur, hv, hb, (k g _ hb hg (by rw [hv]; rfl)).trans hg, rest⟩⟩
theorem HRow.low {w w' : World} {B : Nat} {A : Option Addr} {c : Nat} {l : List (List UInt8)} (h : HRow w B A c l) (k : Below w.heap.size w w') : HRow w' B A c l := h.keep fun _ _ _ hi _ => k.block _ (Array.getElem?_eq_some_iff.1 hi).1
theorem HRow.turned {w w' : World} {B : Nat} {A : Option Addr} {c : Nat} {l : List (List UInt8)} (h : HRow w B A c l) {b : Nat} (hb : (Value.slice A l.length c).ownBlock ≠ some b) (k : w.grownBy w' (some b)) : HRow w' B A c l :=
  h.keep fun i cs' _ hi he => k.block i (Array.getElem?_eq_some_iff.1 hi).1 fun e => by
    injection e with e
    subst e
    exact hb he
theorem hash_info : (Tryz.prog.info? 36).map (fun i => (i.zero, i.size, i.bytes)) = some (some (.agg (Lib.byteCells (List.replicate 32 0)).toArray), 32, 32) := by kernel_rfl
/-- One hash more. -/
theorem HRow.push0 {w : World} {K0 : Act → World → Prop} {o : Oper} {a : Act} {Q : Exit → Act → World → Prop} (s y : Operand)
    (ho : o.op = .call { callee := .builtin .append, args := #[s, y], argTypes := #[139, 139] }) {B : Nat} {A : Option Addr} {c : Nat} {l : List (List UInt8)} (hs : a.eval s = .slice A l.length c) (h : HRow w B A c l) (x : List UInt8) (hx : x.length = 32) {N : Nat}
    (hy : a.eval y = .slice (some ⟨N, 0, none⟩) 1 1) (hN : w.heap[N]? = some (.cells (Lib.byteCells x).toArray 36 (0, 0))) (hl : l.length ≤ 1000000) (hB : B ≤ w.heap.size)
    (K : ∀ A' c' w', HRow w' B A' c' (l ++ [x]) → w.grownBy w' (Value.slice A l.length c).ownBlock → K0 (a.put o.dst (.slice A' (l.length + 1) c')) w') : o.wp Tryz.prog a w K0 Q := by
  obtain ⟨i0, hi, hz0, hz1, hz2⟩ := info_parts hash_info
  have hxl : (Lib.byteCells x).length = 32 := by rw [Lib.byteCells_length, hx]
  refine wp_append_own w s y 139 ho B 36 i0 (.agg (Lib.byteCells (List.replicate 32 0)).toArray) 32 32 Tryz.underlying139 hi hz0 hz1 hz2 rfl (by decide) _ _ _ hs h.own ⟨N, 0, none⟩ 1 1 (Lib.byteCells x) hy (by rw [hxl]) ?_ (fun u hu => by
    have := Array.all_eq_true'.1 (Sm.bytes_one x) u (by simpa using hu)
    exact this) (by unfold maxLen; omega) (by omega) hB ?_
  · intro j u hu
    rw [Addr.add_mid, Nat.zero_add]
    exact Sm.cells_of hN j _ (by simpa using hu)
  · intro v' w' h1 h2 _
    obtain ⟨A', c', rfl⟩ := Sm.own_shape h1
    have e : (l ++ [x]).length = l.length + 1 := by simp
    refine K A' c' w' ⟨fun y hy => ?_, ?_⟩ h2
    · rcases List.mem_append.1 hy with h3 | h3
      · exact h.len y h3
      · rw [List.mem_singleton.1 h3]; exact hx
    · rw [e, hflat_append, hflat_one]
      exact h1
theorem HRow.push {w : World} {ops : Array Oper} {rest : List Oper} {o : Oper} {a : Act} {Q : Exit → Act → World → Prop} (hgd : o.guard = none) (s y : Operand)
    (ho : o.op = .call { callee := .builtin .append, args := #[s, y], argTypes := #[139, 139] }) {B : Nat} {A : Option Addr} {c : Nat} {l : List (List UInt8)} (hs : a.eval s = .slice A l.length c) (h : HRow w B A c l) (x : List UInt8) (hx : x.length = 32) {N : Nat}
    (hy : a.eval y = .slice (some ⟨N, 0, none⟩) 1 1) (hN : w.heap[N]? = some (.cells (Lib.byteCells x).toArray 36 (0, 0))) (hl : l.length ≤ 1000000) (hB : B ≤ w.heap.size)
    (K : ∀ A' c' w', HRow w' B A' c' (l ++ [x]) → w.grownBy w' (Value.slice A l.length c).ownBlock → wpList Tryz.prog ops Q rest (a.put o.dst (.slice A' (l.length + 1) c')) w') : wpList Tryz.prog ops Q (o :: rest) a w :=
  wpList_plain hgd fun _ hK => HRow.push0 s y ho hs h x hx hy hN hl hB fun A' c' w' h1 h2 => hK _ _ (K A' c' w' h1 h2)
theorem fold_set32 : ∀ (cs : List Value) (o : Nat) (z : Array Value), o + cs.length ≤ z.size → ((cs.zipIdx o).foldl (fun (c : Array Value) (x : Value × Nat) => c.setIfInBounds x.2 x.1) z).toList = z.toList.take o ++ (cs ++ z.toList.drop (o + cs.length))
  | [], o, z, _ => by simp
  | v :: r, o, z, h => by
    simp only [List.length_cons] at h
    rw [List.zipIdx_cons, List.foldl_cons, fold_set32 r (o + 1) _ (by simp; omega), Array.toList_setIfInBounds]
    have ho : o < z.toList.length := by simp; omega
    rw [List.take_succ_eq_append_getElem (by simpa using ho), List.getElem_set_self, List.take_set_of_le (Nat.le_refl o), List.drop_set_of_lt (by omega)]
    simp [Nat.add_comm, Nat.add_left_comm]
theorem fill_hash (z : Array Value) {cs : List Value} (h : cs.length = 32) (hz : z.size = 32) : Instr.fill (fun i => some (i * 32, 32)) z [(0, .agg cs.toArray)] = some cs.toArray := by
  have e : (Array.foldl (fun (cs : Array Value) (x : Value × Nat) => cs.setIfInBounds (0 + x.2) x.1) z (cs.toArray.zipIdx)) = cs.toArray := by
    rw [← Array.foldl_toList]
    apply Array.ext'
    have h2 := fold_set32 cs 0 z (by omega)
    rw [List.take_zero, List.nil_append, List.drop_of_length_le (by simp; omega), List.append_nil] at h2
    simpa using h2
  have hc : (Value.agg cs.toArray).cells = cs.toArray := rfl
  unfold Instr.fill
  simp only [hc, List.size_toArray, h, hz, Nat.zero_mul, ne_eq, not_true_eq_false, decide_false, Nat.zero_add, Nat.lt_irrefl, gt_iff_lt, Bool.or_self, Bool.false_eq_true, if_false]
  simp only [Nat.zero_add] at e
  rw [e]
  rfl
theorem size32r (f : Nat → Value) : ((Array.range (1 * 32)).map f).size = 32 := by simp
/-- A row of one hash, built. -/
theorem wp_one_hash {o : Oper} {a : Act} {w : World} {K : Act → World → Prop} {Q : Exit → Act → World → Prop} (y : Operand) (ho : o.op = .buildSlice 139 1 #[(0, y)]) (x : List UInt8) (hx : x.length = 32) (hy : a.eval y = .agg (Lib.byteCells x).toArray)
    (h : K (a.put o.dst (.slice (some ⟨w.heap.size, 0, none⟩) 1 1)) (w.alloc (.cells (Lib.byteCells x).toArray 36))) : o.wp Tryz.prog a w K Q := by
  obtain ⟨i0, hi, hz0, hz1, hz2⟩ := info_parts hash_info
  exact wp_buildSlice 139 36 1 #[(0, y)] ho (Lib.byteCells x).toArray i0 _ Tryz.underlying139 hi hz0 (by rw [hz1]; decide) (by rw [hz1]; decide) (by rw [hz1]; simp only [List.map_toArray, List.map_cons, List.map_nil, hy]; exact fill_hash _ (by rw [Lib.byteCells_length, hx]) (size32r _)) h
end Tr
end Go.Proofs.YtiehcplepneajaaGreatDoor

/-
  The document's levels of a tree, as they lie: a row of five rows of hashes; one of them while it grows.
-/
namespace Go.Proofs.YtiehcplepneajaaGreatDoor
open Go.RowKit
namespace Tr
open Om (Pr)
/-- A level's nodes. -/
def lvN (l : List Pr) (v i : Nat) : List UInt8 := nd l (4 - v) i
def lvs (l : List Pr) (v : Nat) : List (List UInt8) := (List.range (2 ^ v)).map (lvN l v)
theorem lvs_length (l : List Pr) (v : Nat) : (lvs l v).length = 2 ^ v := by simp [lvs]
theorem lvN_length (l : List Pr) (v i : Nat) : (lvN l v i).length = 32 := nd_length _ _ _
theorem lvs_get (l : List Pr) {v i : Nat} (_ : i < 2 ^ v) (h' : i < (lvs l v).length) : (lvs l v)[i] = lvN l v i := by simp [lvs]
theorem lvs_take (l : List Pr) {v i : Nat} (h : i < 2 ^ v) : (lvs l v).take (i + 1) = (lvs l v).take i ++ [lvN l v i] := by
  have h' : i < (lvs l v).length := by rw [lvs_length]; exact h
  rw [← List.take_append_getElem h', lvs_get l h]
theorem lvs_all (l : List Pr) (v : Nat) : (lvs l v).take (2 ^ v) = lvs l v := List.take_of_length_le (by rw [lvs_length]; omega)
theorem lvs_takeLen (l : List Pr) {v i : Nat} (h : i ≤ 2 ^ v) : ((lvs l v).take i).length = i := by rw [List.length_take, lvs_length]; omega
theorem lvN_leaf (l : List Pr) (i : Nat) : lvN l 4 i = Sm.sum (leafT l i) := rfl
theorem lvN_up (l : List Pr) {v : Nat} (h : v < 4) (i : Nat) : lvN l v i = Sm.sum (innerT (lvN l (v + 1) (2 * i)) (lvN l (v + 1) (2 * i + 1))) := by
  unfold lvN
  have e : 4 - v = (4 - (v + 1)) + 1 := by omega
  rw [e]
  rfl
theorem HRow.base {w : World} {B B' : Nat} {A : Option Addr} {c : Nat} {l : List (List UInt8)} (h : HRow w B A c l) (hb : B' ≤ B) : HRow w B' A c l :=
  ⟨h.len, h.own.1, h.own.2.imp id fun ⟨g, cap, cur, hv, h1, rest⟩ => ⟨g, cap, cur, hv, Nat.le_trans hb h1, rest⟩⟩
theorem range_mid {w : World} {g o : Nat} {cur : Array Value} {t : TypeId} {l : List UInt8} (h : w.heap[g]? = some (.cells cur t (0, 0))) (he : (cur.toList.drop o).take l.length = Lib.byteCells l) : w.rangeAt g o (Lib.byteCells l) := fun j v hv => by
  refine Sm.cells_of h (o + j) v ?_
  rw [← he, List.getElem?_take] at hv
  split at hv
  · rw [List.getElem?_drop] at hv
    simpa using hv
  · cases hv
/-- The levels from L on stand, in block b; those ahead of them are empty. -/
structure LevC (w : World) (B b : Nat) (cs : Array Value) (l : List Pr) (L : Nat) : Prop where
  low : B ≤ b
  blk : w.heap[b]? = some (.cells cs 139 (0, 0))
  size : cs.size = 5
  row : ∀ j, L ≤ j → j < 5 → ∃ A c, cs[j]? = some (.slice A (2 ^ j) c) ∧ HRow w B A c (lvs l j)
  nil : ∀ j, j < L → j < 5 → cs[j]? = some (.slice none 0 0)
theorem hashes_ne : 139 ≠ 36 := by decide
section
variable {w w' : World} {B b L : Nat} {cs : Array Value} {l : List Pr}
theorem LevC.lt (h : LevC w B b cs l L) : b < w.heap.size := Sm.lt_of h.blk
theorem LevC.step (h : LevC w B b cs l L) (k : Below w.heap.size w w') : LevC w' B b cs l L :=
  ⟨h.low, (k.block _ h.lt).trans h.blk, h.size, fun j h1 h2 => by obtain ⟨A, c, h3, h4⟩ := h.row j h1 h2; exact ⟨A, c, h3, h4.low k⟩, h.nil⟩
theorem LevC.made (w : World) (l : List Pr) : LevC (w.alloc (.cells #[.slice none 0 0, .slice none 0 0, .slice none 0 0, .slice none 0 0, .slice none 0 0] 139)) w.heap.size w.heap.size #[.slice none 0 0, .slice none 0 0, .slice none 0 0, .slice none 0 0, .slice none 0 0] l 5 :=
  ⟨Nat.le_refl _, heap_alloc_new _ _, rfl, fun j h1 h2 => by omega, fun j h1 _ => by
    obtain rfl | rfl | rfl | rfl | rfl : j = 0 ∨ j = 1 ∨ j = 2 ∨ j = 3 ∨ j = 4 := by omega
    all_goals rfl⟩
/-- A level's row, and a cell that tells it. -/
theorem LevC.get (h : LevC w B b cs l L) {j : Nat} (h1 : L ≤ j) (h2 : j < 5) : ∃ g c cur, w.cell? ⟨b, j, none⟩ = some (.slice (some ⟨g, 0, none⟩) (2 ^ j) c) ∧ w.heap[g]? = some (.cells cur 36 (0, 0)) ∧ 2 ^ j * 32 ≤ cur.size ∧ ∀ i, i < 2 ^ j → (cur.toList.drop (i * 32)).take 32 = Lib.byteCells (lvN l j i) := by
  obtain ⟨A, c, h3, h4⟩ := h.row j h1 h2
  have hp : 0 < 2 ^ j := Nat.two_pow_pos j
  obtain ⟨g, cur, rfl, -, hg, hs, ht⟩ := h4.lies (fun e => by have := lvs_length l j; rw [e] at this; simp at this; omega)
  rw [lvs_length] at hs
  refine ⟨g, c, cur, Sm.cells_of h.blk j _ h3, hg, hs, fun i hi => ?_⟩
  have hi' : i < (lvs l j).length := by rw [lvs_length]; exact hi
  rw [mid_of h4.len ht hi', lvs_get l hi hi']
/-- What the rows tell, wherever they stand. -/
theorem LevC.told (h : LevC w B b cs l L) {j : Nat} (h1 : L ≤ j) (h2 : j < 5) : ∃ g c, ∀ w', LevC w' B b cs l L → w'.cell? ⟨b, j, none⟩ = some (.slice (some ⟨g, 0, none⟩) (2 ^ j) c) ∧ ∀ i, i < 2 ^ j → w'.rangeAt g (i * 32) (Lib.byteCells (lvN l j i)) := by
  obtain ⟨A, c, h3, h4⟩ := h.row j h1 h2
  have hp : 0 < 2 ^ j := Nat.two_pow_pos j
  have hne : lvs l j ≠ [] := fun e => by have := lvs_length l j; rw [e] at this; simp at this; omega
  obtain ⟨g, cur, rfl, -, -, -, -⟩ := h4.lies hne
  refine ⟨g, c, fun w' h' => ⟨Sm.cells_of h'.blk j _ h3, fun i hi => ?_⟩⟩
  obtain ⟨A', c', h3', h4'⟩ := h'.row j h1 h2
  rw [h3] at h3'
  cases h3'
  obtain ⟨g', cur', e, -, e2, e3, e4⟩ := h4'.lies hne
  cases e
  have hi' : i < (lvs l j).length := by rw [lvs_length]; exact hi
  exact range_mid e2 (by rw [lvN_length, mid_of h4'.len e4 hi', lvs_get l hi hi'])
theorem LevC.base {B' : Nat} (h : LevC w B b cs l L) (hb : B' ≤ B) : LevC w B' b cs l L :=
  ⟨Nat.le_trans hb h.low, h.blk, h.size, fun j h1 h2 => by obtain ⟨A, c, h3, h4⟩ := h.row j h1 h2; exact ⟨A, c, h3, h4.base hb⟩, h.nil⟩
/-- A row of another kind is turned. -/
theorem LevC.turned (h : LevC w B b cs l L) {o : Option Nat} (hg : w.grownBy w' o) (ho : ∀ q, o = some q → ∃ c t, w.heap[q]? = some (.cells c t (0, 0)) ∧ t ≠ 36 ∧ t ≠ 139) : LevC w' B b cs l L := by
  have key : ∀ (i : Nat) (c : Array Value) (t : TypeId), w.heap[i]? = some (.cells c t (0, 0)) → t = 36 ∨ t = 139 → w'.heap[i]? = w.heap[i]? := fun i c t hi ht => by
    refine hg.block i (Sm.lt_of hi) fun e => ?_
    obtain ⟨c', t', h1, h2, h3⟩ := ho i e.symm
    rw [hi] at h1
    injection h1 with h1
    injection h1 with _ h1 _
    subst h1
    rcases ht with ht | ht
    · exact h2 ht
    · exact h3 ht
  exact ⟨h.low, (key _ _ _ h.blk (.inr rfl)).trans h.blk, h.size, fun j h1 h2 => by
    obtain ⟨A, c, h3, h4⟩ := h.row j h1 h2
    exact ⟨A, c, h3, h4.keep fun i cs' _ hc _ => key i cs' _ hc (.inl rfl)⟩, h.nil⟩
end
/-- The row k of b grows: what it has so far; the rest as it was in w1. -/
structure LevIn (w1 w : World) (b : Nat) (cs : Array Value) (k : Nat) (A : Option Addr) (c : Nat) (h : List (List UInt8)) : Prop where
  blk : w.heap[b]? = some (.cells (cs.setIfInBounds k (.slice A h.length c)) 139 (0, 0))
  row : HRow w w1.heap.size A c h
  kp : ∀ i, i < w1.heap.size → i ≠ b → w.heap[i]? = w1.heap[i]?
  sz : w1.heap.size ≤ w.heap.size
section
variable {w1 w w' : World} {B b k : Nat} {cs : Array Value} {l : List Pr} {A : Option Addr} {c : Nat} {h : List (List UInt8)}
theorem LevIn.start {L : Nat} (hl : LevC w B b cs l L) (hk : k < L) (h5 : L ≤ 5) : LevIn w w b cs k none 0 [] := by
  have e : cs.setIfInBounds k (.slice none 0 0) = cs := by
    have hn := hl.nil k hk (by omega)
    apply Array.ext
    · simp
    · intro i h1 h2
      rw [Array.getElem_setIfInBounds]
      split
      · rename_i e; subst e; rw [Array.getElem?_eq_getElem h2] at hn; exact (Option.some.inj hn).symm
      · rfl
  exact ⟨by rw [List.length_nil, e]; exact hl.blk, HRow.nil _ _, fun _ _ _ => rfl, Nat.le_refl _⟩
theorem LevIn.lt (hi : LevIn w1 w b cs k A c h) : b < w.heap.size := Sm.lt_of hi.blk
theorem LevIn.step (hi : LevIn w1 w b cs k A c h) (kk : Below w.heap.size w w') : LevIn w1 w' b cs k A c h :=
  ⟨(kk.block _ hi.lt).trans hi.blk, hi.row.low kk, fun i h1 h2 => (kk.block i (Nat.lt_of_lt_of_le h1 hi.sz)).trans (hi.kp i h1 h2), Nat.le_trans hi.sz kk.size⟩
theorem LevIn.cell (hi : LevIn w1 w b cs k A c h) (hk : k < cs.size) : w.cell? ⟨b, k, none⟩ = some (.slice A h.length c) := Sm.cells_of hi.blk k _ (by simp [hk])
theorem LevIn.behind (hi : LevIn w1 w b cs k A c h) (hb : b < w1.heap.size) (hk : k < cs.size) (hg : w.grownBy w' (Value.slice A h.length c).ownBlock) : w'.cell? ⟨b, k, none⟩ = some (.slice A h.length c) ∧ w'.frozen? ⟨b, k, none⟩ = false := by
  have hb' := (hg.block b hi.lt (fun e => by have := (hi.row.blk e.symm).1; omega)).trans hi.blk
  exact ⟨Sm.cells_of hb' k _ (by simp [hk]), by simp [World.frozen?, hb']⟩
theorem LevIn.off (hi : LevIn w1 w b cs k A c h) (hb : b < w1.heap.size) : (Value.slice A h.length c).ownBlock ≠ some b := fun e => by
  have := (hi.row.blk e).1
  omega
/-- All but the row k of b stays. -/
structure LevK (w1 w : World) (b : Nat) (cs : Array Value) (k : Nat) : Prop where
  blk : ∃ x, w.heap[b]? = some (.cells (cs.setIfInBounds k x) 139 (0, 0))
  kp : ∀ i, i < w1.heap.size → i ≠ b → w.heap[i]? = w1.heap[i]?
theorem LevIn.keepK (hi : LevIn w1 w b cs k A c h) : LevK w1 w b cs k := ⟨⟨_, hi.blk⟩, hi.kp⟩
theorem LevIn.kbehind (hi : LevIn w1 w b cs k A c h) (hb : b < w1.heap.size) (hg : w.grownBy w' (Value.slice A h.length c).ownBlock) : LevK w1 w' b cs k :=
  ⟨⟨_, (hg.block b hi.lt (fun e => hi.off hb e.symm)).trans hi.blk⟩, fun i h1 h2 => (hg.block i (Nat.lt_of_lt_of_le h1 hi.sz) (fun e => by have := (hi.row.blk e.symm).1; omega)).trans (hi.kp i h1 h2)⟩
/-- What the other rows tell meanwhile. -/
theorem LevC.kept {L j : Nat} (hl : LevC w1 B b cs l L) (h1 : L ≤ j) (h2 : j < 5) (hk : k < L) : ∃ g c, ∀ w, LevK w1 w b cs k → w.cell? ⟨b, j, none⟩ = some (.slice (some ⟨g, 0, none⟩) (2 ^ j) c) ∧ ∀ i, i < 2 ^ j → w.rangeAt g (i * 32) (Lib.byteCells (lvN l j i)) := by
  obtain ⟨g, c', cur, e1, e2, e3, e4⟩ := hl.get h1 h2
  have hgb : g ≠ b := fun e => by
    subst e
    rw [hl.blk] at e2
    injection e2 with e2
    injection e2 with _ e2 _
    exact hashes_ne e2
  obtain ⟨A0, c0, h3, h4⟩ := hl.row j h1 h2
  have e0 : w1.cell? ⟨b, j, none⟩ = some (.slice A0 (2 ^ j) c0) := Sm.cells_of hl.blk j _ h3
  rw [e0] at e1
  refine ⟨g, c', fun w hw => ⟨?_, fun i hi => ?_⟩⟩
  · obtain ⟨x, hx⟩ := hw.blk
    rw [← e1]
    refine Sm.cells_of hx j _ ?_
    rw [Array.getElem?_setIfInBounds, if_neg (by omega)]
    exact h3
  · exact range_mid ((hw.kp g (Sm.lt_of e2) hgb).trans e2) (by rw [lvN_length]; exact e4 i hi)
/-- One more, stored. -/
theorem LevIn.push (hi : LevIn w1 w b cs k A c h) (hb : b < w1.heap.size) {A' : Option Addr} {c' : Nat} {x : List UInt8} (hr : HRow w' w1.heap.size A' c' (h ++ [x])) (hg : w.grownBy w' (Value.slice A h.length c).ownBlock) :
    LevIn w1 (w'.setCell ⟨b, k, none⟩ (.slice A' (h.length + 1) c')) b cs k A' c' (h ++ [x]) := by
  have hb' : w'.heap[b]? = _ := (hg.block b hi.lt (fun e => hi.off hb e.symm)).trans hi.blk
  have e1 : (h ++ [x]).length = h.length + 1 := by simp
  refine ⟨?_, ?_, fun i h1 h2 => ?_, ?_⟩
  · rw [Sm.heap_set hb' k _, e1, Array.setIfInBounds_setIfInBounds]
  · refine hr.keep fun i cs' hB hi' he => Below.heap_setCell _ _ _ _ (fun e => ?_)
    have e : i = b := e
    omega
  · rw [Below.heap_setCell _ _ _ _ (show i ≠ b from h2)]
    refine (hg.block i (Nat.lt_of_lt_of_le h1 hi.sz) (fun e => ?_)).trans (hi.kp i h1 h2)
    have := (hi.row.blk e.symm).1
    omega
  · have := hg.size
    have := hi.sz
    simp [World.setCell]
    omega
/-- What the other rows tell meanwhile. -/
theorem LevIn.other {L j : Nat} (hi : LevIn w1 w b cs k A c h) (hl : LevC w1 B b cs l L) (h1 : L ≤ j) (h2 : j < 5) (hk : k < L) : ∃ g c cur, w.cell? ⟨b, j, none⟩ = some (.slice (some ⟨g, 0, none⟩) (2 ^ j) c) ∧ w.heap[g]? = some (.cells cur 36 (0, 0)) ∧ 2 ^ j * 32 ≤ cur.size ∧ g ≠ b ∧ g < w1.heap.size ∧ ∀ i, i < 2 ^ j → (cur.toList.drop (i * 32)).take 32 = Lib.byteCells (lvN l j i) := by
  obtain ⟨g, c', cur, e1, e2, e3, e4⟩ := hl.get h1 h2
  have hgb : g ≠ b := fun e => by
    subst e
    rw [hl.blk] at e2
    injection e2 with e2
    injection e2 with _ e2 _
    exact hashes_ne e2
  obtain ⟨A0, c0, h3, h4⟩ := hl.row j h1 h2
  have e0 : w1.cell? ⟨b, j, none⟩ = some (.slice A0 (2 ^ j) c0) := Sm.cells_of hl.blk j _ h3
  refine ⟨g, c', cur, ?_, (hi.kp g (Sm.lt_of e2) hgb).trans e2, e3, hgb, Sm.lt_of e2, e4⟩
  rw [e0] at e1
  rw [← e1]
  refine Sm.cells_of hi.blk j _ ?_
  rw [Array.getElem?_setIfInBounds, if_neg (by omega)]
  exact h3
theorem LevIn.done (hi : LevIn w1 w b cs k A c (lvs l k)) (hl : LevC w1 B b cs l (k + 1)) (hk : k < 5) : LevC w B b (cs.setIfInBounds k (.slice A (2 ^ k) c)) l k := by
  have hB : B ≤ w1.heap.size := Nat.le_trans hl.low (Nat.le_of_lt hl.lt)
  refine ⟨hl.low, by have := hi.blk; rw [lvs_length] at this; exact this, by rw [Array.size_setIfInBounds, hl.size], fun j h1 h2 => ?_, fun j h1 h2 => ?_⟩
  · by_cases e : j = k
    · subst e
      exact ⟨A, c, by simp [hl.size, h2], hi.row.base hB⟩
    · obtain ⟨A0, c0, h3, h4⟩ := hl.row j (by omega) h2
      refine ⟨A0, c0, by rw [Array.getElem?_setIfInBounds, if_neg (fun q => e q.symm)]; exact h3, h4.keep fun i cs' _ hc _ => hi.kp i (Sm.lt_of hc) fun e => ?_⟩
      subst e
      rw [hl.blk] at hc
      injection hc with hc
      injection hc with _ hc _
      exact hashes_ne hc
  · rw [Array.getElem?_setIfInBounds, if_neg (by omega)]
    exact hl.nil j (by omega) h2
end
end Tr
end Go.Proofs.YtiehcplepneajaaGreatDoor

/-
  The document's tree: all nodes, level by level.
-/
namespace Go.Proofs.YtiehcplepneajaaGreatDoor
open Go.RowKit
namespace Tr
theorem hslices_info : (Tryz.prog.info? 139).map (fun i => (i.zero, i.size, i.bytes)) = some (some (.slice none 0 0), 1, 24) := by kernel_rfl
theorem made5 : madeCells (Value.slice none 0 0).cells (5 * 1) = #[.slice none 0 0, .slice none 0 0, .slice none 0 0, .slice none 0 0, .slice none 0 0] := by kernel_rfl
theorem make5 (W : World) : (Instr.makeSlice 46 (.int .i64 5) (.int .i64 5)).run Tryz.prog W = .ok (.slice (some ⟨W.heap.size, 0, none⟩) 5 5) (W.alloc (.cells #[.slice none 0 0, .slice none 0 0, .slice none 0 0, .slice none 0 0, .slice none 0 0] 139)) := by
  obtain ⟨i0, hi, hz0, hz1, hz2⟩ := info_parts hslices_info
  have hr := run_make (P := Tryz.prog) W 46 139 i0 _ Tryz.underlying46 hi hz0 .i64 .i64 5 5 (by omega) (by omega) (by rw [hz2]; decide) (by omega)
  rw [hz1] at hr
  rw [show (5 : Int).toNat = 5 from rfl, made5] at hr
  exact hr
end Tr
set_option maxRecDepth 100000 in
set_option maxHeartbeats 8000000 in
theorem r15Levels_any {w : World} {A : Option Addr} {l : List Om.Pr} (c : Nat) (hit : Om.listAt w A l) (hf : Tr.Fit l) :
    Calls Tryz.prog 56 #[.slice A l.length c] w fun e w' => ∃ b cs, e = .returned (.slice (some ⟨b, 0, none⟩) 5 5) ∧ Tr.LevC w' w.heap.size b cs l 0 ∧ Below w.heap.size w w' := by
  obtain ⟨N, hN⟩ : ∃ N, N = w.heap.size := ⟨_, rfl⟩
  have LT : Hid (∀ (wx : World) (k : Nat), Below N w wx → k < 16 → Calls Tryz.prog 90 #[.slice A l.length c, .int .i64 (k : Int)] wx fun e w' => e = .returned (.string (Tr.tx (Tr.leafT l k))) ∧ Below wx.heap.size wx w') := fun wx k hb hk => r15LeafText_any c (hit.below (hN ▸ hb)) hf hk
  have SL : Hid (∀ (wx : World) (k : Nat), k < 16 → Calls Tryz.prog 87 #[.string (Tr.tx (Tr.leafT l k))] wx fun e w' => e = .returned (.agg (Lib.byteCells (Tr.lvN l 4 k)).toArray) ∧ Below wx.heap.size wx w') := fun wx k hk => by
    have hl := Tr.ndT_length l hf.may hf.len k (by omega)
    rw [Tr.tk_leaf l hk] at hl
    have := rssum_any (Tr.tx (Tr.leafT l k)) (by rw [Tr.tx_size]; omega) wx
    rw [Tr.tx_list] at this
    exact this
  have SI : Hid (∀ (wx : World) (v i : Nat), v < 4 → Calls Tryz.prog 87 #[.string (Tr.tx (Tr.innerT (Tr.lvN l (v + 1) (2 * i)) (Tr.lvN l (v + 1) (2 * i + 1))))] wx fun e w' => e = .returned (.agg (Lib.byteCells (Tr.lvN l v i)).toArray) ∧ Below wx.heap.size wx w') := fun wx v i hv => by
    have := rssum_any (Tr.tx (Tr.innerT (Tr.lvN l (v + 1) (2 * i)) (Tr.lvN l (v + 1) (2 * i + 1)))) (by rw [Tr.tx_size]; unfold Tr.innerT; rw [List.length_cons, List.length_append, Tr.lvN_length, Tr.lvN_length]; omega) wx
    rw [Tr.tx_list, ← Tr.lvN_up l hv] at this
    exact this
  have IT : Hid (∀ (wx : World) (v i j : Nat), Calls Tryz.prog 91 #[.agg (Lib.byteCells (Tr.lvN l v i)).toArray, .agg (Lib.byteCells (Tr.lvN l v j)).toArray] wx fun e w' => e = .returned (.string (Tr.tx (Tr.innerT (Tr.lvN l v i) (Tr.lvN l v j)))) ∧ Below wx.heap.size wx w') := fun wx v i j => r15InnerText_any wx _ _ (Tr.lvN_length _ _ _) (Tr.lvN_length _ _ _)
  obtain ⟨w1, hmk, cs, LC0, LB0⟩ : ∃ w1, (Instr.makeSlice 46 (.int .i64 5) (.int .i64 5)).run Tryz.prog w = .ok (.slice (some ⟨w.heap.size, 0, none⟩) 5 5) w1 ∧ ∃ cs, Tr.LevC w1 N w.heap.size cs l 5 ∧ Below N w w1 :=
    ⟨_, Tr.make5 w, _, by rw [hN]; exact Tr.LevC.made w l, by rw [hN]; exact (Below.refl _ w).alloc (Nat.le_refl _) _⟩
  have HNW := Lib.hid hN
  have LC := Lib.hid LC0
  have LB := Lib.hid LB0
  obtain ⟨b, hb⟩ : ∃ b, b = w.heap.size := ⟨_, rfl⟩
  have HNB : Hid (N ≤ b) := by show _ ≤ _; rw [hN, hb]; exact Nat.le_refl _
  rw [← hb] at LC hmk
  clear hit hf hN LC0 LB0 hb
  go_enter Tryz.func56, Tryz.ntmps56
  go_upto_region 2 with (fail)
  clear hmk
  have HKS : Hid (4 < cs.size) := by show _ < _; rw [LC.out.size]; decide
  have HBW : Hid (b < w1.heap.size) := LC.out.lt
  go_wp2
  go_loopw [4] (fun s4 wr => ∃ i : Nat, s4 = .int .i64 i ∧ i ≤ 16 ∧ ∃ A1 c1, Tr.LevIn w1 wr b cs 4 A1 c1 ((Tr.lvs l 4).take i) ∧ Below N w wr) (fun s4 _ => 16 - (intOf s4).toNat)
  case atStart => exact ⟨0, rfl, by omega, none, 0, Tr.LevIn.start LC.out (by decide) (by decide), LB.out⟩
  case round =>
    obtain ⟨i, rfl, hi, A1, c1, hI, hB⟩ := hrel
    have HI := Lib.hid hI
    have HB := Lib.hid hB
    have H16 := Lib.hid hi
    clear hI hB
    by_cases hlt : i < 16
    · have hii : (i : Int) < 16 := by omega
      have HLT := Lib.hid hlt
      have hsuc : IntKind.i64.wrap ((i : Int) + 1) = ((i + 1 : Nat) : Int) := by simp [IntKind.wrap, IntKind.bits, IntKind.signed]; omega
      have HTL : Hid (((Tr.lvs l 4).take i).length = i) := Tr.lvs_takeLen l (v := 4) hi
      clear hi hlt
      go_upto_region 5 with (fail)
      refine wp_region_held_drew (S := fun _ => True) (by kernel_rfl) trivial (fun hHeld => ?_)
      obtain ⟨wz, hwz⟩ : ∃ W, W = wr.drew := ⟨_, rfl⟩
      have wzI : Hid (Tr.LevIn w1 wz b cs 4 A1 c1 ((Tr.lvs l 4).take i)) := by rw [hwz]; exact HI.out.step (Below.refl _ _).drew
      have wzB : Hid (Below N w wz) := by rw [hwz]; exact HB.out.trans ((Below.refl _ _).drew)
      rw [← hwz]
      clear hwz HI HB
      refine wpAnyH_take (i := 0) (oi := ⟨some 12, _, _, _, _, _⟩) (v := .slice (some ⟨b, 0, none⟩) 5 5) rfl (by kernel_rfl) (by kernel_rfl) (by kernel_rfl) (fun _ _ _ h => h) (Or.inl ⟨by rfl, ?_⟩) (by assumption) ?_
      · intro w hSw; (try dsimp only at hSw); go_simp
      simp only [Act.put, List.setIfInBounds_toArray, List.set_cons_zero, List.set_cons_succ]
      refine wpAnyH_take (i := 1) (oi := ⟨some 13, _, _, _, _, _⟩) (v := .slice (some ⟨b, 0, none⟩) 5 5) rfl (by kernel_rfl) (by kernel_rfl) (by kernel_rfl) (fun _ _ _ h => h) (Or.inl ⟨by rfl, ?_⟩) (by assumption) ?_
      · intro w hSw; (try dsimp only at hSw); go_simp
      simp only [Act.put, List.setIfInBounds_toArray, List.set_cons_zero, List.set_cons_succ]
      refine wpAnyH_take (i := 2) (oi := ⟨some 14, _, _, _, _, _⟩) (v := .pointer (some ⟨b, 4, none⟩)) rfl (by kernel_rfl) (by kernel_rfl) (by kernel_rfl) (fun _ _ _ h => h) (Or.inl ⟨by rfl, ?_⟩) (by assumption) ?_
      · intro w hSw; (try dsimp only at hSw); go_simp
      simp only [Act.put, List.setIfInBounds_toArray, List.set_cons_zero, List.set_cons_succ]
      refine wpAnyH_take (i := 4) (oi := ⟨some 16, _, _, _, _, _⟩) (v := .slice A l.length c) rfl (by kernel_rfl) (by kernel_rfl) (by kernel_rfl) (fun _ _ _ h => h) (Or.inl ⟨by rfl, ?_⟩) (by assumption) ?_
      · intro w hSw; (try dsimp only at hSw); go_simp
      simp only [Act.put, List.setIfInBounds_toArray, List.set_cons_zero, List.set_cons_succ]
      refine wpAnyH_take (i := 5) (oi := ⟨some 17, _, _, _, _, _⟩) (v := .int .i64 (i : Int)) rfl (by kernel_rfl) (by kernel_rfl) (by kernel_rfl) (fun _ _ _ h => h) (Or.inl ⟨by rfl, ?_⟩) (by assumption) ?_
      · intro w hSw; (try dsimp only at hSw); go_simp
      simp only [Act.put, List.setIfInBounds_toArray, List.set_cons_zero, List.set_cons_succ]
      refine wpAnyH_ready (rs := [3, 6]) (by kernel_rfl) (by simp) ?_
      refine (AllReadyH.cons (o := ⟨some 15, _, _, _, _, _⟩) rfl (fun K hK => ?_) (AllReadyH.cons (o := ⟨some 18, _, _, _, _, _⟩) rfl (fun K hK => ?_) AllReadyH.nil))
      · have hc := wzI.out.cell HKS.out
        rw [HTL.out] at hc
        go_simp
        refine hK.out _ _ trivial (fun hHeld => ?_)
        clear hK K hc
        refine wpAnyH_ready (rs := [6]) (by kernel_rfl) (by simp) ?_
        refine (AllReadyH.cons (o := ⟨some 18, _, _, _, _, _⟩) rfl (fun K hK => ?_) AllReadyH.nil)
        go_simp
        refine (LT.out wz i wzB.out HLT.out).mono ?_
        rintro e wa ⟨rfl, kk⟩
        have waI := Lib.hid (wzI.out.step kk)
        have waB : Hid (Below N w wa) := wzB.out.trans (kk.mono (Nat.le_trans HNB.out (Nat.le_of_lt wzI.out.lt)))
        clear kk
        refine hK.out _ _ trivial (fun hHeld => ?_)
        clear hK K
        refine wpAnyH_ready (rs := [7]) (by kernel_rfl) (by simp) ?_
        refine (AllReadyH.cons (o := ⟨some 19, _, _, _, _, _⟩) rfl (fun K hK => ?_) AllReadyH.nil)
        go_simp
        refine (SL.out wa i HLT.out).mono ?_
        rintro e wb ⟨rfl, kk⟩
        have wbI := Lib.hid (waI.out.step kk)
        have wbB : Hid (Below N w wb) := waB.out.trans (kk.mono (Nat.le_trans HNB.out (Nat.le_of_lt waI.out.lt)))
        clear kk
        refine hK.out _ _ trivial (fun hHeld => ?_)
        clear hK K
        refine wpAnyH_ready (rs := [8]) (by kernel_rfl) (by simp) ?_
        refine (AllReadyH.cons (o := ⟨some 20, _, _, _, _, _⟩) rfl (fun K hK => ?_) AllReadyH.nil)
        rw [if_pos (by simp [Region.wanted])]
        refine Tr.wp_one_hash (.tmp 19) rfl (Tr.lvN l 4 i) (Tr.lvN_length _ _ _) rfl ?_
        have kk : Below wb.heap.size wb (wb.alloc (.cells (Lib.byteCells (Tr.lvN l 4 i)).toArray 36)) := (Below.refl _ wb).alloc (Nat.le_refl _) _
        have GN := Lib.hid (heap_alloc_new wb (.cells (Lib.byteCells (Tr.lvN l 4 i)).toArray 36))
        have wdI := Lib.hid (wbI.out.step kk)
        have wdB : Hid (Below N w (wb.alloc (.cells (Lib.byteCells (Tr.lvN l 4 i)).toArray 36))) := wbB.out.trans (kk.mono (Nat.le_trans HNB.out (Nat.le_of_lt wbI.out.lt)))
        clear kk
        generalize wb.alloc (.cells (Lib.byteCells (Tr.lvN l 4 i)).toArray 36) = wd at *
        generalize wb.heap.size = M at *
        refine hK.out _ _ trivial (fun hHeld => ?_)
        clear hK K
        refine wpAnyH_ready (rs := [9]) (by kernel_rfl) (by simp) ?_
        refine (AllReadyH.cons (o := ⟨some 21, _, _, _, _, _⟩) rfl (fun K hK => ?_) AllReadyH.nil)
        rw [if_pos (by simp [Region.wanted])]
        refine Tr.HRow.push0 (.tmp 15) (.tmp 20) rfl (l := (Tr.lvs l 4).take i) (by rw [HTL.out]; rfl) wdI.out.row (Tr.lvN l 4 i) (Tr.lvN_length _ _ _) rfl GN.out (by rw [HTL.out]; have := H16.out; omega) wdI.out.sz ?_
        intro A7 c7 w7 hr7 hg7
        have HP := Lib.hid (wdI.out.push HBW.out hr7 hg7)
        have w7B : Hid (Below N w w7) := wdB.out.grown hg7 (Nat.le_trans HNB.out (Nat.le_of_lt wdI.out.lt)) (fun q hq => Nat.le_trans HNB.out (Nat.le_of_lt (Nat.lt_of_lt_of_le HBW.out (wdI.out.row.blk hq).1)))
        have H7 := Lib.hid (wdI.out.behind HBW.out HKS.out hg7)
        have w8B : Hid (Below N w (w7.setCell ⟨b, 4, none⟩ (.slice A7 (((Tr.lvs l 4).take i).length + 1) c7))) := w7B.out.setCell (p := ⟨b, 4, none⟩) HNB.out _
        rw [HTL.out] at HP w8B H7 ⊢
        have K7 := Lib.hid (wdI.out.kbehind HBW.out hg7)
        clear hr7 hg7 w7B wdI wdB
        refine hK.out _ _ trivial (fun hHeld => ?_)
        clear hK K
        try simp only [Act.put, List.setIfInBounds_toArray, List.set_cons_zero, List.set_cons_succ]
        refine wpAnyH_take (i := 10) (oi := ⟨some 22, _, _, _, _, _⟩) (v := .pointer (some ⟨b, 4, none⟩)) rfl (by kernel_rfl) (by kernel_rfl) (by kernel_rfl) (fun _ _ _ h => h) (Or.inl ⟨by rfl, ?_⟩) (by assumption) ?_
        · intro w hSw; (try dsimp only at hSw); go_simp
        simp only [Act.put, List.setIfInBounds_toArray, List.set_cons_zero, List.set_cons_succ]
        refine wpAnyH_ready (rs := [11]) (by kernel_rfl) (by simp) ?_
        refine (AllReadyH.cons (o := ⟨none, _, _, _, _, _⟩) rfl (fun K hK => ?_) AllReadyH.nil)
        obtain ⟨c7c, f7c⟩ := H7.out
        go_simp
        refine hK.out _ _ trivial (fun hHeld => ?_)
        clear hK K
        refine wpAnyH_done (by kernel_rfl) ?_ _
        clear hHeld c7c f7c H7 K7
        generalize w7.setCell ⟨b, 4, none⟩ (.slice A7 (i + 1) c7) = w8 at *
        go_wp2
        go_roundw
        case rel => exact ⟨i + 1, rfl, HLT.out, A7, c7, by rw [Tr.lvs_take l HLT.out]; exact HP.out, w8B.out⟩
        case measure => simp only [intOf]; have := HLT.out; omega
      · go_simp
        refine (LT.out wz i wzB.out HLT.out).mono ?_
        rintro e wa ⟨rfl, kk⟩
        have waI := Lib.hid (wzI.out.step kk)
        have waB : Hid (Below N w wa) := wzB.out.trans (kk.mono (Nat.le_trans HNB.out (Nat.le_of_lt wzI.out.lt)))
        clear kk
        refine hK.out _ _ trivial (fun hHeld => ?_)
        clear hK K
        refine wpAnyH_ready (rs := [3, 7]) (by kernel_rfl) (by simp) ?_
        refine (AllReadyH.cons (o := ⟨some 15, _, _, _, _, _⟩) rfl (fun K hK => ?_) (AllReadyH.cons (o := ⟨some 19, _, _, _, _, _⟩) rfl (fun K hK => ?_) AllReadyH.nil))
        · have hc := waI.out.cell HKS.out
          rw [HTL.out] at hc
          go_simp
          refine hK.out _ _ trivial (fun hHeld => ?_)
          clear hK K hc
          refine wpAnyH_ready (rs := [7]) (by kernel_rfl) (by simp) ?_
          refine (AllReadyH.cons (o := ⟨some 19, _, _, _, _, _⟩) rfl (fun K hK => ?_) AllReadyH.nil)
          go_simp
          refine (SL.out wa i HLT.out).mono ?_
          rintro e wb ⟨rfl, kk⟩
          have wbI := Lib.hid (waI.out.step kk)
          have wbB : Hid (Below N w wb) := waB.out.trans (kk.mono (Nat.le_trans HNB.out (Nat.le_of_lt waI.out.lt)))
          clear kk
          refine hK.out _ _ trivial (fun hHeld => ?_)
          clear hK K
          refine wpAnyH_ready (rs := [8]) (by kernel_rfl) (by simp) ?_
          refine (AllReadyH.cons (o := ⟨some 20, _, _, _, _, _⟩) rfl (fun K hK => ?_) AllReadyH.nil)
          rw [if_pos (by simp [Region.wanted])]
          refine Tr.wp_one_hash (.tmp 19) rfl (Tr.lvN l 4 i) (Tr.lvN_length _ _ _) rfl ?_
          have kk : Below wb.heap.size wb (wb.alloc (.cells (Lib.byteCells (Tr.lvN l 4 i)).toArray 36)) := (Below.refl _ wb).alloc (Nat.le_refl _) _
          have GN := Lib.hid (heap_alloc_new wb (.cells (Lib.byteCells (Tr.lvN l 4 i)).toArray 36))
          have wdI := Lib.hid (wbI.out.step kk)
          have wdB : Hid (Below N w (wb.alloc (.cells (Lib.byteCells (Tr.lvN l 4 i)).toArray 36))) := wbB.out.trans (kk.mono (Nat.le_trans HNB.out (Nat.le_of_lt wbI.out.lt)))
          clear kk
          generalize wb.alloc (.cells (Lib.byteCells (Tr.lvN l 4 i)).toArray 36) = wd at *
          generalize wb.heap.size = M at *
          refine hK.out _ _ trivial (fun hHeld => ?_)
          clear hK K
          refine wpAnyH_ready (rs := [9]) (by kernel_rfl) (by simp) ?_
          refine (AllReadyH.cons (o := ⟨some 21, _, _, _, _, _⟩) rfl (fun K hK => ?_) AllReadyH.nil)
          rw [if_pos (by simp [Region.wanted])]
          refine Tr.HRow.push0 (.tmp 15) (.tmp 20) rfl (l := (Tr.lvs l 4).take i) (by rw [HTL.out]; rfl) wdI.out.row (Tr.lvN l 4 i) (Tr.lvN_length _ _ _) rfl GN.out (by rw [HTL.out]; have := H16.out; omega) wdI.out.sz ?_
          intro A7 c7 w7 hr7 hg7
          have HP := Lib.hid (wdI.out.push HBW.out hr7 hg7)
          have w7B : Hid (Below N w w7) := wdB.out.grown hg7 (Nat.le_trans HNB.out (Nat.le_of_lt wdI.out.lt)) (fun q hq => Nat.le_trans HNB.out (Nat.le_of_lt (Nat.lt_of_lt_of_le HBW.out (wdI.out.row.blk hq).1)))
          have H7 := Lib.hid (wdI.out.behind HBW.out HKS.out hg7)
          have w8B : Hid (Below N w (w7.setCell ⟨b, 4, none⟩ (.slice A7 (((Tr.lvs l 4).take i).length + 1) c7))) := w7B.out.setCell (p := ⟨b, 4, none⟩) HNB.out _
          rw [HTL.out] at HP w8B H7 ⊢
          have K7 := Lib.hid (wdI.out.kbehind HBW.out hg7)
          clear hr7 hg7 w7B wdI wdB
          refine hK.out _ _ trivial (fun hHeld => ?_)
          clear hK K
          try simp only [Act.put, List.setIfInBounds_toArray, List.set_cons_zero, List.set_cons_succ]
          refine wpAnyH_take (i := 10) (oi := ⟨some 22, _, _, _, _, _⟩) (v := .pointer (some ⟨b, 4, none⟩)) rfl (by kernel_rfl) (by kernel_rfl) (by kernel_rfl) (fun _ _ _ h => h) (Or.inl ⟨by rfl, ?_⟩) (by assumption) ?_
          · intro w hSw; (try dsimp only at hSw); go_simp
          simp only [Act.put, List.setIfInBounds_toArray, List.set_cons_zero, List.set_cons_succ]
          refine wpAnyH_ready (rs := [11]) (by kernel_rfl) (by simp) ?_
          refine (AllReadyH.cons (o := ⟨none, _, _, _, _, _⟩) rfl (fun K hK => ?_) AllReadyH.nil)
          obtain ⟨c7c, f7c⟩ := H7.out
          go_simp
          refine hK.out _ _ trivial (fun hHeld => ?_)
          clear hK K
          refine wpAnyH_done (by kernel_rfl) ?_ _
          clear hHeld c7c f7c H7 K7
          generalize w7.setCell ⟨b, 4, none⟩ (.slice A7 (i + 1) c7) = w8 at *
          go_wp2
          go_roundw
          case rel => exact ⟨i + 1, rfl, HLT.out, A7, c7, by rw [Tr.lvs_take l HLT.out]; exact HP.out, w8B.out⟩
          case measure => simp only [intOf]; have := HLT.out; omega
        · go_simp
          refine (SL.out wa i HLT.out).mono ?_
          rintro e wb ⟨rfl, kk⟩
          have wbI := Lib.hid (waI.out.step kk)
          have wbB : Hid (Below N w wb) := waB.out.trans (kk.mono (Nat.le_trans HNB.out (Nat.le_of_lt waI.out.lt)))
          clear kk
          refine hK.out _ _ trivial (fun hHeld => ?_)
          clear hK K
          refine wpAnyH_ready (rs := [3, 8]) (by kernel_rfl) (by simp) ?_
          refine (AllReadyH.cons (o := ⟨some 15, _, _, _, _, _⟩) rfl (fun K hK => ?_) (AllReadyH.cons (o := ⟨some 20, _, _, _, _, _⟩) rfl (fun K hK => ?_) AllReadyH.nil))
          · have hc := wbI.out.cell HKS.out
            rw [HTL.out] at hc
            go_simp
            refine hK.out _ _ trivial (fun hHeld => ?_)
            clear hK K hc
            refine wpAnyH_ready (rs := [8]) (by kernel_rfl) (by simp) ?_
            refine (AllReadyH.cons (o := ⟨some 20, _, _, _, _, _⟩) rfl (fun K hK => ?_) AllReadyH.nil)
            rw [if_pos (by simp [Region.wanted])]
            refine Tr.wp_one_hash (.tmp 19) rfl (Tr.lvN l 4 i) (Tr.lvN_length _ _ _) rfl ?_
            have kk : Below wb.heap.size wb (wb.alloc (.cells (Lib.byteCells (Tr.lvN l 4 i)).toArray 36)) := (Below.refl _ wb).alloc (Nat.le_refl _) _
            have GN := Lib.hid (heap_alloc_new wb (.cells (Lib.byteCells (Tr.lvN l 4 i)).toArray 36))
            have wdI := Lib.hid (wbI.out.step kk)
            have wdB : Hid (Below N w (wb.alloc (.cells (Lib.byteCells (Tr.lvN l 4 i)).toArray 36))) := wbB.out.trans (kk.mono (Nat.le_trans HNB.out (Nat.le_of_lt wbI.out.lt)))
            clear kk
            generalize wb.alloc (.cells (Lib.byteCells (Tr.lvN l 4 i)).toArray 36) = wd at *
            generalize wb.heap.size = M at *
            refine hK.out _ _ trivial (fun hHeld => ?_)
            clear hK K
            refine wpAnyH_ready (rs := [9]) (by kernel_rfl) (by simp) ?_
            refine (AllReadyH.cons (o := ⟨some 21, _, _, _, _, _⟩) rfl (fun K hK => ?_) AllReadyH.nil)
            rw [if_pos (by simp [Region.wanted])]
            refine Tr.HRow.push0 (.tmp 15) (.tmp 20) rfl (l := (Tr.lvs l 4).take i) (by rw [HTL.out]; rfl) wdI.out.row (Tr.lvN l 4 i) (Tr.lvN_length _ _ _) rfl GN.out (by rw [HTL.out]; have := H16.out; omega) wdI.out.sz ?_
            intro A7 c7 w7 hr7 hg7
            have HP := Lib.hid (wdI.out.push HBW.out hr7 hg7)
            have w7B : Hid (Below N w w7) := wdB.out.grown hg7 (Nat.le_trans HNB.out (Nat.le_of_lt wdI.out.lt)) (fun q hq => Nat.le_trans HNB.out (Nat.le_of_lt (Nat.lt_of_lt_of_le HBW.out (wdI.out.row.blk hq).1)))
            have H7 := Lib.hid (wdI.out.behind HBW.out HKS.out hg7)
            have w8B : Hid (Below N w (w7.setCell ⟨b, 4, none⟩ (.slice A7 (((Tr.lvs l 4).take i).length + 1) c7))) := w7B.out.setCell (p := ⟨b, 4, none⟩) HNB.out _
            rw [HTL.out] at HP w8B H7 ⊢
            have K7 := Lib.hid (wdI.out.kbehind HBW.out hg7)
            clear hr7 hg7 w7B wdI wdB
            refine hK.out _ _ trivial (fun hHeld => ?_)
            clear hK K
            try simp only [Act.put, List.setIfInBounds_toArray, List.set_cons_zero, List.set_cons_succ]
            refine wpAnyH_take (i := 10) (oi := ⟨some 22, _, _, _, _, _⟩) (v := .pointer (some ⟨b, 4, none⟩)) rfl (by kernel_rfl) (by kernel_rfl) (by kernel_rfl) (fun _ _ _ h => h) (Or.inl ⟨by rfl, ?_⟩) (by assumption) ?_
            · intro w hSw; (try dsimp only at hSw); go_simp
            simp only [Act.put, List.setIfInBounds_toArray, List.set_cons_zero, List.set_cons_succ]
            refine wpAnyH_ready (rs := [11]) (by kernel_rfl) (by simp) ?_
            refine (AllReadyH.cons (o := ⟨none, _, _, _, _, _⟩) rfl (fun K hK => ?_) AllReadyH.nil)
            obtain ⟨c7c, f7c⟩ := H7.out
            go_simp
            refine hK.out _ _ trivial (fun hHeld => ?_)
            clear hK K
            refine wpAnyH_done (by kernel_rfl) ?_ _
            clear hHeld c7c f7c H7 K7
            generalize w7.setCell ⟨b, 4, none⟩ (.slice A7 (i + 1) c7) = w8 at *
            go_wp2
            go_roundw
            case rel => exact ⟨i + 1, rfl, HLT.out, A7, c7, by rw [Tr.lvs_take l HLT.out]; exact HP.out, w8B.out⟩
            case measure => simp only [intOf]; have := HLT.out; omega
          · rw [if_pos (by simp [Region.wanted])]
            refine Tr.wp_one_hash (.tmp 19) rfl (Tr.lvN l 4 i) (Tr.lvN_length _ _ _) rfl ?_
            have kk : Below wb.heap.size wb (wb.alloc (.cells (Lib.byteCells (Tr.lvN l 4 i)).toArray 36)) := (Below.refl _ wb).alloc (Nat.le_refl _) _
            have GN := Lib.hid (heap_alloc_new wb (.cells (Lib.byteCells (Tr.lvN l 4 i)).toArray 36))
            have wdI := Lib.hid (wbI.out.step kk)
            have wdB : Hid (Below N w (wb.alloc (.cells (Lib.byteCells (Tr.lvN l 4 i)).toArray 36))) := wbB.out.trans (kk.mono (Nat.le_trans HNB.out (Nat.le_of_lt wbI.out.lt)))
            clear kk
            generalize wb.alloc (.cells (Lib.byteCells (Tr.lvN l 4 i)).toArray 36) = wd at *
            generalize wb.heap.size = M at *
            refine hK.out _ _ trivial (fun hHeld => ?_)
            clear hK K
            refine wpAnyH_ready (rs := [3]) (by kernel_rfl) (by simp) ?_
            refine (AllReadyH.cons (o := ⟨some 15, _, _, _, _, _⟩) rfl (fun K hK => ?_) AllReadyH.nil)
            have hc := wdI.out.cell HKS.out
            rw [HTL.out] at hc
            go_simp
            refine hK.out _ _ trivial (fun hHeld => ?_)
            clear hK K hc
            refine wpAnyH_ready (rs := [9]) (by kernel_rfl) (by simp) ?_
            refine (AllReadyH.cons (o := ⟨some 21, _, _, _, _, _⟩) rfl (fun K hK => ?_) AllReadyH.nil)
            rw [if_pos (by simp [Region.wanted])]
            refine Tr.HRow.push0 (.tmp 15) (.tmp 20) rfl (l := (Tr.lvs l 4).take i) (by rw [HTL.out]; rfl) wdI.out.row (Tr.lvN l 4 i) (Tr.lvN_length _ _ _) rfl GN.out (by rw [HTL.out]; have := H16.out; omega) wdI.out.sz ?_
            intro A7 c7 w7 hr7 hg7
            have HP := Lib.hid (wdI.out.push HBW.out hr7 hg7)
            have w7B : Hid (Below N w w7) := wdB.out.grown hg7 (Nat.le_trans HNB.out (Nat.le_of_lt wdI.out.lt)) (fun q hq => Nat.le_trans HNB.out (Nat.le_of_lt (Nat.lt_of_lt_of_le HBW.out (wdI.out.row.blk hq).1)))
            have H7 := Lib.hid (wdI.out.behind HBW.out HKS.out hg7)
            have w8B : Hid (Below N w (w7.setCell ⟨b, 4, none⟩ (.slice A7 (((Tr.lvs l 4).take i).length + 1) c7))) := w7B.out.setCell (p := ⟨b, 4, none⟩) HNB.out _
            rw [HTL.out] at HP w8B H7 ⊢
            have K7 := Lib.hid (wdI.out.kbehind HBW.out hg7)
            clear hr7 hg7 w7B wdI wdB
            refine hK.out _ _ trivial (fun hHeld => ?_)
            clear hK K
            try simp only [Act.put, List.setIfInBounds_toArray, List.set_cons_zero, List.set_cons_succ]
            refine wpAnyH_take (i := 10) (oi := ⟨some 22, _, _, _, _, _⟩) (v := .pointer (some ⟨b, 4, none⟩)) rfl (by kernel_rfl) (by kernel_rfl) (by kernel_rfl) (fun _ _ _ h => h) (Or.inl ⟨by rfl, ?_⟩) (by assumption) ?_
            · intro w hSw; (try dsimp only at hSw); go_simp
            simp only [Act.put, List.setIfInBounds_toArray, List.set_cons_zero, List.set_cons_succ]
            refine wpAnyH_ready (rs := [11]) (by kernel_rfl) (by simp) ?_
            refine (AllReadyH.cons (o := ⟨none, _, _, _, _, _⟩) rfl (fun K hK => ?_) AllReadyH.nil)
            obtain ⟨c7c, f7c⟩ := H7.out
            go_simp
            refine hK.out _ _ trivial (fun hHeld => ?_)
            clear hK K
            refine wpAnyH_done (by kernel_rfl) ?_ _
            clear hHeld c7c f7c H7 K7
            generalize w7.setCell ⟨b, 4, none⟩ (.slice A7 (i + 1) c7) = w8 at *
            go_wp2
            go_roundw
            case rel => exact ⟨i + 1, rfl, HLT.out, A7, c7, by rw [Tr.lvs_take l HLT.out]; exact HP.out, w8B.out⟩
            case measure => simp only [intOf]; have := HLT.out; omega
    · have hii : ¬ (i : Int) < 16 := by omega
      obtain rfl : i = 16 := by omega
      have hI4 : Tr.LevIn w1 wr b cs 4 A1 c1 (Tr.lvs l 4) := by have := HI.out; rw [show (16 : Nat) = 2 ^ 4 from rfl, Tr.lvs_all] at this; exact this
      have L4 := Lib.hid (hI4.done LC.out (by decide))
      obtain ⟨cs4, hcs4⟩ : ∃ x, x = cs.setIfInBounds 4 (.slice A1 (2 ^ 4) c1) := ⟨_, rfl⟩
      rw [← hcs4] at L4
      have B4 := Lib.hid HB.out
      clear hI4 hcs4 HI HB hi H16 LT SL HKS HBW LC LB
      generalize wr = w4 at *
      go_wp2
      go_loopw [5, 6] (fun s5 _ wr => ∃ u : Nat, s5 = .int .i64 ((u : Int) - 1) ∧ u ≤ 4 ∧ ∃ cs, Tr.LevC wr N b cs l u ∧ Below N w wr) (fun s5 _ _ => (intOf s5 + 1).toNat)
      case atStart => exact ⟨4, rfl, by omega, cs4, L4.out, B4.out⟩
      case round =>
        clear L4 B4
        obtain ⟨u, rfl, hu4, cs, hl, hb⟩ := hrel
        have LC := Lib.hid hl
        have LB := Lib.hid hb
        clear hl hb
        rcases u with _ | v
        · have hneg : ((0 : Nat) : Int) - 1 = -1 := rfl
          rw [hneg]
          go_wp2
          go_ret
          exact ⟨b, cs, rfl, by rw [← HNW.out]; exact LC.out, by rw [← HNW.out]; exact LB.out⟩
        · have hle : ((v + 1 : Nat) : Int) - 1 = (v : Int) := by omega
          rw [hle]
          have HV4 : Hid (v < 4) := hu4
          have h0v : (0 : Int) ≤ (v : Int) := by omega
          have hv5 : (v : Int) < 5 := by omega
          have hv6 : ((v + 1 : Nat) : Int) < 5 := by omega
          have hsubL : IntKind.i64.wrap ((v : Int) - 1) = (v : Int) - 1 := by simp [IntKind.wrap, IntKind.bits, IntKind.signed]; omega
          have HSL := Lib.hid hsubL
          have haddL : IntKind.i64.wrap ((v : Int) + 1) = ((v + 1 : Nat) : Int) := by simp [IntKind.wrap, IntKind.bits, IntKind.signed]; omega
          have HKS : Hid (v < cs.size) := by show _ < _; rw [LC.out.size]; omega
          have HBW : Hid (b < wr.heap.size) := LC.out.lt
          obtain ⟨g, q, hg⟩ := LC.out.kept (Nat.le_refl _) (show v + 1 < 5 by omega) (Nat.lt_succ_self v)
          obtain ⟨P, hP⟩ : ∃ P, P = 2 ^ v := ⟨_, rfl⟩
          obtain ⟨P2, hP2⟩ : ∃ P, P = 2 ^ (v + 1) := ⟨_, rfl⟩
          have hPP : P2 = 2 * P := by rw [hP, hP2, Nat.pow_succ]; omega
          have hp8 : P ≤ 8 := by
            rw [hP]
            obtain rfl | rfl | rfl | rfl : v = 0 ∨ v = 1 ∨ v = 2 ∨ v = 3 := by omega
            all_goals decide
          have HPE := Lib.hid hP
          have HPE2 := Lib.hid hPP
          have HP8 := Lib.hid hp8
          rw [← hP2] at hg
          have HG := Lib.hid hg
          clear hg hP hP2 hPP hp8 hsubL hle
          generalize wr = wv at *
          go_wp2
          go_loopw [6] (fun s6 wr => ∃ i : Nat, s6 = .int .i64 i ∧ i ≤ P ∧ ∃ A1 c1, Tr.LevIn wv wr b cs v A1 c1 ((Tr.lvs l v).take i) ∧ Below N w wr) (fun s6 _ => P - (intOf s6).toNat)
          case atStart => exact ⟨0, rfl, by omega, none, 0, Tr.LevIn.start LC.out (Nat.lt_succ_self v) (by omega), LB.out⟩
          case round =>
            obtain ⟨i, rfl, hi, A1, c1, hI, hB⟩ := hrel
            have HI := Lib.hid hI
            have HB := Lib.hid hB
            have H16 : Hid (i ≤ 16) := by have := HP8.out; show _ ≤ _; omega
            have hcell := (HG.out _ hI.keepK).1
            clear hI hB
            have hquo : Int.tdiv (P2 : Int) 2 = (P : Int) := by have := HPE2.out; rw [Int.tdiv_eq_ediv_of_nonneg (by omega)]; omega
            have hquow : IntKind.i64.wrap (P : Int) = (P : Int) := by have := HP8.out; simp [IntKind.wrap, IntKind.bits, IntKind.signed]; omega
            by_cases hlt : i < P
            · have hii : (i : Int) < (P : Int) := by omega
              have HLT := Lib.hid hlt
              have HLI : Hid (i < 2 ^ v) := by rw [← HPE.out]; exact hlt
              have hsuc : IntKind.i64.wrap ((i : Int) + 1) = ((i + 1 : Nat) : Int) := by have := HP8.out; simp [IntKind.wrap, IntKind.bits, IntKind.signed]; omega
              have HTL : Hid (((Tr.lvs l v).take i).length = i) := Tr.lvs_takeLen l (v := v) (by rw [← HPE.out]; exact hi)
              obtain ⟨ka, hka⟩ : ∃ k, k = 2 * i := ⟨_, rfl⟩
              have SIK : Hid (∀ wx : World, Calls Tryz.prog 87 #[.string (Tr.tx (Tr.innerT (Tr.lvN l (v + 1) ka) (Tr.lvN l (v + 1) (ka + 1))))] wx fun e w' => e = .returned (.agg (Lib.byteCells (Tr.lvN l v i)).toArray) ∧ Below wx.heap.size wx w') := fun wx => by rw [hka]; exact SI.out wx v i HV4.out
              have hk1 : ka < P2 := by have := HPE2.out; omega
              have hk2 : ka + 1 < P2 := by have := HPE2.out; omega
              have HK1 := Lib.hid hk1
              have HK2 := Lib.hid hk2
              have hk1i : (ka : Int) < (P2 : Int) := by omega
              have hk2i : ((ka + 1 : Nat) : Int) < (P2 : Int) := by omega
              have hmul : IntKind.i64.wrap (2 * (i : Int)) = (ka : Int) := by have := HP8.out; simp [IntKind.wrap, IntKind.bits, IntKind.signed]; omega
              have hmul1 : IntKind.i64.wrap ((ka : Int) + 1) = ((ka + 1 : Nat) : Int) := by have := HP8.out; simp [IntKind.wrap, IntKind.bits, IntKind.signed]; omega
              clear hi hlt hka hk1 hk2
              go_upto_region 12 with (fail)
              clear hquo hquow hcell
              refine wp_region_held_drew (S := fun wx => Tr.LevK wv wx b cs v) (by kernel_rfl) (HI.out.step (Below.refl _ _).drew).keepK (fun hHeld => ?_)
              obtain ⟨wz, hwz⟩ : ∃ W, W = wr.drew := ⟨_, rfl⟩
              have wzI : Hid (Tr.LevIn wv wz b cs v A1 c1 ((Tr.lvs l v).take i)) := by rw [hwz]; exact HI.out.step (Below.refl _ _).drew
              have wzB : Hid (Below N w wz) := by rw [hwz]; exact HB.out.trans ((Below.refl _ _).drew)
              rw [← hwz] at hHeld ⊢
              clear hwz HI HB
              refine wpAnyH_take (i := 0) (oi := ⟨some 38, _, _, _, _, _⟩) (v := .slice (some ⟨b, 0, none⟩) 5 5) rfl (by kernel_rfl) (by kernel_rfl) (by kernel_rfl) (fun _ _ _ h => h) (Or.inl ⟨by rfl, ?_⟩) (by assumption) ?_
              · intro w hSw; (try dsimp only at hSw); go_simp
              simp only [Act.put, List.setIfInBounds_toArray, List.set_cons_zero, List.set_cons_succ]
              refine wpAnyH_take (i := 1) (oi := ⟨some 39, _, _, _, _, _⟩) (v := .int .i64 (v : Int)) rfl (by kernel_rfl) (by kernel_rfl) (by kernel_rfl) (fun _ _ _ h => h) (Or.inl ⟨by rfl, ?_⟩) (by assumption) ?_
              · intro w hSw; (try dsimp only at hSw); go_simp
              simp only [Act.put, List.setIfInBounds_toArray, List.set_cons_zero, List.set_cons_succ]
              refine wpAnyH_take (i := 2) (oi := ⟨some 40, _, _, _, _, _⟩) (v := .slice (some ⟨b, 0, none⟩) 5 5) rfl (by kernel_rfl) (by kernel_rfl) (by kernel_rfl) (fun _ _ _ h => h) (Or.inl ⟨by rfl, ?_⟩) (by assumption) ?_
              · intro w hSw; (try dsimp only at hSw); go_simp
              simp only [Act.put, List.setIfInBounds_toArray, List.set_cons_zero, List.set_cons_succ]
              refine wpAnyH_take (i := 3) (oi := ⟨some 41, _, _, _, _, _⟩) (v := .int .i64 (v : Int)) rfl (by kernel_rfl) (by kernel_rfl) (by kernel_rfl) (fun _ _ _ h => h) (Or.inl ⟨by rfl, ?_⟩) (by assumption) ?_
              · intro w hSw; (try dsimp only at hSw); go_simp
              simp only [Act.put, List.setIfInBounds_toArray, List.set_cons_zero, List.set_cons_succ]
              refine wpAnyH_take (i := 4) (oi := ⟨some 42, _, _, _, _, _⟩) (v := .pointer (some ⟨b, v, none⟩)) rfl (by kernel_rfl) (by kernel_rfl) (by kernel_rfl) (fun _ _ _ h => h) (Or.inl ⟨by rfl, ?_⟩) (by assumption) ?_
              · intro w hSw; (try dsimp only at hSw); go_simp
              simp only [Act.put, List.setIfInBounds_toArray, List.set_cons_zero, List.set_cons_succ]
              refine wpAnyH_take (i := 6) (oi := ⟨some 44, _, _, _, _, _⟩) (v := .slice (some ⟨b, 0, none⟩) 5 5) rfl (by kernel_rfl) (by kernel_rfl) (by kernel_rfl) (fun _ _ _ h => h) (Or.inl ⟨by rfl, ?_⟩) (by assumption) ?_
              · intro w hSw; (try dsimp only at hSw); go_simp
              simp only [Act.put, List.setIfInBounds_toArray, List.set_cons_zero, List.set_cons_succ]
              refine wpAnyH_take (i := 7) (oi := ⟨some 45, _, _, _, _, _⟩) (v := .int .i64 (v : Int)) rfl (by kernel_rfl) (by kernel_rfl) (by kernel_rfl) (fun _ _ _ h => h) (Or.inl ⟨by rfl, ?_⟩) (by assumption) ?_
              · intro w hSw; (try dsimp only at hSw); go_simp
              simp only [Act.put, List.setIfInBounds_toArray, List.set_cons_zero, List.set_cons_succ]
              refine wpAnyH_take (i := 8) (oi := ⟨some 46, _, _, _, _, _⟩) (v := .int .i64 ((v + 1 : Nat) : Int)) rfl (by kernel_rfl) (by kernel_rfl) (by kernel_rfl) (fun _ _ _ h => h) (Or.inl ⟨by rfl, ?_⟩) (by assumption) ?_
              · intro w hSw; (try dsimp only at hSw); go_simp
              simp only [Act.put, List.setIfInBounds_toArray, List.set_cons_zero, List.set_cons_succ]
              refine wpAnyH_take (i := 9) (oi := ⟨some 47, _, _, _, _, _⟩) (v := .pointer (some ⟨b, v + 1, none⟩)) rfl (by kernel_rfl) (by kernel_rfl) (by kernel_rfl) (fun _ _ _ h => h) (Or.inl ⟨by rfl, ?_⟩) (by assumption) ?_
              · intro w hSw; (try dsimp only at hSw); go_simp; intro hq; exact absurd (hq (by omega)) (by omega)
              simp only [Act.put, List.setIfInBounds_toArray, List.set_cons_zero, List.set_cons_succ]
              refine wpAnyH_take (i := 10) (oi := ⟨some 48, _, _, _, _, _⟩) (v := .slice (some ⟨g, 0, none⟩) P2 q) rfl (by kernel_rfl) (by kernel_rfl) (by kernel_rfl) (fun _ _ _ h => h) (Or.inl ⟨by rfl, ?_⟩) (by assumption) ?_
              · intro w hSw; (try dsimp only at hSw); have q1 := (HG.out w hSw).1; go_simp
              simp only [Act.put, List.setIfInBounds_toArray, List.set_cons_zero, List.set_cons_succ]
              refine wpAnyH_take (i := 11) (oi := ⟨some 49, _, _, _, _, _⟩) (v := .int .i64 (i : Int)) rfl (by kernel_rfl) (by kernel_rfl) (by kernel_rfl) (fun _ _ _ h => h) (Or.inl ⟨by rfl, ?_⟩) (by assumption) ?_
              · intro w hSw; (try dsimp only at hSw); go_simp
              simp only [Act.put, List.setIfInBounds_toArray, List.set_cons_zero, List.set_cons_succ]
              refine wpAnyH_take (i := 12) (oi := ⟨some 50, _, _, _, _, _⟩) (v := .int .i64 (ka : Int)) rfl (by kernel_rfl) (by kernel_rfl) (by kernel_rfl) (fun _ _ _ h => h) (Or.inl ⟨by rfl, ?_⟩) (by assumption) ?_
              · intro w hSw; (try dsimp only at hSw); go_simp
              simp only [Act.put, List.setIfInBounds_toArray, List.set_cons_zero, List.set_cons_succ]
              refine wpAnyH_take (i := 13) (oi := ⟨some 51, _, _, _, _, _⟩) (v := .pointer (some ⟨g, ka * 32, none⟩)) rfl (by kernel_rfl) (by kernel_rfl) (by kernel_rfl) (fun _ _ _ h => h) (Or.inl ⟨by rfl, ?_⟩) (by assumption) ?_
              · intro w hSw; (try dsimp only at hSw); go_simp
              simp only [Act.put, List.setIfInBounds_toArray, List.set_cons_zero, List.set_cons_succ]
              refine wpAnyH_take (i := 14) (oi := ⟨some 52, _, _, _, _, _⟩) (v := .agg (Lib.byteCells (Tr.lvN l (v + 1) ka)).toArray) rfl (by kernel_rfl) (by kernel_rfl) (by kernel_rfl) (fun _ _ _ h => h) (yieldsIf_load_mid (by rfl) _ _ rfl _ _ rfl (Lib.byteCells (Tr.lvN l (v + 1) ka)) _ (fun w hS => (HG.out w hS).2 ka HK1.out) Tryz.underlying36 rfl (Sm.infoHash (Tr.size32 (Tr.lvN_length _ _ _)))) (by assumption) ?_
              simp only [Act.put, List.setIfInBounds_toArray, List.set_cons_zero, List.set_cons_succ]
              refine wpAnyH_take (i := 15) (oi := ⟨some 53, _, _, _, _, _⟩) (v := .slice (some ⟨b, 0, none⟩) 5 5) rfl (by kernel_rfl) (by kernel_rfl) (by kernel_rfl) (fun _ _ _ h => h) (Or.inl ⟨by rfl, ?_⟩) (by assumption) ?_
              · intro w hSw; (try dsimp only at hSw); go_simp
              simp only [Act.put, List.setIfInBounds_toArray, List.set_cons_zero, List.set_cons_succ]
              refine wpAnyH_take (i := 16) (oi := ⟨some 54, _, _, _, _, _⟩) (v := .int .i64 (v : Int)) rfl (by kernel_rfl) (by kernel_rfl) (by kernel_rfl) (fun _ _ _ h => h) (Or.inl ⟨by rfl, ?_⟩) (by assumption) ?_
              · intro w hSw; (try dsimp only at hSw); go_simp
              simp only [Act.put, List.setIfInBounds_toArray, List.set_cons_zero, List.set_cons_succ]
              refine wpAnyH_take (i := 17) (oi := ⟨some 55, _, _, _, _, _⟩) (v := .int .i64 ((v + 1 : Nat) : Int)) rfl (by kernel_rfl) (by kernel_rfl) (by kernel_rfl) (fun _ _ _ h => h) (Or.inl ⟨by rfl, ?_⟩) (by assumption) ?_
              · intro w hSw; (try dsimp only at hSw); go_simp
              simp only [Act.put, List.setIfInBounds_toArray, List.set_cons_zero, List.set_cons_succ]
              refine wpAnyH_take (i := 18) (oi := ⟨some 56, _, _, _, _, _⟩) (v := .pointer (some ⟨b, v + 1, none⟩)) rfl (by kernel_rfl) (by kernel_rfl) (by kernel_rfl) (fun _ _ _ h => h) (Or.inl ⟨by rfl, ?_⟩) (by assumption) ?_
              · intro w hSw; (try dsimp only at hSw); go_simp; intro hq; exact absurd (hq (by omega)) (by omega)
              simp only [Act.put, List.setIfInBounds_toArray, List.set_cons_zero, List.set_cons_succ]
              refine wpAnyH_take (i := 19) (oi := ⟨some 57, _, _, _, _, _⟩) (v := .slice (some ⟨g, 0, none⟩) P2 q) rfl (by kernel_rfl) (by kernel_rfl) (by kernel_rfl) (fun _ _ _ h => h) (Or.inl ⟨by rfl, ?_⟩) (by assumption) ?_
              · intro w hSw; (try dsimp only at hSw); have q1 := (HG.out w hSw).1; go_simp
              simp only [Act.put, List.setIfInBounds_toArray, List.set_cons_zero, List.set_cons_succ]
              refine wpAnyH_take (i := 20) (oi := ⟨some 58, _, _, _, _, _⟩) (v := .int .i64 (i : Int)) rfl (by kernel_rfl) (by kernel_rfl) (by kernel_rfl) (fun _ _ _ h => h) (Or.inl ⟨by rfl, ?_⟩) (by assumption) ?_
              · intro w hSw; (try dsimp only at hSw); go_simp
              simp only [Act.put, List.setIfInBounds_toArray, List.set_cons_zero, List.set_cons_succ]
              refine wpAnyH_take (i := 21) (oi := ⟨some 59, _, _, _, _, _⟩) (v := .int .i64 (ka : Int)) rfl (by kernel_rfl) (by kernel_rfl) (by kernel_rfl) (fun _ _ _ h => h) (Or.inl ⟨by rfl, ?_⟩) (by assumption) ?_
              · intro w hSw; (try dsimp only at hSw); go_simp
              simp only [Act.put, List.setIfInBounds_toArray, List.set_cons_zero, List.set_cons_succ]
              refine wpAnyH_take (i := 22) (oi := ⟨some 60, _, _, _, _, _⟩) (v := .int .i64 ((ka + 1 : Nat) : Int)) rfl (by kernel_rfl) (by kernel_rfl) (by kernel_rfl) (fun _ _ _ h => h) (Or.inl ⟨by rfl, ?_⟩) (by assumption) ?_
              · intro w hSw; (try dsimp only at hSw); go_simp
              simp only [Act.put, List.setIfInBounds_toArray, List.set_cons_zero, List.set_cons_succ]
              refine wpAnyH_take (i := 23) (oi := ⟨some 61, _, _, _, _, _⟩) (v := .pointer (some ⟨g, (ka + 1) * 32, none⟩)) rfl (by kernel_rfl) (by kernel_rfl) (by kernel_rfl) (fun _ _ _ h => h) (Or.inl ⟨by rfl, ?_⟩) (by assumption) ?_
              · intro w hSw; (try dsimp only at hSw); go_simp; intro hq; exact absurd (hq (by omega)) (by omega)
              simp only [Act.put, List.setIfInBounds_toArray, List.set_cons_zero, List.set_cons_succ]
              refine wpAnyH_take (i := 24) (oi := ⟨some 62, _, _, _, _, _⟩) (v := .agg (Lib.byteCells (Tr.lvN l (v + 1) (ka + 1))).toArray) rfl (by kernel_rfl) (by kernel_rfl) (by kernel_rfl) (fun _ _ _ h => h) (yieldsIf_load_mid (by rfl) _ _ rfl _ _ rfl (Lib.byteCells (Tr.lvN l (v + 1) (ka + 1))) _ (fun w hS => (HG.out w hS).2 (ka + 1) HK2.out) Tryz.underlying36 rfl (Sm.infoHash (Tr.size32 (Tr.lvN_length _ _ _)))) (by assumption) ?_
              simp only [Act.put, List.setIfInBounds_toArray, List.set_cons_zero, List.set_cons_succ]
              refine wpAnyH_ready (rs := [5, 25]) (by kernel_rfl) (by simp) ?_
              refine (AllReadyH.cons (o := ⟨some 43, _, _, _, _, _⟩) rfl (fun K hK => ?_) (AllReadyH.cons (o := ⟨some 63, _, _, _, _, _⟩) rfl (fun K hK => ?_) AllReadyH.nil))
              · have hc := wzI.out.cell HKS.out
                rw [HTL.out] at hc
                go_simp
                refine hK.out _ _ wzI.out.keepK (fun hHeld => ?_)
                clear hK K hc
                refine wpAnyH_ready (rs := [25]) (by kernel_rfl) (by simp) ?_
                refine (AllReadyH.cons (o := ⟨some 63, _, _, _, _, _⟩) rfl (fun K hK => ?_) AllReadyH.nil)
                go_simp
                refine (IT.out wz (v + 1) ka (ka + 1)).mono ?_
                rintro e wa ⟨rfl, kk⟩
                have waI := Lib.hid (wzI.out.step kk)
                have waB : Hid (Below N w wa) := wzB.out.trans (kk.mono (Nat.le_trans HNB.out (Nat.le_of_lt wzI.out.lt)))
                clear kk
                refine hK.out _ _ waI.out.keepK (fun hHeld => ?_)
                clear hK K
                refine wpAnyH_ready (rs := [26]) (by kernel_rfl) (by simp) ?_
                refine (AllReadyH.cons (o := ⟨some 64, _, _, _, _, _⟩) rfl (fun K hK => ?_) AllReadyH.nil)
                go_simp
                refine (SIK.out wa).mono ?_
                rintro e wb ⟨rfl, kk⟩
                have wbI := Lib.hid (waI.out.step kk)
                have wbB : Hid (Below N w wb) := waB.out.trans (kk.mono (Nat.le_trans HNB.out (Nat.le_of_lt waI.out.lt)))
                clear kk
                refine hK.out _ _ wbI.out.keepK (fun hHeld => ?_)
                clear hK K
                refine wpAnyH_ready (rs := [27]) (by kernel_rfl) (by simp) ?_
                refine (AllReadyH.cons (o := ⟨some 65, _, _, _, _, _⟩) rfl (fun K hK => ?_) AllReadyH.nil)
                rw [if_pos (by simp [Region.wanted])]
                refine Tr.wp_one_hash (.tmp 64) rfl (Tr.lvN l v i) (Tr.lvN_length _ _ _) rfl ?_
                have kk : Below wb.heap.size wb (wb.alloc (.cells (Lib.byteCells (Tr.lvN l v i)).toArray 36)) := (Below.refl _ wb).alloc (Nat.le_refl _) _
                have GN := Lib.hid (heap_alloc_new wb (.cells (Lib.byteCells (Tr.lvN l v i)).toArray 36))
                have wdI := Lib.hid (wbI.out.step kk)
                have wdB : Hid (Below N w (wb.alloc (.cells (Lib.byteCells (Tr.lvN l v i)).toArray 36))) := wbB.out.trans (kk.mono (Nat.le_trans HNB.out (Nat.le_of_lt wbI.out.lt)))
                clear kk
                generalize wb.alloc (.cells (Lib.byteCells (Tr.lvN l v i)).toArray 36) = wd at *
                generalize wb.heap.size = M at *
                refine hK.out _ _ wdI.out.keepK (fun hHeld => ?_)
                clear hK K
                refine wpAnyH_ready (rs := [28]) (by kernel_rfl) (by simp) ?_
                refine (AllReadyH.cons (o := ⟨some 66, _, _, _, _, _⟩) rfl (fun K hK => ?_) AllReadyH.nil)
                rw [if_pos (by simp [Region.wanted])]
                refine Tr.HRow.push0 (.tmp 43) (.tmp 65) rfl (l := (Tr.lvs l v).take i) (by rw [HTL.out]; rfl) wdI.out.row (Tr.lvN l v i) (Tr.lvN_length _ _ _) rfl GN.out (by rw [HTL.out]; have := H16.out; omega) wdI.out.sz ?_
                intro A7 c7 w7 hr7 hg7
                have HP := Lib.hid (wdI.out.push HBW.out hr7 hg7)
                have w7B : Hid (Below N w w7) := wdB.out.grown hg7 (Nat.le_trans HNB.out (Nat.le_of_lt wdI.out.lt)) (fun q hq => Nat.le_trans HNB.out (Nat.le_of_lt (Nat.lt_of_lt_of_le HBW.out (wdI.out.row.blk hq).1)))
                have H7 := Lib.hid (wdI.out.behind HBW.out HKS.out hg7)
                have w8B : Hid (Below N w (w7.setCell ⟨b, v, none⟩ (.slice A7 (((Tr.lvs l v).take i).length + 1) c7))) := w7B.out.setCell (p := ⟨b, v, none⟩) HNB.out _
                rw [HTL.out] at HP w8B H7 ⊢
                have K7 := Lib.hid (wdI.out.kbehind HBW.out hg7)
                clear hr7 hg7 w7B wdI wdB
                refine hK.out _ _ K7.out (fun hHeld => ?_)
                clear hK K
                try simp only [Act.put, List.setIfInBounds_toArray, List.set_cons_zero, List.set_cons_succ]
                refine wpAnyH_take (i := 29) (oi := ⟨some 67, _, _, _, _, _⟩) (v := .pointer (some ⟨b, v, none⟩)) rfl (by kernel_rfl) (by kernel_rfl) (by kernel_rfl) (fun _ _ _ h => h) (Or.inl ⟨by rfl, ?_⟩) (by assumption) ?_
                · intro w hSw; (try dsimp only at hSw); go_simp
                simp only [Act.put, List.setIfInBounds_toArray, List.set_cons_zero, List.set_cons_succ]
                refine wpAnyH_ready (rs := [30]) (by kernel_rfl) (by simp) ?_
                refine (AllReadyH.cons (o := ⟨none, _, _, _, _, _⟩) rfl (fun K hK => ?_) AllReadyH.nil)
                obtain ⟨c7c, f7c⟩ := H7.out
                go_simp
                refine hK.out _ _ HP.out.keepK (fun hHeld => ?_)
                clear hK K
                refine wpAnyH_done (by kernel_rfl) ?_ _
                clear hHeld c7c f7c H7 K7
                generalize w7.setCell ⟨b, v, none⟩ (.slice A7 (i + 1) c7) = w8 at *
                go_wp2
                go_roundw
                case rel => exact ⟨i + 1, rfl, HLT.out, A7, c7, by rw [Tr.lvs_take l HLI.out]; exact HP.out, w8B.out⟩
                case measure => simp only [intOf]; have := HLT.out; omega
              · go_simp
                refine (IT.out wz (v + 1) ka (ka + 1)).mono ?_
                rintro e wa ⟨rfl, kk⟩
                have waI := Lib.hid (wzI.out.step kk)
                have waB : Hid (Below N w wa) := wzB.out.trans (kk.mono (Nat.le_trans HNB.out (Nat.le_of_lt wzI.out.lt)))
                clear kk
                refine hK.out _ _ waI.out.keepK (fun hHeld => ?_)
                clear hK K
                refine wpAnyH_ready (rs := [5, 26]) (by kernel_rfl) (by simp) ?_
                refine (AllReadyH.cons (o := ⟨some 43, _, _, _, _, _⟩) rfl (fun K hK => ?_) (AllReadyH.cons (o := ⟨some 64, _, _, _, _, _⟩) rfl (fun K hK => ?_) AllReadyH.nil))
                · have hc := waI.out.cell HKS.out
                  rw [HTL.out] at hc
                  go_simp
                  refine hK.out _ _ waI.out.keepK (fun hHeld => ?_)
                  clear hK K hc
                  refine wpAnyH_ready (rs := [26]) (by kernel_rfl) (by simp) ?_
                  refine (AllReadyH.cons (o := ⟨some 64, _, _, _, _, _⟩) rfl (fun K hK => ?_) AllReadyH.nil)
                  go_simp
                  refine (SIK.out wa).mono ?_
                  rintro e wb ⟨rfl, kk⟩
                  have wbI := Lib.hid (waI.out.step kk)
                  have wbB : Hid (Below N w wb) := waB.out.trans (kk.mono (Nat.le_trans HNB.out (Nat.le_of_lt waI.out.lt)))
                  clear kk
                  refine hK.out _ _ wbI.out.keepK (fun hHeld => ?_)
                  clear hK K
                  refine wpAnyH_ready (rs := [27]) (by kernel_rfl) (by simp) ?_
                  refine (AllReadyH.cons (o := ⟨some 65, _, _, _, _, _⟩) rfl (fun K hK => ?_) AllReadyH.nil)
                  rw [if_pos (by simp [Region.wanted])]
                  refine Tr.wp_one_hash (.tmp 64) rfl (Tr.lvN l v i) (Tr.lvN_length _ _ _) rfl ?_
                  have kk : Below wb.heap.size wb (wb.alloc (.cells (Lib.byteCells (Tr.lvN l v i)).toArray 36)) := (Below.refl _ wb).alloc (Nat.le_refl _) _
                  have GN := Lib.hid (heap_alloc_new wb (.cells (Lib.byteCells (Tr.lvN l v i)).toArray 36))
                  have wdI := Lib.hid (wbI.out.step kk)
                  have wdB : Hid (Below N w (wb.alloc (.cells (Lib.byteCells (Tr.lvN l v i)).toArray 36))) := wbB.out.trans (kk.mono (Nat.le_trans HNB.out (Nat.le_of_lt wbI.out.lt)))
                  clear kk
                  generalize wb.alloc (.cells (Lib.byteCells (Tr.lvN l v i)).toArray 36) = wd at *
                  generalize wb.heap.size = M at *
                  refine hK.out _ _ wdI.out.keepK (fun hHeld => ?_)
                  clear hK K
                  refine wpAnyH_ready (rs := [28]) (by kernel_rfl) (by simp) ?_
                  refine (AllReadyH.cons (o := ⟨some 66, _, _, _, _, _⟩) rfl (fun K hK => ?_) AllReadyH.nil)
                  rw [if_pos (by simp [Region.wanted])]
                  refine Tr.HRow.push0 (.tmp 43) (.tmp 65) rfl (l := (Tr.lvs l v).take i) (by rw [HTL.out]; rfl) wdI.out.row (Tr.lvN l v i) (Tr.lvN_length _ _ _) rfl GN.out (by rw [HTL.out]; have := H16.out; omega) wdI.out.sz ?_
                  intro A7 c7 w7 hr7 hg7
                  have HP := Lib.hid (wdI.out.push HBW.out hr7 hg7)
                  have w7B : Hid (Below N w w7) := wdB.out.grown hg7 (Nat.le_trans HNB.out (Nat.le_of_lt wdI.out.lt)) (fun q hq => Nat.le_trans HNB.out (Nat.le_of_lt (Nat.lt_of_lt_of_le HBW.out (wdI.out.row.blk hq).1)))
                  have H7 := Lib.hid (wdI.out.behind HBW.out HKS.out hg7)
                  have w8B : Hid (Below N w (w7.setCell ⟨b, v, none⟩ (.slice A7 (((Tr.lvs l v).take i).length + 1) c7))) := w7B.out.setCell (p := ⟨b, v, none⟩) HNB.out _
                  rw [HTL.out] at HP w8B H7 ⊢
                  have K7 := Lib.hid (wdI.out.kbehind HBW.out hg7)
                  clear hr7 hg7 w7B wdI wdB
                  refine hK.out _ _ K7.out (fun hHeld => ?_)
                  clear hK K
                  try simp only [Act.put, List.setIfInBounds_toArray, List.set_cons_zero, List.set_cons_succ]
                  refine wpAnyH_take (i := 29) (oi := ⟨some 67, _, _, _, _, _⟩) (v := .pointer (some ⟨b, v, none⟩)) rfl (by kernel_rfl) (by kernel_rfl) (by kernel_rfl) (fun _ _ _ h => h) (Or.inl ⟨by rfl, ?_⟩) (by assumption) ?_
                  · intro w hSw; (try dsimp only at hSw); go_simp
                  simp only [Act.put, List.setIfInBounds_toArray, List.set_cons_zero, List.set_cons_succ]
                  refine wpAnyH_ready (rs := [30]) (by kernel_rfl) (by simp) ?_
                  refine (AllReadyH.cons (o := ⟨none, _, _, _, _, _⟩) rfl (fun K hK => ?_) AllReadyH.nil)
                  obtain ⟨c7c, f7c⟩ := H7.out
                  go_simp
                  refine hK.out _ _ HP.out.keepK (fun hHeld => ?_)
                  clear hK K
                  refine wpAnyH_done (by kernel_rfl) ?_ _
                  clear hHeld c7c f7c H7 K7
                  generalize w7.setCell ⟨b, v, none⟩ (.slice A7 (i + 1) c7) = w8 at *
                  go_wp2
                  go_roundw
                  case rel => exact ⟨i + 1, rfl, HLT.out, A7, c7, by rw [Tr.lvs_take l HLI.out]; exact HP.out, w8B.out⟩
                  case measure => simp only [intOf]; have := HLT.out; omega
                · go_simp
                  refine (SIK.out wa).mono ?_
                  rintro e wb ⟨rfl, kk⟩
                  have wbI := Lib.hid (waI.out.step kk)
                  have wbB : Hid (Below N w wb) := waB.out.trans (kk.mono (Nat.le_trans HNB.out (Nat.le_of_lt waI.out.lt)))
                  clear kk
                  refine hK.out _ _ wbI.out.keepK (fun hHeld => ?_)
                  clear hK K
                  refine wpAnyH_ready (rs := [5, 27]) (by kernel_rfl) (by simp) ?_
                  refine (AllReadyH.cons (o := ⟨some 43, _, _, _, _, _⟩) rfl (fun K hK => ?_) (AllReadyH.cons (o := ⟨some 65, _, _, _, _, _⟩) rfl (fun K hK => ?_) AllReadyH.nil))
                  · have hc := wbI.out.cell HKS.out
                    rw [HTL.out] at hc
                    go_simp
                    refine hK.out _ _ wbI.out.keepK (fun hHeld => ?_)
                    clear hK K hc
                    refine wpAnyH_ready (rs := [27]) (by kernel_rfl) (by simp) ?_
                    refine (AllReadyH.cons (o := ⟨some 65, _, _, _, _, _⟩) rfl (fun K hK => ?_) AllReadyH.nil)
                    rw [if_pos (by simp [Region.wanted])]
                    refine Tr.wp_one_hash (.tmp 64) rfl (Tr.lvN l v i) (Tr.lvN_length _ _ _) rfl ?_
                    have kk : Below wb.heap.size wb (wb.alloc (.cells (Lib.byteCells (Tr.lvN l v i)).toArray 36)) := (Below.refl _ wb).alloc (Nat.le_refl _) _
                    have GN := Lib.hid (heap_alloc_new wb (.cells (Lib.byteCells (Tr.lvN l v i)).toArray 36))
                    have wdI := Lib.hid (wbI.out.step kk)
                    have wdB : Hid (Below N w (wb.alloc (.cells (Lib.byteCells (Tr.lvN l v i)).toArray 36))) := wbB.out.trans (kk.mono (Nat.le_trans HNB.out (Nat.le_of_lt wbI.out.lt)))
                    clear kk
                    generalize wb.alloc (.cells (Lib.byteCells (Tr.lvN l v i)).toArray 36) = wd at *
                    generalize wb.heap.size = M at *
                    refine hK.out _ _ wdI.out.keepK (fun hHeld => ?_)
                    clear hK K
                    refine wpAnyH_ready (rs := [28]) (by kernel_rfl) (by simp) ?_
                    refine (AllReadyH.cons (o := ⟨some 66, _, _, _, _, _⟩) rfl (fun K hK => ?_) AllReadyH.nil)
                    rw [if_pos (by simp [Region.wanted])]
                    refine Tr.HRow.push0 (.tmp 43) (.tmp 65) rfl (l := (Tr.lvs l v).take i) (by rw [HTL.out]; rfl) wdI.out.row (Tr.lvN l v i) (Tr.lvN_length _ _ _) rfl GN.out (by rw [HTL.out]; have := H16.out; omega) wdI.out.sz ?_
                    intro A7 c7 w7 hr7 hg7
                    have HP := Lib.hid (wdI.out.push HBW.out hr7 hg7)
                    have w7B : Hid (Below N w w7) := wdB.out.grown hg7 (Nat.le_trans HNB.out (Nat.le_of_lt wdI.out.lt)) (fun q hq => Nat.le_trans HNB.out (Nat.le_of_lt (Nat.lt_of_lt_of_le HBW.out (wdI.out.row.blk hq).1)))
                    have H7 := Lib.hid (wdI.out.behind HBW.out HKS.out hg7)
                    have w8B : Hid (Below N w (w7.setCell ⟨b, v, none⟩ (.slice A7 (((Tr.lvs l v).take i).length + 1) c7))) := w7B.out.setCell (p := ⟨b, v, none⟩) HNB.out _
                    rw [HTL.out] at HP w8B H7 ⊢
                    have K7 := Lib.hid (wdI.out.kbehind HBW.out hg7)
                    clear hr7 hg7 w7B wdI wdB
                    refine hK.out _ _ K7.out (fun hHeld => ?_)
                    clear hK K
                    try simp only [Act.put, List.setIfInBounds_toArray, List.set_cons_zero, List.set_cons_succ]
                    refine wpAnyH_take (i := 29) (oi := ⟨some 67, _, _, _, _, _⟩) (v := .pointer (some ⟨b, v, none⟩)) rfl (by kernel_rfl) (by kernel_rfl) (by kernel_rfl) (fun _ _ _ h => h) (Or.inl ⟨by rfl, ?_⟩) (by assumption) ?_
                    · intro w hSw; (try dsimp only at hSw); go_simp
                    simp only [Act.put, List.setIfInBounds_toArray, List.set_cons_zero, List.set_cons_succ]
                    refine wpAnyH_ready (rs := [30]) (by kernel_rfl) (by simp) ?_
                    refine (AllReadyH.cons (o := ⟨none, _, _, _, _, _⟩) rfl (fun K hK => ?_) AllReadyH.nil)
                    obtain ⟨c7c, f7c⟩ := H7.out
                    go_simp
                    refine hK.out _ _ HP.out.keepK (fun hHeld => ?_)
                    clear hK K
                    refine wpAnyH_done (by kernel_rfl) ?_ _
                    clear hHeld c7c f7c H7 K7
                    generalize w7.setCell ⟨b, v, none⟩ (.slice A7 (i + 1) c7) = w8 at *
                    go_wp2
                    go_roundw
                    case rel => exact ⟨i + 1, rfl, HLT.out, A7, c7, by rw [Tr.lvs_take l HLI.out]; exact HP.out, w8B.out⟩
                    case measure => simp only [intOf]; have := HLT.out; omega
                  · rw [if_pos (by simp [Region.wanted])]
                    refine Tr.wp_one_hash (.tmp 64) rfl (Tr.lvN l v i) (Tr.lvN_length _ _ _) rfl ?_
                    have kk : Below wb.heap.size wb (wb.alloc (.cells (Lib.byteCells (Tr.lvN l v i)).toArray 36)) := (Below.refl _ wb).alloc (Nat.le_refl _) _
                    have GN := Lib.hid (heap_alloc_new wb (.cells (Lib.byteCells (Tr.lvN l v i)).toArray 36))
                    have wdI := Lib.hid (wbI.out.step kk)
                    have wdB : Hid (Below N w (wb.alloc (.cells (Lib.byteCells (Tr.lvN l v i)).toArray 36))) := wbB.out.trans (kk.mono (Nat.le_trans HNB.out (Nat.le_of_lt wbI.out.lt)))
                    clear kk
                    generalize wb.alloc (.cells (Lib.byteCells (Tr.lvN l v i)).toArray 36) = wd at *
                    generalize wb.heap.size = M at *
                    refine hK.out _ _ wdI.out.keepK (fun hHeld => ?_)
                    clear hK K
                    refine wpAnyH_ready (rs := [5]) (by kernel_rfl) (by simp) ?_
                    refine (AllReadyH.cons (o := ⟨some 43, _, _, _, _, _⟩) rfl (fun K hK => ?_) AllReadyH.nil)
                    have hc := wdI.out.cell HKS.out
                    rw [HTL.out] at hc
                    go_simp
                    refine hK.out _ _ wdI.out.keepK (fun hHeld => ?_)
                    clear hK K hc
                    refine wpAnyH_ready (rs := [28]) (by kernel_rfl) (by simp) ?_
                    refine (AllReadyH.cons (o := ⟨some 66, _, _, _, _, _⟩) rfl (fun K hK => ?_) AllReadyH.nil)
                    rw [if_pos (by simp [Region.wanted])]
                    refine Tr.HRow.push0 (.tmp 43) (.tmp 65) rfl (l := (Tr.lvs l v).take i) (by rw [HTL.out]; rfl) wdI.out.row (Tr.lvN l v i) (Tr.lvN_length _ _ _) rfl GN.out (by rw [HTL.out]; have := H16.out; omega) wdI.out.sz ?_
                    intro A7 c7 w7 hr7 hg7
                    have HP := Lib.hid (wdI.out.push HBW.out hr7 hg7)
                    have w7B : Hid (Below N w w7) := wdB.out.grown hg7 (Nat.le_trans HNB.out (Nat.le_of_lt wdI.out.lt)) (fun q hq => Nat.le_trans HNB.out (Nat.le_of_lt (Nat.lt_of_lt_of_le HBW.out (wdI.out.row.blk hq).1)))
                    have H7 := Lib.hid (wdI.out.behind HBW.out HKS.out hg7)
                    have w8B : Hid (Below N w (w7.setCell ⟨b, v, none⟩ (.slice A7 (((Tr.lvs l v).take i).length + 1) c7))) := w7B.out.setCell (p := ⟨b, v, none⟩) HNB.out _
                    rw [HTL.out] at HP w8B H7 ⊢
                    have K7 := Lib.hid (wdI.out.kbehind HBW.out hg7)
                    clear hr7 hg7 w7B wdI wdB
                    refine hK.out _ _ K7.out (fun hHeld => ?_)
                    clear hK K
                    try simp only [Act.put, List.setIfInBounds_toArray, List.set_cons_zero, List.set_cons_succ]
                    refine wpAnyH_take (i := 29) (oi := ⟨some 67, _, _, _, _, _⟩) (v := .pointer (some ⟨b, v, none⟩)) rfl (by kernel_rfl) (by kernel_rfl) (by kernel_rfl) (fun _ _ _ h => h) (Or.inl ⟨by rfl, ?_⟩) (by assumption) ?_
                    · intro w hSw; (try dsimp only at hSw); go_simp
                    simp only [Act.put, List.setIfInBounds_toArray, List.set_cons_zero, List.set_cons_succ]
                    refine wpAnyH_ready (rs := [30]) (by kernel_rfl) (by simp) ?_
                    refine (AllReadyH.cons (o := ⟨none, _, _, _, _, _⟩) rfl (fun K hK => ?_) AllReadyH.nil)
                    obtain ⟨c7c, f7c⟩ := H7.out
                    go_simp
                    refine hK.out _ _ HP.out.keepK (fun hHeld => ?_)
                    clear hK K
                    refine wpAnyH_done (by kernel_rfl) ?_ _
                    clear hHeld c7c f7c H7 K7
                    generalize w7.setCell ⟨b, v, none⟩ (.slice A7 (i + 1) c7) = w8 at *
                    go_wp2
                    go_roundw
                    case rel => exact ⟨i + 1, rfl, HLT.out, A7, c7, by rw [Tr.lvs_take l HLI.out]; exact HP.out, w8B.out⟩
                    case measure => simp only [intOf]; have := HLT.out; omega
            · have hii : ¬ (i : Int) < (P : Int) := by omega
              obtain rfl : i = P := by omega
              have hsubL := HSL.out
              have hIv : Tr.LevIn wv wr b cs v A1 c1 (Tr.lvs l v) := by have := HI.out; rw [HPE.out, Tr.lvs_all] at this; exact this
              have LD := Lib.hid (hIv.done LC.out (by have := HV4.out; omega))
              clear hIv hi
              go_wp2
              go_roundw
              case rel => exact ⟨v, rfl, Nat.le_of_lt HV4.out, _, LD.out, HB.out⟩
              case measure => simp only [intOf]; omega
end Go.Proofs.YtiehcplepneajaaGreatDoor

/-
  The document's tree: all texts, in their row.
-/
namespace Go.Proofs.YtiehcplepneajaaGreatDoor
open Go.RowKit
namespace Tr
open Om (Pr)
theorem tk_lvN (l : List Pr) {v i : Nat} (hv : v < 4) (hi : i < 2 ^ v) : tk l (32 - 2 * 2 ^ v + i) = innerT (lvN l (v + 1) (2 * i)) (lvN l (v + 1) (2 * i + 1)) := by
  have h1 := nk_at l (level := v) (by omega) hi
  have h2 := nk_at l (level := v + 1) (i := 2 * i) (by omega) (by rw [Nat.pow_succ]; omega)
  have h3 := nk_at l (level := v + 1) (i := 2 * i + 1) (by omega) (by rw [Nat.pow_succ]; omega)
  have hp : 2 ^ v ≤ 8 := by
    obtain rfl | rfl | rfl | rfl : v = 0 ∨ v = 1 ∨ v = 2 ∨ v = 3 := by omega
    all_goals decide
  have e1 : 2 * (32 - 2 * 2 ^ v + i - 16) = at_ (v + 1) (2 * i) := by unfold at_; rw [Nat.pow_succ]; omega
  have e2 : at_ (v + 1) (2 * i) + 1 = at_ (v + 1) (2 * i + 1) := by unfold at_; omega
  have h31 : 32 - 2 * 2 ^ v + i < 31 := h1.2
  rw [tk_inner l (by omega) h31, e1, e2, h2.1, h3.1]
  rfl
end Tr
set_option maxRecDepth 100000 in
set_option maxHeartbeats 8000000 in
theorem r15Texts_any {w : World} {A : Option Addr} {l : List Om.Pr} (c : Nat) (hit : Om.listAt w A l) (hf : Tr.Fit l) :
    Calls Tryz.prog 57 #[.slice A l.length c] w fun e w' => ∃ B q, e = .returned (.slice B 31 q) ∧ Om.SRow w' w.heap.size B q (Tr.txl l) ∧ Below w.heap.size w w' := by
  obtain ⟨N, hN⟩ : ∃ N, N = w.heap.size := ⟨_, rfl⟩
  have LT : Hid (∀ (wx : World) (k : Nat), Below N w wx → k < 16 → Calls Tryz.prog 90 #[.slice A l.length c, .int .i64 (k : Int)] wx fun e w' => e = .returned (.string (Tr.tx (Tr.tk l k))) ∧ Below wx.heap.size wx w') := fun wx k hb hk => by rw [Tr.tk_leaf l hk]; exact r15LeafText_any c (hit.below (hN ▸ hb)) hf hk
  have LE : Hid (∀ wx : World, Below N w wx → Calls Tryz.prog 56 #[.slice A l.length c] wx fun e w' => ∃ b cs, e = .returned (.slice (some ⟨b, 0, none⟩) 5 5) ∧ Tr.LevC w' wx.heap.size b cs l 0 ∧ Below wx.heap.size wx w') := fun wx hb => r15Levels_any c (hit.below (hN ▸ hb)) hf
  have IT : Hid (∀ (wx : World) (v i j : Nat), Calls Tryz.prog 91 #[.agg (Lib.byteCells (Tr.lvN l v i)).toArray, .agg (Lib.byteCells (Tr.lvN l v j)).toArray] wx fun e w' => e = .returned (.string (Tr.tx (Tr.innerT (Tr.lvN l v i) (Tr.lvN l v j)))) ∧ Below wx.heap.size wx w') := fun wx v i j => r15InnerText_any wx _ _ (Tr.lvN_length _ _ _) (Tr.lvN_length _ _ _)
  have HTK : Hid (∀ k, k < 31 → (Tr.txl l).take (k + 1) = (Tr.txl l).take k ++ [Tr.tx (Tr.tk l k)]) := fun k hk => Tr.txl_take l hk
  have HLEN := Lib.hid (Tr.txl_length l)
  obtain ⟨T, hT'⟩ : ∃ T, T = Tr.txl l := ⟨_, rfl⟩
  rw [← hT'] at HTK HLEN ⊢
  have HNW := Lib.hid hN
  have H0 : Hid (Om.SRow w N none 0 [] ∧ Below N w w) := ⟨Om.SRow.nil _ _, Below.refl _ _⟩
  clear hit hf hT' hN
  go_enter Tryz.func57, Tryz.ntmps57
  go_wp2
  go_loopw [3, 4] (fun s3 s4 wr => ∃ (k : Nat) (B : Option Addr) (q : Nat) (t : List ByteArray), s4 = .int .i64 k ∧ s3 = .slice B t.length q ∧ k ≤ 16 ∧ Hid (t = T.take k) ∧ Om.SRow wr N B q t ∧ Below N w wr) (fun _ s4 _ => 16 - (intOf s4).toNat)
  case atStart => exact ⟨0, none, 0, [], rfl, rfl, by omega, rfl, H0.out⟩
  case round =>
    obtain ⟨k, B, q, t, rfl, rfl, hk, hm, hrow, hb⟩ := hrel
    have HRW := Lib.hid hrow
    have HB := Lib.hid hb
    have HNR : Hid (N ≤ wr.heap.size) := by show _ ≤ _; rw [HNW.out]; exact hb.size
    clear hrow hb
    by_cases hlt : k < 16
    · have hki : (k : Int) < 16 := by omega
      have hsuc : IntKind.i64.wrap ((k : Int) + 1) = ((k + 1 : Nat) : Int) := by simp [IntKind.wrap, IntKind.bits, IntKind.signed]; omega
      have hst := HTK.out k (by omega)
      rw [← hm.out] at hst
      have T1 := Lib.hid (LT.out wr k HB.out hlt)
      have HML : Hid (t.length ≤ 31) := by
        show _ ≤ _
        rw [hm.out, List.length_take]
        omega
      obtain ⟨x, hx⟩ : ∃ x, x = Tr.tx (Tr.tk l k) := ⟨_, rfl⟩
      rw [← hx] at hst T1
      have HST := Lib.hid hst
      have HLT := Lib.hid hlt
      clear hst hx hm hlt
      go_wp2_with first
        | (go_at_call 90; refine T1.out.mono ?_; rintro e w4 ⟨rfl, k4⟩; have K4 : Hid (Below wr.heap.size wr (w4.alloc (.cells #[.string x] 9))) := k4.alloc k4.size _; clear k4)
        | (at_builtin; refine Om.wp_text rfl _ _ rfl rfl (HRW.out.low K4.out) x rfl (heap_alloc_new _ _) (by have := HML.out; omega) (Nat.le_trans HNR.out K4.out.size) ?_; intro A' c' w3 hr3 hg3)
      have hsl : t.length + 1 = (t ++ [x]).length := by simp
      have K3 : Hid (Below N w w3) := (HB.out.trans (K4.out.mono HNR.out)).grown hg3 (Nat.le_trans HNR.out K4.out.size) (fun q hq => ((HRW.out.low K4.out).blk hq).1)
      have HR3 := Lib.hid hr3
      clear hr3 hg3
      go_roundw
      case rel => exact ⟨k + 1, A', c', t ++ [x], rfl, by rw [← hsl], HLT.out, HST.out.symm, HR3.out, K3.out⟩
      case measure => simp only [intOf]; have := HLT.out; omega
    · have hki : ¬ (k : Int) < 16 := by omega
      obtain rfl : k = 16 := by omega
      have L1 := Lib.hid (LE.out wr HB.out)
      have HM := Lib.hid hm.out
      clear LT LE hm
      go_upto_region 7 with (go_at_call 56; refine L1.out.mono ?_; rintro e w5 ⟨b, cs, rfl, l5, k5⟩)
      have LV5 : Hid (Tr.LevC w5 N b cs l 0) := l5.base HNR.out
      have RW5 := Lib.hid (HRW.out.low k5)
      have B5 : Hid (Below N w w5) := HB.out.trans (k5.mono HNR.out)
      clear l5 k5 L1 HRW HB HNR hk
      go_wp2
      go_loopw [3, 6, 7] (fun s3 s6 _ wr => ∃ (u : Nat) (B : Option Addr) (q : Nat) (t : List ByteArray), s6 = .int .i64 ((u : Int) - 1) ∧ u ≤ 4 ∧ s3 = .slice B t.length q ∧ Hid (t = T.take (32 - 2 ^ u)) ∧ Om.SRow wr N B q t ∧ Tr.LevC wr N b cs l 0 ∧ Below N w wr) (fun _ s6 _ _ => (intOf s6 + 1).toNat)
      case atStart => exact ⟨4, _, _, _, rfl, by omega, rfl, HM.out, RW5.out, LV5.out, B5.out⟩
      case round =>
        clear RW5 LV5 B5 HM
        obtain ⟨u, B, q, t, rfl, hu4, rfl, hm, hrow, hl, hb⟩ := hrel
        have HRW := Lib.hid hrow
        have LV := Lib.hid hl
        have HB := Lib.hid hb
        clear hrow hl hb
        rcases u with _ | v
        · have hneg : ((0 : Nat) : Int) - 1 = -1 := rfl
          have hm' := hm.out
          rw [show (32 - 2 ^ 0 : Nat) = 31 from rfl, List.take_of_length_le (by rw [HLEN.out]; omega)] at hm'
          have HMM := Lib.hid hm'
          rw [hneg]
          clear hm hm'
          go_wp2
          go_ret
          exact ⟨B, q, by rw [← HLEN.out, ← HMM.out]; rfl, by rw [← HNW.out, ← HMM.out]; exact HRW.out, by rw [← HNW.out]; exact HB.out⟩
        · have hle : ((v + 1 : Nat) : Int) - 1 = (v : Int) := by omega
          rw [hle]
          have HV4 : Hid (v < 4) := hu4
          have h0v : (0 : Int) ≤ (v : Int) := by omega
          have hv5 : (v : Int) < 5 := by omega
          have hv6 : ((v + 1 : Nat) : Int) < 5 := by omega
          have hsubL : IntKind.i64.wrap ((v : Int) - 1) = (v : Int) - 1 := by simp [IntKind.wrap, IntKind.bits, IntKind.signed]; omega
          have HSL := Lib.hid hsubL
          have haddL : IntKind.i64.wrap ((v : Int) + 1) = ((v + 1 : Nat) : Int) := by simp [IntKind.wrap, IntKind.bits, IntKind.signed]; omega
          obtain ⟨g0, cg0, hg0⟩ := LV.out.told (Nat.zero_le v) (show v < 5 by omega)
          obtain ⟨g, cg, hg⟩ := LV.out.told (Nat.zero_le (v + 1)) (show v + 1 < 5 by omega)
          obtain ⟨P, hP⟩ : ∃ P, P = 2 ^ v := ⟨_, rfl⟩
          obtain ⟨P2, hP2⟩ : ∃ P, P = 2 ^ (v + 1) := ⟨_, rfl⟩
          have hPP : P2 = 2 * P := by rw [hP, hP2, Nat.pow_succ]; omega
          have hp8 : P ≤ 8 := by
            rw [hP]
            obtain rfl | rfl | rfl | rfl : v = 0 ∨ v = 1 ∨ v = 2 ∨ v = 3 := by omega
            all_goals decide
          have HPE := Lib.hid hP
          have HPE2 := Lib.hid hPP
          have HP8 := Lib.hid hp8
          rw [← hP2] at hg
          rw [← hP] at hg0
          have HG := Lib.hid hg
          have HG0 : Hid (∀ wx, Tr.LevC wx N b cs l 0 → wx.cell? ⟨b, v, none⟩ = some (.slice (some ⟨g0, 0, none⟩) P cg0)) := fun wx h => (hg0 wx h).1
          have hm0 : Hid (t = T.take (32 - 2 * P + 0)) := by have := hm.out; rw [Nat.pow_succ, ← hP] at this; rw [this]; congr 1; omega
          clear hg hg0 hP hP2 hPP hp8 hsubL hle hm
          go_wp2
          go_loopw [3, 7] (fun s3 s7 wr => ∃ (i : Nat) (B : Option Addr) (q : Nat) (t : List ByteArray), s7 = .int .i64 i ∧ i ≤ P ∧ s3 = .slice B t.length q ∧ Hid (t = T.take (32 - 2 * P + i)) ∧ Om.SRow wr N B q t ∧ Tr.LevC wr N b cs l 0 ∧ Below N w wr) (fun _ s7 _ => P - (intOf s7).toNat)
          case atStart => exact ⟨0, _, _, _, rfl, by omega, rfl, hm0, HRW.out, LV.out, HB.out⟩
          case round =>
            clear HRW LV HB hm0
            obtain ⟨i, B, q, t, rfl, hi, rfl, hm, hrow, hl, hb⟩ := hrel
            have HRW := Lib.hid hrow
            have LV := Lib.hid hl
            have HB := Lib.hid hb
            have hcell := HG0.out _ hl
            have BZN : Hid (N ≤ wr.heap.size) := by show _ ≤ _; rw [HNW.out]; exact hb.size
            clear hrow hl hb
            by_cases hlt : i < P
            · have hii : (i : Int) < (P : Int) := by omega
              have HLT := Lib.hid hlt
              have hsuc : IntKind.i64.wrap ((i : Int) + 1) = ((i + 1 : Nat) : Int) := by have := HP8.out; simp [IntKind.wrap, IntKind.bits, IntKind.signed]; omega
              obtain ⟨ka, hka⟩ : ∃ k, k = 2 * i := ⟨_, rfl⟩
              have hst := HTK.out (32 - 2 * P + i) (by have := HP8.out; omega)
              rw [← hm.out, HPE.out, Tr.tk_lvN l HV4.out (by rw [← HPE.out]; exact hlt), ← HPE.out, ← hka] at hst
              obtain ⟨x, hx⟩ : ∃ x, x = Tr.tx (Tr.innerT (Tr.lvN l (v + 1) ka) (Tr.lvN l (v + 1) (ka + 1))) := ⟨_, rfl⟩
              have HIN : Hid (Tr.tx (Tr.innerT (Tr.lvN l (v + 1) ka) (Tr.lvN l (v + 1) (ka + 1))) = x) := hx.symm
              rw [← hx] at hst
              have HST := Lib.hid hst
              have HML : Hid (t.length ≤ 31) := by
                show _ ≤ _
                rw [hm.out, List.length_take]
                have := HP8.out
                omega
              have hk1 : ka < P2 := by have := HPE2.out; omega
              have hk2 : ka + 1 < P2 := by have := HPE2.out; omega
              have HK1 := Lib.hid hk1
              have HK2 := Lib.hid hk2
              have hk1i : (ka : Int) < (P2 : Int) := by omega
              have hk2i : ((ka + 1 : Nat) : Int) < (P2 : Int) := by omega
              have hmul : IntKind.i64.wrap (2 * (i : Int)) = (ka : Int) := by have := HP8.out; simp [IntKind.wrap, IntKind.bits, IntKind.signed]; omega
              have hmul1 : IntKind.i64.wrap ((ka : Int) + 1) = ((ka + 1 : Nat) : Int) := by have := HP8.out; simp [IntKind.wrap, IntKind.bits, IntKind.signed]; omega
              clear hi hlt hka hk1 hk2 hx hst hm
              go_upto_region 13 with (fail)
              clear hcell
              refine wp_region_held_drew (S := fun wx => Tr.LevC wx N b cs l 0) (by kernel_rfl) (LV.out.step (Below.refl _ _).drew) (fun hHeld => ?_)
              obtain ⟨wz, hwz⟩ : ∃ W, W = wr.drew := ⟨_, rfl⟩
              have LZ : Hid (Tr.LevC wz N b cs l 0) := by rw [hwz]; exact LV.out.step (Below.refl _ _).drew
              have BZ : Hid (Below N w wz) := by rw [hwz]; exact HB.out.trans ((Below.refl _ _).drew)
              have RZ : Hid (Om.SRow wz N B q t) := by rw [hwz]; exact HRW.out.low (Below.refl _ _).drew
              have BZM : Hid (N ≤ wz.heap.size) := by rw [hwz]; exact BZN.out
              rw [← hwz] at hHeld ⊢
              clear hwz HRW HB LV
              refine wpAnyH_take (i := 0) (oi := ⟨some 33, _, _, _, _, _⟩) (v := .slice B t.length q) rfl (by kernel_rfl) (by kernel_rfl) (by kernel_rfl) (fun _ _ _ h => h) (Or.inl ⟨by rfl, ?_⟩) (by assumption) ?_
              · intro w hSw; (try dsimp only at hSw); go_simp
              simp only [Act.put, List.setIfInBounds_toArray, List.set_cons_zero, List.set_cons_succ]
              refine wpAnyH_take (i := 1) (oi := ⟨some 34, _, _, _, _, _⟩) (v := .slice (some ⟨b, 0, none⟩) 5 5) rfl (by kernel_rfl) (by kernel_rfl) (by kernel_rfl) (fun _ _ _ h => h) (Or.inl ⟨by rfl, ?_⟩) (by assumption) ?_
              · intro w hSw; (try dsimp only at hSw); go_simp
              simp only [Act.put, List.setIfInBounds_toArray, List.set_cons_zero, List.set_cons_succ]
              refine wpAnyH_take (i := 2) (oi := ⟨some 35, _, _, _, _, _⟩) (v := .int .i64 (v : Int)) rfl (by kernel_rfl) (by kernel_rfl) (by kernel_rfl) (fun _ _ _ h => h) (Or.inl ⟨by rfl, ?_⟩) (by assumption) ?_
              · intro w hSw; (try dsimp only at hSw); go_simp
              simp only [Act.put, List.setIfInBounds_toArray, List.set_cons_zero, List.set_cons_succ]
              refine wpAnyH_take (i := 3) (oi := ⟨some 36, _, _, _, _, _⟩) (v := .int .i64 ((v + 1 : Nat) : Int)) rfl (by kernel_rfl) (by kernel_rfl) (by kernel_rfl) (fun _ _ _ h => h) (Or.inl ⟨by rfl, ?_⟩) (by assumption) ?_
              · intro w hSw; (try dsimp only at hSw); go_simp
              simp only [Act.put, List.setIfInBounds_toArray, List.set_cons_zero, List.set_cons_succ]
              refine wpAnyH_take (i := 4) (oi := ⟨some 37, _, _, _, _, _⟩) (v := .pointer (some ⟨b, v + 1, none⟩)) rfl (by kernel_rfl) (by kernel_rfl) (by kernel_rfl) (fun _ _ _ h => h) (Or.inl ⟨by rfl, ?_⟩) (by assumption) ?_
              · intro w hSw; (try dsimp only at hSw); go_simp; intro hq; exact absurd (hq (by omega)) (by omega)
              simp only [Act.put, List.setIfInBounds_toArray, List.set_cons_zero, List.set_cons_succ]
              refine wpAnyH_take (i := 5) (oi := ⟨some 38, _, _, _, _, _⟩) (v := .slice (some ⟨g, 0, none⟩) P2 cg) rfl (by kernel_rfl) (by kernel_rfl) (by kernel_rfl) (fun _ _ _ h => h) (Or.inl ⟨by rfl, ?_⟩) (by assumption) ?_
              · intro w hSw; (try dsimp only at hSw); have q1 := (HG.out w hSw).1; go_simp
              simp only [Act.put, List.setIfInBounds_toArray, List.set_cons_zero, List.set_cons_succ]
              refine wpAnyH_take (i := 6) (oi := ⟨some 39, _, _, _, _, _⟩) (v := .int .i64 (i : Int)) rfl (by kernel_rfl) (by kernel_rfl) (by kernel_rfl) (fun _ _ _ h => h) (Or.inl ⟨by rfl, ?_⟩) (by assumption) ?_
              · intro w hSw; (try dsimp only at hSw); go_simp
              simp only [Act.put, List.setIfInBounds_toArray, List.set_cons_zero, List.set_cons_succ]
              refine wpAnyH_take (i := 7) (oi := ⟨some 40, _, _, _, _, _⟩) (v := .int .i64 (ka : Int)) rfl (by kernel_rfl) (by kernel_rfl) (by kernel_rfl) (fun _ _ _ h => h) (Or.inl ⟨by rfl, ?_⟩) (by assumption) ?_
              · intro w hSw; (try dsimp only at hSw); go_simp
              simp only [Act.put, List.setIfInBounds_toArray, List.set_cons_zero, List.set_cons_succ]
              refine wpAnyH_take (i := 8) (oi := ⟨some 41, _, _, _, _, _⟩) (v := .pointer (some ⟨g, ka * 32, none⟩)) rfl (by kernel_rfl) (by kernel_rfl) (by kernel_rfl) (fun _ _ _ h => h) (Or.inl ⟨by rfl, ?_⟩) (by assumption) ?_
              · intro w hSw; (try dsimp only at hSw); go_simp
              simp only [Act.put, List.setIfInBounds_toArray, List.set_cons_zero, List.set_cons_succ]
              refine wpAnyH_take (i := 9) (oi := ⟨some 42, _, _, _, _, _⟩) (v := .agg (Lib.byteCells (Tr.lvN l (v + 1) ka)).toArray) rfl (by kernel_rfl) (by kernel_rfl) (by kernel_rfl) (fun _ _ _ h => h) (yieldsIf_load_mid (by rfl) _ _ rfl _ _ rfl (Lib.byteCells (Tr.lvN l (v + 1) ka)) _ (fun w hS => (HG.out w hS).2 ka HK1.out) Tryz.underlying36 rfl (Sm.infoHash (Tr.size32 (Tr.lvN_length _ _ _)))) (by assumption) ?_
              simp only [Act.put, List.setIfInBounds_toArray, List.set_cons_zero, List.set_cons_succ]
              refine wpAnyH_take (i := 10) (oi := ⟨some 43, _, _, _, _, _⟩) (v := .slice (some ⟨b, 0, none⟩) 5 5) rfl (by kernel_rfl) (by kernel_rfl) (by kernel_rfl) (fun _ _ _ h => h) (Or.inl ⟨by rfl, ?_⟩) (by assumption) ?_
              · intro w hSw; (try dsimp only at hSw); go_simp
              simp only [Act.put, List.setIfInBounds_toArray, List.set_cons_zero, List.set_cons_succ]
              refine wpAnyH_take (i := 11) (oi := ⟨some 44, _, _, _, _, _⟩) (v := .int .i64 (v : Int)) rfl (by kernel_rfl) (by kernel_rfl) (by kernel_rfl) (fun _ _ _ h => h) (Or.inl ⟨by rfl, ?_⟩) (by assumption) ?_
              · intro w hSw; (try dsimp only at hSw); go_simp
              simp only [Act.put, List.setIfInBounds_toArray, List.set_cons_zero, List.set_cons_succ]
              refine wpAnyH_take (i := 12) (oi := ⟨some 45, _, _, _, _, _⟩) (v := .int .i64 ((v + 1 : Nat) : Int)) rfl (by kernel_rfl) (by kernel_rfl) (by kernel_rfl) (fun _ _ _ h => h) (Or.inl ⟨by rfl, ?_⟩) (by assumption) ?_
              · intro w hSw; (try dsimp only at hSw); go_simp
              simp only [Act.put, List.setIfInBounds_toArray, List.set_cons_zero, List.set_cons_succ]
              refine wpAnyH_take (i := 13) (oi := ⟨some 46, _, _, _, _, _⟩) (v := .pointer (some ⟨b, v + 1, none⟩)) rfl (by kernel_rfl) (by kernel_rfl) (by kernel_rfl) (fun _ _ _ h => h) (Or.inl ⟨by rfl, ?_⟩) (by assumption) ?_
              · intro w hSw; (try dsimp only at hSw); go_simp; intro hq; exact absurd (hq (by omega)) (by omega)
              simp only [Act.put, List.setIfInBounds_toArray, List.set_cons_zero, List.set_cons_succ]
              refine wpAnyH_take (i := 14) (oi := ⟨some 47, _, _, _, _, _⟩) (v := .slice (some ⟨g, 0, none⟩) P2 cg) rfl (by kernel_rfl) (by kernel_rfl) (by kernel_rfl) (fun _ _ _ h => h) (Or.inl ⟨by rfl, ?_⟩) (by assumption) ?_
              · intro w hSw; (try dsimp only at hSw); have q1 := (HG.out w hSw).1; go_simp
              simp only [Act.put, List.setIfInBounds_toArray, List.set_cons_zero, List.set_cons_succ]
              refine wpAnyH_take (i := 15) (oi := ⟨some 48, _, _, _, _, _⟩) (v := .int .i64 (i : Int)) rfl (by kernel_rfl) (by kernel_rfl) (by kernel_rfl) (fun _ _ _ h => h) (Or.inl ⟨by rfl, ?_⟩) (by assumption) ?_
              · intro w hSw; (try dsimp only at hSw); go_simp
              simp only [Act.put, List.setIfInBounds_toArray, List.set_cons_zero, List.set_cons_succ]
              refine wpAnyH_take (i := 16) (oi := ⟨some 49, _, _, _, _, _⟩) (v := .int .i64 (ka : Int)) rfl (by kernel_rfl) (by kernel_rfl) (by kernel_rfl) (fun _ _ _ h => h) (Or.inl ⟨by rfl, ?_⟩) (by assumption) ?_
              · intro w hSw; (try dsimp only at hSw); go_simp
              simp only [Act.put, List.setIfInBounds_toArray, List.set_cons_zero, List.set_cons_succ]
              refine wpAnyH_take (i := 17) (oi := ⟨some 50, _, _, _, _, _⟩) (v := .int .i64 ((ka + 1 : Nat) : Int)) rfl (by kernel_rfl) (by kernel_rfl) (by kernel_rfl) (fun _ _ _ h => h) (Or.inl ⟨by rfl, ?_⟩) (by assumption) ?_
              · intro w hSw; (try dsimp only at hSw); go_simp
              simp only [Act.put, List.setIfInBounds_toArray, List.set_cons_zero, List.set_cons_succ]
              refine wpAnyH_take (i := 18) (oi := ⟨some 51, _, _, _, _, _⟩) (v := .pointer (some ⟨g, (ka + 1) * 32, none⟩)) rfl (by kernel_rfl) (by kernel_rfl) (by kernel_rfl) (fun _ _ _ h => h) (Or.inl ⟨by rfl, ?_⟩) (by assumption) ?_
              · intro w hSw; (try dsimp only at hSw); go_simp; intro hq; exact absurd (hq (by omega)) (by omega)
              simp only [Act.put, List.setIfInBounds_toArray, List.set_cons_zero, List.set_cons_succ]
              refine wpAnyH_take (i := 19) (oi := ⟨some 52, _, _, _, _, _⟩) (v := .agg (Lib.byteCells (Tr.lvN l (v + 1) (ka + 1))).toArray) rfl (by kernel_rfl) (by kernel_rfl) (by kernel_rfl) (fun _ _ _ h => h) (yieldsIf_load_mid (by rfl) _ _ rfl _ _ rfl (Lib.byteCells (Tr.lvN l (v + 1) (ka + 1))) _ (fun w hS => (HG.out w hS).2 (ka + 1) HK2.out) Tryz.underlying36 rfl (Sm.infoHash (Tr.size32 (Tr.lvN_length _ _ _)))) (by assumption) ?_
              simp only [Act.put, List.setIfInBounds_toArray, List.set_cons_zero, List.set_cons_succ]
              refine wpAnyH_ready (rs := [20]) (by kernel_rfl) (by simp) ?_
              refine (AllReadyH.cons (o := ⟨some 53, _, _, _, _, _⟩) rfl (fun K hK => ?_) AllReadyH.nil)
              go_simp
              refine ((IT.out wz (v + 1) ka (ka + 1))).mono ?_
              rintro e wa ⟨rfl, kk⟩
              have LA := Lib.hid (LZ.out.step kk)
              have BA : Hid (Below N w wa) := BZ.out.trans (kk.mono BZM.out)
              have RA := Lib.hid (RZ.out.low kk)
              have hlen : N ≤ wa.heap.size := Nat.le_trans BZM.out kk.size
              have HNA := Lib.hid hlen
              clear kk hlen LZ BZ RZ
              refine hK.out _ _ LA.out (fun hHeld => ?_)
              clear hK K
              refine wpAnyH_ready (rs := [21]) (by kernel_rfl) (by simp) ?_
              refine (AllReadyH.cons (o := ⟨some 54, _, _, _, _, _⟩) rfl (fun K hK => ?_) AllReadyH.nil)
              rw [HIN.out]
              go_simp
              have kk : Below wa.heap.size wa (wa.alloc (.cells #[.string x] 9)) := (Below.refl _ wa).alloc (Nat.le_refl _) _
              have GN := Lib.hid (heap_alloc_new wa (.cells #[.string x] 9))
              have LD := Lib.hid (LA.out.step kk)
              have BD : Hid (Below N w (wa.alloc (.cells #[.string x] 9))) := BA.out.trans (kk.mono HNA.out)
              have RD := Lib.hid (RA.out.low kk)
              have HND : Hid (N ≤ (wa.alloc (.cells #[.string x] 9)).heap.size) := Nat.le_trans HNA.out kk.size
              clear kk LA BA RA
              generalize wa.alloc (.cells #[.string x] 9) = wd at *
              generalize wa.heap.size = M at *
              refine hK.out _ _ LD.out (fun hHeld => ?_)
              clear hK K
              refine wpAnyH_ready (rs := [22]) (by kernel_rfl) (by simp) ?_
              refine (AllReadyH.cons (o := ⟨some 55, _, _, _, _, _⟩) rfl (fun K hK => ?_) AllReadyH.nil)
              rw [if_pos (by simp [Region.wanted])]
              refine Om.wp_text0 (.tmp 33) (.tmp 54) rfl rfl RD.out x rfl GN.out (by have := HML.out; omega) HND.out ?_
              intro A7 c7 w7 hr7 hg7
              have L7 := Lib.hid (LD.out.turned hg7 (fun p hp => by obtain ⟨c0, h0⟩ := (RD.out.blk hp).2; exact ⟨c0, _, h0, by decide, by decide⟩))
              have B7 : Hid (Below N w w7) := BD.out.grown hg7 HND.out (fun p hp => (RD.out.blk hp).1)
              have R7 := Lib.hid hr7
              clear hr7 hg7 LD BD RD
              refine hK.out _ _ L7.out (fun hHeld => ?_)
              clear hK K
              try simp only [Act.put, List.setIfInBounds_toArray, List.set_cons_zero, List.set_cons_succ]
              refine wpAnyH_take (i := 23) (oi := ⟨some 3, _, _, _, _, _⟩) (v := .slice A7 (t.length + 1) c7) rfl (by kernel_rfl) (by kernel_rfl) (by kernel_rfl) (fun _ _ _ h => h) (Or.inl ⟨by rfl, ?_⟩) (by assumption) ?_
              · intro w hSw; (try dsimp only at hSw); go_simp
              simp only [Act.put, List.setIfInBounds_toArray, List.set_cons_zero, List.set_cons_succ]
              refine wpAnyH_done (by kernel_rfl) ?_ _
              have hsl : t.length + 1 = (t ++ [x]).length := by simp
              go_wp2
              go_roundw
              case rel => exact ⟨i + 1, A7, c7, t ++ [x], rfl, HLT.out, by rw [← hsl], HST.out.symm, R7.out, L7.out, B7.out⟩
              case measure => simp only [intOf]; have := HLT.out; omega
            · have hii : ¬ (i : Int) < (P : Int) := by omega
              obtain rfl : i = P := by omega
              have hsubL := HSL.out
              go_wp2
              go_roundw
              case rel => exact ⟨v, B, q, t, rfl, Nat.le_of_lt HV4.out, rfl, by show _ = _; rw [hm.out, ← HPE.out]; congr 1; have := HP8.out; omega, HRW.out, LV.out, HB.out⟩
              case measure => simp only [intOf]; omega
end Go.Proofs.YtiehcplepneajaaGreatDoor

/-
  Has a tree the document's nodes of its pairs? It has.
-/
namespace Go.Proofs.YtiehcplepneajaaGreatDoor
open Go.RowKit
set_option maxRecDepth 100000 in
set_option maxHeartbeats 8000000 in
theorem stands15_any {w w0 : World} (G : Tr.Gd w) {r : Nat} {l : List Om.Pr} (hO : Tr.Ow w w0 r l) {A : Option Addr} (c : Nat) (hit : Om.listAt w0 A l) :
    Calls Tryz.prog 48 #[.pointer (some ⟨r, 0, none⟩), .slice A l.length c] w0 fun e w' => e = .returned (.bool true) ∧ Below w0.heap.size w0 w' := by
  obtain ⟨N, hN⟩ : ∃ N, N = w0.heap.size := ⟨_, rfl⟩
  have hf := hO.fit
  have HIT : Hid (∀ wx : World, Below N w0 wx → Om.listAt wx A l) := fun wx hb => hit.below (hN ▸ hb)
  have OW : Hid (∀ wx : World, Below N w0 wx → Tr.Ow w wx r l) := fun wx hb => hO.step (hN ▸ hb)
  have LE : Hid (Calls Tryz.prog 56 #[.slice A l.length c] w0 fun e w' => ∃ b cs, e = .returned (.slice (some ⟨b, 0, none⟩) 5 5) ∧ Tr.LevC w' w0.heap.size b cs l 0 ∧ Below w0.heap.size w0 w') := r15Levels_any c hit hf
  have ND : Hid (∀ (wx : World) (v i : Nat), Below N w0 wx → v ≤ 4 → i < 2 ^ v → Calls Tryz.prog 37 #[.pointer (some ⟨r, 0, none⟩), .int .i64 (v : Int), .int .i64 (i : Int)] wx fun e w' => e = .returned (.tuple #[.agg (Lib.byteCells (Tr.lvN l v i)).toArray, .bool true]) ∧ Below wx.heap.size wx w') := fun wx v i hb hv hi => (OW.out wx hb).nodeC hv hi
  have RT : Hid (∀ wx : World, Below N w0 wx → Calls Tryz.prog 18 #[.pointer (some ⟨r, 0, none⟩)] wx fun e w' => e = .returned (Tr.hv (Tr.lvN l 0 0)) ∧ Below wx.heap.size wx w') := fun wx hb => (OW.out wx hb).rootC
  have PA : Hid (∀ (wx : World) (i : Nat), Below N w0 wx → i < 16 → Calls Tryz.prog 60 #[.pointer (some ⟨r, 0, none⟩), .int .i64 (i : Int)] wx fun e w' => ∃ B q, e = .returned (.slice B (Bu.part l i).length q) ∧ Om.Row w' wx.heap.size B q (Bu.part l i) ∧ Below wx.heap.size wx w') := fun wx i hb hi => (OW.out wx hb).pairsC hi
  have RP : Hid (∀ (wx : World) (i : Nat), Below N w0 wx → Calls Tryz.prog 69 #[.slice A l.length c, .int .i64 (i : Int)] wx fun e w' => ∃ B q, e = .returned (.slice B (Bu.part l i).length q) ∧ Om.Row w' wx.heap.size B q (Bu.part l i) ∧ Below wx.heap.size wx w') := fun wx i hb => r14Part_any c (HIT.out wx hb) (by have := hf.len; omega) (fun x hx => by have := Tr.fair_small hf hx; omega) _
  have ALL : Hid (∀ wx : World, Below N w0 wx → Calls Tryz.prog 36 #[.pointer (some ⟨r, 0, none⟩)] wx fun e w' => ∃ A c, e = .returned (.slice A l.length c) ∧ Om.listAt w' A l ∧ Below wx.heap.size wx w') := fun wx hb => (OW.out wx hb).allC
  have TX : Hid (∀ wx : World, Below N w0 wx → Calls Tryz.prog 51 #[.pointer (some ⟨r, 0, none⟩)] wx fun e w' => ∃ B q, e = .returned (.slice B 31 q) ∧ Om.SRow w' wx.heap.size B q (Tr.txl l) ∧ Below wx.heap.size wx w') := fun wx hb => (OW.out wx hb).textsC G
  have RTX : Hid (∀ wx : World, Below N w0 wx → Calls Tryz.prog 57 #[.slice A l.length c] wx fun e w' => ∃ B q, e = .returned (.slice B 31 q) ∧ Om.SRow w' wx.heap.size B q (Tr.txl l) ∧ Below wx.heap.size wx w') := fun wx hb => r15Texts_any c (HIT.out wx hb) hf
  have SAP : Hid (∀ (wx : World) (i : Nat) (A C : Option Addr) (c d : Nat), Om.listAt wx A (Bu.part l i) → Om.listAt wx C (Bu.part l i) → Calls Tryz.prog 25 #[.slice A (Bu.part l i).length c, .slice C (Bu.part l i).length d] wx fun e w' => e = .returned (.bool true) ∧ Below wx.heap.size wx w') := fun wx i A C c d h1 h2 => r13Same_any c d h1 h2 (by have := Bu.part_length l i; have := hf.len; omega) true (by simp)
  have SAM : Hid (∀ (wx : World) (A C : Option Addr) (c d : Nat), Om.listAt wx A l → Om.listAt wx C l → Calls Tryz.prog 25 #[.slice A l.length c, .slice C l.length d] wx fun e w' => e = .returned (.bool true) ∧ Below wx.heap.size wx w') := fun wx A C c d h1 h2 => r13Same_any c d h1 h2 (by have := hf.len; omega) true (by simp)
  have SMT : Hid (∀ (wx : World) (A C : Option Addr) (c d : Nat), Om.txtsAt wx A (Tr.txl l) → Om.txtsAt wx C (Tr.txl l) → Calls Tryz.prog 27 #[.slice A 31 c, .slice C 31 d] wx fun e w' => e = .returned (.bool true) ∧ Below wx.heap.size wx w') := fun wx A C c d h1 h2 => by
    have := sameTexts_any c d h1 h2 (by rw [Tr.txl_length]; decide) true (by simp)
    rw [Tr.txl_length] at this
    exact this
  have HNW := Lib.hid hN
  clear hf hit hO G OW hN
  go_enter Tryz.func48, Tryz.ntmps48
  go_upto_region 2 with (go_at_call 56; refine LE.out.mono ?_; rintro e w5 ⟨b, cs, rfl, l5, k5⟩)
  rw [← HNW.out] at l5 k5
  have L5 := Lib.hid l5
  have B5 := Lib.hid k5
  clear l5 k5 LE
  go_wp2
  go_loopw [6] (fun s6 wr => ∃ v : Nat, s6 = .int .i64 v ∧ v ≤ 5 ∧ Tr.LevC wr N b cs l 0 ∧ Below N w0 wr) (fun s6 _ => 5 - (intOf s6).toNat)
  case atStart => exact ⟨0, rfl, by omega, L5.out, B5.out⟩
  case round =>
    clear L5 B5
    obtain ⟨v, rfl, hv, hl, hb⟩ := hrel
    have LV := Lib.hid hl
    have HB := Lib.hid hb
    clear hl hb
    by_cases h4 : v ≤ 4
    · have h4i : (v : Int) ≤ 4 := by omega
      have hv5 : (v : Int) < 5 := by omega
      have H4 := Lib.hid h4
      have hsucV : IntKind.i64.wrap ((v : Int) + 1) = ((v + 1 : Nat) : Int) := by simp [IntKind.wrap, IntKind.bits, IntKind.signed]; omega
      have HSV := Lib.hid hsucV
      obtain ⟨g, cg, hg⟩ := LV.out.told (Nat.zero_le v) (show v < 5 by omega)
      obtain ⟨P, hP⟩ : ∃ P, P = 2 ^ v := ⟨_, rfl⟩
      have hp16 : P ≤ 16 := by
        rw [hP]
        obtain rfl | rfl | rfl | rfl | rfl : v = 0 ∨ v = 1 ∨ v = 2 ∨ v = 3 ∨ v = 4 := by omega
        all_goals decide
      have HP16 := Lib.hid hp16
      have HPE := Lib.hid hP
      rw [← hP] at hg
      have HG := Lib.hid hg
      clear hg hP hsucV
      go_wp2
      go_loopw [7] (fun s7 wr => ∃ i : Nat, s7 = .int .i64 i ∧ i ≤ P ∧ Tr.LevC wr N b cs l 0 ∧ Below N w0 wr) (fun s7 _ => P - (intOf s7).toNat)
      case atStart => exact ⟨0, rfl, by omega, LV.out, HB.out⟩
      case round =>
        clear LV HB
        obtain ⟨i, rfl, hi, hl, hb⟩ := hrel
        have hcell := (HG.out _ hl).1
        have L7 := Lib.hid hl
        have B7 := Lib.hid hb
        clear hl hb
        by_cases hlt : i < P
        · have hii : (i : Int) < (P : Int) := by omega
          have HLT := Lib.hid hlt
          have hsuc : IntKind.i64.wrap ((i : Int) + 1) = ((i + 1 : Nat) : Int) := by have := HP16.out; simp [IntKind.wrap, IntKind.bits, IntKind.signed]; omega
          obtain ⟨x, hx⟩ : ∃ x, x = Tr.lvN l v i := ⟨_, rfl⟩
          have HLX : Hid (x.length = 32) := by show _ = _; rw [hx]; exact Tr.lvN_length _ _ _
          have HXX : Hid ((!(x == x)) = false) := by show _ = _; simp
          have HX : Hid (∀ wx, Tr.LevC wx N b cs l 0 → wx.rangeAt g (i * 32) (Lib.byteCells x)) := fun wx h => by rw [hx]; exact (HG.out wx h).2 i hlt
          have N1 := Lib.hid (ND.out _ v i B7.out H4.out (by rw [← HPE.out]; exact hlt))
          rw [← hx] at N1
          obtain ⟨c1, hc1⟩ : ∃ c, c = (Lib.byteCells x).toArray := ⟨_, rfl⟩
          have hzc1 : c1.size = 32 := by rw [hc1]; exact Tr.size32 HLX.out
          have HZc1 := Lib.hid hzc1
          have HOc1 : Hid (c1.all (·.oneCell') = true) := by show _ = _; rw [hc1]; exact Sm.bytes_one _
          have HCc1 := Lib.hid hc1
          rw [← hc1] at N1
          clear hx hc1 hlt
          go_wp2_with fail
          refine N1.out.mono ?_
          rintro e w8 ⟨rfl, k8⟩
          have L8 := Lib.hid (L7.out.step k8)
          have B8 : Hid (Below N w0 w8) := B7.out.trans (k8.mono (by rw [HNW.out]; exact B7.out.size))
          have hst : ∀ (c : Array Value), c.size = 32 → (storeCells ⟨w8.heap.size, 0, none⟩ c1.toList).run Tryz.prog (w8.alloc (.cells c 36)) = .ok () (w8.alloc (.cells c1 36)) := fun c hc =>
            run_storeCells_new (P := Tryz.prog) w8 36 c c1 (Sm.infoHash HZc1.out) (by rw [HZc1.out]; exact hc) HOc1.out
          have kk : Below w8.heap.size w8 (w8.alloc (.cells c1 36)) := (Below.refl _ w8).alloc (Nat.le_refl _) _
          have H9 := Lib.hid (heap_alloc_new w8 (.cells c1 36))
          have L9 := Lib.hid (L8.out.step kk)
          have B9 : Hid (Below N w0 (w8.alloc (.cells c1 36))) := B8.out.trans (kk.mono (by rw [HNW.out]; exact B8.out.size))
          clear k8 kk L8 B8 L7 B7 N1 hcell
          go_upto_region 9 with (fail)
          clear hst
          generalize w8.alloc (.cells c1 36) = w9 at *
          generalize w8.heap.size = M at *
          rw [HCc1.out] at H9
          have L10 := Lib.hid (L9.out.step (Below.refl _ _).drew)
          have B10 : Hid (Below N w0 w9.drew) := B9.out.drew
          refine wp_region_held_drew (S := fun w' => w'.rangeAt M 0 (Lib.byteCells x) ∧ Tr.LevC w' N b cs l 0) (by kernel_rfl) ⟨Sm.range_row H9.out, L9.out.step (Below.refl _ _).drew⟩ (fun hHeld => ?_)
          refine wpAnyH_take (i := 0) (oi := ⟨some 33, _, _, _, _, _⟩) (v := .bool true) rfl (by kernel_rfl) (by kernel_rfl) (by kernel_rfl) (fun _ _ _ h => h) (Or.inl ⟨by rfl, ?_⟩) (by assumption) ?_
          · intro w hSw; (try dsimp only at hSw); go_simp
          simp only [Act.put, List.setIfInBounds_toArray, List.set_cons_zero, List.set_cons_succ]
          refine wpAnyH_take (i := 1) (oi := ⟨some 34, _, _, _, _, _⟩) (v := .bool false) rfl (by kernel_rfl) (by kernel_rfl) (by kernel_rfl) (fun _ _ _ h => h) (Or.inl ⟨by rfl, ?_⟩) (by assumption) ?_
          · intro w hSw; (try dsimp only at hSw); go_simp
          simp only [Act.put, List.setIfInBounds_toArray, List.set_cons_zero, List.set_cons_succ]
          refine wpAnyH_take (i := 2) (oi := ⟨some 35, _, _, _, _, _⟩) (v := .bool false) rfl (by kernel_rfl) (by kernel_rfl) (by kernel_rfl) (fun _ _ _ h => h) (Or.inl ⟨by rfl, ?_⟩) (by assumption) ?_
          · intro w hSw; (try dsimp only at hSw); go_simp
          simp only [Act.put, List.setIfInBounds_toArray, List.set_cons_zero, List.set_cons_succ]
          refine wpAnyH_take (i := 3) (oi := ⟨some 36, _, _, _, _, _⟩) (v := .agg (Lib.byteCells x).toArray) rfl (by kernel_rfl) (by kernel_rfl) (by kernel_rfl) (fun _ _ _ h => h) (yieldsIf_load_mid (by rfl) _ _ rfl _ _ rfl (Lib.byteCells x) _ (fun w hS => hS.1) Tryz.underlying36 rfl (Sm.infoHash (Tr.size32 HLX.out))) (by assumption) ?_
          simp only [Act.put, List.setIfInBounds_toArray, List.set_cons_zero, List.set_cons_succ]
          refine wpAnyH_take (i := 4) (oi := ⟨some 37, _, _, _, _, _⟩) (v := .slice (some ⟨b, 0, none⟩) 5 5) rfl (by kernel_rfl) (by kernel_rfl) (by kernel_rfl) (fun _ _ _ h => h) (Or.inl ⟨by rfl, ?_⟩) (by assumption) ?_
          · intro w hSw; (try dsimp only at hSw); go_simp
          simp only [Act.put, List.setIfInBounds_toArray, List.set_cons_zero, List.set_cons_succ]
          refine wpAnyH_take (i := 5) (oi := ⟨some 38, _, _, _, _, _⟩) (v := .int .i64 (v : Int)) rfl (by kernel_rfl) (by kernel_rfl) (by kernel_rfl) (fun _ _ _ h => h) (Or.inl ⟨by rfl, ?_⟩) (by assumption) ?_
          · intro w hSw; (try dsimp only at hSw); go_simp
          simp only [Act.put, List.setIfInBounds_toArray, List.set_cons_zero, List.set_cons_succ]
          refine wpAnyH_take (i := 6) (oi := ⟨some 39, _, _, _, _, _⟩) (v := .pointer (some ⟨b, v, none⟩)) rfl (by kernel_rfl) (by kernel_rfl) (by kernel_rfl) (fun _ _ _ h => h) (Or.inl ⟨by rfl, ?_⟩) (by assumption) ?_
          · intro w hSw; (try dsimp only at hSw); go_simp
          simp only [Act.put, List.setIfInBounds_toArray, List.set_cons_zero, List.set_cons_succ]
          refine wpAnyH_take (i := 7) (oi := ⟨some 40, _, _, _, _, _⟩) (v := .slice (some ⟨g, 0, none⟩) P cg) rfl (by kernel_rfl) (by kernel_rfl) (by kernel_rfl) (fun _ _ _ h => h) (Or.inl ⟨by rfl, ?_⟩) (by assumption) ?_
          · intro w hSw; (try dsimp only at hSw); have q1 := (HG.out w hSw.2).1; go_simp
          simp only [Act.put, List.setIfInBounds_toArray, List.set_cons_zero, List.set_cons_succ]
          refine wpAnyH_take (i := 8) (oi := ⟨some 41, _, _, _, _, _⟩) (v := .int .i64 (i : Int)) rfl (by kernel_rfl) (by kernel_rfl) (by kernel_rfl) (fun _ _ _ h => h) (Or.inl ⟨by rfl, ?_⟩) (by assumption) ?_
          · intro w hSw; (try dsimp only at hSw); go_simp
          simp only [Act.put, List.setIfInBounds_toArray, List.set_cons_zero, List.set_cons_succ]
          refine wpAnyH_take (i := 9) (oi := ⟨some 42, _, _, _, _, _⟩) (v := .pointer (some ⟨g, i * 32, none⟩)) rfl (by kernel_rfl) (by kernel_rfl) (by kernel_rfl) (fun _ _ _ h => h) (Or.inl ⟨by rfl, ?_⟩) (by assumption) ?_
          · intro w hSw; (try dsimp only at hSw); go_simp
          simp only [Act.put, List.setIfInBounds_toArray, List.set_cons_zero, List.set_cons_succ]
          refine wpAnyH_take (i := 10) (oi := ⟨some 43, _, _, _, _, _⟩) (v := .agg (Lib.byteCells x).toArray) rfl (by kernel_rfl) (by kernel_rfl) (by kernel_rfl) (fun _ _ _ h => h) (yieldsIf_load_mid (by rfl) _ _ rfl _ _ rfl (Lib.byteCells x) _ (fun w hS => (HX.out w hS.2)) Tryz.underlying36 rfl (Sm.infoHash (Tr.size32 HLX.out))) (by assumption) ?_
          simp only [Act.put, List.setIfInBounds_toArray, List.set_cons_zero, List.set_cons_succ]
          refine wpAnyH_take (i := 11) (oi := ⟨some 44, _, _, _, _, _⟩) (v := .bool (!(x == x))) rfl (by kernel_rfl) (by kernel_rfl) (by kernel_rfl) (fun _ _ _ h => h) (Tr.yields_hne (by rfl) _ _ _ rfl x x HLX.out HLX.out rfl rfl) (by assumption) ?_
          simp only [Act.put, List.setIfInBounds_toArray, List.set_cons_zero, List.set_cons_succ]
          rw [HXX.out]
          refine wpAnyH_take (i := 12) (oi := ⟨some 45, _, _, _, _, _⟩) (v := .bool false) rfl (by kernel_rfl) (by kernel_rfl) (by kernel_rfl) (fun _ _ _ h => h) (Or.inl ⟨by rfl, ?_⟩) (by assumption) ?_
          · intro w hSw; (try dsimp only at hSw); go_simp
          simp only [Act.put, List.setIfInBounds_toArray, List.set_cons_zero, List.set_cons_succ]
          refine wpAnyH_done (by kernel_rfl) ?_ _
          go_wp2
          go_roundw
          case rel => exact ⟨i + 1, rfl, HLT.out, L10.out, B10.out⟩
          case measure => simp only [intOf]; have := HLT.out; omega
        · have hii : ¬ (i : Int) < (P : Int) := by omega
          have hsucV := HSV.out
          go_wp2
          go_roundw
          case rel => exact ⟨v + 1, rfl, by have := H4.out; omega, L7.out, B7.out⟩
          case measure => simp only [intOf]; have := H4.out; omega
    · have h4i : ¬ (v : Int) ≤ 4 := by omega
      clear hv h4
      go_wp2
      go_loopw [10] (fun s10 wr => ∃ i : Nat, s10 = .int .i64 i ∧ i ≤ 16 ∧ Tr.LevC wr N b cs l 0 ∧ Below N w0 wr) (fun s10 _ => 16 - (intOf s10).toNat)
      case atStart => exact ⟨0, rfl, by omega, LV.out, HB.out⟩
      case round =>
        clear LV HB
        obtain ⟨i, rfl, hi, hl, hb⟩ := hrel
        have LV := Lib.hid hl
        have HB := Lib.hid hb
        clear hl hb
        by_cases hlt : i < 16
        · have hii : (i : Int) < 16 := by omega
          have HLT := Lib.hid hlt
          have hsuc : IntKind.i64.wrap ((i : Int) + 1) = ((i + 1 : Nat) : Int) := by simp [IntKind.wrap, IntKind.bits, IntKind.signed]; omega
          have P1 := Lib.hid (PA.out _ i HB.out hlt)
          have P2 := Lib.hid (fun wx hb => RP.out wx i hb)
          have P3 := Lib.hid (fun wx => SAP.out wx i)
          generalize Bu.part l (i : Int) = m at *
          clear hlt hi
          go_wp2_with first
            | (go_at_call 60; refine P1.out.mono ?_; rintro e w2 ⟨B2, q2, rfl, r2, kk⟩; have L2 := Lib.hid (LV.out.step kk); have B2' : Hid (Below N w0 w2) := HB.out.trans (kk.mono (by rw [HNW.out]; exact HB.out.size)); have R2 := Lib.hid r2.listAt; clear kk r2)
            | (go_at_call 69; refine (P2.out _ B2'.out).mono ?_; rintro e w3 ⟨B3, q3, rfl, r3, kk⟩; have L3 := Lib.hid (L2.out.step kk); have B3' : Hid (Below N w0 w3) := B2'.out.trans (kk.mono (by rw [HNW.out]; exact B2'.out.size)); have R3 := Lib.hid r3.listAt; have Q3 := Lib.hid (R2.out.below kk); clear kk r3)
            | (go_at_call 25; refine (P3.out _ _ _ _ _ Q3.out R3.out).mono ?_; rintro e w4 ⟨rfl, kk⟩; have L4 := Lib.hid (L3.out.step kk); have B4 : Hid (Below N w0 w4) := B3'.out.trans (kk.mono (by rw [HNW.out]; exact B3'.out.size)); clear kk)
          go_roundw
          case rel => exact ⟨i + 1, rfl, HLT.out, L4.out, B4.out⟩
          case measure => simp only [intOf]; have := HLT.out; omega
        · have hii : ¬ (i : Int) < 16 := by omega
          obtain ⟨g, cg, hg⟩ := LV.out.told (Nat.le_refl 0) (show 0 < 5 by omega)
          have HG : Hid (∀ wx, Tr.LevC wx N b cs l 0 → wx.cell? ⟨b, 0, none⟩ = some (.slice (some ⟨g, 0, none⟩) 1 cg) ∧ True) := fun wx h => ⟨(hg wx h).1, trivial⟩
          obtain ⟨x, hx⟩ : ∃ x, x = Tr.lvN l 0 0 := ⟨_, rfl⟩
          have HLX : Hid (x.length = 32) := by show _ = _; rw [hx]; exact Tr.lvN_length _ _ _
          have HXE : Hid ((x == x) = true) := by show _ = _; simp
          have HX : Hid (∀ wx, Tr.LevC wx N b cs l 0 → wx.rangeAt g 0 (Lib.byteCells x)) := fun wx h => by rw [hx]; exact (hg wx h).2 0 (by decide)
          rw [← hx] at RT
          clear hg hx hi
          go_upto_region 16 with (fail)
          refine wp_region_held_drew (S := fun w' => Tr.LevC w' N b cs l 0) (by kernel_rfl) (LV.out.step (Below.refl _ _).drew) (fun hHeld => ?_)
          obtain ⟨wz, hwz⟩ : ∃ W, W = wr.drew := ⟨_, rfl⟩
          have LZ : Hid (Tr.LevC wz N b cs l 0) := by rw [hwz]; exact LV.out.step (Below.refl _ _).drew
          have BZ : Hid (Below N w0 wz) := by rw [hwz]; exact HB.out.trans ((Below.refl _ _).drew)
          rw [← hwz] at hHeld ⊢
          clear hwz HB LV
          refine wpAnyH_take (i := 0) (oi := ⟨some 58, _, _, _, _, _⟩) (v := .pointer (some ⟨r, 0, none⟩)) rfl (by kernel_rfl) (by kernel_rfl) (by kernel_rfl) (fun _ _ _ h => h) (Or.inl ⟨by rfl, ?_⟩) (by assumption) ?_
          · intro w hSw; (try dsimp only at hSw); go_simp
          simp only [Act.put, List.setIfInBounds_toArray, List.set_cons_zero, List.set_cons_succ]
          refine wpAnyH_take (i := 2) (oi := ⟨some 60, _, _, _, _, _⟩) (v := .slice (some ⟨b, 0, none⟩) 5 5) rfl (by kernel_rfl) (by kernel_rfl) (by kernel_rfl) (fun _ _ _ h => h) (Or.inl ⟨by rfl, ?_⟩) (by assumption) ?_
          · intro w hSw; (try dsimp only at hSw); go_simp
          simp only [Act.put, List.setIfInBounds_toArray, List.set_cons_zero, List.set_cons_succ]
          refine wpAnyH_take (i := 3) (oi := ⟨some 61, _, _, _, _, _⟩) (v := .pointer (some ⟨b, 0, none⟩)) rfl (by kernel_rfl) (by kernel_rfl) (by kernel_rfl) (fun _ _ _ h => h) (Or.inl ⟨by rfl, ?_⟩) (by assumption) ?_
          · intro w hSw; (try dsimp only at hSw); go_simp
          simp only [Act.put, List.setIfInBounds_toArray, List.set_cons_zero, List.set_cons_succ]
          refine wpAnyH_take (i := 4) (oi := ⟨some 62, _, _, _, _, _⟩) (v := .slice (some ⟨g, 0, none⟩) 1 cg) rfl (by kernel_rfl) (by kernel_rfl) (by kernel_rfl) (fun _ _ _ h => h) (Or.inl ⟨by rfl, ?_⟩) (by assumption) ?_
          · intro w hSw; (try dsimp only at hSw); have q1 := (HG.out w hSw).1; go_simp
          simp only [Act.put, List.setIfInBounds_toArray, List.set_cons_zero, List.set_cons_succ]
          refine wpAnyH_take (i := 5) (oi := ⟨some 63, _, _, _, _, _⟩) (v := .pointer (some ⟨g, 0, none⟩)) rfl (by kernel_rfl) (by kernel_rfl) (by kernel_rfl) (fun _ _ _ h => h) (Or.inl ⟨by rfl, ?_⟩) (by assumption) ?_
          · intro w hSw; (try dsimp only at hSw); go_simp
          simp only [Act.put, List.setIfInBounds_toArray, List.set_cons_zero, List.set_cons_succ]
          refine wpAnyH_take (i := 6) (oi := ⟨some 64, _, _, _, _, _⟩) (v := .agg (Lib.byteCells x).toArray) rfl (by kernel_rfl) (by kernel_rfl) (by kernel_rfl) (fun _ _ _ h => h) (yieldsIf_load_mid (by rfl) _ _ rfl _ _ rfl (Lib.byteCells x) _ (fun w hS => (HX.out w hS)) Tryz.underlying36 rfl (Sm.infoHash (Tr.size32 HLX.out))) (by assumption) ?_
          simp only [Act.put, List.setIfInBounds_toArray, List.set_cons_zero, List.set_cons_succ]
          refine wpAnyH_ready (rs := [1]) (by kernel_rfl) (by simp) ?_
          refine (AllReadyH.cons (o := ⟨some 59, _, _, _, _, _⟩) rfl (fun K hK => ?_) AllReadyH.nil)
          go_simp
          refine ((RT.out _ BZ.out)).mono ?_
          rintro e wA ⟨rfl, kk⟩
          have LA := Lib.hid (LZ.out.step kk)
          have BA : Hid (Below N w0 wA) := BZ.out.trans (kk.mono (by rw [HNW.out]; exact BZ.out.size))
          clear kk LZ BZ
          refine hK.out _ _ LA.out (fun hHeld => ?_)
          clear hK K
          refine wpAnyH_take (i := 7) (oi := ⟨some 65, _, _, _, _, _⟩) (v := .bool (x == x)) rfl (by kernel_rfl) (by kernel_rfl) (by kernel_rfl) (fun _ _ _ h => h) (Tr.yields_heq (by rfl) _ _ _ rfl x x HLX.out HLX.out rfl rfl) (by assumption) ?_
          simp only [Act.put, List.setIfInBounds_toArray, List.set_cons_zero, List.set_cons_succ]
          rw [HXE.out]
          refine wpAnyH_take (i := 8) (oi := ⟨some 66, _, _, _, _, _⟩) (v := .bool true) rfl (by kernel_rfl) (by kernel_rfl) (by kernel_rfl) (fun _ _ _ h => h) (Or.inl ⟨by rfl, ?_⟩) (by assumption) ?_
          · intro w hSw; (try dsimp only at hSw); go_simp
          simp only [Act.put, List.setIfInBounds_toArray, List.set_cons_zero, List.set_cons_succ]
          refine wpAnyH_take (i := 9) (oi := ⟨some 67, _, _, _, _, _⟩) (v := .pointer (some ⟨r, 0, none⟩)) rfl (by kernel_rfl) (by kernel_rfl) (by kernel_rfl) (fun _ _ _ h => h) (Or.inl ⟨by rfl, ?_⟩) (by assumption) ?_
          · intro w hSw; (try dsimp only at hSw); go_simp
          simp only [Act.put, List.setIfInBounds_toArray, List.set_cons_zero, List.set_cons_succ]
          refine wpAnyH_take (i := 11) (oi := ⟨some 69, _, _, _, _, _⟩) (v := .slice A l.length c) rfl (by kernel_rfl) (by kernel_rfl) (by kernel_rfl) (fun _ _ _ h => h) (Or.inl ⟨by rfl, ?_⟩) (by assumption) ?_
          · intro w hSw; (try dsimp only at hSw); go_simp
          simp only [Act.put, List.setIfInBounds_toArray, List.set_cons_zero, List.set_cons_succ]
          refine wpAnyH_ready (rs := [10]) (by kernel_rfl) (by simp) ?_
          refine (AllReadyH.cons (o := ⟨some 68, _, _, _, _, _⟩) rfl (fun K hK => ?_) AllReadyH.nil)
          go_simp
          refine ((ALL.out _ BA.out)).mono ?_
          rintro e wB ⟨A2, c2, rfl, l2, kk⟩
          have LB := Lib.hid (LA.out.step kk)
          have BB : Hid (Below N w0 wB) := BA.out.trans (kk.mono (by rw [HNW.out]; exact BA.out.size))
          have Q2 := Lib.hid l2
          clear l2
          clear kk LA BA
          refine hK.out _ _ LB.out (fun hHeld => ?_)
          clear hK K
          refine wpAnyH_ready (rs := [12]) (by kernel_rfl) (by simp) ?_
          refine (AllReadyH.cons (o := ⟨some 70, _, _, _, _, _⟩) rfl (fun K hK => ?_) AllReadyH.nil)
          go_simp
          refine ((SAM.out _ _ _ _ _ Q2.out (HIT.out _ BB.out))).mono ?_
          rintro e wC ⟨rfl, kk⟩
          have LC := Lib.hid (LB.out.step kk)
          have BC : Hid (Below N w0 wC) := BB.out.trans (kk.mono (by rw [HNW.out]; exact BB.out.size))
          clear kk LB BB
          refine hK.out _ _ LC.out (fun hHeld => ?_)
          clear hK K
          refine wpAnyH_take (i := 13) (oi := ⟨some 71, _, _, _, _, _⟩) (v := .bool true) rfl (by kernel_rfl) (by kernel_rfl) (by kernel_rfl) (fun _ _ _ h => h) (Or.inl ⟨by rfl, ?_⟩) (by assumption) ?_
          · intro w hSw; (try dsimp only at hSw); go_simp
          simp only [Act.put, List.setIfInBounds_toArray, List.set_cons_zero, List.set_cons_succ]
          refine wpAnyH_take (i := 14) (oi := ⟨some 72, _, _, _, _, _⟩) (v := .bool true) rfl (by kernel_rfl) (by kernel_rfl) (by kernel_rfl) (fun _ _ _ h => h) (Or.inl ⟨by rfl, ?_⟩) (by assumption) ?_
          · intro w hSw; (try dsimp only at hSw); go_simp
          simp only [Act.put, List.setIfInBounds_toArray, List.set_cons_zero, List.set_cons_succ]
          refine wpAnyH_take (i := 15) (oi := ⟨some 73, _, _, _, _, _⟩) (v := .pointer (some ⟨r, 0, none⟩)) rfl (by kernel_rfl) (by kernel_rfl) (by kernel_rfl) (fun _ _ _ h => h) (Or.inl ⟨by rfl, ?_⟩) (by assumption) ?_
          · intro w hSw; (try dsimp only at hSw); go_simp
          simp only [Act.put, List.setIfInBounds_toArray, List.set_cons_zero, List.set_cons_succ]
          refine wpAnyH_take (i := 17) (oi := ⟨some 75, _, _, _, _, _⟩) (v := .slice A l.length c) rfl (by kernel_rfl) (by kernel_rfl) (by kernel_rfl) (fun _ _ _ h => h) (Or.inl ⟨by rfl, ?_⟩) (by assumption) ?_
          · intro w hSw; (try dsimp only at hSw); go_simp
          simp only [Act.put, List.setIfInBounds_toArray, List.set_cons_zero, List.set_cons_succ]
          refine wpAnyH_ready (rs := [16]) (by kernel_rfl) (by simp) ?_
          refine (AllReadyH.cons (o := ⟨some 74, _, _, _, _, _⟩) rfl (fun K hK => ?_) AllReadyH.nil)
          go_simp
          refine ((TX.out _ BC.out)).mono ?_
          rintro e wD ⟨B3, q3, rfl, r3, kk⟩
          have LD := Lib.hid (LC.out.step kk)
          have BD : Hid (Below N w0 wD) := BC.out.trans (kk.mono (by rw [HNW.out]; exact BC.out.size))
          have Q3 := Lib.hid r3.txtsAt
          clear r3
          clear kk LC BC
          refine hK.out _ _ LD.out (fun hHeld => ?_)
          clear hK K
          refine wpAnyH_ready (rs := [18]) (by kernel_rfl) (by simp) ?_
          refine (AllReadyH.cons (o := ⟨some 76, _, _, _, _, _⟩) rfl (fun K hK => ?_) AllReadyH.nil)
          go_simp
          refine ((RTX.out _ BD.out)).mono ?_
          rintro e wE ⟨B4, q4, rfl, r4, kk⟩
          have LE := Lib.hid (LD.out.step kk)
          have BE : Hid (Below N w0 wE) := BD.out.trans (kk.mono (by rw [HNW.out]; exact BD.out.size))
          have Q4 := Lib.hid r4.txtsAt
          have Q5 := Lib.hid (Q3.out.below kk)
          clear r4 Q3
          clear kk LD BD
          refine hK.out _ _ LE.out (fun hHeld => ?_)
          clear hK K
          refine wpAnyH_ready (rs := [19]) (by kernel_rfl) (by simp) ?_
          refine (AllReadyH.cons (o := ⟨some 77, _, _, _, _, _⟩) rfl (fun K hK => ?_) AllReadyH.nil)
          go_simp
          refine ((SMT.out _ _ _ _ _ Q5.out Q4.out)).mono ?_
          rintro e wF ⟨rfl, kk⟩
          have LF := Lib.hid (LE.out.step kk)
          have BF : Hid (Below N w0 wF) := BE.out.trans (kk.mono (by rw [HNW.out]; exact BE.out.size))
          clear kk LE BE
          refine hK.out _ _ LF.out (fun hHeld => ?_)
          clear hK K
          refine wpAnyH_take (i := 20) (oi := ⟨some 78, _, _, _, _, _⟩) (v := .bool true) rfl (by kernel_rfl) (by kernel_rfl) (by kernel_rfl) (fun _ _ _ h => h) (Or.inl ⟨by rfl, ?_⟩) (by assumption) ?_
          · intro w hSw; (try dsimp only at hSw); go_simp
          simp only [Act.put, List.setIfInBounds_toArray, List.set_cons_zero, List.set_cons_succ]
          refine wpAnyH_take (i := 21) (oi := ⟨some 4, _, _, _, _, _⟩) (v := .bool true) rfl (by kernel_rfl) (by kernel_rfl) (by kernel_rfl) (fun _ _ _ h => h) (Or.inl ⟨by rfl, ?_⟩) (by assumption) ?_
          · intro w hSw; (try dsimp only at hSw); go_simp
          simp only [Act.put, List.setIfInBounds_toArray, List.set_cons_zero, List.set_cons_succ]
          refine wpAnyH_done (by kernel_rfl) ?_ _
          go_wp2
          go_ret
          exact ⟨rfl, by rw [← HNW.out]; exact BF.out⟩
end Go.Proofs.YtiehcplepneajaaGreatDoor
