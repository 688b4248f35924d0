/-
  Small facts on worlds and rows of bytes, for mac.
-/
import Derived.Test.YtkijdpgdniaagaaDoorMcMath
import Derived.Test.YtkijdpgdniaagaaDoorShLow
import Derived.Deep.RegionHeld3
import Derived.Deep.Cut
namespace Go.Proofs.YtkijdpgdniaagaaDoor.Sm
open Go.RowKit

/-- A block, of which the first k bytes are xored. -/
def half (m : UInt8) (l : List UInt8) (k : Nat) : List UInt8 := xored m (l.take k) ++ l.drop k
theorem half_zero (m : UInt8) (l : List UInt8) : half m l 0 = l := by simp [half, xored]
theorem half_all (m : UInt8) (l : List UInt8) : half m l l.length = xored m l := by simp [half]
theorem half_length (m : UInt8) (l : List UInt8) (k : Nat) : (half m l k).length = l.length := by
  simp [half, xored]; omega
theorem half_get (m : UInt8) (l : List UInt8) (k : Nat) (h : k < l.length) : (half m l k).getD k 0 = l.getD k 0 := by
  have hl : (xored m (l.take k)).length = k := by simp [xored]; omega
  rw [List.getD_eq_getElem?_getD, List.getD_eq_getElem?_getD, half, List.getElem?_append_right (by omega), hl, List.getElem?_drop]
  simp
theorem half_set (m : UInt8) (l : List UInt8) (k : Nat) (h : k < l.length) : (half m l k).set k (l.getD k 0 ^^^ m) = half m l (k + 1) := by
  have hl : (xored m (l.take k)).length = k := by simp [xored]; omega
  have hd : l.drop k = l[k] :: l.drop (k + 1) := List.drop_eq_getElem_cons h
  have e : xored m (l.take k ++ [l[k]]) = xored m (l.take k) ++ [l[k] ^^^ m] := by unfold xored; rw [List.map_append]; rfl
  rw [half, List.set_append_right _ _ (by omega), hl, Nat.sub_self, hd, List.set_cons_zero, half, List.take_succ_eq_append_getElem h, e, List.getD_eq_getElem?_getD, List.getElem?_eq_getElem h, List.append_assoc]
  rfl
theorem bytes_set (l : List UInt8) (k : Nat) (x : UInt8) : (Lib.byteCells l).toArray.setIfInBounds k (.int .u8 x.toNat) = (Lib.byteCells (l.set k x)).toArray := by
  apply Array.ext'
  simp [Lib.byteCells, List.map_set]
theorem bytes_size (l : List UInt8) : (Lib.byteCells l).toArray.size = l.length := by simp [Lib.byteCells]
theorem infoBlk {c : Array Value} (h : c.size = 64) : (Tryd.prog.info? 77).map (·.size) = some c.size := by rw [h]; kernel_rfl
theorem row_cell {w : World} {N : Nat} {l : List UInt8} {t : TypeId} (h : w.heap[N]? = some (.cells (Lib.byteCells l).toArray t (0, 0))) (k : Nat) (hk : k < l.length) :
    w.cell? ⟨N, k, none⟩ = some (.int .u8 (l.getD k 0).toNat) := cells_of h k _ (by rw [List.getElem?_toArray]; exact byteCells_get hk)
/-- A row of bytes, sliced whole, as a text. -/
theorem conv_row {w : World} {N n : Nat} {l : List UInt8} {t : TypeId} (h : w.heap[N]? = some (.cells (Lib.byteCells l).toArray t (0, 0))) (hn : l.length = n) :
    (convert 31 9 (.slice (some ⟨N, 0, none⟩) n n)).run Tryd.prog w = .ok (.string ⟨l.toArray⟩) w := by
  have e := run_convert_bytes_back (P := Tryd.prog) w 31 9 5 ⟨N, 0, none⟩ n l Tryd.underlying31 Tryd.underlying5 Tryd.underlying9 (fun j hj => by
    have := row_cell h j hj
    rw [List.getD_eq_getElem?_getD, List.getElem?_eq_getElem hj] at this
    rw [Addr.add_mid, Nat.zero_add]
    exact this)
  rw [hn] at e
  exact e

/-- Cells that are set one by one, in a row that is whole. -/
theorem heap_setCells {b : Nat} {t : TypeId} : ∀ (vs : List Value) (o : Nat) (w : World) (cur : Array Value), w.heap[b]? = some (.cells cur t (0, 0)) → o + vs.length ≤ cur.size →
    (w.setCells b o vs).heap[b]? = some (.cells (cur.toList.take o ++ (vs ++ cur.toList.drop (o + vs.length))).toArray t (0, 0))
  | [], o, w, cur, h, _ => by
    rw [World.setCells, h]
    simp
  | v :: vs, o, w, cur, h, hl => by
    have hlc : cur.toList.length = cur.size := by simp
    simp only [List.length_cons] at hl
    have ih := heap_setCells vs (o + 1) (w.setCell ⟨b, o, none⟩ v) (cur.setIfInBounds o v) (heap_set h o v) (by simp; omega)
    rw [World.setCells, ih, Array.toList_setIfInBounds]
    have e1 : (cur.toList.set o v).take (o + 1) = cur.toList.take o ++ [v] := by
      rw [List.take_succ_eq_append_getElem (by simp; omega), List.take_set_of_le (Nat.le_refl _)]
      simp
    have e2 : (cur.toList.set o v).drop (o + 1 + vs.length) = cur.toList.drop (o + (vs.length + 1)) := by
      rw [List.drop_set_of_lt (by omega), show o + 1 + vs.length = o + (vs.length + 1) by omega]
    rw [e1, e2]
    simp
theorem heap_setAll {b : Nat} {t : TypeId} {w : World} {cur : Array Value} {vs : List Value} (h : w.heap[b]? = some (.cells cur t (0, 0))) (hl : cur.size = vs.length) :
    (w.setCells b 0 vs).heap[b]? = some (.cells vs.toArray t (0, 0)) := by
  rw [heap_setCells vs 0 w cur h (by omega), List.drop_of_length_le (by simp; omega)]
  simp
theorem other_setCells {b c : Nat} {t : TypeId} {cur : Array Value} (hn : c ≠ b) : ∀ {vs : List Value} {o : Nat} {w : World}, w.heap[c]? = some (.cells cur t (0, 0)) → (w.setCells b o vs).heap[c]? = some (.cells cur t (0, 0))
  | [], _, _, h => h
  | _ :: vs, o, w, h => other_setCells hn (vs := vs) (o := o + 1) ((Below.heap_setCell w ⟨b, o, none⟩ _ c hn).trans h)
theorem below_setCells {B b : Nat} (hb : B ≤ b) : ∀ (vs : List Value) (o : Nat) {w w' : World}, Below B w w' → Below B w (w'.setCells b o vs)
  | [], _, _, _, h => h
  | _ :: vs, o, _, _, h => below_setCells hb vs (o + 1) (h.setCell (p := ⟨b, o, none⟩) hb _)
theorem there_row {w : World} {b n : Nat} {t : TypeId} {cur : Array Value} (h : w.heap[b]? = some (.cells cur t (0, 0))) (hn : cur.size = n) : w.there b 0 n := fun j hj => by
  rw [Nat.zero_add]
  exact ⟨by rw [cells_of h j _ (Array.getElem?_eq_getElem (by omega))]; rfl, free_of h j⟩
theorem range_row {w : World} {h : Nat} {cs : List Value} {t : TypeId} (hb : w.heap[h]? = some (.cells cs.toArray t (0, 0))) : w.rangeAt h 0 cs := fun j v hv => by
  rw [Nat.zero_add]
  exact cells_of hb j v (by rw [List.getElem?_toArray]; exact hv)
/-- A whole row, loaded under a guard that lets it. -/
theorem wpList_load_row_g {P : Program} {ops : Array Oper} {rest : List Oper} {o : Oper} {a : Act} {w : World} {Q : Exit → Act → World → Prop} (ty : TypeId) (x : Operand) (ho : o.op = .load ty x)
    (g : Nat) (hx : a.eval x = .pointer (some ⟨g, 0, none⟩)) (t : TypeId) (cs : Array Value) (fr : Nat × Nat) (d : TypeDesc) (hg : w.heap[g]? = some (.cells cs t fr))
    (hu : P.underlying ty = some d) (hd : (match d with | .struct _ | .array _ _ => true | _ => false) = true) (hi : (P.info? ty).map (·.size) = some cs.size)
    (h : wpList P ops Q rest (a.put o.dst (.agg cs)) w) (hgd : Region.wanted o (yielded ops a.tmps) = true) : wpList P ops Q (o :: rest) a w :=
  wpList_step fun _ hK => by
    rw [if_pos hgd]
    exact wp_load_row ty x ho g hx t cs fr d hg hu hd hi (hK _ _ h)
end Go.Proofs.YtkijdpgdniaagaaDoor.Sm
