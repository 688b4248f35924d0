/-
  The document's Less, and where its map has a path.
-/
import Derived.Test.YtkoipingokglpaaDoorOmActs
import Derived.Test.YtkoipingokglpaaDoorOmEq
import Derived.Test.YtkoipingokglpaaDoorPaFns
namespace Go.Proofs.YtkoipingokglpaaDoor
open Go.RowKit
namespace Om
theorem size_list (a : ByteArray) : a.data.toList.length = a.size := Ba.ba_size a
theorem get_list (a : ByteArray) (i : Nat) (h : i < a.size) : a.data.toList[i]'(by rw [size_list]; exact h) = a[i] := by simp [ByteArray.getElem_eq_getElem_data]
end Om
namespace Om
theorem pos_in {p : ByteArray} {l : List Pr} {i : Nat} (h : i < l.length) (hl : lt l[i].p p = true) : pos p (l.drop i) = pos p (l.drop (i + 1)) + 1 := by
  rw [List.drop_eq_getElem_cons h, pos, if_pos hl]
theorem pos_at {p : ByteArray} {l : List Pr} {i : Nat} (h : i < l.length) (hl : lt l[i].p p = false) : pos p (l.drop i) = 0 := by
  rw [List.drop_eq_getElem_cons h, pos, if_neg (by rw [hl]; decide)]
theorem pos_end {p : ByteArray} (l : List Pr) : pos p (l.drop l.length) = 0 := by rw [List.drop_length]; rfl
/-- What find tells of its place: is the path there? -/
def isAt (l : List Pr) (i : Nat) (p : ByteArray) : Bool := match l[i]? with | some x => x.p.toList == p.toList | none => false
theorem isAt_get (l : List Pr) (p : ByteArray) : isAt l (pos p l) p = (get p l).isSome := by
  rw [get_pos p l]
  unfold isAt
  cases l[pos p l]? with
  | none => rfl
  | some x =>
    by_cases h : x.p = p
    · simp only [h, if_true]; rw [ba_same.2 rfl]; rfl
    · simp only [h, if_false]
      cases hc : x.p.toList == p.toList with
      | false => rfl
      | true => exact absurd (ba_same.1 hc) h
end Om
end Go.Proofs.YtkoipingokglpaaDoor
