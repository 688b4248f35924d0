/-
  Texts that begin with a text; a row of texts, where those that are taken stand.
-/
import Derived.Test.YtiehcplepneajaaGreatDoorOmGreat
import Derived.Test.YtiehcplepneajaaGreatDoorPaCut
namespace Go.Proofs.YtiehcplepneajaaGreatDoor
open Go.RowKit
namespace Om
theorem txtsAt.get {w w' : World} {A : Option Addr} {l : List ByteArray} (h : txtsAt w A l) (k : Below w.heap.size w w') {j : Nat} (hj : j < l.length) : ∃ b o, A = some ⟨b, o, none⟩ ∧ w'.cell? ⟨b, o + j, none⟩ = some (.string l[j]) := by
  rcases h with rfl | ⟨b, o, rfl, hb, h⟩
  · simp at hj
  · exact ⟨b, o, rfl, (k.cell (p := ⟨b, o + j, none⟩) hb).trans (h j hj)⟩
theorem txtsAt.below {w w' : World} {A : Option Addr} {l : List ByteArray} (h : txtsAt w A l) (k : Below w.heap.size w w') : txtsAt w' A l := by
  rcases h with h | ⟨b, o, h1, hb, h⟩
  · exact .inl h
  · exact .inr ⟨b, o, h1, Nat.lt_of_lt_of_le hb k.size, fun i hi => (k.cell (p := ⟨b, o + i, none⟩) hb).trans (h i hi)⟩
/-- Of a row's i-th: where it stands among those that are taken. -/
theorem filter_at {b : ByteArray → Bool} {P : List ByteArray} {i : Nat} (hi : i < P.length) (hb : b P[i] = true) : ((P.take i).filter b).length < (P.filter b).length ∧ ∀ h, (P.filter b)[((P.take i).filter b).length]'h = P[i] := by
  have e : P.filter b = (P.take i).filter b ++ (P[i] :: (P.drop (i + 1)).filter b) := by
    conv => lhs; rw [← List.take_append_drop i P, List.drop_eq_getElem_cons hi]
    rw [List.filter_append, List.filter_cons, hb, if_pos rfl]
  refine ⟨by rw [e]; simp, fun h => ?_⟩
  simp only [e]
  rw [List.getElem_append_right (Nat.le_refl _)]
  simp
theorem filter_take {b : ByteArray → Bool} {P : List ByteArray} {i : Nat} (hi : i < P.length) : ((P.take (i + 1)).filter b).length = ((P.take i).filter b).length + if b P[i] then 1 else 0 := by
  rw [List.take_succ_eq_append_getElem hi, List.filter_append, List.length_append, List.filter_cons, List.filter_nil]
  split <;> rfl
theorem begins_iff (p x : ByteArray) : begins p x = true ↔ p.data.toList <+: x.data.toList := by unfold begins; exact List.isPrefixOf_iff_prefix
theorem slice_begins {x p : ByteArray} (h : p.size ≤ x.size) : ((x.extract 0 p.size).toList == p.toList) = begins p x := by
  have _hs := h
  rw [Bool.eq_iff_iff, ba_same, Pa.ext_take, begins_iff, List.prefix_iff_eq_take, Ba.ba_size]
  constructor
  · intro h; rw [← h, Ba.ba_mk, h]
  · intro h; rw [← h, Ba.ba_eq]
theorem short_begins {x p : ByteArray} (h : x.size < p.size) : begins p x = false := by
  cases hb : begins p x with
  | false => rfl
  | true =>
    have := ((begins_iff p x).1 hb).length_le
    rw [Ba.ba_size, Ba.ba_size] at this
    omega
/-- What begins with a mount's name and a / is of that mount. -/
theorem mount_of {m q : ByteArray} (hm : m.data.toList.all Pa.low = true) (h : begins (m ++ ⟨#[47]⟩) q = true) : Pa.head q.data.toList = m.data.toList := by
  obtain ⟨r, hr⟩ := (begins_iff _ _).1 h
  have e : (m ++ ⟨#[47]⟩ : ByteArray).data.toList = m.data.toList ++ [47] := by simp
  rw [← hr, e, List.append_assoc]
  exact (Pa.head_join hm).1
end Om
end Go.Proofs.YtiehcplepneajaaGreatDoor
