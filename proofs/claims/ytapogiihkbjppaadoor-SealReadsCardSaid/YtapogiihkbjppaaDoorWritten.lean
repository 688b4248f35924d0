/-
  What the statements' helper written does: the items that can be written, each with a bound that its text keeps.
-/
import Derived.Test.YtapogiihkbjppaaDoorBare
namespace Go.Proofs.YtapogiihkbjppaaDoor
open Go.RowKit Pk

def keepI (a : It) : It := ⟨a.d, a.n, a.i, a.s, a.b, a.s.size⟩
def writtenL (l : List It) : List It := (l.filter fun a => decide (a.d < 4)).map keepI
def itCells (a : It) : List Value := [.int .u8 a.d, .int .u64 a.n, .int .i64 a.i, .string a.s, .int .u8 a.b, .int .i64 a.m]

theorem writtenL_take {l : List It} {k : Nat} (h : k < l.length) : writtenL (l.take (k + 1)) = writtenL (l.take k) ++ (if l[k].d < 4 then [keepI l[k]] else []) := by
  rw [List.take_succ_eq_append_getElem h]
  unfold writtenL
  rw [List.filter_append, List.map_append]
  by_cases hd : l[k].d < 4 <;> simp [hd]
theorem writtenL_len (l : List It) : (writtenL l).length ≤ l.length := by
  unfold writtenL
  rw [List.length_map]
  exact List.length_filter_le _ _
theorem writtenL_total (l : List It) : total (writtenL l) ≤ total l := by
  induction l with
  | nil => simp [writtenL]
  | cons a l ih =>
    have e : writtenL (a :: l) = (if a.d < 4 then [keepI a] else []) ++ writtenL l := by
      unfold writtenL
      by_cases hd : a.d < 4 <;> simp [hd]
    rw [e, total_append, total_cons]
    split
    · simp [total, keepI] at *; omega
    · simp [total] at *; omega
theorem writtenL_ok {l : List It} (h : ∀ a ∈ l, a.Ok) : ∀ a ∈ writtenL l, a.Ok ∧ a.d < 4 ∧ a.m = a.s.size := by
  intro a ha
  obtain ⟨b, hb, rfl⟩ := List.mem_map.1 ha
  rw [List.mem_filter] at hb
  obtain ⟨h1, h2, h3, h4, h5, h6⟩ := h b hb.1
  exact ⟨⟨h1, h2, h3, h4, h5, by show -9223372036854775808 ≤ (b.s.size : Int) ∧ (b.s.size : Int) ≤ 9223372036854775807; omega⟩, of_decide_eq_true hb.2, rfl⟩

theorem ret_slice {A : Option Addr} {n n' c : Nat} (h : n = n') : Ending.returned (.slice A n c) = .returned (.slice A n' c) := by rw [h]

theorem six_one (a : It) : ∀ u ∈ itCells a, u.oneCell' = true := by
  intro u hu
  simp [itCells] at hu
  rcases hu with rfl | rfl | rfl | rfl | rfl | rfl <;> rfl

theorem flat_at (l : List It) : ∀ (k : Nat) (hk : k < l.length) (j : Nat), j < 6 → (l.flatMap itCells)[k * 6 + j]? = (itCells l[k])[j]? := by
  induction l with
  | nil => intro k hk; simp at hk
  | cons a l ih =>
    intro k hk j hj
    rw [List.flatMap_cons]
    have h6 : (itCells a).length = 6 := rfl
    cases k with
    | zero => rw [List.getElem?_append_left (by omega)]; simp
    | succ k =>
      rw [List.getElem?_append_right (by omega), h6, show (k + 1) * 6 + j - 6 = k * 6 + j from by omega]
      exact ih k (by simpa using hk) j hj

end Go.Proofs.YtapogiihkbjppaaDoor
