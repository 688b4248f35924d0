/-
  append of one sector: in its room, or in a new row.
-/
import Derived.Test.YtipfjccmceaclaaDkNew
import Derived.ArgAppend
namespace Go.Proofs.Ytipfjccmceaclaa
open Go.RowKit
namespace Dk
/-- A slice of sectors, or none. -/
def SecsAt (w : World) (v : Value) (l : List (List UInt8)) : Prop := (v = .slice none 0 0 ∧ l = []) ∨ ∃ g c, v = .slice (some ⟨g, 0, none⟩) l.length c ∧ RowAt w g c l
theorem SecsAt.own {w : World} {v : Value} {l : List (List UInt8)} (h : SecsAt w v l) {B : Nat} (hB : ∀ g, v.ownBlock = some g → B ≤ g) : w.ownsRow B 106 64 v l.length (flat l) := by
  rcases h with ⟨rfl, rfl⟩ | ⟨g, c, rfl, h⟩
  · exact World.ownsRow_nil _ _ _ _
  · exact h.own (hB g rfl)
theorem RowAt.push {w : World} {g c : Nat} {l : List (List UInt8)} (h : RowAt w g c l) (hr : l.length + 1 ≤ c) {s : List UInt8} (hs : s.length = 64) : RowAt (w.setCells g (l.length * 64) (Lib.byteCells s)) g c (l ++ [s]) := by
  obtain ⟨cur, h1, h2, h3⟩ := h.row
  have hsl : (Lib.byteCells s).length = 64 := by rw [Lib.byteCells_length, hs]
  have hle : l.length * 64 + 64 ≤ c * 64 := by omega
  have hcl : cur.toList.length = c * 64 := by simp [h2]
  refine ⟨⟨_, Sm.heap_setCells (Lib.byteCells s) (l.length * 64) w cur h1 (by rw [hsl, h2]; exact hle), ?_, ?_⟩, by simpa using ⟨hr, h.cap.2⟩, fun x hx => ?_⟩
  · simp [h2]; omega
  · rw [List.length_append, List.length_singleton, flat_append, ← h3, hsl]
    rw [← List.append_assoc, List.take_append_of_le_length (by rw [List.length_append, List.length_take, hsl, hcl]; omega), List.take_of_length_le (by rw [List.length_append, List.length_take, hsl, hcl]; omega)]
    simp [flat]
  · rcases List.mem_append.1 hx with e | e
    · exact h.sec x e
    · simp at e; rw [e]; exact hs
theorem run_append_sec {w : World} {v : Value} {l : List (List UInt8)} (h : SecsAt w v l) {s : List UInt8} (hs : s.length = 64) {N : Nat} (hN : w.rangeAt N 0 (Lib.byteCells s)) (hroom : l.length ≤ 1099511627776) (ty : TypeId) :
    ∃ gi ci w', (Builtin.append_ #[73, 73] ty #[v, .slice (some ⟨N, 0, none⟩) 1 1]).run Try.prog w = .ok (.slice (some ⟨gi, 0, none⟩) (l ++ [s]).length ci) w' ∧ RowAt w' gi ci (l ++ [s]) ∧
      ((v.ownBlock = some gi ∧ w.grownBy w' (some gi)) ∨ (w.heap.size ≤ gi ∧ w.grownBy w' none)) := by
  obtain ⟨i0, hie, hiz, his, hib⟩ := info_parts info3_sec
  have hsl : (Lib.byteCells s).length = 64 := by rw [Lib.byteCells_length, hs]
  have hnews : ∀ j u, (Lib.byteCells s)[j]? = some u → w.cell? ((⟨N, 0, none⟩ : Addr).add j) = some u := fun j u hj => by rw [Addr.add_mid]; exact hN j u hj
  have hall : ∀ l2 : List (List UInt8), l2 = l ++ [s] → (∀ x ∈ l, x.length = 64) → ∀ x ∈ l2, x.length = 64 := by
    rintro l2 rfl hl x hx
    rcases List.mem_append.1 hx with e | e
    · exact hl x e
    · simp at e; rw [e]; exact hs
  have hzs : (Value.agg (Sm.rowB 64 [])).cells.size = 64 := by show (Sm.rowB 64 []).size = 64; exact Sm.rowB_size (by simp)
  rcases h with ⟨rfl, rfl⟩ | ⟨g, c, rfl, h⟩
  · obtain ⟨v', w', hrun, ho, hg, _⟩ := run_append_own (P := Try.prog) w w.heap.size 73 ty 106 i0 _ 64 64 Try.underlying73 hie hiz his hib hzs (by decide) (.slice none 0 0) 0 [] (World.ownsRow_nil _ _ _ _) ⟨N, 0, none⟩ 1 1 (Lib.byteCells s) (by rw [hsl]) hnews (Lib.byteCells_one _) (by unfold maxLen; omega) (by omega) (Nat.le_refl _)
    obtain ⟨gi, ci, rfl, hR, hB, hb⟩ := RowAt.of_own (l := [s]) (by simpa [flat] using ho) (by simp) (by omega) (fun x hx => by simp at hx; rw [hx]; exact hs)
    exact ⟨gi, ci, w', hrun, hR, .inr ⟨hB, hg⟩⟩
  · by_cases hr : l.length + 1 ≤ c
    · have hrun := run_append_room_cells (P := Try.prog) w 73 ty 106 i0 Try.underlying73 hie g 0 l.length c ⟨N, 0, none⟩ 1 1 (Lib.byteCells s) (by rw [his, hsl]) hnews (Lib.byteCells_one _) hr
        (fun j hj => by
          obtain ⟨cur, h1, h2, _⟩ := h.row
          rw [hsl] at hj
          rw [his, Nat.zero_add]
          have e : cur[l.length * 64 + j]? = some cur[l.length * 64 + j] := Array.getElem?_eq_getElem (by omega)
          simp [World.cell?, h1, e])
        (fun j hj => h.free _)
      rw [his, Nat.zero_add] at hrun
      exact ⟨g, c, _, by rw [hrun]; simp, h.push hr hs, .inl ⟨rfl, Sm.grown_setCells2 (Sm.grown_refl w (some g)) _ _⟩⟩
    · obtain ⟨v', w', hrun, ho, hg⟩ := run_append_arg_grows (P := Try.prog) w 73 ty 106 i0 _ 64 64 Try.underlying73 hie hiz his hib hzs (by decide) ⟨g, 0, none⟩ l.length c (flat l) (flat_length h.sec)
        (fun j u hj => by
          rw [Addr.add_mid, Nat.zero_add]
          obtain ⟨cur, h1, h2, h3⟩ := h.row
          rw [← h3, List.getElem?_take] at hj
          split at hj
          · simp only [World.cell?, h1]; simpa using hj
          · cases hj)
        ⟨N, 0, none⟩ 1 1 (Lib.byteCells s) (by rw [hsl]) hnews (by omega) (by unfold maxLen; omega) (by omega)
      obtain ⟨gi, ci, rfl, hR, hB, hb⟩ := RowAt.of_own (l := l ++ [s]) (by simpa [flat] using ho) (by simp) (by omega) (hall _ rfl h.sec)
      exact ⟨gi, ci, w', hrun, hR, .inr ⟨hB, hg⟩⟩
theorem wp_append_sec {o : Oper} {a : Act} {w : World} {K : Act → World → Prop} {Q : Exit → Act → World → Prop} (s x : Operand) (ho : o.op = .call { callee := .builtin .append, args := #[s, x], argTypes := #[73, 73] })
    {v : Value} {l : List (List UInt8)} (hs : a.eval s = v) (h : SecsAt w v l) {b : List UInt8} (hb : b.length = 64) {N : Nat} (hx : a.eval x = .slice (some ⟨N, 0, none⟩) 1 1) (hN : w.rangeAt N 0 (Lib.byteCells b)) (hroom : l.length ≤ 1099511627776)
    (hK : ∀ gi ci w', RowAt w' gi ci (l ++ [b]) → ((v.ownBlock = some gi ∧ w.grownBy w' (some gi)) ∨ (w.heap.size ≤ gi ∧ w.grownBy w' none)) → K (a.put o.dst (.slice (some ⟨gi, 0, none⟩) (l ++ [b]).length ci)) w') : o.wp Try.prog a w K Q := by
  obtain ⟨gi, ci, w', hr, h1, h2⟩ := run_append_sec h hb hN hroom o.type
  unfold Oper.wp execOp
  simp only [ho, resolve, invoke, builtin, Sem.run_bind, Sem.run_pure, Result.andThen_ok, List.map_toArray, List.map_cons, List.map_nil, hs, hx, hr]
  exact hK gi ci w' h1 h2
end Dk
end Go.Proofs.Ytipfjccmceaclaa
