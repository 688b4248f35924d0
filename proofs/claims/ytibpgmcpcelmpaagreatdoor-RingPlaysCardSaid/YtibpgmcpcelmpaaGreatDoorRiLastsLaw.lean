/-
  RingLasts: what a ring wrapped it opens ever after, and so does another ring of the same master that has come as far; one that has not refuses.
-/
import Derived.Test.YtibpgmcpcelmpaaGreatDoorRiOwn
import Derived.Test.YtibpgmcpcelmpaaGreatDoorRiNew
import Derived.Test.YtibpgmcpcelmpaaGreatDoorRiWrap
import Derived.Test.YtibpgmcpcelmpaaGreatDoorRiOpen
import Derived.Test.YtibpgmcpcelmpaaGreatDoorRiAwake
namespace Go.Proofs.YtibpgmcpcelmpaaGreatDoor
open Go.RowKit
namespace Ri
/-- What was wrapped so far, and under which keys. -/
structure Made (wx : World) (N : Nat) (bw : Nat → Int → ByteArray) (A1 : Option Addr) (c1 : Nat) (A2 : Option Addr) (c2 : Nat) (k : Nat) (ats : List Int) : Prop where
  len : ats.length = k
  strs : ∃ xs, wx.ownsRow N 9 1 (.slice A1 k c1) k xs ∧ ∀ j, j < k → xs[j]? = some (.string (bw j (ats.getD j 0)))
  ints : wx.ownsRow N 3 1 (.slice A2 k c2) k (ats.map (Value.int .i64))
theorem row_types : 9 ≠ 62 ∧ 9 ≠ 102 ∧ 3 ≠ 62 ∧ 3 ≠ 102 ∧ 9 ≠ 3 := by decide
theorem Made.turned {w w' : World} {N : Nat} {bw : Nat → Int → ByteArray} {A1 A2 : Option Addr} {c1 c2 k : Nat} {ats : List Int} (q : Made w N bw A1 c1 A2 c2 k ats) {r m : Nat} {M : ByteArray} {boot n : Nat} {cur : Int} (h : RingAt w r m M boot n cur) (t : Turned w w' r m) : Made w' N bw A1 c1 A2 c2 k ats := by
  obtain ⟨xs, h1, h2⟩ := q.strs
  exact ⟨q.len, ⟨xs, own_turned h t h1 row_types.1, h2⟩, own_turned h t q.ints row_types.2.2.1⟩
theorem Made.below {w w' : World} {N : Nat} {bw : Nat → Int → ByteArray} {A1 A2 : Option Addr} {c1 c2 k : Nat} {ats : List Int} (q : Made w N bw A1 c1 A2 c2 k ats) (t : Below w.heap.size w w') : Made w' N bw A1 c1 A2 c2 k ats := by
  obtain ⟨xs, h1, h2⟩ := q.strs
  exact ⟨q.len, ⟨xs, own_below h1 t, h2⟩, own_below q.ints t⟩
theorem Made.addr {w : World} {N : Nat} {bw : Nat → Int → ByteArray} {A1 A2 : Option Addr} {c1 c2 k : Nat} {ats : List Int} (q : Made w N bw A1 c1 A2 c2 k ats) {j : Nat} (hj : j < k) : (∃ g, A1 = some ⟨g, 0, none⟩) ∧ ∃ g, A2 = some ⟨g, 0, none⟩ := by
  obtain ⟨xs, h1, _⟩ := q.strs
  obtain ⟨g, e, _⟩ := own_get h1 hj
  obtain ⟨g', e', _⟩ := own_get q.ints hj
  exact ⟨⟨g, e⟩, ⟨g', e'⟩⟩
theorem Made.get {w : World} {N g g' : Nat} {bw : Nat → Int → ByteArray} {c1 c2 k : Nat} {ats : List Int} (q : Made w N bw (some ⟨g, 0, none⟩) c1 (some ⟨g', 0, none⟩) c2 k ats) {j : Nat} (hj : j < k) : w.cell? ⟨g, j, none⟩ = some (.string (bw j (ats.getD j 0))) ∧ w.cell? ⟨g', j, none⟩ = some (.int .i64 (ats.getD j 0)) := by
  obtain ⟨xs, h1, h2⟩ := q.strs
  obtain ⟨h, e, hc⟩ := own_get h1 hj
  obtain ⟨h', e', hc'⟩ := own_get q.ints hj
  cases e
  cases e'
  rw [Nat.zero_add] at hc hc'
  refine ⟨hc.trans (h2 j hj), hc'.trans ?_⟩
  have hjl : j < ats.length := by rw [q.len]; exact hj
  rw [List.getElem?_map, List.getD_eq_getElem?_getD, List.getElem?_eq_getElem hjl]
  rfl
theorem one_new (w : World) (t : TypeId) (v : Value) : ∀ j u, [v][j]? = some u → (w.alloc (.cells #[v] t)).cell? ((⟨w.heap.size, 0, none⟩ : Addr).add j) = some u := fun j u hu => by
  have q := heap_alloc_new w (.cells #[v] t)
  rw [Addr.add_lit, Nat.zero_add]
  exact Sm.cells_of q j u (by simpa using hu)
theorem info_string : (Tryz.prog.info? 9).map (fun i => (i.zero, i.size, i.bytes)) = some (some (.string ⟨#[]⟩), 1, 16) := by kernel_rfl
theorem info_int : (Tryz.prog.info? 3).map (fun i => (i.zero, i.size, i.bytes)) = some (some (.int .i64 0), 1, 8) := by kernel_rfl
theorem snoc_strs {xs : List Value} {bw : Nat → Int → ByteArray} {ats : List Int} {k : Nat} {cur : Int} (hx : xs.length = k) (hl : ats.length = k) (h : ∀ j, j < k → xs[j]? = some (.string (bw j (ats.getD j 0)))) : ∀ j, j < k + 1 → (xs ++ [.string (bw k cur)])[j]? = some (.string (bw j ((ats ++ [cur]).getD j 0))) := fun j hj => by
  rw [List.getD_eq_getElem?_getD]
  by_cases hjk : j < k
  · rw [List.getElem?_append_left (by omega), List.getElem?_append_left (by omega), ← List.getD_eq_getElem?_getD]; exact h j hjk
  · obtain rfl : j = k := by omega
    rw [List.getElem?_append_right (by omega), List.getElem?_append_right (by omega), hx, hl]
    simp
end Ri

end Go.Proofs.YtibpgmcpcelmpaaGreatDoor
