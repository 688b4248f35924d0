/-
  What disk's Twin makes.
-/
import Derived.Test.YtipfjccmceaclaaDkCrash
import Derived.Test.YtipfjccmceaclaaDkAppend
import Derived.Carry
namespace Go.Proofs.Ytipfjccmceaclaa
open Go.RowKit
namespace Dk
/-- A sector for which nothing waits gets a list, in a row that is new. -/
theorem Parts.fill {w w1 : World} {r m b c : Nat} {g : Nat → Nat} {F : Nat → Option Value} {M : Md} (h : Parts w r m b c g F M) {i : Nat} (hi : i < M.lasts.length) {L : List (List UInt8)} (hL : L ≠ [])
    {gi ci : Nat} (hrow : RowAt w1 gi ci L) (hmap : MapAt Try.prog 3 w1 m M.lasts.length (fun j => if j = i then some (.slice (some ⟨gi, 0, none⟩) L.length ci) else F j))
    (hnew : w.heap.size ≤ gi) (hk : ∀ k, k < w.heap.size → k ≠ m → w1.heap[k]? = w.heap[k]?) :
    Parts w1 r m b c (fun j => if j = i then gi else g j) (fun j => if j = i then some (.slice (some ⟨gi, 0, none⟩) L.length ci) else F j) { M with W := fun j => if j = i then L else M.W j } := by
  have hlt := h.lt
  refine ⟨⟨h.ok.n, h.ok.lasts, fun j s hs => ?_, fun j hj => ?_, h.ok.fuse⟩, (hk r (hlt r (.inl rfl)) h.ne_rm).trans h.disk, h.row.block (hk b (hlt b (.inr (.inr (.inl rfl)))) h.ne_bm), hmap, fun j hj hw => ?_, fun j hj hw => ?_, fun j hj hw => ?_, fun j k hj hkk hw1 hw2 e => ?_⟩
  · simp only at hs
    split at hs
    · exact hrow.sec s hs
    · exact h.ok.waits j s hs
  · simp only at hj ⊢
    rw [if_neg (by omega)]; exact h.ok.none j hj
  · by_cases e : j = i
    · subst e; simp only [if_pos] at hw; exact absurd hw hL
    · simp only [if_neg e] at hw ⊢
      exact h.idle j hj hw
  · by_cases e : j = i
    · subst e; simp only [if_pos]; exact ⟨ci, rfl, hrow⟩
    · simp only [if_neg e] at hw ⊢
      obtain ⟨cj, e1, e2⟩ := h.wait j hj hw
      exact ⟨cj, e1, e2.block (hk _ (hlt _ (.inr (.inr (.inr ⟨j, hj, hw, rfl⟩)))) (h.ne_gm hj hw))⟩
  · have hb := hlt b (.inr (.inr (.inl rfl)))
    by_cases e : j = i
    · subst e; simp only [if_pos]; omega
    · simp only [if_neg e] at hw ⊢
      exact h.apart j hj hw
  · have old : ∀ a, a < M.lasts.length → M.W a ≠ [] → g a < w.heap.size := fun a ha hwa => hlt _ (.inr (.inr (.inr ⟨a, ha, hwa, rfl⟩)))
    by_cases e1 : j = i
    · by_cases e2 : k = i
      · rw [e1, e2]
      · simp only [if_pos e1, if_neg e2] at hw2 e
        have := old k hkk hw2; omega
    · by_cases e2 : k = i
      · simp only [if_pos e2, if_neg e1] at hw1 e
        have := old j hj hw1; omega
      · simp only [if_neg e1, if_neg e2] at hw1 hw2 e
        exact h.inj j k hj hkk hw1 hw2 e
theorem MapAt.len {P : Program} {k t e : TypeId} {w : World} {b N : Nat} {F : Nat → Option Value} (h : MapAt P k w b N F) (ht : P.underlying t = some (.map k e)) : ∃ n : Nat, n ≤ N ∧ ∀ ty, (Builtin.len_ #[t] ty #[.map (some b)]).run P w = .ok (.int .i64 (n : Int)) w := by
  obtain ⟨D, h, _⟩ := h
  exact ⟨_, h.size_le, fun ty => h.len ht ty⟩
end Dk
end Go.Proofs.Ytipfjccmceaclaa
