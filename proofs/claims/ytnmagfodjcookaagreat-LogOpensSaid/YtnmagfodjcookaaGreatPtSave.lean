/-
  Bodies that are closed, written side by side and synced: what that leaves on a disk.
-/
import Derived.Test.YtnmagfodjcookaaGreatKpDisk
namespace Go.Proofs.YtnmagfodjcookaaGreat
namespace Kp
open Dk (lookOf)
theorem act_off {M : Dk.Md} (h : (Dk.act M).2 = true) : (Dk.act M).1.off = M.off := by
  unfold Dk.act at h ⊢
  split
  · rename_i h1; rw [if_pos h1] at h; cases h
  · split <;> rfl
theorem act_down {M : Dk.Md} (h : (Dk.act M).2 ≠ true) : (Dk.act M).1 = { M with off := true } ∧ M.fuse = 0 := by
  unfold Dk.act at h ⊢
  split
  · rename_i h1; exact ⟨rfl, h1⟩
  · rename_i h1
    rw [if_neg h1] at h
    split at h <;> exact absurd rfl h
theorem act_fuse {M : Dk.Md} (h : (Dk.act M).2 = true) : (M.fuse < 0 → (Dk.act M).1.fuse = M.fuse) ∧ (0 ≤ (Dk.act M).1.fuse → 0 ≤ M.fuse) := by
  unfold Dk.act at h ⊢
  split
  · rename_i h1; rw [if_pos h1] at h; cases h
  · split
    · rename_i h2; exact ⟨fun h3 => by omega, fun _ => by omega⟩
    · exact ⟨fun _ => rfl, fun h3 => h3⟩
theorem write_ok {M : Dk.Md} {i : Int} {b : List UInt8} (ho : M.off = false) (hb : b.length = 60) (h0 : 0 ≤ i) (hi : i < M.lasts.length) :
    Dk.write M i (Dk.closed b) = if (Dk.act M).2 then (Dk.put (Dk.act M).1 i.toNat (Dk.closed b), 0) else ((Dk.act M).1, 14) := by
  have h1 : Dk.there M i = true := Dk.there_iff.2 ⟨h0, hi⟩
  have h2 : (Dk.closed b).length = 64 := by rw [Dk.closed_length, hb]
  rw [Dk.write, ho, h1, h2]
  simp
theorem puts_form : ∀ (l : List (List UInt8)) (M : Dk.Md) (i : Int), M.off = false → (∀ b ∈ l, b.length = 60) → 0 ≤ i → i + l.length ≤ M.lasts.length →
    ∃ c, c ≤ l.length ∧ (puts M i l).1.lasts = M.lasts ∧ (∀ q, (puts M i l).1.W q = if i.toNat ≤ q ∧ q < i.toNat + c then M.W q ++ [Dk.closed (l.getD (q - i.toNat) [])] else M.W q) ∧
      (((puts M i l).2 = 0 ∧ c = l.length ∧ (puts M i l).1.off = false ∧ (M.fuse < 0 → (puts M i l).1.fuse = M.fuse)) ∨ ((puts M i l).2 = 14 ∧ (puts M i l).1.off = true ∧ 0 ≤ M.fuse))
  | [], M, i, ho, _, _, _ => ⟨0, Nat.le_refl _, rfl, fun q => by rw [if_neg (by omega)]; rfl, .inl ⟨rfl, rfl, ho, fun _ => rfl⟩⟩
  | b :: l, M, i, ho, hb, h0, hi => by
    rw [List.length_cons] at hi
    have hw := write_ok (b := b) ho (hb b (by simp)) h0 (by omega)
    by_cases ha : (Dk.act M).2 = true
    · rw [if_pos ha] at hw
      have e : puts M i (b :: l) = puts (Dk.put (Dk.act M).1 i.toNat (Dk.closed b)) (i + 1) l := by rw [puts, hw]; simp
      have hL : (Dk.put (Dk.act M).1 i.toNat (Dk.closed b)).lasts = M.lasts := Dk.act_lasts M
      obtain ⟨c, hc, h1, h2, h3⟩ := puts_form l (Dk.put (Dk.act M).1 i.toNat (Dk.closed b)) (i + 1) ((act_off ha).trans ho) (fun x hx => hb x (by simp [hx])) (by omega) (by rw [hL]; omega)
      obtain ⟨f1, f2⟩ := act_fuse ha
      rw [e]
      refine ⟨c + 1, by rw [List.length_cons]; omega, h1.trans hL, fun q => ?_, ?_⟩
      · rw [h2 q, show (i + 1).toNat = i.toNat + 1 by omega]
        have hW : (Dk.put (Dk.act M).1 i.toNat (Dk.closed b)).W q = if q = i.toNat then M.W q ++ [Dk.closed b] else M.W q := by
          show (if q = i.toNat then (Dk.act M).1.W q ++ [Dk.closed b] else (Dk.act M).1.W q) = _
          rw [Dk.act_W]
        rw [hW]
        by_cases hq : q = i.toNat
        · rw [if_neg (by omega), if_pos hq, if_pos (by omega), hq, Nat.sub_self]; rfl
        · rw [if_neg hq]
          by_cases hq2 : i.toNat + 1 ≤ q ∧ q < i.toNat + 1 + c
          · rw [if_pos hq2, if_pos (by omega), show q - i.toNat = (q - (i.toNat + 1)) + 1 by omega, List.getD_cons_succ]
          · rw [if_neg hq2, if_neg (by omega)]
      · rcases h3 with ⟨g1, g2, g3, g4⟩ | ⟨g1, g2, g3⟩
        · exact .inl ⟨g1, by rw [List.length_cons, g2], g3, fun hf => (g4 (by show (Dk.act M).1.fuse < 0; rw [f1 hf]; exact hf)).trans (f1 hf)⟩
        · exact .inr ⟨g1, g2, f2 g3⟩
    · obtain ⟨ha1, ha2⟩ := act_down ha
      have ha3 : (Dk.act M).2 = false := by simpa using ha
      rw [ha3, ha1] at hw
      have e : puts M i (b :: l) = ({ M with off := true }, 14) := by rw [puts, hw]; simp
      rw [e]
      exact ⟨0, Nat.zero_le _, rfl, fun q => by rw [if_neg (by omega)], .inr ⟨rfl, rfl, by omega⟩⟩
/-- What lasts in a place. -/
def lastly (M : Dk.Md) (a : Int) (j : Nat) : List UInt8 := Dk.last M (a.toNat + j)
theorem sees_lastly {M : Dk.Md} (h : ∀ i, M.W i = []) (a : Int) : sees M a = lastly M a := by
  funext j
  exact Dk.seen_last (h _)
theorem save_ok : ∀ (l : List (List UInt8)) (M : Dk.Md) (i : Int), M.Ok → (save M i l).1.Ok := by
  have hp : ∀ (l : List (List UInt8)) (M : Dk.Md) (i : Int), M.Ok → (puts M i l).1.Ok := by
    intro l
    induction l with
    | nil => intro M i h; exact h
    | cons b l ih =>
      intro M i h
      rw [puts]
      split
      · exact ih _ _ (h.write _ _)
      · exact h.write _ _
  intro l M i h
  unfold save
  split
  · exact (hp l M i h).sync
  · exact hp l M i h
/-- What writing bodies side by side, and syncing, leaves: all of them, or some that wait while the power is off. -/
theorem save_form (l : List (List UInt8)) (M : Dk.Md) (a : Int) (ho : M.off = false) (hw : ∀ i, M.W i = []) (hb : ∀ b ∈ l, b.length = 60) (h0 : 0 ≤ a) (hi : a + l.length ≤ M.lasts.length) :
    ((save M a l).2 = 0 ∧ (save M a l).1.off = false ∧ (∀ i, (save M a l).1.W i = []) ∧ (M.fuse < 0 → (save M a l).1.fuse = M.fuse) ∧
      ∀ q, q < M.lasts.length → Dk.last (save M a l).1 q = if a.toNat ≤ q ∧ q < a.toNat + l.length then Dk.closed (l.getD (q - a.toNat) []) else Dk.last M q) ∨
    ((save M a l).2 = 14 ∧ 0 ≤ M.fuse ∧ (save M a l).1.off = true ∧ (save M a l).1.lasts = M.lasts ∧ ∀ q, (save M a l).1.W q = [] ∨ ∃ j, j < l.length ∧ q = a.toNat + j ∧ (save M a l).1.W q = [Dk.closed (l.getD j [])]) := by
  obtain ⟨c, hc, h1, h2, h3⟩ := puts_form l M a ho hb h0 hi
  have hW : ∀ q, (puts M a l).1.W q = if a.toNat ≤ q ∧ q < a.toNat + c then [Dk.closed (l.getD (q - a.toNat) [])] else [] := fun q => by
    rw [h2 q, hw q]; rfl
  have torn : ∀ q, (puts M a l).1.W q = [] ∨ ∃ j, j < l.length ∧ q = a.toNat + j ∧ (puts M a l).1.W q = [Dk.closed (l.getD j [])] := fun q => by
    rw [hW q]
    by_cases hq : a.toNat ≤ q ∧ q < a.toNat + c
    · right
      exact ⟨q - a.toNat, by omega, by omega, by rw [if_pos hq]⟩
    · left; rw [if_neg hq]
  rcases h3 with ⟨g1, g2, g3, g4⟩ | ⟨g1, g2, g3⟩
  · have es : Kp.save M a l = Dk.sync (puts M a l).1 := by rw [Kp.save, if_pos g1]
    rw [es]
    by_cases ha2 : (Dk.act (puts M a l).1).2 = true
    · left
      have e2 : Dk.sync (puts M a l).1 = (Dk.synced (Dk.act (puts M a l).1).1, 0) := by rw [Dk.sync, g3]; simp [ha2]
      rw [e2]
      refine ⟨rfl, (act_off ha2).trans g3, fun _ => rfl, fun hfu => ?_, fun q hq => ?_⟩
      · exact ((act_fuse ha2).1 (by rw [g4 hfu]; exact hfu)).trans (g4 hfu)
      · have e3 : Dk.last (Dk.synced (Dk.act (puts M a l).1).1) q = Dk.seen (Dk.act (puts M a l).1).1 q := by
          rw [Dk.last, Dk.synced, List.getD_eq_getElem?_getD, List.getElem?_map, List.getElem?_range (by rw [Dk.act_lasts, h1]; exact hq)]; rfl
        show Dk.last (Dk.synced (Dk.act (puts M a l).1).1) q = _
        rw [e3, Dk.seen, Dk.act_W, hW q]
        by_cases hq2 : a.toNat ≤ q ∧ q < a.toNat + l.length
        · rw [if_pos hq2, if_pos (by omega)]; rfl
        · rw [if_neg hq2, if_neg (by omega)]
          show Dk.last (Dk.act (puts M a l).1).1 q = Dk.last M q
          rw [Dk.last, Dk.act_lasts, h1]; rfl
    · right
      obtain ⟨k1, k2⟩ := act_down ha2
      have e2 : Dk.sync (puts M a l).1 = ((Dk.act (puts M a l).1).1, 14) := by
        have : (Dk.act (puts M a l).1).2 = false := by simpa using ha2
        rw [Dk.sync, g3, this]; simp
      rw [e2]
      refine ⟨rfl, ?_, by rw [k1], by rw [k1]; exact h1, fun q => by rw [k1]; exact torn q⟩
      by_cases hfu : M.fuse < 0
      · rw [g4 hfu] at k2; omega
      · omega
  · right
    have es : Kp.save M a l = puts M a l := by rw [Kp.save, if_neg (by rw [g1]; decide)]
    rw [es]
    exact ⟨g1, g3, g2, h1, torn⟩
theorem last_crash {M : Dk.Md} {keep : List Int} {i : Nat} (h : i < M.lasts.length) : Dk.last (Dk.crash M keep) i = Dk.kept M keep i := by
  rw [Dk.last, Dk.crash, List.getD_eq_getElem?_getD, List.getElem?_map, List.getElem?_range h]; rfl
theorem len_crash (M : Dk.Md) (keep : List Int) : (Dk.crash M keep).lasts.length = M.lasts.length := Dk.len_crash _ _
end Kp
end Go.Proofs.YtnmagfodjcookaaGreat
