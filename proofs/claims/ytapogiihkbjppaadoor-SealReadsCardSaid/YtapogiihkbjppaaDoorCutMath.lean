/-
  An item's bytes, cut off: what is read of them fails where it began.
-/
import Derived.Test.YtapogiihkbjppaaDoorFollows
namespace Go.Proofs.YtapogiihkbjppaaDoor
open Go.RowKit Pk

theorem fail_go {r : Rd} (h : r.f ≠ 0) (sz e : Nat) : r.go sz e = r := by unfold Rd.go; rw [if_neg h]
theorem fail_num {r : Rd} (h : r.f ≠ 0) : r.num = (0, r) := by unfold Rd.num; rw [pass_false (.inl h), fail_go h]; rfl
theorem fail_most {r : Rd} (h : r.f ≠ 0) (m : Int) : r.most m = (0, r) := by unfold Rd.most; rw [pass_false (.inl h), fail_go h]; rfl
theorem fail_text {r : Rd} (h : r.f ≠ 0) (m : Int) : r.text m = ([], r) := by unfold Rd.text; rw [pass_false (.inl h), fail_go h]; rfl
theorem fail_byte {r : Rd} (h : r.f ≠ 0) : r.byte = (0, r) := by unfold Rd.byte; rw [pass_false (.inl h), fail_go h]; rfl

theorem dec_cut0 {n : Nat} (hn : n < 2 ^ 64) {j : Nat} (hj : j < (enc n).length) : dec 0 0 ((enc n).take j) = (0, 0, 7) := dec_cut n 0 0 j (by simpa using hn) (by omega) hj
theorem num_cut {r : Rd} {n j : Nat} (hf : r.f = 0) (hn : n < 2 ^ 64) (hr : r.rest = (enc n).take j) (hj : j < (enc n).length) : r.num = (0, ⟨r.s, r.pos, 7⟩) := by
  unfold Rd.num
  rw [hr, dec_cut0 hn hj, pass_false (.inr (by decide))]
  unfold Rd.go
  rw [if_pos hf, if_neg (by decide)]
  rfl

theorem rd_cut {r : Rd} {a : It} {j : Nat} (hf : r.f = 0) (hr : r.rest = (encI a).take j) (hj : j < (encI a).length) (ha : a.Ok) (hd : a.d < 4) (hm : a.m = a.s.size) :
    rdI r a = (⟨0, 0, 0, ⟨#[]⟩, 0, 0⟩, ⟨r.s, r.pos, 7⟩) := by
  obtain ⟨h1, h2, h3, h4, h5, h6⟩ := ha
  unfold encI at hr hj
  unfold rdI
  by_cases d0 : a.d = 0
  · simp only [if_pos d0] at hr hj ⊢
    rw [num_cut hf h2 hr hj]
  · simp only [if_neg d0] at hr hj ⊢
    by_cases d1 : a.d = 1
    · simp only [if_pos d1] at hr hj ⊢
      rw [num_cut hf (zig_lt h3) hr hj]
      have e : zag 0 = 0 := by simp [zag]
      simp only [e]
    · simp only [if_neg d1] at hr hj ⊢
      by_cases d2 : a.d = 2
      · simp only [if_pos d2] at hr hj ⊢
        have ht : terr r.rest a.m = 7 := by
          by_cases hj2 : j < (enc a.s.size).length
          · have hr2 : r.rest = (enc a.s.size).take j := by rw [hr, List.take_append_of_le_length (by omega)]
            have hc : cnt r.rest a.m = (0, 0, 7) := by
              unfold cnt
              rw [hr2, dec_cut0 (by omega) hj2]
              exact if_neg (by simp)
            unfold terr
            rw [hc]
            exact if_neg (by simp)
          · have hr2 : r.rest = enc a.s.size ++ a.s.data.toList.take (j - (enc a.s.size).length) := by
              rw [hr, List.take_append, List.take_of_length_le (by omega)]
            have hc : cnt r.rest a.m = (a.s.size, (enc a.s.size).length, 0) := by rw [hr2]; exact cnt_back (by omega) _ (by omega)
            have hl : r.rest.length ≤ j := by rw [hr, List.length_take]; omega
            rw [List.length_append] at hj
            simp only [Array.length_toList] at hj
            have hj3 : j < (enc a.s.size).length + a.s.size := hj
            unfold terr
            rw [hc]
            exact if_pos ⟨rfl, by simp only; omega⟩
        have htext : r.text a.m = ([], ⟨r.s, r.pos, 7⟩) := by
          unfold Rd.text
          rw [ht, pass_false (.inr (by decide))]
          unfold Rd.go
          rw [if_pos hf, if_neg (by decide)]
          rfl
        rw [htext]
      · simp only [if_neg d2] at hr hj ⊢
        have d3 : a.d = 3 := by omega
        simp only [if_pos d3] at hr hj ⊢
        have hj0 : j = 0 := by simpa using hj
        have hb : r.byte = (0, ⟨r.s, r.pos, 7⟩) := by
          unfold Rd.byte
          rw [hr, hj0, List.take_zero, if_pos rfl, pass_false (.inr (by decide))]
          unfold Rd.go
          rw [if_pos hf, if_neg (by decide)]
          rfl
        rw [hb]

/-- A round over a text that is cut off behind kk bytes: the item is whole. -/
theorem cut_whole {L : List It} (hg : Good L) {k kk : Nat} (hk : k < L.length) (hw : (encs (L.take k)).length + (encI L[k]).length ≤ kk) :
    rdI ⟨⟨((encs L).take kk).toArray⟩, (encs (L.take k)).length, 0⟩ L[k] = (bareI L[k], ⟨⟨((encs L).take kk).toArray⟩, (encs (L.take (k + 1))).length, 0⟩) := by
  obtain ⟨h1, h2, h3⟩ := hg _ (List.getElem_mem hk)
  have e : encs L = encs (L.take k) ++ (encI L[k] ++ encs (L.drop (k + 1))) := by
    have h := encs_append (L.take k) (L.drop k)
    rw [List.take_append_drop, List.drop_eq_getElem_cons hk, encs_cons] at h
    exact h
  have hr : Rd.rest ⟨⟨((encs L).take kk).toArray⟩, (encs (L.take k)).length, 0⟩ = encI L[k] ++ (encs (L.drop (k + 1))).take (kk - (encs (L.take k)).length - (encI L[k]).length) := by
    show ((encs L).take kk).drop (encs (L.take k)).length = _
    rw [List.drop_take, e, List.drop_left, List.take_append, List.take_of_length_le (by omega)]
  rw [rd_back rfl hr h1 h2 h3, encs_take hk, List.length_append]
/-- The item is not whole. -/
theorem cut_short {L : List It} (hg : Good L) {k kk : Nat} (hk : k < L.length) (hb : (encs (L.take k)).length ≤ kk) (hw : ¬ (encs (L.take k)).length + (encI L[k]).length ≤ kk) :
    rdI ⟨⟨((encs L).take kk).toArray⟩, (encs (L.take k)).length, 0⟩ L[k] = (⟨0, 0, 0, ⟨#[]⟩, 0, 0⟩, ⟨⟨((encs L).take kk).toArray⟩, (encs (L.take k)).length, 7⟩) := by
  obtain ⟨h1, h2, h3⟩ := hg _ (List.getElem_mem hk)
  have e : encs L = encs (L.take k) ++ (encI L[k] ++ encs (L.drop (k + 1))) := by
    have h := encs_append (L.take k) (L.drop k)
    rw [List.take_append_drop, List.drop_eq_getElem_cons hk, encs_cons] at h
    exact h
  have hr : Rd.rest ⟨⟨((encs L).take kk).toArray⟩, (encs (L.take k)).length, 0⟩ = (encI L[k]).take (kk - (encs (L.take k)).length) := by
    show ((encs L).take kk).drop (encs (L.take k)).length = _
    rw [List.drop_take, e, List.drop_left, List.take_append_of_le_length (by omega)]
  exact rd_cut rfl hr (by omega) h1 h2 h3
theorem cut_left {l : List UInt8} {kk p f : Nat} (hk : kk ≤ l.length) : (Rd.rest ⟨⟨(l.take kk).toArray⟩, p, f⟩).length = kk - p := by
  show ((l.take kk).drop p).length = _
  rw [List.length_drop, List.length_take, Nat.min_eq_left hk]
end Go.Proofs.YtapogiihkbjppaaDoor
