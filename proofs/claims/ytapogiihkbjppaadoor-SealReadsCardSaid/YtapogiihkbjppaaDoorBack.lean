/-
  What was written is read again: an item's bytes, read by the same call, tell the item, and the reader stands behind them.
-/
import Derived.Test.YtapogiihkbjppaaDoorWritten
namespace Go.Proofs.YtapogiihkbjppaaDoor
open Go.RowKit Pk

theorem dec_back {n : Nat} (hn : n < 2 ^ 64) (tail : List UInt8) : dec 0 0 (enc n ++ tail) = (n, (enc n).length, 0) := by
  have := dec_enc n 0 0 tail (by simpa using hn) (by omega) (by omega)
  simpa using this
theorem cnt_back {n : Nat} (hn : n < 2 ^ 64) (tail : List UInt8) {m : Int} (hm : (n : Int) ≤ m) : cnt (enc n ++ tail) m = (n, (enc n).length, 0) := by
  unfold cnt
  rw [dec_back hn, if_neg (by omega)]

theorem rd_num {r : Rd} {n : Nat} {tail : List UInt8} (hf : r.f = 0) (hr : r.rest = enc n ++ tail) (hn : n < 2 ^ 64) : r.num = (n, ⟨r.s, r.pos + (enc n).length, 0⟩) := by
  unfold Rd.num
  rw [hr, dec_back hn, pass_true hf rfl, go_ok hf, hf]
  rfl

theorem rd_back {r : Rd} {a : It} {tail : List UInt8} (hf : r.f = 0) (hr : r.rest = encI a ++ tail) (ha : a.Ok) (hd : a.d < 4) (hm : a.m = a.s.size) :
    rdI r a = (bareI a, ⟨r.s, r.pos + (encI a).length, 0⟩) := by
  obtain ⟨h1, h2, h3, h4, h5, h6⟩ := ha
  unfold encI at hr ⊢
  unfold rdI bareI
  by_cases d0 : a.d = 0
  · simp only [if_pos d0] at hr ⊢
    rw [rd_num hf hr h2]
  · simp only [if_neg d0] at hr ⊢
    by_cases d1 : a.d = 1
    · simp only [if_pos d1] at hr ⊢
      rw [rd_num hf hr (zig_lt h3)]
      simp only [zag_zig]
    · simp only [if_neg d1] at hr ⊢
      by_cases d2 : a.d = 2
      · simp only [if_pos d2] at hr ⊢
        have hc : cnt r.rest a.m = (a.s.size, (enc a.s.size).length, 0) := by
          rw [hr, List.append_assoc]
          exact cnt_back (by omega) _ (by omega)
        have hl : r.rest.length = (enc a.s.size).length + a.s.size + tail.length := by
          rw [hr]; simp; omega
        have ht : terr r.rest a.m = 0 := by
          unfold terr
          rw [hc]
          exact if_neg (by simp only; omega)
        have htext : r.text a.m = (a.s.data.toList, ⟨r.s, r.pos + ((enc a.s.size).length + a.s.size), 0⟩) := by
          unfold Rd.text
          rw [hc, ht, pass_true hf rfl, if_pos rfl, go_ok hf, hr]
          simp [hf]
        rw [htext]
        simp
      · simp only [if_neg d2] at hr ⊢
        have d3 : a.d = 3 := by omega
        simp only [if_pos d3] at hr ⊢
        have hb : r.byte = (a.b, ⟨r.s, r.pos + 1, 0⟩) := by
          unfold Rd.byte
          rw [hr]
          simp only [List.cons_append, List.nil_append, reduceCtorEq, if_false]
          rw [pass_true hf rfl, if_pos rfl, go_ok hf, hf, List.headD_cons, ofNat_toNat h5]
        rw [hb]
        rfl

/-- A list of which each item can be written. -/
def Good (l : List It) : Prop := ∀ a ∈ l, a.Ok ∧ a.d < 4 ∧ a.m = a.s.size

theorem rd_step {L : List It} (hg : Good L) {k : Nat} (hk : k < L.length) :
    rdI ⟨⟨(encs L).toArray⟩, (encs (L.take k)).length, 0⟩ L[k] = (bareI L[k], ⟨⟨(encs L).toArray⟩, (encs (L.take (k + 1))).length, 0⟩) := by
  obtain ⟨h1, h2, h3⟩ := hg _ (List.getElem_mem hk)
  have e : encs L = encs (L.take k) ++ (encI L[k] ++ encs (L.drop (k + 1))) := by
    have h := encs_append (L.take k) (L.drop k)
    rw [List.take_append_drop, List.drop_eq_getElem_cons hk, encs_cons] at h
    exact h
  have hr : Rd.rest ⟨⟨(encs L).toArray⟩, (encs (L.take k)).length, 0⟩ = encI L[k] ++ encs (L.drop (k + 1)) := by
    show (encs L).drop (encs (L.take k)).length = _
    rw [e, List.drop_left]
  rw [rd_back rfl hr h1 h2 h3, encs_take hk, List.length_append]

theorem rd_ok {L : List It} (hlim : (encs L).length ≤ 281474976710656) (k : Nat) : Rd.Ok ⟨⟨(encs L).toArray⟩, (encs (L.take k)).length, 0⟩ := by
  have h := encs_append (L.take k) (L.drop k)
  rw [List.take_append_drop] at h
  have h2 := congrArg List.length h
  rw [List.length_append] at h2
  refine ⟨?_, Nat.zero_le _, ?_⟩
  · show (encs (L.take k)).length ≤ (encs L).toArray.size
    simp; omega
  · show (encs L).toArray.size ≤ _
    simpa using hlim
theorem rd_left {L M : List It} : (Rd.rest ⟨⟨(encs (L ++ M)).toArray⟩, (encs L).length, 0⟩).length = (encs M).length := by
  show ((encs (L ++ M)).drop (encs L).length).length = _
  rw [encs_append, List.drop_left]
end Go.Proofs.YtapogiihkbjppaaDoor
