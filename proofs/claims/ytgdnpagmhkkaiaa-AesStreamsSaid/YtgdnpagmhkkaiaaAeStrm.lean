/-
  Streams as plain functions.
-/
import Derived.Test.YtgdnpagmhkkaiaaMAes
namespace Go.Proofs.Ytgdnpagmhkkaiaa.Ae
/-- The columns of a nonce and a count. -/
def ctrW (nonce : List UInt8) (j : Nat) : List Nat := [Sm.word nonce 0, Sm.word nonce 1, Sm.word nonce 2, j % 4294967296]
theorem ctrW_length (nonce : List UInt8) (j : Nat) : (ctrW nonce j).length = 4 := rfl
theorem ctrW_lt (nonce : List UInt8) (j : Nat) : ∀ x ∈ ctrW nonce j, x < 4294967296 := by
  intro x hx
  simp only [ctrW, List.mem_cons, List.not_mem_nil, or_false] at hx
  rcases hx with rfl | rfl | rfl | rfl
  · exact Sm.word_lt _ _
  · exact Sm.word_lt _ _
  · exact Sm.word_lt _ _
  · exact Nat.mod_lt _ (by decide)
/-- The stream's block j. -/
def pad (key nonce : List UInt8) (j : Nat) : List UInt8 := bytes (enc (ks key) (ctrW nonce j))
theorem pad_length (key nonce : List UInt8) (j : Nat) : (pad key nonce j).length = 16 := bytes_length _
def sbyte (key nonce : List UInt8) (i : Nat) : UInt8 := (pad key nonce (i / 16)).getD (i % 16) 0
def strF (key nonce t : List UInt8) (i : Nat) : UInt8 := t.getD i 0 ^^^ sbyte key nonce i
def stream (key nonce t : List UInt8) : List UInt8 := (List.range t.length).map (strF key nonce t)
theorem stream_length (key nonce t : List UInt8) : (stream key nonce t).length = t.length := by simp [stream]
theorem stream_get (key nonce t : List UInt8) (i : Nat) (h : i < t.length) : (stream key nonce t).getD i 0 = t.getD i 0 ^^^ sbyte key nonce i := by
  simp [stream, List.getD_eq_getElem?_getD, h, strF]
/-- A text, of which the first k bytes are streamed. -/
def part8 (key nonce t : List UInt8) (k : Nat) : List UInt8 := (List.range k).map (strF key nonce t) ++ t.drop k
theorem part8_zero (key nonce t : List UInt8) : part8 key nonce t 0 = t := by simp [part8]
theorem part8_all (key nonce t : List UInt8) : part8 key nonce t t.length = stream key nonce t := by
  unfold part8 stream; rw [List.drop_of_length_le (Nat.le_refl _)]; simp
theorem part8_length (key nonce t : List UInt8) (k : Nat) (h : k ≤ t.length) : (part8 key nonce t k).length = t.length := by simp [part8]; omega
theorem part8_get (key nonce t : List UInt8) (k : Nat) : (part8 key nonce t k).getD k 0 = t.getD k 0 := by
  rw [List.getD_eq_getElem?_getD, part8, List.getElem?_append_right (by simp), List.getElem?_drop, List.getD_eq_getElem?_getD]
  simp
theorem part8_set (key nonce t : List UInt8) (k : Nat) (h : k < t.length) : (part8 key nonce t k).set k (t.getD k 0 ^^^ sbyte key nonce k) = part8 key nonce t (k + 1) := by
  unfold part8
  have hd : t.drop k = t[k] :: t.drop (k + 1) := List.drop_eq_getElem_cons h
  rw [List.set_append_right _ _ (by simp), hd, List.range_succ]
  simp only [List.length_map, List.length_range, Nat.sub_self, List.set_cons_zero, List.map_append, List.map_cons, List.map_nil, List.append_assoc, List.singleton_append]
  rfl
/-- The block that is xored behind k bytes. -/
def padAt (key nonce : List UInt8) (k : Nat) : List UInt8 := if k = 0 then List.replicate 16 0 else pad key nonce ((k - 1) / 16)
theorem padAt_length (key nonce : List UInt8) (k : Nat) : (padAt key nonce k).length = 16 := by
  unfold padAt; split
  · simp
  · exact pad_length _ _ _
theorem padAt_new (key nonce : List UInt8) (k : Nat) (h : k % 16 = 0) : padAt key nonce (k + 1) = pad key nonce (k / 16) := by
  unfold padAt; rw [if_neg (by omega), Nat.add_sub_cancel]
theorem padAt_old (key nonce : List UInt8) (k : Nat) (h : k % 16 ≠ 0) : padAt key nonce (k + 1) = padAt key nonce k := by
  unfold padAt; rw [if_neg (by omega), if_neg (by omega), show (k + 1 - 1) / 16 = (k - 1) / 16 by omega]
theorem padAt_get (key nonce : List UInt8) (k : Nat) : (padAt key nonce (k + 1)).getD (k % 16) 0 = sbyte key nonce k := by
  unfold padAt sbyte; rw [if_neg (by omega), Nat.add_sub_cancel]
theorem ctr_cols (nonce : List UInt8) (h : nonce.length = 12) : cols (nonce ++ List.replicate 4 0) = ctrW nonce 0 := by
  have hw : ∀ i, i < 3 → Sm.word (nonce ++ List.replicate 4 0) i = Sm.word nonce i := fun i hi => by
    unfold Sm.word
    simp only [List.getD_eq_getElem?_getD]
    rw [List.getElem?_append_left (by omega), List.getElem?_append_left (by omega), List.getElem?_append_left (by omega), List.getElem?_append_left (by omega)]
  have h3 : Sm.word (nonce ++ List.replicate 4 0) 3 = 0 := by
    unfold Sm.word
    simp only [List.getD_eq_getElem?_getD]
    rw [List.getElem?_append_right (by omega), List.getElem?_append_right (by omega), List.getElem?_append_right (by omega), List.getElem?_append_right (by omega)]
    simp only [h]
    rfl
  show [Sm.word _ 0, Sm.word _ 1, Sm.word _ 2, Sm.word _ 3] = _
  rw [hw 0 (by decide), hw 1 (by decide), hw 2 (by decide), h3]
  rfl
/-- Streamed twice it is the text. -/
theorem stream_back (key nonce t : List UInt8) : stream key nonce (stream key nonce t) = t := by
  apply List.ext_getElem (by rw [stream_length, stream_length])
  intro i h1 h2
  have e := stream_get key nonce (stream key nonce t) i (by rw [stream_length]; exact h2)
  rw [stream_get key nonce t i h2, UInt8.xor_assoc, UInt8.xor_self, UInt8.xor_zero] at e
  simpa [List.getD_eq_getElem?_getD, h1, h2] using e
theorem stream_take (key nonce t : List UInt8) (n : Nat) : stream key nonce (t.take n) = (stream key nonce t).take n := by
  apply List.ext_getElem (by simp [stream_length])
  intro i h1 h2
  have hi : i < t.length := by simp [stream_length] at h1; omega
  have hn : i < n := by simp [stream_length] at h1; omega
  simp [stream, strF, List.getD_eq_getElem?_getD, hi, hn]
theorem stream_nil (key nonce : List UInt8) : stream key nonce [] = [] := rfl
end Go.Proofs.Ytgdnpagmhkkaiaa.Ae
