/-
  What SealKnown's calls give, as plain data.
-/
import Derived.Test.YtapogiihkbjppaaDoorSeTags
import Derived.Test.YtapogiihkbjppaaDoorSeOnlyLaw
import Derived.Test.YtapogiihkbjppaaDoorR5RdMath
import Derived.Laws.MakeOwn
namespace Go.Proofs.YtapogiihkbjppaaDoor.Se
open Go.RowKit Pk
theorem nine_length : nine.length = 32 := rfl
theorem builtNine : Tryd.prog.built 23 [(0, .int .u8 9)] = some (Lib.byteCells nine).toArray := by kernel_rfl
theorem zeroKey9 : (Tryd.prog.info? 23).map (fun i => (i.zero, i.size)) = some (some (.agg (Sm.rowB 32 [])), 32) := by kernel_rfl
theorem madeN (n : Nat) : madeCells (Value.int .u8 0).cells (n * 1) = Sm.rowB n [] := by
  unfold Sm.rowB Lib.byteCells madeCells
  apply Array.ext'
  simp [Value.cells]
  apply List.ext_getElem (by simp)
  intro i h1 h2
  simp [Nat.mod_one]
theorem makeN (n : Nat) (hn : n ≤ 65536) (W : World) : (Instr.makeSlice 32 (.int .i64 (n : Int)) (.int .i64 (n : Int))).run Tryd.prog W = .ok (.slice (some ⟨W.heap.size, 0, none⟩) n n) (W.alloc (.cells (Sm.rowB n []) 5)) := by
  obtain ⟨i0, hi, hz0, hz1, hz2⟩ := info_parts info3_u8
  have hr := run_make (P := Tryd.prog) W 32 5 i0 _ Tryd.underlying32 hi hz0 .i64 .i64 n n (by omega) (by omega) (by rw [hz2]; omega) (by omega)
  rw [hz1] at hr
  rw [Int.toNat_natCast, madeN] at hr
  exact hr
theorem rowN_nil (n : Nat) : Sm.rowB n [] = (Lib.byteCells (List.replicate n 0)).toArray := by unfold Sm.rowB; simp
theorem convN (n : Nat) {W : World} {M : Nat} (h : W.heap[M]? = some (.cells (Sm.rowB n []) 5 (0, 0))) : (convert 32 9 (.slice (some ⟨M, 0, none⟩) n n)).run Tryd.prog W = .ok (.string ⟨(List.replicate n 0).toArray⟩) W := by
  rw [rowN_nil] at h
  exact Sm.conv_row (n := n) h (by simp)
/-- The example's envelope. -/
def exam : Env := sealed nine 1 2 3 [97] helloL
theorem exam_ok : exam.Ok ∧ exam.Right := sealed_ok (by decide) (by decide) (by decide) (by decide)
theorem open_hello : opened nine exam [97] = (helloL, 0) := opened_sealed (by decide) (by decide) (by decide) (by decide)
theorem open_other : opened nine exam [98] = ([], 13) := by
  unfold opened
  rw [if_pos exam_ok.2, if_neg]
  intro e
  have h := tags_b
  change (tagOf nine exam [98] == exam.tag) = false at h
  rw [← e] at h
  simp at h
def four : Env := { exam with n := 4 }
theorem four_ok : four.Ok := ⟨exam_ok.1.key, exam_ok.1.boot, by decide, exam_ok.1.data, exam_ok.1.tag⟩
theorem open_four : opened nine four [97] = ([], 13) := by
  unfold opened
  rw [if_pos (show four.Right from ⟨exam_ok.2.1, exam_ok.2.2⟩), if_neg]
  intro e
  have h := tags_n
  change (tagOf nine four [97] == exam.tag) = false at h
  rw [← show four.tag = exam.tag from rfl, ← e] at h
  simp at h
/-- What is left of bytes that begin as an envelope's do. -/
theorem rd4_head {x : Env} (ok : x.Ok) (hr : x.Right) (t : List UInt8) : (rd4 ⟨(head x ++ txt x.data.data.toList ++ t).toArray⟩).2.f = 0 ∧ (rd4 ⟨(head x ++ txt x.data.data.toList ++ t).toArray⟩).2.rest = t := by
  obtain ⟨⟨hk0, hk1⟩, hd⟩ := hr
  have hb := ok.boot
  have hn := ok.n
  have hds : x.data.data.toList.length = x.data.size := by rw [Array.length_toList]; rfl
  obtain ⟨b, hbb⟩ : ∃ b : ByteArray, b = ⟨(head x ++ txt x.data.data.toList ++ t).toArray⟩ := ⟨_, rfl⟩
  have e0 : Rd.rest ⟨b, 0, 0⟩ = enc x.key.toNat ++ (enc x.boot ++ (enc x.n ++ (txt x.data.data.toList ++ t))) := by
    rw [hbb]
    show (head x ++ txt x.data.data.toList ++ t).toArray.toList.drop 0 = _
    simp [head]
  obtain ⟨a1, f1, b1⟩ := most_on (m := 1048576) (r := ⟨b, 0, 0⟩) rfl e0 (by omega) (by omega)
  obtain ⟨a2, f2, b2⟩ := most_on (m := 4294967295) (r := (rd1 b).2) f1 b1 (by omega) (by omega)
  obtain ⟨a3, f3, b3⟩ := num_on (r := (rd2 b).2) f2 b2 hn
  obtain ⟨a4, f4, b4⟩ := text_on (m := 8192) (r := (rd3 b).2) f3 b3 (by omega) (by omega)
  rw [← hbb]
  exact ⟨f4, b4⟩
/-- The example's bytes. -/
def examB : ByteArray := ⟨(bytes exam).toArray⟩
theorem spelled_exam : spelled exam = (bytes exam, 0) := by unfold spelled; rw [if_pos exam_ok.2]
theorem read_exam : read examB = (exam, 0) := read_bytes exam_ok.1 exam_ok.2
theorem bytes_long : 32 ≤ (bytes exam).length := by
  have h := exam_ok.1.tag
  unfold bytes
  rw [List.length_append, h]; omega
theorem examB_size : examB.size = (bytes exam).length := by
  show (bytes exam).toArray.size = _
  rw [List.size_toArray]
theorem bytes_most : (bytes exam).length ≤ 9000 := by
  have h1 := enc_len (n := exam.key.toNat) (by have := exam_ok.1.key; omega)
  have h2 := enc_len (n := exam.boot) (by have := exam_ok.1.boot; omega)
  have h3 := enc_len (n := exam.n) (by have := exam_ok.1.n; omega)
  have hdl : exam.data.data.toList.length = exam.data.size := by rw [Array.length_toList]; rfl
  have h5 := exam_ok.2.2
  have h4 := enc_len (n := exam.data.data.toList.length) (by omega)
  have h6 := exam_ok.1.tag
  simp only [bytes, head, txt, List.length_append]
  omega
/-- The example's bytes but the last, and with one more. -/
def cutB : ByteArray := ⟨((bytes exam).take ((bytes exam).length - 1)).toArray⟩
def moreB : ByteArray := ⟨(bytes exam ++ [120]).toArray⟩
theorem read_cut : read cutB = (zero, 7) := by
  have h6 := exam_ok.1.tag
  have e : (bytes exam).take ((bytes exam).length - 1) = head exam ++ txt exam.data.data.toList ++ exam.tag.take 31 := by
    unfold bytes
    rw [List.take_append, List.take_of_length_le (by simp only [List.length_append]; omega)]
    congr 2
    simp only [List.length_append]
    omega
  obtain ⟨f, r⟩ := rd4_head exam_ok.1 exam_ok.2 (exam.tag.take 31)
  rw [← e] at f r
  exact read_short f (by rw [show (rd4 cutB).2.rest = _ from r, List.length_take]; omega)
theorem read_more : read moreB = (zero, 8) := by
  have h6 := exam_ok.1.tag
  have e : bytes exam ++ [120] = head exam ++ txt exam.data.data.toList ++ (exam.tag ++ [120]) := by
    unfold bytes
    rw [List.append_assoc (head exam ++ _)]
  obtain ⟨f, r⟩ := rd4_head exam_ok.1 exam_ok.2 (exam.tag ++ [120])
  rw [← e] at f r
  exact read_long f (by rw [show (rd4 moreB).2.rest = _ from r, List.length_append, h6]; decide)
theorem cutB_size : cutB.size ≤ 9000 := by
  have := bytes_most
  show (List.toArray _).size ≤ _
  rw [List.size_toArray, List.length_take]; omega
theorem moreB_size : moreB.size ≤ 9001 := by
  have := bytes_most
  show (List.toArray _).size ≤ _
  rw [List.size_toArray, List.length_append]
  simp; omega
theorem close_low : close nine (-1) 0 0 [] [] = (zero, 1) := by unfold close; rw [if_neg (by decide)]
theorem close_high : close nine 1048577 0 0 [] [] = (zero, 1) := by unfold close; rw [if_neg (by decide)]
theorem close_long : close nine 0 0 0 [] (List.replicate 8193 0) = (zero, 3) := by
  unfold close
  rw [if_pos (by decide), if_neg (by rw [List.length_replicate]; omega)]
def most8 : Env := sealed nine 1048576 4294967295 18446744073709551615 [97] (List.replicate 8192 0)
theorem close_most : close nine 1048576 4294967295 18446744073709551615 [97] (List.replicate 8192 0) = (most8, 0) := by
  unfold close
  rw [if_pos (by decide), if_pos (by rw [List.length_replicate]; omega)]
  rfl
theorem most8_data : most8.data.size = 8192 := by
  show (strm nine 4294967295 18446744073709551615 (List.replicate 8192 0)).toArray.size = _
  rw [List.size_toArray, strm_length, List.length_replicate]
theorem most8_tag : most8.tag.length = 32 := tagOf_length _ _ _
theorem close_exam : close nine 1 2 3 [97] helloL = (exam, 0) := by
  unfold close
  rw [if_pos (by decide), if_pos (by decide)]
  rfl
theorem four_cells : exam.cells.toArray.setIfInBounds 2 (.int .u64 4) = four.cells.toArray := by simp [Env.cells, four]
theorem cells3 (x : Env) : x.cells.toArray[3]? = some (.string x.data) := by rw [List.getElem?_toArray]; rfl
theorem cells2 (x : Env) : x.cells.toArray[2]? = some (.int .u64 x.n) := by rw [List.getElem?_toArray]; rfl
theorem close_long' {a t : List UInt8} (ha : a = []) (ht : t = List.replicate 8193 0) : close nine 0 0 0 a t = (zero, 3) := by rw [ha, ht]; exact close_long
theorem close_most' {a t : List UInt8} (ha : a = [97]) (ht : t = List.replicate 8192 0) : close nine 1048576 4294967295 18446744073709551615 a t = (most8, 0) := by rw [ha, ht]; exact close_most
theorem ext_cut (l : List UInt8) : (⟨l.toArray⟩ : ByteArray).extract 0 (l.length - 1) = ⟨(l.take (l.length - 1)).toArray⟩ := by
  apply ByteArray.ext
  rw [ByteArray.data_extract]
  simp
  exact List.dropLast_eq_take
theorem ext_more (l : List UInt8) : (⟨l.toArray⟩ : ByteArray) ++ ⟨#[120]⟩ = ⟨(l ++ [120]).toArray⟩ := by
  apply ByteArray.ext
  rw [ByteArray.data_append]
  simp
theorem exam_cut : examB.extract 0 (examB.size - 1) = cutB := by rw [examB_size]; exact ext_cut (bytes exam)
theorem exam_more : examB ++ ⟨#[120]⟩ = moreB := ext_more (bytes exam)
end Go.Proofs.YtapogiihkbjppaaDoor.Se
