/-
  What package seal does, as plain data: an envelope, its nonce, tag and bytes, and how bytes are read. No program.
-/
import Derived.Test.YtibpgmcpcelmpaaGreatDoorMBase
import Derived.Test.YtibpgmcpcelmpaaGreatDoorMMac
import Derived.Test.YtibpgmcpcelmpaaGreatDoorMAes2
namespace Go.Proofs.YtibpgmcpcelmpaaGreatDoor.Se
open Pk

structure Env where
  key : Int
  boot : Nat
  n : Nat
  data : ByteArray
  tag : List UInt8

def zero : Env := ⟨0, 0, 0, ⟨#[]⟩, List.replicate 32 0⟩
def Env.cells (x : Env) : List Value := [.int .i64 x.key, .int .u32 x.boot, .int .u64 x.n, .string x.data] ++ Lib.byteCells x.tag
/-- Each field in its range. -/
structure Env.Ok (x : Env) : Prop where
  key : -9223372036854775808 ≤ x.key ∧ x.key ≤ 9223372036854775807
  boot : x.boot < 2 ^ 32
  n : x.n < 2 ^ 64
  data : x.data.size ≤ 9223372036854775807
  tag : x.tag.length = 32
def Env.Right (x : Env) : Prop := (0 ≤ x.key ∧ x.key ≤ 1048576) ∧ x.data.size ≤ 8192
instance (x : Env) : Decidable x.Right := inferInstanceAs (Decidable (_ ∧ _))

def encL : List UInt8 := [101, 110, 99]
def macL : List UInt8 := [109, 97, 99]
/-- The nonce of two numbers, the highest byte of each first. -/
def nonce (boot n : Nat) : List UInt8 := ((List.range 4).map fun i => UInt8.ofNat (boot / 2 ^ (24 - 8 * i))) ++ ((List.range 8).map fun i => UInt8.ofNat (n / 2 ^ (56 - 8 * i)))
theorem nonce_length (boot n : Nat) : (nonce boot n).length = 12 := by simp [nonce]
/-- A text's stream. -/
def strm (k : List UInt8) (boot n : Nat) (t : List UInt8) : List UInt8 := Ae.stream (Sm.tag k encL) (nonce boot n) t
theorem strm_length (k : List UInt8) (boot n : Nat) (t : List UInt8) : (strm k boot n t).length = t.length := Ae.stream_length _ _ _
theorem strm_back (k : List UInt8) (boot n : Nat) (t : List UInt8) : strm k boot n (strm k boot n t) = t := Ae.stream_back _ _ _
def head (x : Env) : List UInt8 := enc x.key.toNat ++ enc x.boot ++ enc x.n
def txt (l : List UInt8) : List UInt8 := enc l.length ++ l
/-- What is tagged. -/
def tagged (x : Env) (about : List UInt8) : List UInt8 := head x ++ txt about ++ txt x.data.data.toList
def tagOf (k : List UInt8) (x : Env) (about : List UInt8) : List UInt8 := Sm.tag (Sm.tag k macL) (tagged x about)
theorem tagOf_length (k : List UInt8) (x : Env) (about : List UInt8) : (tagOf k x about).length = 32 := Sm.tag_length _ _
/-- An envelope that has its data, and no tag yet. -/
def bare (k : List UInt8) (key : Int) (boot n : Nat) (t : List UInt8) : Env := ⟨key, boot, n, ⟨(strm k boot n t).toArray⟩, List.replicate 32 0⟩
def sealed (k : List UInt8) (key : Int) (boot n : Nat) (about t : List UInt8) : Env :=
  ⟨key, boot, n, ⟨(strm k boot n t).toArray⟩, tagOf k (bare k key boot n t) about⟩
def bytes (x : Env) : List UInt8 := head x ++ txt x.data.data.toList ++ x.tag

/-- So many bytes, read one by one. -/
def byteN : Nat → Rd → List UInt8 × Rd
  | 0, r => ([], r)
  | k + 1, r => ((byteN k r).1 ++ [UInt8.ofNat (byteN k r).2.byte.1], (byteN k r).2.byte.2)
theorem byteN_length (k : Nat) (r : Rd) : (byteN k r).1.length = k := by
  induction k with
  | zero => rfl
  | succ k ih => simp [byteN, ih]
def rd1 (b : ByteArray) : Nat × Rd := Rd.most ⟨b, 0, 0⟩ 1048576
def rd2 (b : ByteArray) : Nat × Rd := (rd1 b).2.most 4294967295
def rd3 (b : ByteArray) : Nat × Rd := (rd2 b).2.num
def rd4 (b : ByteArray) : List UInt8 × Rd := (rd3 b).2.text 8192
def rd5 (b : ByteArray) : List UInt8 × Rd := byteN 32 (rd4 b).2
/-- What was read, right or not. -/
def got (b : ByteArray) : Env := ⟨(rd1 b).1, (rd2 b).1, (rd3 b).1, ⟨(rd4 b).1.toArray⟩, (rd5 b).1⟩
def fault (b : ByteArray) : Nat := (rd5 b).2.fin
def read (b : ByteArray) : Env × Nat := (if fault b = 0 then got b else zero, fault b)

theorem most_le (r : Rd) (m : Int) (hm : 0 ≤ m) : ((r.most m).1 : Int) ≤ m := by
  unfold Rd.most
  dsimp only
  split
  · unfold cnt
    split
    · simpa using hm
    · rename_i h1 h2
      have h3 : (cnt r.rest m).2.2 = 0 := by
        simp only [Rd.pass, Bool.and_eq_true, beq_iff_eq] at h1
        exact h1.2
      unfold cnt at h3
      rw [if_neg h2] at h3
      omega
  · simpa using hm
theorem num_lt (r : Rd) : r.num.1 < 2 ^ 64 := by
  unfold Rd.num
  dsimp only
  split
  · exact (dec_bd _).1
  · decide
theorem text_le (r : Rd) (m : Int) (hm : 0 ≤ m) : ((r.text m).1.length : Int) ≤ m := by
  unfold Rd.text
  dsimp only
  split
  · rename_i h1
    have h0 : terr r.rest m = 0 := by
      simp only [Rd.pass, Bool.and_eq_true, beq_iff_eq] at h1
      exact h1.2
    have h2 := (terr_room h0).2
    have h3 : ((cnt r.rest m).1 : Int) ≤ m := by
      unfold cnt at h2 ⊢
      split
      · simpa using hm
      · rename_i h4
        rw [if_neg h4] at h2
        omega
    rw [List.length_take]
    omega
  · simpa using hm
theorem got_ok (b : ByteArray) : (got b).Ok := by
  refine ⟨?_, ?_, num_lt _, ?_, byteN_length _ _⟩
  · have h := most_le ⟨b, 0, 0⟩ 1048576 (by decide)
    show -9223372036854775808 ≤ ((rd1 b).1 : Int) ∧ ((rd1 b).1 : Int) ≤ 9223372036854775807
    have e : (rd1 b).1 = (Rd.most ⟨b, 0, 0⟩ 1048576).1 := rfl
    omega
  · have h := most_le (rd1 b).2 4294967295 (by decide)
    show (rd2 b).1 < 2 ^ 32
    have e : (rd2 b).1 = ((rd1 b).2.most 4294967295).1 := rfl
    omega
  · have h := text_le (rd3 b).2 8192 (by decide)
    show (rd4 b).1.toArray.size ≤ _
    have e : (rd4 b).1 = ((rd3 b).2.text 8192).1 := rfl
    rw [List.size_toArray, e]
    omega
theorem got_right (b : ByteArray) : (got b).Right := by
  refine ⟨⟨?_, ?_⟩, ?_⟩
  · show 0 ≤ ((rd1 b).1 : Int)
    omega
  · exact most_le ⟨b, 0, 0⟩ 1048576 (by decide)
  · have h := text_le (rd3 b).2 8192 (by decide)
    show (rd4 b).1.toArray.size ≤ _
    have e : (rd4 b).1 = ((rd3 b).2.text 8192).1 := rfl
    rw [List.size_toArray, e]
    omega

theorem go_fine {r : Rd} {sz e : Nat} (h : (r.go sz e).f = 0) : r.f = 0 ∧ e = 0 ∧ r.go sz e = ⟨r.s, r.pos + sz, 0⟩ := by
  unfold Rd.go at h ⊢
  by_cases hf : r.f = 0
  · rw [if_pos hf] at h ⊢
    by_cases he : e = 0
    · rw [if_pos he]; exact ⟨hf, he, by rw [hf]⟩
    · rw [if_neg he] at h; exact absurd h he
  · rw [if_neg hf] at h; exact absurd h hf
theorem dec_chunk {l : List UInt8} (h : (dec 0 0 l).2.2 = 0) : (dec 0 0 l).2.1 = (enc (dec 0 0 l).1).length ∧ l = enc (dec 0 0 l).1 ++ l.drop (enc (dec 0 0 l).1).length := by
  obtain ⟨n, tail, hv, hs, hl, _⟩ := dec_inv l 0 0 (dec 0 0 l).1 (dec 0 0 l).2.1 (Prod.ext rfl (Prod.ext rfl h))
  have hn : (dec 0 0 l).1 = n := by simpa using hv
  rw [hn]
  refine ⟨by simpa using hs, ?_⟩
  conv => lhs; rw [hl]
  conv => rhs; rw [hl]
  rw [List.drop_left]
theorem cnt_chunk {l : List UInt8} {m : Int} (h : (cnt l m).2.2 = 0) : (cnt l m).2.1 = (enc (cnt l m).1).length ∧ l = enc (cnt l m).1 ++ l.drop (enc (cnt l m).1).length := by
  unfold cnt at h ⊢
  split at h
  · simp at h
  · rename_i hn
    rw [if_neg hn]
    exact dec_chunk h
theorem rest_go (r : Rd) (k f : Nat) : Rd.rest ⟨r.s, r.pos + k, f⟩ = r.rest.drop k := by
  unfold Rd.rest
  rw [List.drop_drop]
/-- What a call that passes says: what was read stands ahead of what is left. -/
structure Went (r r' : Rd) (l : List UInt8) : Prop where
  f : r.f = 0
  to : r' = ⟨r.s, r.pos + l.length, 0⟩
  rest : r.rest = l ++ r'.rest
theorem most_went {r : Rd} {m : Int} (h : (r.most m).2.f = 0) : Went r (r.most m).2 (enc (r.most m).1) := by
  obtain ⟨h1, h2, h3⟩ := go_fine h
  obtain ⟨c1, c2⟩ := cnt_chunk h2
  have e : (r.most m).1 = (cnt r.rest m).1 := by unfold Rd.most; simp only; rw [pass_true h1 h2, if_pos rfl]
  have e2 : (r.most m).2 = ⟨r.s, r.pos + (enc (cnt r.rest m).1).length, 0⟩ := by rw [← c1]; exact h3
  refine ⟨h1, by rw [e]; exact e2, ?_⟩
  rw [e2, e, rest_go]
  exact c2
theorem num_went {r : Rd} (h : r.num.2.f = 0) : Went r r.num.2 (enc r.num.1) := by
  obtain ⟨h1, h2, h3⟩ := go_fine h
  obtain ⟨c1, c2⟩ := dec_chunk h2
  have e : r.num.1 = (dec 0 0 r.rest).1 := by unfold Rd.num; simp only; rw [pass_true h1 h2, if_pos rfl]
  have e2 : r.num.2 = ⟨r.s, r.pos + (enc (dec 0 0 r.rest).1).length, 0⟩ := by rw [← c1]; exact h3
  refine ⟨h1, by rw [e]; exact e2, ?_⟩
  rw [e2, e, rest_go]
  exact c2
theorem text_went {r : Rd} {m : Int} (h : (r.text m).2.f = 0) : Went r (r.text m).2 (txt (r.text m).1) := by
  obtain ⟨h1, h2, h3⟩ := go_fine h
  obtain ⟨r1, r2⟩ := terr_room h2
  obtain ⟨c1, c2⟩ := cnt_chunk r2
  have e : (r.text m).1 = (r.rest.drop (cnt r.rest m).2.1).take (cnt r.rest m).1 := by unfold Rd.text; simp only; rw [pass_true h1 h2, if_pos rfl]
  have el : (r.text m).1.length = (cnt r.rest m).1 := by rw [e, List.length_take, List.length_drop]; omega
  have e2 : (r.text m).2 = ⟨r.s, r.pos + ((cnt r.rest m).2.1 + (cnt r.rest m).1), 0⟩ := h3
  have et : (txt (r.text m).1).length = (cnt r.rest m).2.1 + (cnt r.rest m).1 := by rw [txt, List.length_append, el, c1]
  refine ⟨h1, by rw [et]; exact e2, ?_⟩
  rw [e2, rest_go, txt, el, e, ← List.drop_drop, List.append_assoc, List.take_append_drop, c1]
  exact c2
theorem byte_went {r : Rd} (h : r.byte.2.f = 0) : Went r r.byte.2 [UInt8.ofNat r.byte.1] := by
  obtain ⟨h1, h2, h3⟩ := go_fine h
  have hne : r.rest ≠ [] := by intro e; rw [if_pos e] at h2; omega
  have e : r.byte.1 = (r.rest.headD 0).toNat := by unfold Rd.byte; simp only; rw [pass_true h1 h2, if_pos rfl]
  refine ⟨h1, h3, ?_⟩
  have e2 : r.byte.2 = ⟨r.s, r.pos + 1, 0⟩ := h3
  rw [e2, rest_go, e]
  match hr : r.rest, hne with
  | b :: l, _ => simp
theorem rd_self {r : Rd} (h : r.f = 0) : r = ⟨r.s, r.pos + 0, 0⟩ := by
  obtain ⟨s, p, f⟩ := r
  cases h
  rfl
theorem byteN_went {r : Rd} (k : Nat) (h : (byteN k r).2.f = 0) : Went r (byteN k r).2 (byteN k r).1 := by
  induction k with
  | zero =>
    have h0 : r.f = 0 := h
    exact ⟨h0, rd_self h0, rfl⟩
  | succ k ih =>
    have h1 := byte_went (r := (byteN k r).2) h
    have h2 := ih h1.f
    refine ⟨h2.f, ?_, ?_⟩
    · show (byteN k r).2.byte.2 = _
      rw [h1.to, h2.to]
      simp [byteN, Nat.add_assoc]
    · rw [h2.rest, h1.rest]
      simp [byteN]
/-- What is read without a fault has just these bytes. -/
theorem got_bytes {b : ByteArray} (h : fault b = 0) : bytes (got b) = b.data.toList := by
  have h0 : (rd5 b).2.f = 0 ∧ (rd5 b).2.rest = [] := by
    unfold fault Rd.fin at h
    split at h
    · omega
    · split at h
      · rename_i h1 h2; exact ⟨by omega, h2⟩
      · omega
  have w5 := byteN_went 32 h0.1
  have w4 := text_went (r := (rd3 b).2) (m := 8192) w5.f
  have w3 := num_went (r := (rd2 b).2) w4.f
  have w2 := most_went (r := (rd1 b).2) (m := 4294967295) w3.f
  have w1 := most_went (r := ⟨b, 0, 0⟩) (m := 1048576) w2.f
  have e0 : b.data.toList = Rd.rest ⟨b, 0, 0⟩ := rfl
  have e5 : (byteN 32 (rd4 b).2).2.rest = [] := h0.2
  have r5 := w5.rest
  rw [e5, List.append_nil] at r5
  have r4 : (rd3 b).2.rest = txt (rd4 b).1 ++ (rd4 b).2.rest := w4.rest
  have r3 : (rd2 b).2.rest = enc (rd3 b).1 ++ (rd3 b).2.rest := w3.rest
  have r2 : (rd1 b).2.rest = enc (rd2 b).1 ++ (rd2 b).2.rest := w2.rest
  have r1 : Rd.rest ⟨b, 0, 0⟩ = enc (rd1 b).1 ++ (rd1 b).2.rest := w1.rest
  rw [e0, r1, r2, r3, r4, r5]
  show enc ((rd1 b).1 : Int).toNat ++ enc (rd2 b).1 ++ enc (rd3 b).1 ++ txt (rd4 b).1.toArray.toList ++ (rd5 b).1 = _
  rw [Int.toNat_natCast]
  simp only [List.append_assoc]
  rfl

theorem dec_back {n : Nat} (hn : n < 2 ^ 64) (tail : List UInt8) : dec 0 0 (enc n ++ tail) = (n, (enc n).length, 0) := by
  rw [dec_enc n 0 0 tail (by simpa using hn) (by omega) (by decide)]
  simp
theorem cnt_back {n : Nat} (hn : n < 2 ^ 64) (tail : List UInt8) {m : Int} (hm : (n : Int) ≤ m) : cnt (enc n ++ tail) m = (n, (enc n).length, 0) := by
  unfold cnt
  rw [dec_back hn, if_neg (by simp only; omega)]
theorem most_back {r : Rd} {n : Nat} {tail : List UInt8} {m : Int} (hf : r.f = 0) (hr : r.rest = enc n ++ tail) (hn : n < 2 ^ 64) (hm : (n : Int) ≤ m) :
    r.most m = (n, ⟨r.s, r.pos + (enc n).length, 0⟩) ∧ Rd.rest ⟨r.s, r.pos + (enc n).length, 0⟩ = tail := by
  constructor
  · unfold Rd.most
    rw [hr, cnt_back hn tail hm]
    simp only [pass_true hf rfl, if_true, go_ok hf, hf]
  · rw [rest_go, hr, List.drop_left]
theorem num_back {r : Rd} {n : Nat} {tail : List UInt8} (hf : r.f = 0) (hr : r.rest = enc n ++ tail) (hn : n < 2 ^ 64) :
    r.num = (n, ⟨r.s, r.pos + (enc n).length, 0⟩) ∧ Rd.rest ⟨r.s, r.pos + (enc n).length, 0⟩ = tail := by
  constructor
  · unfold Rd.num
    rw [hr, dec_back hn tail]
    simp only [pass_true hf rfl, if_true, go_ok hf, hf]
  · rw [rest_go, hr, List.drop_left]
theorem text_back {r : Rd} {l tail : List UInt8} {m : Int} (hf : r.f = 0) (hr : r.rest = txt l ++ tail) (hn : l.length < 2 ^ 64) (hm : (l.length : Int) ≤ m) :
    r.text m = (l, ⟨r.s, r.pos + (txt l).length, 0⟩) ∧ Rd.rest ⟨r.s, r.pos + (txt l).length, 0⟩ = tail := by
  have hr2 : r.rest = enc l.length ++ (l ++ tail) := by rw [hr, txt, List.append_assoc]
  have hc : cnt r.rest m = (l.length, (enc l.length).length, 0) := by rw [hr2]; exact cnt_back hn _ hm
  have ht : terr r.rest m = 0 := by
    unfold terr
    rw [hc]
    simp only
    rw [if_neg]
    rw [hr2]
    simp only [List.length_append]
    omega
  constructor
  · unfold Rd.text
    rw [ht, hc]
    simp only [pass_true hf rfl, if_true, go_ok hf, hf]
    rw [hr2, List.drop_left, List.take_left, txt, List.length_append]
  · rw [rest_go, hr, List.drop_left]
theorem byte_back {r : Rd} {x : UInt8} {tail : List UInt8} (hf : r.f = 0) (hr : r.rest = x :: tail) :
    r.byte = (x.toNat, ⟨r.s, r.pos + 1, 0⟩) ∧ Rd.rest ⟨r.s, r.pos + 1, 0⟩ = tail := by
  constructor
  · unfold Rd.byte
    rw [hr]
    simp only [reduceCtorEq, if_false, pass_true hf rfl, if_true, go_ok hf, hf, List.headD_cons]
  · rw [rest_go, hr]; rfl
theorem byteN_back (k : Nat) : ∀ (r : Rd) (l tail : List UInt8), l.length = k → r.f = 0 → r.rest = l ++ tail → byteN k r = (l, ⟨r.s, r.pos + k, 0⟩) := by
  induction k with
  | zero =>
    intro r l tail hl hf _
    obtain rfl := List.length_eq_zero_iff.1 hl
    show ([], r) = ([], _)
    exact congrArg (Prod.mk []) (rd_self hf)
  | succ k ih =>
    intro r l tail hl hf hr
    have hne : l ≠ [] := by intro e; rw [e] at hl; simp at hl
    have hd := List.dropLast_concat_getLast hne
    have h1 := ih r l.dropLast (l.getLast hne :: tail) (by simp [hl]) hf (by rw [hr]; conv => lhs; rw [← hd]; simp)
    have hk : l.dropLast.length = k := by simp [hl]
    have h2 : Rd.rest ⟨r.s, r.pos + k, 0⟩ = l.getLast hne :: tail := by
      rw [rest_go, hr]
      conv => lhs; rw [← hd]
      rw [List.append_assoc, ← hk, List.drop_left]
      rfl
    have h3 := (byte_back (r := ⟨r.s, r.pos + k, 0⟩) rfl h2).1
    unfold byteN
    rw [h1]
    simp only [h3]
    congr 1
    conv => rhs; rw [← hd]
    simp
theorem most_on {r : Rd} {n : Nat} {tail : List UInt8} {m : Int} (hf : r.f = 0) (hr : r.rest = enc n ++ tail) (hn : n < 2 ^ 64) (hm : (n : Int) ≤ m) : (r.most m).1 = n ∧ (r.most m).2.f = 0 ∧ (r.most m).2.rest = tail := by
  obtain ⟨h1, h2⟩ := most_back hf hr hn hm
  rw [h1]; exact ⟨rfl, rfl, h2⟩
theorem num_on {r : Rd} {n : Nat} {tail : List UInt8} (hf : r.f = 0) (hr : r.rest = enc n ++ tail) (hn : n < 2 ^ 64) : r.num.1 = n ∧ r.num.2.f = 0 ∧ r.num.2.rest = tail := by
  obtain ⟨h1, h2⟩ := num_back hf hr hn
  rw [h1]; exact ⟨rfl, rfl, h2⟩
theorem text_on {r : Rd} {l tail : List UInt8} {m : Int} (hf : r.f = 0) (hr : r.rest = txt l ++ tail) (hn : l.length < 2 ^ 64) (hm : (l.length : Int) ≤ m) : (r.text m).1 = l ∧ (r.text m).2.f = 0 ∧ (r.text m).2.rest = tail := by
  obtain ⟨h1, h2⟩ := text_back hf hr hn hm
  rw [h1]; exact ⟨rfl, rfl, h2⟩
theorem byteN_on (k : Nat) {r : Rd} {l tail : List UInt8} (hl : l.length = k) (hf : r.f = 0) (hr : r.rest = l ++ tail) : (byteN k r).1 = l ∧ (byteN k r).2.f = 0 ∧ (byteN k r).2.rest = tail := by
  rw [byteN_back k r l tail hl hf hr]
  refine ⟨rfl, rfl, ?_⟩
  rw [rest_go, hr, ← hl, List.drop_left]
/-- What has bytes is read from them. -/
theorem read_bytes {x : Env} (ok : x.Ok) (hr : x.Right) : read ⟨(bytes x).toArray⟩ = (x, 0) := by
  obtain ⟨⟨hk0, hk1⟩, hd⟩ := hr
  have hb := ok.boot
  have hn := ok.n
  have hds : x.data.data.toList.length = x.data.size := by rw [Array.length_toList]; rfl
  obtain ⟨b, hbb⟩ : ∃ b : ByteArray, b = ⟨(bytes x).toArray⟩ := ⟨_, rfl⟩
  have e0 : Rd.rest ⟨b, 0, 0⟩ = enc x.key.toNat ++ (enc x.boot ++ (enc x.n ++ (txt x.data.data.toList ++ (x.tag ++ [])))) := by
    rw [hbb]
    show (bytes x).toArray.toList.drop 0 = _
    simp [bytes, head]
  obtain ⟨a1, f1, b1⟩ := most_on (m := 1048576) (r := ⟨b, 0, 0⟩) rfl e0 (by omega) (by omega)
  obtain ⟨a2, f2, b2⟩ := most_on (m := 4294967295) (r := (rd1 b).2) f1 b1 (by omega) (by omega)
  obtain ⟨a3, f3, b3⟩ := num_on (r := (rd2 b).2) f2 b2 hn
  obtain ⟨a4, f4, b4⟩ := text_on (m := 8192) (r := (rd3 b).2) f3 b3 (by omega) (by omega)
  obtain ⟨a5, f5, b5⟩ := byteN_on 32 (r := (rd4 b).2) ok.tag f4 b4
  have hf : fault b = 0 := by
    unfold fault Rd.fin
    rw [if_neg (by rw [show (rd5 b).2.f = 0 from f5]; simp), if_pos (show (rd5 b).2.rest = [] from b5)]
  rw [← hbb]
  unfold read
  rw [hf, if_pos rfl]
  unfold got
  rw [show (rd1 b).1 = _ from a1, show (rd2 b).1 = _ from a2, show (rd3 b).1 = _ from a3, show (rd4 b).1 = _ from a4, show (rd5 b).1 = _ from a5]
  rw [Int.toNat_of_nonneg hk0]
theorem bytes_inj {x y : Env} (ox : x.Ok) (rx : x.Right) (oy : y.Ok) (ry : y.Right) (h : bytes x = bytes y) : x = y := by
  have h1 := read_bytes ox rx
  rw [h, read_bytes oy ry] at h1
  exact (Prod.mk.inj h1).1.symm
end Go.Proofs.YtibpgmcpcelmpaaGreatDoor.Se
