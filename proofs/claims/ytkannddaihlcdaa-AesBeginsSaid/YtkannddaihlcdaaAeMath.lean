/-
  AES-256 as plain functions on numbers, and how the walk's own numbers read as these.
-/
import Derived.Test.YtkannddaihlcdaaShMath
import Derived.Laws.BitsAllLaws
namespace Go.Proofs.Ytkannddaihlcdaa.Ae
open Sm (be4 be4_lt xor_lt and_lt or_lt)

/-- The byte i of a word. -/
def byteAt (x i : Nat) : Nat := x / 2 ^ (24 - 8 * i) % 256
/-- Each byte of a word, times 2. -/
def twice (x : Nat) : Nat := ((x &&& 2139062143) * 2 % 4294967296) ^^^ ((x &&& 2155905152) / 128 * 27 % 4294967296)
/-- A word, turned to the left. -/
def rotl (x n : Nat) : Nat := x * 2 ^ n % 4294967296 ||| x / 2 ^ (32 - n)
/-- A byte, turned to the left. -/
def rot8 (x n : Nat) : Nat := x * 2 ^ n % 256 ||| x / 2 ^ (8 - n)
def ofM (m : Nat) : Nat := m ^^^ rot8 m 1 ^^^ rot8 m 2 ^^^ rot8 m 3 ^^^ rot8 m 4 ^^^ 99

theorem xor8_lt {a b : Nat} (ha : a < 256) (hb : b < 256) : a ^^^ b < 256 := Nat.xor_lt_two_pow (n := 8) ha hb
theorem or8_lt {a b : Nat} (ha : a < 256) (hb : b < 256) : a ||| b < 256 := Nat.or_lt_two_pow (n := 8) ha hb
theorem byteAt_lt (x i : Nat) : byteAt x i < 256 := Nat.mod_lt _ (by decide)
theorem twice_lt (x : Nat) : twice x < 4294967296 := xor_lt (Nat.mod_lt _ (by decide)) (Nat.mod_lt _ (by decide))
theorem rotl_lt {x n : Nat} (hx : x < 4294967296) : rotl x n < 4294967296 := or_lt (Nat.mod_lt _ (by decide)) (Nat.lt_of_le_of_lt (Nat.div_le_self _ _) hx)
theorem rot8_lt {x n : Nat} (hx : x < 256) : rot8 x n < 256 := or8_lt (Nat.mod_lt _ (by decide)) (Nat.lt_of_le_of_lt (Nat.div_le_self _ _) hx)
theorem ofM_lt {m : Nat} (h : m < 256) : ofM m < 256 := xor8_lt (xor8_lt (xor8_lt (xor8_lt (xor8_lt h (rot8_lt h)) (rot8_lt h)) (rot8_lt h)) (rot8_lt h)) (by decide)

/-- One power of 3 further. -/
def step3 (x : Nat) : Nat := x ^^^ twice x % 256
theorem step3_lt {x : Nat} (h : x < 256) : step3 x < 256 := xor8_lt h (Nat.mod_lt _ (by decide))
def pw : Nat → Nat
  | 0 => 1
  | i + 1 => step3 (pw i)
theorem pw_lt (i : Nat) : pw i < 256 := by
  induction i with
  | zero => decide
  | succ i ih => exact step3_lt ih
/-- The powers' row, behind k rounds. -/
def pwRow (k : Nat) : List UInt8 := (List.range (k + 1)).map fun i => UInt8.ofNat (pw i)
/-- S's row, behind k rounds. -/
def sRow : Nat → List UInt8
  | 0 => List.replicate 256 0
  | k + 1 => (sRow k).set (pw k) (UInt8.ofNat (ofM (pw (255 - k))))
theorem sRow_length (k : Nat) : (sRow k).length = 256 := by
  induction k with
  | zero => exact List.length_replicate ..
  | succ k ih => rw [sRow, List.length_set]; exact ih
/-- S. -/
def box : List UInt8 := (sRow 255).set 0 (UInt8.ofNat (ofM 0))
theorem box_length : box.length = 256 := by rw [box, List.length_set]; exact sRow_length 255
def pwL : List Nat := [1, 3, 5, 15, 17, 51, 85, 255, 26, 46, 114, 150, 161, 248, 19, 53, 95, 225, 56, 72, 216, 115, 149, 164, 247, 2, 6, 10, 30, 34, 102, 170, 229, 52, 92, 228, 55, 89, 235, 38, 106, 190, 217, 112, 144, 171, 230, 49, 83, 245, 4, 12, 20, 60, 68, 204, 79, 209, 104, 184, 211, 110, 178, 205, 76, 212, 103, 169, 224, 59, 77, 215, 98, 166, 241, 8, 24, 40, 120, 136, 131, 158, 185, 208, 107, 189, 220, 127, 129, 152, 179, 206, 73, 219, 118, 154, 181, 196, 87, 249, 16, 48, 80, 240, 11, 29, 39, 105, 187, 214, 97, 163, 254, 25, 43, 125, 135, 146, 173, 236, 47, 113, 147, 174, 233, 32, 96, 160, 251, 22, 58, 78, 210, 109, 183, 194, 93, 231, 50, 86, 250, 21, 63, 65, 195, 94, 226, 61, 71, 201, 64, 192, 91, 237, 44, 116, 156, 191, 218, 117, 159, 186, 213, 100, 172, 239, 42, 126, 130, 157, 188, 223, 122, 142, 137, 128, 155, 182, 193, 88, 232, 35, 101, 175, 234, 37, 111, 177, 200, 67, 197, 84, 252, 31, 33, 99, 165, 244, 7, 9, 27, 45, 119, 153, 176, 203, 70, 202, 69, 207, 74, 222, 121, 139, 134, 145, 168, 227, 62, 66, 198, 81, 243, 14, 18, 54, 90, 238, 41, 123, 141, 140, 143, 138, 133, 148, 167, 242, 13, 23, 57, 75, 221, 124, 132, 151, 162, 253, 28, 36, 108, 180, 199, 82, 246, 1]
def boxL : List Nat := [99, 124, 119, 123, 242, 107, 111, 197, 48, 1, 103, 43, 254, 215, 171, 118, 202, 130, 201, 125, 250, 89, 71, 240, 173, 212, 162, 175, 156, 164, 114, 192, 183, 253, 147, 38, 54, 63, 247, 204, 52, 165, 229, 241, 113, 216, 49, 21, 4, 199, 35, 195, 24, 150, 5, 154, 7, 18, 128, 226, 235, 39, 178, 117, 9, 131, 44, 26, 27, 110, 90, 160, 82, 59, 214, 179, 41, 227, 47, 132, 83, 209, 0, 237, 32, 252, 177, 91, 106, 203, 190, 57, 74, 76, 88, 207, 208, 239, 170, 251, 67, 77, 51, 133, 69, 249, 2, 127, 80, 60, 159, 168, 81, 163, 64, 143, 146, 157, 56, 245, 188, 182, 218, 33, 16, 255, 243, 210, 205, 12, 19, 236, 95, 151, 68, 23, 196, 167, 126, 61, 100, 93, 25, 115, 96, 129, 79, 220, 34, 42, 144, 136, 70, 238, 184, 20, 222, 94, 11, 219, 224, 50, 58, 10, 73, 6, 36, 92, 194, 211, 172, 98, 145, 149, 228, 121, 231, 200, 55, 109, 141, 213, 78, 169, 108, 86, 244, 234, 101, 122, 174, 8, 186, 120, 37, 46, 28, 166, 180, 198, 232, 221, 116, 31, 75, 189, 139, 138, 112, 62, 181, 102, 72, 3, 246, 14, 97, 53, 87, 185, 134, 193, 29, 158, 225, 248, 152, 17, 105, 217, 142, 148, 155, 30, 135, 233, 206, 85, 40, 223, 140, 161, 137, 13, 191, 230, 66, 104, 65, 153, 45, 15, 176, 84, 187, 22]
def boxB : List UInt8 := boxL.map UInt8.ofNat
theorem pwL_ok : (List.range 255).all (fun i => pwL.getD (i + 1) 0 == step3 (pwL.getD i 0)) = true := by decide +kernel
theorem pw_eq (i : Nat) (h : i ≤ 255) : pw i = pwL.getD i 0 := by
  induction i with
  | zero => rfl
  | succ i ih =>
    have h1 := List.all_eq_true.1 pwL_ok i (List.mem_range.2 (by omega))
    rw [beq_iff_eq] at h1
    rw [pw, ih (by omega), h1]
/-- S's row again, out of the table of powers. -/
def sRowL : Nat → List UInt8
  | 0 => List.replicate 256 0
  | k + 1 => (sRowL k).set (pwL.getD k 0) (UInt8.ofNat (ofM (pwL.getD (255 - k) 0)))
theorem sRow_eq (k : Nat) (h : k ≤ 255) : sRow k = sRowL k := by
  induction k with
  | zero => rfl
  | succ k ih => rw [sRow, sRowL, ih (by omega), pw_eq k (by omega), pw_eq (255 - k) (by omega)]
set_option maxRecDepth 100000 in
theorem boxL_ok : (sRowL 255).set 0 (UInt8.ofNat (ofM 0)) = boxB := by decide +kernel
theorem box_eq : box = boxB := by rw [box, sRow_eq 255 (by omega), boxL_ok]
/-- S of a byte. -/
def sub1 (x : Nat) : Nat := boxL.getD x 0
theorem boxL_lt : ∀ x ∈ boxL, x < 256 := by decide +kernel
theorem getD_all {l : List Nat} {B : Nat} (h : ∀ x ∈ l, x < B) (hB : 0 < B) (i : Nat) : l.getD i 0 < B := by
  rw [List.getD_eq_getElem?_getD]
  cases hq : l[i]? with
  | none => exact hB
  | some x => exact h x (List.mem_of_getElem? hq)
theorem sub1_lt (x : Nat) : sub1 x < 256 := getD_all boxL_lt (by decide) x
theorem boxL_length : boxL.length = 256 := by decide +kernel
theorem map_byte {l : List Nat} (h : ∀ x ∈ l, x < 256) (x : Nat) (hx : x < l.length) : ((l.map UInt8.ofNat).getD x 0).toNat = l.getD x 0 := by
  rw [List.getD_eq_getElem?_getD, List.getD_eq_getElem?_getD, List.getElem?_map, List.getElem?_eq_getElem hx]
  show (UInt8.ofNat l[x]).toNat = l[x]
  rw [UInt8.toNat_ofNat']
  exact Nat.mod_eq_of_lt (h _ (List.getElem_mem _))
theorem sub1_box (x : Nat) (h : x < 256) : (box.getD x 0).toNat = sub1 x := by
  rw [box_eq]
  exact map_byte boxL_lt x (by rw [boxL_length]; exact h)
/-- S of each byte of a word. -/
def subW (x : Nat) : Nat := be4 (sub1 (byteAt x 0)) (sub1 (byteAt x 1)) (sub1 (byteAt x 2)) (sub1 (byteAt x 3))
theorem subW_lt (x : Nat) : subW x < 4294967296 := be4_lt (sub1_lt _) (sub1_lt _) (sub1_lt _) (sub1_lt _)

/-- The power of 2 ahead of the words 8n. -/
def pow2 : Nat → Nat
  | 0 => 1
  | n + 1 => twice (pow2 n)
theorem pow2_lt (n : Nat) : pow2 n < 4294967296 := by
  cases n with
  | zero => decide
  | succ n => exact twice_lt _
/-- A schedule's words that are the key's own. -/
def kword (key : List UInt8) (i : Nat) : Nat := Sm.word key i
/-- The word behind these. -/
def next (l : List Nat) : Nat :=
  l.getD (l.length - 8) 0 ^^^ (if l.length % 8 = 0 then subW (rotl (l.getD (l.length - 1) 0) 8) ^^^ pow2 (l.length / 8 - 1) * 2 ^ 24 % 4294967296
    else if l.length % 8 = 4 then subW (l.getD (l.length - 1) 0) else l.getD (l.length - 1) 0)
/-- The first 8 + n words of a key's schedule. -/
def sched (key : List UInt8) : Nat → List Nat
  | 0 => (List.range 8).map (Sm.word key)
  | n + 1 => sched key n ++ [next (sched key n)]
theorem sched_length (key : List UInt8) (n : Nat) : (sched key n).length = 8 + n := by
  induction n with
  | zero => simp [sched]
  | succ n ih => simp [sched, ih]; omega
theorem getD_lt {l : List Nat} (h : ∀ x ∈ l, x < 4294967296) (i : Nat) : l.getD i 0 < 4294967296 := Sm.getD_lt h i
theorem next_lt {l : List Nat} (h : ∀ x ∈ l, x < 4294967296) : next l < 4294967296 := by
  unfold next
  refine xor_lt (getD_lt h _) ?_
  split
  · exact xor_lt (subW_lt _) (Nat.mod_lt _ (by decide))
  · split
    · exact subW_lt _
    · exact getD_lt h _
theorem sched_lt (key : List UInt8) (n : Nat) : ∀ x ∈ sched key n, x < 4294967296 := by
  induction n with
  | zero => intro x hx; obtain ⟨i, _, rfl⟩ := List.mem_map.1 hx; exact Sm.word_lt key i
  | succ n ih =>
    intro x hx
    rcases List.mem_append.1 hx with h | h
    · exact ih x h
    · simp at h; subst h; exact next_lt ih

/-- A block's column i, behind S and the turn of the rows. -/
def col (b : List Nat) (i : Nat) : Nat := subW (be4 (byteAt (b.getD i 0) 0) (byteAt (b.getD ((i + 1) % 4) 0) 1) (byteAt (b.getD ((i + 2) % 4) 0) 2) (byteAt (b.getD ((i + 3) % 4) 0) 3))
def mixed (x : Nat) : Nat := twice (x ^^^ rotl x 8) ^^^ rotl x 8 ^^^ rotl x 16 ^^^ rotl x 24
theorem col_lt (b : List Nat) (i : Nat) : col b i < 4294967296 := subW_lt _
theorem mixed_lt {x : Nat} (h : x < 4294967296) : mixed x < 4294967296 := xor_lt (xor_lt (xor_lt (twice_lt _) (rotl_lt h)) (rotl_lt h)) (rotl_lt h)
/-- A block, the first words xored. -/
def first (w b : List Nat) : List Nat := (List.range 4).map fun i => b.getD i 0 ^^^ w.getD i 0
/-- A round that mixes. -/
def round (w : List Nat) (r : Nat) (b : List Nat) : List Nat := (List.range 4).map fun i => mixed (col b i) ^^^ w.getD (4 * r + i) 0
/-- The last round. -/
def last (w b : List Nat) : List Nat := (List.range 4).map fun i => col b i ^^^ w.getD (56 + i) 0
/-- A block behind the first n rounds. -/
def rounds (w b : List Nat) : Nat → List Nat
  | 0 => first w b
  | n + 1 => round w (n + 1) (rounds w b n)
def enc (w b : List Nat) : List Nat := last w (rounds w b 13)
theorem enc_length (w b : List Nat) : (enc w b).length = 4 := by simp [enc, last]
theorem rounds_length (w b : List Nat) (n : Nat) : (rounds w b n).length = 4 := by cases n <;> simp [rounds, first, round]
theorem range_lt {f : Nat → Nat} (h : ∀ i, f i < 4294967296) (n : Nat) : ∀ x ∈ (List.range n).map f, x < 4294967296 := by
  intro x hx
  obtain ⟨i, _, rfl⟩ := List.mem_map.1 hx
  exact h i
theorem rounds_lt {w b : List Nat} (hw : ∀ x ∈ w, x < 4294967296) (hb : ∀ x ∈ b, x < 4294967296) (n : Nat) : ∀ x ∈ rounds w b n, x < 4294967296 := by
  cases n with
  | zero => exact range_lt (f := fun i => b.getD i 0 ^^^ w.getD i 0) (fun i => xor_lt (getD_lt hb i) (getD_lt hw i)) 4
  | succ n => exact range_lt (f := fun i => mixed (col (rounds w b n) i) ^^^ w.getD (4 * (n + 1) + i) 0) (fun i => xor_lt (mixed_lt (col_lt _ _)) (getD_lt hw _)) 4
theorem enc_lt {w b : List Nat} (hw : ∀ x ∈ w, x < 4294967296) : ∀ x ∈ enc w b, x < 4294967296 := range_lt (f := fun i => col (rounds w b 13) i ^^^ w.getD (56 + i) 0) (fun _ => xor_lt (col_lt _ _) (getD_lt hw _)) 4

/-- A block's columns. -/
def cols (l : List UInt8) : List Nat := (List.range 4).map (Sm.word l)
theorem cols_lt (l : List UInt8) : ∀ x ∈ cols l, x < 4294967296 := range_lt (Sm.word_lt l) 4
theorem cols_length (l : List UInt8) : (cols l).length = 4 := by simp [cols]
/-- A block's bytes. -/
def outB (b : List Nat) (i : Nat) : UInt8 := UInt8.ofNat (byteAt (b.getD (i / 4) 0) (i % 4))
def bytes (b : List Nat) : List UInt8 := (List.range 16).map (outB b)
theorem bytes_length (b : List Nat) : (bytes b).length = 16 := by simp [bytes]
/-- A key's schedule. -/
def ks (key : List UInt8) : List Nat := sched key 52
theorem ks_lt (key : List UInt8) : ∀ x ∈ ks key, x < 4294967296 := sched_lt key 52
theorem ks_length (key : List UInt8) : (ks key).length = 60 := sched_length key 52
/-- A block, enciphered. -/
def block (key l : List UInt8) : List UInt8 := bytes (enc (ks key) (cols l))
theorem block_length (key l : List UInt8) : (block key l).length = 16 := bytes_length _

/- The walk's numbers. -/
theorem w_xor {a b : Nat} (ha : a < 4294967296) (hb : b < 4294967296) : bits .xor .u32 (a : Int) (b : Int) = ((a ^^^ b : Nat) : Int) := Sm.w_xor ha hb
theorem w_xor8 {a b : Nat} (ha : a < 256) (hb : b < 256) : bits .xor .u8 (a : Int) (b : Int) = ((a ^^^ b : Nat) : Int) := by
  have := u8_xor_nat a b ha hb
  simpa using this
theorem twice_nat (x : Nat) (h : x < 256) : twice x % 256 = (x * 2 % 256) ^^^ (if x < 128 then 0 else 27) := by
  have : ∀ x : Fin 256, twice x.val % 256 = (x.val * 2 % 256) ^^^ (if x.val < 128 then 0 else 27) := by decide +kernel
  exact this ⟨x, h⟩
end Go.Proofs.Ytkannddaihlcdaa.Ae
