/-
  Texts that belong together, laid into one.
-/
import Derived.Test.YtibpgmcpcelmpaaGreatDoorMBase
import Derived.Laws.BitsAllLaws
import Derived.Test.YtibpgmcpcelmpaaGreatDoorProg
import Derived.WalkLawsBesides
import Derived.Lib.Hide
import Derived.Outline
import Derived.IntWalk
import Derived.StillTailTactics
/-
  AES-256 as plain functions on numbers, and how the walk's own numbers read as these.
-/
namespace Go.Proofs.YtibpgmcpcelmpaaGreatDoor.Ae
open Sm (be4 be4_lt xor_lt and_lt or_lt)

/-- The byte i of a word. -/
def byteAt (x i : Nat) : Nat := x / 2 ^ (24 - 8 * i) % 256
/-- Each byte of a word, times 2. -/
def twice (x : Nat) : Nat := ((x &&& 2139062143) * 2 % 4294967296) ^^^ ((x &&& 2155905152) / 128 * 27 % 4294967296)
/-- A word, turned to the left. -/
def rotl (x n : Nat) : Nat := x * 2 ^ n % 4294967296 ||| x / 2 ^ (32 - n)
/-- A byte, turned to the left. -/
def rot8 (x n : Nat) : Nat := x * 2 ^ n % 256 ||| x / 2 ^ (8 - n)
def ofM (m : Nat) : Nat := m ^^^ rot8 m 1 ^^^ rot8 m 2 ^^^ rot8 m 3 ^^^ rot8 m 4 ^^^ 99

theorem xor8_lt {a b : Nat} (ha : a < 256) (hb : b < 256) : a ^^^ b < 256 := Nat.xor_lt_two_pow (n := 8) ha hb
theorem or8_lt {a b : Nat} (ha : a < 256) (hb : b < 256) : a ||| b < 256 := Nat.or_lt_two_pow (n := 8) ha hb
theorem byteAt_lt (x i : Nat) : byteAt x i < 256 := Nat.mod_lt _ (by decide)
theorem twice_lt (x : Nat) : twice x < 4294967296 := xor_lt (Nat.mod_lt _ (by decide)) (Nat.mod_lt _ (by decide))
theorem rotl_lt {x n : Nat} (hx : x < 4294967296) : rotl x n < 4294967296 := or_lt (Nat.mod_lt _ (by decide)) (Nat.lt_of_le_of_lt (Nat.div_le_self _ _) hx)
theorem rot8_lt {x n : Nat} (hx : x < 256) : rot8 x n < 256 := or8_lt (Nat.mod_lt _ (by decide)) (Nat.lt_of_le_of_lt (Nat.div_le_self _ _) hx)
theorem ofM_lt {m : Nat} (h : m < 256) : ofM m < 256 := xor8_lt (xor8_lt (xor8_lt (xor8_lt (xor8_lt h (rot8_lt h)) (rot8_lt h)) (rot8_lt h)) (rot8_lt h)) (by decide)

/-- One power of 3 further. -/
def step3 (x : Nat) : Nat := x ^^^ twice x % 256
theorem step3_lt {x : Nat} (h : x < 256) : step3 x < 256 := xor8_lt h (Nat.mod_lt _ (by decide))
def pw : Nat → Nat
  | 0 => 1
  | i + 1 => step3 (pw i)
theorem pw_lt (i : Nat) : pw i < 256 := by
  induction i with
  | zero => decide
  | succ i ih => exact step3_lt ih
/-- The powers' row, behind k rounds. -/
def pwRow (k : Nat) : List UInt8 := (List.range (k + 1)).map fun i => UInt8.ofNat (pw i)
/-- S's row, behind k rounds. -/
def sRow : Nat → List UInt8
  | 0 => List.replicate 256 0
  | k + 1 => (sRow k).set (pw k) (UInt8.ofNat (ofM (pw (255 - k))))
theorem sRow_length (k : Nat) : (sRow k).length = 256 := by
  induction k with
  | zero => exact List.length_replicate ..
  | succ k ih => rw [sRow, List.length_set]; exact ih
/-- S. -/
def box : List UInt8 := (sRow 255).set 0 (UInt8.ofNat (ofM 0))
theorem box_length : box.length = 256 := by rw [box, List.length_set]; exact sRow_length 255
def pwL : List Nat := [1, 3, 5, 15, 17, 51, 85, 255, 26, 46, 114, 150, 161, 248, 19, 53, 95, 225, 56, 72, 216, 115, 149, 164, 247, 2, 6, 10, 30, 34, 102, 170, 229, 52, 92, 228, 55, 89, 235, 38, 106, 190, 217, 112, 144, 171, 230, 49, 83, 245, 4, 12, 20, 60, 68, 204, 79, 209, 104, 184, 211, 110, 178, 205, 76, 212, 103, 169, 224, 59, 77, 215, 98, 166, 241, 8, 24, 40, 120, 136, 131, 158, 185, 208, 107, 189, 220, 127, 129, 152, 179, 206, 73, 219, 118, 154, 181, 196, 87, 249, 16, 48, 80, 240, 11, 29, 39, 105, 187, 214, 97, 163, 254, 25, 43, 125, 135, 146, 173, 236, 47, 113, 147, 174, 233, 32, 96, 160, 251, 22, 58, 78, 210, 109, 183, 194, 93, 231, 50, 86, 250, 21, 63, 65, 195, 94, 226, 61, 71, 201, 64, 192, 91, 237, 44, 116, 156, 191, 218, 117, 159, 186, 213, 100, 172, 239, 42, 126, 130, 157, 188, 223, 122, 142, 137, 128, 155, 182, 193, 88, 232, 35, 101, 175, 234, 37, 111, 177, 200, 67, 197, 84, 252, 31, 33, 99, 165, 244, 7, 9, 27, 45, 119, 153, 176, 203, 70, 202, 69, 207, 74, 222, 121, 139, 134, 145, 168, 227, 62, 66, 198, 81, 243, 14, 18, 54, 90, 238, 41, 123, 141, 140, 143, 138, 133, 148, 167, 242, 13, 23, 57, 75, 221, 124, 132, 151, 162, 253, 28, 36, 108, 180, 199, 82, 246, 1]
def boxL : List Nat := [99, 124, 119, 123, 242, 107, 111, 197, 48, 1, 103, 43, 254, 215, 171, 118, 202, 130, 201, 125, 250, 89, 71, 240, 173, 212, 162, 175, 156, 164, 114, 192, 183, 253, 147, 38, 54, 63, 247, 204, 52, 165, 229, 241, 113, 216, 49, 21, 4, 199, 35, 195, 24, 150, 5, 154, 7, 18, 128, 226, 235, 39, 178, 117, 9, 131, 44, 26, 27, 110, 90, 160, 82, 59, 214, 179, 41, 227, 47, 132, 83, 209, 0, 237, 32, 252, 177, 91, 106, 203, 190, 57, 74, 76, 88, 207, 208, 239, 170, 251, 67, 77, 51, 133, 69, 249, 2, 127, 80, 60, 159, 168, 81, 163, 64, 143, 146, 157, 56, 245, 188, 182, 218, 33, 16, 255, 243, 210, 205, 12, 19, 236, 95, 151, 68, 23, 196, 167, 126, 61, 100, 93, 25, 115, 96, 129, 79, 220, 34, 42, 144, 136, 70, 238, 184, 20, 222, 94, 11, 219, 224, 50, 58, 10, 73, 6, 36, 92, 194, 211, 172, 98, 145, 149, 228, 121, 231, 200, 55, 109, 141, 213, 78, 169, 108, 86, 244, 234, 101, 122, 174, 8, 186, 120, 37, 46, 28, 166, 180, 198, 232, 221, 116, 31, 75, 189, 139, 138, 112, 62, 181, 102, 72, 3, 246, 14, 97, 53, 87, 185, 134, 193, 29, 158, 225, 248, 152, 17, 105, 217, 142, 148, 155, 30, 135, 233, 206, 85, 40, 223, 140, 161, 137, 13, 191, 230, 66, 104, 65, 153, 45, 15, 176, 84, 187, 22]
def boxB : List UInt8 := boxL.map UInt8.ofNat
theorem pwL_ok : (List.range 255).all (fun i => pwL.getD (i + 1) 0 == step3 (pwL.getD i 0)) = true := by decide +kernel
theorem pw_eq (i : Nat) (h : i ≤ 255) : pw i = pwL.getD i 0 := by
  induction i with
  | zero => rfl
  | succ i ih =>
    have h1 := List.all_eq_true.1 pwL_ok i (List.mem_range.2 (by omega))
    rw [beq_iff_eq] at h1
    rw [pw, ih (by omega), h1]
/-- S's row again, out of the table of powers. -/
def sRowL : Nat → List UInt8
  | 0 => List.replicate 256 0
  | k + 1 => (sRowL k).set (pwL.getD k 0) (UInt8.ofNat (ofM (pwL.getD (255 - k) 0)))
theorem sRow_eq (k : Nat) (h : k ≤ 255) : sRow k = sRowL k := by
  induction k with
  | zero => rfl
  | succ k ih => rw [sRow, sRowL, ih (by omega), pw_eq k (by omega), pw_eq (255 - k) (by omega)]
set_option maxRecDepth 100000 in
theorem boxL_ok : (sRowL 255).set 0 (UInt8.ofNat (ofM 0)) = boxB := by decide +kernel
theorem box_eq : box = boxB := by rw [box, sRow_eq 255 (by omega), boxL_ok]
/-- S of a byte. -/
def sub1 (x : Nat) : Nat := boxL.getD x 0
theorem boxL_lt : ∀ x ∈ boxL, x < 256 := by decide +kernel
theorem getD_all {l : List Nat} {B : Nat} (h : ∀ x ∈ l, x < B) (hB : 0 < B) (i : Nat) : l.getD i 0 < B := by
  rw [List.getD_eq_getElem?_getD]
  cases hq : l[i]? with
  | none => exact hB
  | some x => exact h x (List.mem_of_getElem? hq)
theorem sub1_lt (x : Nat) : sub1 x < 256 := getD_all boxL_lt (by decide) x
theorem boxL_length : boxL.length = 256 := by decide +kernel
theorem map_byte {l : List Nat} (h : ∀ x ∈ l, x < 256) (x : Nat) (hx : x < l.length) : ((l.map UInt8.ofNat).getD x 0).toNat = l.getD x 0 := by
  rw [List.getD_eq_getElem?_getD, List.getD_eq_getElem?_getD, List.getElem?_map, List.getElem?_eq_getElem hx]
  show (UInt8.ofNat l[x]).toNat = l[x]
  rw [UInt8.toNat_ofNat']
  exact Nat.mod_eq_of_lt (h _ (List.getElem_mem _))
theorem sub1_box (x : Nat) (h : x < 256) : (box.getD x 0).toNat = sub1 x := by
  rw [box_eq]
  exact map_byte boxL_lt x (by rw [boxL_length]; exact h)
/-- S of each byte of a word. -/
def subW (x : Nat) : Nat := be4 (sub1 (byteAt x 0)) (sub1 (byteAt x 1)) (sub1 (byteAt x 2)) (sub1 (byteAt x 3))
theorem subW_lt (x : Nat) : subW x < 4294967296 := be4_lt (sub1_lt _) (sub1_lt _) (sub1_lt _) (sub1_lt _)

/-- The power of 2 ahead of the words 8n. -/
def pow2 : Nat → Nat
  | 0 => 1
  | n + 1 => twice (pow2 n)
theorem pow2_lt (n : Nat) : pow2 n < 4294967296 := by
  cases n with
  | zero => decide
  | succ n => exact twice_lt _
/-- A schedule's words that are the key's own. -/
def kword (key : List UInt8) (i : Nat) : Nat := Sm.word key i
/-- The word behind these. -/
def next (l : List Nat) : Nat :=
  l.getD (l.length - 8) 0 ^^^ (if l.length % 8 = 0 then subW (rotl (l.getD (l.length - 1) 0) 8) ^^^ pow2 (l.length / 8 - 1) * 2 ^ 24 % 4294967296
    else if l.length % 8 = 4 then subW (l.getD (l.length - 1) 0) else l.getD (l.length - 1) 0)
/-- The first 8 + n words of a key's schedule. -/
def sched (key : List UInt8) : Nat → List Nat
  | 0 => (List.range 8).map (Sm.word key)
  | n + 1 => sched key n ++ [next (sched key n)]
theorem sched_length (key : List UInt8) (n : Nat) : (sched key n).length = 8 + n := by
  induction n with
  | zero => simp [sched]
  | succ n ih => simp [sched, ih]; omega
theorem getD_lt {l : List Nat} (h : ∀ x ∈ l, x < 4294967296) (i : Nat) : l.getD i 0 < 4294967296 := Sm.getD_lt h i
theorem next_lt {l : List Nat} (h : ∀ x ∈ l, x < 4294967296) : next l < 4294967296 := by
  unfold next
  refine xor_lt (getD_lt h _) ?_
  split
  · exact xor_lt (subW_lt _) (Nat.mod_lt _ (by decide))
  · split
    · exact subW_lt _
    · exact getD_lt h _
theorem sched_lt (key : List UInt8) (n : Nat) : ∀ x ∈ sched key n, x < 4294967296 := by
  induction n with
  | zero => intro x hx; obtain ⟨i, _, rfl⟩ := List.mem_map.1 hx; exact Sm.word_lt key i
  | succ n ih =>
    intro x hx
    rcases List.mem_append.1 hx with h | h
    · exact ih x h
    · simp at h; subst h; exact next_lt ih

/-- A block's column i, behind S and the turn of the rows. -/
def col (b : List Nat) (i : Nat) : Nat := subW (be4 (byteAt (b.getD i 0) 0) (byteAt (b.getD ((i + 1) % 4) 0) 1) (byteAt (b.getD ((i + 2) % 4) 0) 2) (byteAt (b.getD ((i + 3) % 4) 0) 3))
def mixed (x : Nat) : Nat := twice (x ^^^ rotl x 8) ^^^ rotl x 8 ^^^ rotl x 16 ^^^ rotl x 24
theorem col_lt (b : List Nat) (i : Nat) : col b i < 4294967296 := subW_lt _
theorem mixed_lt {x : Nat} (h : x < 4294967296) : mixed x < 4294967296 := xor_lt (xor_lt (xor_lt (twice_lt _) (rotl_lt h)) (rotl_lt h)) (rotl_lt h)
/-- A block, the first words xored. -/
def first (w b : List Nat) : List Nat := (List.range 4).map fun i => b.getD i 0 ^^^ w.getD i 0
/-- A round that mixes. -/
def round (w : List Nat) (r : Nat) (b : List Nat) : List Nat := (List.range 4).map fun i => mixed (col b i) ^^^ w.getD (4 * r + i) 0
/-- The last round. -/
def last (w b : List Nat) : List Nat := (List.range 4).map fun i => col b i ^^^ w.getD (56 + i) 0
/-- A block behind the first n rounds. -/
def rounds (w b : List Nat) : Nat → List Nat
  | 0 => first w b
  | n + 1 => round w (n + 1) (rounds w b n)
def enc (w b : List Nat) : List Nat := last w (rounds w b 13)
theorem enc_length (w b : List Nat) : (enc w b).length = 4 := by simp [enc, last]
theorem rounds_length (w b : List Nat) (n : Nat) : (rounds w b n).length = 4 := by cases n <;> simp [rounds, first, round]
theorem range_lt {f : Nat → Nat} (h : ∀ i, f i < 4294967296) (n : Nat) : ∀ x ∈ (List.range n).map f, x < 4294967296 := by
  intro x hx
  obtain ⟨i, _, rfl⟩ := List.mem_map.1 hx
  exact h i
theorem rounds_lt {w b : List Nat} (hw : ∀ x ∈ w, x < 4294967296) (hb : ∀ x ∈ b, x < 4294967296) (n : Nat) : ∀ x ∈ rounds w b n, x < 4294967296 := by
  cases n with
  | zero => exact range_lt (f := fun i => b.getD i 0 ^^^ w.getD i 0) (fun i => xor_lt (getD_lt hb i) (getD_lt hw i)) 4
  | succ n => exact range_lt (f := fun i => mixed (col (rounds w b n) i) ^^^ w.getD (4 * (n + 1) + i) 0) (fun i => xor_lt (mixed_lt (col_lt _ _)) (getD_lt hw _)) 4
theorem enc_lt {w b : List Nat} (hw : ∀ x ∈ w, x < 4294967296) : ∀ x ∈ enc w b, x < 4294967296 := range_lt (f := fun i => col (rounds w b 13) i ^^^ w.getD (56 + i) 0) (fun _ => xor_lt (col_lt _ _) (getD_lt hw _)) 4

/-- A block's columns. -/
def cols (l : List UInt8) : List Nat := (List.range 4).map (Sm.word l)
theorem cols_lt (l : List UInt8) : ∀ x ∈ cols l, x < 4294967296 := range_lt (Sm.word_lt l) 4
theorem cols_length (l : List UInt8) : (cols l).length = 4 := by simp [cols]
/-- A block's bytes. -/
def outB (b : List Nat) (i : Nat) : UInt8 := UInt8.ofNat (byteAt (b.getD (i / 4) 0) (i % 4))
def bytes (b : List Nat) : List UInt8 := (List.range 16).map (outB b)
theorem bytes_length (b : List Nat) : (bytes b).length = 16 := by simp [bytes]
/-- A key's schedule. -/
def ks (key : List UInt8) : List Nat := sched key 52
theorem ks_lt (key : List UInt8) : ∀ x ∈ ks key, x < 4294967296 := sched_lt key 52
theorem ks_length (key : List UInt8) : (ks key).length = 60 := sched_length key 52
/-- A block, enciphered. -/
def block (key l : List UInt8) : List UInt8 := bytes (enc (ks key) (cols l))
theorem block_length (key l : List UInt8) : (block key l).length = 16 := bytes_length _

/- The walk's numbers. -/
theorem w_xor {a b : Nat} (ha : a < 4294967296) (hb : b < 4294967296) : bits .xor .u32 (a : Int) (b : Int) = ((a ^^^ b : Nat) : Int) := Sm.w_xor ha hb
theorem w_xor8 {a b : Nat} (ha : a < 256) (hb : b < 256) : bits .xor .u8 (a : Int) (b : Int) = ((a ^^^ b : Nat) : Int) := by
  have := u8_xor_nat a b ha hb
  simpa using this
theorem twice_nat (x : Nat) (h : x < 256) : twice x % 256 = (x * 2 % 256) ^^^ (if x < 128 then 0 else 27) := by
  have : ∀ x : Fin 256, twice x.val % 256 = (x.val * 2 % 256) ^^^ (if x.val < 128 then 0 else 27) := by decide +kernel
  exact this ⟨x, h⟩
end Go.Proofs.YtibpgmcpcelmpaaGreatDoor.Ae

/-
  What word, byteAt, twice, the two turns, ofMirror and mixed do.
-/
namespace Go.Proofs.YtibpgmcpcelmpaaGreatDoor
open Go.RowKit

theorem ret_u32a {a b : Int} (h : a = b) : Ending.returned (.int .u32 a) = .returned (.int .u32 b) := by rw [h]
theorem ret_u8 {a b : Int} (h : a = b) : Ending.returned (.int .u8 a) = .returned (.int .u8 b) := by rw [h]

theorem word_any (a b c d : Nat) (ha : a < 256) (hb : b < 256) (hc : c < 256) (hd : d < 256) (w : World) :
    Calls Tryz.prog 123 #[.int .u8 a, .int .u8 b, .int .u8 c, .int .u8 d] w fun e w' => e = .returned (.int .u32 (Sm.be4 a b c d : Nat)) ∧ w = w' := by
  go_enter Tryz.func123, Tryz.ntmps123
  go_wp2
  go_ret
  refine ⟨ret_u32a ?_, rfl⟩
  rw [show (a : Int) * 16777216 = ((a * 16777216 : Nat) : Int) by omega, show (b : Int) * 65536 = ((b * 65536 : Nat) : Int) by omega, show (c : Int) * 256 = ((c * 256 : Nat) : Int) by omega,
    Sm.w_or (by omega) (by omega), Sm.w_or (Sm.or_lt (by omega) (by omega)) (by omega), Sm.w_or (Sm.or_lt (Sm.or_lt (by omega) (by omega)) (by omega)) (by omega), Sm.be4_or _ _ _ _ ha hb hc hd]

theorem byteAt_any (x i : Nat) (_hx : x < 4294967296) (hi : i < 4) (w : World) :
    Calls Tryz.prog 126 #[.int .u32 x, .int .i64 i] w fun e w' => e = .returned (.int .u8 (Ae.byteAt x i : Nat)) ∧ w = w' := by
  go_enter Tryz.func126, Tryz.ntmps126
  go_wp2
  go_ret
  refine ⟨ret_u8 ?_, rfl⟩
  unfold Ae.byteAt
  rw [Int.natCast_emod, Int.natCast_ediv, Int.natCast_pow]
  rfl

theorem twice_any (x : Nat) (hx : x < 4294967296) (w : World) :
    Calls Tryz.prog 135 #[.int .u32 x] w fun e w' => e = .returned (.int .u32 (Ae.twice x : Nat)) ∧ w = w' := by
  go_enter Tryz.func135, Tryz.ntmps135
  go_wp2
  go_ret
  refine ⟨ret_u32a ?_, rfl⟩
  have e1 : bits .andNot .u32 (x : Int) 2155905152 = ((x &&& 2139062143 : Nat) : Int) := u32_andNot_nat x 2155905152 hx (by decide)
  have e2 : bits .and .u32 (x : Int) 2155905152 = ((x &&& 2155905152 : Nat) : Int) := Sm.w_and (b := 2155905152) hx (by decide)
  rw [e1, e2]
  unfold Ae.twice
  generalize x &&& 2139062143 = y
  generalize x &&& 2155905152 = z
  rw [show ((y : Int) * 2 % 4294967296) = ((y * 2 % 4294967296 : Nat) : Int) by omega, show ((z : Int) / 128 * 27 % 4294967296) = ((z / 128 * 27 % 4294967296 : Nat) : Int) by omega]
  exact Sm.w_xor (Nat.mod_lt _ (by decide)) (Nat.mod_lt _ (by decide))

theorem and31a (x : Nat) (h : x < 18446744073709551616) : bits .and .u64 (x : Int) 31 = ((x % 32 : Nat) : Int) := by
  have := bits_mask .u64 64 (by decide) (fun n h0 h1 => by simp [IntKind.wrap, IntKind.bits, IntKind.signed]; omega) 5 (by decide) (x : Int) (by omega) (by omega)
  simpa using this
theorem and7 (x : Nat) (h : x < 18446744073709551616) : bits .and .u64 (x : Int) 7 = ((x % 8 : Nat) : Int) := by
  have := bits_mask .u64 64 (by decide) (fun n h0 h1 => by simp [IntKind.wrap, IntKind.bits, IntKind.signed]; omega) 3 (by decide) (x : Int) (by omega) (by omega)
  simpa using this

set_option maxHeartbeats 400000 in
theorem rotl32_any (x n : Nat) (hx : x < 4294967296) (h1 : 1 ≤ n) (h2 : n ≤ 31) (w : World) :
    Calls Tryz.prog 138 #[.int .u32 x, .int .i64 n] w fun e w' => e = .returned (.int .u32 (Ae.rotl x n : Nat)) ∧ w = w' := by
  have hk : bits .and .u64 (n : Int) 31 = (n : Int) := by rw [and31a _ (by omega)]; omega
  go_enter Tryz.func138, Tryz.ntmps138
  go_wp2
  go_ret
  refine ⟨ret_u32a ?_, rfl⟩
  have e3 : ((x : Int) * 2 ^ n) = ((x * 2 ^ n : Nat) : Int) := by push_cast; rfl
  have e4 : ((x : Int) / 2 ^ (32 - n)) = ((x / 2 ^ (32 - n) : Nat) : Int) := by push_cast; rfl
  rw [e3, e4, show ((x * 2 ^ n : Nat) : Int) % 4294967296 = ((x * 2 ^ n % 4294967296 : Nat) : Int) by omega]
  exact Sm.w_or (Nat.mod_lt _ (by decide)) (Nat.lt_of_le_of_lt (Nat.div_le_self _ _) hx)

set_option maxHeartbeats 400000 in
theorem rotl8_any (x n : Nat) (hx : x < 256) (h1 : 1 ≤ n) (h2 : n ≤ 7) (w : World) :
    Calls Tryz.prog 141 #[.int .u8 x, .int .i64 n] w fun e w' => e = .returned (.int .u8 (Ae.rot8 x n : Nat)) ∧ w = w' := by
  have hk : bits .and .u64 (n : Int) 7 = (n : Int) := by rw [and7 _ (by omega)]; omega
  go_enter Tryz.func141, Tryz.ntmps141
  go_wp2
  go_ret
  refine ⟨ret_u8 ?_, rfl⟩
  have e3 : ((x : Int) * 2 ^ n) = ((x * 2 ^ n : Nat) : Int) := by push_cast; rfl
  have e4 : ((x : Int) / 2 ^ (8 - n)) = ((x / 2 ^ (8 - n) : Nat) : Int) := by push_cast; rfl
  rw [e3, e4, show ((x * 2 ^ n : Nat) : Int) % 256 = ((x * 2 ^ n % 256 : Nat) : Int) by omega]
  exact u8_or_nat _ _ (Nat.mod_lt _ (by decide)) (Nat.lt_of_le_of_lt (Nat.div_le_self _ _) hx)

set_option maxHeartbeats 400000 in
theorem ofMirror_any (m : Nat) (hm : m < 256) (w : World) :
    Calls Tryz.prog 136 #[.int .u8 m] w fun e w' => e = .returned (.int .u8 (Ae.ofM m : Nat)) ∧ w = w' := by
  have R := Lib.hid (fun (n : Nat) (h1 : 1 ≤ n) (h2 : n ≤ 7) (wx : World) => rotl8_any m n hm h1 h2 wx)
  have HM := Lib.hid hm
  have l1 := Ae.rot8_lt (n := 1) hm
  have l2 := Ae.rot8_lt (n := 2) hm
  have l3 := Ae.rot8_lt (n := 3) hm
  have l4 := Ae.rot8_lt (n := 4) hm
  have HO : Hid (Ae.ofM m = m ^^^ Ae.rot8 m 1 ^^^ Ae.rot8 m 2 ^^^ Ae.rot8 m 3 ^^^ Ae.rot8 m 4 ^^^ 99) := rfl
  go_enter Tryz.func136, Tryz.ntmps136
  go_wp2_with fail
  refine (R.out 1 (by decide) (by decide) _).mono ?_
  rintro e w' ⟨rfl, rfl⟩
  go_wp2_with fail
  refine (R.out 2 (by decide) (by decide) _).mono ?_
  rintro e w' ⟨rfl, rfl⟩
  go_wp2_with fail
  refine (R.out 3 (by decide) (by decide) _).mono ?_
  rintro e w' ⟨rfl, rfl⟩
  go_wp2_with fail
  refine (R.out 4 (by decide) (by decide) _).mono ?_
  rintro e w' ⟨rfl, rfl⟩
  go_wp2
  go_ret
  refine ⟨ret_u8 ?_, rfl⟩
  rw [HO.out, Ae.w_xor8 hm l1, Ae.w_xor8 (Ae.xor8_lt hm l1) l2, Ae.w_xor8 (Ae.xor8_lt (Ae.xor8_lt hm l1) l2) l3, Ae.w_xor8 (Ae.xor8_lt (Ae.xor8_lt (Ae.xor8_lt hm l1) l2) l3) l4]
  exact Ae.w_xor8 (b := 99) (Ae.xor8_lt (Ae.xor8_lt (Ae.xor8_lt (Ae.xor8_lt hm l1) l2) l3) l4) (by decide)

set_option maxHeartbeats 400000 in
theorem mixed_any (x : Nat) (hx : x < 4294967296) (w : World) :
    Calls Tryz.prog 124 #[.int .u32 x] w fun e w' => e = .returned (.int .u32 (Ae.mixed x : Nat)) ∧ w = w' := by
  have R := Lib.hid (fun (n : Nat) (h1 : 1 ≤ n) (h2 : n ≤ 31) (wx : World) => rotl32_any x n hx h1 h2 wx)
  have l1 := Ae.rotl_lt (n := 8) hx
  have l2 := Ae.rotl_lt (n := 16) hx
  have l3 := Ae.rotl_lt (n := 24) hx
  have X1 := Ae.w_xor hx l1
  have l4 := Ae.twice_lt (x ^^^ Ae.rotl x 8)
  have T := Lib.hid (twice_any (x ^^^ Ae.rotl x 8) (Sm.xor_lt hx l1))
  have HO : Hid (Ae.mixed x = Ae.twice (x ^^^ Ae.rotl x 8) ^^^ Ae.rotl x 8 ^^^ Ae.rotl x 16 ^^^ Ae.rotl x 24) := rfl
  go_enter Tryz.func124, Tryz.ntmps124
  go_wp2_with fail
  refine (R.out 8 (by decide) (by decide) _).mono ?_
  rintro e w' ⟨rfl, rfl⟩
  go_wp2_with fail
  refine (T.out _).mono ?_
  rintro e w' ⟨rfl, rfl⟩
  go_wp2_with fail
  refine (R.out 16 (by decide) (by decide) _).mono ?_
  rintro e w' ⟨rfl, rfl⟩
  go_wp2_with fail
  refine (R.out 24 (by decide) (by decide) _).mono ?_
  rintro e w' ⟨rfl, rfl⟩
  go_wp2
  go_ret
  refine ⟨ret_u32a ?_, rfl⟩
  rw [HO.out, Ae.w_xor l4 l1, Ae.w_xor (Sm.xor_lt l4 l1) l2]
  exact Ae.w_xor (Sm.xor_lt (Sm.xor_lt l4 l1) l2) l3
end Go.Proofs.YtibpgmcpcelmpaaGreatDoor

/-
  What of and column do, where S lies in a row; and newBox, that makes it.
-/
namespace Go.Proofs.YtibpgmcpcelmpaaGreatDoor
open Go.RowKit
namespace Ae
/-- S lies at the head of block b. -/
def BoxAt (w : World) (b : Nat) : Prop := ∀ i, i < 256 → w.cell? ⟨b, i, none⟩ = some (.int .u8 (sub1 i : Nat))
/-- Four words lie at the head of block b. -/
def FourAt (w : World) (b : Nat) (l : List Nat) : Prop := ∀ i, i < 4 → w.cell? ⟨b, i, none⟩ = some (.int .u32 (l.getD i 0 : Nat))
end Ae

set_option maxHeartbeats 1000000 in
theorem boxOf_any {w : World} {b : Nat} (hS : Ae.BoxAt w b) (x : Nat) (hx : x < 4294967296) :
    Calls Tryz.prog 137 #[.pointer (some ⟨b, 0, none⟩), .int .u32 x] w fun e w' => e = .returned (.int .u32 (Ae.subW x : Nat)) ∧ ∃ n, w' = w.drewN n := by
  have B0 : Hid (∀ wx : World, Calls Tryz.prog 126 #[.int .u32 x, .int .i64 0] wx fun e w' => e = .returned (.int .u8 (Ae.byteAt x 0 : Nat)) ∧ wx = w') := fun wx => byteAt_any x 0 hx (by decide) wx
  have B1 : Hid (∀ wx : World, Calls Tryz.prog 126 #[.int .u32 x, .int .i64 1] wx fun e w' => e = .returned (.int .u8 (Ae.byteAt x 1 : Nat)) ∧ wx = w') := fun wx => byteAt_any x 1 hx (by decide) wx
  have B2 : Hid (∀ wx : World, Calls Tryz.prog 126 #[.int .u32 x, .int .i64 2] wx fun e w' => e = .returned (.int .u8 (Ae.byteAt x 2 : Nat)) ∧ wx = w') := fun wx => byteAt_any x 2 hx (by decide) wx
  have B3 : Hid (∀ wx : World, Calls Tryz.prog 126 #[.int .u32 x, .int .i64 3] wx fun e w' => e = .returned (.int .u8 (Ae.byteAt x 3 : Nat)) ∧ wx = w') := fun wx => byteAt_any x 3 hx (by decide) wx
  have s0 := hS (Ae.byteAt x 0) (Ae.byteAt_lt _ _)
  have s1 := hS (Ae.byteAt x 1) (Ae.byteAt_lt _ _)
  have s2 := hS (Ae.byteAt x 2) (Ae.byteAt_lt _ _)
  have s3 := hS (Ae.byteAt x 3) (Ae.byteAt_lt _ _)
  have l0 := Ae.byteAt_lt x 0
  have l1 := Ae.byteAt_lt x 1
  have l2 := Ae.byteAt_lt x 2
  have l3 := Ae.byteAt_lt x 3
  have W := Lib.hid (word_any (Ae.sub1 (Ae.byteAt x 0)) (Ae.sub1 (Ae.byteAt x 1)) (Ae.sub1 (Ae.byteAt x 2)) (Ae.sub1 (Ae.byteAt x 3)) (Ae.sub1_lt _) (Ae.sub1_lt _) (Ae.sub1_lt _) (Ae.sub1_lt _))
  have HO : Hid (Ae.subW x = Sm.be4 (Ae.sub1 (Ae.byteAt x 0)) (Ae.sub1 (Ae.byteAt x 1)) (Ae.sub1 (Ae.byteAt x 2)) (Ae.sub1 (Ae.byteAt x 3))) := rfl
  generalize Ae.sub1 (Ae.byteAt x 0) = y0 at *
  generalize Ae.sub1 (Ae.byteAt x 1) = y1 at *
  generalize Ae.sub1 (Ae.byteAt x 2) = y2 at *
  generalize Ae.sub1 (Ae.byteAt x 3) = y3 at *
  generalize Ae.byteAt x 0 = x0 at *
  generalize Ae.byteAt x 1 = x1 at *
  generalize Ae.byteAt x 2 = x2 at *
  generalize Ae.byteAt x 3 = x3 at *
  have i0 : (x0 : Int) < 256 := by omega
  have i1 : (x1 : Int) < 256 := by omega
  have i2 : (x2 : Int) < 256 := by omega
  have i3 : (x3 : Int) < 256 := by omega
  clear hS l0 l1 l2 l3
  go_enter Tryz.func137, Tryz.ntmps137
  go_wp2_with fail
  go_quiet ((first
    | (go_at_call 126; with_reducible exact Sm.q_one (B0.out _))
    | (go_at_call 126; with_reducible exact Sm.q_more (B0.out _))
    | (go_at_call 126; with_reducible exact Sm.q_one (B1.out _))
    | (go_at_call 126; with_reducible exact Sm.q_more (B1.out _))
    | (go_at_call 126; with_reducible exact Sm.q_one (B2.out _))
    | (go_at_call 126; with_reducible exact Sm.q_more (B2.out _))
    | (go_at_call 126; with_reducible exact Sm.q_one (B3.out _))
    | (go_at_call 126; with_reducible exact Sm.q_more (B3.out _))
    | (go_at_call 123; with_reducible exact Sm.q_one (W.out _))
    | (go_at_call 123; with_reducible exact Sm.q_more (W.out _))))
  go_wp2
  go_ret
  exact ⟨by rw [HO.out]; rfl, _, rfl⟩

set_option maxHeartbeats 2000000 in
theorem column_any {w : World} {b N : Nat} {l : List Nat} (hS : Ae.BoxAt w b) (h4 : Ae.FourAt w N l) (hl : ∀ x ∈ l, x < 4294967296) (i : Nat) (hi : i < 4) :
    Calls Tryz.prog 125 #[.pointer (some ⟨b, 0, none⟩), .pointer (some ⟨N, 0, none⟩), .int .i64 i] w fun e w' => e = .returned (.int .u32 (Ae.col l i : Nat)) ∧ ∃ n, w' = w.drewN n := by
  have c0 := h4 i hi
  have c1 := h4 ((i + 1) % 4) (Nat.mod_lt _ (by decide))
  have c2 := h4 ((i + 2) % 4) (Nat.mod_lt _ (by decide))
  have c3 := h4 ((i + 3) % 4) (Nat.mod_lt _ (by decide))
  have HO : Hid (Ae.col l i = Ae.subW (Sm.be4 (Ae.byteAt (l.getD i 0) 0) (Ae.byteAt (l.getD ((i + 1) % 4) 0) 1) (Ae.byteAt (l.getD ((i + 2) % 4) 0) 2) (Ae.byteAt (l.getD ((i + 3) % 4) 0) 3))) := rfl
  have l0 := Sm.getD_lt hl i
  have l1 := Sm.getD_lt hl ((i + 1) % 4)
  have l2 := Sm.getD_lt hl ((i + 2) % 4)
  have l3 := Sm.getD_lt hl ((i + 3) % 4)
  generalize l.getD i 0 = x0 at *
  generalize l.getD ((i + 1) % 4) 0 = x1 at *
  generalize l.getD ((i + 2) % 4) 0 = x2 at *
  generalize l.getD ((i + 3) % 4) 0 = x3 at *
  have B := Lib.hid (fun (x : Nat) (hx : x < 4294967296) (i : Nat) (hi : i < 4) (wx : World) => byteAt_any x i hx hi wx)
  have W := Lib.hid (word_any (Ae.byteAt x0 0) (Ae.byteAt x1 1) (Ae.byteAt x2 2) (Ae.byteAt x3 3) (Ae.byteAt_lt _ _) (Ae.byteAt_lt _ _) (Ae.byteAt_lt _ _) (Ae.byteAt_lt _ _))
  have OF : Hid (∀ n, Calls Tryz.prog 137 #[.pointer (some ⟨b, 0, none⟩), .int .u32 (Sm.be4 (Ae.byteAt x0 0) (Ae.byteAt x1 1) (Ae.byteAt x2 2) (Ae.byteAt x3 3) : Nat)] (w.drewN n) fun e w' => e = .returned (.int .u32 (Ae.col l i : Nat)) ∧ ∃ m, w' = w.drewN m) := fun n => by
    rw [HO.out]
    exact (boxOf_any (w := w.drewN n) hS _ (Sm.be4_lt (Ae.byteAt_lt _ _) (Ae.byteAt_lt _ _) (Ae.byteAt_lt _ _) (Ae.byteAt_lt _ _))).mono fun e w' ⟨h1, m, h2⟩ => ⟨h1, n + m, by rw [h2, World.drewN_drewN]⟩
  clear hS h4 hl HO
  generalize Ae.col l i = r at *
  obtain rfl | rfl | rfl | rfl : i = 0 ∨ i = 1 ∨ i = 2 ∨ i = 3 := by omega
  all_goals
    simp only [Nat.reduceAdd, Nat.reduceMod] at c1 c2 c3
    go_enter Tryz.func125, Tryz.ntmps125
    go_wp2_with fail
    go_quiet (fail)
    go_wp2_with fail
    refine (B.out _ l0 0 (by decide) _).mono ?_
    rintro e w' ⟨rfl, rfl⟩
    go_wp2_with fail
    refine (B.out _ l1 1 (by decide) _).mono ?_
    rintro e w' ⟨rfl, rfl⟩
    go_wp2_with fail
    refine (B.out _ l2 2 (by decide) _).mono ?_
    rintro e w' ⟨rfl, rfl⟩
    go_wp2_with fail
    refine (B.out _ l3 3 (by decide) _).mono ?_
    rintro e w' ⟨rfl, rfl⟩
    go_wp2_with fail
    refine (W.out _).mono ?_
    rintro e w' ⟨rfl, rfl⟩
    go_wp2_with fail
    refine (OF.out _).mono ?_
    rintro e w' ⟨rfl, m, rfl⟩
    go_wp2
    go_ret
    exact ⟨rfl, m, rfl⟩
end Go.Proofs.YtibpgmcpcelmpaaGreatDoor

/-
  What newBox makes: S of all bytes.
-/
namespace Go.Proofs.YtibpgmcpcelmpaaGreatDoor
open Go.RowKit
namespace Ae
theorem pwRow_length (k : Nat) : (pwRow k).length = k + 1 := by simp [pwRow]
theorem pwRow_get (k i : Nat) (h : i ≤ k) : ((pwRow k).getD i 0).toNat = pw i := by
  have : (pwRow k)[i]? = some (UInt8.ofNat (pw i)) := by simp [pwRow, show i < k + 1 by omega]
  rw [List.getD_eq_getElem?_getD, this]
  show (UInt8.ofNat (pw i)).toNat = pw i
  rw [UInt8.toNat_ofNat']
  exact Nat.mod_eq_of_lt (pw_lt i)
theorem pwRow_snoc (k : Nat) : pwRow (k + 1) = pwRow k ++ [UInt8.ofNat (pw (k + 1))] := by
  unfold pwRow; rw [List.range_succ]; simp
theorem ofNat8 (x : Nat) (h : x < 256) : ((UInt8.ofNat x).toNat : Int) = x := by
  rw [UInt8.toNat_ofNat']; omega
theorem heap_pw (w : World) : (w.alloc (.cells (Sm.rowB 256 []) 192)).heap[w.heap.size]? = some (.cells (Sm.rowB 256 []) 192 (0, 0)) := heap_alloc_new w _
/-- S's row, as cells. -/
def sCells (k : Nat) : Array Value := (Lib.byteCells (sRow k)).toArray
theorem sCells_zero : sCells 0 = Sm.rowB 256 [] := by
  unfold sCells Sm.rowB sRow
  rfl
theorem sCells_get (k i : Nat) (h : i < 256) : ∃ v, (sCells k)[i]? = some v := ⟨_, Array.getElem?_eq_getElem (by rw [sCells, Sm.bytes_size, sRow_length]; exact h)⟩
theorem sCells_set (k : Nat) : (sCells k).setIfInBounds (pw k) (.int .u8 ((UInt8.ofNat (ofM (pw (255 - k)))).toNat : Int)) = sCells (k + 1) := Sm.bytes_set _ _ _
theorem infoBox {c : Array Value} (h : c.size = 256) : (Tryz.prog.info? 193).map (·.size) = some c.size := by rw [h]; kernel_rfl
theorem zeroBox : (Tryz.prog.info? 193).map (fun i => (i.zero, i.size)) = some (some (.agg (Sm.rowB 256 [])), 256) := by kernel_rfl
theorem zero256 : (Tryz.prog.info? 192).map (fun i => (i.zero, i.size)) = some (some (.agg (Sm.rowB 256 [])), 256) := by kernel_rfl
theorem pw_row {w : World} {N k i : Nat} {t : TypeId} (h : w.heap[N]? = some (.cells (Sm.rowB 256 (pwRow k)) t (0, 0))) (hi : i ≤ k) : w.cell? ⟨N, i, none⟩ = some (.int .u8 (pw i : Nat)) := by
  refine Sm.cells_of h i _ ?_
  unfold Sm.rowB
  rw [List.getElem?_toArray, Sm.byteCells_get (by rw [List.length_append, pwRow_length]; omega), List.getD_eq_getElem?_getD, List.getElem?_append_left (by rw [pwRow_length]; omega), ← List.getD_eq_getElem?_getD, pwRow_get k i hi]
end Ae

set_option maxRecDepth 100000 in
set_option maxHeartbeats 4000000 in
theorem newBox_any (w : World) : Calls Tryz.prog 121 #[] w fun e w' => e = .returned (.agg (Lib.byteCells Ae.box).toArray) ∧ Below w.heap.size w w' := by
  obtain ⟨z0, hz0⟩ : ∃ z, z = Sm.rowB 256 [] := ⟨_, rfl⟩
  have hz1 := (zero_of_info Ae.zeroBox).1
  have hz2 := (zero_of_info Ae.zero256).1
  rw [← hz0] at hz1 hz2
  have HZ := Lib.hid hz0
  clear hz0
  go_enter Tryz.func121, Tryz.ntmps121
  go_upto_region 2 with (fail)
  have g1 : ((w.alloc (.cells z0 193)).alloc (.cells z0 192)).heap[w.heap.size]? = some (.cells (Ae.sCells 0) 193 (0, 0)) := by
    rw [Below.heap_alloc _ _ _ (by simp), Ae.sCells_zero, ← HZ.out]; exact heap_alloc_new w _
  have g2 : ((w.alloc (.cells z0 193)).alloc (.cells z0 192)).heap[w.heap.size + 1]? = some (.cells (Sm.rowB 256 []) 192 (0, 0)) := by
    rw [← HZ.out]; simpa using heap_alloc_new (w.alloc (.cells z0 193)) (.cells z0 192)
  have b2 : Below w.heap.size w ((w.alloc (.cells z0 193)).alloc (.cells z0 192)) := ((Below.refl _ w).alloc (Nat.le_refl _) _).alloc (by simp) _
  clear hz1 hz2
  generalize (w.alloc (.cells z0 193)).alloc (.cells z0 192) = W2 at *
  clear HZ
  obtain ⟨N, hN⟩ : ∃ N, N = w.heap.size := ⟨_, rfl⟩
  rw [← hN] at g1 g2 b2 ⊢
  have HN := Lib.hid hN
  obtain ⟨old, hold⟩ := Sm.rowB_some (n := 256) (l := []) 0 (by simp) (by decide)
  have hold := Sm.cells_of g2 0 old hold
  have fz := Sm.free_of g2 0
  have g3 : (W2.setCell ⟨N + 1, 0, none⟩ (.int .u8 1)).heap[N + 1]? = some (.cells (Sm.rowB 256 (Ae.pwRow 0)) 192 (0, 0)) := by
    have e := Sm.heap_set g2 0 (.int .u8 1)
    have e2 := Sm.rowB_set (n := 256) (l := []) (by simp) 1
    rw [List.length_nil] at e2
    rw [show (Value.int .u8 1) = .int .u8 ((1 : UInt8).toNat : Int) from rfl] at e
    rw [e2] at e
    exact e
  have g4 : (W2.setCell ⟨N + 1, 0, none⟩ (.int .u8 1)).heap[N]? = some (.cells (Ae.sCells 0) 193 (0, 0)) := (Below.heap_setCell _ _ _ _ (by simp)).trans g1
  have b3 : Below N w (W2.setCell ⟨N + 1, 0, none⟩ (.int .u8 1)) := b2.setCell (p := ⟨N + 1, 0, none⟩) (by simp) _
  clear hN g1 g2 b2
  go_wp2_with fail
  generalize W2.setCell ⟨N + 1, 0, none⟩ (.int .u8 1) = W3 at *
  clear hold fz
  go_loopw [5] (fun i wr => ∃ k : Nat, k ≤ 255 ∧ i = .int .i64 k ∧ wr.heap[N + 1]? = some (.cells (Sm.rowB 256 (Ae.pwRow k)) 192 (0, 0)) ∧ wr.heap[N]? = some (.cells (Ae.sCells 0) 193 (0, 0)) ∧ Below N w wr) (fun i _ => 255 - (intOf i).toNat)
  case atStart => exact ⟨0, by omega, rfl, g3, g4, b3⟩
  case round =>
    clear g3 g4 b3
    obtain ⟨k, hk, rfl, hr1, hr2, hbk⟩ := hrel
    have HR1 := Lib.hid hr1
    have HR2 := Lib.hid hr2
    clear hr1 hr2
    by_cases hlt : k < 255
    · have c0 := Ae.pw_row HR1.out (Nat.le_refl k)
      obtain ⟨old, hold⟩ := Sm.rowB_some (n := 256) (l := Ae.pwRow k) (k + 1) (by rw [Ae.pwRow_length]; omega) (by omega)
      have hold := Sm.cells_of HR1.out (k + 1) old hold
      have fz := Sm.free_of HR1.out (k + 1)
      have hp := Ae.pw_lt k
      have hpi : (Ae.pw k : Int) < 256 := by omega
      have T := Lib.hid (twice_any (Ae.pw k) (by omega))
      obtain ⟨y, hy⟩ : ∃ y, y = UInt8.ofNat (Ae.pw (k + 1)) := ⟨_, rfl⟩
      have HX : Hid (bits .xor .u8 (Ae.pw k : Int) ((Ae.twice (Ae.pw k) : Nat) % 256 : Int) = (y.toNat : Int)) := by
        show _ = _
        rw [hy, show ((Ae.twice (Ae.pw k) : Nat) % 256 : Int) = ((Ae.twice (Ae.pw k) % 256 : Nat) : Int) by omega, Ae.w_xor8 hp (Nat.mod_lt _ (by decide)), Ae.ofNat8 _ (Ae.pw_lt _)]
        rfl
      have hl1 : (k : Int) < 255 := by omega
      have HY := Lib.hid hy
      clear hy
      generalize Ae.pw k = x at *
      go_wp2_with fail
      have hw1 : IntKind.i64.wrap ((k : Int) + 1) = (k : Int) + 1 := IntWalk.i64_in _ (by omega)
      have hz1 : (0 : Int) ≤ (k : Int) + 1 := by omega
      have hk2 : (k : Int) < 256 := by omega
      have hk3 : (k : Int) + 1 < 256 := by omega
      have hn1 : ((k : Int) + 1).toNat = k + 1 := by omega
      have hw8 : IntKind.u8.wrap ((Ae.twice x : Nat) : Int) = ((Ae.twice x : Nat) % 256 : Int) := IntKind.wrap_u8' _
      have TD : Hid (Calls Tryz.prog 135 #[.int .u32 x] wr.drew fun e w' => e = .returned (.int .u32 (Ae.twice x : Nat)) ∧ w' = wr.drew) := (T.out _).mono fun _ _ ⟨h1, h2⟩ => ⟨h1, h2.symm⟩
      have d0 : wr.drew.cell? ⟨N + 1, k, none⟩ = some (.int .u8 (x : Nat)) := c0
      have hwx : IntKind.u32.wrap (x : Int) = (x : Int) := Sm.wrap32n _ (by omega)
      go_still_tail 13, (by kernel_rfl)
      still_call TD.out
      repeat still_step
      refine wpStill_nil ?_
      change wpList _ _ _ _ _ wr.drew
      have hold' : wr.drew.cell? ⟨N + 1, k + 1, none⟩ = some old := hold
      have fz' : wr.drew.frozen? ⟨N + 1, k + 1, none⟩ = false := fz
      have HX2 := HX.out
      go_wp2
      go_roundw
      case rel =>
        refine ⟨k + 1, by omega, by go_num, ?_, (Below.heap_setCell _ _ _ _ (by simp)).trans HR2.out, (hbk.setCell (p := ⟨N + 1, k + 1, none⟩) (by simp) _).drew⟩
        have e := Sm.rowB_set (n := 256) (l := Ae.pwRow k) (by rw [Ae.pwRow_length]; omega) y
        rw [Ae.pwRow_length] at e
        rw [Ae.pwRow_snoc, ← HY.out, ← e]
        exact Sm.heap_set HR1.out (k + 1) _
      case measure => simp [intOf]; omega
    · obtain rfl : k = 255 := by omega
      clear hlt hk
      go_wp2_with fail
      rw [show ((255 : Nat) : Int) = 255 from rfl]
      go_loopw [22] (fun i wr => ∃ k : Nat, k ≤ 255 ∧ i = .int .i64 k ∧ wr.heap[N + 1]? = some (.cells (Sm.rowB 256 (Ae.pwRow 255)) 192 (0, 0)) ∧ wr.heap[N]? = some (.cells (Ae.sCells k) 193 (0, 0)) ∧ Below N w wr) (fun i _ => 255 - (intOf i).toNat)
      case atStart => exact ⟨0, by omega, rfl, HR1.out, HR2.out, hbk⟩
      case round =>
        clear HR1 HR2 hbk
        obtain ⟨k, hk, rfl, hr1, hr2, hbk⟩ := hrel
        have HR1 := Lib.hid hr1
        have HR2 := Lib.hid hr2
        clear hr1 hr2
        by_cases hlt : k < 255
        · have c0 : wr.drew.cell? ⟨N + 1, k, none⟩ = some (.int .u8 (Ae.pw k : Nat)) := Ae.pw_row HR1.out (by omega)
          have c1 : wr.drew.cell? ⟨N + 1, 255 - k, none⟩ = some (.int .u8 (Ae.pw (255 - k) : Nat)) := Ae.pw_row HR1.out (by omega)
          obtain ⟨old, hold⟩ := Ae.sCells_get k (Ae.pw k) (Ae.pw_lt k)
          have hold : wr.drew.cell? ⟨N, Ae.pw k, none⟩ = some old := Sm.cells_of HR2.out (Ae.pw k) old hold
          have fz : wr.drew.frozen? ⟨N, Ae.pw k, none⟩ = false := Sm.free_of HR2.out (Ae.pw k)
          have hp := Ae.pw_lt k
          have hpi : (Ae.pw k : Int) < 256 := by omega
          have hq := Ae.pw_lt (255 - k)
          obtain ⟨y, hy⟩ : ∃ y, y = UInt8.ofNat (Ae.ofM (Ae.pw (255 - k))) := ⟨_, rfl⟩
          have OM : Hid (Calls Tryz.prog 136 #[.int .u8 (Ae.pw (255 - k) : Nat)] wr.drew fun e w' => e = .returned (.int .u8 (y.toNat : Int)) ∧ w' = wr.drew) := (ofMirror_any _ hq wr.drew).mono fun _ _ ⟨h1, h2⟩ => ⟨by rw [h1, hy, Ae.ofNat8 _ (Ae.ofM_lt hq)], h2.symm⟩
          have hset := Ae.sCells_set k
          rw [← hy] at hset
          have HSET := Lib.hid hset
          have hl1 : (k : Int) < 255 := by omega
          have hl2 : (k : Int) < 256 := by omega
          have hm0 : (0 : Int) ≤ 255 - (k : Int) := by omega
          have hm4 : (k : Int) ≤ 255 := by omega
          have hm1 : 255 - (k : Int) < 256 := by omega
          have hm2 : (255 - (k : Int)).toNat = 255 - k := by omega
          have hm3 : IntKind.i64.wrap (255 - (k : Int)) = 255 - (k : Int) := IntWalk.i64_in _ (by omega)
          clear hy hset
          generalize Ae.pw (255 - k) = z at *
          generalize Ae.pw k = x at *
          go_wp2_with fail
          go_still_tail 9, (by kernel_rfl)
          still_call OM.out
          repeat still_step
          refine wpStill_nil ?_
          change wpList _ _ _ _ _ wr.drew
          go_wp2
          go_roundw
          case rel =>
            refine ⟨k + 1, by omega, by go_num, (Below.heap_setCell _ _ _ _ (by simp)).trans HR1.out, ?_, (hbk.setCell (p := ⟨N, x, none⟩) (by simp) _).drew⟩
            rw [← HSET.out]
            exact Sm.heap_set HR2.out x _
          case measure => simp [intOf]; omega
        · obtain rfl : k = 255 := by omega
          clear hlt hk
          obtain ⟨y, hy⟩ : ∃ y, y = UInt8.ofNat (Ae.ofM 0) := ⟨_, rfl⟩
          have OM : Hid (∀ wx : World, Calls Tryz.prog 136 #[.int .u8 0] wx fun e w' => e = .returned (.int .u8 (y.toNat : Int)) ∧ wx = w') := fun wx => (ofMirror_any 0 (by decide) wx).mono fun _ _ ⟨h1, h2⟩ => ⟨by rw [h1, hy, Ae.ofNat8 _ (Ae.ofM_lt (by decide))], h2⟩
          obtain ⟨old, hold⟩ := Ae.sCells_get 255 0 (by decide)
          have hold := Sm.cells_of HR2.out 0 old hold
          have fz := Sm.free_of HR2.out 0
          have hr : (wr.setCell ⟨N, 0, none⟩ (.int .u8 (y.toNat : Int))).heap[N]? = some (.cells (Lib.byteCells Ae.box).toArray 193 (0, 0)) := by
            have e := Sm.heap_set HR2.out 0 (.int .u8 (y.toNat : Int))
            rw [Ae.sCells, Sm.bytes_set, hy] at e
            rw [hy]
            exact e
          have hb : Below N w (wr.setCell ⟨N, 0, none⟩ (.int .u8 (y.toNat : Int))) := hbk.setCell (p := ⟨N, 0, none⟩) (by simp) _
          clear hy
          have hsz : (Lib.byteCells Ae.box).toArray.size = 256 := by rw [Sm.bytes_size, Ae.box_length]
          have hone := Sm.bytes_one Ae.box
          obtain ⟨cs, hcs⟩ : ∃ c, c = (Lib.byteCells Ae.box).toArray := ⟨_, rfl⟩
          rw [← hcs] at hr hsz hone
          have HR := Lib.hid hr
          have HC := Lib.hid hcs
          clear hcs hr
          have HOLD := Lib.hid hold
          clear hold
          go_wp2_with fail
          refine (OM.out _).mono ?_
          rintro e w' ⟨rfl, rfl⟩
          have hold := HOLD.out
          go_wp2_with (first | (with_reducible refine wpList_load_row rfl 193 (.tmp 0) rfl N rfl 193 cs (0, 0) _ (by exact HR.out) Tryz.underlying193 rfl (Ae.infoBox hsz) ?_) | (with_reducible refine wpList_store_row rfl 193 (.tmp 0) (.tmp 37) rfl N cs rfl rfl 193 _ (by exact HR.out) (Ae.infoBox hsz) rfl hone ?_))
          exact bodyPost_ret (v := .agg cs) (results_cell_row rfl _ _ N 193 _ (0, 0) _ rfl (setRow_heap _ N _ _ _ _ HR.out) Tryz.underlying193 rfl (Ae.infoBox hsz)) rfl ⟨by rw [HC.out], by rw [← HN.out]; exact Sm.below_setRow hb (Nat.le_refl _) _⟩
end Go.Proofs.YtibpgmcpcelmpaaGreatDoor

/-
  What scheduleOf makes: a key's schedule.
-/
namespace Go.Proofs.YtibpgmcpcelmpaaGreatDoor
open Go.RowKit
namespace Ae
theorem zeroSched : (Tryz.prog.info? 196).map (fun i => (i.zero, i.size)) = some (some (.agg (Sm.rowOf 60 [])), 60) := by kernel_rfl
theorem infoSched {c : Array Value} (h : c.size = 60) : (Tryz.prog.info? 196).map (·.size) = some c.size := by rw [h]; kernel_rfl
theorem BoxAt.low {w w' : World} {b B : Nat} (h : BoxAt w b) (k : Below B w w') (hb : b < B) : BoxAt w' b := fun i hi => (k.cell (p := ⟨b, i, none⟩) hb).trans (h i hi)
theorem FourAt.low {w w' : World} {b B : Nat} {l : List Nat} (h : FourAt w b l) (k : Below B w w') (hb : b < B) : FourAt w' b l := fun i hi => (k.cell (p := ⟨b, i, none⟩) hb).trans (h i hi)
theorem key_cell {w : World} {N k i : Nat} {l : List UInt8} {t : TypeId} (h : w.heap[N]? = some (.cells (Lib.byteCells l).toArray t (0, 0))) (hl : l.length = 32) (hk : k < 8) (hi : i < 4) : w.cell? ⟨N, 4 * k + i, none⟩ = some (.int .u8 ((l.getD (4 * k + i) 0).toNat : Int)) :=
  Sm.row_cell h _ (by omega)
theorem nums_one (l : List Nat) : (Sm.nums l).toArray.all (·.oneCell') = true := by
  rw [Array.all_eq_true_iff_forall_mem]
  intro v hv
  obtain ⟨x, _, rfl⟩ := List.mem_map.1 (by simpa [Sm.nums] using hv : v ∈ Sm.nums l)
  rfl
end Ae

set_option maxRecDepth 100000 in
set_option maxHeartbeats 4000000 in
theorem schedule_any {w : World} {b : Nat} (hS : Ae.BoxAt w b) (hb : b < w.heap.size) (key : List UInt8) (hkey : key.length = 32) :
    Calls Tryz.prog 122 #[.agg (Lib.byteCells key).toArray, .pointer (some ⟨b, 0, none⟩)] w fun e w' => e = .returned (.agg (Sm.nums (Ae.ks key)).toArray) ∧ Below w.heap.size w w' := by
  obtain ⟨ck, hck⟩ : ∃ c, c = (Lib.byteCells key).toArray := ⟨_, rfl⟩
  obtain ⟨z0, hz0⟩ : ∃ z, z = Sm.rowOf 60 [] := ⟨_, rfl⟩
  have hz1 := (zero_of_info Ae.zeroSched).1
  rw [← hz0] at hz1
  rw [← hck]
  have g1 : ((w.alloc (.cells ck 74)).alloc (.cells z0 196)).heap[w.heap.size]? = some (.cells (Lib.byteCells key).toArray 74 (0, 0)) := by
    rw [Below.heap_alloc _ _ _ (by simp), ← hck]; exact heap_alloc_new w _
  have g2 : ((w.alloc (.cells ck 74)).alloc (.cells z0 196)).heap[w.heap.size + 1]? = some (.cells (Sm.rowOf 60 []) 196 (0, 0)) := by
    rw [← hz0]; simpa using heap_alloc_new (w.alloc (.cells ck 74)) (.cells z0 196)
  have b2 : Below w.heap.size w ((w.alloc (.cells ck 74)).alloc (.cells z0 196)) := ((Below.refl _ w).alloc (Nat.le_refl _) _).alloc (by simp) _
  have HS := Lib.hid hS
  clear hck hz0 hS
  go_enter Tryz.func122, Tryz.ntmps122
  go_upto_region 1 with (fail)
  generalize (w.alloc (.cells ck 74)).alloc (.cells z0 196) = W2 at *
  clear hz1
  obtain ⟨N, hN⟩ : ∃ N, N = w.heap.size := ⟨_, rfl⟩
  rw [← hN] at g1 g2 b2 hb ⊢
  have HN := Lib.hid hN
  clear hN
  go_wp2_with fail
  go_loopw [9] (fun i wr => ∃ k : Nat, k ≤ 8 ∧ i = .int .i64 k ∧ wr.heap[N + 1]? = some (.cells (Sm.rowOf 60 ((List.range k).map (Sm.word key))) 196 (0, 0)) ∧ wr.heap[N]? = some (.cells (Lib.byteCells key).toArray 74 (0, 0)) ∧ Below N w wr) (fun i _ => 8 - (intOf i).toNat)
  case atStart => exact ⟨0, by omega, rfl, g2, g1, b2⟩
  case round =>
    clear g1 g2 b2
    obtain ⟨k, hk, rfl, hr1, hr2, hbk⟩ := hrel
    have HR1 := Lib.hid hr1
    have HR2 := Lib.hid hr2
    clear hr1 hr2
    by_cases hlt : k < 8
    · have c0 : wr.drew.cell? ⟨N, 4 * k, none⟩ = some (.int .u8 ((key.getD (4 * k) 0).toNat : Int)) := Ae.key_cell (i := 0) HR2.out hkey hlt (by decide)
      have c1 : wr.drew.cell? ⟨N, 4 * k + 1, none⟩ = some (.int .u8 ((key.getD (4 * k + 1) 0).toNat : Int)) := Ae.key_cell HR2.out hkey hlt (by decide)
      have c2 : wr.drew.cell? ⟨N, 4 * k + 2, none⟩ = some (.int .u8 ((key.getD (4 * k + 2) 0).toNat : Int)) := Ae.key_cell HR2.out hkey hlt (by decide)
      have c3 : wr.drew.cell? ⟨N, 4 * k + 3, none⟩ = some (.int .u8 ((key.getD (4 * k + 3) 0).toNat : Int)) := Ae.key_cell HR2.out hkey hlt (by decide)
      obtain ⟨old, hold⟩ := Sm.rowOf_some (n := 60) (l := (List.range k).map (Sm.word key)) k (by simp; omega) (by omega)
      have hold : wr.drew.cell? ⟨N + 1, k, none⟩ = some old := Sm.cells_of HR1.out k old hold
      have fz : wr.drew.frozen? ⟨N + 1, k, none⟩ = false := Sm.free_of HR1.out k
      have HWD : Hid (Sm.word key k = Sm.be4 (key.getD (4 * k) 0).toNat (key.getD (4 * k + 1) 0).toNat (key.getD (4 * k + 2) 0).toNat (key.getD (4 * k + 3) 0).toNat) := rfl
      have WD : Hid (Calls Tryz.prog 123 #[.int .u8 (key.getD (4 * k) 0).toNat, .int .u8 (key.getD (4 * k + 1) 0).toNat, .int .u8 (key.getD (4 * k + 2) 0).toNat, .int .u8 (key.getD (4 * k + 3) 0).toNat] wr.drew fun e w' => e = .returned (.int .u32 (Sm.word key k : Nat)) ∧ w' = wr.drew) :=
        (word_any _ _ _ _ (UInt8.toNat_lt _) (UInt8.toNat_lt _) (UInt8.toNat_lt _) (UInt8.toNat_lt _) wr.drew).mono fun _ _ ⟨h1, h2⟩ => ⟨by rw [h1, HWD.out], h2.symm⟩
      generalize key.getD (4 * k) 0 = x0 at *
      generalize key.getD (4 * k + 1) 0 = x1 at *
      generalize key.getD (4 * k + 2) 0 = x2 at *
      generalize key.getD (4 * k + 3) 0 = x3 at *
      have e0 : (4 * (k : Int)).toNat = 4 * k := by omega
      have e1 : (4 * (k : Int) + 1).toNat = 4 * k + 1 := by omega
      have e2 : (4 * (k : Int) + 2).toNat = 4 * k + 2 := by omega
      have e3 : (4 * (k : Int) + 3).toNat = 4 * k + 3 := by omega
      have v0 : IntKind.i64.wrap (4 * (k : Int)) = 4 * (k : Int) := IntWalk.i64_in _ (by omega)
      have v1 : IntKind.i64.wrap (4 * (k : Int) + 1) = 4 * (k : Int) + 1 := IntWalk.i64_in _ (by omega)
      have v2 : IntKind.i64.wrap (4 * (k : Int) + 2) = 4 * (k : Int) + 2 := IntWalk.i64_in _ (by omega)
      have v3 : IntKind.i64.wrap (4 * (k : Int) + 3) = 4 * (k : Int) + 3 := IntWalk.i64_in _ (by omega)
      have u0 : 4 * (k : Int) < 32 := by omega
      have u1 : 4 * (k : Int) + 1 < 32 := by omega
      have u2 : 4 * (k : Int) + 2 < 32 := by omega
      have u3 : 4 * (k : Int) + 3 < 32 := by omega
      have p0 : 0 ≤ 4 * (k : Int) := by omega
      have p1 : 0 ≤ 4 * (k : Int) + 1 := by omega
      have p2 : 0 ≤ 4 * (k : Int) + 2 := by omega
      have p3 : 0 ≤ 4 * (k : Int) + 3 := by omega
      have q0 : (k : Int) < 8 := by omega
      have q1 : (k : Int) < 60 := by omega
      go_wp2_with fail
      go_still_tail 22, (by kernel_rfl)
      still_call WD.out
      repeat still_step
      refine wpStill_nil ?_
      change wpList _ _ _ _ _ wr.drew
      go_wp2
      go_roundw
      case rel =>
        refine ⟨k + 1, by omega, by go_num, ?_, (Below.heap_setCell _ _ _ _ (by simp)).trans HR2.out, (hbk.setCell (p := ⟨N + 1, k, none⟩) (by simp) _).drew⟩
        have e := Sm.rowOf_set (n := 60) (l := (List.range k).map (Sm.word key)) (by simp; omega) (Sm.word key k)
        rw [List.length_map, List.length_range] at e
        rw [Sm.words_range, ← e]
        exact Sm.heap_set HR1.out k _
      case measure => simp [intOf]; omega
    · obtain rfl : k = 8 := by omega
      clear hlt hk
      go_wp2_with fail
      rw [show ((8 : Nat) : Int) = 8 from rfl]
      go_loopw [6, 7] (fun p i wr => ∃ j : Nat, 8 ≤ j ∧ j ≤ 60 ∧ i = .int .i64 j ∧ p = .int .u32 (Ae.pow2 ((j - 1) / 8) : Nat) ∧ wr.heap[N + 1]? = some (.cells (Sm.rowOf 60 (Ae.sched key (j - 8))) 196 (0, 0)) ∧ Below N w wr) (fun _ i _ => 60 - (intOf i).toNat)
      case atStart => exact ⟨8, by omega, by omega, rfl, rfl, HR1.out, hbk⟩
      case round =>
        clear HR1 HR2 hbk
        obtain ⟨j, hj8, hj, rfl, rfl, hr1, hbk⟩ := hrel
        have HR := Lib.hid hr1
        clear hr1
        have HSW := Lib.hid (HS.out.low hbk hb)
        by_cases hlt : j < 60
        · have hlen : (Ae.sched key (j - 8)).length = j := by rw [Ae.sched_length]; omega
          have hall := Ae.sched_lt key (j - 8)
          have c1 := Sm.cells_of HR.out (j - 1) _ (Sm.rowOf_get (by omega))
          have c8 := Sm.cells_of HR.out (j - 8) _ (Sm.rowOf_get (by omega))
          obtain ⟨old, hold⟩ := Sm.rowOf_some (n := 60) (l := Ae.sched key (j - 8)) j (by omega) hlt
          have hold := Sm.cells_of HR.out j old hold
          have fz := Sm.free_of HR.out j
          have hset := Sm.rowOf_set (n := 60) (l := Ae.sched key (j - 8)) (by omega) (Ae.next (Ae.sched key (j - 8)))
          have hsn : Ae.sched key (j + 1 - 8) = Ae.sched key (j - 8) ++ [Ae.next (Ae.sched key (j - 8))] := by rw [show j + 1 - 8 = (j - 8) + 1 by omega]; rfl
          rw [hlen, ← hsn] at hset
          have HSET := Lib.hid hset
          have hnx : Ae.next (Ae.sched key (j - 8)) = (Ae.sched key (j - 8)).getD (j - 8) 0 ^^^ (if j % 8 = 0 then Ae.subW (Ae.rotl ((Ae.sched key (j - 8)).getD (j - 1) 0) 8) ^^^ Ae.pow2 (j / 8 - 1) * 2 ^ 24 % 4294967296
            else if j % 8 = 4 then Ae.subW ((Ae.sched key (j - 8)).getD (j - 1) 0) else (Ae.sched key (j - 8)).getD (j - 1) 0) := by unfold Ae.next; rw [hlen]
          have HNX := Lib.hid hnx
          have l1 := Sm.getD_lt hall (j - 1)
          have l8 := Sm.getD_lt hall (j - 8)
          clear hlen hall hset hsn hnx
          generalize Ae.next (Ae.sched key (j - 8)) = nx at *
          generalize (Ae.sched key (j - 8)).getD (j - 1) 0 = x at *
          generalize (Ae.sched key (j - 8)).getD (j - 8) 0 = y at *
          have e1 : ((j : Int) - 1).toNat = j - 1 := by omega
          have e8 : ((j : Int) - 8).toNat = j - 8 := by omega
          have v1 : IntKind.i64.wrap ((j : Int) - 1) = (j : Int) - 1 := IntWalk.i64_in _ (by omega)
          have v8 : IntKind.i64.wrap ((j : Int) - 8) = (j : Int) - 8 := IntWalk.i64_in _ (by omega)
          have p1 : 0 ≤ (j : Int) - 1 := by omega
          have p8 : 0 ≤ (j : Int) - 8 := by omega
          have o1 : 1 ≤ (j : Int) := by omega
          have o8 : 8 ≤ (j : Int) := by omega
          have u1 : (j : Int) - 1 < 60 := by omega
          have u8 : (j : Int) - 8 < 60 := by omega
          have u0 : (j : Int) < 60 := by omega
          by_cases hm0 : j % 8 = 0
          · rw [if_pos hm0] at HNX
            have hb0 : ((j : Int) % 8 == 0) = true := by rw [beq_iff_eq]; omega
            have hpq : (j - 1) / 8 = j / 8 - 1 := by omega
            have hpn : (j + 1 - 1) / 8 = (j / 8 - 1) + 1 := by omega
            rw [hpq]
            have hp := Ae.pow2_lt (j / 8 - 1)
            have HPN : Hid (Ae.pow2 ((j + 1 - 1) / 8) = Ae.twice (Ae.pow2 (j / 8 - 1))) := by
              show _ = _
              rw [hpn]; rfl
            generalize Ae.pow2 (j / 8 - 1) = pw at *
            have RL := Lib.hid (rotl32_any x 8 l1 (by decide) (by decide))
            have lr := Ae.rotl_lt (n := 8) l1
            generalize Ae.rotl x 8 = x2 at *
            have OF := Lib.hid (boxOf_any HSW.out x2 lr)
            have ls := Ae.subW_lt x2
            generalize Ae.subW x2 = x3 at *
            have TW := Lib.hid (twice_any pw hp)
            clear hm0 hpq hpn
            go_wp2_with fail
            refine (RL.out _).mono ?_
            rintro e w' ⟨rfl, rfl⟩
            go_wp2_with fail
            refine (OF.out).mono ?_
            rintro e w' ⟨rfl, n, rfl⟩
            go_wp2_with fail
            refine (TW.out _).mono ?_
            rintro e w' ⟨rfl, rfl⟩
            go_wp2_with fail
            go_roundw
            case rel =>
              refine ⟨j + 1, by omega, by omega, by go_num, by rw [HPN.out], ?_, (Sm.below_drewN hbk n).setCell (p := ⟨N + 1, j, none⟩) (by simp) _⟩
              have hv : bits .xor .u32 (y : Int) (bits .xor .u32 (x3 : Int) ((pw : Int) * 16777216 % 4294967296)) = (nx : Int) := by
                rw [show ((pw : Int) * 16777216 % 4294967296) = ((pw * 2 ^ 24 % 4294967296 : Nat) : Int) by omega, Ae.w_xor ls (Nat.mod_lt _ (by decide)), Ae.w_xor l8 (Sm.xor_lt ls (Nat.mod_lt _ (by decide))), HNX.out]
              rw [hv, ← HSET.out]
              exact Sm.heap_set (w := wr.drewN n) HR.out j _
            case measure => simp [intOf]; omega
          · rw [if_neg hm0] at HNX
            have hb0 : ((j : Int) % 8 == 0) = false := by rw [beq_eq_false_iff_ne]; omega
            have hi0 : ¬ (j : Int) % 8 = 0 := by omega
            have hpn : (j + 1 - 1) / 8 = (j - 1) / 8 := by omega
            have HPN : Hid (Ae.pow2 ((j + 1 - 1) / 8) = Ae.pow2 ((j - 1) / 8)) := by
              show _ = _
              rw [hpn]
            generalize Ae.pow2 ((j - 1) / 8) = pw at *
            by_cases hm4 : j % 8 = 4
            · rw [if_pos hm4] at HNX
              have hb4 : ((j : Int) % 8 == 4) = true := by rw [beq_iff_eq]; omega
              have OF := Lib.hid (boxOf_any HSW.out x l1)
              have ls := Ae.subW_lt x
              generalize Ae.subW x = x3 at *
              clear hm0 hm4 hpn
              go_wp2_with fail
              refine (OF.out).mono ?_
              rintro e w' ⟨rfl, n, rfl⟩
              go_wp2_with fail
              go_roundw
              case rel =>
                refine ⟨j + 1, by omega, by omega, by go_num, by rw [HPN.out], ?_, (Sm.below_drewN hbk n).setCell (p := ⟨N + 1, j, none⟩) (by simp) _⟩
                have hv : bits .xor .u32 (y : Int) (x3 : Int) = (nx : Int) := by rw [Ae.w_xor l8 ls, HNX.out]
                rw [hv, ← HSET.out]
                exact Sm.heap_set (w := wr.drewN n) HR.out j _
              case measure => simp [intOf]; omega
            · rw [if_neg hm4] at HNX
              have hb4 : ((j : Int) % 8 == 4) = false := by rw [beq_eq_false_iff_ne]; omega
              have hi4 : ¬ (j : Int) % 8 = 4 := by omega
              clear hm0 hm4 hpn
              go_wp2_with fail
              go_roundw
              case rel =>
                refine ⟨j + 1, by omega, by omega, by go_num, by rw [HPN.out], ?_, hbk.setCell (p := ⟨N + 1, j, none⟩) (by simp) _⟩
                have hv : bits .xor .u32 (y : Int) (x : Int) = (nx : Int) := by rw [Ae.w_xor l8 l1, HNX.out]
                rw [hv, ← HSET.out]
                exact Sm.heap_set HR.out j _
              case measure => simp [intOf]; omega
        · obtain rfl : j = 60 := by omega
          clear hlt hj hj8
          have hr := HR.out
          rw [Sm.rowOf_full (by rw [Ae.sched_length])] at hr
          have hsz : (Sm.nums (Ae.ks key)).toArray.size = 60 := by simp [Sm.nums, Ae.ks_length]
          have hone := Ae.nums_one (Ae.ks key)
          obtain ⟨cs, hcs⟩ : ∃ c, c = (Sm.nums (Ae.ks key)).toArray := ⟨_, rfl⟩
          have hr2 : wr.heap[N + 1]? = some (.cells cs 196 (0, 0)) := by rw [hcs]; exact hr
          rw [← hcs] at hsz hone
          have HR2 := Lib.hid hr2
          have HC := Lib.hid hcs
          clear hcs hr hr2
          go_wp2_with (first | (with_reducible refine wpList_load_row rfl 196 (.tmp 4) rfl (N + 1) rfl 196 cs (0, 0) _ (by exact HR2.out) Tryz.underlying196 rfl (Ae.infoSched hsz) ?_) | (with_reducible refine wpList_store_row rfl 196 (.tmp 4) (.tmp 69) rfl (N + 1) cs rfl rfl 196 _ (by exact HR2.out) (Ae.infoSched hsz) rfl hone ?_))
          exact bodyPost_ret (v := .agg cs) (results_cell_row rfl _ _ (N + 1) 196 _ (0, 0) _ rfl (setRow_heap _ (N + 1) _ _ _ _ HR2.out) Tryz.underlying196 rfl (Ae.infoSched hsz)) rfl ⟨by rw [HC.out], by rw [← HN.out]; exact Sm.below_setRow hbk (Nat.le_succ _) _⟩
end Go.Proofs.YtibpgmcpcelmpaaGreatDoor

/-
  What newCipher makes.
-/
namespace Go.Proofs.YtibpgmcpcelmpaaGreatDoor
open Go.RowKit
namespace Ae
/-- A cipher's cells: S, and a schedule. -/
def cipCells (key : List UInt8) : Array Value := (Lib.byteCells box ++ Sm.nums (ks key)).toArray
def preCells : Array Value := (Lib.byteCells box ++ Sm.nums (List.replicate 60 0)).toArray
def CipAt (w : World) (b : Nat) (key : List UInt8) : Prop := w.heap[b]? = some (.cells (cipCells key) 198 (0, 0))
def zeroCip : Array Value := (Lib.byteCells (List.replicate 256 0) ++ Sm.nums (List.replicate 60 0)).toArray
theorem zeroCipher : (Tryz.prog.info? 198).map (fun i => (i.zero, i.size)) = some (some (.agg zeroCip), 316) := by kernel_rfl
theorem put_list (l : List Value) (k : Nat) (cs : Array Value) (h : k + l.length ≤ cs.size) :
    (l.zipIdx k).foldl (fun (cs : Array Value) x => cs.setIfInBounds x.snd x.fst) cs = (cs.toList.take k ++ (l ++ cs.toList.drop (k + l.length))).toArray := by
  induction l generalizing k cs with
  | nil => apply Array.ext'; simp
  | cons v l ih =>
    simp only [List.length_cons] at h
    rw [List.zipIdx_cons, List.foldl_cons, ih _ _ (by simp; omega)]
    have e1 : (cs.toList.set k v).take (k + 1) = cs.toList.take k ++ [v] := by
      rw [List.take_succ_eq_append_getElem (by simp; omega), List.take_set_of_le (Nat.le_refl _)]
      simp
    have e2 : (cs.toList.set k v).drop (k + 1 + l.length) = cs.toList.drop (k + (l.length + 1)) := by
      rw [List.drop_set_of_lt (by omega), show k + 1 + l.length = k + (l.length + 1) by omega]
    simp only [Array.toList_setIfInBounds, List.length_cons]
    rw [e1, e2]
    simp
theorem put_row (bx z : Array Value) (h : bx.size ≤ z.size) : Array.foldl (fun (cs : Array Value) x => cs.setIfInBounds x.snd x.fst) z bx.zipIdx 0 bx.size = (bx.toList ++ z.toList.drop bx.size).toArray := by
  have e : bx.size = bx.zipIdx.size := by simp
  have h2 := put_list bx.toList 0 z (by simpa using h)
  rw [show Array.foldl (fun (cs : Array Value) x => cs.setIfInBounds x.snd x.fst) z bx.zipIdx 0 bx.size = Array.foldl (fun (cs : Array Value) x => cs.setIfInBounds x.snd x.fst) z bx.zipIdx 0 bx.zipIdx.size by rw [← e], ← Array.foldl_toList, Array.toList_zipIdx, h2]
  simp
theorem bc_length (n : Nat) : (Lib.byteCells (List.replicate n 0)).length = n := by simp [Lib.byteCells]
theorem nums_rep (n : Nat) : (Sm.nums (List.replicate n 0)).length = n := by simp [Sm.nums]
theorem zeroCip_size : zeroCip.size = 316 := by
  unfold zeroCip; rw [List.size_toArray, List.length_append, bc_length, nums_rep]
theorem put_box : ((Lib.byteCells box).toArray.toList ++ zeroCip.toList.drop 256).toArray = preCells := by
  have h := bc_length 256
  unfold zeroCip preCells
  rw [List.toList_toArray, List.drop_append_of_le_length (by rw [h]; exact Nat.le_refl _), List.drop_of_length_le (by rw [h]; exact Nat.le_refl _)]
  rfl
theorem box_cells_length : (Lib.byteCells box).length = 256 := by rw [Lib.byteCells_length, box_length]
theorem preCells_size : preCells.size = 316 := by
  unfold preCells; rw [List.size_toArray, List.length_append, box_cells_length, nums_rep]
theorem pre_box {w : World} {b : Nat} {t : TypeId} (h : w.heap[b]? = some (.cells preCells t (0, 0))) : BoxAt w b := fun i hi => by
  refine Sm.cells_of h i _ ?_
  unfold preCells
  rw [List.getElem?_toArray, List.getElem?_append_left (by rw [box_cells_length]; exact hi), ← Ae.sub1_box i hi]
  exact Sm.byteCells_get (by rw [box_length]; exact hi)
theorem CipAt.box {w : World} {b : Nat} {key : List UInt8} (h : CipAt w b key) : BoxAt w b := fun i hi => by
  refine Sm.cells_of h i _ ?_
  unfold cipCells
  rw [List.getElem?_toArray, List.getElem?_append_left (by rw [box_cells_length]; exact hi), ← Ae.sub1_box i hi]
  exact Sm.byteCells_get (by rw [box_length]; exact hi)
theorem CipAt.word {w : World} {b : Nat} {key : List UInt8} (h : CipAt w b key) (i : Nat) (hi : i < 60) : w.cell? ⟨b, 256 + i, none⟩ = some (.int .u32 ((ks key).getD i 0 : Nat)) := by
  refine Sm.cells_of h (256 + i) _ ?_
  unfold cipCells
  rw [List.getElem?_toArray, List.getElem?_append_right (by rw [box_cells_length]; omega), box_cells_length, show 256 + i - 256 = i by omega]
  exact Sm.nums_get (by rw [ks_length]; exact hi)
theorem CipAt.low {w w' : World} {b B : Nat} {key : List UInt8} (h : CipAt w b key) (k : Below B w w') (hb : b < B) : CipAt w' b key := (k.block b hb).trans h
theorem infoKey {c : Array Value} (h : c.size = 32) : (Tryz.prog.info? 74).map (·.size) = some c.size := by rw [h]; kernel_rfl
theorem pre_set (key : List UInt8) : (preCells.toList.take 256 ++ (Sm.nums (ks key) ++ preCells.toList.drop (256 + (Sm.nums (ks key)).length))).toArray = cipCells key := by
  have h1 : (Sm.nums (ks key)).length = 60 := by rw [Sm.nums_length, ks_length]
  have h2 := preCells_size
  rw [h1, List.drop_of_length_le (by rw [Array.length_toList]; omega)]
  unfold preCells cipCells
  rw [List.toList_toArray, List.take_append_of_le_length (by rw [box_cells_length]; exact Nat.le_refl _), List.take_of_length_le (by rw [box_cells_length]; exact Nat.le_refl _), List.append_nil]
end Ae

set_option maxRecDepth 100000 in
set_option maxHeartbeats 4000000 in
theorem newCipher_any (w : World) (key : List UInt8) (hkey : key.length = 32) :
    Calls Tryz.prog 97 #[.agg (Lib.byteCells key).toArray] w fun e w' => ∃ b, e = .returned (.pointer (some ⟨b, 0, none⟩)) ∧ w.heap.size ≤ b ∧ Ae.CipAt w' b key ∧ Below w.heap.size w w' := by
  obtain ⟨ckl, hck⟩ : ∃ c, c = Lib.byteCells key := ⟨_, rfl⟩
  have hz1 := (zero_of_info Ae.zeroCipher).1
  obtain ⟨z0, hz0⟩ : ∃ z, z = Ae.zeroCip := ⟨_, rfl⟩
  rw [← hz0] at hz1
  rw [← hck]
  have hzs : z0.size = 316 := by rw [hz0]; exact Ae.zeroCip_size
  obtain ⟨bx, hbx⟩ : ∃ c, c = (Lib.byteCells Ae.box).toArray := ⟨_, rfl⟩
  have NB := newBox_any
  rw [← hbx] at NB
  have HNB := Lib.hid NB
  have hbs : bx.size = 256 := by rw [hbx, Sm.bytes_size, Ae.box_length]
  have hpr := Ae.put_row bx z0 (by omega)
  rw [hbs] at hpr
  have HPB : Hid ((bx.toList ++ z0.toList.drop 256).toArray = Ae.preCells) := by
    show _ = _
    rw [hz0, hbx]; exact Ae.put_box
  have g0 := heap_alloc_new w (.cells ckl.toArray 74)
  have b0 : Below w.heap.size w (w.alloc (.cells ckl.toArray 74)) := (Below.refl _ w).alloc (Nat.le_refl _) _
  have s0 : (w.alloc (.cells ckl.toArray 74)).heap.size = w.heap.size + 1 := by simp
  have hckl : ckl.length = 32 := by rw [hck, Lib.byteCells_length, hkey]
  have SCH : Hid (∀ (wx : World) (b : Nat), Ae.BoxAt wx b → b < wx.heap.size → Calls Tryz.prog 122 #[.agg ckl.toArray, .pointer (some ⟨b, 0, none⟩)] wx fun e w' => e = .returned (.agg (Sm.nums (Ae.ks key)).toArray) ∧ Below wx.heap.size wx w') := fun wx b h1 h2 => by
    rw [hck]; exact schedule_any h1 h2 key hkey
  have hone := Ae.nums_one (Ae.ks key)
  have hsz60 : (Sm.nums (Ae.ks key)).length = 60 := by rw [Sm.nums_length, Ae.ks_length]
  have PS := Lib.hid (Ae.pre_set key)
  clear hz0 hck hbx NB
  go_enter Tryz.func97, Tryz.ntmps97
  go_wp2_with fail
  refine (HNB.out _).mono ?_
  rintro e w1 ⟨rfl, k1⟩
  have b1 := Sm.low_low b0 (Nat.le_refl _) k1
  have g1 := (k1.block w.heap.size (by omega)).trans g0
  have s1 := k1.size
  clear g0 k1 b0
  go_wp2_with fail
  rw [HPB.out]
  have g2 := (Below.heap_alloc w1 (.cells Ae.preCells 198) w.heap.size (by omega)).trans g1
  have p2 := heap_alloc_new w1 (.cells Ae.preCells 198)
  have b2 := b1.alloc b1.size (.cells Ae.preCells 198)
  have s2 : (w1.alloc (.cells Ae.preCells 198)).heap.size = w1.heap.size + 1 := by simp
  clear g1 b1 hzs hbs hpr hz1 HNB HPB
  generalize w1.alloc (.cells Ae.preCells 198) = W2 at *
  obtain ⟨M, hM⟩ : ∃ M, M = w1.heap.size := ⟨_, rfl⟩
  rw [← hM] at p2 s1 s2 ⊢
  obtain ⟨pc, hpc⟩ : ∃ c, c = Ae.preCells := ⟨_, rfl⟩
  have hpcs : pc.size = 316 := by rw [hpc]; exact Ae.preCells_size
  have G2 : Hid (W2.drew.heap[w.heap.size]? = some (.cells ckl.toArray 74 (0, 0))) := g2
  have P2 : Hid (W2.drew.heap[M]? = some (.cells Ae.preCells 198 (0, 0))) := p2
  have B2 : Hid (Below w.heap.size w W2.drew) := b2.drew
  have hMs : M < W2.drew.heap.size := by show M < W2.heap.size; omega
  have hNs : w.heap.size < W2.drew.heap.size := by show w.heap.size < W2.heap.size; omega
  clear hM g2 p2 b2 s2
  have hund : Tryz.prog.underlying 74 = some (.array 32 5) := Tryz.underlying74
  have hicl : (Tryz.prog.info? 74).map (·.size) = some ckl.length := by rw [hckl]; kernel_rfl
  have hisc : (Tryz.prog.info? 196).map (·.size) = some (Sm.nums (Ae.ks key)).length := by rw [hsz60]; kernel_rfl
  have THERE : Hid (∀ wx : World, wx.heap[M]? = some (.cells Ae.preCells 198 (0, 0)) → wx.there M 256 60) := fun wx h j hj => by
    have := Ae.preCells_size
    exact ⟨by rw [Sm.cells_of h (256 + j) _ (Array.getElem?_eq_getElem (by omega))]; rfl, Sm.free_of h _⟩
  have honel : ∀ v ∈ Sm.nums (Ae.ks key), v.oneCell' = true := fun v hv => by
    obtain ⟨x, _, rfl⟩ := List.mem_map.1 hv
    rfl
  obtain ⟨sc, hsc⟩ : ∃ c, c = Sm.nums (Ae.ks key) := ⟨_, rfl⟩
  rw [← hsc] at SCH hsz60 hisc honel PS
  clear hone hpc hpcs
  have HSZ60 := Lib.hid hsz60
  clear hsc
  have HNE : Hid (w.heap.size ≠ M) := by show w.heap.size ≠ M; omega
  go_region_held3 (fun w' => w'.rangeAt w.heap.size 0 ckl ∧ w'.there M 256 60)
    (first | exact ⟨Sm.range_row G2.out, THERE.out _ P2.out⟩ | exact ⟨Sm.range_row G3.out, THERE.out _ P3.out⟩ | exact ⟨World.rangeAt_setCells_apart (Sm.range_row G3.out) _ _ _ (.inl HNE.out), World.there_setCells (THERE.out _ P3.out) _ _ _⟩)
    ((first
      | (go_at_call 122; refine (SCH.out _ M (Ae.pre_box P2.out) hMs).mono ?_; rintro e w3 ⟨rfl, k3⟩; have G3 := Lib.hid ((k3.block w.heap.size hNs).trans G2.out); have P3 := Lib.hid ((k3.block M hMs).trans P2.out); have B3 := Lib.hid (Sm.low_low B2.out (Nat.le_refl _) k3); clear k3)))
  go_wp2
  go_ret
  refine ⟨M, rfl, by omega, ?_, Sm.below_setCells (by omega) _ _ B3.out⟩
  have h := Sm.heap_setCells sc 256 w3 Ae.preCells P3.out (by rw [HSZ60.out, Ae.preCells_size]; exact Nat.le_refl _)
  rw [PS.out] at h
  exact h
end Go.Proofs.YtibpgmcpcelmpaaGreatDoor

/-
  What blockOf, bytes and enciphered do.
-/
namespace Go.Proofs.YtibpgmcpcelmpaaGreatDoor
open Go.RowKit
namespace Ae
theorem infoBlk {c : Array Value} (h : c.size = 4) : (Tryz.prog.info? 170).map (·.size) = some c.size := by rw [h]; kernel_rfl
theorem info16 {c : Array Value} (h : c.size = 16) : (Tryz.prog.info? 168).map (·.size) = some c.size := by rw [h]; kernel_rfl
theorem zeroBlk : (Tryz.prog.info? 170).map (fun i => (i.zero, i.size)) = some (some (.agg (Sm.rowOf 4 [])), 4) := by kernel_rfl
theorem zero16 : (Tryz.prog.info? 168).map (fun i => (i.zero, i.size)) = some (some (.agg (Sm.rowB 16 [])), 16) := by kernel_rfl
theorem cols_eq (l : List UInt8) : cols l = (List.range 4).map (Sm.word l) := rfl
end Ae

set_option maxRecDepth 100000 in
set_option maxHeartbeats 4000000 in
theorem blkOf_any (w : World) (l : List UInt8) (hl : l.length = 16) :
    Calls Tryz.prog 98 #[.agg (Lib.byteCells l).toArray] w fun e w' => e = .returned (.agg (Sm.nums (Ae.cols l)).toArray) ∧ Below w.heap.size w w' := by
  obtain ⟨ck, hck⟩ : ∃ c, c = (Lib.byteCells l).toArray := ⟨_, rfl⟩
  obtain ⟨z0, hz0⟩ : ∃ z, z = Sm.rowOf 4 [] := ⟨_, rfl⟩
  have hz1 := (zero_of_info Ae.zeroBlk).1
  rw [← hz0] at hz1
  rw [← hck]
  have g1 : ((w.alloc (.cells ck 168)).alloc (.cells z0 170)).heap[w.heap.size]? = some (.cells (Lib.byteCells l).toArray 168 (0, 0)) := by
    rw [Below.heap_alloc _ _ _ (by simp), ← hck]; exact heap_alloc_new w _
  have g2 : ((w.alloc (.cells ck 168)).alloc (.cells z0 170)).heap[w.heap.size + 1]? = some (.cells (Sm.rowOf 4 []) 170 (0, 0)) := by
    rw [← hz0]; simpa using heap_alloc_new (w.alloc (.cells ck 168)) (.cells z0 170)
  have b2 : Below w.heap.size w ((w.alloc (.cells ck 168)).alloc (.cells z0 170)) := ((Below.refl _ w).alloc (Nat.le_refl _) _).alloc (by simp) _
  clear hck hz0
  go_enter Tryz.func98, Tryz.ntmps98
  go_upto_region 1 with (fail)
  generalize (w.alloc (.cells ck 168)).alloc (.cells z0 170) = W2 at *
  clear hz1
  obtain ⟨N, hN⟩ : ∃ N, N = w.heap.size := ⟨_, rfl⟩
  rw [← hN] at g1 g2 b2 ⊢
  have HN := Lib.hid hN
  clear hN
  go_wp2_with fail
  go_loopw [4] (fun i wr => ∃ k : Nat, k ≤ 4 ∧ i = .int .i64 k ∧ wr.heap[N + 1]? = some (.cells (Sm.rowOf 4 ((List.range k).map (Sm.word l))) 170 (0, 0)) ∧ wr.heap[N]? = some (.cells (Lib.byteCells l).toArray 168 (0, 0)) ∧ Below N w wr) (fun i _ => 4 - (intOf i).toNat)
  case atStart => exact ⟨0, by omega, rfl, g2, g1, b2⟩
  case round =>
    clear g1 g2 b2
    obtain ⟨k, hk, rfl, hr1, hr2, hbk⟩ := hrel
    have HR1 := Lib.hid hr1
    have HR2 := Lib.hid hr2
    clear hr1 hr2
    by_cases hlt : k < 4
    · have c0 : wr.drew.cell? ⟨N, 4 * k, none⟩ = some (.int .u8 ((l.getD (4 * k) 0).toNat : Int)) := Sm.row_cell HR2.out _ (by omega)
      have c1 : wr.drew.cell? ⟨N, 4 * k + 1, none⟩ = some (.int .u8 ((l.getD (4 * k + 1) 0).toNat : Int)) := Sm.row_cell HR2.out _ (by omega)
      have c2 : wr.drew.cell? ⟨N, 4 * k + 2, none⟩ = some (.int .u8 ((l.getD (4 * k + 2) 0).toNat : Int)) := Sm.row_cell HR2.out _ (by omega)
      have c3 : wr.drew.cell? ⟨N, 4 * k + 3, none⟩ = some (.int .u8 ((l.getD (4 * k + 3) 0).toNat : Int)) := Sm.row_cell HR2.out _ (by omega)
      obtain ⟨old, hold⟩ := Sm.rowOf_some (n := 4) (l := (List.range k).map (Sm.word l)) k (by simp; omega) (by omega)
      have hold : wr.drew.cell? ⟨N + 1, k, none⟩ = some old := Sm.cells_of HR1.out k old hold
      have fz : wr.drew.frozen? ⟨N + 1, k, none⟩ = false := Sm.free_of HR1.out k
      have HWD : Hid (Sm.word l k = Sm.be4 (l.getD (4 * k) 0).toNat (l.getD (4 * k + 1) 0).toNat (l.getD (4 * k + 2) 0).toNat (l.getD (4 * k + 3) 0).toNat) := rfl
      have WD : Hid (Calls Tryz.prog 123 #[.int .u8 (l.getD (4 * k) 0).toNat, .int .u8 (l.getD (4 * k + 1) 0).toNat, .int .u8 (l.getD (4 * k + 2) 0).toNat, .int .u8 (l.getD (4 * k + 3) 0).toNat] wr.drew fun e w' => e = .returned (.int .u32 (Sm.word l k : Nat)) ∧ w' = wr.drew) :=
        (word_any _ _ _ _ (UInt8.toNat_lt _) (UInt8.toNat_lt _) (UInt8.toNat_lt _) (UInt8.toNat_lt _) wr.drew).mono fun _ _ ⟨h1, h2⟩ => ⟨by rw [h1, HWD.out], h2.symm⟩
      generalize l.getD (4 * k) 0 = x0 at *
      generalize l.getD (4 * k + 1) 0 = x1 at *
      generalize l.getD (4 * k + 2) 0 = x2 at *
      generalize l.getD (4 * k + 3) 0 = x3 at *
      have e0 : (4 * (k : Int)).toNat = 4 * k := by omega
      have e1 : (4 * (k : Int) + 1).toNat = 4 * k + 1 := by omega
      have e2 : (4 * (k : Int) + 2).toNat = 4 * k + 2 := by omega
      have e3 : (4 * (k : Int) + 3).toNat = 4 * k + 3 := by omega
      have v0 : IntKind.i64.wrap (4 * (k : Int)) = 4 * (k : Int) := IntWalk.i64_in _ (by omega)
      have v1 : IntKind.i64.wrap (4 * (k : Int) + 1) = 4 * (k : Int) + 1 := IntWalk.i64_in _ (by omega)
      have v2 : IntKind.i64.wrap (4 * (k : Int) + 2) = 4 * (k : Int) + 2 := IntWalk.i64_in _ (by omega)
      have v3 : IntKind.i64.wrap (4 * (k : Int) + 3) = 4 * (k : Int) + 3 := IntWalk.i64_in _ (by omega)
      have u0 : 4 * (k : Int) < 16 := by omega
      have u1 : 4 * (k : Int) + 1 < 16 := by omega
      have u2 : 4 * (k : Int) + 2 < 16 := by omega
      have u3 : 4 * (k : Int) + 3 < 16 := by omega
      have p0 : 0 ≤ 4 * (k : Int) := by omega
      have p1 : 0 ≤ 4 * (k : Int) + 1 := by omega
      have p2 : 0 ≤ 4 * (k : Int) + 2 := by omega
      have p3 : 0 ≤ 4 * (k : Int) + 3 := by omega
      have q0 : (k : Int) < 4 := by omega
      go_wp2_with fail
      go_still_tail 22, (by kernel_rfl)
      still_call WD.out
      repeat still_step
      refine wpStill_nil ?_
      change wpList _ _ _ _ _ wr.drew
      go_wp2
      go_roundw
      case rel =>
        refine ⟨k + 1, by omega, by go_num, ?_, (Below.heap_setCell _ _ _ _ (by simp)).trans HR2.out, (hbk.setCell (p := ⟨N + 1, k, none⟩) (by simp) _).drew⟩
        have e := Sm.rowOf_set (n := 4) (l := (List.range k).map (Sm.word l)) (by simp; omega) (Sm.word l k)
        rw [List.length_map, List.length_range] at e
        rw [Sm.words_range, ← e]
        exact Sm.heap_set HR1.out k _
      case measure => simp [intOf]; omega
    · obtain rfl : k = 4 := by omega
      clear hlt hk
      have hr := HR1.out
      rw [Sm.rowOf_full (by simp)] at hr
      have hsz : (Sm.nums (Ae.cols l)).toArray.size = 4 := by simp [Sm.nums, Ae.cols_length]
      have hone := Ae.nums_one (Ae.cols l)
      obtain ⟨cs, hcs⟩ : ∃ c, c = (Sm.nums (Ae.cols l)).toArray := ⟨_, rfl⟩
      have hr2 : wr.heap[N + 1]? = some (.cells cs 170 (0, 0)) := by rw [hcs, Ae.cols_eq]; exact hr
      rw [← hcs] at hsz hone
      have HR3 := Lib.hid hr2
      have HC := Lib.hid hcs
      clear hcs hr hr2
      go_wp2_with (first | (with_reducible refine wpList_load_row rfl 170 (.tmp 2) rfl (N + 1) rfl 170 cs (0, 0) _ (by exact HR3.out) Tryz.underlying170 rfl (Ae.infoBlk hsz) ?_) | (with_reducible refine wpList_store_row rfl 170 (.tmp 2) (.tmp 30) rfl (N + 1) cs rfl rfl 170 _ (by exact HR3.out) (Ae.infoBlk hsz) rfl hone ?_))
      exact bodyPost_ret (v := .agg cs) (results_cell_row rfl _ _ (N + 1) 170 _ (0, 0) _ rfl (setRow_heap _ (N + 1) _ _ _ _ HR3.out) Tryz.underlying170 rfl (Ae.infoBlk hsz)) rfl ⟨by rw [HC.out], by rw [← HN.out]; exact Sm.below_setRow hbk (Nat.le_succ _) _⟩

set_option maxRecDepth 100000 in
set_option maxHeartbeats 4000000 in
theorem bytes_any (w : World) (b : List Nat) (hb : b.length = 4) (hlt4 : ∀ x ∈ b, x < 4294967296) :
    Calls Tryz.prog 100 #[.agg (Sm.nums b).toArray] w fun e w' => e = .returned (.agg (Lib.byteCells (Ae.bytes b)).toArray) ∧ Below w.heap.size w w' := by
  obtain ⟨ck, hck⟩ : ∃ c, c = (Sm.nums b).toArray := ⟨_, rfl⟩
  obtain ⟨z0, hz0⟩ : ∃ z, z = Sm.rowB 16 [] := ⟨_, rfl⟩
  have hz1 := (zero_of_info Ae.zero16).1
  rw [← hz0] at hz1
  rw [← hck]
  have g1 : ((w.alloc (.cells ck 170)).alloc (.cells z0 168)).heap[w.heap.size]? = some (.cells (Sm.nums b).toArray 170 (0, 0)) := by
    rw [Below.heap_alloc _ _ _ (by simp), ← hck]; exact heap_alloc_new w _
  have g2 : ((w.alloc (.cells ck 170)).alloc (.cells z0 168)).heap[w.heap.size + 1]? = some (.cells (Sm.rowB 16 []) 168 (0, 0)) := by
    rw [← hz0]; simpa using heap_alloc_new (w.alloc (.cells ck 170)) (.cells z0 168)
  have b2 : Below w.heap.size w ((w.alloc (.cells ck 170)).alloc (.cells z0 168)) := ((Below.refl _ w).alloc (Nat.le_refl _) _).alloc (by simp) _
  clear hck hz0
  go_enter Tryz.func100, Tryz.ntmps100
  go_upto_region 1 with (fail)
  generalize (w.alloc (.cells ck 170)).alloc (.cells z0 168) = W2 at *
  clear hz1
  obtain ⟨N, hN⟩ : ∃ N, N = w.heap.size := ⟨_, rfl⟩
  rw [← hN] at g1 g2 b2 ⊢
  have HN := Lib.hid hN
  clear hN
  go_wp2_with fail
  go_loopw [4] (fun i wr => ∃ k : Nat, k ≤ 16 ∧ i = .int .i64 k ∧ wr.heap[N + 1]? = some (.cells (Sm.rowB 16 ((List.range k).map (Ae.outB b))) 168 (0, 0)) ∧ wr.heap[N]? = some (.cells (Sm.nums b).toArray 170 (0, 0)) ∧ Below N w wr) (fun i _ => 16 - (intOf i).toNat)
  case atStart => exact ⟨0, by omega, rfl, g2, g1, b2⟩
  case round =>
    clear g1 g2 b2
    obtain ⟨k, hk, rfl, hr1, hr2, hbk⟩ := hrel
    have HR1 := Lib.hid hr1
    have HR2 := Lib.hid hr2
    clear hr1 hr2
    by_cases hlt : k < 16
    · have c0 := Sm.cells_of HR2.out (k / 4) _ (by rw [List.getElem?_toArray]; exact Sm.nums_get (by omega))
      obtain ⟨old, hold⟩ := Sm.rowB_some (n := 16) (l := (List.range k).map (Ae.outB b)) k (by simp; omega) (by omega)
      have hold := Sm.cells_of HR1.out k old hold
      have fz := Sm.free_of HR1.out k
      have hx := Sm.getD_lt hlt4 (k / 4)
      obtain ⟨y, hy⟩ : ∃ y, y = Ae.outB b k := ⟨_, rfl⟩
      have HO : Hid (y = UInt8.ofNat (Ae.byteAt (b.getD (k / 4) 0) (k % 4))) := hy
      have HY := Lib.hid hy
      clear hy
      generalize b.getD (k / 4) 0 = x at *
      have BA : Hid (∀ wx : World, Calls Tryz.prog 126 #[.int .u32 x, .int .i64 ((k : Int) % 4)] wx fun e w' => e = .returned (.int .u8 (y.toNat : Int)) ∧ wx = w') := fun wx => by
        have h := byteAt_any x (k % 4) hx (Nat.mod_lt _ (by decide)) wx
        rw [show ((k % 4 : Nat) : Int) = (k : Int) % 4 by omega] at h
        exact h.mono fun _ _ ⟨h1, h2⟩ => ⟨by rw [h1, HO.out, Ae.ofNat8 _ (Ae.byteAt_lt _ _)], h2⟩
      go_wp2_with fail
      refine (BA.out _).mono ?_
      rintro e w' ⟨rfl, rfl⟩
      go_wp2_with fail
      go_roundw
      case rel =>
        refine ⟨k + 1, by omega, by go_num, ?_, (Below.heap_setCell _ _ _ _ (by simp)).trans HR2.out, (hbk.setCell (p := ⟨N + 1, k, none⟩) (by simp) _)⟩
        have e := Sm.rowB_set (n := 16) (l := (List.range k).map (Ae.outB b)) (by simp; omega) y
        rw [List.length_map, List.length_range] at e
        rw [Sm.range_snoc, ← HY.out, ← e]
        exact Sm.heap_set HR1.out k _
      case measure => simp [intOf]; omega
    · obtain rfl : k = 16 := by omega
      clear hlt hk
      have hr := HR1.out
      rw [Sm.rowB_full (by simp)] at hr
      have hsz : (Lib.byteCells (Ae.bytes b)).toArray.size = 16 := by rw [Sm.bytes_size, Ae.bytes_length]
      have hone := Sm.bytes_one (Ae.bytes b)
      obtain ⟨cs, hcs⟩ : ∃ c, c = (Lib.byteCells (Ae.bytes b)).toArray := ⟨_, rfl⟩
      have hr2 : wr.heap[N + 1]? = some (.cells cs 168 (0, 0)) := by rw [hcs]; exact hr
      rw [← hcs] at hsz hone
      have HR3 := Lib.hid hr2
      have HC := Lib.hid hcs
      clear hcs hr hr2
      go_wp2_with (first | (with_reducible refine wpList_load_row rfl 168 (.tmp 2) rfl (N + 1) rfl 168 cs (0, 0) _ (by exact HR3.out) Tryz.underlying168 rfl (Ae.info16 hsz) ?_) | (with_reducible refine wpList_store_row rfl 168 (.tmp 2) (.tmp 17) rfl (N + 1) cs rfl rfl 168 _ (by exact HR3.out) (Ae.info16 hsz) rfl hone ?_))
      exact bodyPost_ret (v := .agg cs) (results_cell_row rfl _ _ (N + 1) 168 _ (0, 0) _ rfl (setRow_heap _ (N + 1) _ _ _ _ HR3.out) Tryz.underlying168 rfl (Ae.info16 hsz)) rfl ⟨by rw [HC.out], by rw [← HN.out]; exact Sm.below_setRow hbk (Nat.le_succ _) _⟩
end Go.Proofs.YtibpgmcpcelmpaaGreatDoor
