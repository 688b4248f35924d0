/-
  PackKnown's two tables as plain data: what each row is written as, and what is read of it. No program.
-/
import Derived.Test.YtdcbamddioofnaaRead
namespace Go.Proofs.Ytdcbamddioofnaa
open Go.RowKit
namespace Pk

def rows13 : List (It × ByteArray) :=
  [(⟨0, 0, 0, ⟨#[]⟩, 0, 0⟩, ⟨#[0]⟩),
   (⟨0, 127, 0, ⟨#[]⟩, 0, 0⟩, ⟨#[127]⟩),
   (⟨0, 128, 0, ⟨#[]⟩, 0, 0⟩, ⟨#[128, 1]⟩),
   (⟨0, 16384, 0, ⟨#[]⟩, 0, 0⟩, ⟨#[128, 128, 1]⟩),
   (⟨0, 18446744073709551615, 0, ⟨#[]⟩, 0, 0⟩, ⟨#[255, 255, 255, 255, 255, 255, 255, 255, 255, 1]⟩),
   (⟨1, 0, 0, ⟨#[]⟩, 0, 0⟩, ⟨#[0]⟩),
   (⟨1, 0, -1, ⟨#[]⟩, 0, 0⟩, ⟨#[1]⟩),
   (⟨1, 0, 1, ⟨#[]⟩, 0, 0⟩, ⟨#[2]⟩),
   (⟨1, 0, -65, ⟨#[]⟩, 0, 0⟩, ⟨#[129, 1]⟩),
   (⟨1, 0, -9223372036854775808, ⟨#[]⟩, 0, 0⟩, ⟨#[255, 255, 255, 255, 255, 255, 255, 255, 255, 1]⟩),
   (⟨2, 0, 0, ⟨#[97, 98]⟩, 0, 2⟩, ⟨#[2, 97, 98]⟩),
   (⟨2, 0, 0, ⟨#[]⟩, 0, 0⟩, ⟨#[0]⟩),
   (⟨3, 0, 0, ⟨#[]⟩, 200, 0⟩, ⟨#[200]⟩)]
def bad7 : List (ByteArray × Nat) :=
  [(⟨#[]⟩, 7), (⟨#[129]⟩, 7), (⟨#[129, 0]⟩, 8), (⟨#[255, 255, 255, 255, 255, 255, 255, 255, 255]⟩, 7), (⟨#[255, 255, 255, 255, 255, 255, 255, 255, 255, 2]⟩, 8), (⟨#[255, 255, 255, 255, 255, 255, 255, 255, 255, 129]⟩, 8), (⟨#[128, 128, 128, 128, 128, 128, 128, 128, 128, 128, 1]⟩, 8)]
structure RowOk (a : It) (s : ByteArray) : Prop where
  ok : a.Ok
  enc : encs [a] = s.data.toList
  read : (rdI ⟨s, 0, 0⟩ a).1 = ⟨0, a.n, a.i, a.s, a.b, 0⟩
  fin : (rdI ⟨s, 0, 0⟩ a).2.fin = 0
  small : s.size ≤ 11
  text : a.s.size ≤ 2
structure BadOk (s : ByteArray) (e : Nat) : Prop where
  num : Rd.num ⟨s, 0, 0⟩ = (0, ⟨s, 0, e⟩)
  fail : e ≠ 0
  le : e ≤ 8
  small : s.size ≤ 11
theorem encs_one (a : It) : encs [a] = encI a := by simp [encs]
theorem enc_0 : enc 0 = [0] := by rw [enc_small (by decide)]; rfl
theorem enc_127 : enc 127 = [127] := by rw [enc_small (by decide)]; rfl
theorem enc_1 : enc 1 = [1] := by rw [enc_small (by decide)]; rfl
theorem enc_2 : enc 2 = [2] := by rw [enc_small (by decide)]; rfl
theorem enc_128 : enc 128 = [128, 1] := by rw [enc_big (by decide), enc_small (by decide)]; rfl
theorem enc_129 : enc 129 = [129, 1] := by rw [enc_big (by decide), enc_small (by decide)]; rfl
theorem enc_16384 : enc 16384 = [128, 128, 1] := by rw [enc_big (by decide), enc_big (by decide), enc_small (by decide)]; rfl
theorem enc_18446744073709551615 : enc 18446744073709551615 = [255, 255, 255, 255, 255, 255, 255, 255, 255, 1] := by rw [enc_big (by decide), enc_big (by decide), enc_big (by decide), enc_big (by decide), enc_big (by decide), enc_big (by decide), enc_big (by decide), enc_big (by decide), enc_big (by decide), enc_small (by decide)]; rfl
theorem row_0 : RowOk ⟨0, 0, 0, ⟨#[]⟩, 0, 0⟩ ⟨#[0]⟩ := ⟨⟨by decide, by decide, by decide, by decide, by decide, by decide⟩, by show enc 0 ++ [] = [0]; rw [enc_0]; rfl, rfl, rfl, by decide, by decide⟩
theorem row_1 : RowOk ⟨0, 127, 0, ⟨#[]⟩, 0, 0⟩ ⟨#[127]⟩ := ⟨⟨by decide, by decide, by decide, by decide, by decide, by decide⟩, by show enc 127 ++ [] = [127]; rw [enc_127]; rfl, rfl, rfl, by decide, by decide⟩
theorem row_2 : RowOk ⟨0, 128, 0, ⟨#[]⟩, 0, 0⟩ ⟨#[128, 1]⟩ := ⟨⟨by decide, by decide, by decide, by decide, by decide, by decide⟩, by show enc 128 ++ [] = [128, 1]; rw [enc_128]; rfl, rfl, rfl, by decide, by decide⟩
theorem dec_3 : dec 0 0 (Rd.rest ⟨⟨#[128, 128, 1]⟩, 0, 0⟩) = (16384, 3, 0) := by decide +kernel
theorem row_3 : RowOk ⟨0, 16384, 0, ⟨#[]⟩, 0, 0⟩ ⟨#[128, 128, 1]⟩ := ⟨⟨by decide, by decide, by decide, by decide, by decide, by decide⟩, by rw [encs_one, encI, if_pos rfl]; exact enc_16384, by show (⟨0, (Rd.num ⟨⟨#[128, 128, 1]⟩, 0, 0⟩).1, 0, ⟨#[]⟩, 0, 0⟩ : It) = _; unfold Rd.num; rw [dec_3]; rfl, by show (Rd.num ⟨⟨#[128, 128, 1]⟩, 0, 0⟩).2.fin = 0; unfold Rd.num; rw [dec_3]; rfl, by decide, by decide⟩
theorem dec_4 : dec 0 0 (Rd.rest ⟨⟨#[255, 255, 255, 255, 255, 255, 255, 255, 255, 1]⟩, 0, 0⟩) = (18446744073709551615, 10, 0) := by decide +kernel
theorem row_4 : RowOk ⟨0, 18446744073709551615, 0, ⟨#[]⟩, 0, 0⟩ ⟨#[255, 255, 255, 255, 255, 255, 255, 255, 255, 1]⟩ := ⟨⟨by decide, by decide, by decide, by decide, by decide, by decide⟩, by rw [encs_one, encI, if_pos rfl]; exact enc_18446744073709551615, by show (⟨0, (Rd.num ⟨⟨#[255, 255, 255, 255, 255, 255, 255, 255, 255, 1]⟩, 0, 0⟩).1, 0, ⟨#[]⟩, 0, 0⟩ : It) = _; unfold Rd.num; rw [dec_4]; rfl, by show (Rd.num ⟨⟨#[255, 255, 255, 255, 255, 255, 255, 255, 255, 1]⟩, 0, 0⟩).2.fin = 0; unfold Rd.num; rw [dec_4]; rfl, by decide, by decide⟩
theorem row_5 : RowOk ⟨1, 0, 0, ⟨#[]⟩, 0, 0⟩ ⟨#[0]⟩ := ⟨⟨by decide, by decide, by decide, by decide, by decide, by decide⟩, by show enc 0 ++ [] = [0]; rw [enc_0]; rfl, rfl, rfl, by decide, by decide⟩
theorem row_6 : RowOk ⟨1, 0, -1, ⟨#[]⟩, 0, 0⟩ ⟨#[1]⟩ := ⟨⟨by decide, by decide, by decide, by decide, by decide, by decide⟩, by show enc 1 ++ [] = [1]; rw [enc_1]; rfl, rfl, rfl, by decide, by decide⟩
theorem row_7 : RowOk ⟨1, 0, 1, ⟨#[]⟩, 0, 0⟩ ⟨#[2]⟩ := ⟨⟨by decide, by decide, by decide, by decide, by decide, by decide⟩, by show enc 2 ++ [] = [2]; rw [enc_2]; rfl, rfl, rfl, by decide, by decide⟩
theorem row_8 : RowOk ⟨1, 0, -65, ⟨#[]⟩, 0, 0⟩ ⟨#[129, 1]⟩ := ⟨⟨by decide, by decide, by decide, by decide, by decide, by decide⟩, by show enc 129 ++ [] = [129, 1]; rw [enc_129]; rfl, rfl, rfl, by decide, by decide⟩
theorem dec_9 : dec 0 0 (Rd.rest ⟨⟨#[255, 255, 255, 255, 255, 255, 255, 255, 255, 1]⟩, 0, 0⟩) = (18446744073709551615, 10, 0) := by decide +kernel
theorem row_9 : RowOk ⟨1, 0, -9223372036854775808, ⟨#[]⟩, 0, 0⟩ ⟨#[255, 255, 255, 255, 255, 255, 255, 255, 255, 1]⟩ := ⟨⟨by decide, by decide, by decide, by decide, by decide, by decide⟩, by rw [encs_one, encI, if_neg (by decide), if_pos rfl]; show enc (zig (-9223372036854775808)) = _; rw [show zig (-9223372036854775808) = 18446744073709551615 by decide +kernel]; exact enc_18446744073709551615, by show (⟨0, 0, zag (Rd.num ⟨⟨#[255, 255, 255, 255, 255, 255, 255, 255, 255, 1]⟩, 0, 0⟩).1, ⟨#[]⟩, 0, 0⟩ : It) = _; unfold Rd.num; rw [dec_9]; show (⟨0, 0, zag 18446744073709551615, ⟨#[]⟩, 0, 0⟩ : It) = _; rw [show zag 18446744073709551615 = -9223372036854775808 by decide +kernel], by show (Rd.num ⟨⟨#[255, 255, 255, 255, 255, 255, 255, 255, 255, 1]⟩, 0, 0⟩).2.fin = 0; unfold Rd.num; rw [dec_9]; rfl, by decide, by decide⟩
theorem row_10 : RowOk ⟨2, 0, 0, ⟨#[97, 98]⟩, 0, 2⟩ ⟨#[2, 97, 98]⟩ := ⟨⟨by decide, by decide, by decide, by decide, by decide, by decide⟩, by show (enc 2 ++ [97, 98]) ++ [] = [2, 97, 98]; rw [enc_2]; rfl, rfl, rfl, by decide, by decide⟩
theorem row_11 : RowOk ⟨2, 0, 0, ⟨#[]⟩, 0, 0⟩ ⟨#[0]⟩ := ⟨⟨by decide, by decide, by decide, by decide, by decide, by decide⟩, by show (enc 0 ++ []) ++ [] = [0]; rw [enc_0]; rfl, rfl, rfl, by decide, by decide⟩
theorem row_12 : RowOk ⟨3, 0, 0, ⟨#[]⟩, 200, 0⟩ ⟨#[200]⟩ := ⟨⟨by decide, by decide, by decide, by decide, by decide, by decide⟩, rfl, rfl, rfl, by decide, by decide⟩
theorem rows13_ok : ∀ p ∈ rows13, RowOk p.1 p.2 := by
  simp only [rows13, List.forall_mem_cons]
  exact ⟨row_0, row_1, row_2, row_3, row_4, row_5, row_6, row_7, row_8, row_9, row_10, row_11, row_12, fun _ h => by cases h⟩
theorem bad7_ok : ∀ p ∈ bad7, BadOk p.1 p.2 := by
  simp only [bad7, List.forall_mem_cons]
  exact ⟨⟨rfl, by decide, by decide, by decide⟩, ⟨rfl, by decide, by decide, by decide⟩, ⟨rfl, by decide, by decide, by decide⟩, ⟨rfl, by decide, by decide, by decide⟩, ⟨rfl, by decide, by decide, by decide⟩, ⟨rfl, by decide, by decide, by decide⟩, ⟨rfl, by decide, by decide, by decide⟩, fun _ h => by cases h⟩
theorem know_num : Rd.num ⟨⟨#[7, 2, 97]⟩, 0, 0⟩ = (7, ⟨⟨#[7, 2, 97]⟩, 1, 0⟩) := rfl
theorem know_text : Rd.text ⟨⟨#[7, 2, 97]⟩, 1, 0⟩ 9 = ([], ⟨⟨#[7, 2, 97]⟩, 1, 7⟩) := rfl
theorem know_most : Rd.most ⟨⟨#[7]⟩, 0, 0⟩ 6 = (0, ⟨⟨#[7]⟩, 0, 8⟩) := rfl
theorem know_ok (p f : Nat) (hp : p ≤ 3) (hf : f ≤ 8) : Rd.Ok ⟨⟨#[7, 2, 97]⟩, p, f⟩ := ⟨hp, hf, by show (3 : Nat) ≤ _; decide⟩
theorem know_ok1 (p f : Nat) (hp : p ≤ 1) (hf : f ≤ 8) : Rd.Ok ⟨⟨#[7]⟩, p, f⟩ := ⟨hp, hf, by show (1 : Nat) ≤ _; decide⟩
theorem know_okx (p f : Nat) (hp : p ≤ 1) (hf : f ≤ 8) : Rd.Ok ⟨⟨#[120]⟩, p, f⟩ := ⟨hp, hf, by show (1 : Nat) ≤ _; decide⟩
end Pk
open Pk

/-- The tables lie in block b. -/
def rowsAt (w : World) (b : Nat) (l : List (It × ByteArray)) : Prop := ∀ k (hk : k < l.length), itemAt w b (k * 7) l[k].1 ∧ w.cell? ⟨b, k * 7 + 6, none⟩ = some (.string l[k].2)
def badAt (w : World) (b : Nat) (l : List (ByteArray × Nat)) : Prop := ∀ k (hk : k < l.length), w.cell? ⟨b, k * 2, none⟩ = some (.string l[k].1) ∧ w.cell? ⟨b, k * 2 + 1, none⟩ = some (.int .i64 l[k].2)
theorem rowsAt.low {w w' : World} {b : Nat} {l : List (It × ByteArray)} {B : Nat} (h : rowsAt w b l) (k : Below B w w') (hb : b < B) : rowsAt w' b l := fun j hj =>
  ⟨(h j hj).1.below k hb, by rw [k.cell (p := ⟨b, j * 7 + 6, none⟩) hb]; exact (h j hj).2⟩
theorem badAt.low {w w' : World} {b : Nat} {l : List (ByteArray × Nat)} {B : Nat} (h : badAt w b l) (k : Below B w w') (hb : b < B) : badAt w' b l := fun j hj =>
  ⟨by rw [k.cell (p := ⟨b, j * 2, none⟩) hb]; exact (h j hj).1, by rw [k.cell (p := ⟨b, j * 2 + 1, none⟩) hb]; exact (h j hj).2⟩
def cells91 : Array Value := List.toArray (.int .u8 0 :: .int .u64 0 :: .int .i64 0 :: .string ⟨#[]⟩ :: .int .u8 0 :: .int .i64 0 :: .string ⟨#[0]⟩ :: .int .u8 0 :: .int .u64 127 :: .int .i64 0 :: .string ⟨#[]⟩ :: .int .u8 0 :: .int .i64 0 :: .string ⟨#[127]⟩ :: .int .u8 0 :: .int .u64 128 :: .int .i64 0 :: .string ⟨#[]⟩ :: .int .u8 0 :: .int .i64 0 :: .string ⟨#[128, 1]⟩ :: .int .u8 0 :: .int .u64 16384 :: .int .i64 0 :: .string ⟨#[]⟩ :: .int .u8 0 :: .int .i64 0 :: .string ⟨#[128, 128, 1]⟩ :: .int .u8 0 :: .int .u64 18446744073709551615 :: .int .i64 0 :: .string ⟨#[]⟩ :: .int .u8 0 :: .int .i64 0 :: .string ⟨#[255, 255, 255, 255, 255, 255, 255, 255, 255, 1]⟩ :: .int .u8 1 :: .int .u64 0 :: .int .i64 0 :: .string ⟨#[]⟩ :: .int .u8 0 :: .int .i64 0 :: .string ⟨#[0]⟩ :: .int .u8 1 :: .int .u64 0 :: .int .i64 (-1) :: .string ⟨#[]⟩ :: .int .u8 0 :: .int .i64 0 :: .string ⟨#[1]⟩ :: .int .u8 1 :: .int .u64 0 :: .int .i64 1 :: .string ⟨#[]⟩ :: .int .u8 0 :: .int .i64 0 :: .string ⟨#[2]⟩ :: .int .u8 1 :: .int .u64 0 :: .int .i64 (-65) :: .string ⟨#[]⟩ :: .int .u8 0 :: .int .i64 0 :: .string ⟨#[129, 1]⟩ :: .int .u8 1 :: .int .u64 0 :: .int .i64 (-9223372036854775808) :: .string ⟨#[]⟩ :: .int .u8 0 :: .int .i64 0 :: .string ⟨#[255, 255, 255, 255, 255, 255, 255, 255, 255, 1]⟩ :: .int .u8 2 :: .int .u64 0 :: .int .i64 0 :: .string ⟨#[97, 98]⟩ :: .int .u8 0 :: .int .i64 2 :: .string ⟨#[2, 97, 98]⟩ :: .int .u8 2 :: .int .u64 0 :: .int .i64 0 :: .string ⟨#[]⟩ :: .int .u8 0 :: .int .i64 0 :: .string ⟨#[0]⟩ :: .int .u8 3 :: .int .u64 0 :: .int .i64 0 :: .string ⟨#[]⟩ :: .int .u8 200 :: .int .i64 0 :: .string ⟨#[200]⟩ :: [])
theorem rowsAt_of {w : World} {b : Nat} {t : TypeId} (h : w.heap[b]? = some (.cells cells91 t (0, 0))) : rowsAt w b rows13 := by
  intro k hk
  have hk' : k < 13 := hk
  obtain rfl | rfl | rfl | rfl | rfl | rfl | rfl | rfl | rfl | rfl | rfl | rfl | rfl : k = 0 ∨ k = 1 ∨ k = 2 ∨ k = 3 ∨ k = 4 ∨ k = 5 ∨ k = 6 ∨ k = 7 ∨ k = 8 ∨ k = 9 ∨ k = 10 ∨ k = 11 ∨ k = 12 := by omega
  all_goals exact ⟨⟨cells_of h _ _ rfl, cells_of h _ _ rfl, cells_of h _ _ rfl, cells_of h _ _ rfl, cells_of h _ _ rfl, cells_of h _ _ rfl⟩, cells_of h _ _ rfl⟩
def cells14 : Array Value := #[.string ⟨#[]⟩, .int .i64 7, .string ⟨#[129]⟩, .int .i64 7, .string ⟨#[129, 0]⟩, .int .i64 8, .string ⟨#[255, 255, 255, 255, 255, 255, 255, 255, 255]⟩, .int .i64 7, .string ⟨#[255, 255, 255, 255, 255, 255, 255, 255, 255, 2]⟩, .int .i64 8, .string ⟨#[255, 255, 255, 255, 255, 255, 255, 255, 255, 129]⟩, .int .i64 8, .string ⟨#[128, 128, 128, 128, 128, 128, 128, 128, 128, 128, 1]⟩, .int .i64 8]
theorem badAt_of {w : World} {b : Nat} {t : TypeId} (h : w.heap[b]? = some (.cells cells14 t (0, 0))) : badAt w b bad7 := by
  intro k hk
  have hk' : k < 7 := hk
  obtain rfl | rfl | rfl | rfl | rfl | rfl | rfl : k = 0 ∨ k = 1 ∨ k = 2 ∨ k = 3 ∨ k = 4 ∨ k = 5 ∨ k = 6 := by omega
  all_goals exact ⟨cells_of h _ _ rfl, cells_of h _ _ rfl⟩
end Go.Proofs.Ytdcbamddioofnaa
