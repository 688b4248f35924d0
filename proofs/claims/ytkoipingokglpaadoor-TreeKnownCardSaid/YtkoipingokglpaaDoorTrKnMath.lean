/-
  TreeKnown: the keys it sets, and what they make of the tree.
-/
import Derived.Test.YtkoipingokglpaaDoorTrEx
import Derived.Test.YtkoipingokglpaaDoorTrE
import Derived.Laws.BytesArg
namespace Go.Proofs.YtkoipingokglpaaDoor
open Go.RowKit
namespace Tr
/-- The keys of the second map. -/
def key48 (i : Nat) : ByteArray := ⟨#[97, 112, 112, 47, UInt8.ofNat (97 + i % 24), UInt8.ofNat (97 + i / 24)]⟩
def kR : Nat → List Om.Pr
  | 0 => []
  | i + 1 => Om.put (key48 i) Bu.t1 (kR i)
theorem kR_length : ∀ i, (kR i).length ≤ i
  | 0 => Nat.le_refl _
  | i + 1 => by
    have := kR_length i
    show (Om.put _ _ _).length ≤ _
    rw [Om.put_length]
    split <;> omega
theorem kOk48 : ((List.range 48).all fun i => Pa.ok (key48 i).data.toList) = true := by kernel_rfl
theorem kSet {i : Nat} (h : i < 48) : setE (kR i) (key48 i) Bu.t1 = 0 := by
  have h1 := List.all_eq_true.1 kOk48 i (List.mem_range.2 h)
  have h2 := kR_length i
  unfold setE
  rw [if_neg (by rw [h1]; decide), if_neg (by decide), if_neg (by omega)]
theorem kSetR {i : Nat} (h : i < 48) : setR (kR i) (key48 i) Bu.t1 = kR (i + 1) := by
  unfold setR
  rw [if_pos (kSet h)]
  rfl
theorem key48_eq (j : Nat) : (⟨#[97, 112, 112, 47]⟩ : ByteArray) ++ Go.strOfNums [97 + (j : Int) % 24, 97 + (j : Int) / 24] = key48 j := by
  have e1 : (97 + (j : Int) % 24).toNat = 97 + j % 24 := by omega
  have e2 : (97 + (j : Int) / 24).toNat = 97 + j / 24 := by omega
  apply ByteArray.ext
  rw [ByteArray.data_append]
  unfold Go.strOfNums key48
  simp only [List.map_cons, List.map_nil, e1, e2]
  rfl
theorem kCv (j : Nat) : ∃ S : ByteArray, (∀ W : World, (convert 58 9 (.slice (some ⟨W.heap.size, 0, none⟩) 2 2)).run Tryd.prog (W.alloc (.cells #[.int .u8 (97 + (j : Int) % 24), .int .u8 (97 + (j : Int) / 24)] 5)) = .ok (.string S) (W.alloc (.cells #[.int .u8 (97 + (j : Int) % 24), .int .u8 (97 + (j : Int) / 24)] 5))) ∧
    ∀ W : World, (Go.Op.stringOp .add ⟨#[97, 112, 112, 47]⟩ S).run Tryd.prog W = .ok (.string (key48 j)) W := by
  refine ⟨Go.strOfNums [97 + (j : Int) % 24, 97 + (j : Int) / 24], fun W => ?_, fun W => ?_⟩
  · refine run_convert_bytes_arg _ 58 5 Tryd.underlying58 Tryd.underlying5 W.heap.size 0 2 2 _ rfl (fun i hi => ?_) 9 Tryd.underlying9
    have z := Sm.cells_of (heap_alloc_new W (.cells #[.int .u8 (97 + (j : Int) % 24), .int .u8 (97 + (j : Int) / 24)] 5))
    obtain rfl | rfl : i = 0 ∨ i = 1 := by omega
    · exact z 0 _ rfl
    · exact z 1 _ rfl
  · have := run_string_add_sum (P := Tryd.prog) W ⟨#[97, 112, 112, 47]⟩ (Go.strOfNums [97 + (j : Int) % 24, 97 + (j : Int) / 24]) (by rw [Go.strOfNums_size]; show 4 + 2 ≤ _; decide)
    rw [this, key48_eq]
def keys48 : List Om.Pr := [⟨⟨#[97, 112, 112, 47, 97, 97]⟩, Bu.t1⟩, ⟨⟨#[97, 112, 112, 47, 97, 98]⟩, Bu.t1⟩, ⟨⟨#[97, 112, 112, 47, 98, 97]⟩, Bu.t1⟩, ⟨⟨#[97, 112, 112, 47, 98, 98]⟩, Bu.t1⟩, ⟨⟨#[97, 112, 112, 47, 99, 97]⟩, Bu.t1⟩, ⟨⟨#[97, 112, 112, 47, 99, 98]⟩, Bu.t1⟩, ⟨⟨#[97, 112, 112, 47, 100, 97]⟩, Bu.t1⟩, ⟨⟨#[97, 112, 112, 47, 100, 98]⟩, Bu.t1⟩, ⟨⟨#[97, 112, 112, 47, 101, 97]⟩, Bu.t1⟩, ⟨⟨#[97, 112, 112, 47, 101, 98]⟩, Bu.t1⟩, ⟨⟨#[97, 112, 112, 47, 102, 97]⟩, Bu.t1⟩, ⟨⟨#[97, 112, 112, 47, 102, 98]⟩, Bu.t1⟩, ⟨⟨#[97, 112, 112, 47, 103, 97]⟩, Bu.t1⟩, ⟨⟨#[97, 112, 112, 47, 103, 98]⟩, Bu.t1⟩, ⟨⟨#[97, 112, 112, 47, 104, 97]⟩, Bu.t1⟩, ⟨⟨#[97, 112, 112, 47, 104, 98]⟩, Bu.t1⟩, ⟨⟨#[97, 112, 112, 47, 105, 97]⟩, Bu.t1⟩, ⟨⟨#[97, 112, 112, 47, 105, 98]⟩, Bu.t1⟩, ⟨⟨#[97, 112, 112, 47, 106, 97]⟩, Bu.t1⟩, ⟨⟨#[97, 112, 112, 47, 106, 98]⟩, Bu.t1⟩, ⟨⟨#[97, 112, 112, 47, 107, 97]⟩, Bu.t1⟩, ⟨⟨#[97, 112, 112, 47, 107, 98]⟩, Bu.t1⟩, ⟨⟨#[97, 112, 112, 47, 108, 97]⟩, Bu.t1⟩, ⟨⟨#[97, 112, 112, 47, 108, 98]⟩, Bu.t1⟩, ⟨⟨#[97, 112, 112, 47, 109, 97]⟩, Bu.t1⟩, ⟨⟨#[97, 112, 112, 47, 109, 98]⟩, Bu.t1⟩, ⟨⟨#[97, 112, 112, 47, 110, 97]⟩, Bu.t1⟩, ⟨⟨#[97, 112, 112, 47, 110, 98]⟩, Bu.t1⟩, ⟨⟨#[97, 112, 112, 47, 111, 97]⟩, Bu.t1⟩, ⟨⟨#[97, 112, 112, 47, 111, 98]⟩, Bu.t1⟩, ⟨⟨#[97, 112, 112, 47, 112, 97]⟩, Bu.t1⟩, ⟨⟨#[97, 112, 112, 47, 112, 98]⟩, Bu.t1⟩, ⟨⟨#[97, 112, 112, 47, 113, 97]⟩, Bu.t1⟩, ⟨⟨#[97, 112, 112, 47, 113, 98]⟩, Bu.t1⟩, ⟨⟨#[97, 112, 112, 47, 114, 97]⟩, Bu.t1⟩, ⟨⟨#[97, 112, 112, 47, 114, 98]⟩, Bu.t1⟩, ⟨⟨#[97, 112, 112, 47, 115, 97]⟩, Bu.t1⟩, ⟨⟨#[97, 112, 112, 47, 115, 98]⟩, Bu.t1⟩, ⟨⟨#[97, 112, 112, 47, 116, 97]⟩, Bu.t1⟩, ⟨⟨#[97, 112, 112, 47, 116, 98]⟩, Bu.t1⟩, ⟨⟨#[97, 112, 112, 47, 117, 97]⟩, Bu.t1⟩, ⟨⟨#[97, 112, 112, 47, 117, 98]⟩, Bu.t1⟩, ⟨⟨#[97, 112, 112, 47, 118, 97]⟩, Bu.t1⟩, ⟨⟨#[97, 112, 112, 47, 118, 98]⟩, Bu.t1⟩, ⟨⟨#[97, 112, 112, 47, 119, 97]⟩, Bu.t1⟩, ⟨⟨#[97, 112, 112, 47, 119, 98]⟩, Bu.t1⟩, ⟨⟨#[97, 112, 112, 47, 120, 97]⟩, Bu.t1⟩, ⟨⟨#[97, 112, 112, 47, 120, 98]⟩, Bu.t1⟩]
theorem kR48 : kR 48 = keys48 := by kernel_rfl
def tZZ : ByteArray := ⟨#[97, 112, 112, 47, 122, 122]⟩
def tAA : ByteArray := ⟨#[97, 112, 112, 47, 97, 97]⟩
def tTwo : ByteArray := ⟨#[50]⟩
def t33 : ByteArray := ⟨#[48, 49, 50, 51, 52, 53, 54, 55, 56, 57, 48, 49, 50, 51, 52, 53, 54, 55, 56, 57, 48, 49, 50, 51, 52, 53, 54, 55, 56, 57, 48, 49, 50]⟩
theorem k6 : setE keys48 tZZ Bu.t1 = 6 := by kernel_rfl
theorem k0 : setE keys48 tAA tTwo = 0 := by kernel_rfl
theorem kLen : (setR keys48 tAA tTwo).length = 48 := by kernel_rfl
theorem k3 : setE Bu.one Bu.tA t33 = 3 := by kernel_rfl
theorem kMay : Bu.may [⟨Bu.tB, Bu.tNo⟩, ⟨Bu.tA, Bu.tNo⟩] = false := by kernel_rfl
theorem small2 : ∀ x ∈ [(⟨Bu.tB, Bu.tNo⟩ : Om.Pr), ⟨Bu.tA, Bu.tNo⟩], x.p.size ≤ 281474976710656 := fun x hx => by
  simp only [List.mem_cons, List.not_mem_nil, or_false] at hx
  rcases hx with rfl | rfl
  · show 5 ≤ _
    decide
  · show 5 ≤ _
    decide
theorem list2 {w : World} {b : Nat} {p q : ByteArray} (h : w.heap[b]? = some (.cells #[.string p, .string Bu.tNo, .string q, .string Bu.tNo] 57 (0, 0))) : Om.listAt w (some ⟨b, 0, none⟩) [⟨p, Bu.tNo⟩, ⟨q, Bu.tNo⟩] := .inr ⟨b, 0, rfl, Sm.lt_of h, fun k hk => by
  have hk2 : k < 2 := hk
  obtain rfl | rfl : k = 0 ∨ k = 1 := by omega
  · exact ⟨Sm.cells_of h 0 _ rfl, Sm.cells_of h 1 _ rfl⟩
  · exact ⟨Sm.cells_of h 2 _ rfl, Sm.cells_of h 3 _ rfl⟩⟩
end Tr
end Go.Proofs.YtkoipingokglpaaDoor
