/-
  The document's own batch: what bars a value, a number's and a text's bytes, when a batch is right, when operations may be.
-/
import Derived.Test.YtkoipingokglpaaDoorMBase
import Derived.Test.YtkoipingokglpaaDoorBaActs
import Derived.Test.YtkoipingokglpaaDoorPaMounts
import Derived.Test.YtkoipingokglpaaDoorPaRefCut
namespace Go.Proofs.YtkoipingokglpaaDoor
open Go.RowKit Pk
namespace R12
/-- One byte that lies in a block of its own, as a text. -/
theorem conv_one (W : World) (x : UInt8) (v : Int) (hv : v = x.toNat) :
    (convert 58 9 (.slice (some ⟨W.heap.size, 0, none⟩) 1 1)).run Tryd.prog (W.alloc (.cells #[.int .u8 v] 5)) = .ok (.string ⟨#[x]⟩) (W.alloc (.cells #[.int .u8 v] 5)) := by
  subst hv
  have hn := heap_alloc_new W (.cells #[.int .u8 (x.toNat : Int)] 5)
  have h := run_convert_bytes_back (P := Tryd.prog) (W.alloc (.cells #[.int .u8 (x.toNat : Int)] 5)) 58 9 5 ⟨W.heap.size, 0, none⟩ 1 [x] Tryd.underlying58 Tryd.underlying5 Tryd.underlying9 (fun j hj => by
    have hj0 : j = 0 := by simpa using hj
    subst hj0
    exact Sm.cells_of hn 0 _ rfl)
  exact h
theorem ba_cat (a b : List UInt8) : (ByteArray.mk a.toArray ++ ByteArray.mk b.toArray) = ByteArray.mk (a ++ b).toArray := by
  apply ByteArray.ext
  rw [ByteArray.data_append]
  simp
theorem ba_cat_s (a : List UInt8) (s : ByteArray) : (ByteArray.mk a.toArray ++ s) = ByteArray.mk (a ++ s.data.toList).toArray := by
  apply ByteArray.ext
  rw [ByteArray.data_append]
  apply Array.ext'
  simp
theorem text_ne {s : ByteArray} (h : ¬ s.size = 0) : s.toList.isEmpty = false := by
  rw [Lib.toList_data, Bool.eq_false_iff]
  intro h2
  exact h (by rw [List.isEmpty_iff] at h2; show s.data.toList.length = 0; rw [h2]; rfl)
theorem text_none {s : ByteArray} (h : s.size = 0) : s.toList.isEmpty = true := by
  rw [Lib.toList_data]; exact List.isEmpty_iff.2 (List.eq_nil_of_length_eq_zero h)
theorem enc_len {n : Nat} (hn : n < 2 ^ 64) : (enc n).length ≤ 10 := by
  have h := dec_enc n 0 0 [] (by simpa using hn) (by omega) (by decide)
  have h2 := (dec_bd (enc n ++ [])).2.1
  rw [h] at h2
  simpa using h2
end R12
end Go.Proofs.YtkoipingokglpaaDoor
