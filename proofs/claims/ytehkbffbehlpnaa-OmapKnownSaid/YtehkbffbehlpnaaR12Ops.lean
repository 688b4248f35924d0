/-
  The document's own batch: what bars a value, a number's and a text's bytes, when a batch is right, when operations may be.
-/
import Derived.Test.YtehkbffbehlpnaaMem
import Derived.Test.YtehkbffbehlpnaaOwn
import Derived.Test.YtehkbffbehlpnaaBaActs
import Derived.Test.YtehkbffbehlpnaaPaRefOf
namespace Go.Proofs.Ytehkbffbehlpnaa
open Go.RowKit Pk
namespace R12
/-- One byte that lies in a block of its own, as a text. -/
theorem conv_one (W : World) (x : UInt8) (v : Int) (hv : v = x.toNat) :
    (convert 68 9 (.slice (some ⟨W.heap.size, 0, none⟩) 1 1)).run Try.prog (W.alloc (.cells #[.int .u8 v] 5)) = .ok (.string ⟨#[x]⟩) (W.alloc (.cells #[.int .u8 v] 5)) := by
  subst hv
  have hn := heap_alloc_new W (.cells #[.int .u8 (x.toNat : Int)] 5)
  have h := run_convert_bytes_back (P := Try.prog) (W.alloc (.cells #[.int .u8 (x.toNat : Int)] 5)) 68 9 5 ⟨W.heap.size, 0, none⟩ 1 [x] Try.underlying68 Try.underlying5 Try.underlying9 (fun j hj => by
    have hj0 : j = 0 := by simpa using hj
    subst hj0
    exact Sm.cells_of hn 0 _ rfl)
  exact h
theorem ba_cat (a b : List UInt8) : (ByteArray.mk a.toArray ++ ByteArray.mk b.toArray) = ByteArray.mk (a ++ b).toArray := by
  apply ByteArray.ext
  rw [ByteArray.data_append]
  simp
theorem ba_cat_s (a : List UInt8) (s : ByteArray) : (ByteArray.mk a.toArray ++ s) = ByteArray.mk (a ++ s.data.toList).toArray := by
  apply ByteArray.ext
  rw [ByteArray.data_append]
  apply Array.ext'
  simp
theorem text_ne {s : ByteArray} (h : ¬ s.size = 0) : s.toList.isEmpty = false := by
  rw [Lib.toList_data, Bool.eq_false_iff]
  intro h2
  exact h (by rw [List.isEmpty_iff] at h2; show s.data.toList.length = 0; rw [h2]; rfl)
theorem text_none {s : ByteArray} (h : s.size = 0) : s.toList.isEmpty = true := by
  rw [Lib.toList_data]; exact List.isEmpty_iff.2 (List.eq_nil_of_length_eq_zero h)
theorem enc_len {n : Nat} (hn : n < 2 ^ 64) : (enc n).length ≤ 10 := by
  have h := dec_enc n 0 0 [] (by simpa using hn) (by omega) (by decide)
  have h2 := (dec_bd (enc n ++ [])).2.1
  rw [h] at h2
  simpa using h2
end R12
set_option maxRecDepth 100000 in
theorem r12value_any (w : World) (o : Ba.Op) :
    Calls Try.prog 64 #[.agg #[.int .u8 (o.k : Int), .string o.p, .string o.v]] w fun e w' => e = .returned (.int .i64 (Ba.value o : Nat)) ∧ Below w.heap.size w w' := by
  have g0 := heap_alloc_new w (.cells #[.int .u8 (o.k : Int), .string o.p, .string o.v] 52)
  have b0 : Below w.heap.size w (w.alloc (.cells #[.int .u8 (o.k : Int), .string o.p, .string o.v] 52)) := (Below.refl _ w).alloc (Nat.le_refl _) _
  unfold Ba.value
  by_cases h1 : 32 < o.v.size
  · rw [if_pos h1]
    have h1' : (32 : Int) < (o.v.size : Int) := by omega
    clear g0
    go_enter Try.func64, Try.ntmps64
    go_wp2
    go_ret
    exact ⟨rfl, b0⟩
  · rw [if_neg h1]
    have h1' : ¬ (32 : Int) < (o.v.size : Int) := by omega
    by_cases h2 : o.k = 2
    · have h2' : ((o.k : Int) == 2) = true := by rw [h2]; rfl
      by_cases h3 : o.v.size = 0
      · have h3' := R12.text_none h3
        rw [if_neg (by omega)]
        clear g0 h2
        go_enter Try.func64, Try.ntmps64
        go_wp2
        go_ret
        exact ⟨rfl, b0⟩
      · have h3' := R12.text_ne h3
        rw [if_pos ⟨h2, h3⟩]
        clear g0 h2
        go_enter Try.func64, Try.ntmps64
        go_wp2
        go_ret
        exact ⟨rfl, b0⟩
    · have h2' : ((o.k : Int) == 2) = false := by rw [beq_eq_false_iff_ne]; omega
      rw [if_neg (by omega)]
      clear g0
      go_enter Try.func64, Try.ntmps64
      go_wp2
      go_ret
      exact ⟨rfl, b0⟩
end Go.Proofs.Ytehkbffbehlpnaa
