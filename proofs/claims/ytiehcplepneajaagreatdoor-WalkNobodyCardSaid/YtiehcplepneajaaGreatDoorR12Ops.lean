/-
  The document's own batch: what bars a value, a number's and a text's bytes, when a batch is right, when operations may be.
-/
import Derived.Test.YtiehcplepneajaaGreatDoorMBase
import Derived.Test.YtiehcplepneajaaGreatDoorBaActs
import Derived.Test.YtiehcplepneajaaGreatDoorPaMounts
import Derived.Test.YtiehcplepneajaaGreatDoorPaRefCut
namespace Go.Proofs.YtiehcplepneajaaGreatDoor
open Go.RowKit Pk
namespace R12
/-- One byte that lies in a block of its own, as a text. -/
theorem conv_one (W : World) (x : UInt8) (v : Int) (hv : v = x.toNat) :
    (convert 127 9 (.slice (some ⟨W.heap.size, 0, none⟩) 1 1)).run Tryz.prog (W.alloc (.cells #[.int .u8 v] 5)) = .ok (.string ⟨#[x]⟩) (W.alloc (.cells #[.int .u8 v] 5)) := by
  subst hv
  have hn := heap_alloc_new W (.cells #[.int .u8 (x.toNat : Int)] 5)
  have h := run_convert_bytes_back (P := Tryz.prog) (W.alloc (.cells #[.int .u8 (x.toNat : Int)] 5)) 127 9 5 ⟨W.heap.size, 0, none⟩ 1 [x] Tryz.underlying127 Tryz.underlying5 Tryz.underlying9 (fun j hj => by
    have hj0 : j = 0 := by simpa using hj
    subst hj0
    exact Sm.cells_of hn 0 _ rfl)
  exact h
theorem ba_cat (a b : List UInt8) : (ByteArray.mk a.toArray ++ ByteArray.mk b.toArray) = ByteArray.mk (a ++ b).toArray := by
  apply ByteArray.ext
  rw [ByteArray.data_append]
  simp
theorem ba_cat_s (a : List UInt8) (s : ByteArray) : (ByteArray.mk a.toArray ++ s) = ByteArray.mk (a ++ s.data.toList).toArray := by
  apply ByteArray.ext
  rw [ByteArray.data_append]
  apply Array.ext'
  simp
theorem text_ne {s : ByteArray} (h : ¬ s.size = 0) : s.toList.isEmpty = false := by
  rw [Lib.toList_data, Bool.eq_false_iff]
  intro h2
  exact h (by rw [List.isEmpty_iff] at h2; show s.data.toList.length = 0; rw [h2]; rfl)
theorem text_none {s : ByteArray} (h : s.size = 0) : s.toList.isEmpty = true := by
  rw [Lib.toList_data]; exact List.isEmpty_iff.2 (List.eq_nil_of_length_eq_zero h)
theorem enc_len {n : Nat} (hn : n < 2 ^ 64) : (enc n).length ≤ 10 := by
  have h := dec_enc n 0 0 [] (by simpa using hn) (by omega) (by decide)
  have h2 := (dec_bd (enc n ++ [])).2.1
  rw [h] at h2
  simpa using h2
end R12
set_option maxHeartbeats 1000000 in
theorem r12Num_any (n : Nat) (hn : n < 2 ^ 64) (w : World) :
    Calls Tryz.prog 124 #[.int .u64 n] w fun e w' => e = .returned (.string ⟨(enc n).toArray⟩) ∧ Below w.heap.size w w' := by
  go_enter Tryz.func124, Tryz.ntmps124
  go_wp2
  go_loopw [0, 3] (fun x s wr => ∃ (k : Nat) (done : List UInt8), k ≤ n ∧ x = .int .u64 k ∧ s = .string ⟨done.toArray⟩ ∧ Below w.heap.size w wr ∧ Hid (done ++ enc k = enc n)) (fun x _ _ => (intOf x).toNat)
  case atStart => exact ⟨n, [], Nat.le_refl _, rfl, rfl, Below.refl _ _, rfl⟩
  case round =>
    obtain ⟨k, done, hk, rfl, rfl, hbe, hd⟩ := hrel
    have hk64 : (k : Int) ≤ 18446744073709551615 := by omega
    have hl : done.length ≤ 10 := by
      have h1 := congrArg List.length hd.out
      have h2 := R12.enc_len hn
      rw [List.length_append] at h1
      omega
    have hcat : ¬ 9223372036854775807 < done.length + 1 := by omega
    by_cases hgt : 127 < k
    · have hgt' : (127 : Int) < k := by omega
      have hd2 := hd.out
      rw [enc_big hgt] at hd2
      obtain ⟨x, hx⟩ : ∃ x, x = UInt8.ofNat (k % 128 + 128) := ⟨_, rfl⟩
      rw [← hx] at hd2
      have HD := Lib.hid hd2
      have HX := Lib.hid hx
      clear hd hd2 hx
      have hcv := R12.conv_one wr x ((k : Int) % 128 + 128) (by rw [HX.out, ofNat_toNat (by omega)]; omega)
      go_wp2_with fail
      go_roundw
      case rel => exact ⟨k / 128, done ++ [x], by omega, by go_num, by rw [← R12.ba_cat], hbe.alloc hbe.size _, by rw [List.append_assoc]; exact HD.out⟩
      case measure => simp [intOf]; omega
    · have hgt' : ¬ (127 : Int) < k := by omega
      have hd2 := hd.out
      rw [enc_small hgt] at hd2
      have HD := Lib.hid hd2
      clear hd hd2
      have hcv := R12.conv_one wr (UInt8.ofNat k) k (by rw [ofNat_toNat (by omega)])
      go_wp2_with fail
      go_ret
      rw [← HD.out, ← R12.ba_cat]
      exact ⟨rfl, hbe.alloc hbe.size _⟩
set_option maxHeartbeats 1000000 in
theorem r12Text_any (s : ByteArray) (hs : s.size ≤ 140737488351232) (w : World) :
    Calls Tryz.prog 125 #[.string s] w fun e w' => e = .returned (.string ⟨(Rm.txt s.data.toList).toArray⟩) ∧ Below w.heap.size w w' := by
  have hsl : s.data.toList.length = s.size := Ba.ba_size s
  go_enter Tryz.func125, Tryz.ntmps125
  go_wp2_with fail
  refine (r12Num_any s.size (by omega) _).mono ?_
  rintro e w1 ⟨rfl, hb⟩
  have hcat : ¬ 9223372036854775807 < (enc s.size).length + s.size := by have := R12.enc_len (n := s.size) (by omega); omega
  go_wp2_with fail
  go_ret
  unfold Rm.txt
  rw [hsl, ← R12.ba_cat_s]
  exact ⟨rfl, hb⟩
end Go.Proofs.YtiehcplepneajaaGreatDoor
