/-
  What path's isKey, Cut and Join tell.
-/
import Derived.Test.YtiehcplepneajaaGreatDoorPaFns
import Derived.Test.YtiehcplepneajaaGreatDoorShelf
namespace Go.Proofs.YtiehcplepneajaaGreatDoor
open Go.RowKit
namespace Pa
theorem slash_list : ({ data := #[47] } : ByteArray).data.toList = [47] := rfl
theorem any_fair {l : List UInt8} (h1 : 1 ≤ l.length) (h24 : l.length ≤ 24) : keyed l = (!l.any (· == 47) && !l.any (· == 0)) := by
  unfold keyed
  rw [fair_any]
  simp [h1, h24]
theorem idx_lt {l : List UInt8} {c : UInt8} {n : Nat} (h : Lib.indexByte l c = n) : n < l.length := by
  have := (Lib.indexByte_some h).1
  exact (List.getElem?_eq_some_iff.1 this).1
theorem idx_none {l : List UInt8} (h : Lib.indexByte l 47 = -1) : head l = l ∧ tail l = [] := by
  obtain ⟨h1, h2⟩ := lib_cut l
  have e : Lib.cut l [47] = (l, [], false) := by
    unfold Lib.cut
    rw [Lib.index_one, h, if_neg (by omega)]
  rw [e] at h1 h2
  exact ⟨h1.symm, h2.symm⟩
theorem idx_some {l : List UInt8} {n : Nat} (h : Lib.indexByte l 47 = n) : head l = l.take n ∧ tail l = l.drop (n + 1) := by
  obtain ⟨h1, h2⟩ := lib_cut l
  have e : Lib.cut l [47] = (l.take n, l.drop (n + 1), true) := by
    unfold Lib.cut
    rw [Lib.index_one, h, if_pos (by omega)]
    simp
  rw [e] at h1 h2
  exact ⟨h1.symm, h2.symm⟩
theorem ext_take (s : ByteArray) (n : Nat) : s.extract 0 n = ⟨(s.data.toList.take n).toArray⟩ := by
  apply ByteArray.ext
  apply Array.ext'
  simp
theorem ext_drop (s : ByteArray) (n : Nat) : s.extract n s.size = ⟨(s.data.toList.drop n).toArray⟩ := by
  apply ByteArray.ext
  apply Array.ext'
  simp
  exact List.take_of_length_le (by rw [List.length_drop, len_size]; exact Nat.le_refl _)
end Pa
set_option maxRecDepth 100000 in
set_option maxHeartbeats 1000000 in
theorem paIsKey_any (w : World) (s : ByteArray) : Calls Tryz.prog 116 #[.string s] w fun e w' => e = .returned (.bool (Pa.keyed s.data.toList)) ∧ w = w' := by
  have hz := Pa.len_size s
  have C1 := Lib.hid (strings_Contains_one s 47 w)
  have C0 := Lib.hid (strings_Contains_one s 0 w)
  go_enter Tryz.func116, Tryz.ntmps116
  by_cases h1 : s.size < 1
  · have h1i : (s.size : Int) < 1 := by omega
    go_wp2
    go_ret
    exact ⟨by rw [Pa.short_keyed (.inl (by omega))]; rfl, rfl⟩
  · have h1i : ¬ (s.size : Int) < 1 := by omega
    by_cases h8 : 24 < s.size
    · have h8i : (24 : Int) < s.size := by omega
      go_wp2
      go_ret
      exact ⟨by rw [Pa.short_keyed (.inr (by omega))]; rfl, rfl⟩
    · have h8i : ¬ (24 : Int) < s.size := by omega
      have hk := Pa.any_fair (l := s.data.toList) (by omega) (by omega)
      rw [← Pa.has_byte, ← Pa.has_byte] at hk
      obtain ⟨b1, hb1⟩ : ∃ b, b = decide (0 ≤ Lib.indexByte s.data.toList 47) := ⟨_, rfl⟩
      obtain ⟨b0, hb0⟩ : ∃ b, b = decide (0 ≤ Lib.indexByte s.data.toList 0) := ⟨_, rfl⟩
      rw [← hb1] at C1
      rw [← hb0] at C0
      rw [← hb1, ← hb0] at hk
      have HK := Lib.hid hk
      clear hk hb0 hb1
      cases b1
      · go_wp2_with (go_at_call 146; first | (with_reducible refine (C1.out).mono ?_; rintro e w' ⟨rfl, rfl⟩) | (with_reducible refine (C0.out).mono ?_; rintro e w' ⟨rfl, rfl⟩))
        go_ret
        exact ⟨by rw [HK.out]; rfl, rfl⟩
      · go_wp2_with (go_at_call 146; with_reducible refine (C1.out).mono ?_; rintro e w' ⟨rfl, rfl⟩)
        go_ret
        exact ⟨by rw [HK.out]; rfl, rfl⟩
set_option maxHeartbeats 1000000 in
theorem slCut_one (s : ByteArray) (hs : s.size ≤ 9223372036854775807) (w : World) : Calls Tryz.prog 145 #[.string s, .string ⟨#[47]⟩] w fun e w' => (∃ b, e = .returned (.tuple #[.string ⟨(Pa.head s.data.toList).toArray⟩, .string ⟨(Pa.tail s.data.toList).toArray⟩, .bool b])) ∧ ∃ n, w' = w.drewN n := by
  have IX := Lib.hid (stringslite_Index_one s 47 w)
  have hg := Lib.indexByte_ge s.data.toList 47
  have hz := Pa.len_size s
  by_cases hn : Lib.indexByte s.data.toList 47 = -1
  · obtain ⟨e1, e2⟩ := Pa.idx_none hn
    rw [e1, e2]
    rw [hn] at IX
    go_enter Tryz.func145, Tryz.ntmps145
    go_wp2_with (go_at_call 168; refine (IX.out).mono ?_; rintro e w' ⟨rfl, rfl⟩)
    go_ret3
    exact ⟨⟨false, rfl⟩, 0, rfl⟩
  · obtain ⟨n, hn2⟩ : ∃ n : Nat, Lib.indexByte s.data.toList 47 = n := ⟨(Lib.indexByte s.data.toList 47).toNat, by omega⟩
    obtain ⟨e1, e2⟩ := Pa.idx_some hn2
    have hlt := Pa.idx_lt hn2
    rw [e1, e2, ← Pa.ext_take, ← Pa.ext_drop]
    rw [hn2] at IX
    have c1 : (0 : Int) ≤ (n : Int) := by omega
    have c2 : (n : Int) ≤ s.size := by omega
    have c3 : (0 : Int) ≤ (n : Int) + 1 := by omega
    have c4 : (n : Int) + 1 ≤ s.size := by omega
    have c5 : IntKind.i64.wrap ((n : Int) + 1) = (n : Int) + 1 := by simp [IntKind.wrap, IntKind.bits, IntKind.signed]; omega
    have c6 : ((n : Int) + 1).toNat = n + 1 := by omega
    clear hg hn hn2 e1 e2
    go_enter Tryz.func145, Tryz.ntmps145
    go_wp2_with (go_at_call 168; refine (IX.out).mono ?_; rintro e w' ⟨rfl, rfl⟩)
    go_region
    go_wp2
    go_ret3
    exact ⟨⟨true, rfl⟩, 1, rfl⟩
theorem strCut_one (s : ByteArray) (hs : s.size ≤ 9223372036854775807) (w : World) : Calls Tryz.prog 114 #[.string s, .string ⟨#[47]⟩] w fun e w' => (∃ b, e = .returned (.tuple #[.string ⟨(Pa.head s.data.toList).toArray⟩, .string ⟨(Pa.tail s.data.toList).toArray⟩, .bool b])) ∧ ∃ n, w' = w.drewN n := by
  have C := Lib.hid (slCut_one s hs w)
  go_enter Tryz.func114, Tryz.ntmps114
  go_wp2_with (go_at_call 145; refine (C.out).mono ?_; rintro e w' ⟨⟨b, rfl⟩, n, rfl⟩)
  go_ret3
  exact ⟨⟨b, rfl⟩, n, rfl⟩
theorem strClone_any (s : ByteArray) (w : World) (h : s.size ≤ 281474976710656) : Calls Tryz.prog 70 #[.string s] w fun e w' => e = .returned (.string s) ∧ Below w.heap.size w w' := by
  have CL := Lib.hid (stringslite_Clone s w h)
  go_enter Tryz.func70, Tryz.ntmps70
  go_wp2_with (go_at_call 103; refine (CL.out).mono ?_; rintro e w1 ⟨rfl, hb⟩)
  go_ret
  exact ⟨rfl, hb⟩
end Go.Proofs.YtiehcplepneajaaGreatDoor
