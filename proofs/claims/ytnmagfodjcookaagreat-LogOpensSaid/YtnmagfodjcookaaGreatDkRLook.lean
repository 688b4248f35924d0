/-
  What the document's own Close and Look tell.
-/
import Derived.Test.YtnmagfodjcookaaGreatDkLook
namespace Go.Proofs.YtnmagfodjcookaaGreat
open Go.RowKit
namespace Dk
theorem app_closed (s t : ByteArray) (h : t.data.toList = four (sum s.data.toList)) : s ++ t = ⟨(closed s.data.toList).toArray⟩ := by
  rw [look_of_list, ByteArray.data_append, Array.toList_append, h]; rfl
theorem four_bytes {S : Nat} (h : S < 4294967296) : (#[.int .u8 ((S : Int) % 256), .int .u8 ((S : Int) / 256 % 256), .int .u8 ((S : Int) / 65536 % 256), .int .u8 ((S : Int) / 16777216)] : Array Value) = (Lib.byteCells (four S)).toArray := by
  have e : ∀ n : Nat, ((UInt8.ofNat (n % 256)).toNat : Int) = (n : Int) % 256 := fun n => by
    rw [UInt8.toNat_ofNat']; omega
  simp only [Lib.byteCells, four, List.map_cons, List.map_nil, e]
  have h4 : ((S : Int) / 16777216) % 256 = (S : Int) / 16777216 := by omega
  simp [h4]
end Dk
set_option maxRecDepth 100000 in
set_option maxHeartbeats 1500000 in
theorem r7Close_any (w : World) (s : ByteArray) (hs : s.size ≤ 281474976710656) : Calls Tryz.prog 35 #[.string s] w fun e w' => e = .returned (.string ⟨(Dk.closed s.data.toList).toArray⟩) ∧ Below w.heap.size w w' := by
  obtain ⟨S, hS⟩ : ∃ S, S = Dk.sum s.data.toList := ⟨_, rfl⟩
  have hSl : S < 4294967296 := by rw [hS]; exact Dk.sum_lt _
  have SU := Lib.hid (r7Sum_any w s (by omega))
  rw [← hS] at SU
  have g1 := heap_alloc_new w (.cells #[.int .u8 ((S : Int) % 256), .int .u8 ((S : Int) / 256 % 256), .int .u8 ((S : Int) / 65536 % 256), .int .u8 ((S : Int) / 16777216)] 5)
  have b1 : Below w.heap.size w (w.alloc (.cells #[.int .u8 ((S : Int) % 256), .int .u8 ((S : Int) / 256 % 256), .int .u8 ((S : Int) / 65536 % 256), .int .u8 ((S : Int) / 16777216)] 5)) := (Below.refl _ w).alloc (Nat.le_refl _) _
  rw [Dk.four_bytes hSl] at g1
  have hcv := Sm.conv_row (l := Dk.four S) (n := 4) (by exact g1) rfl
  obtain ⟨t, ht⟩ : ∃ t : ByteArray, t = ⟨(Dk.four S).toArray⟩ := ⟨_, rfl⟩
  rw [← ht, ← Dk.four_bytes hSl] at hcv
  have hre : s ++ t = ⟨(Dk.closed s.data.toList).toArray⟩ := Dk.app_closed s t (by rw [ht, hS])
  have HR := Lib.hid hre
  have B1 := Lib.hid b1
  have ht4 : t.size = 4 := by rw [ht]; rfl
  have hst : s.size + t.size ≤ 9223372036854775807 := by omega
  clear hre ht hS g1 b1
  go_enter Tryz.func35, Tryz.ntmps35
  go_wp2_with fail
  refine SU.out.mono ?_
  rintro e w' ⟨rfl, rfl⟩
  go_wp2_with fail
  go_ret
  exact ⟨by rw [← HR.out]; rfl, B1.out⟩
set_option maxRecDepth 100000 in
set_option maxHeartbeats 1500000 in
theorem r7Look_any (w : World) (s : ByteArray) : Calls Tryz.prog 51 #[.string s] w fun e w' => e = .returned (.tuple #[.string ⟨(Dk.lookOf s.data.toList).1.toArray⟩, .int .i64 (Dk.lookOf s.data.toList).2]) ∧ Below w.heap.size w w' := by
  obtain ⟨zs, hzs⟩ : ∃ z : ByteArray, z = ⟨(List.replicate 64 (0 : UInt8)).toArray⟩ := ⟨_, rfl⟩
  by_cases h64 : s.size = 64
  · have hi : (s.size : Int) = 64 := by omega
    have hi3 : 60 ≤ s.size := by omega
    have g1 : (w.alloc (.cells (Lib.byteCells (List.replicate 64 0)).toArray 5)).heap[w.heap.size]? = some (.cells (Lib.byteCells (List.replicate 64 0)).toArray 5 (0, 0)) := heap_alloc_new w _
    have b1 : Below w.heap.size w (w.alloc (.cells (Lib.byteCells (List.replicate 64 0)).toArray 5)) := (Below.refl _ w).alloc (Nat.le_refl _) _
    have hcv := Sm.conv_row (l := List.replicate 64 0) (n := 64) g1 rfl
    rw [← hzs] at hcv
    have HZ := Lib.hid hzs
    have H64 := Lib.hid h64
    clear hzs g1
    obtain ⟨s2, hs2⟩ : ∃ t, t = s.extract 0 60 := ⟨_, rfl⟩
    have h2l : s2.data.toList = s.data.toList.take 60 := by rw [hs2]; exact Dk.ext_take s
    have CD : Hid (∀ wx, Calls Tryz.prog 35 #[.string s2] wx fun e w' => e = .returned (.string ⟨(Dk.closed s2.data.toList).toArray⟩) ∧ Below wx.heap.size wx w') := fun wx => r7Close_any wx s2 (by have := Dk.ext_size s h64; rw [← hs2] at this; omega)
    obtain ⟨c, hc⟩ : ∃ c : ByteArray, c = ⟨(Dk.closed s2.data.toList).toArray⟩ := ⟨_, rfl⟩
    rw [← hc] at CD
    have HC := Lib.hid hc
    have H2L := Lib.hid h2l
    have HS2 := Lib.hid hs2
    clear hc h2l hs2
    obtain ⟨i0, hi0, hz0, hz1, hz2⟩ := info_parts info3_u8
    have hmk : ∀ wx : World, (Instr.makeSlice 65 (.int .i64 64) (.int .i64 64)).run Tryz.prog wx = .ok (.slice (some ⟨wx.heap.size, 0, none⟩) 64 64) (wx.alloc (.cells (Lib.byteCells (List.replicate 64 0)).toArray 5)) := fun wx => by
      have h := run_make (P := Tryz.prog) wx 65 5 i0 (.int .u8 0) Tryz.underlying65 hi0 hz0 .i64 .i64 64 64 (by omega) (by omega) (by rw [hz2]; omega) (by omega)
      rw [hz1, show (64 : Int).toNat = 64 from rfl, Dk.made64] at h
      exact h
    clear hi0 hz0 hz1 hz2 i0
    obtain ⟨Z, hZl⟩ : ∃ Z : List UInt8, Z = List.replicate 64 0 := ⟨_, rfl⟩
    rw [← hZl] at hcv b1
    simp only [← hZl] at hmk
    clear hZl
    go_enter Tryz.func51, Tryz.ntmps51
    go_upto_region 3 with (fail)
    by_cases hb : s = zs
    · have e : Dk.lookOf s.data.toList = ([], 0) := by unfold Dk.lookOf; rw [if_pos ((Dk.look_of_list s).1 (hb.trans HZ.out))]
      have E := Lib.hid e
      have hbe := Dk.str_eq hb
      clear e hb
      have B1 := Lib.hid b1
      clear b1
      go_wp2_with fail
      go_ret2
      exact ⟨by rw [E.out]; rfl, B1.out⟩
    · have hbl : ¬ s.data.toList = List.replicate 64 0 := fun e => hb (((Dk.look_of_list s).2 e).trans HZ.out.symm)
      have hbe := Dk.str_ne hb
      have HBL := Lib.hid hbl
      clear hbl hb
      go_wp2_with fail
      rw [← HS2.out]
      generalize w.alloc (.cells (Lib.byteCells Z).toArray 5) = w1 at *
      refine (CD.out w1).mono ?_
      rintro e w2 ⟨rfl, k2⟩
      have b2 : Below w.heap.size w w2 := b1.trans (k2.mono b1.size)
      clear k2 b1 hcv
      by_cases hc : c = s
      · have e : Dk.lookOf s.data.toList = (s2.data.toList, 1) := by
          unfold Dk.lookOf
          rw [if_neg HBL.out, if_pos ⟨by simpa using H64.out, by rw [← H2L.out]; exact (Dk.look_of_list s).1 (hc.symm.trans HC.out)⟩, H2L.out]
        have E := Lib.hid e
        have hce := Dk.str_eq hc
        clear e hc
        go_wp2_with fail
        go_ret2
        exact ⟨by rw [E.out, HS2.out]; rfl, b2⟩
      · have e : Dk.lookOf s.data.toList = ([], 2) := by
          unfold Dk.lookOf
          rw [if_neg HBL.out, if_neg (fun h => hc (((Dk.look_of_list s).2 (by rw [H2L.out]; exact h.2)).trans HC.out.symm).symm)]
        have E := Lib.hid e
        have hce := Dk.str_ne hc
        clear e hc
        go_wp2_with fail
        go_ret2
        exact ⟨by rw [E.out]; rfl, b2⟩
  · have hi : ¬ (s.size : Int) = 64 := by omega
    have hbl : ¬ s.data.toList = List.replicate 64 0 := fun e => h64 (by have := congrArg List.length e; simpa using this)
    have e : Dk.lookOf s.data.toList = ([], 2) := by unfold Dk.lookOf; rw [if_neg hbl, if_neg (fun h => h64 (by simpa using h.1))]
    have E := Lib.hid e
    clear e hbl hzs
    go_enter Tryz.func51, Tryz.ntmps51
    go_wp2_with fail
    go_ret2
    exact ⟨by rw [E.out]; rfl, Below.refl _ _⟩
end Go.Proofs.YtnmagfodjcookaaGreat
