/-
  What disk's Close and Look tell.
-/
import Derived.Test.YtnmagfodjcookaaGreatDkClose
import Derived.Test.YtnmagfodjcookaaGreatDkOne
namespace Go.Proofs.YtnmagfodjcookaaGreat
open Go.RowKit
namespace Dk
theorem zero64 : (Tryz.prog.info? 90).map (fun i => (i.zero, i.size)) = some (some (.agg (Sm.rowB 64 [])), 64) := by kernel_rfl
def lookOf (l : List UInt8) : List UInt8 × Int :=
  if l = List.replicate 64 0 then ([], 0) else if l.length = 64 ∧ l = closed (l.take 60) then (l.take 60, 1) else ([], 2)
theorem look_of_list (s : ByteArray) {l : List UInt8} : s = ⟨l.toArray⟩ ↔ s.data.toList = l := by
  constructor
  · rintro rfl; simp
  · rintro rfl; cases s; simp
theorem str_ne {s z : ByteArray} (h : ¬ s = z) : (s.toList == z.toList) = false := by
  rw [beq_eq_false_iff_ne]
  intro e
  apply h
  cases s with | mk a =>
  cases z with | mk b =>
  rw [ByteArray.toList_mk, ByteArray.toList_mk] at e
  rw [Array.ext' e]
theorem str_eq {s z : ByteArray} (h : s = z) : (s.toList == z.toList) = true := by rw [h, beq_iff_eq]
theorem ext_take (s : ByteArray) : (s.extract 0 60).data.toList = s.data.toList.take 60 := by
  rw [ByteArray.data_extract, Array.toList_extract]
  simp [List.extract_eq_take_drop]
theorem ext_size (s : ByteArray) (h : s.size = 64) : (s.extract 0 60).size = 60 := by
  rw [ByteArray.size_extract]; omega
end Dk
set_option maxRecDepth 100000 in
theorem dkClose_ok (w : World) (s : ByteArray) (h : s.size = 60) : Calls Tryz.prog 56 #[.string s] w fun e w' => e = .returned (.tuple #[.string ⟨(Dk.closed s.data.toList).toArray⟩, .int .i64 0]) ∧ Below w.heap.size w w' := by
  have CL := Lib.hid (dkClosed_any w s h)
  have hi : (s.size : Int) = 60 := by omega
  go_enter Tryz.func56, Tryz.ntmps56
  go_wp2_with fail
  refine CL.out.mono ?_
  rintro e w1 ⟨rfl, b1⟩
  go_wp2_with fail
  go_ret2
  exact ⟨rfl, b1⟩
set_option maxRecDepth 100000 in
theorem dkClose_bad (w : World) (s : ByteArray) (h : ¬ s.size = 60) : Calls Tryz.prog 56 #[.string s] w fun e w' => e = .returned (.tuple #[.string ⟨#[]⟩, .int .i64 1]) ∧ w = w' := by
  have hi : ¬ (s.size : Int) = 60 := by omega
  go_enter Tryz.func56, Tryz.ntmps56
  go_wp2_with fail
  go_ret2
  exact ⟨rfl, rfl⟩
set_option maxRecDepth 100000 in
theorem strings_Clone_any (w : World) (s : ByteArray) (h : s.size ≤ 281474976710656) : Calls Tryz.prog 27 #[.string s] w fun e w' => e = .returned (.string s) ∧ Below w.heap.size w w' := by
  have CL := Lib.hid (stringslite_Clone s w h)
  clear h
  go_enter Tryz.func27, Tryz.ntmps27
  go_wp2_with fail
  refine CL.out.mono ?_
  rintro e w1 ⟨rfl, b1⟩
  go_wp2_with fail
  go_ret
  exact ⟨rfl, b1⟩
set_option maxRecDepth 100000 in
set_option maxHeartbeats 1500000 in
theorem dkLook_any (w : World) (s : ByteArray) : Calls Tryz.prog 71 #[.string s] w fun e w' => e = .returned (.tuple #[.string ⟨(Dk.lookOf s.data.toList).1.toArray⟩, .int .i64 (Dk.lookOf s.data.toList).2]) ∧ Below w.heap.size w w' := by
  have hz1 := (zero_of_info Dk.zero64).1
  obtain ⟨z0, hz0⟩ : ∃ z, z = Sm.rowB 64 [] := ⟨_, rfl⟩
  rw [← hz0] at hz1
  have g1 : (w.alloc (.cells z0 90)).heap[w.heap.size]? = some (.cells (Lib.byteCells (List.replicate 64 0)).toArray 90 (0, 0)) := by
    rw [hz0, show Sm.rowB 64 [] = (Lib.byteCells (List.replicate 64 0)).toArray from by kernel_rfl]; exact heap_alloc_new w _
  have b1 : Below w.heap.size w (w.alloc (.cells z0 90)) := (Below.refl _ w).alloc (Nat.le_refl _) _
  clear hz0
  go_enter Tryz.func71, Tryz.ntmps71
  go_upto_region 2 with (fail)
  generalize w.alloc (.cells z0 90) = w1 at *
  obtain ⟨N, hN⟩ : ∃ N, N = w.heap.size := ⟨_, rfl⟩
  rw [← hN] at g1 b1 ⊢
  have hcv := Sm.conv_row (l := List.replicate 64 0) (n := 64) g1 rfl
  have HN := Lib.hid hN
  clear hN hz1
  obtain ⟨zs, hzs⟩ : ∃ z : ByteArray, z = ⟨(List.replicate 64 (0 : UInt8)).toArray⟩ := ⟨_, rfl⟩
  rw [← hzs] at hcv
  have HZ := Lib.hid hzs
  clear hzs
  by_cases hb : s = zs
  · have e : Dk.lookOf s.data.toList = ([], 0) := by unfold Dk.lookOf; rw [if_pos ((Dk.look_of_list s).1 (hb.trans HZ.out))]
    have E := Lib.hid e
    have hbe := Dk.str_eq hb
    clear e
    go_wp2_with fail
    go_ret2
    exact ⟨by rw [E.out]; rfl, by rw [← HN.out]; exact b1⟩
  · have hbl : ¬ s.data.toList = List.replicate 64 0 := fun e => hb (((Dk.look_of_list s).2 e).trans HZ.out.symm)
    have hbe := Dk.str_ne hb
    by_cases h64 : s.size = 64
    · have hi : (s.size : Int) = 64 := by omega
      have hi2 : ¬ (s.size : Int) < 60 := by omega
      have hi3 : 60 ≤ s.size := by omega
      obtain ⟨s2, hs2⟩ : ∃ t, t = s.extract 0 60 := ⟨_, rfl⟩
      have h2l : s2.data.toList = s.data.toList.take 60 := by rw [hs2]; exact Dk.ext_take s
      have CD : Hid (∀ wx, Calls Tryz.prog 79 #[.string s2] wx fun e w' => e = .returned (.string ⟨(Dk.closed s2.data.toList).toArray⟩) ∧ Below wx.heap.size wx w') := fun wx => dkClosed_any wx s2 (by rw [hs2]; exact Dk.ext_size s h64)
      have SC : Hid (∀ wx, Calls Tryz.prog 27 #[.string s2] wx fun e w' => e = .returned (.string s2) ∧ Below wx.heap.size wx w') := fun wx => strings_Clone_any wx s2 (by have := Dk.ext_size s h64; rw [← hs2] at this; omega)
      obtain ⟨c, hc⟩ : ∃ c : ByteArray, c = ⟨(Dk.closed s2.data.toList).toArray⟩ := ⟨_, rfl⟩
      rw [← hc] at CD
      have HC := Lib.hid hc
      have H2L := Lib.hid h2l
      have HBL := Lib.hid hbl
      have H64 := Lib.hid h64
      have HS2 := Lib.hid hs2
      clear hc h2l hbl hs2
      go_wp2_with fail
      rw [← HS2.out]
      refine (CD.out w1).mono ?_
      rintro e w2 ⟨rfl, k2⟩
      have b2 : Below N w w2 := b1.trans (k2.mono (Nat.le_of_lt (Sm.lt_of g1)))
      have hlt2 : N ≤ w2.heap.size := Nat.le_trans (Nat.le_of_lt (Sm.lt_of g1)) k2.size
      clear k2 b1 hcv g1
      by_cases hc : s = c
      · have e : Dk.lookOf s.data.toList = (s2.data.toList, 1) := by
          unfold Dk.lookOf
          rw [if_neg HBL.out, if_pos ⟨by simpa using H64.out, by rw [← H2L.out]; exact (Dk.look_of_list s).1 (hc.trans HC.out)⟩, H2L.out]
        have E := Lib.hid e
        have hce := Dk.str_eq hc
        clear e hc
        go_wp2_with fail
        rw [← HS2.out]
        refine (SC.out _).mono ?_
        rintro e w3 ⟨rfl, k3⟩
        have b3 : Below N w w3 := b2.trans (k3.mono hlt2)
        go_wp2_with fail
        go_ret2
        exact ⟨by rw [E.out]; rfl, by rw [← HN.out]; exact b3⟩
      · have e : Dk.lookOf s.data.toList = ([], 2) := by
          unfold Dk.lookOf
          rw [if_neg HBL.out, if_neg (fun h => hc (((Dk.look_of_list s).2 (by rw [H2L.out]; exact h.2)).trans HC.out.symm))]
        have E := Lib.hid e
        have hce := Dk.str_ne hc
        clear e
        go_wp2_with fail
        go_ret2
        exact ⟨by rw [E.out]; rfl, by rw [← HN.out]; exact b2⟩
    · have hi : ¬ (s.size : Int) = 64 := by omega
      have hz : zs.size = 64 := by rw [HZ.out]; rfl
      have e : Dk.lookOf s.data.toList = ([], 2) := by unfold Dk.lookOf; rw [if_neg hbl, if_neg (fun h => h64 (by simpa using h.1))]
      have E := Lib.hid e
      clear e hbl hz
      go_wp2_with fail
      go_ret2
      exact ⟨by rw [E.out]; rfl, by rw [← HN.out]; exact b1⟩
end Go.Proofs.YtnmagfodjcookaaGreat
