/-
  The wake that each statement on nets asks is met.
-/
import Derived.Test.YtimbcmcmidnlfaaNtActs
namespace Go.Proofs.Ytimbcmcmidnlfaa
open Go.RowKit
namespace Nt
def pa : Pk := ⟨0, 1, ⟨#[97]⟩⟩
theorem put_room {M : Md} {p : Pk} (h : count M.row p.f < 64) : put M p = ({ M with row := M.row ++ [p] }, 0) := by unfold put; rw [if_neg (by omega)]
theorem post_room {M : Md} {p : Pk} (hl : linked p) (h : count M.row p.f < 64) : post M p = ({ M with row := M.row ++ [p] }, 0) := by unfold post; rw [if_pos hl, put_room h]
theorem take_at {M : Md} {k : Nat} (h : k < M.row.length) (hp : M.parted = false) : take M k = (drop M k, M.row[k], 0) := by
  unfold take
  rw [if_pos (there_nat h), hp, if_neg (by simp), at_get h, Int.toNat_natCast]
theorem linked_pa : linked pa := .inl ⟨rfl, rfl⟩
theorem wake1 : post new pa = (⟨[pa], false⟩, 0) := post_room linked_pa (by decide)
theorem wake2 : dup ⟨[pa], false⟩ 0 = (⟨[pa, pa], false⟩, 0) := by
  have h : there (⟨[pa], false⟩ : Md) 0 = true := by decide
  unfold dup
  rw [if_pos h]
  exact put_room (M := ⟨[pa], false⟩) (p := pa) (by decide)
theorem wake3 : take ⟨[pa, pa], false⟩ 1 = (⟨[pa], false⟩, pa, 0) := take_at (M := ⟨[pa, pa], false⟩) (k := 1) (by decide) rfl
theorem wake4 : take ⟨[pa], false⟩ 0 = (⟨[], false⟩, pa, 0) := take_at (M := ⟨[pa], false⟩) (k := 0) (by decide) rfl
end Nt
set_option maxRecDepth 100000 in
set_option maxHeartbeats 1000000 in
theorem awake8_any (w : World) : Calls Try.prog 17 #[] w fun e w' => e = .returned (.bool true) ∧ Below w.heap.size w w' := by
  have PO : Hid (∀ (wx : World) (r : Nat) (L : Nat → Prop) (M : Nt.Md), Nt.Own w.heap.size w wx r L M → Calls Try.prog 11 #[.pointer (some ⟨r, 0, none⟩), .agg #[.int .i64 0, .int .i64 1, .string ⟨#[97]⟩]] wx fun e w' => e = .returned (.int .i64 (Nt.post M Nt.pa).2) ∧ Nt.Step w.heap.size w wx w' r L (Nt.post M Nt.pa).1) := fun wx r L M h => ntPost_any h Nt.pa (by decide) (by decide)
  go_enter Try.func17, Try.ntmps17
  go_wp2_with fail
  refine (ntNew_any (Below.refl w.heap.size w) (Nat.le_refl _)).mono ?_
  rintro e w1 ⟨rfl, o1, -⟩
  obtain ⟨B, hB⟩ : ∃ b, b = w.heap.size := ⟨_, rfl⟩
  rw [← hB] at PO o1 ⊢
  have HBB := Lib.hid hB
  clear hB
  go_wp2_with fail
  refine (PO.out _ _ _ _ o1).mono ?_
  rintro e w2 ⟨rfl, s2⟩
  have o2 := s2.own
  rw [Nt.wake1] at o2 ⊢
  clear s2 o1
  go_wp2_with fail
  refine (ntDup_any o2 0).mono ?_
  rintro e w3 ⟨rfl, s3⟩
  have o3 := s3.own
  rw [Nt.wake2] at o3 ⊢
  clear s3 o2
  go_wp2_with fail
  refine (ntTake_any o3 1).mono ?_
  rintro e w4 ⟨rfl, s4⟩
  have o4 := s4.own
  rw [Nt.wake3] at o4 ⊢
  clear s4 o3
  have hpa : Nt.pa.cells.toArray = #[.int .i64 0, .int .i64 1, .string ⟨#[97]⟩] := rfl
  rw [hpa]
  go_upto_region 5 with (fail)
  have b5 : Below w4.heap.size w4 (w4.alloc (.cells #[.int .i64 0, .int .i64 1, .string ⟨#[97]⟩] 25)) := (Below.refl _ w4).alloc (Nat.le_refl _) _
  have o5 := o4.low b5
  have g5 := heap_alloc_new w4 (.cells #[.int .i64 0, .int .i64 1, .string ⟨#[97]⟩] 25)
  obtain ⟨N, hN⟩ : ∃ n, n = w4.heap.size := ⟨_, rfl⟩
  rw [← hN] at g5 ⊢
  have hBN : B ≠ N := by have := o4.lt; omega
  generalize w4.alloc (.cells #[.int .i64 0, .int .i64 1, .string ⟨#[97]⟩] 25) = w5 at *
  clear b5 o4 hN
  go_wp2_with fail
  refine (ntTake_any o5 0).mono ?_
  rintro e w6 ⟨rfl, s6⟩
  have o6 := s6.own
  have g6 := (s6.turned.block N (Sm.lt_of g5) (fun e => hBN (Option.some.inj e).symm)).trans g5
  rw [Nt.wake4] at o6 ⊢
  rw [hpa]
  clear s6 o5 g5 PO
  go_upto_region 6 with (fail)
  have b7 : Below w6.heap.size w6 (w6.alloc (.cells #[.int .i64 0, .int .i64 1, .string ⟨#[97]⟩] 25)) := (Below.refl _ w6).alloc (Nat.le_refl _) _
  have o7 := o6.low b7
  have g7 := heap_alloc_new w6 (.cells #[.int .i64 0, .int .i64 1, .string ⟨#[97]⟩] 25)
  have g6 := (b7.block N (Sm.lt_of g6)).trans g6
  obtain ⟨N7, hN7⟩ : ∃ n, n = w6.heap.size := ⟨_, rfl⟩
  rw [← hN7] at g7 ⊢
  generalize w6.alloc (.cells #[.int .i64 0, .int .i64 1, .string ⟨#[97]⟩] 25) = w7 at *
  clear b7 o6 hN7
  have x0 := Sm.cells_of g6 0 _ rfl
  have x1 := Sm.cells_of g6 1 _ rfl
  have x2 := Sm.cells_of g6 2 _ rfl
  have y0 := Sm.cells_of g7 0 _ rfl
  have y1 := Sm.cells_of g7 1 _ rfl
  have y2 := Sm.cells_of g7 2 _ rfl
  go_wp2_with fail
  refine (ntLen_any o7).mono ?_
  rintro e w8 ⟨rfl, rfl⟩
  go_wp2
  go_ret
  exact ⟨rfl, by rw [← HBB.out]; exact o7.below⟩
end Go.Proofs.Ytimbcmcmidnlfaa
