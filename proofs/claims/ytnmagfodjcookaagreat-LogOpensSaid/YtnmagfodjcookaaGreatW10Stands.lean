/-
  The world of a Log tells what the document's does.
-/
import Derived.Test.YtnmagfodjcookaaGreatW10One
import Derived.Laws.OwnMore
namespace Go.Proofs.YtnmagfodjcookaaGreat
open Go.RowKit
set_option maxRecDepth 100000 in
set_option maxHeartbeats 4000000 in
theorem w10stands_any {Z : Nat → Option Obj} {B : Nat} {w0 w : World} {X r : Nat} {fp : Nat → Prop} {M : Dk.Md} {d0 d1 d2 d3 : Value} {lo : Option Nat} {bl : Nat → Prop} {L : Lg.Md} {q0 q1 q2 q3 q4 q5 q6 q7 : Value} {a nn : Int} {ep : Nat} {n : Int}
    (h : Lg.W10 Z B w0 w X r fp M M d0 d1 d2 d3 lo bl L L q0 q1 q2 q3 q4 q5 q6 q7 a nn ep n) (hiff : lo = none ↔ n ≠ 0) : Calls Tryz.prog 11 #[.pointer (some ⟨X, 0, none⟩)] w fun e w' => e = .returned (.bool true) ∧ Below w.heap.size w w' := by
  cases lo with
  | none =>
    have hn0 : n ≠ 0 := hiff.1 rfl
    have hnb : (n == 0) = false := beq_eq_false_iff_ne.2 hn0
    have hnc : (n != 0) = true := by simp [bne, hnb]
    have xl := h.lit (lp := .pointer none) rfl
    have x1 := Sm.cells_of xl 1 _ rfl
    have x17 := Sm.cells_of xl 17 _ rfl
    clear h hn0 xl hiff
    go_enter Tryz.func11, Tryz.ntmps11
    go_wp2_with (first
      | (go_at_call 19; refine (lgRecords_nil _).mono ?_; rintro e w1 ⟨rfl, rfl⟩)
      | (go_at_call 20; refine (lgRoom_nil _).mono ?_; rintro e w2 ⟨rfl, rfl⟩))
    go_ret
    exact ⟨rfl, Below.refl _ _⟩
  | some k =>
    have hn0 : n = 0 := Decidable.not_not.1 fun e => absurd (hiff.2 e) (by simp)
    subst hn0
    obtain ⟨hat, hfine, hlog⟩ := h.log k rfl
    obtain ⟨lA, lc, us, hv, hnx, hen, hrows, -, -⟩ := hlog
    have hfit := hfine.fit
    obtain ⟨m, hm⟩ : ∃ m, m = L.recs.length := ⟨_, rfl⟩
    rw [← hm] at hv
    unfold Lg.lv at hv
    simp only [Value.agg.injEq, Array.mk.injEq, List.cons.injEq, and_true] at hv
    obtain ⟨rfl, rfl, rfl, rfl, rfl, rfl, rfl, rfl⟩ := hv
    obtain ⟨room, hroom⟩ : ∃ x : Int, x = L.end_ - L.next := ⟨_, rfl⟩
    have hr2 : nn - (us : Int) = room := by omega
    have hnext := hfit.next
    have hend := hfit.end_
    have hlen := hfine.len
    have RC : Hid (Calls Tryz.prog 19 #[.pointer (some ⟨k, 0, none⟩)] w fun e w' => ∃ A c, e = .returned (.slice A m c) ∧ (w'.ownsRow w.heap.size 9 1 (.slice A m c) m (L.recs.map Dk.txt) ∧ Lg.Rows w' A L.recs ∧ Below w.heap.size w w')) := by
      rw [hm]
      refine (lgRecords_at hat (by have := hfit.recs; omega) hfit.small).mono ?_
      rintro e w' ⟨A, c, rfl, ho, hb⟩
      exact ⟨A, c, rfl, ho, Lg.Rows.of_own ho, hb⟩
    have RM : Hid (∀ wx, Below w.heap.size w wx → Calls Tryz.prog 20 #[.pointer (some ⟨k, 0, none⟩)] wx fun e w' => e = .returned (.int .i64 room) ∧ Below wx.heap.size wx w') := fun wx hx => by
      have := lgRoom_at (hat.below hx) (by omega)
      rwa [← hroom] at this
    have SA : Hid (∀ wx A c, Lg.Rows wx A L.recs → Lg.Rows wx lA L.recs → Calls Tryz.prog 18 #[.slice A m c, .slice lA m lc] wx fun e w' => e = .returned (.bool true) ∧ Below wx.heap.size wx w') := fun wx A c h1 h2 => by
      rw [hm]
      exact same10_any wx A lA c lc L.recs L.recs h1 h2 (by have := hfit.recs; omega) (by have := hfit.recs; omega) true (by simp)
    have HR := Lib.hid hrows
    have hm63 : m ≤ 4096 := by rw [hm]; exact hfit.recs
    have xl := h.lit (lp := .pointer (some ⟨k, 0, none⟩)) rfl
    have u1 : IntKind.i64.wrap room = room := IntWalk.i64_in _ (by omega)
    have u2 : IntKind.i64.wrap (nn - (us : Int)) = room := by rw [hr2]; exact u1
    have XL := Lib.hid xl
    have U2 := Lib.hid u2
    obtain ⟨ws, hws⟩ : ∃ y : Int, y = (us : Int) := ⟨_, rfl⟩
    rw [← hws] at U2 XL xl
    obtain ⟨ue, hue⟩ : ∃ y : Int, y = (L.ep : Int) := ⟨_, rfl⟩
    obtain ⟨ua, hua⟩ : ∃ y : Int, y = (L.ahead : Int) := ⟨_, rfl⟩
    obtain ⟨us2, hus2⟩ : ∃ y : Int, y = (L.salt : Int) := ⟨_, rfl⟩
    rw [← hue, ← hua, ← hus2] at XL xl
    have x1 := Sm.cells_of xl 1 _ rfl
    have x17 := Sm.cells_of xl 17 _ rfl
    clear h hiff hat hfine hnx hen hrows hfit hroom hr2 hnext hend hlen hm xl u1 u2 hws hue hua hus2
    go_enter Tryz.func11, Tryz.ntmps11
    go_upto_region 4 with (go_at_call 19; refine RC.out.mono ?_; rintro e w1 ⟨A, c, rfl, h1⟩)
    clear x1 x17 RC
    have H1 := Lib.hid h1
    have B1 := Lib.hid h1.2.2.drew
    have xl1 : w1.drew.heap[X]? = some (.cells #[.pointer (some ⟨r, 0, none⟩), .pointer (some ⟨k, 0, none⟩), d0, d1, d2, d3, .int .i64 a, .int .i64 nn, .int .u64 ue, .slice lA m lc, .int .i64 ws, .int .u64 ua, .int .u64 us2, .bool L.broken, .int .i64 a, .int .i64 nn, .int .u64 (ep : Nat), .int .i64 0] 41 (0, 0)) := (h1.2.2.block X (Sm.lt_of XL.out)).trans XL.out
    have HX := Lib.hid xl1
    have HA1 : Hid (Lg.Rows w1.drew A L.recs) := h1.2.1.below ((Below.refl _ w1).drew) (Nat.le_refl _)
    have HA2 : Hid (Lg.Rows w1.drew lA L.recs) := HR.out.below B1.out (Nat.le_refl _)
    have HO : Hid (w1.drew.ownsRow w.heap.size 9 1 (.slice A m c) m (L.recs.map Dk.txt)) := h1.1
    clear h1 xl1 HR
    refine wp_region_held_drew (S := (fun w' => w'.heap[X]? = some (.cells #[.pointer (some ⟨r, 0, none⟩), .pointer (some ⟨k, 0, none⟩), d0, d1, d2, d3, .int .i64 a, .int .i64 nn, .int .u64 ue, .slice lA m lc, .int .i64 ws, .int .u64 ua, .int .u64 us2, .bool L.broken, .int .i64 a, .int .i64 nn, .int .u64 (ep : Nat), .int .i64 0] 41 (0, 0)))) (by kernel_rfl) HX.out (fun hHeld => ?_)
    generalize w1.drew = wd at *
    refine wpAnyH_take (i := 0) (oi := ⟨some 31, _, _, _, _, _⟩) (v := .slice A m c) rfl (by kernel_rfl) (by kernel_rfl) (by kernel_rfl) (fun _ _ _ h => h) (Or.inl ⟨by rfl, ?_⟩) (by assumption) ?_
    · intro w hSw; (try dsimp only at hSw); go_simp
    simp only [Act.put, List.setIfInBounds_toArray, List.set_cons_zero, List.set_cons_succ]
    refine wpAnyH_take (i := 1) (oi := ⟨some 32, _, _, _, _, _⟩) (v := .pointer (some ⟨X, 0, none⟩)) rfl (by kernel_rfl) (by kernel_rfl) (by kernel_rfl) (fun _ _ _ h => h) (Or.inl ⟨by rfl, ?_⟩) (by assumption) ?_
    · intro w hSw; (try dsimp only at hSw); go_simp
    simp only [Act.put, List.setIfInBounds_toArray, List.set_cons_zero, List.set_cons_succ]
    refine wpAnyH_take (i := 2) (oi := ⟨some 33, _, _, _, _, _⟩) (v := .pointer (some ⟨X, 0, none⟩)) rfl (by kernel_rfl) (by kernel_rfl) (by kernel_rfl) (fun _ _ _ h => h) (Or.inl ⟨by rfl, ?_⟩) (by assumption) ?_
    · intro w hSw; (try dsimp only at hSw); go_simp
    simp only [Act.put, List.setIfInBounds_toArray, List.set_cons_zero, List.set_cons_succ]
    refine wpAnyH_take (i := 3) (oi := ⟨some 34, _, _, _, _, _⟩) (v := .pointer (some ⟨X, 6, none⟩)) rfl (by kernel_rfl) (by kernel_rfl) (by kernel_rfl) (fun _ _ _ h => h) (Or.inl ⟨by rfl, ?_⟩) (by assumption) ?_
    · intro w hSw; (try dsimp only at hSw); go_simp
    simp only [Act.put, List.setIfInBounds_toArray, List.set_cons_zero, List.set_cons_succ]
    refine wpAnyH_take (i := 4) (oi := ⟨some 35, _, _, _, _, _⟩) (v := .pointer (some ⟨X, 9, none⟩)) rfl (by kernel_rfl) (by kernel_rfl) (by kernel_rfl) (fun _ _ _ h => h) (Or.inl ⟨by rfl, ?_⟩) (by assumption) ?_
    · intro w hSw; (try dsimp only at hSw); go_simp
    simp only [Act.put, List.setIfInBounds_toArray, List.set_cons_zero, List.set_cons_succ]
    refine wpAnyH_take (i := 5) (oi := ⟨some 36, _, _, _, _, _⟩) (v := .slice lA m lc) rfl (by kernel_rfl) (by kernel_rfl) (by kernel_rfl) (fun _ _ _ h => h) (Or.inl ⟨by rfl, ?_⟩) (by assumption) ?_
    · intro w hSw; (try dsimp only at hSw); have hh := Sm.cells_of hSw 9 _ rfl; go_simp
    simp only [Act.put, List.setIfInBounds_toArray, List.set_cons_zero, List.set_cons_succ]
    refine wpAnyH_ready (rs := [6]) (by kernel_rfl) (by simp) ?_
    refine (AllReadyH.cons (o := ⟨some 37, _, _, _, _, _⟩) rfl (fun K hK => ?_) AllReadyH.nil)
    go_simp
    refine (SA.out _ _ _ HA1.out HA2.out).mono ?_
    rintro e w2 ⟨rfl, k2⟩
    have HX2 := Lib.hid ((k2.block X (Sm.lt_of HX.out)).trans HX.out)
    have B2 := Lib.hid (B1.out.trans (k2.mono B1.out.size))
    have HO2 := Lib.hid (Dk.own_block HO.out fun q hq => k2.block q (Dk.own_blk HO.out hq).2.1)
    clear k2
    refine hK.out _ _ HX2.out (fun hHeld => ?_)
    clear hK K
    refine wpAnyH_take (i := 7) (oi := ⟨some 38, _, _, _, _, _⟩) (v := .bool true) rfl (by kernel_rfl) (by kernel_rfl) (by kernel_rfl) (fun _ _ _ h => h) (Or.inl ⟨by rfl, ?_⟩) (by assumption) ?_
    · intro w hSw; (try dsimp only at hSw); go_simp
    simp only [Act.put, List.setIfInBounds_toArray, List.set_cons_zero, List.set_cons_succ]
    refine wpAnyH_take (i := 8) (oi := ⟨some 39, _, _, _, _, _⟩) (v := .pointer (some ⟨X, 0, none⟩)) rfl (by kernel_rfl) (by kernel_rfl) (by kernel_rfl) (fun _ _ _ h => h) (Or.inl ⟨by rfl, ?_⟩) (by assumption) ?_
    · intro w hSw; (try dsimp only at hSw); go_simp
    simp only [Act.put, List.setIfInBounds_toArray, List.set_cons_zero, List.set_cons_succ]
    refine wpAnyH_take (i := 9) (oi := ⟨some 40, _, _, _, _, _⟩) (v := .pointer (some ⟨X, 0, none⟩)) rfl (by kernel_rfl) (by kernel_rfl) (by kernel_rfl) (fun _ _ _ h => h) (Or.inl ⟨by rfl, ?_⟩) (by assumption) ?_
    · intro w hSw; (try dsimp only at hSw); go_simp
    simp only [Act.put, List.setIfInBounds_toArray, List.set_cons_zero, List.set_cons_succ]
    refine wpAnyH_take (i := 10) (oi := ⟨some 41, _, _, _, _, _⟩) (v := .pointer (some ⟨X, 1, none⟩)) rfl (by kernel_rfl) (by kernel_rfl) (by kernel_rfl) (fun _ _ _ h => h) (Or.inl ⟨by rfl, ?_⟩) (by assumption) ?_
    · intro w hSw; (try dsimp only at hSw); go_simp
    simp only [Act.put, List.setIfInBounds_toArray, List.set_cons_zero, List.set_cons_succ]
    refine wpAnyH_take (i := 11) (oi := ⟨some 42, _, _, _, _, _⟩) (v := .pointer (some ⟨k, 0, none⟩)) rfl (by kernel_rfl) (by kernel_rfl) (by kernel_rfl) (fun _ _ _ h => h) (Or.inl ⟨by rfl, ?_⟩) (by assumption) ?_
    · intro w hSw; (try dsimp only at hSw); have hh := Sm.cells_of hSw 1 _ rfl; go_simp
    simp only [Act.put, List.setIfInBounds_toArray, List.set_cons_zero, List.set_cons_succ]
    refine wpAnyH_take (i := 13) (oi := ⟨some 44, _, _, _, _, _⟩) (v := .pointer (some ⟨X, 0, none⟩)) rfl (by kernel_rfl) (by kernel_rfl) (by kernel_rfl) (fun _ _ _ h => h) (Or.inl ⟨by rfl, ?_⟩) (by assumption) ?_
    · intro w hSw; (try dsimp only at hSw); go_simp
    simp only [Act.put, List.setIfInBounds_toArray, List.set_cons_zero, List.set_cons_succ]
    refine wpAnyH_take (i := 14) (oi := ⟨some 45, _, _, _, _, _⟩) (v := .pointer (some ⟨X, 0, none⟩)) rfl (by kernel_rfl) (by kernel_rfl) (by kernel_rfl) (fun _ _ _ h => h) (Or.inl ⟨by rfl, ?_⟩) (by assumption) ?_
    · intro w hSw; (try dsimp only at hSw); go_simp
    simp only [Act.put, List.setIfInBounds_toArray, List.set_cons_zero, List.set_cons_succ]
    refine wpAnyH_take (i := 15) (oi := ⟨some 46, _, _, _, _, _⟩) (v := .pointer (some ⟨X, 6, none⟩)) rfl (by kernel_rfl) (by kernel_rfl) (by kernel_rfl) (fun _ _ _ h => h) (Or.inl ⟨by rfl, ?_⟩) (by assumption) ?_
    · intro w hSw; (try dsimp only at hSw); go_simp
    simp only [Act.put, List.setIfInBounds_toArray, List.set_cons_zero, List.set_cons_succ]
    refine wpAnyH_take (i := 16) (oi := ⟨some 47, _, _, _, _, _⟩) (v := .pointer (some ⟨X, 7, none⟩)) rfl (by kernel_rfl) (by kernel_rfl) (by kernel_rfl) (fun _ _ _ h => h) (Or.inl ⟨by rfl, ?_⟩) (by assumption) ?_
    · intro w hSw; (try dsimp only at hSw); go_simp
    simp only [Act.put, List.setIfInBounds_toArray, List.set_cons_zero, List.set_cons_succ]
    refine wpAnyH_take (i := 17) (oi := ⟨some 48, _, _, _, _, _⟩) (v := .int .i64 nn) rfl (by kernel_rfl) (by kernel_rfl) (by kernel_rfl) (fun _ _ _ h => h) (Or.inl ⟨by rfl, ?_⟩) (by assumption) ?_
    · intro w hSw; (try dsimp only at hSw); have hh := Sm.cells_of hSw 7 _ rfl; go_simp
    simp only [Act.put, List.setIfInBounds_toArray, List.set_cons_zero, List.set_cons_succ]
    refine wpAnyH_take (i := 18) (oi := ⟨some 49, _, _, _, _, _⟩) (v := .pointer (some ⟨X, 0, none⟩)) rfl (by kernel_rfl) (by kernel_rfl) (by kernel_rfl) (fun _ _ _ h => h) (Or.inl ⟨by rfl, ?_⟩) (by assumption) ?_
    · intro w hSw; (try dsimp only at hSw); go_simp
    simp only [Act.put, List.setIfInBounds_toArray, List.set_cons_zero, List.set_cons_succ]
    refine wpAnyH_take (i := 19) (oi := ⟨some 50, _, _, _, _, _⟩) (v := .pointer (some ⟨X, 0, none⟩)) rfl (by kernel_rfl) (by kernel_rfl) (by kernel_rfl) (fun _ _ _ h => h) (Or.inl ⟨by rfl, ?_⟩) (by assumption) ?_
    · intro w hSw; (try dsimp only at hSw); go_simp
    simp only [Act.put, List.setIfInBounds_toArray, List.set_cons_zero, List.set_cons_succ]
    refine wpAnyH_take (i := 20) (oi := ⟨some 51, _, _, _, _, _⟩) (v := .pointer (some ⟨X, 6, none⟩)) rfl (by kernel_rfl) (by kernel_rfl) (by kernel_rfl) (fun _ _ _ h => h) (Or.inl ⟨by rfl, ?_⟩) (by assumption) ?_
    · intro w hSw; (try dsimp only at hSw); go_simp
    simp only [Act.put, List.setIfInBounds_toArray, List.set_cons_zero, List.set_cons_succ]
    refine wpAnyH_take (i := 21) (oi := ⟨some 52, _, _, _, _, _⟩) (v := .pointer (some ⟨X, 10, none⟩)) rfl (by kernel_rfl) (by kernel_rfl) (by kernel_rfl) (fun _ _ _ h => h) (Or.inl ⟨by rfl, ?_⟩) (by assumption) ?_
    · intro w hSw; (try dsimp only at hSw); go_simp
    simp only [Act.put, List.setIfInBounds_toArray, List.set_cons_zero, List.set_cons_succ]
    refine wpAnyH_take (i := 22) (oi := ⟨some 53, _, _, _, _, _⟩) (v := .int .i64 ws) rfl (by kernel_rfl) (by kernel_rfl) (by kernel_rfl) (fun _ _ _ h => h) (Or.inl ⟨by rfl, ?_⟩) (by assumption) ?_
    · intro w hSw; (try dsimp only at hSw); have hh := Sm.cells_of hSw 10 _ rfl; go_simp
    simp only [Act.put, List.setIfInBounds_toArray, List.set_cons_zero, List.set_cons_succ]
    refine wpAnyH_take (i := 23) (oi := ⟨some 54, _, _, _, _, _⟩) (v := .int .i64 room) rfl (by kernel_rfl) (by kernel_rfl) (by kernel_rfl) (fun _ _ _ h => h) (Or.inl ⟨by rfl, ?_⟩) (by assumption) ?_
    · intro w hSw; (try dsimp only at hSw); have hu2 := U2.out; go_simp
    simp only [Act.put, List.setIfInBounds_toArray, List.set_cons_zero, List.set_cons_succ]
    refine wpAnyH_ready (rs := [12]) (by kernel_rfl) (by simp) ?_
    refine (AllReadyH.cons (o := ⟨some 43, _, _, _, _, _⟩) rfl (fun K hK => ?_) AllReadyH.nil)
    rw [if_pos (by rfl)]
    go_simp
    refine (RM.out _ B2.out).mono ?_
    rintro e w3 ⟨rfl, k3⟩
    have HX3 := Lib.hid ((k3.block X (Sm.lt_of HX2.out)).trans HX2.out)
    have B3 := Lib.hid (B2.out.trans (k3.mono B2.out.size))
    have HO3 := Lib.hid (Dk.own_block HO2.out fun q hq => k3.block q (Dk.own_blk HO2.out hq).2.1)
    clear k3
    refine hK.out _ _ HX3.out (fun hHeld => ?_)
    clear hK K
    refine wpAnyH_take (i := 24) (oi := ⟨some 55, _, _, _, _, _⟩) (v := .bool true) rfl (by kernel_rfl) (by kernel_rfl) (by kernel_rfl) (fun _ _ _ h => h) (Or.inl ⟨by rfl, ?_⟩) (by assumption) ?_
    · intro w hSw; (try dsimp only at hSw); go_simp
    simp only [Act.put, List.setIfInBounds_toArray, List.set_cons_zero, List.set_cons_succ]
    refine wpAnyH_take (i := 25) (oi := ⟨some 56, _, _, _, _, _⟩) (v := .bool true) rfl (by kernel_rfl) (by kernel_rfl) (by kernel_rfl) (fun _ _ _ h => h) (Or.inl ⟨by rfl, ?_⟩) (by assumption) ?_
    · intro w hSw; (try dsimp only at hSw); go_simp
    simp only [Act.put, List.setIfInBounds_toArray, List.set_cons_zero, List.set_cons_succ]
    refine wpAnyH_take (i := 26) (oi := ⟨some 4, _, _, _, _, _⟩) (v := .bool true) rfl (by kernel_rfl) (by kernel_rfl) (by kernel_rfl) (fun _ _ _ h => h) (Or.inl ⟨by rfl, ?_⟩) (by assumption) ?_
    · intro w hSw; (try dsimp only at hSw); go_simp
    simp only [Act.put, List.setIfInBounds_toArray, List.set_cons_zero, List.set_cons_succ]
    refine wpAnyH_done (by kernel_rfl) ?_ _
    clear hHeld HX HX2 HX3 HO HO2 B1 B2 HA1 HA2 RM SA H1 XL U2
    go_wp2_with fail
    go_loopw [5] (fun s5 wr => ∃ (i : Nat) (ys : List Value), s5 = .int .i64 i ∧ i ≤ m ∧ wr.ownsRow w.heap.size 9 1 (.slice A m c) m ys ∧ Below w.heap.size w wr) (fun s5 _ => m - (intOf s5).toNat)
    case atStart => exact ⟨0, _, rfl, Nat.zero_le _, HO3.out, B3.out⟩
    case round =>
      clear HO3 B3
      obtain ⟨i, ys, rfl, hi, ho, hb⟩ := hrel
      by_cases hlt : i < m
      · have hii : (i : Int) < (m : Int) := by omega
        have hsuc : IntKind.i64.wrap ((i : Int) + 1) = ((i + 1 : Nat) : Int) := by simp [IntKind.wrap, IntKind.bits, IntKind.signed]; omega
        obtain ⟨g, rfl, hbg⟩ : ∃ g, A = some ⟨g, 0, none⟩ ∧ w.heap.size ≤ g := by
          rcases ho.2 with ⟨_, h0⟩ | ⟨g, cap, cur, e, hb2, _⟩
          · omega
          · simp only [Value.slice.injEq] at e
            exact ⟨g, e.1, hb2⟩
        have hc := ho.cellAt i (by omega)
        have hyl : ys.length = m := by have := ho.1; omega
        have hc2 : wr.cell? ⟨g, i, none⟩ = some ys[i] := by rw [hc, List.getElem?_eq_getElem (by omega)]
        have hf := ho.frozenAt i
        have st := ho.stored i (.string ⟨#[116, 117, 114, 110, 101, 100]⟩)
        have HS1 := Lib.hid st.1
        have HS2 : Hid (Below w.heap.size w (wr.setCell ⟨g, i, none⟩ (.string ⟨#[116, 117, 114, 110, 101, 100]⟩))) := hb.setCell (p := ⟨g, i, none⟩) hbg _
        clear ho hb hc st
        go_wp2
        go_roundw
        case rel => exact ⟨i + 1, _, rfl, by omega, HS1.out, HS2.out⟩
        case measure => simp only [intOf]; omega
      · have hii : ¬ (i : Int) < (m : Int) := by omega
        have HB := Lib.hid hb
        clear hb ho
        go_wp2
        go_ret
        exact ⟨rfl, HB.out⟩
end Go.Proofs.YtnmagfodjcookaaGreat
