/-
  BucketPages answers true for every row of pairs and number, and turns nothing of what was there.
-/
import Derived.Test.YthhmnbpabncdnaaDoorBuAwake
import Derived.Test.YthhmnbpabncdnaaDoorR14Page
import Derived.Test.YthhmnbpabncdnaaDoorOmGreat
import Derived.Test.YthhmnbpabncdnaaDoorR13List
namespace Go.Proofs.YthhmnbpabncdnaaDoor
open Go.RowKit
namespace Bu
theorem row_made (w : World) : Om.Row (w.alloc (.cells #[] 37)) w.heap.size (some ⟨w.heap.size, 0, none⟩) 0 [] := World.ownsRow_made w #[] 0 (Nat.le_refl _) (Nat.zero_le _) rfl
end Bu
set_option maxRecDepth 100000 in
set_option maxHeartbeats 4000000 in
theorem bucketPages_any {w : World} (hH : Sm.HAt w) (hK : Sm.KAt w) (hsz : 1 < w.heap.size) {A : Option Addr} {l : List Om.Pr} (c : Nat) (hit : Om.listAt w A l) (i : Int) :
    Calls Tryd.prog 4 #[.slice A l.length c, .int .i64 i] w fun e w' => e = .returned (.bool true) ∧ Below w.heap.size w w' := by
  have AW : Hid (∀ wx : World, Below w.heap.size w wx → Calls Tryd.prog 12 #[] wx fun e w' => e = .returned (.bool true) ∧ Below wx.heap.size wx w') := fun wx hb => awake14_any (hH.low hb (by omega)) (hK.low hb hsz) (Nat.lt_of_lt_of_le hsz hb.size)
  obtain ⟨g, hg⟩ := Om.fairL_or l
  have GP := Lib.hid (greatPairs_any (c := c) hit g hg)
  have HEQ := hg
  cases g
  case true =>
    clear HEQ hg
    go_enter Tryd.func4, Tryd.ntmps4
    go_wp2_with first
      | (go_at_call 11; refine GP.out.mono ?_; rintro e w0 ⟨rfl, rfl⟩)
      | (go_at_call 12; refine (AW.out _ (Below.refl _ _)).mono ?_; rintro e w1 ⟨rfl, k1⟩)
    go_ret
    exact ⟨rfl, k1⟩
  have hf : Om.FairL l := Classical.byContradiction fun h => by have := HEQ.2 h; cases this
  clear HEQ hg
  have PG : Hid (∀ (wx : World) (C : Option Addr) (d : Nat) (m : List Om.Pr) (i : Int), Below w.heap.size w wx → Om.listAt wx C m → m.length ≤ 200 → (∀ x ∈ m, x.p.size ≤ 1000) → Calls Tryd.prog 20 #[.int .i64 i, .slice C m.length d] wx fun e w' => e = .returned (.tuple #[.string (Bu.page i m).1, .int .i64 ((Bu.page i m).2 : Nat)]) ∧ Below wx.heap.size wx w') := fun wx C d m i hb hl hm hs =>
    buPage_any (hH.low hb (by omega)) (hK.low hb hsz) (Nat.lt_of_lt_of_le hsz hb.size) i d hl (by omega) (fun x hx => by have := hs x hx; omega)
  have HIT := Lib.hid hit
  have HF := Lib.hid hf
  have hpl := Bu.part_length l i
  have hpm : ∀ x ∈ Bu.part l i, x.p.size ≤ 1000 := fun x hx => (HF.out.mem x (List.mem_filter.1 hx).1).1
  have RP : Hid (∀ wx : World, Below w.heap.size w wx → Calls Tryd.prog 19 #[.slice A l.length c, .int .i64 i] wx fun e w' => ∃ B q, e = .returned (.slice B (Bu.part l i).length q) ∧ Om.Row w' wx.heap.size B q (Bu.part l i) ∧ Below wx.heap.size wx w') := fun wx hb => r14Part_any c (HIT.out.below hb) (by have := HF.out.1; omega) (fun x hx => by have := (HF.out.mem x hx).1; omega) i
  have P1 : Hid (∀ wx : World, Below w.heap.size w wx → Calls Tryd.prog 20 #[.int .i64 i, .slice A l.length c] wx fun e w' => e = .returned (.tuple #[.string (Bu.page i l).1, .int .i64 ((Bu.page i l).2 : Nat)]) ∧ Below wx.heap.size wx w') := fun wx hb => PG.out wx A c l i hb (HIT.out.below hb) HF.out.1 (fun x hx => (HF.out.mem x hx).1)
  have P2 : Hid (∀ wx : World, Below w.heap.size w wx → Calls Tryd.prog 21 #[.int .i64 i, .slice A l.length c] wx fun e w' => e = .returned (.tuple #[.string (Bu.page i l).1, .int .i64 ((Bu.page i l).2 : Nat)]) ∧ Below wx.heap.size wx w') := fun wx hb => r14Page_any i c (HIT.out.below hb) (by have := HF.out.1; omega) (fun x hx => by have := (HF.out.mem x hx).1; omega)
  have P3 : Hid (∀ (wx : World) (C : Option Addr) (d : Nat), Below w.heap.size w wx → Om.listAt wx C (Bu.part l i) → Calls Tryd.prog 20 #[.int .i64 i, .slice C (Bu.part l i).length d] wx fun e w' => e = .returned (.tuple #[.string (Bu.page i (Bu.part l i)).1, .int .i64 ((Bu.page i (Bu.part l i)).2 : Nat)]) ∧ Below wx.heap.size wx w') := fun wx C d hb hl => PG.out wx C d _ i hb hl (Nat.le_trans hpl HF.out.1) hpm
  have P4 : Hid (∀ (wx : World) (C : Option Addr) (d : Nat), Om.listAt wx C (Bu.part l i) → Calls Tryd.prog 21 #[.int .i64 i, .slice C (Bu.part l i).length d] wx fun e w' => e = .returned (.tuple #[.string (Bu.page i (Bu.part l i)).1, .int .i64 ((Bu.page i (Bu.part l i)).2 : Nat)]) ∧ Below wx.heap.size wx w') := fun wx C d hl => r14Page_any i d hl (by have := HF.out.1; omega) (fun x hx => by have := hpm x hx; omega)
  have HIL : Hid (∀ wx : World, Below w.heap.size w wx → Om.listAt wx A l) := fun wx hb => HIT.out.below hb
  have HL200 : Hid (l.length ≤ 200) := HF.out.1
  obtain ⟨S1, hS1⟩ : ∃ s, s = (Bu.page i l).1 := ⟨_, rfl⟩
  obtain ⟨E1, hE1⟩ : ∃ s, s = (Bu.page i l).2 := ⟨_, rfl⟩
  obtain ⟨S2, hS2⟩ : ∃ s, s = (Bu.page i (Bu.part l i)).1 := ⟨_, rfl⟩
  obtain ⟨E2, hE2⟩ : ∃ s, s = (Bu.page i (Bu.part l i)).2 := ⟨_, rfl⟩
  rw [← hS1, ← hE1] at P1 P2
  rw [← hS2, ← hE2] at P3 P4
  obtain ⟨L, hL⟩ : ∃ L, L = Bu.part l i := ⟨_, rfl⟩
  rw [← hL] at RP P3 P4
  have b0 : Below w.heap.size w (w.alloc (.cells #[] 37)) := (Below.refl _ w).alloc (Nat.le_refl _) _
  have hrow := Lib.hid (Bu.row_made w)
  have hit0 := Lib.hid (HIT.out.below b0)
  have B0 := Lib.hid b0
  clear hS1 hE1 hS2 hE2 hL hit hf hH hK PG hsz hpl hpm b0
  go_enter Tryd.func4, Tryd.ntmps4
  go_upto_region 3 with (go_at_call 11; refine GP.out.mono ?_; rintro e w0 ⟨rfl, rfl⟩)
  go_upto_region 4 with (at_builtin; refine Om.wp_cat rfl _ _ rfl (l := []) rfl hrow.out rfl hit0.out (by have := HL200.out; simp only [List.length_nil]; omega) (by simp) ?_; intro A5 c5 w5 hr5 hg5; have B5 : Hid (Below w.heap.size w w5) := B0.out.grown hg5 B0.out.size (fun q hq => (hrow.out.blk hq).1); have R5 : Hid (Om.Row w5 w.heap.size A5 c5 l) := hr5; clear hr5 hg5)
  try simp only [List.length_nil, Nat.zero_add]
  clear hit0 hrow B0
  go_wp2_with first
    | (go_at_call 20; refine (P1.out _ B5.out).mono ?_; rintro e w6 ⟨rfl, k6⟩; have B6 : Hid (Below w.heap.size w w6) := B5.out.trans (k6.mono B5.out.size); have R6 := Lib.hid (R5.out.low k6); clear k6 P1)
    | (go_at_call 21; refine (P2.out _ B6.out).mono ?_; rintro e w7 ⟨rfl, k7⟩; have B7 : Hid (Below w.heap.size w w7) := B6.out.trans (k7.mono B6.out.size); have R7 := Lib.hid (R6.out.low k7); clear k7 P2)
    | (go_at_call 19; refine (RP.out _ B7.out).mono ?_; rintro e w8 ⟨C8, d8, rfl, q8, k8⟩; have B8 : Hid (Below w.heap.size w w8) := B7.out.trans (k8.mono B7.out.size); have R8 := Lib.hid (R7.out.low k8); have Q8 := Lib.hid q8; clear k8 q8 B7 R7)
    | (go_at_call 20; refine (P3.out _ _ _ B8.out Q8.out.listAt).mono ?_; rintro e w9 ⟨rfl, k9⟩; have B9 : Hid (Below w.heap.size w w9) := B8.out.trans (k9.mono B8.out.size); have R9 := Lib.hid (R8.out.low k9); clear k9)
    | (go_at_call 19; refine (RP.out _ B9.out).mono ?_; rintro e w10 ⟨C10, d10, rfl, q10, k10⟩; have B10 : Hid (Below w.heap.size w w10) := B9.out.trans (k10.mono B9.out.size); have R10 := Lib.hid (R9.out.low k10); have Q10 := Lib.hid q10; clear k10 q10)
    | (go_at_call 21; refine (P4.out _ _ _ Q10.out.listAt).mono ?_; rintro e w11 ⟨rfl, k11⟩; have B11 : Hid (Below w.heap.size w w11) := B10.out.trans (k11.mono B10.out.size); have R11 := Lib.hid (R10.out.low k11); clear k11)
    | (go_at_call 17; refine (r13Same_any c c5 (HIL.out _ B11.out) R11.out.listAt (by have := HL200.out; omega) true (by simp)).mono ?_; rintro e w12 ⟨rfl, k12⟩; have B12 : Hid (Below w.heap.size w w12) := B11.out.trans (k12.mono B11.out.size); clear k12)
    | (go_at_call 12; refine (AW.out _ B12.out).mono ?_; rintro e w13 ⟨rfl, k13⟩)
  go_ret
  exact ⟨rfl, B12.out.trans (k13.mono B12.out.size)⟩
end Go.Proofs.YthhmnbpabncdnaaDoor
