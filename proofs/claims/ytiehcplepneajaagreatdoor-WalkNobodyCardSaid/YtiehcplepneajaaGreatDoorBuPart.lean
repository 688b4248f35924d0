/-
  bucket's Part.
-/
import Derived.Test.YtiehcplepneajaaGreatDoorBuFns
import Derived.Test.YtiehcplepneajaaGreatDoorOmOwn
import Derived.Deep.RegionHeld3
import Derived.Deep.Cut
namespace Go.Proofs.YtiehcplepneajaaGreatDoor
open Go.RowKit
namespace Bu
open Om (Pr)
/-- Where Part stands: what was taken so far, in a row of its own. -/
structure Pt (w wx : World) (B : Option Addr) (q : Nat) (m : List Pr) : Prop where
  row : Om.Row wx w.heap.size B q m
  bel : Below w.heap.size w wx
theorem Pt.step {w wx wy : World} {B : Option Addr} {q : Nat} {m : List Pr} (h : Pt w wx B q m) (k : Below wx.heap.size wx wy) : Pt w wy B q m := ⟨h.row.low k, h.bel.trans (k.mono h.bel.size)⟩
theorem Pt.push {w wx wy : World} {B B' : Option Addr} {q q' : Nat} {m m' : List Pr} (h : Pt w wx B q m) (h1 : Om.Row wy w.heap.size B' q' m') (hg : wx.grownBy wy (Value.slice B m.length q).ownBlock) : Pt w wy B' q' m' :=
  ⟨h1, h.bel.grown hg h.bel.size (fun _ hb => (h.row.blk hb).1)⟩
theorem Pt.nil (w : World) : Pt w w none 0 [] := ⟨Om.Row.nil _ _, Below.refl _ _⟩
theorem isOf_eq (i : Int) (x : Pr) : (((bk x.p : Nat) : Int) == i) = isOf i x := by
  unfold isOf
  rw [Bool.eq_iff_iff, beq_iff_eq, decide_eq_true_eq]
theorem part_le (l : List Pr) (k : Nat) (i : Int) : (part (l.take k) i).length ≤ l.length := Nat.le_trans (part_length _ _) (by rw [List.length_take]; omega)
end Bu
set_option maxRecDepth 100000 in
set_option maxHeartbeats 4000000 in
theorem buPart_any {w : World} (hH : Sm.HAt w) (hK : Sm.KAt w) (hsz : 1 < w.heap.size) {A : Option Addr} {l : List Om.Pr} (c : Nat) (hit : Om.listAt w A l) (hn : l.length ≤ 1000000) (hs : ∀ x ∈ l, x.p.size ≤ 281474976710656 ∧ x.v.size ≤ 281474976710656) (i : Int) :
    Calls Tryz.prog 75 #[.slice A l.length c, .int .i64 i] w fun e w' => ∃ B q, e = .returned (.slice B (Bu.part l i).length q) ∧ Om.Row w' w.heap.size B q (Bu.part l i) ∧ Below w.heap.size w w' := by
  have HIT := Lib.hid hit
  have HS := Lib.hid hs
  have OF : Hid (∀ (wx : World) (p : ByteArray), Below w.heap.size w wx → p.size ≤ 281474976710656 → Calls Tryz.prog 39 #[.string p] wx fun e w' => e = .returned (.int .i64 (Bu.bk p : Nat)) ∧ Below wx.heap.size wx w') := fun wx p hb hp => buOf_any (hH.low hb (by omega)) (hK.low hb hsz) (Nat.lt_of_lt_of_le hsz hb.size) p (by omega)
  clear hit hs hH hK
  go_enter Tryz.func75, Tryz.ntmps75
  go_wp2
  go_loopw [5, 10] (fun s5 s10 wr => ∃ (k : Nat) (B : Option Addr) (q : Nat) (m : List Om.Pr), s10 = .int .i64 k ∧ s5 = .slice B m.length q ∧ k ≤ l.length ∧ Bu.Pt w wr B q m ∧ Hid (m = Bu.part (l.take k) i)) (fun _ s10 _ => l.length - (intOf s10).toNat)
  case atStart => exact ⟨0, none, 0, [], rfl, rfl, Nat.zero_le _, Bu.Pt.nil w, rfl⟩
  case round =>
    obtain ⟨k, B, q, m, rfl, rfl, hk, hpt, hm⟩ := hrel
    have HPT := Lib.hid hpt
    clear hpt
    by_cases hlt : k < l.length
    · have hki : (k : Int) < (l.length : Int) := by omega
      have hsuc : IntKind.i64.wrap ((k : Int) + 1) = ((k + 1 : Nat) : Int) := by simp [IntKind.wrap, IntKind.bits, IntKind.signed]; omega
      obtain ⟨b, off, rfl, hbl, x0, x1⟩ := HIT.out.get HPT.out.bel k hlt
      obtain ⟨hxp, hxv⟩ := HS.out _ (List.getElem_mem hlt)
      have hst := Bu.part_take hlt i
      rw [← hm.out] at hst
      have HML : Hid (m.length ≤ 1000000) := by
        have := Bu.part_le l k i
        rw [← hm.out] at this
        show _ ≤ _
        omega
      obtain ⟨x, hx⟩ : ∃ x, x = l[k] := ⟨_, rfl⟩
      rw [← hx] at x0 x1 hxp hxv hst
      have HST := Lib.hid hst
      have HLT := Lib.hid hlt
      have ISO := Bu.isOf_eq i x
      have CP := Lib.hid (fun wx => strClone_any x.p wx hxp)
      have CV := Lib.hid (fun wx => strClone_any x.v wx hxv)
      obtain ⟨M, hM⟩ : ∃ M, M = wr.heap.size := ⟨_, rfl⟩
      have HOFF : Hid ((Value.slice B m.length q).ownBlock ≠ some M) := fun e => by
        obtain ⟨-, cs, h⟩ := HPT.out.row.blk e
        have := Sm.lt_of h
        omega
      have gn := heap_alloc_new wr (.cells #[.string x.p, .string x.v] 79)
      have b1 : Below wr.heap.size wr (wr.alloc (.cells #[.string x.p, .string x.v] 79)) := (Below.refl _ wr).alloc (Nat.le_refl _) _
      have S1 := Lib.hid (HPT.out.step b1)
      rw [← hM] at gn
      clear hx hst b1
      clear hlt
      cases hsx : Bu.isOf i x with
      | false =>
        rw [hsx] at ISO HST
        go_upto_region 5 with (fail)
        rw [← hM]
        clear hM
        generalize wr.alloc (.cells #[.string x.p, .string x.v] 79) = W1 at *
        have y0 := Sm.cells_of gn 0 _ rfl
        clear x0 x1
        go_wp2_with (go_at_call 39; refine (OF.out _ _ S1.out.bel hxp).mono ?_; rintro e w3 ⟨rfl, k3⟩)
        have S3 := Lib.hid (S1.out.step k3)
        clear k3
        go_roundw
        case rel =>
          refine ⟨k + 1, B, q, m, rfl, rfl, HLT.out, S3.out, ?_⟩
          show _ = _
          rw [HST.out]; simp
        case measure => simp only [intOf]; have := HLT.out; omega
      | true =>
        rw [hsx] at ISO HST
        go_upto_region 5 with (fail)
        rw [← hM]
        clear hM
        generalize wr.alloc (.cells #[.string x.p, .string x.v] 79) = W1 at *
        have y := Sm.cells_of gn 0 _ rfl
        clear x0 x1
        go_upto_region 6 with (go_at_call 39; refine (OF.out _ _ S1.out.bel hxp).mono ?_; rintro e w3 ⟨rfl, k3⟩)
        have S3 := Lib.hid (S1.out.step k3)
        have SD := Lib.hid (S3.out.step (Below.refl _ _).drew)
        have hg3 := (k3.block M (Sm.lt_of gn)).trans gn
        have GM := Lib.hid hg3
        have y0 : w3.drew.cell? ⟨M, 0, none⟩ = some (.string x.p) := Sm.cells_of hg3 0 _ rfl
        have y1 : w3.drew.cell? ⟨M, 1, none⟩ = some (.string x.v) := Sm.cells_of hg3 1 _ rfl
        have ML : Hid (M < w3.drew.heap.size) := Sm.lt_of hg3
        clear k3 y gn hg3
        refine wp_region_held_drew (S := fun w' => w'.cell? ⟨M, 0, none⟩ = some (.string x.p) ∧ w'.cell? ⟨M, 1, none⟩ = some (.string x.v)) (by kernel_rfl) ⟨y0, y1⟩ (fun hHeld => ?_)
        refine wpAnyH_take (i := 0) (oi := ⟨some 19, _, _, _, _, _⟩) (v := .slice B m.length q) rfl (by kernel_rfl) (by kernel_rfl) (by kernel_rfl) (fun _ _ _ h => h) (Or.inl ⟨by rfl, ?_⟩) (by assumption) ?_
        · intro w hSw; (try dsimp only at hSw); go_simp
        simp only [Act.put, List.setIfInBounds_toArray, List.set_cons_zero, List.set_cons_succ]
        refine wpAnyH_take (i := 1) (oi := ⟨some 20, _, _, _, _, _⟩) (v := .pointer (some ⟨M, 0, none⟩)) rfl (by kernel_rfl) (by kernel_rfl) (by kernel_rfl) (fun _ _ _ h => h) (Or.inl ⟨by rfl, ?_⟩) (by assumption) ?_
        · intro w hSw; (try dsimp only at hSw); go_simp
        simp only [Act.put, List.setIfInBounds_toArray, List.set_cons_zero, List.set_cons_succ]
        refine wpAnyH_take (i := 2) (oi := ⟨some 21, _, _, _, _, _⟩) (v := .string x.p) rfl (by kernel_rfl) (by kernel_rfl) (by kernel_rfl) (fun _ _ _ h => h) (Or.inl ⟨by rfl, ?_⟩) (by assumption) ?_
        · intro w hSw; (try dsimp only at hSw); go_simp
        simp only [Act.put, List.setIfInBounds_toArray, List.set_cons_zero, List.set_cons_succ]
        refine wpAnyH_take (i := 4) (oi := ⟨some 23, _, _, _, _, _⟩) (v := .pointer (some ⟨M, 1, none⟩)) rfl (by kernel_rfl) (by kernel_rfl) (by kernel_rfl) (fun _ _ _ h => h) (Or.inl ⟨by rfl, ?_⟩) (by assumption) ?_
        · intro w hSw; (try dsimp only at hSw); go_simp
        simp only [Act.put, List.setIfInBounds_toArray, List.set_cons_zero, List.set_cons_succ]
        refine wpAnyH_take (i := 5) (oi := ⟨some 24, _, _, _, _, _⟩) (v := .string x.v) rfl (by kernel_rfl) (by kernel_rfl) (by kernel_rfl) (fun _ _ _ h => h) (Or.inl ⟨by rfl, ?_⟩) (by assumption) ?_
        · intro w hSw; (try dsimp only at hSw); go_simp
        simp only [Act.put, List.setIfInBounds_toArray, List.set_cons_zero, List.set_cons_succ]
        refine wpAnyH_ready (rs := [3]) (by kernel_rfl) (by simp) ?_
        refine (AllReadyH.cons (o := ⟨some 22, _, _, _, _, _⟩) rfl (fun K hK => ?_) AllReadyH.nil)
        go_simp
        refine (CP.out _).mono ?_
        rintro e w4 ⟨rfl, k4⟩
        have S4 := Lib.hid (SD.out.step k4)
        have y2 := (k4.cell (p := ⟨M, 0, none⟩) ML.out).trans y0
        have y3 := (k4.cell (p := ⟨M, 1, none⟩) ML.out).trans y1
        have M4 : Hid (M < w4.heap.size) := Nat.lt_of_lt_of_le ML.out k4.size
        clear y0 y1 k4
        refine hK.out _ _ ⟨y2, y3⟩ (fun hHeld => ?_)
        clear hK K
        refine wpAnyH_ready (rs := [6]) (by kernel_rfl) (by simp) ?_
        refine (AllReadyH.cons (o := ⟨some 25, _, _, _, _, _⟩) rfl (fun K hK => ?_) AllReadyH.nil)
        go_simp
        refine (CV.out _).mono ?_
        rintro e w5 ⟨rfl, k5⟩
        have S5 := Lib.hid (S4.out.step k5)
        have y4 := (k5.cell (p := ⟨M, 0, none⟩) M4.out).trans y2
        have y5 := (k5.cell (p := ⟨M, 1, none⟩) M4.out).trans y3
        have M5 : Hid (M < w5.heap.size) := Nat.lt_of_lt_of_le M4.out k5.size
        clear y2 y3 k5
        refine hK.out _ _ ⟨y4, y5⟩ (fun hHeld => ?_)
        clear hK K
        refine wpAnyH_take (i := 7) (oi := ⟨some 26, _, _, _, _, _⟩) (v := .agg #[.string x.p, .string x.v]) rfl (by kernel_rfl) (by kernel_rfl) (by kernel_rfl) (fun _ _ _ h => h) (Or.inl ⟨by rfl, ?_⟩) (by assumption) ?_
        · intro w hSw; (try dsimp only at hSw); go_simp
        simp only [Act.put, List.setIfInBounds_toArray, List.set_cons_zero, List.set_cons_succ]
        refine wpAnyH_ready (rs := [8]) (by kernel_rfl) (by simp) ?_
        refine (AllReadyH.cons (o := ⟨some 27, _, _, _, _, _⟩) rfl (fun K hK => ?_) AllReadyH.nil)
        go_simp
        have b6 : Below w5.heap.size w5 (w5.alloc (.cells #[.string x.p, .string x.v] 79)) := (Below.refl _ _).alloc (Nat.le_refl _) _
        have S6 := Lib.hid (S5.out.step b6)
        have G6 := Lib.hid (heap_alloc_new w5 (.cells #[.string x.p, .string x.v] 79))
        have y6 := (b6.cell (p := ⟨M, 0, none⟩) M5.out).trans y4
        have y7 := (b6.cell (p := ⟨M, 1, none⟩) M5.out).trans y5
        have M6 : Hid (M < (w5.alloc (.cells #[.string x.p, .string x.v] 79)).heap.size) := Nat.lt_of_lt_of_le M5.out b6.size
        clear y4 y5 b6
        refine hK.out _ _ ⟨y6, y7⟩ (fun hHeld => ?_)
        clear hK K
        refine wpAnyH_ready (rs := [9]) (by kernel_rfl) (by simp) ?_
        refine (AllReadyH.cons (o := ⟨some 28, _, _, _, _, _⟩) rfl (fun K hK => ?_) AllReadyH.nil)
        rw [if_pos (by simp [Region.wanted])]
        refine Om.wp_push0 (.tmp 19) (.tmp 27) rfl rfl S6.out.row x rfl G6.out (by have := HML.out; omega) S6.out.bel.size ?_
        intro B7 q7 w7 hr7 hg7
        have S7 := Lib.hid (S6.out.push hr7 hg7)
        have hbk : ∀ o, w7.cell? ⟨M, o, none⟩ = (w5.alloc (.cells #[.string x.p, .string x.v] 79)).cell? ⟨M, o, none⟩ := fun o => World.cell?_of_block (hg7.block M M6.out (fun e => HOFF.out e.symm))
        have y8 := (hbk 0).trans y6
        have y9 := (hbk 1).trans y7
        clear hr7 hg7 hbk y6 y7
        refine hK.out _ _ ⟨y8, y9⟩ (fun hHeld => ?_)
        clear hK K
        try simp only [Act.put, List.setIfInBounds_toArray, List.set_cons_zero, List.set_cons_succ]
        refine wpAnyH_take (i := 10) (oi := ⟨some 5, _, _, _, _, _⟩) (v := .slice B7 (m.length + 1) q7) rfl (by kernel_rfl) (by kernel_rfl) (by kernel_rfl) (fun _ _ _ h => h) (Or.inl ⟨by rfl, ?_⟩) (by assumption) ?_
        · intro w hSw; (try dsimp only at hSw); go_simp
        simp only [Act.put, List.setIfInBounds_toArray, List.set_cons_zero, List.set_cons_succ]
        refine wpAnyH_done (by kernel_rfl) ?_ _
        go_wp2
        go_roundw
        case rel =>
          refine ⟨k + 1, B7, q7, m ++ [x], rfl, by simp, HLT.out, S7.out, ?_⟩
          show _ = _
          rw [HST.out]; simp
        case measure => simp only [intOf]; have := HLT.out; omega
    · have hki : ¬ (k : Int) < (l.length : Int) := by omega
      have hke : k = l.length := by omega
      have hm' := hm.out
      rw [hke, List.take_length] at hm'
      have HMM := Lib.hid hm'
      clear hm hk hm'
      go_wp2
      go_ret
      exact ⟨B, q, by rw [← HMM.out]; rfl, by rw [← HMM.out]; exact HPT.out.row, HPT.out.bel⟩
end Go.Proofs.YtiehcplepneajaaGreatDoor
