/-
  An act of the statement on a Log, beside the document's.
-/
import Derived.Test.YtnmagfodjcookaaGreatW10One
import Derived.StillTailTactics
namespace Go.Proofs.YtnmagfodjcookaaGreat
open Go.RowKit
set_option maxRecDepth 100000 in
set_option maxHeartbeats 40000000 in
theorem w10does_any {B : Nat} {w0 w : World} {X r : Nat} {fp : Nat → Prop} {M : Dk.Md} {d0 d1 d2 d3 : Value} {lo : Option Nat} {bl : Nat → Prop} {L : Lg.Md} {q0 q1 q2 q3 q4 q5 q6 q7 : Value} {a nn : Int} {ep : Nat} {n : Int}
    (h : Lg.W10 (fun _ => none) B w0 w X r fp M M d0 d1 d2 d3 lo bl L L q0 q1 q2 q3 q4 q5 q6 q7 a nn ep n) (hiff : lo = none ↔ n ≠ 0) (hB : B = w0.heap.size) (hq : Dk.waits M + 50 ≤ 1099511627775) (hpos : 0 ≤ a ∧ 1 ≤ nn ∧ a + nn ≤ 4096) (hep : ep < 18446744073709551616) (x : Lg.Ac) (hok : x.Ok w0) (hts : x.t.size ≤ 2000) :
    Calls Tryz.prog 12 #[.pointer (some ⟨X, 0, none⟩), .agg x.cells.toArray] w fun e w' => e = .returned (.bool true) ∧ Lg.Did10 B w0 w' X r M a nn := by
  obtain ⟨N, hN⟩ : ∃ n, n = w.heap.size := ⟨_, rfl⟩
  obtain ⟨cs, hcs⟩ : ∃ c, c = x.cells := ⟨_, rfl⟩
  obtain ⟨lp, hlp⟩ : ∃ v, v = Lg.lptr lo := ⟨_, rfl⟩
  have b1 : Below w.heap.size w (w.alloc (.cells cs.toArray 46)) := (Below.refl _ w).alloc (Nat.le_refl _) _
  have g0 : (w.alloc (.cells cs.toArray 46)).heap[N]? = some (.cells cs.toArray 46 (0, 0)) := by rw [hN]; exact heap_alloc_new w _
  obtain ⟨Z, hZ, G1⟩ : ∃ Z : Nat → Option Obj, Z N = some (.cells cs.toArray 46 (0, 0)) ∧ Lg.W10 Z B w0 (w.alloc (.cells cs.toArray 46)) X r fp M M d0 d1 d2 d3 lo bl L L q0 q1 q2 q3 q4 q5 q6 q7 a nn ep n := ⟨fun q => if q = N then some (.cells cs.toArray 46 (0, 0)) else none, by simp, h.hold b1 (by omega) g0⟩
  have HCS := Lib.hid hcs
  have HLP := Lib.hid hlp
  have HQ := Lib.hid hq
  have OK := Lib.hid hok
  have HBB := Lib.hid hB
  have HZ := Lib.hid hZ
  have HPOS := Lib.hid hpos
  have HEP := Lib.hid hep
  have HIF := Lib.hid hiff
  rw [← hcs]
  have OPN : Hid (∀ (wx : World) (fpx : Nat → Prop) (Mx : Dk.Md) (d0 d1 d2 d3 : Value) (lo : Option Nat) (bl : Nat → Prop) (L LR : Lg.Md) (q0 q1 q2 q3 q4 q5 q6 q7 : Value) (ep : Nat) (n : Int), Lg.W10 Z B w0 wx X r fpx Mx Mx d0 d1 d2 d3 lo bl L LR q0 q1 q2 q3 q4 q5 q6 q7 a nn ep n → ep < 18446744073709551616 → Dk.waits Mx ≤ Dk.waits M + 33 → Calls Tryz.prog 9 #[.pointer (some ⟨X, 0, none⟩)] wx fun e w' => e = .returned (.bool true) ∧ Lg.Opn10 Z B w0 w' X r fpx Mx d0 d1 d2 d3 a nn ep ∧ Dk.Turned (fun q => q = X) wx w') := fun wx fpx Mx d0 d1 d2 d3 lo bl L LR q0 q1 q2 q3 q4 q5 q6 q7 ep n hx he hm =>
    w10open_any hx (by have := HQ.out; omega) (by have := HPOS.out; omega) he
  clear h b1 g0 hcs hlp hq hok hB hZ hpos hep hiff
  go_enter Tryz.func12, Tryz.ntmps12
  go_upto_region 1 with (fail)
  rw [← hN]
  clear hN
  generalize w.alloc (.cells cs.toArray 46) = w1 at *
  have AC : Hid (∀ wx : World, wx.heap[N]? = some (.cells cs.toArray 46 (0, 0)) → wx.cell? ⟨N, 0, none⟩ = some (.int .i64 x.d) ∧ wx.cell? ⟨N, 1, none⟩ = some (.string x.t) ∧ wx.cell? ⟨N, 2, none⟩ = some (.int .i64 x.n) ∧ wx.cell? ⟨N, 3, none⟩ = some (.int .i64 x.m) ∧ wx.cell? ⟨N, 4, none⟩ = some (.string x.x) ∧ wx.cell? ⟨N, 5, none⟩ = some x.kv) := fun wx hx =>
    ⟨Sm.cells_of hx 0 _ (by rw [HCS.out]; rfl), Sm.cells_of hx 1 _ (by rw [HCS.out]; rfl), Sm.cells_of hx 2 _ (by rw [HCS.out]; rfl), Sm.cells_of hx 3 _ (by rw [HCS.out]; rfl), Sm.cells_of hx 4 _ (by rw [HCS.out]; rfl), Sm.cells_of hx 5 _ (by rw [HCS.out]; rfl)⟩
  have d0' := (AC.out w1 (G1.held N _ HZ.out).1).1
  have GG := Lib.hid G1
  clear G1
  by_cases e0 : x.d = 0
  · rw [e0] at d0'
    clear e0
    cases lo with
    | none =>
      have hn0 : n ≠ 0 := HIF.out.1 rfl
      have hnb : (n == 0) = false := beq_eq_false_iff_ne.2 hn0
      have hnc : (n != 0) = true := by simp [bne, hnb]
      obtain rfl : lp = .pointer none := HLP.out
      have GD := GG.out.low' ((Below.refl _ w1).drew)
      have xl := GD.lit (lp := .pointer none) rfl
      have x1 : w1.drew.cell? ⟨X, 1, none⟩ = some (.pointer none) := Sm.cells_of xl 1 _ rfl
      have x17 : w1.drew.cell? ⟨X, 17, none⟩ = some (.int .i64 n) := Sm.cells_of xl 17 _ rfl
      have a1 := (AC.out _ (GD.held N _ HZ.out).1).2.1
      have HGD := Lib.hid GD
      have HN0 := Lib.hid hn0
      clear GD xl hn0
      go_upto_region 3 with (fail)
      go_still_tail 6, (by kernel_rfl)
      repeat still_step
      try refine wpStill_nil ?_
      change wpList _ _ _ _ _ w1.drew
      go_wp2_with fail
      refine (lgAdd_nil _ x.t).mono ?_
      rintro e u1 ⟨rfl, rfl⟩
      go_wp2_with fail
      go_ret
      exact ⟨rfl, Lg.did10 HGD.out ⟨fun _ => HN0.out, fun _ => rfl⟩ (by omega) rfl HEP.out⟩
    | some k =>
      have hn0 : n = 0 := Decidable.not_not.1 fun e => absurd (HIF.out.2 e) (by simp)
      subst hn0
      obtain rfl : lp = .pointer (some ⟨k, 0, none⟩) := HLP.out
      obtain ⟨-, hfine, -⟩ := GG.out.log k rfl
      obtain ⟨R, hR⟩ : ∃ R, R = Lg.add L M x.t.data.toList := ⟨_, rfl⟩
      obtain ⟨L1, M1, er⟩ := R
      have hL1 : L1 = (Lg.add L M x.t.data.toList).1 := by rw [← hR]
      have hM1 : M1 = (Lg.add L M x.t.data.toList).2.1 := by rw [← hR]
      have hE1 : er = (Lg.add L M x.t.data.toList).2.2 := by rw [← hR]
      have WT1 : Hid (Dk.waits M1 ≤ Dk.waits M + 33 ∧ M1.lasts.length = M.lasts.length) := ⟨by rw [hM1]; exact Nat.le_trans (Lg.waits_add L M _) (by omega), by rw [hM1]; exact Lg.len_add _ _ _⟩
      have FIN1 : Hid (Lg.Fine L1 M1 a nn) := by rw [hL1, hM1]; exact hfine.add _ (Lg.len_add _ _ _)
      have ADD : Hid (∀ wx, Lg.Own B w0 wx r fp M k bl L → Calls Tryz.prog 10 #[.pointer (some ⟨k, 0, none⟩), .string x.t] wx fun e w' => ∃ fp' bl', e = .returned (.int .i64 er) ∧ Lg.Step B w0 wx w' r fp fp' M1 k bl bl' L1) := fun wx h1 => by
        have := lgAdd_any h1 hfine.fit (by have := HQ.out; omega) x.t (by omega)
        rw [← hL1, ← hM1, ← hE1] at this
        exact this
      obtain ⟨dl, hdl⟩ : ∃ q : List Value, q = [d0, d1, d2, d3] := ⟨_, rfl⟩
      have hda : dl.toArray = #[d0, d1, d2, d3] := by rw [hdl]
      have hdl4 : dl.length = 4 := by rw [hdl]; rfl
      obtain ⟨ql, hql⟩ : ∃ q : List Value, q = [q0, q1, q2, q3, q4, q5, q6, q7] := ⟨_, rfl⟩
      have hqa : ql.toArray = #[q0, q1, q2, q3, q4, q5, q6, q7] := by rw [hql]
      have hql8 : ql.length = 8 := by rw [hql]; rfl
      have HMO := Lib.hid GG.out.disk.disk.ok
      have RA : Hid (∀ wx F, Dk.RefAt wx F (.agg dl.toArray) M → Lg.RefAt wx F a nn (.agg ql.toArray) L → (∀ q, F q → q < wx.heap.size) → Calls Tryz.prog 28 #[.agg ql.toArray, .agg dl.toArray, .string x.t] wx fun e w' => ∃ (v0 v1 v2 : Int) (vA : Option Addr) (vn vc : Nat) (v4 v5 v6 : Int) (v7 : Bool) (v' : Value), e = .returned (.tuple #[.agg #[.int .i64 v0, .int .i64 v1, .int .u64 v2, .slice vA vn vc, .int .i64 v4, .int .u64 v5, .int .u64 v6, .bool v7], v', .int .i64 er]) ∧ Lg.RefAt w' F a nn (.agg #[.int .i64 v0, .int .i64 v1, .int .u64 v2, .slice vA vn vc, .int .i64 v4, .int .u64 v5, .int .u64 v6, .bool v7]) L1 ∧ Dk.RefAt w' F v' M1 ∧ Below wx.heap.size wx w') := fun wx F h1 h2 h3 => by
        have hfit := hfine.fit
        have hnx := hfine.next
        have hend := hfine.end_
        have hpos := HPOS.out
        refine (r10Add_any h1 HMO.out h3 (by have := HQ.out; omega) h2 ⟨hpos.1, hpos.2.2⟩ hnx.2 hfit.recs ⟨hfine.ep, hfine.salt, hfine.ahead⟩ x.t hts).mono ?_
        rintro e w' ⟨u', v', he, h4, h5, h6⟩
        rw [← hL1] at h4
        rw [← hM1] at h5
        rw [← hE1] at he
        obtain ⟨rA, rc, us, hv, h7⟩ := id h4
        obtain ⟨v0, v1, v2, vA, vn, vc, v4, v5, v6, v7, hlv⟩ := Lg.lv_eight a nn L1 rA rc us
        rw [hlv] at hv
        subst hv
        exact ⟨v0, v1, v2, vA, vn, vc, v4, v5, v6, v7, v', he, h4, h5, h6⟩
      have HDL := Lib.hid hdl
      have HDA := Lib.hid hda
      have HQL := Lib.hid hql
      have HQA := Lib.hid hqa
      clear hR hL1 hM1 hE1 hda hdl hql hqa hfine
      have GD := GG.out.low' ((Below.refl _ w1).drew)
      have x1 : w1.drew.cell? ⟨X, 1, none⟩ = some (.pointer (some ⟨k, 0, none⟩)) := Sm.cells_of (GD.lit (lp := .pointer (some ⟨k, 0, none⟩)) rfl) 1 _ rfl
      have a1 := (AC.out _ (GD.held N _ HZ.out).1).2.1
      go_upto_region 3 with (fail)
      go_still_tail 6, (by kernel_rfl)
      repeat still_step
      try refine wpStill_nil ?_
      change wpList _ _ _ _ _ w1.drew
      go_wp2_with fail
      refine (ADD.out _ ⟨GD.disk, (GD.log k rfl).1, fun q e => (GD.bl_ q e).2.1⟩).mono ?_
      rintro e u1 ⟨fp1, bl1, rfl, st⟩
      have G2 := GD.logged rfl st FIN1.out
      clear x1 a1 st GD
      have x17 : u1.cell? ⟨X, 17, none⟩ = some (.int .i64 0) := Sm.cells_of (G2.lit (lp := .pointer (some ⟨k, 0, none⟩)) rfl) 17 _ rfl
      have H2 := Lib.hid G2
      clear G2
      go_upto_region 6 with (fail)
      have HGD := Lib.hid (H2.out.low' ((Below.refl _ u1).drew))
      have xl := HGD.out.lit (lp := .pointer (some ⟨k, 0, none⟩)) rfl
      have R0 : Lg.R8 u1.drew u1.drew (fun q => fp1 q ∨ q = X ∨ bl1 q) (.agg dl.toArray) M a nn (.agg ql.toArray) L := ⟨⟨Below.refl _ _, by rw [HDA.out]; exact HGD.out.ref, HGD.out.lt⟩, by rw [HQA.out]; exact (HGD.out.log k rfl).2.2⟩
      clear x17
      go_cut [6, 7, 8] from 30 (fun s6 s7 s8 wx => ∃ (Q8 Q9 : Nat) (v0 v1 v2 : Int) (vA : Option Addr) (vn vc : Nat) (v4 v5 v6 : Int) (v7 : Bool) (tA : Option Addr) (tn tc : Nat) (tB : Option Addr) (tm td : Nat) (f2 : Int) (o2 : Bool), s6 = .pointer (some ⟨Q8, 0, none⟩) ∧ s7 = .pointer (some ⟨Q9, 0, none⟩) ∧ s8 = .int .i64 er ∧ (wx.heap[Q8]? = some (.cells #[.int .i64 v0, .int .i64 v1, .int .u64 v2, .slice vA vn vc, .int .i64 v4, .int .u64 v5, .int .u64 v6, .bool v7] 39 (0, 0)) ∧ wx.heap[Q9]? = some (.cells #[.slice tA tn tc, .slice tB tm td, .int .i64 f2, .bool o2] 33 (0, 0)) ∧ u1.heap.size ≤ Q8 ∧ u1.heap.size ≤ Q9 ∧ Below u1.heap.size u1 wx ∧ Dk.RefAt wx (fun q => fp1 q ∨ q = X ∨ bl1 q) (.agg #[.slice tA tn tc, .slice tB tm td, .int .i64 f2, .bool o2]) M1 ∧ Lg.RefAt wx (fun q => fp1 q ∨ q = X ∨ bl1 q) a nn (.agg #[.int .i64 v0, .int .i64 v1, .int .u64 v2, .slice vA vn vc, .int .i64 v4, .int .u64 v5, .int .u64 v6, .bool v7]) L1))
      case first =>
        refine wp_region_held_drew (S := (fun w' => w'.heap[X]? = some (.cells #[.pointer (some ⟨r, 0, none⟩), .pointer (some ⟨k, 0, none⟩), d0, d1, d2, d3, q0, q1, q2, q3, q4, q5, q6, q7, .int .i64 a, .int .i64 nn, .int .u64 (ep : Nat), .int .i64 0] 41 (0, 0)) ∧ w'.heap[N]? = some (.cells cs.toArray 46 (0, 0)))) (by kernel_rfl) ⟨xl, (HGD.out.held N _ HZ.out).1⟩ (fun hHeld => ?_)
        have BD0 : Hid (Below u1.heap.size u1 u1.drew) := (Below.refl _ u1).drew
        generalize u1.drew = wd at *
        refine wpAnyH_take (i := 0) (oi := ⟨some 31, _, _, _, _, _⟩) (v := .pointer (some ⟨X, 0, none⟩)) rfl (by kernel_rfl) (by kernel_rfl) (by kernel_rfl) (fun _ _ _ h => h) (Or.inl ⟨by rfl, ?_⟩) (by assumption) ?_
        · intro w hSw; (try dsimp only at hSw); go_simp
        simp only [Act.put, List.setIfInBounds_toArray, List.set_cons_zero, List.set_cons_succ]
        refine wpAnyH_take (i := 1) (oi := ⟨some 32, _, _, _, _, _⟩) (v := .pointer (some ⟨X, 0, none⟩)) rfl (by kernel_rfl) (by kernel_rfl) (by kernel_rfl) (fun _ _ _ h => h) (Or.inl ⟨by rfl, ?_⟩) (by assumption) ?_
        · intro w hSw; (try dsimp only at hSw); go_simp
        simp only [Act.put, List.setIfInBounds_toArray, List.set_cons_zero, List.set_cons_succ]
        refine wpAnyH_take (i := 2) (oi := ⟨some 33, _, _, _, _, _⟩) (v := .pointer (some ⟨X, 6, none⟩)) rfl (by kernel_rfl) (by kernel_rfl) (by kernel_rfl) (fun _ _ _ h => h) (Or.inl ⟨by rfl, ?_⟩) (by assumption) ?_
        · intro w hSw; (try dsimp only at hSw); go_simp
        simp only [Act.put, List.setIfInBounds_toArray, List.set_cons_zero, List.set_cons_succ]
        refine wpAnyH_take (i := 3) (oi := ⟨some 34, _, _, _, _, _⟩) (v := .agg ql.toArray) rfl (by kernel_rfl) (by kernel_rfl) (by kernel_rfl) (fun _ _ _ h => h) (yieldsIf_load_mid (by rfl) _ _ rfl _ _ rfl ql _ (fun w hS => (by rw [HQL.out]; exact Lg.rowV hS.1)) Tryz.underlying39 rfl (Lg.info_log10 hql8)) (by assumption) ?_
        simp only [Act.put, List.setIfInBounds_toArray, List.set_cons_zero, List.set_cons_succ]
        refine wpAnyH_take (i := 4) (oi := ⟨some 35, _, _, _, _, _⟩) (v := .pointer (some ⟨X, 0, none⟩)) rfl (by kernel_rfl) (by kernel_rfl) (by kernel_rfl) (fun _ _ _ h => h) (Or.inl ⟨by rfl, ?_⟩) (by assumption) ?_
        · intro w hSw; (try dsimp only at hSw); go_simp
        simp only [Act.put, List.setIfInBounds_toArray, List.set_cons_zero, List.set_cons_succ]
        refine wpAnyH_take (i := 5) (oi := ⟨some 36, _, _, _, _, _⟩) (v := .pointer (some ⟨X, 0, none⟩)) rfl (by kernel_rfl) (by kernel_rfl) (by kernel_rfl) (fun _ _ _ h => h) (Or.inl ⟨by rfl, ?_⟩) (by assumption) ?_
        · intro w hSw; (try dsimp only at hSw); go_simp
        simp only [Act.put, List.setIfInBounds_toArray, List.set_cons_zero, List.set_cons_succ]
        refine wpAnyH_take (i := 6) (oi := ⟨some 37, _, _, _, _, _⟩) (v := .pointer (some ⟨X, 2, none⟩)) rfl (by kernel_rfl) (by kernel_rfl) (by kernel_rfl) (fun _ _ _ h => h) (Or.inl ⟨by rfl, ?_⟩) (by assumption) ?_
        · intro w hSw; (try dsimp only at hSw); go_simp
        simp only [Act.put, List.setIfInBounds_toArray, List.set_cons_zero, List.set_cons_succ]
        refine wpAnyH_take (i := 7) (oi := ⟨some 38, _, _, _, _, _⟩) (v := .agg dl.toArray) rfl (by kernel_rfl) (by kernel_rfl) (by kernel_rfl) (fun _ _ _ h => h) (yieldsIf_load_mid (by rfl) _ _ rfl _ _ rfl dl _ (fun w hS => (by rw [HDL.out]; exact Lg.rowD hS.1)) Tryz.underlying33 rfl (Lg.info_dsk7 hdl4)) (by assumption) ?_
        simp only [Act.put, List.setIfInBounds_toArray, List.set_cons_zero, List.set_cons_succ]
        refine wpAnyH_take (i := 8) (oi := ⟨some 39, _, _, _, _, _⟩) (v := .pointer (some ⟨N, 1, none⟩)) rfl (by kernel_rfl) (by kernel_rfl) (by kernel_rfl) (fun _ _ _ h => h) (Or.inl ⟨by rfl, ?_⟩) (by assumption) ?_
        · intro w hSw; (try dsimp only at hSw); go_simp
        simp only [Act.put, List.setIfInBounds_toArray, List.set_cons_zero, List.set_cons_succ]
        refine wpAnyH_take (i := 9) (oi := ⟨some 40, _, _, _, _, _⟩) (v := .string x.t) rfl (by kernel_rfl) (by kernel_rfl) (by kernel_rfl) (fun _ _ _ h => h) (Or.inl ⟨by rfl, ?_⟩) (by assumption) ?_
        · intro w hSw; (try dsimp only at hSw); have hh := (AC.out _ hSw.2).2.1; go_simp
        simp only [Act.put, List.setIfInBounds_toArray, List.set_cons_zero, List.set_cons_succ]
        refine wpAnyH_ready (rs := [10, 15, 16]) (by kernel_rfl) (by simp) ?_
        refine (AllReadyH.cons (o := ⟨some 41, _, _, _, _, _⟩) rfl (fun K hK => ?_) (AllReadyH.cons (o := ⟨some 6, _, _, _, _, _⟩) rfl (fun K hK => ?_) (AllReadyH.cons (o := ⟨some 7, _, _, _, _, _⟩) rfl (fun K hK => ?_) AllReadyH.nil)))
        · go_simp
          refine (RA.out _ _ R0.dsk.ref R0.log R0.dsk.lt).mono ?_
          rintro e v1x ⟨v0, v1, v2, vA, vn, vc, v4, v5, v6, v7, vn, rfl, hlog, href, k1⟩
          obtain ⟨tA, tn, tc, tB, tm, td, f2, o2, rfl⟩ := Lg.quad href
          have R1 := R0.call href hlog k1
          clear href hlog k1
          have G7 := HGD.out.low' R1.dsk.bel
          refine hK.out _ _ ⟨G7.lit (lp := .pointer (some ⟨k, 0, none⟩)) rfl, (G7.held N _ HZ.out).1⟩ (fun hHeld => ?_)
          clear hK K
          clear G7
          refine wpAnyH_take (i := 11) (oi := ⟨some 30, _, _, _, _, _⟩) (v := .tuple #[.agg #[.int .i64 v0, .int .i64 v1, .int .u64 v2, .slice vA vn vc, .int .i64 v4, .int .u64 v5, .int .u64 v6, .bool v7], .agg #[.slice tA tn tc, .slice tB tm td, .int .i64 f2, .bool o2], .int .i64 er]) rfl (by kernel_rfl) (by kernel_rfl) (by kernel_rfl) (fun _ _ _ h => h) (Or.inl ⟨by rfl, ?_⟩) (by assumption) ?_
          · intro w hSw; (try dsimp only at hSw); go_simp
          simp only [Act.put, List.setIfInBounds_toArray, List.set_cons_zero, List.set_cons_succ]
          refine wpAnyH_take (i := 12) (oi := ⟨some 42, _, _, _, _, _⟩) (v := .agg #[.int .i64 v0, .int .i64 v1, .int .u64 v2, .slice vA vn vc, .int .i64 v4, .int .u64 v5, .int .u64 v6, .bool v7]) rfl (by kernel_rfl) (by kernel_rfl) (by kernel_rfl) (fun _ _ _ h => h) (Or.inl ⟨by rfl, ?_⟩) (by assumption) ?_
          · intro w hSw; (try dsimp only at hSw); go_simp
          simp only [Act.put, List.setIfInBounds_toArray, List.set_cons_zero, List.set_cons_succ]
          refine wpAnyH_take (i := 13) (oi := ⟨some 43, _, _, _, _, _⟩) (v := .agg #[.slice tA tn tc, .slice tB tm td, .int .i64 f2, .bool o2]) rfl (by kernel_rfl) (by kernel_rfl) (by kernel_rfl) (fun _ _ _ h => h) (Or.inl ⟨by rfl, ?_⟩) (by assumption) ?_
          · intro w hSw; (try dsimp only at hSw); go_simp
          simp only [Act.put, List.setIfInBounds_toArray, List.set_cons_zero, List.set_cons_succ]
          refine wpAnyH_take (i := 14) (oi := ⟨some 44, _, _, _, _, _⟩) (v := .int .i64 er) rfl (by kernel_rfl) (by kernel_rfl) (by kernel_rfl) (fun _ _ _ h => h) (Or.inl ⟨by rfl, ?_⟩) (by assumption) ?_
          · intro w hSw; (try dsimp only at hSw); go_simp
          simp only [Act.put, List.setIfInBounds_toArray, List.set_cons_zero, List.set_cons_succ]
          refine wpAnyH_ready (rs := [15, 16]) (by kernel_rfl) (by simp) ?_
          refine (AllReadyH.cons (o := ⟨some 6, _, _, _, _, _⟩) rfl (fun K hK => ?_) (AllReadyH.cons (o := ⟨some 7, _, _, _, _, _⟩) rfl (fun K hK => ?_) AllReadyH.nil))
          · rw [if_pos (by simp [Region.wanted])]
            go_simp
            have al := heap_alloc_new v1x (.cells #[.int .i64 0, .int .i64 0, .int .u64 0, .slice none 0 0, .int .i64 0, .int .u64 0, .int .u64 0, .bool false] 39)
            have R2 := R1.alloc (.cells #[.int .i64 0, .int .i64 0, .int .u64 0, .slice none 0 0, .int .i64 0, .int .u64 0, .int .u64 0, .bool false] 39)
            obtain ⟨Q8, hQ⟩ : ∃ Q, Q = v1x.heap.size := ⟨_, rfl⟩
            have hQA8 : wd.heap.size ≤ Q8 := by rw [hQ]; exact R1.dsk.bel.size
            rw [← hQ] at al R2  ⊢
            clear hQ
            have p82 := al
            clear al
            generalize v1x.alloc (.cells #[.int .i64 0, .int .i64 0, .int .u64 0, .slice none 0 0, .int .i64 0, .int .u64 0, .int .u64 0, .bool false] 39) = v2x at *
            have G7 := HGD.out.low' R2.dsk.bel
            refine hK.out _ _ ⟨G7.lit (lp := .pointer (some ⟨k, 0, none⟩)) rfl, (G7.held N _ HZ.out).1⟩ (fun hHeld => ?_)
            clear hK K
            clear G7
            refine wpAnyH_ready (rs := [16]) (by kernel_rfl) (by simp) ?_
            refine (AllReadyH.cons (o := ⟨some 7, _, _, _, _, _⟩) rfl (fun K hK => ?_) AllReadyH.nil)
            rw [if_pos (by simp [Region.wanted])]
            go_simp
            have al := heap_alloc_new v2x (.cells #[.slice none 0 0, .slice none 0 0, .int .i64 0, .bool false] 33)
            have R3 := R2.alloc (.cells #[.slice none 0 0, .slice none 0 0, .int .i64 0, .bool false] 33)
            have p83 : (v2x.alloc (.cells #[.slice none 0 0, .slice none 0 0, .int .i64 0, .bool false] 33)).heap[Q8]? = _ := (Below.heap_alloc _ _ _ (Sm.lt_of p82)).trans p82
            have nq3 : v2x.heap.size ≠ Q8 := by have := Sm.lt_of p82; omega
            obtain ⟨Q9, hQ⟩ : ∃ Q, Q = v2x.heap.size := ⟨_, rfl⟩
            have hQA9 : wd.heap.size ≤ Q9 := by rw [hQ]; exact R2.dsk.bel.size
            rw [← hQ] at al R3 nq3 ⊢
            clear hQ
            have p93 := al
            clear al
            generalize v2x.alloc (.cells #[.slice none 0 0, .slice none 0 0, .int .i64 0, .bool false] 33) = v3x at *
            have G7 := HGD.out.low' R3.dsk.bel
            refine hK.out _ _ ⟨G7.lit (lp := .pointer (some ⟨k, 0, none⟩)) rfl, (G7.held N _ HZ.out).1⟩ (fun hHeld => ?_)
            clear hK K
            clear G7
            have n89 : Q8 ≠ Q9 := nq3.symm
            refine wpAnyH_ready (rs := [17]) (by kernel_rfl) (by simp) ?_
            refine (AllReadyH.cons (o := ⟨none, _, _, _, _, _⟩) rfl (fun K hK => ?_) AllReadyH.nil)
            have z0 := Sm.cells_of p83 0 _ rfl; have z1 := Sm.cells_of p83 1 _ rfl; have z2 := Sm.cells_of p83 2 _ rfl; have z3 := Sm.cells_of p83 3 _ rfl; have z4 := Sm.cells_of p83 4 _ rfl; have z5 := Sm.cells_of p83 5 _ rfl; have z6 := Sm.cells_of p83 6 _ rfl; have z7 := Sm.cells_of p83 7 _ rfl
            have zf0 := Sm.free_of p83 0; have zf1 := Sm.free_of p83 1; have zf2 := Sm.free_of p83 2; have zf3 := Sm.free_of p83 3; have zf4 := Sm.free_of p83 4; have zf5 := Sm.free_of p83 5; have zf6 := Sm.free_of p83 6; have zf7 := Sm.free_of p83 7
            go_simp
            have RS := R3.set (Lg.turned8 v3x Q8 (.int .i64 v0) (.int .i64 v1) (.int .u64 v2) (.slice vA vn vc) (.int .i64 v4) (.int .u64 v5) (.int .u64 v6) (.bool v7)) hQA8 (by simp)
            have pa8 := Lg.set8 p83 rfl (.int .i64 v0) (.int .i64 v1) (.int .u64 v2) (.slice vA vn vc) (.int .i64 v4) (.int .u64 v5) (.int .u64 v6) (.bool v7)
            have pa9 := (Lg.set8_other v3x Q8 (.int .i64 v0) (.int .i64 v1) (.int .u64 v2) (.slice vA vn vc) (.int .i64 v4) (.int .u64 v5) (.int .u64 v6) (.bool v7) Q9 n89.symm).trans p93
            clear z0 z1 z2 z3 z4 z5 z6 z7 zf0 zf1 zf2 zf3 zf4 zf5 zf6 zf7
            generalize ((((((((v3x.setCell ⟨Q8, 0, none⟩ (.int .i64 v0)).setCell ⟨Q8, 1, none⟩ (.int .i64 v1)).setCell ⟨Q8, 2, none⟩ (.int .u64 v2)).setCell ⟨Q8, 3, none⟩ (.slice vA vn vc)).setCell ⟨Q8, 4, none⟩ (.int .i64 v4)).setCell ⟨Q8, 5, none⟩ (.int .u64 v5)).setCell ⟨Q8, 6, none⟩ (.int .u64 v6)).setCell ⟨Q8, 7, none⟩ (.bool v7)) = ua at *
            have G7 := HGD.out.low' RS.dsk.bel
            refine hK.out _ _ ⟨G7.lit (lp := .pointer (some ⟨k, 0, none⟩)) rfl, (G7.held N _ HZ.out).1⟩ (fun hHeld => ?_)
            clear hK K
            clear G7
            refine wpAnyH_ready (rs := [18]) (by kernel_rfl) (by simp) ?_
            refine (AllReadyH.cons (o := ⟨none, _, _, _, _, _⟩) rfl (fun K hK => ?_) AllReadyH.nil)
            have z0 := Sm.cells_of pa9 0 _ rfl; have z1 := Sm.cells_of pa9 1 _ rfl; have z2 := Sm.cells_of pa9 2 _ rfl; have z3 := Sm.cells_of pa9 3 _ rfl
            have zf0 := Sm.free_of pa9 0; have zf1 := Sm.free_of pa9 1; have zf2 := Sm.free_of pa9 2; have zf3 := Sm.free_of pa9 3
            go_simp
            have RT := RS.set (Lg.turned4 ua Q9 (.slice tA tn tc) (.slice tB tm td) (.int .i64 f2) (.bool o2)) hQA9 (by simp)
            have pb9 := Dk.set4 pa9 rfl (.slice tA tn tc) (.slice tB tm td) (.int .i64 f2) (.bool o2)
            have pb8 := (Dk.set4_other ua Q9 (.slice tA tn tc) (.slice tB tm td) (.int .i64 f2) (.bool o2) Q8 n89).trans pa8
            clear z0 z1 z2 z3 zf0 zf1 zf2 zf3
            generalize ((((ua.setCell ⟨Q9, 0, none⟩ (.slice tA tn tc)).setCell ⟨Q9, 1, none⟩ (.slice tB tm td)).setCell ⟨Q9, 2, none⟩ (.int .i64 f2)).setCell ⟨Q9, 3, none⟩ (.bool o2)) = ub at *
            have G7 := HGD.out.low' RT.dsk.bel
            refine hK.out _ _ ⟨G7.lit (lp := .pointer (some ⟨k, 0, none⟩)) rfl, (G7.held N _ HZ.out).1⟩ (fun hHeld => ?_)
            clear hK K
            clear G7
            refine wpAnyH_take (i := 19) (oi := ⟨some 8, _, _, _, _, _⟩) (v := .int .i64 er) rfl (by kernel_rfl) (by kernel_rfl) (by kernel_rfl) (fun _ _ _ h => h) (Or.inl ⟨by rfl, ?_⟩) (by assumption) ?_
            · intro w hSw; (try dsimp only at hSw); go_simp
            simp only [Act.put, List.setIfInBounds_toArray, List.set_cons_zero, List.set_cons_succ]
            refine wpAnyH_done (by kernel_rfl) ?_ _
            clear hHeld
            have hrb : Dk.RefAt ub (fun q => fp1 q ∨ q = X ∨ bl1 q) (.agg #[.slice tA tn tc, .slice tB tm td, .int .i64 f2, .bool o2]) M1 := RT.dsk.ref.off fun q _ e => .inl (.inl e)
            have hlb : Lg.RefAt ub (fun q => fp1 q ∨ q = X ∨ bl1 q) a nn (.agg #[.int .i64 v0, .int .i64 v1, .int .u64 v2, .slice vA vn vc, .int .i64 v4, .int .u64 v5, .int .u64 v6, .bool v7]) L1 := RT.log.off fun q e => .inl (.inl e)
            have hbb : Below u1.heap.size u1 ub := BD0.out.trans (RT.dsk.bel.mono BD0.out.size)
            have h8 : u1.heap.size ≤ Q8 := Nat.le_trans BD0.out.size hQA8
            have h9 : u1.heap.size ≤ Q9 := Nat.le_trans BD0.out.size hQA9
            clear RS RT
            go_wp2_with fail
            go_meet
            exact ⟨Q8, Q9, v0, v1, v2, vA, vn, vc, v4, v5, v6, v7, tA, tn, tc, tB, tm, td, f2, o2, rfl, rfl, rfl, pb8, pb9, h8, h9, hbb, hrb, hlb⟩
          · rw [if_pos (by simp [Region.wanted])]
            go_simp
            have al := heap_alloc_new v1x (.cells #[.slice none 0 0, .slice none 0 0, .int .i64 0, .bool false] 33)
            have R4 := R1.alloc (.cells #[.slice none 0 0, .slice none 0 0, .int .i64 0, .bool false] 33)
            obtain ⟨Q9, hQ⟩ : ∃ Q, Q = v1x.heap.size := ⟨_, rfl⟩
            have hQA9 : wd.heap.size ≤ Q9 := by rw [hQ]; exact R1.dsk.bel.size
            rw [← hQ] at al R4  ⊢
            clear hQ
            have p94 := al
            clear al
            generalize v1x.alloc (.cells #[.slice none 0 0, .slice none 0 0, .int .i64 0, .bool false] 33) = v4x at *
            have G7 := HGD.out.low' R4.dsk.bel
            refine hK.out _ _ ⟨G7.lit (lp := .pointer (some ⟨k, 0, none⟩)) rfl, (G7.held N _ HZ.out).1⟩ (fun hHeld => ?_)
            clear hK K
            clear G7
            refine wpAnyH_ready (rs := [15]) (by kernel_rfl) (by simp) ?_
            refine (AllReadyH.cons (o := ⟨some 6, _, _, _, _, _⟩) rfl (fun K hK => ?_) AllReadyH.nil)
            rw [if_pos (by simp [Region.wanted])]
            go_simp
            have al := heap_alloc_new v4x (.cells #[.int .i64 0, .int .i64 0, .int .u64 0, .slice none 0 0, .int .i64 0, .int .u64 0, .int .u64 0, .bool false] 39)
            have R5 := R4.alloc (.cells #[.int .i64 0, .int .i64 0, .int .u64 0, .slice none 0 0, .int .i64 0, .int .u64 0, .int .u64 0, .bool false] 39)
            have p95 : (v4x.alloc (.cells #[.int .i64 0, .int .i64 0, .int .u64 0, .slice none 0 0, .int .i64 0, .int .u64 0, .int .u64 0, .bool false] 39)).heap[Q9]? = _ := (Below.heap_alloc _ _ _ (Sm.lt_of p94)).trans p94
            have nq5 : v4x.heap.size ≠ Q9 := by have := Sm.lt_of p94; omega
            obtain ⟨Q8, hQ⟩ : ∃ Q, Q = v4x.heap.size := ⟨_, rfl⟩
            have hQA8 : wd.heap.size ≤ Q8 := by rw [hQ]; exact R4.dsk.bel.size
            rw [← hQ] at al R5 nq5 ⊢
            clear hQ
            have p85 := al
            clear al
            generalize v4x.alloc (.cells #[.int .i64 0, .int .i64 0, .int .u64 0, .slice none 0 0, .int .i64 0, .int .u64 0, .int .u64 0, .bool false] 39) = v5x at *
            have G7 := HGD.out.low' R5.dsk.bel
            refine hK.out _ _ ⟨G7.lit (lp := .pointer (some ⟨k, 0, none⟩)) rfl, (G7.held N _ HZ.out).1⟩ (fun hHeld => ?_)
            clear hK K
            clear G7
            have n89 : Q8 ≠ Q9 := nq5
            refine wpAnyH_ready (rs := [17]) (by kernel_rfl) (by simp) ?_
            refine (AllReadyH.cons (o := ⟨none, _, _, _, _, _⟩) rfl (fun K hK => ?_) AllReadyH.nil)
            have z0 := Sm.cells_of p85 0 _ rfl; have z1 := Sm.cells_of p85 1 _ rfl; have z2 := Sm.cells_of p85 2 _ rfl; have z3 := Sm.cells_of p85 3 _ rfl; have z4 := Sm.cells_of p85 4 _ rfl; have z5 := Sm.cells_of p85 5 _ rfl; have z6 := Sm.cells_of p85 6 _ rfl; have z7 := Sm.cells_of p85 7 _ rfl
            have zf0 := Sm.free_of p85 0; have zf1 := Sm.free_of p85 1; have zf2 := Sm.free_of p85 2; have zf3 := Sm.free_of p85 3; have zf4 := Sm.free_of p85 4; have zf5 := Sm.free_of p85 5; have zf6 := Sm.free_of p85 6; have zf7 := Sm.free_of p85 7
            go_simp
            have RS := R5.set (Lg.turned8 v5x Q8 (.int .i64 v0) (.int .i64 v1) (.int .u64 v2) (.slice vA vn vc) (.int .i64 v4) (.int .u64 v5) (.int .u64 v6) (.bool v7)) hQA8 (by simp)
            have pa8 := Lg.set8 p85 rfl (.int .i64 v0) (.int .i64 v1) (.int .u64 v2) (.slice vA vn vc) (.int .i64 v4) (.int .u64 v5) (.int .u64 v6) (.bool v7)
            have pa9 := (Lg.set8_other v5x Q8 (.int .i64 v0) (.int .i64 v1) (.int .u64 v2) (.slice vA vn vc) (.int .i64 v4) (.int .u64 v5) (.int .u64 v6) (.bool v7) Q9 n89.symm).trans p95
            clear z0 z1 z2 z3 z4 z5 z6 z7 zf0 zf1 zf2 zf3 zf4 zf5 zf6 zf7
            generalize ((((((((v5x.setCell ⟨Q8, 0, none⟩ (.int .i64 v0)).setCell ⟨Q8, 1, none⟩ (.int .i64 v1)).setCell ⟨Q8, 2, none⟩ (.int .u64 v2)).setCell ⟨Q8, 3, none⟩ (.slice vA vn vc)).setCell ⟨Q8, 4, none⟩ (.int .i64 v4)).setCell ⟨Q8, 5, none⟩ (.int .u64 v5)).setCell ⟨Q8, 6, none⟩ (.int .u64 v6)).setCell ⟨Q8, 7, none⟩ (.bool v7)) = ua at *
            have G7 := HGD.out.low' RS.dsk.bel
            refine hK.out _ _ ⟨G7.lit (lp := .pointer (some ⟨k, 0, none⟩)) rfl, (G7.held N _ HZ.out).1⟩ (fun hHeld => ?_)
            clear hK K
            clear G7
            refine wpAnyH_ready (rs := [18]) (by kernel_rfl) (by simp) ?_
            refine (AllReadyH.cons (o := ⟨none, _, _, _, _, _⟩) rfl (fun K hK => ?_) AllReadyH.nil)
            have z0 := Sm.cells_of pa9 0 _ rfl; have z1 := Sm.cells_of pa9 1 _ rfl; have z2 := Sm.cells_of pa9 2 _ rfl; have z3 := Sm.cells_of pa9 3 _ rfl
            have zf0 := Sm.free_of pa9 0; have zf1 := Sm.free_of pa9 1; have zf2 := Sm.free_of pa9 2; have zf3 := Sm.free_of pa9 3
            go_simp
            have RT := RS.set (Lg.turned4 ua Q9 (.slice tA tn tc) (.slice tB tm td) (.int .i64 f2) (.bool o2)) hQA9 (by simp)
            have pb9 := Dk.set4 pa9 rfl (.slice tA tn tc) (.slice tB tm td) (.int .i64 f2) (.bool o2)
            have pb8 := (Dk.set4_other ua Q9 (.slice tA tn tc) (.slice tB tm td) (.int .i64 f2) (.bool o2) Q8 n89).trans pa8
            clear z0 z1 z2 z3 zf0 zf1 zf2 zf3
            generalize ((((ua.setCell ⟨Q9, 0, none⟩ (.slice tA tn tc)).setCell ⟨Q9, 1, none⟩ (.slice tB tm td)).setCell ⟨Q9, 2, none⟩ (.int .i64 f2)).setCell ⟨Q9, 3, none⟩ (.bool o2)) = ub at *
            have G7 := HGD.out.low' RT.dsk.bel
            refine hK.out _ _ ⟨G7.lit (lp := .pointer (some ⟨k, 0, none⟩)) rfl, (G7.held N _ HZ.out).1⟩ (fun hHeld => ?_)
            clear hK K
            clear G7
            refine wpAnyH_take (i := 19) (oi := ⟨some 8, _, _, _, _, _⟩) (v := .int .i64 er) rfl (by kernel_rfl) (by kernel_rfl) (by kernel_rfl) (fun _ _ _ h => h) (Or.inl ⟨by rfl, ?_⟩) (by assumption) ?_
            · intro w hSw; (try dsimp only at hSw); go_simp
            simp only [Act.put, List.setIfInBounds_toArray, List.set_cons_zero, List.set_cons_succ]
            refine wpAnyH_done (by kernel_rfl) ?_ _
            clear hHeld
            have hrb : Dk.RefAt ub (fun q => fp1 q ∨ q = X ∨ bl1 q) (.agg #[.slice tA tn tc, .slice tB tm td, .int .i64 f2, .bool o2]) M1 := RT.dsk.ref.off fun q _ e => .inl (.inl e)
            have hlb : Lg.RefAt ub (fun q => fp1 q ∨ q = X ∨ bl1 q) a nn (.agg #[.int .i64 v0, .int .i64 v1, .int .u64 v2, .slice vA vn vc, .int .i64 v4, .int .u64 v5, .int .u64 v6, .bool v7]) L1 := RT.log.off fun q e => .inl (.inl e)
            have hbb : Below u1.heap.size u1 ub := BD0.out.trans (RT.dsk.bel.mono BD0.out.size)
            have h8 : u1.heap.size ≤ Q8 := Nat.le_trans BD0.out.size hQA8
            have h9 : u1.heap.size ≤ Q9 := Nat.le_trans BD0.out.size hQA9
            clear RS RT
            go_wp2_with fail
            go_meet
            exact ⟨Q8, Q9, v0, v1, v2, vA, vn, vc, v4, v5, v6, v7, tA, tn, tc, tB, tm, td, f2, o2, rfl, rfl, rfl, pb8, pb9, h8, h9, hbb, hrb, hlb⟩
        · rw [if_pos (by simp [Region.wanted])]
          go_simp
          have al := heap_alloc_new wd (.cells #[.int .i64 0, .int .i64 0, .int .u64 0, .slice none 0 0, .int .i64 0, .int .u64 0, .int .u64 0, .bool false] 39)
          have R6 := R0.alloc (.cells #[.int .i64 0, .int .i64 0, .int .u64 0, .slice none 0 0, .int .i64 0, .int .u64 0, .int .u64 0, .bool false] 39)
          obtain ⟨Q8, hQ⟩ : ∃ Q, Q = wd.heap.size := ⟨_, rfl⟩
          have hQA8 : wd.heap.size ≤ Q8 := by rw [hQ]; exact R0.dsk.bel.size
          rw [← hQ] at al R6  ⊢
          clear hQ
          have p86 := al
          clear al
          generalize wd.alloc (.cells #[.int .i64 0, .int .i64 0, .int .u64 0, .slice none 0 0, .int .i64 0, .int .u64 0, .int .u64 0, .bool false] 39) = v6x at *
          have G7 := HGD.out.low' R6.dsk.bel
          refine hK.out _ _ ⟨G7.lit (lp := .pointer (some ⟨k, 0, none⟩)) rfl, (G7.held N _ HZ.out).1⟩ (fun hHeld => ?_)
          clear hK K
          clear G7
          refine wpAnyH_ready (rs := [10, 16]) (by kernel_rfl) (by simp) ?_
          refine (AllReadyH.cons (o := ⟨some 41, _, _, _, _, _⟩) rfl (fun K hK => ?_) (AllReadyH.cons (o := ⟨some 7, _, _, _, _, _⟩) rfl (fun K hK => ?_) AllReadyH.nil))
          · go_simp
            refine (RA.out _ _ R6.dsk.ref R6.log R6.dsk.lt).mono ?_
            rintro e v7x ⟨v0, v1, v2, vA, vn, vc, v4, v5, v6, v7, vn, rfl, hlog, href, k1⟩
            obtain ⟨tA, tn, tc, tB, tm, td, f2, o2, rfl⟩ := Lg.quad href
            have R7 := R6.call href hlog k1
            have p87 := (k1.block Q8 (Sm.lt_of p86)).trans p86
            clear href hlog k1
            have G7 := HGD.out.low' R7.dsk.bel
            refine hK.out _ _ ⟨G7.lit (lp := .pointer (some ⟨k, 0, none⟩)) rfl, (G7.held N _ HZ.out).1⟩ (fun hHeld => ?_)
            clear hK K
            clear G7
            refine wpAnyH_take (i := 11) (oi := ⟨some 30, _, _, _, _, _⟩) (v := .tuple #[.agg #[.int .i64 v0, .int .i64 v1, .int .u64 v2, .slice vA vn vc, .int .i64 v4, .int .u64 v5, .int .u64 v6, .bool v7], .agg #[.slice tA tn tc, .slice tB tm td, .int .i64 f2, .bool o2], .int .i64 er]) rfl (by kernel_rfl) (by kernel_rfl) (by kernel_rfl) (fun _ _ _ h => h) (Or.inl ⟨by rfl, ?_⟩) (by assumption) ?_
            · intro w hSw; (try dsimp only at hSw); go_simp
            simp only [Act.put, List.setIfInBounds_toArray, List.set_cons_zero, List.set_cons_succ]
            refine wpAnyH_take (i := 12) (oi := ⟨some 42, _, _, _, _, _⟩) (v := .agg #[.int .i64 v0, .int .i64 v1, .int .u64 v2, .slice vA vn vc, .int .i64 v4, .int .u64 v5, .int .u64 v6, .bool v7]) rfl (by kernel_rfl) (by kernel_rfl) (by kernel_rfl) (fun _ _ _ h => h) (Or.inl ⟨by rfl, ?_⟩) (by assumption) ?_
            · intro w hSw; (try dsimp only at hSw); go_simp
            simp only [Act.put, List.setIfInBounds_toArray, List.set_cons_zero, List.set_cons_succ]
            refine wpAnyH_take (i := 13) (oi := ⟨some 43, _, _, _, _, _⟩) (v := .agg #[.slice tA tn tc, .slice tB tm td, .int .i64 f2, .bool o2]) rfl (by kernel_rfl) (by kernel_rfl) (by kernel_rfl) (fun _ _ _ h => h) (Or.inl ⟨by rfl, ?_⟩) (by assumption) ?_
            · intro w hSw; (try dsimp only at hSw); go_simp
            simp only [Act.put, List.setIfInBounds_toArray, List.set_cons_zero, List.set_cons_succ]
            refine wpAnyH_take (i := 14) (oi := ⟨some 44, _, _, _, _, _⟩) (v := .int .i64 er) rfl (by kernel_rfl) (by kernel_rfl) (by kernel_rfl) (fun _ _ _ h => h) (Or.inl ⟨by rfl, ?_⟩) (by assumption) ?_
            · intro w hSw; (try dsimp only at hSw); go_simp
            simp only [Act.put, List.setIfInBounds_toArray, List.set_cons_zero, List.set_cons_succ]
            refine wpAnyH_ready (rs := [16]) (by kernel_rfl) (by simp) ?_
            refine (AllReadyH.cons (o := ⟨some 7, _, _, _, _, _⟩) rfl (fun K hK => ?_) AllReadyH.nil)
            rw [if_pos (by simp [Region.wanted])]
            go_simp
            have al := heap_alloc_new v7x (.cells #[.slice none 0 0, .slice none 0 0, .int .i64 0, .bool false] 33)
            have R8 := R7.alloc (.cells #[.slice none 0 0, .slice none 0 0, .int .i64 0, .bool false] 33)
            have p88 : (v7x.alloc (.cells #[.slice none 0 0, .slice none 0 0, .int .i64 0, .bool false] 33)).heap[Q8]? = _ := (Below.heap_alloc _ _ _ (Sm.lt_of p87)).trans p87
            have nq8 : v7x.heap.size ≠ Q8 := by have := Sm.lt_of p87; omega
            obtain ⟨Q9, hQ⟩ : ∃ Q, Q = v7x.heap.size := ⟨_, rfl⟩
            have hQA9 : wd.heap.size ≤ Q9 := by rw [hQ]; exact R7.dsk.bel.size
            rw [← hQ] at al R8 nq8 ⊢
            clear hQ
            have p98 := al
            clear al
            generalize v7x.alloc (.cells #[.slice none 0 0, .slice none 0 0, .int .i64 0, .bool false] 33) = v8x at *
            have G7 := HGD.out.low' R8.dsk.bel
            refine hK.out _ _ ⟨G7.lit (lp := .pointer (some ⟨k, 0, none⟩)) rfl, (G7.held N _ HZ.out).1⟩ (fun hHeld => ?_)
            clear hK K
            clear G7
            have n89 : Q8 ≠ Q9 := nq8.symm
            refine wpAnyH_ready (rs := [17]) (by kernel_rfl) (by simp) ?_
            refine (AllReadyH.cons (o := ⟨none, _, _, _, _, _⟩) rfl (fun K hK => ?_) AllReadyH.nil)
            have z0 := Sm.cells_of p88 0 _ rfl; have z1 := Sm.cells_of p88 1 _ rfl; have z2 := Sm.cells_of p88 2 _ rfl; have z3 := Sm.cells_of p88 3 _ rfl; have z4 := Sm.cells_of p88 4 _ rfl; have z5 := Sm.cells_of p88 5 _ rfl; have z6 := Sm.cells_of p88 6 _ rfl; have z7 := Sm.cells_of p88 7 _ rfl
            have zf0 := Sm.free_of p88 0; have zf1 := Sm.free_of p88 1; have zf2 := Sm.free_of p88 2; have zf3 := Sm.free_of p88 3; have zf4 := Sm.free_of p88 4; have zf5 := Sm.free_of p88 5; have zf6 := Sm.free_of p88 6; have zf7 := Sm.free_of p88 7
            go_simp
            have RS := R8.set (Lg.turned8 v8x Q8 (.int .i64 v0) (.int .i64 v1) (.int .u64 v2) (.slice vA vn vc) (.int .i64 v4) (.int .u64 v5) (.int .u64 v6) (.bool v7)) hQA8 (by simp)
            have pa8 := Lg.set8 p88 rfl (.int .i64 v0) (.int .i64 v1) (.int .u64 v2) (.slice vA vn vc) (.int .i64 v4) (.int .u64 v5) (.int .u64 v6) (.bool v7)
            have pa9 := (Lg.set8_other v8x Q8 (.int .i64 v0) (.int .i64 v1) (.int .u64 v2) (.slice vA vn vc) (.int .i64 v4) (.int .u64 v5) (.int .u64 v6) (.bool v7) Q9 n89.symm).trans p98
            clear z0 z1 z2 z3 z4 z5 z6 z7 zf0 zf1 zf2 zf3 zf4 zf5 zf6 zf7
            generalize ((((((((v8x.setCell ⟨Q8, 0, none⟩ (.int .i64 v0)).setCell ⟨Q8, 1, none⟩ (.int .i64 v1)).setCell ⟨Q8, 2, none⟩ (.int .u64 v2)).setCell ⟨Q8, 3, none⟩ (.slice vA vn vc)).setCell ⟨Q8, 4, none⟩ (.int .i64 v4)).setCell ⟨Q8, 5, none⟩ (.int .u64 v5)).setCell ⟨Q8, 6, none⟩ (.int .u64 v6)).setCell ⟨Q8, 7, none⟩ (.bool v7)) = ua at *
            have G7 := HGD.out.low' RS.dsk.bel
            refine hK.out _ _ ⟨G7.lit (lp := .pointer (some ⟨k, 0, none⟩)) rfl, (G7.held N _ HZ.out).1⟩ (fun hHeld => ?_)
            clear hK K
            clear G7
            refine wpAnyH_ready (rs := [18]) (by kernel_rfl) (by simp) ?_
            refine (AllReadyH.cons (o := ⟨none, _, _, _, _, _⟩) rfl (fun K hK => ?_) AllReadyH.nil)
            have z0 := Sm.cells_of pa9 0 _ rfl; have z1 := Sm.cells_of pa9 1 _ rfl; have z2 := Sm.cells_of pa9 2 _ rfl; have z3 := Sm.cells_of pa9 3 _ rfl
            have zf0 := Sm.free_of pa9 0; have zf1 := Sm.free_of pa9 1; have zf2 := Sm.free_of pa9 2; have zf3 := Sm.free_of pa9 3
            go_simp
            have RT := RS.set (Lg.turned4 ua Q9 (.slice tA tn tc) (.slice tB tm td) (.int .i64 f2) (.bool o2)) hQA9 (by simp)
            have pb9 := Dk.set4 pa9 rfl (.slice tA tn tc) (.slice tB tm td) (.int .i64 f2) (.bool o2)
            have pb8 := (Dk.set4_other ua Q9 (.slice tA tn tc) (.slice tB tm td) (.int .i64 f2) (.bool o2) Q8 n89).trans pa8
            clear z0 z1 z2 z3 zf0 zf1 zf2 zf3
            generalize ((((ua.setCell ⟨Q9, 0, none⟩ (.slice tA tn tc)).setCell ⟨Q9, 1, none⟩ (.slice tB tm td)).setCell ⟨Q9, 2, none⟩ (.int .i64 f2)).setCell ⟨Q9, 3, none⟩ (.bool o2)) = ub at *
            have G7 := HGD.out.low' RT.dsk.bel
            refine hK.out _ _ ⟨G7.lit (lp := .pointer (some ⟨k, 0, none⟩)) rfl, (G7.held N _ HZ.out).1⟩ (fun hHeld => ?_)
            clear hK K
            clear G7
            refine wpAnyH_take (i := 19) (oi := ⟨some 8, _, _, _, _, _⟩) (v := .int .i64 er) rfl (by kernel_rfl) (by kernel_rfl) (by kernel_rfl) (fun _ _ _ h => h) (Or.inl ⟨by rfl, ?_⟩) (by assumption) ?_
            · intro w hSw; (try dsimp only at hSw); go_simp
            simp only [Act.put, List.setIfInBounds_toArray, List.set_cons_zero, List.set_cons_succ]
            refine wpAnyH_done (by kernel_rfl) ?_ _
            clear hHeld
            have hrb : Dk.RefAt ub (fun q => fp1 q ∨ q = X ∨ bl1 q) (.agg #[.slice tA tn tc, .slice tB tm td, .int .i64 f2, .bool o2]) M1 := RT.dsk.ref.off fun q _ e => .inl (.inl e)
            have hlb : Lg.RefAt ub (fun q => fp1 q ∨ q = X ∨ bl1 q) a nn (.agg #[.int .i64 v0, .int .i64 v1, .int .u64 v2, .slice vA vn vc, .int .i64 v4, .int .u64 v5, .int .u64 v6, .bool v7]) L1 := RT.log.off fun q e => .inl (.inl e)
            have hbb : Below u1.heap.size u1 ub := BD0.out.trans (RT.dsk.bel.mono BD0.out.size)
            have h8 : u1.heap.size ≤ Q8 := Nat.le_trans BD0.out.size hQA8
            have h9 : u1.heap.size ≤ Q9 := Nat.le_trans BD0.out.size hQA9
            clear RS RT
            go_wp2_with fail
            go_meet
            exact ⟨Q8, Q9, v0, v1, v2, vA, vn, vc, v4, v5, v6, v7, tA, tn, tc, tB, tm, td, f2, o2, rfl, rfl, rfl, pb8, pb9, h8, h9, hbb, hrb, hlb⟩
          · rw [if_pos (by simp [Region.wanted])]
            go_simp
            have al := heap_alloc_new v6x (.cells #[.slice none 0 0, .slice none 0 0, .int .i64 0, .bool false] 33)
            have R9 := R6.alloc (.cells #[.slice none 0 0, .slice none 0 0, .int .i64 0, .bool false] 33)
            have p89 : (v6x.alloc (.cells #[.slice none 0 0, .slice none 0 0, .int .i64 0, .bool false] 33)).heap[Q8]? = _ := (Below.heap_alloc _ _ _ (Sm.lt_of p86)).trans p86
            have nq9 : v6x.heap.size ≠ Q8 := by have := Sm.lt_of p86; omega
            obtain ⟨Q9, hQ⟩ : ∃ Q, Q = v6x.heap.size := ⟨_, rfl⟩
            have hQA9 : wd.heap.size ≤ Q9 := by rw [hQ]; exact R6.dsk.bel.size
            rw [← hQ] at al R9 nq9 ⊢
            clear hQ
            have p99 := al
            clear al
            generalize v6x.alloc (.cells #[.slice none 0 0, .slice none 0 0, .int .i64 0, .bool false] 33) = v9x at *
            have G7 := HGD.out.low' R9.dsk.bel
            refine hK.out _ _ ⟨G7.lit (lp := .pointer (some ⟨k, 0, none⟩)) rfl, (G7.held N _ HZ.out).1⟩ (fun hHeld => ?_)
            clear hK K
            clear G7
            refine wpAnyH_ready (rs := [10]) (by kernel_rfl) (by simp) ?_
            refine (AllReadyH.cons (o := ⟨some 41, _, _, _, _, _⟩) rfl (fun K hK => ?_) AllReadyH.nil)
            go_simp
            refine (RA.out _ _ R9.dsk.ref R9.log R9.dsk.lt).mono ?_
            rintro e v10x ⟨v0, v1, v2, vA, vn, vc, v4, v5, v6, v7, vn, rfl, hlog, href, k1⟩
            obtain ⟨tA, tn, tc, tB, tm, td, f2, o2, rfl⟩ := Lg.quad href
            have R10 := R9.call href hlog k1
            have p810 := (k1.block Q8 (Sm.lt_of p89)).trans p89
            have p910 := (k1.block Q9 (Sm.lt_of p99)).trans p99
            clear href hlog k1
            have G7 := HGD.out.low' R10.dsk.bel
            refine hK.out _ _ ⟨G7.lit (lp := .pointer (some ⟨k, 0, none⟩)) rfl, (G7.held N _ HZ.out).1⟩ (fun hHeld => ?_)
            clear hK K
            clear G7
            refine wpAnyH_take (i := 11) (oi := ⟨some 30, _, _, _, _, _⟩) (v := .tuple #[.agg #[.int .i64 v0, .int .i64 v1, .int .u64 v2, .slice vA vn vc, .int .i64 v4, .int .u64 v5, .int .u64 v6, .bool v7], .agg #[.slice tA tn tc, .slice tB tm td, .int .i64 f2, .bool o2], .int .i64 er]) rfl (by kernel_rfl) (by kernel_rfl) (by kernel_rfl) (fun _ _ _ h => h) (Or.inl ⟨by rfl, ?_⟩) (by assumption) ?_
            · intro w hSw; (try dsimp only at hSw); go_simp
            simp only [Act.put, List.setIfInBounds_toArray, List.set_cons_zero, List.set_cons_succ]
            refine wpAnyH_take (i := 12) (oi := ⟨some 42, _, _, _, _, _⟩) (v := .agg #[.int .i64 v0, .int .i64 v1, .int .u64 v2, .slice vA vn vc, .int .i64 v4, .int .u64 v5, .int .u64 v6, .bool v7]) rfl (by kernel_rfl) (by kernel_rfl) (by kernel_rfl) (fun _ _ _ h => h) (Or.inl ⟨by rfl, ?_⟩) (by assumption) ?_
            · intro w hSw; (try dsimp only at hSw); go_simp
            simp only [Act.put, List.setIfInBounds_toArray, List.set_cons_zero, List.set_cons_succ]
            refine wpAnyH_take (i := 13) (oi := ⟨some 43, _, _, _, _, _⟩) (v := .agg #[.slice tA tn tc, .slice tB tm td, .int .i64 f2, .bool o2]) rfl (by kernel_rfl) (by kernel_rfl) (by kernel_rfl) (fun _ _ _ h => h) (Or.inl ⟨by rfl, ?_⟩) (by assumption) ?_
            · intro w hSw; (try dsimp only at hSw); go_simp
            simp only [Act.put, List.setIfInBounds_toArray, List.set_cons_zero, List.set_cons_succ]
            refine wpAnyH_take (i := 14) (oi := ⟨some 44, _, _, _, _, _⟩) (v := .int .i64 er) rfl (by kernel_rfl) (by kernel_rfl) (by kernel_rfl) (fun _ _ _ h => h) (Or.inl ⟨by rfl, ?_⟩) (by assumption) ?_
            · intro w hSw; (try dsimp only at hSw); go_simp
            simp only [Act.put, List.setIfInBounds_toArray, List.set_cons_zero, List.set_cons_succ]
            have n89 : Q8 ≠ Q9 := nq9.symm
            refine wpAnyH_ready (rs := [17]) (by kernel_rfl) (by simp) ?_
            refine (AllReadyH.cons (o := ⟨none, _, _, _, _, _⟩) rfl (fun K hK => ?_) AllReadyH.nil)
            have z0 := Sm.cells_of p810 0 _ rfl; have z1 := Sm.cells_of p810 1 _ rfl; have z2 := Sm.cells_of p810 2 _ rfl; have z3 := Sm.cells_of p810 3 _ rfl; have z4 := Sm.cells_of p810 4 _ rfl; have z5 := Sm.cells_of p810 5 _ rfl; have z6 := Sm.cells_of p810 6 _ rfl; have z7 := Sm.cells_of p810 7 _ rfl
            have zf0 := Sm.free_of p810 0; have zf1 := Sm.free_of p810 1; have zf2 := Sm.free_of p810 2; have zf3 := Sm.free_of p810 3; have zf4 := Sm.free_of p810 4; have zf5 := Sm.free_of p810 5; have zf6 := Sm.free_of p810 6; have zf7 := Sm.free_of p810 7
            go_simp
            have RS := R10.set (Lg.turned8 v10x Q8 (.int .i64 v0) (.int .i64 v1) (.int .u64 v2) (.slice vA vn vc) (.int .i64 v4) (.int .u64 v5) (.int .u64 v6) (.bool v7)) hQA8 (by simp)
            have pa8 := Lg.set8 p810 rfl (.int .i64 v0) (.int .i64 v1) (.int .u64 v2) (.slice vA vn vc) (.int .i64 v4) (.int .u64 v5) (.int .u64 v6) (.bool v7)
            have pa9 := (Lg.set8_other v10x Q8 (.int .i64 v0) (.int .i64 v1) (.int .u64 v2) (.slice vA vn vc) (.int .i64 v4) (.int .u64 v5) (.int .u64 v6) (.bool v7) Q9 n89.symm).trans p910
            clear z0 z1 z2 z3 z4 z5 z6 z7 zf0 zf1 zf2 zf3 zf4 zf5 zf6 zf7
            generalize ((((((((v10x.setCell ⟨Q8, 0, none⟩ (.int .i64 v0)).setCell ⟨Q8, 1, none⟩ (.int .i64 v1)).setCell ⟨Q8, 2, none⟩ (.int .u64 v2)).setCell ⟨Q8, 3, none⟩ (.slice vA vn vc)).setCell ⟨Q8, 4, none⟩ (.int .i64 v4)).setCell ⟨Q8, 5, none⟩ (.int .u64 v5)).setCell ⟨Q8, 6, none⟩ (.int .u64 v6)).setCell ⟨Q8, 7, none⟩ (.bool v7)) = ua at *
            have G7 := HGD.out.low' RS.dsk.bel
            refine hK.out _ _ ⟨G7.lit (lp := .pointer (some ⟨k, 0, none⟩)) rfl, (G7.held N _ HZ.out).1⟩ (fun hHeld => ?_)
            clear hK K
            clear G7
            refine wpAnyH_ready (rs := [18]) (by kernel_rfl) (by simp) ?_
            refine (AllReadyH.cons (o := ⟨none, _, _, _, _, _⟩) rfl (fun K hK => ?_) AllReadyH.nil)
            have z0 := Sm.cells_of pa9 0 _ rfl; have z1 := Sm.cells_of pa9 1 _ rfl; have z2 := Sm.cells_of pa9 2 _ rfl; have z3 := Sm.cells_of pa9 3 _ rfl
            have zf0 := Sm.free_of pa9 0; have zf1 := Sm.free_of pa9 1; have zf2 := Sm.free_of pa9 2; have zf3 := Sm.free_of pa9 3
            go_simp
            have RT := RS.set (Lg.turned4 ua Q9 (.slice tA tn tc) (.slice tB tm td) (.int .i64 f2) (.bool o2)) hQA9 (by simp)
            have pb9 := Dk.set4 pa9 rfl (.slice tA tn tc) (.slice tB tm td) (.int .i64 f2) (.bool o2)
            have pb8 := (Dk.set4_other ua Q9 (.slice tA tn tc) (.slice tB tm td) (.int .i64 f2) (.bool o2) Q8 n89).trans pa8
            clear z0 z1 z2 z3 zf0 zf1 zf2 zf3
            generalize ((((ua.setCell ⟨Q9, 0, none⟩ (.slice tA tn tc)).setCell ⟨Q9, 1, none⟩ (.slice tB tm td)).setCell ⟨Q9, 2, none⟩ (.int .i64 f2)).setCell ⟨Q9, 3, none⟩ (.bool o2)) = ub at *
            have G7 := HGD.out.low' RT.dsk.bel
            refine hK.out _ _ ⟨G7.lit (lp := .pointer (some ⟨k, 0, none⟩)) rfl, (G7.held N _ HZ.out).1⟩ (fun hHeld => ?_)
            clear hK K
            clear G7
            refine wpAnyH_take (i := 19) (oi := ⟨some 8, _, _, _, _, _⟩) (v := .int .i64 er) rfl (by kernel_rfl) (by kernel_rfl) (by kernel_rfl) (fun _ _ _ h => h) (Or.inl ⟨by rfl, ?_⟩) (by assumption) ?_
            · intro w hSw; (try dsimp only at hSw); go_simp
            simp only [Act.put, List.setIfInBounds_toArray, List.set_cons_zero, List.set_cons_succ]
            refine wpAnyH_done (by kernel_rfl) ?_ _
            clear hHeld
            have hrb : Dk.RefAt ub (fun q => fp1 q ∨ q = X ∨ bl1 q) (.agg #[.slice tA tn tc, .slice tB tm td, .int .i64 f2, .bool o2]) M1 := RT.dsk.ref.off fun q _ e => .inl (.inl e)
            have hlb : Lg.RefAt ub (fun q => fp1 q ∨ q = X ∨ bl1 q) a nn (.agg #[.int .i64 v0, .int .i64 v1, .int .u64 v2, .slice vA vn vc, .int .i64 v4, .int .u64 v5, .int .u64 v6, .bool v7]) L1 := RT.log.off fun q e => .inl (.inl e)
            have hbb : Below u1.heap.size u1 ub := BD0.out.trans (RT.dsk.bel.mono BD0.out.size)
            have h8 : u1.heap.size ≤ Q8 := Nat.le_trans BD0.out.size hQA8
            have h9 : u1.heap.size ≤ Q9 := Nat.le_trans BD0.out.size hQA9
            clear RS RT
            go_wp2_with fail
            go_meet
            exact ⟨Q8, Q9, v0, v1, v2, vA, vn, vc, v4, v5, v6, v7, tA, tn, tc, tB, tm, td, f2, o2, rfl, rfl, rfl, pb8, pb9, h8, h9, hbb, hrb, hlb⟩
        · rw [if_pos (by simp [Region.wanted])]
          go_simp
          have al := heap_alloc_new wd (.cells #[.slice none 0 0, .slice none 0 0, .int .i64 0, .bool false] 33)
          have R11 := R0.alloc (.cells #[.slice none 0 0, .slice none 0 0, .int .i64 0, .bool false] 33)
          obtain ⟨Q9, hQ⟩ : ∃ Q, Q = wd.heap.size := ⟨_, rfl⟩
          have hQA9 : wd.heap.size ≤ Q9 := by rw [hQ]; exact R0.dsk.bel.size
          rw [← hQ] at al R11  ⊢
          clear hQ
          have p911 := al
          clear al
          generalize wd.alloc (.cells #[.slice none 0 0, .slice none 0 0, .int .i64 0, .bool false] 33) = v11x at *
          have G7 := HGD.out.low' R11.dsk.bel
          refine hK.out _ _ ⟨G7.lit (lp := .pointer (some ⟨k, 0, none⟩)) rfl, (G7.held N _ HZ.out).1⟩ (fun hHeld => ?_)
          clear hK K
          clear G7
          refine wpAnyH_ready (rs := [10, 15]) (by kernel_rfl) (by simp) ?_
          refine (AllReadyH.cons (o := ⟨some 41, _, _, _, _, _⟩) rfl (fun K hK => ?_) (AllReadyH.cons (o := ⟨some 6, _, _, _, _, _⟩) rfl (fun K hK => ?_) AllReadyH.nil))
          · go_simp
            refine (RA.out _ _ R11.dsk.ref R11.log R11.dsk.lt).mono ?_
            rintro e v12x ⟨v0, v1, v2, vA, vn, vc, v4, v5, v6, v7, vn, rfl, hlog, href, k1⟩
            obtain ⟨tA, tn, tc, tB, tm, td, f2, o2, rfl⟩ := Lg.quad href
            have R12 := R11.call href hlog k1
            have p912 := (k1.block Q9 (Sm.lt_of p911)).trans p911
            clear href hlog k1
            have G7 := HGD.out.low' R12.dsk.bel
            refine hK.out _ _ ⟨G7.lit (lp := .pointer (some ⟨k, 0, none⟩)) rfl, (G7.held N _ HZ.out).1⟩ (fun hHeld => ?_)
            clear hK K
            clear G7
            refine wpAnyH_take (i := 11) (oi := ⟨some 30, _, _, _, _, _⟩) (v := .tuple #[.agg #[.int .i64 v0, .int .i64 v1, .int .u64 v2, .slice vA vn vc, .int .i64 v4, .int .u64 v5, .int .u64 v6, .bool v7], .agg #[.slice tA tn tc, .slice tB tm td, .int .i64 f2, .bool o2], .int .i64 er]) rfl (by kernel_rfl) (by kernel_rfl) (by kernel_rfl) (fun _ _ _ h => h) (Or.inl ⟨by rfl, ?_⟩) (by assumption) ?_
            · intro w hSw; (try dsimp only at hSw); go_simp
            simp only [Act.put, List.setIfInBounds_toArray, List.set_cons_zero, List.set_cons_succ]
            refine wpAnyH_take (i := 12) (oi := ⟨some 42, _, _, _, _, _⟩) (v := .agg #[.int .i64 v0, .int .i64 v1, .int .u64 v2, .slice vA vn vc, .int .i64 v4, .int .u64 v5, .int .u64 v6, .bool v7]) rfl (by kernel_rfl) (by kernel_rfl) (by kernel_rfl) (fun _ _ _ h => h) (Or.inl ⟨by rfl, ?_⟩) (by assumption) ?_
            · intro w hSw; (try dsimp only at hSw); go_simp
            simp only [Act.put, List.setIfInBounds_toArray, List.set_cons_zero, List.set_cons_succ]
            refine wpAnyH_take (i := 13) (oi := ⟨some 43, _, _, _, _, _⟩) (v := .agg #[.slice tA tn tc, .slice tB tm td, .int .i64 f2, .bool o2]) rfl (by kernel_rfl) (by kernel_rfl) (by kernel_rfl) (fun _ _ _ h => h) (Or.inl ⟨by rfl, ?_⟩) (by assumption) ?_
            · intro w hSw; (try dsimp only at hSw); go_simp
            simp only [Act.put, List.setIfInBounds_toArray, List.set_cons_zero, List.set_cons_succ]
            refine wpAnyH_take (i := 14) (oi := ⟨some 44, _, _, _, _, _⟩) (v := .int .i64 er) rfl (by kernel_rfl) (by kernel_rfl) (by kernel_rfl) (fun _ _ _ h => h) (Or.inl ⟨by rfl, ?_⟩) (by assumption) ?_
            · intro w hSw; (try dsimp only at hSw); go_simp
            simp only [Act.put, List.setIfInBounds_toArray, List.set_cons_zero, List.set_cons_succ]
            refine wpAnyH_ready (rs := [15]) (by kernel_rfl) (by simp) ?_
            refine (AllReadyH.cons (o := ⟨some 6, _, _, _, _, _⟩) rfl (fun K hK => ?_) AllReadyH.nil)
            rw [if_pos (by simp [Region.wanted])]
            go_simp
            have al := heap_alloc_new v12x (.cells #[.int .i64 0, .int .i64 0, .int .u64 0, .slice none 0 0, .int .i64 0, .int .u64 0, .int .u64 0, .bool false] 39)
            have R13 := R12.alloc (.cells #[.int .i64 0, .int .i64 0, .int .u64 0, .slice none 0 0, .int .i64 0, .int .u64 0, .int .u64 0, .bool false] 39)
            have p913 : (v12x.alloc (.cells #[.int .i64 0, .int .i64 0, .int .u64 0, .slice none 0 0, .int .i64 0, .int .u64 0, .int .u64 0, .bool false] 39)).heap[Q9]? = _ := (Below.heap_alloc _ _ _ (Sm.lt_of p912)).trans p912
            have nq13 : v12x.heap.size ≠ Q9 := by have := Sm.lt_of p912; omega
            obtain ⟨Q8, hQ⟩ : ∃ Q, Q = v12x.heap.size := ⟨_, rfl⟩
            have hQA8 : wd.heap.size ≤ Q8 := by rw [hQ]; exact R12.dsk.bel.size
            rw [← hQ] at al R13 nq13 ⊢
            clear hQ
            have p813 := al
            clear al
            generalize v12x.alloc (.cells #[.int .i64 0, .int .i64 0, .int .u64 0, .slice none 0 0, .int .i64 0, .int .u64 0, .int .u64 0, .bool false] 39) = v13x at *
            have G7 := HGD.out.low' R13.dsk.bel
            refine hK.out _ _ ⟨G7.lit (lp := .pointer (some ⟨k, 0, none⟩)) rfl, (G7.held N _ HZ.out).1⟩ (fun hHeld => ?_)
            clear hK K
            clear G7
            have n89 : Q8 ≠ Q9 := nq13
            refine wpAnyH_ready (rs := [17]) (by kernel_rfl) (by simp) ?_
            refine (AllReadyH.cons (o := ⟨none, _, _, _, _, _⟩) rfl (fun K hK => ?_) AllReadyH.nil)
            have z0 := Sm.cells_of p813 0 _ rfl; have z1 := Sm.cells_of p813 1 _ rfl; have z2 := Sm.cells_of p813 2 _ rfl; have z3 := Sm.cells_of p813 3 _ rfl; have z4 := Sm.cells_of p813 4 _ rfl; have z5 := Sm.cells_of p813 5 _ rfl; have z6 := Sm.cells_of p813 6 _ rfl; have z7 := Sm.cells_of p813 7 _ rfl
            have zf0 := Sm.free_of p813 0; have zf1 := Sm.free_of p813 1; have zf2 := Sm.free_of p813 2; have zf3 := Sm.free_of p813 3; have zf4 := Sm.free_of p813 4; have zf5 := Sm.free_of p813 5; have zf6 := Sm.free_of p813 6; have zf7 := Sm.free_of p813 7
            go_simp
            have RS := R13.set (Lg.turned8 v13x Q8 (.int .i64 v0) (.int .i64 v1) (.int .u64 v2) (.slice vA vn vc) (.int .i64 v4) (.int .u64 v5) (.int .u64 v6) (.bool v7)) hQA8 (by simp)
            have pa8 := Lg.set8 p813 rfl (.int .i64 v0) (.int .i64 v1) (.int .u64 v2) (.slice vA vn vc) (.int .i64 v4) (.int .u64 v5) (.int .u64 v6) (.bool v7)
            have pa9 := (Lg.set8_other v13x Q8 (.int .i64 v0) (.int .i64 v1) (.int .u64 v2) (.slice vA vn vc) (.int .i64 v4) (.int .u64 v5) (.int .u64 v6) (.bool v7) Q9 n89.symm).trans p913
            clear z0 z1 z2 z3 z4 z5 z6 z7 zf0 zf1 zf2 zf3 zf4 zf5 zf6 zf7
            generalize ((((((((v13x.setCell ⟨Q8, 0, none⟩ (.int .i64 v0)).setCell ⟨Q8, 1, none⟩ (.int .i64 v1)).setCell ⟨Q8, 2, none⟩ (.int .u64 v2)).setCell ⟨Q8, 3, none⟩ (.slice vA vn vc)).setCell ⟨Q8, 4, none⟩ (.int .i64 v4)).setCell ⟨Q8, 5, none⟩ (.int .u64 v5)).setCell ⟨Q8, 6, none⟩ (.int .u64 v6)).setCell ⟨Q8, 7, none⟩ (.bool v7)) = ua at *
            have G7 := HGD.out.low' RS.dsk.bel
            refine hK.out _ _ ⟨G7.lit (lp := .pointer (some ⟨k, 0, none⟩)) rfl, (G7.held N _ HZ.out).1⟩ (fun hHeld => ?_)
            clear hK K
            clear G7
            refine wpAnyH_ready (rs := [18]) (by kernel_rfl) (by simp) ?_
            refine (AllReadyH.cons (o := ⟨none, _, _, _, _, _⟩) rfl (fun K hK => ?_) AllReadyH.nil)
            have z0 := Sm.cells_of pa9 0 _ rfl; have z1 := Sm.cells_of pa9 1 _ rfl; have z2 := Sm.cells_of pa9 2 _ rfl; have z3 := Sm.cells_of pa9 3 _ rfl
            have zf0 := Sm.free_of pa9 0; have zf1 := Sm.free_of pa9 1; have zf2 := Sm.free_of pa9 2; have zf3 := Sm.free_of pa9 3
            go_simp
            have RT := RS.set (Lg.turned4 ua Q9 (.slice tA tn tc) (.slice tB tm td) (.int .i64 f2) (.bool o2)) hQA9 (by simp)
            have pb9 := Dk.set4 pa9 rfl (.slice tA tn tc) (.slice tB tm td) (.int .i64 f2) (.bool o2)
            have pb8 := (Dk.set4_other ua Q9 (.slice tA tn tc) (.slice tB tm td) (.int .i64 f2) (.bool o2) Q8 n89).trans pa8
            clear z0 z1 z2 z3 zf0 zf1 zf2 zf3
            generalize ((((ua.setCell ⟨Q9, 0, none⟩ (.slice tA tn tc)).setCell ⟨Q9, 1, none⟩ (.slice tB tm td)).setCell ⟨Q9, 2, none⟩ (.int .i64 f2)).setCell ⟨Q9, 3, none⟩ (.bool o2)) = ub at *
            have G7 := HGD.out.low' RT.dsk.bel
            refine hK.out _ _ ⟨G7.lit (lp := .pointer (some ⟨k, 0, none⟩)) rfl, (G7.held N _ HZ.out).1⟩ (fun hHeld => ?_)
            clear hK K
            clear G7
            refine wpAnyH_take (i := 19) (oi := ⟨some 8, _, _, _, _, _⟩) (v := .int .i64 er) rfl (by kernel_rfl) (by kernel_rfl) (by kernel_rfl) (fun _ _ _ h => h) (Or.inl ⟨by rfl, ?_⟩) (by assumption) ?_
            · intro w hSw; (try dsimp only at hSw); go_simp
            simp only [Act.put, List.setIfInBounds_toArray, List.set_cons_zero, List.set_cons_succ]
            refine wpAnyH_done (by kernel_rfl) ?_ _
            clear hHeld
            have hrb : Dk.RefAt ub (fun q => fp1 q ∨ q = X ∨ bl1 q) (.agg #[.slice tA tn tc, .slice tB tm td, .int .i64 f2, .bool o2]) M1 := RT.dsk.ref.off fun q _ e => .inl (.inl e)
            have hlb : Lg.RefAt ub (fun q => fp1 q ∨ q = X ∨ bl1 q) a nn (.agg #[.int .i64 v0, .int .i64 v1, .int .u64 v2, .slice vA vn vc, .int .i64 v4, .int .u64 v5, .int .u64 v6, .bool v7]) L1 := RT.log.off fun q e => .inl (.inl e)
            have hbb : Below u1.heap.size u1 ub := BD0.out.trans (RT.dsk.bel.mono BD0.out.size)
            have h8 : u1.heap.size ≤ Q8 := Nat.le_trans BD0.out.size hQA8
            have h9 : u1.heap.size ≤ Q9 := Nat.le_trans BD0.out.size hQA9
            clear RS RT
            go_wp2_with fail
            go_meet
            exact ⟨Q8, Q9, v0, v1, v2, vA, vn, vc, v4, v5, v6, v7, tA, tn, tc, tB, tm, td, f2, o2, rfl, rfl, rfl, pb8, pb9, h8, h9, hbb, hrb, hlb⟩
          · rw [if_pos (by simp [Region.wanted])]
            go_simp
            have al := heap_alloc_new v11x (.cells #[.int .i64 0, .int .i64 0, .int .u64 0, .slice none 0 0, .int .i64 0, .int .u64 0, .int .u64 0, .bool false] 39)
            have R14 := R11.alloc (.cells #[.int .i64 0, .int .i64 0, .int .u64 0, .slice none 0 0, .int .i64 0, .int .u64 0, .int .u64 0, .bool false] 39)
            have p914 : (v11x.alloc (.cells #[.int .i64 0, .int .i64 0, .int .u64 0, .slice none 0 0, .int .i64 0, .int .u64 0, .int .u64 0, .bool false] 39)).heap[Q9]? = _ := (Below.heap_alloc _ _ _ (Sm.lt_of p911)).trans p911
            have nq14 : v11x.heap.size ≠ Q9 := by have := Sm.lt_of p911; omega
            obtain ⟨Q8, hQ⟩ : ∃ Q, Q = v11x.heap.size := ⟨_, rfl⟩
            have hQA8 : wd.heap.size ≤ Q8 := by rw [hQ]; exact R11.dsk.bel.size
            rw [← hQ] at al R14 nq14 ⊢
            clear hQ
            have p814 := al
            clear al
            generalize v11x.alloc (.cells #[.int .i64 0, .int .i64 0, .int .u64 0, .slice none 0 0, .int .i64 0, .int .u64 0, .int .u64 0, .bool false] 39) = v14x at *
            have G7 := HGD.out.low' R14.dsk.bel
            refine hK.out _ _ ⟨G7.lit (lp := .pointer (some ⟨k, 0, none⟩)) rfl, (G7.held N _ HZ.out).1⟩ (fun hHeld => ?_)
            clear hK K
            clear G7
            refine wpAnyH_ready (rs := [10]) (by kernel_rfl) (by simp) ?_
            refine (AllReadyH.cons (o := ⟨some 41, _, _, _, _, _⟩) rfl (fun K hK => ?_) AllReadyH.nil)
            go_simp
            refine (RA.out _ _ R14.dsk.ref R14.log R14.dsk.lt).mono ?_
            rintro e v15x ⟨v0, v1, v2, vA, vn, vc, v4, v5, v6, v7, vn, rfl, hlog, href, k1⟩
            obtain ⟨tA, tn, tc, tB, tm, td, f2, o2, rfl⟩ := Lg.quad href
            have R15 := R14.call href hlog k1
            have p815 := (k1.block Q8 (Sm.lt_of p814)).trans p814
            have p915 := (k1.block Q9 (Sm.lt_of p914)).trans p914
            clear href hlog k1
            have G7 := HGD.out.low' R15.dsk.bel
            refine hK.out _ _ ⟨G7.lit (lp := .pointer (some ⟨k, 0, none⟩)) rfl, (G7.held N _ HZ.out).1⟩ (fun hHeld => ?_)
            clear hK K
            clear G7
            refine wpAnyH_take (i := 11) (oi := ⟨some 30, _, _, _, _, _⟩) (v := .tuple #[.agg #[.int .i64 v0, .int .i64 v1, .int .u64 v2, .slice vA vn vc, .int .i64 v4, .int .u64 v5, .int .u64 v6, .bool v7], .agg #[.slice tA tn tc, .slice tB tm td, .int .i64 f2, .bool o2], .int .i64 er]) rfl (by kernel_rfl) (by kernel_rfl) (by kernel_rfl) (fun _ _ _ h => h) (Or.inl ⟨by rfl, ?_⟩) (by assumption) ?_
            · intro w hSw; (try dsimp only at hSw); go_simp
            simp only [Act.put, List.setIfInBounds_toArray, List.set_cons_zero, List.set_cons_succ]
            refine wpAnyH_take (i := 12) (oi := ⟨some 42, _, _, _, _, _⟩) (v := .agg #[.int .i64 v0, .int .i64 v1, .int .u64 v2, .slice vA vn vc, .int .i64 v4, .int .u64 v5, .int .u64 v6, .bool v7]) rfl (by kernel_rfl) (by kernel_rfl) (by kernel_rfl) (fun _ _ _ h => h) (Or.inl ⟨by rfl, ?_⟩) (by assumption) ?_
            · intro w hSw; (try dsimp only at hSw); go_simp
            simp only [Act.put, List.setIfInBounds_toArray, List.set_cons_zero, List.set_cons_succ]
            refine wpAnyH_take (i := 13) (oi := ⟨some 43, _, _, _, _, _⟩) (v := .agg #[.slice tA tn tc, .slice tB tm td, .int .i64 f2, .bool o2]) rfl (by kernel_rfl) (by kernel_rfl) (by kernel_rfl) (fun _ _ _ h => h) (Or.inl ⟨by rfl, ?_⟩) (by assumption) ?_
            · intro w hSw; (try dsimp only at hSw); go_simp
            simp only [Act.put, List.setIfInBounds_toArray, List.set_cons_zero, List.set_cons_succ]
            refine wpAnyH_take (i := 14) (oi := ⟨some 44, _, _, _, _, _⟩) (v := .int .i64 er) rfl (by kernel_rfl) (by kernel_rfl) (by kernel_rfl) (fun _ _ _ h => h) (Or.inl ⟨by rfl, ?_⟩) (by assumption) ?_
            · intro w hSw; (try dsimp only at hSw); go_simp
            simp only [Act.put, List.setIfInBounds_toArray, List.set_cons_zero, List.set_cons_succ]
            have n89 : Q8 ≠ Q9 := nq14
            refine wpAnyH_ready (rs := [17]) (by kernel_rfl) (by simp) ?_
            refine (AllReadyH.cons (o := ⟨none, _, _, _, _, _⟩) rfl (fun K hK => ?_) AllReadyH.nil)
            have z0 := Sm.cells_of p815 0 _ rfl; have z1 := Sm.cells_of p815 1 _ rfl; have z2 := Sm.cells_of p815 2 _ rfl; have z3 := Sm.cells_of p815 3 _ rfl; have z4 := Sm.cells_of p815 4 _ rfl; have z5 := Sm.cells_of p815 5 _ rfl; have z6 := Sm.cells_of p815 6 _ rfl; have z7 := Sm.cells_of p815 7 _ rfl
            have zf0 := Sm.free_of p815 0; have zf1 := Sm.free_of p815 1; have zf2 := Sm.free_of p815 2; have zf3 := Sm.free_of p815 3; have zf4 := Sm.free_of p815 4; have zf5 := Sm.free_of p815 5; have zf6 := Sm.free_of p815 6; have zf7 := Sm.free_of p815 7
            go_simp
            have RS := R15.set (Lg.turned8 v15x Q8 (.int .i64 v0) (.int .i64 v1) (.int .u64 v2) (.slice vA vn vc) (.int .i64 v4) (.int .u64 v5) (.int .u64 v6) (.bool v7)) hQA8 (by simp)
            have pa8 := Lg.set8 p815 rfl (.int .i64 v0) (.int .i64 v1) (.int .u64 v2) (.slice vA vn vc) (.int .i64 v4) (.int .u64 v5) (.int .u64 v6) (.bool v7)
            have pa9 := (Lg.set8_other v15x Q8 (.int .i64 v0) (.int .i64 v1) (.int .u64 v2) (.slice vA vn vc) (.int .i64 v4) (.int .u64 v5) (.int .u64 v6) (.bool v7) Q9 n89.symm).trans p915
            clear z0 z1 z2 z3 z4 z5 z6 z7 zf0 zf1 zf2 zf3 zf4 zf5 zf6 zf7
            generalize ((((((((v15x.setCell ⟨Q8, 0, none⟩ (.int .i64 v0)).setCell ⟨Q8, 1, none⟩ (.int .i64 v1)).setCell ⟨Q8, 2, none⟩ (.int .u64 v2)).setCell ⟨Q8, 3, none⟩ (.slice vA vn vc)).setCell ⟨Q8, 4, none⟩ (.int .i64 v4)).setCell ⟨Q8, 5, none⟩ (.int .u64 v5)).setCell ⟨Q8, 6, none⟩ (.int .u64 v6)).setCell ⟨Q8, 7, none⟩ (.bool v7)) = ua at *
            have G7 := HGD.out.low' RS.dsk.bel
            refine hK.out _ _ ⟨G7.lit (lp := .pointer (some ⟨k, 0, none⟩)) rfl, (G7.held N _ HZ.out).1⟩ (fun hHeld => ?_)
            clear hK K
            clear G7
            refine wpAnyH_ready (rs := [18]) (by kernel_rfl) (by simp) ?_
            refine (AllReadyH.cons (o := ⟨none, _, _, _, _, _⟩) rfl (fun K hK => ?_) AllReadyH.nil)
            have z0 := Sm.cells_of pa9 0 _ rfl; have z1 := Sm.cells_of pa9 1 _ rfl; have z2 := Sm.cells_of pa9 2 _ rfl; have z3 := Sm.cells_of pa9 3 _ rfl
            have zf0 := Sm.free_of pa9 0; have zf1 := Sm.free_of pa9 1; have zf2 := Sm.free_of pa9 2; have zf3 := Sm.free_of pa9 3
            go_simp
            have RT := RS.set (Lg.turned4 ua Q9 (.slice tA tn tc) (.slice tB tm td) (.int .i64 f2) (.bool o2)) hQA9 (by simp)
            have pb9 := Dk.set4 pa9 rfl (.slice tA tn tc) (.slice tB tm td) (.int .i64 f2) (.bool o2)
            have pb8 := (Dk.set4_other ua Q9 (.slice tA tn tc) (.slice tB tm td) (.int .i64 f2) (.bool o2) Q8 n89).trans pa8
            clear z0 z1 z2 z3 zf0 zf1 zf2 zf3
            generalize ((((ua.setCell ⟨Q9, 0, none⟩ (.slice tA tn tc)).setCell ⟨Q9, 1, none⟩ (.slice tB tm td)).setCell ⟨Q9, 2, none⟩ (.int .i64 f2)).setCell ⟨Q9, 3, none⟩ (.bool o2)) = ub at *
            have G7 := HGD.out.low' RT.dsk.bel
            refine hK.out _ _ ⟨G7.lit (lp := .pointer (some ⟨k, 0, none⟩)) rfl, (G7.held N _ HZ.out).1⟩ (fun hHeld => ?_)
            clear hK K
            clear G7
            refine wpAnyH_take (i := 19) (oi := ⟨some 8, _, _, _, _, _⟩) (v := .int .i64 er) rfl (by kernel_rfl) (by kernel_rfl) (by kernel_rfl) (fun _ _ _ h => h) (Or.inl ⟨by rfl, ?_⟩) (by assumption) ?_
            · intro w hSw; (try dsimp only at hSw); go_simp
            simp only [Act.put, List.setIfInBounds_toArray, List.set_cons_zero, List.set_cons_succ]
            refine wpAnyH_done (by kernel_rfl) ?_ _
            clear hHeld
            have hrb : Dk.RefAt ub (fun q => fp1 q ∨ q = X ∨ bl1 q) (.agg #[.slice tA tn tc, .slice tB tm td, .int .i64 f2, .bool o2]) M1 := RT.dsk.ref.off fun q _ e => .inl (.inl e)
            have hlb : Lg.RefAt ub (fun q => fp1 q ∨ q = X ∨ bl1 q) a nn (.agg #[.int .i64 v0, .int .i64 v1, .int .u64 v2, .slice vA vn vc, .int .i64 v4, .int .u64 v5, .int .u64 v6, .bool v7]) L1 := RT.log.off fun q e => .inl (.inl e)
            have hbb : Below u1.heap.size u1 ub := BD0.out.trans (RT.dsk.bel.mono BD0.out.size)
            have h8 : u1.heap.size ≤ Q8 := Nat.le_trans BD0.out.size hQA8
            have h9 : u1.heap.size ≤ Q9 := Nat.le_trans BD0.out.size hQA9
            clear RS RT
            go_wp2_with fail
            go_meet
            exact ⟨Q8, Q9, v0, v1, v2, vA, vn, vc, v4, v5, v6, v7, tA, tn, tc, tB, tm, td, f2, o2, rfl, rfl, rfl, pb8, pb9, h8, h9, hbb, hrb, hlb⟩
      case rest =>
        obtain ⟨Q8, Q9, v0, v1, v2, vA, vn, vc, v4, v5, v6, v7, tA, tn, tc, tB, tm, td, f2, o2, rfl, rfl, rfl, pb8, pb9, h8, h9, hbb, hrb, hlb⟩ := hcut
        rename World => ub
        go_upto_region 7 with (fail)
        have hX1 := Sm.lt_of H2.out.box
        have g8 : Q8 ≠ X := by omega
        have g9 : Q9 ≠ X := by omega
        have HGC := Lib.hid (H2.out.low' hbb.drew)
        obtain ⟨vl, hvl⟩ : ∃ q : List Value, q = [.int .i64 v0, .int .i64 v1, .int .u64 v2, .slice vA vn vc, .int .i64 v4, .int .u64 v5, .int .u64 v6, .bool v7] := ⟨_, rfl⟩
        have hva : vl.toArray = #[.int .i64 v0, .int .i64 v1, .int .u64 v2, .slice vA vn vc, .int .i64 v4, .int .u64 v5, .int .u64 v6, .bool v7] := by rw [hvl]
        have hvl8 : vl.length = 8 := by rw [hvl]; rfl
        obtain ⟨tl, htl⟩ : ∃ q : List Value, q = [.slice tA tn tc, .slice tB tm td, .int .i64 f2, .bool o2] := ⟨_, rfl⟩
        have hta : tl.toArray = #[.slice tA tn tc, .slice tB tm td, .int .i64 f2, .bool o2] := by rw [htl]
        have htl4 : tl.length = 4 := by rw [htl]; rfl
        have HVA := Lib.hid hva
        have HTA := Lib.hid hta
        have HRC : Hid (Dk.RefAt ub.drew (fun q => fp1 q ∨ q = X ∨ bl1 q) (.agg #[.slice tA tn tc, .slice tB tm td, .int .i64 f2, .bool o2]) M1) := hrb.low ((Below.refl _ ub).drew)
        have HLC : Hid (Lg.RefAt ub.drew (fun q => fp1 q ∨ q = X ∨ bl1 q) a nn (.agg #[.int .i64 v0, .int .i64 v1, .int .u64 v2, .slice vA vn vc, .int .i64 v4, .int .u64 v5, .int .u64 v6, .bool v7]) L1) := hlb.low ((Below.refl _ ub).drew)
        have HP8 : Hid (ub.drew.heap[Q8]? = some (.cells vl.toArray 39 (0, 0))) := by rw [hva]; exact pb8
        have HP9 : Hid (ub.drew.heap[Q9]? = some (.cells tl.toArray 33 (0, 0))) := by rw [hta]; exact pb9
        have xlc := HGC.out.lit (lp := .pointer (some ⟨k, 0, none⟩)) rfl
        have x2 := Sm.cells_of xlc 2 _ rfl; have x3 := Sm.cells_of xlc 3 _ rfl; have x4 := Sm.cells_of xlc 4 _ rfl; have x5 := Sm.cells_of xlc 5 _ rfl; have x6 := Sm.cells_of xlc 6 _ rfl; have x7 := Sm.cells_of xlc 7 _ rfl; have x8 := Sm.cells_of xlc 8 _ rfl; have x9 := Sm.cells_of xlc 9 _ rfl; have x10 := Sm.cells_of xlc 10 _ rfl; have x11 := Sm.cells_of xlc 11 _ rfl; have x12 := Sm.cells_of xlc 12 _ rfl; have x13 := Sm.cells_of xlc 13 _ rfl
        have xf2 := Sm.free_of xlc 2; have xf3 := Sm.free_of xlc 3; have xf4 := Sm.free_of xlc 4; have xf5 := Sm.free_of xlc 5; have xf6 := Sm.free_of xlc 6; have xf7 := Sm.free_of xlc 7; have xf8 := Sm.free_of xlc 8; have xf9 := Sm.free_of xlc 9; have xf10 := Sm.free_of xlc 10; have xf11 := Sm.free_of xlc 11; have xf12 := Sm.free_of xlc 12; have xf13 := Sm.free_of xlc 13
        clear hvl hva htl hta hrb hlb pb8 pb9 hbb xl R0 hX1 h8 h9
        refine wp_region_held_drew (S := (fun w' => w'.heap[Q8]? = some (.cells vl.toArray 39 (0, 0)) ∧ w'.heap[Q9]? = some (.cells tl.toArray 33 (0, 0)))) (by kernel_rfl) ⟨HP8.out, HP9.out⟩ (fun hHeld => ?_)
        generalize ub.drew = ud at *
        refine wpAnyH_take (i := 0) (oi := ⟨some 45, _, _, _, _, _⟩) (v := .pointer (some ⟨X, 0, none⟩)) rfl (by kernel_rfl) (by kernel_rfl) (by kernel_rfl) (fun _ _ _ h => h) (Or.inl ⟨by rfl, ?_⟩) (by assumption) ?_
        · intro w hSw; (try dsimp only at hSw); go_simp
        simp only [Act.put, List.setIfInBounds_toArray, List.set_cons_zero, List.set_cons_succ]
        refine wpAnyH_take (i := 1) (oi := ⟨some 46, _, _, _, _, _⟩) (v := .pointer (some ⟨X, 0, none⟩)) rfl (by kernel_rfl) (by kernel_rfl) (by kernel_rfl) (fun _ _ _ h => h) (Or.inl ⟨by rfl, ?_⟩) (by assumption) ?_
        · intro w hSw; (try dsimp only at hSw); go_simp
        simp only [Act.put, List.setIfInBounds_toArray, List.set_cons_zero, List.set_cons_succ]
        refine wpAnyH_take (i := 2) (oi := ⟨some 47, _, _, _, _, _⟩) (v := .agg vl.toArray) rfl (by kernel_rfl) (by kernel_rfl) (by kernel_rfl) (fun _ _ _ h => h) (yieldsIf_load_mid (by rfl) _ _ rfl _ _ rfl vl _ (fun w hS => Sm.range_row hS.1) Tryz.underlying39 rfl (Lg.info_log10 hvl8)) (by assumption) ?_
        simp only [Act.put, List.setIfInBounds_toArray, List.set_cons_zero, List.set_cons_succ]
        refine wpAnyH_take (i := 3) (oi := ⟨some 48, _, _, _, _, _⟩) (v := .agg tl.toArray) rfl (by kernel_rfl) (by kernel_rfl) (by kernel_rfl) (fun _ _ _ h => h) (yieldsIf_load_mid (by rfl) _ _ rfl _ _ rfl tl _ (fun w hS => Sm.range_row hS.2) Tryz.underlying33 rfl (Lg.info_dsk7 htl4)) (by assumption) ?_
        simp only [Act.put, List.setIfInBounds_toArray, List.set_cons_zero, List.set_cons_succ]
        refine wpAnyH_take (i := 4) (oi := ⟨some 49, _, _, _, _, _⟩) (v := .pointer (some ⟨X, 0, none⟩)) rfl (by kernel_rfl) (by kernel_rfl) (by kernel_rfl) (fun _ _ _ h => h) (Or.inl ⟨by rfl, ?_⟩) (by assumption) ?_
        · intro w hSw; (try dsimp only at hSw); go_simp
        simp only [Act.put, List.setIfInBounds_toArray, List.set_cons_zero, List.set_cons_succ]
        refine wpAnyH_take (i := 5) (oi := ⟨some 50, _, _, _, _, _⟩) (v := .pointer (some ⟨X, 6, none⟩)) rfl (by kernel_rfl) (by kernel_rfl) (by kernel_rfl) (fun _ _ _ h => h) (Or.inl ⟨by rfl, ?_⟩) (by assumption) ?_
        · intro w hSw; (try dsimp only at hSw); go_simp
        simp only [Act.put, List.setIfInBounds_toArray, List.set_cons_zero, List.set_cons_succ]
        refine wpAnyH_ready (rs := [6]) (by kernel_rfl) (by simp) ?_
        refine (AllReadyH.cons (o := ⟨none, _, _, _, _, _⟩) rfl (fun K hK => ?_) AllReadyH.nil)
        rw [HVA.out]
        go_simp
        refine hK.out _ _ ⟨(Lg.setV_other _ X _ _ _ _ _ _ _ _ Q8 g8).trans HP8.out, (Lg.setV_other _ X _ _ _ _ _ _ _ _ Q9 g9).trans HP9.out⟩ (fun hHeld => ?_)
        clear hK K
        refine wpAnyH_take (i := 7) (oi := ⟨some 51, _, _, _, _, _⟩) (v := .pointer (some ⟨X, 0, none⟩)) rfl (by kernel_rfl) (by kernel_rfl) (by kernel_rfl) (fun _ _ _ h => h) (Or.inl ⟨by rfl, ?_⟩) (by assumption) ?_
        · intro w hSw; (try dsimp only at hSw); go_simp
        simp only [Act.put, List.setIfInBounds_toArray, List.set_cons_zero, List.set_cons_succ]
        refine wpAnyH_take (i := 8) (oi := ⟨some 52, _, _, _, _, _⟩) (v := .pointer (some ⟨X, 2, none⟩)) rfl (by kernel_rfl) (by kernel_rfl) (by kernel_rfl) (fun _ _ _ h => h) (Or.inl ⟨by rfl, ?_⟩) (by assumption) ?_
        · intro w hSw; (try dsimp only at hSw); go_simp
        simp only [Act.put, List.setIfInBounds_toArray, List.set_cons_zero, List.set_cons_succ]
        refine wpAnyH_ready (rs := [9]) (by kernel_rfl) (by simp) ?_
        refine (AllReadyH.cons (o := ⟨none, _, _, _, _, _⟩) rfl (fun K hK => ?_) AllReadyH.nil)
        rw [HTA.out]
        go_simp
        refine hK.out _ _ ⟨(Lg.setD_other _ X _ _ _ _ Q8 g8).trans ((Lg.setV_other _ X _ _ _ _ _ _ _ _ Q8 g8).trans HP8.out), (Lg.setD_other _ X _ _ _ _ Q9 g9).trans ((Lg.setV_other _ X _ _ _ _ _ _ _ _ Q9 g9).trans HP9.out)⟩ (fun hHeld => ?_)
        clear hK K
        refine wpAnyH_done (by kernel_rfl) ?_ _
        clear hHeld
        have b6 := Lg.setV xlc (.int .i64 v0) (.int .i64 v1) (.int .u64 v2) (.slice vA vn vc) (.int .i64 v4) (.int .u64 v5) (.int .u64 v6) (.bool v7)
        have t6 := Lg.setV_turned ud X (.int .i64 v0) (.int .i64 v1) (.int .u64 v2) (.slice vA vn vc) (.int .i64 v4) (.int .u64 v5) (.int .u64 v6) (.bool v7)
        have GA := HGC.out.touch t6 b6 HGC.out.ref (fun q e => HLC.out)
        have hra := Lg.refTurned (f' := (fun q => fp1 q ∨ q = X ∨ bl1 q)) HRC.out (Lg.turned_more t6 fun i e => .inr (.inl e)) fun _ => .inl
        generalize ((((((((ud.setCell ⟨X, 6, none⟩ (.int .i64 v0)).setCell ⟨X, 7, none⟩ (.int .i64 v1)).setCell ⟨X, 8, none⟩ (.int .u64 v2)).setCell ⟨X, 9, none⟩ (.slice vA vn vc)).setCell ⟨X, 10, none⟩ (.int .i64 v4)).setCell ⟨X, 11, none⟩ (.int .u64 v5)).setCell ⟨X, 12, none⟩ (.int .u64 v6)).setCell ⟨X, 13, none⟩ (.bool v7)) = ue at *
        have b4 := Lg.setD b6 (.slice tA tn tc) (.slice tB tm td) (.int .i64 f2) (.bool o2)
        have t4 := Lg.setD_turned ue X (.slice tA tn tc) (.slice tB tm td) (.int .i64 f2) (.bool o2)
        have GB := GA.touch t4 b4 hra (fun q e => (GA.log q e).2.2)
        have HF := Lib.hid GB
        clear GA GB b4 b6 t4 t6 hra xlc
        generalize ((((ue.setCell ⟨X, 2, none⟩ (.slice tA tn tc)).setCell ⟨X, 3, none⟩ (.slice tB tm td)).setCell ⟨X, 4, none⟩ (.int .i64 f2)).setCell ⟨X, 5, none⟩ (.bool o2)) = uf at *
        clear x2 x3 x4 x5 x6 x7 x8 x9 x10 x11 x12 x13 xf2 xf3 xf4 xf5 xf6 xf7 xf8 xf9 xf10 xf11 xf12 xf13
        have qe : (er == er) = true := by simp
        go_wp2
        go_ret
        exact ⟨rfl, Lg.did10 HF.out ⟨fun e => (by cases e), fun e => absurd rfl e⟩ WT1.out.1 WT1.out.2 HEP.out⟩
  · by_cases e1 : x.d = 1
    · rw [e1] at d0'
      clear e0 e1
      go_upto_region 10 with (fail)
      have GD := GG.out.low' ((Below.refl _ w1).drew)
      have x0 := GD.ptr
      have a2 := (AC.out _ (GD.held N _ HZ.out).1).2.2.1
      go_still_tail 6, (by kernel_rfl)
      repeat still_step
      try refine wpStill_nil ?_
      change wpList _ _ _ _ _ w1.drew
      go_wp2_with fail
      refine (Dk.fuse_in GD.disk x.n OK.out.n).mono ?_
      rintro e u1 ⟨fp1, rfl, st⟩
      have G2 := GD.disked st rfl
      clear x0 a2 st
      have xl := G2.lit HLP.out
      have a2 := (AC.out _ (G2.held N _ HZ.out).1).2.2.1
      have x4 := Sm.cells_of xl 4 _ rfl; have xf4 := Sm.free_of xl 4
      have XL := Lib.hid xl
      have H2 := Lib.hid G2
      clear xl G2 GD
      go_upto_region 12 with (fail)
      have b4 := Lg.setF XL.out (.int .i64 (max x.n (-1)))
      have t4 := Lg.setF_turned u1 X (.int .i64 (max x.n (-1)))
      have G3 := H2.out.touch t4 (by rw [b4, HLP.out]) (Lg.fuse10 H2.out.ref x.n) (fun q e => (H2.out.log q e).2.2)
      have H3 := Lib.hid G3
      clear b4 t4 G3 x4 xf4 a2
      generalize u1.setCell ⟨X, 4, none⟩ (.int .i64 (max x.n (-1))) = u2 at *
      go_wp2_with fail
      go_ret
      exact ⟨rfl, Lg.did10 H3.out HIF.out (Nat.le_add_right (Dk.waits M) 33) rfl HEP.out⟩
    · by_cases e2 : x.d = 2
      · rw [e2] at d0'
        clear e0 e1 e2
        go_upto_region 14 with (fail)
        have GD := GG.out.low' ((Below.refl _ w1).drew)
        have x0 := GD.ptr
        obtain ⟨kA, kc, hkv, _⟩ := id OK.out.keep
        have HIO : Hid (∀ wx fpx Mx, Dk.Own B w0 wx r fpx Mx → Dk.IntsAt wx (.slice kA x.keep.length kc) x.keep ∧ Dk.Off fpx (.slice kA x.keep.length kc) x.keep) := fun wx fpx Mx ho => by
          have := ho.off OK.out.keep HBB.out
          rw [hkv] at this
          exact this
        have a5 := (AC.out _ (GD.held N _ HZ.out).1).2.2.2.2.2
        rw [hkv] at a5
        have HKV := Lib.hid hkv
        clear hkv
        go_still_tail 6, (by kernel_rfl)
        repeat still_step
        try refine wpStill_nil ?_
        change wpList _ _ _ _ _ w1.drew
        go_wp2_with fail
        refine (Dk.crash_in GD.disk (by have := HQ.out; omega) (HIO.out _ _ _ GD.disk).1 (HIO.out _ _ _ GD.disk).2).mono ?_
        rintro e u1 ⟨fp1, rfl, st⟩
        have G2 := GD.disked st (Dk.len_crash _ _)
        have HMO := Lib.hid GD.disk.disk.ok
        clear x0 a5 st
        go_upto_region 15 with (fail)
        have G3 := G2.low' ((Below.refl _ u1).drew)
        have xl := G3.lit HLP.out
        have x2 := Sm.cells_of xl 2 _ rfl; have x3 := Sm.cells_of xl 3 _ rfl; have x4 := Sm.cells_of xl 4 _ rfl; have x5 := Sm.cells_of xl 5 _ rfl
        have a5 := (AC.out _ (G3.held N _ HZ.out).1).2.2.2.2.2
        rw [HKV.out] at a5
        have H3 := Lib.hid G3
        clear xl G2 GD G3
        refine wp_region_held_drew (S := (fun w' => w'.heap[N]? = some (.cells cs.toArray 46 (0, 0)))) (by kernel_rfl) (H3.out.held N _ HZ.out).1 (fun hHeld => ?_)
        generalize u1.drew = ud at *
        refine wpAnyH_take (i := 0) (oi := ⟨some 81, _, _, _, _, _⟩) (v := .pointer (some ⟨X, 0, none⟩)) rfl (by kernel_rfl) (by kernel_rfl) (by kernel_rfl) (fun _ _ _ h => h) (Or.inl ⟨by rfl, ?_⟩) (by assumption) ?_
        · intro w hSw; (try dsimp only at hSw); go_simp
        simp only [Act.put, List.setIfInBounds_toArray, List.set_cons_zero, List.set_cons_succ]
        refine wpAnyH_take (i := 1) (oi := ⟨some 82, _, _, _, _, _⟩) (v := .pointer (some ⟨X, 0, none⟩)) rfl (by kernel_rfl) (by kernel_rfl) (by kernel_rfl) (fun _ _ _ h => h) (Or.inl ⟨by rfl, ?_⟩) (by assumption) ?_
        · intro w hSw; (try dsimp only at hSw); go_simp
        simp only [Act.put, List.setIfInBounds_toArray, List.set_cons_zero, List.set_cons_succ]
        refine wpAnyH_take (i := 2) (oi := ⟨some 83, _, _, _, _, _⟩) (v := .pointer (some ⟨X, 0, none⟩)) rfl (by kernel_rfl) (by kernel_rfl) (by kernel_rfl) (fun _ _ _ h => h) (Or.inl ⟨by rfl, ?_⟩) (by assumption) ?_
        · intro w hSw; (try dsimp only at hSw); go_simp
        simp only [Act.put, List.setIfInBounds_toArray, List.set_cons_zero, List.set_cons_succ]
        refine wpAnyH_take (i := 3) (oi := ⟨some 84, _, _, _, _, _⟩) (v := .pointer (some ⟨X, 2, none⟩)) rfl (by kernel_rfl) (by kernel_rfl) (by kernel_rfl) (fun _ _ _ h => h) (Or.inl ⟨by rfl, ?_⟩) (by assumption) ?_
        · intro w hSw; (try dsimp only at hSw); go_simp
        simp only [Act.put, List.setIfInBounds_toArray, List.set_cons_zero, List.set_cons_succ]
        refine wpAnyH_take (i := 5) (oi := ⟨some 86, _, _, _, _, _⟩) (v := .pointer (some ⟨N, 5, none⟩)) rfl (by kernel_rfl) (by kernel_rfl) (by kernel_rfl) (fun _ _ _ h => h) (Or.inl ⟨by rfl, ?_⟩) (by assumption) ?_
        · intro w hSw; (try dsimp only at hSw); go_simp
        simp only [Act.put, List.setIfInBounds_toArray, List.set_cons_zero, List.set_cons_succ]
        refine wpAnyH_take (i := 6) (oi := ⟨some 87, _, _, _, _, _⟩) (v := .slice kA x.keep.length kc) rfl (by kernel_rfl) (by kernel_rfl) (by kernel_rfl) (fun _ _ _ h => h) (Or.inl ⟨by rfl, ?_⟩) (by assumption) ?_
        · intro w hSw; (try dsimp only at hSw); have hh := (AC.out _ hSw).2.2.2.2.2; rw [HKV.out] at hh; go_simp
        simp only [Act.put, List.setIfInBounds_toArray, List.set_cons_zero, List.set_cons_succ]
        refine wpAnyH_ready (rs := [4]) (by kernel_rfl) (by simp) ?_
        refine (AllReadyH.cons (o := ⟨some 85, _, _, _, _, _⟩) rfl (fun K hK => ?_) AllReadyH.nil)
        go_simp
        refine hK.out _ _ (H3.out.held N _ HZ.out).1 (fun hHeld => ?_)
        clear hK K
        refine wpAnyH_ready (rs := [7]) (by kernel_rfl) (by simp) ?_
        refine (AllReadyH.cons (o := ⟨some 88, _, _, _, _, _⟩) rfl (fun K hK => ?_) AllReadyH.nil)
        go_simp
        refine (r7Crash_any ud _ _ M HMO.out H3.out.ref H3.out.lt (by have := HQ.out; omega) (HIO.out _ _ _ H3.out.disk).1).mono ?_
        rintro e u2 ⟨vn, rfl, href, k2⟩
        obtain ⟨tA, tn, tc, tB, tm, td, f2, o2, rfl⟩ := Lg.quad href
        have G4 := H3.out.low' k2
        refine hK.out _ _ (G4.held N _ HZ.out).1 (fun hHeld => ?_)
        clear hK K
        refine wpAnyH_take (i := 8) (oi := ⟨some 89, _, _, _, _, _⟩) (v := .pointer (some ⟨X, 0, none⟩)) rfl (by kernel_rfl) (by kernel_rfl) (by kernel_rfl) (fun _ _ _ h => h) (Or.inl ⟨by rfl, ?_⟩) (by assumption) ?_
        · intro w hSw; (try dsimp only at hSw); go_simp
        simp only [Act.put, List.setIfInBounds_toArray, List.set_cons_zero, List.set_cons_succ]
        refine wpAnyH_take (i := 9) (oi := ⟨some 90, _, _, _, _, _⟩) (v := .pointer (some ⟨X, 2, none⟩)) rfl (by kernel_rfl) (by kernel_rfl) (by kernel_rfl) (fun _ _ _ h => h) (Or.inl ⟨by rfl, ?_⟩) (by assumption) ?_
        · intro w hSw; (try dsimp only at hSw); go_simp
        simp only [Act.put, List.setIfInBounds_toArray, List.set_cons_zero, List.set_cons_succ]
        refine wpAnyH_ready (rs := [10]) (by kernel_rfl) (by simp) ?_
        refine (AllReadyH.cons (o := ⟨none, _, _, _, _, _⟩) rfl (fun K hK => ?_) AllReadyH.nil)
        clear x2 x3 x4 x5 a5 k2
        have xl := G4.lit HLP.out
        have x2 := Sm.cells_of xl 2 _ rfl; have x3 := Sm.cells_of xl 3 _ rfl; have x4 := Sm.cells_of xl 4 _ rfl; have x5 := Sm.cells_of xl 5 _ rfl
        have xf2 := Sm.free_of xl 2; have xf3 := Sm.free_of xl 3; have xf4 := Sm.free_of xl 4; have xf5 := Sm.free_of xl 5
        have b4 := Lg.setD xl (.slice tA tn tc) (.slice tB tm td) (.int .i64 f2) (.bool o2)
        have t4 := Lg.setD_turned u2 X (.slice tA tn tc) (.slice tB tm td) (.int .i64 f2) (.bool o2)
        have G5 := G4.touch t4 (by rw [b4, HLP.out]) href (fun q e => (G4.log q e).2.2)
        have H5 := Lib.hid G5
        clear b4 t4 G5 G4 xl href
        go_simp
        clear x2 x3 x4 x5 xf2 xf3 xf4 xf5
        generalize ((((u2.setCell ⟨X, 2, none⟩ (.slice tA tn tc)).setCell ⟨X, 3, none⟩ (.slice tB tm td)).setCell ⟨X, 4, none⟩ (.int .i64 f2)).setCell ⟨X, 5, none⟩ (.bool o2)) = u3 at *
        refine hK.out _ _ (H5.out.held N _ HZ.out).1 (fun hHeld => ?_)
        clear hK K
        refine wpAnyH_done (by kernel_rfl) ?_ _
        clear hHeld
        go_wp2_with fail
        refine (OPN.out _ _ _ _ _ _ _ _ _ _ _ _ _ _ _ _ _ _ _ _ _ H5.out HEP.out (by rw [Dk.waits_crash]; omega)).mono ?_
        rintro e u4 ⟨rfl, hd, _⟩
        go_wp2
        go_ret
        exact ⟨rfl, hd.did (by rw [Dk.waits_crash]; omega) (Dk.len_crash _ _) HEP.out⟩
      · by_cases e3 : x.d = 3
        · rw [e3] at d0'
          clear e0 e1 e2 e3
          have a2 := (AC.out _ (GG.out.held N _ HZ.out).1).2.2.1
          by_cases i0 : 0 ≤ x.n
          · by_cases i1 : x.n < 100
            · go_upto_region 20 with (fail)
              clear a2 d0'
              have xl := (GG.out.low' ((Below.refl _ w1).drew)).lit HLP.out
              obtain ⟨kq, hkq⟩ : ∃ k : Int, k = x.n.tmod nn := ⟨_, rfl⟩
              have hpos := HPOS.out
              have hk0 : 0 ≤ kq ∧ kq < nn := by rw [hkq, Int.tmod_eq_emod_of_nonneg i0]; exact ⟨Int.emod_nonneg _ (by omega), Int.emod_lt_of_pos _ (by omega)⟩
              have hnz : ¬ nn = 0 := by omega
              have hnzb : (nn == 0) = false := beq_eq_false_iff_ne.2 hnz
              have u1 : x.n.tmod nn = kq := hkq.symm
              have u2 : IntKind.i64.wrap kq = kq := IntWalk.i64_in _ (by omega)
              obtain ⟨iv, hiv⟩ : ∃ i : Int, i = a + kq := ⟨_, rfl⟩
              have u3 : IntKind.i64.wrap (a + kq) = iv := by rw [hiv]; exact IntWalk.i64_in _ (by omega)
              clear hkq hiv hpos
              refine wp_region_held_drew (S := (fun w' => w'.heap[X]? = some (.cells #[.pointer (some ⟨r, 0, none⟩), lp, d0, d1, d2, d3, q0, q1, q2, q3, q4, q5, q6, q7, .int .i64 a, .int .i64 nn, .int .u64 (ep : Nat), .int .i64 n] 41 (0, 0)))) (by kernel_rfl) xl (fun hHeld => ?_)
              have BD0 : Hid (Below w1.heap.size w1 w1.drew) := (Below.refl _ w1).drew
              generalize w1.drew = wi at *
              refine wpAnyH_take (i := 0) (oi := ⟨some 103, _, _, _, _, _⟩) (v := .pointer (some ⟨X, 0, none⟩)) rfl (by kernel_rfl) (by kernel_rfl) (by kernel_rfl) (fun _ _ _ h => h) (Or.inl ⟨by rfl, ?_⟩) (by assumption) ?_
              · intro w hSw; (try dsimp only at hSw); go_simp
              simp only [Act.put, List.setIfInBounds_toArray, List.set_cons_zero, List.set_cons_succ]
              refine wpAnyH_take (i := 1) (oi := ⟨some 104, _, _, _, _, _⟩) (v := .pointer (some ⟨X, 0, none⟩)) rfl (by kernel_rfl) (by kernel_rfl) (by kernel_rfl) (fun _ _ _ h => h) (Or.inl ⟨by rfl, ?_⟩) (by assumption) ?_
              · intro w hSw; (try dsimp only at hSw); go_simp
              simp only [Act.put, List.setIfInBounds_toArray, List.set_cons_zero, List.set_cons_succ]
              refine wpAnyH_take (i := 2) (oi := ⟨some 105, _, _, _, _, _⟩) (v := .pointer (some ⟨X, 14, none⟩)) rfl (by kernel_rfl) (by kernel_rfl) (by kernel_rfl) (fun _ _ _ h => h) (Or.inl ⟨by rfl, ?_⟩) (by assumption) ?_
              · intro w hSw; (try dsimp only at hSw); go_simp
              simp only [Act.put, List.setIfInBounds_toArray, List.set_cons_zero, List.set_cons_succ]
              refine wpAnyH_take (i := 3) (oi := ⟨some 106, _, _, _, _, _⟩) (v := .int .i64 a) rfl (by kernel_rfl) (by kernel_rfl) (by kernel_rfl) (fun _ _ _ h => h) (Or.inl ⟨by rfl, ?_⟩) (by assumption) ?_
              · intro w hSw; (try dsimp only at hSw); have hh := Sm.cells_of hSw 14 _ rfl; go_simp
              simp only [Act.put, List.setIfInBounds_toArray, List.set_cons_zero, List.set_cons_succ]
              refine wpAnyH_take (i := 4) (oi := ⟨some 107, _, _, _, _, _⟩) (v := .int .i64 x.n) rfl (by kernel_rfl) (by kernel_rfl) (by kernel_rfl) (fun _ _ _ h => h) (Or.inl ⟨by rfl, ?_⟩) (by assumption) ?_
              · intro w hSw; (try dsimp only at hSw); go_simp
              simp only [Act.put, List.setIfInBounds_toArray, List.set_cons_zero, List.set_cons_succ]
              refine wpAnyH_take (i := 5) (oi := ⟨some 108, _, _, _, _, _⟩) (v := .pointer (some ⟨X, 0, none⟩)) rfl (by kernel_rfl) (by kernel_rfl) (by kernel_rfl) (fun _ _ _ h => h) (Or.inl ⟨by rfl, ?_⟩) (by assumption) ?_
              · intro w hSw; (try dsimp only at hSw); go_simp
              simp only [Act.put, List.setIfInBounds_toArray, List.set_cons_zero, List.set_cons_succ]
              refine wpAnyH_take (i := 6) (oi := ⟨some 109, _, _, _, _, _⟩) (v := .pointer (some ⟨X, 0, none⟩)) rfl (by kernel_rfl) (by kernel_rfl) (by kernel_rfl) (fun _ _ _ h => h) (Or.inl ⟨by rfl, ?_⟩) (by assumption) ?_
              · intro w hSw; (try dsimp only at hSw); go_simp
              simp only [Act.put, List.setIfInBounds_toArray, List.set_cons_zero, List.set_cons_succ]
              refine wpAnyH_take (i := 7) (oi := ⟨some 110, _, _, _, _, _⟩) (v := .pointer (some ⟨X, 15, none⟩)) rfl (by kernel_rfl) (by kernel_rfl) (by kernel_rfl) (fun _ _ _ h => h) (Or.inl ⟨by rfl, ?_⟩) (by assumption) ?_
              · intro w hSw; (try dsimp only at hSw); go_simp
              simp only [Act.put, List.setIfInBounds_toArray, List.set_cons_zero, List.set_cons_succ]
              refine wpAnyH_take (i := 8) (oi := ⟨some 111, _, _, _, _, _⟩) (v := .int .i64 nn) rfl (by kernel_rfl) (by kernel_rfl) (by kernel_rfl) (fun _ _ _ h => h) (Or.inl ⟨by rfl, ?_⟩) (by assumption) ?_
              · intro w hSw; (try dsimp only at hSw); have hh := Sm.cells_of hSw 15 _ rfl; go_simp
              simp only [Act.put, List.setIfInBounds_toArray, List.set_cons_zero, List.set_cons_succ]
              refine wpAnyH_take (i := 9) (oi := ⟨some 112, _, _, _, _, _⟩) (v := .int .i64 kq) rfl (by kernel_rfl) (by kernel_rfl) (by kernel_rfl) (fun _ _ _ h => h) (Or.inl ⟨by rfl, ?_⟩) (by assumption) ?_
              · intro w hSw; (try dsimp only at hSw); go_simp
              simp only [Act.put, List.setIfInBounds_toArray, List.set_cons_zero, List.set_cons_succ]
              refine wpAnyH_take (i := 10) (oi := ⟨some 113, _, _, _, _, _⟩) (v := .int .i64 iv) rfl (by kernel_rfl) (by kernel_rfl) (by kernel_rfl) (fun _ _ _ h => h) (Or.inl ⟨by rfl, ?_⟩) (by assumption) ?_
              · intro w hSw; (try dsimp only at hSw); go_simp
              simp only [Act.put, List.setIfInBounds_toArray, List.set_cons_zero, List.set_cons_succ]
              refine wpAnyH_take (i := 11) (oi := ⟨some 9, _, _, _, _, _⟩) (v := .int .i64 iv) rfl (by kernel_rfl) (by kernel_rfl) (by kernel_rfl) (fun _ _ _ h => h) (Or.inl ⟨by rfl, ?_⟩) (by assumption) ?_
              · intro w hSw; (try dsimp only at hSw); go_simp
              simp only [Act.put, List.setIfInBounds_toArray, List.set_cons_zero, List.set_cons_succ]
              refine wpAnyH_done (by kernel_rfl) ?_ _
              clear hHeld u1 u2 u3 hk0 hnz hnzb xl
              have BI := Lib.hid BD0.out
              go_upto_region 21 with (fail)
              have GD := GG.out.low' BI.out
              obtain ⟨dl, hdl⟩ : ∃ q : List Value, q = [d0, d1, d2, d3] := ⟨_, rfl⟩
              have hda : dl.toArray = #[d0, d1, d2, d3] := by rw [hdl]
              have hdl4 : dl.length = 4 := by rw [hdl]; rfl
              obtain ⟨W1, hW1⟩ : ∃ y, y = Dk.spoil M iv x.m x.x.data.toList := ⟨_, rfl⟩
              obtain ⟨M1, er⟩ := W1
              have ML1 : Hid (M1.lasts.length = M.lasts.length ∧ Dk.waits M1 = Dk.waits M) := ⟨by rw [← Dk.len_spoil M iv x.m x.x.data.toList, ← hW1], by rw [← Dk.waits_spoil M iv x.m x.x.data.toList, ← hW1]⟩
              have HMO := Lib.hid GD.disk.disk.ok
              have WR : Hid (∀ wx F, Dk.RefAt wx F (.agg dl.toArray) M → (∀ q, F q → q < wx.heap.size) → Calls Tryz.prog 32 #[.agg dl.toArray, .int .i64 iv, .int .i64 x.m, .string x.x] wx fun e w' => ∃ v', e = .returned (.tuple #[v', .int .i64 er]) ∧ Dk.RefAt w' F v' M1 ∧ Below wx.heap.size wx w') := fun wx F h1 h2 => by
                have := r7Spoil_any wx F _ M HMO.out h1 h2 iv x.m x.x
                rw [← hW1] at this
                exact this
              have SP : Hid (∀ wx fpx, Dk.Own B w0 wx r fpx M → Calls Tryz.prog 33 #[.pointer (some ⟨r, 0, none⟩), .int .i64 iv, .int .i64 x.m, .string x.x] wx fun e w' => ∃ fp', e = .returned (.int .i64 er) ∧ Dk.Step B w0 wx w' r fpx fp' M1) := fun wx fpx hx => by
                have := Dk.spoil_in hx iv x.m x.x OK.out.x
                rw [← hW1] at this
                exact this
              have HDA := Lib.hid hda
              have HDL := Lib.hid hdl
              have HGD := Lib.hid (GD.low' ((Below.refl _ wi).drew))
              clear hW1 hda hdl GD
              have R0 : Lg.R6 wi.drew wi.drew (fun q => fp q ∨ q = X ∨ bl q) (.agg dl.toArray) M := ⟨Below.refl _ _, by rw [HDA.out]; exact HGD.out.ref, HGD.out.lt⟩
              have xl := HGD.out.lit HLP.out
              go_cut [10, 11] from 115 (fun s10 s11 wx => ∃ (Q : Nat) (tA : Option Addr) (tn tc : Nat) (tB : Option Addr) (tm td : Nat) (f2 : Int) (o2 : Bool), s10 = .pointer (some ⟨Q, 0, none⟩) ∧ s11 = .int .i64 er ∧ (wx.heap[Q]? = some (.cells #[.slice tA tn tc, .slice tB tm td, .int .i64 f2, .bool o2] 33 (0, 0)) ∧ Below wi.heap.size wi wx ∧ Dk.RefAt wx (fun q => fp q ∨ q = X ∨ bl q) (.agg #[.slice tA tn tc, .slice tB tm td, .int .i64 f2, .bool o2]) M1))
              case first =>
                refine wp_region_held_drew (S := (fun w' => w'.heap[X]? = some (.cells #[.pointer (some ⟨r, 0, none⟩), lp, d0, d1, d2, d3, q0, q1, q2, q3, q4, q5, q6, q7, .int .i64 a, .int .i64 nn, .int .u64 (ep : Nat), .int .i64 n] 41 (0, 0)) ∧ w'.heap[N]? = some (.cells cs.toArray 46 (0, 0)))) (by kernel_rfl) ⟨xl, (HGD.out.held N _ HZ.out).1⟩ (fun hHeld => ?_)
                have BD0 : Hid (Below wi.heap.size wi wi.drew) := (Below.refl _ wi).drew
                generalize wi.drew = wd at *
                refine wpAnyH_take (i := 0) (oi := ⟨some 115, _, _, _, _, _⟩) (v := .pointer (some ⟨X, 0, none⟩)) rfl (by kernel_rfl) (by kernel_rfl) (by kernel_rfl) (fun _ _ _ h => h) (Or.inl ⟨by rfl, ?_⟩) (by assumption) ?_
                · intro w hSw; (try dsimp only at hSw); go_simp
                simp only [Act.put, List.setIfInBounds_toArray, List.set_cons_zero, List.set_cons_succ]
                refine wpAnyH_take (i := 1) (oi := ⟨some 116, _, _, _, _, _⟩) (v := .pointer (some ⟨X, 0, none⟩)) rfl (by kernel_rfl) (by kernel_rfl) (by kernel_rfl) (fun _ _ _ h => h) (Or.inl ⟨by rfl, ?_⟩) (by assumption) ?_
                · intro w hSw; (try dsimp only at hSw); go_simp
                simp only [Act.put, List.setIfInBounds_toArray, List.set_cons_zero, List.set_cons_succ]
                refine wpAnyH_take (i := 2) (oi := ⟨some 117, _, _, _, _, _⟩) (v := .pointer (some ⟨X, 2, none⟩)) rfl (by kernel_rfl) (by kernel_rfl) (by kernel_rfl) (fun _ _ _ h => h) (Or.inl ⟨by rfl, ?_⟩) (by assumption) ?_
                · intro w hSw; (try dsimp only at hSw); go_simp
                simp only [Act.put, List.setIfInBounds_toArray, List.set_cons_zero, List.set_cons_succ]
                refine wpAnyH_take (i := 3) (oi := ⟨some 118, _, _, _, _, _⟩) (v := .agg dl.toArray) rfl (by kernel_rfl) (by kernel_rfl) (by kernel_rfl) (fun _ _ _ h => h) (yieldsIf_load_mid (by rfl) _ _ rfl _ _ rfl dl _ (fun w hS => (by rw [HDL.out]; exact Lg.rowD hS.1)) Tryz.underlying33 rfl (Lg.info_dsk7 hdl4)) (by assumption) ?_
                simp only [Act.put, List.setIfInBounds_toArray, List.set_cons_zero, List.set_cons_succ]
                refine wpAnyH_take (i := 4) (oi := ⟨some 119, _, _, _, _, _⟩) (v := .int .i64 iv) rfl (by kernel_rfl) (by kernel_rfl) (by kernel_rfl) (fun _ _ _ h => h) (Or.inl ⟨by rfl, ?_⟩) (by assumption) ?_
                · intro w hSw; (try dsimp only at hSw); go_simp
                simp only [Act.put, List.setIfInBounds_toArray, List.set_cons_zero, List.set_cons_succ]
                refine wpAnyH_take (i := 5) (oi := ⟨some 120, _, _, _, _, _⟩) (v := .pointer (some ⟨N, 3, none⟩)) rfl (by kernel_rfl) (by kernel_rfl) (by kernel_rfl) (fun _ _ _ h => h) (Or.inl ⟨by rfl, ?_⟩) (by assumption) ?_
                · intro w hSw; (try dsimp only at hSw); go_simp
                simp only [Act.put, List.setIfInBounds_toArray, List.set_cons_zero, List.set_cons_succ]
                refine wpAnyH_take (i := 6) (oi := ⟨some 121, _, _, _, _, _⟩) (v := .int .i64 x.m) rfl (by kernel_rfl) (by kernel_rfl) (by kernel_rfl) (fun _ _ _ h => h) (Or.inl ⟨by rfl, ?_⟩) (by assumption) ?_
                · intro w hSw; (try dsimp only at hSw); have hh := (AC.out _ hSw.2).2.2.2.1; go_simp
                simp only [Act.put, List.setIfInBounds_toArray, List.set_cons_zero, List.set_cons_succ]
                refine wpAnyH_take (i := 7) (oi := ⟨some 122, _, _, _, _, _⟩) (v := .pointer (some ⟨N, 4, none⟩)) rfl (by kernel_rfl) (by kernel_rfl) (by kernel_rfl) (fun _ _ _ h => h) (Or.inl ⟨by rfl, ?_⟩) (by assumption) ?_
                · intro w hSw; (try dsimp only at hSw); go_simp
                simp only [Act.put, List.setIfInBounds_toArray, List.set_cons_zero, List.set_cons_succ]
                refine wpAnyH_take (i := 8) (oi := ⟨some 123, _, _, _, _, _⟩) (v := .string x.x) rfl (by kernel_rfl) (by kernel_rfl) (by kernel_rfl) (fun _ _ _ h => h) (Or.inl ⟨by rfl, ?_⟩) (by assumption) ?_
                · intro w hSw; (try dsimp only at hSw); have hh := (AC.out _ hSw.2).2.2.2.2.1; go_simp
                simp only [Act.put, List.setIfInBounds_toArray, List.set_cons_zero, List.set_cons_succ]
                refine wpAnyH_ready (rs := [9, 13]) (by kernel_rfl) (by simp) ?_
                refine (AllReadyH.cons (o := ⟨some 124, _, _, _, _, _⟩) rfl (fun K hK => ?_) (AllReadyH.cons (o := ⟨some 10, _, _, _, _, _⟩) rfl (fun K hK => ?_) AllReadyH.nil))
                · go_simp
                  refine (WR.out _ _ R0.ref R0.lt).mono ?_
                  rintro e u1 ⟨vn, rfl, href, k1⟩
                  obtain ⟨tA, tn, tc, tB, tm, td, f2, o2, rfl⟩ := Lg.quad href
                  have R1 := R0.call href k1
                  clear href k1
                  have G7 := HGD.out.low' R1.bel
                  refine hK.out _ _ ⟨G7.lit HLP.out, (G7.held N _ HZ.out).1⟩ (fun hHeld => ?_)
                  clear hK K
                  clear G7
                  refine wpAnyH_take (i := 10) (oi := ⟨some 114, _, _, _, _, _⟩) (v := .tuple #[.agg #[.slice tA tn tc, .slice tB tm td, .int .i64 f2, .bool o2], .int .i64 er]) rfl (by kernel_rfl) (by kernel_rfl) (by kernel_rfl) (fun _ _ _ h => h) (Or.inl ⟨by rfl, ?_⟩) (by assumption) ?_
                  · intro w hSw; (try dsimp only at hSw); go_simp
                  simp only [Act.put, List.setIfInBounds_toArray, List.set_cons_zero, List.set_cons_succ]
                  refine wpAnyH_take (i := 11) (oi := ⟨some 125, _, _, _, _, _⟩) (v := .agg #[.slice tA tn tc, .slice tB tm td, .int .i64 f2, .bool o2]) rfl (by kernel_rfl) (by kernel_rfl) (by kernel_rfl) (fun _ _ _ h => h) (Or.inl ⟨by rfl, ?_⟩) (by assumption) ?_
                  · intro w hSw; (try dsimp only at hSw); go_simp
                  simp only [Act.put, List.setIfInBounds_toArray, List.set_cons_zero, List.set_cons_succ]
                  refine wpAnyH_take (i := 12) (oi := ⟨some 126, _, _, _, _, _⟩) (v := .int .i64 er) rfl (by kernel_rfl) (by kernel_rfl) (by kernel_rfl) (fun _ _ _ h => h) (Or.inl ⟨by rfl, ?_⟩) (by assumption) ?_
                  · intro w hSw; (try dsimp only at hSw); go_simp
                  simp only [Act.put, List.setIfInBounds_toArray, List.set_cons_zero, List.set_cons_succ]
                  refine wpAnyH_ready (rs := [13]) (by kernel_rfl) (by simp) ?_
                  refine (AllReadyH.cons (o := ⟨some 10, _, _, _, _, _⟩) rfl (fun K hK => ?_) AllReadyH.nil)
                  rw [if_pos (by simp [Region.wanted])]
                  go_simp
                  have pQ := heap_alloc_new u1 (.cells #[.slice none 0 0, .slice none 0 0, .int .i64 0, .bool false] 33)
                  have R2 := R1.alloc (.cells #[.slice none 0 0, .slice none 0 0, .int .i64 0, .bool false] 33)
                  obtain ⟨Q, hQ⟩ : ∃ Q, Q = u1.heap.size := ⟨_, rfl⟩
                  have hQA : wd.heap.size ≤ Q := by rw [hQ]; exact R1.bel.size
                  rw [← hQ] at pQ R2 ⊢
                  clear hQ
                  generalize u1.alloc (.cells #[.slice none 0 0, .slice none 0 0, .int .i64 0, .bool false] 33) = ux at *
                  have G7 := HGD.out.low' R2.bel
                  refine hK.out _ _ ⟨G7.lit HLP.out, (G7.held N _ HZ.out).1⟩ (fun hHeld => ?_)
                  clear hK K
                  clear G7
                  refine wpAnyH_ready (rs := [14]) (by kernel_rfl) (by simp) ?_
                  refine (AllReadyH.cons (o := ⟨none, _, _, _, _, _⟩) rfl (fun K hK => ?_) AllReadyH.nil)
                  have z0 := Sm.cells_of pQ 0 _ rfl; have z1 := Sm.cells_of pQ 1 _ rfl; have z2 := Sm.cells_of pQ 2 _ rfl; have z3 := Sm.cells_of pQ 3 _ rfl
                  have zf0 := Sm.free_of pQ 0; have zf1 := Sm.free_of pQ 1; have zf2 := Sm.free_of pQ 2; have zf3 := Sm.free_of pQ 3
                  go_simp
                  have R3 := R2.set (Lg.turned4 ux Q (.slice tA tn tc) (.slice tB tm td) (.int .i64 f2) (.bool o2)) hQA (.inr rfl)
                  have p3 := Dk.set4 pQ rfl (.slice tA tn tc) (.slice tB tm td) (.int .i64 f2) (.bool o2)
                  clear z0 z1 z2 z3 zf0 zf1 zf2 zf3
                  generalize ((((ux.setCell ⟨Q, 0, none⟩ (.slice tA tn tc)).setCell ⟨Q, 1, none⟩ (.slice tB tm td)).setCell ⟨Q, 2, none⟩ (.int .i64 f2)).setCell ⟨Q, 3, none⟩ (.bool o2)) = u3 at *
                  have G7 := HGD.out.low' R3.bel
                  refine hK.out _ _ ⟨G7.lit HLP.out, (G7.held N _ HZ.out).1⟩ (fun hHeld => ?_)
                  clear hK K
                  clear G7
                  refine wpAnyH_take (i := 15) (oi := ⟨some 11, _, _, _, _, _⟩) (v := .int .i64 er) rfl (by kernel_rfl) (by kernel_rfl) (by kernel_rfl) (fun _ _ _ h => h) (Or.inl ⟨by rfl, ?_⟩) (by assumption) ?_
                  · intro w hSw; (try dsimp only at hSw); go_simp
                  simp only [Act.put, List.setIfInBounds_toArray, List.set_cons_zero, List.set_cons_succ]
                  refine wpAnyH_done (by kernel_rfl) ?_ _
                  clear hHeld
                  have hr3 : Dk.RefAt u3 (fun q => fp q ∨ q = X ∨ bl q) (.agg #[.slice tA tn tc, .slice tB tm td, .int .i64 f2, .bool o2]) M1 := R3.ref.off fun q _ e => .inl e
                  have hb3 : Below wi.heap.size wi u3 := BD0.out.trans (R3.bel.mono BD0.out.size)
                  clear R0 R1 R2 R3
                  go_wp2_with fail
                  go_meet
                  exact ⟨Q, tA, tn, tc, tB, tm, td, f2, o2, rfl, rfl, p3, hb3, hr3⟩
                · rw [if_pos (by simp [Region.wanted])]
                  go_simp
                  have pQ1 := heap_alloc_new wd (.cells #[.slice none 0 0, .slice none 0 0, .int .i64 0, .bool false] 33)
                  have R1 := R0.alloc (.cells #[.slice none 0 0, .slice none 0 0, .int .i64 0, .bool false] 33)
                  obtain ⟨Q, hQ⟩ : ∃ Q, Q = wd.heap.size := ⟨_, rfl⟩
                  have hQA : wd.heap.size ≤ Q := by rw [hQ]; exact R0.bel.size
                  rw [← hQ] at pQ1 R1 ⊢
                  clear hQ
                  generalize wd.alloc (.cells #[.slice none 0 0, .slice none 0 0, .int .i64 0, .bool false] 33) = u1 at *
                  have G7 := HGD.out.low' R1.bel
                  refine hK.out _ _ ⟨G7.lit HLP.out, (G7.held N _ HZ.out).1⟩ (fun hHeld => ?_)
                  clear hK K
                  clear G7
                  refine wpAnyH_ready (rs := [9]) (by kernel_rfl) (by simp) ?_
                  refine (AllReadyH.cons (o := ⟨some 124, _, _, _, _, _⟩) rfl (fun K hK => ?_) AllReadyH.nil)
                  go_simp
                  refine (WR.out _ _ R1.ref R1.lt).mono ?_
                  rintro e ux ⟨vn, rfl, href, k1⟩
                  obtain ⟨tA, tn, tc, tB, tm, td, f2, o2, rfl⟩ := Lg.quad href
                  have R2 := R1.call href k1
                  have pQ := (k1.block Q (Sm.lt_of pQ1)).trans pQ1
                  clear href k1
                  have G7 := HGD.out.low' R2.bel
                  refine hK.out _ _ ⟨G7.lit HLP.out, (G7.held N _ HZ.out).1⟩ (fun hHeld => ?_)
                  clear hK K
                  clear G7
                  refine wpAnyH_take (i := 10) (oi := ⟨some 114, _, _, _, _, _⟩) (v := .tuple #[.agg #[.slice tA tn tc, .slice tB tm td, .int .i64 f2, .bool o2], .int .i64 er]) rfl (by kernel_rfl) (by kernel_rfl) (by kernel_rfl) (fun _ _ _ h => h) (Or.inl ⟨by rfl, ?_⟩) (by assumption) ?_
                  · intro w hSw; (try dsimp only at hSw); go_simp
                  simp only [Act.put, List.setIfInBounds_toArray, List.set_cons_zero, List.set_cons_succ]
                  refine wpAnyH_take (i := 11) (oi := ⟨some 125, _, _, _, _, _⟩) (v := .agg #[.slice tA tn tc, .slice tB tm td, .int .i64 f2, .bool o2]) rfl (by kernel_rfl) (by kernel_rfl) (by kernel_rfl) (fun _ _ _ h => h) (Or.inl ⟨by rfl, ?_⟩) (by assumption) ?_
                  · intro w hSw; (try dsimp only at hSw); go_simp
                  simp only [Act.put, List.setIfInBounds_toArray, List.set_cons_zero, List.set_cons_succ]
                  refine wpAnyH_take (i := 12) (oi := ⟨some 126, _, _, _, _, _⟩) (v := .int .i64 er) rfl (by kernel_rfl) (by kernel_rfl) (by kernel_rfl) (fun _ _ _ h => h) (Or.inl ⟨by rfl, ?_⟩) (by assumption) ?_
                  · intro w hSw; (try dsimp only at hSw); go_simp
                  simp only [Act.put, List.setIfInBounds_toArray, List.set_cons_zero, List.set_cons_succ]
                  refine wpAnyH_ready (rs := [14]) (by kernel_rfl) (by simp) ?_
                  refine (AllReadyH.cons (o := ⟨none, _, _, _, _, _⟩) rfl (fun K hK => ?_) AllReadyH.nil)
                  have z0 := Sm.cells_of pQ 0 _ rfl; have z1 := Sm.cells_of pQ 1 _ rfl; have z2 := Sm.cells_of pQ 2 _ rfl; have z3 := Sm.cells_of pQ 3 _ rfl
                  have zf0 := Sm.free_of pQ 0; have zf1 := Sm.free_of pQ 1; have zf2 := Sm.free_of pQ 2; have zf3 := Sm.free_of pQ 3
                  go_simp
                  have R3 := R2.set (Lg.turned4 ux Q (.slice tA tn tc) (.slice tB tm td) (.int .i64 f2) (.bool o2)) hQA (.inr rfl)
                  have p3 := Dk.set4 pQ rfl (.slice tA tn tc) (.slice tB tm td) (.int .i64 f2) (.bool o2)
                  clear z0 z1 z2 z3 zf0 zf1 zf2 zf3
                  generalize ((((ux.setCell ⟨Q, 0, none⟩ (.slice tA tn tc)).setCell ⟨Q, 1, none⟩ (.slice tB tm td)).setCell ⟨Q, 2, none⟩ (.int .i64 f2)).setCell ⟨Q, 3, none⟩ (.bool o2)) = u3 at *
                  have G7 := HGD.out.low' R3.bel
                  refine hK.out _ _ ⟨G7.lit HLP.out, (G7.held N _ HZ.out).1⟩ (fun hHeld => ?_)
                  clear hK K
                  clear G7
                  refine wpAnyH_take (i := 15) (oi := ⟨some 11, _, _, _, _, _⟩) (v := .int .i64 er) rfl (by kernel_rfl) (by kernel_rfl) (by kernel_rfl) (fun _ _ _ h => h) (Or.inl ⟨by rfl, ?_⟩) (by assumption) ?_
                  · intro w hSw; (try dsimp only at hSw); go_simp
                  simp only [Act.put, List.setIfInBounds_toArray, List.set_cons_zero, List.set_cons_succ]
                  refine wpAnyH_done (by kernel_rfl) ?_ _
                  clear hHeld
                  have hr3 : Dk.RefAt u3 (fun q => fp q ∨ q = X ∨ bl q) (.agg #[.slice tA tn tc, .slice tB tm td, .int .i64 f2, .bool o2]) M1 := R3.ref.off fun q _ e => .inl e
                  have hb3 : Below wi.heap.size wi u3 := BD0.out.trans (R3.bel.mono BD0.out.size)
                  clear R0 R1 R2 R3
                  go_wp2_with fail
                  go_meet
                  exact ⟨Q, tA, tn, tc, tB, tm, td, f2, o2, rfl, rfl, p3, hb3, hr3⟩
              case rest =>
                obtain ⟨Q, tA, tn, tc, tB, tm, td, f2, o2, rfl, rfl, p3, hb3, hr3⟩ := hcut
                rename World => u3
                have G3 := GG.out.low' (BI.out.trans (hb3.mono BI.out.size))
                have xl3 := G3.lit HLP.out
                have y0 := Sm.cells_of p3 0 _ rfl; have y1 := Sm.cells_of p3 1 _ rfl; have y2 := Sm.cells_of p3 2 _ rfl; have y3 := Sm.cells_of p3 3 _ rfl
                have x2 := Sm.cells_of xl3 2 _ rfl; have x3 := Sm.cells_of xl3 3 _ rfl; have x4 := Sm.cells_of xl3 4 _ rfl; have x5 := Sm.cells_of xl3 5 _ rfl
                have xf2 := Sm.free_of xl3 2; have xf3 := Sm.free_of xl3 3; have xf4 := Sm.free_of xl3 4; have xf5 := Sm.free_of xl3 5
                have b4 := Lg.setD xl3 (.slice tA tn tc) (.slice tB tm td) (.int .i64 f2) (.bool o2)
                have t4 := Lg.setD_turned u3 X (.slice tA tn tc) (.slice tB tm td) (.int .i64 f2) (.bool o2)
                have G4 := G3.touch t4 (by rw [b4, HLP.out]) hr3 (fun q e => (G3.log q e).2.2)
                have H4 := Lib.hid G4
                clear b4 t4 G4 G3 xl3 hr3 p3 R0 hb3 xl
                go_upto_region 23 with (fail)
                clear y0 y1 y2 y3 x2 x3 x4 x5 xf2 xf3 xf4 xf5
                generalize ((((u3.setCell ⟨X, 2, none⟩ (.slice tA tn tc)).setCell ⟨X, 3, none⟩ (.slice tB tm td)).setCell ⟨X, 4, none⟩ (.int .i64 f2)).setCell ⟨X, 5, none⟩ (.bool o2)) = u4 at *
                have H5 := Lib.hid (H4.out.low' ((Below.refl _ u4).drew))
                refine wp_region_held_drew (S := (fun w' => w'.cell? ⟨X, 0, none⟩ = some (.pointer (some ⟨r, 0, none⟩)) ∧ w'.heap[N]? = some (.cells cs.toArray 46 (0, 0)))) (by kernel_rfl) ⟨H5.out.ptr, (H5.out.held N _ HZ.out).1⟩ (fun hHeld => ?_)
                generalize u4.drew = ue at *
                refine wpAnyH_take (i := 0) (oi := ⟨some 131, _, _, _, _, _⟩) (v := .pointer (some ⟨X, 0, none⟩)) rfl (by kernel_rfl) (by kernel_rfl) (by kernel_rfl) (fun _ _ _ h => h) (Or.inl ⟨by rfl, ?_⟩) (by assumption) ?_
                · intro w hSw; (try dsimp only at hSw); go_simp
                simp only [Act.put, List.setIfInBounds_toArray, List.set_cons_zero, List.set_cons_succ]
                refine wpAnyH_take (i := 1) (oi := ⟨some 132, _, _, _, _, _⟩) (v := .pointer (some ⟨X, 0, none⟩)) rfl (by kernel_rfl) (by kernel_rfl) (by kernel_rfl) (fun _ _ _ h => h) (Or.inl ⟨by rfl, ?_⟩) (by assumption) ?_
                · intro w hSw; (try dsimp only at hSw); go_simp
                simp only [Act.put, List.setIfInBounds_toArray, List.set_cons_zero, List.set_cons_succ]
                refine wpAnyH_take (i := 2) (oi := ⟨some 133, _, _, _, _, _⟩) (v := .pointer (some ⟨X, 0, none⟩)) rfl (by kernel_rfl) (by kernel_rfl) (by kernel_rfl) (fun _ _ _ h => h) (Or.inl ⟨by rfl, ?_⟩) (by assumption) ?_
                · intro w hSw; (try dsimp only at hSw); go_simp
                simp only [Act.put, List.setIfInBounds_toArray, List.set_cons_zero, List.set_cons_succ]
                refine wpAnyH_take (i := 3) (oi := ⟨some 134, _, _, _, _, _⟩) (v := .pointer (some ⟨r, 0, none⟩)) rfl (by kernel_rfl) (by kernel_rfl) (by kernel_rfl) (fun _ _ _ h => h) (Or.inl ⟨by rfl, ?_⟩) (by assumption) ?_
                · intro w hSw; (try dsimp only at hSw); have hh := hSw.1; go_simp
                simp only [Act.put, List.setIfInBounds_toArray, List.set_cons_zero, List.set_cons_succ]
                refine wpAnyH_take (i := 4) (oi := ⟨some 135, _, _, _, _, _⟩) (v := .int .i64 iv) rfl (by kernel_rfl) (by kernel_rfl) (by kernel_rfl) (fun _ _ _ h => h) (Or.inl ⟨by rfl, ?_⟩) (by assumption) ?_
                · intro w hSw; (try dsimp only at hSw); go_simp
                simp only [Act.put, List.setIfInBounds_toArray, List.set_cons_zero, List.set_cons_succ]
                refine wpAnyH_take (i := 5) (oi := ⟨some 136, _, _, _, _, _⟩) (v := .pointer (some ⟨N, 3, none⟩)) rfl (by kernel_rfl) (by kernel_rfl) (by kernel_rfl) (fun _ _ _ h => h) (Or.inl ⟨by rfl, ?_⟩) (by assumption) ?_
                · intro w hSw; (try dsimp only at hSw); go_simp
                simp only [Act.put, List.setIfInBounds_toArray, List.set_cons_zero, List.set_cons_succ]
                refine wpAnyH_take (i := 6) (oi := ⟨some 137, _, _, _, _, _⟩) (v := .int .i64 x.m) rfl (by kernel_rfl) (by kernel_rfl) (by kernel_rfl) (fun _ _ _ h => h) (Or.inl ⟨by rfl, ?_⟩) (by assumption) ?_
                · intro w hSw; (try dsimp only at hSw); have hh := (AC.out _ hSw.2).2.2.2.1; go_simp
                simp only [Act.put, List.setIfInBounds_toArray, List.set_cons_zero, List.set_cons_succ]
                refine wpAnyH_take (i := 7) (oi := ⟨some 138, _, _, _, _, _⟩) (v := .pointer (some ⟨N, 4, none⟩)) rfl (by kernel_rfl) (by kernel_rfl) (by kernel_rfl) (fun _ _ _ h => h) (Or.inl ⟨by rfl, ?_⟩) (by assumption) ?_
                · intro w hSw; (try dsimp only at hSw); go_simp
                simp only [Act.put, List.setIfInBounds_toArray, List.set_cons_zero, List.set_cons_succ]
                refine wpAnyH_take (i := 8) (oi := ⟨some 139, _, _, _, _, _⟩) (v := .string x.x) rfl (by kernel_rfl) (by kernel_rfl) (by kernel_rfl) (fun _ _ _ h => h) (Or.inl ⟨by rfl, ?_⟩) (by assumption) ?_
                · intro w hSw; (try dsimp only at hSw); have hh := (AC.out _ hSw.2).2.2.2.2.1; go_simp
                simp only [Act.put, List.setIfInBounds_toArray, List.set_cons_zero, List.set_cons_succ]
                refine wpAnyH_take (i := 10) (oi := ⟨some 141, _, _, _, _, _⟩) (v := .int .i64 er) rfl (by kernel_rfl) (by kernel_rfl) (by kernel_rfl) (fun _ _ _ h => h) (Or.inl ⟨by rfl, ?_⟩) (by assumption) ?_
                · intro w hSw; (try dsimp only at hSw); go_simp
                simp only [Act.put, List.setIfInBounds_toArray, List.set_cons_zero, List.set_cons_succ]
                refine wpAnyH_ready (rs := [9]) (by kernel_rfl) (by simp) ?_
                refine (AllReadyH.cons (o := ⟨some 140, _, _, _, _, _⟩) rfl (fun K hK => ?_) AllReadyH.nil)
                go_simp
                refine (SP.out _ _ H5.out.disk).mono ?_
                rintro e v6 ⟨fp6, rfl, st⟩
                have G6 := H5.out.disked st ML1.out.1
                have H6 := Lib.hid G6
                clear st G6
                refine hK.out _ _ ⟨H6.out.ptr, (H6.out.held N _ HZ.out).1⟩ (fun hHeld => ?_)
                clear hK K
                refine wpAnyH_take (i := 11) (oi := ⟨some 142, _, _, _, _, _⟩) (v := .bool true) rfl (by kernel_rfl) (by kernel_rfl) (by kernel_rfl) (fun _ _ _ h => h) (Or.inl ⟨by rfl, ?_⟩) (by assumption) ?_
                · intro w hSw; (try dsimp only at hSw); go_simp
                simp only [Act.put, List.setIfInBounds_toArray, List.set_cons_zero, List.set_cons_succ]
                refine wpAnyH_take (i := 12) (oi := ⟨some 143, _, _, _, _, _⟩) (v := .bool true) rfl (by kernel_rfl) (by kernel_rfl) (by kernel_rfl) (fun _ _ _ h => h) (Or.inl ⟨by rfl, ?_⟩) (by assumption) ?_
                · intro w hSw; (try dsimp only at hSw); go_simp
                simp only [Act.put, List.setIfInBounds_toArray, List.set_cons_zero, List.set_cons_succ]
                refine wpAnyH_take (i := 13) (oi := ⟨some 144, _, _, _, _, _⟩) (v := .pointer (some ⟨X, 0, none⟩)) rfl (by kernel_rfl) (by kernel_rfl) (by kernel_rfl) (fun _ _ _ h => h) (Or.inl ⟨by rfl, ?_⟩) (by assumption) ?_
                · intro w hSw; (try dsimp only at hSw); go_simp
                simp only [Act.put, List.setIfInBounds_toArray, List.set_cons_zero, List.set_cons_succ]
                refine wpAnyH_ready (rs := [14]) (by kernel_rfl) (by simp) ?_
                refine (AllReadyH.cons (o := ⟨some 145, _, _, _, _, _⟩) rfl (fun K hK => ?_) AllReadyH.nil)
                rw [if_pos (by rfl)]
                go_simp
                refine (OPN.out _ _ _ _ _ _ _ _ _ _ _ _ _ _ _ _ _ _ _ _ _ H6.out HEP.out (by have := ML1.out.2; omega)).mono ?_
                rintro e v7 ⟨rfl, hd, tu7⟩
                have act7 : v7.heap[N]? = some (.cells cs.toArray 46 (0, 0)) := (tu7.block N (Sm.lt_of (H6.out.held N _ HZ.out).1) (H6.out.held N _ HZ.out).2.2.1).trans (H6.out.held N _ HZ.out).1
                have ptr7 : v7.cell? ⟨X, 0, none⟩ = some (.pointer (some ⟨r, 0, none⟩)) := by
                  obtain ⟨_, _, _, _, _, _, _, _, _, _, _, _, hw7⟩ := id hd
                  exact hw7.1.ptr
                refine hK.out _ _ ⟨ptr7, act7⟩ (fun hHeld => ?_)
                clear hK K
                refine wpAnyH_take (i := 15) (oi := ⟨some 146, _, _, _, _, _⟩) (v := .bool true) rfl (by kernel_rfl) (by kernel_rfl) (by kernel_rfl) (fun _ _ _ h => h) (Or.inl ⟨by rfl, ?_⟩) (by assumption) ?_
                · intro w hSw; (try dsimp only at hSw); go_simp
                simp only [Act.put, List.setIfInBounds_toArray, List.set_cons_zero, List.set_cons_succ]
                refine wpAnyH_take (i := 16) (oi := ⟨some 4, _, _, _, _, _⟩) (v := .bool true) rfl (by kernel_rfl) (by kernel_rfl) (by kernel_rfl) (fun _ _ _ h => h) (Or.inl ⟨by rfl, ?_⟩) (by assumption) ?_
                · intro w hSw; (try dsimp only at hSw); go_simp
                simp only [Act.put, List.setIfInBounds_toArray, List.set_cons_zero, List.set_cons_succ]
                refine wpAnyH_done (by kernel_rfl) ?_ _
                clear hHeld
                go_wp2
                go_ret
                exact ⟨rfl, hd.did (by have := ML1.out.2; omega) ML1.out.1 HEP.out⟩
            · go_upto_region 21 with (fail)
              clear a2 d0'
              obtain ⟨wi, hwi⟩ : ∃ y, y = w1 := ⟨_, rfl⟩
              rw [← hwi]
              have BI : Hid (Below w1.heap.size w1 wi) := by rw [hwi]; exact Below.refl _ _
              clear hwi
              have GD := GG.out.low' BI.out
              obtain ⟨dl, hdl⟩ : ∃ q : List Value, q = [d0, d1, d2, d3] := ⟨_, rfl⟩
              have hda : dl.toArray = #[d0, d1, d2, d3] := by rw [hdl]
              have hdl4 : dl.length = 4 := by rw [hdl]; rfl
              obtain ⟨W1, hW1⟩ : ∃ y, y = Dk.spoil M x.n x.m x.x.data.toList := ⟨_, rfl⟩
              obtain ⟨M1, er⟩ := W1
              have ML1 : Hid (M1.lasts.length = M.lasts.length ∧ Dk.waits M1 = Dk.waits M) := ⟨by rw [← Dk.len_spoil M x.n x.m x.x.data.toList, ← hW1], by rw [← Dk.waits_spoil M x.n x.m x.x.data.toList, ← hW1]⟩
              have HMO := Lib.hid GD.disk.disk.ok
              have WR : Hid (∀ wx F, Dk.RefAt wx F (.agg dl.toArray) M → (∀ q, F q → q < wx.heap.size) → Calls Tryz.prog 32 #[.agg dl.toArray, .int .i64 x.n, .int .i64 x.m, .string x.x] wx fun e w' => ∃ v', e = .returned (.tuple #[v', .int .i64 er]) ∧ Dk.RefAt w' F v' M1 ∧ Below wx.heap.size wx w') := fun wx F h1 h2 => by
                have := r7Spoil_any wx F _ M HMO.out h1 h2 x.n x.m x.x
                rw [← hW1] at this
                exact this
              have SP : Hid (∀ wx fpx, Dk.Own B w0 wx r fpx M → Calls Tryz.prog 33 #[.pointer (some ⟨r, 0, none⟩), .int .i64 x.n, .int .i64 x.m, .string x.x] wx fun e w' => ∃ fp', e = .returned (.int .i64 er) ∧ Dk.Step B w0 wx w' r fpx fp' M1) := fun wx fpx hx => by
                have := Dk.spoil_in hx x.n x.m x.x OK.out.x
                rw [← hW1] at this
                exact this
              have HDA := Lib.hid hda
              have HDL := Lib.hid hdl
              have HGD := Lib.hid (GD.low' ((Below.refl _ wi).drew))
              clear hW1 hda hdl GD
              have R0 : Lg.R6 wi.drew wi.drew (fun q => fp q ∨ q = X ∨ bl q) (.agg dl.toArray) M := ⟨Below.refl _ _, by rw [HDA.out]; exact HGD.out.ref, HGD.out.lt⟩
              have xl := HGD.out.lit HLP.out
              go_cut [10, 11] from 115 (fun s10 s11 wx => ∃ (Q : Nat) (tA : Option Addr) (tn tc : Nat) (tB : Option Addr) (tm td : Nat) (f2 : Int) (o2 : Bool), s10 = .pointer (some ⟨Q, 0, none⟩) ∧ s11 = .int .i64 er ∧ (wx.heap[Q]? = some (.cells #[.slice tA tn tc, .slice tB tm td, .int .i64 f2, .bool o2] 33 (0, 0)) ∧ Below wi.heap.size wi wx ∧ Dk.RefAt wx (fun q => fp q ∨ q = X ∨ bl q) (.agg #[.slice tA tn tc, .slice tB tm td, .int .i64 f2, .bool o2]) M1))
              case first =>
                refine wp_region_held_drew (S := (fun w' => w'.heap[X]? = some (.cells #[.pointer (some ⟨r, 0, none⟩), lp, d0, d1, d2, d3, q0, q1, q2, q3, q4, q5, q6, q7, .int .i64 a, .int .i64 nn, .int .u64 (ep : Nat), .int .i64 n] 41 (0, 0)) ∧ w'.heap[N]? = some (.cells cs.toArray 46 (0, 0)))) (by kernel_rfl) ⟨xl, (HGD.out.held N _ HZ.out).1⟩ (fun hHeld => ?_)
                have BD0 : Hid (Below wi.heap.size wi wi.drew) := (Below.refl _ wi).drew
                generalize wi.drew = wd at *
                refine wpAnyH_take (i := 0) (oi := ⟨some 115, _, _, _, _, _⟩) (v := .pointer (some ⟨X, 0, none⟩)) rfl (by kernel_rfl) (by kernel_rfl) (by kernel_rfl) (fun _ _ _ h => h) (Or.inl ⟨by rfl, ?_⟩) (by assumption) ?_
                · intro w hSw; (try dsimp only at hSw); go_simp
                simp only [Act.put, List.setIfInBounds_toArray, List.set_cons_zero, List.set_cons_succ]
                refine wpAnyH_take (i := 1) (oi := ⟨some 116, _, _, _, _, _⟩) (v := .pointer (some ⟨X, 0, none⟩)) rfl (by kernel_rfl) (by kernel_rfl) (by kernel_rfl) (fun _ _ _ h => h) (Or.inl ⟨by rfl, ?_⟩) (by assumption) ?_
                · intro w hSw; (try dsimp only at hSw); go_simp
                simp only [Act.put, List.setIfInBounds_toArray, List.set_cons_zero, List.set_cons_succ]
                refine wpAnyH_take (i := 2) (oi := ⟨some 117, _, _, _, _, _⟩) (v := .pointer (some ⟨X, 2, none⟩)) rfl (by kernel_rfl) (by kernel_rfl) (by kernel_rfl) (fun _ _ _ h => h) (Or.inl ⟨by rfl, ?_⟩) (by assumption) ?_
                · intro w hSw; (try dsimp only at hSw); go_simp
                simp only [Act.put, List.setIfInBounds_toArray, List.set_cons_zero, List.set_cons_succ]
                refine wpAnyH_take (i := 3) (oi := ⟨some 118, _, _, _, _, _⟩) (v := .agg dl.toArray) rfl (by kernel_rfl) (by kernel_rfl) (by kernel_rfl) (fun _ _ _ h => h) (yieldsIf_load_mid (by rfl) _ _ rfl _ _ rfl dl _ (fun w hS => (by rw [HDL.out]; exact Lg.rowD hS.1)) Tryz.underlying33 rfl (Lg.info_dsk7 hdl4)) (by assumption) ?_
                simp only [Act.put, List.setIfInBounds_toArray, List.set_cons_zero, List.set_cons_succ]
                refine wpAnyH_take (i := 4) (oi := ⟨some 119, _, _, _, _, _⟩) (v := .int .i64 x.n) rfl (by kernel_rfl) (by kernel_rfl) (by kernel_rfl) (fun _ _ _ h => h) (Or.inl ⟨by rfl, ?_⟩) (by assumption) ?_
                · intro w hSw; (try dsimp only at hSw); go_simp
                simp only [Act.put, List.setIfInBounds_toArray, List.set_cons_zero, List.set_cons_succ]
                refine wpAnyH_take (i := 5) (oi := ⟨some 120, _, _, _, _, _⟩) (v := .pointer (some ⟨N, 3, none⟩)) rfl (by kernel_rfl) (by kernel_rfl) (by kernel_rfl) (fun _ _ _ h => h) (Or.inl ⟨by rfl, ?_⟩) (by assumption) ?_
                · intro w hSw; (try dsimp only at hSw); go_simp
                simp only [Act.put, List.setIfInBounds_toArray, List.set_cons_zero, List.set_cons_succ]
                refine wpAnyH_take (i := 6) (oi := ⟨some 121, _, _, _, _, _⟩) (v := .int .i64 x.m) rfl (by kernel_rfl) (by kernel_rfl) (by kernel_rfl) (fun _ _ _ h => h) (Or.inl ⟨by rfl, ?_⟩) (by assumption) ?_
                · intro w hSw; (try dsimp only at hSw); have hh := (AC.out _ hSw.2).2.2.2.1; go_simp
                simp only [Act.put, List.setIfInBounds_toArray, List.set_cons_zero, List.set_cons_succ]
                refine wpAnyH_take (i := 7) (oi := ⟨some 122, _, _, _, _, _⟩) (v := .pointer (some ⟨N, 4, none⟩)) rfl (by kernel_rfl) (by kernel_rfl) (by kernel_rfl) (fun _ _ _ h => h) (Or.inl ⟨by rfl, ?_⟩) (by assumption) ?_
                · intro w hSw; (try dsimp only at hSw); go_simp
                simp only [Act.put, List.setIfInBounds_toArray, List.set_cons_zero, List.set_cons_succ]
                refine wpAnyH_take (i := 8) (oi := ⟨some 123, _, _, _, _, _⟩) (v := .string x.x) rfl (by kernel_rfl) (by kernel_rfl) (by kernel_rfl) (fun _ _ _ h => h) (Or.inl ⟨by rfl, ?_⟩) (by assumption) ?_
                · intro w hSw; (try dsimp only at hSw); have hh := (AC.out _ hSw.2).2.2.2.2.1; go_simp
                simp only [Act.put, List.setIfInBounds_toArray, List.set_cons_zero, List.set_cons_succ]
                refine wpAnyH_ready (rs := [9, 13]) (by kernel_rfl) (by simp) ?_
                refine (AllReadyH.cons (o := ⟨some 124, _, _, _, _, _⟩) rfl (fun K hK => ?_) (AllReadyH.cons (o := ⟨some 10, _, _, _, _, _⟩) rfl (fun K hK => ?_) AllReadyH.nil))
                · go_simp
                  refine (WR.out _ _ R0.ref R0.lt).mono ?_
                  rintro e u1 ⟨vn, rfl, href, k1⟩
                  obtain ⟨tA, tn, tc, tB, tm, td, f2, o2, rfl⟩ := Lg.quad href
                  have R1 := R0.call href k1
                  clear href k1
                  have G7 := HGD.out.low' R1.bel
                  refine hK.out _ _ ⟨G7.lit HLP.out, (G7.held N _ HZ.out).1⟩ (fun hHeld => ?_)
                  clear hK K
                  clear G7
                  refine wpAnyH_take (i := 10) (oi := ⟨some 114, _, _, _, _, _⟩) (v := .tuple #[.agg #[.slice tA tn tc, .slice tB tm td, .int .i64 f2, .bool o2], .int .i64 er]) rfl (by kernel_rfl) (by kernel_rfl) (by kernel_rfl) (fun _ _ _ h => h) (Or.inl ⟨by rfl, ?_⟩) (by assumption) ?_
                  · intro w hSw; (try dsimp only at hSw); go_simp
                  simp only [Act.put, List.setIfInBounds_toArray, List.set_cons_zero, List.set_cons_succ]
                  refine wpAnyH_take (i := 11) (oi := ⟨some 125, _, _, _, _, _⟩) (v := .agg #[.slice tA tn tc, .slice tB tm td, .int .i64 f2, .bool o2]) rfl (by kernel_rfl) (by kernel_rfl) (by kernel_rfl) (fun _ _ _ h => h) (Or.inl ⟨by rfl, ?_⟩) (by assumption) ?_
                  · intro w hSw; (try dsimp only at hSw); go_simp
                  simp only [Act.put, List.setIfInBounds_toArray, List.set_cons_zero, List.set_cons_succ]
                  refine wpAnyH_take (i := 12) (oi := ⟨some 126, _, _, _, _, _⟩) (v := .int .i64 er) rfl (by kernel_rfl) (by kernel_rfl) (by kernel_rfl) (fun _ _ _ h => h) (Or.inl ⟨by rfl, ?_⟩) (by assumption) ?_
                  · intro w hSw; (try dsimp only at hSw); go_simp
                  simp only [Act.put, List.setIfInBounds_toArray, List.set_cons_zero, List.set_cons_succ]
                  refine wpAnyH_ready (rs := [13]) (by kernel_rfl) (by simp) ?_
                  refine (AllReadyH.cons (o := ⟨some 10, _, _, _, _, _⟩) rfl (fun K hK => ?_) AllReadyH.nil)
                  rw [if_pos (by simp [Region.wanted])]
                  go_simp
                  have pQ := heap_alloc_new u1 (.cells #[.slice none 0 0, .slice none 0 0, .int .i64 0, .bool false] 33)
                  have R2 := R1.alloc (.cells #[.slice none 0 0, .slice none 0 0, .int .i64 0, .bool false] 33)
                  obtain ⟨Q, hQ⟩ : ∃ Q, Q = u1.heap.size := ⟨_, rfl⟩
                  have hQA : wd.heap.size ≤ Q := by rw [hQ]; exact R1.bel.size
                  rw [← hQ] at pQ R2 ⊢
                  clear hQ
                  generalize u1.alloc (.cells #[.slice none 0 0, .slice none 0 0, .int .i64 0, .bool false] 33) = ux at *
                  have G7 := HGD.out.low' R2.bel
                  refine hK.out _ _ ⟨G7.lit HLP.out, (G7.held N _ HZ.out).1⟩ (fun hHeld => ?_)
                  clear hK K
                  clear G7
                  refine wpAnyH_ready (rs := [14]) (by kernel_rfl) (by simp) ?_
                  refine (AllReadyH.cons (o := ⟨none, _, _, _, _, _⟩) rfl (fun K hK => ?_) AllReadyH.nil)
                  have z0 := Sm.cells_of pQ 0 _ rfl; have z1 := Sm.cells_of pQ 1 _ rfl; have z2 := Sm.cells_of pQ 2 _ rfl; have z3 := Sm.cells_of pQ 3 _ rfl
                  have zf0 := Sm.free_of pQ 0; have zf1 := Sm.free_of pQ 1; have zf2 := Sm.free_of pQ 2; have zf3 := Sm.free_of pQ 3
                  go_simp
                  have R3 := R2.set (Lg.turned4 ux Q (.slice tA tn tc) (.slice tB tm td) (.int .i64 f2) (.bool o2)) hQA (.inr rfl)
                  have p3 := Dk.set4 pQ rfl (.slice tA tn tc) (.slice tB tm td) (.int .i64 f2) (.bool o2)
                  clear z0 z1 z2 z3 zf0 zf1 zf2 zf3
                  generalize ((((ux.setCell ⟨Q, 0, none⟩ (.slice tA tn tc)).setCell ⟨Q, 1, none⟩ (.slice tB tm td)).setCell ⟨Q, 2, none⟩ (.int .i64 f2)).setCell ⟨Q, 3, none⟩ (.bool o2)) = u3 at *
                  have G7 := HGD.out.low' R3.bel
                  refine hK.out _ _ ⟨G7.lit HLP.out, (G7.held N _ HZ.out).1⟩ (fun hHeld => ?_)
                  clear hK K
                  clear G7
                  refine wpAnyH_take (i := 15) (oi := ⟨some 11, _, _, _, _, _⟩) (v := .int .i64 er) rfl (by kernel_rfl) (by kernel_rfl) (by kernel_rfl) (fun _ _ _ h => h) (Or.inl ⟨by rfl, ?_⟩) (by assumption) ?_
                  · intro w hSw; (try dsimp only at hSw); go_simp
                  simp only [Act.put, List.setIfInBounds_toArray, List.set_cons_zero, List.set_cons_succ]
                  refine wpAnyH_done (by kernel_rfl) ?_ _
                  clear hHeld
                  have hr3 : Dk.RefAt u3 (fun q => fp q ∨ q = X ∨ bl q) (.agg #[.slice tA tn tc, .slice tB tm td, .int .i64 f2, .bool o2]) M1 := R3.ref.off fun q _ e => .inl e
                  have hb3 : Below wi.heap.size wi u3 := BD0.out.trans (R3.bel.mono BD0.out.size)
                  clear R0 R1 R2 R3
                  go_wp2_with fail
                  go_meet
                  exact ⟨Q, tA, tn, tc, tB, tm, td, f2, o2, rfl, rfl, p3, hb3, hr3⟩
                · rw [if_pos (by simp [Region.wanted])]
                  go_simp
                  have pQ1 := heap_alloc_new wd (.cells #[.slice none 0 0, .slice none 0 0, .int .i64 0, .bool false] 33)
                  have R1 := R0.alloc (.cells #[.slice none 0 0, .slice none 0 0, .int .i64 0, .bool false] 33)
                  obtain ⟨Q, hQ⟩ : ∃ Q, Q = wd.heap.size := ⟨_, rfl⟩
                  have hQA : wd.heap.size ≤ Q := by rw [hQ]; exact R0.bel.size
                  rw [← hQ] at pQ1 R1 ⊢
                  clear hQ
                  generalize wd.alloc (.cells #[.slice none 0 0, .slice none 0 0, .int .i64 0, .bool false] 33) = u1 at *
                  have G7 := HGD.out.low' R1.bel
                  refine hK.out _ _ ⟨G7.lit HLP.out, (G7.held N _ HZ.out).1⟩ (fun hHeld => ?_)
                  clear hK K
                  clear G7
                  refine wpAnyH_ready (rs := [9]) (by kernel_rfl) (by simp) ?_
                  refine (AllReadyH.cons (o := ⟨some 124, _, _, _, _, _⟩) rfl (fun K hK => ?_) AllReadyH.nil)
                  go_simp
                  refine (WR.out _ _ R1.ref R1.lt).mono ?_
                  rintro e ux ⟨vn, rfl, href, k1⟩
                  obtain ⟨tA, tn, tc, tB, tm, td, f2, o2, rfl⟩ := Lg.quad href
                  have R2 := R1.call href k1
                  have pQ := (k1.block Q (Sm.lt_of pQ1)).trans pQ1
                  clear href k1
                  have G7 := HGD.out.low' R2.bel
                  refine hK.out _ _ ⟨G7.lit HLP.out, (G7.held N _ HZ.out).1⟩ (fun hHeld => ?_)
                  clear hK K
                  clear G7
                  refine wpAnyH_take (i := 10) (oi := ⟨some 114, _, _, _, _, _⟩) (v := .tuple #[.agg #[.slice tA tn tc, .slice tB tm td, .int .i64 f2, .bool o2], .int .i64 er]) rfl (by kernel_rfl) (by kernel_rfl) (by kernel_rfl) (fun _ _ _ h => h) (Or.inl ⟨by rfl, ?_⟩) (by assumption) ?_
                  · intro w hSw; (try dsimp only at hSw); go_simp
                  simp only [Act.put, List.setIfInBounds_toArray, List.set_cons_zero, List.set_cons_succ]
                  refine wpAnyH_take (i := 11) (oi := ⟨some 125, _, _, _, _, _⟩) (v := .agg #[.slice tA tn tc, .slice tB tm td, .int .i64 f2, .bool o2]) rfl (by kernel_rfl) (by kernel_rfl) (by kernel_rfl) (fun _ _ _ h => h) (Or.inl ⟨by rfl, ?_⟩) (by assumption) ?_
                  · intro w hSw; (try dsimp only at hSw); go_simp
                  simp only [Act.put, List.setIfInBounds_toArray, List.set_cons_zero, List.set_cons_succ]
                  refine wpAnyH_take (i := 12) (oi := ⟨some 126, _, _, _, _, _⟩) (v := .int .i64 er) rfl (by kernel_rfl) (by kernel_rfl) (by kernel_rfl) (fun _ _ _ h => h) (Or.inl ⟨by rfl, ?_⟩) (by assumption) ?_
                  · intro w hSw; (try dsimp only at hSw); go_simp
                  simp only [Act.put, List.setIfInBounds_toArray, List.set_cons_zero, List.set_cons_succ]
                  refine wpAnyH_ready (rs := [14]) (by kernel_rfl) (by simp) ?_
                  refine (AllReadyH.cons (o := ⟨none, _, _, _, _, _⟩) rfl (fun K hK => ?_) AllReadyH.nil)
                  have z0 := Sm.cells_of pQ 0 _ rfl; have z1 := Sm.cells_of pQ 1 _ rfl; have z2 := Sm.cells_of pQ 2 _ rfl; have z3 := Sm.cells_of pQ 3 _ rfl
                  have zf0 := Sm.free_of pQ 0; have zf1 := Sm.free_of pQ 1; have zf2 := Sm.free_of pQ 2; have zf3 := Sm.free_of pQ 3
                  go_simp
                  have R3 := R2.set (Lg.turned4 ux Q (.slice tA tn tc) (.slice tB tm td) (.int .i64 f2) (.bool o2)) hQA (.inr rfl)
                  have p3 := Dk.set4 pQ rfl (.slice tA tn tc) (.slice tB tm td) (.int .i64 f2) (.bool o2)
                  clear z0 z1 z2 z3 zf0 zf1 zf2 zf3
                  generalize ((((ux.setCell ⟨Q, 0, none⟩ (.slice tA tn tc)).setCell ⟨Q, 1, none⟩ (.slice tB tm td)).setCell ⟨Q, 2, none⟩ (.int .i64 f2)).setCell ⟨Q, 3, none⟩ (.bool o2)) = u3 at *
                  have G7 := HGD.out.low' R3.bel
                  refine hK.out _ _ ⟨G7.lit HLP.out, (G7.held N _ HZ.out).1⟩ (fun hHeld => ?_)
                  clear hK K
                  clear G7
                  refine wpAnyH_take (i := 15) (oi := ⟨some 11, _, _, _, _, _⟩) (v := .int .i64 er) rfl (by kernel_rfl) (by kernel_rfl) (by kernel_rfl) (fun _ _ _ h => h) (Or.inl ⟨by rfl, ?_⟩) (by assumption) ?_
                  · intro w hSw; (try dsimp only at hSw); go_simp
                  simp only [Act.put, List.setIfInBounds_toArray, List.set_cons_zero, List.set_cons_succ]
                  refine wpAnyH_done (by kernel_rfl) ?_ _
                  clear hHeld
                  have hr3 : Dk.RefAt u3 (fun q => fp q ∨ q = X ∨ bl q) (.agg #[.slice tA tn tc, .slice tB tm td, .int .i64 f2, .bool o2]) M1 := R3.ref.off fun q _ e => .inl e
                  have hb3 : Below wi.heap.size wi u3 := BD0.out.trans (R3.bel.mono BD0.out.size)
                  clear R0 R1 R2 R3
                  go_wp2_with fail
                  go_meet
                  exact ⟨Q, tA, tn, tc, tB, tm, td, f2, o2, rfl, rfl, p3, hb3, hr3⟩
              case rest =>
                obtain ⟨Q, tA, tn, tc, tB, tm, td, f2, o2, rfl, rfl, p3, hb3, hr3⟩ := hcut
                rename World => u3
                have G3 := GG.out.low' (BI.out.trans (hb3.mono BI.out.size))
                have xl3 := G3.lit HLP.out
                have y0 := Sm.cells_of p3 0 _ rfl; have y1 := Sm.cells_of p3 1 _ rfl; have y2 := Sm.cells_of p3 2 _ rfl; have y3 := Sm.cells_of p3 3 _ rfl
                have x2 := Sm.cells_of xl3 2 _ rfl; have x3 := Sm.cells_of xl3 3 _ rfl; have x4 := Sm.cells_of xl3 4 _ rfl; have x5 := Sm.cells_of xl3 5 _ rfl
                have xf2 := Sm.free_of xl3 2; have xf3 := Sm.free_of xl3 3; have xf4 := Sm.free_of xl3 4; have xf5 := Sm.free_of xl3 5
                have b4 := Lg.setD xl3 (.slice tA tn tc) (.slice tB tm td) (.int .i64 f2) (.bool o2)
                have t4 := Lg.setD_turned u3 X (.slice tA tn tc) (.slice tB tm td) (.int .i64 f2) (.bool o2)
                have G4 := G3.touch t4 (by rw [b4, HLP.out]) hr3 (fun q e => (G3.log q e).2.2)
                have H4 := Lib.hid G4
                clear b4 t4 G4 G3 xl3 hr3 p3 R0 hb3 xl
                go_upto_region 23 with (fail)
                clear y0 y1 y2 y3 x2 x3 x4 x5 xf2 xf3 xf4 xf5
                generalize ((((u3.setCell ⟨X, 2, none⟩ (.slice tA tn tc)).setCell ⟨X, 3, none⟩ (.slice tB tm td)).setCell ⟨X, 4, none⟩ (.int .i64 f2)).setCell ⟨X, 5, none⟩ (.bool o2)) = u4 at *
                have H5 := Lib.hid (H4.out.low' ((Below.refl _ u4).drew))
                refine wp_region_held_drew (S := (fun w' => w'.cell? ⟨X, 0, none⟩ = some (.pointer (some ⟨r, 0, none⟩)) ∧ w'.heap[N]? = some (.cells cs.toArray 46 (0, 0)))) (by kernel_rfl) ⟨H5.out.ptr, (H5.out.held N _ HZ.out).1⟩ (fun hHeld => ?_)
                generalize u4.drew = ue at *
                refine wpAnyH_take (i := 0) (oi := ⟨some 131, _, _, _, _, _⟩) (v := .pointer (some ⟨X, 0, none⟩)) rfl (by kernel_rfl) (by kernel_rfl) (by kernel_rfl) (fun _ _ _ h => h) (Or.inl ⟨by rfl, ?_⟩) (by assumption) ?_
                · intro w hSw; (try dsimp only at hSw); go_simp
                simp only [Act.put, List.setIfInBounds_toArray, List.set_cons_zero, List.set_cons_succ]
                refine wpAnyH_take (i := 1) (oi := ⟨some 132, _, _, _, _, _⟩) (v := .pointer (some ⟨X, 0, none⟩)) rfl (by kernel_rfl) (by kernel_rfl) (by kernel_rfl) (fun _ _ _ h => h) (Or.inl ⟨by rfl, ?_⟩) (by assumption) ?_
                · intro w hSw; (try dsimp only at hSw); go_simp
                simp only [Act.put, List.setIfInBounds_toArray, List.set_cons_zero, List.set_cons_succ]
                refine wpAnyH_take (i := 2) (oi := ⟨some 133, _, _, _, _, _⟩) (v := .pointer (some ⟨X, 0, none⟩)) rfl (by kernel_rfl) (by kernel_rfl) (by kernel_rfl) (fun _ _ _ h => h) (Or.inl ⟨by rfl, ?_⟩) (by assumption) ?_
                · intro w hSw; (try dsimp only at hSw); go_simp
                simp only [Act.put, List.setIfInBounds_toArray, List.set_cons_zero, List.set_cons_succ]
                refine wpAnyH_take (i := 3) (oi := ⟨some 134, _, _, _, _, _⟩) (v := .pointer (some ⟨r, 0, none⟩)) rfl (by kernel_rfl) (by kernel_rfl) (by kernel_rfl) (fun _ _ _ h => h) (Or.inl ⟨by rfl, ?_⟩) (by assumption) ?_
                · intro w hSw; (try dsimp only at hSw); have hh := hSw.1; go_simp
                simp only [Act.put, List.setIfInBounds_toArray, List.set_cons_zero, List.set_cons_succ]
                refine wpAnyH_take (i := 4) (oi := ⟨some 135, _, _, _, _, _⟩) (v := .int .i64 x.n) rfl (by kernel_rfl) (by kernel_rfl) (by kernel_rfl) (fun _ _ _ h => h) (Or.inl ⟨by rfl, ?_⟩) (by assumption) ?_
                · intro w hSw; (try dsimp only at hSw); go_simp
                simp only [Act.put, List.setIfInBounds_toArray, List.set_cons_zero, List.set_cons_succ]
                refine wpAnyH_take (i := 5) (oi := ⟨some 136, _, _, _, _, _⟩) (v := .pointer (some ⟨N, 3, none⟩)) rfl (by kernel_rfl) (by kernel_rfl) (by kernel_rfl) (fun _ _ _ h => h) (Or.inl ⟨by rfl, ?_⟩) (by assumption) ?_
                · intro w hSw; (try dsimp only at hSw); go_simp
                simp only [Act.put, List.setIfInBounds_toArray, List.set_cons_zero, List.set_cons_succ]
                refine wpAnyH_take (i := 6) (oi := ⟨some 137, _, _, _, _, _⟩) (v := .int .i64 x.m) rfl (by kernel_rfl) (by kernel_rfl) (by kernel_rfl) (fun _ _ _ h => h) (Or.inl ⟨by rfl, ?_⟩) (by assumption) ?_
                · intro w hSw; (try dsimp only at hSw); have hh := (AC.out _ hSw.2).2.2.2.1; go_simp
                simp only [Act.put, List.setIfInBounds_toArray, List.set_cons_zero, List.set_cons_succ]
                refine wpAnyH_take (i := 7) (oi := ⟨some 138, _, _, _, _, _⟩) (v := .pointer (some ⟨N, 4, none⟩)) rfl (by kernel_rfl) (by kernel_rfl) (by kernel_rfl) (fun _ _ _ h => h) (Or.inl ⟨by rfl, ?_⟩) (by assumption) ?_
                · intro w hSw; (try dsimp only at hSw); go_simp
                simp only [Act.put, List.setIfInBounds_toArray, List.set_cons_zero, List.set_cons_succ]
                refine wpAnyH_take (i := 8) (oi := ⟨some 139, _, _, _, _, _⟩) (v := .string x.x) rfl (by kernel_rfl) (by kernel_rfl) (by kernel_rfl) (fun _ _ _ h => h) (Or.inl ⟨by rfl, ?_⟩) (by assumption) ?_
                · intro w hSw; (try dsimp only at hSw); have hh := (AC.out _ hSw.2).2.2.2.2.1; go_simp
                simp only [Act.put, List.setIfInBounds_toArray, List.set_cons_zero, List.set_cons_succ]
                refine wpAnyH_take (i := 10) (oi := ⟨some 141, _, _, _, _, _⟩) (v := .int .i64 er) rfl (by kernel_rfl) (by kernel_rfl) (by kernel_rfl) (fun _ _ _ h => h) (Or.inl ⟨by rfl, ?_⟩) (by assumption) ?_
                · intro w hSw; (try dsimp only at hSw); go_simp
                simp only [Act.put, List.setIfInBounds_toArray, List.set_cons_zero, List.set_cons_succ]
                refine wpAnyH_ready (rs := [9]) (by kernel_rfl) (by simp) ?_
                refine (AllReadyH.cons (o := ⟨some 140, _, _, _, _, _⟩) rfl (fun K hK => ?_) AllReadyH.nil)
                go_simp
                refine (SP.out _ _ H5.out.disk).mono ?_
                rintro e v6 ⟨fp6, rfl, st⟩
                have G6 := H5.out.disked st ML1.out.1
                have H6 := Lib.hid G6
                clear st G6
                refine hK.out _ _ ⟨H6.out.ptr, (H6.out.held N _ HZ.out).1⟩ (fun hHeld => ?_)
                clear hK K
                refine wpAnyH_take (i := 11) (oi := ⟨some 142, _, _, _, _, _⟩) (v := .bool true) rfl (by kernel_rfl) (by kernel_rfl) (by kernel_rfl) (fun _ _ _ h => h) (Or.inl ⟨by rfl, ?_⟩) (by assumption) ?_
                · intro w hSw; (try dsimp only at hSw); go_simp
                simp only [Act.put, List.setIfInBounds_toArray, List.set_cons_zero, List.set_cons_succ]
                refine wpAnyH_take (i := 12) (oi := ⟨some 143, _, _, _, _, _⟩) (v := .bool true) rfl (by kernel_rfl) (by kernel_rfl) (by kernel_rfl) (fun _ _ _ h => h) (Or.inl ⟨by rfl, ?_⟩) (by assumption) ?_
                · intro w hSw; (try dsimp only at hSw); go_simp
                simp only [Act.put, List.setIfInBounds_toArray, List.set_cons_zero, List.set_cons_succ]
                refine wpAnyH_take (i := 13) (oi := ⟨some 144, _, _, _, _, _⟩) (v := .pointer (some ⟨X, 0, none⟩)) rfl (by kernel_rfl) (by kernel_rfl) (by kernel_rfl) (fun _ _ _ h => h) (Or.inl ⟨by rfl, ?_⟩) (by assumption) ?_
                · intro w hSw; (try dsimp only at hSw); go_simp
                simp only [Act.put, List.setIfInBounds_toArray, List.set_cons_zero, List.set_cons_succ]
                refine wpAnyH_ready (rs := [14]) (by kernel_rfl) (by simp) ?_
                refine (AllReadyH.cons (o := ⟨some 145, _, _, _, _, _⟩) rfl (fun K hK => ?_) AllReadyH.nil)
                rw [if_pos (by rfl)]
                go_simp
                refine (OPN.out _ _ _ _ _ _ _ _ _ _ _ _ _ _ _ _ _ _ _ _ _ H6.out HEP.out (by have := ML1.out.2; omega)).mono ?_
                rintro e v7 ⟨rfl, hd, tu7⟩
                have act7 : v7.heap[N]? = some (.cells cs.toArray 46 (0, 0)) := (tu7.block N (Sm.lt_of (H6.out.held N _ HZ.out).1) (H6.out.held N _ HZ.out).2.2.1).trans (H6.out.held N _ HZ.out).1
                have ptr7 : v7.cell? ⟨X, 0, none⟩ = some (.pointer (some ⟨r, 0, none⟩)) := by
                  obtain ⟨_, _, _, _, _, _, _, _, _, _, _, _, hw7⟩ := id hd
                  exact hw7.1.ptr
                refine hK.out _ _ ⟨ptr7, act7⟩ (fun hHeld => ?_)
                clear hK K
                refine wpAnyH_take (i := 15) (oi := ⟨some 146, _, _, _, _, _⟩) (v := .bool true) rfl (by kernel_rfl) (by kernel_rfl) (by kernel_rfl) (fun _ _ _ h => h) (Or.inl ⟨by rfl, ?_⟩) (by assumption) ?_
                · intro w hSw; (try dsimp only at hSw); go_simp
                simp only [Act.put, List.setIfInBounds_toArray, List.set_cons_zero, List.set_cons_succ]
                refine wpAnyH_take (i := 16) (oi := ⟨some 4, _, _, _, _, _⟩) (v := .bool true) rfl (by kernel_rfl) (by kernel_rfl) (by kernel_rfl) (fun _ _ _ h => h) (Or.inl ⟨by rfl, ?_⟩) (by assumption) ?_
                · intro w hSw; (try dsimp only at hSw); go_simp
                simp only [Act.put, List.setIfInBounds_toArray, List.set_cons_zero, List.set_cons_succ]
                refine wpAnyH_done (by kernel_rfl) ?_ _
                clear hHeld
                go_wp2
                go_ret
                exact ⟨rfl, hd.did (by have := ML1.out.2; omega) ML1.out.1 HEP.out⟩
          · go_upto_region 21 with (fail)
            clear a2 d0'
            obtain ⟨wi, hwi⟩ : ∃ y, y = w1 := ⟨_, rfl⟩
            rw [← hwi]
            have BI : Hid (Below w1.heap.size w1 wi) := by rw [hwi]; exact Below.refl _ _
            clear hwi
            have GD := GG.out.low' BI.out
            obtain ⟨dl, hdl⟩ : ∃ q : List Value, q = [d0, d1, d2, d3] := ⟨_, rfl⟩
            have hda : dl.toArray = #[d0, d1, d2, d3] := by rw [hdl]
            have hdl4 : dl.length = 4 := by rw [hdl]; rfl
            obtain ⟨W1, hW1⟩ : ∃ y, y = Dk.spoil M x.n x.m x.x.data.toList := ⟨_, rfl⟩
            obtain ⟨M1, er⟩ := W1
            have ML1 : Hid (M1.lasts.length = M.lasts.length ∧ Dk.waits M1 = Dk.waits M) := ⟨by rw [← Dk.len_spoil M x.n x.m x.x.data.toList, ← hW1], by rw [← Dk.waits_spoil M x.n x.m x.x.data.toList, ← hW1]⟩
            have HMO := Lib.hid GD.disk.disk.ok
            have WR : Hid (∀ wx F, Dk.RefAt wx F (.agg dl.toArray) M → (∀ q, F q → q < wx.heap.size) → Calls Tryz.prog 32 #[.agg dl.toArray, .int .i64 x.n, .int .i64 x.m, .string x.x] wx fun e w' => ∃ v', e = .returned (.tuple #[v', .int .i64 er]) ∧ Dk.RefAt w' F v' M1 ∧ Below wx.heap.size wx w') := fun wx F h1 h2 => by
              have := r7Spoil_any wx F _ M HMO.out h1 h2 x.n x.m x.x
              rw [← hW1] at this
              exact this
            have SP : Hid (∀ wx fpx, Dk.Own B w0 wx r fpx M → Calls Tryz.prog 33 #[.pointer (some ⟨r, 0, none⟩), .int .i64 x.n, .int .i64 x.m, .string x.x] wx fun e w' => ∃ fp', e = .returned (.int .i64 er) ∧ Dk.Step B w0 wx w' r fpx fp' M1) := fun wx fpx hx => by
              have := Dk.spoil_in hx x.n x.m x.x OK.out.x
              rw [← hW1] at this
              exact this
            have HDA := Lib.hid hda
            have HDL := Lib.hid hdl
            have HGD := Lib.hid (GD.low' ((Below.refl _ wi).drew))
            clear hW1 hda hdl GD
            have R0 : Lg.R6 wi.drew wi.drew (fun q => fp q ∨ q = X ∨ bl q) (.agg dl.toArray) M := ⟨Below.refl _ _, by rw [HDA.out]; exact HGD.out.ref, HGD.out.lt⟩
            have xl := HGD.out.lit HLP.out
            go_cut [10, 11] from 115 (fun s10 s11 wx => ∃ (Q : Nat) (tA : Option Addr) (tn tc : Nat) (tB : Option Addr) (tm td : Nat) (f2 : Int) (o2 : Bool), s10 = .pointer (some ⟨Q, 0, none⟩) ∧ s11 = .int .i64 er ∧ (wx.heap[Q]? = some (.cells #[.slice tA tn tc, .slice tB tm td, .int .i64 f2, .bool o2] 33 (0, 0)) ∧ Below wi.heap.size wi wx ∧ Dk.RefAt wx (fun q => fp q ∨ q = X ∨ bl q) (.agg #[.slice tA tn tc, .slice tB tm td, .int .i64 f2, .bool o2]) M1))
            case first =>
              refine wp_region_held_drew (S := (fun w' => w'.heap[X]? = some (.cells #[.pointer (some ⟨r, 0, none⟩), lp, d0, d1, d2, d3, q0, q1, q2, q3, q4, q5, q6, q7, .int .i64 a, .int .i64 nn, .int .u64 (ep : Nat), .int .i64 n] 41 (0, 0)) ∧ w'.heap[N]? = some (.cells cs.toArray 46 (0, 0)))) (by kernel_rfl) ⟨xl, (HGD.out.held N _ HZ.out).1⟩ (fun hHeld => ?_)
              have BD0 : Hid (Below wi.heap.size wi wi.drew) := (Below.refl _ wi).drew
              generalize wi.drew = wd at *
              refine wpAnyH_take (i := 0) (oi := ⟨some 115, _, _, _, _, _⟩) (v := .pointer (some ⟨X, 0, none⟩)) rfl (by kernel_rfl) (by kernel_rfl) (by kernel_rfl) (fun _ _ _ h => h) (Or.inl ⟨by rfl, ?_⟩) (by assumption) ?_
              · intro w hSw; (try dsimp only at hSw); go_simp
              simp only [Act.put, List.setIfInBounds_toArray, List.set_cons_zero, List.set_cons_succ]
              refine wpAnyH_take (i := 1) (oi := ⟨some 116, _, _, _, _, _⟩) (v := .pointer (some ⟨X, 0, none⟩)) rfl (by kernel_rfl) (by kernel_rfl) (by kernel_rfl) (fun _ _ _ h => h) (Or.inl ⟨by rfl, ?_⟩) (by assumption) ?_
              · intro w hSw; (try dsimp only at hSw); go_simp
              simp only [Act.put, List.setIfInBounds_toArray, List.set_cons_zero, List.set_cons_succ]
              refine wpAnyH_take (i := 2) (oi := ⟨some 117, _, _, _, _, _⟩) (v := .pointer (some ⟨X, 2, none⟩)) rfl (by kernel_rfl) (by kernel_rfl) (by kernel_rfl) (fun _ _ _ h => h) (Or.inl ⟨by rfl, ?_⟩) (by assumption) ?_
              · intro w hSw; (try dsimp only at hSw); go_simp
              simp only [Act.put, List.setIfInBounds_toArray, List.set_cons_zero, List.set_cons_succ]
              refine wpAnyH_take (i := 3) (oi := ⟨some 118, _, _, _, _, _⟩) (v := .agg dl.toArray) rfl (by kernel_rfl) (by kernel_rfl) (by kernel_rfl) (fun _ _ _ h => h) (yieldsIf_load_mid (by rfl) _ _ rfl _ _ rfl dl _ (fun w hS => (by rw [HDL.out]; exact Lg.rowD hS.1)) Tryz.underlying33 rfl (Lg.info_dsk7 hdl4)) (by assumption) ?_
              simp only [Act.put, List.setIfInBounds_toArray, List.set_cons_zero, List.set_cons_succ]
              refine wpAnyH_take (i := 4) (oi := ⟨some 119, _, _, _, _, _⟩) (v := .int .i64 x.n) rfl (by kernel_rfl) (by kernel_rfl) (by kernel_rfl) (fun _ _ _ h => h) (Or.inl ⟨by rfl, ?_⟩) (by assumption) ?_
              · intro w hSw; (try dsimp only at hSw); go_simp
              simp only [Act.put, List.setIfInBounds_toArray, List.set_cons_zero, List.set_cons_succ]
              refine wpAnyH_take (i := 5) (oi := ⟨some 120, _, _, _, _, _⟩) (v := .pointer (some ⟨N, 3, none⟩)) rfl (by kernel_rfl) (by kernel_rfl) (by kernel_rfl) (fun _ _ _ h => h) (Or.inl ⟨by rfl, ?_⟩) (by assumption) ?_
              · intro w hSw; (try dsimp only at hSw); go_simp
              simp only [Act.put, List.setIfInBounds_toArray, List.set_cons_zero, List.set_cons_succ]
              refine wpAnyH_take (i := 6) (oi := ⟨some 121, _, _, _, _, _⟩) (v := .int .i64 x.m) rfl (by kernel_rfl) (by kernel_rfl) (by kernel_rfl) (fun _ _ _ h => h) (Or.inl ⟨by rfl, ?_⟩) (by assumption) ?_
              · intro w hSw; (try dsimp only at hSw); have hh := (AC.out _ hSw.2).2.2.2.1; go_simp
              simp only [Act.put, List.setIfInBounds_toArray, List.set_cons_zero, List.set_cons_succ]
              refine wpAnyH_take (i := 7) (oi := ⟨some 122, _, _, _, _, _⟩) (v := .pointer (some ⟨N, 4, none⟩)) rfl (by kernel_rfl) (by kernel_rfl) (by kernel_rfl) (fun _ _ _ h => h) (Or.inl ⟨by rfl, ?_⟩) (by assumption) ?_
              · intro w hSw; (try dsimp only at hSw); go_simp
              simp only [Act.put, List.setIfInBounds_toArray, List.set_cons_zero, List.set_cons_succ]
              refine wpAnyH_take (i := 8) (oi := ⟨some 123, _, _, _, _, _⟩) (v := .string x.x) rfl (by kernel_rfl) (by kernel_rfl) (by kernel_rfl) (fun _ _ _ h => h) (Or.inl ⟨by rfl, ?_⟩) (by assumption) ?_
              · intro w hSw; (try dsimp only at hSw); have hh := (AC.out _ hSw.2).2.2.2.2.1; go_simp
              simp only [Act.put, List.setIfInBounds_toArray, List.set_cons_zero, List.set_cons_succ]
              refine wpAnyH_ready (rs := [9, 13]) (by kernel_rfl) (by simp) ?_
              refine (AllReadyH.cons (o := ⟨some 124, _, _, _, _, _⟩) rfl (fun K hK => ?_) (AllReadyH.cons (o := ⟨some 10, _, _, _, _, _⟩) rfl (fun K hK => ?_) AllReadyH.nil))
              · go_simp
                refine (WR.out _ _ R0.ref R0.lt).mono ?_
                rintro e u1 ⟨vn, rfl, href, k1⟩
                obtain ⟨tA, tn, tc, tB, tm, td, f2, o2, rfl⟩ := Lg.quad href
                have R1 := R0.call href k1
                clear href k1
                have G7 := HGD.out.low' R1.bel
                refine hK.out _ _ ⟨G7.lit HLP.out, (G7.held N _ HZ.out).1⟩ (fun hHeld => ?_)
                clear hK K
                clear G7
                refine wpAnyH_take (i := 10) (oi := ⟨some 114, _, _, _, _, _⟩) (v := .tuple #[.agg #[.slice tA tn tc, .slice tB tm td, .int .i64 f2, .bool o2], .int .i64 er]) rfl (by kernel_rfl) (by kernel_rfl) (by kernel_rfl) (fun _ _ _ h => h) (Or.inl ⟨by rfl, ?_⟩) (by assumption) ?_
                · intro w hSw; (try dsimp only at hSw); go_simp
                simp only [Act.put, List.setIfInBounds_toArray, List.set_cons_zero, List.set_cons_succ]
                refine wpAnyH_take (i := 11) (oi := ⟨some 125, _, _, _, _, _⟩) (v := .agg #[.slice tA tn tc, .slice tB tm td, .int .i64 f2, .bool o2]) rfl (by kernel_rfl) (by kernel_rfl) (by kernel_rfl) (fun _ _ _ h => h) (Or.inl ⟨by rfl, ?_⟩) (by assumption) ?_
                · intro w hSw; (try dsimp only at hSw); go_simp
                simp only [Act.put, List.setIfInBounds_toArray, List.set_cons_zero, List.set_cons_succ]
                refine wpAnyH_take (i := 12) (oi := ⟨some 126, _, _, _, _, _⟩) (v := .int .i64 er) rfl (by kernel_rfl) (by kernel_rfl) (by kernel_rfl) (fun _ _ _ h => h) (Or.inl ⟨by rfl, ?_⟩) (by assumption) ?_
                · intro w hSw; (try dsimp only at hSw); go_simp
                simp only [Act.put, List.setIfInBounds_toArray, List.set_cons_zero, List.set_cons_succ]
                refine wpAnyH_ready (rs := [13]) (by kernel_rfl) (by simp) ?_
                refine (AllReadyH.cons (o := ⟨some 10, _, _, _, _, _⟩) rfl (fun K hK => ?_) AllReadyH.nil)
                rw [if_pos (by simp [Region.wanted])]
                go_simp
                have pQ := heap_alloc_new u1 (.cells #[.slice none 0 0, .slice none 0 0, .int .i64 0, .bool false] 33)
                have R2 := R1.alloc (.cells #[.slice none 0 0, .slice none 0 0, .int .i64 0, .bool false] 33)
                obtain ⟨Q, hQ⟩ : ∃ Q, Q = u1.heap.size := ⟨_, rfl⟩
                have hQA : wd.heap.size ≤ Q := by rw [hQ]; exact R1.bel.size
                rw [← hQ] at pQ R2 ⊢
                clear hQ
                generalize u1.alloc (.cells #[.slice none 0 0, .slice none 0 0, .int .i64 0, .bool false] 33) = ux at *
                have G7 := HGD.out.low' R2.bel
                refine hK.out _ _ ⟨G7.lit HLP.out, (G7.held N _ HZ.out).1⟩ (fun hHeld => ?_)
                clear hK K
                clear G7
                refine wpAnyH_ready (rs := [14]) (by kernel_rfl) (by simp) ?_
                refine (AllReadyH.cons (o := ⟨none, _, _, _, _, _⟩) rfl (fun K hK => ?_) AllReadyH.nil)
                have z0 := Sm.cells_of pQ 0 _ rfl; have z1 := Sm.cells_of pQ 1 _ rfl; have z2 := Sm.cells_of pQ 2 _ rfl; have z3 := Sm.cells_of pQ 3 _ rfl
                have zf0 := Sm.free_of pQ 0; have zf1 := Sm.free_of pQ 1; have zf2 := Sm.free_of pQ 2; have zf3 := Sm.free_of pQ 3
                go_simp
                have R3 := R2.set (Lg.turned4 ux Q (.slice tA tn tc) (.slice tB tm td) (.int .i64 f2) (.bool o2)) hQA (.inr rfl)
                have p3 := Dk.set4 pQ rfl (.slice tA tn tc) (.slice tB tm td) (.int .i64 f2) (.bool o2)
                clear z0 z1 z2 z3 zf0 zf1 zf2 zf3
                generalize ((((ux.setCell ⟨Q, 0, none⟩ (.slice tA tn tc)).setCell ⟨Q, 1, none⟩ (.slice tB tm td)).setCell ⟨Q, 2, none⟩ (.int .i64 f2)).setCell ⟨Q, 3, none⟩ (.bool o2)) = u3 at *
                have G7 := HGD.out.low' R3.bel
                refine hK.out _ _ ⟨G7.lit HLP.out, (G7.held N _ HZ.out).1⟩ (fun hHeld => ?_)
                clear hK K
                clear G7
                refine wpAnyH_take (i := 15) (oi := ⟨some 11, _, _, _, _, _⟩) (v := .int .i64 er) rfl (by kernel_rfl) (by kernel_rfl) (by kernel_rfl) (fun _ _ _ h => h) (Or.inl ⟨by rfl, ?_⟩) (by assumption) ?_
                · intro w hSw; (try dsimp only at hSw); go_simp
                simp only [Act.put, List.setIfInBounds_toArray, List.set_cons_zero, List.set_cons_succ]
                refine wpAnyH_done (by kernel_rfl) ?_ _
                clear hHeld
                have hr3 : Dk.RefAt u3 (fun q => fp q ∨ q = X ∨ bl q) (.agg #[.slice tA tn tc, .slice tB tm td, .int .i64 f2, .bool o2]) M1 := R3.ref.off fun q _ e => .inl e
                have hb3 : Below wi.heap.size wi u3 := BD0.out.trans (R3.bel.mono BD0.out.size)
                clear R0 R1 R2 R3
                go_wp2_with fail
                go_meet
                exact ⟨Q, tA, tn, tc, tB, tm, td, f2, o2, rfl, rfl, p3, hb3, hr3⟩
              · rw [if_pos (by simp [Region.wanted])]
                go_simp
                have pQ1 := heap_alloc_new wd (.cells #[.slice none 0 0, .slice none 0 0, .int .i64 0, .bool false] 33)
                have R1 := R0.alloc (.cells #[.slice none 0 0, .slice none 0 0, .int .i64 0, .bool false] 33)
                obtain ⟨Q, hQ⟩ : ∃ Q, Q = wd.heap.size := ⟨_, rfl⟩
                have hQA : wd.heap.size ≤ Q := by rw [hQ]; exact R0.bel.size
                rw [← hQ] at pQ1 R1 ⊢
                clear hQ
                generalize wd.alloc (.cells #[.slice none 0 0, .slice none 0 0, .int .i64 0, .bool false] 33) = u1 at *
                have G7 := HGD.out.low' R1.bel
                refine hK.out _ _ ⟨G7.lit HLP.out, (G7.held N _ HZ.out).1⟩ (fun hHeld => ?_)
                clear hK K
                clear G7
                refine wpAnyH_ready (rs := [9]) (by kernel_rfl) (by simp) ?_
                refine (AllReadyH.cons (o := ⟨some 124, _, _, _, _, _⟩) rfl (fun K hK => ?_) AllReadyH.nil)
                go_simp
                refine (WR.out _ _ R1.ref R1.lt).mono ?_
                rintro e ux ⟨vn, rfl, href, k1⟩
                obtain ⟨tA, tn, tc, tB, tm, td, f2, o2, rfl⟩ := Lg.quad href
                have R2 := R1.call href k1
                have pQ := (k1.block Q (Sm.lt_of pQ1)).trans pQ1
                clear href k1
                have G7 := HGD.out.low' R2.bel
                refine hK.out _ _ ⟨G7.lit HLP.out, (G7.held N _ HZ.out).1⟩ (fun hHeld => ?_)
                clear hK K
                clear G7
                refine wpAnyH_take (i := 10) (oi := ⟨some 114, _, _, _, _, _⟩) (v := .tuple #[.agg #[.slice tA tn tc, .slice tB tm td, .int .i64 f2, .bool o2], .int .i64 er]) rfl (by kernel_rfl) (by kernel_rfl) (by kernel_rfl) (fun _ _ _ h => h) (Or.inl ⟨by rfl, ?_⟩) (by assumption) ?_
                · intro w hSw; (try dsimp only at hSw); go_simp
                simp only [Act.put, List.setIfInBounds_toArray, List.set_cons_zero, List.set_cons_succ]
                refine wpAnyH_take (i := 11) (oi := ⟨some 125, _, _, _, _, _⟩) (v := .agg #[.slice tA tn tc, .slice tB tm td, .int .i64 f2, .bool o2]) rfl (by kernel_rfl) (by kernel_rfl) (by kernel_rfl) (fun _ _ _ h => h) (Or.inl ⟨by rfl, ?_⟩) (by assumption) ?_
                · intro w hSw; (try dsimp only at hSw); go_simp
                simp only [Act.put, List.setIfInBounds_toArray, List.set_cons_zero, List.set_cons_succ]
                refine wpAnyH_take (i := 12) (oi := ⟨some 126, _, _, _, _, _⟩) (v := .int .i64 er) rfl (by kernel_rfl) (by kernel_rfl) (by kernel_rfl) (fun _ _ _ h => h) (Or.inl ⟨by rfl, ?_⟩) (by assumption) ?_
                · intro w hSw; (try dsimp only at hSw); go_simp
                simp only [Act.put, List.setIfInBounds_toArray, List.set_cons_zero, List.set_cons_succ]
                refine wpAnyH_ready (rs := [14]) (by kernel_rfl) (by simp) ?_
                refine (AllReadyH.cons (o := ⟨none, _, _, _, _, _⟩) rfl (fun K hK => ?_) AllReadyH.nil)
                have z0 := Sm.cells_of pQ 0 _ rfl; have z1 := Sm.cells_of pQ 1 _ rfl; have z2 := Sm.cells_of pQ 2 _ rfl; have z3 := Sm.cells_of pQ 3 _ rfl
                have zf0 := Sm.free_of pQ 0; have zf1 := Sm.free_of pQ 1; have zf2 := Sm.free_of pQ 2; have zf3 := Sm.free_of pQ 3
                go_simp
                have R3 := R2.set (Lg.turned4 ux Q (.slice tA tn tc) (.slice tB tm td) (.int .i64 f2) (.bool o2)) hQA (.inr rfl)
                have p3 := Dk.set4 pQ rfl (.slice tA tn tc) (.slice tB tm td) (.int .i64 f2) (.bool o2)
                clear z0 z1 z2 z3 zf0 zf1 zf2 zf3
                generalize ((((ux.setCell ⟨Q, 0, none⟩ (.slice tA tn tc)).setCell ⟨Q, 1, none⟩ (.slice tB tm td)).setCell ⟨Q, 2, none⟩ (.int .i64 f2)).setCell ⟨Q, 3, none⟩ (.bool o2)) = u3 at *
                have G7 := HGD.out.low' R3.bel
                refine hK.out _ _ ⟨G7.lit HLP.out, (G7.held N _ HZ.out).1⟩ (fun hHeld => ?_)
                clear hK K
                clear G7
                refine wpAnyH_take (i := 15) (oi := ⟨some 11, _, _, _, _, _⟩) (v := .int .i64 er) rfl (by kernel_rfl) (by kernel_rfl) (by kernel_rfl) (fun _ _ _ h => h) (Or.inl ⟨by rfl, ?_⟩) (by assumption) ?_
                · intro w hSw; (try dsimp only at hSw); go_simp
                simp only [Act.put, List.setIfInBounds_toArray, List.set_cons_zero, List.set_cons_succ]
                refine wpAnyH_done (by kernel_rfl) ?_ _
                clear hHeld
                have hr3 : Dk.RefAt u3 (fun q => fp q ∨ q = X ∨ bl q) (.agg #[.slice tA tn tc, .slice tB tm td, .int .i64 f2, .bool o2]) M1 := R3.ref.off fun q _ e => .inl e
                have hb3 : Below wi.heap.size wi u3 := BD0.out.trans (R3.bel.mono BD0.out.size)
                clear R0 R1 R2 R3
                go_wp2_with fail
                go_meet
                exact ⟨Q, tA, tn, tc, tB, tm, td, f2, o2, rfl, rfl, p3, hb3, hr3⟩
            case rest =>
              obtain ⟨Q, tA, tn, tc, tB, tm, td, f2, o2, rfl, rfl, p3, hb3, hr3⟩ := hcut
              rename World => u3
              have G3 := GG.out.low' (BI.out.trans (hb3.mono BI.out.size))
              have xl3 := G3.lit HLP.out
              have y0 := Sm.cells_of p3 0 _ rfl; have y1 := Sm.cells_of p3 1 _ rfl; have y2 := Sm.cells_of p3 2 _ rfl; have y3 := Sm.cells_of p3 3 _ rfl
              have x2 := Sm.cells_of xl3 2 _ rfl; have x3 := Sm.cells_of xl3 3 _ rfl; have x4 := Sm.cells_of xl3 4 _ rfl; have x5 := Sm.cells_of xl3 5 _ rfl
              have xf2 := Sm.free_of xl3 2; have xf3 := Sm.free_of xl3 3; have xf4 := Sm.free_of xl3 4; have xf5 := Sm.free_of xl3 5
              have b4 := Lg.setD xl3 (.slice tA tn tc) (.slice tB tm td) (.int .i64 f2) (.bool o2)
              have t4 := Lg.setD_turned u3 X (.slice tA tn tc) (.slice tB tm td) (.int .i64 f2) (.bool o2)
              have G4 := G3.touch t4 (by rw [b4, HLP.out]) hr3 (fun q e => (G3.log q e).2.2)
              have H4 := Lib.hid G4
              clear b4 t4 G4 G3 xl3 hr3 p3 R0 hb3 xl
              go_upto_region 23 with (fail)
              clear y0 y1 y2 y3 x2 x3 x4 x5 xf2 xf3 xf4 xf5
              generalize ((((u3.setCell ⟨X, 2, none⟩ (.slice tA tn tc)).setCell ⟨X, 3, none⟩ (.slice tB tm td)).setCell ⟨X, 4, none⟩ (.int .i64 f2)).setCell ⟨X, 5, none⟩ (.bool o2)) = u4 at *
              have H5 := Lib.hid (H4.out.low' ((Below.refl _ u4).drew))
              refine wp_region_held_drew (S := (fun w' => w'.cell? ⟨X, 0, none⟩ = some (.pointer (some ⟨r, 0, none⟩)) ∧ w'.heap[N]? = some (.cells cs.toArray 46 (0, 0)))) (by kernel_rfl) ⟨H5.out.ptr, (H5.out.held N _ HZ.out).1⟩ (fun hHeld => ?_)
              generalize u4.drew = ue at *
              refine wpAnyH_take (i := 0) (oi := ⟨some 131, _, _, _, _, _⟩) (v := .pointer (some ⟨X, 0, none⟩)) rfl (by kernel_rfl) (by kernel_rfl) (by kernel_rfl) (fun _ _ _ h => h) (Or.inl ⟨by rfl, ?_⟩) (by assumption) ?_
              · intro w hSw; (try dsimp only at hSw); go_simp
              simp only [Act.put, List.setIfInBounds_toArray, List.set_cons_zero, List.set_cons_succ]
              refine wpAnyH_take (i := 1) (oi := ⟨some 132, _, _, _, _, _⟩) (v := .pointer (some ⟨X, 0, none⟩)) rfl (by kernel_rfl) (by kernel_rfl) (by kernel_rfl) (fun _ _ _ h => h) (Or.inl ⟨by rfl, ?_⟩) (by assumption) ?_
              · intro w hSw; (try dsimp only at hSw); go_simp
              simp only [Act.put, List.setIfInBounds_toArray, List.set_cons_zero, List.set_cons_succ]
              refine wpAnyH_take (i := 2) (oi := ⟨some 133, _, _, _, _, _⟩) (v := .pointer (some ⟨X, 0, none⟩)) rfl (by kernel_rfl) (by kernel_rfl) (by kernel_rfl) (fun _ _ _ h => h) (Or.inl ⟨by rfl, ?_⟩) (by assumption) ?_
              · intro w hSw; (try dsimp only at hSw); go_simp
              simp only [Act.put, List.setIfInBounds_toArray, List.set_cons_zero, List.set_cons_succ]
              refine wpAnyH_take (i := 3) (oi := ⟨some 134, _, _, _, _, _⟩) (v := .pointer (some ⟨r, 0, none⟩)) rfl (by kernel_rfl) (by kernel_rfl) (by kernel_rfl) (fun _ _ _ h => h) (Or.inl ⟨by rfl, ?_⟩) (by assumption) ?_
              · intro w hSw; (try dsimp only at hSw); have hh := hSw.1; go_simp
              simp only [Act.put, List.setIfInBounds_toArray, List.set_cons_zero, List.set_cons_succ]
              refine wpAnyH_take (i := 4) (oi := ⟨some 135, _, _, _, _, _⟩) (v := .int .i64 x.n) rfl (by kernel_rfl) (by kernel_rfl) (by kernel_rfl) (fun _ _ _ h => h) (Or.inl ⟨by rfl, ?_⟩) (by assumption) ?_
              · intro w hSw; (try dsimp only at hSw); go_simp
              simp only [Act.put, List.setIfInBounds_toArray, List.set_cons_zero, List.set_cons_succ]
              refine wpAnyH_take (i := 5) (oi := ⟨some 136, _, _, _, _, _⟩) (v := .pointer (some ⟨N, 3, none⟩)) rfl (by kernel_rfl) (by kernel_rfl) (by kernel_rfl) (fun _ _ _ h => h) (Or.inl ⟨by rfl, ?_⟩) (by assumption) ?_
              · intro w hSw; (try dsimp only at hSw); go_simp
              simp only [Act.put, List.setIfInBounds_toArray, List.set_cons_zero, List.set_cons_succ]
              refine wpAnyH_take (i := 6) (oi := ⟨some 137, _, _, _, _, _⟩) (v := .int .i64 x.m) rfl (by kernel_rfl) (by kernel_rfl) (by kernel_rfl) (fun _ _ _ h => h) (Or.inl ⟨by rfl, ?_⟩) (by assumption) ?_
              · intro w hSw; (try dsimp only at hSw); have hh := (AC.out _ hSw.2).2.2.2.1; go_simp
              simp only [Act.put, List.setIfInBounds_toArray, List.set_cons_zero, List.set_cons_succ]
              refine wpAnyH_take (i := 7) (oi := ⟨some 138, _, _, _, _, _⟩) (v := .pointer (some ⟨N, 4, none⟩)) rfl (by kernel_rfl) (by kernel_rfl) (by kernel_rfl) (fun _ _ _ h => h) (Or.inl ⟨by rfl, ?_⟩) (by assumption) ?_
              · intro w hSw; (try dsimp only at hSw); go_simp
              simp only [Act.put, List.setIfInBounds_toArray, List.set_cons_zero, List.set_cons_succ]
              refine wpAnyH_take (i := 8) (oi := ⟨some 139, _, _, _, _, _⟩) (v := .string x.x) rfl (by kernel_rfl) (by kernel_rfl) (by kernel_rfl) (fun _ _ _ h => h) (Or.inl ⟨by rfl, ?_⟩) (by assumption) ?_
              · intro w hSw; (try dsimp only at hSw); have hh := (AC.out _ hSw.2).2.2.2.2.1; go_simp
              simp only [Act.put, List.setIfInBounds_toArray, List.set_cons_zero, List.set_cons_succ]
              refine wpAnyH_take (i := 10) (oi := ⟨some 141, _, _, _, _, _⟩) (v := .int .i64 er) rfl (by kernel_rfl) (by kernel_rfl) (by kernel_rfl) (fun _ _ _ h => h) (Or.inl ⟨by rfl, ?_⟩) (by assumption) ?_
              · intro w hSw; (try dsimp only at hSw); go_simp
              simp only [Act.put, List.setIfInBounds_toArray, List.set_cons_zero, List.set_cons_succ]
              refine wpAnyH_ready (rs := [9]) (by kernel_rfl) (by simp) ?_
              refine (AllReadyH.cons (o := ⟨some 140, _, _, _, _, _⟩) rfl (fun K hK => ?_) AllReadyH.nil)
              go_simp
              refine (SP.out _ _ H5.out.disk).mono ?_
              rintro e v6 ⟨fp6, rfl, st⟩
              have G6 := H5.out.disked st ML1.out.1
              have H6 := Lib.hid G6
              clear st G6
              refine hK.out _ _ ⟨H6.out.ptr, (H6.out.held N _ HZ.out).1⟩ (fun hHeld => ?_)
              clear hK K
              refine wpAnyH_take (i := 11) (oi := ⟨some 142, _, _, _, _, _⟩) (v := .bool true) rfl (by kernel_rfl) (by kernel_rfl) (by kernel_rfl) (fun _ _ _ h => h) (Or.inl ⟨by rfl, ?_⟩) (by assumption) ?_
              · intro w hSw; (try dsimp only at hSw); go_simp
              simp only [Act.put, List.setIfInBounds_toArray, List.set_cons_zero, List.set_cons_succ]
              refine wpAnyH_take (i := 12) (oi := ⟨some 143, _, _, _, _, _⟩) (v := .bool true) rfl (by kernel_rfl) (by kernel_rfl) (by kernel_rfl) (fun _ _ _ h => h) (Or.inl ⟨by rfl, ?_⟩) (by assumption) ?_
              · intro w hSw; (try dsimp only at hSw); go_simp
              simp only [Act.put, List.setIfInBounds_toArray, List.set_cons_zero, List.set_cons_succ]
              refine wpAnyH_take (i := 13) (oi := ⟨some 144, _, _, _, _, _⟩) (v := .pointer (some ⟨X, 0, none⟩)) rfl (by kernel_rfl) (by kernel_rfl) (by kernel_rfl) (fun _ _ _ h => h) (Or.inl ⟨by rfl, ?_⟩) (by assumption) ?_
              · intro w hSw; (try dsimp only at hSw); go_simp
              simp only [Act.put, List.setIfInBounds_toArray, List.set_cons_zero, List.set_cons_succ]
              refine wpAnyH_ready (rs := [14]) (by kernel_rfl) (by simp) ?_
              refine (AllReadyH.cons (o := ⟨some 145, _, _, _, _, _⟩) rfl (fun K hK => ?_) AllReadyH.nil)
              rw [if_pos (by rfl)]
              go_simp
              refine (OPN.out _ _ _ _ _ _ _ _ _ _ _ _ _ _ _ _ _ _ _ _ _ H6.out HEP.out (by have := ML1.out.2; omega)).mono ?_
              rintro e v7 ⟨rfl, hd, tu7⟩
              have act7 : v7.heap[N]? = some (.cells cs.toArray 46 (0, 0)) := (tu7.block N (Sm.lt_of (H6.out.held N _ HZ.out).1) (H6.out.held N _ HZ.out).2.2.1).trans (H6.out.held N _ HZ.out).1
              have ptr7 : v7.cell? ⟨X, 0, none⟩ = some (.pointer (some ⟨r, 0, none⟩)) := by
                obtain ⟨_, _, _, _, _, _, _, _, _, _, _, _, hw7⟩ := id hd
                exact hw7.1.ptr
              refine hK.out _ _ ⟨ptr7, act7⟩ (fun hHeld => ?_)
              clear hK K
              refine wpAnyH_take (i := 15) (oi := ⟨some 146, _, _, _, _, _⟩) (v := .bool true) rfl (by kernel_rfl) (by kernel_rfl) (by kernel_rfl) (fun _ _ _ h => h) (Or.inl ⟨by rfl, ?_⟩) (by assumption) ?_
              · intro w hSw; (try dsimp only at hSw); go_simp
              simp only [Act.put, List.setIfInBounds_toArray, List.set_cons_zero, List.set_cons_succ]
              refine wpAnyH_take (i := 16) (oi := ⟨some 4, _, _, _, _, _⟩) (v := .bool true) rfl (by kernel_rfl) (by kernel_rfl) (by kernel_rfl) (fun _ _ _ h => h) (Or.inl ⟨by rfl, ?_⟩) (by assumption) ?_
              · intro w hSw; (try dsimp only at hSw); go_simp
              simp only [Act.put, List.setIfInBounds_toArray, List.set_cons_zero, List.set_cons_succ]
              refine wpAnyH_done (by kernel_rfl) ?_ _
              clear hHeld
              go_wp2
              go_ret
              exact ⟨rfl, hd.did (by have := ML1.out.2; omega) ML1.out.1 HEP.out⟩
        · by_cases e4 : x.d = 4
          · rw [e4] at d0'
            clear e0 e1 e2 e3 e4 AC
            go_wp2_with fail
            refine (OPN.out _ _ _ _ _ _ _ _ _ _ _ _ _ _ _ _ _ _ _ _ _ GG.out HEP.out (by omega)).mono ?_
            rintro e u1 ⟨rfl, hd, _⟩
            go_wp2
            go_ret
            exact ⟨rfl, hd.did (by omega) rfl HEP.out⟩
          · by_cases e5 : x.d = 5
            · rw [e5] at d0'
              clear e0 e1 e2 e3 e4 e5
              have a2 := (AC.out w1 (GG.out.held N _ HZ.out).1).2.2.1
              obtain ⟨m, hm⟩ : ∃ m : Int, m = IntKind.u64.wrap x.n := ⟨_, rfl⟩
              have hm0 : 0 ≤ m := by rw [hm, IntKind.wrap_u64]; omega
              obtain ⟨k, hk⟩ : ∃ k : Nat, k = m.toNat % 4 := ⟨_, rfl⟩
              have hk4 : k < 4 := by omega
              have u1 : m.tmod 4 = (k : Int) := by rw [Int.tmod_eq_emod_of_nonneg hm0]; omega
              have u2 : IntKind.u64.wrap (k : Int) = (k : Int) := by rw [IntKind.wrap_u64]; omega
              obtain ⟨ep1, hep1⟩ : ∃ e : Nat, e = 1 + k := ⟨_, rfl⟩
              have u3 : IntKind.u64.wrap (1 + (k : Int)) = (ep1 : Int) := by rw [IntKind.wrap_u64]; omega
              have EP1 : Hid (ep1 < 18446744073709551616) := by show _ < _; omega
              have um : IntKind.u64.wrap x.n = m := hm.symm
              have xl := GG.out.lit HLP.out
              have x16 := Sm.cells_of xl 16 _ rfl; have xf16 := Sm.free_of xl 16
              have XL := Lib.hid xl
              clear hm hk hm0 xl hep1
              go_upto_region 28 with (fail)
              have b4 := Lg.setE XL.out (.int .u64 (ep1 : Int))
              have t4 := Lg.setE_turned w1 X (.int .u64 (ep1 : Int))
              have G3 := GG.out.touch (ep' := ep1) t4 (by rw [b4, HLP.out]) GG.out.ref (fun q e => (GG.out.log q e).2.2)
              have H3 := Lib.hid G3
              clear b4 t4 G3 x16 xf16 a2 u1 u2 u3 um
              generalize w1.setCell ⟨X, 16, none⟩ (.int .u64 (ep1 : Int)) = v2 at *
              go_wp2_with fail
              refine (OPN.out _ _ _ _ _ _ _ _ _ _ _ _ _ _ _ _ _ _ _ _ _ H3.out EP1.out (by omega)).mono ?_
              rintro e v3 ⟨rfl, hd, _⟩
              go_wp2
              go_ret
              exact ⟨rfl, hd.did (by omega) rfl EP1.out⟩
            · clear AC
              have e0' : (x.d == 0) = false := beq_eq_false_iff_ne.2 e0
              have e1' : (x.d == 1) = false := beq_eq_false_iff_ne.2 e1
              have e2' : (x.d == 2) = false := beq_eq_false_iff_ne.2 e2
              have e3' : (x.d == 3) = false := beq_eq_false_iff_ne.2 e3
              have e4' : (x.d == 4) = false := beq_eq_false_iff_ne.2 e4
              have e5' : (x.d == 5) = false := beq_eq_false_iff_ne.2 e5
              clear e0 e1 e2 e3 e4 e5
              go_wp2_with fail
              go_ret
              exact ⟨rfl, Lg.did10 GG.out HIF.out (by omega) rfl HEP.out⟩
end Go.Proofs.YtnmagfodjcookaaGreat
