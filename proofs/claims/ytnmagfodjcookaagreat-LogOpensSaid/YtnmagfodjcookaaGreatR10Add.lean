/-
  The document's log: Add.
-/
import Derived.Test.YtnmagfodjcookaaGreatR10Two
import Derived.Test.YtnmagfodjcookaaGreatLgTwo
import Derived.BigRegion
namespace Go.Proofs.YtnmagfodjcookaaGreat
open Go.RowKit
set_option maxRecDepth 100000 in
set_option maxHeartbeats 4000000 in
theorem r10Add_any {w : World} {fp : Nat → Prop} {v u : Value} {M : Dk.Md} {L : Lg.Md} {a nn : Int} (h : Dk.RefAt w fp v M) (hM : M.Ok) (hfp : ∀ k, fp k → k < w.heap.size) (hq : Dk.waits M + 40 ≤ 1099511627775) (hl : Lg.RefAt w fp a nn u L)
    (ha : 0 ≤ a ∧ a + nn ≤ 4096) (hn : L.next ≤ L.end_) (hr : L.recs.length ≤ 4096) (hu : L.ep < 18446744073709551616 ∧ L.salt < 18446744073709551616 ∧ L.ahead < 18446744073709551616) (t : ByteArray) (ht : t.size ≤ 2000) :
    Calls Tryz.prog 28 #[u, v, .string t] w fun e w' => ∃ u' v', e = .returned (.tuple #[u', v', .int .i64 (Lg.add L M t.data.toList).2.2]) ∧ Lg.RefAt w' fp a nn u' (Lg.add L M t.data.toList).1 ∧ Dk.RefAt w' fp v' (Lg.add L M t.data.toList).2.1 ∧ Below w.heap.size w w' := by
  have HR := Lib.hid h
  obtain ⟨sA, sn, sc, sB, sm, sd, f, o, rfl⟩ := Lg.quad h
  obtain ⟨ep, nx, en, rs, ah, sa, br⟩ := L
  obtain ⟨lA, lc, us, rfl, hnx, hen, hrows, hoff, hlc⟩ := hl
  obtain ⟨ln, hln⟩ : ∃ n, n = rs.length := ⟨_, rfl⟩
  dsimp only at hnx hen hrows hoff hn hr hu ⊢
  have htl : t.data.toList.length = t.size := by simp
  have LR : Hid (∀ (b : Bool) (w' : World), Below w.heap.size w w' → Lg.RefAt w' fp a nn (.agg #[.int .i64 a, .int .i64 nn, .int .u64 (ep : Int), .slice lA ln lc, .int .i64 (us : Int), .int .u64 (ah : Int), .int .u64 (sa : Int), .bool b]) ⟨ep, nx, en, rs, ah, sa, b⟩) := fun b w' k => (show Lg.RefAt w fp a nn (.agg #[.int .i64 a, .int .i64 nn, .int .u64 (ep : Int), .slice lA ln lc, .int .i64 (us : Int), .int .u64 (ah : Int), .int .u64 (sa : Int), .bool b]) ⟨ep, nx, en, rs, ah, sa, b⟩ from ⟨lA, lc, us, by rw [hln]; rfl, hnx, hen, hrows, hoff, hlc⟩).low k
  have HLN := Lib.hid hln
  have HROW := Lib.hid hrows
  have HLC := Lib.hid hlc
  have HOFF := Lib.hid hoff
  have HNX := Lib.hid hnx
  have HEN := Lib.hid hen
  have HQ := Lib.hid hq
  have HM := Lib.hid hM
  have HFP := Lib.hid hfp
  show Calls Tryz.prog 28 #[.agg #[.int .i64 a, .int .i64 nn, .int .u64 (ep : Int), .slice lA rs.length lc, .int .i64 (us : Int), .int .u64 (ah : Int), .int .u64 (sa : Int), .bool br], .agg #[.slice sA sn sc, .slice sB sm sd, .int .i64 f, .bool o], .string t] w _
  rw [← hln] at hr ⊢
  obtain ⟨F4, B4⟩ := Lg.fr10_new w #[.int .i64 a, .int .i64 nn, .int .u64 (ep : Int), .slice lA ln lc, .int .i64 (us : Int), .int .u64 (ah : Int), .int .u64 (sa : Int), .bool br] #[.slice sA sn sc, .slice sB sm sd, .int .i64 f, .bool o]
  obtain ⟨w4, hw4⟩ : ∃ y, y = ((((w.alloc (.cells #[.int .i64 a, .int .i64 nn, .int .u64 (ep : Int), .slice lA ln lc, .int .i64 (us : Int), .int .u64 (ah : Int), .int .u64 (sa : Int), .bool br] 39)).alloc (.cells #[.slice sA sn sc, .slice sB sm sd, .int .i64 f, .bool o] 33)).alloc (.cells #[.int .i64 0, .int .i64 0, .int .u64 0, .slice none 0 0, .int .i64 0, .int .u64 0, .int .u64 0, .bool false] 39)).alloc (.cells #[.slice none 0 0, .slice none 0 0, .int .i64 0, .bool false] 33)) := ⟨_, rfl⟩
  rw [← hw4] at F4 B4
  have HW4 := Lib.hid hw4
  obtain ⟨N, hN⟩ : ∃ n, n = w.heap.size := ⟨_, rfl⟩
  have HN := Lib.hid hN
  rw [← hN] at F4 B4 LR
  have HREF : Hid (∀ w', Below N w w' → Dk.RefAt w' fp (.agg #[.slice sA sn sc, .slice sB sm sd, .int .i64 f, .bool o]) M) := fun w' k => HR.out.low (by rw [← HN.out]; exact k)
  have HF4 := Lib.hid F4
  have HB4 := Lib.hid B4
  clear h hq hM hfp hrows hoff hlc hln hw4 hN F4 B4
  cases br with
  | true =>
    have e : Lg.add ⟨ep, nx, en, rs, ah, sa, true⟩ M t.data.toList = (⟨ep, nx, en, rs, ah, sa, true⟩, M, 11) := by simp [Lg.add]
    rw [e]
    clear e
    have F4 := HF4.out
    have k0 := Sm.cells_of F4.kb 0 _ rfl; have k1 := Sm.cells_of F4.kb 1 _ rfl; have k2 := Sm.cells_of F4.kb 2 _ rfl; have k3 := Sm.cells_of F4.kb 3 _ rfl; have k4 := Sm.cells_of F4.kb 4 _ rfl; have k5 := Sm.cells_of F4.kb 5 _ rfl; have k6 := Sm.cells_of F4.kb 6 _ rfl; have k7 := Sm.cells_of F4.kb 7 _ rfl
    have d0 := Sm.cells_of F4.db 0 _ rfl; have d1 := Sm.cells_of F4.db 1 _ rfl; have d2 := Sm.cells_of F4.db 2 _ rfl; have d3 := Sm.cells_of F4.db 3 _ rfl
    have z0 := Sm.cells_of F4.kr 0 _ rfl; have z1 := Sm.cells_of F4.kr 1 _ rfl; have z2 := Sm.cells_of F4.kr 2 _ rfl; have z3 := Sm.cells_of F4.kr 3 _ rfl; have z4 := Sm.cells_of F4.kr 4 _ rfl; have z5 := Sm.cells_of F4.kr 5 _ rfl; have z6 := Sm.cells_of F4.kr 6 _ rfl; have z7 := Sm.cells_of F4.kr 7 _ rfl
    have y0 := Sm.cells_of F4.dr 0 _ rfl; have y1 := Sm.cells_of F4.dr 1 _ rfl; have y2 := Sm.cells_of F4.dr 2 _ rfl; have y3 := Sm.cells_of F4.dr 3 _ rfl
    have zf0 := Sm.free_of F4.kr 0; have zf1 := Sm.free_of F4.kr 1; have zf2 := Sm.free_of F4.kr 2; have zf3 := Sm.free_of F4.kr 3; have zf4 := Sm.free_of F4.kr 4; have zf5 := Sm.free_of F4.kr 5; have zf6 := Sm.free_of F4.kr 6; have zf7 := Sm.free_of F4.kr 7
    have yf0 := Sm.free_of F4.dr 0; have yf1 := Sm.free_of F4.dr 1; have yf2 := Sm.free_of F4.dr 2; have yf3 := Sm.free_of F4.dr 3
    clear F4
    go_enter Tryz.func28, Tryz.ntmps28
    go_upto_region 1 with (fail)
    rw [← HW4.out, ← HN.out]
    go_upto_region 2 with (fail)
    go_region
    have FE := Lg.Fr10.fin HF4.out (.int .i64 a) (.int .i64 nn) (.int .u64 (ep : Int)) (.slice lA ln lc) (.int .i64 (us : Int)) (.int .u64 (ah : Int)) (.int .u64 (sa : Int)) (.bool true) (.slice sA sn sc) (.slice sB sm sd) (.int .i64 f) (.bool o)
    change Exit.then _ _ _ _ (Lg.sets8 w4 N (.int .i64 a) (.int .i64 nn) (.int .u64 (ep : Int)) (.slice lA ln lc) (.int .i64 (us : Int)) (.int .u64 (ah : Int)) (.int .u64 (sa : Int)) (.bool true) (.slice sA sn sc) (.slice sB sm sd) (.int .i64 f) (.bool o)).drew
    generalize (Lg.sets8 w4 N (.int .i64 a) (.int .i64 nn) (.int .u64 (ep : Int)) (.slice lA ln lc) (.int .i64 (us : Int)) (.int .u64 (ah : Int)) (.int .u64 (sa : Int)) (.bool true) (.slice sA sn sc) (.slice sB sm sd) (.int .i64 f) (.bool o)).drew = we at FE ⊢
    have BE := FE.below HB4.out (by have := Lg.Fr10.sz HF4.out; omega)
    have ez0 := Sm.cells_of FE.kr 0 _ rfl; have ez1 := Sm.cells_of FE.kr 1 _ rfl; have ez2 := Sm.cells_of FE.kr 2 _ rfl; have ez3 := Sm.cells_of FE.kr 3 _ rfl; have ez4 := Sm.cells_of FE.kr 4 _ rfl; have ez5 := Sm.cells_of FE.kr 5 _ rfl; have ez6 := Sm.cells_of FE.kr 6 _ rfl; have ez7 := Sm.cells_of FE.kr 7 _ rfl
    have ey0 := Sm.cells_of FE.dr 0 _ rfl; have ey1 := Sm.cells_of FE.dr 1 _ rfl; have ey2 := Sm.cells_of FE.dr 2 _ rfl; have ey3 := Sm.cells_of FE.dr 3 _ rfl
    have RE := HREF.out _ BE
    have HBE := Lib.hid BE
    have LE := LR.out true _ BE
    clear FE BE 
    go_wp2
    exact bodyPost_ret (v := .tuple #[.agg #[.int .i64 a, .int .i64 nn, .int .u64 (ep : Int), .slice lA ln lc, .int .i64 (us : Int), .int .u64 (ah : Int), .int .u64 (sa : Int), .bool true], .agg #[.slice sA sn sc, .slice sB sm sd, .int .i64 f, .bool o], .int .i64 11]) ((Lg.results_cct rfl _ _ _).trans (by go_simp)) rfl ⟨_, _, rfl, LE, RE, by rw [← HN.out]; exact HBE.out⟩
  | false =>
    by_cases h1024 : 1024 < t.size
    · have hki : (1024 : Int) < (t.size : Int) := by omega
      have e : Lg.add ⟨ep, nx, en, rs, ah, sa, false⟩ M t.data.toList = (⟨ep, nx, en, rs, ah, sa, false⟩, M, 3) := by simp [Lg.add, htl, h1024]
      rw [e]
      clear e
      have F4 := HF4.out
      have k0 := Sm.cells_of F4.kb 0 _ rfl; have k1 := Sm.cells_of F4.kb 1 _ rfl; have k2 := Sm.cells_of F4.kb 2 _ rfl; have k3 := Sm.cells_of F4.kb 3 _ rfl; have k4 := Sm.cells_of F4.kb 4 _ rfl; have k5 := Sm.cells_of F4.kb 5 _ rfl; have k6 := Sm.cells_of F4.kb 6 _ rfl; have k7 := Sm.cells_of F4.kb 7 _ rfl
      have d0 := Sm.cells_of F4.db 0 _ rfl; have d1 := Sm.cells_of F4.db 1 _ rfl; have d2 := Sm.cells_of F4.db 2 _ rfl; have d3 := Sm.cells_of F4.db 3 _ rfl
      have z0 := Sm.cells_of F4.kr 0 _ rfl; have z1 := Sm.cells_of F4.kr 1 _ rfl; have z2 := Sm.cells_of F4.kr 2 _ rfl; have z3 := Sm.cells_of F4.kr 3 _ rfl; have z4 := Sm.cells_of F4.kr 4 _ rfl; have z5 := Sm.cells_of F4.kr 5 _ rfl; have z6 := Sm.cells_of F4.kr 6 _ rfl; have z7 := Sm.cells_of F4.kr 7 _ rfl
      have y0 := Sm.cells_of F4.dr 0 _ rfl; have y1 := Sm.cells_of F4.dr 1 _ rfl; have y2 := Sm.cells_of F4.dr 2 _ rfl; have y3 := Sm.cells_of F4.dr 3 _ rfl
      have zf0 := Sm.free_of F4.kr 0; have zf1 := Sm.free_of F4.kr 1; have zf2 := Sm.free_of F4.kr 2; have zf3 := Sm.free_of F4.kr 3; have zf4 := Sm.free_of F4.kr 4; have zf5 := Sm.free_of F4.kr 5; have zf6 := Sm.free_of F4.kr 6; have zf7 := Sm.free_of F4.kr 7
      have yf0 := Sm.free_of F4.dr 0; have yf1 := Sm.free_of F4.dr 1; have yf2 := Sm.free_of F4.dr 2; have yf3 := Sm.free_of F4.dr 3
      clear F4
      go_enter Tryz.func28, Tryz.ntmps28
      go_upto_region 1 with (fail)
      rw [← HW4.out, ← HN.out]
      go_upto_region 4 with (fail)
      go_region
      have FE := Lg.Fr10.fin HF4.out (.int .i64 a) (.int .i64 nn) (.int .u64 (ep : Int)) (.slice lA ln lc) (.int .i64 (us : Int)) (.int .u64 (ah : Int)) (.int .u64 (sa : Int)) (.bool false) (.slice sA sn sc) (.slice sB sm sd) (.int .i64 f) (.bool o)
      change Exit.then _ _ _ _ (Lg.sets8 w4 N (.int .i64 a) (.int .i64 nn) (.int .u64 (ep : Int)) (.slice lA ln lc) (.int .i64 (us : Int)) (.int .u64 (ah : Int)) (.int .u64 (sa : Int)) (.bool false) (.slice sA sn sc) (.slice sB sm sd) (.int .i64 f) (.bool o)).drew
      generalize (Lg.sets8 w4 N (.int .i64 a) (.int .i64 nn) (.int .u64 (ep : Int)) (.slice lA ln lc) (.int .i64 (us : Int)) (.int .u64 (ah : Int)) (.int .u64 (sa : Int)) (.bool false) (.slice sA sn sc) (.slice sB sm sd) (.int .i64 f) (.bool o)).drew = we at FE ⊢
      have BE := FE.below HB4.out (by have := Lg.Fr10.sz HF4.out; omega)
      have ez0 := Sm.cells_of FE.kr 0 _ rfl; have ez1 := Sm.cells_of FE.kr 1 _ rfl; have ez2 := Sm.cells_of FE.kr 2 _ rfl; have ez3 := Sm.cells_of FE.kr 3 _ rfl; have ez4 := Sm.cells_of FE.kr 4 _ rfl; have ez5 := Sm.cells_of FE.kr 5 _ rfl; have ez6 := Sm.cells_of FE.kr 6 _ rfl; have ez7 := Sm.cells_of FE.kr 7 _ rfl
      have ey0 := Sm.cells_of FE.dr 0 _ rfl; have ey1 := Sm.cells_of FE.dr 1 _ rfl; have ey2 := Sm.cells_of FE.dr 2 _ rfl; have ey3 := Sm.cells_of FE.dr 3 _ rfl
      have RE := HREF.out _ BE
      have HBE := Lib.hid BE
      have LE := LR.out false _ BE
      clear FE BE 
      go_wp2
      exact bodyPost_ret (v := .tuple #[.agg #[.int .i64 a, .int .i64 nn, .int .u64 (ep : Int), .slice lA ln lc, .int .i64 (us : Int), .int .u64 (ah : Int), .int .u64 (sa : Int), .bool false], .agg #[.slice sA sn sc, .slice sB sm sd, .int .i64 f, .bool o], .int .i64 3]) ((Lg.results_cct rfl _ _ _).trans (by go_simp)) rfl ⟨_, _, rfl, LE, RE, by rw [← HN.out]; exact HBE.out⟩
    have h4n : ¬ (1024 : Int) < (t.size : Int) := by omega
    obtain ⟨P, hP⟩ : ∃ P, P = Pt.parts 32 t.data.toList := ⟨_, rfl⟩
    have PA : Hid (∀ wx : World, Calls Tryz.prog 54 #[.string t] wx fun e w' => e = .returned (.int .i64 (P : Int)) ∧ w' = wx) := fun wx => by rw [hP]; exact (r10Parts_any wx t (by omega)).mono fun _ _ h => ⟨h.1, h.2.symm⟩
    have hP1 : 1 ≤ P := by rw [hP]; exact Pt.parts_pos _ _
    have hP33 : P ≤ 32 := by rw [hP]; exact Lg.parts_33 (by omega)
    have hws : IntKind.i64.wrap (nn - (us : Int)) = nn - (us : Int) := IntWalk.i64_in _ (by omega)
    by_cases hro : nn - (us : Int) < (P : Int)
    · have e0 : Lg.add ⟨ep, nx, en, rs, ah, sa, false⟩ M t.data.toList = (⟨ep, nx, en, rs, ah, sa, false⟩, M, 6) := by
        rw [Lg.add, if_neg (by simp), if_neg (by rw [htl]; exact h1024), if_pos (.inl (by show en - nx < ((Pt.parts 32 t.data.toList : Nat) : Int); rw [← hP]; omega))]
      clear hP
      rw [e0]
      clear e0 hnx hen
      have hsi : True := trivial
      have F4 := HF4.out
      have k0 := Sm.cells_of F4.kb 0 _ rfl; have k1 := Sm.cells_of F4.kb 1 _ rfl; have k2 := Sm.cells_of F4.kb 2 _ rfl; have k3 := Sm.cells_of F4.kb 3 _ rfl; have k4 := Sm.cells_of F4.kb 4 _ rfl; have k5 := Sm.cells_of F4.kb 5 _ rfl; have k6 := Sm.cells_of F4.kb 6 _ rfl; have k7 := Sm.cells_of F4.kb 7 _ rfl
      clear F4
      go_enter Tryz.func28, Tryz.ntmps28
      go_upto_region 1 with (fail)
      rw [← HW4.out, ← HN.out]
      go_upto_region 5 with (fail)
      go_quiet ((go_at_call 54; with_reducible exact Calls.quiet_of_same (PA.out _)))
      clear k0 k1 k2 k3 k4 k5 k6 k7
      obtain ⟨w5, hw5⟩ : ∃ y, y = w4.drewN nq := ⟨_, rfl⟩
      have HF5 := Lib.hid (HF4.out.low (Sm.below_drewN (Below.refl w4.heap.size w4) nq))
      have HB5 := Lib.hid (Sm.below_drewN HB4.out nq)
      rw [← hw5] at HF5 HB5 ⊢
      clear hw5
      have F4 := HF5.out
      have k0 := Sm.cells_of F4.kb 0 _ rfl; have k1 := Sm.cells_of F4.kb 1 _ rfl; have k2 := Sm.cells_of F4.kb 2 _ rfl; have k3 := Sm.cells_of F4.kb 3 _ rfl; have k4 := Sm.cells_of F4.kb 4 _ rfl; have k5 := Sm.cells_of F4.kb 5 _ rfl; have k6 := Sm.cells_of F4.kb 6 _ rfl; have k7 := Sm.cells_of F4.kb 7 _ rfl
      have d0 := Sm.cells_of F4.db 0 _ rfl; have d1 := Sm.cells_of F4.db 1 _ rfl; have d2 := Sm.cells_of F4.db 2 _ rfl; have d3 := Sm.cells_of F4.db 3 _ rfl
      have z0 := Sm.cells_of F4.kr 0 _ rfl; have z1 := Sm.cells_of F4.kr 1 _ rfl; have z2 := Sm.cells_of F4.kr 2 _ rfl; have z3 := Sm.cells_of F4.kr 3 _ rfl; have z4 := Sm.cells_of F4.kr 4 _ rfl; have z5 := Sm.cells_of F4.kr 5 _ rfl; have z6 := Sm.cells_of F4.kr 6 _ rfl; have z7 := Sm.cells_of F4.kr 7 _ rfl
      have y0 := Sm.cells_of F4.dr 0 _ rfl; have y1 := Sm.cells_of F4.dr 1 _ rfl; have y2 := Sm.cells_of F4.dr 2 _ rfl; have y3 := Sm.cells_of F4.dr 3 _ rfl
      have zf0 := Sm.free_of F4.kr 0; have zf1 := Sm.free_of F4.kr 1; have zf2 := Sm.free_of F4.kr 2; have zf3 := Sm.free_of F4.kr 3; have zf4 := Sm.free_of F4.kr 4; have zf5 := Sm.free_of F4.kr 5; have zf6 := Sm.free_of F4.kr 6; have zf7 := Sm.free_of F4.kr 7
      have yf0 := Sm.free_of F4.dr 0; have yf1 := Sm.free_of F4.dr 1; have yf2 := Sm.free_of F4.dr 2; have yf3 := Sm.free_of F4.dr 3
      clear F4
      go_upto_region 6 with (fail)
      go_region
      have FE := Lg.Fr10.fin HF5.out (.int .i64 a) (.int .i64 nn) (.int .u64 (ep : Int)) (.slice lA ln lc) (.int .i64 (us : Int)) (.int .u64 (ah : Int)) (.int .u64 (sa : Int)) (.bool false) (.slice sA sn sc) (.slice sB sm sd) (.int .i64 f) (.bool o)
      change Exit.then _ _ _ _ (Lg.sets8 w5 N (.int .i64 a) (.int .i64 nn) (.int .u64 (ep : Int)) (.slice lA ln lc) (.int .i64 (us : Int)) (.int .u64 (ah : Int)) (.int .u64 (sa : Int)) (.bool false) (.slice sA sn sc) (.slice sB sm sd) (.int .i64 f) (.bool o)).drew
      generalize (Lg.sets8 w5 N (.int .i64 a) (.int .i64 nn) (.int .u64 (ep : Int)) (.slice lA ln lc) (.int .i64 (us : Int)) (.int .u64 (ah : Int)) (.int .u64 (sa : Int)) (.bool false) (.slice sA sn sc) (.slice sB sm sd) (.int .i64 f) (.bool o)).drew = we at FE ⊢
      have BE := FE.below HB5.out (by have := Lg.Fr10.sz HF5.out; omega)
      have ez0 := Sm.cells_of FE.kr 0 _ rfl; have ez1 := Sm.cells_of FE.kr 1 _ rfl; have ez2 := Sm.cells_of FE.kr 2 _ rfl; have ez3 := Sm.cells_of FE.kr 3 _ rfl; have ez4 := Sm.cells_of FE.kr 4 _ rfl; have ez5 := Sm.cells_of FE.kr 5 _ rfl; have ez6 := Sm.cells_of FE.kr 6 _ rfl; have ez7 := Sm.cells_of FE.kr 7 _ rfl
      have ey0 := Sm.cells_of FE.dr 0 _ rfl; have ey1 := Sm.cells_of FE.dr 1 _ rfl; have ey2 := Sm.cells_of FE.dr 2 _ rfl; have ey3 := Sm.cells_of FE.dr 3 _ rfl
      have RE := HREF.out _ BE
      have HBE := Lib.hid BE
      have LE := LR.out false _ BE
      clear FE BE 
      go_wp2
      exact bodyPost_ret (v := .tuple #[.agg #[.int .i64 a, .int .i64 nn, .int .u64 (ep : Int), .slice lA ln lc, .int .i64 (us : Int), .int .u64 (ah : Int), .int .u64 (sa : Int), .bool false], .agg #[.slice sA sn sc, .slice sB sm sd, .int .i64 f, .bool o], .int .i64 6]) ((Lg.results_cct rfl _ _ _).trans (by go_simp)) rfl ⟨_, _, rfl, LE, RE, by rw [← HN.out]; exact HBE.out⟩
    by_cases hse : sa = 18446744073709551615
    · have e0 : Lg.add ⟨ep, nx, en, rs, ah, sa, false⟩ M t.data.toList = (⟨ep, nx, en, rs, ah, sa, false⟩, M, 6) := by
        rw [Lg.add, if_neg (by simp), if_neg (by rw [htl]; exact h1024), if_pos (.inr hse)]
      have hsb : ((sa : Int) == 18446744073709551615) = true := beq_iff_eq.2 (by omega)
      clear hP hse
      rw [e0]
      clear e0 hnx hen
      have F4 := HF4.out
      have k0 := Sm.cells_of F4.kb 0 _ rfl; have k1 := Sm.cells_of F4.kb 1 _ rfl; have k2 := Sm.cells_of F4.kb 2 _ rfl; have k3 := Sm.cells_of F4.kb 3 _ rfl; have k4 := Sm.cells_of F4.kb 4 _ rfl; have k5 := Sm.cells_of F4.kb 5 _ rfl; have k6 := Sm.cells_of F4.kb 6 _ rfl; have k7 := Sm.cells_of F4.kb 7 _ rfl
      clear F4
      go_enter Tryz.func28, Tryz.ntmps28
      go_upto_region 1 with (fail)
      rw [← HW4.out, ← HN.out]
      go_upto_region 5 with (fail)
      go_quiet ((go_at_call 54; with_reducible exact Calls.quiet_of_same (PA.out _)))
      clear k0 k1 k2 k3 k4 k5 k6 k7
      obtain ⟨w5, hw5⟩ : ∃ y, y = w4.drewN nq := ⟨_, rfl⟩
      have HF5 := Lib.hid (HF4.out.low (Sm.below_drewN (Below.refl w4.heap.size w4) nq))
      have HB5 := Lib.hid (Sm.below_drewN HB4.out nq)
      rw [← hw5] at HF5 HB5 ⊢
      clear hw5
      have F4 := HF5.out
      have k0 := Sm.cells_of F4.kb 0 _ rfl; have k1 := Sm.cells_of F4.kb 1 _ rfl; have k2 := Sm.cells_of F4.kb 2 _ rfl; have k3 := Sm.cells_of F4.kb 3 _ rfl; have k4 := Sm.cells_of F4.kb 4 _ rfl; have k5 := Sm.cells_of F4.kb 5 _ rfl; have k6 := Sm.cells_of F4.kb 6 _ rfl; have k7 := Sm.cells_of F4.kb 7 _ rfl
      have d0 := Sm.cells_of F4.db 0 _ rfl; have d1 := Sm.cells_of F4.db 1 _ rfl; have d2 := Sm.cells_of F4.db 2 _ rfl; have d3 := Sm.cells_of F4.db 3 _ rfl
      have z0 := Sm.cells_of F4.kr 0 _ rfl; have z1 := Sm.cells_of F4.kr 1 _ rfl; have z2 := Sm.cells_of F4.kr 2 _ rfl; have z3 := Sm.cells_of F4.kr 3 _ rfl; have z4 := Sm.cells_of F4.kr 4 _ rfl; have z5 := Sm.cells_of F4.kr 5 _ rfl; have z6 := Sm.cells_of F4.kr 6 _ rfl; have z7 := Sm.cells_of F4.kr 7 _ rfl
      have y0 := Sm.cells_of F4.dr 0 _ rfl; have y1 := Sm.cells_of F4.dr 1 _ rfl; have y2 := Sm.cells_of F4.dr 2 _ rfl; have y3 := Sm.cells_of F4.dr 3 _ rfl
      have zf0 := Sm.free_of F4.kr 0; have zf1 := Sm.free_of F4.kr 1; have zf2 := Sm.free_of F4.kr 2; have zf3 := Sm.free_of F4.kr 3; have zf4 := Sm.free_of F4.kr 4; have zf5 := Sm.free_of F4.kr 5; have zf6 := Sm.free_of F4.kr 6; have zf7 := Sm.free_of F4.kr 7
      have yf0 := Sm.free_of F4.dr 0; have yf1 := Sm.free_of F4.dr 1; have yf2 := Sm.free_of F4.dr 2; have yf3 := Sm.free_of F4.dr 3
      clear F4
      go_upto_region 6 with (fail)
      go_region
      have FE := Lg.Fr10.fin HF5.out (.int .i64 a) (.int .i64 nn) (.int .u64 (ep : Int)) (.slice lA ln lc) (.int .i64 (us : Int)) (.int .u64 (ah : Int)) (.int .u64 (sa : Int)) (.bool false) (.slice sA sn sc) (.slice sB sm sd) (.int .i64 f) (.bool o)
      change Exit.then _ _ _ _ (Lg.sets8 w5 N (.int .i64 a) (.int .i64 nn) (.int .u64 (ep : Int)) (.slice lA ln lc) (.int .i64 (us : Int)) (.int .u64 (ah : Int)) (.int .u64 (sa : Int)) (.bool false) (.slice sA sn sc) (.slice sB sm sd) (.int .i64 f) (.bool o)).drew
      generalize (Lg.sets8 w5 N (.int .i64 a) (.int .i64 nn) (.int .u64 (ep : Int)) (.slice lA ln lc) (.int .i64 (us : Int)) (.int .u64 (ah : Int)) (.int .u64 (sa : Int)) (.bool false) (.slice sA sn sc) (.slice sB sm sd) (.int .i64 f) (.bool o)).drew = we at FE ⊢
      have BE := FE.below HB5.out (by have := Lg.Fr10.sz HF5.out; omega)
      have ez0 := Sm.cells_of FE.kr 0 _ rfl; have ez1 := Sm.cells_of FE.kr 1 _ rfl; have ez2 := Sm.cells_of FE.kr 2 _ rfl; have ez3 := Sm.cells_of FE.kr 3 _ rfl; have ez4 := Sm.cells_of FE.kr 4 _ rfl; have ez5 := Sm.cells_of FE.kr 5 _ rfl; have ez6 := Sm.cells_of FE.kr 6 _ rfl; have ez7 := Sm.cells_of FE.kr 7 _ rfl
      have ey0 := Sm.cells_of FE.dr 0 _ rfl; have ey1 := Sm.cells_of FE.dr 1 _ rfl; have ey2 := Sm.cells_of FE.dr 2 _ rfl; have ey3 := Sm.cells_of FE.dr 3 _ rfl
      have RE := HREF.out _ BE
      have HBE := Lib.hid BE
      have LE := LR.out false _ BE
      clear FE BE 
      go_wp2
      exact bodyPost_ret (v := .tuple #[.agg #[.int .i64 a, .int .i64 nn, .int .u64 (ep : Int), .slice lA ln lc, .int .i64 (us : Int), .int .u64 (ah : Int), .int .u64 (sa : Int), .bool false], .agg #[.slice sA sn sc, .slice sB sm sd, .int .i64 f, .bool o], .int .i64 6]) ((Lg.results_cct rfl _ _ _).trans (by go_simp)) rfl ⟨_, _, rfl, LE, RE, by rw [← HN.out]; exact HBE.out⟩
    · have hsb : ((sa : Int) == 18446744073709551615) = false := beq_eq_false_iff_ne.2 (by omega)
      obtain ⟨l, hl⟩ : ∃ l, l = Lg.lot ⟨ep, nx, en, rs, ah, sa, false⟩ t.data.toList := ⟨_, rfl⟩
      have hll : l.length = P := by rw [hl, Lg.lot_length, hP]
      have hlen : M.lasts.length ≤ 4096 := HM.out.n.2
      have hbb : 0 ≤ nx ∧ nx ≤ 4096 := by omega
      have e0 : Lg.add ⟨ep, nx, en, rs, ah, sa, false⟩ M t.data.toList = if (Kp.save M nx l).2 = 0 then (⟨ep, nx + P, en, rs ++ [t.data.toList], sa + 1, sa + 1, false⟩, (Kp.save M nx l).1, 0) else (⟨ep, nx, en, rs, ah, sa, true⟩, (Kp.save M nx l).1, (Kp.save M nx l).2) := by
        rw [Lg.add, if_neg (by simp), if_neg (by rw [htl]; exact h1024), if_neg (by
          intro hc
          rcases hc with hc | hc
          · rw [← hP] at hc
            have hc2 : en - nx < (P : Int) := hc
            omega
          · exact hse hc), hl, hP]; rfl
      obtain ⟨R, hR⟩ : ∃ R, R = Lg.add ⟨ep, nx, en, rs, ah, sa, false⟩ M t.data.toList := ⟨_, rfl⟩
      rw [← hR]
      have STOPX : Hid (∀ M1 er, er ≠ 0 → Kp.save M nx l = (M1, er) → R = (⟨ep, nx, en, rs, ah, sa, true⟩, M1, er)) := fun M1 er h1 h2 => by rw [hR, e0, h2, if_neg h1]
      have DONEX : Hid (∀ M1, Kp.save M nx l = (M1, 0) → R = (⟨ep, nx + P, en, rs ++ [t.data.toList], sa + 1, sa + 1, false⟩, M1, 0)) := fun M1 h2 => by rw [hR, e0, h2, if_pos rfl]
      have hwu : IntKind.u64.wrap ((sa : Int) + 1) = ((sa + 1 : Nat) : Int) := by simp [IntKind.wrap, IntKind.bits, IntKind.signed]; omega
      have SEC : Hid (∀ wx : World, Calls Tryz.prog 34 #[.string t, .int .u64 (ep : Int), .int .u64 ((sa + 1 : Nat) : Int), .int .u64 (ah : Int)] wx fun e w' => ∃ A c, e = .returned (.slice A P c) ∧ P ≤ c ∧ Kp.StrsAt w' A (Lg.closeds (Lg.nums ep (sa + 1) ah) t.data.toList) ∧ (∀ q o, A = some ⟨q, o, none⟩ → wx.heap.size ≤ q) ∧ Below wx.heap.size wx w') := fun wx => by rw [hP]; exact r10Sectors_any wx t ep (sa + 1) ah ht
      have CLD : Hid (∀ i, i < P → (Lg.closeds (Lg.nums ep (sa + 1) ah) t.data.toList).getD i [] = Dk.closed (l.getD i [])) := fun i hi => by
        rw [hl, Lg.closeds, Lg.lot, List.getD_eq_getElem?_getD, List.getD_eq_getElem?_getD, List.getElem?_map, List.getElem?_eq_getElem (by rw [Pt.bodies_length, ← hP]; exact hi)]; rfl
      have CLL : Hid ((Lg.closeds (Lg.nums ep (sa + 1) ah) t.data.toList).length = P) := by show _ = _; rw [Lg.closeds_length, hP]
      have HLL := Lib.hid hll
      have HPP := Lib.hid hP
      have HUS : Hid (nx = a + us) := hnx
      clear e0 hR hl hse hlen hll hP hnx hen
      have F4 := HF4.out
      have k0 := Sm.cells_of F4.kb 0 _ rfl; have k1 := Sm.cells_of F4.kb 1 _ rfl; have k2 := Sm.cells_of F4.kb 2 _ rfl; have k3 := Sm.cells_of F4.kb 3 _ rfl; have k4 := Sm.cells_of F4.kb 4 _ rfl; have k5 := Sm.cells_of F4.kb 5 _ rfl; have k6 := Sm.cells_of F4.kb 6 _ rfl; have k7 := Sm.cells_of F4.kb 7 _ rfl
      clear F4
      go_enter Tryz.func28, Tryz.ntmps28
      go_upto_region 1 with (fail)
      rw [← HW4.out, ← HN.out]
      go_upto_region 5 with (fail)
      go_quiet ((go_at_call 54; with_reducible exact Calls.quiet_of_same (PA.out _)))
      clear k0 k1 k2 k3 k4 k5 k6 k7
      obtain ⟨wq, hwq⟩ : ∃ y, y = w4.drewN nq := ⟨_, rfl⟩
      have HFQ := Lib.hid (HF4.out.low (Sm.below_drewN (Below.refl w4.heap.size w4) nq))
      have HBQ := Lib.hid (Sm.below_drewN HB4.out nq)
      rw [← hwq] at HFQ HBQ ⊢
      clear hwq HF4 HB4 HW4
      have F4 := HFQ.out
      have k0 := Sm.cells_of F4.kb 0 _ rfl; have k1 := Sm.cells_of F4.kb 1 _ rfl; have k2 := Sm.cells_of F4.kb 2 _ rfl; have k3 := Sm.cells_of F4.kb 3 _ rfl; have k4 := Sm.cells_of F4.kb 4 _ rfl; have k5 := Sm.cells_of F4.kb 5 _ rfl; have k6 := Sm.cells_of F4.kb 6 _ rfl; have k7 := Sm.cells_of F4.kb 7 _ rfl
      clear F4
      go_upto_region 8 with (go_at_call 34; refine (SEC.out _).mono ?_; rintro e w5 ⟨A, c, rfl, hPc, hst, hfr5, kk5⟩)
      obtain ⟨gb, go, rfl, hgs, hgc⟩ := hst
      have hg4 : N + 4 ≤ gb := by have h1 := hfr5 gb go rfl; have h2 := Lg.Fr10.sz HFQ.out; omega
      have F5 := HFQ.out.low kk5
      have B5 : Below N w w5 := HBQ.out.trans (kk5.mono (by have := Lg.Fr10.sz HFQ.out; omega))
      have CE0 : Hid (∀ wx, Dk.Turned (fun q => q < N + 4) w5 wx → ∀ i, i < P → wx.cell? ⟨gb, go + i, none⟩ = some (.string ⟨(Dk.closed (l.getD i [])).toArray⟩)) := fun wx tt i hi => by
        rw [← CLD.out i hi, ← hgc i (by rw [CLL.out]; exact hi)]
        simp only [World.cell?, tt.block gb hgs (by omega)]
      clear k0 k1 k2 k3 k4 k5 k6 k7 hgc hfr5 kk5 SEC CLD CLL
      have y7 := Sm.cells_of F5.kb 7 _ rfl
      have yf7 := Sm.free_of F5.kb 7
      go_upto_region 9 with (fail)
      have LD : Lg.Lo10 w w5 (w5.setCell ⟨N, 7, none⟩ (.bool true)) N (fun q => fp q ∨ (N ≤ q ∧ q < N + 4)) #[.int .i64 a, .int .i64 nn, .int .u64 (ep : Int), .slice lA ln lc, .int .i64 (us : Int), .int .u64 (ah : Int), .int .u64 (sa : Int), .bool true] #[.slice sA sn sc, .slice sB sm sd, .int .i64 f, .bool o] (.agg #[.slice sA sn sc, .slice sB sm sd, .int .i64 f, .bool o]) M := by
        have oo : ∀ q, q ≠ N → (w5.setCell ⟨N, 7, none⟩ (.bool true)).heap[q]? = w5.heap[q]? := fun q hq => Below.heap_setCell _ ⟨N, 7, none⟩ _ q hq
        have t1 := Lg.turned_set w5 N 7 (.bool true)
        have hs5 := F5.sz
        have r0 : Dk.RefAt w5 (fun q => fp q ∨ (N ≤ q ∧ q < N + 4)) (.agg #[.slice sA sn sc, .slice sB sm sd, .int .i64 f, .bool o]) M := (HR.out.off (fp' := fun q => fp q ∨ (N ≤ q ∧ q < N + 4)) fun q hq e => e.resolve_right (by have := HN.out; omega)).low (by rw [← HN.out]; exact B5)
        exact ⟨⟨Sm.heap_set F5.kb 7 _, (oo _ (by omega)).trans F5.db, (oo _ (by omega)).trans F5.kr, (oo _ (by omega)).trans F5.dr⟩, Lg.refTurned r0 (t1.mono fun i e => .inr (by omega)) fun _ => .inl, fun q e => by
          rcases e with e | e
          · have h1 := HFP.out q e; have h2 := B5.size; have h3 := HN.out; have h4 := t1.size; omega
          · have h4 := t1.size; omega, fun q h1 h2 => .inr ⟨h1, h2⟩, B5.trans (t1.below (fun q e => by omega) (by omega)), t1.mono fun i e => by omega⟩
      have HS5 := Lib.hid F5.sz
      clear y7 yf7 F5 B5
      generalize w5.setCell ⟨N, 7, none⟩ (.bool true) = w6 at *
      go_wp2_with fail
      go_loopw [10] (fun s10 wr => ∃ (i : Nat) (sA : Option Addr) (sn sc : Nat) (sB : Option Addr) (sm sd : Nat) (f : Int) (o : Bool), s10 = .int .i64 i ∧ i ≤ P ∧ (Kp.puts M nx (l.take i)).2 = 0 ∧ Lg.Lo10 w w5 wr N (fun q => fp q ∨ (N ≤ q ∧ q < N + 4)) #[.int .i64 a, .int .i64 nn, .int .u64 (ep : Int), .slice lA ln lc, .int .i64 (us : Int), .int .u64 (ah : Int), .int .u64 (sa : Int), .bool true] #[.slice sA sn sc, .slice sB sm sd, .int .i64 f, .bool o] (.agg #[.slice sA sn sc, .slice sB sm sd, .int .i64 f, .bool o]) (Kp.puts M nx (l.take i)).1) (fun s10 _ => P - (intOf s10).toNat)
      case atStart => exact ⟨0, sA, sn, sc, sB, sm, sd, f, o, rfl, Nat.zero_le _, rfl, LD⟩
      case round =>
        clear LD
        obtain ⟨i, sA, sn, sc, sB, sm, sd, f, o, rfl, hi, hz0, LD0⟩ := hrel
        have HZ0 := Lib.hid hz0
        obtain ⟨X, hX⟩ : ∃ X, X = Kp.puts M nx (l.take i) := ⟨_, rfl⟩
        have hok : X.1.Ok := by rw [hX]; exact Lg.putsOk _ _ _ HM.out
        have hwt : Dk.waits X.1 ≤ 1099511627775 := by
          have h1 := Kp.waits_puts (l.take i) M nx
          have h2 : (l.take i).length ≤ i := List.length_take_le _ _
          have h3 := HQ.out
          rw [hX]; omega
        rw [← hX] at LD0
        have HX := Lib.hid hX
        have HOK := Lib.hid hok
        have HWT := Lib.hid hwt
        have LD := LD0.low ((Below.refl _ wr).drew)
        clear hX hok hwt hz0
        by_cases hlt : i < P
        · have hki : (i : Int) < (P : Int) := by omega
          have hsuc : IntKind.i64.wrap ((i : Int) + 1) = ((i + 1 : Nat) : Int) := by simp [IntKind.wrap, IntKind.bits, IntKind.signed]; omega
          have hw3 : IntKind.i64.wrap (a + (us : Int)) = nx := by rw [HUS.out]; exact IntWalk.i64_in _ (by have := HUS.out; omega)
          have hw4 : IntKind.i64.wrap (nx + (i : Int)) = nx + (i : Int) := IntWalk.i64_in _ (by omega)
          obtain ⟨sec, hsec⟩ : ∃ b : ByteArray, b = ⟨(Dk.closed (l.getD i [])).toArray⟩ := ⟨_, rfl⟩
          have hsl2 : sec.data.toList = Dk.closed (l.getD i []) := by rw [hsec]
          have CE : Hid (∀ wx, Dk.Turned (fun q => q < N + 4) w5 wx → wx.cell? ⟨gb, go + i, none⟩ = some (.string sec)) := fun wx tt => by rw [hsec]; exact CE0.out wx tt i hlt
          obtain ⟨W1, hW1⟩ : ∃ x, x = Dk.write X.1 (nx + (i : Int)) (Dk.closed (l.getD i [])) := ⟨_, rfl⟩
          obtain ⟨M1, er⟩ := W1
          have NEXT : Hid (er = 0 → Kp.puts M nx (l.take (i + 1)) = (M1, 0)) := fun h0 => by
            rw [Pt.puts_take (by rw [HLL.out]; exact hlt) HZ0.out, ← HX.out, ← hW1]; simp [h0]
          have STOP : Hid (er ≠ 0 → R = (⟨ep, nx, en, rs, ah, sa, true⟩, M1, er)) := fun h0 => STOPX.out M1 er h0 (by
            have e1 : Kp.puts M nx (l.take (i + 1)) = (M1, er) := by rw [Pt.puts_take (by rw [HLL.out]; exact hlt) HZ0.out, ← HX.out, ← hW1]; simp [h0]
            rw [Pt.puts_stopped (i := i) (by rw [e1]; exact h0), e1])
          obtain ⟨bl, hbl⟩ : ∃ q : List Value, q = [.slice sA sn sc, .slice sB sm sd, .int .i64 f, .bool o] := ⟨_, rfl⟩
          have hba : bl.toArray = #[.slice sA sn sc, .slice sB sm sd, .int .i64 f, .bool o] := by rw [hbl]
          have hbl4 : bl.length = 4 := by rw [hbl]; rfl
          have WR : Hid (∀ wx fpx, Dk.RefAt wx fpx (.agg bl.toArray) X.1 → (∀ q, fpx q → q < wx.heap.size) → Calls Tryz.prog 14 #[.agg bl.toArray, .int .i64 (nx + (i : Int)), .string sec] wx fun e w' => ∃ v', e = .returned (.tuple #[v', .int .i64 er]) ∧ Dk.RefAt w' fpx v' M1 ∧ Below wx.heap.size wx w') := fun wx fpx h1 h2 => by
            have := r7Write_any wx fpx _ X.1 HOK.out h1 h2 HWT.out (nx + (i : Int)) sec
            rw [hsl2, ← hW1] at this
            exact this
          rw [← hba] at LD
          have HBA := Lib.hid hba
          clear LD0 hW1 hba hbl hsec hsl2
          go_upto_region 12 with (fail)
          refine wp_region_held_drew (S := (fun w' => w'.heap[N]? = some (.cells #[.int .i64 a, .int .i64 nn, .int .u64 (ep : Int), .slice lA ln lc, .int .i64 (us : Int), .int .u64 (ah : Int), .int .u64 (sa : Int), .bool true] 39 (0, 0)) ∧ w'.heap[N + 1]? = some (.cells bl.toArray 33 (0, 0)) ∧ w'.cell? ⟨gb, go + i, none⟩ = some (.string sec))) (by kernel_rfl) ⟨LD.fr.kb, LD.fr.db, CE.out _ LD.tu⟩ (fun hHeld => ?_)
          generalize wr.drew = wd at *
          refine wpAnyH_take (i := 0) (oi := ⟨some 56, _, _, _, _, _⟩) (v := .agg bl.toArray) rfl (by kernel_rfl) (by kernel_rfl) (by kernel_rfl) (fun _ _ _ h => h) (yieldsIf_load_mid (by rfl) _ _ rfl _ _ rfl bl _ (fun w hS => Sm.range_row hS.2.1) Tryz.underlying33 rfl (Lg.info_dsk10 hbl4)) (by assumption) ?_
          simp only [Act.put, List.setIfInBounds_toArray, List.set_cons_zero, List.set_cons_succ]
          refine wpAnyH_take (i := 1) (oi := ⟨some 57, _, _, _, _, _⟩) (v := .pointer (some ⟨N, 0, none⟩)) rfl (by kernel_rfl) (by kernel_rfl) (by kernel_rfl) (fun _ _ _ h => h) (Or.inl ⟨by rfl, ?_⟩) (by assumption) ?_
          · intro w hSw; (try dsimp only at hSw); go_simp
          simp only [Act.put, List.setIfInBounds_toArray, List.set_cons_zero, List.set_cons_succ]
          refine wpAnyH_take (i := 2) (oi := ⟨some 58, _, _, _, _, _⟩) (v := .int .i64 a) rfl (by kernel_rfl) (by kernel_rfl) (by kernel_rfl) (fun _ _ _ h => h) (Or.inl ⟨by rfl, ?_⟩) (by assumption) ?_
          · intro w hSw; (try dsimp only at hSw); have hh := Sm.cells_of hSw.1 0 _ rfl; go_simp
          simp only [Act.put, List.setIfInBounds_toArray, List.set_cons_zero, List.set_cons_succ]
          refine wpAnyH_take (i := 3) (oi := ⟨some 59, _, _, _, _, _⟩) (v := .pointer (some ⟨N, 4, none⟩)) rfl (by kernel_rfl) (by kernel_rfl) (by kernel_rfl) (fun _ _ _ h => h) (Or.inl ⟨by rfl, ?_⟩) (by assumption) ?_
          · intro w hSw; (try dsimp only at hSw); go_simp
          simp only [Act.put, List.setIfInBounds_toArray, List.set_cons_zero, List.set_cons_succ]
          refine wpAnyH_take (i := 4) (oi := ⟨some 60, _, _, _, _, _⟩) (v := .int .i64 (us : Int)) rfl (by kernel_rfl) (by kernel_rfl) (by kernel_rfl) (fun _ _ _ h => h) (Or.inl ⟨by rfl, ?_⟩) (by assumption) ?_
          · intro w hSw; (try dsimp only at hSw); have hh := Sm.cells_of hSw.1 4 _ rfl; go_simp
          simp only [Act.put, List.setIfInBounds_toArray, List.set_cons_zero, List.set_cons_succ]
          refine wpAnyH_take (i := 5) (oi := ⟨some 61, _, _, _, _, _⟩) (v := .int .i64 nx) rfl (by kernel_rfl) (by kernel_rfl) (by kernel_rfl) (fun _ _ _ h => h) (Or.inl ⟨by rfl, ?_⟩) (by assumption) ?_
          · intro w hSw; (try dsimp only at hSw); go_simp
          simp only [Act.put, List.setIfInBounds_toArray, List.set_cons_zero, List.set_cons_succ]
          refine wpAnyH_take (i := 6) (oi := ⟨some 62, _, _, _, _, _⟩) (v := .int .i64 (i : Int)) rfl (by kernel_rfl) (by kernel_rfl) (by kernel_rfl) (fun _ _ _ h => h) (Or.inl ⟨by rfl, ?_⟩) (by assumption) ?_
          · intro w hSw; (try dsimp only at hSw); go_simp
          simp only [Act.put, List.setIfInBounds_toArray, List.set_cons_zero, List.set_cons_succ]
          refine wpAnyH_take (i := 7) (oi := ⟨some 63, _, _, _, _, _⟩) (v := .int .i64 (nx + (i : Int))) rfl (by kernel_rfl) (by kernel_rfl) (by kernel_rfl) (fun _ _ _ h => h) (Or.inl ⟨by rfl, ?_⟩) (by assumption) ?_
          · intro w hSw; (try dsimp only at hSw); go_simp
          simp only [Act.put, List.setIfInBounds_toArray, List.set_cons_zero, List.set_cons_succ]
          refine wpAnyH_take (i := 8) (oi := ⟨some 64, _, _, _, _, _⟩) (v := .slice (some ⟨gb, go, none⟩) P c) rfl (by kernel_rfl) (by kernel_rfl) (by kernel_rfl) (fun _ _ _ h => h) (Or.inl ⟨by rfl, ?_⟩) (by assumption) ?_
          · intro w hSw; (try dsimp only at hSw); go_simp
          simp only [Act.put, List.setIfInBounds_toArray, List.set_cons_zero, List.set_cons_succ]
          refine wpAnyH_take (i := 9) (oi := ⟨some 65, _, _, _, _, _⟩) (v := .int .i64 (i : Int)) rfl (by kernel_rfl) (by kernel_rfl) (by kernel_rfl) (fun _ _ _ h => h) (Or.inl ⟨by rfl, ?_⟩) (by assumption) ?_
          · intro w hSw; (try dsimp only at hSw); go_simp
          simp only [Act.put, List.setIfInBounds_toArray, List.set_cons_zero, List.set_cons_succ]
          refine wpAnyH_take (i := 10) (oi := ⟨some 66, _, _, _, _, _⟩) (v := .pointer (some ⟨gb, go + i, none⟩)) rfl (by kernel_rfl) (by kernel_rfl) (by kernel_rfl) (fun _ _ _ h => h) (Or.inl ⟨by rfl, ?_⟩) (by assumption) ?_
          · intro w hSw; (try dsimp only at hSw); go_simp
          simp only [Act.put, List.setIfInBounds_toArray, List.set_cons_zero, List.set_cons_succ]
          refine wpAnyH_take (i := 11) (oi := ⟨some 67, _, _, _, _, _⟩) (v := .string sec) rfl (by kernel_rfl) (by kernel_rfl) (by kernel_rfl) (fun _ _ _ h => h) (Or.inl ⟨by rfl, ?_⟩) (by assumption) ?_
          · intro w hSw; (try dsimp only at hSw); have hh := hSw.2.2; go_simp
          simp only [Act.put, List.setIfInBounds_toArray, List.set_cons_zero, List.set_cons_succ]
          refine wpAnyH_ready (rs := [12, 16]) (by kernel_rfl) (by simp) ?_
          refine (AllReadyH.cons (o := ⟨some 68, _, _, _, _, _⟩) rfl (fun K hK => ?_) (AllReadyH.cons (o := ⟨some 11, _, _, _, _, _⟩) rfl (fun K hK => ?_) AllReadyH.nil))
          · go_simp
            refine (WR.out _ _ LD.ref LD.lt).mono ?_
            rintro e u1 ⟨vn, rfl, href, k1⟩
            obtain ⟨tA, tn, tc, tB, tm, td, f2, o2, rfl⟩ := Lg.quad href
            have L1 := LD.write href k1
            refine hK.out _ _ ⟨L1.fr.kb, L1.fr.db, CE.out _ L1.tu⟩ (fun hHeld => ?_)
            clear hK K
            refine wpAnyH_take (i := 13) (oi := ⟨some 55, _, _, _, _, _⟩) (v := .tuple #[.agg #[.slice tA tn tc, .slice tB tm td, .int .i64 f2, .bool o2], .int .i64 er]) rfl (by kernel_rfl) (by kernel_rfl) (by kernel_rfl) (fun _ _ _ h => h) (Or.inl ⟨by rfl, ?_⟩) (by assumption) ?_
            · intro w hSw; (try dsimp only at hSw); go_simp
            simp only [Act.put, List.setIfInBounds_toArray, List.set_cons_zero, List.set_cons_succ]
            refine wpAnyH_take (i := 14) (oi := ⟨some 69, _, _, _, _, _⟩) (v := .agg #[.slice tA tn tc, .slice tB tm td, .int .i64 f2, .bool o2]) rfl (by kernel_rfl) (by kernel_rfl) (by kernel_rfl) (fun _ _ _ h => h) (Or.inl ⟨by rfl, ?_⟩) (by assumption) ?_
            · intro w hSw; (try dsimp only at hSw); go_simp
            simp only [Act.put, List.setIfInBounds_toArray, List.set_cons_zero, List.set_cons_succ]
            refine wpAnyH_take (i := 15) (oi := ⟨some 70, _, _, _, _, _⟩) (v := .int .i64 er) rfl (by kernel_rfl) (by kernel_rfl) (by kernel_rfl) (fun _ _ _ h => h) (Or.inl ⟨by rfl, ?_⟩) (by assumption) ?_
            · intro w hSw; (try dsimp only at hSw); go_simp
            simp only [Act.put, List.setIfInBounds_toArray, List.set_cons_zero, List.set_cons_succ]
            refine wpAnyH_ready (rs := [16]) (by kernel_rfl) (by simp) ?_
            refine (AllReadyH.cons (o := ⟨some 11, _, _, _, _, _⟩) rfl (fun K hK => ?_) AllReadyH.nil)
            rw [if_pos (by simp [Region.wanted])]
            go_simp
            have pQ := heap_alloc_new u1 (.cells #[.slice none 0 0, .slice none 0 0, .int .i64 0, .bool false] 33)
            have L2 := L1.alloc (.cells #[.slice none 0 0, .slice none 0 0, .int .i64 0, .bool false] 33)
            have hQ5 : w5.heap.size ≤ u1.heap.size := L1.tu.size
            have hQ4 : N + 4 ≤ u1.heap.size := L1.fr.sz
            obtain ⟨Q, hQ⟩ : ∃ Q, Q = u1.heap.size := ⟨_, rfl⟩
            rw [← hQ] at pQ L2 hQ5 hQ4 ⊢
            clear hQ
            generalize u1.alloc (.cells #[.slice none 0 0, .slice none 0 0, .int .i64 0, .bool false] 33) = ux at *
            refine hK.out _ _ ⟨L2.fr.kb, L2.fr.db, CE.out _ L2.tu⟩ (fun hHeld => ?_)
            clear hK K
            refine wpAnyH_ready (rs := [17]) (by kernel_rfl) (by simp) ?_
            refine (AllReadyH.cons (o := ⟨none, _, _, _, _, _⟩) rfl (fun K hK => ?_) AllReadyH.nil)
            have x0 := Sm.cells_of pQ 0 _ rfl
            have x1 := Sm.cells_of pQ 1 _ rfl
            have x2 := Sm.cells_of pQ 2 _ rfl
            have x3 := Sm.cells_of pQ 3 _ rfl
            have f0 := Sm.free_of pQ 0
            have f1 := Sm.free_of pQ 1
            have f2' := Sm.free_of pQ 2
            have f3 := Sm.free_of pQ 3
            go_simp
            have L3 := (L2.setQ hQ5 hQ4 (.inr rfl) (.slice tA tn tc) (.slice tB tm td) (.int .i64 f2) (.bool o2))
            have p3 := Dk.set4 pQ rfl (.slice tA tn tc) (.slice tB tm td) (.int .i64 f2) (.bool o2)
            clear x0 x1 x2 x3 f0 f1 f2' f3
            generalize ((((ux.setCell ⟨Q, 0, none⟩ (.slice tA tn tc)).setCell ⟨Q, 1, none⟩ (.slice tB tm td)).setCell ⟨Q, 2, none⟩ (.int .i64 f2)).setCell ⟨Q, 3, none⟩ (.bool o2)) = u3 at *
            refine hK.out _ _ ⟨L3.fr.kb, L3.fr.db, CE.out _ L3.tu⟩ (fun hHeld => ?_)
            clear hK K
            refine wpAnyH_take (i := 18) (oi := ⟨some 12, _, _, _, _, _⟩) (v := .int .i64 er) rfl (by kernel_rfl) (by kernel_rfl) (by kernel_rfl) (fun _ _ _ h => h) (Or.inl ⟨by rfl, ?_⟩) (by assumption) ?_
            · intro w hSw; (try dsimp only at hSw); go_simp
            simp only [Act.put, List.setIfInBounds_toArray, List.set_cons_zero, List.set_cons_succ]
            refine wpAnyH_done (by kernel_rfl) ?_ _
            clear hHeld
            rw [HBA.out] at L3
            have L4 := (L3.setD rfl (.slice tA tn tc) (.slice tB tm td) (.int .i64 f2) (.bool o2)).off (fun q e => .inl e) LD.own
            have x0 := Sm.cells_of p3 0 _ rfl; have x1 := Sm.cells_of p3 1 _ rfl; have x2 := Sm.cells_of p3 2 _ rfl; have x3 := Sm.cells_of p3 3 _ rfl
            have y0 := Sm.cells_of L3.fr.db 0 _ rfl; have y1 := Sm.cells_of L3.fr.db 1 _ rfl; have y2 := Sm.cells_of L3.fr.db 2 _ rfl; have y3 := Sm.cells_of L3.fr.db 3 _ rfl
            have e0 := Sm.free_of L3.fr.db 0; have e1 := Sm.free_of L3.fr.db 1; have e2 := Sm.free_of L3.fr.db 2; have e3 := Sm.free_of L3.fr.db 3
            have H4 := Lib.hid L4
            clear L1 L2 L3 L4 pQ p3 LD
            go_upto_region 14 with (fail)
            clear x0 x1 x2 x3 y0 y1 y2 y3 e0 e1 e2 e3
            have L4 := H4.out
            clear H4
            generalize ((((u3.setCell ⟨N + 1, 0, none⟩ (.slice tA tn tc)).setCell ⟨N + 1, 1, none⟩ (.slice tB tm td)).setCell ⟨N + 1, 2, none⟩ (.int .i64 f2)).setCell ⟨N + 1, 3, none⟩ (.bool o2)) = u4 at *
            have H4 := Lib.hid L4
            by_cases hz : er = 0
            · have hzb : (er == 0) = true := beq_iff_eq.2 hz
              clear L4
              have NX := Lib.hid (NEXT.out hz)
              subst hz
              go_wp2
              go_roundw
              case rel => exact ⟨i + 1, tA, tn, tc, tB, tm, td, f2, o2, rfl, hlt, by rw [NX.out], by rw [NX.out]; exact H4.out⟩
              case measure => simp [intOf]; omega
            · have hzb : (er == 0) = false := beq_eq_false_iff_ne.2 hz
              have ST := Lib.hid (STOP.out hz)
              have F4 := L4.fr
              have k0 := Sm.cells_of F4.kb 0 _ rfl; have k1 := Sm.cells_of F4.kb 1 _ rfl; have k2 := Sm.cells_of F4.kb 2 _ rfl; have k3 := Sm.cells_of F4.kb 3 _ rfl; have k4 := Sm.cells_of F4.kb 4 _ rfl; have k5 := Sm.cells_of F4.kb 5 _ rfl; have k6 := Sm.cells_of F4.kb 6 _ rfl; have k7 := Sm.cells_of F4.kb 7 _ rfl
              have d0 := Sm.cells_of F4.db 0 _ rfl; have d1 := Sm.cells_of F4.db 1 _ rfl; have d2 := Sm.cells_of F4.db 2 _ rfl; have d3 := Sm.cells_of F4.db 3 _ rfl
              have z0 := Sm.cells_of F4.kr 0 _ rfl; have z1 := Sm.cells_of F4.kr 1 _ rfl; have z2 := Sm.cells_of F4.kr 2 _ rfl; have z3 := Sm.cells_of F4.kr 3 _ rfl; have z4 := Sm.cells_of F4.kr 4 _ rfl; have z5 := Sm.cells_of F4.kr 5 _ rfl; have z6 := Sm.cells_of F4.kr 6 _ rfl; have z7 := Sm.cells_of F4.kr 7 _ rfl
              have y0 := Sm.cells_of F4.dr 0 _ rfl; have y1 := Sm.cells_of F4.dr 1 _ rfl; have y2 := Sm.cells_of F4.dr 2 _ rfl; have y3 := Sm.cells_of F4.dr 3 _ rfl
              have zf0 := Sm.free_of F4.kr 0; have zf1 := Sm.free_of F4.kr 1; have zf2 := Sm.free_of F4.kr 2; have zf3 := Sm.free_of F4.kr 3; have zf4 := Sm.free_of F4.kr 4; have zf5 := Sm.free_of F4.kr 5; have zf6 := Sm.free_of F4.kr 6; have zf7 := Sm.free_of F4.kr 7
              have yf0 := Sm.free_of F4.dr 0; have yf1 := Sm.free_of F4.dr 1; have yf2 := Sm.free_of F4.dr 2; have yf3 := Sm.free_of F4.dr 3
              clear F4 L4
              go_upto_region 15 with (fail)
              go_region
              have FE := Lg.Fr10.fin H4.out.fr (.int .i64 a) (.int .i64 nn) (.int .u64 (ep : Int)) (.slice lA ln lc) (.int .i64 (us : Int)) (.int .u64 (ah : Int)) (.int .u64 (sa : Int)) (.bool true) (.slice tA tn tc) (.slice tB tm td) (.int .i64 f2) (.bool o2)
              change Exit.then _ _ _ _ (Lg.sets8 u4 N (.int .i64 a) (.int .i64 nn) (.int .u64 (ep : Int)) (.slice lA ln lc) (.int .i64 (us : Int)) (.int .u64 (ah : Int)) (.int .u64 (sa : Int)) (.bool true) (.slice tA tn tc) (.slice tB tm td) (.int .i64 f2) (.bool o2)).drew
              generalize (Lg.sets8 u4 N (.int .i64 a) (.int .i64 nn) (.int .u64 (ep : Int)) (.slice lA ln lc) (.int .i64 (us : Int)) (.int .u64 (ah : Int)) (.int .u64 (sa : Int)) (.bool true) (.slice tA tn tc) (.slice tB tm td) (.int .i64 f2) (.bool o2)).drew = we at FE ⊢
              have BE := FE.below H4.out.bel (by have := Lg.Fr10.sz H4.out.fr; omega)
              have ez0 := Sm.cells_of FE.kr 0 _ rfl; have ez1 := Sm.cells_of FE.kr 1 _ rfl; have ez2 := Sm.cells_of FE.kr 2 _ rfl; have ez3 := Sm.cells_of FE.kr 3 _ rfl; have ez4 := Sm.cells_of FE.kr 4 _ rfl; have ez5 := Sm.cells_of FE.kr 5 _ rfl; have ez6 := Sm.cells_of FE.kr 6 _ rfl; have ez7 := Sm.cells_of FE.kr 7 _ rfl
              have ey0 := Sm.cells_of FE.dr 0 _ rfl; have ey1 := Sm.cells_of FE.dr 1 _ rfl; have ey2 := Sm.cells_of FE.dr 2 _ rfl; have ey3 := Sm.cells_of FE.dr 3 _ rfl
              have RE := show Dk.RefAt we fp (.agg #[.slice tA tn tc, .slice tB tm td, .int .i64 f2, .bool o2]) R.2.1 from (by rw [ST.out]; exact (Lg.refTurned H4.out.ref (FE.tu.mono fun i e => H4.out.own i (by omega) (by omega)) fun _ => .inl).off (fun q hq e => .inl e))
              have HBE := Lib.hid BE
              have LE := show Lg.RefAt we fp a nn (.agg #[.int .i64 a, .int .i64 nn, .int .u64 (ep : Int), .slice lA ln lc, .int .i64 (us : Int), .int .u64 (ah : Int), .int .u64 (sa : Int), .bool true]) R.1 from (by rw [ST.out]; exact LR.out true _ BE)
              clear FE BE 
              go_wp2
              exact bodyPost_ret (v := .tuple #[.agg #[.int .i64 a, .int .i64 nn, .int .u64 (ep : Int), .slice lA ln lc, .int .i64 (us : Int), .int .u64 (ah : Int), .int .u64 (sa : Int), .bool true], .agg #[.slice tA tn tc, .slice tB tm td, .int .i64 f2, .bool o2], .int .i64 er]) ((Lg.results_cct rfl _ _ _).trans (by go_simp)) rfl ⟨_, _, by rw [ST.out], LE, RE, by rw [← HN.out]; exact HBE.out⟩
          · rw [if_pos (by simp [Region.wanted])]
            go_simp
            have pQ1 := heap_alloc_new wd (.cells #[.slice none 0 0, .slice none 0 0, .int .i64 0, .bool false] 33)
            have L1 := LD.alloc (.cells #[.slice none 0 0, .slice none 0 0, .int .i64 0, .bool false] 33)
            have hQ5 : w5.heap.size ≤ wd.heap.size := LD.tu.size
            have hQ4 : N + 4 ≤ wd.heap.size := LD.fr.sz
            obtain ⟨Q, hQ⟩ : ∃ Q, Q = wd.heap.size := ⟨_, rfl⟩
            rw [← hQ] at pQ1 L1 hQ5 hQ4 ⊢
            clear hQ
            generalize wd.alloc (.cells #[.slice none 0 0, .slice none 0 0, .int .i64 0, .bool false] 33) = u1 at *
            refine hK.out _ _ ⟨L1.fr.kb, L1.fr.db, CE.out _ L1.tu⟩ (fun hHeld => ?_)
            clear hK K
            refine wpAnyH_ready (rs := [12]) (by kernel_rfl) (by simp) ?_
            refine (AllReadyH.cons (o := ⟨some 68, _, _, _, _, _⟩) rfl (fun K hK => ?_) AllReadyH.nil)
            go_simp
            refine (WR.out _ _ L1.ref L1.lt).mono ?_
            rintro e ux ⟨vn, rfl, href, k1⟩
            obtain ⟨tA, tn, tc, tB, tm, td, f2, o2, rfl⟩ := Lg.quad href
            have L2 := L1.write href k1
            have pQ := (k1.block Q (Sm.lt_of pQ1)).trans pQ1
            refine hK.out _ _ ⟨L2.fr.kb, L2.fr.db, CE.out _ L2.tu⟩ (fun hHeld => ?_)
            clear hK K
            refine wpAnyH_take (i := 13) (oi := ⟨some 55, _, _, _, _, _⟩) (v := .tuple #[.agg #[.slice tA tn tc, .slice tB tm td, .int .i64 f2, .bool o2], .int .i64 er]) rfl (by kernel_rfl) (by kernel_rfl) (by kernel_rfl) (fun _ _ _ h => h) (Or.inl ⟨by rfl, ?_⟩) (by assumption) ?_
            · intro w hSw; (try dsimp only at hSw); go_simp
            simp only [Act.put, List.setIfInBounds_toArray, List.set_cons_zero, List.set_cons_succ]
            refine wpAnyH_take (i := 14) (oi := ⟨some 69, _, _, _, _, _⟩) (v := .agg #[.slice tA tn tc, .slice tB tm td, .int .i64 f2, .bool o2]) rfl (by kernel_rfl) (by kernel_rfl) (by kernel_rfl) (fun _ _ _ h => h) (Or.inl ⟨by rfl, ?_⟩) (by assumption) ?_
            · intro w hSw; (try dsimp only at hSw); go_simp
            simp only [Act.put, List.setIfInBounds_toArray, List.set_cons_zero, List.set_cons_succ]
            refine wpAnyH_take (i := 15) (oi := ⟨some 70, _, _, _, _, _⟩) (v := .int .i64 er) rfl (by kernel_rfl) (by kernel_rfl) (by kernel_rfl) (fun _ _ _ h => h) (Or.inl ⟨by rfl, ?_⟩) (by assumption) ?_
            · intro w hSw; (try dsimp only at hSw); go_simp
            simp only [Act.put, List.setIfInBounds_toArray, List.set_cons_zero, List.set_cons_succ]
            refine wpAnyH_ready (rs := [17]) (by kernel_rfl) (by simp) ?_
            refine (AllReadyH.cons (o := ⟨none, _, _, _, _, _⟩) rfl (fun K hK => ?_) AllReadyH.nil)
            have x0 := Sm.cells_of pQ 0 _ rfl
            have x1 := Sm.cells_of pQ 1 _ rfl
            have x2 := Sm.cells_of pQ 2 _ rfl
            have x3 := Sm.cells_of pQ 3 _ rfl
            have f0 := Sm.free_of pQ 0
            have f1 := Sm.free_of pQ 1
            have f2' := Sm.free_of pQ 2
            have f3 := Sm.free_of pQ 3
            go_simp
            have L3 := (L2.setQ hQ5 hQ4 (.inr rfl) (.slice tA tn tc) (.slice tB tm td) (.int .i64 f2) (.bool o2))
            have p3 := Dk.set4 pQ rfl (.slice tA tn tc) (.slice tB tm td) (.int .i64 f2) (.bool o2)
            clear x0 x1 x2 x3 f0 f1 f2' f3
            generalize ((((ux.setCell ⟨Q, 0, none⟩ (.slice tA tn tc)).setCell ⟨Q, 1, none⟩ (.slice tB tm td)).setCell ⟨Q, 2, none⟩ (.int .i64 f2)).setCell ⟨Q, 3, none⟩ (.bool o2)) = u3 at *
            refine hK.out _ _ ⟨L3.fr.kb, L3.fr.db, CE.out _ L3.tu⟩ (fun hHeld => ?_)
            clear hK K
            refine wpAnyH_take (i := 18) (oi := ⟨some 12, _, _, _, _, _⟩) (v := .int .i64 er) rfl (by kernel_rfl) (by kernel_rfl) (by kernel_rfl) (fun _ _ _ h => h) (Or.inl ⟨by rfl, ?_⟩) (by assumption) ?_
            · intro w hSw; (try dsimp only at hSw); go_simp
            simp only [Act.put, List.setIfInBounds_toArray, List.set_cons_zero, List.set_cons_succ]
            refine wpAnyH_done (by kernel_rfl) ?_ _
            clear hHeld
            rw [HBA.out] at L3
            have L4 := (L3.setD rfl (.slice tA tn tc) (.slice tB tm td) (.int .i64 f2) (.bool o2)).off (fun q e => .inl e) LD.own
            have x0 := Sm.cells_of p3 0 _ rfl; have x1 := Sm.cells_of p3 1 _ rfl; have x2 := Sm.cells_of p3 2 _ rfl; have x3 := Sm.cells_of p3 3 _ rfl
            have y0 := Sm.cells_of L3.fr.db 0 _ rfl; have y1 := Sm.cells_of L3.fr.db 1 _ rfl; have y2 := Sm.cells_of L3.fr.db 2 _ rfl; have y3 := Sm.cells_of L3.fr.db 3 _ rfl
            have e0 := Sm.free_of L3.fr.db 0; have e1 := Sm.free_of L3.fr.db 1; have e2 := Sm.free_of L3.fr.db 2; have e3 := Sm.free_of L3.fr.db 3
            have H4 := Lib.hid L4
            clear L1 L2 L3 L4 pQ p3 LD
            go_upto_region 14 with (fail)
            clear x0 x1 x2 x3 y0 y1 y2 y3 e0 e1 e2 e3
            have L4 := H4.out
            clear H4
            generalize ((((u3.setCell ⟨N + 1, 0, none⟩ (.slice tA tn tc)).setCell ⟨N + 1, 1, none⟩ (.slice tB tm td)).setCell ⟨N + 1, 2, none⟩ (.int .i64 f2)).setCell ⟨N + 1, 3, none⟩ (.bool o2)) = u4 at *
            have H4 := Lib.hid L4
            by_cases hz : er = 0
            · have hzb : (er == 0) = true := beq_iff_eq.2 hz
              clear L4
              have NX := Lib.hid (NEXT.out hz)
              subst hz
              go_wp2
              go_roundw
              case rel => exact ⟨i + 1, tA, tn, tc, tB, tm, td, f2, o2, rfl, hlt, by rw [NX.out], by rw [NX.out]; exact H4.out⟩
              case measure => simp [intOf]; omega
            · have hzb : (er == 0) = false := beq_eq_false_iff_ne.2 hz
              have ST := Lib.hid (STOP.out hz)
              have F4 := L4.fr
              have k0 := Sm.cells_of F4.kb 0 _ rfl; have k1 := Sm.cells_of F4.kb 1 _ rfl; have k2 := Sm.cells_of F4.kb 2 _ rfl; have k3 := Sm.cells_of F4.kb 3 _ rfl; have k4 := Sm.cells_of F4.kb 4 _ rfl; have k5 := Sm.cells_of F4.kb 5 _ rfl; have k6 := Sm.cells_of F4.kb 6 _ rfl; have k7 := Sm.cells_of F4.kb 7 _ rfl
              have d0 := Sm.cells_of F4.db 0 _ rfl; have d1 := Sm.cells_of F4.db 1 _ rfl; have d2 := Sm.cells_of F4.db 2 _ rfl; have d3 := Sm.cells_of F4.db 3 _ rfl
              have z0 := Sm.cells_of F4.kr 0 _ rfl; have z1 := Sm.cells_of F4.kr 1 _ rfl; have z2 := Sm.cells_of F4.kr 2 _ rfl; have z3 := Sm.cells_of F4.kr 3 _ rfl; have z4 := Sm.cells_of F4.kr 4 _ rfl; have z5 := Sm.cells_of F4.kr 5 _ rfl; have z6 := Sm.cells_of F4.kr 6 _ rfl; have z7 := Sm.cells_of F4.kr 7 _ rfl
              have y0 := Sm.cells_of F4.dr 0 _ rfl; have y1 := Sm.cells_of F4.dr 1 _ rfl; have y2 := Sm.cells_of F4.dr 2 _ rfl; have y3 := Sm.cells_of F4.dr 3 _ rfl
              have zf0 := Sm.free_of F4.kr 0; have zf1 := Sm.free_of F4.kr 1; have zf2 := Sm.free_of F4.kr 2; have zf3 := Sm.free_of F4.kr 3; have zf4 := Sm.free_of F4.kr 4; have zf5 := Sm.free_of F4.kr 5; have zf6 := Sm.free_of F4.kr 6; have zf7 := Sm.free_of F4.kr 7
              have yf0 := Sm.free_of F4.dr 0; have yf1 := Sm.free_of F4.dr 1; have yf2 := Sm.free_of F4.dr 2; have yf3 := Sm.free_of F4.dr 3
              clear F4 L4
              go_upto_region 15 with (fail)
              go_region
              have FE := Lg.Fr10.fin H4.out.fr (.int .i64 a) (.int .i64 nn) (.int .u64 (ep : Int)) (.slice lA ln lc) (.int .i64 (us : Int)) (.int .u64 (ah : Int)) (.int .u64 (sa : Int)) (.bool true) (.slice tA tn tc) (.slice tB tm td) (.int .i64 f2) (.bool o2)
              change Exit.then _ _ _ _ (Lg.sets8 u4 N (.int .i64 a) (.int .i64 nn) (.int .u64 (ep : Int)) (.slice lA ln lc) (.int .i64 (us : Int)) (.int .u64 (ah : Int)) (.int .u64 (sa : Int)) (.bool true) (.slice tA tn tc) (.slice tB tm td) (.int .i64 f2) (.bool o2)).drew
              generalize (Lg.sets8 u4 N (.int .i64 a) (.int .i64 nn) (.int .u64 (ep : Int)) (.slice lA ln lc) (.int .i64 (us : Int)) (.int .u64 (ah : Int)) (.int .u64 (sa : Int)) (.bool true) (.slice tA tn tc) (.slice tB tm td) (.int .i64 f2) (.bool o2)).drew = we at FE ⊢
              have BE := FE.below H4.out.bel (by have := Lg.Fr10.sz H4.out.fr; omega)
              have ez0 := Sm.cells_of FE.kr 0 _ rfl; have ez1 := Sm.cells_of FE.kr 1 _ rfl; have ez2 := Sm.cells_of FE.kr 2 _ rfl; have ez3 := Sm.cells_of FE.kr 3 _ rfl; have ez4 := Sm.cells_of FE.kr 4 _ rfl; have ez5 := Sm.cells_of FE.kr 5 _ rfl; have ez6 := Sm.cells_of FE.kr 6 _ rfl; have ez7 := Sm.cells_of FE.kr 7 _ rfl
              have ey0 := Sm.cells_of FE.dr 0 _ rfl; have ey1 := Sm.cells_of FE.dr 1 _ rfl; have ey2 := Sm.cells_of FE.dr 2 _ rfl; have ey3 := Sm.cells_of FE.dr 3 _ rfl
              have RE := show Dk.RefAt we fp (.agg #[.slice tA tn tc, .slice tB tm td, .int .i64 f2, .bool o2]) R.2.1 from (by rw [ST.out]; exact (Lg.refTurned H4.out.ref (FE.tu.mono fun i e => H4.out.own i (by omega) (by omega)) fun _ => .inl).off (fun q hq e => .inl e))
              have HBE := Lib.hid BE
              have LE := show Lg.RefAt we fp a nn (.agg #[.int .i64 a, .int .i64 nn, .int .u64 (ep : Int), .slice lA ln lc, .int .i64 (us : Int), .int .u64 (ah : Int), .int .u64 (sa : Int), .bool true]) R.1 from (by rw [ST.out]; exact LR.out true _ BE)
              clear FE BE 
              go_wp2
              exact bodyPost_ret (v := .tuple #[.agg #[.int .i64 a, .int .i64 nn, .int .u64 (ep : Int), .slice lA ln lc, .int .i64 (us : Int), .int .u64 (ah : Int), .int .u64 (sa : Int), .bool true], .agg #[.slice tA tn tc, .slice tB tm td, .int .i64 f2, .bool o2], .int .i64 er]) ((Lg.results_cct rfl _ _ _).trans (by go_simp)) rfl ⟨_, _, by rw [ST.out], LE, RE, by rw [← HN.out]; exact HBE.out⟩
        · obtain rfl : i = P := by omega
          have hki : ¬ (i : Int) < (i : Int) := by omega
          have hlx : l.take i = l := List.take_of_length_le (by rw [HLL.out]; exact Nat.le_refl _)
          obtain ⟨W1, hW1⟩ : ∃ x, x = Dk.sync X.1 := ⟨_, rfl⟩
          obtain ⟨M1, er⟩ := W1
          have hsv : Kp.save M nx l = (M1, er) := by
            have h0 := HZ0.out
            rw [hlx] at h0
            rw [Pt.saved h0, hW1, HX.out, hlx]
          have STOP : Hid (er ≠ 0 → R = (⟨ep, nx, en, rs, ah, sa, true⟩, M1, er)) := fun h0 => STOPX.out M1 er h0 hsv
          have DONE : Hid (er = 0 → R = (⟨ep, nx + i, en, rs ++ [t.data.toList], sa + 1, sa + 1, false⟩, M1, 0)) := fun h0 => DONEX.out M1 (by rw [hsv, h0])
          have SY : Hid (∀ wx, Dk.RefAt wx (fun q => fp q ∨ (N ≤ q ∧ q < N + 4)) (.agg #[.slice sA sn sc, .slice sB sm sd, .int .i64 f, .bool o]) X.1 → (∀ q, (fp q ∨ (N ≤ q ∧ q < N + 4)) → q < wx.heap.size) → Calls Tryz.prog 62 #[.agg #[.slice sA sn sc, .slice sB sm sd, .int .i64 f, .bool o]] wx fun e w' => ∃ v', e = .returned (.tuple #[v', .int .i64 er]) ∧ Dk.RefAt w' (fun q => fp q ∨ (N ≤ q ∧ q < N + 4)) v' M1 ∧ Below wx.heap.size wx w') := fun wx h1 h2 => by
            have := r7Sync_any wx _ _ X.1 HOK.out h1 h2 HWT.out
            rw [← hW1] at this
            exact this
          clear hlx hW1 hsv LD
          have HL0 := Lib.hid LD0
          have d0 := Sm.cells_of LD0.fr.db 0 _ rfl; have d1 := Sm.cells_of LD0.fr.db 1 _ rfl; have d2 := Sm.cells_of LD0.fr.db 2 _ rfl; have d3 := Sm.cells_of LD0.fr.db 3 _ rfl
          clear LD0
          go_upto_region 17 with (go_at_call 62; refine (SY.out _ HL0.out.ref HL0.out.lt).mono ?_; rintro e u1 ⟨vn, rfl, href, k1⟩; obtain ⟨tA, tn, tc, tB, tm, td, f2, o2, rfl⟩ := Lg.quad href; have L1 := HL0.out.write href k1; have y0 := Sm.cells_of L1.fr.db 0 _ rfl; have y1 := Sm.cells_of L1.fr.db 1 _ rfl; have y2 := Sm.cells_of L1.fr.db 2 _ rfl; have y3 := Sm.cells_of L1.fr.db 3 _ rfl; have e0 := Sm.free_of L1.fr.db 0; have e1 := Sm.free_of L1.fr.db 1; have e2 := Sm.free_of L1.fr.db 2; have e3 := Sm.free_of L1.fr.db 3)
          have L4 := L1.setD rfl (.slice tA tn tc) (.slice tB tm td) (.int .i64 f2) (.bool o2)
          clear y0 y1 y2 y3 e0 e1 e2 e3 L1 href k1 d0 d1 d2 d3
          generalize ((((u1.setCell ⟨N + 1, 0, none⟩ (.slice tA tn tc)).setCell ⟨N + 1, 1, none⟩ (.slice tB tm td)).setCell ⟨N + 1, 2, none⟩ (.int .i64 f2)).setCell ⟨N + 1, 3, none⟩ (.bool o2)) = u4 at *
          have H4 := Lib.hid L4
          by_cases hz : er = 0
          · have hzb : (er == 0) = true := beq_iff_eq.2 hz
            have DN := Lib.hid (DONE.out hz)
            subst hz
            clear L4
            have F4 := H4.out.fr
            have k3 := Sm.cells_of F4.kb 3 _ rfl
            clear F4
            have hrs : rs.length ≤ 1000000 := by rw [← HLN.out]; omega
            have hrw : Lg.Rows u4 lA rs := HROW.out.below H4.out.bel (by rw [HN.out]; exact Nat.le_refl _)
            go_upto_region 21 with (at_builtin; refine Lg.wp_copy rfl _ _ rfl rfl hrw HLN.out HLC.out rfl hrs fun A6 c6 w6 mi6 k6 => ?_)
            have KD : Below u4.heap.size u4 w6.drew := k6.trans (Below.refl _ w6).drew
            have MD := Lib.hid (mi6.low ((Below.refl _ w6).drew))
            have L6 := H4.out.low KD
            clear k6 mi6 k3
            obtain ⟨bl, hbl⟩ : ∃ q : List Value, q = [.slice tA tn tc, .slice tB tm td, .int .i64 f2, .bool o2] := ⟨_, rfl⟩
            have HBL2 := Lib.hid hbl
            have hbl4 : bl.length = 4 := by rw [hbl]; rfl
            obtain ⟨ux, hux⟩ : ∃ x : Int, x = ((us + i : Nat) : Int) := ⟨_, rfl⟩
            obtain ⟨sx, hsx⟩ : ∃ x : Int, x = ((sa + 1 : Nat) : Int) := ⟨_, rfl⟩
            have hus : IntKind.i64.wrap ((us : Int) + (i : Int)) = ux := by rw [hux, IntWalk.i64_in _ (by omega)]; omega
            rw [← hsx] at hwu
            have HUX := Lib.hid hux
            have HSX := Lib.hid hsx
            clear hbl hux hsx
            refine wp_region_held_drew (S := (fun w' => w'.heap[N]? = some (.cells #[.int .i64 a, .int .i64 nn, .int .u64 (ep : Int), .slice lA ln lc, .int .i64 (us : Int), .int .u64 (ah : Int), .int .u64 (sa : Int), .bool true] 39 (0, 0)) ∧ w'.heap[N + 1]? = some (.cells #[.slice tA tn tc, .slice tB tm td, .int .i64 f2, .bool o2] 33 (0, 0)))) (by kernel_rfl) ⟨L6.fr.kb, L6.fr.db⟩ (fun hHeld => ?_)
            generalize w6.drew = wd at *
            refine wpAnyH_take (i := 0) (oi := ⟨some 91, _, _, _, _, _⟩) (v := .pointer (some ⟨N, 0, none⟩)) rfl (by kernel_rfl) (by kernel_rfl) (by kernel_rfl) (fun _ _ _ h => h) (Or.inl ⟨by rfl, ?_⟩) (by assumption) ?_
            · intro w hSw; (try dsimp only at hSw); go_simp
            simp only [Act.put, List.setIfInBounds_toArray, List.set_cons_zero, List.set_cons_succ]
            refine wpAnyH_take (i := 1) (oi := ⟨some 92, _, _, _, _, _⟩) (v := .int .i64 a) rfl (by kernel_rfl) (by kernel_rfl) (by kernel_rfl) (fun _ _ _ h => h) (Or.inl ⟨by rfl, ?_⟩) (by assumption) ?_
            · intro w hSw; (try dsimp only at hSw); have hh := Sm.cells_of hSw.1 0 _ rfl; go_simp
            simp only [Act.put, List.setIfInBounds_toArray, List.set_cons_zero, List.set_cons_succ]
            refine wpAnyH_take (i := 2) (oi := ⟨some 93, _, _, _, _, _⟩) (v := .pointer (some ⟨N, 1, none⟩)) rfl (by kernel_rfl) (by kernel_rfl) (by kernel_rfl) (fun _ _ _ h => h) (Or.inl ⟨by rfl, ?_⟩) (by assumption) ?_
            · intro w hSw; (try dsimp only at hSw); go_simp
            simp only [Act.put, List.setIfInBounds_toArray, List.set_cons_zero, List.set_cons_succ]
            refine wpAnyH_take (i := 3) (oi := ⟨some 94, _, _, _, _, _⟩) (v := .int .i64 nn) rfl (by kernel_rfl) (by kernel_rfl) (by kernel_rfl) (fun _ _ _ h => h) (Or.inl ⟨by rfl, ?_⟩) (by assumption) ?_
            · intro w hSw; (try dsimp only at hSw); have hh := Sm.cells_of hSw.1 1 _ rfl; go_simp
            simp only [Act.put, List.setIfInBounds_toArray, List.set_cons_zero, List.set_cons_succ]
            refine wpAnyH_take (i := 4) (oi := ⟨some 95, _, _, _, _, _⟩) (v := .pointer (some ⟨N, 2, none⟩)) rfl (by kernel_rfl) (by kernel_rfl) (by kernel_rfl) (fun _ _ _ h => h) (Or.inl ⟨by rfl, ?_⟩) (by assumption) ?_
            · intro w hSw; (try dsimp only at hSw); go_simp
            simp only [Act.put, List.setIfInBounds_toArray, List.set_cons_zero, List.set_cons_succ]
            refine wpAnyH_take (i := 5) (oi := ⟨some 96, _, _, _, _, _⟩) (v := .int .u64 (ep : Int)) rfl (by kernel_rfl) (by kernel_rfl) (by kernel_rfl) (fun _ _ _ h => h) (Or.inl ⟨by rfl, ?_⟩) (by assumption) ?_
            · intro w hSw; (try dsimp only at hSw); have hh := Sm.cells_of hSw.1 2 _ rfl; go_simp
            simp only [Act.put, List.setIfInBounds_toArray, List.set_cons_zero, List.set_cons_succ]
            refine wpAnyH_take (i := 6) (oi := ⟨some 97, _, _, _, _, _⟩) (v := .slice A6 ln c6) rfl (by kernel_rfl) (by kernel_rfl) (by kernel_rfl) (fun _ _ _ h => h) (Or.inl ⟨by rfl, ?_⟩) (by assumption) ?_
            · intro w hSw; (try dsimp only at hSw); go_simp
            simp only [Act.put, List.setIfInBounds_toArray, List.set_cons_zero, List.set_cons_succ]
            refine wpAnyH_take (i := 7) (oi := ⟨some 98, _, _, _, _, _⟩) (v := .string t) rfl (by kernel_rfl) (by kernel_rfl) (by kernel_rfl) (fun _ _ _ h => h) (Or.inl ⟨by rfl, ?_⟩) (by assumption) ?_
            · intro w hSw; (try dsimp only at hSw); go_simp
            simp only [Act.put, List.setIfInBounds_toArray, List.set_cons_zero, List.set_cons_succ]
            refine wpAnyH_take (i := 10) (oi := ⟨some 101, _, _, _, _, _⟩) (v := .pointer (some ⟨N, 4, none⟩)) rfl (by kernel_rfl) (by kernel_rfl) (by kernel_rfl) (fun _ _ _ h => h) (Or.inl ⟨by rfl, ?_⟩) (by assumption) ?_
            · intro w hSw; (try dsimp only at hSw); go_simp
            simp only [Act.put, List.setIfInBounds_toArray, List.set_cons_zero, List.set_cons_succ]
            refine wpAnyH_take (i := 11) (oi := ⟨some 102, _, _, _, _, _⟩) (v := .int .i64 (us : Int)) rfl (by kernel_rfl) (by kernel_rfl) (by kernel_rfl) (fun _ _ _ h => h) (Or.inl ⟨by rfl, ?_⟩) (by assumption) ?_
            · intro w hSw; (try dsimp only at hSw); have hh := Sm.cells_of hSw.1 4 _ rfl; go_simp
            simp only [Act.put, List.setIfInBounds_toArray, List.set_cons_zero, List.set_cons_succ]
            refine wpAnyH_take (i := 12) (oi := ⟨some 103, _, _, _, _, _⟩) (v := .slice (some ⟨gb, go, none⟩) i c) rfl (by kernel_rfl) (by kernel_rfl) (by kernel_rfl) (fun _ _ _ h => h) (Or.inl ⟨by rfl, ?_⟩) (by assumption) ?_
            · intro w hSw; (try dsimp only at hSw); go_simp
            simp only [Act.put, List.setIfInBounds_toArray, List.set_cons_zero, List.set_cons_succ]
            refine wpAnyH_take (i := 13) (oi := ⟨some 104, _, _, _, _, _⟩) (v := .int .i64 (i : Int)) rfl (by kernel_rfl) (by kernel_rfl) (by kernel_rfl) (fun _ _ _ h => h) (Or.inl ⟨by rfl, ?_⟩) (by assumption) ?_
            · intro w hSw; (try dsimp only at hSw); go_simp
            simp only [Act.put, List.setIfInBounds_toArray, List.set_cons_zero, List.set_cons_succ]
            refine wpAnyH_take (i := 14) (oi := ⟨some 105, _, _, _, _, _⟩) (v := .int .i64 ux) rfl (by kernel_rfl) (by kernel_rfl) (by kernel_rfl) (fun _ _ _ h => h) (Or.inl ⟨by rfl, ?_⟩) (by assumption) ?_
            · intro w hSw; (try dsimp only at hSw); go_simp
            simp only [Act.put, List.setIfInBounds_toArray, List.set_cons_zero, List.set_cons_succ]
            refine wpAnyH_take (i := 15) (oi := ⟨some 106, _, _, _, _, _⟩) (v := .pointer (some ⟨N, 6, none⟩)) rfl (by kernel_rfl) (by kernel_rfl) (by kernel_rfl) (fun _ _ _ h => h) (Or.inl ⟨by rfl, ?_⟩) (by assumption) ?_
            · intro w hSw; (try dsimp only at hSw); go_simp
            simp only [Act.put, List.setIfInBounds_toArray, List.set_cons_zero, List.set_cons_succ]
            refine wpAnyH_take (i := 16) (oi := ⟨some 107, _, _, _, _, _⟩) (v := .int .u64 (sa : Int)) rfl (by kernel_rfl) (by kernel_rfl) (by kernel_rfl) (fun _ _ _ h => h) (Or.inl ⟨by rfl, ?_⟩) (by assumption) ?_
            · intro w hSw; (try dsimp only at hSw); have hh := Sm.cells_of hSw.1 6 _ rfl; go_simp
            simp only [Act.put, List.setIfInBounds_toArray, List.set_cons_zero, List.set_cons_succ]
            refine wpAnyH_take (i := 17) (oi := ⟨some 108, _, _, _, _, _⟩) (v := .int .u64 sx) rfl (by kernel_rfl) (by kernel_rfl) (by kernel_rfl) (fun _ _ _ h => h) (Or.inl ⟨by rfl, ?_⟩) (by assumption) ?_
            · intro w hSw; (try dsimp only at hSw); go_simp
            simp only [Act.put, List.setIfInBounds_toArray, List.set_cons_zero, List.set_cons_succ]
            refine wpAnyH_take (i := 18) (oi := ⟨some 109, _, _, _, _, _⟩) (v := .pointer (some ⟨N, 6, none⟩)) rfl (by kernel_rfl) (by kernel_rfl) (by kernel_rfl) (fun _ _ _ h => h) (Or.inl ⟨by rfl, ?_⟩) (by assumption) ?_
            · intro w hSw; (try dsimp only at hSw); go_simp
            simp only [Act.put, List.setIfInBounds_toArray, List.set_cons_zero, List.set_cons_succ]
            refine wpAnyH_take (i := 19) (oi := ⟨some 110, _, _, _, _, _⟩) (v := .int .u64 (sa : Int)) rfl (by kernel_rfl) (by kernel_rfl) (by kernel_rfl) (fun _ _ _ h => h) (Or.inl ⟨by rfl, ?_⟩) (by assumption) ?_
            · intro w hSw; (try dsimp only at hSw); have hh := Sm.cells_of hSw.1 6 _ rfl; go_simp
            simp only [Act.put, List.setIfInBounds_toArray, List.set_cons_zero, List.set_cons_succ]
            refine wpAnyH_take (i := 20) (oi := ⟨some 111, _, _, _, _, _⟩) (v := .int .u64 sx) rfl (by kernel_rfl) (by kernel_rfl) (by kernel_rfl) (fun _ _ _ h => h) (Or.inl ⟨by rfl, ?_⟩) (by assumption) ?_
            · intro w hSw; (try dsimp only at hSw); go_simp
            simp only [Act.put, List.setIfInBounds_toArray, List.set_cons_zero, List.set_cons_succ]
            refine wpAnyH_take (i := 22) (oi := ⟨some 113, _, _, _, _, _⟩) (v := .agg bl.toArray) rfl (by kernel_rfl) (by kernel_rfl) (by kernel_rfl) (fun _ _ _ h => h) (yieldsIf_load_mid (by rfl) _ _ rfl _ _ rfl bl _ (fun w hS => (by rw [HBL2.out]; exact Sm.range_row hS.2)) Tryz.underlying33 rfl (Lg.info_dsk10 hbl4)) (by assumption) ?_
            simp only [Act.put, List.setIfInBounds_toArray, List.set_cons_zero, List.set_cons_succ]
            refine wpAnyH_ready (rs := [8]) (by kernel_rfl) (by simp) ?_
            refine (AllReadyH.cons (o := ⟨some 99, _, _, _, _, _⟩) rfl (fun K hK => ?_) AllReadyH.nil)
            rw [if_pos (by simp [Region.wanted])]
            go_simp
            have pT := heap_alloc_new wd (.cells #[.string t] 9)
            have al := (Below.refl wd.heap.size wd).alloc (Nat.le_refl _) (.cells #[.string t] 9)
            have M7 := Lib.hid (MD.out.low al)
            have K7 := KD.trans (al.mono KD.size)
            have s7 : u4.heap.size ≤ (wd.alloc (.cells #[.string t] 9)).heap.size := K7.size
            have L7 := H4.out.low K7
            obtain ⟨Q, hQ⟩ : ∃ Q, Q = wd.heap.size := ⟨_, rfl⟩
            rw [← hQ] at pT ⊢
            clear hQ al KD MD L6
            generalize wd.alloc (.cells #[.string t] 9) = w7 at *
            refine hK.out _ _ ⟨L7.fr.kb, L7.fr.db⟩ (fun hHeld => ?_)
            clear hK K
            refine wpAnyH_ready (rs := [9]) (by kernel_rfl) (by simp) ?_
            refine (AllReadyH.cons (o := ⟨some 100, _, _, _, _, _⟩) rfl (fun K hK => ?_) AllReadyH.nil)
            rw [if_pos (by simp [Region.wanted])]
            have ow7 := M7.out.row
            rw [Lg.bts_map, ← Kp.bts_length rs] at ow7
            refine Dk.wp_append_text (.tmp 97) (.tmp 99) rfl (B := u4.heap.size) (v := .slice A6 ln c6) (l := Kp.bts rs) rfl ow7 (b := t) (N := Q) rfl (Sm.cells_of pT 0 _ rfl) (by rw [Kp.bts_length]; omega) s7 ?_
            intro A8 c8 w8 hrow hor
            have hl8 : (Kp.bts rs ++ [t]).length = ln + 1 := by rw [List.length_append, Kp.bts_length, HLN.out]; rfl
            have K8 : Below u4.heap.size w7 w8 := by
              rcases hor with ⟨_, hg⟩ | ⟨_, hg⟩
              · exact (Below.refl _ w7).grown hg s7 (fun q hq => (ow7.lt q hq).1)
              · exact (Below.refl _ w7).grown hg s7 (fun q hq => by cases hq)
            have hm8 : (Kp.bts rs ++ [t]).map Value.string = (rs ++ [t.data.toList]).map Dk.txt := by rw [List.map_append, List.map_append, Lg.bts_map]; rfl
            rw [hm8] at hrow
            rw [hl8] at hrow ⊢
            have L8 := H4.out.low (K7.trans K8)
            have s8 : u4.heap.size ≤ w8.heap.size := (K7.trans K8).size
            have HROW8 := Lib.hid hrow
            clear ow7 hor hrow K7 K8 L7 M7 pT s7 hm8
            refine hK.out _ _ ⟨L8.fr.kb, L8.fr.db⟩ (fun hHeld => ?_)
            clear hK K
            refine wpAnyH_take (i := 21) (oi := ⟨some 112, _, _, _, _, _⟩) (v := .agg #[.int .i64 a, .int .i64 nn, .int .u64 (ep : Int), .slice A8 (ln + 1) c8, .int .i64 ux, .int .u64 sx, .int .u64 sx, .bool false]) rfl (by kernel_rfl) (by kernel_rfl) (by kernel_rfl) (fun _ _ _ h => h) (Or.inl ⟨by rfl, ?_⟩) (by assumption) ?_
            · intro w hSw; (try dsimp only at hSw); go_simp
            simp only [Act.put, List.setIfInBounds_toArray, List.set_cons_zero, List.set_cons_succ]
            refine wpAnyH_ready (rs := [23]) (by kernel_rfl) (by simp) ?_
            refine (AllReadyH.cons (o := ⟨none, _, _, _, _, _⟩) rfl (fun K hK => ?_) AllReadyH.nil)
            have zc0_ := Sm.cells_of L8.fr.kr 0 _ rfl; have zc1_ := Sm.cells_of L8.fr.kr 1 _ rfl; have zc2_ := Sm.cells_of L8.fr.kr 2 _ rfl; have zc3_ := Sm.cells_of L8.fr.kr 3 _ rfl; have zc4_ := Sm.cells_of L8.fr.kr 4 _ rfl; have zc5_ := Sm.cells_of L8.fr.kr 5 _ rfl; have zc6_ := Sm.cells_of L8.fr.kr 6 _ rfl; have zc7_ := Sm.cells_of L8.fr.kr 7 _ rfl
            have zf0_ := Sm.free_of L8.fr.kr 0; have zf1_ := Sm.free_of L8.fr.kr 1; have zf2_ := Sm.free_of L8.fr.kr 2; have zf3_ := Sm.free_of L8.fr.kr 3; have zf4_ := Sm.free_of L8.fr.kr 4; have zf5_ := Sm.free_of L8.fr.kr 5; have zf6_ := Sm.free_of L8.fr.kr 6; have zf7_ := Sm.free_of L8.fr.kr 7
            go_simp
            have k9 := Lg.set8 (N := N + 1 + 1) L8.fr.kr rfl (.int .i64 a) (.int .i64 nn) (.int .u64 (ep : Int)) (.slice A8 (ln + 1) c8) (.int .i64 ux) (.int .u64 sx) (.int .u64 sx) (.bool false)
            have o9 := fun q hq => Lg.set8_other w8 (N + 1 + 1) (.int .i64 a) (.int .i64 nn) (.int .u64 (ep : Int)) (.slice A8 (ln + 1) c8) (.int .i64 ux) (.int .u64 sx) (.int .u64 sx) (.bool false) q hq
            have t9 := Lg.turned8 w8 (N + 1 + 1) (.int .i64 a) (.int .i64 nn) (.int .u64 (ep : Int)) (.slice A8 (ln + 1) c8) (.int .i64 ux) (.int .u64 sx) (.int .u64 sx) (.bool false)
            clear zc0_ zf0_ zc1_ zf1_ zc2_ zf2_ zc3_ zf3_ zc4_ zf4_ zc5_ zf5_ zc6_ zf6_ zc7_ zf7_
            generalize ((((((((w8.setCell ⟨N + 1 + 1, 0, none⟩ (.int .i64 a)).setCell ⟨N + 1 + 1, 1, none⟩ (.int .i64 nn)).setCell ⟨N + 1 + 1, 2, none⟩ (.int .u64 (ep : Int))).setCell ⟨N + 1 + 1, 3, none⟩ (.slice A8 (ln + 1) c8)).setCell ⟨N + 1 + 1, 4, none⟩ (.int .i64 ux)).setCell ⟨N + 1 + 1, 5, none⟩ (.int .u64 sx)).setCell ⟨N + 1 + 1, 6, none⟩ (.int .u64 sx)).setCell ⟨N + 1 + 1, 7, none⟩ (.bool false)) = w9 at *
            have d9 := (o9 (N + 1 + 1 + 1) (by omega)).trans L8.fr.dr
            refine hK.out _ _ ⟨(o9 N (by omega)).trans L8.fr.kb, (o9 (N + 1) (by omega)).trans L8.fr.db⟩ (fun hHeld => ?_)
            clear hK K
            refine wpAnyH_ready (rs := [24]) (by kernel_rfl) (by simp) ?_
            refine (AllReadyH.cons (o := ⟨none, _, _, _, _, _⟩) rfl (fun K hK => ?_) AllReadyH.nil)
            rw [HBL2.out]
            have yc0_ := Sm.cells_of d9 0 _ rfl; have yc1_ := Sm.cells_of d9 1 _ rfl; have yc2_ := Sm.cells_of d9 2 _ rfl; have yc3_ := Sm.cells_of d9 3 _ rfl
            have yf0_ := Sm.free_of d9 0; have yf1_ := Sm.free_of d9 1; have yf2_ := Sm.free_of d9 2; have yf3_ := Sm.free_of d9 3
            go_simp
            have k10 := (Dk.set4_other w9 (N + 1 + 1 + 1) (.slice tA tn tc) (.slice tB tm td) (.int .i64 f2) (.bool o2) (N + 1 + 1) (by omega)).trans k9
            have d10 := Dk.set4 d9 rfl (.slice tA tn tc) (.slice tB tm td) (.int .i64 f2) (.bool o2)
            have t10 := Lg.turned4 w9 (N + 1 + 1 + 1) (.slice tA tn tc) (.slice tB tm td) (.int .i64 f2) (.bool o2)
            have o10 := fun q hq => Dk.set4_other w9 (N + 1 + 1 + 1) (.slice tA tn tc) (.slice tB tm td) (.int .i64 f2) (.bool o2) q hq
            clear yc0_ yf0_ yc1_ yf1_ yc2_ yf2_ yc3_ yf3_
            generalize ((((w9.setCell ⟨N + 1 + 1 + 1, 0, none⟩ (.slice tA tn tc)).setCell ⟨N + 1 + 1 + 1, 1, none⟩ (.slice tB tm td)).setCell ⟨N + 1 + 1 + 1, 2, none⟩ (.int .i64 f2)).setCell ⟨N + 1 + 1 + 1, 3, none⟩ (.bool o2)) = we at *
            refine hK.out _ _ ⟨(o10 N (by omega)).trans ((o9 N (by omega)).trans L8.fr.kb), (o10 (N + 1) (by omega)).trans ((o9 (N + 1) (by omega)).trans L8.fr.db)⟩ (fun hHeld => ?_)
            clear hK K
            refine wpAnyH_take (i := 25) (oi := ⟨some 8, _, _, _, _, _⟩) (v := .int .i64 0) rfl (by kernel_rfl) (by kernel_rfl) (by kernel_rfl) (fun _ _ _ h => h) (Or.inl ⟨by rfl, ?_⟩) (by assumption) ?_
            · intro w hSw; (try dsimp only at hSw); go_simp
            simp only [Act.put, List.setIfInBounds_toArray, List.set_cons_zero, List.set_cons_succ]
            refine wpAnyH_done (by kernel_rfl) ?_ _
            clear hHeld
            have FE : Lg.Fin10 N w8 #[.int .i64 a, .int .i64 nn, .int .u64 (ep : Int), .slice A8 (ln + 1) c8, .int .i64 ux, .int .u64 sx, .int .u64 sx, .bool false] #[.slice tA tn tc, .slice tB tm td, .int .i64 f2, .bool o2] we := ⟨k10, d10, (t9.mono fun q e => .inl e).trans (t10.mono fun q e => .inr e)⟩
            have BE := FE.below L8.bel (by have := L8.fr.sz; omega)
            have RE := show Dk.RefAt we fp (.agg #[.slice tA tn tc, .slice tB tm td, .int .i64 f2, .bool o2]) R.2.1 from (by rw [DN.out]; exact (Lg.refTurned L8.ref (FE.tu.mono fun i e => L8.own i (by omega) (by omega)) fun _ => .inl).off (fun q hq e => .inl e))
            have h4u := H4.out.fr.sz
            have LE : Lg.RefAt we fp a nn (.agg #[.int .i64 a, .int .i64 nn, .int .u64 (ep : Int), .slice A8 (ln + 1) c8, .int .i64 ux, .int .u64 sx, .int .u64 sx, .bool false]) R.1 := by
              have hl : (rs ++ [t.data.toList]).length = ln + 1 := by rw [List.length_append, HLN.out]; rfl
              have hw := HROW8.out
              rw [← hl] at hw
              rw [DN.out]
              refine ⟨A8, c8, us + i, by rw [hl, HUX.out, HSX.out]; rfl, by show nx + (i : Int) = a + ((us + i : Nat) : Int); have := HUS.out; omega, HEN.out, (Lg.Rows.of_own hw).turned (fun q hq e => by have := (hw.lt q hq).1; omega) FE.tu, fun q hq => ⟨Nat.lt_of_lt_of_le (hw.lt q hq).2 FE.tu.size, fun e => by have h1 := (hw.lt q hq).1; have h2 := HFP.out q e; have h3 := H4.out.bel.size; omega⟩, fun e => ?_⟩
              subst e
              rcases hw.2 with ⟨_, h⟩ | ⟨g', cap, cur, h, _⟩
              · rw [hl] at h; omega
              · simp at h
            have ez0 := Sm.cells_of FE.kr 0 _ rfl; have ez1 := Sm.cells_of FE.kr 1 _ rfl; have ez2 := Sm.cells_of FE.kr 2 _ rfl; have ez3 := Sm.cells_of FE.kr 3 _ rfl; have ez4 := Sm.cells_of FE.kr 4 _ rfl; have ez5 := Sm.cells_of FE.kr 5 _ rfl; have ez6 := Sm.cells_of FE.kr 6 _ rfl; have ez7 := Sm.cells_of FE.kr 7 _ rfl
            have ey0 := Sm.cells_of FE.dr 0 _ rfl; have ey1 := Sm.cells_of FE.dr 1 _ rfl; have ey2 := Sm.cells_of FE.dr 2 _ rfl; have ey3 := Sm.cells_of FE.dr 3 _ rfl
            have HBE := Lib.hid BE
            clear FE BE k9 o9 t9 d9 k10 d10 t10 o10 L8
            go_wp2
            exact bodyPost_ret (v := .tuple #[.agg #[.int .i64 a, .int .i64 nn, .int .u64 (ep : Int), .slice A8 (ln + 1) c8, .int .i64 ux, .int .u64 sx, .int .u64 sx, .bool false], .agg #[.slice tA tn tc, .slice tB tm td, .int .i64 f2, .bool o2], .int .i64 0]) ((Lg.results_cct rfl _ _ _).trans (by go_simp)) rfl ⟨_, _, by rw [DN.out], LE, RE, by rw [← HN.out]; exact HBE.out⟩
          · have hzb : (er == 0) = false := beq_eq_false_iff_ne.2 hz
            have ST := Lib.hid (STOP.out hz)
            have F4 := L4.fr
            have k0 := Sm.cells_of F4.kb 0 _ rfl; have k1 := Sm.cells_of F4.kb 1 _ rfl; have k2 := Sm.cells_of F4.kb 2 _ rfl; have k3 := Sm.cells_of F4.kb 3 _ rfl; have k4 := Sm.cells_of F4.kb 4 _ rfl; have k5 := Sm.cells_of F4.kb 5 _ rfl; have k6 := Sm.cells_of F4.kb 6 _ rfl; have k7 := Sm.cells_of F4.kb 7 _ rfl
            have d0 := Sm.cells_of F4.db 0 _ rfl; have d1 := Sm.cells_of F4.db 1 _ rfl; have d2 := Sm.cells_of F4.db 2 _ rfl; have d3 := Sm.cells_of F4.db 3 _ rfl
            have z0 := Sm.cells_of F4.kr 0 _ rfl; have z1 := Sm.cells_of F4.kr 1 _ rfl; have z2 := Sm.cells_of F4.kr 2 _ rfl; have z3 := Sm.cells_of F4.kr 3 _ rfl; have z4 := Sm.cells_of F4.kr 4 _ rfl; have z5 := Sm.cells_of F4.kr 5 _ rfl; have z6 := Sm.cells_of F4.kr 6 _ rfl; have z7 := Sm.cells_of F4.kr 7 _ rfl
            have y0 := Sm.cells_of F4.dr 0 _ rfl; have y1 := Sm.cells_of F4.dr 1 _ rfl; have y2 := Sm.cells_of F4.dr 2 _ rfl; have y3 := Sm.cells_of F4.dr 3 _ rfl
            have zf0 := Sm.free_of F4.kr 0; have zf1 := Sm.free_of F4.kr 1; have zf2 := Sm.free_of F4.kr 2; have zf3 := Sm.free_of F4.kr 3; have zf4 := Sm.free_of F4.kr 4; have zf5 := Sm.free_of F4.kr 5; have zf6 := Sm.free_of F4.kr 6; have zf7 := Sm.free_of F4.kr 7
            have yf0 := Sm.free_of F4.dr 0; have yf1 := Sm.free_of F4.dr 1; have yf2 := Sm.free_of F4.dr 2; have yf3 := Sm.free_of F4.dr 3
            clear F4 L4
            go_upto_region 18 with (fail)
            go_region
            have FE := Lg.Fr10.fin H4.out.fr (.int .i64 a) (.int .i64 nn) (.int .u64 (ep : Int)) (.slice lA ln lc) (.int .i64 (us : Int)) (.int .u64 (ah : Int)) (.int .u64 (sa : Int)) (.bool true) (.slice tA tn tc) (.slice tB tm td) (.int .i64 f2) (.bool o2)
            change Exit.then _ _ _ _ (Lg.sets8 u4 N (.int .i64 a) (.int .i64 nn) (.int .u64 (ep : Int)) (.slice lA ln lc) (.int .i64 (us : Int)) (.int .u64 (ah : Int)) (.int .u64 (sa : Int)) (.bool true) (.slice tA tn tc) (.slice tB tm td) (.int .i64 f2) (.bool o2)).drew
            generalize (Lg.sets8 u4 N (.int .i64 a) (.int .i64 nn) (.int .u64 (ep : Int)) (.slice lA ln lc) (.int .i64 (us : Int)) (.int .u64 (ah : Int)) (.int .u64 (sa : Int)) (.bool true) (.slice tA tn tc) (.slice tB tm td) (.int .i64 f2) (.bool o2)).drew = we at FE ⊢
            have BE := FE.below H4.out.bel (by have := Lg.Fr10.sz H4.out.fr; omega)
            have ez0 := Sm.cells_of FE.kr 0 _ rfl; have ez1 := Sm.cells_of FE.kr 1 _ rfl; have ez2 := Sm.cells_of FE.kr 2 _ rfl; have ez3 := Sm.cells_of FE.kr 3 _ rfl; have ez4 := Sm.cells_of FE.kr 4 _ rfl; have ez5 := Sm.cells_of FE.kr 5 _ rfl; have ez6 := Sm.cells_of FE.kr 6 _ rfl; have ez7 := Sm.cells_of FE.kr 7 _ rfl
            have ey0 := Sm.cells_of FE.dr 0 _ rfl; have ey1 := Sm.cells_of FE.dr 1 _ rfl; have ey2 := Sm.cells_of FE.dr 2 _ rfl; have ey3 := Sm.cells_of FE.dr 3 _ rfl
            have RE := show Dk.RefAt we fp (.agg #[.slice tA tn tc, .slice tB tm td, .int .i64 f2, .bool o2]) R.2.1 from (by rw [ST.out]; exact (Lg.refTurned H4.out.ref (FE.tu.mono fun i e => H4.out.own i (by omega) (by omega)) fun _ => .inl).off (fun q hq e => .inl e))
            have HBE := Lib.hid BE
            have LE := show Lg.RefAt we fp a nn (.agg #[.int .i64 a, .int .i64 nn, .int .u64 (ep : Int), .slice lA ln lc, .int .i64 (us : Int), .int .u64 (ah : Int), .int .u64 (sa : Int), .bool true]) R.1 from (by rw [ST.out]; exact LR.out true _ BE)
            clear FE BE 
            go_wp2
            exact bodyPost_ret (v := .tuple #[.agg #[.int .i64 a, .int .i64 nn, .int .u64 (ep : Int), .slice lA ln lc, .int .i64 (us : Int), .int .u64 (ah : Int), .int .u64 (sa : Int), .bool true], .agg #[.slice tA tn tc, .slice tB tm td, .int .i64 f2, .bool o2], .int .i64 er]) ((Lg.results_cct rfl _ _ _).trans (by go_simp)) rfl ⟨_, _, by rw [ST.out], LE, RE, by rw [← HN.out]; exact HBE.out⟩
end Go.Proofs.YtnmagfodjcookaaGreat
