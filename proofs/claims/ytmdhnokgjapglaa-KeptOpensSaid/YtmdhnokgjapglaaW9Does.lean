/-
  An act of the statement on a Kept, beside the document's.
-/
import Derived.Test.YtmdhnokgjapglaaW9Step
import Derived.Test.YtmdhnokgjapglaaKpActs
import Derived.Test.YtmdhnokgjapglaaDkRefSpoil
import Derived.StillTailTactics
namespace Go.Proofs.Ytmdhnokgjapglaa
open Go.RowKit
namespace Kp
theorem row6 {w : World} {X : Nat} {c0 c1 c2 c3 c4 c5 c6 c7 c8 c9 c10 c11 c12 : Value} {t : TypeId} (h : w.heap[X]? = some (.cells #[c0, c1, c2, c3, c4, c5, c6, c7, c8, c9, c10, c11, c12] t (0, 0))) : w.rangeAt X 6 [c6, c7, c8, c9, c10, c11] := fun j u hj => by
  match j, hj with
  | 0, hj => simp at hj; subst hj; exact Sm.cells_of h 6 _ rfl
  | 1, hj => simp at hj; subst hj; exact Sm.cells_of h 7 _ rfl
  | 2, hj => simp at hj; subst hj; exact Sm.cells_of h 8 _ rfl
  | 3, hj => simp at hj; subst hj; exact Sm.cells_of h 9 _ rfl
  | 4, hj => simp at hj; subst hj; exact Sm.cells_of h 10 _ rfl
  | 5, hj => simp at hj; subst hj; exact Sm.cells_of h 11 _ rfl
theorem row2 {w : World} {X : Nat} {c0 c1 c2 c3 c4 c5 c6 c7 c8 c9 c10 c11 c12 : Value} {t : TypeId} (h : w.heap[X]? = some (.cells #[c0, c1, c2, c3, c4, c5, c6, c7, c8, c9, c10, c11, c12] t (0, 0))) : w.rangeAt X 2 [c2, c3, c4, c5] := fun j u hj => by
  match j, hj with
  | 0, hj => simp at hj; subst hj; exact Sm.cells_of h 2 _ rfl
  | 1, hj => simp at hj; subst hj; exact Sm.cells_of h 3 _ rfl
  | 2, hj => simp at hj; subst hj; exact Sm.cells_of h 4 _ rfl
  | 3, hj => simp at hj; subst hj; exact Sm.cells_of h 5 _ rfl
theorem set4_other' (w : World) (X : Nat) (a b c d : Value) (i : Nat) (h : i ≠ X) : ((((w.setCell ⟨X, 2, none⟩ (a)).setCell ⟨X, 3, none⟩ (b)).setCell ⟨X, 4, none⟩ (c)).setCell ⟨X, 5, none⟩ (d)).heap[i]? = w.heap[i]? := by
  rw [Below.heap_setCell _ _ _ _ h, Below.heap_setCell _ _ _ _ h, Below.heap_setCell _ _ _ _ h, Below.heap_setCell _ _ _ _ h]
end Kp
set_option maxRecDepth 100000 in
set_option maxHeartbeats 40000000 in
theorem w9does_any {B : Nat} {w0 w : World} {X r : Nat} {fp : Nat → Prop} {M : Dk.Md} {sA : Option Addr} {sn sc : Nat} {sB : Option Addr} {sm sd : Nat} {f : Int} {o : Bool} {ko : Option Nat} {K : Kp.Md} {n : Int}
    (h : Kp.W9 B w0 w X r fp M sA sn sc sB sm sd f o ko K n) (hiff : ko = none ↔ n ≠ 0) (hB : B = w0.heap.size) (hq : Dk.waits M + 9 ≤ 1099511627775) (x : Kp.Ac) (hok : x.Ok w0) (hts : x.t.size ≤ 1000) (a : Int) :
    Calls Try.prog 11 #[.pointer (some ⟨X, 0, none⟩), .agg x.cells.toArray, .int .i64 a] w fun e w' => e = .returned (.bool true) ∧ Kp.Did9 B w0 w' X r M := by
  obtain ⟨N, hN⟩ : ∃ n, n = w.heap.size := ⟨_, rfl⟩
  obtain ⟨cs, hcs⟩ : ∃ c, c = x.cells := ⟨_, rfl⟩
  have hcl : cs.length = 6 := by rw [hcs]; rfl
  obtain ⟨kp, hkp⟩ : ∃ v, Kp.kptr ko = v := ⟨_, rfl⟩
  obtain ⟨q0, q1, q2, q3, q4, q5, hks⟩ := Kp.kks_six ko K
  have b1 : Below w.heap.size w (w.alloc (.cells cs.toArray 47)) := (Below.refl _ w).alloc (Nat.le_refl _) _
  have G1 : Kp.G9 B w0 (w.alloc (.cells cs.toArray 47)) X r N cs.toArray fp M M sA sn sc sB sm sd f o ko K K n := h.g9 b1 (by omega) (by rw [hN]; exact heap_alloc_new w _)
  have HCS := Lib.hid hcs
  have HKP := Lib.hid hkp
  have HKS := Lib.hid hks
  have HQ := Lib.hid hq
  have OK := Lib.hid hok
  have HIF := Lib.hid hiff
  have HBB := Lib.hid hB
  rw [← hcs]
  have OPN : Hid (∀ (wx : World) (fpx : Nat → Prop) (Mx : Dk.Md) (sA : Option Addr) (sn sc : Nat) (sB : Option Addr) (sm sd : Nat) (f : Int) (o : Bool) (ko : Option Nat) (K : Kp.Md) (n : Int), Kp.W9 B w0 wx X r fpx Mx sA sn sc sB sm sd f o ko K n → Dk.waits Mx ≤ Dk.waits M + 9 → Calls Try.prog 9 #[.pointer (some ⟨X, 0, none⟩), .int .i64 a] wx fun e w' => ∃ ko' K' n', e = .returned (.bool true) ∧ Kp.W9 B w0 w' X r fpx Mx sA sn sc sB sm sd f o ko' K' n' ∧ (ko' = none ↔ n' ≠ 0) ∧ Dk.Turned (fun q => q = X) wx w') := fun wx fpx Mx sA sn sc sB sm sd f o ko K n hx hm =>
    (w9open_any hx (by have := HQ.out; omega) a).mono fun e w' ⟨ko', K', n', h1, h2, h3, _, h4⟩ => ⟨ko', K', n', h1, h2, h3, h4⟩
  clear h b1 hcs hkp hks hq hok hiff hB
  go_enter Try.func11, Try.ntmps11
  go_upto_region 1 with (fail)
  rw [← hN]
  clear hN
  generalize w.alloc (.cells cs.toArray 47) = w1 at *
  have AC : Hid (∀ wx : World, wx.heap[N]? = some (.cells cs.toArray 47 (0, 0)) → wx.cell? ⟨N, 0, none⟩ = some (.int .i64 x.d) ∧ wx.cell? ⟨N, 1, none⟩ = some (.string x.t) ∧ wx.cell? ⟨N, 2, none⟩ = some (.int .i64 x.n) ∧ wx.cell? ⟨N, 3, none⟩ = some (.int .i64 x.m) ∧ wx.cell? ⟨N, 4, none⟩ = some (.string x.x) ∧ wx.cell? ⟨N, 5, none⟩ = some x.kv) := fun wx hx =>
    ⟨Sm.cells_of hx 0 _ (by rw [HCS.out]; rfl), Sm.cells_of hx 1 _ (by rw [HCS.out]; rfl), Sm.cells_of hx 2 _ (by rw [HCS.out]; rfl), Sm.cells_of hx 3 _ (by rw [HCS.out]; rfl), Sm.cells_of hx 4 _ (by rw [HCS.out]; rfl), Sm.cells_of hx 5 _ (by rw [HCS.out]; rfl)⟩
  have d0 := (AC.out w1 G1.act).1
  have GG := Lib.hid G1
  clear G1
  by_cases e0 : x.d = 0
  · rw [e0] at d0
    clear e0
    cases ko with
    | none =>
      have hn0 : n ≠ 0 := HIF.out.1 rfl
      have hnb : (n == 0) = false := beq_eq_false_iff_ne.2 hn0
      have hnc : (n != 0) = true := by simp [bne, hnb]
      obtain rfl : kp = .pointer none := HKP.out.symm
      have GD := GG.out.low' ((Below.refl _ w1).drew)
      have xl := GD.lit HKP.out HKS.out
      have x1 : w1.drew.cell? ⟨X, 1, none⟩ = some (.pointer none) := Sm.cells_of xl 1 _ rfl
      have x12 : w1.drew.cell? ⟨X, 12, none⟩ = some (.int .i64 n) := Sm.cells_of xl 12 _ rfl
      have a1 := (AC.out _ GD.act).2.1
      have HN0 := Lib.hid hn0
      have HGD := Lib.hid GD
      clear GD xl hn0
      go_upto_region 3 with (fail)
      go_still_tail 6, (by kernel_rfl)
      repeat still_step
      try refine wpStill_nil ?_
      change wpList _ _ _ _ _ w1.drew
      go_wp2_with fail
      refine (kpPut_nil _ x.t).mono ?_
      rintro e u1 ⟨rfl, rfl⟩
      go_wp2_with fail
      go_ret
      exact ⟨rfl, Kp.did9 HGD.out.w9 ⟨fun _ => HN0.out, fun _ => rfl⟩ (by omega)⟩
    | some k =>
      have hn0 : n = 0 := Decidable.not_not.1 fun e => absurd (HIF.out.2 e) (by simp)
      subst hn0
      obtain rfl : kp = .pointer (some ⟨k, 0, none⟩) := HKP.out.symm
      obtain ⟨hat, hkf, hkB, hkX, hfit⟩ := GG.out.kept k rfl
      obtain ⟨R, hR⟩ : ∃ R, R = Kp.put K M x.t.data.toList := ⟨_, rfl⟩
      obtain ⟨K1, M1, er⟩ := R
      have hK1 : K1 = (Kp.put K M x.t.data.toList).1 := by rw [← hR]
      have hM1 : M1 = (Kp.put K M x.t.data.toList).2.1 := by rw [← hR]
      have hE1 : er = (Kp.put K M x.t.data.toList).2.2 := by rw [← hR]
      have WT1 : Hid (Dk.waits M1 ≤ Dk.waits M + 9) := by rw [hM1]; exact Kp.waits_put K M _
      have FIT1 : Hid (Kp.Fit K1 M1) := by rw [hK1, hM1]; exact hfit.put _
      have PUT : Hid (∀ wx, Dk.Own B w0 wx r fp M → Kp.At wx k r K → Calls Try.prog 10 #[.pointer (some ⟨k, 0, none⟩), .string x.t] wx fun e w' => ∃ fp', e = .returned (.int .i64 er) ∧ Kp.Step B w0 wx w' r fp fp' M1 k K1) := fun wx h1 h2 => by
        have := kpPut_any ⟨h1, h2, hkf, hkB⟩ hfit (by have := HQ.out; omega) x.t (by omega)
        rw [← hK1, ← hM1, ← hE1] at this
        exact this
      obtain ⟨bl, hbl⟩ : ∃ q : List Value, q = [.slice sA sn sc, .slice sB sm sd, .int .i64 f, .bool o] := ⟨_, rfl⟩
      have hba : bl.toArray = #[.slice sA sn sc, .slice sB sm sd, .int .i64 f, .bool o] := by rw [hbl]
      have hbl4 : bl.length = 4 := by rw [hbl]; rfl
      obtain ⟨ql, hql⟩ : ∃ q : List Value, q = [q0, q1, q2, q3, q4, q5] := ⟨_, rfl⟩
      have hqa : ql.toArray = Kp.kv K := by rw [hql]; exact HKS.out.symm
      have hql6 : ql.length = 6 := by rw [hql]; rfl
      obtain ⟨fr1, hfr1⟩ : ∃ v, v = K1.from_ := ⟨_, rfl⟩
      obtain ⟨ts1, hts1⟩ : ∃ b : ByteArray, b = ⟨K1.text.toArray⟩ := ⟨_, rfl⟩
      obtain ⟨g1, hg1⟩ : ∃ v, v = K1.gen := ⟨_, rfl⟩
      obtain ⟨sl1, hsl1⟩ : ∃ v : Int, v = 1 - (K1.next : Int) := ⟨_, rfl⟩
      obtain ⟨se1, hse1⟩ : ∃ v, v = K1.seen := ⟨_, rfl⟩
      obtain ⟨br1, hbr1⟩ : ∃ v, v = K1.broken := ⟨_, rfl⟩
      have hkv1 : Kp.kv K1 = #[.int .i64 fr1, .string ts1, .int .u64 (g1 : Int), .int .i64 sl1, .int .u64 (se1 : Int), .bool br1] := by rw [Kp.kv, hfr1, hts1, hg1, hsl1, hse1, hbr1]
      obtain ⟨kl, hkl⟩ : ∃ q : List Value, q = [.int .i64 fr1, .string ts1, .int .u64 (g1 : Int), .int .i64 sl1, .int .u64 (se1 : Int), .bool br1] := ⟨_, rfl⟩
      have hka : kl.toArray = #[.int .i64 fr1, .string ts1, .int .u64 (g1 : Int), .int .i64 sl1, .int .u64 (se1 : Int), .bool br1] := by rw [hkl]
      have hkl6 : kl.length = 6 := by rw [hkl]; rfl
      have HMO := Lib.hid GG.out.disk.disk.ok
      have RP : Hid (∀ wx F, Dk.RefAt wx F (.agg bl.toArray) M → (∀ q, F q → q < wx.heap.size) → Calls Try.prog 22 #[.agg ql.toArray, .agg bl.toArray, .string x.t] wx fun e w' => ∃ v', e = .returned (.tuple #[.agg kl.toArray, v', .int .i64 er]) ∧ Dk.RefAt w' F v' M1 ∧ Below wx.heap.size wx w') := fun wx F h1 h2 => by
        have := r9Put_any h1 HMO.out h2 (by have := HQ.out; omega) hfit x.t hts
        rw [← hK1, ← hM1, ← hE1, hkv1, ← hka, ← hqa] at this
        exact this
      have HK1S : Hid (Kp.kks (some k) K1 = #[.int .i64 fr1, .string ts1, .int .u64 (g1 : Int), .int .i64 sl1, .int .u64 (se1 : Int), .bool br1]) := hkv1
      have HBA := Lib.hid hba
      have HBL := Lib.hid hbl
      have HQL := Lib.hid hql
      have HKA := Lib.hid hka
      clear hR hK1 hM1 hE1 hba hbl hql hqa hfr1 hts1 hg1 hsl1 hse1 hbr1 hkv1 hkl hka hat hkf hfit
      have HAT := Lib.hid (GG.out.kept k rfl).1
      have GD := GG.out.low' ((Below.refl _ w1).drew)
      have x1 : w1.drew.cell? ⟨X, 1, none⟩ = some (.pointer (some ⟨k, 0, none⟩)) := Sm.cells_of (GD.lit HKP.out HKS.out) 1 _ rfl
      have a1 := (AC.out _ GD.act).2.1
      go_upto_region 3 with (fail)
      go_still_tail 6, (by kernel_rfl)
      repeat still_step
      try refine wpStill_nil ?_
      change wpList _ _ _ _ _ w1.drew
      go_wp2_with fail
      refine (PUT.out _ GD.disk (GD.kept k rfl).1).mono ?_
      rintro e u1 ⟨fp1, rfl, st⟩
      have G2 := GD.put rfl st FIT1.out
      clear x1 a1 st GD
      have x12 : u1.cell? ⟨X, 12, none⟩ = some (.int .i64 0) := Sm.cells_of (G2.lit HKP.out HKS.out) 12 _ rfl
      have H2 := Lib.hid G2
      clear G2
      go_upto_region 6 with (fail)
      have GE := H2.out.low' ((Below.refl _ u1).drew)
      have xl := GE.lit HKP.out HKS.out
      have R0 : Kp.R6 u1.drew u1.drew (fun q => fp1 q ∨ q = X ∨ (some k : Option Nat) = some q) (.agg bl.toArray) M := ⟨Below.refl _ _, by rw [HBA.out]; exact GE.ref, GE.lt⟩
      have HGD := Lib.hid GE
      clear x12 GE
      refine wp_region_held_drew (S := (fun w' => w'.heap[X]? = some (.cells #[.pointer (some ⟨r, 0, none⟩), .pointer (some ⟨k, 0, none⟩), .slice sA sn sc, .slice sB sm sd, .int .i64 f, .bool o, q0, q1, q2, q3, q4, q5, .int .i64 0] 41 (0, 0)) ∧ w'.heap[N]? = some (.cells cs.toArray 47 (0, 0)))) (by kernel_rfl) ⟨xl, HGD.out.act⟩ (fun hHeld => ?_)
      generalize u1.drew = wd at *
      refine wpAnyH_take (i := 0) (oi := ⟨some 33, _, _, _, _, _⟩) (v := .pointer (some ⟨X, 0, none⟩)) rfl (by kernel_rfl) (by kernel_rfl) (by kernel_rfl) (fun _ _ _ h => h) (Or.inl ⟨by rfl, ?_⟩) (by assumption) ?_
      · intro w hSw; (try dsimp only at hSw); go_simp
      simp only [Act.put, List.setIfInBounds_toArray, List.set_cons_zero, List.set_cons_succ]
      refine wpAnyH_take (i := 1) (oi := ⟨some 34, _, _, _, _, _⟩) (v := .pointer (some ⟨X, 0, none⟩)) rfl (by kernel_rfl) (by kernel_rfl) (by kernel_rfl) (fun _ _ _ h => h) (Or.inl ⟨by rfl, ?_⟩) (by assumption) ?_
      · intro w hSw; (try dsimp only at hSw); go_simp
      simp only [Act.put, List.setIfInBounds_toArray, List.set_cons_zero, List.set_cons_succ]
      refine wpAnyH_take (i := 2) (oi := ⟨some 35, _, _, _, _, _⟩) (v := .pointer (some ⟨X, 6, none⟩)) rfl (by kernel_rfl) (by kernel_rfl) (by kernel_rfl) (fun _ _ _ h => h) (Or.inl ⟨by rfl, ?_⟩) (by assumption) ?_
      · intro w hSw; (try dsimp only at hSw); go_simp
      simp only [Act.put, List.setIfInBounds_toArray, List.set_cons_zero, List.set_cons_succ]
      refine wpAnyH_take (i := 3) (oi := ⟨some 36, _, _, _, _, _⟩) (v := .agg ql.toArray) rfl (by kernel_rfl) (by kernel_rfl) (by kernel_rfl) (fun _ _ _ h => h) (yieldsIf_load_mid (by rfl) _ _ rfl _ _ rfl ql _ (fun w hS => (by rw [HQL.out]; exact Kp.row6 hS.1)) Try.underlying39 rfl (Kp.info_kpt9 hql6)) (by assumption) ?_
      simp only [Act.put, List.setIfInBounds_toArray, List.set_cons_zero, List.set_cons_succ]
      refine wpAnyH_take (i := 4) (oi := ⟨some 37, _, _, _, _, _⟩) (v := .pointer (some ⟨X, 0, none⟩)) rfl (by kernel_rfl) (by kernel_rfl) (by kernel_rfl) (fun _ _ _ h => h) (Or.inl ⟨by rfl, ?_⟩) (by assumption) ?_
      · intro w hSw; (try dsimp only at hSw); go_simp
      simp only [Act.put, List.setIfInBounds_toArray, List.set_cons_zero, List.set_cons_succ]
      refine wpAnyH_take (i := 5) (oi := ⟨some 38, _, _, _, _, _⟩) (v := .pointer (some ⟨X, 0, none⟩)) rfl (by kernel_rfl) (by kernel_rfl) (by kernel_rfl) (fun _ _ _ h => h) (Or.inl ⟨by rfl, ?_⟩) (by assumption) ?_
      · intro w hSw; (try dsimp only at hSw); go_simp
      simp only [Act.put, List.setIfInBounds_toArray, List.set_cons_zero, List.set_cons_succ]
      refine wpAnyH_take (i := 6) (oi := ⟨some 39, _, _, _, _, _⟩) (v := .pointer (some ⟨X, 2, none⟩)) rfl (by kernel_rfl) (by kernel_rfl) (by kernel_rfl) (fun _ _ _ h => h) (Or.inl ⟨by rfl, ?_⟩) (by assumption) ?_
      · intro w hSw; (try dsimp only at hSw); go_simp
      simp only [Act.put, List.setIfInBounds_toArray, List.set_cons_zero, List.set_cons_succ]
      refine wpAnyH_take (i := 7) (oi := ⟨some 40, _, _, _, _, _⟩) (v := .agg bl.toArray) rfl (by kernel_rfl) (by kernel_rfl) (by kernel_rfl) (fun _ _ _ h => h) (yieldsIf_load_mid (by rfl) _ _ rfl _ _ rfl bl _ (fun w hS => (by rw [HBL.out]; exact Kp.row2 hS.1)) Try.underlying32 rfl (Kp.info_dsk9 hbl4)) (by assumption) ?_
      simp only [Act.put, List.setIfInBounds_toArray, List.set_cons_zero, List.set_cons_succ]
      refine wpAnyH_take (i := 8) (oi := ⟨some 41, _, _, _, _, _⟩) (v := .pointer (some ⟨N, 1, none⟩)) rfl (by kernel_rfl) (by kernel_rfl) (by kernel_rfl) (fun _ _ _ h => h) (Or.inl ⟨by rfl, ?_⟩) (by assumption) ?_
      · intro w hSw; (try dsimp only at hSw); go_simp
      simp only [Act.put, List.setIfInBounds_toArray, List.set_cons_zero, List.set_cons_succ]
      refine wpAnyH_take (i := 9) (oi := ⟨some 42, _, _, _, _, _⟩) (v := .string x.t) rfl (by kernel_rfl) (by kernel_rfl) (by kernel_rfl) (fun _ _ _ h => h) (Or.inl ⟨by rfl, ?_⟩) (by assumption) ?_
      · intro w hSw; (try dsimp only at hSw); have hh := (AC.out _ hSw.2).2.1; go_simp
      simp only [Act.put, List.setIfInBounds_toArray, List.set_cons_zero, List.set_cons_succ]
      refine wpAnyH_ready (rs := [10, 15, 16]) (by kernel_rfl) (by simp) ?_
      refine (AllReadyH.cons (o := ⟨some 43, _, _, _, _, _⟩) rfl (fun K hK => ?_) (AllReadyH.cons (o := ⟨some 8, _, _, _, _, _⟩) rfl (fun K hK => ?_) (AllReadyH.cons (o := ⟨some 9, _, _, _, _, _⟩) rfl (fun K hK => ?_) AllReadyH.nil)))
      · go_simp
        refine (RP.out _ _ R0.ref R0.lt).mono ?_
        rintro e v1 ⟨vn, rfl, href, k1⟩
        obtain ⟨tA, tn, tc, tB, tm, td, f2, o2, rfl⟩ := href.quad
        have R1 := R0.call href k1
        have G7 := HGD.out.low' R1.bel
        clear href k1
        refine hK.out _ _ ⟨G7.lit HKP.out HKS.out, G7.act⟩ (fun hHeld => ?_)
        clear hK K
        clear G7
        refine wpAnyH_take (i := 11) (oi := ⟨some 32, _, _, _, _, _⟩) (v := .tuple #[.agg kl.toArray, .agg #[.slice tA tn tc, .slice tB tm td, .int .i64 f2, .bool o2], .int .i64 er]) rfl (by kernel_rfl) (by kernel_rfl) (by kernel_rfl) (fun _ _ _ h => h) (Or.inl ⟨by rfl, ?_⟩) (by assumption) ?_
        · intro w hSw; (try dsimp only at hSw); go_simp
        simp only [Act.put, List.setIfInBounds_toArray, List.set_cons_zero, List.set_cons_succ]
        refine wpAnyH_take (i := 12) (oi := ⟨some 44, _, _, _, _, _⟩) (v := .agg kl.toArray) rfl (by kernel_rfl) (by kernel_rfl) (by kernel_rfl) (fun _ _ _ h => h) (Or.inl ⟨by rfl, ?_⟩) (by assumption) ?_
        · intro w hSw; (try dsimp only at hSw); go_simp
        simp only [Act.put, List.setIfInBounds_toArray, List.set_cons_zero, List.set_cons_succ]
        refine wpAnyH_take (i := 13) (oi := ⟨some 45, _, _, _, _, _⟩) (v := .agg #[.slice tA tn tc, .slice tB tm td, .int .i64 f2, .bool o2]) rfl (by kernel_rfl) (by kernel_rfl) (by kernel_rfl) (fun _ _ _ h => h) (Or.inl ⟨by rfl, ?_⟩) (by assumption) ?_
        · intro w hSw; (try dsimp only at hSw); go_simp
        simp only [Act.put, List.setIfInBounds_toArray, List.set_cons_zero, List.set_cons_succ]
        refine wpAnyH_take (i := 14) (oi := ⟨some 46, _, _, _, _, _⟩) (v := .int .i64 er) rfl (by kernel_rfl) (by kernel_rfl) (by kernel_rfl) (fun _ _ _ h => h) (Or.inl ⟨by rfl, ?_⟩) (by assumption) ?_
        · intro w hSw; (try dsimp only at hSw); go_simp
        simp only [Act.put, List.setIfInBounds_toArray, List.set_cons_zero, List.set_cons_succ]
        refine wpAnyH_ready (rs := [15, 16]) (by kernel_rfl) (by simp) ?_
        refine (AllReadyH.cons (o := ⟨some 8, _, _, _, _, _⟩) rfl (fun K hK => ?_) (AllReadyH.cons (o := ⟨some 9, _, _, _, _, _⟩) rfl (fun K hK => ?_) AllReadyH.nil))
        · rw [if_pos (by simp [Region.wanted])]
          go_simp
          have al := heap_alloc_new v1 (.cells #[.int .i64 0, .string ⟨#[]⟩, .int .u64 0, .int .i64 0, .int .u64 0, .bool false] 39)
          have R2 := R1.alloc (.cells #[.int .i64 0, .string ⟨#[]⟩, .int .u64 0, .int .i64 0, .int .u64 0, .bool false] 39)
          obtain ⟨Q8, hQ⟩ : ∃ Q, Q = v1.heap.size := ⟨_, rfl⟩
          have hQA8 : wd.heap.size ≤ Q8 := by rw [hQ]; exact R1.bel.size
          rw [← hQ] at al R2  ⊢
          clear hQ
          have p82 := al
          clear al
          generalize v1.alloc (.cells #[.int .i64 0, .string ⟨#[]⟩, .int .u64 0, .int .i64 0, .int .u64 0, .bool false] 39) = v2 at *
          have G7 := HGD.out.low' R2.bel
          refine hK.out _ _ ⟨G7.lit HKP.out HKS.out, G7.act⟩ (fun hHeld => ?_)
          clear hK K
          clear G7
          refine wpAnyH_ready (rs := [16]) (by kernel_rfl) (by simp) ?_
          refine (AllReadyH.cons (o := ⟨some 9, _, _, _, _, _⟩) rfl (fun K hK => ?_) AllReadyH.nil)
          rw [if_pos (by simp [Region.wanted])]
          go_simp
          have al := heap_alloc_new v2 (.cells #[.slice none 0 0, .slice none 0 0, .int .i64 0, .bool false] 32)
          have R3 := R2.alloc (.cells #[.slice none 0 0, .slice none 0 0, .int .i64 0, .bool false] 32)
          have p83 : (v2.alloc (.cells #[.slice none 0 0, .slice none 0 0, .int .i64 0, .bool false] 32)).heap[Q8]? = _ := (Below.heap_alloc _ _ _ (Sm.lt_of p82)).trans p82
          have nq3 : v2.heap.size ≠ Q8 := by have := Sm.lt_of p82; omega
          obtain ⟨Q9, hQ⟩ : ∃ Q, Q = v2.heap.size := ⟨_, rfl⟩
          have hQA9 : wd.heap.size ≤ Q9 := by rw [hQ]; exact R2.bel.size
          rw [← hQ] at al R3 nq3 ⊢
          clear hQ
          have p93 := al
          clear al
          generalize v2.alloc (.cells #[.slice none 0 0, .slice none 0 0, .int .i64 0, .bool false] 32) = v3 at *
          have G7 := HGD.out.low' R3.bel
          refine hK.out _ _ ⟨G7.lit HKP.out HKS.out, G7.act⟩ (fun hHeld => ?_)
          clear hK K
          clear G7
          have n89 : Q8 ≠ Q9 := nq3.symm
          refine wpAnyH_ready (rs := [17]) (by kernel_rfl) (by simp) ?_
          refine (AllReadyH.cons (o := ⟨none, _, _, _, _, _⟩) rfl (fun K hK => ?_) AllReadyH.nil)
          have z0 := Sm.cells_of p83 0 _ rfl; have z1 := Sm.cells_of p83 1 _ rfl; have z2 := Sm.cells_of p83 2 _ rfl; have z3 := Sm.cells_of p83 3 _ rfl; have z4 := Sm.cells_of p83 4 _ rfl; have z5 := Sm.cells_of p83 5 _ rfl
          have zf0 := Sm.free_of p83 0; have zf1 := Sm.free_of p83 1; have zf2 := Sm.free_of p83 2; have zf3 := Sm.free_of p83 3; have zf4 := Sm.free_of p83 4; have zf5 := Sm.free_of p83 5
          rw [HKA.out]
          go_simp
          have RA := R3.set (Kp.turned6 v3 Q8 (.int .i64 fr1) (.string ts1) (.int .u64 (g1 : Int)) (.int .i64 sl1) (.int .u64 (se1 : Int)) (.bool br1)) hQA8 (by simp)
          have pa8 := Kp.set6 p83 rfl (.int .i64 fr1) (.string ts1) (.int .u64 (g1 : Int)) (.int .i64 sl1) (.int .u64 (se1 : Int)) (.bool br1)
          have pa9 := (Kp.set6_other v3 Q8 (.int .i64 fr1) (.string ts1) (.int .u64 (g1 : Int)) (.int .i64 sl1) (.int .u64 (se1 : Int)) (.bool br1) Q9 n89.symm).trans p93
          clear z0 z1 z2 z3 z4 z5 zf0 zf1 zf2 zf3 zf4 zf5
          generalize ((((((v3.setCell ⟨Q8, 0, none⟩ (.int .i64 fr1)).setCell ⟨Q8, 1, none⟩ (.string ts1)).setCell ⟨Q8, 2, none⟩ (.int .u64 (g1 : Int))).setCell ⟨Q8, 3, none⟩ (.int .i64 sl1)).setCell ⟨Q8, 4, none⟩ (.int .u64 (se1 : Int))).setCell ⟨Q8, 5, none⟩ (.bool br1)) = ua at *
          have G7 := HGD.out.low' RA.bel
          refine hK.out _ _ ⟨G7.lit HKP.out HKS.out, G7.act⟩ (fun hHeld => ?_)
          clear hK K
          clear G7
          refine wpAnyH_ready (rs := [18]) (by kernel_rfl) (by simp) ?_
          refine (AllReadyH.cons (o := ⟨none, _, _, _, _, _⟩) rfl (fun K hK => ?_) AllReadyH.nil)
          have z0 := Sm.cells_of pa9 0 _ rfl; have z1 := Sm.cells_of pa9 1 _ rfl; have z2 := Sm.cells_of pa9 2 _ rfl; have z3 := Sm.cells_of pa9 3 _ rfl
          have zf0 := Sm.free_of pa9 0; have zf1 := Sm.free_of pa9 1; have zf2 := Sm.free_of pa9 2; have zf3 := Sm.free_of pa9 3
          go_simp
          have RB := RA.set (Kp.turned4 ua Q9 (.slice tA tn tc) (.slice tB tm td) (.int .i64 f2) (.bool o2)) hQA9 (by simp)
          have pb9 := Dk.set4 pa9 rfl (.slice tA tn tc) (.slice tB tm td) (.int .i64 f2) (.bool o2)
          have pb8 := (Dk.set4_other ua Q9 (.slice tA tn tc) (.slice tB tm td) (.int .i64 f2) (.bool o2) Q8 n89).trans pa8
          clear z0 z1 z2 z3 zf0 zf1 zf2 zf3
          generalize ((((ua.setCell ⟨Q9, 0, none⟩ (.slice tA tn tc)).setCell ⟨Q9, 1, none⟩ (.slice tB tm td)).setCell ⟨Q9, 2, none⟩ (.int .i64 f2)).setCell ⟨Q9, 3, none⟩ (.bool o2)) = ub at *
          have G7 := HGD.out.low' RB.bel
          refine hK.out _ _ ⟨G7.lit HKP.out HKS.out, G7.act⟩ (fun hHeld => ?_)
          clear hK K
          clear G7
          refine wpAnyH_take (i := 19) (oi := ⟨some 10, _, _, _, _, _⟩) (v := .int .i64 er) rfl (by kernel_rfl) (by kernel_rfl) (by kernel_rfl) (fun _ _ _ h => h) (Or.inl ⟨by rfl, ?_⟩) (by assumption) ?_
          · intro w hSw; (try dsimp only at hSw); go_simp
          simp only [Act.put, List.setIfInBounds_toArray, List.set_cons_zero, List.set_cons_succ]
          refine wpAnyH_done (by kernel_rfl) ?_ _
          clear hHeld
          have hrb : Dk.RefAt ub (fun q => fp1 q ∨ q = X ∨ (some k : Option Nat) = some q) (.agg #[.slice tA tn tc, .slice tB tm td, .int .i64 f2, .bool o2]) M1 := RB.ref.off fun q _ e => .inl (.inl e)
          have g8 : Q8 ≠ X := by have h1 := Sm.lt_of HGD.out.box; omega
          have g9 : Q9 ≠ X := by have h1 := Sm.lt_of HGD.out.box; omega
          have HGB := Lib.hid (HGD.out.low' RB.bel)
          obtain ⟨vl, hvl⟩ : ∃ q : List Value, q = [.slice tA tn tc, .slice tB tm td, .int .i64 f2, .bool o2] := ⟨_, rfl⟩
          have hva : vl.toArray = #[.slice tA tn tc, .slice tB tm td, .int .i64 f2, .bool o2] := by rw [hvl]
          have hvl4 : vl.length = 4 := by rw [hvl]; rfl
          have HVA := Lib.hid hva
          rw [← HKA.out] at pb8
          rw [← hva] at pb9
          have HRB := Lib.hid hrb
          have HP8 := Lib.hid pb8
          have HP9 := Lib.hid pb9
          clear hvl hva hrb pb8 pb9 pa8 pa9 RA RB
          go_upto_region 7 with (fail)
          have HGC := Lib.hid (HGB.out.low' ((Below.refl _ ub).drew))
          have xlc := HGC.out.lit HKP.out HKS.out
          have HRC : Hid (Dk.RefAt ub.drew (fun q => fp1 q ∨ q = X ∨ (some k : Option Nat) = some q) (.agg #[.slice tA tn tc, .slice tB tm td, .int .i64 f2, .bool o2]) M1) := HRB.out.low ((Below.refl _ ub).drew)
          have x2 := Sm.cells_of xlc 2 _ rfl; have x3 := Sm.cells_of xlc 3 _ rfl; have x4 := Sm.cells_of xlc 4 _ rfl; have x5 := Sm.cells_of xlc 5 _ rfl; have x6 := Sm.cells_of xlc 6 _ rfl; have x7 := Sm.cells_of xlc 7 _ rfl; have x8 := Sm.cells_of xlc 8 _ rfl; have x9 := Sm.cells_of xlc 9 _ rfl; have x10 := Sm.cells_of xlc 10 _ rfl; have x11 := Sm.cells_of xlc 11 _ rfl
          have xf2 := Sm.free_of xlc 2; have xf3 := Sm.free_of xlc 3; have xf4 := Sm.free_of xlc 4; have xf5 := Sm.free_of xlc 5; have xf6 := Sm.free_of xlc 6; have xf7 := Sm.free_of xlc 7; have xf8 := Sm.free_of xlc 8; have xf9 := Sm.free_of xlc 9; have xf10 := Sm.free_of xlc 10; have xf11 := Sm.free_of xlc 11
          refine wp_region_held_drew (S := (fun w' => w'.heap[Q8]? = some (.cells kl.toArray 39 (0, 0)) ∧ w'.heap[Q9]? = some (.cells vl.toArray 32 (0, 0)))) (by kernel_rfl) ⟨HP8.out, HP9.out⟩ (fun hHeld => ?_)
          generalize hud : ub.drew = ud at *
          have hp8 : ud.heap[Q8]? = some (.cells kl.toArray 39 (0, 0)) := by rw [← hud]; exact HP8.out
          have hp9 : ud.heap[Q9]? = some (.cells vl.toArray 32 (0, 0)) := by rw [← hud]; exact HP9.out
          clear hud
          refine wpAnyH_take (i := 0) (oi := ⟨some 47, _, _, _, _, _⟩) (v := .pointer (some ⟨X, 0, none⟩)) rfl (by kernel_rfl) (by kernel_rfl) (by kernel_rfl) (fun _ _ _ h => h) (Or.inl ⟨by rfl, ?_⟩) (by assumption) ?_
          · intro w hSw; (try dsimp only at hSw); go_simp
          simp only [Act.put, List.setIfInBounds_toArray, List.set_cons_zero, List.set_cons_succ]
          refine wpAnyH_take (i := 1) (oi := ⟨some 48, _, _, _, _, _⟩) (v := .pointer (some ⟨X, 0, none⟩)) rfl (by kernel_rfl) (by kernel_rfl) (by kernel_rfl) (fun _ _ _ h => h) (Or.inl ⟨by rfl, ?_⟩) (by assumption) ?_
          · intro w hSw; (try dsimp only at hSw); go_simp
          simp only [Act.put, List.setIfInBounds_toArray, List.set_cons_zero, List.set_cons_succ]
          refine wpAnyH_take (i := 2) (oi := ⟨some 49, _, _, _, _, _⟩) (v := .agg kl.toArray) rfl (by kernel_rfl) (by kernel_rfl) (by kernel_rfl) (fun _ _ _ h => h) (yieldsIf_load_mid (by rfl) _ _ rfl _ _ rfl kl _ (fun w hS => Sm.range_row hS.1) Try.underlying39 rfl (Kp.info_kpt9 hkl6)) (by assumption) ?_
          simp only [Act.put, List.setIfInBounds_toArray, List.set_cons_zero, List.set_cons_succ]
          refine wpAnyH_take (i := 3) (oi := ⟨some 50, _, _, _, _, _⟩) (v := .agg vl.toArray) rfl (by kernel_rfl) (by kernel_rfl) (by kernel_rfl) (fun _ _ _ h => h) (yieldsIf_load_mid (by rfl) _ _ rfl _ _ rfl vl _ (fun w hS => Sm.range_row hS.2) Try.underlying32 rfl (Kp.info_dsk9 hvl4)) (by assumption) ?_
          simp only [Act.put, List.setIfInBounds_toArray, List.set_cons_zero, List.set_cons_succ]
          refine wpAnyH_take (i := 4) (oi := ⟨some 51, _, _, _, _, _⟩) (v := .pointer (some ⟨X, 0, none⟩)) rfl (by kernel_rfl) (by kernel_rfl) (by kernel_rfl) (fun _ _ _ h => h) (Or.inl ⟨by rfl, ?_⟩) (by assumption) ?_
          · intro w hSw; (try dsimp only at hSw); go_simp
          simp only [Act.put, List.setIfInBounds_toArray, List.set_cons_zero, List.set_cons_succ]
          refine wpAnyH_take (i := 5) (oi := ⟨some 52, _, _, _, _, _⟩) (v := .pointer (some ⟨X, 6, none⟩)) rfl (by kernel_rfl) (by kernel_rfl) (by kernel_rfl) (fun _ _ _ h => h) (Or.inl ⟨by rfl, ?_⟩) (by assumption) ?_
          · intro w hSw; (try dsimp only at hSw); go_simp
          simp only [Act.put, List.setIfInBounds_toArray, List.set_cons_zero, List.set_cons_succ]
          refine wpAnyH_ready (rs := [6]) (by kernel_rfl) (by simp) ?_
          refine (AllReadyH.cons (o := ⟨none, _, _, _, _, _⟩) rfl (fun K hK => ?_) AllReadyH.nil)
          rw [HKA.out]
          go_simp
          refine hK.out _ _ ⟨(Kp.six_other _ X _ _ _ _ _ _ Q8 g8).trans hp8, (Kp.six_other _ X _ _ _ _ _ _ Q9 g9).trans hp9⟩ (fun hHeld => ?_)
          clear hK K
          refine wpAnyH_take (i := 7) (oi := ⟨some 53, _, _, _, _, _⟩) (v := .pointer (some ⟨X, 0, none⟩)) rfl (by kernel_rfl) (by kernel_rfl) (by kernel_rfl) (fun _ _ _ h => h) (Or.inl ⟨by rfl, ?_⟩) (by assumption) ?_
          · intro w hSw; (try dsimp only at hSw); go_simp
          simp only [Act.put, List.setIfInBounds_toArray, List.set_cons_zero, List.set_cons_succ]
          refine wpAnyH_take (i := 8) (oi := ⟨some 54, _, _, _, _, _⟩) (v := .pointer (some ⟨X, 2, none⟩)) rfl (by kernel_rfl) (by kernel_rfl) (by kernel_rfl) (fun _ _ _ h => h) (Or.inl ⟨by rfl, ?_⟩) (by assumption) ?_
          · intro w hSw; (try dsimp only at hSw); go_simp
          simp only [Act.put, List.setIfInBounds_toArray, List.set_cons_zero, List.set_cons_succ]
          refine wpAnyH_ready (rs := [9]) (by kernel_rfl) (by simp) ?_
          refine (AllReadyH.cons (o := ⟨none, _, _, _, _, _⟩) rfl (fun K hK => ?_) AllReadyH.nil)
          rw [HVA.out]
          go_simp
          refine hK.out _ _ ⟨(Kp.set4_other' _ X _ _ _ _ Q8 g8).trans ((Kp.six_other _ X _ _ _ _ _ _ Q8 g8).trans hp8), (Kp.set4_other' _ X _ _ _ _ Q9 g9).trans ((Kp.six_other _ X _ _ _ _ _ _ Q9 g9).trans hp9)⟩ (fun hHeld => ?_)
          clear hK K
          refine wpAnyH_done (by kernel_rfl) ?_ _
          clear hHeld
          have b6 := Kp.setX6 xlc (.int .i64 fr1) (.string ts1) (.int .u64 (g1 : Int)) (.int .i64 sl1) (.int .u64 (se1 : Int)) (.bool br1)
          have t6 := Kp.setX6_turned ud X (.int .i64 fr1) (.string ts1) (.int .u64 (g1 : Int)) (.int .i64 sl1) (.int .u64 (se1 : Int)) (.bool br1)
          have GA := HGC.out.touch t6 HKP.out HK1S.out b6 HGC.out.ref
          have hra := HRC.out.turned (f' := (fun q => fp1 q ∨ q = X ∨ (some k : Option Nat) = some q)) (t6.mono fun i e => .inr (.inl e)) fun _ => .inl
          generalize ((((((ud.setCell ⟨X, 6, none⟩ (.int .i64 fr1)).setCell ⟨X, 7, none⟩ (.string ts1)).setCell ⟨X, 8, none⟩ (.int .u64 (g1 : Int))).setCell ⟨X, 9, none⟩ (.int .i64 sl1)).setCell ⟨X, 10, none⟩ (.int .u64 (se1 : Int))).setCell ⟨X, 11, none⟩ (.bool br1)) = ue at *
          have b4 := Kp.setX4 b6 (.slice tA tn tc) (.slice tB tm td) (.int .i64 f2) (.bool o2)
          have t4 := Kp.setX4_turned ue X (.slice tA tn tc) (.slice tB tm td) (.int .i64 f2) (.bool o2)
          have GB := GA.touch t4 HKP.out HK1S.out b4 hra
          have HF := Lib.hid GB.w9
          clear GA GB b4 b6 t4 t6 hra xlc hp8 hp9
          generalize ((((ue.setCell ⟨X, 2, none⟩ (.slice tA tn tc)).setCell ⟨X, 3, none⟩ (.slice tB tm td)).setCell ⟨X, 4, none⟩ (.int .i64 f2)).setCell ⟨X, 5, none⟩ (.bool o2)) = uf at *
          clear x2 x3 x4 x5 x6 x7 x8 x9 x10 x11 xf2 xf3 xf4 xf5 xf6 xf7 xf8 xf9 xf10 xf11
          go_wp2
          go_ret
          exact ⟨rfl, Kp.did9 HF.out ⟨fun e => (by cases e), fun e => absurd rfl e⟩ WT1.out⟩
        · rw [if_pos (by simp [Region.wanted])]
          go_simp
          have al := heap_alloc_new v1 (.cells #[.slice none 0 0, .slice none 0 0, .int .i64 0, .bool false] 32)
          have R4 := R1.alloc (.cells #[.slice none 0 0, .slice none 0 0, .int .i64 0, .bool false] 32)
          obtain ⟨Q9, hQ⟩ : ∃ Q, Q = v1.heap.size := ⟨_, rfl⟩
          have hQA9 : wd.heap.size ≤ Q9 := by rw [hQ]; exact R1.bel.size
          rw [← hQ] at al R4  ⊢
          clear hQ
          have p94 := al
          clear al
          generalize v1.alloc (.cells #[.slice none 0 0, .slice none 0 0, .int .i64 0, .bool false] 32) = v4 at *
          have G7 := HGD.out.low' R4.bel
          refine hK.out _ _ ⟨G7.lit HKP.out HKS.out, G7.act⟩ (fun hHeld => ?_)
          clear hK K
          clear G7
          refine wpAnyH_ready (rs := [15]) (by kernel_rfl) (by simp) ?_
          refine (AllReadyH.cons (o := ⟨some 8, _, _, _, _, _⟩) rfl (fun K hK => ?_) AllReadyH.nil)
          rw [if_pos (by simp [Region.wanted])]
          go_simp
          have al := heap_alloc_new v4 (.cells #[.int .i64 0, .string ⟨#[]⟩, .int .u64 0, .int .i64 0, .int .u64 0, .bool false] 39)
          have R5 := R4.alloc (.cells #[.int .i64 0, .string ⟨#[]⟩, .int .u64 0, .int .i64 0, .int .u64 0, .bool false] 39)
          have p95 : (v4.alloc (.cells #[.int .i64 0, .string ⟨#[]⟩, .int .u64 0, .int .i64 0, .int .u64 0, .bool false] 39)).heap[Q9]? = _ := (Below.heap_alloc _ _ _ (Sm.lt_of p94)).trans p94
          have nq5 : v4.heap.size ≠ Q9 := by have := Sm.lt_of p94; omega
          obtain ⟨Q8, hQ⟩ : ∃ Q, Q = v4.heap.size := ⟨_, rfl⟩
          have hQA8 : wd.heap.size ≤ Q8 := by rw [hQ]; exact R4.bel.size
          rw [← hQ] at al R5 nq5 ⊢
          clear hQ
          have p85 := al
          clear al
          generalize v4.alloc (.cells #[.int .i64 0, .string ⟨#[]⟩, .int .u64 0, .int .i64 0, .int .u64 0, .bool false] 39) = v5 at *
          have G7 := HGD.out.low' R5.bel
          refine hK.out _ _ ⟨G7.lit HKP.out HKS.out, G7.act⟩ (fun hHeld => ?_)
          clear hK K
          clear G7
          have n89 : Q8 ≠ Q9 := nq5
          refine wpAnyH_ready (rs := [17]) (by kernel_rfl) (by simp) ?_
          refine (AllReadyH.cons (o := ⟨none, _, _, _, _, _⟩) rfl (fun K hK => ?_) AllReadyH.nil)
          have z0 := Sm.cells_of p85 0 _ rfl; have z1 := Sm.cells_of p85 1 _ rfl; have z2 := Sm.cells_of p85 2 _ rfl; have z3 := Sm.cells_of p85 3 _ rfl; have z4 := Sm.cells_of p85 4 _ rfl; have z5 := Sm.cells_of p85 5 _ rfl
          have zf0 := Sm.free_of p85 0; have zf1 := Sm.free_of p85 1; have zf2 := Sm.free_of p85 2; have zf3 := Sm.free_of p85 3; have zf4 := Sm.free_of p85 4; have zf5 := Sm.free_of p85 5
          rw [HKA.out]
          go_simp
          have RA := R5.set (Kp.turned6 v5 Q8 (.int .i64 fr1) (.string ts1) (.int .u64 (g1 : Int)) (.int .i64 sl1) (.int .u64 (se1 : Int)) (.bool br1)) hQA8 (by simp)
          have pa8 := Kp.set6 p85 rfl (.int .i64 fr1) (.string ts1) (.int .u64 (g1 : Int)) (.int .i64 sl1) (.int .u64 (se1 : Int)) (.bool br1)
          have pa9 := (Kp.set6_other v5 Q8 (.int .i64 fr1) (.string ts1) (.int .u64 (g1 : Int)) (.int .i64 sl1) (.int .u64 (se1 : Int)) (.bool br1) Q9 n89.symm).trans p95
          clear z0 z1 z2 z3 z4 z5 zf0 zf1 zf2 zf3 zf4 zf5
          generalize ((((((v5.setCell ⟨Q8, 0, none⟩ (.int .i64 fr1)).setCell ⟨Q8, 1, none⟩ (.string ts1)).setCell ⟨Q8, 2, none⟩ (.int .u64 (g1 : Int))).setCell ⟨Q8, 3, none⟩ (.int .i64 sl1)).setCell ⟨Q8, 4, none⟩ (.int .u64 (se1 : Int))).setCell ⟨Q8, 5, none⟩ (.bool br1)) = ua at *
          have G7 := HGD.out.low' RA.bel
          refine hK.out _ _ ⟨G7.lit HKP.out HKS.out, G7.act⟩ (fun hHeld => ?_)
          clear hK K
          clear G7
          refine wpAnyH_ready (rs := [18]) (by kernel_rfl) (by simp) ?_
          refine (AllReadyH.cons (o := ⟨none, _, _, _, _, _⟩) rfl (fun K hK => ?_) AllReadyH.nil)
          have z0 := Sm.cells_of pa9 0 _ rfl; have z1 := Sm.cells_of pa9 1 _ rfl; have z2 := Sm.cells_of pa9 2 _ rfl; have z3 := Sm.cells_of pa9 3 _ rfl
          have zf0 := Sm.free_of pa9 0; have zf1 := Sm.free_of pa9 1; have zf2 := Sm.free_of pa9 2; have zf3 := Sm.free_of pa9 3
          go_simp
          have RB := RA.set (Kp.turned4 ua Q9 (.slice tA tn tc) (.slice tB tm td) (.int .i64 f2) (.bool o2)) hQA9 (by simp)
          have pb9 := Dk.set4 pa9 rfl (.slice tA tn tc) (.slice tB tm td) (.int .i64 f2) (.bool o2)
          have pb8 := (Dk.set4_other ua Q9 (.slice tA tn tc) (.slice tB tm td) (.int .i64 f2) (.bool o2) Q8 n89).trans pa8
          clear z0 z1 z2 z3 zf0 zf1 zf2 zf3
          generalize ((((ua.setCell ⟨Q9, 0, none⟩ (.slice tA tn tc)).setCell ⟨Q9, 1, none⟩ (.slice tB tm td)).setCell ⟨Q9, 2, none⟩ (.int .i64 f2)).setCell ⟨Q9, 3, none⟩ (.bool o2)) = ub at *
          have G7 := HGD.out.low' RB.bel
          refine hK.out _ _ ⟨G7.lit HKP.out HKS.out, G7.act⟩ (fun hHeld => ?_)
          clear hK K
          clear G7
          refine wpAnyH_take (i := 19) (oi := ⟨some 10, _, _, _, _, _⟩) (v := .int .i64 er) rfl (by kernel_rfl) (by kernel_rfl) (by kernel_rfl) (fun _ _ _ h => h) (Or.inl ⟨by rfl, ?_⟩) (by assumption) ?_
          · intro w hSw; (try dsimp only at hSw); go_simp
          simp only [Act.put, List.setIfInBounds_toArray, List.set_cons_zero, List.set_cons_succ]
          refine wpAnyH_done (by kernel_rfl) ?_ _
          clear hHeld
          have hrb : Dk.RefAt ub (fun q => fp1 q ∨ q = X ∨ (some k : Option Nat) = some q) (.agg #[.slice tA tn tc, .slice tB tm td, .int .i64 f2, .bool o2]) M1 := RB.ref.off fun q _ e => .inl (.inl e)
          have g8 : Q8 ≠ X := by have h1 := Sm.lt_of HGD.out.box; omega
          have g9 : Q9 ≠ X := by have h1 := Sm.lt_of HGD.out.box; omega
          have HGB := Lib.hid (HGD.out.low' RB.bel)
          obtain ⟨vl, hvl⟩ : ∃ q : List Value, q = [.slice tA tn tc, .slice tB tm td, .int .i64 f2, .bool o2] := ⟨_, rfl⟩
          have hva : vl.toArray = #[.slice tA tn tc, .slice tB tm td, .int .i64 f2, .bool o2] := by rw [hvl]
          have hvl4 : vl.length = 4 := by rw [hvl]; rfl
          have HVA := Lib.hid hva
          rw [← HKA.out] at pb8
          rw [← hva] at pb9
          have HRB := Lib.hid hrb
          have HP8 := Lib.hid pb8
          have HP9 := Lib.hid pb9
          clear hvl hva hrb pb8 pb9 pa8 pa9 RA RB
          go_upto_region 7 with (fail)
          have HGC := Lib.hid (HGB.out.low' ((Below.refl _ ub).drew))
          have xlc := HGC.out.lit HKP.out HKS.out
          have HRC : Hid (Dk.RefAt ub.drew (fun q => fp1 q ∨ q = X ∨ (some k : Option Nat) = some q) (.agg #[.slice tA tn tc, .slice tB tm td, .int .i64 f2, .bool o2]) M1) := HRB.out.low ((Below.refl _ ub).drew)
          have x2 := Sm.cells_of xlc 2 _ rfl; have x3 := Sm.cells_of xlc 3 _ rfl; have x4 := Sm.cells_of xlc 4 _ rfl; have x5 := Sm.cells_of xlc 5 _ rfl; have x6 := Sm.cells_of xlc 6 _ rfl; have x7 := Sm.cells_of xlc 7 _ rfl; have x8 := Sm.cells_of xlc 8 _ rfl; have x9 := Sm.cells_of xlc 9 _ rfl; have x10 := Sm.cells_of xlc 10 _ rfl; have x11 := Sm.cells_of xlc 11 _ rfl
          have xf2 := Sm.free_of xlc 2; have xf3 := Sm.free_of xlc 3; have xf4 := Sm.free_of xlc 4; have xf5 := Sm.free_of xlc 5; have xf6 := Sm.free_of xlc 6; have xf7 := Sm.free_of xlc 7; have xf8 := Sm.free_of xlc 8; have xf9 := Sm.free_of xlc 9; have xf10 := Sm.free_of xlc 10; have xf11 := Sm.free_of xlc 11
          refine wp_region_held_drew (S := (fun w' => w'.heap[Q8]? = some (.cells kl.toArray 39 (0, 0)) ∧ w'.heap[Q9]? = some (.cells vl.toArray 32 (0, 0)))) (by kernel_rfl) ⟨HP8.out, HP9.out⟩ (fun hHeld => ?_)
          generalize hud : ub.drew = ud at *
          have hp8 : ud.heap[Q8]? = some (.cells kl.toArray 39 (0, 0)) := by rw [← hud]; exact HP8.out
          have hp9 : ud.heap[Q9]? = some (.cells vl.toArray 32 (0, 0)) := by rw [← hud]; exact HP9.out
          clear hud
          refine wpAnyH_take (i := 0) (oi := ⟨some 47, _, _, _, _, _⟩) (v := .pointer (some ⟨X, 0, none⟩)) rfl (by kernel_rfl) (by kernel_rfl) (by kernel_rfl) (fun _ _ _ h => h) (Or.inl ⟨by rfl, ?_⟩) (by assumption) ?_
          · intro w hSw; (try dsimp only at hSw); go_simp
          simp only [Act.put, List.setIfInBounds_toArray, List.set_cons_zero, List.set_cons_succ]
          refine wpAnyH_take (i := 1) (oi := ⟨some 48, _, _, _, _, _⟩) (v := .pointer (some ⟨X, 0, none⟩)) rfl (by kernel_rfl) (by kernel_rfl) (by kernel_rfl) (fun _ _ _ h => h) (Or.inl ⟨by rfl, ?_⟩) (by assumption) ?_
          · intro w hSw; (try dsimp only at hSw); go_simp
          simp only [Act.put, List.setIfInBounds_toArray, List.set_cons_zero, List.set_cons_succ]
          refine wpAnyH_take (i := 2) (oi := ⟨some 49, _, _, _, _, _⟩) (v := .agg kl.toArray) rfl (by kernel_rfl) (by kernel_rfl) (by kernel_rfl) (fun _ _ _ h => h) (yieldsIf_load_mid (by rfl) _ _ rfl _ _ rfl kl _ (fun w hS => Sm.range_row hS.1) Try.underlying39 rfl (Kp.info_kpt9 hkl6)) (by assumption) ?_
          simp only [Act.put, List.setIfInBounds_toArray, List.set_cons_zero, List.set_cons_succ]
          refine wpAnyH_take (i := 3) (oi := ⟨some 50, _, _, _, _, _⟩) (v := .agg vl.toArray) rfl (by kernel_rfl) (by kernel_rfl) (by kernel_rfl) (fun _ _ _ h => h) (yieldsIf_load_mid (by rfl) _ _ rfl _ _ rfl vl _ (fun w hS => Sm.range_row hS.2) Try.underlying32 rfl (Kp.info_dsk9 hvl4)) (by assumption) ?_
          simp only [Act.put, List.setIfInBounds_toArray, List.set_cons_zero, List.set_cons_succ]
          refine wpAnyH_take (i := 4) (oi := ⟨some 51, _, _, _, _, _⟩) (v := .pointer (some ⟨X, 0, none⟩)) rfl (by kernel_rfl) (by kernel_rfl) (by kernel_rfl) (fun _ _ _ h => h) (Or.inl ⟨by rfl, ?_⟩) (by assumption) ?_
          · intro w hSw; (try dsimp only at hSw); go_simp
          simp only [Act.put, List.setIfInBounds_toArray, List.set_cons_zero, List.set_cons_succ]
          refine wpAnyH_take (i := 5) (oi := ⟨some 52, _, _, _, _, _⟩) (v := .pointer (some ⟨X, 6, none⟩)) rfl (by kernel_rfl) (by kernel_rfl) (by kernel_rfl) (fun _ _ _ h => h) (Or.inl ⟨by rfl, ?_⟩) (by assumption) ?_
          · intro w hSw; (try dsimp only at hSw); go_simp
          simp only [Act.put, List.setIfInBounds_toArray, List.set_cons_zero, List.set_cons_succ]
          refine wpAnyH_ready (rs := [6]) (by kernel_rfl) (by simp) ?_
          refine (AllReadyH.cons (o := ⟨none, _, _, _, _, _⟩) rfl (fun K hK => ?_) AllReadyH.nil)
          rw [HKA.out]
          go_simp
          refine hK.out _ _ ⟨(Kp.six_other _ X _ _ _ _ _ _ Q8 g8).trans hp8, (Kp.six_other _ X _ _ _ _ _ _ Q9 g9).trans hp9⟩ (fun hHeld => ?_)
          clear hK K
          refine wpAnyH_take (i := 7) (oi := ⟨some 53, _, _, _, _, _⟩) (v := .pointer (some ⟨X, 0, none⟩)) rfl (by kernel_rfl) (by kernel_rfl) (by kernel_rfl) (fun _ _ _ h => h) (Or.inl ⟨by rfl, ?_⟩) (by assumption) ?_
          · intro w hSw; (try dsimp only at hSw); go_simp
          simp only [Act.put, List.setIfInBounds_toArray, List.set_cons_zero, List.set_cons_succ]
          refine wpAnyH_take (i := 8) (oi := ⟨some 54, _, _, _, _, _⟩) (v := .pointer (some ⟨X, 2, none⟩)) rfl (by kernel_rfl) (by kernel_rfl) (by kernel_rfl) (fun _ _ _ h => h) (Or.inl ⟨by rfl, ?_⟩) (by assumption) ?_
          · intro w hSw; (try dsimp only at hSw); go_simp
          simp only [Act.put, List.setIfInBounds_toArray, List.set_cons_zero, List.set_cons_succ]
          refine wpAnyH_ready (rs := [9]) (by kernel_rfl) (by simp) ?_
          refine (AllReadyH.cons (o := ⟨none, _, _, _, _, _⟩) rfl (fun K hK => ?_) AllReadyH.nil)
          rw [HVA.out]
          go_simp
          refine hK.out _ _ ⟨(Kp.set4_other' _ X _ _ _ _ Q8 g8).trans ((Kp.six_other _ X _ _ _ _ _ _ Q8 g8).trans hp8), (Kp.set4_other' _ X _ _ _ _ Q9 g9).trans ((Kp.six_other _ X _ _ _ _ _ _ Q9 g9).trans hp9)⟩ (fun hHeld => ?_)
          clear hK K
          refine wpAnyH_done (by kernel_rfl) ?_ _
          clear hHeld
          have b6 := Kp.setX6 xlc (.int .i64 fr1) (.string ts1) (.int .u64 (g1 : Int)) (.int .i64 sl1) (.int .u64 (se1 : Int)) (.bool br1)
          have t6 := Kp.setX6_turned ud X (.int .i64 fr1) (.string ts1) (.int .u64 (g1 : Int)) (.int .i64 sl1) (.int .u64 (se1 : Int)) (.bool br1)
          have GA := HGC.out.touch t6 HKP.out HK1S.out b6 HGC.out.ref
          have hra := HRC.out.turned (f' := (fun q => fp1 q ∨ q = X ∨ (some k : Option Nat) = some q)) (t6.mono fun i e => .inr (.inl e)) fun _ => .inl
          generalize ((((((ud.setCell ⟨X, 6, none⟩ (.int .i64 fr1)).setCell ⟨X, 7, none⟩ (.string ts1)).setCell ⟨X, 8, none⟩ (.int .u64 (g1 : Int))).setCell ⟨X, 9, none⟩ (.int .i64 sl1)).setCell ⟨X, 10, none⟩ (.int .u64 (se1 : Int))).setCell ⟨X, 11, none⟩ (.bool br1)) = ue at *
          have b4 := Kp.setX4 b6 (.slice tA tn tc) (.slice tB tm td) (.int .i64 f2) (.bool o2)
          have t4 := Kp.setX4_turned ue X (.slice tA tn tc) (.slice tB tm td) (.int .i64 f2) (.bool o2)
          have GB := GA.touch t4 HKP.out HK1S.out b4 hra
          have HF := Lib.hid GB.w9
          clear GA GB b4 b6 t4 t6 hra xlc hp8 hp9
          generalize ((((ue.setCell ⟨X, 2, none⟩ (.slice tA tn tc)).setCell ⟨X, 3, none⟩ (.slice tB tm td)).setCell ⟨X, 4, none⟩ (.int .i64 f2)).setCell ⟨X, 5, none⟩ (.bool o2)) = uf at *
          clear x2 x3 x4 x5 x6 x7 x8 x9 x10 x11 xf2 xf3 xf4 xf5 xf6 xf7 xf8 xf9 xf10 xf11
          go_wp2
          go_ret
          exact ⟨rfl, Kp.did9 HF.out ⟨fun e => (by cases e), fun e => absurd rfl e⟩ WT1.out⟩
      · rw [if_pos (by simp [Region.wanted])]
        go_simp
        have al := heap_alloc_new wd (.cells #[.int .i64 0, .string ⟨#[]⟩, .int .u64 0, .int .i64 0, .int .u64 0, .bool false] 39)
        have R6 := R0.alloc (.cells #[.int .i64 0, .string ⟨#[]⟩, .int .u64 0, .int .i64 0, .int .u64 0, .bool false] 39)
        obtain ⟨Q8, hQ⟩ : ∃ Q, Q = wd.heap.size := ⟨_, rfl⟩
        have hQA8 : wd.heap.size ≤ Q8 := by rw [hQ]; exact R0.bel.size
        rw [← hQ] at al R6  ⊢
        clear hQ
        have p86 := al
        clear al
        generalize wd.alloc (.cells #[.int .i64 0, .string ⟨#[]⟩, .int .u64 0, .int .i64 0, .int .u64 0, .bool false] 39) = v6 at *
        have G7 := HGD.out.low' R6.bel
        refine hK.out _ _ ⟨G7.lit HKP.out HKS.out, G7.act⟩ (fun hHeld => ?_)
        clear hK K
        clear G7
        refine wpAnyH_ready (rs := [10, 16]) (by kernel_rfl) (by simp) ?_
        refine (AllReadyH.cons (o := ⟨some 43, _, _, _, _, _⟩) rfl (fun K hK => ?_) (AllReadyH.cons (o := ⟨some 9, _, _, _, _, _⟩) rfl (fun K hK => ?_) AllReadyH.nil))
        · go_simp
          refine (RP.out _ _ R6.ref R6.lt).mono ?_
          rintro e v7 ⟨vn, rfl, href, k1⟩
          obtain ⟨tA, tn, tc, tB, tm, td, f2, o2, rfl⟩ := href.quad
          have R7 := R6.call href k1
          have G7 := HGD.out.low' R7.bel
          have p87 := (k1.block Q8 (Sm.lt_of p86)).trans p86
          clear href k1
          refine hK.out _ _ ⟨G7.lit HKP.out HKS.out, G7.act⟩ (fun hHeld => ?_)
          clear hK K
          clear G7
          refine wpAnyH_take (i := 11) (oi := ⟨some 32, _, _, _, _, _⟩) (v := .tuple #[.agg kl.toArray, .agg #[.slice tA tn tc, .slice tB tm td, .int .i64 f2, .bool o2], .int .i64 er]) rfl (by kernel_rfl) (by kernel_rfl) (by kernel_rfl) (fun _ _ _ h => h) (Or.inl ⟨by rfl, ?_⟩) (by assumption) ?_
          · intro w hSw; (try dsimp only at hSw); go_simp
          simp only [Act.put, List.setIfInBounds_toArray, List.set_cons_zero, List.set_cons_succ]
          refine wpAnyH_take (i := 12) (oi := ⟨some 44, _, _, _, _, _⟩) (v := .agg kl.toArray) rfl (by kernel_rfl) (by kernel_rfl) (by kernel_rfl) (fun _ _ _ h => h) (Or.inl ⟨by rfl, ?_⟩) (by assumption) ?_
          · intro w hSw; (try dsimp only at hSw); go_simp
          simp only [Act.put, List.setIfInBounds_toArray, List.set_cons_zero, List.set_cons_succ]
          refine wpAnyH_take (i := 13) (oi := ⟨some 45, _, _, _, _, _⟩) (v := .agg #[.slice tA tn tc, .slice tB tm td, .int .i64 f2, .bool o2]) rfl (by kernel_rfl) (by kernel_rfl) (by kernel_rfl) (fun _ _ _ h => h) (Or.inl ⟨by rfl, ?_⟩) (by assumption) ?_
          · intro w hSw; (try dsimp only at hSw); go_simp
          simp only [Act.put, List.setIfInBounds_toArray, List.set_cons_zero, List.set_cons_succ]
          refine wpAnyH_take (i := 14) (oi := ⟨some 46, _, _, _, _, _⟩) (v := .int .i64 er) rfl (by kernel_rfl) (by kernel_rfl) (by kernel_rfl) (fun _ _ _ h => h) (Or.inl ⟨by rfl, ?_⟩) (by assumption) ?_
          · intro w hSw; (try dsimp only at hSw); go_simp
          simp only [Act.put, List.setIfInBounds_toArray, List.set_cons_zero, List.set_cons_succ]
          refine wpAnyH_ready (rs := [16]) (by kernel_rfl) (by simp) ?_
          refine (AllReadyH.cons (o := ⟨some 9, _, _, _, _, _⟩) rfl (fun K hK => ?_) AllReadyH.nil)
          rw [if_pos (by simp [Region.wanted])]
          go_simp
          have al := heap_alloc_new v7 (.cells #[.slice none 0 0, .slice none 0 0, .int .i64 0, .bool false] 32)
          have R8 := R7.alloc (.cells #[.slice none 0 0, .slice none 0 0, .int .i64 0, .bool false] 32)
          have p88 : (v7.alloc (.cells #[.slice none 0 0, .slice none 0 0, .int .i64 0, .bool false] 32)).heap[Q8]? = _ := (Below.heap_alloc _ _ _ (Sm.lt_of p87)).trans p87
          have nq8 : v7.heap.size ≠ Q8 := by have := Sm.lt_of p87; omega
          obtain ⟨Q9, hQ⟩ : ∃ Q, Q = v7.heap.size := ⟨_, rfl⟩
          have hQA9 : wd.heap.size ≤ Q9 := by rw [hQ]; exact R7.bel.size
          rw [← hQ] at al R8 nq8 ⊢
          clear hQ
          have p98 := al
          clear al
          generalize v7.alloc (.cells #[.slice none 0 0, .slice none 0 0, .int .i64 0, .bool false] 32) = v8 at *
          have G7 := HGD.out.low' R8.bel
          refine hK.out _ _ ⟨G7.lit HKP.out HKS.out, G7.act⟩ (fun hHeld => ?_)
          clear hK K
          clear G7
          have n89 : Q8 ≠ Q9 := nq8.symm
          refine wpAnyH_ready (rs := [17]) (by kernel_rfl) (by simp) ?_
          refine (AllReadyH.cons (o := ⟨none, _, _, _, _, _⟩) rfl (fun K hK => ?_) AllReadyH.nil)
          have z0 := Sm.cells_of p88 0 _ rfl; have z1 := Sm.cells_of p88 1 _ rfl; have z2 := Sm.cells_of p88 2 _ rfl; have z3 := Sm.cells_of p88 3 _ rfl; have z4 := Sm.cells_of p88 4 _ rfl; have z5 := Sm.cells_of p88 5 _ rfl
          have zf0 := Sm.free_of p88 0; have zf1 := Sm.free_of p88 1; have zf2 := Sm.free_of p88 2; have zf3 := Sm.free_of p88 3; have zf4 := Sm.free_of p88 4; have zf5 := Sm.free_of p88 5
          rw [HKA.out]
          go_simp
          have RA := R8.set (Kp.turned6 v8 Q8 (.int .i64 fr1) (.string ts1) (.int .u64 (g1 : Int)) (.int .i64 sl1) (.int .u64 (se1 : Int)) (.bool br1)) hQA8 (by simp)
          have pa8 := Kp.set6 p88 rfl (.int .i64 fr1) (.string ts1) (.int .u64 (g1 : Int)) (.int .i64 sl1) (.int .u64 (se1 : Int)) (.bool br1)
          have pa9 := (Kp.set6_other v8 Q8 (.int .i64 fr1) (.string ts1) (.int .u64 (g1 : Int)) (.int .i64 sl1) (.int .u64 (se1 : Int)) (.bool br1) Q9 n89.symm).trans p98
          clear z0 z1 z2 z3 z4 z5 zf0 zf1 zf2 zf3 zf4 zf5
          generalize ((((((v8.setCell ⟨Q8, 0, none⟩ (.int .i64 fr1)).setCell ⟨Q8, 1, none⟩ (.string ts1)).setCell ⟨Q8, 2, none⟩ (.int .u64 (g1 : Int))).setCell ⟨Q8, 3, none⟩ (.int .i64 sl1)).setCell ⟨Q8, 4, none⟩ (.int .u64 (se1 : Int))).setCell ⟨Q8, 5, none⟩ (.bool br1)) = ua at *
          have G7 := HGD.out.low' RA.bel
          refine hK.out _ _ ⟨G7.lit HKP.out HKS.out, G7.act⟩ (fun hHeld => ?_)
          clear hK K
          clear G7
          refine wpAnyH_ready (rs := [18]) (by kernel_rfl) (by simp) ?_
          refine (AllReadyH.cons (o := ⟨none, _, _, _, _, _⟩) rfl (fun K hK => ?_) AllReadyH.nil)
          have z0 := Sm.cells_of pa9 0 _ rfl; have z1 := Sm.cells_of pa9 1 _ rfl; have z2 := Sm.cells_of pa9 2 _ rfl; have z3 := Sm.cells_of pa9 3 _ rfl
          have zf0 := Sm.free_of pa9 0; have zf1 := Sm.free_of pa9 1; have zf2 := Sm.free_of pa9 2; have zf3 := Sm.free_of pa9 3
          go_simp
          have RB := RA.set (Kp.turned4 ua Q9 (.slice tA tn tc) (.slice tB tm td) (.int .i64 f2) (.bool o2)) hQA9 (by simp)
          have pb9 := Dk.set4 pa9 rfl (.slice tA tn tc) (.slice tB tm td) (.int .i64 f2) (.bool o2)
          have pb8 := (Dk.set4_other ua Q9 (.slice tA tn tc) (.slice tB tm td) (.int .i64 f2) (.bool o2) Q8 n89).trans pa8
          clear z0 z1 z2 z3 zf0 zf1 zf2 zf3
          generalize ((((ua.setCell ⟨Q9, 0, none⟩ (.slice tA tn tc)).setCell ⟨Q9, 1, none⟩ (.slice tB tm td)).setCell ⟨Q9, 2, none⟩ (.int .i64 f2)).setCell ⟨Q9, 3, none⟩ (.bool o2)) = ub at *
          have G7 := HGD.out.low' RB.bel
          refine hK.out _ _ ⟨G7.lit HKP.out HKS.out, G7.act⟩ (fun hHeld => ?_)
          clear hK K
          clear G7
          refine wpAnyH_take (i := 19) (oi := ⟨some 10, _, _, _, _, _⟩) (v := .int .i64 er) rfl (by kernel_rfl) (by kernel_rfl) (by kernel_rfl) (fun _ _ _ h => h) (Or.inl ⟨by rfl, ?_⟩) (by assumption) ?_
          · intro w hSw; (try dsimp only at hSw); go_simp
          simp only [Act.put, List.setIfInBounds_toArray, List.set_cons_zero, List.set_cons_succ]
          refine wpAnyH_done (by kernel_rfl) ?_ _
          clear hHeld
          have hrb : Dk.RefAt ub (fun q => fp1 q ∨ q = X ∨ (some k : Option Nat) = some q) (.agg #[.slice tA tn tc, .slice tB tm td, .int .i64 f2, .bool o2]) M1 := RB.ref.off fun q _ e => .inl (.inl e)
          have g8 : Q8 ≠ X := by have h1 := Sm.lt_of HGD.out.box; omega
          have g9 : Q9 ≠ X := by have h1 := Sm.lt_of HGD.out.box; omega
          have HGB := Lib.hid (HGD.out.low' RB.bel)
          obtain ⟨vl, hvl⟩ : ∃ q : List Value, q = [.slice tA tn tc, .slice tB tm td, .int .i64 f2, .bool o2] := ⟨_, rfl⟩
          have hva : vl.toArray = #[.slice tA tn tc, .slice tB tm td, .int .i64 f2, .bool o2] := by rw [hvl]
          have hvl4 : vl.length = 4 := by rw [hvl]; rfl
          have HVA := Lib.hid hva
          rw [← HKA.out] at pb8
          rw [← hva] at pb9
          have HRB := Lib.hid hrb
          have HP8 := Lib.hid pb8
          have HP9 := Lib.hid pb9
          clear hvl hva hrb pb8 pb9 pa8 pa9 RA RB
          go_upto_region 7 with (fail)
          have HGC := Lib.hid (HGB.out.low' ((Below.refl _ ub).drew))
          have xlc := HGC.out.lit HKP.out HKS.out
          have HRC : Hid (Dk.RefAt ub.drew (fun q => fp1 q ∨ q = X ∨ (some k : Option Nat) = some q) (.agg #[.slice tA tn tc, .slice tB tm td, .int .i64 f2, .bool o2]) M1) := HRB.out.low ((Below.refl _ ub).drew)
          have x2 := Sm.cells_of xlc 2 _ rfl; have x3 := Sm.cells_of xlc 3 _ rfl; have x4 := Sm.cells_of xlc 4 _ rfl; have x5 := Sm.cells_of xlc 5 _ rfl; have x6 := Sm.cells_of xlc 6 _ rfl; have x7 := Sm.cells_of xlc 7 _ rfl; have x8 := Sm.cells_of xlc 8 _ rfl; have x9 := Sm.cells_of xlc 9 _ rfl; have x10 := Sm.cells_of xlc 10 _ rfl; have x11 := Sm.cells_of xlc 11 _ rfl
          have xf2 := Sm.free_of xlc 2; have xf3 := Sm.free_of xlc 3; have xf4 := Sm.free_of xlc 4; have xf5 := Sm.free_of xlc 5; have xf6 := Sm.free_of xlc 6; have xf7 := Sm.free_of xlc 7; have xf8 := Sm.free_of xlc 8; have xf9 := Sm.free_of xlc 9; have xf10 := Sm.free_of xlc 10; have xf11 := Sm.free_of xlc 11
          refine wp_region_held_drew (S := (fun w' => w'.heap[Q8]? = some (.cells kl.toArray 39 (0, 0)) ∧ w'.heap[Q9]? = some (.cells vl.toArray 32 (0, 0)))) (by kernel_rfl) ⟨HP8.out, HP9.out⟩ (fun hHeld => ?_)
          generalize hud : ub.drew = ud at *
          have hp8 : ud.heap[Q8]? = some (.cells kl.toArray 39 (0, 0)) := by rw [← hud]; exact HP8.out
          have hp9 : ud.heap[Q9]? = some (.cells vl.toArray 32 (0, 0)) := by rw [← hud]; exact HP9.out
          clear hud
          refine wpAnyH_take (i := 0) (oi := ⟨some 47, _, _, _, _, _⟩) (v := .pointer (some ⟨X, 0, none⟩)) rfl (by kernel_rfl) (by kernel_rfl) (by kernel_rfl) (fun _ _ _ h => h) (Or.inl ⟨by rfl, ?_⟩) (by assumption) ?_
          · intro w hSw; (try dsimp only at hSw); go_simp
          simp only [Act.put, List.setIfInBounds_toArray, List.set_cons_zero, List.set_cons_succ]
          refine wpAnyH_take (i := 1) (oi := ⟨some 48, _, _, _, _, _⟩) (v := .pointer (some ⟨X, 0, none⟩)) rfl (by kernel_rfl) (by kernel_rfl) (by kernel_rfl) (fun _ _ _ h => h) (Or.inl ⟨by rfl, ?_⟩) (by assumption) ?_
          · intro w hSw; (try dsimp only at hSw); go_simp
          simp only [Act.put, List.setIfInBounds_toArray, List.set_cons_zero, List.set_cons_succ]
          refine wpAnyH_take (i := 2) (oi := ⟨some 49, _, _, _, _, _⟩) (v := .agg kl.toArray) rfl (by kernel_rfl) (by kernel_rfl) (by kernel_rfl) (fun _ _ _ h => h) (yieldsIf_load_mid (by rfl) _ _ rfl _ _ rfl kl _ (fun w hS => Sm.range_row hS.1) Try.underlying39 rfl (Kp.info_kpt9 hkl6)) (by assumption) ?_
          simp only [Act.put, List.setIfInBounds_toArray, List.set_cons_zero, List.set_cons_succ]
          refine wpAnyH_take (i := 3) (oi := ⟨some 50, _, _, _, _, _⟩) (v := .agg vl.toArray) rfl (by kernel_rfl) (by kernel_rfl) (by kernel_rfl) (fun _ _ _ h => h) (yieldsIf_load_mid (by rfl) _ _ rfl _ _ rfl vl _ (fun w hS => Sm.range_row hS.2) Try.underlying32 rfl (Kp.info_dsk9 hvl4)) (by assumption) ?_
          simp only [Act.put, List.setIfInBounds_toArray, List.set_cons_zero, List.set_cons_succ]
          refine wpAnyH_take (i := 4) (oi := ⟨some 51, _, _, _, _, _⟩) (v := .pointer (some ⟨X, 0, none⟩)) rfl (by kernel_rfl) (by kernel_rfl) (by kernel_rfl) (fun _ _ _ h => h) (Or.inl ⟨by rfl, ?_⟩) (by assumption) ?_
          · intro w hSw; (try dsimp only at hSw); go_simp
          simp only [Act.put, List.setIfInBounds_toArray, List.set_cons_zero, List.set_cons_succ]
          refine wpAnyH_take (i := 5) (oi := ⟨some 52, _, _, _, _, _⟩) (v := .pointer (some ⟨X, 6, none⟩)) rfl (by kernel_rfl) (by kernel_rfl) (by kernel_rfl) (fun _ _ _ h => h) (Or.inl ⟨by rfl, ?_⟩) (by assumption) ?_
          · intro w hSw; (try dsimp only at hSw); go_simp
          simp only [Act.put, List.setIfInBounds_toArray, List.set_cons_zero, List.set_cons_succ]
          refine wpAnyH_ready (rs := [6]) (by kernel_rfl) (by simp) ?_
          refine (AllReadyH.cons (o := ⟨none, _, _, _, _, _⟩) rfl (fun K hK => ?_) AllReadyH.nil)
          rw [HKA.out]
          go_simp
          refine hK.out _ _ ⟨(Kp.six_other _ X _ _ _ _ _ _ Q8 g8).trans hp8, (Kp.six_other _ X _ _ _ _ _ _ Q9 g9).trans hp9⟩ (fun hHeld => ?_)
          clear hK K
          refine wpAnyH_take (i := 7) (oi := ⟨some 53, _, _, _, _, _⟩) (v := .pointer (some ⟨X, 0, none⟩)) rfl (by kernel_rfl) (by kernel_rfl) (by kernel_rfl) (fun _ _ _ h => h) (Or.inl ⟨by rfl, ?_⟩) (by assumption) ?_
          · intro w hSw; (try dsimp only at hSw); go_simp
          simp only [Act.put, List.setIfInBounds_toArray, List.set_cons_zero, List.set_cons_succ]
          refine wpAnyH_take (i := 8) (oi := ⟨some 54, _, _, _, _, _⟩) (v := .pointer (some ⟨X, 2, none⟩)) rfl (by kernel_rfl) (by kernel_rfl) (by kernel_rfl) (fun _ _ _ h => h) (Or.inl ⟨by rfl, ?_⟩) (by assumption) ?_
          · intro w hSw; (try dsimp only at hSw); go_simp
          simp only [Act.put, List.setIfInBounds_toArray, List.set_cons_zero, List.set_cons_succ]
          refine wpAnyH_ready (rs := [9]) (by kernel_rfl) (by simp) ?_
          refine (AllReadyH.cons (o := ⟨none, _, _, _, _, _⟩) rfl (fun K hK => ?_) AllReadyH.nil)
          rw [HVA.out]
          go_simp
          refine hK.out _ _ ⟨(Kp.set4_other' _ X _ _ _ _ Q8 g8).trans ((Kp.six_other _ X _ _ _ _ _ _ Q8 g8).trans hp8), (Kp.set4_other' _ X _ _ _ _ Q9 g9).trans ((Kp.six_other _ X _ _ _ _ _ _ Q9 g9).trans hp9)⟩ (fun hHeld => ?_)
          clear hK K
          refine wpAnyH_done (by kernel_rfl) ?_ _
          clear hHeld
          have b6 := Kp.setX6 xlc (.int .i64 fr1) (.string ts1) (.int .u64 (g1 : Int)) (.int .i64 sl1) (.int .u64 (se1 : Int)) (.bool br1)
          have t6 := Kp.setX6_turned ud X (.int .i64 fr1) (.string ts1) (.int .u64 (g1 : Int)) (.int .i64 sl1) (.int .u64 (se1 : Int)) (.bool br1)
          have GA := HGC.out.touch t6 HKP.out HK1S.out b6 HGC.out.ref
          have hra := HRC.out.turned (f' := (fun q => fp1 q ∨ q = X ∨ (some k : Option Nat) = some q)) (t6.mono fun i e => .inr (.inl e)) fun _ => .inl
          generalize ((((((ud.setCell ⟨X, 6, none⟩ (.int .i64 fr1)).setCell ⟨X, 7, none⟩ (.string ts1)).setCell ⟨X, 8, none⟩ (.int .u64 (g1 : Int))).setCell ⟨X, 9, none⟩ (.int .i64 sl1)).setCell ⟨X, 10, none⟩ (.int .u64 (se1 : Int))).setCell ⟨X, 11, none⟩ (.bool br1)) = ue at *
          have b4 := Kp.setX4 b6 (.slice tA tn tc) (.slice tB tm td) (.int .i64 f2) (.bool o2)
          have t4 := Kp.setX4_turned ue X (.slice tA tn tc) (.slice tB tm td) (.int .i64 f2) (.bool o2)
          have GB := GA.touch t4 HKP.out HK1S.out b4 hra
          have HF := Lib.hid GB.w9
          clear GA GB b4 b6 t4 t6 hra xlc hp8 hp9
          generalize ((((ue.setCell ⟨X, 2, none⟩ (.slice tA tn tc)).setCell ⟨X, 3, none⟩ (.slice tB tm td)).setCell ⟨X, 4, none⟩ (.int .i64 f2)).setCell ⟨X, 5, none⟩ (.bool o2)) = uf at *
          clear x2 x3 x4 x5 x6 x7 x8 x9 x10 x11 xf2 xf3 xf4 xf5 xf6 xf7 xf8 xf9 xf10 xf11
          go_wp2
          go_ret
          exact ⟨rfl, Kp.did9 HF.out ⟨fun e => (by cases e), fun e => absurd rfl e⟩ WT1.out⟩
        · rw [if_pos (by simp [Region.wanted])]
          go_simp
          have al := heap_alloc_new v6 (.cells #[.slice none 0 0, .slice none 0 0, .int .i64 0, .bool false] 32)
          have R9 := R6.alloc (.cells #[.slice none 0 0, .slice none 0 0, .int .i64 0, .bool false] 32)
          have p89 : (v6.alloc (.cells #[.slice none 0 0, .slice none 0 0, .int .i64 0, .bool false] 32)).heap[Q8]? = _ := (Below.heap_alloc _ _ _ (Sm.lt_of p86)).trans p86
          have nq9 : v6.heap.size ≠ Q8 := by have := Sm.lt_of p86; omega
          obtain ⟨Q9, hQ⟩ : ∃ Q, Q = v6.heap.size := ⟨_, rfl⟩
          have hQA9 : wd.heap.size ≤ Q9 := by rw [hQ]; exact R6.bel.size
          rw [← hQ] at al R9 nq9 ⊢
          clear hQ
          have p99 := al
          clear al
          generalize v6.alloc (.cells #[.slice none 0 0, .slice none 0 0, .int .i64 0, .bool false] 32) = v9 at *
          have G7 := HGD.out.low' R9.bel
          refine hK.out _ _ ⟨G7.lit HKP.out HKS.out, G7.act⟩ (fun hHeld => ?_)
          clear hK K
          clear G7
          refine wpAnyH_ready (rs := [10]) (by kernel_rfl) (by simp) ?_
          refine (AllReadyH.cons (o := ⟨some 43, _, _, _, _, _⟩) rfl (fun K hK => ?_) AllReadyH.nil)
          go_simp
          refine (RP.out _ _ R9.ref R9.lt).mono ?_
          rintro e v10 ⟨vn, rfl, href, k1⟩
          obtain ⟨tA, tn, tc, tB, tm, td, f2, o2, rfl⟩ := href.quad
          have R10 := R9.call href k1
          have G7 := HGD.out.low' R10.bel
          have p810 := (k1.block Q8 (Sm.lt_of p89)).trans p89
          have p910 := (k1.block Q9 (Sm.lt_of p99)).trans p99
          clear href k1
          refine hK.out _ _ ⟨G7.lit HKP.out HKS.out, G7.act⟩ (fun hHeld => ?_)
          clear hK K
          clear G7
          refine wpAnyH_take (i := 11) (oi := ⟨some 32, _, _, _, _, _⟩) (v := .tuple #[.agg kl.toArray, .agg #[.slice tA tn tc, .slice tB tm td, .int .i64 f2, .bool o2], .int .i64 er]) rfl (by kernel_rfl) (by kernel_rfl) (by kernel_rfl) (fun _ _ _ h => h) (Or.inl ⟨by rfl, ?_⟩) (by assumption) ?_
          · intro w hSw; (try dsimp only at hSw); go_simp
          simp only [Act.put, List.setIfInBounds_toArray, List.set_cons_zero, List.set_cons_succ]
          refine wpAnyH_take (i := 12) (oi := ⟨some 44, _, _, _, _, _⟩) (v := .agg kl.toArray) rfl (by kernel_rfl) (by kernel_rfl) (by kernel_rfl) (fun _ _ _ h => h) (Or.inl ⟨by rfl, ?_⟩) (by assumption) ?_
          · intro w hSw; (try dsimp only at hSw); go_simp
          simp only [Act.put, List.setIfInBounds_toArray, List.set_cons_zero, List.set_cons_succ]
          refine wpAnyH_take (i := 13) (oi := ⟨some 45, _, _, _, _, _⟩) (v := .agg #[.slice tA tn tc, .slice tB tm td, .int .i64 f2, .bool o2]) rfl (by kernel_rfl) (by kernel_rfl) (by kernel_rfl) (fun _ _ _ h => h) (Or.inl ⟨by rfl, ?_⟩) (by assumption) ?_
          · intro w hSw; (try dsimp only at hSw); go_simp
          simp only [Act.put, List.setIfInBounds_toArray, List.set_cons_zero, List.set_cons_succ]
          refine wpAnyH_take (i := 14) (oi := ⟨some 46, _, _, _, _, _⟩) (v := .int .i64 er) rfl (by kernel_rfl) (by kernel_rfl) (by kernel_rfl) (fun _ _ _ h => h) (Or.inl ⟨by rfl, ?_⟩) (by assumption) ?_
          · intro w hSw; (try dsimp only at hSw); go_simp
          simp only [Act.put, List.setIfInBounds_toArray, List.set_cons_zero, List.set_cons_succ]
          have n89 : Q8 ≠ Q9 := nq9.symm
          refine wpAnyH_ready (rs := [17]) (by kernel_rfl) (by simp) ?_
          refine (AllReadyH.cons (o := ⟨none, _, _, _, _, _⟩) rfl (fun K hK => ?_) AllReadyH.nil)
          have z0 := Sm.cells_of p810 0 _ rfl; have z1 := Sm.cells_of p810 1 _ rfl; have z2 := Sm.cells_of p810 2 _ rfl; have z3 := Sm.cells_of p810 3 _ rfl; have z4 := Sm.cells_of p810 4 _ rfl; have z5 := Sm.cells_of p810 5 _ rfl
          have zf0 := Sm.free_of p810 0; have zf1 := Sm.free_of p810 1; have zf2 := Sm.free_of p810 2; have zf3 := Sm.free_of p810 3; have zf4 := Sm.free_of p810 4; have zf5 := Sm.free_of p810 5
          rw [HKA.out]
          go_simp
          have RA := R10.set (Kp.turned6 v10 Q8 (.int .i64 fr1) (.string ts1) (.int .u64 (g1 : Int)) (.int .i64 sl1) (.int .u64 (se1 : Int)) (.bool br1)) hQA8 (by simp)
          have pa8 := Kp.set6 p810 rfl (.int .i64 fr1) (.string ts1) (.int .u64 (g1 : Int)) (.int .i64 sl1) (.int .u64 (se1 : Int)) (.bool br1)
          have pa9 := (Kp.set6_other v10 Q8 (.int .i64 fr1) (.string ts1) (.int .u64 (g1 : Int)) (.int .i64 sl1) (.int .u64 (se1 : Int)) (.bool br1) Q9 n89.symm).trans p910
          clear z0 z1 z2 z3 z4 z5 zf0 zf1 zf2 zf3 zf4 zf5
          generalize ((((((v10.setCell ⟨Q8, 0, none⟩ (.int .i64 fr1)).setCell ⟨Q8, 1, none⟩ (.string ts1)).setCell ⟨Q8, 2, none⟩ (.int .u64 (g1 : Int))).setCell ⟨Q8, 3, none⟩ (.int .i64 sl1)).setCell ⟨Q8, 4, none⟩ (.int .u64 (se1 : Int))).setCell ⟨Q8, 5, none⟩ (.bool br1)) = ua at *
          have G7 := HGD.out.low' RA.bel
          refine hK.out _ _ ⟨G7.lit HKP.out HKS.out, G7.act⟩ (fun hHeld => ?_)
          clear hK K
          clear G7
          refine wpAnyH_ready (rs := [18]) (by kernel_rfl) (by simp) ?_
          refine (AllReadyH.cons (o := ⟨none, _, _, _, _, _⟩) rfl (fun K hK => ?_) AllReadyH.nil)
          have z0 := Sm.cells_of pa9 0 _ rfl; have z1 := Sm.cells_of pa9 1 _ rfl; have z2 := Sm.cells_of pa9 2 _ rfl; have z3 := Sm.cells_of pa9 3 _ rfl
          have zf0 := Sm.free_of pa9 0; have zf1 := Sm.free_of pa9 1; have zf2 := Sm.free_of pa9 2; have zf3 := Sm.free_of pa9 3
          go_simp
          have RB := RA.set (Kp.turned4 ua Q9 (.slice tA tn tc) (.slice tB tm td) (.int .i64 f2) (.bool o2)) hQA9 (by simp)
          have pb9 := Dk.set4 pa9 rfl (.slice tA tn tc) (.slice tB tm td) (.int .i64 f2) (.bool o2)
          have pb8 := (Dk.set4_other ua Q9 (.slice tA tn tc) (.slice tB tm td) (.int .i64 f2) (.bool o2) Q8 n89).trans pa8
          clear z0 z1 z2 z3 zf0 zf1 zf2 zf3
          generalize ((((ua.setCell ⟨Q9, 0, none⟩ (.slice tA tn tc)).setCell ⟨Q9, 1, none⟩ (.slice tB tm td)).setCell ⟨Q9, 2, none⟩ (.int .i64 f2)).setCell ⟨Q9, 3, none⟩ (.bool o2)) = ub at *
          have G7 := HGD.out.low' RB.bel
          refine hK.out _ _ ⟨G7.lit HKP.out HKS.out, G7.act⟩ (fun hHeld => ?_)
          clear hK K
          clear G7
          refine wpAnyH_take (i := 19) (oi := ⟨some 10, _, _, _, _, _⟩) (v := .int .i64 er) rfl (by kernel_rfl) (by kernel_rfl) (by kernel_rfl) (fun _ _ _ h => h) (Or.inl ⟨by rfl, ?_⟩) (by assumption) ?_
          · intro w hSw; (try dsimp only at hSw); go_simp
          simp only [Act.put, List.setIfInBounds_toArray, List.set_cons_zero, List.set_cons_succ]
          refine wpAnyH_done (by kernel_rfl) ?_ _
          clear hHeld
          have hrb : Dk.RefAt ub (fun q => fp1 q ∨ q = X ∨ (some k : Option Nat) = some q) (.agg #[.slice tA tn tc, .slice tB tm td, .int .i64 f2, .bool o2]) M1 := RB.ref.off fun q _ e => .inl (.inl e)
          have g8 : Q8 ≠ X := by have h1 := Sm.lt_of HGD.out.box; omega
          have g9 : Q9 ≠ X := by have h1 := Sm.lt_of HGD.out.box; omega
          have HGB := Lib.hid (HGD.out.low' RB.bel)
          obtain ⟨vl, hvl⟩ : ∃ q : List Value, q = [.slice tA tn tc, .slice tB tm td, .int .i64 f2, .bool o2] := ⟨_, rfl⟩
          have hva : vl.toArray = #[.slice tA tn tc, .slice tB tm td, .int .i64 f2, .bool o2] := by rw [hvl]
          have hvl4 : vl.length = 4 := by rw [hvl]; rfl
          have HVA := Lib.hid hva
          rw [← HKA.out] at pb8
          rw [← hva] at pb9
          have HRB := Lib.hid hrb
          have HP8 := Lib.hid pb8
          have HP9 := Lib.hid pb9
          clear hvl hva hrb pb8 pb9 pa8 pa9 RA RB
          go_upto_region 7 with (fail)
          have HGC := Lib.hid (HGB.out.low' ((Below.refl _ ub).drew))
          have xlc := HGC.out.lit HKP.out HKS.out
          have HRC : Hid (Dk.RefAt ub.drew (fun q => fp1 q ∨ q = X ∨ (some k : Option Nat) = some q) (.agg #[.slice tA tn tc, .slice tB tm td, .int .i64 f2, .bool o2]) M1) := HRB.out.low ((Below.refl _ ub).drew)
          have x2 := Sm.cells_of xlc 2 _ rfl; have x3 := Sm.cells_of xlc 3 _ rfl; have x4 := Sm.cells_of xlc 4 _ rfl; have x5 := Sm.cells_of xlc 5 _ rfl; have x6 := Sm.cells_of xlc 6 _ rfl; have x7 := Sm.cells_of xlc 7 _ rfl; have x8 := Sm.cells_of xlc 8 _ rfl; have x9 := Sm.cells_of xlc 9 _ rfl; have x10 := Sm.cells_of xlc 10 _ rfl; have x11 := Sm.cells_of xlc 11 _ rfl
          have xf2 := Sm.free_of xlc 2; have xf3 := Sm.free_of xlc 3; have xf4 := Sm.free_of xlc 4; have xf5 := Sm.free_of xlc 5; have xf6 := Sm.free_of xlc 6; have xf7 := Sm.free_of xlc 7; have xf8 := Sm.free_of xlc 8; have xf9 := Sm.free_of xlc 9; have xf10 := Sm.free_of xlc 10; have xf11 := Sm.free_of xlc 11
          refine wp_region_held_drew (S := (fun w' => w'.heap[Q8]? = some (.cells kl.toArray 39 (0, 0)) ∧ w'.heap[Q9]? = some (.cells vl.toArray 32 (0, 0)))) (by kernel_rfl) ⟨HP8.out, HP9.out⟩ (fun hHeld => ?_)
          generalize hud : ub.drew = ud at *
          have hp8 : ud.heap[Q8]? = some (.cells kl.toArray 39 (0, 0)) := by rw [← hud]; exact HP8.out
          have hp9 : ud.heap[Q9]? = some (.cells vl.toArray 32 (0, 0)) := by rw [← hud]; exact HP9.out
          clear hud
          refine wpAnyH_take (i := 0) (oi := ⟨some 47, _, _, _, _, _⟩) (v := .pointer (some ⟨X, 0, none⟩)) rfl (by kernel_rfl) (by kernel_rfl) (by kernel_rfl) (fun _ _ _ h => h) (Or.inl ⟨by rfl, ?_⟩) (by assumption) ?_
          · intro w hSw; (try dsimp only at hSw); go_simp
          simp only [Act.put, List.setIfInBounds_toArray, List.set_cons_zero, List.set_cons_succ]
          refine wpAnyH_take (i := 1) (oi := ⟨some 48, _, _, _, _, _⟩) (v := .pointer (some ⟨X, 0, none⟩)) rfl (by kernel_rfl) (by kernel_rfl) (by kernel_rfl) (fun _ _ _ h => h) (Or.inl ⟨by rfl, ?_⟩) (by assumption) ?_
          · intro w hSw; (try dsimp only at hSw); go_simp
          simp only [Act.put, List.setIfInBounds_toArray, List.set_cons_zero, List.set_cons_succ]
          refine wpAnyH_take (i := 2) (oi := ⟨some 49, _, _, _, _, _⟩) (v := .agg kl.toArray) rfl (by kernel_rfl) (by kernel_rfl) (by kernel_rfl) (fun _ _ _ h => h) (yieldsIf_load_mid (by rfl) _ _ rfl _ _ rfl kl _ (fun w hS => Sm.range_row hS.1) Try.underlying39 rfl (Kp.info_kpt9 hkl6)) (by assumption) ?_
          simp only [Act.put, List.setIfInBounds_toArray, List.set_cons_zero, List.set_cons_succ]
          refine wpAnyH_take (i := 3) (oi := ⟨some 50, _, _, _, _, _⟩) (v := .agg vl.toArray) rfl (by kernel_rfl) (by kernel_rfl) (by kernel_rfl) (fun _ _ _ h => h) (yieldsIf_load_mid (by rfl) _ _ rfl _ _ rfl vl _ (fun w hS => Sm.range_row hS.2) Try.underlying32 rfl (Kp.info_dsk9 hvl4)) (by assumption) ?_
          simp only [Act.put, List.setIfInBounds_toArray, List.set_cons_zero, List.set_cons_succ]
          refine wpAnyH_take (i := 4) (oi := ⟨some 51, _, _, _, _, _⟩) (v := .pointer (some ⟨X, 0, none⟩)) rfl (by kernel_rfl) (by kernel_rfl) (by kernel_rfl) (fun _ _ _ h => h) (Or.inl ⟨by rfl, ?_⟩) (by assumption) ?_
          · intro w hSw; (try dsimp only at hSw); go_simp
          simp only [Act.put, List.setIfInBounds_toArray, List.set_cons_zero, List.set_cons_succ]
          refine wpAnyH_take (i := 5) (oi := ⟨some 52, _, _, _, _, _⟩) (v := .pointer (some ⟨X, 6, none⟩)) rfl (by kernel_rfl) (by kernel_rfl) (by kernel_rfl) (fun _ _ _ h => h) (Or.inl ⟨by rfl, ?_⟩) (by assumption) ?_
          · intro w hSw; (try dsimp only at hSw); go_simp
          simp only [Act.put, List.setIfInBounds_toArray, List.set_cons_zero, List.set_cons_succ]
          refine wpAnyH_ready (rs := [6]) (by kernel_rfl) (by simp) ?_
          refine (AllReadyH.cons (o := ⟨none, _, _, _, _, _⟩) rfl (fun K hK => ?_) AllReadyH.nil)
          rw [HKA.out]
          go_simp
          refine hK.out _ _ ⟨(Kp.six_other _ X _ _ _ _ _ _ Q8 g8).trans hp8, (Kp.six_other _ X _ _ _ _ _ _ Q9 g9).trans hp9⟩ (fun hHeld => ?_)
          clear hK K
          refine wpAnyH_take (i := 7) (oi := ⟨some 53, _, _, _, _, _⟩) (v := .pointer (some ⟨X, 0, none⟩)) rfl (by kernel_rfl) (by kernel_rfl) (by kernel_rfl) (fun _ _ _ h => h) (Or.inl ⟨by rfl, ?_⟩) (by assumption) ?_
          · intro w hSw; (try dsimp only at hSw); go_simp
          simp only [Act.put, List.setIfInBounds_toArray, List.set_cons_zero, List.set_cons_succ]
          refine wpAnyH_take (i := 8) (oi := ⟨some 54, _, _, _, _, _⟩) (v := .pointer (some ⟨X, 2, none⟩)) rfl (by kernel_rfl) (by kernel_rfl) (by kernel_rfl) (fun _ _ _ h => h) (Or.inl ⟨by rfl, ?_⟩) (by assumption) ?_
          · intro w hSw; (try dsimp only at hSw); go_simp
          simp only [Act.put, List.setIfInBounds_toArray, List.set_cons_zero, List.set_cons_succ]
          refine wpAnyH_ready (rs := [9]) (by kernel_rfl) (by simp) ?_
          refine (AllReadyH.cons (o := ⟨none, _, _, _, _, _⟩) rfl (fun K hK => ?_) AllReadyH.nil)
          rw [HVA.out]
          go_simp
          refine hK.out _ _ ⟨(Kp.set4_other' _ X _ _ _ _ Q8 g8).trans ((Kp.six_other _ X _ _ _ _ _ _ Q8 g8).trans hp8), (Kp.set4_other' _ X _ _ _ _ Q9 g9).trans ((Kp.six_other _ X _ _ _ _ _ _ Q9 g9).trans hp9)⟩ (fun hHeld => ?_)
          clear hK K
          refine wpAnyH_done (by kernel_rfl) ?_ _
          clear hHeld
          have b6 := Kp.setX6 xlc (.int .i64 fr1) (.string ts1) (.int .u64 (g1 : Int)) (.int .i64 sl1) (.int .u64 (se1 : Int)) (.bool br1)
          have t6 := Kp.setX6_turned ud X (.int .i64 fr1) (.string ts1) (.int .u64 (g1 : Int)) (.int .i64 sl1) (.int .u64 (se1 : Int)) (.bool br1)
          have GA := HGC.out.touch t6 HKP.out HK1S.out b6 HGC.out.ref
          have hra := HRC.out.turned (f' := (fun q => fp1 q ∨ q = X ∨ (some k : Option Nat) = some q)) (t6.mono fun i e => .inr (.inl e)) fun _ => .inl
          generalize ((((((ud.setCell ⟨X, 6, none⟩ (.int .i64 fr1)).setCell ⟨X, 7, none⟩ (.string ts1)).setCell ⟨X, 8, none⟩ (.int .u64 (g1 : Int))).setCell ⟨X, 9, none⟩ (.int .i64 sl1)).setCell ⟨X, 10, none⟩ (.int .u64 (se1 : Int))).setCell ⟨X, 11, none⟩ (.bool br1)) = ue at *
          have b4 := Kp.setX4 b6 (.slice tA tn tc) (.slice tB tm td) (.int .i64 f2) (.bool o2)
          have t4 := Kp.setX4_turned ue X (.slice tA tn tc) (.slice tB tm td) (.int .i64 f2) (.bool o2)
          have GB := GA.touch t4 HKP.out HK1S.out b4 hra
          have HF := Lib.hid GB.w9
          clear GA GB b4 b6 t4 t6 hra xlc hp8 hp9
          generalize ((((ue.setCell ⟨X, 2, none⟩ (.slice tA tn tc)).setCell ⟨X, 3, none⟩ (.slice tB tm td)).setCell ⟨X, 4, none⟩ (.int .i64 f2)).setCell ⟨X, 5, none⟩ (.bool o2)) = uf at *
          clear x2 x3 x4 x5 x6 x7 x8 x9 x10 x11 xf2 xf3 xf4 xf5 xf6 xf7 xf8 xf9 xf10 xf11
          go_wp2
          go_ret
          exact ⟨rfl, Kp.did9 HF.out ⟨fun e => (by cases e), fun e => absurd rfl e⟩ WT1.out⟩
      · rw [if_pos (by simp [Region.wanted])]
        go_simp
        have al := heap_alloc_new wd (.cells #[.slice none 0 0, .slice none 0 0, .int .i64 0, .bool false] 32)
        have R11 := R0.alloc (.cells #[.slice none 0 0, .slice none 0 0, .int .i64 0, .bool false] 32)
        obtain ⟨Q9, hQ⟩ : ∃ Q, Q = wd.heap.size := ⟨_, rfl⟩
        have hQA9 : wd.heap.size ≤ Q9 := by rw [hQ]; exact R0.bel.size
        rw [← hQ] at al R11  ⊢
        clear hQ
        have p911 := al
        clear al
        generalize wd.alloc (.cells #[.slice none 0 0, .slice none 0 0, .int .i64 0, .bool false] 32) = v11 at *
        have G7 := HGD.out.low' R11.bel
        refine hK.out _ _ ⟨G7.lit HKP.out HKS.out, G7.act⟩ (fun hHeld => ?_)
        clear hK K
        clear G7
        refine wpAnyH_ready (rs := [10, 15]) (by kernel_rfl) (by simp) ?_
        refine (AllReadyH.cons (o := ⟨some 43, _, _, _, _, _⟩) rfl (fun K hK => ?_) (AllReadyH.cons (o := ⟨some 8, _, _, _, _, _⟩) rfl (fun K hK => ?_) AllReadyH.nil))
        · go_simp
          refine (RP.out _ _ R11.ref R11.lt).mono ?_
          rintro e v12 ⟨vn, rfl, href, k1⟩
          obtain ⟨tA, tn, tc, tB, tm, td, f2, o2, rfl⟩ := href.quad
          have R12 := R11.call href k1
          have G7 := HGD.out.low' R12.bel
          have p912 := (k1.block Q9 (Sm.lt_of p911)).trans p911
          clear href k1
          refine hK.out _ _ ⟨G7.lit HKP.out HKS.out, G7.act⟩ (fun hHeld => ?_)
          clear hK K
          clear G7
          refine wpAnyH_take (i := 11) (oi := ⟨some 32, _, _, _, _, _⟩) (v := .tuple #[.agg kl.toArray, .agg #[.slice tA tn tc, .slice tB tm td, .int .i64 f2, .bool o2], .int .i64 er]) rfl (by kernel_rfl) (by kernel_rfl) (by kernel_rfl) (fun _ _ _ h => h) (Or.inl ⟨by rfl, ?_⟩) (by assumption) ?_
          · intro w hSw; (try dsimp only at hSw); go_simp
          simp only [Act.put, List.setIfInBounds_toArray, List.set_cons_zero, List.set_cons_succ]
          refine wpAnyH_take (i := 12) (oi := ⟨some 44, _, _, _, _, _⟩) (v := .agg kl.toArray) rfl (by kernel_rfl) (by kernel_rfl) (by kernel_rfl) (fun _ _ _ h => h) (Or.inl ⟨by rfl, ?_⟩) (by assumption) ?_
          · intro w hSw; (try dsimp only at hSw); go_simp
          simp only [Act.put, List.setIfInBounds_toArray, List.set_cons_zero, List.set_cons_succ]
          refine wpAnyH_take (i := 13) (oi := ⟨some 45, _, _, _, _, _⟩) (v := .agg #[.slice tA tn tc, .slice tB tm td, .int .i64 f2, .bool o2]) rfl (by kernel_rfl) (by kernel_rfl) (by kernel_rfl) (fun _ _ _ h => h) (Or.inl ⟨by rfl, ?_⟩) (by assumption) ?_
          · intro w hSw; (try dsimp only at hSw); go_simp
          simp only [Act.put, List.setIfInBounds_toArray, List.set_cons_zero, List.set_cons_succ]
          refine wpAnyH_take (i := 14) (oi := ⟨some 46, _, _, _, _, _⟩) (v := .int .i64 er) rfl (by kernel_rfl) (by kernel_rfl) (by kernel_rfl) (fun _ _ _ h => h) (Or.inl ⟨by rfl, ?_⟩) (by assumption) ?_
          · intro w hSw; (try dsimp only at hSw); go_simp
          simp only [Act.put, List.setIfInBounds_toArray, List.set_cons_zero, List.set_cons_succ]
          refine wpAnyH_ready (rs := [15]) (by kernel_rfl) (by simp) ?_
          refine (AllReadyH.cons (o := ⟨some 8, _, _, _, _, _⟩) rfl (fun K hK => ?_) AllReadyH.nil)
          rw [if_pos (by simp [Region.wanted])]
          go_simp
          have al := heap_alloc_new v12 (.cells #[.int .i64 0, .string ⟨#[]⟩, .int .u64 0, .int .i64 0, .int .u64 0, .bool false] 39)
          have R13 := R12.alloc (.cells #[.int .i64 0, .string ⟨#[]⟩, .int .u64 0, .int .i64 0, .int .u64 0, .bool false] 39)
          have p913 : (v12.alloc (.cells #[.int .i64 0, .string ⟨#[]⟩, .int .u64 0, .int .i64 0, .int .u64 0, .bool false] 39)).heap[Q9]? = _ := (Below.heap_alloc _ _ _ (Sm.lt_of p912)).trans p912
          have nq13 : v12.heap.size ≠ Q9 := by have := Sm.lt_of p912; omega
          obtain ⟨Q8, hQ⟩ : ∃ Q, Q = v12.heap.size := ⟨_, rfl⟩
          have hQA8 : wd.heap.size ≤ Q8 := by rw [hQ]; exact R12.bel.size
          rw [← hQ] at al R13 nq13 ⊢
          clear hQ
          have p813 := al
          clear al
          generalize v12.alloc (.cells #[.int .i64 0, .string ⟨#[]⟩, .int .u64 0, .int .i64 0, .int .u64 0, .bool false] 39) = v13 at *
          have G7 := HGD.out.low' R13.bel
          refine hK.out _ _ ⟨G7.lit HKP.out HKS.out, G7.act⟩ (fun hHeld => ?_)
          clear hK K
          clear G7
          have n89 : Q8 ≠ Q9 := nq13
          refine wpAnyH_ready (rs := [17]) (by kernel_rfl) (by simp) ?_
          refine (AllReadyH.cons (o := ⟨none, _, _, _, _, _⟩) rfl (fun K hK => ?_) AllReadyH.nil)
          have z0 := Sm.cells_of p813 0 _ rfl; have z1 := Sm.cells_of p813 1 _ rfl; have z2 := Sm.cells_of p813 2 _ rfl; have z3 := Sm.cells_of p813 3 _ rfl; have z4 := Sm.cells_of p813 4 _ rfl; have z5 := Sm.cells_of p813 5 _ rfl
          have zf0 := Sm.free_of p813 0; have zf1 := Sm.free_of p813 1; have zf2 := Sm.free_of p813 2; have zf3 := Sm.free_of p813 3; have zf4 := Sm.free_of p813 4; have zf5 := Sm.free_of p813 5
          rw [HKA.out]
          go_simp
          have RA := R13.set (Kp.turned6 v13 Q8 (.int .i64 fr1) (.string ts1) (.int .u64 (g1 : Int)) (.int .i64 sl1) (.int .u64 (se1 : Int)) (.bool br1)) hQA8 (by simp)
          have pa8 := Kp.set6 p813 rfl (.int .i64 fr1) (.string ts1) (.int .u64 (g1 : Int)) (.int .i64 sl1) (.int .u64 (se1 : Int)) (.bool br1)
          have pa9 := (Kp.set6_other v13 Q8 (.int .i64 fr1) (.string ts1) (.int .u64 (g1 : Int)) (.int .i64 sl1) (.int .u64 (se1 : Int)) (.bool br1) Q9 n89.symm).trans p913
          clear z0 z1 z2 z3 z4 z5 zf0 zf1 zf2 zf3 zf4 zf5
          generalize ((((((v13.setCell ⟨Q8, 0, none⟩ (.int .i64 fr1)).setCell ⟨Q8, 1, none⟩ (.string ts1)).setCell ⟨Q8, 2, none⟩ (.int .u64 (g1 : Int))).setCell ⟨Q8, 3, none⟩ (.int .i64 sl1)).setCell ⟨Q8, 4, none⟩ (.int .u64 (se1 : Int))).setCell ⟨Q8, 5, none⟩ (.bool br1)) = ua at *
          have G7 := HGD.out.low' RA.bel
          refine hK.out _ _ ⟨G7.lit HKP.out HKS.out, G7.act⟩ (fun hHeld => ?_)
          clear hK K
          clear G7
          refine wpAnyH_ready (rs := [18]) (by kernel_rfl) (by simp) ?_
          refine (AllReadyH.cons (o := ⟨none, _, _, _, _, _⟩) rfl (fun K hK => ?_) AllReadyH.nil)
          have z0 := Sm.cells_of pa9 0 _ rfl; have z1 := Sm.cells_of pa9 1 _ rfl; have z2 := Sm.cells_of pa9 2 _ rfl; have z3 := Sm.cells_of pa9 3 _ rfl
          have zf0 := Sm.free_of pa9 0; have zf1 := Sm.free_of pa9 1; have zf2 := Sm.free_of pa9 2; have zf3 := Sm.free_of pa9 3
          go_simp
          have RB := RA.set (Kp.turned4 ua Q9 (.slice tA tn tc) (.slice tB tm td) (.int .i64 f2) (.bool o2)) hQA9 (by simp)
          have pb9 := Dk.set4 pa9 rfl (.slice tA tn tc) (.slice tB tm td) (.int .i64 f2) (.bool o2)
          have pb8 := (Dk.set4_other ua Q9 (.slice tA tn tc) (.slice tB tm td) (.int .i64 f2) (.bool o2) Q8 n89).trans pa8
          clear z0 z1 z2 z3 zf0 zf1 zf2 zf3
          generalize ((((ua.setCell ⟨Q9, 0, none⟩ (.slice tA tn tc)).setCell ⟨Q9, 1, none⟩ (.slice tB tm td)).setCell ⟨Q9, 2, none⟩ (.int .i64 f2)).setCell ⟨Q9, 3, none⟩ (.bool o2)) = ub at *
          have G7 := HGD.out.low' RB.bel
          refine hK.out _ _ ⟨G7.lit HKP.out HKS.out, G7.act⟩ (fun hHeld => ?_)
          clear hK K
          clear G7
          refine wpAnyH_take (i := 19) (oi := ⟨some 10, _, _, _, _, _⟩) (v := .int .i64 er) rfl (by kernel_rfl) (by kernel_rfl) (by kernel_rfl) (fun _ _ _ h => h) (Or.inl ⟨by rfl, ?_⟩) (by assumption) ?_
          · intro w hSw; (try dsimp only at hSw); go_simp
          simp only [Act.put, List.setIfInBounds_toArray, List.set_cons_zero, List.set_cons_succ]
          refine wpAnyH_done (by kernel_rfl) ?_ _
          clear hHeld
          have hrb : Dk.RefAt ub (fun q => fp1 q ∨ q = X ∨ (some k : Option Nat) = some q) (.agg #[.slice tA tn tc, .slice tB tm td, .int .i64 f2, .bool o2]) M1 := RB.ref.off fun q _ e => .inl (.inl e)
          have g8 : Q8 ≠ X := by have h1 := Sm.lt_of HGD.out.box; omega
          have g9 : Q9 ≠ X := by have h1 := Sm.lt_of HGD.out.box; omega
          have HGB := Lib.hid (HGD.out.low' RB.bel)
          obtain ⟨vl, hvl⟩ : ∃ q : List Value, q = [.slice tA tn tc, .slice tB tm td, .int .i64 f2, .bool o2] := ⟨_, rfl⟩
          have hva : vl.toArray = #[.slice tA tn tc, .slice tB tm td, .int .i64 f2, .bool o2] := by rw [hvl]
          have hvl4 : vl.length = 4 := by rw [hvl]; rfl
          have HVA := Lib.hid hva
          rw [← HKA.out] at pb8
          rw [← hva] at pb9
          have HRB := Lib.hid hrb
          have HP8 := Lib.hid pb8
          have HP9 := Lib.hid pb9
          clear hvl hva hrb pb8 pb9 pa8 pa9 RA RB
          go_upto_region 7 with (fail)
          have HGC := Lib.hid (HGB.out.low' ((Below.refl _ ub).drew))
          have xlc := HGC.out.lit HKP.out HKS.out
          have HRC : Hid (Dk.RefAt ub.drew (fun q => fp1 q ∨ q = X ∨ (some k : Option Nat) = some q) (.agg #[.slice tA tn tc, .slice tB tm td, .int .i64 f2, .bool o2]) M1) := HRB.out.low ((Below.refl _ ub).drew)
          have x2 := Sm.cells_of xlc 2 _ rfl; have x3 := Sm.cells_of xlc 3 _ rfl; have x4 := Sm.cells_of xlc 4 _ rfl; have x5 := Sm.cells_of xlc 5 _ rfl; have x6 := Sm.cells_of xlc 6 _ rfl; have x7 := Sm.cells_of xlc 7 _ rfl; have x8 := Sm.cells_of xlc 8 _ rfl; have x9 := Sm.cells_of xlc 9 _ rfl; have x10 := Sm.cells_of xlc 10 _ rfl; have x11 := Sm.cells_of xlc 11 _ rfl
          have xf2 := Sm.free_of xlc 2; have xf3 := Sm.free_of xlc 3; have xf4 := Sm.free_of xlc 4; have xf5 := Sm.free_of xlc 5; have xf6 := Sm.free_of xlc 6; have xf7 := Sm.free_of xlc 7; have xf8 := Sm.free_of xlc 8; have xf9 := Sm.free_of xlc 9; have xf10 := Sm.free_of xlc 10; have xf11 := Sm.free_of xlc 11
          refine wp_region_held_drew (S := (fun w' => w'.heap[Q8]? = some (.cells kl.toArray 39 (0, 0)) ∧ w'.heap[Q9]? = some (.cells vl.toArray 32 (0, 0)))) (by kernel_rfl) ⟨HP8.out, HP9.out⟩ (fun hHeld => ?_)
          generalize hud : ub.drew = ud at *
          have hp8 : ud.heap[Q8]? = some (.cells kl.toArray 39 (0, 0)) := by rw [← hud]; exact HP8.out
          have hp9 : ud.heap[Q9]? = some (.cells vl.toArray 32 (0, 0)) := by rw [← hud]; exact HP9.out
          clear hud
          refine wpAnyH_take (i := 0) (oi := ⟨some 47, _, _, _, _, _⟩) (v := .pointer (some ⟨X, 0, none⟩)) rfl (by kernel_rfl) (by kernel_rfl) (by kernel_rfl) (fun _ _ _ h => h) (Or.inl ⟨by rfl, ?_⟩) (by assumption) ?_
          · intro w hSw; (try dsimp only at hSw); go_simp
          simp only [Act.put, List.setIfInBounds_toArray, List.set_cons_zero, List.set_cons_succ]
          refine wpAnyH_take (i := 1) (oi := ⟨some 48, _, _, _, _, _⟩) (v := .pointer (some ⟨X, 0, none⟩)) rfl (by kernel_rfl) (by kernel_rfl) (by kernel_rfl) (fun _ _ _ h => h) (Or.inl ⟨by rfl, ?_⟩) (by assumption) ?_
          · intro w hSw; (try dsimp only at hSw); go_simp
          simp only [Act.put, List.setIfInBounds_toArray, List.set_cons_zero, List.set_cons_succ]
          refine wpAnyH_take (i := 2) (oi := ⟨some 49, _, _, _, _, _⟩) (v := .agg kl.toArray) rfl (by kernel_rfl) (by kernel_rfl) (by kernel_rfl) (fun _ _ _ h => h) (yieldsIf_load_mid (by rfl) _ _ rfl _ _ rfl kl _ (fun w hS => Sm.range_row hS.1) Try.underlying39 rfl (Kp.info_kpt9 hkl6)) (by assumption) ?_
          simp only [Act.put, List.setIfInBounds_toArray, List.set_cons_zero, List.set_cons_succ]
          refine wpAnyH_take (i := 3) (oi := ⟨some 50, _, _, _, _, _⟩) (v := .agg vl.toArray) rfl (by kernel_rfl) (by kernel_rfl) (by kernel_rfl) (fun _ _ _ h => h) (yieldsIf_load_mid (by rfl) _ _ rfl _ _ rfl vl _ (fun w hS => Sm.range_row hS.2) Try.underlying32 rfl (Kp.info_dsk9 hvl4)) (by assumption) ?_
          simp only [Act.put, List.setIfInBounds_toArray, List.set_cons_zero, List.set_cons_succ]
          refine wpAnyH_take (i := 4) (oi := ⟨some 51, _, _, _, _, _⟩) (v := .pointer (some ⟨X, 0, none⟩)) rfl (by kernel_rfl) (by kernel_rfl) (by kernel_rfl) (fun _ _ _ h => h) (Or.inl ⟨by rfl, ?_⟩) (by assumption) ?_
          · intro w hSw; (try dsimp only at hSw); go_simp
          simp only [Act.put, List.setIfInBounds_toArray, List.set_cons_zero, List.set_cons_succ]
          refine wpAnyH_take (i := 5) (oi := ⟨some 52, _, _, _, _, _⟩) (v := .pointer (some ⟨X, 6, none⟩)) rfl (by kernel_rfl) (by kernel_rfl) (by kernel_rfl) (fun _ _ _ h => h) (Or.inl ⟨by rfl, ?_⟩) (by assumption) ?_
          · intro w hSw; (try dsimp only at hSw); go_simp
          simp only [Act.put, List.setIfInBounds_toArray, List.set_cons_zero, List.set_cons_succ]
          refine wpAnyH_ready (rs := [6]) (by kernel_rfl) (by simp) ?_
          refine (AllReadyH.cons (o := ⟨none, _, _, _, _, _⟩) rfl (fun K hK => ?_) AllReadyH.nil)
          rw [HKA.out]
          go_simp
          refine hK.out _ _ ⟨(Kp.six_other _ X _ _ _ _ _ _ Q8 g8).trans hp8, (Kp.six_other _ X _ _ _ _ _ _ Q9 g9).trans hp9⟩ (fun hHeld => ?_)
          clear hK K
          refine wpAnyH_take (i := 7) (oi := ⟨some 53, _, _, _, _, _⟩) (v := .pointer (some ⟨X, 0, none⟩)) rfl (by kernel_rfl) (by kernel_rfl) (by kernel_rfl) (fun _ _ _ h => h) (Or.inl ⟨by rfl, ?_⟩) (by assumption) ?_
          · intro w hSw; (try dsimp only at hSw); go_simp
          simp only [Act.put, List.setIfInBounds_toArray, List.set_cons_zero, List.set_cons_succ]
          refine wpAnyH_take (i := 8) (oi := ⟨some 54, _, _, _, _, _⟩) (v := .pointer (some ⟨X, 2, none⟩)) rfl (by kernel_rfl) (by kernel_rfl) (by kernel_rfl) (fun _ _ _ h => h) (Or.inl ⟨by rfl, ?_⟩) (by assumption) ?_
          · intro w hSw; (try dsimp only at hSw); go_simp
          simp only [Act.put, List.setIfInBounds_toArray, List.set_cons_zero, List.set_cons_succ]
          refine wpAnyH_ready (rs := [9]) (by kernel_rfl) (by simp) ?_
          refine (AllReadyH.cons (o := ⟨none, _, _, _, _, _⟩) rfl (fun K hK => ?_) AllReadyH.nil)
          rw [HVA.out]
          go_simp
          refine hK.out _ _ ⟨(Kp.set4_other' _ X _ _ _ _ Q8 g8).trans ((Kp.six_other _ X _ _ _ _ _ _ Q8 g8).trans hp8), (Kp.set4_other' _ X _ _ _ _ Q9 g9).trans ((Kp.six_other _ X _ _ _ _ _ _ Q9 g9).trans hp9)⟩ (fun hHeld => ?_)
          clear hK K
          refine wpAnyH_done (by kernel_rfl) ?_ _
          clear hHeld
          have b6 := Kp.setX6 xlc (.int .i64 fr1) (.string ts1) (.int .u64 (g1 : Int)) (.int .i64 sl1) (.int .u64 (se1 : Int)) (.bool br1)
          have t6 := Kp.setX6_turned ud X (.int .i64 fr1) (.string ts1) (.int .u64 (g1 : Int)) (.int .i64 sl1) (.int .u64 (se1 : Int)) (.bool br1)
          have GA := HGC.out.touch t6 HKP.out HK1S.out b6 HGC.out.ref
          have hra := HRC.out.turned (f' := (fun q => fp1 q ∨ q = X ∨ (some k : Option Nat) = some q)) (t6.mono fun i e => .inr (.inl e)) fun _ => .inl
          generalize ((((((ud.setCell ⟨X, 6, none⟩ (.int .i64 fr1)).setCell ⟨X, 7, none⟩ (.string ts1)).setCell ⟨X, 8, none⟩ (.int .u64 (g1 : Int))).setCell ⟨X, 9, none⟩ (.int .i64 sl1)).setCell ⟨X, 10, none⟩ (.int .u64 (se1 : Int))).setCell ⟨X, 11, none⟩ (.bool br1)) = ue at *
          have b4 := Kp.setX4 b6 (.slice tA tn tc) (.slice tB tm td) (.int .i64 f2) (.bool o2)
          have t4 := Kp.setX4_turned ue X (.slice tA tn tc) (.slice tB tm td) (.int .i64 f2) (.bool o2)
          have GB := GA.touch t4 HKP.out HK1S.out b4 hra
          have HF := Lib.hid GB.w9
          clear GA GB b4 b6 t4 t6 hra xlc hp8 hp9
          generalize ((((ue.setCell ⟨X, 2, none⟩ (.slice tA tn tc)).setCell ⟨X, 3, none⟩ (.slice tB tm td)).setCell ⟨X, 4, none⟩ (.int .i64 f2)).setCell ⟨X, 5, none⟩ (.bool o2)) = uf at *
          clear x2 x3 x4 x5 x6 x7 x8 x9 x10 x11 xf2 xf3 xf4 xf5 xf6 xf7 xf8 xf9 xf10 xf11
          go_wp2
          go_ret
          exact ⟨rfl, Kp.did9 HF.out ⟨fun e => (by cases e), fun e => absurd rfl e⟩ WT1.out⟩
        · rw [if_pos (by simp [Region.wanted])]
          go_simp
          have al := heap_alloc_new v11 (.cells #[.int .i64 0, .string ⟨#[]⟩, .int .u64 0, .int .i64 0, .int .u64 0, .bool false] 39)
          have R14 := R11.alloc (.cells #[.int .i64 0, .string ⟨#[]⟩, .int .u64 0, .int .i64 0, .int .u64 0, .bool false] 39)
          have p914 : (v11.alloc (.cells #[.int .i64 0, .string ⟨#[]⟩, .int .u64 0, .int .i64 0, .int .u64 0, .bool false] 39)).heap[Q9]? = _ := (Below.heap_alloc _ _ _ (Sm.lt_of p911)).trans p911
          have nq14 : v11.heap.size ≠ Q9 := by have := Sm.lt_of p911; omega
          obtain ⟨Q8, hQ⟩ : ∃ Q, Q = v11.heap.size := ⟨_, rfl⟩
          have hQA8 : wd.heap.size ≤ Q8 := by rw [hQ]; exact R11.bel.size
          rw [← hQ] at al R14 nq14 ⊢
          clear hQ
          have p814 := al
          clear al
          generalize v11.alloc (.cells #[.int .i64 0, .string ⟨#[]⟩, .int .u64 0, .int .i64 0, .int .u64 0, .bool false] 39) = v14 at *
          have G7 := HGD.out.low' R14.bel
          refine hK.out _ _ ⟨G7.lit HKP.out HKS.out, G7.act⟩ (fun hHeld => ?_)
          clear hK K
          clear G7
          refine wpAnyH_ready (rs := [10]) (by kernel_rfl) (by simp) ?_
          refine (AllReadyH.cons (o := ⟨some 43, _, _, _, _, _⟩) rfl (fun K hK => ?_) AllReadyH.nil)
          go_simp
          refine (RP.out _ _ R14.ref R14.lt).mono ?_
          rintro e v15 ⟨vn, rfl, href, k1⟩
          obtain ⟨tA, tn, tc, tB, tm, td, f2, o2, rfl⟩ := href.quad
          have R15 := R14.call href k1
          have G7 := HGD.out.low' R15.bel
          have p815 := (k1.block Q8 (Sm.lt_of p814)).trans p814
          have p915 := (k1.block Q9 (Sm.lt_of p914)).trans p914
          clear href k1
          refine hK.out _ _ ⟨G7.lit HKP.out HKS.out, G7.act⟩ (fun hHeld => ?_)
          clear hK K
          clear G7
          refine wpAnyH_take (i := 11) (oi := ⟨some 32, _, _, _, _, _⟩) (v := .tuple #[.agg kl.toArray, .agg #[.slice tA tn tc, .slice tB tm td, .int .i64 f2, .bool o2], .int .i64 er]) rfl (by kernel_rfl) (by kernel_rfl) (by kernel_rfl) (fun _ _ _ h => h) (Or.inl ⟨by rfl, ?_⟩) (by assumption) ?_
          · intro w hSw; (try dsimp only at hSw); go_simp
          simp only [Act.put, List.setIfInBounds_toArray, List.set_cons_zero, List.set_cons_succ]
          refine wpAnyH_take (i := 12) (oi := ⟨some 44, _, _, _, _, _⟩) (v := .agg kl.toArray) rfl (by kernel_rfl) (by kernel_rfl) (by kernel_rfl) (fun _ _ _ h => h) (Or.inl ⟨by rfl, ?_⟩) (by assumption) ?_
          · intro w hSw; (try dsimp only at hSw); go_simp
          simp only [Act.put, List.setIfInBounds_toArray, List.set_cons_zero, List.set_cons_succ]
          refine wpAnyH_take (i := 13) (oi := ⟨some 45, _, _, _, _, _⟩) (v := .agg #[.slice tA tn tc, .slice tB tm td, .int .i64 f2, .bool o2]) rfl (by kernel_rfl) (by kernel_rfl) (by kernel_rfl) (fun _ _ _ h => h) (Or.inl ⟨by rfl, ?_⟩) (by assumption) ?_
          · intro w hSw; (try dsimp only at hSw); go_simp
          simp only [Act.put, List.setIfInBounds_toArray, List.set_cons_zero, List.set_cons_succ]
          refine wpAnyH_take (i := 14) (oi := ⟨some 46, _, _, _, _, _⟩) (v := .int .i64 er) rfl (by kernel_rfl) (by kernel_rfl) (by kernel_rfl) (fun _ _ _ h => h) (Or.inl ⟨by rfl, ?_⟩) (by assumption) ?_
          · intro w hSw; (try dsimp only at hSw); go_simp
          simp only [Act.put, List.setIfInBounds_toArray, List.set_cons_zero, List.set_cons_succ]
          have n89 : Q8 ≠ Q9 := nq14
          refine wpAnyH_ready (rs := [17]) (by kernel_rfl) (by simp) ?_
          refine (AllReadyH.cons (o := ⟨none, _, _, _, _, _⟩) rfl (fun K hK => ?_) AllReadyH.nil)
          have z0 := Sm.cells_of p815 0 _ rfl; have z1 := Sm.cells_of p815 1 _ rfl; have z2 := Sm.cells_of p815 2 _ rfl; have z3 := Sm.cells_of p815 3 _ rfl; have z4 := Sm.cells_of p815 4 _ rfl; have z5 := Sm.cells_of p815 5 _ rfl
          have zf0 := Sm.free_of p815 0; have zf1 := Sm.free_of p815 1; have zf2 := Sm.free_of p815 2; have zf3 := Sm.free_of p815 3; have zf4 := Sm.free_of p815 4; have zf5 := Sm.free_of p815 5
          rw [HKA.out]
          go_simp
          have RA := R15.set (Kp.turned6 v15 Q8 (.int .i64 fr1) (.string ts1) (.int .u64 (g1 : Int)) (.int .i64 sl1) (.int .u64 (se1 : Int)) (.bool br1)) hQA8 (by simp)
          have pa8 := Kp.set6 p815 rfl (.int .i64 fr1) (.string ts1) (.int .u64 (g1 : Int)) (.int .i64 sl1) (.int .u64 (se1 : Int)) (.bool br1)
          have pa9 := (Kp.set6_other v15 Q8 (.int .i64 fr1) (.string ts1) (.int .u64 (g1 : Int)) (.int .i64 sl1) (.int .u64 (se1 : Int)) (.bool br1) Q9 n89.symm).trans p915
          clear z0 z1 z2 z3 z4 z5 zf0 zf1 zf2 zf3 zf4 zf5
          generalize ((((((v15.setCell ⟨Q8, 0, none⟩ (.int .i64 fr1)).setCell ⟨Q8, 1, none⟩ (.string ts1)).setCell ⟨Q8, 2, none⟩ (.int .u64 (g1 : Int))).setCell ⟨Q8, 3, none⟩ (.int .i64 sl1)).setCell ⟨Q8, 4, none⟩ (.int .u64 (se1 : Int))).setCell ⟨Q8, 5, none⟩ (.bool br1)) = ua at *
          have G7 := HGD.out.low' RA.bel
          refine hK.out _ _ ⟨G7.lit HKP.out HKS.out, G7.act⟩ (fun hHeld => ?_)
          clear hK K
          clear G7
          refine wpAnyH_ready (rs := [18]) (by kernel_rfl) (by simp) ?_
          refine (AllReadyH.cons (o := ⟨none, _, _, _, _, _⟩) rfl (fun K hK => ?_) AllReadyH.nil)
          have z0 := Sm.cells_of pa9 0 _ rfl; have z1 := Sm.cells_of pa9 1 _ rfl; have z2 := Sm.cells_of pa9 2 _ rfl; have z3 := Sm.cells_of pa9 3 _ rfl
          have zf0 := Sm.free_of pa9 0; have zf1 := Sm.free_of pa9 1; have zf2 := Sm.free_of pa9 2; have zf3 := Sm.free_of pa9 3
          go_simp
          have RB := RA.set (Kp.turned4 ua Q9 (.slice tA tn tc) (.slice tB tm td) (.int .i64 f2) (.bool o2)) hQA9 (by simp)
          have pb9 := Dk.set4 pa9 rfl (.slice tA tn tc) (.slice tB tm td) (.int .i64 f2) (.bool o2)
          have pb8 := (Dk.set4_other ua Q9 (.slice tA tn tc) (.slice tB tm td) (.int .i64 f2) (.bool o2) Q8 n89).trans pa8
          clear z0 z1 z2 z3 zf0 zf1 zf2 zf3
          generalize ((((ua.setCell ⟨Q9, 0, none⟩ (.slice tA tn tc)).setCell ⟨Q9, 1, none⟩ (.slice tB tm td)).setCell ⟨Q9, 2, none⟩ (.int .i64 f2)).setCell ⟨Q9, 3, none⟩ (.bool o2)) = ub at *
          have G7 := HGD.out.low' RB.bel
          refine hK.out _ _ ⟨G7.lit HKP.out HKS.out, G7.act⟩ (fun hHeld => ?_)
          clear hK K
          clear G7
          refine wpAnyH_take (i := 19) (oi := ⟨some 10, _, _, _, _, _⟩) (v := .int .i64 er) rfl (by kernel_rfl) (by kernel_rfl) (by kernel_rfl) (fun _ _ _ h => h) (Or.inl ⟨by rfl, ?_⟩) (by assumption) ?_
          · intro w hSw; (try dsimp only at hSw); go_simp
          simp only [Act.put, List.setIfInBounds_toArray, List.set_cons_zero, List.set_cons_succ]
          refine wpAnyH_done (by kernel_rfl) ?_ _
          clear hHeld
          have hrb : Dk.RefAt ub (fun q => fp1 q ∨ q = X ∨ (some k : Option Nat) = some q) (.agg #[.slice tA tn tc, .slice tB tm td, .int .i64 f2, .bool o2]) M1 := RB.ref.off fun q _ e => .inl (.inl e)
          have g8 : Q8 ≠ X := by have h1 := Sm.lt_of HGD.out.box; omega
          have g9 : Q9 ≠ X := by have h1 := Sm.lt_of HGD.out.box; omega
          have HGB := Lib.hid (HGD.out.low' RB.bel)
          obtain ⟨vl, hvl⟩ : ∃ q : List Value, q = [.slice tA tn tc, .slice tB tm td, .int .i64 f2, .bool o2] := ⟨_, rfl⟩
          have hva : vl.toArray = #[.slice tA tn tc, .slice tB tm td, .int .i64 f2, .bool o2] := by rw [hvl]
          have hvl4 : vl.length = 4 := by rw [hvl]; rfl
          have HVA := Lib.hid hva
          rw [← HKA.out] at pb8
          rw [← hva] at pb9
          have HRB := Lib.hid hrb
          have HP8 := Lib.hid pb8
          have HP9 := Lib.hid pb9
          clear hvl hva hrb pb8 pb9 pa8 pa9 RA RB
          go_upto_region 7 with (fail)
          have HGC := Lib.hid (HGB.out.low' ((Below.refl _ ub).drew))
          have xlc := HGC.out.lit HKP.out HKS.out
          have HRC : Hid (Dk.RefAt ub.drew (fun q => fp1 q ∨ q = X ∨ (some k : Option Nat) = some q) (.agg #[.slice tA tn tc, .slice tB tm td, .int .i64 f2, .bool o2]) M1) := HRB.out.low ((Below.refl _ ub).drew)
          have x2 := Sm.cells_of xlc 2 _ rfl; have x3 := Sm.cells_of xlc 3 _ rfl; have x4 := Sm.cells_of xlc 4 _ rfl; have x5 := Sm.cells_of xlc 5 _ rfl; have x6 := Sm.cells_of xlc 6 _ rfl; have x7 := Sm.cells_of xlc 7 _ rfl; have x8 := Sm.cells_of xlc 8 _ rfl; have x9 := Sm.cells_of xlc 9 _ rfl; have x10 := Sm.cells_of xlc 10 _ rfl; have x11 := Sm.cells_of xlc 11 _ rfl
          have xf2 := Sm.free_of xlc 2; have xf3 := Sm.free_of xlc 3; have xf4 := Sm.free_of xlc 4; have xf5 := Sm.free_of xlc 5; have xf6 := Sm.free_of xlc 6; have xf7 := Sm.free_of xlc 7; have xf8 := Sm.free_of xlc 8; have xf9 := Sm.free_of xlc 9; have xf10 := Sm.free_of xlc 10; have xf11 := Sm.free_of xlc 11
          refine wp_region_held_drew (S := (fun w' => w'.heap[Q8]? = some (.cells kl.toArray 39 (0, 0)) ∧ w'.heap[Q9]? = some (.cells vl.toArray 32 (0, 0)))) (by kernel_rfl) ⟨HP8.out, HP9.out⟩ (fun hHeld => ?_)
          generalize hud : ub.drew = ud at *
          have hp8 : ud.heap[Q8]? = some (.cells kl.toArray 39 (0, 0)) := by rw [← hud]; exact HP8.out
          have hp9 : ud.heap[Q9]? = some (.cells vl.toArray 32 (0, 0)) := by rw [← hud]; exact HP9.out
          clear hud
          refine wpAnyH_take (i := 0) (oi := ⟨some 47, _, _, _, _, _⟩) (v := .pointer (some ⟨X, 0, none⟩)) rfl (by kernel_rfl) (by kernel_rfl) (by kernel_rfl) (fun _ _ _ h => h) (Or.inl ⟨by rfl, ?_⟩) (by assumption) ?_
          · intro w hSw; (try dsimp only at hSw); go_simp
          simp only [Act.put, List.setIfInBounds_toArray, List.set_cons_zero, List.set_cons_succ]
          refine wpAnyH_take (i := 1) (oi := ⟨some 48, _, _, _, _, _⟩) (v := .pointer (some ⟨X, 0, none⟩)) rfl (by kernel_rfl) (by kernel_rfl) (by kernel_rfl) (fun _ _ _ h => h) (Or.inl ⟨by rfl, ?_⟩) (by assumption) ?_
          · intro w hSw; (try dsimp only at hSw); go_simp
          simp only [Act.put, List.setIfInBounds_toArray, List.set_cons_zero, List.set_cons_succ]
          refine wpAnyH_take (i := 2) (oi := ⟨some 49, _, _, _, _, _⟩) (v := .agg kl.toArray) rfl (by kernel_rfl) (by kernel_rfl) (by kernel_rfl) (fun _ _ _ h => h) (yieldsIf_load_mid (by rfl) _ _ rfl _ _ rfl kl _ (fun w hS => Sm.range_row hS.1) Try.underlying39 rfl (Kp.info_kpt9 hkl6)) (by assumption) ?_
          simp only [Act.put, List.setIfInBounds_toArray, List.set_cons_zero, List.set_cons_succ]
          refine wpAnyH_take (i := 3) (oi := ⟨some 50, _, _, _, _, _⟩) (v := .agg vl.toArray) rfl (by kernel_rfl) (by kernel_rfl) (by kernel_rfl) (fun _ _ _ h => h) (yieldsIf_load_mid (by rfl) _ _ rfl _ _ rfl vl _ (fun w hS => Sm.range_row hS.2) Try.underlying32 rfl (Kp.info_dsk9 hvl4)) (by assumption) ?_
          simp only [Act.put, List.setIfInBounds_toArray, List.set_cons_zero, List.set_cons_succ]
          refine wpAnyH_take (i := 4) (oi := ⟨some 51, _, _, _, _, _⟩) (v := .pointer (some ⟨X, 0, none⟩)) rfl (by kernel_rfl) (by kernel_rfl) (by kernel_rfl) (fun _ _ _ h => h) (Or.inl ⟨by rfl, ?_⟩) (by assumption) ?_
          · intro w hSw; (try dsimp only at hSw); go_simp
          simp only [Act.put, List.setIfInBounds_toArray, List.set_cons_zero, List.set_cons_succ]
          refine wpAnyH_take (i := 5) (oi := ⟨some 52, _, _, _, _, _⟩) (v := .pointer (some ⟨X, 6, none⟩)) rfl (by kernel_rfl) (by kernel_rfl) (by kernel_rfl) (fun _ _ _ h => h) (Or.inl ⟨by rfl, ?_⟩) (by assumption) ?_
          · intro w hSw; (try dsimp only at hSw); go_simp
          simp only [Act.put, List.setIfInBounds_toArray, List.set_cons_zero, List.set_cons_succ]
          refine wpAnyH_ready (rs := [6]) (by kernel_rfl) (by simp) ?_
          refine (AllReadyH.cons (o := ⟨none, _, _, _, _, _⟩) rfl (fun K hK => ?_) AllReadyH.nil)
          rw [HKA.out]
          go_simp
          refine hK.out _ _ ⟨(Kp.six_other _ X _ _ _ _ _ _ Q8 g8).trans hp8, (Kp.six_other _ X _ _ _ _ _ _ Q9 g9).trans hp9⟩ (fun hHeld => ?_)
          clear hK K
          refine wpAnyH_take (i := 7) (oi := ⟨some 53, _, _, _, _, _⟩) (v := .pointer (some ⟨X, 0, none⟩)) rfl (by kernel_rfl) (by kernel_rfl) (by kernel_rfl) (fun _ _ _ h => h) (Or.inl ⟨by rfl, ?_⟩) (by assumption) ?_
          · intro w hSw; (try dsimp only at hSw); go_simp
          simp only [Act.put, List.setIfInBounds_toArray, List.set_cons_zero, List.set_cons_succ]
          refine wpAnyH_take (i := 8) (oi := ⟨some 54, _, _, _, _, _⟩) (v := .pointer (some ⟨X, 2, none⟩)) rfl (by kernel_rfl) (by kernel_rfl) (by kernel_rfl) (fun _ _ _ h => h) (Or.inl ⟨by rfl, ?_⟩) (by assumption) ?_
          · intro w hSw; (try dsimp only at hSw); go_simp
          simp only [Act.put, List.setIfInBounds_toArray, List.set_cons_zero, List.set_cons_succ]
          refine wpAnyH_ready (rs := [9]) (by kernel_rfl) (by simp) ?_
          refine (AllReadyH.cons (o := ⟨none, _, _, _, _, _⟩) rfl (fun K hK => ?_) AllReadyH.nil)
          rw [HVA.out]
          go_simp
          refine hK.out _ _ ⟨(Kp.set4_other' _ X _ _ _ _ Q8 g8).trans ((Kp.six_other _ X _ _ _ _ _ _ Q8 g8).trans hp8), (Kp.set4_other' _ X _ _ _ _ Q9 g9).trans ((Kp.six_other _ X _ _ _ _ _ _ Q9 g9).trans hp9)⟩ (fun hHeld => ?_)
          clear hK K
          refine wpAnyH_done (by kernel_rfl) ?_ _
          clear hHeld
          have b6 := Kp.setX6 xlc (.int .i64 fr1) (.string ts1) (.int .u64 (g1 : Int)) (.int .i64 sl1) (.int .u64 (se1 : Int)) (.bool br1)
          have t6 := Kp.setX6_turned ud X (.int .i64 fr1) (.string ts1) (.int .u64 (g1 : Int)) (.int .i64 sl1) (.int .u64 (se1 : Int)) (.bool br1)
          have GA := HGC.out.touch t6 HKP.out HK1S.out b6 HGC.out.ref
          have hra := HRC.out.turned (f' := (fun q => fp1 q ∨ q = X ∨ (some k : Option Nat) = some q)) (t6.mono fun i e => .inr (.inl e)) fun _ => .inl
          generalize ((((((ud.setCell ⟨X, 6, none⟩ (.int .i64 fr1)).setCell ⟨X, 7, none⟩ (.string ts1)).setCell ⟨X, 8, none⟩ (.int .u64 (g1 : Int))).setCell ⟨X, 9, none⟩ (.int .i64 sl1)).setCell ⟨X, 10, none⟩ (.int .u64 (se1 : Int))).setCell ⟨X, 11, none⟩ (.bool br1)) = ue at *
          have b4 := Kp.setX4 b6 (.slice tA tn tc) (.slice tB tm td) (.int .i64 f2) (.bool o2)
          have t4 := Kp.setX4_turned ue X (.slice tA tn tc) (.slice tB tm td) (.int .i64 f2) (.bool o2)
          have GB := GA.touch t4 HKP.out HK1S.out b4 hra
          have HF := Lib.hid GB.w9
          clear GA GB b4 b6 t4 t6 hra xlc hp8 hp9
          generalize ((((ue.setCell ⟨X, 2, none⟩ (.slice tA tn tc)).setCell ⟨X, 3, none⟩ (.slice tB tm td)).setCell ⟨X, 4, none⟩ (.int .i64 f2)).setCell ⟨X, 5, none⟩ (.bool o2)) = uf at *
          clear x2 x3 x4 x5 x6 x7 x8 x9 x10 x11 xf2 xf3 xf4 xf5 xf6 xf7 xf8 xf9 xf10 xf11
          go_wp2
          go_ret
          exact ⟨rfl, Kp.did9 HF.out ⟨fun e => (by cases e), fun e => absurd rfl e⟩ WT1.out⟩
  · by_cases e1 : x.d = 1
    · rw [e1] at d0
      clear e0 e1
      go_upto_region 10 with (fail)
      have GD := GG.out.low' ((Below.refl _ w1).drew)
      have xl := GD.lit HKP.out HKS.out
      have x0 : w1.drew.cell? ⟨X, 0, none⟩ = some (.pointer (some ⟨r, 0, none⟩)) := Sm.cells_of xl 0 _ rfl
      have a2 := (AC.out _ GD.act).2.2.1
      go_still_tail 6, (by kernel_rfl)
      repeat still_step
      try refine wpStill_nil ?_
      change wpList _ _ _ _ _ w1.drew
      go_wp2_with fail
      refine (Dk.fuse_in GD.disk x.n OK.out.n).mono ?_
      rintro e u1 ⟨fp1, rfl, st⟩
      have G2 := GD.disked st rfl
      clear x0 a2 xl st
      have xl := G2.lit HKP.out HKS.out
      have a2 := (AC.out _ G2.act).2.2.1
      have x4 := Sm.cells_of xl 4 _ rfl
      have xf4 := Sm.free_of xl 4
      have XL := Lib.hid xl
      have H2 := Lib.hid G2
      clear xl G2 GD
      go_upto_region 12 with (fail)
      have b4 := Kp.setX1 XL.out (.int .i64 (max x.n (-1)))
      have t4 := Kp.setX1_turned u1 X (.int .i64 (max x.n (-1)))
      have G3 := H2.out.touch t4 HKP.out HKS.out b4 (Kp.fuse9 H2.out.ref x.n)
      have H3 := Lib.hid G3.w9
      clear b4 t4 G3 x4 xf4 a2
      generalize u1.setCell ⟨X, 4, none⟩ (.int .i64 (max x.n (-1))) = u2 at *
      go_wp2_with fail
      go_ret
      exact ⟨rfl, Kp.did9 H3.out HIF.out (Nat.le_add_right (Dk.waits M) 9)⟩
    · by_cases e2 : x.d = 2
      · rw [e2] at d0
        clear e0 e1 e2
        go_upto_region 14 with (fail)
        have GD := GG.out.low' ((Below.refl _ w1).drew)
        have xl := GD.lit HKP.out HKS.out
        have x0 : w1.drew.cell? ⟨X, 0, none⟩ = some (.pointer (some ⟨r, 0, none⟩)) := Sm.cells_of xl 0 _ rfl
        obtain ⟨kA, kc, hkv, _⟩ := id OK.out.keep
        have HIO : Hid (∀ wx fpx Mx, Dk.Own B w0 wx r fpx Mx → Dk.IntsAt wx (.slice kA x.keep.length kc) x.keep ∧ Dk.Off fpx (.slice kA x.keep.length kc) x.keep) := fun wx fpx Mx ho => by
          have := ho.off OK.out.keep HBB.out
          rw [hkv] at this
          exact this
        have a5 := (AC.out _ GD.act).2.2.2.2.2
        rw [hkv] at a5
        have HKV := Lib.hid hkv
        clear hkv
        go_still_tail 6, (by kernel_rfl)
        repeat still_step
        try refine wpStill_nil ?_
        change wpList _ _ _ _ _ w1.drew
        go_wp2_with fail
        refine (Dk.crash_in GD.disk (by have := HQ.out; omega) (HIO.out _ _ _ GD.disk).1 (HIO.out _ _ _ GD.disk).2).mono ?_
        rintro e u1 ⟨fp1, rfl, st⟩
        have G2 := GD.disked st (Dk.len_crash _ _)
        have HMO := Lib.hid GD.disk.disk.ok
        clear x0 a5 xl st
        go_upto_region 15 with (fail)
        have G3 := G2.low' ((Below.refl _ u1).drew)
        have xl := G3.lit HKP.out HKS.out
        have x2 := Sm.cells_of xl 2 _ rfl; have x3 := Sm.cells_of xl 3 _ rfl; have x4 := Sm.cells_of xl 4 _ rfl; have x5 := Sm.cells_of xl 5 _ rfl
        have a5 := (AC.out _ G3.act).2.2.2.2.2
        rw [HKV.out] at a5
        have H3 := Lib.hid G3
        clear xl G2 GD G3
        refine wp_region_held_drew (S := (fun w' => w'.heap[N]? = some (.cells cs.toArray 47 (0, 0)))) (by kernel_rfl) H3.out.act (fun hHeld => ?_)
        generalize u1.drew = ud at *
        refine wpAnyH_take (i := 0) (oi := ⟨some 83, _, _, _, _, _⟩) (v := .pointer (some ⟨X, 0, none⟩)) rfl (by kernel_rfl) (by kernel_rfl) (by kernel_rfl) (fun _ _ _ h => h) (Or.inl ⟨by rfl, ?_⟩) (by assumption) ?_
        · intro w hSw; (try dsimp only at hSw); go_simp
        simp only [Act.put, List.setIfInBounds_toArray, List.set_cons_zero, List.set_cons_succ]
        refine wpAnyH_take (i := 1) (oi := ⟨some 84, _, _, _, _, _⟩) (v := .pointer (some ⟨X, 0, none⟩)) rfl (by kernel_rfl) (by kernel_rfl) (by kernel_rfl) (fun _ _ _ h => h) (Or.inl ⟨by rfl, ?_⟩) (by assumption) ?_
        · intro w hSw; (try dsimp only at hSw); go_simp
        simp only [Act.put, List.setIfInBounds_toArray, List.set_cons_zero, List.set_cons_succ]
        refine wpAnyH_take (i := 2) (oi := ⟨some 85, _, _, _, _, _⟩) (v := .pointer (some ⟨X, 0, none⟩)) rfl (by kernel_rfl) (by kernel_rfl) (by kernel_rfl) (fun _ _ _ h => h) (Or.inl ⟨by rfl, ?_⟩) (by assumption) ?_
        · intro w hSw; (try dsimp only at hSw); go_simp
        simp only [Act.put, List.setIfInBounds_toArray, List.set_cons_zero, List.set_cons_succ]
        refine wpAnyH_take (i := 3) (oi := ⟨some 86, _, _, _, _, _⟩) (v := .pointer (some ⟨X, 2, none⟩)) rfl (by kernel_rfl) (by kernel_rfl) (by kernel_rfl) (fun _ _ _ h => h) (Or.inl ⟨by rfl, ?_⟩) (by assumption) ?_
        · intro w hSw; (try dsimp only at hSw); go_simp
        simp only [Act.put, List.setIfInBounds_toArray, List.set_cons_zero, List.set_cons_succ]
        refine wpAnyH_take (i := 5) (oi := ⟨some 88, _, _, _, _, _⟩) (v := .pointer (some ⟨N, 5, none⟩)) rfl (by kernel_rfl) (by kernel_rfl) (by kernel_rfl) (fun _ _ _ h => h) (Or.inl ⟨by rfl, ?_⟩) (by assumption) ?_
        · intro w hSw; (try dsimp only at hSw); go_simp
        simp only [Act.put, List.setIfInBounds_toArray, List.set_cons_zero, List.set_cons_succ]
        refine wpAnyH_take (i := 6) (oi := ⟨some 89, _, _, _, _, _⟩) (v := .slice kA x.keep.length kc) rfl (by kernel_rfl) (by kernel_rfl) (by kernel_rfl) (fun _ _ _ h => h) (Or.inl ⟨by rfl, ?_⟩) (by assumption) ?_
        · intro w hSw; (try dsimp only at hSw); have hh := (AC.out _ hSw).2.2.2.2.2; rw [HKV.out] at hh; go_simp
        simp only [Act.put, List.setIfInBounds_toArray, List.set_cons_zero, List.set_cons_succ]
        refine wpAnyH_ready (rs := [4]) (by kernel_rfl) (by simp) ?_
        refine (AllReadyH.cons (o := ⟨some 87, _, _, _, _, _⟩) rfl (fun K hK => ?_) AllReadyH.nil)
        go_simp
        refine hK.out _ _ H3.out.act (fun hHeld => ?_)
        clear hK K
        refine wpAnyH_ready (rs := [7]) (by kernel_rfl) (by simp) ?_
        refine (AllReadyH.cons (o := ⟨some 90, _, _, _, _, _⟩) rfl (fun K hK => ?_) AllReadyH.nil)
        go_simp
        refine (r7Crash_any ud _ _ M HMO.out H3.out.ref H3.out.lt (by have := HQ.out; omega) (HIO.out _ _ _ H3.out.disk).1).mono ?_
        rintro e u2 ⟨vn, rfl, href, k2⟩
        obtain ⟨tA, tn, tc, tB, tm, td, f2, o2, rfl⟩ := href.quad
        have G4 := H3.out.low' k2
        refine hK.out _ _ G4.act (fun hHeld => ?_)
        clear hK K
        refine wpAnyH_take (i := 8) (oi := ⟨some 91, _, _, _, _, _⟩) (v := .pointer (some ⟨X, 0, none⟩)) rfl (by kernel_rfl) (by kernel_rfl) (by kernel_rfl) (fun _ _ _ h => h) (Or.inl ⟨by rfl, ?_⟩) (by assumption) ?_
        · intro w hSw; (try dsimp only at hSw); go_simp
        simp only [Act.put, List.setIfInBounds_toArray, List.set_cons_zero, List.set_cons_succ]
        refine wpAnyH_take (i := 9) (oi := ⟨some 92, _, _, _, _, _⟩) (v := .pointer (some ⟨X, 2, none⟩)) rfl (by kernel_rfl) (by kernel_rfl) (by kernel_rfl) (fun _ _ _ h => h) (Or.inl ⟨by rfl, ?_⟩) (by assumption) ?_
        · intro w hSw; (try dsimp only at hSw); go_simp
        simp only [Act.put, List.setIfInBounds_toArray, List.set_cons_zero, List.set_cons_succ]
        refine wpAnyH_ready (rs := [10]) (by kernel_rfl) (by simp) ?_
        refine (AllReadyH.cons (o := ⟨none, _, _, _, _, _⟩) rfl (fun K hK => ?_) AllReadyH.nil)
        clear x2 x3 x4 x5 a5 k2
        have xl := G4.lit HKP.out HKS.out
        have x2 := Sm.cells_of xl 2 _ rfl; have x3 := Sm.cells_of xl 3 _ rfl; have x4 := Sm.cells_of xl 4 _ rfl; have x5 := Sm.cells_of xl 5 _ rfl
        have xf2 := Sm.free_of xl 2; have xf3 := Sm.free_of xl 3; have xf4 := Sm.free_of xl 4; have xf5 := Sm.free_of xl 5
        have b4 := Kp.setX4 xl (.slice tA tn tc) (.slice tB tm td) (.int .i64 f2) (.bool o2)
        have t4 := Kp.setX4_turned u2 X (.slice tA tn tc) (.slice tB tm td) (.int .i64 f2) (.bool o2)
        have G5 := G4.touch t4 HKP.out HKS.out b4 href
        have H5 := Lib.hid G5
        clear b4 t4 G5 G4 xl href
        go_simp
        clear x2 x3 x4 x5 xf2 xf3 xf4 xf5
        generalize ((((u2.setCell ⟨X, 2, none⟩ (.slice tA tn tc)).setCell ⟨X, 3, none⟩ (.slice tB tm td)).setCell ⟨X, 4, none⟩ (.int .i64 f2)).setCell ⟨X, 5, none⟩ (.bool o2)) = u3 at *
        refine hK.out _ _ H5.out.act (fun hHeld => ?_)
        clear hK K
        refine wpAnyH_done (by kernel_rfl) ?_ _
        clear hHeld
        go_wp2_with fail
        refine (OPN.out _ _ _ _ _ _ _ _ _ _ _ _ _ _ H5.out.w9 (by rw [Dk.waits_crash]; omega)).mono ?_
        rintro e u4 ⟨ko', K', n', rfl, W', iff', _⟩
        go_wp2
        go_ret
        exact ⟨rfl, Kp.did9 W' iff' (by rw [Dk.waits_crash]; omega)⟩
      · by_cases e3 : x.d = 3
        · rw [e3] at d0
          clear e0 e1 e2 e3
          have a2 := (AC.out _ GG.out.act).2.2.1
          by_cases i0 : 0 ≤ x.n
          · by_cases i1 : x.n < 100
            · go_upto_region 21 with (fail)
              generalize wrap64 (a + x.n % 20) = iv
              clear a2 d0
              have GD := GG.out.low' ((Below.refl _ w1).drew)
              obtain ⟨bl, hbl⟩ : ∃ q : List Value, q = [.slice sA sn sc, .slice sB sm sd, .int .i64 f, .bool o] := ⟨_, rfl⟩
              have hba : bl.toArray = #[.slice sA sn sc, .slice sB sm sd, .int .i64 f, .bool o] := by rw [hbl]
              have hbl4 : bl.length = 4 := by rw [hbl]; rfl
              obtain ⟨W1, hW1⟩ : ∃ y, y = Dk.spoil M iv x.m x.x.data.toList := ⟨_, rfl⟩
              obtain ⟨M1, er⟩ := W1
              have ML1 : Hid (M1.lasts.length = M.lasts.length ∧ Dk.waits M1 = Dk.waits M) := ⟨by rw [← Dk.len_spoil M iv x.m x.x.data.toList, ← hW1], by rw [← Dk.waits_spoil M iv x.m x.x.data.toList, ← hW1]⟩
              have HMO := Lib.hid GD.disk.disk.ok
              have WR : Hid (∀ wx F, Dk.RefAt wx F (.agg bl.toArray) M → (∀ q, F q → q < wx.heap.size) → Calls Try.prog 26 #[.agg bl.toArray, .int .i64 iv, .int .i64 x.m, .string x.x] wx fun e w' => ∃ v', e = .returned (.tuple #[v', .int .i64 er]) ∧ Dk.RefAt w' F v' M1 ∧ Below wx.heap.size wx w') := fun wx F h1 h2 => by
                have := r7Spoil_any wx F _ M HMO.out h1 h2 iv x.m x.x
                rw [← hW1] at this
                exact this
              have SP : Hid (∀ wx fpx, Dk.Own B w0 wx r fpx M → Calls Try.prog 27 #[.pointer (some ⟨r, 0, none⟩), .int .i64 iv, .int .i64 x.m, .string x.x] wx fun e w' => ∃ fp', e = .returned (.int .i64 er) ∧ Dk.Step B w0 wx w' r fpx fp' M1) := fun wx fpx hx => by
                have := Dk.spoil_in hx iv x.m x.x OK.out.x
                rw [← hW1] at this
                exact this
              have HBA := Lib.hid hba
              have HBL := Lib.hid hbl
              have R0 : Kp.R6 w1.drew w1.drew (fun q => fp q ∨ q = X ∨ ko = some q) (.agg bl.toArray) M := ⟨Below.refl _ _, by rw [hba]; exact GD.ref, GD.lt⟩
              have xl := GD.lit HKP.out HKS.out
              have HGD := Lib.hid GD
              clear hW1 hba hbl GD
              refine wp_region_held_drew (S := (fun w' => w'.heap[X]? = some (.cells #[.pointer (some ⟨r, 0, none⟩), kp, .slice sA sn sc, .slice sB sm sd, .int .i64 f, .bool o, q0, q1, q2, q3, q4, q5, .int .i64 n] 41 (0, 0)) ∧ w'.heap[N]? = some (.cells cs.toArray 47 (0, 0)))) (by kernel_rfl) ⟨xl, HGD.out.act⟩ (fun hHeld => ?_)
              generalize w1.drew = wd at *
              refine wpAnyH_take (i := 0) (oi := ⟨some 111, _, _, _, _, _⟩) (v := .pointer (some ⟨X, 0, none⟩)) rfl (by kernel_rfl) (by kernel_rfl) (by kernel_rfl) (fun _ _ _ h => h) (Or.inl ⟨by rfl, ?_⟩) (by assumption) ?_
              · intro w hSw; (try dsimp only at hSw); go_simp
              simp only [Act.put, List.setIfInBounds_toArray, List.set_cons_zero, List.set_cons_succ]
              refine wpAnyH_take (i := 1) (oi := ⟨some 112, _, _, _, _, _⟩) (v := .pointer (some ⟨X, 0, none⟩)) rfl (by kernel_rfl) (by kernel_rfl) (by kernel_rfl) (fun _ _ _ h => h) (Or.inl ⟨by rfl, ?_⟩) (by assumption) ?_
              · intro w hSw; (try dsimp only at hSw); go_simp
              simp only [Act.put, List.setIfInBounds_toArray, List.set_cons_zero, List.set_cons_succ]
              refine wpAnyH_take (i := 2) (oi := ⟨some 113, _, _, _, _, _⟩) (v := .pointer (some ⟨X, 2, none⟩)) rfl (by kernel_rfl) (by kernel_rfl) (by kernel_rfl) (fun _ _ _ h => h) (Or.inl ⟨by rfl, ?_⟩) (by assumption) ?_
              · intro w hSw; (try dsimp only at hSw); go_simp
              simp only [Act.put, List.setIfInBounds_toArray, List.set_cons_zero, List.set_cons_succ]
              refine wpAnyH_take (i := 3) (oi := ⟨some 114, _, _, _, _, _⟩) (v := .agg bl.toArray) rfl (by kernel_rfl) (by kernel_rfl) (by kernel_rfl) (fun _ _ _ h => h) (yieldsIf_load_mid (by rfl) _ _ rfl _ _ rfl bl _ (fun w hS => (by rw [HBL.out]; exact Kp.row2 hS.1)) Try.underlying32 rfl (Kp.info_dsk9 hbl4)) (by assumption) ?_
              simp only [Act.put, List.setIfInBounds_toArray, List.set_cons_zero, List.set_cons_succ]
              refine wpAnyH_take (i := 4) (oi := ⟨some 115, _, _, _, _, _⟩) (v := .int .i64 iv) rfl (by kernel_rfl) (by kernel_rfl) (by kernel_rfl) (fun _ _ _ h => h) (Or.inl ⟨by rfl, ?_⟩) (by assumption) ?_
              · intro w hSw; (try dsimp only at hSw); go_simp
              simp only [Act.put, List.setIfInBounds_toArray, List.set_cons_zero, List.set_cons_succ]
              refine wpAnyH_take (i := 5) (oi := ⟨some 116, _, _, _, _, _⟩) (v := .pointer (some ⟨N, 3, none⟩)) rfl (by kernel_rfl) (by kernel_rfl) (by kernel_rfl) (fun _ _ _ h => h) (Or.inl ⟨by rfl, ?_⟩) (by assumption) ?_
              · intro w hSw; (try dsimp only at hSw); go_simp
              simp only [Act.put, List.setIfInBounds_toArray, List.set_cons_zero, List.set_cons_succ]
              refine wpAnyH_take (i := 6) (oi := ⟨some 117, _, _, _, _, _⟩) (v := .int .i64 x.m) rfl (by kernel_rfl) (by kernel_rfl) (by kernel_rfl) (fun _ _ _ h => h) (Or.inl ⟨by rfl, ?_⟩) (by assumption) ?_
              · intro w hSw; (try dsimp only at hSw); have hh := (AC.out _ hSw.2).2.2.2.1; go_simp
              simp only [Act.put, List.setIfInBounds_toArray, List.set_cons_zero, List.set_cons_succ]
              refine wpAnyH_take (i := 7) (oi := ⟨some 118, _, _, _, _, _⟩) (v := .pointer (some ⟨N, 4, none⟩)) rfl (by kernel_rfl) (by kernel_rfl) (by kernel_rfl) (fun _ _ _ h => h) (Or.inl ⟨by rfl, ?_⟩) (by assumption) ?_
              · intro w hSw; (try dsimp only at hSw); go_simp
              simp only [Act.put, List.setIfInBounds_toArray, List.set_cons_zero, List.set_cons_succ]
              refine wpAnyH_take (i := 8) (oi := ⟨some 119, _, _, _, _, _⟩) (v := .string x.x) rfl (by kernel_rfl) (by kernel_rfl) (by kernel_rfl) (fun _ _ _ h => h) (Or.inl ⟨by rfl, ?_⟩) (by assumption) ?_
              · intro w hSw; (try dsimp only at hSw); have hh := (AC.out _ hSw.2).2.2.2.2.1; go_simp
              simp only [Act.put, List.setIfInBounds_toArray, List.set_cons_zero, List.set_cons_succ]
              refine wpAnyH_ready (rs := [9, 13]) (by kernel_rfl) (by simp) ?_
              refine (AllReadyH.cons (o := ⟨some 120, _, _, _, _, _⟩) rfl (fun K hK => ?_) (AllReadyH.cons (o := ⟨some 12, _, _, _, _, _⟩) rfl (fun K hK => ?_) AllReadyH.nil))
              · go_simp
                refine (WR.out _ _ R0.ref R0.lt).mono ?_
                rintro e u1 ⟨vn, rfl, href, k1⟩
                obtain ⟨tA, tn, tc, tB, tm, td, f2, o2, rfl⟩ := href.quad
                have R1 := R0.call href k1
                have G7 := HGD.out.low' R1.bel
                clear href k1
                refine hK.out _ _ ⟨G7.lit HKP.out HKS.out, G7.act⟩ (fun hHeld => ?_)
                clear hK K
                clear G7
                refine wpAnyH_take (i := 10) (oi := ⟨some 110, _, _, _, _, _⟩) (v := .tuple #[.agg #[.slice tA tn tc, .slice tB tm td, .int .i64 f2, .bool o2], .int .i64 er]) rfl (by kernel_rfl) (by kernel_rfl) (by kernel_rfl) (fun _ _ _ h => h) (Or.inl ⟨by rfl, ?_⟩) (by assumption) ?_
                · intro w hSw; (try dsimp only at hSw); go_simp
                simp only [Act.put, List.setIfInBounds_toArray, List.set_cons_zero, List.set_cons_succ]
                refine wpAnyH_take (i := 11) (oi := ⟨some 121, _, _, _, _, _⟩) (v := .agg #[.slice tA tn tc, .slice tB tm td, .int .i64 f2, .bool o2]) rfl (by kernel_rfl) (by kernel_rfl) (by kernel_rfl) (fun _ _ _ h => h) (Or.inl ⟨by rfl, ?_⟩) (by assumption) ?_
                · intro w hSw; (try dsimp only at hSw); go_simp
                simp only [Act.put, List.setIfInBounds_toArray, List.set_cons_zero, List.set_cons_succ]
                refine wpAnyH_take (i := 12) (oi := ⟨some 122, _, _, _, _, _⟩) (v := .int .i64 er) rfl (by kernel_rfl) (by kernel_rfl) (by kernel_rfl) (fun _ _ _ h => h) (Or.inl ⟨by rfl, ?_⟩) (by assumption) ?_
                · intro w hSw; (try dsimp only at hSw); go_simp
                simp only [Act.put, List.setIfInBounds_toArray, List.set_cons_zero, List.set_cons_succ]
                refine wpAnyH_ready (rs := [13]) (by kernel_rfl) (by simp) ?_
                refine (AllReadyH.cons (o := ⟨some 12, _, _, _, _, _⟩) rfl (fun K hK => ?_) AllReadyH.nil)
                rw [if_pos (by simp [Region.wanted])]
                go_simp
                have pQ := heap_alloc_new u1 (.cells #[.slice none 0 0, .slice none 0 0, .int .i64 0, .bool false] 32)
                have R2 := R1.alloc (.cells #[.slice none 0 0, .slice none 0 0, .int .i64 0, .bool false] 32)
                obtain ⟨Q, hQ⟩ : ∃ Q, Q = u1.heap.size := ⟨_, rfl⟩
                have hQA : wd.heap.size ≤ Q := by rw [hQ]; exact R1.bel.size
                rw [← hQ] at pQ R2 ⊢
                clear hQ
                generalize u1.alloc (.cells #[.slice none 0 0, .slice none 0 0, .int .i64 0, .bool false] 32) = ux at *
                have G7 := HGD.out.low' R2.bel
                refine hK.out _ _ ⟨G7.lit HKP.out HKS.out, G7.act⟩ (fun hHeld => ?_)
                clear hK K
                clear G7
                refine wpAnyH_ready (rs := [14]) (by kernel_rfl) (by simp) ?_
                refine (AllReadyH.cons (o := ⟨none, _, _, _, _, _⟩) rfl (fun K hK => ?_) AllReadyH.nil)
                have z0 := Sm.cells_of pQ 0 _ rfl; have z1 := Sm.cells_of pQ 1 _ rfl; have z2 := Sm.cells_of pQ 2 _ rfl; have z3 := Sm.cells_of pQ 3 _ rfl
                have zf0 := Sm.free_of pQ 0; have zf1 := Sm.free_of pQ 1; have zf2 := Sm.free_of pQ 2; have zf3 := Sm.free_of pQ 3
                go_simp
                have R3 := R2.set (Kp.turned4 ux Q (.slice tA tn tc) (.slice tB tm td) (.int .i64 f2) (.bool o2)) hQA (.inr rfl)
                have p3 := Dk.set4 pQ rfl (.slice tA tn tc) (.slice tB tm td) (.int .i64 f2) (.bool o2)
                clear z0 z1 z2 z3 zf0 zf1 zf2 zf3
                generalize ((((ux.setCell ⟨Q, 0, none⟩ (.slice tA tn tc)).setCell ⟨Q, 1, none⟩ (.slice tB tm td)).setCell ⟨Q, 2, none⟩ (.int .i64 f2)).setCell ⟨Q, 3, none⟩ (.bool o2)) = u3 at *
                have G7 := HGD.out.low' R3.bel
                refine hK.out _ _ ⟨G7.lit HKP.out HKS.out, G7.act⟩ (fun hHeld => ?_)
                clear hK K
                clear G7
                refine wpAnyH_take (i := 15) (oi := ⟨some 13, _, _, _, _, _⟩) (v := .int .i64 er) rfl (by kernel_rfl) (by kernel_rfl) (by kernel_rfl) (fun _ _ _ h => h) (Or.inl ⟨by rfl, ?_⟩) (by assumption) ?_
                · intro w hSw; (try dsimp only at hSw); go_simp
                simp only [Act.put, List.setIfInBounds_toArray, List.set_cons_zero, List.set_cons_succ]
                refine wpAnyH_done (by kernel_rfl) ?_ _
                clear hHeld
                have G3 := HGD.out.low' R3.bel
                have hr3 : Dk.RefAt u3 (fun q => fp q ∨ q = X ∨ ko = some q) (.agg #[.slice tA tn tc, .slice tB tm td, .int .i64 f2, .bool o2]) M1 := R3.ref.off fun q _ e => .inl e
                have xl3 := G3.lit HKP.out HKS.out
                have y0 := Sm.cells_of p3 0 _ rfl; have y1 := Sm.cells_of p3 1 _ rfl; have y2 := Sm.cells_of p3 2 _ rfl; have y3 := Sm.cells_of p3 3 _ rfl
                have x2 := Sm.cells_of xl3 2 _ rfl; have x3 := Sm.cells_of xl3 3 _ rfl; have x4 := Sm.cells_of xl3 4 _ rfl; have x5 := Sm.cells_of xl3 5 _ rfl
                have xf2 := Sm.free_of xl3 2; have xf3 := Sm.free_of xl3 3; have xf4 := Sm.free_of xl3 4; have xf5 := Sm.free_of xl3 5
                have b4 := Kp.setX4 xl3 (.slice tA tn tc) (.slice tB tm td) (.int .i64 f2) (.bool o2)
                have t4 := Kp.setX4_turned u3 X (.slice tA tn tc) (.slice tB tm td) (.int .i64 f2) (.bool o2)
                have G4 := G3.touch t4 HKP.out HKS.out b4 hr3
                have H4 := Lib.hid G4
                clear b4 t4 G4 G3 xl3 hr3 R0 R1 R2 R3 p3 pQ
                go_upto_region 23 with (fail)
                clear y0 y1 y2 y3 x2 x3 x4 x5 xf2 xf3 xf4 xf5
                generalize ((((u3.setCell ⟨X, 2, none⟩ (.slice tA tn tc)).setCell ⟨X, 3, none⟩ (.slice tB tm td)).setCell ⟨X, 4, none⟩ (.int .i64 f2)).setCell ⟨X, 5, none⟩ (.bool o2)) = u4 at *
                have G5 := H4.out.low' ((Below.refl _ u4).drew)
                have c5 : u4.drew.cell? ⟨X, 0, none⟩ = some (.pointer (some ⟨r, 0, none⟩)) := Sm.cells_of (G5.lit HKP.out HKS.out) 0 _ rfl
                have H5 := Lib.hid G5
                refine wp_region_held_drew (S := (fun w' => w'.cell? ⟨X, 0, none⟩ = some (.pointer (some ⟨r, 0, none⟩)) ∧ w'.heap[N]? = some (.cells cs.toArray 47 (0, 0)))) (by kernel_rfl) ⟨c5, G5.act⟩ (fun hHeld => ?_)
                clear G5 c5
                generalize u4.drew = ue at *
                refine wpAnyH_take (i := 0) (oi := ⟨some 127, _, _, _, _, _⟩) (v := .pointer (some ⟨X, 0, none⟩)) rfl (by kernel_rfl) (by kernel_rfl) (by kernel_rfl) (fun _ _ _ h => h) (Or.inl ⟨by rfl, ?_⟩) (by assumption) ?_
                · intro w hSw; (try dsimp only at hSw); go_simp
                simp only [Act.put, List.setIfInBounds_toArray, List.set_cons_zero, List.set_cons_succ]
                refine wpAnyH_take (i := 1) (oi := ⟨some 128, _, _, _, _, _⟩) (v := .pointer (some ⟨X, 0, none⟩)) rfl (by kernel_rfl) (by kernel_rfl) (by kernel_rfl) (fun _ _ _ h => h) (Or.inl ⟨by rfl, ?_⟩) (by assumption) ?_
                · intro w hSw; (try dsimp only at hSw); go_simp
                simp only [Act.put, List.setIfInBounds_toArray, List.set_cons_zero, List.set_cons_succ]
                refine wpAnyH_take (i := 2) (oi := ⟨some 129, _, _, _, _, _⟩) (v := .pointer (some ⟨X, 0, none⟩)) rfl (by kernel_rfl) (by kernel_rfl) (by kernel_rfl) (fun _ _ _ h => h) (Or.inl ⟨by rfl, ?_⟩) (by assumption) ?_
                · intro w hSw; (try dsimp only at hSw); go_simp
                simp only [Act.put, List.setIfInBounds_toArray, List.set_cons_zero, List.set_cons_succ]
                refine wpAnyH_take (i := 3) (oi := ⟨some 130, _, _, _, _, _⟩) (v := .pointer (some ⟨r, 0, none⟩)) rfl (by kernel_rfl) (by kernel_rfl) (by kernel_rfl) (fun _ _ _ h => h) (Or.inl ⟨by rfl, ?_⟩) (by assumption) ?_
                · intro w hSw; (try dsimp only at hSw); have hh := hSw.1; go_simp
                simp only [Act.put, List.setIfInBounds_toArray, List.set_cons_zero, List.set_cons_succ]
                refine wpAnyH_take (i := 4) (oi := ⟨some 131, _, _, _, _, _⟩) (v := .int .i64 iv) rfl (by kernel_rfl) (by kernel_rfl) (by kernel_rfl) (fun _ _ _ h => h) (Or.inl ⟨by rfl, ?_⟩) (by assumption) ?_
                · intro w hSw; (try dsimp only at hSw); go_simp
                simp only [Act.put, List.setIfInBounds_toArray, List.set_cons_zero, List.set_cons_succ]
                refine wpAnyH_take (i := 5) (oi := ⟨some 132, _, _, _, _, _⟩) (v := .pointer (some ⟨N, 3, none⟩)) rfl (by kernel_rfl) (by kernel_rfl) (by kernel_rfl) (fun _ _ _ h => h) (Or.inl ⟨by rfl, ?_⟩) (by assumption) ?_
                · intro w hSw; (try dsimp only at hSw); go_simp
                simp only [Act.put, List.setIfInBounds_toArray, List.set_cons_zero, List.set_cons_succ]
                refine wpAnyH_take (i := 6) (oi := ⟨some 133, _, _, _, _, _⟩) (v := .int .i64 x.m) rfl (by kernel_rfl) (by kernel_rfl) (by kernel_rfl) (fun _ _ _ h => h) (Or.inl ⟨by rfl, ?_⟩) (by assumption) ?_
                · intro w hSw; (try dsimp only at hSw); have hh := (AC.out _ hSw.2).2.2.2.1; go_simp
                simp only [Act.put, List.setIfInBounds_toArray, List.set_cons_zero, List.set_cons_succ]
                refine wpAnyH_take (i := 7) (oi := ⟨some 134, _, _, _, _, _⟩) (v := .pointer (some ⟨N, 4, none⟩)) rfl (by kernel_rfl) (by kernel_rfl) (by kernel_rfl) (fun _ _ _ h => h) (Or.inl ⟨by rfl, ?_⟩) (by assumption) ?_
                · intro w hSw; (try dsimp only at hSw); go_simp
                simp only [Act.put, List.setIfInBounds_toArray, List.set_cons_zero, List.set_cons_succ]
                refine wpAnyH_take (i := 8) (oi := ⟨some 135, _, _, _, _, _⟩) (v := .string x.x) rfl (by kernel_rfl) (by kernel_rfl) (by kernel_rfl) (fun _ _ _ h => h) (Or.inl ⟨by rfl, ?_⟩) (by assumption) ?_
                · intro w hSw; (try dsimp only at hSw); have hh := (AC.out _ hSw.2).2.2.2.2.1; go_simp
                simp only [Act.put, List.setIfInBounds_toArray, List.set_cons_zero, List.set_cons_succ]
                refine wpAnyH_take (i := 10) (oi := ⟨some 137, _, _, _, _, _⟩) (v := .int .i64 er) rfl (by kernel_rfl) (by kernel_rfl) (by kernel_rfl) (fun _ _ _ h => h) (Or.inl ⟨by rfl, ?_⟩) (by assumption) ?_
                · intro w hSw; (try dsimp only at hSw); go_simp
                simp only [Act.put, List.setIfInBounds_toArray, List.set_cons_zero, List.set_cons_succ]
                refine wpAnyH_ready (rs := [9]) (by kernel_rfl) (by simp) ?_
                refine (AllReadyH.cons (o := ⟨some 136, _, _, _, _, _⟩) rfl (fun K hK => ?_) AllReadyH.nil)
                go_simp
                refine (SP.out _ _ H5.out.disk).mono ?_
                rintro e v6 ⟨fp6, rfl, st⟩
                have G6 := H5.out.disked st ML1.out.1
                have H6 := Lib.hid G6
                clear st G6
                refine hK.out _ _ ⟨Sm.cells_of (H6.out.lit HKP.out HKS.out) 0 _ rfl, H6.out.act⟩ (fun hHeld => ?_)
                clear hK K
                refine wpAnyH_take (i := 11) (oi := ⟨some 138, _, _, _, _, _⟩) (v := .bool true) rfl (by kernel_rfl) (by kernel_rfl) (by kernel_rfl) (fun _ _ _ h => h) (Or.inl ⟨by rfl, ?_⟩) (by assumption) ?_
                · intro w hSw; (try dsimp only at hSw); go_simp
                simp only [Act.put, List.setIfInBounds_toArray, List.set_cons_zero, List.set_cons_succ]
                refine wpAnyH_take (i := 12) (oi := ⟨some 139, _, _, _, _, _⟩) (v := .bool true) rfl (by kernel_rfl) (by kernel_rfl) (by kernel_rfl) (fun _ _ _ h => h) (Or.inl ⟨by rfl, ?_⟩) (by assumption) ?_
                · intro w hSw; (try dsimp only at hSw); go_simp
                simp only [Act.put, List.setIfInBounds_toArray, List.set_cons_zero, List.set_cons_succ]
                refine wpAnyH_take (i := 13) (oi := ⟨some 140, _, _, _, _, _⟩) (v := .pointer (some ⟨X, 0, none⟩)) rfl (by kernel_rfl) (by kernel_rfl) (by kernel_rfl) (fun _ _ _ h => h) (Or.inl ⟨by rfl, ?_⟩) (by assumption) ?_
                · intro w hSw; (try dsimp only at hSw); go_simp
                simp only [Act.put, List.setIfInBounds_toArray, List.set_cons_zero, List.set_cons_succ]
                refine wpAnyH_take (i := 14) (oi := ⟨some 141, _, _, _, _, _⟩) (v := .int .i64 a) rfl (by kernel_rfl) (by kernel_rfl) (by kernel_rfl) (fun _ _ _ h => h) (Or.inl ⟨by rfl, ?_⟩) (by assumption) ?_
                · intro w hSw; (try dsimp only at hSw); go_simp
                simp only [Act.put, List.setIfInBounds_toArray, List.set_cons_zero, List.set_cons_succ]
                refine wpAnyH_ready (rs := [15]) (by kernel_rfl) (by simp) ?_
                refine (AllReadyH.cons (o := ⟨some 142, _, _, _, _, _⟩) rfl (fun K hK => ?_) AllReadyH.nil)
                rw [if_pos (by rfl)]
                go_simp
                refine (OPN.out _ _ _ _ _ _ _ _ _ _ _ _ _ _ H6.out.w9 (by have := ML1.out.2; omega)).mono ?_
                rintro e v7 ⟨ko', K', n', rfl, W', iff', tu7⟩
                have act7 : v7.heap[N]? = some (.cells cs.toArray 47 (0, 0)) := (tu7.block N (Sm.lt_of H6.out.act) H6.out.nX).trans H6.out.act
                refine hK.out _ _ ⟨W'.ptr, act7⟩ (fun hHeld => ?_)
                clear hK K
                refine wpAnyH_take (i := 16) (oi := ⟨some 143, _, _, _, _, _⟩) (v := .bool true) rfl (by kernel_rfl) (by kernel_rfl) (by kernel_rfl) (fun _ _ _ h => h) (Or.inl ⟨by rfl, ?_⟩) (by assumption) ?_
                · intro w hSw; (try dsimp only at hSw); go_simp
                simp only [Act.put, List.setIfInBounds_toArray, List.set_cons_zero, List.set_cons_succ]
                refine wpAnyH_take (i := 17) (oi := ⟨some 6, _, _, _, _, _⟩) (v := .bool true) rfl (by kernel_rfl) (by kernel_rfl) (by kernel_rfl) (fun _ _ _ h => h) (Or.inl ⟨by rfl, ?_⟩) (by assumption) ?_
                · intro w hSw; (try dsimp only at hSw); go_simp
                simp only [Act.put, List.setIfInBounds_toArray, List.set_cons_zero, List.set_cons_succ]
                refine wpAnyH_done (by kernel_rfl) ?_ _
                clear hHeld
                go_wp2
                go_ret
                exact ⟨rfl, Kp.did9 W' iff' (by have := ML1.out.2; omega)⟩
              · rw [if_pos (by simp [Region.wanted])]
                go_simp
                have pQ1 := heap_alloc_new wd (.cells #[.slice none 0 0, .slice none 0 0, .int .i64 0, .bool false] 32)
                have R1 := R0.alloc (.cells #[.slice none 0 0, .slice none 0 0, .int .i64 0, .bool false] 32)
                obtain ⟨Q, hQ⟩ : ∃ Q, Q = wd.heap.size := ⟨_, rfl⟩
                have hQA : wd.heap.size ≤ Q := by rw [hQ]; exact R0.bel.size
                rw [← hQ] at pQ1 R1 ⊢
                clear hQ
                generalize wd.alloc (.cells #[.slice none 0 0, .slice none 0 0, .int .i64 0, .bool false] 32) = u1 at *
                have G7 := HGD.out.low' R1.bel
                refine hK.out _ _ ⟨G7.lit HKP.out HKS.out, G7.act⟩ (fun hHeld => ?_)
                clear hK K
                clear G7
                refine wpAnyH_ready (rs := [9]) (by kernel_rfl) (by simp) ?_
                refine (AllReadyH.cons (o := ⟨some 120, _, _, _, _, _⟩) rfl (fun K hK => ?_) AllReadyH.nil)
                go_simp
                refine (WR.out _ _ R1.ref R1.lt).mono ?_
                rintro e ux ⟨vn, rfl, href, k1⟩
                obtain ⟨tA, tn, tc, tB, tm, td, f2, o2, rfl⟩ := href.quad
                have R2 := R1.call href k1
                have pQ := (k1.block Q (Sm.lt_of pQ1)).trans pQ1
                have G7 := HGD.out.low' R2.bel
                clear href k1
                refine hK.out _ _ ⟨G7.lit HKP.out HKS.out, G7.act⟩ (fun hHeld => ?_)
                clear hK K
                clear G7
                refine wpAnyH_take (i := 10) (oi := ⟨some 110, _, _, _, _, _⟩) (v := .tuple #[.agg #[.slice tA tn tc, .slice tB tm td, .int .i64 f2, .bool o2], .int .i64 er]) rfl (by kernel_rfl) (by kernel_rfl) (by kernel_rfl) (fun _ _ _ h => h) (Or.inl ⟨by rfl, ?_⟩) (by assumption) ?_
                · intro w hSw; (try dsimp only at hSw); go_simp
                simp only [Act.put, List.setIfInBounds_toArray, List.set_cons_zero, List.set_cons_succ]
                refine wpAnyH_take (i := 11) (oi := ⟨some 121, _, _, _, _, _⟩) (v := .agg #[.slice tA tn tc, .slice tB tm td, .int .i64 f2, .bool o2]) rfl (by kernel_rfl) (by kernel_rfl) (by kernel_rfl) (fun _ _ _ h => h) (Or.inl ⟨by rfl, ?_⟩) (by assumption) ?_
                · intro w hSw; (try dsimp only at hSw); go_simp
                simp only [Act.put, List.setIfInBounds_toArray, List.set_cons_zero, List.set_cons_succ]
                refine wpAnyH_take (i := 12) (oi := ⟨some 122, _, _, _, _, _⟩) (v := .int .i64 er) rfl (by kernel_rfl) (by kernel_rfl) (by kernel_rfl) (fun _ _ _ h => h) (Or.inl ⟨by rfl, ?_⟩) (by assumption) ?_
                · intro w hSw; (try dsimp only at hSw); go_simp
                simp only [Act.put, List.setIfInBounds_toArray, List.set_cons_zero, List.set_cons_succ]
                refine wpAnyH_ready (rs := [14]) (by kernel_rfl) (by simp) ?_
                refine (AllReadyH.cons (o := ⟨none, _, _, _, _, _⟩) rfl (fun K hK => ?_) AllReadyH.nil)
                have z0 := Sm.cells_of pQ 0 _ rfl; have z1 := Sm.cells_of pQ 1 _ rfl; have z2 := Sm.cells_of pQ 2 _ rfl; have z3 := Sm.cells_of pQ 3 _ rfl
                have zf0 := Sm.free_of pQ 0; have zf1 := Sm.free_of pQ 1; have zf2 := Sm.free_of pQ 2; have zf3 := Sm.free_of pQ 3
                go_simp
                have R3 := R2.set (Kp.turned4 ux Q (.slice tA tn tc) (.slice tB tm td) (.int .i64 f2) (.bool o2)) hQA (.inr rfl)
                have p3 := Dk.set4 pQ rfl (.slice tA tn tc) (.slice tB tm td) (.int .i64 f2) (.bool o2)
                clear z0 z1 z2 z3 zf0 zf1 zf2 zf3
                generalize ((((ux.setCell ⟨Q, 0, none⟩ (.slice tA tn tc)).setCell ⟨Q, 1, none⟩ (.slice tB tm td)).setCell ⟨Q, 2, none⟩ (.int .i64 f2)).setCell ⟨Q, 3, none⟩ (.bool o2)) = u3 at *
                have G7 := HGD.out.low' R3.bel
                refine hK.out _ _ ⟨G7.lit HKP.out HKS.out, G7.act⟩ (fun hHeld => ?_)
                clear hK K
                clear G7
                refine wpAnyH_take (i := 15) (oi := ⟨some 13, _, _, _, _, _⟩) (v := .int .i64 er) rfl (by kernel_rfl) (by kernel_rfl) (by kernel_rfl) (fun _ _ _ h => h) (Or.inl ⟨by rfl, ?_⟩) (by assumption) ?_
                · intro w hSw; (try dsimp only at hSw); go_simp
                simp only [Act.put, List.setIfInBounds_toArray, List.set_cons_zero, List.set_cons_succ]
                refine wpAnyH_done (by kernel_rfl) ?_ _
                clear hHeld
                have G3 := HGD.out.low' R3.bel
                have hr3 : Dk.RefAt u3 (fun q => fp q ∨ q = X ∨ ko = some q) (.agg #[.slice tA tn tc, .slice tB tm td, .int .i64 f2, .bool o2]) M1 := R3.ref.off fun q _ e => .inl e
                have xl3 := G3.lit HKP.out HKS.out
                have y0 := Sm.cells_of p3 0 _ rfl; have y1 := Sm.cells_of p3 1 _ rfl; have y2 := Sm.cells_of p3 2 _ rfl; have y3 := Sm.cells_of p3 3 _ rfl
                have x2 := Sm.cells_of xl3 2 _ rfl; have x3 := Sm.cells_of xl3 3 _ rfl; have x4 := Sm.cells_of xl3 4 _ rfl; have x5 := Sm.cells_of xl3 5 _ rfl
                have xf2 := Sm.free_of xl3 2; have xf3 := Sm.free_of xl3 3; have xf4 := Sm.free_of xl3 4; have xf5 := Sm.free_of xl3 5
                have b4 := Kp.setX4 xl3 (.slice tA tn tc) (.slice tB tm td) (.int .i64 f2) (.bool o2)
                have t4 := Kp.setX4_turned u3 X (.slice tA tn tc) (.slice tB tm td) (.int .i64 f2) (.bool o2)
                have G4 := G3.touch t4 HKP.out HKS.out b4 hr3
                have H4 := Lib.hid G4
                clear b4 t4 G4 G3 xl3 hr3 R0 R1 R2 R3 p3 pQ
                go_upto_region 23 with (fail)
                clear y0 y1 y2 y3 x2 x3 x4 x5 xf2 xf3 xf4 xf5
                generalize ((((u3.setCell ⟨X, 2, none⟩ (.slice tA tn tc)).setCell ⟨X, 3, none⟩ (.slice tB tm td)).setCell ⟨X, 4, none⟩ (.int .i64 f2)).setCell ⟨X, 5, none⟩ (.bool o2)) = u4 at *
                have G5 := H4.out.low' ((Below.refl _ u4).drew)
                have c5 : u4.drew.cell? ⟨X, 0, none⟩ = some (.pointer (some ⟨r, 0, none⟩)) := Sm.cells_of (G5.lit HKP.out HKS.out) 0 _ rfl
                have H5 := Lib.hid G5
                refine wp_region_held_drew (S := (fun w' => w'.cell? ⟨X, 0, none⟩ = some (.pointer (some ⟨r, 0, none⟩)) ∧ w'.heap[N]? = some (.cells cs.toArray 47 (0, 0)))) (by kernel_rfl) ⟨c5, G5.act⟩ (fun hHeld => ?_)
                clear G5 c5
                generalize u4.drew = ue at *
                refine wpAnyH_take (i := 0) (oi := ⟨some 127, _, _, _, _, _⟩) (v := .pointer (some ⟨X, 0, none⟩)) rfl (by kernel_rfl) (by kernel_rfl) (by kernel_rfl) (fun _ _ _ h => h) (Or.inl ⟨by rfl, ?_⟩) (by assumption) ?_
                · intro w hSw; (try dsimp only at hSw); go_simp
                simp only [Act.put, List.setIfInBounds_toArray, List.set_cons_zero, List.set_cons_succ]
                refine wpAnyH_take (i := 1) (oi := ⟨some 128, _, _, _, _, _⟩) (v := .pointer (some ⟨X, 0, none⟩)) rfl (by kernel_rfl) (by kernel_rfl) (by kernel_rfl) (fun _ _ _ h => h) (Or.inl ⟨by rfl, ?_⟩) (by assumption) ?_
                · intro w hSw; (try dsimp only at hSw); go_simp
                simp only [Act.put, List.setIfInBounds_toArray, List.set_cons_zero, List.set_cons_succ]
                refine wpAnyH_take (i := 2) (oi := ⟨some 129, _, _, _, _, _⟩) (v := .pointer (some ⟨X, 0, none⟩)) rfl (by kernel_rfl) (by kernel_rfl) (by kernel_rfl) (fun _ _ _ h => h) (Or.inl ⟨by rfl, ?_⟩) (by assumption) ?_
                · intro w hSw; (try dsimp only at hSw); go_simp
                simp only [Act.put, List.setIfInBounds_toArray, List.set_cons_zero, List.set_cons_succ]
                refine wpAnyH_take (i := 3) (oi := ⟨some 130, _, _, _, _, _⟩) (v := .pointer (some ⟨r, 0, none⟩)) rfl (by kernel_rfl) (by kernel_rfl) (by kernel_rfl) (fun _ _ _ h => h) (Or.inl ⟨by rfl, ?_⟩) (by assumption) ?_
                · intro w hSw; (try dsimp only at hSw); have hh := hSw.1; go_simp
                simp only [Act.put, List.setIfInBounds_toArray, List.set_cons_zero, List.set_cons_succ]
                refine wpAnyH_take (i := 4) (oi := ⟨some 131, _, _, _, _, _⟩) (v := .int .i64 iv) rfl (by kernel_rfl) (by kernel_rfl) (by kernel_rfl) (fun _ _ _ h => h) (Or.inl ⟨by rfl, ?_⟩) (by assumption) ?_
                · intro w hSw; (try dsimp only at hSw); go_simp
                simp only [Act.put, List.setIfInBounds_toArray, List.set_cons_zero, List.set_cons_succ]
                refine wpAnyH_take (i := 5) (oi := ⟨some 132, _, _, _, _, _⟩) (v := .pointer (some ⟨N, 3, none⟩)) rfl (by kernel_rfl) (by kernel_rfl) (by kernel_rfl) (fun _ _ _ h => h) (Or.inl ⟨by rfl, ?_⟩) (by assumption) ?_
                · intro w hSw; (try dsimp only at hSw); go_simp
                simp only [Act.put, List.setIfInBounds_toArray, List.set_cons_zero, List.set_cons_succ]
                refine wpAnyH_take (i := 6) (oi := ⟨some 133, _, _, _, _, _⟩) (v := .int .i64 x.m) rfl (by kernel_rfl) (by kernel_rfl) (by kernel_rfl) (fun _ _ _ h => h) (Or.inl ⟨by rfl, ?_⟩) (by assumption) ?_
                · intro w hSw; (try dsimp only at hSw); have hh := (AC.out _ hSw.2).2.2.2.1; go_simp
                simp only [Act.put, List.setIfInBounds_toArray, List.set_cons_zero, List.set_cons_succ]
                refine wpAnyH_take (i := 7) (oi := ⟨some 134, _, _, _, _, _⟩) (v := .pointer (some ⟨N, 4, none⟩)) rfl (by kernel_rfl) (by kernel_rfl) (by kernel_rfl) (fun _ _ _ h => h) (Or.inl ⟨by rfl, ?_⟩) (by assumption) ?_
                · intro w hSw; (try dsimp only at hSw); go_simp
                simp only [Act.put, List.setIfInBounds_toArray, List.set_cons_zero, List.set_cons_succ]
                refine wpAnyH_take (i := 8) (oi := ⟨some 135, _, _, _, _, _⟩) (v := .string x.x) rfl (by kernel_rfl) (by kernel_rfl) (by kernel_rfl) (fun _ _ _ h => h) (Or.inl ⟨by rfl, ?_⟩) (by assumption) ?_
                · intro w hSw; (try dsimp only at hSw); have hh := (AC.out _ hSw.2).2.2.2.2.1; go_simp
                simp only [Act.put, List.setIfInBounds_toArray, List.set_cons_zero, List.set_cons_succ]
                refine wpAnyH_take (i := 10) (oi := ⟨some 137, _, _, _, _, _⟩) (v := .int .i64 er) rfl (by kernel_rfl) (by kernel_rfl) (by kernel_rfl) (fun _ _ _ h => h) (Or.inl ⟨by rfl, ?_⟩) (by assumption) ?_
                · intro w hSw; (try dsimp only at hSw); go_simp
                simp only [Act.put, List.setIfInBounds_toArray, List.set_cons_zero, List.set_cons_succ]
                refine wpAnyH_ready (rs := [9]) (by kernel_rfl) (by simp) ?_
                refine (AllReadyH.cons (o := ⟨some 136, _, _, _, _, _⟩) rfl (fun K hK => ?_) AllReadyH.nil)
                go_simp
                refine (SP.out _ _ H5.out.disk).mono ?_
                rintro e v6 ⟨fp6, rfl, st⟩
                have G6 := H5.out.disked st ML1.out.1
                have H6 := Lib.hid G6
                clear st G6
                refine hK.out _ _ ⟨Sm.cells_of (H6.out.lit HKP.out HKS.out) 0 _ rfl, H6.out.act⟩ (fun hHeld => ?_)
                clear hK K
                refine wpAnyH_take (i := 11) (oi := ⟨some 138, _, _, _, _, _⟩) (v := .bool true) rfl (by kernel_rfl) (by kernel_rfl) (by kernel_rfl) (fun _ _ _ h => h) (Or.inl ⟨by rfl, ?_⟩) (by assumption) ?_
                · intro w hSw; (try dsimp only at hSw); go_simp
                simp only [Act.put, List.setIfInBounds_toArray, List.set_cons_zero, List.set_cons_succ]
                refine wpAnyH_take (i := 12) (oi := ⟨some 139, _, _, _, _, _⟩) (v := .bool true) rfl (by kernel_rfl) (by kernel_rfl) (by kernel_rfl) (fun _ _ _ h => h) (Or.inl ⟨by rfl, ?_⟩) (by assumption) ?_
                · intro w hSw; (try dsimp only at hSw); go_simp
                simp only [Act.put, List.setIfInBounds_toArray, List.set_cons_zero, List.set_cons_succ]
                refine wpAnyH_take (i := 13) (oi := ⟨some 140, _, _, _, _, _⟩) (v := .pointer (some ⟨X, 0, none⟩)) rfl (by kernel_rfl) (by kernel_rfl) (by kernel_rfl) (fun _ _ _ h => h) (Or.inl ⟨by rfl, ?_⟩) (by assumption) ?_
                · intro w hSw; (try dsimp only at hSw); go_simp
                simp only [Act.put, List.setIfInBounds_toArray, List.set_cons_zero, List.set_cons_succ]
                refine wpAnyH_take (i := 14) (oi := ⟨some 141, _, _, _, _, _⟩) (v := .int .i64 a) rfl (by kernel_rfl) (by kernel_rfl) (by kernel_rfl) (fun _ _ _ h => h) (Or.inl ⟨by rfl, ?_⟩) (by assumption) ?_
                · intro w hSw; (try dsimp only at hSw); go_simp
                simp only [Act.put, List.setIfInBounds_toArray, List.set_cons_zero, List.set_cons_succ]
                refine wpAnyH_ready (rs := [15]) (by kernel_rfl) (by simp) ?_
                refine (AllReadyH.cons (o := ⟨some 142, _, _, _, _, _⟩) rfl (fun K hK => ?_) AllReadyH.nil)
                rw [if_pos (by rfl)]
                go_simp
                refine (OPN.out _ _ _ _ _ _ _ _ _ _ _ _ _ _ H6.out.w9 (by have := ML1.out.2; omega)).mono ?_
                rintro e v7 ⟨ko', K', n', rfl, W', iff', tu7⟩
                have act7 : v7.heap[N]? = some (.cells cs.toArray 47 (0, 0)) := (tu7.block N (Sm.lt_of H6.out.act) H6.out.nX).trans H6.out.act
                refine hK.out _ _ ⟨W'.ptr, act7⟩ (fun hHeld => ?_)
                clear hK K
                refine wpAnyH_take (i := 16) (oi := ⟨some 143, _, _, _, _, _⟩) (v := .bool true) rfl (by kernel_rfl) (by kernel_rfl) (by kernel_rfl) (fun _ _ _ h => h) (Or.inl ⟨by rfl, ?_⟩) (by assumption) ?_
                · intro w hSw; (try dsimp only at hSw); go_simp
                simp only [Act.put, List.setIfInBounds_toArray, List.set_cons_zero, List.set_cons_succ]
                refine wpAnyH_take (i := 17) (oi := ⟨some 6, _, _, _, _, _⟩) (v := .bool true) rfl (by kernel_rfl) (by kernel_rfl) (by kernel_rfl) (fun _ _ _ h => h) (Or.inl ⟨by rfl, ?_⟩) (by assumption) ?_
                · intro w hSw; (try dsimp only at hSw); go_simp
                simp only [Act.put, List.setIfInBounds_toArray, List.set_cons_zero, List.set_cons_succ]
                refine wpAnyH_done (by kernel_rfl) ?_ _
                clear hHeld
                go_wp2
                go_ret
                exact ⟨rfl, Kp.did9 W' iff' (by have := ML1.out.2; omega)⟩
            · go_upto_region 21 with (fail)
              clear a2 d0
              have GD := GG.out.low' ((Below.refl _ w1).drew)
              obtain ⟨bl, hbl⟩ : ∃ q : List Value, q = [.slice sA sn sc, .slice sB sm sd, .int .i64 f, .bool o] := ⟨_, rfl⟩
              have hba : bl.toArray = #[.slice sA sn sc, .slice sB sm sd, .int .i64 f, .bool o] := by rw [hbl]
              have hbl4 : bl.length = 4 := by rw [hbl]; rfl
              obtain ⟨W1, hW1⟩ : ∃ y, y = Dk.spoil M x.n x.m x.x.data.toList := ⟨_, rfl⟩
              obtain ⟨M1, er⟩ := W1
              have ML1 : Hid (M1.lasts.length = M.lasts.length ∧ Dk.waits M1 = Dk.waits M) := ⟨by rw [← Dk.len_spoil M x.n x.m x.x.data.toList, ← hW1], by rw [← Dk.waits_spoil M x.n x.m x.x.data.toList, ← hW1]⟩
              have HMO := Lib.hid GD.disk.disk.ok
              have WR : Hid (∀ wx F, Dk.RefAt wx F (.agg bl.toArray) M → (∀ q, F q → q < wx.heap.size) → Calls Try.prog 26 #[.agg bl.toArray, .int .i64 x.n, .int .i64 x.m, .string x.x] wx fun e w' => ∃ v', e = .returned (.tuple #[v', .int .i64 er]) ∧ Dk.RefAt w' F v' M1 ∧ Below wx.heap.size wx w') := fun wx F h1 h2 => by
                have := r7Spoil_any wx F _ M HMO.out h1 h2 x.n x.m x.x
                rw [← hW1] at this
                exact this
              have SP : Hid (∀ wx fpx, Dk.Own B w0 wx r fpx M → Calls Try.prog 27 #[.pointer (some ⟨r, 0, none⟩), .int .i64 x.n, .int .i64 x.m, .string x.x] wx fun e w' => ∃ fp', e = .returned (.int .i64 er) ∧ Dk.Step B w0 wx w' r fpx fp' M1) := fun wx fpx hx => by
                have := Dk.spoil_in hx x.n x.m x.x OK.out.x
                rw [← hW1] at this
                exact this
              have HBA := Lib.hid hba
              have HBL := Lib.hid hbl
              have R0 : Kp.R6 w1.drew w1.drew (fun q => fp q ∨ q = X ∨ ko = some q) (.agg bl.toArray) M := ⟨Below.refl _ _, by rw [hba]; exact GD.ref, GD.lt⟩
              have xl := GD.lit HKP.out HKS.out
              have HGD := Lib.hid GD
              clear hW1 hba hbl GD
              refine wp_region_held_drew (S := (fun w' => w'.heap[X]? = some (.cells #[.pointer (some ⟨r, 0, none⟩), kp, .slice sA sn sc, .slice sB sm sd, .int .i64 f, .bool o, q0, q1, q2, q3, q4, q5, .int .i64 n] 41 (0, 0)) ∧ w'.heap[N]? = some (.cells cs.toArray 47 (0, 0)))) (by kernel_rfl) ⟨xl, HGD.out.act⟩ (fun hHeld => ?_)
              generalize w1.drew = wd at *
              refine wpAnyH_take (i := 0) (oi := ⟨some 111, _, _, _, _, _⟩) (v := .pointer (some ⟨X, 0, none⟩)) rfl (by kernel_rfl) (by kernel_rfl) (by kernel_rfl) (fun _ _ _ h => h) (Or.inl ⟨by rfl, ?_⟩) (by assumption) ?_
              · intro w hSw; (try dsimp only at hSw); go_simp
              simp only [Act.put, List.setIfInBounds_toArray, List.set_cons_zero, List.set_cons_succ]
              refine wpAnyH_take (i := 1) (oi := ⟨some 112, _, _, _, _, _⟩) (v := .pointer (some ⟨X, 0, none⟩)) rfl (by kernel_rfl) (by kernel_rfl) (by kernel_rfl) (fun _ _ _ h => h) (Or.inl ⟨by rfl, ?_⟩) (by assumption) ?_
              · intro w hSw; (try dsimp only at hSw); go_simp
              simp only [Act.put, List.setIfInBounds_toArray, List.set_cons_zero, List.set_cons_succ]
              refine wpAnyH_take (i := 2) (oi := ⟨some 113, _, _, _, _, _⟩) (v := .pointer (some ⟨X, 2, none⟩)) rfl (by kernel_rfl) (by kernel_rfl) (by kernel_rfl) (fun _ _ _ h => h) (Or.inl ⟨by rfl, ?_⟩) (by assumption) ?_
              · intro w hSw; (try dsimp only at hSw); go_simp
              simp only [Act.put, List.setIfInBounds_toArray, List.set_cons_zero, List.set_cons_succ]
              refine wpAnyH_take (i := 3) (oi := ⟨some 114, _, _, _, _, _⟩) (v := .agg bl.toArray) rfl (by kernel_rfl) (by kernel_rfl) (by kernel_rfl) (fun _ _ _ h => h) (yieldsIf_load_mid (by rfl) _ _ rfl _ _ rfl bl _ (fun w hS => (by rw [HBL.out]; exact Kp.row2 hS.1)) Try.underlying32 rfl (Kp.info_dsk9 hbl4)) (by assumption) ?_
              simp only [Act.put, List.setIfInBounds_toArray, List.set_cons_zero, List.set_cons_succ]
              refine wpAnyH_take (i := 4) (oi := ⟨some 115, _, _, _, _, _⟩) (v := .int .i64 x.n) rfl (by kernel_rfl) (by kernel_rfl) (by kernel_rfl) (fun _ _ _ h => h) (Or.inl ⟨by rfl, ?_⟩) (by assumption) ?_
              · intro w hSw; (try dsimp only at hSw); go_simp
              simp only [Act.put, List.setIfInBounds_toArray, List.set_cons_zero, List.set_cons_succ]
              refine wpAnyH_take (i := 5) (oi := ⟨some 116, _, _, _, _, _⟩) (v := .pointer (some ⟨N, 3, none⟩)) rfl (by kernel_rfl) (by kernel_rfl) (by kernel_rfl) (fun _ _ _ h => h) (Or.inl ⟨by rfl, ?_⟩) (by assumption) ?_
              · intro w hSw; (try dsimp only at hSw); go_simp
              simp only [Act.put, List.setIfInBounds_toArray, List.set_cons_zero, List.set_cons_succ]
              refine wpAnyH_take (i := 6) (oi := ⟨some 117, _, _, _, _, _⟩) (v := .int .i64 x.m) rfl (by kernel_rfl) (by kernel_rfl) (by kernel_rfl) (fun _ _ _ h => h) (Or.inl ⟨by rfl, ?_⟩) (by assumption) ?_
              · intro w hSw; (try dsimp only at hSw); have hh := (AC.out _ hSw.2).2.2.2.1; go_simp
              simp only [Act.put, List.setIfInBounds_toArray, List.set_cons_zero, List.set_cons_succ]
              refine wpAnyH_take (i := 7) (oi := ⟨some 118, _, _, _, _, _⟩) (v := .pointer (some ⟨N, 4, none⟩)) rfl (by kernel_rfl) (by kernel_rfl) (by kernel_rfl) (fun _ _ _ h => h) (Or.inl ⟨by rfl, ?_⟩) (by assumption) ?_
              · intro w hSw; (try dsimp only at hSw); go_simp
              simp only [Act.put, List.setIfInBounds_toArray, List.set_cons_zero, List.set_cons_succ]
              refine wpAnyH_take (i := 8) (oi := ⟨some 119, _, _, _, _, _⟩) (v := .string x.x) rfl (by kernel_rfl) (by kernel_rfl) (by kernel_rfl) (fun _ _ _ h => h) (Or.inl ⟨by rfl, ?_⟩) (by assumption) ?_
              · intro w hSw; (try dsimp only at hSw); have hh := (AC.out _ hSw.2).2.2.2.2.1; go_simp
              simp only [Act.put, List.setIfInBounds_toArray, List.set_cons_zero, List.set_cons_succ]
              refine wpAnyH_ready (rs := [9, 13]) (by kernel_rfl) (by simp) ?_
              refine (AllReadyH.cons (o := ⟨some 120, _, _, _, _, _⟩) rfl (fun K hK => ?_) (AllReadyH.cons (o := ⟨some 12, _, _, _, _, _⟩) rfl (fun K hK => ?_) AllReadyH.nil))
              · go_simp
                refine (WR.out _ _ R0.ref R0.lt).mono ?_
                rintro e u1 ⟨vn, rfl, href, k1⟩
                obtain ⟨tA, tn, tc, tB, tm, td, f2, o2, rfl⟩ := href.quad
                have R1 := R0.call href k1
                have G7 := HGD.out.low' R1.bel
                clear href k1
                refine hK.out _ _ ⟨G7.lit HKP.out HKS.out, G7.act⟩ (fun hHeld => ?_)
                clear hK K
                clear G7
                refine wpAnyH_take (i := 10) (oi := ⟨some 110, _, _, _, _, _⟩) (v := .tuple #[.agg #[.slice tA tn tc, .slice tB tm td, .int .i64 f2, .bool o2], .int .i64 er]) rfl (by kernel_rfl) (by kernel_rfl) (by kernel_rfl) (fun _ _ _ h => h) (Or.inl ⟨by rfl, ?_⟩) (by assumption) ?_
                · intro w hSw; (try dsimp only at hSw); go_simp
                simp only [Act.put, List.setIfInBounds_toArray, List.set_cons_zero, List.set_cons_succ]
                refine wpAnyH_take (i := 11) (oi := ⟨some 121, _, _, _, _, _⟩) (v := .agg #[.slice tA tn tc, .slice tB tm td, .int .i64 f2, .bool o2]) rfl (by kernel_rfl) (by kernel_rfl) (by kernel_rfl) (fun _ _ _ h => h) (Or.inl ⟨by rfl, ?_⟩) (by assumption) ?_
                · intro w hSw; (try dsimp only at hSw); go_simp
                simp only [Act.put, List.setIfInBounds_toArray, List.set_cons_zero, List.set_cons_succ]
                refine wpAnyH_take (i := 12) (oi := ⟨some 122, _, _, _, _, _⟩) (v := .int .i64 er) rfl (by kernel_rfl) (by kernel_rfl) (by kernel_rfl) (fun _ _ _ h => h) (Or.inl ⟨by rfl, ?_⟩) (by assumption) ?_
                · intro w hSw; (try dsimp only at hSw); go_simp
                simp only [Act.put, List.setIfInBounds_toArray, List.set_cons_zero, List.set_cons_succ]
                refine wpAnyH_ready (rs := [13]) (by kernel_rfl) (by simp) ?_
                refine (AllReadyH.cons (o := ⟨some 12, _, _, _, _, _⟩) rfl (fun K hK => ?_) AllReadyH.nil)
                rw [if_pos (by simp [Region.wanted])]
                go_simp
                have pQ := heap_alloc_new u1 (.cells #[.slice none 0 0, .slice none 0 0, .int .i64 0, .bool false] 32)
                have R2 := R1.alloc (.cells #[.slice none 0 0, .slice none 0 0, .int .i64 0, .bool false] 32)
                obtain ⟨Q, hQ⟩ : ∃ Q, Q = u1.heap.size := ⟨_, rfl⟩
                have hQA : wd.heap.size ≤ Q := by rw [hQ]; exact R1.bel.size
                rw [← hQ] at pQ R2 ⊢
                clear hQ
                generalize u1.alloc (.cells #[.slice none 0 0, .slice none 0 0, .int .i64 0, .bool false] 32) = ux at *
                have G7 := HGD.out.low' R2.bel
                refine hK.out _ _ ⟨G7.lit HKP.out HKS.out, G7.act⟩ (fun hHeld => ?_)
                clear hK K
                clear G7
                refine wpAnyH_ready (rs := [14]) (by kernel_rfl) (by simp) ?_
                refine (AllReadyH.cons (o := ⟨none, _, _, _, _, _⟩) rfl (fun K hK => ?_) AllReadyH.nil)
                have z0 := Sm.cells_of pQ 0 _ rfl; have z1 := Sm.cells_of pQ 1 _ rfl; have z2 := Sm.cells_of pQ 2 _ rfl; have z3 := Sm.cells_of pQ 3 _ rfl
                have zf0 := Sm.free_of pQ 0; have zf1 := Sm.free_of pQ 1; have zf2 := Sm.free_of pQ 2; have zf3 := Sm.free_of pQ 3
                go_simp
                have R3 := R2.set (Kp.turned4 ux Q (.slice tA tn tc) (.slice tB tm td) (.int .i64 f2) (.bool o2)) hQA (.inr rfl)
                have p3 := Dk.set4 pQ rfl (.slice tA tn tc) (.slice tB tm td) (.int .i64 f2) (.bool o2)
                clear z0 z1 z2 z3 zf0 zf1 zf2 zf3
                generalize ((((ux.setCell ⟨Q, 0, none⟩ (.slice tA tn tc)).setCell ⟨Q, 1, none⟩ (.slice tB tm td)).setCell ⟨Q, 2, none⟩ (.int .i64 f2)).setCell ⟨Q, 3, none⟩ (.bool o2)) = u3 at *
                have G7 := HGD.out.low' R3.bel
                refine hK.out _ _ ⟨G7.lit HKP.out HKS.out, G7.act⟩ (fun hHeld => ?_)
                clear hK K
                clear G7
                refine wpAnyH_take (i := 15) (oi := ⟨some 13, _, _, _, _, _⟩) (v := .int .i64 er) rfl (by kernel_rfl) (by kernel_rfl) (by kernel_rfl) (fun _ _ _ h => h) (Or.inl ⟨by rfl, ?_⟩) (by assumption) ?_
                · intro w hSw; (try dsimp only at hSw); go_simp
                simp only [Act.put, List.setIfInBounds_toArray, List.set_cons_zero, List.set_cons_succ]
                refine wpAnyH_done (by kernel_rfl) ?_ _
                clear hHeld
                have G3 := HGD.out.low' R3.bel
                have hr3 : Dk.RefAt u3 (fun q => fp q ∨ q = X ∨ ko = some q) (.agg #[.slice tA tn tc, .slice tB tm td, .int .i64 f2, .bool o2]) M1 := R3.ref.off fun q _ e => .inl e
                have xl3 := G3.lit HKP.out HKS.out
                have y0 := Sm.cells_of p3 0 _ rfl; have y1 := Sm.cells_of p3 1 _ rfl; have y2 := Sm.cells_of p3 2 _ rfl; have y3 := Sm.cells_of p3 3 _ rfl
                have x2 := Sm.cells_of xl3 2 _ rfl; have x3 := Sm.cells_of xl3 3 _ rfl; have x4 := Sm.cells_of xl3 4 _ rfl; have x5 := Sm.cells_of xl3 5 _ rfl
                have xf2 := Sm.free_of xl3 2; have xf3 := Sm.free_of xl3 3; have xf4 := Sm.free_of xl3 4; have xf5 := Sm.free_of xl3 5
                have b4 := Kp.setX4 xl3 (.slice tA tn tc) (.slice tB tm td) (.int .i64 f2) (.bool o2)
                have t4 := Kp.setX4_turned u3 X (.slice tA tn tc) (.slice tB tm td) (.int .i64 f2) (.bool o2)
                have G4 := G3.touch t4 HKP.out HKS.out b4 hr3
                have H4 := Lib.hid G4
                clear b4 t4 G4 G3 xl3 hr3 R0 R1 R2 R3 p3 pQ
                go_upto_region 23 with (fail)
                clear y0 y1 y2 y3 x2 x3 x4 x5 xf2 xf3 xf4 xf5
                generalize ((((u3.setCell ⟨X, 2, none⟩ (.slice tA tn tc)).setCell ⟨X, 3, none⟩ (.slice tB tm td)).setCell ⟨X, 4, none⟩ (.int .i64 f2)).setCell ⟨X, 5, none⟩ (.bool o2)) = u4 at *
                have G5 := H4.out.low' ((Below.refl _ u4).drew)
                have c5 : u4.drew.cell? ⟨X, 0, none⟩ = some (.pointer (some ⟨r, 0, none⟩)) := Sm.cells_of (G5.lit HKP.out HKS.out) 0 _ rfl
                have H5 := Lib.hid G5
                refine wp_region_held_drew (S := (fun w' => w'.cell? ⟨X, 0, none⟩ = some (.pointer (some ⟨r, 0, none⟩)) ∧ w'.heap[N]? = some (.cells cs.toArray 47 (0, 0)))) (by kernel_rfl) ⟨c5, G5.act⟩ (fun hHeld => ?_)
                clear G5 c5
                generalize u4.drew = ue at *
                refine wpAnyH_take (i := 0) (oi := ⟨some 127, _, _, _, _, _⟩) (v := .pointer (some ⟨X, 0, none⟩)) rfl (by kernel_rfl) (by kernel_rfl) (by kernel_rfl) (fun _ _ _ h => h) (Or.inl ⟨by rfl, ?_⟩) (by assumption) ?_
                · intro w hSw; (try dsimp only at hSw); go_simp
                simp only [Act.put, List.setIfInBounds_toArray, List.set_cons_zero, List.set_cons_succ]
                refine wpAnyH_take (i := 1) (oi := ⟨some 128, _, _, _, _, _⟩) (v := .pointer (some ⟨X, 0, none⟩)) rfl (by kernel_rfl) (by kernel_rfl) (by kernel_rfl) (fun _ _ _ h => h) (Or.inl ⟨by rfl, ?_⟩) (by assumption) ?_
                · intro w hSw; (try dsimp only at hSw); go_simp
                simp only [Act.put, List.setIfInBounds_toArray, List.set_cons_zero, List.set_cons_succ]
                refine wpAnyH_take (i := 2) (oi := ⟨some 129, _, _, _, _, _⟩) (v := .pointer (some ⟨X, 0, none⟩)) rfl (by kernel_rfl) (by kernel_rfl) (by kernel_rfl) (fun _ _ _ h => h) (Or.inl ⟨by rfl, ?_⟩) (by assumption) ?_
                · intro w hSw; (try dsimp only at hSw); go_simp
                simp only [Act.put, List.setIfInBounds_toArray, List.set_cons_zero, List.set_cons_succ]
                refine wpAnyH_take (i := 3) (oi := ⟨some 130, _, _, _, _, _⟩) (v := .pointer (some ⟨r, 0, none⟩)) rfl (by kernel_rfl) (by kernel_rfl) (by kernel_rfl) (fun _ _ _ h => h) (Or.inl ⟨by rfl, ?_⟩) (by assumption) ?_
                · intro w hSw; (try dsimp only at hSw); have hh := hSw.1; go_simp
                simp only [Act.put, List.setIfInBounds_toArray, List.set_cons_zero, List.set_cons_succ]
                refine wpAnyH_take (i := 4) (oi := ⟨some 131, _, _, _, _, _⟩) (v := .int .i64 x.n) rfl (by kernel_rfl) (by kernel_rfl) (by kernel_rfl) (fun _ _ _ h => h) (Or.inl ⟨by rfl, ?_⟩) (by assumption) ?_
                · intro w hSw; (try dsimp only at hSw); go_simp
                simp only [Act.put, List.setIfInBounds_toArray, List.set_cons_zero, List.set_cons_succ]
                refine wpAnyH_take (i := 5) (oi := ⟨some 132, _, _, _, _, _⟩) (v := .pointer (some ⟨N, 3, none⟩)) rfl (by kernel_rfl) (by kernel_rfl) (by kernel_rfl) (fun _ _ _ h => h) (Or.inl ⟨by rfl, ?_⟩) (by assumption) ?_
                · intro w hSw; (try dsimp only at hSw); go_simp
                simp only [Act.put, List.setIfInBounds_toArray, List.set_cons_zero, List.set_cons_succ]
                refine wpAnyH_take (i := 6) (oi := ⟨some 133, _, _, _, _, _⟩) (v := .int .i64 x.m) rfl (by kernel_rfl) (by kernel_rfl) (by kernel_rfl) (fun _ _ _ h => h) (Or.inl ⟨by rfl, ?_⟩) (by assumption) ?_
                · intro w hSw; (try dsimp only at hSw); have hh := (AC.out _ hSw.2).2.2.2.1; go_simp
                simp only [Act.put, List.setIfInBounds_toArray, List.set_cons_zero, List.set_cons_succ]
                refine wpAnyH_take (i := 7) (oi := ⟨some 134, _, _, _, _, _⟩) (v := .pointer (some ⟨N, 4, none⟩)) rfl (by kernel_rfl) (by kernel_rfl) (by kernel_rfl) (fun _ _ _ h => h) (Or.inl ⟨by rfl, ?_⟩) (by assumption) ?_
                · intro w hSw; (try dsimp only at hSw); go_simp
                simp only [Act.put, List.setIfInBounds_toArray, List.set_cons_zero, List.set_cons_succ]
                refine wpAnyH_take (i := 8) (oi := ⟨some 135, _, _, _, _, _⟩) (v := .string x.x) rfl (by kernel_rfl) (by kernel_rfl) (by kernel_rfl) (fun _ _ _ h => h) (Or.inl ⟨by rfl, ?_⟩) (by assumption) ?_
                · intro w hSw; (try dsimp only at hSw); have hh := (AC.out _ hSw.2).2.2.2.2.1; go_simp
                simp only [Act.put, List.setIfInBounds_toArray, List.set_cons_zero, List.set_cons_succ]
                refine wpAnyH_take (i := 10) (oi := ⟨some 137, _, _, _, _, _⟩) (v := .int .i64 er) rfl (by kernel_rfl) (by kernel_rfl) (by kernel_rfl) (fun _ _ _ h => h) (Or.inl ⟨by rfl, ?_⟩) (by assumption) ?_
                · intro w hSw; (try dsimp only at hSw); go_simp
                simp only [Act.put, List.setIfInBounds_toArray, List.set_cons_zero, List.set_cons_succ]
                refine wpAnyH_ready (rs := [9]) (by kernel_rfl) (by simp) ?_
                refine (AllReadyH.cons (o := ⟨some 136, _, _, _, _, _⟩) rfl (fun K hK => ?_) AllReadyH.nil)
                go_simp
                refine (SP.out _ _ H5.out.disk).mono ?_
                rintro e v6 ⟨fp6, rfl, st⟩
                have G6 := H5.out.disked st ML1.out.1
                have H6 := Lib.hid G6
                clear st G6
                refine hK.out _ _ ⟨Sm.cells_of (H6.out.lit HKP.out HKS.out) 0 _ rfl, H6.out.act⟩ (fun hHeld => ?_)
                clear hK K
                refine wpAnyH_take (i := 11) (oi := ⟨some 138, _, _, _, _, _⟩) (v := .bool true) rfl (by kernel_rfl) (by kernel_rfl) (by kernel_rfl) (fun _ _ _ h => h) (Or.inl ⟨by rfl, ?_⟩) (by assumption) ?_
                · intro w hSw; (try dsimp only at hSw); go_simp
                simp only [Act.put, List.setIfInBounds_toArray, List.set_cons_zero, List.set_cons_succ]
                refine wpAnyH_take (i := 12) (oi := ⟨some 139, _, _, _, _, _⟩) (v := .bool true) rfl (by kernel_rfl) (by kernel_rfl) (by kernel_rfl) (fun _ _ _ h => h) (Or.inl ⟨by rfl, ?_⟩) (by assumption) ?_
                · intro w hSw; (try dsimp only at hSw); go_simp
                simp only [Act.put, List.setIfInBounds_toArray, List.set_cons_zero, List.set_cons_succ]
                refine wpAnyH_take (i := 13) (oi := ⟨some 140, _, _, _, _, _⟩) (v := .pointer (some ⟨X, 0, none⟩)) rfl (by kernel_rfl) (by kernel_rfl) (by kernel_rfl) (fun _ _ _ h => h) (Or.inl ⟨by rfl, ?_⟩) (by assumption) ?_
                · intro w hSw; (try dsimp only at hSw); go_simp
                simp only [Act.put, List.setIfInBounds_toArray, List.set_cons_zero, List.set_cons_succ]
                refine wpAnyH_take (i := 14) (oi := ⟨some 141, _, _, _, _, _⟩) (v := .int .i64 a) rfl (by kernel_rfl) (by kernel_rfl) (by kernel_rfl) (fun _ _ _ h => h) (Or.inl ⟨by rfl, ?_⟩) (by assumption) ?_
                · intro w hSw; (try dsimp only at hSw); go_simp
                simp only [Act.put, List.setIfInBounds_toArray, List.set_cons_zero, List.set_cons_succ]
                refine wpAnyH_ready (rs := [15]) (by kernel_rfl) (by simp) ?_
                refine (AllReadyH.cons (o := ⟨some 142, _, _, _, _, _⟩) rfl (fun K hK => ?_) AllReadyH.nil)
                rw [if_pos (by rfl)]
                go_simp
                refine (OPN.out _ _ _ _ _ _ _ _ _ _ _ _ _ _ H6.out.w9 (by have := ML1.out.2; omega)).mono ?_
                rintro e v7 ⟨ko', K', n', rfl, W', iff', tu7⟩
                have act7 : v7.heap[N]? = some (.cells cs.toArray 47 (0, 0)) := (tu7.block N (Sm.lt_of H6.out.act) H6.out.nX).trans H6.out.act
                refine hK.out _ _ ⟨W'.ptr, act7⟩ (fun hHeld => ?_)
                clear hK K
                refine wpAnyH_take (i := 16) (oi := ⟨some 143, _, _, _, _, _⟩) (v := .bool true) rfl (by kernel_rfl) (by kernel_rfl) (by kernel_rfl) (fun _ _ _ h => h) (Or.inl ⟨by rfl, ?_⟩) (by assumption) ?_
                · intro w hSw; (try dsimp only at hSw); go_simp
                simp only [Act.put, List.setIfInBounds_toArray, List.set_cons_zero, List.set_cons_succ]
                refine wpAnyH_take (i := 17) (oi := ⟨some 6, _, _, _, _, _⟩) (v := .bool true) rfl (by kernel_rfl) (by kernel_rfl) (by kernel_rfl) (fun _ _ _ h => h) (Or.inl ⟨by rfl, ?_⟩) (by assumption) ?_
                · intro w hSw; (try dsimp only at hSw); go_simp
                simp only [Act.put, List.setIfInBounds_toArray, List.set_cons_zero, List.set_cons_succ]
                refine wpAnyH_done (by kernel_rfl) ?_ _
                clear hHeld
                go_wp2
                go_ret
                exact ⟨rfl, Kp.did9 W' iff' (by have := ML1.out.2; omega)⟩
              · rw [if_pos (by simp [Region.wanted])]
                go_simp
                have pQ1 := heap_alloc_new wd (.cells #[.slice none 0 0, .slice none 0 0, .int .i64 0, .bool false] 32)
                have R1 := R0.alloc (.cells #[.slice none 0 0, .slice none 0 0, .int .i64 0, .bool false] 32)
                obtain ⟨Q, hQ⟩ : ∃ Q, Q = wd.heap.size := ⟨_, rfl⟩
                have hQA : wd.heap.size ≤ Q := by rw [hQ]; exact R0.bel.size
                rw [← hQ] at pQ1 R1 ⊢
                clear hQ
                generalize wd.alloc (.cells #[.slice none 0 0, .slice none 0 0, .int .i64 0, .bool false] 32) = u1 at *
                have G7 := HGD.out.low' R1.bel
                refine hK.out _ _ ⟨G7.lit HKP.out HKS.out, G7.act⟩ (fun hHeld => ?_)
                clear hK K
                clear G7
                refine wpAnyH_ready (rs := [9]) (by kernel_rfl) (by simp) ?_
                refine (AllReadyH.cons (o := ⟨some 120, _, _, _, _, _⟩) rfl (fun K hK => ?_) AllReadyH.nil)
                go_simp
                refine (WR.out _ _ R1.ref R1.lt).mono ?_
                rintro e ux ⟨vn, rfl, href, k1⟩
                obtain ⟨tA, tn, tc, tB, tm, td, f2, o2, rfl⟩ := href.quad
                have R2 := R1.call href k1
                have pQ := (k1.block Q (Sm.lt_of pQ1)).trans pQ1
                have G7 := HGD.out.low' R2.bel
                clear href k1
                refine hK.out _ _ ⟨G7.lit HKP.out HKS.out, G7.act⟩ (fun hHeld => ?_)
                clear hK K
                clear G7
                refine wpAnyH_take (i := 10) (oi := ⟨some 110, _, _, _, _, _⟩) (v := .tuple #[.agg #[.slice tA tn tc, .slice tB tm td, .int .i64 f2, .bool o2], .int .i64 er]) rfl (by kernel_rfl) (by kernel_rfl) (by kernel_rfl) (fun _ _ _ h => h) (Or.inl ⟨by rfl, ?_⟩) (by assumption) ?_
                · intro w hSw; (try dsimp only at hSw); go_simp
                simp only [Act.put, List.setIfInBounds_toArray, List.set_cons_zero, List.set_cons_succ]
                refine wpAnyH_take (i := 11) (oi := ⟨some 121, _, _, _, _, _⟩) (v := .agg #[.slice tA tn tc, .slice tB tm td, .int .i64 f2, .bool o2]) rfl (by kernel_rfl) (by kernel_rfl) (by kernel_rfl) (fun _ _ _ h => h) (Or.inl ⟨by rfl, ?_⟩) (by assumption) ?_
                · intro w hSw; (try dsimp only at hSw); go_simp
                simp only [Act.put, List.setIfInBounds_toArray, List.set_cons_zero, List.set_cons_succ]
                refine wpAnyH_take (i := 12) (oi := ⟨some 122, _, _, _, _, _⟩) (v := .int .i64 er) rfl (by kernel_rfl) (by kernel_rfl) (by kernel_rfl) (fun _ _ _ h => h) (Or.inl ⟨by rfl, ?_⟩) (by assumption) ?_
                · intro w hSw; (try dsimp only at hSw); go_simp
                simp only [Act.put, List.setIfInBounds_toArray, List.set_cons_zero, List.set_cons_succ]
                refine wpAnyH_ready (rs := [14]) (by kernel_rfl) (by simp) ?_
                refine (AllReadyH.cons (o := ⟨none, _, _, _, _, _⟩) rfl (fun K hK => ?_) AllReadyH.nil)
                have z0 := Sm.cells_of pQ 0 _ rfl; have z1 := Sm.cells_of pQ 1 _ rfl; have z2 := Sm.cells_of pQ 2 _ rfl; have z3 := Sm.cells_of pQ 3 _ rfl
                have zf0 := Sm.free_of pQ 0; have zf1 := Sm.free_of pQ 1; have zf2 := Sm.free_of pQ 2; have zf3 := Sm.free_of pQ 3
                go_simp
                have R3 := R2.set (Kp.turned4 ux Q (.slice tA tn tc) (.slice tB tm td) (.int .i64 f2) (.bool o2)) hQA (.inr rfl)
                have p3 := Dk.set4 pQ rfl (.slice tA tn tc) (.slice tB tm td) (.int .i64 f2) (.bool o2)
                clear z0 z1 z2 z3 zf0 zf1 zf2 zf3
                generalize ((((ux.setCell ⟨Q, 0, none⟩ (.slice tA tn tc)).setCell ⟨Q, 1, none⟩ (.slice tB tm td)).setCell ⟨Q, 2, none⟩ (.int .i64 f2)).setCell ⟨Q, 3, none⟩ (.bool o2)) = u3 at *
                have G7 := HGD.out.low' R3.bel
                refine hK.out _ _ ⟨G7.lit HKP.out HKS.out, G7.act⟩ (fun hHeld => ?_)
                clear hK K
                clear G7
                refine wpAnyH_take (i := 15) (oi := ⟨some 13, _, _, _, _, _⟩) (v := .int .i64 er) rfl (by kernel_rfl) (by kernel_rfl) (by kernel_rfl) (fun _ _ _ h => h) (Or.inl ⟨by rfl, ?_⟩) (by assumption) ?_
                · intro w hSw; (try dsimp only at hSw); go_simp
                simp only [Act.put, List.setIfInBounds_toArray, List.set_cons_zero, List.set_cons_succ]
                refine wpAnyH_done (by kernel_rfl) ?_ _
                clear hHeld
                have G3 := HGD.out.low' R3.bel
                have hr3 : Dk.RefAt u3 (fun q => fp q ∨ q = X ∨ ko = some q) (.agg #[.slice tA tn tc, .slice tB tm td, .int .i64 f2, .bool o2]) M1 := R3.ref.off fun q _ e => .inl e
                have xl3 := G3.lit HKP.out HKS.out
                have y0 := Sm.cells_of p3 0 _ rfl; have y1 := Sm.cells_of p3 1 _ rfl; have y2 := Sm.cells_of p3 2 _ rfl; have y3 := Sm.cells_of p3 3 _ rfl
                have x2 := Sm.cells_of xl3 2 _ rfl; have x3 := Sm.cells_of xl3 3 _ rfl; have x4 := Sm.cells_of xl3 4 _ rfl; have x5 := Sm.cells_of xl3 5 _ rfl
                have xf2 := Sm.free_of xl3 2; have xf3 := Sm.free_of xl3 3; have xf4 := Sm.free_of xl3 4; have xf5 := Sm.free_of xl3 5
                have b4 := Kp.setX4 xl3 (.slice tA tn tc) (.slice tB tm td) (.int .i64 f2) (.bool o2)
                have t4 := Kp.setX4_turned u3 X (.slice tA tn tc) (.slice tB tm td) (.int .i64 f2) (.bool o2)
                have G4 := G3.touch t4 HKP.out HKS.out b4 hr3
                have H4 := Lib.hid G4
                clear b4 t4 G4 G3 xl3 hr3 R0 R1 R2 R3 p3 pQ
                go_upto_region 23 with (fail)
                clear y0 y1 y2 y3 x2 x3 x4 x5 xf2 xf3 xf4 xf5
                generalize ((((u3.setCell ⟨X, 2, none⟩ (.slice tA tn tc)).setCell ⟨X, 3, none⟩ (.slice tB tm td)).setCell ⟨X, 4, none⟩ (.int .i64 f2)).setCell ⟨X, 5, none⟩ (.bool o2)) = u4 at *
                have G5 := H4.out.low' ((Below.refl _ u4).drew)
                have c5 : u4.drew.cell? ⟨X, 0, none⟩ = some (.pointer (some ⟨r, 0, none⟩)) := Sm.cells_of (G5.lit HKP.out HKS.out) 0 _ rfl
                have H5 := Lib.hid G5
                refine wp_region_held_drew (S := (fun w' => w'.cell? ⟨X, 0, none⟩ = some (.pointer (some ⟨r, 0, none⟩)) ∧ w'.heap[N]? = some (.cells cs.toArray 47 (0, 0)))) (by kernel_rfl) ⟨c5, G5.act⟩ (fun hHeld => ?_)
                clear G5 c5
                generalize u4.drew = ue at *
                refine wpAnyH_take (i := 0) (oi := ⟨some 127, _, _, _, _, _⟩) (v := .pointer (some ⟨X, 0, none⟩)) rfl (by kernel_rfl) (by kernel_rfl) (by kernel_rfl) (fun _ _ _ h => h) (Or.inl ⟨by rfl, ?_⟩) (by assumption) ?_
                · intro w hSw; (try dsimp only at hSw); go_simp
                simp only [Act.put, List.setIfInBounds_toArray, List.set_cons_zero, List.set_cons_succ]
                refine wpAnyH_take (i := 1) (oi := ⟨some 128, _, _, _, _, _⟩) (v := .pointer (some ⟨X, 0, none⟩)) rfl (by kernel_rfl) (by kernel_rfl) (by kernel_rfl) (fun _ _ _ h => h) (Or.inl ⟨by rfl, ?_⟩) (by assumption) ?_
                · intro w hSw; (try dsimp only at hSw); go_simp
                simp only [Act.put, List.setIfInBounds_toArray, List.set_cons_zero, List.set_cons_succ]
                refine wpAnyH_take (i := 2) (oi := ⟨some 129, _, _, _, _, _⟩) (v := .pointer (some ⟨X, 0, none⟩)) rfl (by kernel_rfl) (by kernel_rfl) (by kernel_rfl) (fun _ _ _ h => h) (Or.inl ⟨by rfl, ?_⟩) (by assumption) ?_
                · intro w hSw; (try dsimp only at hSw); go_simp
                simp only [Act.put, List.setIfInBounds_toArray, List.set_cons_zero, List.set_cons_succ]
                refine wpAnyH_take (i := 3) (oi := ⟨some 130, _, _, _, _, _⟩) (v := .pointer (some ⟨r, 0, none⟩)) rfl (by kernel_rfl) (by kernel_rfl) (by kernel_rfl) (fun _ _ _ h => h) (Or.inl ⟨by rfl, ?_⟩) (by assumption) ?_
                · intro w hSw; (try dsimp only at hSw); have hh := hSw.1; go_simp
                simp only [Act.put, List.setIfInBounds_toArray, List.set_cons_zero, List.set_cons_succ]
                refine wpAnyH_take (i := 4) (oi := ⟨some 131, _, _, _, _, _⟩) (v := .int .i64 x.n) rfl (by kernel_rfl) (by kernel_rfl) (by kernel_rfl) (fun _ _ _ h => h) (Or.inl ⟨by rfl, ?_⟩) (by assumption) ?_
                · intro w hSw; (try dsimp only at hSw); go_simp
                simp only [Act.put, List.setIfInBounds_toArray, List.set_cons_zero, List.set_cons_succ]
                refine wpAnyH_take (i := 5) (oi := ⟨some 132, _, _, _, _, _⟩) (v := .pointer (some ⟨N, 3, none⟩)) rfl (by kernel_rfl) (by kernel_rfl) (by kernel_rfl) (fun _ _ _ h => h) (Or.inl ⟨by rfl, ?_⟩) (by assumption) ?_
                · intro w hSw; (try dsimp only at hSw); go_simp
                simp only [Act.put, List.setIfInBounds_toArray, List.set_cons_zero, List.set_cons_succ]
                refine wpAnyH_take (i := 6) (oi := ⟨some 133, _, _, _, _, _⟩) (v := .int .i64 x.m) rfl (by kernel_rfl) (by kernel_rfl) (by kernel_rfl) (fun _ _ _ h => h) (Or.inl ⟨by rfl, ?_⟩) (by assumption) ?_
                · intro w hSw; (try dsimp only at hSw); have hh := (AC.out _ hSw.2).2.2.2.1; go_simp
                simp only [Act.put, List.setIfInBounds_toArray, List.set_cons_zero, List.set_cons_succ]
                refine wpAnyH_take (i := 7) (oi := ⟨some 134, _, _, _, _, _⟩) (v := .pointer (some ⟨N, 4, none⟩)) rfl (by kernel_rfl) (by kernel_rfl) (by kernel_rfl) (fun _ _ _ h => h) (Or.inl ⟨by rfl, ?_⟩) (by assumption) ?_
                · intro w hSw; (try dsimp only at hSw); go_simp
                simp only [Act.put, List.setIfInBounds_toArray, List.set_cons_zero, List.set_cons_succ]
                refine wpAnyH_take (i := 8) (oi := ⟨some 135, _, _, _, _, _⟩) (v := .string x.x) rfl (by kernel_rfl) (by kernel_rfl) (by kernel_rfl) (fun _ _ _ h => h) (Or.inl ⟨by rfl, ?_⟩) (by assumption) ?_
                · intro w hSw; (try dsimp only at hSw); have hh := (AC.out _ hSw.2).2.2.2.2.1; go_simp
                simp only [Act.put, List.setIfInBounds_toArray, List.set_cons_zero, List.set_cons_succ]
                refine wpAnyH_take (i := 10) (oi := ⟨some 137, _, _, _, _, _⟩) (v := .int .i64 er) rfl (by kernel_rfl) (by kernel_rfl) (by kernel_rfl) (fun _ _ _ h => h) (Or.inl ⟨by rfl, ?_⟩) (by assumption) ?_
                · intro w hSw; (try dsimp only at hSw); go_simp
                simp only [Act.put, List.setIfInBounds_toArray, List.set_cons_zero, List.set_cons_succ]
                refine wpAnyH_ready (rs := [9]) (by kernel_rfl) (by simp) ?_
                refine (AllReadyH.cons (o := ⟨some 136, _, _, _, _, _⟩) rfl (fun K hK => ?_) AllReadyH.nil)
                go_simp
                refine (SP.out _ _ H5.out.disk).mono ?_
                rintro e v6 ⟨fp6, rfl, st⟩
                have G6 := H5.out.disked st ML1.out.1
                have H6 := Lib.hid G6
                clear st G6
                refine hK.out _ _ ⟨Sm.cells_of (H6.out.lit HKP.out HKS.out) 0 _ rfl, H6.out.act⟩ (fun hHeld => ?_)
                clear hK K
                refine wpAnyH_take (i := 11) (oi := ⟨some 138, _, _, _, _, _⟩) (v := .bool true) rfl (by kernel_rfl) (by kernel_rfl) (by kernel_rfl) (fun _ _ _ h => h) (Or.inl ⟨by rfl, ?_⟩) (by assumption) ?_
                · intro w hSw; (try dsimp only at hSw); go_simp
                simp only [Act.put, List.setIfInBounds_toArray, List.set_cons_zero, List.set_cons_succ]
                refine wpAnyH_take (i := 12) (oi := ⟨some 139, _, _, _, _, _⟩) (v := .bool true) rfl (by kernel_rfl) (by kernel_rfl) (by kernel_rfl) (fun _ _ _ h => h) (Or.inl ⟨by rfl, ?_⟩) (by assumption) ?_
                · intro w hSw; (try dsimp only at hSw); go_simp
                simp only [Act.put, List.setIfInBounds_toArray, List.set_cons_zero, List.set_cons_succ]
                refine wpAnyH_take (i := 13) (oi := ⟨some 140, _, _, _, _, _⟩) (v := .pointer (some ⟨X, 0, none⟩)) rfl (by kernel_rfl) (by kernel_rfl) (by kernel_rfl) (fun _ _ _ h => h) (Or.inl ⟨by rfl, ?_⟩) (by assumption) ?_
                · intro w hSw; (try dsimp only at hSw); go_simp
                simp only [Act.put, List.setIfInBounds_toArray, List.set_cons_zero, List.set_cons_succ]
                refine wpAnyH_take (i := 14) (oi := ⟨some 141, _, _, _, _, _⟩) (v := .int .i64 a) rfl (by kernel_rfl) (by kernel_rfl) (by kernel_rfl) (fun _ _ _ h => h) (Or.inl ⟨by rfl, ?_⟩) (by assumption) ?_
                · intro w hSw; (try dsimp only at hSw); go_simp
                simp only [Act.put, List.setIfInBounds_toArray, List.set_cons_zero, List.set_cons_succ]
                refine wpAnyH_ready (rs := [15]) (by kernel_rfl) (by simp) ?_
                refine (AllReadyH.cons (o := ⟨some 142, _, _, _, _, _⟩) rfl (fun K hK => ?_) AllReadyH.nil)
                rw [if_pos (by rfl)]
                go_simp
                refine (OPN.out _ _ _ _ _ _ _ _ _ _ _ _ _ _ H6.out.w9 (by have := ML1.out.2; omega)).mono ?_
                rintro e v7 ⟨ko', K', n', rfl, W', iff', tu7⟩
                have act7 : v7.heap[N]? = some (.cells cs.toArray 47 (0, 0)) := (tu7.block N (Sm.lt_of H6.out.act) H6.out.nX).trans H6.out.act
                refine hK.out _ _ ⟨W'.ptr, act7⟩ (fun hHeld => ?_)
                clear hK K
                refine wpAnyH_take (i := 16) (oi := ⟨some 143, _, _, _, _, _⟩) (v := .bool true) rfl (by kernel_rfl) (by kernel_rfl) (by kernel_rfl) (fun _ _ _ h => h) (Or.inl ⟨by rfl, ?_⟩) (by assumption) ?_
                · intro w hSw; (try dsimp only at hSw); go_simp
                simp only [Act.put, List.setIfInBounds_toArray, List.set_cons_zero, List.set_cons_succ]
                refine wpAnyH_take (i := 17) (oi := ⟨some 6, _, _, _, _, _⟩) (v := .bool true) rfl (by kernel_rfl) (by kernel_rfl) (by kernel_rfl) (fun _ _ _ h => h) (Or.inl ⟨by rfl, ?_⟩) (by assumption) ?_
                · intro w hSw; (try dsimp only at hSw); go_simp
                simp only [Act.put, List.setIfInBounds_toArray, List.set_cons_zero, List.set_cons_succ]
                refine wpAnyH_done (by kernel_rfl) ?_ _
                clear hHeld
                go_wp2
                go_ret
                exact ⟨rfl, Kp.did9 W' iff' (by have := ML1.out.2; omega)⟩
          · go_upto_region 21 with (fail)
            clear a2 d0
            have GD := GG.out.low' ((Below.refl _ w1).drew)
            obtain ⟨bl, hbl⟩ : ∃ q : List Value, q = [.slice sA sn sc, .slice sB sm sd, .int .i64 f, .bool o] := ⟨_, rfl⟩
            have hba : bl.toArray = #[.slice sA sn sc, .slice sB sm sd, .int .i64 f, .bool o] := by rw [hbl]
            have hbl4 : bl.length = 4 := by rw [hbl]; rfl
            obtain ⟨W1, hW1⟩ : ∃ y, y = Dk.spoil M x.n x.m x.x.data.toList := ⟨_, rfl⟩
            obtain ⟨M1, er⟩ := W1
            have ML1 : Hid (M1.lasts.length = M.lasts.length ∧ Dk.waits M1 = Dk.waits M) := ⟨by rw [← Dk.len_spoil M x.n x.m x.x.data.toList, ← hW1], by rw [← Dk.waits_spoil M x.n x.m x.x.data.toList, ← hW1]⟩
            have HMO := Lib.hid GD.disk.disk.ok
            have WR : Hid (∀ wx F, Dk.RefAt wx F (.agg bl.toArray) M → (∀ q, F q → q < wx.heap.size) → Calls Try.prog 26 #[.agg bl.toArray, .int .i64 x.n, .int .i64 x.m, .string x.x] wx fun e w' => ∃ v', e = .returned (.tuple #[v', .int .i64 er]) ∧ Dk.RefAt w' F v' M1 ∧ Below wx.heap.size wx w') := fun wx F h1 h2 => by
              have := r7Spoil_any wx F _ M HMO.out h1 h2 x.n x.m x.x
              rw [← hW1] at this
              exact this
            have SP : Hid (∀ wx fpx, Dk.Own B w0 wx r fpx M → Calls Try.prog 27 #[.pointer (some ⟨r, 0, none⟩), .int .i64 x.n, .int .i64 x.m, .string x.x] wx fun e w' => ∃ fp', e = .returned (.int .i64 er) ∧ Dk.Step B w0 wx w' r fpx fp' M1) := fun wx fpx hx => by
              have := Dk.spoil_in hx x.n x.m x.x OK.out.x
              rw [← hW1] at this
              exact this
            have HBA := Lib.hid hba
            have HBL := Lib.hid hbl
            have R0 : Kp.R6 w1.drew w1.drew (fun q => fp q ∨ q = X ∨ ko = some q) (.agg bl.toArray) M := ⟨Below.refl _ _, by rw [hba]; exact GD.ref, GD.lt⟩
            have xl := GD.lit HKP.out HKS.out
            have HGD := Lib.hid GD
            clear hW1 hba hbl GD
            refine wp_region_held_drew (S := (fun w' => w'.heap[X]? = some (.cells #[.pointer (some ⟨r, 0, none⟩), kp, .slice sA sn sc, .slice sB sm sd, .int .i64 f, .bool o, q0, q1, q2, q3, q4, q5, .int .i64 n] 41 (0, 0)) ∧ w'.heap[N]? = some (.cells cs.toArray 47 (0, 0)))) (by kernel_rfl) ⟨xl, HGD.out.act⟩ (fun hHeld => ?_)
            generalize w1.drew = wd at *
            refine wpAnyH_take (i := 0) (oi := ⟨some 111, _, _, _, _, _⟩) (v := .pointer (some ⟨X, 0, none⟩)) rfl (by kernel_rfl) (by kernel_rfl) (by kernel_rfl) (fun _ _ _ h => h) (Or.inl ⟨by rfl, ?_⟩) (by assumption) ?_
            · intro w hSw; (try dsimp only at hSw); go_simp
            simp only [Act.put, List.setIfInBounds_toArray, List.set_cons_zero, List.set_cons_succ]
            refine wpAnyH_take (i := 1) (oi := ⟨some 112, _, _, _, _, _⟩) (v := .pointer (some ⟨X, 0, none⟩)) rfl (by kernel_rfl) (by kernel_rfl) (by kernel_rfl) (fun _ _ _ h => h) (Or.inl ⟨by rfl, ?_⟩) (by assumption) ?_
            · intro w hSw; (try dsimp only at hSw); go_simp
            simp only [Act.put, List.setIfInBounds_toArray, List.set_cons_zero, List.set_cons_succ]
            refine wpAnyH_take (i := 2) (oi := ⟨some 113, _, _, _, _, _⟩) (v := .pointer (some ⟨X, 2, none⟩)) rfl (by kernel_rfl) (by kernel_rfl) (by kernel_rfl) (fun _ _ _ h => h) (Or.inl ⟨by rfl, ?_⟩) (by assumption) ?_
            · intro w hSw; (try dsimp only at hSw); go_simp
            simp only [Act.put, List.setIfInBounds_toArray, List.set_cons_zero, List.set_cons_succ]
            refine wpAnyH_take (i := 3) (oi := ⟨some 114, _, _, _, _, _⟩) (v := .agg bl.toArray) rfl (by kernel_rfl) (by kernel_rfl) (by kernel_rfl) (fun _ _ _ h => h) (yieldsIf_load_mid (by rfl) _ _ rfl _ _ rfl bl _ (fun w hS => (by rw [HBL.out]; exact Kp.row2 hS.1)) Try.underlying32 rfl (Kp.info_dsk9 hbl4)) (by assumption) ?_
            simp only [Act.put, List.setIfInBounds_toArray, List.set_cons_zero, List.set_cons_succ]
            refine wpAnyH_take (i := 4) (oi := ⟨some 115, _, _, _, _, _⟩) (v := .int .i64 x.n) rfl (by kernel_rfl) (by kernel_rfl) (by kernel_rfl) (fun _ _ _ h => h) (Or.inl ⟨by rfl, ?_⟩) (by assumption) ?_
            · intro w hSw; (try dsimp only at hSw); go_simp
            simp only [Act.put, List.setIfInBounds_toArray, List.set_cons_zero, List.set_cons_succ]
            refine wpAnyH_take (i := 5) (oi := ⟨some 116, _, _, _, _, _⟩) (v := .pointer (some ⟨N, 3, none⟩)) rfl (by kernel_rfl) (by kernel_rfl) (by kernel_rfl) (fun _ _ _ h => h) (Or.inl ⟨by rfl, ?_⟩) (by assumption) ?_
            · intro w hSw; (try dsimp only at hSw); go_simp
            simp only [Act.put, List.setIfInBounds_toArray, List.set_cons_zero, List.set_cons_succ]
            refine wpAnyH_take (i := 6) (oi := ⟨some 117, _, _, _, _, _⟩) (v := .int .i64 x.m) rfl (by kernel_rfl) (by kernel_rfl) (by kernel_rfl) (fun _ _ _ h => h) (Or.inl ⟨by rfl, ?_⟩) (by assumption) ?_
            · intro w hSw; (try dsimp only at hSw); have hh := (AC.out _ hSw.2).2.2.2.1; go_simp
            simp only [Act.put, List.setIfInBounds_toArray, List.set_cons_zero, List.set_cons_succ]
            refine wpAnyH_take (i := 7) (oi := ⟨some 118, _, _, _, _, _⟩) (v := .pointer (some ⟨N, 4, none⟩)) rfl (by kernel_rfl) (by kernel_rfl) (by kernel_rfl) (fun _ _ _ h => h) (Or.inl ⟨by rfl, ?_⟩) (by assumption) ?_
            · intro w hSw; (try dsimp only at hSw); go_simp
            simp only [Act.put, List.setIfInBounds_toArray, List.set_cons_zero, List.set_cons_succ]
            refine wpAnyH_take (i := 8) (oi := ⟨some 119, _, _, _, _, _⟩) (v := .string x.x) rfl (by kernel_rfl) (by kernel_rfl) (by kernel_rfl) (fun _ _ _ h => h) (Or.inl ⟨by rfl, ?_⟩) (by assumption) ?_
            · intro w hSw; (try dsimp only at hSw); have hh := (AC.out _ hSw.2).2.2.2.2.1; go_simp
            simp only [Act.put, List.setIfInBounds_toArray, List.set_cons_zero, List.set_cons_succ]
            refine wpAnyH_ready (rs := [9, 13]) (by kernel_rfl) (by simp) ?_
            refine (AllReadyH.cons (o := ⟨some 120, _, _, _, _, _⟩) rfl (fun K hK => ?_) (AllReadyH.cons (o := ⟨some 12, _, _, _, _, _⟩) rfl (fun K hK => ?_) AllReadyH.nil))
            · go_simp
              refine (WR.out _ _ R0.ref R0.lt).mono ?_
              rintro e u1 ⟨vn, rfl, href, k1⟩
              obtain ⟨tA, tn, tc, tB, tm, td, f2, o2, rfl⟩ := href.quad
              have R1 := R0.call href k1
              have G7 := HGD.out.low' R1.bel
              clear href k1
              refine hK.out _ _ ⟨G7.lit HKP.out HKS.out, G7.act⟩ (fun hHeld => ?_)
              clear hK K
              clear G7
              refine wpAnyH_take (i := 10) (oi := ⟨some 110, _, _, _, _, _⟩) (v := .tuple #[.agg #[.slice tA tn tc, .slice tB tm td, .int .i64 f2, .bool o2], .int .i64 er]) rfl (by kernel_rfl) (by kernel_rfl) (by kernel_rfl) (fun _ _ _ h => h) (Or.inl ⟨by rfl, ?_⟩) (by assumption) ?_
              · intro w hSw; (try dsimp only at hSw); go_simp
              simp only [Act.put, List.setIfInBounds_toArray, List.set_cons_zero, List.set_cons_succ]
              refine wpAnyH_take (i := 11) (oi := ⟨some 121, _, _, _, _, _⟩) (v := .agg #[.slice tA tn tc, .slice tB tm td, .int .i64 f2, .bool o2]) rfl (by kernel_rfl) (by kernel_rfl) (by kernel_rfl) (fun _ _ _ h => h) (Or.inl ⟨by rfl, ?_⟩) (by assumption) ?_
              · intro w hSw; (try dsimp only at hSw); go_simp
              simp only [Act.put, List.setIfInBounds_toArray, List.set_cons_zero, List.set_cons_succ]
              refine wpAnyH_take (i := 12) (oi := ⟨some 122, _, _, _, _, _⟩) (v := .int .i64 er) rfl (by kernel_rfl) (by kernel_rfl) (by kernel_rfl) (fun _ _ _ h => h) (Or.inl ⟨by rfl, ?_⟩) (by assumption) ?_
              · intro w hSw; (try dsimp only at hSw); go_simp
              simp only [Act.put, List.setIfInBounds_toArray, List.set_cons_zero, List.set_cons_succ]
              refine wpAnyH_ready (rs := [13]) (by kernel_rfl) (by simp) ?_
              refine (AllReadyH.cons (o := ⟨some 12, _, _, _, _, _⟩) rfl (fun K hK => ?_) AllReadyH.nil)
              rw [if_pos (by simp [Region.wanted])]
              go_simp
              have pQ := heap_alloc_new u1 (.cells #[.slice none 0 0, .slice none 0 0, .int .i64 0, .bool false] 32)
              have R2 := R1.alloc (.cells #[.slice none 0 0, .slice none 0 0, .int .i64 0, .bool false] 32)
              obtain ⟨Q, hQ⟩ : ∃ Q, Q = u1.heap.size := ⟨_, rfl⟩
              have hQA : wd.heap.size ≤ Q := by rw [hQ]; exact R1.bel.size
              rw [← hQ] at pQ R2 ⊢
              clear hQ
              generalize u1.alloc (.cells #[.slice none 0 0, .slice none 0 0, .int .i64 0, .bool false] 32) = ux at *
              have G7 := HGD.out.low' R2.bel
              refine hK.out _ _ ⟨G7.lit HKP.out HKS.out, G7.act⟩ (fun hHeld => ?_)
              clear hK K
              clear G7
              refine wpAnyH_ready (rs := [14]) (by kernel_rfl) (by simp) ?_
              refine (AllReadyH.cons (o := ⟨none, _, _, _, _, _⟩) rfl (fun K hK => ?_) AllReadyH.nil)
              have z0 := Sm.cells_of pQ 0 _ rfl; have z1 := Sm.cells_of pQ 1 _ rfl; have z2 := Sm.cells_of pQ 2 _ rfl; have z3 := Sm.cells_of pQ 3 _ rfl
              have zf0 := Sm.free_of pQ 0; have zf1 := Sm.free_of pQ 1; have zf2 := Sm.free_of pQ 2; have zf3 := Sm.free_of pQ 3
              go_simp
              have R3 := R2.set (Kp.turned4 ux Q (.slice tA tn tc) (.slice tB tm td) (.int .i64 f2) (.bool o2)) hQA (.inr rfl)
              have p3 := Dk.set4 pQ rfl (.slice tA tn tc) (.slice tB tm td) (.int .i64 f2) (.bool o2)
              clear z0 z1 z2 z3 zf0 zf1 zf2 zf3
              generalize ((((ux.setCell ⟨Q, 0, none⟩ (.slice tA tn tc)).setCell ⟨Q, 1, none⟩ (.slice tB tm td)).setCell ⟨Q, 2, none⟩ (.int .i64 f2)).setCell ⟨Q, 3, none⟩ (.bool o2)) = u3 at *
              have G7 := HGD.out.low' R3.bel
              refine hK.out _ _ ⟨G7.lit HKP.out HKS.out, G7.act⟩ (fun hHeld => ?_)
              clear hK K
              clear G7
              refine wpAnyH_take (i := 15) (oi := ⟨some 13, _, _, _, _, _⟩) (v := .int .i64 er) rfl (by kernel_rfl) (by kernel_rfl) (by kernel_rfl) (fun _ _ _ h => h) (Or.inl ⟨by rfl, ?_⟩) (by assumption) ?_
              · intro w hSw; (try dsimp only at hSw); go_simp
              simp only [Act.put, List.setIfInBounds_toArray, List.set_cons_zero, List.set_cons_succ]
              refine wpAnyH_done (by kernel_rfl) ?_ _
              clear hHeld
              have G3 := HGD.out.low' R3.bel
              have hr3 : Dk.RefAt u3 (fun q => fp q ∨ q = X ∨ ko = some q) (.agg #[.slice tA tn tc, .slice tB tm td, .int .i64 f2, .bool o2]) M1 := R3.ref.off fun q _ e => .inl e
              have xl3 := G3.lit HKP.out HKS.out
              have y0 := Sm.cells_of p3 0 _ rfl; have y1 := Sm.cells_of p3 1 _ rfl; have y2 := Sm.cells_of p3 2 _ rfl; have y3 := Sm.cells_of p3 3 _ rfl
              have x2 := Sm.cells_of xl3 2 _ rfl; have x3 := Sm.cells_of xl3 3 _ rfl; have x4 := Sm.cells_of xl3 4 _ rfl; have x5 := Sm.cells_of xl3 5 _ rfl
              have xf2 := Sm.free_of xl3 2; have xf3 := Sm.free_of xl3 3; have xf4 := Sm.free_of xl3 4; have xf5 := Sm.free_of xl3 5
              have b4 := Kp.setX4 xl3 (.slice tA tn tc) (.slice tB tm td) (.int .i64 f2) (.bool o2)
              have t4 := Kp.setX4_turned u3 X (.slice tA tn tc) (.slice tB tm td) (.int .i64 f2) (.bool o2)
              have G4 := G3.touch t4 HKP.out HKS.out b4 hr3
              have H4 := Lib.hid G4
              clear b4 t4 G4 G3 xl3 hr3 R0 R1 R2 R3 p3 pQ
              go_upto_region 23 with (fail)
              clear y0 y1 y2 y3 x2 x3 x4 x5 xf2 xf3 xf4 xf5
              generalize ((((u3.setCell ⟨X, 2, none⟩ (.slice tA tn tc)).setCell ⟨X, 3, none⟩ (.slice tB tm td)).setCell ⟨X, 4, none⟩ (.int .i64 f2)).setCell ⟨X, 5, none⟩ (.bool o2)) = u4 at *
              have G5 := H4.out.low' ((Below.refl _ u4).drew)
              have c5 : u4.drew.cell? ⟨X, 0, none⟩ = some (.pointer (some ⟨r, 0, none⟩)) := Sm.cells_of (G5.lit HKP.out HKS.out) 0 _ rfl
              have H5 := Lib.hid G5
              refine wp_region_held_drew (S := (fun w' => w'.cell? ⟨X, 0, none⟩ = some (.pointer (some ⟨r, 0, none⟩)) ∧ w'.heap[N]? = some (.cells cs.toArray 47 (0, 0)))) (by kernel_rfl) ⟨c5, G5.act⟩ (fun hHeld => ?_)
              clear G5 c5
              generalize u4.drew = ue at *
              refine wpAnyH_take (i := 0) (oi := ⟨some 127, _, _, _, _, _⟩) (v := .pointer (some ⟨X, 0, none⟩)) rfl (by kernel_rfl) (by kernel_rfl) (by kernel_rfl) (fun _ _ _ h => h) (Or.inl ⟨by rfl, ?_⟩) (by assumption) ?_
              · intro w hSw; (try dsimp only at hSw); go_simp
              simp only [Act.put, List.setIfInBounds_toArray, List.set_cons_zero, List.set_cons_succ]
              refine wpAnyH_take (i := 1) (oi := ⟨some 128, _, _, _, _, _⟩) (v := .pointer (some ⟨X, 0, none⟩)) rfl (by kernel_rfl) (by kernel_rfl) (by kernel_rfl) (fun _ _ _ h => h) (Or.inl ⟨by rfl, ?_⟩) (by assumption) ?_
              · intro w hSw; (try dsimp only at hSw); go_simp
              simp only [Act.put, List.setIfInBounds_toArray, List.set_cons_zero, List.set_cons_succ]
              refine wpAnyH_take (i := 2) (oi := ⟨some 129, _, _, _, _, _⟩) (v := .pointer (some ⟨X, 0, none⟩)) rfl (by kernel_rfl) (by kernel_rfl) (by kernel_rfl) (fun _ _ _ h => h) (Or.inl ⟨by rfl, ?_⟩) (by assumption) ?_
              · intro w hSw; (try dsimp only at hSw); go_simp
              simp only [Act.put, List.setIfInBounds_toArray, List.set_cons_zero, List.set_cons_succ]
              refine wpAnyH_take (i := 3) (oi := ⟨some 130, _, _, _, _, _⟩) (v := .pointer (some ⟨r, 0, none⟩)) rfl (by kernel_rfl) (by kernel_rfl) (by kernel_rfl) (fun _ _ _ h => h) (Or.inl ⟨by rfl, ?_⟩) (by assumption) ?_
              · intro w hSw; (try dsimp only at hSw); have hh := hSw.1; go_simp
              simp only [Act.put, List.setIfInBounds_toArray, List.set_cons_zero, List.set_cons_succ]
              refine wpAnyH_take (i := 4) (oi := ⟨some 131, _, _, _, _, _⟩) (v := .int .i64 x.n) rfl (by kernel_rfl) (by kernel_rfl) (by kernel_rfl) (fun _ _ _ h => h) (Or.inl ⟨by rfl, ?_⟩) (by assumption) ?_
              · intro w hSw; (try dsimp only at hSw); go_simp
              simp only [Act.put, List.setIfInBounds_toArray, List.set_cons_zero, List.set_cons_succ]
              refine wpAnyH_take (i := 5) (oi := ⟨some 132, _, _, _, _, _⟩) (v := .pointer (some ⟨N, 3, none⟩)) rfl (by kernel_rfl) (by kernel_rfl) (by kernel_rfl) (fun _ _ _ h => h) (Or.inl ⟨by rfl, ?_⟩) (by assumption) ?_
              · intro w hSw; (try dsimp only at hSw); go_simp
              simp only [Act.put, List.setIfInBounds_toArray, List.set_cons_zero, List.set_cons_succ]
              refine wpAnyH_take (i := 6) (oi := ⟨some 133, _, _, _, _, _⟩) (v := .int .i64 x.m) rfl (by kernel_rfl) (by kernel_rfl) (by kernel_rfl) (fun _ _ _ h => h) (Or.inl ⟨by rfl, ?_⟩) (by assumption) ?_
              · intro w hSw; (try dsimp only at hSw); have hh := (AC.out _ hSw.2).2.2.2.1; go_simp
              simp only [Act.put, List.setIfInBounds_toArray, List.set_cons_zero, List.set_cons_succ]
              refine wpAnyH_take (i := 7) (oi := ⟨some 134, _, _, _, _, _⟩) (v := .pointer (some ⟨N, 4, none⟩)) rfl (by kernel_rfl) (by kernel_rfl) (by kernel_rfl) (fun _ _ _ h => h) (Or.inl ⟨by rfl, ?_⟩) (by assumption) ?_
              · intro w hSw; (try dsimp only at hSw); go_simp
              simp only [Act.put, List.setIfInBounds_toArray, List.set_cons_zero, List.set_cons_succ]
              refine wpAnyH_take (i := 8) (oi := ⟨some 135, _, _, _, _, _⟩) (v := .string x.x) rfl (by kernel_rfl) (by kernel_rfl) (by kernel_rfl) (fun _ _ _ h => h) (Or.inl ⟨by rfl, ?_⟩) (by assumption) ?_
              · intro w hSw; (try dsimp only at hSw); have hh := (AC.out _ hSw.2).2.2.2.2.1; go_simp
              simp only [Act.put, List.setIfInBounds_toArray, List.set_cons_zero, List.set_cons_succ]
              refine wpAnyH_take (i := 10) (oi := ⟨some 137, _, _, _, _, _⟩) (v := .int .i64 er) rfl (by kernel_rfl) (by kernel_rfl) (by kernel_rfl) (fun _ _ _ h => h) (Or.inl ⟨by rfl, ?_⟩) (by assumption) ?_
              · intro w hSw; (try dsimp only at hSw); go_simp
              simp only [Act.put, List.setIfInBounds_toArray, List.set_cons_zero, List.set_cons_succ]
              refine wpAnyH_ready (rs := [9]) (by kernel_rfl) (by simp) ?_
              refine (AllReadyH.cons (o := ⟨some 136, _, _, _, _, _⟩) rfl (fun K hK => ?_) AllReadyH.nil)
              go_simp
              refine (SP.out _ _ H5.out.disk).mono ?_
              rintro e v6 ⟨fp6, rfl, st⟩
              have G6 := H5.out.disked st ML1.out.1
              have H6 := Lib.hid G6
              clear st G6
              refine hK.out _ _ ⟨Sm.cells_of (H6.out.lit HKP.out HKS.out) 0 _ rfl, H6.out.act⟩ (fun hHeld => ?_)
              clear hK K
              refine wpAnyH_take (i := 11) (oi := ⟨some 138, _, _, _, _, _⟩) (v := .bool true) rfl (by kernel_rfl) (by kernel_rfl) (by kernel_rfl) (fun _ _ _ h => h) (Or.inl ⟨by rfl, ?_⟩) (by assumption) ?_
              · intro w hSw; (try dsimp only at hSw); go_simp
              simp only [Act.put, List.setIfInBounds_toArray, List.set_cons_zero, List.set_cons_succ]
              refine wpAnyH_take (i := 12) (oi := ⟨some 139, _, _, _, _, _⟩) (v := .bool true) rfl (by kernel_rfl) (by kernel_rfl) (by kernel_rfl) (fun _ _ _ h => h) (Or.inl ⟨by rfl, ?_⟩) (by assumption) ?_
              · intro w hSw; (try dsimp only at hSw); go_simp
              simp only [Act.put, List.setIfInBounds_toArray, List.set_cons_zero, List.set_cons_succ]
              refine wpAnyH_take (i := 13) (oi := ⟨some 140, _, _, _, _, _⟩) (v := .pointer (some ⟨X, 0, none⟩)) rfl (by kernel_rfl) (by kernel_rfl) (by kernel_rfl) (fun _ _ _ h => h) (Or.inl ⟨by rfl, ?_⟩) (by assumption) ?_
              · intro w hSw; (try dsimp only at hSw); go_simp
              simp only [Act.put, List.setIfInBounds_toArray, List.set_cons_zero, List.set_cons_succ]
              refine wpAnyH_take (i := 14) (oi := ⟨some 141, _, _, _, _, _⟩) (v := .int .i64 a) rfl (by kernel_rfl) (by kernel_rfl) (by kernel_rfl) (fun _ _ _ h => h) (Or.inl ⟨by rfl, ?_⟩) (by assumption) ?_
              · intro w hSw; (try dsimp only at hSw); go_simp
              simp only [Act.put, List.setIfInBounds_toArray, List.set_cons_zero, List.set_cons_succ]
              refine wpAnyH_ready (rs := [15]) (by kernel_rfl) (by simp) ?_
              refine (AllReadyH.cons (o := ⟨some 142, _, _, _, _, _⟩) rfl (fun K hK => ?_) AllReadyH.nil)
              rw [if_pos (by rfl)]
              go_simp
              refine (OPN.out _ _ _ _ _ _ _ _ _ _ _ _ _ _ H6.out.w9 (by have := ML1.out.2; omega)).mono ?_
              rintro e v7 ⟨ko', K', n', rfl, W', iff', tu7⟩
              have act7 : v7.heap[N]? = some (.cells cs.toArray 47 (0, 0)) := (tu7.block N (Sm.lt_of H6.out.act) H6.out.nX).trans H6.out.act
              refine hK.out _ _ ⟨W'.ptr, act7⟩ (fun hHeld => ?_)
              clear hK K
              refine wpAnyH_take (i := 16) (oi := ⟨some 143, _, _, _, _, _⟩) (v := .bool true) rfl (by kernel_rfl) (by kernel_rfl) (by kernel_rfl) (fun _ _ _ h => h) (Or.inl ⟨by rfl, ?_⟩) (by assumption) ?_
              · intro w hSw; (try dsimp only at hSw); go_simp
              simp only [Act.put, List.setIfInBounds_toArray, List.set_cons_zero, List.set_cons_succ]
              refine wpAnyH_take (i := 17) (oi := ⟨some 6, _, _, _, _, _⟩) (v := .bool true) rfl (by kernel_rfl) (by kernel_rfl) (by kernel_rfl) (fun _ _ _ h => h) (Or.inl ⟨by rfl, ?_⟩) (by assumption) ?_
              · intro w hSw; (try dsimp only at hSw); go_simp
              simp only [Act.put, List.setIfInBounds_toArray, List.set_cons_zero, List.set_cons_succ]
              refine wpAnyH_done (by kernel_rfl) ?_ _
              clear hHeld
              go_wp2
              go_ret
              exact ⟨rfl, Kp.did9 W' iff' (by have := ML1.out.2; omega)⟩
            · rw [if_pos (by simp [Region.wanted])]
              go_simp
              have pQ1 := heap_alloc_new wd (.cells #[.slice none 0 0, .slice none 0 0, .int .i64 0, .bool false] 32)
              have R1 := R0.alloc (.cells #[.slice none 0 0, .slice none 0 0, .int .i64 0, .bool false] 32)
              obtain ⟨Q, hQ⟩ : ∃ Q, Q = wd.heap.size := ⟨_, rfl⟩
              have hQA : wd.heap.size ≤ Q := by rw [hQ]; exact R0.bel.size
              rw [← hQ] at pQ1 R1 ⊢
              clear hQ
              generalize wd.alloc (.cells #[.slice none 0 0, .slice none 0 0, .int .i64 0, .bool false] 32) = u1 at *
              have G7 := HGD.out.low' R1.bel
              refine hK.out _ _ ⟨G7.lit HKP.out HKS.out, G7.act⟩ (fun hHeld => ?_)
              clear hK K
              clear G7
              refine wpAnyH_ready (rs := [9]) (by kernel_rfl) (by simp) ?_
              refine (AllReadyH.cons (o := ⟨some 120, _, _, _, _, _⟩) rfl (fun K hK => ?_) AllReadyH.nil)
              go_simp
              refine (WR.out _ _ R1.ref R1.lt).mono ?_
              rintro e ux ⟨vn, rfl, href, k1⟩
              obtain ⟨tA, tn, tc, tB, tm, td, f2, o2, rfl⟩ := href.quad
              have R2 := R1.call href k1
              have pQ := (k1.block Q (Sm.lt_of pQ1)).trans pQ1
              have G7 := HGD.out.low' R2.bel
              clear href k1
              refine hK.out _ _ ⟨G7.lit HKP.out HKS.out, G7.act⟩ (fun hHeld => ?_)
              clear hK K
              clear G7
              refine wpAnyH_take (i := 10) (oi := ⟨some 110, _, _, _, _, _⟩) (v := .tuple #[.agg #[.slice tA tn tc, .slice tB tm td, .int .i64 f2, .bool o2], .int .i64 er]) rfl (by kernel_rfl) (by kernel_rfl) (by kernel_rfl) (fun _ _ _ h => h) (Or.inl ⟨by rfl, ?_⟩) (by assumption) ?_
              · intro w hSw; (try dsimp only at hSw); go_simp
              simp only [Act.put, List.setIfInBounds_toArray, List.set_cons_zero, List.set_cons_succ]
              refine wpAnyH_take (i := 11) (oi := ⟨some 121, _, _, _, _, _⟩) (v := .agg #[.slice tA tn tc, .slice tB tm td, .int .i64 f2, .bool o2]) rfl (by kernel_rfl) (by kernel_rfl) (by kernel_rfl) (fun _ _ _ h => h) (Or.inl ⟨by rfl, ?_⟩) (by assumption) ?_
              · intro w hSw; (try dsimp only at hSw); go_simp
              simp only [Act.put, List.setIfInBounds_toArray, List.set_cons_zero, List.set_cons_succ]
              refine wpAnyH_take (i := 12) (oi := ⟨some 122, _, _, _, _, _⟩) (v := .int .i64 er) rfl (by kernel_rfl) (by kernel_rfl) (by kernel_rfl) (fun _ _ _ h => h) (Or.inl ⟨by rfl, ?_⟩) (by assumption) ?_
              · intro w hSw; (try dsimp only at hSw); go_simp
              simp only [Act.put, List.setIfInBounds_toArray, List.set_cons_zero, List.set_cons_succ]
              refine wpAnyH_ready (rs := [14]) (by kernel_rfl) (by simp) ?_
              refine (AllReadyH.cons (o := ⟨none, _, _, _, _, _⟩) rfl (fun K hK => ?_) AllReadyH.nil)
              have z0 := Sm.cells_of pQ 0 _ rfl; have z1 := Sm.cells_of pQ 1 _ rfl; have z2 := Sm.cells_of pQ 2 _ rfl; have z3 := Sm.cells_of pQ 3 _ rfl
              have zf0 := Sm.free_of pQ 0; have zf1 := Sm.free_of pQ 1; have zf2 := Sm.free_of pQ 2; have zf3 := Sm.free_of pQ 3
              go_simp
              have R3 := R2.set (Kp.turned4 ux Q (.slice tA tn tc) (.slice tB tm td) (.int .i64 f2) (.bool o2)) hQA (.inr rfl)
              have p3 := Dk.set4 pQ rfl (.slice tA tn tc) (.slice tB tm td) (.int .i64 f2) (.bool o2)
              clear z0 z1 z2 z3 zf0 zf1 zf2 zf3
              generalize ((((ux.setCell ⟨Q, 0, none⟩ (.slice tA tn tc)).setCell ⟨Q, 1, none⟩ (.slice tB tm td)).setCell ⟨Q, 2, none⟩ (.int .i64 f2)).setCell ⟨Q, 3, none⟩ (.bool o2)) = u3 at *
              have G7 := HGD.out.low' R3.bel
              refine hK.out _ _ ⟨G7.lit HKP.out HKS.out, G7.act⟩ (fun hHeld => ?_)
              clear hK K
              clear G7
              refine wpAnyH_take (i := 15) (oi := ⟨some 13, _, _, _, _, _⟩) (v := .int .i64 er) rfl (by kernel_rfl) (by kernel_rfl) (by kernel_rfl) (fun _ _ _ h => h) (Or.inl ⟨by rfl, ?_⟩) (by assumption) ?_
              · intro w hSw; (try dsimp only at hSw); go_simp
              simp only [Act.put, List.setIfInBounds_toArray, List.set_cons_zero, List.set_cons_succ]
              refine wpAnyH_done (by kernel_rfl) ?_ _
              clear hHeld
              have G3 := HGD.out.low' R3.bel
              have hr3 : Dk.RefAt u3 (fun q => fp q ∨ q = X ∨ ko = some q) (.agg #[.slice tA tn tc, .slice tB tm td, .int .i64 f2, .bool o2]) M1 := R3.ref.off fun q _ e => .inl e
              have xl3 := G3.lit HKP.out HKS.out
              have y0 := Sm.cells_of p3 0 _ rfl; have y1 := Sm.cells_of p3 1 _ rfl; have y2 := Sm.cells_of p3 2 _ rfl; have y3 := Sm.cells_of p3 3 _ rfl
              have x2 := Sm.cells_of xl3 2 _ rfl; have x3 := Sm.cells_of xl3 3 _ rfl; have x4 := Sm.cells_of xl3 4 _ rfl; have x5 := Sm.cells_of xl3 5 _ rfl
              have xf2 := Sm.free_of xl3 2; have xf3 := Sm.free_of xl3 3; have xf4 := Sm.free_of xl3 4; have xf5 := Sm.free_of xl3 5
              have b4 := Kp.setX4 xl3 (.slice tA tn tc) (.slice tB tm td) (.int .i64 f2) (.bool o2)
              have t4 := Kp.setX4_turned u3 X (.slice tA tn tc) (.slice tB tm td) (.int .i64 f2) (.bool o2)
              have G4 := G3.touch t4 HKP.out HKS.out b4 hr3
              have H4 := Lib.hid G4
              clear b4 t4 G4 G3 xl3 hr3 R0 R1 R2 R3 p3 pQ
              go_upto_region 23 with (fail)
              clear y0 y1 y2 y3 x2 x3 x4 x5 xf2 xf3 xf4 xf5
              generalize ((((u3.setCell ⟨X, 2, none⟩ (.slice tA tn tc)).setCell ⟨X, 3, none⟩ (.slice tB tm td)).setCell ⟨X, 4, none⟩ (.int .i64 f2)).setCell ⟨X, 5, none⟩ (.bool o2)) = u4 at *
              have G5 := H4.out.low' ((Below.refl _ u4).drew)
              have c5 : u4.drew.cell? ⟨X, 0, none⟩ = some (.pointer (some ⟨r, 0, none⟩)) := Sm.cells_of (G5.lit HKP.out HKS.out) 0 _ rfl
              have H5 := Lib.hid G5
              refine wp_region_held_drew (S := (fun w' => w'.cell? ⟨X, 0, none⟩ = some (.pointer (some ⟨r, 0, none⟩)) ∧ w'.heap[N]? = some (.cells cs.toArray 47 (0, 0)))) (by kernel_rfl) ⟨c5, G5.act⟩ (fun hHeld => ?_)
              clear G5 c5
              generalize u4.drew = ue at *
              refine wpAnyH_take (i := 0) (oi := ⟨some 127, _, _, _, _, _⟩) (v := .pointer (some ⟨X, 0, none⟩)) rfl (by kernel_rfl) (by kernel_rfl) (by kernel_rfl) (fun _ _ _ h => h) (Or.inl ⟨by rfl, ?_⟩) (by assumption) ?_
              · intro w hSw; (try dsimp only at hSw); go_simp
              simp only [Act.put, List.setIfInBounds_toArray, List.set_cons_zero, List.set_cons_succ]
              refine wpAnyH_take (i := 1) (oi := ⟨some 128, _, _, _, _, _⟩) (v := .pointer (some ⟨X, 0, none⟩)) rfl (by kernel_rfl) (by kernel_rfl) (by kernel_rfl) (fun _ _ _ h => h) (Or.inl ⟨by rfl, ?_⟩) (by assumption) ?_
              · intro w hSw; (try dsimp only at hSw); go_simp
              simp only [Act.put, List.setIfInBounds_toArray, List.set_cons_zero, List.set_cons_succ]
              refine wpAnyH_take (i := 2) (oi := ⟨some 129, _, _, _, _, _⟩) (v := .pointer (some ⟨X, 0, none⟩)) rfl (by kernel_rfl) (by kernel_rfl) (by kernel_rfl) (fun _ _ _ h => h) (Or.inl ⟨by rfl, ?_⟩) (by assumption) ?_
              · intro w hSw; (try dsimp only at hSw); go_simp
              simp only [Act.put, List.setIfInBounds_toArray, List.set_cons_zero, List.set_cons_succ]
              refine wpAnyH_take (i := 3) (oi := ⟨some 130, _, _, _, _, _⟩) (v := .pointer (some ⟨r, 0, none⟩)) rfl (by kernel_rfl) (by kernel_rfl) (by kernel_rfl) (fun _ _ _ h => h) (Or.inl ⟨by rfl, ?_⟩) (by assumption) ?_
              · intro w hSw; (try dsimp only at hSw); have hh := hSw.1; go_simp
              simp only [Act.put, List.setIfInBounds_toArray, List.set_cons_zero, List.set_cons_succ]
              refine wpAnyH_take (i := 4) (oi := ⟨some 131, _, _, _, _, _⟩) (v := .int .i64 x.n) rfl (by kernel_rfl) (by kernel_rfl) (by kernel_rfl) (fun _ _ _ h => h) (Or.inl ⟨by rfl, ?_⟩) (by assumption) ?_
              · intro w hSw; (try dsimp only at hSw); go_simp
              simp only [Act.put, List.setIfInBounds_toArray, List.set_cons_zero, List.set_cons_succ]
              refine wpAnyH_take (i := 5) (oi := ⟨some 132, _, _, _, _, _⟩) (v := .pointer (some ⟨N, 3, none⟩)) rfl (by kernel_rfl) (by kernel_rfl) (by kernel_rfl) (fun _ _ _ h => h) (Or.inl ⟨by rfl, ?_⟩) (by assumption) ?_
              · intro w hSw; (try dsimp only at hSw); go_simp
              simp only [Act.put, List.setIfInBounds_toArray, List.set_cons_zero, List.set_cons_succ]
              refine wpAnyH_take (i := 6) (oi := ⟨some 133, _, _, _, _, _⟩) (v := .int .i64 x.m) rfl (by kernel_rfl) (by kernel_rfl) (by kernel_rfl) (fun _ _ _ h => h) (Or.inl ⟨by rfl, ?_⟩) (by assumption) ?_
              · intro w hSw; (try dsimp only at hSw); have hh := (AC.out _ hSw.2).2.2.2.1; go_simp
              simp only [Act.put, List.setIfInBounds_toArray, List.set_cons_zero, List.set_cons_succ]
              refine wpAnyH_take (i := 7) (oi := ⟨some 134, _, _, _, _, _⟩) (v := .pointer (some ⟨N, 4, none⟩)) rfl (by kernel_rfl) (by kernel_rfl) (by kernel_rfl) (fun _ _ _ h => h) (Or.inl ⟨by rfl, ?_⟩) (by assumption) ?_
              · intro w hSw; (try dsimp only at hSw); go_simp
              simp only [Act.put, List.setIfInBounds_toArray, List.set_cons_zero, List.set_cons_succ]
              refine wpAnyH_take (i := 8) (oi := ⟨some 135, _, _, _, _, _⟩) (v := .string x.x) rfl (by kernel_rfl) (by kernel_rfl) (by kernel_rfl) (fun _ _ _ h => h) (Or.inl ⟨by rfl, ?_⟩) (by assumption) ?_
              · intro w hSw; (try dsimp only at hSw); have hh := (AC.out _ hSw.2).2.2.2.2.1; go_simp
              simp only [Act.put, List.setIfInBounds_toArray, List.set_cons_zero, List.set_cons_succ]
              refine wpAnyH_take (i := 10) (oi := ⟨some 137, _, _, _, _, _⟩) (v := .int .i64 er) rfl (by kernel_rfl) (by kernel_rfl) (by kernel_rfl) (fun _ _ _ h => h) (Or.inl ⟨by rfl, ?_⟩) (by assumption) ?_
              · intro w hSw; (try dsimp only at hSw); go_simp
              simp only [Act.put, List.setIfInBounds_toArray, List.set_cons_zero, List.set_cons_succ]
              refine wpAnyH_ready (rs := [9]) (by kernel_rfl) (by simp) ?_
              refine (AllReadyH.cons (o := ⟨some 136, _, _, _, _, _⟩) rfl (fun K hK => ?_) AllReadyH.nil)
              go_simp
              refine (SP.out _ _ H5.out.disk).mono ?_
              rintro e v6 ⟨fp6, rfl, st⟩
              have G6 := H5.out.disked st ML1.out.1
              have H6 := Lib.hid G6
              clear st G6
              refine hK.out _ _ ⟨Sm.cells_of (H6.out.lit HKP.out HKS.out) 0 _ rfl, H6.out.act⟩ (fun hHeld => ?_)
              clear hK K
              refine wpAnyH_take (i := 11) (oi := ⟨some 138, _, _, _, _, _⟩) (v := .bool true) rfl (by kernel_rfl) (by kernel_rfl) (by kernel_rfl) (fun _ _ _ h => h) (Or.inl ⟨by rfl, ?_⟩) (by assumption) ?_
              · intro w hSw; (try dsimp only at hSw); go_simp
              simp only [Act.put, List.setIfInBounds_toArray, List.set_cons_zero, List.set_cons_succ]
              refine wpAnyH_take (i := 12) (oi := ⟨some 139, _, _, _, _, _⟩) (v := .bool true) rfl (by kernel_rfl) (by kernel_rfl) (by kernel_rfl) (fun _ _ _ h => h) (Or.inl ⟨by rfl, ?_⟩) (by assumption) ?_
              · intro w hSw; (try dsimp only at hSw); go_simp
              simp only [Act.put, List.setIfInBounds_toArray, List.set_cons_zero, List.set_cons_succ]
              refine wpAnyH_take (i := 13) (oi := ⟨some 140, _, _, _, _, _⟩) (v := .pointer (some ⟨X, 0, none⟩)) rfl (by kernel_rfl) (by kernel_rfl) (by kernel_rfl) (fun _ _ _ h => h) (Or.inl ⟨by rfl, ?_⟩) (by assumption) ?_
              · intro w hSw; (try dsimp only at hSw); go_simp
              simp only [Act.put, List.setIfInBounds_toArray, List.set_cons_zero, List.set_cons_succ]
              refine wpAnyH_take (i := 14) (oi := ⟨some 141, _, _, _, _, _⟩) (v := .int .i64 a) rfl (by kernel_rfl) (by kernel_rfl) (by kernel_rfl) (fun _ _ _ h => h) (Or.inl ⟨by rfl, ?_⟩) (by assumption) ?_
              · intro w hSw; (try dsimp only at hSw); go_simp
              simp only [Act.put, List.setIfInBounds_toArray, List.set_cons_zero, List.set_cons_succ]
              refine wpAnyH_ready (rs := [15]) (by kernel_rfl) (by simp) ?_
              refine (AllReadyH.cons (o := ⟨some 142, _, _, _, _, _⟩) rfl (fun K hK => ?_) AllReadyH.nil)
              rw [if_pos (by rfl)]
              go_simp
              refine (OPN.out _ _ _ _ _ _ _ _ _ _ _ _ _ _ H6.out.w9 (by have := ML1.out.2; omega)).mono ?_
              rintro e v7 ⟨ko', K', n', rfl, W', iff', tu7⟩
              have act7 : v7.heap[N]? = some (.cells cs.toArray 47 (0, 0)) := (tu7.block N (Sm.lt_of H6.out.act) H6.out.nX).trans H6.out.act
              refine hK.out _ _ ⟨W'.ptr, act7⟩ (fun hHeld => ?_)
              clear hK K
              refine wpAnyH_take (i := 16) (oi := ⟨some 143, _, _, _, _, _⟩) (v := .bool true) rfl (by kernel_rfl) (by kernel_rfl) (by kernel_rfl) (fun _ _ _ h => h) (Or.inl ⟨by rfl, ?_⟩) (by assumption) ?_
              · intro w hSw; (try dsimp only at hSw); go_simp
              simp only [Act.put, List.setIfInBounds_toArray, List.set_cons_zero, List.set_cons_succ]
              refine wpAnyH_take (i := 17) (oi := ⟨some 6, _, _, _, _, _⟩) (v := .bool true) rfl (by kernel_rfl) (by kernel_rfl) (by kernel_rfl) (fun _ _ _ h => h) (Or.inl ⟨by rfl, ?_⟩) (by assumption) ?_
              · intro w hSw; (try dsimp only at hSw); go_simp
              simp only [Act.put, List.setIfInBounds_toArray, List.set_cons_zero, List.set_cons_succ]
              refine wpAnyH_done (by kernel_rfl) ?_ _
              clear hHeld
              go_wp2
              go_ret
              exact ⟨rfl, Kp.did9 W' iff' (by have := ML1.out.2; omega)⟩
        · by_cases e4 : x.d = 4
          · rw [e4] at d0
            clear e0 e1 e2 e3 e4 AC
            go_wp2_with fail
            refine (OPN.out _ _ _ _ _ _ _ _ _ _ _ _ _ _ GG.out.w9 (by omega)).mono ?_
            rintro e u1 ⟨ko', K', n', rfl, W', iff', _⟩
            go_wp2
            go_ret
            exact ⟨rfl, Kp.did9 W' iff' (by omega)⟩
          · clear AC
            have e0' : (x.d == 0) = false := beq_eq_false_iff_ne.2 e0
            have e1' : (x.d == 1) = false := beq_eq_false_iff_ne.2 e1
            have e2' : (x.d == 2) = false := beq_eq_false_iff_ne.2 e2
            have e3' : (x.d == 3) = false := beq_eq_false_iff_ne.2 e3
            have e4' : (x.d == 4) = false := beq_eq_false_iff_ne.2 e4
            clear e0 e1 e2 e3 e4
            go_wp2_with fail
            go_ret
            exact ⟨rfl, Kp.did9 GG.out.w9 HIF.out (by omega)⟩
end Go.Proofs.Ytmdhnokgjapglaa
