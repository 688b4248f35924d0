/-
  An act beside the document's.
-/
import Derived.Test.YtimbcmcmidnlfaaNtRefOps
namespace Go.Proofs.Ytimbcmcmidnlfaa
open Go.RowKit
set_option maxRecDepth 100000 in
set_option maxHeartbeats 8000000 in
theorem does8_any {B : Nat} {w0 w : World} {r rw : Nat} {v : Value} {M : Nt.Md} (h : Nt.Both B w0 w r rw v Nt.Non M M) (x : Nt.Ac) (hok : x.Ok) (hd : x.p.d.size ≤ 1099511627776) :
    Calls Try.prog 21 #[.pointer (some ⟨r, 0, none⟩), .pointer (some ⟨rw, 0, none⟩), .agg x.cells.toArray] w fun e w' => e = .returned (.bool true) ∧ ∃ v', Nt.Both B w0 w' r rw v' Nt.Non (Nt.doAct M x) (Nt.doAct M x) := by
  obtain ⟨N, hN⟩ : ∃ n, n = w.heap.size := ⟨_, rfl⟩
  have b1 : Below w.heap.size w (w.alloc (.cells x.cells.toArray 41)) := (Below.refl _ w).alloc (Nat.le_refl _) _
  have h1 := h.low b1
  have g1 := heap_alloc_new w (.cells x.cells.toArray 41)
  have hrN : N ≠ r := by have := h.own.lt; omega
  have hwN : N ≠ rw := by have := Sm.lt_of h.ref; omega
  have hvN : ∀ (wx : World) (vx : Value) (Y : Nat → Prop) (Ma Mb : Nt.Md), Nt.Both B w0 wx r rw vx Y Ma Mb → wx.heap[N]? = some (.cells x.cells.toArray 41 (0, 0)) → vx.ownBlock ≠ some N := fun _ _ _ _ _ hb hg e => by
    obtain ⟨_, cs, h2⟩ := Nt.own_blk hb.row e
    exact Nt.type_ne h2 hg (by decide) rfl
  have HVN := Lib.hid hvN
  have HOK := Lib.hid hok
  clear h b1 hok hvN
  rw [← hN] at g1
  obtain ⟨w1, hw1⟩ : ∃ y, y = w.alloc (.cells x.cells.toArray 41) := ⟨_, rfl⟩
  rw [← hw1] at h1 g1
  have HW1 := Lib.hid hw1
  have HN := Lib.hid hN
  clear hw1 hN
  unfold Nt.Ac.cells at *
  go_enter Try.func21, Try.ntmps21
  go_upto_region 1 with (fail)
  rw [← HW1.out, ← HN.out]
  have d0 := Sm.cells_of g1 0 _ rfl
  have d1 := Sm.cells_of g1 1 _ rfl
  have d2 := Sm.cells_of g1 2 _ rfl
  have d3 := Sm.cells_of g1 3 _ rfl
  have d4 := Sm.cells_of g1 4 _ rfl
  have d5 := Sm.cells_of g1 5 _ rfl
  by_cases e0 : x.a = 0
  · rw [e0] at d0
    have E0 := Lib.hid e0
    have hy := x.y.toNat_lt
    have H1 := Lib.hid h1
    have HD := Lib.hid hd
    clear d1 d2 d3 d4 d5 h1 e0 hd
    go_wp2
    go_loopw [7] (fun s7 wq => ∃ (j : Nat) (vj : Value), s7 = .int .i64 j ∧ j ≤ Nt.times x ∧ Nt.Both B w0 wq r rw vj Nt.Non (Nt.posts M x.p j) (Nt.posts M x.p j) ∧ wq.heap[N]? = some (.cells #[.int .i64 x.a, .int .i64 x.p.f, .int .i64 x.p.t, .string x.p.d, .int .i64 x.i, .int .u8 x.y.toNat] 41 (0, 0))) (fun s7 _ => Nt.times x - (intOf s7).toNat)
    case atStart => exact ⟨0, v, rfl, Nat.zero_le _, H1.out, g1⟩
    case round =>
      clear H1 g1
      obtain ⟨j, vj, rfl, hj, oj, gj⟩ := hrel
      have q5 := Sm.cells_of gj 5 _ rfl
      have htm : ((x.y.toNat : Nat) : Int).tmod 80 = ((x.y.toNat % 80 : Nat) : Int) := by rw [Int.tmod_eq_emod_of_nonneg (by omega)]; omega
      obtain ⟨t, ht⟩ : ∃ t, t = x.y.toNat % 80 := ⟨_, rfl⟩
      have htt : Nt.times x = max 1 t := by rw [ht]; rfl
      have ht80 : t < 80 := by omega
      rw [← ht] at htm
      have hcv : IntKind.i64.wrap (t : Int) = t := by simp [IntKind.wrap, IntKind.bits, IntKind.signed]; omega
      have hcu : IntKind.u8.wrap (t : Int) = t := by rw [IntKind.wrap_u8]; omega
      have hsj : IntKind.i64.wrap ((j : Int) + 1) = ((j + 1 : Nat) : Int) := by simp [IntKind.wrap, IntKind.bits, IntKind.signed]; omega
      have HTT := Lib.hid htt
      have HJ := Lib.hid hj
      clear ht htt hj
      by_cases hdo : j = 0 ∨ j < t
      · have hnx : j + 1 ≤ Nt.times x := by have := HTT.out; omega
        have HNX := Lib.hid hnx
        clear hnx
        obtain ⟨ps, hps⟩ : ∃ ps, ps = x.p.cells := ⟨_, rfl⟩
        have hpl : ps.length = 3 := by rw [hps]; rfl
        have HPS := Lib.hid hps
        have HPL := Lib.hid hpl
        have hpr : ∀ wx : World, wx.heap[N]? = some (.cells #[.int .i64 x.a, .int .i64 x.p.f, .int .i64 x.p.t, .string x.p.d, .int .i64 x.i, .int .u8 x.y.toNat] 41 (0, 0)) → wx.rangeAt N 1 ps := fun wx hx k u hu => by
          rw [hps] at hu
          have hk : k < 3 := (List.getElem?_eq_some_iff.1 hu).1
          match k, hk with
          | 0, _ => simp [Nt.Pk.cells] at hu; subst hu; exact Sm.cells_of hx 1 _ rfl
          | 1, _ => simp [Nt.Pk.cells] at hu; subst hu; exact Sm.cells_of hx 2 _ rfl
          | 2, _ => simp [Nt.Pk.cells] at hu; subst hu; exact Sm.cells_of hx 3 _ rfl
        have HPR := Lib.hid hpr
        have GJ := Lib.hid gj
        have OJ := Lib.hid oj
        clear hps hpl hpr gj oj
        rcases Nat.eq_zero_or_pos j with hj0 | hj0
        · subst hj0
          go_upto_region 6 with (fail)
          have hS0 := HPR.out wr.drew GJ.out
          refine wp_region_held_drew (S := (fun w' => w'.rangeAt N 1 ps)) (by kernel_rfl) hS0 (fun hHeld => ?_)
          refine wpAnyH_take (i := 0) (oi := ⟨some 30, _, _, _, _, _⟩) (v := .pointer (some ⟨r, 0, none⟩)) rfl (by kernel_rfl) (by kernel_rfl) (by kernel_rfl) (fun _ _ _ h => h) (Or.inl ⟨by rfl, ?_⟩) (by assumption) ?_
          · intro w hSw; (try dsimp only at hSw); go_simp
          simp only [Act.put, List.setIfInBounds_toArray, List.set_cons_zero, List.set_cons_succ]
          refine wpAnyH_take (i := 1) (oi := ⟨some 31, _, _, _, _, _⟩) (v := .pointer (some ⟨N, 1, none⟩)) rfl (by kernel_rfl) (by kernel_rfl) (by kernel_rfl) (fun _ _ _ h => h) (Or.inl ⟨by rfl, ?_⟩) (by assumption) ?_
          · intro w hSw; (try dsimp only at hSw); go_simp
          simp only [Act.put, List.setIfInBounds_toArray, List.set_cons_zero, List.set_cons_succ]
          refine wpAnyH_take (i := 2) (oi := ⟨some 32, _, _, _, _, _⟩) (v := .agg ps.toArray) rfl (by kernel_rfl) (by kernel_rfl) (by kernel_rfl) (fun _ _ _ h => h) (yieldsIf_load_mid (by rfl) _ _ rfl _ _ rfl ps _ (fun w hS => hS) Try.underlying25 rfl (Nt.infoPkL HPL.out)) (by assumption) ?_
          simp only [Act.put, List.setIfInBounds_toArray, List.set_cons_zero, List.set_cons_succ]
          refine wpAnyH_take (i := 4) (oi := ⟨some 34, _, _, _, _, _⟩) (v := .pointer (some ⟨rw, 0, none⟩)) rfl (by kernel_rfl) (by kernel_rfl) (by kernel_rfl) (fun _ _ _ h => h) (Or.inl ⟨by rfl, ?_⟩) (by assumption) ?_
          · intro w hSw; (try dsimp only at hSw); go_simp
          simp only [Act.put, List.setIfInBounds_toArray, List.set_cons_zero, List.set_cons_succ]
          refine wpAnyH_take (i := 5) (oi := ⟨some 35, _, _, _, _, _⟩) (v := .pointer (some ⟨N, 1, none⟩)) rfl (by kernel_rfl) (by kernel_rfl) (by kernel_rfl) (fun _ _ _ h => h) (Or.inl ⟨by rfl, ?_⟩) (by assumption) ?_
          · intro w hSw; (try dsimp only at hSw); go_simp
          simp only [Act.put, List.setIfInBounds_toArray, List.set_cons_zero, List.set_cons_succ]
          refine wpAnyH_take (i := 6) (oi := ⟨some 36, _, _, _, _, _⟩) (v := .agg ps.toArray) rfl (by kernel_rfl) (by kernel_rfl) (by kernel_rfl) (fun _ _ _ h => h) (yieldsIf_load_mid (by rfl) _ _ rfl _ _ rfl ps _ (fun w hS => hS) Try.underlying25 rfl (Nt.infoPkL HPL.out)) (by assumption) ?_
          simp only [Act.put, List.setIfInBounds_toArray, List.set_cons_zero, List.set_cons_succ]
          refine wpAnyH_ready (rs := [3]) (by kernel_rfl) (by simp) ?_
          refine (AllReadyH.cons (o := ⟨some 33, _, _, _, _, _⟩) rfl (fun K hK => ?_) AllReadyH.nil)
          go_simp
          rw [HPS.out]
          have od := OJ.out.low ((Below.refl _ wr).drew)
          refine (ntPost_any od.own x.p HOK.out.f HD.out).mono ?_
          rintro e w3 ⟨rfl, s3⟩
          have o3 := od.net s3
          have g3 : w3.heap[N]? = some (.cells #[.int .i64 x.a, .int .i64 x.p.f, .int .i64 x.p.t, .string x.p.d, .int .i64 x.i, .int .u8 x.y.toNat] 41 (0, 0)) := (s3.turned.block N (Sm.lt_of GJ.out) (fun e => hrN (Option.some.inj e))).trans GJ.out
          clear od s3
          refine hK.out _ _ (HPR.out w3 g3) (fun hHeld => ?_)
          clear hK K
          refine wpAnyH_ready (rs := [7]) (by kernel_rfl) (by simp) ?_
          refine (AllReadyH.cons (o := ⟨some 37, _, _, _, _, _⟩) rfl (fun K hK => ?_) AllReadyH.nil)
          go_simp
          refine (r8Post_any o3 x.p HD.out).mono ?_
          rintro e w4 ⟨rfl, v4, o4, f4, z4⟩
          have g4 : w4.heap[N]? = some (.cells #[.int .i64 x.a, .int .i64 x.p.f, .int .i64 x.p.t, .string x.p.d, .int .i64 x.i, .int .u8 x.y.toNat] 41 (0, 0)) := (f4 N (Sm.lt_of g3) hwN (HVN.out _ _ _ _ _ o3 g3)).trans g3
          have O4 : Hid (Nt.Both B w0 w4 r rw v4 Nt.Non (Nt.posts M x.p (1)) (Nt.posts M x.p (1))) := o4
          have G4 := Lib.hid g4
          clear o3 g3 f4 z4 o4
          obtain ⟨er, her⟩ : ∃ e, e = (Nt.post (Nt.posts M x.p 0) x.p).2 := ⟨_, rfl⟩
          rw [← her]
          clear her
          refine hK.out _ _ (HPR.out w4 g4) (fun hHeld => ?_)
          clear hK K g4
          refine wpAnyH_take (i := 8) (oi := ⟨some 38, _, _, _, _, _⟩) (v := .bool false) rfl (by kernel_rfl) (by kernel_rfl) (by kernel_rfl) (fun _ _ _ h => h) (Or.inl ⟨by rfl, ?_⟩) (by assumption) ?_
          · intro w hSw; (try dsimp only at hSw); go_simp
          simp only [Act.put, List.setIfInBounds_toArray, List.set_cons_zero, List.set_cons_succ]
          refine wpAnyH_done (by kernel_rfl) ?_ _
          clear hHeld hS0
          go_wp2
          go_roundw
          case rel => exact ⟨1, v4, rfl, HNX.out, O4.out, G4.out⟩
          case measure => have := HNX.out; simp [intOf]; omega
        · have hji : (j : Int) < (t : Int) := by omega
          have hj1 : ((j : Int) == 0) = false := beq_eq_false_iff_ne.2 (by omega)
          go_upto_region 6 with (fail)
          have hS0 := HPR.out wr.drew GJ.out
          refine wp_region_held_drew (S := (fun w' => w'.rangeAt N 1 ps)) (by kernel_rfl) hS0 (fun hHeld => ?_)
          refine wpAnyH_take (i := 0) (oi := ⟨some 30, _, _, _, _, _⟩) (v := .pointer (some ⟨r, 0, none⟩)) rfl (by kernel_rfl) (by kernel_rfl) (by kernel_rfl) (fun _ _ _ h => h) (Or.inl ⟨by rfl, ?_⟩) (by assumption) ?_
          · intro w hSw; (try dsimp only at hSw); go_simp
          simp only [Act.put, List.setIfInBounds_toArray, List.set_cons_zero, List.set_cons_succ]
          refine wpAnyH_take (i := 1) (oi := ⟨some 31, _, _, _, _, _⟩) (v := .pointer (some ⟨N, 1, none⟩)) rfl (by kernel_rfl) (by kernel_rfl) (by kernel_rfl) (fun _ _ _ h => h) (Or.inl ⟨by rfl, ?_⟩) (by assumption) ?_
          · intro w hSw; (try dsimp only at hSw); go_simp
          simp only [Act.put, List.setIfInBounds_toArray, List.set_cons_zero, List.set_cons_succ]
          refine wpAnyH_take (i := 2) (oi := ⟨some 32, _, _, _, _, _⟩) (v := .agg ps.toArray) rfl (by kernel_rfl) (by kernel_rfl) (by kernel_rfl) (fun _ _ _ h => h) (yieldsIf_load_mid (by rfl) _ _ rfl _ _ rfl ps _ (fun w hS => hS) Try.underlying25 rfl (Nt.infoPkL HPL.out)) (by assumption) ?_
          simp only [Act.put, List.setIfInBounds_toArray, List.set_cons_zero, List.set_cons_succ]
          refine wpAnyH_take (i := 4) (oi := ⟨some 34, _, _, _, _, _⟩) (v := .pointer (some ⟨rw, 0, none⟩)) rfl (by kernel_rfl) (by kernel_rfl) (by kernel_rfl) (fun _ _ _ h => h) (Or.inl ⟨by rfl, ?_⟩) (by assumption) ?_
          · intro w hSw; (try dsimp only at hSw); go_simp
          simp only [Act.put, List.setIfInBounds_toArray, List.set_cons_zero, List.set_cons_succ]
          refine wpAnyH_take (i := 5) (oi := ⟨some 35, _, _, _, _, _⟩) (v := .pointer (some ⟨N, 1, none⟩)) rfl (by kernel_rfl) (by kernel_rfl) (by kernel_rfl) (fun _ _ _ h => h) (Or.inl ⟨by rfl, ?_⟩) (by assumption) ?_
          · intro w hSw; (try dsimp only at hSw); go_simp
          simp only [Act.put, List.setIfInBounds_toArray, List.set_cons_zero, List.set_cons_succ]
          refine wpAnyH_take (i := 6) (oi := ⟨some 36, _, _, _, _, _⟩) (v := .agg ps.toArray) rfl (by kernel_rfl) (by kernel_rfl) (by kernel_rfl) (fun _ _ _ h => h) (yieldsIf_load_mid (by rfl) _ _ rfl _ _ rfl ps _ (fun w hS => hS) Try.underlying25 rfl (Nt.infoPkL HPL.out)) (by assumption) ?_
          simp only [Act.put, List.setIfInBounds_toArray, List.set_cons_zero, List.set_cons_succ]
          refine wpAnyH_ready (rs := [3]) (by kernel_rfl) (by simp) ?_
          refine (AllReadyH.cons (o := ⟨some 33, _, _, _, _, _⟩) rfl (fun K hK => ?_) AllReadyH.nil)
          go_simp
          rw [HPS.out]
          have od := OJ.out.low ((Below.refl _ wr).drew)
          refine (ntPost_any od.own x.p HOK.out.f HD.out).mono ?_
          rintro e w3 ⟨rfl, s3⟩
          have o3 := od.net s3
          have g3 : w3.heap[N]? = some (.cells #[.int .i64 x.a, .int .i64 x.p.f, .int .i64 x.p.t, .string x.p.d, .int .i64 x.i, .int .u8 x.y.toNat] 41 (0, 0)) := (s3.turned.block N (Sm.lt_of GJ.out) (fun e => hrN (Option.some.inj e))).trans GJ.out
          clear od s3
          refine hK.out _ _ (HPR.out w3 g3) (fun hHeld => ?_)
          clear hK K
          refine wpAnyH_ready (rs := [7]) (by kernel_rfl) (by simp) ?_
          refine (AllReadyH.cons (o := ⟨some 37, _, _, _, _, _⟩) rfl (fun K hK => ?_) AllReadyH.nil)
          go_simp
          refine (r8Post_any o3 x.p HD.out).mono ?_
          rintro e w4 ⟨rfl, v4, o4, f4, z4⟩
          have g4 : w4.heap[N]? = some (.cells #[.int .i64 x.a, .int .i64 x.p.f, .int .i64 x.p.t, .string x.p.d, .int .i64 x.i, .int .u8 x.y.toNat] 41 (0, 0)) := (f4 N (Sm.lt_of g3) hwN (HVN.out _ _ _ _ _ o3 g3)).trans g3
          have O4 : Hid (Nt.Both B w0 w4 r rw v4 Nt.Non (Nt.posts M x.p (j + 1)) (Nt.posts M x.p (j + 1))) := o4
          have G4 := Lib.hid g4
          clear o3 g3 f4 z4 o4
          obtain ⟨er, her⟩ : ∃ e, e = (Nt.post (Nt.posts M x.p j) x.p).2 := ⟨_, rfl⟩
          rw [← her]
          clear her
          refine hK.out _ _ (HPR.out w4 g4) (fun hHeld => ?_)
          clear hK K g4
          refine wpAnyH_take (i := 8) (oi := ⟨some 38, _, _, _, _, _⟩) (v := .bool false) rfl (by kernel_rfl) (by kernel_rfl) (by kernel_rfl) (fun _ _ _ h => h) (Or.inl ⟨by rfl, ?_⟩) (by assumption) ?_
          · intro w hSw; (try dsimp only at hSw); go_simp
          simp only [Act.put, List.setIfInBounds_toArray, List.set_cons_zero, List.set_cons_succ]
          refine wpAnyH_done (by kernel_rfl) ?_ _
          clear hHeld hS0
          go_wp2
          go_roundw
          case rel => exact ⟨j + 1, v4, rfl, HNX.out, O4.out, G4.out⟩
          case measure => have := HNX.out; simp [intOf]; omega
      · have hji : ¬ (j : Int) < (t : Int) := by omega
        have hj1 : ((j : Int) == 0) = false := beq_eq_false_iff_ne.2 (by omega)
        have hje : j = Nt.times x := by have := HJ.out; have := HTT.out; omega
        rw [hje] at oj
        have O3 := Lib.hid oj
        clear oj gj hje
        go_wp2
        go_ret
        exact ⟨rfl, vj, by rw [Nt.doAct_0 E0.out]; exact O3.out⟩
  · by_cases e1 : x.a = 1
    · rw [e1] at d0
      have E1 := Lib.hid e1
      obtain ⟨T, hT⟩ : ∃ T, T = Nt.take M x.i := ⟨_, rfl⟩
      have HT := Lib.hid hT
      clear e0 e1 hT
      go_wp2_with fail
      refine (ntTake_any h1.own x.i).mono ?_
      rintro e w3 ⟨rfl, s3⟩
      have o3 := h1.net s3
      have g3 := (s3.turned.block N (Sm.lt_of g1) (fun e => hrN (Option.some.inj e))).trans g1
      rw [← HT.out] at o3 ⊢
      obtain ⟨M', ⟨pf, pt, pd⟩, er⟩ := T
      clear s3 h1 g1 d0 d1 d2 d3 d4 d5
      have d4 := Sm.cells_of g3 4 _ rfl
      unfold Nt.Pk.cells
      simp only at o3 ⊢
      go_upto_region 10 with (fail)
      have b4 : Below w3.heap.size w3 (w3.alloc (.cells #[.int .i64 pf, .int .i64 pt, .string pd] 25)) := (Below.refl _ w3).alloc (Nat.le_refl _) _
      have p4 := heap_alloc_new w3 (.cells #[.int .i64 pf, .int .i64 pt, .string pd] 25)
      have g4 := (b4.block N (Sm.lt_of g3)).trans g3
      have hN8 : w3.heap.size ≠ rw := by have := Sm.lt_of o3.ref; omega
      have o4 := o3.mark b4 (X' := fun q => q = w3.heap.size) (fun q hq => ⟨by rw [hq]; simp, .inr (by omega)⟩)
      obtain ⟨N8, hN8e⟩ : ∃ n, n = w3.heap.size := ⟨_, rfl⟩
      rw [← hN8e] at p4 hN8 o4 ⊢
      clear o3 b4 d4 g3 hN8e
      generalize w3.alloc (.cells #[.int .i64 pf, .int .i64 pt, .string pd] 25) = w4 at *
      have d4 := Sm.cells_of g4 4 _ rfl
      have hv8 := o4.apart N8 rfl
      go_wp2_with fail
      refine (r8Take_any o4 x.i).mono ?_
      rintro e w5 ⟨rfl, v5, o5, f5, z5⟩
      rw [← HT.out] at o5 ⊢
      have p5 := (f5 N8 (Sm.lt_of p4) hN8 hv8).trans p4
      have O5 : Hid (Nt.Both B w0 w5 r rw v5 Nt.Non M' M') := o5.mark (Below.refl _ _) (fun q hq => hq.elim)
      clear o4 o5 f5 z5 p4 g4 d4 hN8 hv8
      unfold Nt.Pk.cells
      simp only
      go_upto_region 11 with (fail)
      have b6 : Below w5.heap.size w5 (w5.alloc (.cells #[.int .i64 pf, .int .i64 pt, .string pd] 25)) := (Below.refl _ w5).alloc (Nat.le_refl _) _
      have p6 := heap_alloc_new w5 (.cells #[.int .i64 pf, .int .i64 pt, .string pd] 25)
      have rq6 := (b6.block N8 (Sm.lt_of p5)).trans p5
      have O6 := Lib.hid (O5.out.low b6)
      obtain ⟨N10, hN10⟩ : ∃ n, n = w5.heap.size := ⟨_, rfl⟩
      rw [← hN10] at p6 ⊢
      clear b6 p5 hN10
      generalize w5.alloc (.cells #[.int .i64 pf, .int .i64 pt, .string pd] 25) = w6 at *
      have x0 := Sm.cells_of rq6 0 _ rfl
      have x1 := Sm.cells_of rq6 1 _ rfl
      have x2 := Sm.cells_of rq6 2 _ rfl
      have y0 := Sm.cells_of p6 0 _ rfl
      have y1 := Sm.cells_of p6 1 _ rfl
      have y2 := Sm.cells_of p6 2 _ rfl
      clear rq6 p6
      go_wp2
      go_ret
      exact ⟨by simp, v5, by rw [Nt.doAct_1 E1.out, ← HT.out]; exact O6.out⟩
    · by_cases e2 : x.a = 2
      · rw [e2] at d0
        have E2 := Lib.hid e2
        clear e0 e1 e2
        go_wp2_with fail
        refine (r8Lose_any h1 x.i).mono ?_
        rintro e w3 ⟨rfl, v3, o3, f3, z3⟩
        have g3 := (f3 N (Sm.lt_of g1) hwN (HVN.out _ _ _ _ _ h1 g1)).trans g1
        rw [Nt.loseP_fst] at o3
        rw [Nt.loseP_snd]
        obtain ⟨⟨pf, pt, pd⟩, hpk⟩ : ∃ p, p = (Nt.loseP M x.i).2.1 := ⟨_, rfl⟩
        rw [← hpk]
        clear h1 g1 f3 z3 hpk d0 d1 d2 d3 d4 d5
        have d4 := Sm.cells_of g3 4 _ rfl
        unfold Nt.Pk.cells
        simp only
        go_upto_region 14 with (fail)
        have b4 : Below w3.heap.size w3 (w3.alloc (.cells #[.int .i64 pf, .int .i64 pt, .string pd] 25)) := (Below.refl _ w3).alloc (Nat.le_refl _) _
        have g4 := (b4.block N (Sm.lt_of g3)).trans g3
        have o4 := o3.low b4
        clear o3 b4 d4 g3
        generalize w3.alloc (.cells #[.int .i64 pf, .int .i64 pt, .string pd] 25) = w4 at *
        have d4 := Sm.cells_of g4 4 _ rfl
        go_wp2_with fail
        refine (ntLose_any o4.own x.i).mono ?_
        rintro e w5 ⟨rfl, s5⟩
        have O5 := Lib.hid (o4.net s5)
        obtain ⟨er, her⟩ : ∃ e, e = (Nt.lose M x.i).2 := ⟨_, rfl⟩
        rw [← her]
        clear o4 s5 g4 d4 her
        go_wp2
        go_ret
        exact ⟨by simp, v3, by rw [Nt.doAct_2 E2.out]; exact O5.out⟩
      · by_cases e3 : x.a = 3
        · rw [e3] at d0
          have E3 := Lib.hid e3
          clear e0 e1 e2 e3
          go_upto_region 16 with (fail)
          have d4d : w1.drew.cell? ⟨N, 4, none⟩ = some (.int .i64 x.i) := d4
          clear d0 d1 d2 d3 d4 d5
          refine wp_region_held_drew (S := (fun w' => w'.cell? ⟨N, 4, none⟩ = some (.int .i64 x.i))) (by kernel_rfl) d4d (fun hHeld => ?_)
          refine wpAnyH_take (i := 0) (oi := ⟨some 80, _, _, _, _, _⟩) (v := .pointer (some ⟨r, 0, none⟩)) rfl (by kernel_rfl) (by kernel_rfl) (by kernel_rfl) (fun _ _ _ h => h) (Or.inl ⟨by rfl, ?_⟩) (by assumption) ?_
          · intro w hSw; (try dsimp only at hSw); go_simp
          simp only [Act.put, List.setIfInBounds_toArray, List.set_cons_zero, List.set_cons_succ]
          refine wpAnyH_take (i := 1) (oi := ⟨some 81, _, _, _, _, _⟩) (v := .pointer (some ⟨N, 4, none⟩)) rfl (by kernel_rfl) (by kernel_rfl) (by kernel_rfl) (fun _ _ _ h => h) (Or.inl ⟨by rfl, ?_⟩) (by assumption) ?_
          · intro w hSw; (try dsimp only at hSw); go_simp
          simp only [Act.put, List.setIfInBounds_toArray, List.set_cons_zero, List.set_cons_succ]
          refine wpAnyH_take (i := 2) (oi := ⟨some 82, _, _, _, _, _⟩) (v := .int .i64 x.i) rfl (by kernel_rfl) (by kernel_rfl) (by kernel_rfl) (fun _ _ _ h => h) (Or.inl ⟨by rfl, ?_⟩) (by assumption) ?_
          · intro w hSw; (try dsimp only at hSw); have s1 := hSw; go_simp
          simp only [Act.put, List.setIfInBounds_toArray, List.set_cons_zero, List.set_cons_succ]
          refine wpAnyH_take (i := 4) (oi := ⟨some 84, _, _, _, _, _⟩) (v := .pointer (some ⟨rw, 0, none⟩)) rfl (by kernel_rfl) (by kernel_rfl) (by kernel_rfl) (fun _ _ _ h => h) (Or.inl ⟨by rfl, ?_⟩) (by assumption) ?_
          · intro w hSw; (try dsimp only at hSw); go_simp
          simp only [Act.put, List.setIfInBounds_toArray, List.set_cons_zero, List.set_cons_succ]
          refine wpAnyH_take (i := 5) (oi := ⟨some 85, _, _, _, _, _⟩) (v := .pointer (some ⟨N, 4, none⟩)) rfl (by kernel_rfl) (by kernel_rfl) (by kernel_rfl) (fun _ _ _ h => h) (Or.inl ⟨by rfl, ?_⟩) (by assumption) ?_
          · intro w hSw; (try dsimp only at hSw); go_simp
          simp only [Act.put, List.setIfInBounds_toArray, List.set_cons_zero, List.set_cons_succ]
          refine wpAnyH_take (i := 6) (oi := ⟨some 86, _, _, _, _, _⟩) (v := .int .i64 x.i) rfl (by kernel_rfl) (by kernel_rfl) (by kernel_rfl) (fun _ _ _ h => h) (Or.inl ⟨by rfl, ?_⟩) (by assumption) ?_
          · intro w hSw; (try dsimp only at hSw); have s1 := hSw; go_simp
          simp only [Act.put, List.setIfInBounds_toArray, List.set_cons_zero, List.set_cons_succ]
          refine wpAnyH_ready (rs := [3]) (by kernel_rfl) (by simp) ?_
          refine (AllReadyH.cons (o := ⟨some 83, _, _, _, _, _⟩) rfl (fun K hK => ?_) AllReadyH.nil)
          go_simp
          have od := h1.low ((Below.refl _ w1).drew)
          refine (ntDup_any od.own x.i).mono ?_
          rintro e w3 ⟨rfl, s3⟩
          have o3 := od.net s3
          have g3 : w3.heap[N]? = some (.cells #[.int .i64 x.a, .int .i64 x.p.f, .int .i64 x.p.t, .string x.p.d, .int .i64 x.i, .int .u8 x.y.toNat] 41 (0, 0)) := (s3.turned.block N (Sm.lt_of g1) (fun e => hrN (Option.some.inj e))).trans g1
          clear od s3
          refine hK.out _ _ (Sm.cells_of g3 4 _ rfl) (fun hHeld => ?_)
          clear hK K
          refine wpAnyH_ready (rs := [7]) (by kernel_rfl) (by simp) ?_
          refine (AllReadyH.cons (o := ⟨some 87, _, _, _, _, _⟩) rfl (fun K hK => ?_) AllReadyH.nil)
          go_simp
          refine (r8Dup_any o3 x.i).mono ?_
          rintro e w4 ⟨rfl, v4, o4, f4, z4⟩
          have g4 : w4.heap[N]? = some (.cells #[.int .i64 x.a, .int .i64 x.p.f, .int .i64 x.p.t, .string x.p.d, .int .i64 x.i, .int .u8 x.y.toNat] 41 (0, 0)) := (f4 N (Sm.lt_of g3) hwN (HVN.out _ _ _ _ _ o3 g3)).trans g3
          have O4 := Lib.hid o4
          clear o3 g3 f4 z4 o4
          obtain ⟨er, her⟩ : ∃ e, e = (Nt.dup M x.i).2 := ⟨_, rfl⟩
          rw [← her]
          clear her
          refine hK.out _ _ (Sm.cells_of g4 4 _ rfl) (fun hHeld => ?_)
          clear hK K g4
          refine wpAnyH_take (i := 8) (oi := ⟨some 88, _, _, _, _, _⟩) (v := .bool true) rfl (by kernel_rfl) (by kernel_rfl) (by kernel_rfl) (fun _ _ _ h => h) (Or.inl ⟨by rfl, ?_⟩) (by assumption) ?_
          · intro w hSw; (try dsimp only at hSw); go_simp
          simp only [Act.put, List.setIfInBounds_toArray, List.set_cons_zero, List.set_cons_succ]
          refine wpAnyH_take (i := 9) (oi := ⟨some 6, _, _, _, _, _⟩) (v := .bool true) rfl (by kernel_rfl) (by kernel_rfl) (by kernel_rfl) (fun _ _ _ h => h) (Or.inl ⟨by rfl, ?_⟩) (by assumption) ?_
          · intro w hSw; (try dsimp only at hSw); go_simp
          simp only [Act.put, List.setIfInBounds_toArray, List.set_cons_zero, List.set_cons_succ]
          refine wpAnyH_done (by kernel_rfl) ?_ _
          clear hHeld d4d
          go_wp2
          go_ret
          exact ⟨rfl, v4, by rw [Nt.doAct_3 E3.out]; exact O4.out⟩
        · by_cases e4 : x.a = 4
          · rw [e4] at d0
            have E4 := Lib.hid e4
            clear e0 e1 e2 e3 e4
            have PA := Lib.hid (ntPart_any h1.own (x.i.tmod 2 != 0))
            go_wp2_with fail
            refine PA.out.mono ?_
            rintro e w3 ⟨rfl, s3⟩
            have o3 := h1.net s3
            have g3 := (s3.turned.block N (Sm.lt_of g1) (fun e => hrN (Option.some.inj e))).trans g1
            clear s3 h1 g1 PA d0 d1 d2 d3 d4 d5
            have d4 := Sm.cells_of g3 4 _ rfl
            have c1 := Sm.cells_of o3.ref 1 _ rfl
            have f1 := Sm.free_of o3.ref 1
            have PO : Hid (Nt.RPost B w0 w3 r rw v Nt.Non { M with parted := x.i.tmod 2 != 0 } { M with parted := x.i.tmod 2 != 0 } (w3.setCell ⟨rw, 1, none⟩ (.bool (x.i.tmod 2 != 0)))) := by
              refine o3.remade (v' := v) (o3.rok.part _) ?_ ?_ (fun i hi h2 h3 => Below.heap_setCell _ _ _ _ h2) (by simp) (fun q hq => .inl hq) rfl rfl rfl
              · exact o3.row.turned o3.ref Nt.ref_types.2.symm (Sm.grown_set (Sm.grown_refl w3 (some rw)) 1 _)
              · rw [Sm.heap_set o3.ref]; rfl
            obtain ⟨v5, o5, -, -⟩ := PO.out
            have O5 := Lib.hid o5
            clear o3 g3 o5 PO
            go_wp2
            go_ret
            exact ⟨rfl, v5, by rw [Nt.doAct_4 E4.out]; exact O5.out⟩
          · have O1 := Lib.hid h1
            clear h1 g1 d1 d2 d3 d4 d5
            go_wp2
            go_ret
            exact ⟨rfl, v, by rw [Nt.doAct_else ⟨e0, e1, e2, e3, e4⟩]; exact O1.out⟩
end Go.Proofs.Ytimbcmcmidnlfaa
