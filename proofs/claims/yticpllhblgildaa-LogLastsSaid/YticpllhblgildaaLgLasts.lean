/-
  LogLasts: behind every crash there are the records that were told OK, and perhaps the one that was broken off.
-/
import Derived.Test.YticpllhblgildaaLgRun
namespace Go.Proofs.Yticpllhblgildaa
open Go.RowKit
set_option maxRecDepth 100000 in
set_option maxHeartbeats 4000000 in
theorem loglasts_any (w : World) (s : Nat) (hs8 : s < 256) (A : Option Addr) (c : Nat) (l : List Lg.Ac) (hl : l.length ≤ 9223372036854775807) (hit : Lg.listAt w A l) (hs : ∀ a ∈ l, a.Ok w) :
    Calls Try.prog 11 #[.int .u8 (s : Int), .slice A l.length c] w fun e w' => e = .returned (.bool true) ∧ Below w.heap.size w w' := by
  have AW := Lib.hid (awake10_any w)
  have HIT := Lib.hid hit
  have HS := Lib.hid hs
  by_cases hbad : ¬ Lg.Fair l
  · have GR : Hid (∀ wx, Below w.heap.size w wx → Calls Try.prog 42 #[.slice A l.length c] wx fun e w' => e = .returned (.bool true) ∧ wx = w') := fun wx hwx => great10_any hl (HIT.out.below hwx) HS.out true ⟨fun _ => hbad, fun _ => rfl⟩
    clear hit hs
    go_enter Try.func11, Try.ntmps11
    go_wp2_with (first
      | (go_at_call 39; refine AW.out.mono ?_; rintro e w1 ⟨rfl, k1⟩)
      | (go_at_call 42; refine (GR.out _ k1).mono ?_; rintro e w2 ⟨rfl, rfl⟩))
    go_ret
    exact ⟨rfl, k1⟩
  have hfair := Classical.not_not.1 hbad
  have GR : Hid (∀ wx, Below w.heap.size w wx → Calls Try.prog 42 #[.slice A l.length c] wx fun e w' => e = .returned (.bool false) ∧ wx = w') := fun wx hwx => great10_any hl (HIT.out.below hwx) HS.out false ⟨fun h => (by cases h), fun h => absurd hfair h⟩
  have h60 := hfair.1
  obtain ⟨m0, hm0⟩ : ∃ m, m = s % 60 := ⟨_, rfl⟩
  obtain ⟨n, hn⟩ : ∃ n, n = 1 + m0 := ⟨_, rfl⟩
  have hn60 : 1 ≤ n ∧ n ≤ 60 := by omega
  have q1 : (s : Int).tmod 60 = (m0 : Int) := by rw [Int.tmod_eq_emod_of_nonneg (by omega), hm0]; omega
  have q2 : IntKind.u8.wrap (m0 : Int) = (m0 : Int) := by rw [IntKind.wrap_u8]; omega
  have q3 : IntKind.i64.wrap (m0 : Int) = (m0 : Int) := IntWalk.i64_in _ (by omega)
  have q4 : IntKind.i64.wrap (1 + (m0 : Int)) = (n : Int) := by rw [IntWalk.i64_in _ (by omega)]; omega
  obtain ⟨R0, O0⟩ := Lg.rest_new (N := n) (by omega) (a := 0) (n := n) hn60.1 (by omega)
  have F0 := Lib.hid (R0.opens (ep := 7) (by decide))
  obtain ⟨L0, hL0⟩ : ∃ L, L = Lg.opened n (Kp.lastly (Dk.new n) 0) 0 7 := ⟨_, rfl⟩
  rw [← hL0] at F0
  have A0 : Hid (L0.ep = 7 ∧ L0.salt ≤ 0 ∧ L0.recs = []) := by show _ ∧ _ ∧ _; rw [hL0, O0 7 (by decide)]; exact ⟨rfl, Nat.le_refl _, rfl⟩
  clear hit hs hL0 hfair hbad R0 O0 hn hm0
  go_enter Try.func11, Try.ntmps11
  go_upto_region 6 with (first
    | (go_at_call 39; refine AW.out.mono ?_; rintro e w1 ⟨rfl, k1⟩)
    | (go_at_call 42; refine (GR.out _ k1).mono ?_; rintro e w2 ⟨rfl, rfl⟩))
  have ND := Lib.hid (Dk.new_in k1 (Nat.le_refl _) n (by omega))
  go_upto_region 7 with (go_at_call 15; refine ND.out.mono ?_; rintro e w2 ⟨r, fp, rfl, o2, -, -⟩)
  have OP := Lib.hid (Lg.run_open10 (hv := []) (i := 0) o2 F0.out A0.out.1 A0.out.2.1 A0.out.2.2 ⟨#[]⟩)
  clear o2 k1
  go_upto_region 13 with (go_at_call 35; refine OP.out.mono ?_; rintro e w3 ⟨k3, bl3, rfl, run3, -, -⟩)
  have R3 := Lib.hid run3
  clear run3
  go_wp2_with fail
  go_loopw [8, 10, 11, 12, 13] (fun s8 s10 s11 s12 s13 wr => ∃ (i : Nat) (fp1 : Nat → Prop) (M1 : Dk.Md) (k : Nat) (bl1 : Nat → Prop) (L : Lg.Md) (hv : List (List UInt8)) (Ah : Option Addr) (ch m : Nat) (tt : ByteArray) (cut : Bool), s8 = .pointer (some ⟨k, 0, none⟩) ∧ s10 = .slice Ah m ch ∧ s11 = .string tt ∧ s12 = .bool cut ∧ s13 = .int .i64 i ∧ i ≤ l.length ∧ m = hv.length ∧ hv.length ≤ i ∧ Lg.Run w.heap.size w wr r fp1 M1 k bl1 L n hv tt cut i ∧ Lg.Mine w.heap.size wr (fun q => fp1 q ∨ bl1 q) (.slice Ah m ch) hv) (fun _ _ _ _ s13 _ => l.length - (intOf s13).toNat)
  case atStart => exact ⟨0, fp, _, k3, bl3, L0, [], none, 0, 0, ⟨#[]⟩, false, rfl, rfl, rfl, rfl, rfl, Nat.zero_le _, rfl, Nat.le_refl _, R3.out, Lg.Mine.nil _ _ _⟩
  case round =>
    obtain ⟨i, fp1, M1, k, bl1, L, hv, Ah, ch, m, tt, cut, rfl, rfl, rfl, rfl, rfl, hil, hm, hvi, hrun, hmine⟩ := hrel
    have HR := Lib.hid hrun
    have HMN := Lib.hid hmine
    have HM := Lib.hid hm
    clear hrun hmine hm
    by_cases hlt : i < l.length
    · have hki : (i : Int) < (l.length : Int) := by omega
      have hsuc : IntKind.i64.wrap ((i : Int) + 1) = ((i + 1 : Nat) : Int) := by simp [IntKind.wrap, IntKind.bits, IntKind.signed]; omega
      obtain ⟨gb, ob, hA, hgl, hat⟩ : ∃ gb ob, A = some ⟨gb, ob, none⟩ ∧ gb < w.heap.size ∧ Lg.actsAt w gb ob l := by
        rcases HIT.out with h | ⟨gb, ob, h1, h2, h3⟩
        · rw [h] at hlt; simp at hlt
        · exact ⟨gb, ob, h1, h2, h3⟩
      subst hA
      have hbl := HR.out.own.disk.below
      obtain ⟨c0, c1, c2, c3, c4, c5⟩ := (hat i hlt).below hbl hgl
      obtain ⟨a, ha⟩ : ∃ a, a = l[i] := ⟨_, rfl⟩
      have hok := HS.out _ (List.getElem_mem hlt)
      rw [← ha] at c0 c1 c2 c3 c4 c5 hok
      have HOK := Lib.hid hok
      have HBL := Lib.hid hbl
      have hba := (Below.refl wr.heap.size wr).alloc (Nat.le_refl _) (.cells a.cells.toArray 81)
      have RA := Lib.hid (HR.out.low hba)
      have MA := Lib.hid (HMN.out.low hba)
      have hg1 := heap_alloc_new wr (.cells a.cells.toArray 81)
      have hnf : ¬ (fp1 wr.heap.size ∨ bl1 wr.heap.size) := fun e => by
        rcases e with e | e
        · have := HR.out.own.disk.lt _ e; omega
        · have := (HR.out.own.at_.lt _ e).2; omega
      have hwz := HBL.out.size
      obtain ⟨kA, kc, hkv, -⟩ := hok.keep
      clear ha hok hbl hat
      unfold Lg.Ac.cells at *
      rw [hkv] at c5 hg1 RA MA hba
      have HKV := Lib.hid hkv
      clear hkv
      go_upto_region 16 with (fail)
      clear c0 c1 c2 c3 c4 c5 hba
      obtain ⟨N, hN⟩ : ∃ N, N = wr.heap.size := ⟨_, rfl⟩
      rw [← hN] at hg1 hnf hwz ⊢
      have HNF := Lib.hid hnf
      clear hN hnf HR HMN
      generalize wr.alloc (.cells #[.int .i64 a.d, .string a.t, .int .i64 a.n, .int .i64 a.m, .string a.x, .slice kA a.keep.length kc] 81) = w1 at *
      have HG1 := Lib.hid hg1
      have d0 := Sm.cells_of hg1 0 _ rfl
      have d1 := Sm.cells_of hg1 1 _ rfl
      have d2 := Sm.cells_of hg1 2 _ rfl
      have d5 := Sm.cells_of hg1 5 _ rfl
      have hNl := Sm.lt_of hg1
      have hi60 : i ≤ 60 := by omega
      have hmb : m ≤ 60 := by have := HM.out; omega
      clear hg1
      by_cases e0 : a.d = 0
      · rw [e0] at d0
        have PU := Lib.hid (RA.out.add hi60 a.t HOK.out.t)
        go_upto_region 19 with (go_at_call 36; refine PU.out.mono ?_; rintro e w4 ⟨fp4, bl4, M4, L4, f, rfl, tu4, gf4, gb4, hcases⟩)
        have g4 := (tu4.block N hNl HNF.out).trans HG1.out
        have p1 := Sm.cells_of g4 1 _ rfl
        have M4' := Lib.hid (MA.out.turned tu4 (f' := fun q => fp4 q ∨ bl4 q) (fun q hq => by
          rcases hq with hq | hq
          · rcases gf4 q hq with h | h
            · exact .inl (.inl h)
            · exact .inr h
          · rcases gb4 q hq with h | h
            · exact .inl (.inr h)
            · exact .inr h))
        clear d0 d1 d2 d5 tu4 gf4 gb4 g4
        rcases hcases with ⟨hf, hr⟩ | ⟨hf, hc, hr⟩ | ⟨hf1, hf2, hr⟩
        · subst hf
          have RP := Lib.hid hr
          have hwz4 := hr.own.disk.size
          have hlt4 : ∀ q, fp4 q ∨ bl4 q → q < (w4.alloc (.cells #[.string a.t] 9)).heap.size := fun q hq => by
            have e : (w4.alloc (.cells #[.string a.t] 9)).heap.size = w4.heap.size + 1 := by simp
            rw [e]
            rcases hq with hq | hq
            · have := RP.out.own.disk.lt q hq; omega
            · have := (RP.out.own.at_.lt q hq).2; omega
          have MP := Lib.hid (M4'.out.low ((Below.refl w4.heap.size w4).alloc (Nat.le_refl _) (.cells #[.string a.t] 9)))
          have RPA := Lib.hid (RP.out.low ((Below.refl w4.heap.size w4).alloc (Nat.le_refl _) (.cells #[.string a.t] 9)))
          clear hr
          go_upto_region 21 with (at_builtin; refine Lg.wp_more rfl _ _ rfl rfl MP.out rfl (Sm.cells_of (heap_alloc_new w4 _) 0 _ rfl) (by omega) (by simp; omega) hlt4 fun A5 c5 w5 mi5 tu5 => ?_)
          rw [← HM.out] at mi5 ⊢
          have MM := Lib.hid mi5
          have RR := Lib.hid (RPA.out.other tu5 (fun q hq => ⟨(Dk.own_blk MP.out.row hq).1, fun e => MP.out.off q hq (.inl e), fun e => MP.out.off q hq (.inr e)⟩))
          clear mi5 tu5 hlt4
          have RE := Lib.hid (RR.out.records (m := (m + 1)) (by rw [List.length_append, HM.out]; rfl))
          go_wp2_with (first
            | (go_at_call 38; refine RE.out.mono ?_; rintro e w8 ⟨A8, c8, rfl, rr8, r8, k8⟩)
            | (go_at_call 40; refine (Lg.same_true _ _ _ _ _ _ (hv ++ [a.t.data.toList]) (by rw [List.length_append, HM.out]; rfl) (by rw [List.length_append, List.length_singleton]; omega) rr8 ((MM.out.low k8).rows (by rw [List.length_append, HM.out]; rfl))).mono ?_; rintro e w9 ⟨rfl, k9⟩))
          exact ⟨⟨i + 1, _, _, _, _, _, (hv ++ [a.t.data.toList]), _, _, (m + 1), _, _, rfl, rfl, rfl, rfl, by push_cast; rfl, by omega, by rw [List.length_append, HM.out]; rfl, by rw [List.length_append, List.length_singleton]; omega, r8.low k9, (MM.out.low k8).low k9⟩, by simp only [intOf]; omega⟩
        · subst hf
          subst hc
          have RR := Lib.hid hr
          have MM := M4'
          clear hr
          have RE := Lib.hid (RR.out.records (m := m) (HM.out))
          go_wp2_with (first
            | (go_at_call 38; refine RE.out.mono ?_; rintro e w8 ⟨A8, c8, rfl, rr8, r8, k8⟩)
            | (go_at_call 40; refine (Lg.same_true _ _ _ _ _ _ hv (HM.out) (by omega) rr8 ((MM.out.low k8).rows (HM.out))).mono ?_; rintro e w9 ⟨rfl, k9⟩))
          exact ⟨⟨i + 1, _, _, _, _, _, hv, _, _, m, _, _, rfl, rfl, rfl, rfl, by push_cast; rfl, by omega, HM.out, by omega, r8.low k9, (MM.out.low k8).low k9⟩, by simp only [intOf]; omega⟩
        · have RR := Lib.hid hr
          have MM := M4'
          have hb0 : (f == 0) = false := beq_eq_false_iff_ne.2 hf1
          have hb14 : (f == 14) = false := beq_eq_false_iff_ne.2 hf2
          clear hr
          have RE := Lib.hid (RR.out.records (m := m) (HM.out))
          go_wp2_with (first
            | (go_at_call 38; refine RE.out.mono ?_; rintro e w8 ⟨A8, c8, rfl, rr8, r8, k8⟩)
            | (go_at_call 40; refine (Lg.same_true _ _ _ _ _ _ hv (HM.out) (by omega) rr8 ((MM.out.low k8).rows (HM.out))).mono ?_; rintro e w9 ⟨rfl, k9⟩))
          exact ⟨⟨i + 1, _, _, _, _, _, hv, _, _, m, _, _, rfl, rfl, rfl, rfl, by push_cast; rfl, by omega, HM.out, by omega, r8.low k9, (MM.out.low k8).low k9⟩, by simp only [intOf]; omega⟩
      by_cases e1 : a.d = 1
      · rw [e1] at d0
        have FU := Lib.hid (RA.out.fuse a.n HOK.out.n)
        go_upto_region 34 with (go_at_call 20; refine FU.out.mono ?_; rintro e w4 ⟨fp4, M4, rfl, hr, tu4, gf4⟩)
        have RR := Lib.hid hr
        have MM := Lib.hid (MA.out.turned tu4 (f' := fun q => fp4 q ∨ bl1 q) (fun q hq => by
          rcases hq with hq | hq
          · rcases gf4 q hq with h | h
            · exact .inl (.inl h)
            · exact .inr h
          · exact .inl (.inr hq)))
        clear hr tu4 gf4 d0 d1 d2 d5
        have RE := Lib.hid (RR.out.records (m := m) (HM.out))
        go_wp2_with (first
          | (go_at_call 38; refine RE.out.mono ?_; rintro e w8 ⟨A8, c8, rfl, rr8, r8, k8⟩)
          | (go_at_call 40; refine (Lg.same_true _ _ _ _ _ _ hv (HM.out) (by omega) rr8 ((MM.out.low k8).rows (HM.out))).mono ?_; rintro e w9 ⟨rfl, k9⟩))
        exact ⟨⟨i + 1, _, _, _, _, _, hv, _, _, m, _, _, rfl, rfl, rfl, rfl, by push_cast; rfl, by omega, HM.out, by omega, r8.low k9, (MM.out.low k8).low k9⟩, by simp only [intOf]; omega⟩
      by_cases e2 : a.d = 2
      · rw [e2] at d0
        obtain ⟨hia, hof⟩ := RA.out.own.disk.off HOK.out.keep rfl
        rw [HKV.out] at hia hof
        have CR := Lib.hid (RA.out.crash hia hof)
        clear hia hof
        go_upto_region 27 with (go_at_call 21; refine CR.out.mono ?_; rintro e w4 ⟨fp4, M4, L4, rfl, o4, f4, hep4, hsa4, hrc4, tu4, gf4⟩)
        have M4' := Lib.hid ((⟨MA.out.row, fun q hq e => MA.out.off q hq (.inl e)⟩ : Lg.Mine w.heap.size w1 fp1 (.slice Ah m ch) hv).turned tu4 gf4)
        clear d0 d1 d2 d5 tu4 gf4
        rcases hrc4 with hq | ⟨hq0, hq⟩
        · have OP := Lib.hid (Lg.run_open10 (i := i + 1) o4 f4 hep4 hsa4 hq tt)
          clear o4 f4 hep4 hsa4 hq
          go_upto_region 30 with (go_at_call 35; refine OP.out.mono ?_; rintro e w5 ⟨k5, bl5, rfl, r5, hb5, kk5⟩)
          have M5 := Lib.hid ((M4'.out.turned (Dk.Turned.of_below (fp := fp4) kk5 (Nat.le_refl _)) (f' := fun q => fp4 q ∨ bl5 q) (fun q hq => by
            rcases hq with hq | hq
            · exact .inl hq
            · exact .inr (hb5 q hq))))
          have RE0 := Lib.hid (r5.records HM.out)
          clear r5 hb5 kk5
          go_upto_region 31 with (go_at_call 38; refine RE0.out.mono ?_; rintro e w6 ⟨A6, c6, rfl, rr6, r6, k6⟩)
          have RR := Lib.hid r6
          have MM := Lib.hid (M5.out.low k6)
          have v1 : IntKind.i64.wrap ((m : Int) + 1) = (m : Int) + 1 := IntWalk.i64_in _ (by omega)
          have v2 : ¬ (m : Int) = (m : Int) + 1 := by omega
          have v3 : ((m : Int) == (m : Int) + 1) = false := beq_eq_false_iff_ne.2 v2
          clear r6 rr6 k6
          cases cut
          · skip
            have RE := Lib.hid (RR.out.records (m := m) (HM.out))
            go_wp2_with (first
              | (go_at_call 38; refine RE.out.mono ?_; rintro e w8 ⟨A8, c8, rfl, rr8, r8, k8⟩)
              | (go_at_call 40; refine (Lg.same_true _ _ _ _ _ _ hv (HM.out) (by omega) rr8 ((MM.out.low k8).rows (HM.out))).mono ?_; rintro e w9 ⟨rfl, k9⟩))
            exact ⟨⟨i + 1, _, _, _, _, _, hv, _, _, m, _, _, rfl, rfl, rfl, rfl, by push_cast; rfl, by omega, HM.out, by omega, r8.low k9, (MM.out.low k8).low k9⟩, by simp only [intOf]; omega⟩
          · skip
            have RE := Lib.hid (RR.out.records (m := m) (HM.out))
            go_wp2_with (first
              | (go_at_call 38; refine RE.out.mono ?_; rintro e w8 ⟨A8, c8, rfl, rr8, r8, k8⟩)
              | (go_at_call 40; refine (Lg.same_true _ _ _ _ _ _ hv (HM.out) (by omega) rr8 ((MM.out.low k8).rows (HM.out))).mono ?_; rintro e w9 ⟨rfl, k9⟩))
            exact ⟨⟨i + 1, _, _, _, _, _, hv, _, _, m, _, _, rfl, rfl, rfl, rfl, by push_cast; rfl, by omega, HM.out, by omega, r8.low k9, (MM.out.low k8).low k9⟩, by simp only [intOf]; omega⟩
        · subst hq0
          have OP := Lib.hid (Lg.run_open10 (i := i + 1) o4 f4 hep4 hsa4 hq tt)
          clear o4 f4 hep4 hsa4 hq
          go_upto_region 30 with (go_at_call 35; refine OP.out.mono ?_; rintro e w5 ⟨k5, bl5, rfl, r5, hb5, kk5⟩)
          have M5 := Lib.hid ((M4'.out.turned (Dk.Turned.of_below (fp := fp4) kk5 (Nat.le_refl _)) (f' := fun q => fp4 q ∨ bl5 q) (fun q hq => by
            rcases hq with hq | hq
            · exact .inl hq
            · exact .inr (hb5 q hq))))
          have hm1 : m + 1 = (hv ++ [tt.data.toList]).length := by rw [List.length_append, HM.out]; rfl
          have HM1 := Lib.hid hm1
          have RE0 := Lib.hid (r5.records hm1)
          clear r5 hb5 kk5 hm1
          go_upto_region 31 with (go_at_call 38; refine RE0.out.mono ?_; rintro e w6 ⟨A6, c6, rfl, rr6, r6, k6⟩)
          have R6 := Lib.hid r6
          have M6 := Lib.hid (M5.out.low k6)
          have v1 : IntKind.i64.wrap ((m : Int) + 1) = ((m + 1 : Nat) : Int) := by rw [IntWalk.i64_in _ (by omega)]; push_cast; rfl
          obtain ⟨g6, o6, rfl, hc6⟩ := rr6.get (i := m) (by rw [← HM1.out]; omega)
          have hgt : (hv ++ [tt.data.toList]).getD m [] = tt.data.toList := by
            rw [HM.out, List.getD_eq_getElem?_getD, List.getElem?_append_right (Nat.le_refl _), Nat.sub_self]; rfl
          rw [hgt] at hc6
          have hc6' : w6.cell? ⟨g6, o6 + m, none⟩ = some (.string tt) := hc6
          have v4 : (m : Int) < ((m + 1 : Nat) : Int) := by omega
          have v5 := Dk.str_eq (s := tt) (z := tt) rfl
          have hlt6 : ∀ q, fp4 q ∨ bl5 q → q < (w6.alloc (.cells #[.string tt] 9)).heap.size := fun q hq => by
            have e : (w6.alloc (.cells #[.string tt] 9)).heap.size = w6.heap.size + 1 := by simp
            rw [e]
            rcases hq with hq | hq
            · have := R6.out.own.disk.lt q hq; omega
            · have := (R6.out.own.at_.lt q hq).2; omega
          have hwz6 := r6.own.disk.size
          have MP := Lib.hid (M6.out.low ((Below.refl w6.heap.size w6).alloc (Nat.le_refl _) (.cells #[.string tt] 9)))
          have RPA := Lib.hid (R6.out.low ((Below.refl w6.heap.size w6).alloc (Nat.le_refl _) (.cells #[.string tt] 9)))
          clear r6 rr6 k6 hgt hc6
          go_upto_region 33 with (at_builtin; refine Lg.wp_more rfl _ _ rfl rfl MP.out rfl (Sm.cells_of (heap_alloc_new w6 _) 0 _ rfl) (by omega) (by simp; omega) hlt6 fun A7 c7 w7 mi7 tu7 => ?_)
          rw [← HM.out] at mi7 ⊢
          have MM := Lib.hid mi7
          have RR := Lib.hid (RPA.out.other tu7 (fun q hq => ⟨(Dk.own_blk MP.out.row hq).1, fun e => MP.out.off q hq (.inl e), fun e => MP.out.off q hq (.inr e)⟩))
          clear mi7 tu7 hlt6
          have RE := Lib.hid (RR.out.records (m := (m + 1)) (HM1.out))
          go_wp2_with (first
            | (go_at_call 38; refine RE.out.mono ?_; rintro e w8 ⟨A8, c8, rfl, rr8, r8, k8⟩)
            | (go_at_call 40; refine (Lg.same_true _ _ _ _ _ _ (hv ++ [tt.data.toList]) (HM1.out) (by rw [List.length_append, List.length_singleton]; omega) rr8 ((MM.out.low k8).rows (HM1.out))).mono ?_; rintro e w9 ⟨rfl, k9⟩))
          exact ⟨⟨i + 1, _, _, _, _, _, (hv ++ [tt.data.toList]), _, _, (m + 1), _, _, rfl, rfl, rfl, rfl, by push_cast; rfl, by omega, HM1.out, by rw [List.length_append, List.length_singleton]; omega, r8.low k9, (MM.out.low k8).low k9⟩, by simp only [intOf]; omega⟩
      have b0 : (a.d == 0) = false := beq_eq_false_iff_ne.2 e0
      have b1 : (a.d == 1) = false := beq_eq_false_iff_ne.2 e1
      have b2 : (a.d == 2) = false := beq_eq_false_iff_ne.2 e2
      have RR := Lib.hid RA.out.next
      have MM := MA
      have RE := Lib.hid (RR.out.records (m := m) (HM.out))
      go_wp2_with (first
        | (go_at_call 38; refine RE.out.mono ?_; rintro e w8 ⟨A8, c8, rfl, rr8, r8, k8⟩)
        | (go_at_call 40; refine (Lg.same_true _ _ _ _ _ _ hv (HM.out) (by omega) rr8 ((MM.out.low k8).rows (HM.out))).mono ?_; rintro e w9 ⟨rfl, k9⟩))
      exact ⟨⟨i + 1, _, _, _, _, _, hv, _, _, m, _, _, rfl, rfl, rfl, rfl, by push_cast; rfl, by omega, HM.out, by omega, r8.low k9, (MM.out.low k8).low k9⟩, by simp only [intOf]; omega⟩
    · have hki : ¬ (i : Int) < (l.length : Int) := by omega
      have B1 := Lib.hid HR.out.own.disk.below
      go_wp2_with fail
      go_ret
      exact ⟨rfl, B1.out⟩
end Go.Proofs.Yticpllhblgildaa
