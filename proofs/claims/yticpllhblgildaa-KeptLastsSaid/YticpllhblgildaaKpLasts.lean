/-
  KeptLasts: behind every crash there is what was put last, or what was broken off, whole.
-/
import Derived.Test.YticpllhblgildaaKpRun
namespace Go.Proofs.Yticpllhblgildaa
open Go.RowKit
theorem Kp.str_eq {s z : ByteArray} (h : s = z) : (s.toList == z.toList) = true := by rw [h, beq_iff_eq]
set_option maxRecDepth 100000 in
set_option maxHeartbeats 4000000 in
theorem keptlasts_any (w : World) (A : Option Addr) (c : Nat) (l : List Kp.Ac) (hl : l.length ≤ 9223372036854775807) (hit : Kp.listAt w A l) (hs : ∀ a ∈ l, a.Ok w) :
    Calls Try.prog 6 #[.slice A l.length c] w fun e w' => e = .returned (.bool true) ∧ Below w.heap.size w w' := by
  have AW := Lib.hid (awake9_any w)
  have HIT := Lib.hid hit
  have HS := Lib.hid hs
  by_cases hbad : ¬ Kp.Fair l
  · have GR : Hid (∀ wx, Below w.heap.size w wx → Calls Try.prog 23 #[.slice A l.length c] wx fun e w' => e = .returned (.bool true) ∧ wx = w') := fun wx hwx => great9_any hl (HIT.out.below hwx) HS.out true ⟨fun _ => hbad, fun _ => rfl⟩
    clear hit hs
    go_enter Try.func6, Try.ntmps6
    go_wp2_with (first
      | (go_at_call 22; refine AW.out.mono ?_; rintro e w1 ⟨rfl, k1⟩)
      | (go_at_call 23; refine (GR.out _ k1).mono ?_; rintro e w2 ⟨rfl, rfl⟩))
    go_ret
    exact ⟨rfl, k1⟩
  have hfair := Classical.not_not.1 hbad
  have GR : Hid (∀ wx, Below w.heap.size w wx → Calls Try.prog 23 #[.slice A l.length c] wx fun e w' => e = .returned (.bool false) ∧ wx = w') := fun wx hwx => great9_any hl (HIT.out.below hwx) HS.out false ⟨fun h => (by cases h), fun h => absurd hfair h⟩
  have h60 := hfair.1
  obtain ⟨K0, hK0⟩ : ∃ K, K = Kp.zero 0 := ⟨_, rfl⟩
  have hF0 : Kp.Fits (Dk.new 20) K0 := by rw [hK0]; exact Kp.new_fits (n := 20) (by omega) (a := 0) (by omega)
  have A0 : Hid (K0.from_ = 0 ∧ K0.seen ≤ 0 ∧ K0.text = [] ∧ decide (0 < K0.gen) = false) := by rw [hK0]; exact ⟨rfl, Nat.le_refl _, rfl, rfl⟩
  have F0 := Lib.hid hF0
  clear hit hs hK0 hF0 hfair hbad
  go_enter Try.func6, Try.ntmps6
  go_upto_region 5 with (first
    | (go_at_call 22; refine AW.out.mono ?_; rintro e w1 ⟨rfl, k1⟩)
    | (go_at_call 23; refine (GR.out _ k1).mono ?_; rintro e w2 ⟨rfl, rfl⟩))
  have ND := Lib.hid (Dk.new_in k1 (Nat.le_refl _) 20 (by omega))
  go_upto_region 6 with (go_at_call 15; refine ND.out.mono ?_; rintro e w2 ⟨r, fp, rfl, o2, -, -⟩)
  have OP := Lib.hid (Kp.run_open (s := ⟨#[]⟩) (i := 0) o2 F0.out A0.out.1 A0.out.2.1 A0.out.2.2.1 A0.out.2.2.2 ⟨#[]⟩)
  clear o2 k1
  go_upto_region 11 with (go_at_call 16; refine OP.out.mono ?_; rintro e w3 ⟨k3, rfl, run3, -⟩)
  have R3 := Lib.hid run3
  clear run3
  go_wp2_with fail
  go_loopw [5, 7, 8, 9, 10, 11] (fun s5 s7 s8 s9 s10 s11 wr => ∃ (i : Nat) (fp1 : Nat → Prop) (M1 : Dk.Md) (k : Nat) (K : Kp.Md) (lt tt : ByteArray) (b cut : Bool), s5 = .pointer (some ⟨k, 0, none⟩) ∧ s7 = .string lt ∧ s8 = .bool b ∧ s9 = .string tt ∧ s10 = .bool cut ∧ s11 = .int .i64 i ∧ i ≤ l.length ∧ Kp.Run w.heap.size w wr r fp1 M1 k K lt tt b cut i) (fun _ _ _ _ _ s11 _ => l.length - (intOf s11).toNat)
  case atStart => exact ⟨0, fp, _, k3, K0, ⟨#[]⟩, ⟨#[]⟩, false, false, rfl, rfl, rfl, rfl, rfl, rfl, Nat.zero_le _, R3.out⟩
  case round =>
    obtain ⟨i, fp1, M1, k, K, lt, tt, b, cut, rfl, rfl, rfl, rfl, rfl, rfl, hil, hrun⟩ := hrel
    have HR := Lib.hid hrun
    clear hrun
    by_cases hlt : i < l.length
    · have hki : (i : Int) < (l.length : Int) := by omega
      have hsuc : IntKind.i64.wrap ((i : Int) + 1) = ((i + 1 : Nat) : Int) := by simp [IntKind.wrap, IntKind.bits, IntKind.signed]; omega
      obtain ⟨gb, ob, hA, hgl, hat⟩ : ∃ gb ob, A = some ⟨gb, ob, none⟩ ∧ gb < w.heap.size ∧ Kp.actsAt w gb ob l := by
        rcases HIT.out with h | ⟨gb, ob, h1, h2, h3⟩
        · rw [h] at hlt; simp at hlt
        · exact ⟨gb, ob, h1, h2, h3⟩
      subst hA
      have hbl := HR.out.own.disk.below
      obtain ⟨c0, c1, c2, c3, c4, c5⟩ := (hat i hlt).below hbl hgl
      obtain ⟨a, ha⟩ : ∃ a, a = l[i] := ⟨_, rfl⟩
      have hok := HS.out _ (List.getElem_mem hlt)
      rw [← ha] at c0 c1 c2 c3 c4 c5 hok
      have HOK := Lib.hid hok
      have HBL := Lib.hid hbl
      have RA := Lib.hid (HR.out.low ((Below.refl wr.heap.size wr).alloc (Nat.le_refl _) (.cells a.cells.toArray 54)))
      have hg1 := heap_alloc_new wr (.cells a.cells.toArray 54)
      have hnf : ¬ fp1 wr.heap.size := fun e => by have := HR.out.own.disk.lt _ e; omega
      have hnk : wr.heap.size ≠ k := by have := HR.out.own.lt; omega
      obtain ⟨kA, kc, hkv, -⟩ := hok.keep
      clear ha hok hbl hat
      unfold Kp.Ac.cells at *
      rw [hkv] at c5 hg1 RA
      have HKV := Lib.hid hkv
      clear hkv
      go_upto_region 15 with (fail)
      clear c0 c1 c2 c3 c4 c5
      obtain ⟨N, hN⟩ : ∃ N, N = wr.heap.size := ⟨_, rfl⟩
      rw [← hN] at hg1 hnf hnk ⊢
      have HNF := Lib.hid hnf
      have HNK := Lib.hid hnk
      clear hN hnf hnk HR
      generalize wr.alloc (.cells #[.int .i64 a.d, .string a.t, .int .i64 a.n, .int .i64 a.m, .string a.x, .slice kA a.keep.length kc] 54) = w1 at *
      have HG1 := Lib.hid hg1
      have d0 := Sm.cells_of hg1 0 _ rfl
      have d1 := Sm.cells_of hg1 1 _ rfl
      have d2 := Sm.cells_of hg1 2 _ rfl
      have d5 := Sm.cells_of hg1 5 _ rfl
      have hNl := Sm.lt_of hg1
      have hi60 : i ≤ 60 := by omega
      clear hg1
      by_cases e0 : a.d = 0
      · rw [e0] at d0
        have PU := Lib.hid (RA.out.put hi60 a.t HOK.out.t)
        go_upto_region 18 with (go_at_call 18; refine PU.out.mono ?_; rintro e w4 ⟨fp4, M4, K4, f, rfl, hkeep, -, hsz, hcases⟩)
        have g4 := (hkeep N hNl HNF.out HNK.out).trans HG1.out
        have p1 := Sm.cells_of g4 1 _ rfl
        clear d0 d1 d2 d5 hkeep g4
        rcases hcases with ⟨hf, hr⟩ | ⟨hf, hc, hr⟩ | ⟨hf1, hf2, hr⟩
        · subst hf
          have RR := Lib.hid hr
          clear hr
          have GT := Lib.hid (RR.out.get)
          go_wp2_with (go_at_call 17; refine GT.out.mono ?_; rintro e w8 ⟨rfl, r8, -⟩)
          exact ⟨⟨i + 1, _, _, _, _, a.t, tt, true, false, rfl, rfl, rfl, rfl, rfl, by push_cast; rfl, by omega, r8⟩, by simp only [intOf]; omega⟩
        · subst hf
          subst hc
          have RR := Lib.hid hr
          clear hr
          have GT := Lib.hid (RR.out.get)
          go_wp2_with (go_at_call 17; refine GT.out.mono ?_; rintro e w8 ⟨rfl, r8, -⟩)
          exact ⟨⟨i + 1, _, _, _, _, lt, a.t, b, true, rfl, rfl, rfl, rfl, rfl, by push_cast; rfl, by omega, r8⟩, by simp only [intOf]; omega⟩
        · have RR := Lib.hid hr
          have hb0 : (f == 0) = false := beq_eq_false_iff_ne.2 hf1
          have hb14 : (f == 14) = false := beq_eq_false_iff_ne.2 hf2
          clear hr
          have GT := Lib.hid (RR.out.get)
          go_wp2_with (go_at_call 17; refine GT.out.mono ?_; rintro e w8 ⟨rfl, r8, -⟩)
          exact ⟨⟨i + 1, _, _, _, _, lt, tt, b, cut, rfl, rfl, rfl, rfl, rfl, by push_cast; rfl, by omega, r8⟩, by simp only [intOf]; omega⟩
      by_cases e1 : a.d = 1
      · rw [e1] at d0
        have FU := Lib.hid (RA.out.fuse a.n HOK.out.n)
        go_upto_region 34 with (go_at_call 20; refine FU.out.mono ?_; rintro e w4 ⟨fp4, M4, rfl, hr⟩)
        have RR := Lib.hid hr
        clear hr d0 d1 d2 d5
        have GT := Lib.hid (RR.out.get)
        go_wp2_with (go_at_call 17; refine GT.out.mono ?_; rintro e w8 ⟨rfl, r8, -⟩)
        exact ⟨⟨i + 1, _, _, _, _, lt, tt, b, cut, rfl, rfl, rfl, rfl, rfl, by push_cast; rfl, by omega, r8⟩, by simp only [intOf]; omega⟩
      by_cases e2 : a.d = 2
      · rw [e2] at d0
        obtain ⟨hia, hof⟩ := RA.out.own.disk.off HOK.out.keep rfl
        rw [HKV.out] at hia hof
        have CR := Lib.hid (RA.out.crash hia hof)
        clear hia hof
        go_upto_region 26 with (go_at_call 21; refine CR.out.mono ?_; rintro e w4 ⟨fp4, M4, K4, rfl, o4, f4, hfr, hse, hc4⟩)
        clear d0 d1 d2 d5
        rcases hc4 with ⟨q1, q2⟩ | ⟨q0, q1, q2⟩
        · have OP := Lib.hid (Kp.run_open (i := i + 1) o4 f4 hfr hse q1 q2 tt)
          clear o4 f4 hfr hse q1 q2
          go_upto_region 29 with (go_at_call 16; refine OP.out.mono ?_; rintro e w5 ⟨k5, rfl, r5, -⟩)
          have GA := Lib.hid r5.get
          clear r5
          go_upto_region 34 with (go_at_call 17; refine GA.out.mono ?_; rintro e w6 ⟨rfl, r6, -⟩)
          have RR := Lib.hid r6
          clear r6
          have GT := Lib.hid (RR.out.get)
          go_wp2_with (go_at_call 17; refine GT.out.mono ?_; rintro e w8 ⟨rfl, r8, -⟩)
          exact ⟨⟨i + 1, _, _, _, _, lt, tt, b, false, rfl, rfl, rfl, rfl, rfl, by push_cast; rfl, by omega, r8⟩, by simp only [intOf]; omega⟩
        · subst q0
          have OP := Lib.hid (Kp.run_open (s := tt) (i := i + 1) o4 f4 hfr hse q1 q2 tt)
          clear o4 f4 hfr hse q1 q2
          go_upto_region 29 with (go_at_call 16; refine OP.out.mono ?_; rintro e w5 ⟨k5, rfl, r5, -⟩)
          have GA := Lib.hid r5.get
          clear r5
          by_cases hq : tt = lt
          · subst hq
            cases b
            · go_upto_region 34 with (go_at_call 17; refine GA.out.mono ?_; rintro e w6 ⟨rfl, r6, -⟩)
              have RR := Lib.hid r6
              clear r6
              have GT := Lib.hid (RR.out.get)
              go_wp2_with (go_at_call 17; refine GT.out.mono ?_; rintro e w8 ⟨rfl, r8, -⟩)
              exact ⟨⟨i + 1, _, _, _, _, tt, tt, true, false, rfl, rfl, rfl, rfl, rfl, by push_cast; rfl, by omega, r8⟩, by simp only [intOf]; omega⟩
            · go_upto_region 34 with (go_at_call 17; refine GA.out.mono ?_; rintro e w6 ⟨rfl, r6, -⟩)
              have RR := Lib.hid r6
              clear r6
              have GT := Lib.hid (RR.out.get)
              go_wp2_with (go_at_call 17; refine GT.out.mono ?_; rintro e w8 ⟨rfl, r8, -⟩)
              exact ⟨⟨i + 1, _, _, _, _, tt, tt, true, false, rfl, rfl, rfl, rfl, rfl, by push_cast; rfl, by omega, r8⟩, by simp only [intOf]; omega⟩
          · have hs1 := Dk.str_ne hq
            have hs2 : ¬ tt.toList = lt.toList := by simpa using hs1
            go_upto_region 34 with (go_at_call 17; refine GA.out.mono ?_; rintro e w6 ⟨rfl, r6, -⟩)
            have RR := Lib.hid r6
            clear r6
            have GT := Lib.hid (RR.out.get)
            go_wp2_with (go_at_call 17; refine GT.out.mono ?_; rintro e w8 ⟨rfl, r8, -⟩)
            exact ⟨⟨i + 1, _, _, _, _, tt, tt, true, false, rfl, rfl, rfl, rfl, rfl, by push_cast; rfl, by omega, r8⟩, by simp only [intOf]; omega⟩
      have b0 : (a.d == 0) = false := beq_eq_false_iff_ne.2 e0
      have b1 : (a.d == 1) = false := beq_eq_false_iff_ne.2 e1
      have b2 : (a.d == 2) = false := beq_eq_false_iff_ne.2 e2
      have RR := Lib.hid RA.out.next
      have GT := Lib.hid (RR.out.get)
      go_wp2_with (go_at_call 17; refine GT.out.mono ?_; rintro e w8 ⟨rfl, r8, -⟩)
      exact ⟨⟨i + 1, _, _, _, _, lt, tt, b, cut, rfl, rfl, rfl, rfl, rfl, by push_cast; rfl, by omega, r8⟩, by simp only [intOf]; omega⟩
    · have hki : ¬ (i : Int) < (l.length : Int) := by omega
      have B1 := Lib.hid HR.out.own.disk.below
      go_wp2_with fail
      go_ret
      exact ⟨rfl, B1.out⟩
end Go.Proofs.Yticpllhblgildaa
