/-
  DiskTwin: a twin is the same, and goes its own way.
-/
import Derived.Test.YtleknlkbaeognaaDkSame
namespace Go.Proofs.Ytleknlkbaeognaa
open Go.RowKit
namespace Dk
theorem actsAt.one {w : World} {b off : Nat} {l : List Ac} (h : actsAt w b off l) {i : Nat} (hi : i < l.length) : actsAt w b (off + i * 7) [l[i]] := fun k hk => by
  have : k = 0 := by simpa using hk
  subst this
  simpa using h i hi
theorem listAt.one {w : World} {A : Option Addr} {l : List Ac} (h : listAt w A l) {k : Nat} (hk : k < l.length) : listAt w (Option.map (fun x => x.add (k * 7)) A) [l[k]] := by
  rcases h with e | ⟨b, o, rfl, hb, h⟩
  · rw [e] at hk; simp at hk
  · exact .inr ⟨b, o + k * 7, by simp [Addr.add], hb, h.one hk⟩
theorem waits_one (M : Md) (a : Ac) : waits (runs M [a]) ≤ waits M + 1 := waits_doAct M a
theorem fair_of {l : List Ac} {g : Bool} (h : g = true ↔ ¬ Fair l) (hg : g = false) : l.length ≤ 200 := by
  have hf : Fair l := Classical.byContradiction fun hf => by have := h.2 hf; rw [hg] at this; cases this
  exact hf.1
theorem Own.setP {B : Nat} {w0 w : World} {r : Nat} {fp : Nat → Prop} {M : Md} (h : Own B w0 w r fp M) {P : Nat} (hp : ¬ fp P) (hB : B ≤ P) (o : Nat) (v : Value) : Own B w0 (w.setCell ⟨P, o, none⟩ v) r fp M := by
  have hT : Turned (fun k => k = P) w (w.setCell ⟨P, o, none⟩ v) := ⟨rfl, rfl, rfl, by simp, fun i _ hi => Below.heap_setCell _ _ _ _ (show i ≠ P from hi)⟩
  exact ⟨h.disk.keep hT (fun k h1 h2 => hp (h2 ▸ h1)), h.high, h.base, h.below.trans ((Below.refl B w).setCell (p := ⟨P, o, none⟩) hB v)⟩
theorem step_new {B : Nat} {w0 w w' : World} {r : Nat} {fp fp' : Nat → Prop} {M' : Md} (s : Step B w0 w w' r fp fp' M') {S : Nat} (h : ∀ k, fp k → S ≤ k) (hS : S ≤ w.heap.size) : ∀ k, fp' k → S ≤ k := fun k hk => by
  rcases s.grown k hk with e | e
  · exact h k e
  · omega
theorem gr_of (l : List Ac) : ∃ g : Bool, (g = true ↔ ¬ Fair l) := by by_cases h : Fair l; exact ⟨false, by simp [h]⟩; exact ⟨true, by simp [h]⟩
end Dk
set_option maxRecDepth 100000 in
set_option maxHeartbeats 4000000 in
theorem disktwin_any (W : World) (n : UInt8) {A0 A1 A2 : Option Addr} {c0 c1 c2 : Nat} {l0 l1 l2 : List Dk.Ac} (hl0 : l0.length ≤ c0 ∧ c0 ≤ 9223372036854775807) (hl1 : l1.length ≤ c1 ∧ c1 ≤ 9223372036854775807) (hl2 : l2.length ≤ c2 ∧ c2 ≤ 9223372036854775807)
    (hit0 : Dk.listAt W A0 l0) (hit1 : Dk.listAt W A1 l1) (hit2 : Dk.listAt W A2 l2) (hs0 : ∀ a ∈ l0, a.Ok W) (hs1 : ∀ a ∈ l1, a.Ok W) (hs2 : ∀ a ∈ l2, a.Ok W) :
    Calls Try.prog 9 #[.int .u8 n.toNat, .slice A0 l0.length c0, .slice A1 l1.length c1, .slice A2 l2.length c2] W fun e w' => e = .returned (.bool true) ∧ Below W.heap.size W w' := by
  obtain ⟨g0, hg0⟩ := Dk.gr_of l0
  obtain ⟨g1, hg1⟩ := Dk.gr_of l1
  obtain ⟨g2, hg2⟩ := Dk.gr_of l2
  have HT0 := Lib.hid hit0
  have HT1 := Lib.hid hit1
  have HT2 := Lib.hid hit2
  have HS0 := Lib.hid hs0
  have HS1 := Lib.hid hs1
  have HS2 := Lib.hid hs2
  have GR0 : Hid (∀ wx, Below W.heap.size W wx → Calls Try.prog 24 #[.slice A0 l0.length c0] wx fun e w' => e = .returned (.bool g0) ∧ wx = w') := fun wx hx => great7_any (Nat.le_trans hl0.1 hl0.2) (HT0.out.below hx) hs0 g0 hg0
  have GR1 : Hid (∀ wx, Below W.heap.size W wx → Calls Try.prog 24 #[.slice A1 l1.length c1] wx fun e w' => e = .returned (.bool g1) ∧ wx = w') := fun wx hx => great7_any (Nat.le_trans hl1.1 hl1.2) (HT1.out.below hx) hs1 g1 hg1
  have GR2 : Hid (∀ wx, Below W.heap.size W wx → Calls Try.prog 24 #[.slice A2 l2.length c2] wx fun e w' => e = .returned (.bool g2) ∧ wx = w') := fun wx hx => great7_any (Nat.le_trans hl2.1 hl2.2) (HT2.out.below hx) hs2 g2 hg2
  have AW := Lib.hid (awake7_any W)
  have F0 : Hid (g0 = false → l0.length ≤ 200) := Dk.fair_of hg0
  have F1 : Hid (g1 = false → l1.length ≤ 200) := Dk.fair_of hg1
  have F2 : Hid (g2 = false → l2.length ≤ 200) := Dk.fair_of hg2
  clear hit0 hit1 hit2 hs0 hs1 hs2 hg0 hg1 hg2
  cases g0
  case true =>
    go_enter Try.func9, Try.ntmps9
    go_wp2_with fail
    refine (AW.out).mono ?_
    rintro e w1 ⟨rfl, b1⟩
    go_wp2_with fail
    refine (GR0.out w1 b1).mono ?_
    rintro e w' ⟨rfl, rfl⟩
    go_wp2
    go_ret
    exact ⟨rfl, b1⟩
  case false =>
    cases g1
    case true =>
      go_enter Try.func9, Try.ntmps9
      go_wp2_with fail
      refine (AW.out).mono ?_
      rintro e w1 ⟨rfl, b1⟩
      go_wp2_with fail
      refine (GR0.out w1 b1).mono ?_
      rintro e w' ⟨rfl, rfl⟩
      go_wp2_with fail
      refine (GR1.out w1 b1).mono ?_
      rintro e w' ⟨rfl, rfl⟩
      go_wp2
      go_ret
      exact ⟨rfl, b1⟩
    case false =>
      cases g2
      case true =>
        go_enter Try.func9, Try.ntmps9
        go_wp2_with fail
        refine (AW.out).mono ?_
        rintro e w1 ⟨rfl, b1⟩
        go_wp2_with fail
        refine (GR0.out w1 b1).mono ?_
        rintro e w' ⟨rfl, rfl⟩
        go_wp2_with fail
        refine (GR1.out w1 b1).mono ?_
        rintro e w' ⟨rfl, rfl⟩
        go_wp2_with fail
        refine (GR2.out w1 b1).mono ?_
        rintro e w' ⟨rfl, rfl⟩
        go_wp2
        go_ret
        exact ⟨rfl, b1⟩
      case false =>
        have hf0 := F0.out rfl
        have hf1 := F1.out rfl
        have hf2 := F2.out rfl
        clear F0 F1 F2
        obtain ⟨nn, hnn⟩ : ∃ nn, nn = n.toNat % 40 := ⟨_, rfl⟩
        have hnl := n.toNat_lt
        have hm40 : ((n.toNat : Int)).tmod 40 = (nn : Int) := by rw [hnn, Int.tmod_eq_emod_of_nonneg (by omega)]; omega
        have hw8 : IntKind.u8.wrap (nn : Int) = nn := by simp [IntKind.wrap, IntKind.bits, IntKind.signed]; omega
        have hw64 : IntKind.i64.wrap (nn : Int) = nn := by simp [IntKind.wrap, IntKind.bits, IntKind.signed]; omega
        obtain ⟨N, hN⟩ : ∃ N, N = nn + 1 := ⟨_, rfl⟩
        have hw641 : IntKind.i64.wrap (1 + (nn : Int)) = (N : Int) := by rw [hN]; simp [IntKind.wrap, IntKind.bits, IntKind.signed]; omega
        have hNr : 1 ≤ N ∧ N ≤ 4096 := by omega
        have HNR := Lib.hid hNr
        clear hnn hN hnl hNr
        obtain ⟨M0, hM0⟩ : ∃ M, M = Dk.runs (Dk.new N) l0 := ⟨_, rfl⟩
        have h0w : Dk.waits M0 ≤ 200 := by rw [hM0]; have := Dk.waits_runs (Dk.new N) l0; rw [Dk.waits_new] at this; omega
        have HM0 := Lib.hid hM0
        have H0W := Lib.hid h0w
        clear hM0 h0w
        go_enter Try.func9, Try.ntmps9
        go_wp2_with fail
        refine (AW.out).mono ?_
        rintro e w1 ⟨rfl, b1⟩
        go_wp2_with fail
        refine (GR0.out w1 b1).mono ?_
        rintro e w' ⟨rfl, rfl⟩
        go_wp2_with fail
        refine (GR1.out w1 b1).mono ?_
        rintro e w' ⟨rfl, rfl⟩
        go_wp2_with fail
        refine (GR2.out w1 b1).mono ?_
        rintro e w' ⟨rfl, rfl⟩
        clear GR0 GR1 GR2 AW
        have m2 := heap_alloc_new w1 (.cells #[.pointer none, .pointer none, .pointer none] 64)
        have b2 : Below W.heap.size W (w1.alloc (.cells #[.pointer none, .pointer none, .pointer none] 64)) := b1.alloc b1.size _
        have p2 := b1.size
        go_wp2_with fail
        obtain ⟨P, hP⟩ : ∃ P, P = w1.heap.size := ⟨_, rfl⟩
        rw [← hP] at m2 p2 ⊢
        clear hP b1
        generalize w1.alloc (.cells #[.pointer none, .pointer none, .pointer none] 64) = w2 at *
        refine wp_loop_rounds 4 ?_
        rw [rounds_succ]
        go_wp2_with fail
        refine (Dk.new_in b2 (Nat.le_refl _) N HNR.out).mono ?_
        rintro e w3 ⟨ra, fan, rfl, oan, han, ka⟩
        have na : ∀ k, fan k → P + 1 ≤ k := fun k hk => by have := han k hk; have := Sm.lt_of m2; omega
        have m3 := (ka.block P (Sm.lt_of m2)).trans m2
        clear m2 b2
        go_wp2_with fail
        refine (run7_any oan rfl (by omega) HT0.out HS0.out (by rw [Dk.waits_new]; omega)).mono ?_
        rintro e w4 ⟨rfl, fa, sa⟩
        have oa := sa.own
        rw [← HM0.out] at oa
        have qa := Dk.step_new sa na (Sm.lt_of m3)
        have m4 := (sa.turned.block P (Sm.lt_of m3) (fun e => by have := na P e; omega)).trans m3
        clear m3 han ka
        clear sa oan na
        have x0 := Sm.cells_of m4 0 _ rfl
        have y0 := Sm.free_of m4 0
        have m2 := Sm.heap_set m4 0 (.pointer (some ⟨ra, 0, none⟩))
        have oas := oa.setP (P := P) (fun e => by have := qa P e; omega) p2 0 (.pointer (some ⟨ra, 0, none⟩))
        clear oa
        clear m4
        go_wp2_with fail
        clear x0 y0
        revert m2 oas
        generalize w4.setCell ⟨P, 0, none⟩ (.pointer (some ⟨ra, 0, none⟩)) = ws0
        intro m2 oa
        change ws0.heap[P]? = some (.cells #[.pointer (some ⟨ra, 0, none⟩), .pointer none, .pointer none] 64) at m2
        rw [rounds_succ]
        go_wp2_with fail
        refine (Dk.new_in oa.below (Nat.le_refl _) N HNR.out).mono ?_
        rintro e w5 ⟨rb, fbn, rfl, obn, hbn, kb⟩
        have nb : ∀ k, fbn k → P + 1 ≤ k := fun k hk => by have := hbn k hk; have := Sm.lt_of m2; omega
        have m3 := (kb.block P (Sm.lt_of m2)).trans m2
        have dban : ∀ k, fbn k → ¬ fa k := fun k h1 h2 => by have := hbn k h1; have := oa.lt k h2; omega
        have oan := oa.low kb
        clear oa
        clear m2 
        go_wp2_with fail
        refine (run7_any obn rfl (by omega) HT0.out HS0.out (by rw [Dk.waits_new]; omega)).mono ?_
        rintro e w6 ⟨rfl, fb, sb⟩
        have ob := sb.own
        rw [← HM0.out] at ob
        have qb := Dk.step_new sb nb (Sm.lt_of m3)
        have m4 := (sb.turned.block P (Sm.lt_of m3) (fun e => by have := nb P e; omega)).trans m3
        clear m3 hbn kb
        obtain ⟨oa, dba⟩ := oan.beside sb dban
        clear oan dban
        clear sb obn nb
        have x1 := Sm.cells_of m4 1 _ rfl
        have y1 := Sm.free_of m4 1
        have m2 := Sm.heap_set m4 1 (.pointer (some ⟨rb, 0, none⟩))
        have oas := oa.setP (P := P) (fun e => by have := qa P e; omega) p2 1 (.pointer (some ⟨rb, 0, none⟩))
        clear oa
        have obs := ob.setP (P := P) (fun e => by have := qb P e; omega) p2 1 (.pointer (some ⟨rb, 0, none⟩))
        clear ob
        clear m4
        go_wp2_with fail
        clear x1 y1
        revert m2 oas obs
        generalize w6.setCell ⟨P, 1, none⟩ (.pointer (some ⟨rb, 0, none⟩)) = ws1
        intro m2 oa ob
        change ws1.heap[P]? = some (.cells #[.pointer (some ⟨ra, 0, none⟩), .pointer (some ⟨rb, 0, none⟩), .pointer none] 64) at m2
        rw [rounds_succ]
        go_wp2_with fail
        refine (Dk.new_in ob.below (Nat.le_refl _) N HNR.out).mono ?_
        rintro e w7 ⟨rc, fcn, rfl, ocn, hcn, kc⟩
        have nc : ∀ k, fcn k → P + 1 ≤ k := fun k hk => by have := hcn k hk; have := Sm.lt_of m2; omega
        have m3 := (kc.block P (Sm.lt_of m2)).trans m2
        have dcan : ∀ k, fcn k → ¬ fa k := fun k h1 h2 => by have := hcn k h1; have := oa.lt k h2; omega
        have oan := oa.low kc
        clear oa
        have dcbn : ∀ k, fcn k → ¬ fb k := fun k h1 h2 => by have := hcn k h1; have := ob.lt k h2; omega
        have obn := ob.low kc
        clear ob
        clear m2 
        go_wp2_with fail
        refine (run7_any ocn rfl (by omega) HT0.out HS0.out (by rw [Dk.waits_new]; omega)).mono ?_
        rintro e w8 ⟨rfl, fc, sc⟩
        have oc := sc.own
        rw [← HM0.out] at oc
        have qc := Dk.step_new sc nc (Sm.lt_of m3)
        have m4 := (sc.turned.block P (Sm.lt_of m3) (fun e => by have := nc P e; omega)).trans m3
        clear m3 hcn kc
        obtain ⟨oa, dca⟩ := oan.beside sc dcan
        clear oan dcan
        obtain ⟨ob, dcb⟩ := obn.beside sc dcbn
        clear obn dcbn
        clear sc ocn nc
        have x2 := Sm.cells_of m4 2 _ rfl
        have y2 := Sm.free_of m4 2
        have m2 := Sm.heap_set m4 2 (.pointer (some ⟨rc, 0, none⟩))
        have oas := oa.setP (P := P) (fun e => by have := qa P e; omega) p2 2 (.pointer (some ⟨rc, 0, none⟩))
        clear oa
        have obs := ob.setP (P := P) (fun e => by have := qb P e; omega) p2 2 (.pointer (some ⟨rc, 0, none⟩))
        clear ob
        have ocs := oc.setP (P := P) (fun e => by have := qc P e; omega) p2 2 (.pointer (some ⟨rc, 0, none⟩))
        clear oc
        clear m4
        go_wp2_with fail
        clear x2 y2
        revert m2 oas obs ocs
        generalize w8.setCell ⟨P, 2, none⟩ (.pointer (some ⟨rc, 0, none⟩)) = ws2
        intro m2 oa ob oc
        change ws2.heap[P]? = some (.cells #[.pointer (some ⟨ra, 0, none⟩), .pointer (some ⟨rb, 0, none⟩), .pointer (some ⟨rc, 0, none⟩)] 64) at m2
        rw [rounds_succ]
        clear p2
        have x0 := Sm.cells_of m2 0 _ rfl
        have x1 := Sm.cells_of m2 1 _ rfl
        have x2 := Sm.cells_of m2 2 _ rfl
        go_wp2_with fail
        go_region
        replace oa := oa.low ((Below.refl _ ws2).drew)
        replace ob := ob.low ((Below.refl _ ws2).drew)
        replace oc := oc.low ((Below.refl _ ws2).drew)
        go_wp2_with fail
        refine (Dk.twin_in oa (Nat.le_trans H0W.out (by omega))).mono ?_
        rintro e wt ⟨rt, ft, rfl, ot, oa2, gt, at2, kt⟩
        have hF : Dk.Four W.heap.size W wt ra rb rt rc fa fb ft fc M0 M0 M0 M0 :=
          ⟨oa2, ob.low kt, ot, oc.low kt, fun k h1 h2 => dba k h2 h1, at2, fun k h1 h2 => dca k h2 h1, fun k h1 h2 => by have := ob.lt k h1; have := gt k h2; omega, fun k h1 h2 => dcb k h2 h1, fun k h1 h2 => by have := oc.lt k h2; have := gt k h1; omega⟩
        have HF := Lib.hid hF
        clear hF oa ob oc ot oa2 gt at2 kt dba dca dcb qa qb qc m2 x0 x1 x2 HNR
        go_wp2_with fail
        go_loopw [17] (fun s17 wr => ∃ (k : Nat) (Ma Mt : Dk.Md) (g1 g2 g3 g4 : Nat → Prop), s17 = .int .i64 k ∧ k ≤ 200 ∧ Dk.waits Ma ≤ 200 + k ∧ Dk.waits Mt ≤ 200 + k ∧ Dk.Four W.heap.size W wr ra rb rt rc g1 g2 g3 g4 Ma Ma Mt Mt) (fun s17 _ => 200 - (intOf s17).toNat)
        case atStart => exact ⟨0, M0, M0, fa, fb, ft, fc, rfl, by omega, H0W.out, H0W.out, HF.out⟩
        case round =>
          obtain ⟨k, Ma, Mt, g1, g2, g3, g4, rfl, hk, hwa, hwt, hf⟩ := hrel
          clear HF
          have HF := Lib.hid hf
          have HWA := Lib.hid hwa
          have HWT := Lib.hid hwt
          clear hf hwa hwt
          have hsuc : IntKind.i64.wrap ((k : Int) + 1) = ((k + 1 : Nat) : Int) := by simp [IntKind.wrap, IntKind.bits, IntKind.signed]; omega
          by_cases h1 : k < l1.length
          · have h1i : (k : Int) < (l1.length : Int) := by omega
            have LA1 := Lib.hid (HT1.out.one h1)
            have SA1 : Hid (∀ a ∈ [l1[k]], a.Ok W) := fun a ha => HS1.out a (by rw [List.mem_singleton.1 ha]; exact List.getElem_mem _)
            by_cases h2 : k < l2.length
            · have h2i : (k : Int) < (l2.length : Int) := by omega
              have LA2 := Lib.hid (HT2.out.one h2)
              have SA2 : Hid (∀ a ∈ [l2[k]], a.Ok W) := fun a ha => HS2.out a (by rw [List.mem_singleton.1 ha]; exact List.getElem_mem _)
              go_wp2_with fail
              refine (run7_any HF.out.o1 rfl (l := [l1[k]]) (by simp) (LA1.out) SA1.out (by have := HWA.out; have := HWT.out; simp only [List.length_singleton]; omega)).mono ?_
              rintro e wa ⟨rfl, waf, st⟩
              have Fwa := Lib.hid ((HF.out.step st))
              clear st
              go_wp2_with fail
              refine (run7_any Fwa.out.swap.o1 rfl (l := [l1[k]]) (by simp) (LA1.out) SA1.out (by have := HWA.out; have := HWT.out; simp only [List.length_singleton]; omega)).mono ?_
              rintro e wb ⟨rfl, wbf, st⟩
              have Fwb := Lib.hid ((Fwa.out.swap.step st).swap)
              clear st
              go_wp2_with fail
              refine (run7_any Fwb.out.turn.o1 rfl (l := [l2[k]]) (by simp) (LA2.out) SA2.out (by have := HWA.out; have := HWT.out; simp only [List.length_singleton]; omega)).mono ?_
              rintro e wc ⟨rfl, wcf, st⟩
              have Fwc := Lib.hid ((Fwb.out.turn.step st).turn)
              clear st
              go_wp2_with fail
              refine (run7_any Fwc.out.turn.swap.o1 rfl (l := [l2[k]]) (by simp) (LA2.out) SA2.out (by have := HWA.out; have := HWT.out; simp only [List.length_singleton]; omega)).mono ?_
              rintro e wd ⟨rfl, wdf, st⟩
              have Fwd := Lib.hid ((Fwc.out.turn.swap.step st).swap.turn)
              clear st
              go_wp2
              go_roundw
              case rel =>
                refine ⟨k + 1, _, _, _, _, _, _, rfl, by omega, ?_, ?_, Fwd.out⟩
                · exact Nat.le_trans (Dk.waits_one _ _) (by have := HWA.out; omega)
                · exact Nat.le_trans (Dk.waits_one _ _) (by have := HWT.out; omega)
              case measure => simp [intOf]; omega
            · have h2i : ¬ (k : Int) < (l2.length : Int) := by omega
              go_wp2_with fail
              refine (run7_any HF.out.o1 rfl (l := [l1[k]]) (by simp) (LA1.out) SA1.out (by have := HWA.out; have := HWT.out; simp only [List.length_singleton]; omega)).mono ?_
              rintro e wa ⟨rfl, waf, st⟩
              have Fwa := Lib.hid ((HF.out.step st))
              clear st
              go_wp2_with fail
              refine (run7_any Fwa.out.swap.o1 rfl (l := [l1[k]]) (by simp) (LA1.out) SA1.out (by have := HWA.out; have := HWT.out; simp only [List.length_singleton]; omega)).mono ?_
              rintro e wb ⟨rfl, wbf, st⟩
              have Fwb := Lib.hid ((Fwa.out.swap.step st).swap)
              clear st
              clear LA1 SA1
              go_wp2
              go_roundw
              case rel =>
                refine ⟨k + 1, _, _, _, _, _, _, rfl, by omega, ?_, ?_, Fwb.out⟩
                · exact Nat.le_trans (Dk.waits_one _ _) (by have := HWA.out; omega)
                · have := HWT.out; omega
              case measure => simp [intOf]; omega
          · have h1i : ¬ (k : Int) < (l1.length : Int) := by omega
            by_cases h2 : k < l2.length
            · have h2i : (k : Int) < (l2.length : Int) := by omega
              have LA2 := Lib.hid (HT2.out.one h2)
              have SA2 : Hid (∀ a ∈ [l2[k]], a.Ok W) := fun a ha => HS2.out a (by rw [List.mem_singleton.1 ha]; exact List.getElem_mem _)
              go_wp2_with fail
              refine (run7_any HF.out.turn.o1 rfl (l := [l2[k]]) (by simp) (LA2.out) SA2.out (by have := HWA.out; have := HWT.out; simp only [List.length_singleton]; omega)).mono ?_
              rintro e wc ⟨rfl, wcf, st⟩
              have Fwc := Lib.hid ((HF.out.turn.step st).turn)
              clear st
              go_wp2_with fail
              refine (run7_any Fwc.out.turn.swap.o1 rfl (l := [l2[k]]) (by simp) (LA2.out) SA2.out (by have := HWA.out; have := HWT.out; simp only [List.length_singleton]; omega)).mono ?_
              rintro e wd ⟨rfl, wdf, st⟩
              have Fwd := Lib.hid ((Fwc.out.turn.swap.step st).swap.turn)
              clear st
              go_wp2
              go_roundw
              case rel =>
                refine ⟨k + 1, _, _, _, _, _, _, rfl, by omega, ?_, ?_, Fwd.out⟩
                · have := HWA.out; omega
                · exact Nat.le_trans (Dk.waits_one _ _) (by have := HWT.out; omega)
              case measure => simp [intOf]; omega
            · have h2i : ¬ (k : Int) < (l2.length : Int) := by omega
              go_wp2_with fail
              refine (same7_any HF.out (by have := HWA.out; omega)).mono ?_
              rintro e wx ⟨rfl, f1', f2', M1', hf1'⟩
              go_wp2_with fail
              refine (same7_any hf1'.turn (by have := HWT.out; omega)).mono ?_
              rintro e wy ⟨rfl, f3', f4', M3', hf3'⟩
              go_wp2
              go_ret
              exact ⟨rfl, hf3'.o1.below⟩
end Go.Proofs.Ytleknlkbaeognaa
