/-
  LogEpochs: records of two epochs never mix.
-/
import Derived.Test.YticpllhblgildaaLgFill
namespace Go.Proofs.Yticpllhblgildaa
open Go.RowKit
namespace Lg
theorem opened_none {n : Nat} {f : Nat → List UInt8} {a : Int} {ep : Nat} (h : Pt.number 0 ((place n f).getD 0 []) ≠ ep) : (opened n f a ep).recs = [] ∧ (opened n f a ep).end_ - (opened n f a ep).next = n ∧ (opened n f a ep).ep = ep := by
  have e := found_other h
  refine ⟨by rw [opened_recs, e]; rfl, ?_, rfl⟩
  rw [opened_end, opened_next, e]
  show a + (n : Int) - (a + ((0 : Nat) : Int)) = n
  omega
theorem blank_head {N : Nat} {n : Nat} (hN : 1 ≤ N ∧ N ≤ 4096) (hn : 1 ≤ n ∧ n ≤ N) : Pt.number 0 ((place n (Kp.lastly (Dk.new N) 0)).getD 0 []) = 0 := by
  have e : (place n (Kp.lastly (Dk.new N) 0)).getD 0 [] = [] := by
    rw [List.getD_eq_getElem?_getD, place_get (by omega)]
    have : Kp.lastly (Dk.new N) 0 0 = Dk.blank := by
      rw [Kp.lastly, Dk.last, Dk.new, List.getD_eq_getElem?_getD, List.getElem?_replicate, if_pos (show (0 : Int).toNat + 0 < N from by simp; omega)]; rfl
    rw [this]
    have hl : Dk.lookOf Dk.blank = ([], 0) := by unfold Dk.lookOf; exact if_pos rfl
    rw [hl]; rfl
  rw [e, Pt.number_nil]
theorem opened_salt_le {n : Nat} (f : Nat → List UInt8) (a : Int) (ep ep' : Nat) : (opened n f a ep).salt = (opened n f a ep').salt := rfl
end Lg
set_option maxRecDepth 100000 in
set_option maxHeartbeats 4000000 in
theorem logepochs_any (w : World) (one two : Nat) (h1 : one < 18446744073709551616) (h2 : two < 18446744073709551616) (A : Option Addr) (ca : Nat) (la : List ByteArray) (C : Option Addr) (cb : Nat) (lb : List ByteArray)
    (hA : St.strsAt w A la) (hC : St.strsAt w C lb) (hsa : ∀ i, (la.getD i ByteArray.empty).size ≤ 9223372036854775807) (hsb : ∀ i, (lb.getD i ByteArray.empty).size ≤ 9223372036854775807) :
    Calls Try.prog 12 #[.int .u64 (one : Int), .int .u64 (two : Int), .slice A la.length ca, .slice C lb.length cb] w fun e w' => e = .returned (.bool true) ∧ Below w.heap.size w w' := by
  have AW := Lib.hid (awake10_any w)
  have HA := Lib.hid hA
  have HC := Lib.hid hC
  have HSA := Lib.hid hsa
  have HSB := Lib.hid hsb
  clear hA hC hsa hsb
  by_cases hbad : one < 1 ∨ two < 1 ∨ one = two ∨ 60 < la.length ∨ 60 < lb.length
  · by_cases b1 : one < 1
    · have b1i : (one : Int) < 1 := by omega
      clear hbad
      go_enter Try.func12, Try.ntmps12
      go_wp2_with (go_at_call 39; refine AW.out.mono ?_; rintro e w1 ⟨rfl, k1⟩)
      go_ret
      exact ⟨rfl, k1⟩
    have b1i : ¬ (one : Int) < 1 := by omega
    by_cases b2 : two < 1
    · have b2i : (two : Int) < 1 := by omega
      clear hbad
      go_enter Try.func12, Try.ntmps12
      go_wp2_with (go_at_call 39; refine AW.out.mono ?_; rintro e w1 ⟨rfl, k1⟩)
      go_ret
      exact ⟨rfl, k1⟩
    have b2i : ¬ (two : Int) < 1 := by omega
    by_cases b3 : one = two
    · subst b3
      clear hbad
      go_enter Try.func12, Try.ntmps12
      go_wp2_with (go_at_call 39; refine AW.out.mono ?_; rintro e w1 ⟨rfl, k1⟩)
      go_ret
      exact ⟨rfl, k1⟩
    have b3i : ¬ (one : Int) = (two : Int) := by omega
    have b3b : ((one : Int) == (two : Int)) = false := beq_eq_false_iff_ne.2 b3i
    by_cases b4 : 60 < la.length
    · have b4i : (60 : Int) < (la.length : Int) := by omega
      clear hbad
      go_enter Try.func12, Try.ntmps12
      go_wp2_with (go_at_call 39; refine AW.out.mono ?_; rintro e w1 ⟨rfl, k1⟩)
      go_ret
      exact ⟨rfl, k1⟩
    have b4i : ¬ (60 : Int) < (la.length : Int) := by omega
    have b5i : (60 : Int) < (lb.length : Int) := by omega
    clear hbad
    go_enter Try.func12, Try.ntmps12
    go_wp2_with (go_at_call 39; refine AW.out.mono ?_; rintro e w1 ⟨rfl, k1⟩)
    go_ret
    exact ⟨rfl, k1⟩
  have b1i : ¬ (one : Int) < 1 := by omega
  have b2i : ¬ (two : Int) < 1 := by omega
  have b3 : one ≠ two := by omega
  have b3i : ¬ (one : Int) = (two : Int) := by omega
  have b3b : ((one : Int) == (two : Int)) = false := beq_eq_false_iff_ne.2 b3i
  have b4i : ¬ (60 : Int) < (la.length : Int) := by omega
  have b5i : ¬ (60 : Int) < (lb.length : Int) := by omega
  have E1 : Hid (0 < one ∧ one < 18446744073709551616) := by show _ ∧ _; omega
  have E2 : Hid (0 < two ∧ two < 18446744073709551616) := by show _ ∧ _; omega
  have B3 := Lib.hid b3
  obtain ⟨na, hna⟩ : ∃ n, n = la.length := ⟨_, rfl⟩
  obtain ⟨nb, hnb⟩ : ∃ n, n = lb.length := ⟨_, rfl⟩
  have HNA := Lib.hid hna
  have HNB := Lib.hid hnb
  have hna60 : na ≤ 60 := by omega
  have hnb60 : nb ≤ 60 := by omega
  obtain ⟨R0, O0⟩ := Lg.rest_new (N := 50) (by decide) (a := 0) (n := 50) (by decide) (by decide)
  obtain ⟨L0, hL0⟩ : ∃ L, L = Lg.opened 50 (Kp.lastly (Dk.new 50) 0) 0 one := ⟨_, rfl⟩
  have A0 : Hid (L0.ep = one ∧ L0.salt = 0 ∧ L0.recs = []) := by show _ ∧ _ ∧ _; rw [hL0, O0 one E1.out.1]; exact ⟨rfl, rfl, rfl⟩
  have HL0 := Lib.hid hL0
  have HR0 := Lib.hid R0
  rw [← hna] at b4i ⊢
  rw [← hnb] at b5i ⊢
  clear hbad hna hnb R0 O0 hL0 h1 h2 b3
  go_enter Try.func12, Try.ntmps12
  go_upto_region 5 with (go_at_call 39; refine AW.out.mono ?_; rintro e w1 ⟨rfl, k1⟩)
  have ND := Lib.hid (Dk.new_in k1 (Nat.le_refl _) 50 (by omega))
  go_upto_region 6 with (go_at_call 15; refine ND.out.mono ?_; rintro e w2 ⟨r, fp, rfl, o2, -, -⟩)
  have OP : Hid (Calls Try.prog 35 #[.pointer (some ⟨r, 0, none⟩), .int .i64 0, .int .i64 50, .int .u64 (one : Int)] w2 _) := Lg.open10_in (L := L0) o2 HR0.out E1.out HL0.out
  clear o2 k1 ND
  go_upto_region 9 with (go_at_call 35; refine OP.out.mono ?_; rintro e w3 ⟨k3, bl3, rfl, o3, f3, -, -⟩)
  have FI0 := fill10_any o3 f3 (by show (-1 : Int) < 0; omega) (by rw [A0.out.2.1]; omega) A ca la rfl HA.out HSA.out (by rw [← HNA.out]; omega)
  rw [← HNA.out] at FI0
  have FI := Lib.hid FI0
  clear FI0
  have HS3 := o3.disk.below
  clear o3 f3 OP
  go_upto_region 10 with (go_at_call 43; refine FI.out.mono ?_; rintro e w4 ⟨hv, Ah, ch, fp4, bl4, M4, L4, rfl, F4⟩)
  obtain ⟨mh, hmh⟩ : ∃ m, m = hv.length := ⟨_, rfl⟩
  have HMH := Lib.hid hmh
  have hmb := F4.few
  rw [← hmh] at F4 hmb ⊢
  clear hmh
  have hr4 : L4.recs = hv := by rw [F4.recs, A0.out.2.2, List.nil_append]
  have he4 : L4.ep = one := F4.ep.trans A0.out.1
  have hs4 : L4.salt ≤ 60 := by have := F4.salt; rw [A0.out.2.1] at this; omega
  have hne4 : Pt.number 0 ((Lg.place 50 (Kp.lastly M4 0)).getD 0 []) ≠ two := by
    by_cases h0 : hv = []
    · rw [F4.none h0, Lg.blank_head (by decide) (by decide)]
      have := E2.out.1; omega
    · rw [F4.fits.head (by rw [hr4]; exact h0), he4]
      exact B3.out
  obtain ⟨L5, hL5⟩ : ∃ L, L = Lg.opened 50 (Kp.lastly M4 0) 0 two := ⟨_, rfl⟩
  have A5 : Hid (L5.recs = [] ∧ L5.end_ - L5.next = 50 ∧ L5.ep = two ∧ L5.salt ≤ 60) := by
    obtain ⟨q1, q2, q3⟩ := Lg.opened_none (n := 50) (f := Kp.lastly M4 0) (a := 0) hne4
    show _ ∧ _ ∧ _ ∧ _
    rw [hL5]
    refine ⟨q1, q2, q3, ?_⟩
    rw [Lg.opened_salt_le _ _ two L4.ep, ← F4.fits.same]
    exact hs4
  have OP : Hid (Calls Try.prog 35 #[.pointer (some ⟨r, 0, none⟩), .int .i64 0, .int .i64 50, .int .u64 (two : Int)] w4 _) := Lg.open10_in (L := L5) F4.step.own.disk F4.fits.rest E2.out hL5
  have H4 := Lib.hid F4
  have R4 := Lib.hid hr4
  have EP4 := Lib.hid he4
  clear hr4 he4 hs4 hne4 hL5 F4 FI
  go_upto_region 11 with (go_at_call 35; refine OP.out.mono ?_; rintro e w5 ⟨k5, bl5, rfl, o5, f5, q5, kk5⟩)
  have O5 := Lib.hid o5
  have RE : Hid (Calls Try.prog 38 #[.pointer (some ⟨k5, 0, none⟩)] w5 _) := Lg.records_in (rs := []) o5 f5.fit A5.out.1
  have RO : Hid (∀ wx, Below w5.heap.size w5 wx → Calls Try.prog 37 #[.pointer (some ⟨k5, 0, none⟩)] wx _) := fun wx hwx => Lg.room_in (O5.out.below hwx) f5.fit A5.out.2.1
  have F5 := Lib.hid f5
  have K5 := Lib.hid kk5
  have M5 := Lib.hid ((H4.out.mine.turned (Dk.Turned.of_below (fp := fun q => fp4 q ∨ bl4 q) kk5 (Nat.le_refl _)) (f' := fun q => fp4 q ∨ bl5 q) (fun q hq => by
    rcases hq with hq | hq
    · exact .inl (.inl hq)
    · exact .inr (q5 q hq))))
  clear o5 f5 q5 kk5 OP
  go_upto_region 13 with (first
    | (go_at_call 38; refine RE.out.mono ?_; rintro e w6 ⟨A6, c6, rfl, -, -, -, k6⟩)
    | (go_at_call 37; refine (RO.out _ k6).mono ?_; rintro e w7 ⟨rfl, o7, k7⟩))
  have FJ0 := fill10_any o7 F5.out H4.out.fuse (by have := A5.out.2.2.2; omega) C cb lb rfl HC.out HSB.out (by rw [← HNB.out]; omega)
  rw [← HNB.out] at FJ0
  have FJ := Lib.hid FJ0
  have M7 := Lib.hid ((M5.out.low k6).low k7)
  clear FJ0 o7 k6 k7 RE RO
  go_upto_region 14 with (go_at_call 43; refine FJ.out.mono ?_; rintro e w8 ⟨hw, Aw, cw, fp8, bl8, M8, L8, rfl, F8⟩)
  obtain ⟨mw, hmw⟩ : ∃ m, m = hw.length := ⟨_, rfl⟩
  have HMW := Lib.hid hmw
  have hwb := F8.few
  rw [← hmw] at F8 hwb ⊢
  clear hmw
  have hr8 : L8.recs = hw := by rw [F8.recs, A5.out.1, List.nil_append]
  have he8 : L8.ep = two := F8.ep.trans A5.out.2.2.1
  have M8' := Lib.hid (M7.out.turned F8.step.turned (f' := fun q => fp8 q ∨ bl8 q) (fun q hq => by
    rcases hq with hq | hq
    · rcases F8.step.grown q hq with h | h
      · exact .inl (.inl h)
      · exact .inr h
    · rcases F8.step.more q hq with h | h
      · exact .inl (.inr h)
      · exact .inr h))
  obtain ⟨L9, hL9⟩ : ∃ L, L = Lg.opened 50 (Kp.lastly M8 0) 0 one := ⟨_, rfl⟩
  obtain ⟨ol, hol⟩ : ∃ l, l = L9.recs := ⟨_, rfl⟩
  have OL1 : Hid (hw = [] → ol = hv) := fun h0 => by
    rw [hol, hL9, F8.none h0]
    have := H4.out.fits.same
    rw [EP4.out] at this
    rw [← this]; exact R4.out
  have OL2 : Hid (hw ≠ [] → ol = []) := fun h0 => by
    rw [hol, hL9]
    exact (Lg.opened_none (by rw [F8.fits.head (by rw [hr8]; exact h0), he8]; exact fun e => B3.out e.symm)).1
  have OP : Hid (Calls Try.prog 35 #[.pointer (some ⟨r, 0, none⟩), .int .i64 0, .int .i64 50, .int .u64 (one : Int)] w8 _) := Lg.open10_in (L := L9) F8.step.own.disk F8.fits.rest E1.out hL9
  have H8 := Lib.hid F8
  have R8 := Lib.hid hr8
  have EP8 := Lib.hid he8
  have HOL := Lib.hid hol
  clear hr8 he8 hL9 hol F8 FJ M7
  go_upto_region 15 with (go_at_call 35; refine OP.out.mono ?_; rintro e w9 ⟨k9, bl9, rfl, o9, f9, q9, kk9⟩)
  have OQ : Hid (Calls Try.prog 35 #[.pointer (some ⟨r, 0, none⟩), .int .i64 0, .int .i64 50, .int .u64 (two : Int)] w9 _) := Lg.open10_in (L := L8) o9.disk f9.rest E2.out (by have := H8.out.fits.same; rwa [EP8.out] at this)
  have O9 := Lib.hid o9
  have F9 := Lib.hid f9.fit
  have M9a := Lib.hid (M8'.out.low kk9)
  have M9b := Lib.hid (H8.out.mine.low kk9)
  clear o9 f9 q9 kk9 OP
  go_upto_region 16 with (go_at_call 35; refine OQ.out.mono ?_; rintro e w10 ⟨k10, bl10, rfl, o10, f10, q10, kk10⟩)
  have O10 := Lib.hid (O9.out.below kk10)
  have M10a := Lib.hid (M9a.out.low kk10)
  have M10b := Lib.hid (M9b.out.low kk10)
  have RE0 := Lg.records_in o10 f10.fit R8.out
  rw [← HMW.out] at RE0
  have RE := Lib.hid RE0
  clear RE0 o10 f10 q10 kk10 OQ O9
  go_upto_region 18 with (first
    | (go_at_call 38; refine RE.out.mono ?_; rintro e w11 ⟨A11, c11, rfl, -, r11, -, k11⟩)
    | (go_at_call 40; refine (Lg.same_true _ _ _ _ _ _ hw HMW.out (by rw [← HMW.out]; omega) r11 ((M10b.out.low k11).rows HMW.out)).mono ?_; rintro e w12 ⟨rfl, k12⟩))
  have b12 := k11.trans (k12.mono k11.size)
  have M12 := Lib.hid (M10a.out.low b12)
  have RE9 := Lg.records_in (O10.out.below b12) F9.out HOL.out.symm
  obtain ⟨mo, hmo⟩ : ∃ m, m = ol.length := ⟨_, rfl⟩
  rw [← hmo] at RE9
  have HMO := Lib.hid hmo
  have RP := Lib.hid RE9
  clear RE9 hmo b12 k11 k12 r11 RE
  have hcap : mh ≤ ch := by
    rcases M12.out.row.2 with ⟨e, h0⟩ | ⟨b, cap, cur, e, _, _, h1, _⟩
    · rw [HMH.out, h0]; omega
    · simp only [Value.slice.injEq] at e
      rw [HMH.out, e.2.2]; exact h1
  go_upto_region 19 with (go_at_call 38; refine RP.out.mono ?_; rintro e w13 ⟨A13, c13, rfl, -, r13, o13, k13⟩)
  have M13 := Lib.hid (M12.out.low k13)
  have O13 := Lib.hid o13
  have R13 := Lib.hid r13
  clear r13 o13 k13
  by_cases hw0 : hw = []
  · have hmw0 : mw = 0 := by rw [HMW.out, hw0]; rfl
    have e1 := OL1.out hw0
    have hmo2 : mo = mh := by rw [HMO.out, e1, HMH.out]
    subst hmw0
    subst hmo2
    have hci : (mo : Int) ≤ (ch : Int) := by omega
    have h00 : (0 : Int) ≤ (mo : Int) := by omega
    have SA : Hid (∀ c2, Calls Try.prog 40 #[.slice A13 mo c13, .slice Ah mo c2] w13 fun e w' => e = .returned (.bool true) ∧ Below w13.heap.size w13 w') := fun c2 => Lg.same_true _ _ _ _ _ _ hv HMH.out (by rw [← HMH.out]; omega) (by have := R13.out; rwa [e1] at this) (M13.out.rows HMH.out)
    clear e1 hw0
    go_wp2_with (go_at_call 40; refine (SA.out _).mono ?_; rintro e w14 ⟨rfl, k14⟩)
    go_ret
    exact ⟨rfl, (O13.out.below k14).disk.below⟩
  · have e1 := OL2.out hw0
    have hmw0 : 0 < mw := by rw [HMW.out]; exact List.length_pos_iff.2 hw0
    have hmwi : (0 : Int) < (mw : Int) := by omega
    have hmwe : ¬ (mw : Int) = 0 := by omega
    have hmwb : ((mw : Int) == 0) = false := beq_eq_false_iff_ne.2 hmwe
    have hmo2 : mo = 0 := by rw [HMO.out, e1]; rfl
    subst hmo2
    have h00 : (0 : Int) ≤ (mh : Int) := by omega
    have SA : Hid (∀ A2 c2, Calls Try.prog 40 #[.slice A13 0 c13, .slice A2 0 c2] w13 fun e w' => e = .returned (.bool true) ∧ Below w13.heap.size w13 w') := fun A2 c2 => Lg.same_true _ _ _ _ _ _ [] rfl (by simp) (.inl rfl) (.inl rfl)
    clear e1 hw0
    go_wp2_with (go_at_call 40; refine (SA.out _ _).mono ?_; rintro e w14 ⟨rfl, k14⟩)
    go_ret
    exact ⟨rfl, (O13.out.below k14).disk.below⟩
end Go.Proofs.Yticpllhblgildaa
