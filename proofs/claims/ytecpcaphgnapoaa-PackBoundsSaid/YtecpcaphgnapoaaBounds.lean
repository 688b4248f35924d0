/-
  PackBounds answers true for every text and every bound, and turns nothing of what was there.
-/
import Derived.Test.YtecpcaphgnapoaaWakes
namespace Go.Proofs.Ytecpcaphgnapoaa
open Go.RowKit Pk

theorem start_ok {s : ByteArray} (hs : s.size ≤ 281474976710656) (n : Nat) (hn : n ≤ s.size) (f : Nat) (hf : f ≤ 8) : Rd.Ok ⟨s, n, f⟩ := ⟨hn, hf, hs⟩
theorem start_rest (s : ByteArray) (f : Nat) : Rd.rest ⟨s, 0, f⟩ = s.data.toList := rfl

set_option maxRecDepth 100000 in
theorem bounds_big (s : ByteArray) (m : Int) (w : World) (h : 30000 < s.size) :
    Calls Try.prog 10 #[.string s, .int .i64 m] w fun e w' => e = .returned (.bool true) ∧ Below w.heap.size w w' := by
  have h1 : (30000 : Int) < s.size := by omega
  go_enter Try.func10, Try.ntmps10
  go_wp2_with fail
  refine (wakes_any _).mono ?_
  rintro e w1 ⟨rfl, hb⟩
  go_wp2
  go_ret
  exact ⟨rfl, hb⟩

set_option maxHeartbeats 1000000 in
set_option maxRecDepth 100000 in
/-- No number, and so no bounded one, and no text. -/
theorem bounds_none (s : ByteArray) (m : Int) (w : World) (h : s.size ≤ 30000) (hm : -9223372036854775808 ≤ m ∧ m ≤ 9223372036854775807) (er : Nat) (he : er ≠ 0) (he8 : er ≤ 8)
    (h1 : Rd.num ⟨s, 0, 0⟩ = (0, ⟨s, 0, er⟩)) (h2 : Rd.most ⟨s, 0, 0⟩ m = (0, ⟨s, 0, er⟩)) (h3 : Rd.text ⟨s, 0, 0⟩ m = ([], ⟨s, 0, er⟩)) :
    Calls Try.prog 10 #[.string s, .int .i64 m] w fun e w' => e = .returned (.bool true) ∧ Below w.heap.size w w' := by
  have h0 : ¬ (30000 : Int) < s.size := by omega
  have hr0 : Rd.Ok ⟨s, 0, 0⟩ := start_ok (by omega) 0 (by omega) 0 (by omega)
  have hr1 : Rd.Ok ⟨s, 0, er⟩ := start_ok (by omega) 0 (by omega) er he8
  have H1 := Lib.hid h1
  have H2 := Lib.hid h2
  have H3 := Lib.hid h3
  have HF : Hid (Rd.fault ⟨s, 0, er⟩ = (er, 0)) := by show (if er = 0 then _ else _) = _; rw [if_neg he]
  have HL : Hid ((Rd.rest ⟨s, 0, er⟩).length = s.size) := by rw [Rd.rest_length]; rfl
  clear h1 h2 h3
  have e1 : ((er : Int) == 0) = false := by rw [beq_eq_false_iff_ne]; omega
  have e2 : ¬ ((er : Int) = 0) := by omega
  go_enter Try.func10, Try.ntmps10
  go_wp2_with fail
  refine (of_any s _ (by omega)).mono ?_
  rintro e w1 ⟨b1, hb1, rfl, hi1, hk1⟩
  go_wp2_with fail
  refine (num_eq hi1 hr0 H1.out).mono ?_
  rintro e w2 ⟨rfl, hs2⟩
  go_wp2_with fail
  refine (fault_eq hs2.inAt HF.out).mono ?_
  rintro e w3 ⟨rfl, n3, rfl⟩
  go_wp2_with fail
  refine (of_any s _ (by omega)).mono ?_
  rintro e w4 ⟨b4, hb4, rfl, hi4, hk4⟩
  go_wp2_with fail
  refine (most_eq hi4 hr0 hm H2.out).mono ?_
  rintro e w5 ⟨rfl, hs5⟩
  go_wp2_with fail
  refine (fault_eq hs5.inAt HF.out).mono ?_
  rintro e w6 ⟨rfl, n6, rfl⟩
  go_wp2_with fail
  have k1 := hk1
  have k2 := chainS k1 (Nat.le_refl _) hs2 hb1
  have k3 := below_drewN k2 n3
  have k4 := chainO k3 (Nat.le_refl _) hk4
  have k5 := chainS k4 (Nat.le_refl _) hs5 (Nat.le_trans k3.size hb4)
  have k6 := below_drewN k5 n6
  refine (of_any s _ (by omega)).mono ?_
  rintro e w7 ⟨b7, hb7, rfl, hi7, hk7⟩
  go_wp2_with fail
  refine (text_eq hi7 hr0 hm H3.out).mono ?_
  rintro e w8 ⟨rfl, hs8⟩
  have hb4lt := hs5.inAt.lt
  have hne : b4 ≠ b7 := by have : w5.heap.size ≤ b7 := hb7; omega
  have k7 := chainO k6 (Nat.le_refl _) hk7
  have k8 := chainS k7 (Nat.le_refl _) hs8 (Nat.le_trans k6.size hb7)
  have hy := ((hs5.inAt.drewN n6).below hk7).stp hs8 hne
  go_wp2_with fail
  refine (fault_eq hs8.inAt HF.out).mono ?_
  rintro e w9 ⟨rfl, n9, rfl⟩
  go_wp2_with fail
  refine (left_eq (hy.drewN n9) hr1 HL.out).mono ?_
  rintro e w10 ⟨rfl, n10, rfl⟩
  go_wp2_with fail
  refine (left_eq (hs8.inAt.drewN (n9 + n10)) hr1 HL.out).mono ?_
  rintro e w11 ⟨rfl, n11, rfl⟩
  go_wp2_with fail
  refine (wakes_any _).mono ?_
  rintro e w12 ⟨rfl, hbz⟩
  go_wp2
  go_ret
  exact ⟨rfl, chainO (below_drewN k8 (n9 + n10 + n11)) (Nat.le_refl _) hbz⟩

set_option maxHeartbeats 1000000 in
set_option maxRecDepth 100000 in
/-- A number above its bound. -/
theorem bounds_above (s : ByteArray) (m : Int) (w : World) (h : s.size ≤ 30000) (hm : -9223372036854775808 ≤ m ∧ m ≤ 9223372036854775807) (v sz : Nat) (hmv : m < 0 ∨ m < (v : Int))
    (h1 : Rd.num ⟨s, 0, 0⟩ = (v, ⟨s, sz, 0⟩)) (h2 : Rd.most ⟨s, 0, 0⟩ m = (0, ⟨s, 0, 8⟩)) (h3 : Rd.text ⟨s, 0, 0⟩ m = ([], ⟨s, 0, 8⟩)) :
    Calls Try.prog 10 #[.string s, .int .i64 m] w fun e w' => e = .returned (.bool true) ∧ Below w.heap.size w w' := by
  have h0 : ¬ (30000 : Int) < s.size := by omega
  have hr0 : Rd.Ok ⟨s, 0, 0⟩ := start_ok (by omega) 0 (by omega) 0 (by omega)
  have hr1 : Rd.Ok ⟨s, 0, 8⟩ := start_ok (by omega) 0 (by omega) 8 (by omega)
  have H1 := Lib.hid h1
  have H2 := Lib.hid h2
  have H3 := Lib.hid h3
  have HF0 : Hid (Rd.fault ⟨s, sz, 0⟩ = (0, 0)) := rfl
  have HF : Hid (Rd.fault ⟨s, 0, 8⟩ = (8, 0)) := rfl
  have HL : Hid ((Rd.rest ⟨s, 0, 8⟩).length = s.size) := by rw [Rd.rest_length]; rfl
  clear h1 h2 h3
  have hd : m < 0 ∨ (0 ≤ m ∧ IntKind.u64.wrap m = m ∧ m < (v : Int)) := by
    by_cases hm0 : m < 0
    · exact .inl hm0
    · exact .inr ⟨by omega, IntWalk.u64_in m (by omega), by omega⟩
  clear hmv
  rcases hd with hd | ⟨hd1, hd2, hd3⟩
  all_goals
    go_enter Try.func10, Try.ntmps10
    go_wp2_with fail
    refine (of_any s _ (by omega)).mono ?_
    rintro e w1 ⟨b1, hb1, rfl, hi1, hk1⟩
    go_wp2_with fail
    refine (num_eq hi1 hr0 H1.out).mono ?_
    rintro e w2 ⟨rfl, hs2⟩
    go_wp2_with fail
    refine (fault_eq hs2.inAt HF0.out).mono ?_
    rintro e w3 ⟨rfl, n3, rfl⟩
    go_wp2_with fail
    refine (of_any s _ (by omega)).mono ?_
    rintro e w4 ⟨b4, hb4, rfl, hi4, hk4⟩
    go_wp2_with fail
    refine (most_eq hi4 hr0 hm H2.out).mono ?_
    rintro e w5 ⟨rfl, hs5⟩
    go_wp2_with fail
    refine (fault_eq hs5.inAt HF.out).mono ?_
    rintro e w6 ⟨rfl, n6, rfl⟩
    go_wp2_with fail
    have k1 := hk1
    have k2 := chainS k1 (Nat.le_refl _) hs2 hb1
    have k3 := below_drewN k2 n3
    have k4 := chainO k3 (Nat.le_refl _) hk4
    have k5 := chainS k4 (Nat.le_refl _) hs5 (Nat.le_trans k3.size hb4)
    have k6 := below_drewN k5 n6
    refine (of_any s _ (by omega)).mono ?_
    rintro e w7 ⟨b7, hb7, rfl, hi7, hk7⟩
    go_wp2_with fail
    refine (text_eq hi7 hr0 hm H3.out).mono ?_
    rintro e w8 ⟨rfl, hs8⟩
    have hb4lt := hs5.inAt.lt
    have hne : b4 ≠ b7 := by have : w5.heap.size ≤ b7 := hb7; omega
    have k7 := chainO k6 (Nat.le_refl _) hk7
    have k8 := chainS k7 (Nat.le_refl _) hs8 (Nat.le_trans k6.size hb7)
    have hy := ((hs5.inAt.drewN n6).below hk7).stp hs8 hne
    go_wp2_with fail
    refine (fault_eq hs8.inAt HF.out).mono ?_
    rintro e w9 ⟨rfl, n9, rfl⟩
    go_wp2_with fail
    refine (left_eq (hy.drewN n9) hr1 HL.out).mono ?_
    rintro e w10 ⟨rfl, n10, rfl⟩
    go_wp2_with fail
    refine (left_eq (hs8.inAt.drewN (n9 + n10)) hr1 HL.out).mono ?_
    rintro e w11 ⟨rfl, n11, rfl⟩
    go_wp2_with fail
    refine (wakes_any _).mono ?_
    rintro e w12 ⟨rfl, hbz⟩
    go_wp2
    go_ret
    exact ⟨rfl, chainO (below_drewN k8 (n9 + n10 + n11)) (Nat.le_refl _) hbz⟩

set_option maxHeartbeats 1000000 in
set_option maxRecDepth 100000 in
/-- A bounded number, and a text that is too short. -/
theorem bounds_short (s : ByteArray) (m : Int) (w : World) (h : s.size ≤ 30000) (hm : -9223372036854775808 ≤ m ∧ m ≤ 9223372036854775807) (v sz : Nat) (hsz : sz ≤ s.size) (hmv : 0 ≤ m ∧ (v : Int) ≤ m) (hvs : s.size - sz < v)
    (h1 : Rd.num ⟨s, 0, 0⟩ = (v, ⟨s, sz, 0⟩)) (h2 : Rd.most ⟨s, 0, 0⟩ m = (v, ⟨s, sz, 0⟩)) (h3 : Rd.text ⟨s, 0, 0⟩ m = ([], ⟨s, 0, 7⟩)) :
    Calls Try.prog 10 #[.string s, .int .i64 m] w fun e w' => e = .returned (.bool true) ∧ Below w.heap.size w w' := by
  have h0 : ¬ (30000 : Int) < s.size := by omega
  have hr0 : Rd.Ok ⟨s, 0, 0⟩ := start_ok (by omega) 0 (by omega) 0 (by omega)
  have hr1 : Rd.Ok ⟨s, sz, 0⟩ := start_ok (by omega) sz hsz 0 (by omega)
  have hr2 : Rd.Ok ⟨s, 0, 7⟩ := start_ok (by omega) 0 (by omega) 7 (by omega)
  have H1 := Lib.hid h1
  have H2 := Lib.hid h2
  have H3 := Lib.hid h3
  have HF0 : Hid (Rd.fault ⟨s, sz, 0⟩ = (0, 0)) := rfl
  have HF : Hid (Rd.fault ⟨s, 0, 7⟩ = (7, 0)) := rfl
  obtain ⟨lf, hlf⟩ : ∃ lf, lf = s.size - sz := ⟨_, rfl⟩
  have HL1 : Hid ((Rd.rest ⟨s, sz, 0⟩).length = lf) := by rw [Rd.rest_length, hlf]; rfl
  have HL : Hid ((Rd.rest ⟨s, 0, 7⟩).length = s.size) := by rw [Rd.rest_length]; rfl
  clear h1 h2 h3
  have g1 : (lf : Int) < v := by omega
  have g2 : (lf : Int) ≤ s.size := by omega
  have g3 : ¬ ((s.size : Int) < lf) := by omega
  have g4 : ¬ ((lf : Int) < 0) := by omega
  have g5 : ¬ (m < 0) := by omega
  have g6 : IntKind.u64.wrap m = m := IntWalk.u64_in m (by omega)
  have g7 : ¬ (m < (v : Int)) := by omega
  have g8 : IntKind.u64.wrap (v : Int) = v := IntWalk.u64_in v (by omega)
  clear hlf
  go_enter Try.func10, Try.ntmps10
  go_wp2_with fail
  refine (of_any s _ (by omega)).mono ?_
  rintro e w1 ⟨b1, hb1, rfl, hi1, hk1⟩
  go_wp2_with fail
  refine (num_eq hi1 hr0 H1.out).mono ?_
  rintro e w2 ⟨rfl, hs2⟩
  go_wp2_with fail
  refine (fault_eq hs2.inAt HF0.out).mono ?_
  rintro e w3 ⟨rfl, n3, rfl⟩
  go_wp2_with fail
  refine (of_any s _ (by omega)).mono ?_
  rintro e w4 ⟨b4, hb4, rfl, hi4, hk4⟩
  go_wp2_with fail
  refine (most_eq hi4 hr0 hm H2.out).mono ?_
  rintro e w5 ⟨rfl, hs5⟩
  go_wp2_with fail
  refine (fault_eq hs5.inAt HF0.out).mono ?_
  rintro e w6 ⟨rfl, n6, rfl⟩
  go_wp2_with fail
  have k1 := hk1
  have k2 := chainS k1 (Nat.le_refl _) hs2 hb1
  have k3 := below_drewN k2 n3
  have k4 := chainO k3 (Nat.le_refl _) hk4
  have k5 := chainS k4 (Nat.le_refl _) hs5 (Nat.le_trans k3.size hb4)
  have k6 := below_drewN k5 n6
  refine (of_any s _ (by omega)).mono ?_
  rintro e w7 ⟨b7, hb7, rfl, hi7, hk7⟩
  go_wp2_with fail
  refine (text_eq hi7 hr0 hm H3.out).mono ?_
  rintro e w8 ⟨rfl, hs8⟩
  have hb4lt := hs5.inAt.lt
  have hb1lt := hs2.inAt.lt
  have hne : b4 ≠ b7 := by have : w5.heap.size ≤ b7 := hb7; omega
  have hne1 : b1 ≠ b4 := by have : w2.heap.size ≤ b4 := hb4; omega
  have hne2 : b1 ≠ b7 := by have : w2.heap.size ≤ b4 := hb4; have : w5.heap.size ≤ b7 := hb7; have := hs5.inAt.lt; omega
  have k7 := chainO k6 (Nat.le_refl _) hk7
  have k8 := chainS k7 (Nat.le_refl _) hs8 (Nat.le_trans k6.size hb7)
  have hy := ((hs5.inAt.drewN n6).below hk7).stp hs8 hne
  have hx := (((((hs2.inAt.drewN n3).below hk4).stp hs5 hne1).drewN n6).below hk7).stp hs8 hne2
  go_wp2_with fail
  refine (fault_eq hs8.inAt HF.out).mono ?_
  rintro e w9 ⟨rfl, n9, rfl⟩
  go_wp2_with fail
  refine (left_eq (hy.drewN n9) hr1 HL1.out).mono ?_
  rintro e w10 ⟨rfl, n10, rfl⟩
  go_wp2_with fail
  refine (left_eq (hx.drewN (n9 + n10)) hr1 HL1.out).mono ?_
  rintro e w11 ⟨rfl, n11, rfl⟩
  go_wp2_with fail
  refine (left_eq (hs8.inAt.drewN (n9 + n10 + n11)) hr2 HL.out).mono ?_
  rintro e w12 ⟨rfl, n12, rfl⟩
  go_wp2_with fail
  refine (wakes_any _).mono ?_
  rintro e w13 ⟨rfl, hbz⟩
  go_wp2
  go_ret
  exact ⟨rfl, chainO (below_drewN k8 (n9 + n10 + n11 + n12)) (Nat.le_refl _) hbz⟩

set_option maxHeartbeats 1000000 in
set_option maxRecDepth 100000 in
/-- A bounded number, and a text of as many bytes. -/
theorem bounds_text (s : ByteArray) (m : Int) (w : World) (h : s.size ≤ 30000) (hm : -9223372036854775808 ≤ m ∧ m ≤ 9223372036854775807) (v sz : Nat) (hsz : sz ≤ s.size) (hmv : 0 ≤ m ∧ (v : Int) ≤ m) (hvs : v ≤ s.size - sz)
    (h1 : Rd.num ⟨s, 0, 0⟩ = (v, ⟨s, sz, 0⟩)) (h2 : Rd.most ⟨s, 0, 0⟩ m = (v, ⟨s, sz, 0⟩)) (h3 : Rd.text ⟨s, 0, 0⟩ m = ((s.data.toList.drop sz).take v, ⟨s, sz + v, 0⟩)) :
    Calls Try.prog 10 #[.string s, .int .i64 m] w fun e w' => e = .returned (.bool true) ∧ Below w.heap.size w w' := by
  have h0 : ¬ (30000 : Int) < s.size := by omega
  have hr0 : Rd.Ok ⟨s, 0, 0⟩ := start_ok (by omega) 0 (by omega) 0 (by omega)
  have hr1 : Rd.Ok ⟨s, sz, 0⟩ := start_ok (by omega) sz hsz 0 (by omega)
  have hr2 : Rd.Ok ⟨s, sz + v, 0⟩ := start_ok (by omega) (sz + v) (by omega) 0 (by omega)
  have H1 := Lib.hid h1
  have H2 := Lib.hid h2
  have H3 := Lib.hid h3
  have HF0 : Hid (Rd.fault ⟨s, sz, 0⟩ = (0, 0)) := rfl
  have HF : Hid (Rd.fault ⟨s, sz + v, 0⟩ = (0, 0)) := rfl
  obtain ⟨lf, hlf⟩ : ∃ lf, lf = s.size - sz := ⟨_, rfl⟩
  have HL1 : Hid ((Rd.rest ⟨s, sz, 0⟩).length = lf) := by rw [Rd.rest_length, hlf]; rfl
  obtain ⟨lg, hlg⟩ : ∃ lg, lg = s.size - (sz + v) := ⟨_, rfl⟩
  have HL2 : Hid ((Rd.rest ⟨s, sz + v, 0⟩).length = lg) := by rw [Rd.rest_length, hlg]; rfl
  clear h1 h2 h3
  have g1 : ¬ ((lf : Int) < v) := by omega
  have g2 : (lf : Int) ≤ s.size := by omega
  have g3 : ¬ ((s.size : Int) < lf) := by omega
  have g4 : ¬ ((lf : Int) < 0) := by omega
  have g5 : ¬ (m < 0) := by omega
  have g6 : IntKind.u64.wrap m = m := IntWalk.u64_in m (by omega)
  have g7 : ¬ (m < (v : Int)) := by omega
  have g8 : IntKind.u64.wrap (v : Int) = v := IntWalk.u64_in v (by omega)
  have g9 : (lg : Int) = lf - v := by omega
  have hT : List.take v (List.drop sz s.data.toList) = ((s.extract (s.size - lf) s.size).extract 0 v).toList := by
    have e : List.take (s.size - sz) (List.drop sz s.data.toList) = List.drop sz s.data.toList := List.take_of_length_le (by simp)
    rw [Lib.toList_data, Lib.extract_data, show s.size - lf = sz from by omega, Lib.extract_data, List.drop_zero, Nat.sub_zero, e]
  have hT2 := Lib.hid hT
  have hg9 := Lib.hid g9
  clear hlf hlg hT g9
  go_enter Try.func10, Try.ntmps10
  go_wp2_with fail
  refine (of_any s _ (by omega)).mono ?_
  rintro e w1 ⟨b1, hb1, rfl, hi1, hk1⟩
  go_wp2_with fail
  refine (num_eq hi1 hr0 H1.out).mono ?_
  rintro e w2 ⟨rfl, hs2⟩
  go_wp2_with fail
  refine (fault_eq hs2.inAt HF0.out).mono ?_
  rintro e w3 ⟨rfl, n3, rfl⟩
  go_wp2_with fail
  refine (of_any s _ (by omega)).mono ?_
  rintro e w4 ⟨b4, hb4, rfl, hi4, hk4⟩
  go_wp2_with fail
  refine (most_eq hi4 hr0 hm H2.out).mono ?_
  rintro e w5 ⟨rfl, hs5⟩
  go_wp2_with fail
  refine (fault_eq hs5.inAt HF0.out).mono ?_
  rintro e w6 ⟨rfl, n6, rfl⟩
  go_wp2_with fail
  have k1 := hk1
  have k2 := chainS k1 (Nat.le_refl _) hs2 hb1
  have k3 := below_drewN k2 n3
  have k4 := chainO k3 (Nat.le_refl _) hk4
  have k5 := chainS k4 (Nat.le_refl _) hs5 (Nat.le_trans k3.size hb4)
  have k6 := below_drewN k5 n6
  refine (of_any s _ (by omega)).mono ?_
  rintro e w7 ⟨b7, hb7, rfl, hi7, hk7⟩
  go_wp2_with fail
  refine (text_eq hi7 hr0 hm H3.out).mono ?_
  rintro e w8 ⟨rfl, hs8⟩
  have hb4lt := hs5.inAt.lt
  have hb1lt := hs2.inAt.lt
  have hne : b4 ≠ b7 := by have : w5.heap.size ≤ b7 := hb7; omega
  have hne1 : b1 ≠ b4 := by have : w2.heap.size ≤ b4 := hb4; omega
  have hne2 : b1 ≠ b7 := by have : w2.heap.size ≤ b4 := hb4; have : w5.heap.size ≤ b7 := hb7; have := hs5.inAt.lt; omega
  have k7 := chainO k6 (Nat.le_refl _) hk7
  have k8 := chainS k7 (Nat.le_refl _) hs8 (Nat.le_trans k6.size hb7)
  have hy := ((hs5.inAt.drewN n6).below hk7).stp hs8 hne
  have hx := (((((hs2.inAt.drewN n3).below hk4).stp hs5 hne1).drewN n6).below hk7).stp hs8 hne2
  go_wp2_with fail
  refine (fault_eq hs8.inAt HF.out).mono ?_
  rintro e w9 ⟨rfl, n9, rfl⟩
  go_wp2_with fail
  refine (left_eq (hy.drewN n9) hr1 HL1.out).mono ?_
  rintro e w10 ⟨rfl, n10, rfl⟩
  go_wp2_with fail
  refine (left_eq (hx.drewN (n9 + n10)) hr1 HL1.out).mono ?_
  rintro e w11 ⟨rfl, n11, rfl⟩
  go_wp2_with fail
  refine (left_eq (hs8.inAt.drewN (n9 + n10 + n11)) hr2 HL2.out).mono ?_
  rintro e w12 ⟨rfl, n12, rfl⟩
  have hB9 : ((lg : Int) == (lf : Int) - (v : Int)) = true := beq_iff_eq.2 hg9.out
  go_wp2_with fail
  refine (wakes_any _).mono ?_
  rintro e w13 ⟨rfl, hbz⟩
  go_wp2
  go_ret
  exact ⟨rfl, chainO (below_drewN k8 (n9 + n10 + n11 + n12)) (Nat.le_refl _) hbz⟩

theorem num_ok {s : ByteArray} {v sz : Nat} (hd : dec 0 0 s.data.toList = (v, sz, 0)) : Rd.num ⟨s, 0, 0⟩ = (v, ⟨s, sz, 0⟩) := by
  simp [Rd.num, Rd.rest, hd, Rd.pass, Rd.go]
theorem num_bad {s : ByteArray} {v sz e : Nat} (hd : dec 0 0 s.data.toList = (v, sz, e)) (he : e ≠ 0) : Rd.num ⟨s, 0, 0⟩ = (0, ⟨s, 0, e⟩) := by
  simp [Rd.num, Rd.rest, hd, Rd.pass, Rd.go, he]
theorem most_ok {s : ByteArray} {v sz : Nat} {m : Int} (hd : cnt s.data.toList m = (v, sz, 0)) : Rd.most ⟨s, 0, 0⟩ m = (v, ⟨s, sz, 0⟩) := by
  simp [Rd.most, Rd.rest, hd, Rd.pass, Rd.go]
theorem most_bad {s : ByteArray} {v sz e : Nat} {m : Int} (hd : cnt s.data.toList m = (v, sz, e)) (he : e ≠ 0) : Rd.most ⟨s, 0, 0⟩ m = (0, ⟨s, 0, e⟩) := by
  simp [Rd.most, Rd.rest, hd, Rd.pass, Rd.go, he]
theorem text_ok {s : ByteArray} {v sz : Nat} {m : Int} (hd : cnt s.data.toList m = (v, sz, 0)) (h : v ≤ s.size - sz) : Rd.text ⟨s, 0, 0⟩ m = ((s.data.toList.drop sz).take v, ⟨s, sz + v, 0⟩) := by
  have h1 : ¬ s.size - sz < v := by omega
  simp [Rd.text, terr, Rd.rest, hd, Rd.pass, Rd.go, h1]
theorem text_short {s : ByteArray} {v sz : Nat} {m : Int} (hd : cnt s.data.toList m = (v, sz, 0)) (h : s.size - sz < v) : Rd.text ⟨s, 0, 0⟩ m = ([], ⟨s, 0, 7⟩) := by
  simp [Rd.text, terr, Rd.rest, hd, Rd.pass, Rd.go, h]
theorem text_bad {s : ByteArray} {v sz e : Nat} {m : Int} (hd : cnt s.data.toList m = (v, sz, e)) (he : e ≠ 0) : Rd.text ⟨s, 0, 0⟩ m = ([], ⟨s, 0, e⟩) := by
  simp [Rd.text, terr, Rd.rest, hd, Rd.pass, Rd.go, he]

theorem bounds_any (s : ByteArray) (m : Int) (w : World) (hm : -9223372036854775808 ≤ m ∧ m ≤ 9223372036854775807) :
    Calls Try.prog 10 #[.string s, .int .i64 m] w fun e w' => e = .returned (.bool true) ∧ Below w.heap.size w w' := by
  by_cases hbig : 30000 < s.size
  · exact bounds_big s m w hbig
  have h : s.size ≤ 30000 := by omega
  have hb := dec_bd s.data.toList
  have he := dec_err s.data.toList 0 0
  obtain ⟨v, sz, er, hd⟩ : ∃ v sz er, dec 0 0 s.data.toList = (v, sz, er) := ⟨_, _, _, rfl⟩
  rw [hd] at hb he
  simp only at hb he
  have hlen : s.data.toList.length = s.size := by simp
  rw [hlen] at hb
  by_cases h0 : er = 0
  · subst h0
    by_cases hmv : m < 0 ∨ m < (v : Int)
    · have hc : cnt s.data.toList m = (0, 0, 8) := by unfold cnt; rw [hd]; exact if_pos ⟨rfl, hmv⟩
      exact bounds_above s m w h hm v sz hmv (num_ok hd) (most_bad hc (by decide)) (text_bad hc (by decide))
    · have hc : cnt s.data.toList m = (v, sz, 0) := by unfold cnt; rw [hd]; exact if_neg (by rintro ⟨_, hx⟩; exact hmv hx)
      by_cases hv : v ≤ s.size - sz
      · exact bounds_text s m w h hm v sz hb.2.2.1 (by omega) hv (num_ok hd) (most_ok hc) (text_ok hc hv)
      · exact bounds_short s m w h hm v sz hb.2.2.1 (by omega) (by omega) (num_ok hd) (most_ok hc) (text_short hc (by omega))
  · have hc : cnt s.data.toList m = (v, sz, er) := by unfold cnt; rw [hd]; exact if_neg (fun hx => h0 hx.1)
    exact bounds_none s m w h hm er h0 hb.2.2.2 (num_bad hd h0) (most_bad hc h0) (text_bad hc h0)
end Go.Proofs.Ytecpcaphgnapoaa
