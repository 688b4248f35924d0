/-
  The document's own batch: when operations may be.
-/
import Derived.Test.YtlndggbidmmodaaR12Right
namespace Go.Proofs.Ytlndggbidmmodaa
open Go.RowKit Pk
set_option maxRecDepth 100000 in
set_option maxHeartbeats 4000000 in
theorem r12May_any {w : World} {A : Option Addr} {m : List Pa.Mo} (c : Nat) (hm : Pa.listAt w A m) (hml : m.length ≤ 9223372036854775807) {B : Option Addr} {l : List Ba.Op} (d : Nat) (hit : Ba.listAt w B l) (hll : l.length ≤ 9223372036854775807) (hs : ∀ o ∈ l, o.p.size ≤ 281474976710656) :
    Calls Try.prog 15 #[.slice A m.length c, .slice B l.length d] w fun e w' => e = .returned (.int .i64 (Ba.mayE m l : Nat)) ∧ Below w.heap.size w w' := by
  have HIT : Hid (∀ wx : World, Below w.heap.size w wx → ∀ j (hj : j < l.length), ∃ b off, B = some ⟨b, off, none⟩ ∧ b < w.heap.size ∧ Ba.opAt wx b (off + j * 3) l[j]) := fun wx k j hj => hit.get k j hj
  have HS := Lib.hid hs
  have HM := Lib.hid hm
  obtain ⟨N, hN⟩ : ∃ N, N = w.heap.size := ⟨_, rfl⟩
  have HMB : Hid (∀ wx : World, Below N w wx → Pa.listAt wx A m) := fun wx k => by rw [hN] at k; exact hm.below k
  rw [← hN] at HIT ⊢
  have HN := Lib.hid hN
  have B0 : Hid (Below N w w) := Below.refl _ _
  clear hit hs hm HM hN
  unfold Ba.mayE
  by_cases h0 : l.length = 0
  · rw [if_pos h0]
    have h0' : ((l.length : Int) == 0) = true := by rw [h0]; rfl
    clear h0
    go_enter Try.func15, Try.ntmps15
    go_wp2
    go_ret
    exact ⟨rfl, B0.out⟩
  rw [if_neg h0]
  have h0' : ((l.length : Int) == 0) = false := by rw [beq_eq_false_iff_ne]; omega
  by_cases h4 : 4 < l.length
  · rw [if_pos h4]
    have h4' : (4 : Int) < (l.length : Int) := by omega
    clear h0
    go_enter Try.func15, Try.ntmps15
    go_wp2
    go_ret
    exact ⟨rfl, B0.out⟩
  rw [if_neg h4]
  have h4' : ¬ (4 : Int) < (l.length : Int) := by omega
  obtain ⟨R, hR⟩ : ∃ R, R = R12.may m l := ⟨_, rfl⟩
  rw [← hR]
  have HR : Hid (R = R12.may m (l.drop 0)) := by show _ = _; rw [List.drop_zero]; exact hR
  clear hR h0
  go_enter Try.func15, Try.ntmps15
  go_upto_region 6 with (fail)
  go_loopw [5] (fun v wr => ∃ k : Nat, v = .int .i64 k ∧ k ≤ l.length ∧ Hid (R = R12.may m (l.drop k)) ∧ Below N w wr) (fun v _ => l.length - (intOf v).toNat)
  case atStart => exact ⟨0, rfl, Nat.zero_le _, HR.out, B0.out⟩
  case round =>
    clear HR B0
    obtain ⟨k, rfl, hk, hr, hb⟩ := hrel
    have HB := Lib.hid hb
    clear hb
    by_cases hlt : k < l.length
    · have hki : (k : Int) < (l.length : Int) := by omega
      have hsuc : IntKind.i64.wrap ((k : Int) + 1) = ((k + 1 : Nat) : Int) := by simp [IntKind.wrap, IntKind.bits, IntKind.signed]; omega
      obtain ⟨gb, off, rfl, hgl, o0, o1, o2⟩ := HIT.out _ HB.out k hlt
      have hrd := hr.out
      rw [R12.may_drop hlt] at hrd
      have hso := HS.out _ (List.getElem_mem hlt)
      obtain ⟨x, hx⟩ : ∃ x, x = l[k] := ⟨_, rfl⟩
      rw [← hx] at o0 o1 o2 hrd hso
      have OF := Lib.hid (r11Of_any c (HMB.out _ HB.out) hml x.p (by omega))
      have HEE := Lib.hid (R12.of3_nonneg m x.p.data.toList)
      obtain ⟨q, hq⟩ : ∃ q, q = Pa.of3 m x.p.data.toList := ⟨_, rfl⟩
      rw [← hq] at OF HEE hrd
      obtain ⟨nm, sh, ee⟩ := q
      unfold Pa.ofV at OF
      simp only at OF HEE hrd
      have HRD := Lib.hid hrd
      have HX := Lib.hid hx
      clear hx hr hrd hgl hq
      by_cases k1 : x.k = 1
      · have e1 : ((x.k : Int) != 1) = false := by rw [k1]; rfl
        have HKK : Hid (¬ (x.k ≠ 1 ∧ x.k ≠ 2)) := by show ¬ _; omega
        have K1 := Lib.hid k1
        clear k1
        have VA : Hid (∀ wx : World, Calls Try.prog 34 #[.agg #[.int .u8 1, .string x.p, .string x.v]] wx fun e w' => e = .returned (.int .i64 (Ba.value x : Nat)) ∧ Below wx.heap.size wx w') := fun wx => by
          have q := r12value_any wx x
          rw [K1.out] at q
          exact q
        have VX : Hid (∀ wx : World, Calls Try.prog 34 #[.agg #[.int .u8 (x.k : Int), .string x.p, .string x.v]] wx fun e w' => e = .returned (.int .i64 (Ba.value x : Nat)) ∧ Below wx.heap.size wx w') := fun wx => r12value_any wx x
        obtain ⟨vv, hvv⟩ : ∃ v, v = Ba.value x := ⟨_, rfl⟩
        rw [← hvv] at VA VX
        have hrd := HRD.out
        rw [if_neg HKK.out, ← hvv] at hrd
        have HRD2 := Lib.hid hrd
        clear HRD hrd hvv
        go_wp2_with fail
        refine OF.out.mono ?_
        rintro e w2 ⟨rfl, kk2⟩
        have HB2 := Lib.hid (HB.out.trans (kk2.mono (by have := HB.out.size; have := HN.out; omega)))
        have hN2 : N ≤ w2.heap.size := by have := HB2.out.size; have := HN.out; omega
        clear kk2 o0 o1 o2 HB OF
        go_upto_region 11 with (fail)
        have HB3 := Lib.hid (HB2.out.alloc hN2 (.cells #[.string nm, .bool sh] 55))
        clear HB2 hN2
        generalize w2.alloc (.cells #[.string nm, .bool sh] 55) = w3 at *
        by_cases he : ee = 0
        · have heb : (ee != 0) = false := by rw [he]; rfl
          have hrd := HRD2.out
          rw [if_neg (by simp [he])] at hrd
          have HRD3 := Lib.hid hrd
          obtain ⟨gb2, off2, hA, -, o0', o1', o2'⟩ := HIT.out _ HB3.out k hlt
          cases hA
          rw [← HX.out] at o0' o1' o2'
          clear HRD2 hrd he
          go_wp2_with fail
          first | with_reducible refine (VA.out _).mono ?_ | with_reducible refine (VX.out _).mono ?_
          rintro e w4 ⟨rfl, k4⟩
          have HB4 := Lib.hid (HB3.out.trans (k4.mono (by have := HB3.out.size; have := HN.out; omega)))
          clear k4 o0' o1' o2' HB3 VA VX
          by_cases hv : vv = 0
          · have hvb : ((vv : Int) != 0) = false := by rw [hv]; rfl
            have hrd := HRD3.out
            rw [if_neg (by simp [hv])] at hrd
            have HRD4 := Lib.hid hrd
            clear HRD3 hrd
            go_wp2
            go_roundw
            case rel => exact ⟨k + 1, rfl, hlt, HRD4.out, HB4.out⟩
            case measure => simp [intOf]; omega
          · have hvb : ((vv : Int) != 0) = true := by rw [bne_iff_ne]; omega
            have hrd := HRD3.out
            rw [if_pos hv] at hrd
            have HRE := Lib.hid hrd
            clear hrd HRD3
            go_wp2
            go_ret
            exact ⟨by rw [HRE.out]; try rfl, HB4.out⟩
        · have heb : (ee != 0) = true := by rw [bne_iff_ne]; exact he
          have hrd := HRD2.out
          rw [if_pos he] at hrd
          have HRE : Hid ((R : Int) = ee) := by
            show _ = _
            rw [hrd]
            have := HEE.out
            omega
          clear hrd HRD2 VA VX he
          go_wp2
          go_ret
          exact ⟨by rw [HRE.out]; try rfl, HB3.out⟩
      · have e1 : ((x.k : Int) != 1) = true := by rw [bne_iff_ne]; omega
        by_cases k2 : x.k = 2
        · have e2 : ((x.k : Int) != 2) = false := by rw [k2]; rfl
          have HKK : Hid (¬ (x.k ≠ 1 ∧ x.k ≠ 2)) := by show ¬ _; omega
          have K2 := Lib.hid k2
          clear k1 k2
          have VA : Hid (∀ wx : World, Calls Try.prog 34 #[.agg #[.int .u8 2, .string x.p, .string x.v]] wx fun e w' => e = .returned (.int .i64 (Ba.value x : Nat)) ∧ Below wx.heap.size wx w') := fun wx => by
            have q := r12value_any wx x
            rw [K2.out] at q
            exact q
          have VX : Hid (∀ wx : World, Calls Try.prog 34 #[.agg #[.int .u8 (x.k : Int), .string x.p, .string x.v]] wx fun e w' => e = .returned (.int .i64 (Ba.value x : Nat)) ∧ Below wx.heap.size wx w') := fun wx => r12value_any wx x
          obtain ⟨vv, hvv⟩ : ∃ v, v = Ba.value x := ⟨_, rfl⟩
          rw [← hvv] at VA VX
          have hrd := HRD.out
          rw [if_neg HKK.out, ← hvv] at hrd
          have HRD2 := Lib.hid hrd
          clear HRD hrd hvv
          go_wp2_with fail
          refine OF.out.mono ?_
          rintro e w2 ⟨rfl, kk2⟩
          have HB2 := Lib.hid (HB.out.trans (kk2.mono (by have := HB.out.size; have := HN.out; omega)))
          have hN2 : N ≤ w2.heap.size := by have := HB2.out.size; have := HN.out; omega
          clear kk2 o0 o1 o2 HB OF
          go_upto_region 11 with (fail)
          have HB3 := Lib.hid (HB2.out.alloc hN2 (.cells #[.string nm, .bool sh] 55))
          clear HB2 hN2
          generalize w2.alloc (.cells #[.string nm, .bool sh] 55) = w3 at *
          by_cases he : ee = 0
          · have heb : (ee != 0) = false := by rw [he]; rfl
            have hrd := HRD2.out
            rw [if_neg (by simp [he])] at hrd
            have HRD3 := Lib.hid hrd
            obtain ⟨gb2, off2, hA, -, o0', o1', o2'⟩ := HIT.out _ HB3.out k hlt
            cases hA
            rw [← HX.out] at o0' o1' o2'
            clear HRD2 hrd he
            go_wp2_with fail
            first | with_reducible refine (VA.out _).mono ?_ | with_reducible refine (VX.out _).mono ?_
            rintro e w4 ⟨rfl, k4⟩
            have HB4 := Lib.hid (HB3.out.trans (k4.mono (by have := HB3.out.size; have := HN.out; omega)))
            clear k4 o0' o1' o2' HB3 VA VX
            by_cases hv : vv = 0
            · have hvb : ((vv : Int) != 0) = false := by rw [hv]; rfl
              have hrd := HRD3.out
              rw [if_neg (by simp [hv])] at hrd
              have HRD4 := Lib.hid hrd
              clear HRD3 hrd
              go_wp2
              go_roundw
              case rel => exact ⟨k + 1, rfl, hlt, HRD4.out, HB4.out⟩
              case measure => simp [intOf]; omega
            · have hvb : ((vv : Int) != 0) = true := by rw [bne_iff_ne]; omega
              have hrd := HRD3.out
              rw [if_pos hv] at hrd
              have HRE := Lib.hid hrd
              clear hrd HRD3
              go_wp2
              go_ret
              exact ⟨by rw [HRE.out]; try rfl, HB4.out⟩
          · have heb : (ee != 0) = true := by rw [bne_iff_ne]; exact he
            have hrd := HRD2.out
            rw [if_pos he] at hrd
            have HRE : Hid ((R : Int) = ee) := by
              show _ = _
              rw [hrd]
              have := HEE.out
              omega
            clear hrd HRD2 VA VX he
            go_wp2
            go_ret
            exact ⟨by rw [HRE.out]; try rfl, HB3.out⟩
        · have e2 : ((x.k : Int) != 2) = true := by rw [bne_iff_ne]; omega
          have hrd := HRD.out
          rw [if_pos ⟨k1, k2⟩] at hrd
          have HRE := Lib.hid hrd
          clear k1 k2 HRD hrd OF HEE
          go_wp2
          go_ret
          exact ⟨by rw [HRE.out]; try rfl, HB.out⟩
    · have hkl : l.length = k := by omega
      have hki : ¬ (k : Int) < (l.length : Int) := by omega
      have hrd := hr.out
      rw [List.drop_of_length_le (by omega)] at hrd
      have HRE : Hid (R = 0) := hrd
      clear hr hrd hkl
      go_wp2
      go_ret
      exact ⟨by rw [HRE.out]; try rfl, HB.out⟩
end Go.Proofs.Ytlndggbidmmodaa
