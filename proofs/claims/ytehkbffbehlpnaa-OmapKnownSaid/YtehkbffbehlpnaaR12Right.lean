/-
  The document's own batch: when one is right, when operations may be.
-/
import Derived.Test.YtehkbffbehlpnaaR12Ops
namespace Go.Proofs.Ytehkbffbehlpnaa
open Go.RowKit Pk
namespace R12
/-- The operations of a row from the one at k on: which bars first. -/
theorem bar_drop {l : List Ba.Op} {k : Nat} (hk : k < l.length) : Ba.bar (l.drop k) = if Ba.bars l[k] = 0 then Ba.bar (l.drop (k + 1)) else Ba.bars l[k] := by
  rw [List.drop_eq_getElem_cons hk, Ba.bar]
/-- What bars operations that are to be done. -/
def may (m : List Pa.Mo) : List Ba.Op → Nat
  | [] => 0
  | o :: r => if o.k ≠ 1 ∧ o.k ≠ 2 then 10 else if (Pa.of3 m o.p.data.toList).2.2 ≠ 0 then (Pa.of3 m o.p.data.toList).2.2.toNat else if Ba.value o ≠ 0 then Ba.value o else may m r
theorem may_drop {m : List Pa.Mo} {l : List Ba.Op} {k : Nat} (hk : k < l.length) : may m (l.drop k) = if l[k].k ≠ 1 ∧ l[k].k ≠ 2 then 10 else if (Pa.of3 m l[k].p.data.toList).2.2 ≠ 0 then (Pa.of3 m l[k].p.data.toList).2.2.toNat else if Ba.value l[k] ≠ 0 then Ba.value l[k] else may m (l.drop (k + 1)) := by
  rw [List.drop_eq_getElem_cons hk, may]
theorem of3_nonneg (m : List Pa.Mo) (p : List UInt8) : (Pa.of3 m p).2.2 = 0 ∨ (Pa.of3 m p).2.2 = 20 ∨ (Pa.of3 m p).2.2 = 21 := by
  cases h : Pa.ok p with
  | false => rw [Pa.of_bad h]; exact .inr (.inl rfl)
  | true =>
    cases hf : Pa.first (Pa.nameOf p) m with
    | none => rw [Pa.of_none h hf]; exact .inr (.inr rfl)
    | some x => rw [Pa.of_some h hf]; exact .inl rfl
end R12
namespace Ba
def mayE (m : List Pa.Mo) (l : List Op) : Nat := if l.length = 0 then 1 else if 4 < l.length then 3 else R12.may m l
end Ba
set_option maxRecDepth 100000 in
set_option maxHeartbeats 4000000 in
theorem r12Right_any {w : World} (b : Ba.Bt) {A : Option Addr} (c : Nat) (hit : Ba.listAt w A b.ops) (hok : b.Ok) (hs : ∀ o ∈ b.ops, o.p.size ≤ 281474976710656) :
    Calls Try.prog 44 #[.agg #[.int .i64 b.ix, .int .i64 b.ep, .slice A b.ops.length c]] w fun e w' => e = .returned (.int .i64 (Ba.right b : Nat)) ∧ Below w.heap.size w w' := by
  obtain ⟨ix, ep, l⟩ := b
  simp only at hit hs ⊢
  have hl := hok.len
  simp only at hl
  have HIT : Hid (∀ wx : World, Below w.heap.size w wx → ∀ j (hj : j < l.length), ∃ b off, A = some ⟨b, off, none⟩ ∧ b < w.heap.size ∧ Ba.opAt wx b (off + j * 3) l[j]) := fun wx k j hj => hit.get k j hj
  have HS := Lib.hid hs
  have b0 : Below w.heap.size w (w.alloc (.cells #[.int .i64 ix, .int .i64 ep, .slice A l.length c] 80)) := (Below.refl _ w).alloc (Nat.le_refl _) _
  have g0 := heap_alloc_new w (.cells #[.int .i64 ix, .int .i64 ep, .slice A l.length c] 80)
  obtain ⟨N, hN⟩ : ∃ N, N = w.heap.size := ⟨_, rfl⟩
  obtain ⟨w0, hw0⟩ : ∃ x, x = w.alloc (.cells #[.int .i64 ix, .int .i64 ep, .slice A l.length c] 80) := ⟨_, rfl⟩
  rw [← hw0, ← hN] at b0 g0
  rw [← hN] at HIT ⊢
  have HN := Lib.hid hN
  have HW := Lib.hid hw0
  have B0 := Lib.hid b0
  have G0 := Lib.hid g0
  have c0 := Sm.cells_of g0 0 _ rfl
  have c1 := Sm.cells_of g0 1 _ rfl
  have c2 := Sm.cells_of g0 2 _ rfl
  clear hit hok hs hN hw0 b0 g0
  unfold Ba.right
  simp only
  by_cases h1 : ix < 1
  · rw [if_pos (.inl h1)]
    go_enter Try.func44, Try.ntmps44
    go_upto_region 1 with (fail)
    rw [← HW.out, ← HN.out]
    go_wp2
    go_ret
    exact ⟨rfl, B0.out⟩
  by_cases h2 : 4611686018427387904 < ix
  · rw [if_pos (.inr (.inl h2))]
    go_enter Try.func44, Try.ntmps44
    go_upto_region 1 with (fail)
    rw [← HW.out, ← HN.out]
    go_wp2
    go_ret
    exact ⟨rfl, B0.out⟩
  by_cases h3 : ep < 1
  · rw [if_pos (.inr (.inr h3))]
    go_enter Try.func44, Try.ntmps44
    go_upto_region 1 with (fail)
    rw [← HW.out, ← HN.out]
    go_wp2
    go_ret
    exact ⟨rfl, B0.out⟩
  rw [if_neg (by omega)]
  by_cases h4 : 4 < l.length
  · rw [if_pos h4]
    have h4' : (4 : Int) < (l.length : Int) := by omega
    go_enter Try.func44, Try.ntmps44
    go_upto_region 1 with (fail)
    rw [← HW.out, ← HN.out]
    go_wp2
    go_ret
    exact ⟨rfl, B0.out⟩
  rw [if_neg h4]
  have h4' : ¬ (4 : Int) < (l.length : Int) := by omega
  obtain ⟨R, hR⟩ : ∃ R, R = Ba.bar l := ⟨_, rfl⟩
  rw [← hR]
  have HR : Hid (R = Ba.bar (l.drop 0)) := by show _ = _; rw [List.drop_zero]; exact hR
  clear hR
  go_enter Try.func44, Try.ntmps44
  go_upto_region 1 with (fail)
  rw [← HW.out, ← HN.out]
  go_upto_region 6 with (fail)
  clear c0 c1 c2
  go_loopw [3] (fun v wr => ∃ k : Nat, v = .int .i64 k ∧ k ≤ l.length ∧ Hid (R = Ba.bar (l.drop k)) ∧ Below N w wr ∧ wr.heap[N]? = some (.cells #[.int .i64 ix, .int .i64 ep, .slice A l.length c] 80 (0, 0))) (fun v _ => l.length - (intOf v).toNat)
  case atStart => exact ⟨0, rfl, Nat.zero_le _, HR.out, B0.out, G0.out⟩
  case round =>
    clear HR B0 G0
    obtain ⟨k, rfl, hk, hr, hb, hg⟩ := hrel
    have c2 := Sm.cells_of hg 2 _ rfl
    have HB := Lib.hid hb
    have HG := Lib.hid hg
    clear hb hg
    by_cases hlt : k < l.length
    · have hki : (k : Int) < (l.length : Int) := by omega
      have hsuc : IntKind.i64.wrap ((k : Int) + 1) = ((k + 1 : Nat) : Int) := by simp [IntKind.wrap, IntKind.bits, IntKind.signed]; omega
      obtain ⟨gb, off, rfl, hgl, o0, o1, o2⟩ := HIT.out _ HB.out k hlt
      have hrd := hr.out
      rw [R12.bar_drop hlt] at hrd
      have hso := HS.out _ (List.getElem_mem hlt)
      obtain ⟨x, hx⟩ : ∃ x, x = l[k] := ⟨_, rfl⟩
      rw [← hx] at o0 o1 o2 hrd hso
      have HRD := Lib.hid hrd
      have HX := Lib.hid hx
      clear hx hr hrd hgl
      have CUT := Lib.hid (r11Cut_any wr x.p (by omega))
      by_cases k1 : x.k = 1
      · have e1 : ((x.k : Int) != 1) = false := by rw [k1]; rfl
        have HKK : Hid (¬ (x.k ≠ 1 ∧ x.k ≠ 2)) := by show ¬ _; omega
        have K1 := Lib.hid k1
        clear k1
        by_cases hp : Pa.ok x.p.data.toList = true
        · have hp2 : ¬ Pa.ok x.p.data.toList = false := by rw [hp]; decide
          have VA : Hid (∀ wx : World, Calls Try.prog 64 #[.agg #[.int .u8 1, .string x.p, .string x.v]] wx fun e w' => e = .returned (.int .i64 (Ba.value x : Nat)) ∧ Below wx.heap.size wx w') := fun wx => by
            have q := r12value_any wx x
            rw [K1.out] at q
            exact q
          have VX : Hid (∀ wx : World, Calls Try.prog 64 #[.agg #[.int .u8 (x.k : Int), .string x.p, .string x.v]] wx fun e w' => e = .returned (.int .i64 (Ba.value x : Nat)) ∧ Below wx.heap.size wx w') := fun wx => r12value_any wx x
          obtain ⟨vv, hvv⟩ : ∃ v, v = Ba.value x := ⟨_, rfl⟩
          rw [← hvv] at VA VX
          have hbx : Ba.bars x = vv := by unfold Ba.bars; rw [if_neg HKK.out, if_neg hp2, hvv]
          have hrd := HRD.out
          rw [hbx] at hrd
          have HRD2 := Lib.hid hrd
          have CUT2 := Lib.hid CUT.out
          unfold Pa.cutV at CUT2
          rw [hp] at CUT2
          clear HRD hrd hbx hvv hp2 CUT hp
          go_wp2_with fail
          refine CUT2.out.mono ?_
          rintro e w2 ⟨rfl, k2⟩
          have HB2 := Lib.hid (HB.out.trans (k2.mono (by have := HB.out.size; have := HN.out; omega)))
          have HG2 := Lib.hid ((k2.block N (Sm.lt_of HG.out)).trans HG.out)
          obtain ⟨gb2, off2, hA, -, o0', o1', o2'⟩ := HIT.out _ HB2.out k hlt
          cases hA
          rw [← HX.out] at o0' o1' o2'
          have c2' := Sm.cells_of HG2.out 2 _ rfl
          clear k2 c2 o0 o1 o2 HB HG CUT2
          go_wp2_with fail
          first | with_reducible refine (VA.out _).mono ?_ | with_reducible refine (VX.out _).mono ?_
          rintro e w3 ⟨rfl, k3⟩
          have HB3 := Lib.hid (HB2.out.trans (k3.mono (by have := HB2.out.size; have := HN.out; omega)))
          have HG3 := Lib.hid ((k3.block N (Sm.lt_of HG2.out)).trans HG2.out)
          clear k3 c2' o0' o1' o2' HB2 HG2 VA VX
          by_cases hv : vv = 0
          · have hvb : ((vv : Int) != 0) = false := by rw [hv]; rfl
            have hrd := HRD2.out
            rw [if_pos hv] at hrd
            clear HRD2
            have HRD3 := Lib.hid hrd
            clear hrd
            go_wp2
            go_roundw
            case rel => exact ⟨k + 1, rfl, hlt, HRD3.out, HB3.out, HG3.out⟩
            case measure => simp [intOf]; omega
          · have hvb : ((vv : Int) != 0) = true := by rw [bne_iff_ne]; omega
            have hrd := HRD2.out
            rw [if_neg hv] at hrd
            have HRE := Lib.hid hrd
            clear hrd HRD2
            go_wp2
            go_ret
            exact ⟨by rw [HRE.out]; try rfl, HB3.out⟩
        · have hp2 : Pa.ok x.p.data.toList = false := by simpa using hp
          have hbx : Ba.bars x = 20 := by unfold Ba.bars; rw [if_neg HKK.out, if_pos hp2]
          have hrd := HRD.out
          rw [hbx, if_neg (by decide)] at hrd
          have HRE := Lib.hid hrd
          have CUT2 := Lib.hid CUT.out
          unfold Pa.cutV at CUT2
          rw [hp2] at CUT2
          clear HRD hrd hbx CUT hp hp2
          go_wp2_with fail
          refine CUT2.out.mono ?_
          rintro e w2 ⟨rfl, k2⟩
          have HB2 := Lib.hid (HB.out.trans (k2.mono (by have := HB.out.size; have := HN.out; omega)))
          clear k2 CUT2
          go_wp2
          go_ret
          exact ⟨by rw [HRE.out]; try rfl, HB2.out⟩
      · have e1 : ((x.k : Int) != 1) = true := by rw [bne_iff_ne]; omega
        by_cases k2 : x.k = 2
        · have e2 : ((x.k : Int) != 2) = false := by rw [k2]; rfl
          have HKK : Hid (¬ (x.k ≠ 1 ∧ x.k ≠ 2)) := by show ¬ _; omega
          have K2 := Lib.hid k2
          clear k1 k2
          by_cases hp : Pa.ok x.p.data.toList = true
          · have hp2 : ¬ Pa.ok x.p.data.toList = false := by rw [hp]; decide
            have VA : Hid (∀ wx : World, Calls Try.prog 64 #[.agg #[.int .u8 2, .string x.p, .string x.v]] wx fun e w' => e = .returned (.int .i64 (Ba.value x : Nat)) ∧ Below wx.heap.size wx w') := fun wx => by
              have q := r12value_any wx x
              rw [K2.out] at q
              exact q
            have VX : Hid (∀ wx : World, Calls Try.prog 64 #[.agg #[.int .u8 (x.k : Int), .string x.p, .string x.v]] wx fun e w' => e = .returned (.int .i64 (Ba.value x : Nat)) ∧ Below wx.heap.size wx w') := fun wx => r12value_any wx x
            obtain ⟨vv, hvv⟩ : ∃ v, v = Ba.value x := ⟨_, rfl⟩
            rw [← hvv] at VA VX
            have hbx : Ba.bars x = vv := by unfold Ba.bars; rw [if_neg HKK.out, if_neg hp2, hvv]
            have hrd := HRD.out
            rw [hbx] at hrd
            have HRD2 := Lib.hid hrd
            have CUT2 := Lib.hid CUT.out
            unfold Pa.cutV at CUT2
            rw [hp] at CUT2
            clear HRD hrd hbx hvv hp2 CUT hp
            go_wp2_with fail
            refine CUT2.out.mono ?_
            rintro e w2 ⟨rfl, kk2⟩
            have HB2 := Lib.hid (HB.out.trans (kk2.mono (by have := HB.out.size; have := HN.out; omega)))
            have HG2 := Lib.hid ((kk2.block N (Sm.lt_of HG.out)).trans HG.out)
            obtain ⟨gb2, off2, hA, -, o0', o1', o2'⟩ := HIT.out _ HB2.out k hlt
            cases hA
            rw [← HX.out] at o0' o1' o2'
            have c2' := Sm.cells_of HG2.out 2 _ rfl
            clear kk2 c2 o0 o1 o2 HB HG CUT2
            go_wp2_with fail
            first | with_reducible refine (VA.out _).mono ?_ | with_reducible refine (VX.out _).mono ?_
            rintro e w3 ⟨rfl, k3⟩
            have HB3 := Lib.hid (HB2.out.trans (k3.mono (by have := HB2.out.size; have := HN.out; omega)))
            have HG3 := Lib.hid ((k3.block N (Sm.lt_of HG2.out)).trans HG2.out)
            clear k3 c2' o0' o1' o2' HB2 HG2 VA VX
            by_cases hv : vv = 0
            · have hvb : ((vv : Int) != 0) = false := by rw [hv]; rfl
              have hrd := HRD2.out
              rw [if_pos hv] at hrd
              clear HRD2
              have HRD3 := Lib.hid hrd
              clear hrd
              go_wp2
              go_roundw
              case rel => exact ⟨k + 1, rfl, hlt, HRD3.out, HB3.out, HG3.out⟩
              case measure => simp [intOf]; omega
            · have hvb : ((vv : Int) != 0) = true := by rw [bne_iff_ne]; omega
              have hrd := HRD2.out
              rw [if_neg hv] at hrd
              have HRE := Lib.hid hrd
              clear hrd HRD2
              go_wp2
              go_ret
              exact ⟨by rw [HRE.out]; try rfl, HB3.out⟩
          · have hp2 : Pa.ok x.p.data.toList = false := by simpa using hp
            have hbx : Ba.bars x = 20 := by unfold Ba.bars; rw [if_neg HKK.out, if_pos hp2]
            have hrd := HRD.out
            rw [hbx, if_neg (by decide)] at hrd
            have HRE := Lib.hid hrd
            have CUT2 := Lib.hid CUT.out
            unfold Pa.cutV at CUT2
            rw [hp2] at CUT2
            clear HRD hrd hbx CUT hp hp2
            go_wp2_with fail
            refine CUT2.out.mono ?_
            rintro e w2 ⟨rfl, kk2⟩
            have HB2 := Lib.hid (HB.out.trans (kk2.mono (by have := HB.out.size; have := HN.out; omega)))
            clear kk2 CUT2
            go_wp2
            go_ret
            exact ⟨by rw [HRE.out]; try rfl, HB2.out⟩
        · have e2 : ((x.k : Int) != 2) = true := by rw [bne_iff_ne]; omega
          have hbx : Ba.bars x = 10 := by unfold Ba.bars; rw [if_pos ⟨k1, k2⟩]
          clear k1 k2
          have hrd := HRD.out
          rw [hbx, if_neg (by decide)] at hrd
          have HRE := Lib.hid hrd
          clear HRD hrd hbx CUT
          go_wp2
          go_ret
          exact ⟨by rw [HRE.out]; try rfl, HB.out⟩
    · have hkl : l.length = k := by omega
      have hki : ¬ (k : Int) < (l.length : Int) := by omega
      have hrd := hr.out
      rw [List.drop_of_length_le (by omega)] at hrd
      have HRE : Hid (R = 0) := hrd
      clear hr hrd hkl
      go_wp2
      go_ret
      exact ⟨by rw [HRE.out]; try rfl, HB.out⟩
end Go.Proofs.Ytehkbffbehlpnaa
