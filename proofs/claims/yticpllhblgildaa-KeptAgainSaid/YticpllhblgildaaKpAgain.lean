/-
  KeptAgain: opened again, as often as one likes, the same is kept.
-/
import Derived.Test.YticpllhblgildaaKpOne
import Derived.Test.YticpllhblgildaaOpenStrs
namespace Go.Proofs.Yticpllhblgildaa
open Go.RowKit
namespace Kp
/-- What is kept behind i whole Puts of texts. -/
def after (K : Md) (l : List ByteArray) (i : Nat) : Md := (l.take i).foldl (fun K t => made K t.data.toList) K
theorem after_zero (K : Md) (l : List ByteArray) : after K l 0 = K := by simp [after]
theorem after_next (K : Md) {l : List ByteArray} {i : Nat} (h : i < l.length) : after K l (i + 1) = made (after K l i) (l.getD i ByteArray.empty).data.toList := by
  rw [after, List.take_succ_eq_append_getElem h, List.foldl_append, List.getD_eq_getElem?_getD, List.getElem?_eq_getElem h]; rfl
theorem after_seen (K : Md) (l : List ByteArray) : ∀ i, (after K l i).seen ≤ K.seen + i ∧ (after K l i).from_ = K.from_
  | 0 => by rw [after_zero]; exact ⟨Nat.le_refl _, rfl⟩
  | i + 1 => by
    obtain ⟨h1, h2⟩ := after_seen K l i
    by_cases hi : i < l.length
    · rw [after_next K hi]
      exact ⟨by show (after K l i).seen + 1 ≤ _; omega, h2⟩
    · have e : after K l (i + 1) = after K l i := by rw [after, after, List.take_of_length_le (by omega), List.take_of_length_le (by omega)]
      rw [e]; exact ⟨by omega, h2⟩
/-- What Get tells behind i Puts. -/
theorem after_get (K : Md) (h0 : K.gen = 0 ∧ K.text = []) (l : List ByteArray) {i : Nat} (hi : i ≤ l.length) : decide (0 < (after K l i).gen) = decide (0 < i) ∧ (0 < i → (after K l i).text = (l.getD (i - 1) ByteArray.empty).data.toList) := by
  cases i with
  | zero => rw [after_zero, h0.1]; exact ⟨rfl, fun h => by omega⟩
  | succ i =>
    rw [after_next K (by omega)]
    refine ⟨?_, fun _ => by rw [Nat.add_sub_cancel]; rfl⟩
    have : 0 < (made (after K l i) (l.getD i ByteArray.empty).data.toList).gen := by show 0 < (after K l i).seen + 1; omega
    rw [decide_eq_true this, decide_eq_true (by omega)]
end Kp
set_option maxRecDepth 100000 in
set_option maxHeartbeats 1000000 in
theorem keptagain_any (w : World) (A : Option Addr) (c : Nat) (l : List ByteArray) (hsz : ∀ i, (l.getD i ByteArray.empty).size ≤ 9223372036854775807) (hit : St.strsAt w A l) (hll : l.length ≤ 9223372036854775807) :
    Calls Try.prog 9 #[.slice A l.length c] w fun e w' => e = .returned (.bool true) ∧ Below w.heap.size w w' := by
  have AW := Lib.hid (awake9_any w)
  have HIT := Lib.hid hit
  have HSZ := Lib.hid hsz
  by_cases h60 : 60 < l.length
  · have hi : (60 : Int) < l.length := by omega
    clear hit hsz
    go_enter Try.func9, Try.ntmps9
    go_wp2_with (go_at_call 22; refine AW.out.mono ?_; rintro e w1 ⟨rfl, k1⟩)
    go_ret
    exact ⟨rfl, k1⟩
  have hi : ¬ (60 : Int) < l.length := by omega
  obtain ⟨K0, hK0⟩ : ∃ K, K = Kp.zero 0 := ⟨_, rfl⟩
  have hF0 : Kp.Fits (Dk.new 20) K0 := by rw [hK0]; exact Kp.new_fits (n := 20) (by omega) (a := 0) (by omega)
  have A0 : Hid (K0.from_ = 0 ∧ K0.seen = 0 ∧ K0.gen = 0 ∧ K0.text = []) := by rw [hK0]; exact ⟨rfl, rfl, rfl, rfl⟩
  have F0 := Lib.hid hF0
  clear hit hsz hK0 hF0
  go_enter Try.func9, Try.ntmps9
  go_upto_region 5 with (go_at_call 22; refine AW.out.mono ?_; rintro e w1 ⟨rfl, k1⟩)
  have ND := Lib.hid (Dk.new_in k1 (Nat.le_refl _) 20 (by omega))
  go_wp2_with (go_at_call 15; refine ND.out.mono ?_; rintro e w2 ⟨r, fp, rfl, o2, -, -⟩)
  have O2 := Lib.hid o2
  clear o2 k1
  go_loopw [5] (fun s5 wr => ∃ (i : Nat) (fp1 : Nat → Prop) (M1 : Dk.Md), s5 = .int .i64 i ∧ i ≤ l.length ∧ Dk.Own w.heap.size w wr r fp1 M1 ∧ Kp.Fits M1 (Kp.after K0 l i) ∧ M1.fuse < 0) (fun s5 _ => l.length - (intOf s5).toNat)
  case atStart => exact ⟨0, fp, Dk.new 20, rfl, Nat.zero_le _, O2.out, by rw [Kp.after_zero]; exact F0.out, by show (-1 : Int) < 0; omega⟩
  case round =>
    obtain ⟨i, fp1, M1, rfl, hil, ho, hF, hfu⟩ := hrel
    have HO := Lib.hid ho
    have HF := Lib.hid hF
    clear ho hF
    by_cases hlt : i < l.length
    · have hki : (i : Int) < (l.length : Int) := by omega
      have hsuc : IntKind.i64.wrap ((i : Int) + 1) = ((i + 1 : Nat) : Int) := by simp [IntKind.wrap, IntKind.bits, IntKind.signed]; omega
      obtain ⟨gb, ob, hA, ci⟩ := HIT.out.get HO.out.below hlt
      have hgl : gb < w.heap.size := by
        rcases HIT.out with h | ⟨b, o, h1, h2, _⟩
        · rw [h] at hlt; simp at hlt
        · rw [hA] at h1; simp only [Option.some.injEq, Addr.mk.injEq] at h1; omega
      have HIC : Hid (∀ wx j, Below w.heap.size w wx → j < l.length → wx.cell? ⟨gb, ob + j, none⟩ = some (.string (l.getD j ByteArray.empty))) := fun wx j hb hj => by
        obtain ⟨b, o, h1, h2⟩ := HIT.out.get hb hj
        rw [hA] at h1; simp only [Option.some.injEq, Addr.mk.injEq, and_true] at h1
        obtain ⟨rfl, rfl⟩ := h1
        exact h2
      subst hA
      obtain ⟨t, ht⟩ : ∃ t, t = l.getD i ByteArray.empty := ⟨_, rfl⟩
      rw [← ht] at ci
      have HT := Lib.hid ht
      have htz := HSZ.out i
      rw [← ht] at htz
      by_cases h4 : 400 < t.size
      · have h4i : (400 : Int) < t.size := by omega
        have B1 := Lib.hid HO.out.below
        clear ht
        go_wp2_with fail
        go_ret
        exact ⟨rfl, B1.out⟩
      · have h4i : ¬ (400 : Int) < t.size := by omega
        obtain ⟨hs1, hf1⟩ := Kp.after_seen K0 l i
        obtain ⟨hg1, hg2⟩ := Kp.after_get K0 A0.out.2.2 l (i := i) (by omega)
        have NX := Lib.hid (Kp.after_next K0 hlt)
        rw [← ht] at NX
        obtain ⟨K, hK⟩ : ∃ K, K = Kp.after K0 l i := ⟨_, rfl⟩
        obtain ⟨K', hK'⟩ : ∃ K, K = Kp.after K0 l (i + 1) := ⟨_, rfl⟩
        rw [← hK] at HF hs1 hf1 hg1 hg2 NX
        rw [← hK'] at NX
        have HK' := Lib.hid hK'
        have hs2 : K.seen + 1 < 18446744073709551616 := by have := A0.out.2.1; omega
        have hf2 : K.from_ = 0 := by rw [hf1]; exact A0.out.1
        have HG1 := Lib.hid hg1
        have HG2 := Lib.hid hg2
        clear ht hK hK' hs1 hf1 hg1 hg2
        have OP := Lib.hid (Kp.open_in HO.out HF.out hf2)
        clear hf2
        go_upto_region 12 with (go_at_call 16; refine OP.out.mono ?_; rintro e w3 ⟨k, rfl, o3, -, -⟩)
        have GT := Lib.hid (Kp.get_in o3 HF.out.fit)
        rw [HG1.out] at GT
        obtain ⟨s, hs⟩ : ∃ s : ByteArray, s = ⟨K.text.toArray⟩ := ⟨_, rfl⟩
        rw [← hs] at GT
        have HS := Lib.hid hs
        clear hs o3
        go_upto_region 13 with (go_at_call 17; refine GT.out.mono ?_; rintro e w4 ⟨rfl, o4, -⟩)
        have PT := Lib.hid (Kp.put_to o4 HF.out hs2 hfu t (by omega) rfl NX.out.symm)
        have ci4 := HIC.out w4 i o4.disk.below hlt
        rw [← HT.out] at ci4
        have KT : Hid (K'.text = t.data.toList ∧ decide (0 < K'.gen) = true) := by rw [NX.out]; exact ⟨rfl, decide_eq_true (by show 0 < K.seen + 1; omega)⟩
        have O4 := Lib.hid o4
        clear o4 hs2
        have step : ∀ W5, (∃ fp' M', Kp.Step w.heap.size w w4 W5 r fp1 fp' M' k K' ∧ Kp.Fits M' K' ∧ M'.fuse < 0) → Hid (∃ fp' M', Kp.Own w.heap.size w W5 r fp' M' k K' ∧ Kp.Fits M' K' ∧ M'.fuse < 0) := fun W5 ⟨fp', M', h1, h2, h3⟩ => ⟨fp', M', h1.own, h2, h3⟩
        by_cases h0 : i = 0
        · have h0i : (i : Int) = 0 := by omega
          subst h0
          simp only [Nat.add_zero] at ci4
          go_upto_region 15 with (go_at_call 18; refine PT.out.mono ?_; rintro e w5 ⟨fp5, M5, rfl, s5, f5, u5, -⟩; have ST := step w5 ⟨fp5, M5, s5, f5, u5⟩; clear s5 f5 u5)
          obtain ⟨fp6, M6, O6, F6, u6⟩ := ST.out
          have GT2 := Lib.hid (Kp.get_to (s := t) O6 F6.fit KT.out.1 KT.out.2)
          have OX := Lib.hid O6
          have FX := Lib.hid F6
          clear O6 F6 ST
          go_upto_region 16 with (go_at_call 17; refine GT2.out.mono ?_; rintro e w6 ⟨rfl, o6, -⟩)
          have ci6 := HIC.out w6 0 o6.disk.below hlt
          rw [← HT.out] at ci6
          simp only [Nat.add_zero] at ci6
          have WT := Lib.hid (Dk.waits_in o6.disk (by rw [FX.out.waits]; omega))
          rw [FX.out.waits] at WT
          clear o6
          go_wp2_with (go_at_call 34; refine WT.out.mono ?_; rintro e w7 ⟨rfl, o7, -⟩)
          refine ⟨⟨0 + 1, fp6, M6, rfl, by omega, o7, by rw [← HK'.out]; exact FX.out, u6⟩, by simp only [intOf]; omega⟩
        · have h0i : (0 : Int) < i := by omega
          have h0n : 0 < i := by omega
          have h0b : decide (0 < i) = true := decide_eq_true h0n
          have c5 := HIC.out w4 (i - 1) O4.out.disk.below (by omega)
          have hw : IntKind.i64.wrap ((i : Int) - 1) = ((i - 1 : Nat) : Int) := by rw [IntWalk.i64_in _ (by omega)]; omega
          have hs5 : s = l.getD (i - 1) ByteArray.empty := by rw [HS.out, HG2.out h0n]
          rw [← hs5] at c5
          obtain ⟨i1, hi1⟩ : ∃ j, j = i - 1 := ⟨_, rfl⟩
          rw [← hi1] at hw c5
          have hi1l : (i1 : Int) < (l.length : Int) := by omega
          clear hs5 hi1
          go_upto_region 15 with (go_at_call 18; refine PT.out.mono ?_; rintro e w5 ⟨fp5, M5, rfl, s5, f5, u5, -⟩; have ST := step w5 ⟨fp5, M5, s5, f5, u5⟩; clear s5 f5 u5)
          obtain ⟨fp6, M6, O6, F6, u6⟩ := ST.out
          have GT2 := Lib.hid (Kp.get_to (s := t) O6 F6.fit KT.out.1 KT.out.2)
          have OX := Lib.hid O6
          have FX := Lib.hid F6
          clear O6 F6 ST
          go_upto_region 16 with (go_at_call 17; refine GT2.out.mono ?_; rintro e w6 ⟨rfl, o6, -⟩)
          have ci6 := HIC.out w6 i o6.disk.below hlt
          rw [← HT.out] at ci6
          have WT := Lib.hid (Dk.waits_in o6.disk (by rw [FX.out.waits]; omega))
          rw [FX.out.waits] at WT
          clear o6
          go_wp2_with (go_at_call 34; refine WT.out.mono ?_; rintro e w7 ⟨rfl, o7, -⟩)
          refine ⟨⟨i + 1, fp6, M6, by push_cast; rfl, by omega, o7, by rw [← HK'.out]; exact FX.out, u6⟩, by simp only [intOf]; omega⟩
    · have hki : ¬ (i : Int) < (l.length : Int) := by omega
      have B1 := Lib.hid HO.out.below
      go_wp2_with fail
      go_ret
      exact ⟨rfl, B1.out⟩
end Go.Proofs.Yticpllhblgildaa
