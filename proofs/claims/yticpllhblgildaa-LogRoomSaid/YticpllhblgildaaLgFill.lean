/-
  Texts that are added as far as they fit: what fill leaves, and tells.
-/
import Derived.Test.YticpllhblgildaaLgRun
import Derived.Test.YticpllhblgildaaOpenStrs
namespace Go.Proofs.Yticpllhblgildaa
open Go.RowKit
namespace Lg
theorem found_head {ep : Nat} {S : List (List UInt8)} (h : found ep S ≠ []) : Pt.number 0 (S.getD 0 []) = ep := by
  unfold found at h
  cases hl : S.length with
  | zero => rw [hl] at h; exact absurd rfl h
  | succ n =>
    rw [hl, find] at h
    cases hf : first ep 0 S with
    | none => rw [hf] at h; exact absurd rfl h
    | some x =>
      unfold first at hf
      split at hf
      · rename_i hc; exact hc.1
      · cases hf
theorem found_other {ep : Nat} {S : List (List UInt8)} (h : Pt.number 0 (S.getD 0 []) ≠ ep) : found ep S = [] := by
  by_cases h0 : found ep S = []
  · exact h0
  · exact absurd (found_head h0) h
theorem Fits.head {M : Dk.Md} {a : Int} {n : Nat} {L : Md} (h : Fits M a n L) (h0 : L.recs ≠ []) : Pt.number 0 ((place n (Kp.lastly M a)).getD 0 []) = L.ep := found_head fun e => h0 (by rw [h.recs, e]; rfl)
theorem Step.other {B : Nat} {w0 w w' w1 : World} {r : Nat} {fp fp' : Nat → Prop} {M' : Dk.Md} {k : Nat} {bl bl' : Nat → Prop} {L' : Md} (s : Step B w0 w w' r fp fp' M' k bl bl' L') {f : Nat → Prop} (t : Dk.Turned f w' w1) (hB : B ≤ w.heap.size) (hf : ∀ q, f q → w.heap.size ≤ q ∧ ¬ fp' q ∧ ¬ bl' q) : Step B w0 w w1 r fp fp' M' k bl bl' L' := by
  have hs := s.turned.size
  refine ⟨s.own.other t fun q hq => ⟨Nat.le_trans hB (hf q hq).1, (hf q hq).2⟩, s.grown, s.more, ?_⟩
  exact ⟨t.os.trans s.turned.os, t.tape.trans s.turned.tape, t.output.trans s.turned.output, Nat.le_trans hs t.size, fun i hi hn => (t.block i (by omega) (fun e => by have := (hf i e).1; omega)).trans (s.turned.block i hi hn)⟩
/-- What fill leaves. -/
structure Filled (B : Nat) (w0 w w' : World) (r : Nat) (fp fp' : Nat → Prop) (M M' : Dk.Md) (k : Nat) (bl bl' : Nat → Prop) (L L' : Md) (a : Int) (n : Nat) (v : Value) (hv : List (List UInt8)) (i : Nat) : Prop where
  step : Step B w0 w w' r fp fp' M' k bl bl' L'
  fits : Fits M' a n L'
  fuse : M'.fuse < 0
  len : M'.lasts.length = M.lasts.length
  recs : L'.recs = L.recs ++ hv
  ep : L'.ep = L.ep
  salt : L'.salt ≤ L.salt + i
  none : hv = [] → M' = M
  mine : Mine w.heap.size w' (fun q => fp' q ∨ bl' q) v hv
  few : hv.length ≤ i
  all : ∀ P : List UInt8 → Prop, (∀ j, j < M.lasts.length → P (Dk.last M j)) → (∀ s b t j, t.length ≤ 1024 → j < Pt.parts 32 t → P (Dk.closed (Pt.body (nums L.ep s b) 32 t j))) → ∀ j, j < M.lasts.length → P (Dk.last M' j)
end Lg
set_option maxRecDepth 100000 in
set_option maxHeartbeats 2000000 in
theorem fill10_any {B : Nat} {w0 w : World} {r : Nat} {fp : Nat → Prop} {M : Dk.Md} {k : Nat} {bl : Nat → Prop} {L : Lg.Md} {a : Int} {n : Nat} (h : Lg.Own B w0 w r fp M k bl L) (hF : Lg.Fits M a n L) (hfu : M.fuse < 0) (hsa : L.salt ≤ 1000000)
    (A : Option Addr) (c : Nat) (l : List ByteArray) (hB : B = w0.heap.size) (hit : St.strsAt w0 A l) (hsz : ∀ i, (l.getD i ByteArray.empty).size ≤ 9223372036854775807) (hl : l.length ≤ 1000000) :
    Calls Try.prog 43 #[.pointer (some ⟨k, 0, none⟩), .slice A l.length c] w fun e w' => ∃ (hv : List (List UInt8)) (Ah : Option Addr) (ch : Nat) (fp' bl' : Nat → Prop) (M' : Dk.Md) (L' : Lg.Md), e = .returned (.slice Ah hv.length ch) ∧ Lg.Filled B w0 w w' r fp fp' M M' k bl bl' L L' a n (.slice Ah hv.length ch) hv l.length := by
  subst hB
  have H := Lib.hid h
  have HF := Lib.hid hF
  have HIT := Lib.hid hit
  have HSZ := Lib.hid hsz
  obtain ⟨ln, hln⟩ : ∃ x, x = l.length := ⟨_, rfl⟩
  have HLN := Lib.hid hln
  rw [← hln] at hl ⊢
  clear h hF hit hsz hln
  go_enter Try.func43, Try.ntmps43
  go_wp2_with fail
  go_loopw [5, 6] (fun s5 s6 wr => ∃ (i : Nat) (hv : List (List UInt8)) (Ah : Option Addr) (ch m : Nat) (fp1 bl1 : Nat → Prop) (M1 : Dk.Md) (L1 : Lg.Md), s5 = .slice Ah m ch ∧ s6 = .int .i64 i ∧ i ≤ ln ∧ m = hv.length ∧ Lg.Filled w0.heap.size w0 w wr r fp fp1 M M1 k bl bl1 L L1 a n (.slice Ah m ch) hv i) (fun _ s6 _ => ln - (intOf s6).toNat)
  case atStart => exact ⟨0, [], none, 0, 0, fp, bl, M, L, rfl, rfl, Nat.zero_le _, rfl, ⟨Lg.Step.refl H.out, HF.out, hfu, rfl, by simp, rfl, Nat.le_refl _, fun _ => rfl, Lg.Mine.nil _ _ _, Nat.le_refl _, fun P h _ => h⟩⟩
  case round =>
    obtain ⟨i, hv, Ah, ch, m, fp1, bl1, M1, L1, rfl, rfl, hi, hm, hfill⟩ := hrel
    have HL := Lib.hid hfill
    have HM := Lib.hid hm
    have hvi := hfill.few
    clear hfill hm
    by_cases hlt : i < ln
    · have hki : (i : Int) < (ln : Int) := by omega
      have hsuc : IntKind.i64.wrap ((i : Int) + 1) = ((i + 1 : Nat) : Int) := by simp [IntKind.wrap, IntKind.bits, IntKind.signed]; omega
      have hbl := HL.out.step.own.disk.below
      obtain ⟨gb, ob, hA, hci⟩ := HIT.out.get hbl (j := i) (by rw [← HLN.out]; exact hlt)
      subst hA
      obtain ⟨t, ht⟩ : ∃ t, t = l.getD i ByteArray.empty := ⟨_, rfl⟩
      have hts := HSZ.out i
      rw [← ht] at hci hts
      have hgl : gb < w0.heap.size := by
        rcases HIT.out with h | ⟨b, o, e, hb, _⟩
        · have := HLN.out; rw [h] at this; simp at this; omega
        · simp only [Option.some.injEq, Addr.mk.injEq, and_true] at e
          rw [e.1]; exact hb
      clear ht
      have hown := HL.out.step.own
      have hs1 := HL.out.salt
      have htl : t.data.toList.length = t.size := by simp
      by_cases hno : 1024 < t.data.toList.length ∨ L1.end_ - L1.next < Pt.parts 32 t.data.toList
      · obtain ⟨x, hx⟩ : ∃ x : Int, x = if 1024 < t.data.toList.length then 3 else 6 := ⟨_, rfl⟩
        have hx0 : ¬ x = 0 := by rw [hx]; split <;> decide
        have hxb : (x == 0) = false := beq_eq_false_iff_ne.2 hx0
        have AD := Lib.hid (Lg.add_no hown HL.out.fits (by omega) t hts rfl hno hx)
        clear hno hx htl hown hs1
        go_wp2_with (go_at_call 36; refine AD.out.mono ?_; rintro e w2 ⟨fp2, bl2, rfl, st2⟩)
        have hst := HL.out.step.trans st2
        refine ⟨⟨i + 1, hv, Ah, ch, m, fp2, bl2, M1, L1, rfl, by push_cast; rfl, by omega, HM.out, ⟨hst, HL.out.fits, HL.out.fuse, HL.out.len, HL.out.recs, HL.out.ep, Nat.le_succ_of_le HL.out.salt, HL.out.none, ?_, by omega, HL.out.all⟩⟩, by simp only [intOf]; omega⟩
        exact HL.out.mine.turned st2.turned fun q hq => by
          rcases hq with hq | hq
          · rcases st2.grown q hq with h | h
            · exact .inl (.inl h)
            · exact .inr h
          · rcases st2.more q hq with h | h
            · exact .inl (.inr h)
            · exact .inr h
      · obtain ⟨L2, hL2⟩ : ∃ x, x = Lg.added L1 t.data.toList := ⟨_, rfl⟩
        have HL2 := Lib.hid hL2
        have AD := Lib.hid (Lg.add_in hown HL.out.fits (by omega) HL.out.fuse t rfl (by omega) (by omega) hL2.symm)
        have hno2 : t.data.toList.length ≤ 1024 := by omega
        have HNO := Lib.hid hno2
        clear hno htl hown hL2 hno2
        have hmb : m ≤ 1000000 := by have := HM.out; omega
        go_upto_region 6 with (go_at_call 36; refine AD.out.mono ?_; rintro e w2 ⟨fp2, bl2, M2, rfl, st2, f2, u2, n2, la2⟩; have c2 := (st2.own.disk.below.cell (p := ⟨gb, ob + i, none⟩) (by show gb < w0.heap.size; exact hgl)).trans ((hbl.cell (p := ⟨gb, ob + i, none⟩) (by show gb < w0.heap.size; exact hgl)).symm.trans hci))
        have LA2 := Lib.hid la2
        have HTL := HNO
        have hst := HL.out.step.trans st2
        clear la2
        have M2' := Lib.hid (HL.out.mine.turned st2.turned (f' := fun q => fp2 q ∨ bl2 q) fun q hq => by
          rcases hq with hq | hq
          · rcases st2.grown q hq with h | h
            · exact .inl (.inl h)
            · exact .inr h
          · rcases st2.more q hq with h | h
            · exact .inl (.inr h)
            · exact .inr h)
        have ST := Lib.hid hst
        have hwz2 := hst.own.disk.size
        have hw2 := hst.turned.size
        have hal := (Below.refl w2.heap.size w2).alloc (Nat.le_refl _) (.cells #[.string t] 9)
        have STA := Lib.hid (hst.low hal)
        have MP := Lib.hid (M2'.out.low hal)
        have hlt2 : ∀ q, fp2 q ∨ bl2 q → q < (w2.alloc (.cells #[.string t] 9)).heap.size := fun q hq => by
          have e : (w2.alloc (.cells #[.string t] 9)).heap.size = w2.heap.size + 1 := by simp
          rw [e]
          rcases hq with hq | hq
          · have := ST.out.own.disk.lt q hq; omega
          · have := (ST.out.own.at_.lt q hq).2; omega
        clear hst hal st2
        go_upto_region 4 with (at_builtin; refine Lg.wp_more rfl _ _ rfl rfl MP.out rfl (Sm.cells_of (heap_alloc_new w2 _) 0 _ rfl) (by have := HM.out; omega) (by simp; omega) hlt2 fun A5 c5 w5 mi5 tu5 => ?_)
        rw [← HM.out] at mi5 ⊢
        have hst5 := STA.out.other tu5 H.out.disk.size (fun q hq => ⟨(Dk.own_blk MP.out.row hq).1, fun e => MP.out.off q hq (.inl e), fun e => MP.out.off q hq (.inr e)⟩)
        have ST5 := Lib.hid hst5
        have MI5 := Lib.hid mi5
        clear mi5 tu5 hst5 hlt2
        go_wp2_with fail
        refine ⟨⟨i + 1, hv ++ [t.data.toList], A5, c5, m + 1, fp2, bl2, M2, L2, rfl, by push_cast; rfl, by omega, by rw [List.length_append, HM.out]; rfl, ⟨ST5.out, f2, u2, n2.trans HL.out.len, ?_, ?_, ?_, fun e => by simp at e, MI5.out, by rw [List.length_append, List.length_singleton]; omega, fun P hp hq j hj => ?_⟩⟩, by simp only [intOf]; omega⟩
        · rw [HL2.out]
          show L1.recs ++ [t.data.toList] = _
          rw [HL.out.recs, List.append_assoc]
        · rw [HL2.out]; exact HL.out.ep
        · rw [HL2.out]
          show L1.salt + 1 ≤ L.salt + (i + 1)
          have := HL.out.salt; omega
        · rw [LA2.out j (by rw [HL.out.len]; exact hj)]
          split
          · rw [HL.out.ep]
            exact hq _ _ _ _ HTL.out (by omega)
          · exact HL.out.all P hp hq j hj
    · have hki : ¬ (i : Int) < (ln : Int) := by omega
      have hil : i = ln := by omega
      subst hil
      have hf := HL.out
      rw [HM.out] at *
      clear HM
      go_wp2_with fail
      go_ret
      exact ⟨hv, Ah, ch, rfl, fp1, bl1, M1, L1, hf⟩
end Go.Proofs.Yticpllhblgildaa
