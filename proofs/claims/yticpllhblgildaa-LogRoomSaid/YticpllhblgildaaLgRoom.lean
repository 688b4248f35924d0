/-
  LogRoom: how much fits, what is refused, and what stays blank.
-/
import Derived.Test.YticpllhblgildaaLgFill
namespace Go.Proofs.Yticpllhblgildaa
open Go.RowKit
namespace Lg
/-- What the statement keeps in view: the sectors before the log and behind it. -/
def Out (M : Dk.Md) (n : Nat) : Prop := ∀ j, j < n + 4 → (j < 2 ∨ n + 2 ≤ j) → Dk.last M j = Dk.blank
theorem out_new (n : Nat) : Out (Dk.new (n + 4)) n := fun j hj _ => by
  rw [Dk.last, Dk.new, List.getD_eq_getElem?_getD, List.getElem?_replicate, if_pos hj]; rfl
theorem read_rest {M : Dk.Md} {a : Int} {n : Nat} (h : Rest M a n) {i : Nat} (hi : i < M.lasts.length) : Dk.readOf M (i : Int) = (Dk.last M i, 0) := by
  unfold Dk.readOf Dk.there Dk.seen
  rw [h.on, h.idle]
  simp [hi]
theorem read_at10 {B : Nat} {w0 w : World} {r : Nat} {fp : Nat → Prop} {M : Dk.Md} (h : Dk.Own B w0 w r fp M) (i : Int) {s : ByteArray} {c : Int} (h1 : Dk.readOf M i = (s.data.toList, c)) :
    Calls Try.prog 30 #[.pointer (some ⟨r, 0, none⟩), .int .i64 i] w fun e w' => e = .returned (.tuple #[.string s, .int .i64 c]) ∧ Dk.Own B w0 w' r fp M ∧ Below w.heap.size w w' := by
  refine (Dk.read_in h i).mono ?_
  rw [h1]
  exact fun e w' h => h
end Lg
set_option maxRecDepth 100000 in
set_option maxHeartbeats 8000000 in
theorem logroom_any (w : World) (s : Nat) (hs8 : s < 256) (A : Option Addr) (c : Nat) (l : List ByteArray) (hit : St.strsAt w A l) (hsz : ∀ i, (l.getD i ByteArray.empty).size ≤ 9223372036854775807) :
    Calls Try.prog 14 #[.int .u8 (s : Int), .slice A l.length c] w fun e w' => e = .returned (.bool true) ∧ Below w.heap.size w w' := by
  have AW := Lib.hid (awake10_any w)
  have HIT := Lib.hid hit
  have HSZ := Lib.hid hsz
  obtain ⟨ln, hln⟩ : ∃ x, x = l.length := ⟨_, rfl⟩
  have HLN := Lib.hid hln
  rw [← hln]
  clear hit hsz hln
  by_cases h60 : 60 < ln
  · have b1 : (60 : Int) < (ln : Int) := by omega
    go_enter Try.func14, Try.ntmps14
    go_wp2_with (go_at_call 39; refine AW.out.mono ?_; rintro e w1 ⟨rfl, k1⟩)
    go_ret
    exact ⟨rfl, k1⟩
  have b1 : ¬ (60 : Int) < (ln : Int) := by omega
  obtain ⟨m0, hm0⟩ : ∃ m, m = s % 60 := ⟨_, rfl⟩
  obtain ⟨n, hn⟩ : ∃ n, n = 1 + m0 := ⟨_, rfl⟩
  obtain ⟨N, hN⟩ : ∃ x, x = n + 4 := ⟨_, rfl⟩
  obtain ⟨N2, hN2⟩ : ∃ x, x = n + 2 := ⟨_, rfl⟩
  have hn60 : 1 ≤ n ∧ n ≤ 60 := by omega
  have q1 : (s : Int).tmod 60 = (m0 : Int) := by rw [Int.tmod_eq_emod_of_nonneg (by omega), hm0]; omega
  have q2 : IntKind.u8.wrap (m0 : Int) = (m0 : Int) := by rw [IntKind.wrap_u8]; omega
  have q3 : IntKind.i64.wrap (m0 : Int) = (m0 : Int) := IntWalk.i64_in _ (by omega)
  have q4 : IntKind.i64.wrap (1 + (m0 : Int)) = (n : Int) := by rw [IntWalk.i64_in _ (by omega)]; omega
  have q5 : IntKind.i64.wrap ((n : Int) + 4) = (N : Int) := by rw [IntWalk.i64_in _ (by omega)]; omega
  have q6 : IntKind.i64.wrap ((n : Int) + 2) = (N2 : Int) := by rw [IntWalk.i64_in _ (by omega)]; omega
  have Q5 := Lib.hid q5
  have Q6 := Lib.hid q6
  obtain ⟨R0, O0⟩ := Lg.rest_new (N := N) (by omega) (a := 2) (n := n) hn60.1 (by omega)
  obtain ⟨L0, hL0⟩ : ∃ L, L = Lg.opened n (Kp.lastly (Dk.new N) 2) 2 1 := ⟨_, rfl⟩
  have A0 : Hid (L0.salt = 0 ∧ L0.end_ - L0.next = n) := by
    show _ ∧ _
    rw [hL0, O0 1 (by decide)]
    refine ⟨rfl, ?_⟩
    show (2 : Int) + n - 2 = n
    omega
  have hout : Hid (Lg.Out (Dk.new N) n) := by show Lg.Out _ _; rw [hN]; exact Lg.out_new n
  have hlen : Hid ((Dk.new N).lasts.length = N) := by show _ = _; simp [Dk.new]
  have HR0 := Lib.hid R0
  have HL0 := Lib.hid hL0
  have HNN := Lib.hid hN
  have HN2 := Lib.hid hN2
  have HN : Hid (N ≤ 64) := by show _ ≤ _; omega
  obtain ⟨z, hz, RZ⟩ : ∃ z : ByteArray, z.data.toList = Dk.blank ∧ Hid (∀ wx : World, Calls Try.prog 19 #[.string ⟨#[0]⟩, .int .i64 64] wx fun e w' => e = .returned (.string z) ∧ Below wx.heap.size wx w') :=
    ⟨⟨(Lib.repeatL [0] 64).toArray⟩, by decide, fun wx => strings_Repeat ⟨#[0]⟩ 64 wx (by decide) (by show 1 * 64 ≤ _; decide)⟩
  have HZ := Lib.hid hz
  clear R0 O0 hL0 hn hm0 hN hN2 hz q6
  go_enter Try.func14, Try.ntmps14
  go_upto_region 6 with (go_at_call 39; refine AW.out.mono ?_; rintro e w1 ⟨rfl, k1⟩)
  have ND := Lib.hid (Dk.new_in k1 (Nat.le_refl _) N (by have := HN.out; have := HNN.out; omega))
  go_upto_region 7 with (go_at_call 15; refine ND.out.mono ?_; rintro e w2 ⟨r, fp, rfl, o2, -, -⟩)
  have OP : Hid (Calls Try.prog 35 #[.pointer (some ⟨r, 0, none⟩), .int .i64 2, .int .i64 n, .int .u64 1] w2 _) := Lg.open10_in (L := L0) o2 HR0.out (ep := 1) (by decide) HL0.out
  clear o2 k1 ND q1 q2 q3 q4 q5
  go_upto_region 8 with (go_at_call 35; refine OP.out.mono ?_; rintro e w3 ⟨k, bl3, rfl, o3, f3, -, -⟩)
  have F3 := Lib.hid f3
  have RO := Lib.hid (Lg.room_in o3 f3.fit A0.out.2)
  clear o3 f3 OP
  go_upto_region 10 with (go_at_call 37; refine RO.out.mono ?_; rintro e w4 ⟨rfl, o4, -⟩)
  have O4 := Lib.hid o4
  clear o4 RO
  go_wp2_with fail
  go_loopw [10] (fun s10 wr => ∃ (i : Nat) (fp1 bl1 : Nat → Prop) (M1 : Dk.Md) (L1 : Lg.Md), s10 = .int .i64 i ∧ i ≤ ln ∧ Lg.Own w.heap.size w wr r fp1 M1 k bl1 L1 ∧ Lg.Fits M1 2 n L1 ∧ M1.fuse < 0 ∧ M1.lasts.length = N ∧ L1.salt ≤ i ∧ Lg.Out M1 n) (fun s10 _ => ln - (intOf s10).toNat)
  case atStart => exact ⟨0, fp, bl3, _, L0, rfl, Nat.zero_le _, O4.out, F3.out, by show (-1 : Int) < 0; omega, hlen.out, by rw [A0.out.1]; exact Nat.le_refl _, hout.out⟩
  case round =>
    obtain ⟨i, fp1, bl1, M1, L1, rfl, hil, hown, hfit, hfu, hl1, hsa, hou⟩ := hrel
    have HO := Lib.hid hown
    have HF := Lib.hid hfit
    have HU := Lib.hid hou
    have HL1 := Lib.hid hl1
    have HFU := Lib.hid hfu
    have HSL := Lib.hid hsa
    have hroom := hfit.room
    have hend := hfit.end_
    clear hown hfit hou hl1 hfu
    by_cases hlt : i < ln
    · have hki : (i : Int) < (ln : Int) := by omega
      have hsuc : IntKind.i64.wrap ((i : Int) + 1) = ((i + 1 : Nat) : Int) := by simp [IntKind.wrap, IntKind.bits, IntKind.signed]; omega
      have hbl := HO.out.disk.below
      obtain ⟨gb, ob, hA, hci⟩ := HIT.out.get hbl (j := i) (by rw [← HLN.out]; exact hlt)
      subst hA
      obtain ⟨t, ht⟩ : ∃ t, t = l.getD i ByteArray.empty := ⟨_, rfl⟩
      have hts := HSZ.out i
      rw [← ht] at hci hts
      have hgl : gb < w.heap.size := by
        rcases HIT.out with h | ⟨b, o, e, hb, _⟩
        · have := HLN.out; rw [h] at this; simp at this; omega
        · simp only [Option.some.injEq, Addr.mk.injEq, and_true] at e
          rw [e.1]; exact hb
      have CE : Hid (∀ wx, Below w.heap.size w wx → wx.cell? ⟨gb, ob + i, none⟩ = some (.string t)) := fun wx hwx => (hwx.cell (p := ⟨gb, ob + i, none⟩) hgl).trans ((hbl.cell (p := ⟨gb, ob + i, none⟩) hgl).symm.trans hci)
      clear ht hbl hgl
      by_cases hbig : 2000 < t.size
      · have b2 : (2000 : Int) < (t.size : Int) := by omega
        have BB := Lib.hid HO.out.disk.below
        clear hsuc hsa hroom hend
        go_wp2_with fail
        go_ret
        exact ⟨rfl, BB.out⟩
      have b2 : ¬ (2000 : Int) < (t.size : Int) := by omega
      obtain ⟨ts, hts0⟩ : ∃ x, x = t.size := ⟨_, rfl⟩
      have htl : t.data.toList.length = ts := by rw [hts0]; simp
      obtain ⟨u, hu⟩ : ∃ u : Nat, L1.end_ - L1.next = (u : Int) := ⟨(L1.end_ - L1.next).toNat, by omega⟩
      have hu60 : u ≤ 60 := by omega
      obtain ⟨K, hK⟩ : ∃ K, K = Pt.parts 32 t.data.toList := ⟨_, rfl⟩
      have hK1 : 1 ≤ K := by rw [hK]; exact Pt.parts_pos _ _
      have hK2 : ts ≤ 32 * K := by rw [hK, ← htl]; exact Pt.len_le (by decide) _
      have hK3 : 32 * (K - 1) < max ts 1 := by
        rcases Pt.lt_parts (n := 32) (i := K - 1) (by decide) (t := t.data.toList) (by omega) with h | h
        · omega
        · rw [htl] at h; omega
      have hK64 : K ≤ 64 := by omega
      obtain ⟨K0, hK0⟩ : ∃ x, x = K - 1 := ⟨_, rfl⟩
      obtain ⟨KA, hKA⟩ : ∃ x, x = 32 * K := ⟨_, rfl⟩
      obtain ⟨KB, hKB⟩ : ∃ x, x = 32 * K0 := ⟨_, rfl⟩
      obtain ⟨mx, hmx⟩ : ∃ x, x = max ts 1 := ⟨_, rfl⟩
      have p1 : ¬ (K : Int) < 1 := by omega
      have p2 : IntKind.i64.wrap (32 * (K : Int)) = (KA : Int) := by rw [IntWalk.i64_in _ (by omega)]; omega
      have p3 : ¬ (KA : Int) < (ts : Int) := by omega
      have p4 : IntKind.i64.wrap ((K : Int) - 1) = (K0 : Int) := by rw [IntWalk.i64_in _ (by omega)]; omega
      have p5 : IntKind.i64.wrap (32 * (K0 : Int)) = (KB : Int) := by rw [IntWalk.i64_in _ (by omega)]; omega
      have p6 : ¬ (mx : Int) ≤ (KB : Int) := by omega
      have p7 : max (ts : Int) 1 = (mx : Int) := by omega
      have RM := Lib.hid (Lg.room_in HO.out HF.out.fit hu)
      have PT : Hid (∀ wx : World, Calls Try.prog 41 #[.string t] wx fun e w' => e = .returned (.int .i64 (K : Int)) ∧ wx = w') := fun wx => by rw [hK]; exact lgParts_any wx t (by omega)
      have HK := Lib.hid hK
      subst hts0
      have HTL := Lib.hid htl
      clear hK hK1 hK2 hK3 hK0 hKA hKB hmx htl
      by_cases h1024 : 1024 < t.size
      · have p8 : (1024 : Int) < (t.size : Int) := by omega
        have AD : Hid (∀ wx, Lg.Own w.heap.size w wx r fp1 M1 k bl1 L1 → Calls Try.prog 36 #[.pointer (some ⟨k, 0, none⟩), .string t] wx fun e w' => ∃ fp2 bl2, e = .returned (.int .i64 3) ∧ Lg.Own w.heap.size w w' r fp2 M1 k bl2 L1) := fun wx ho => by
          refine (Lg.add_no ho HF.out (by omega) t hts rfl (.inl (by rw [HTL.out]; exact h1024)) (x := 3) (by rw [HTL.out]; rw [if_pos h1024])).mono ?_
          rintro e w' ⟨fp2, bl2, h1, h2⟩
          exact ⟨fp2, bl2, h1, h2.own⟩
        have R2 : Hid (∀ wx fp2 bl2, Lg.Own w.heap.size w wx r fp2 M1 k bl2 L1 → Calls Try.prog 37 #[.pointer (some ⟨k, 0, none⟩)] wx fun e w' => e = .returned (.int .i64 u) ∧ Lg.Own w.heap.size w w' r fp2 M1 k bl2 L1) := fun wx fp2 bl2 ho => by
          refine (Lg.room_in ho HF.out.fit hu).mono ?_
          rintro e w' ⟨h1, h2, -⟩
          exact ⟨h1, h2⟩
        clear hu hsa hroom hend
        go_wp2_with (first
          | (go_at_call 37; with_reducible refine RM.out.mono ?_; rintro e w5 ⟨rfl, o5, -⟩; have c5 := CE.out _ o5.disk.below)
          | (go_at_call 41; with_reducible refine (PT.out _).mono ?_; rintro e w6 ⟨rfl, rfl⟩)
          | (go_at_call 36; with_reducible refine (AD.out _ o5).mono ?_; rintro e w7 ⟨fp7, bl7, rfl, o7⟩; have c7 := CE.out _ o7.disk.below)
          | (go_at_call 37; with_reducible refine (R2.out _ _ _ o7).mono ?_; rintro e w8 ⟨rfl, o8⟩; have c8 := CE.out _ o8.disk.below))
        exact ⟨⟨i + 1, fp7, bl7, M1, L1, by push_cast; rfl, by omega, o8, HF.out, HFU.out, HL1.out, Nat.le_succ_of_le HSL.out, HU.out⟩, by simp only [intOf]; omega⟩
      have p8 : ¬ (1024 : Int) < (t.size : Int) := by omega
      by_cases hfull : u < K
      · have p9 : (u : Int) < (K : Int) := by omega
        have AD : Hid (∀ wx, Lg.Own w.heap.size w wx r fp1 M1 k bl1 L1 → Calls Try.prog 36 #[.pointer (some ⟨k, 0, none⟩), .string t] wx fun e w' => ∃ fp2 bl2, e = .returned (.int .i64 6) ∧ Lg.Own w.heap.size w w' r fp2 M1 k bl2 L1) := fun wx ho => by
          refine (Lg.add_no ho HF.out (by omega) t hts rfl (.inr (by rw [← HK.out, hu]; omega)) (x := 6) (by rw [HTL.out]; rw [if_neg h1024])).mono ?_
          rintro e w' ⟨fp2, bl2, h1, h2⟩
          exact ⟨fp2, bl2, h1, h2.own⟩
        have R2 : Hid (∀ wx fp2 bl2, Lg.Own w.heap.size w wx r fp2 M1 k bl2 L1 → Calls Try.prog 37 #[.pointer (some ⟨k, 0, none⟩)] wx fun e w' => e = .returned (.int .i64 u) ∧ Lg.Own w.heap.size w w' r fp2 M1 k bl2 L1) := fun wx fp2 bl2 ho => by
          refine (Lg.room_in ho HF.out.fit hu).mono ?_
          rintro e w' ⟨h1, h2, -⟩
          exact ⟨h1, h2⟩
        clear hu hsa hroom hend
        go_wp2_with (first
          | (go_at_call 37; with_reducible refine RM.out.mono ?_; rintro e w5 ⟨rfl, o5, -⟩; have c5 := CE.out _ o5.disk.below)
          | (go_at_call 41; with_reducible refine (PT.out _).mono ?_; rintro e w6 ⟨rfl, rfl⟩)
          | (go_at_call 36; with_reducible refine (AD.out _ o5).mono ?_; rintro e w7 ⟨fp7, bl7, rfl, o7⟩; have c7 := CE.out _ o7.disk.below)
          | (go_at_call 37; with_reducible refine (R2.out _ _ _ o7).mono ?_; rintro e w8 ⟨rfl, o8⟩; have c8 := CE.out _ o8.disk.below))
        exact ⟨⟨i + 1, fp7, bl7, M1, L1, by push_cast; rfl, by omega, o8, HF.out, HFU.out, HL1.out, Nat.le_succ_of_le HSL.out, HU.out⟩, by simp only [intOf]; omega⟩
      · have p9 : ¬ (u : Int) < (K : Int) := by omega
        obtain ⟨v, hv⟩ : ∃ v, v = u - K := ⟨_, rfl⟩
        have p10 : IntKind.i64.wrap ((u : Int) - (K : Int)) = (v : Int) := by rw [IntWalk.i64_in _ (by omega)]; omega
        obtain ⟨L2, hL2⟩ : ∃ x, x = Lg.added L1 t.data.toList := ⟨_, rfl⟩
        have hu2 : Hid (L2.end_ - L2.next = (v : Int)) := by
          show _ = _
          rw [hL2]
          show L1.end_ - (L1.next + (Pt.parts 32 t.data.toList : Int)) = _
          rw [← HK.out]; omega
        have hs2 : Hid (L2.salt ≤ i + 1) := by
          show _ ≤ _
          rw [hL2]
          show L1.salt + 1 ≤ i + 1
          omega
        have AD : Hid (∀ wx, Lg.Own w.heap.size w wx r fp1 M1 k bl1 L1 → Calls Try.prog 36 #[.pointer (some ⟨k, 0, none⟩), .string t] wx fun e w' => ∃ fp2 bl2 M2, e = .returned (.int .i64 0) ∧ Lg.Own w.heap.size w w' r fp2 M2 k bl2 L2 ∧ Lg.Fits M2 2 n L2 ∧ M2.fuse < 0 ∧ M2.lasts.length = N ∧ Lg.Out M2 n) := fun wx ho => by
          refine (Lg.add_in ho HF.out (by omega) HFU.out t rfl (by rw [HTL.out]; omega) (by rw [← HK.out, hu]; omega) hL2.symm).mono ?_
          rintro e w' ⟨fp2, bl2, M2, h1, h2, h3, h4, h5, h6⟩
          refine ⟨fp2, bl2, M2, h1, h2.own, h3, h4, h5.trans HL1.out, fun j hj hjo => ?_⟩
          rw [h6 j (by rw [HL1.out, HNN.out]; exact hj), if_neg (by rw [← HK.out]; omega)]
          exact HU.out j hj hjo
        have R2 : Hid (∀ wx fp2 bl2 M2, Lg.Own w.heap.size w wx r fp2 M2 k bl2 L2 → Lg.Fits M2 2 n L2 → Calls Try.prog 37 #[.pointer (some ⟨k, 0, none⟩)] wx fun e w' => e = .returned (.int .i64 v) ∧ Lg.Own w.heap.size w w' r fp2 M2 k bl2 L2) := fun wx fp2 bl2 M2 ho hf => by
          refine (Lg.room_in ho hf.fit hu2.out).mono ?_
          rintro e w' ⟨h1, h2, -⟩
          exact ⟨h1, h2⟩
        clear hu hsa hroom hend hL2 hv
        go_wp2_with (first
          | (go_at_call 37; with_reducible refine RM.out.mono ?_; rintro e w5 ⟨rfl, o5, -⟩; have c5 := CE.out _ o5.disk.below)
          | (go_at_call 41; with_reducible refine (PT.out _).mono ?_; rintro e w6 ⟨rfl, rfl⟩)
          | (go_at_call 36; with_reducible refine (AD.out _ o5).mono ?_; rintro e w7 ⟨fp7, bl7, M7, rfl, o7, f7, u7, l7, x7⟩; have c7 := CE.out _ o7.disk.below)
          | (go_at_call 37; with_reducible refine (R2.out _ _ _ _ o7 f7).mono ?_; rintro e w8 ⟨rfl, o8⟩; have c8 := CE.out _ o8.disk.below))
        exact ⟨⟨i + 1, fp7, bl7, M7, L2, by push_cast; rfl, by omega, o8, f7, u7, l7, hs2.out, x7⟩, by simp only [intOf]; omega⟩
    · have hki : ¬ (i : Int) < (ln : Int) := by omega
      have DO := Lib.hid HO.out.disk
      have RD : Hid (∀ j, j < N → ∃ y : ByteArray, Dk.readOf M1 (j : Int) = (y.data.toList, 0) ∧ ((j < 2 ∨ N2 ≤ j) → y = z)) := fun j hj => by
        refine ⟨⟨(Dk.last M1 j).toArray⟩, Lg.read_rest HF.out.rest (by rw [HL1.out]; exact hj), fun h => ?_⟩
        rw [HU.out j (by rw [← HNN.out]; exact hj) (by rw [HN2.out] at h; exact h), ← HZ.out]
      clear hsa hroom hend hil hlt
      have q5 := Q5.out
      go_wp2_with fail
      go_loopw [14] (fun s14 wr => ∃ (j : Nat) (fp2 : Nat → Prop), s14 = .int .i64 j ∧ j ≤ N ∧ Dk.Own w.heap.size w wr r fp2 M1) (fun s14 _ => N - (intOf s14).toNat)
      case atStart => exact ⟨0, fp1, rfl, Nat.zero_le _, DO.out⟩
      case round =>
        obtain ⟨j, fp2, rfl, hjN, ho⟩ := hrel
        have q6 := Q6.out
        by_cases hlt : j < N
        · have hkj : (j : Int) < (N : Int) := by omega
          have hN64 := HN.out
          have hsuc : IntKind.i64.wrap ((j : Int) + 1) = ((j + 1 : Nat) : Int) := by rw [IntWalk.i64_in _ (by omega)]; omega
          obtain ⟨y, hy, hyz⟩ := RD.out j hlt
          have RR := Lib.hid (Lg.read_at10 ho (j : Int) hy)
          clear hy ho
          by_cases hj2 : j < 2
          · have b3 : (j : Int) < 2 := by omega
            have e := hyz (.inl hj2)
            subst e
            clear hyz
            go_wp2_with (first
              | (go_at_call 30; refine RR.out.mono ?_; rintro e w9 ⟨rfl, o9, -⟩)
              | (go_at_call 19; refine (RZ.out _).mono ?_; rintro e w10 ⟨rfl, b10⟩; have o10 := o9.low b10))
            exact ⟨⟨j + 1, fp2, by push_cast; rfl, by omega, o10⟩, by simp only [intOf]; omega⟩
          have b3 : ¬ (j : Int) < 2 := by omega
          by_cases hjn : N2 ≤ j
          · have b4 : (N2 : Int) ≤ (j : Int) := by omega
            have e := hyz (.inr hjn)
            subst e
            clear hyz
            go_wp2_with (first
              | (go_at_call 30; refine RR.out.mono ?_; rintro e w9 ⟨rfl, o9, -⟩)
              | (go_at_call 19; refine (RZ.out _).mono ?_; rintro e w10 ⟨rfl, b10⟩; have o10 := o9.low b10))
            exact ⟨⟨j + 1, fp2, by push_cast; rfl, by omega, o10⟩, by simp only [intOf]; omega⟩
          · have b4 : ¬ (N2 : Int) ≤ (j : Int) := by omega
            clear hyz
            go_wp2_with (go_at_call 30; refine RR.out.mono ?_; rintro e w9 ⟨rfl, o9, -⟩)
            exact ⟨⟨j + 1, fp2, by push_cast; rfl, by omega, o9⟩, by simp only [intOf]; omega⟩
        · have hkj : ¬ (j : Int) < (N : Int) := by omega
          go_wp2_with fail
          go_ret
          exact ⟨rfl, ho.below⟩
end Go.Proofs.Yticpllhblgildaa
