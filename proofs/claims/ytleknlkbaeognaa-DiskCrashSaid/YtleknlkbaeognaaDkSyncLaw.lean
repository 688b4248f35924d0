/-
  DiskSync: what is synced is there behind every crash.
-/
import Derived.Test.YtleknlkbaeognaaDkRun
namespace Go.Proofs.Ytleknlkbaeognaa
open Go.RowKit
namespace Dk
theorem write_free {M : Md} (h1 : M.off = false) (h2 : M.fuse = -1) {i : Nat} (hi : i < M.lasts.length) {s : List UInt8} (hs : s.length = 64) : write M i s = (put M i s, 0) := by
  have ht : there M (i : Int) = true := there_iff.2 ⟨by omega, by omega⟩
  have ha : act M = (M, true) := by simp [act, h2]
  simp [write, h1, ht, hs, ha]
theorem sync_free {M : Md} (h1 : M.off = false) (h2 : M.fuse = -1) : sync M = (synced M, 0) := by
  have ha : act M = (M, true) := by simp [act, h2]
  simp [sync, h1, ha]
theorem last_range {n : Nat} {f : Nat → List UInt8} {i : Nat} (hi : i < n) : ((List.range n).map f).getD i [] = f i := by
  rw [List.getD_eq_getElem?_getD, List.getElem?_map, List.getElem?_range hi]; rfl
theorem last_crash {M : Md} {keep : List Int} {i : Nat} (hi : i < M.lasts.length) : last (crash M keep) i = kept M keep i := last_range hi
theorem read_crash {M : Md} {keep : List Int} {i : Nat} (hi : i < M.lasts.length) : readOf (crash M keep) i = (kept M keep i, 0) := by
  have ht : there (crash M keep) (i : Int) = true := there_iff.2 ⟨by omega, by rw [len_crash]; omega⟩
  have e : (crash M keep).off = false := rfl
  have e2 : seen (crash M keep) i = last (crash M keep) i := seen_last rfl
  simp [readOf, e, ht, e2, last_crash hi]
theorem full_length (b : UInt8) : (full b).length = 64 := by simp [full]
/-- What is synced is there behind two crashes, with or without a write elsewhere. -/
theorem kept_synced {M : Md} (h1 : M.off = false) (h2 : M.fuse = -1) {i : Nat} (hi : i < M.lasts.length) {s : List UInt8} (hs : s.length = 64) (M3 : Md) (h3 : M3.lasts = (sync (write M i s).1).1.lasts) (hW : M3.W i = []) (keep keep2 : List Int) :
    (write M i s).2 = 0 ∧ (sync (write M i s).1).2 = 0 ∧ readOf (crash M3 keep) i = (s, 0) ∧ readOf (crash (crash M3 keep) keep2) i = (s, 0) := by
  rw [write_free h1 h2 hi hs, sync_free (by exact h1) (by exact h2)]
  rw [write_free h1 h2 hi hs, sync_free (by exact h1) (by exact h2)] at h3
  have hl : M3.lasts.length = M.lasts.length := by rw [h3]; simp [synced, put]
  have hlast : last M3 i = s := by
    rw [last, h3]
    show ((List.range M.lasts.length).map (seen (put M i s))).getD i [] = s
    rw [last_range hi, seen_wait (by rw [put_same]; simp)]
    simp [put_same]
  refine ⟨rfl, rfl, ?_, ?_⟩
  · rw [read_crash (by omega), kept_idle hW, hlast]
  · rw [read_crash (by rw [len_crash]; omega), kept_idle (by rfl), last_crash (by omega), kept_idle hW, hlast]
theorem ints_one {w : World} (x : Int) (hx : -9223372036854775808 ≤ x ∧ x ≤ 9223372036854775807) : IntsAt (w.alloc (.cells #[.int .i64 x] 3)) (.slice (some ⟨w.heap.size, 0, none⟩) 1 1) [x] := by
  refine ⟨some ⟨w.heap.size, 0, none⟩, 1, rfl, by simp, fun i => ?_, .inr ⟨w.heap.size, 0, rfl, by simp, fun i hi => ?_⟩⟩
  · match i with
    | 0 => exact hx
    | i + 1 => simp
  · have : i = 0 := by simpa using hi
    subst this
    exact Sm.cells_of (heap_alloc_new w _) 0 _ rfl
theorem off_new {B : Nat} {w0 w : World} {r : Nat} {fp : Nat → Prop} {M : Md} (h : Own B w0 w r fp M) (l : List Int) (n c : Nat) : Off fp (.slice (some ⟨w.heap.size, 0, none⟩) n c) l := fun _ A n c b o e1 e2 e3 => by
  simp only [Value.slice.injEq] at e1
  rw [← e1.1] at e2
  simp only [Option.some.injEq, Addr.mk.injEq] at e2
  have := h.lt b e3
  omega
end Dk
set_option maxRecDepth 100000 in
set_option maxHeartbeats 800000 in
theorem disksync_any (W : World) (n a b : UInt8) {A : Option Addr} {c : Nat} {l : List Dk.Ac} (hl : l.length ≤ 9223372036854775807) (hit : Dk.listAt W A l) (hs : ∀ a ∈ l, a.Ok W) {kA : Option Addr} {kc : Nat} {keep : List Int} (hk : Dk.IntsAt W (.slice kA keep.length kc) keep) :
    Calls Try.prog 7 #[.int .u8 n.toNat, .slice A l.length c, .int .u8 a.toNat, .int .u8 b.toNat, .slice kA keep.length kc] W fun e w' => e = .returned (.bool true) ∧ Below W.heap.size W w' := by
  obtain ⟨gr, hgr⟩ : ∃ g : Bool, (g = true ↔ ¬ Dk.Fair l) := by by_cases h : Dk.Fair l; exact ⟨false, by simp [h]⟩; exact ⟨true, by simp [h]⟩
  have HIT := Lib.hid hit
  have HS := Lib.hid hs
  have HK := Lib.hid hk
  have hkl : keep.length ≤ 9223372036854775807 := by obtain ⟨_, _, _, h, _⟩ := hk; exact h
  have GR : Hid (∀ wx, Below W.heap.size W wx → Calls Try.prog 24 #[.slice A l.length c] wx fun e w' => e = .returned (.bool gr) ∧ wx = w') := fun wx hx => great7_any hl (HIT.out.below hx) hs gr hgr
  have AW := Lib.hid (awake7_any W)
  clear hit hs hk
  by_cases hgrt : gr = true
  · subst hgrt
    clear hgr
    go_enter Try.func7, Try.ntmps7
    go_wp2_with fail
    refine (AW.out).mono ?_
    rintro e w1 ⟨rfl, b1⟩
    go_wp2_with fail
    refine (GR.out w1 b1).mono ?_
    rintro e w2 ⟨rfl, rfl⟩
    go_wp2
    go_ret
    exact ⟨rfl, b1⟩
  · have hgf : gr = false := by simpa using hgrt
    subst hgf
    have hfair : Dk.Fair l := Classical.byContradiction fun h => by have := hgr.2 h; cases this
    have hfl := hfair.1
    clear hgr hgrt
    by_cases hk100 : keep.length ≤ 100
    · have hki : ¬ (100 : Int) < keep.length := by omega
      obtain ⟨nn, hnn⟩ : ∃ nn, nn = n.toNat % 40 := ⟨_, rfl⟩
      have hnl := n.toNat_lt
      have hal := a.toNat_lt
      have hm40 : ((n.toNat : Int)).tmod 40 = (nn : Int) := by rw [hnn, Int.tmod_eq_emod_of_nonneg (by omega)]; omega
      have hw8 : IntKind.u8.wrap (nn : Int) = nn := by simp [IntKind.wrap, IntKind.bits, IntKind.signed]; omega
      have hw64 : IntKind.i64.wrap (nn : Int) = nn := by simp [IntKind.wrap, IntKind.bits, IntKind.signed]; omega
      have hw641 : IntKind.i64.wrap (1 + (nn : Int)) = ((nn + 1 : Nat) : Int) := by simp [IntKind.wrap, IntKind.bits, IntKind.signed]; omega
      obtain ⟨N, hN⟩ : ∃ N, N = nn + 1 := ⟨_, rfl⟩
      rw [← hN] at hw641
      have hNr : 1 ≤ N ∧ N ≤ 4096 := by omega
      have hN0 : ¬ (N : Int) = 0 := by omega
      obtain ⟨i, hi⟩ : ∃ i, i = a.toNat % N := ⟨_, rfl⟩
      have hiN : i < N := by rw [hi]; exact Nat.mod_lt _ (by omega)
      have hai : ((a.toNat : Int)).tmod (N : Int) = (i : Int) := by rw [hi]; exact Int.tmod_eq_emod_of_nonneg (by omega)
      have hwi : IntKind.i64.wrap (i : Int) = i := by simp [IntKind.wrap, IntKind.bits, IntKind.signed]; omega
      have hwa : IntKind.i64.wrap (a.toNat : Int) = a.toNat := by simp [IntKind.wrap, IntKind.bits, IntKind.signed]; omega
      obtain ⟨j1, hj1⟩ : ∃ j, j = i + 1 := ⟨_, rfl⟩
      have hwi1 : IntKind.i64.wrap ((i : Int) + 1) = (j1 : Int) := by rw [hj1]; simp [IntKind.wrap, IntKind.bits, IntKind.signed]; omega
      obtain ⟨o, ho⟩ : ∃ o, o = j1 % N := ⟨_, rfl⟩
      have hoN : o < N := by rw [ho]; exact Nat.mod_lt _ (by omega)
      have hoi : ((j1 : Int)).tmod (N : Int) = (o : Int) := by rw [ho]; exact Int.tmod_eq_emod_of_nonneg (by omega)
      have hwo : IntKind.i64.wrap (o : Int) = o := by simp [IntKind.wrap, IntKind.bits, IntKind.signed]; omega
      have hone : 1 < N → o ≠ i := fun h => by
        rw [ho, hj1]
        by_cases e : i + 1 = N
        · rw [e, Nat.mod_self]; omega
        · rw [Nat.mod_eq_of_lt (by omega)]; omega
      have hb1 : IntKind.u8.wrap ((b.toNat : Int) + 1) = ((b + 1).toNat : Int) := by
        have := b.toNat_lt
        rw [UInt8.toNat_add]
        simp [IntKind.wrap, IntKind.bits, IntKind.signed]
      have FU : Hid (∀ wx : World, Calls Try.prog 14 #[.int .u8 b.toNat] wx fun e w' => e = .returned (.string ⟨(Dk.full b).toArray⟩) ∧ Below wx.heap.size wx w') := fun wx => full7_any wx b
      have FU1 : Hid (∀ wx : World, Calls Try.prog 14 #[.int .u8 (b + 1).toNat] wx fun e w' => e = .returned (.string ⟨(Dk.full (b + 1)).toArray⟩) ∧ Below wx.heap.size wx w') := fun wx => full7_any wx (b + 1)
      obtain ⟨sb, hsb⟩ : ∃ s : ByteArray, s = ⟨(Dk.full b).toArray⟩ := ⟨_, rfl⟩
      obtain ⟨s1, hs1⟩ : ∃ s : ByteArray, s = ⟨(Dk.full (b + 1)).toArray⟩ := ⟨_, rfl⟩
      rw [← hsb] at FU
      rw [← hs1] at FU1
      have HSB : Hid (sb.data.toList = Dk.full b) := by show _ = _; rw [hsb]
      have HS1 : Hid (s1.data.toList = Dk.full (b + 1)) := by show _ = _; rw [hs1]
      have HSB2 := Lib.hid hsb
      obtain ⟨y1, hy1⟩ : ∃ y, y = b + 1 := ⟨_, rfl⟩
      rw [← hy1] at hb1 FU1 HS1
      have HNR := Lib.hid hNr
      have HIN := Lib.hid hiN
      have HON := Lib.hid hoN
      have HONE := Lib.hid hone
      obtain ⟨M0, hM0⟩ : ∃ M, M = Dk.crash (Dk.runs (Dk.new N) l) [] := ⟨_, rfl⟩
      have h0l : M0.lasts.length = N := by rw [hM0, Dk.len_crash, Dk.len_runs]; simp [Dk.new]
      have h0o : M0.off = false := by rw [hM0]; rfl
      have h0f : M0.fuse = -1 := by rw [hM0]; rfl
      have h0w : Dk.waits M0 = 0 := by rw [hM0]; exact Dk.waits_crash _ _
      have h0W : M0.W = fun _ => [] := by rw [hM0]; rfl
      have hwr := Dk.waits_runs (Dk.new N) l
      rw [Dk.waits_new] at hwr
      obtain ⟨M1, hM1⟩ : ∃ M, M = (Dk.write M0 i (Dk.full b)).1 := ⟨_, rfl⟩
      have h1w : Dk.waits M1 ≤ 1 := by rw [hM1]; have := Dk.waits_write M0 i (Dk.full b); omega
      obtain ⟨M2, hM2⟩ : ∃ M, M = (Dk.sync M1).1 := ⟨_, rfl⟩
      have h2w : Dk.waits M2 ≤ 1 := by rw [hM2]; have := Dk.waits_sync M1; omega
      have hf1 : Dk.write M0 i (Dk.full b) = (Dk.put M0 i (Dk.full b), 0) := Dk.write_free h0o h0f (by omega) (Dk.full_length b)
      have hf2 : Dk.sync M1 = (Dk.synced M1, 0) := by rw [hM1, hf1]; exact Dk.sync_free h0o h0f
      have h2l : M2.lasts.length = N := by rw [hM2, Dk.len_sync, hM1, Dk.lasts_write]; exact h0l
      have h2o : M2.off = false := by rw [hM2, hf2, hM1, hf1]; exact h0o
      have h2f : M2.fuse = -1 := by rw [hM2, hf2, hM1, hf1]; exact h0f
      have h2W : M2.W = fun _ => [] := by rw [hM2, hf2]; rfl
      have hf3 : Dk.write M2 o (Dk.full y1) = (Dk.put M2 o (Dk.full y1), 0) := Dk.write_free h2o h2f (by omega) (Dk.full_length y1)
      have KS : Hid (∀ M3 : Dk.Md, M3.lasts = M2.lasts → M3.W i = [] → Dk.readOf (Dk.crash M3 keep) i = (Dk.full b, 0) ∧ Dk.readOf (Dk.crash (Dk.crash M3 keep) [7]) i = (Dk.full b, 0)) := by
        intro M3 h3 hW3
        have := Dk.kept_synced h0o h0f (i := i) (by omega) (Dk.full_length b) M3 (by rw [h3, hM2, hM1]) hW3 keep [7]
        exact ⟨this.2.2.1, this.2.2.2⟩
      have E1 : Hid ((Dk.write M0 i (Dk.full b)).2 = 0) := by show _ = _; rw [hf1]
      have E2 : Hid ((Dk.sync M1).2 = 0) := by show _ = _; rw [hf2]
      have E3 : Hid ((Dk.write M2 o (Dk.full y1)).2 = 0) := by show _ = _; rw [hf3]
      have W3 : Hid (o ≠ i → (Dk.write M2 o (Dk.full y1)).1.W i = []) := by
        intro hne
        rw [hf3, Dk.put_other _ _ hne.symm, h2W]
      have L3 : Hid ((Dk.write M2 o (Dk.full y1)).1.lasts = M2.lasts) := Dk.lasts_write _ _ _
      have W2 : Hid (M2.W i = []) := by show _ = _; rw [h2W]
      have HM0 := Lib.hid hM0
      have HM1 := Lib.hid hM1
      have HM2 := Lib.hid hM2
      have HW0 := Lib.hid h0w
      have HW1 := Lib.hid h1w
      have HW2 := Lib.hid h2w
      have HWR := Lib.hid hwr
      clear hnn hN hi hiN ho hj1 hoN hone hsb hs1 hy1 hM0 hM1 hM2 hf1 hf2 hf3 h0l h0o h0f h0w h0W h1w h2w h2l h2o h2f h2W hwr hNr hal hnl hfair
      have KAN : Hid (∀ (wx : World) (rx : Nat) (fx : Nat → Prop) (Mx : Dk.Md), Dk.Own W.heap.size W wx rx fx Mx → Dk.IntsAt wx (.slice kA keep.length kc) keep ∧ Dk.Off fx (.slice kA keep.length kc) keep) := fun wx rx fx Mx hx => hx.off HK.out rfl
      by_cases hN1 : N = 1
      · have hNi : ¬ (1 : Int) < (N : Int) := by omega
        clear hN1
        go_enter Try.func7, Try.ntmps7
        go_wp2_with fail
        refine (AW.out).mono ?_
        rintro e w1 ⟨rfl, b1⟩
        go_wp2_with fail
        refine (GR.out w1 b1).mono ?_
        rintro e w2 ⟨rfl, rfl⟩
        go_wp2_with fail
        refine (Dk.new_in b1 (Nat.le_refl _) N HNR.out).mono ?_
        rintro e w2 ⟨r, fp2, rfl, o2, -, -⟩
        clear b1
        go_wp2_with fail
        refine (run7_any o2 rfl (by omega) HIT.out HS.out (by rw [Dk.waits_new]; omega)).mono ?_
        rintro e w3 ⟨rfl, fp3, st3⟩
        have o3 := st3.own
        clear o2 st3
        go_wp2_with fail
        refine (Dk.crash_in o3 (by have := HWR.out; omega) (Dk.IntsAt.nil _) (Dk.Off.nil _)).mono ?_
        rintro e w4 ⟨fp4, rfl, st4⟩
        have o4 := st4.own
        rw [← HM0.out] at o4
        clear o3 st4
        go_wp2_with fail
        refine (FU.out _).mono ?_
        rintro e w5 ⟨rfl, b5⟩
        have o5 := o4.low b5
        clear o4 b5
        go_wp2_with fail
        refine (Dk.write_in o5 (by have := HW0.out; omega) i sb).mono ?_
        rintro e w6 ⟨fp6, rfl, st6⟩
        have o6 := st6.own
        rw [HSB.out] at o6
        rw [← HM1.out] at o6
        rw [HSB.out, E1.out]
        clear o5 st6
        go_wp2_with fail
        refine (Dk.sync_in o6).mono ?_
        rintro e w7 ⟨fp7, rfl, st7⟩
        have o7 := st7.own
        rw [← HM2.out] at o7
        rw [E2.out]
        clear o6 st7
        obtain ⟨hi7, ho7⟩ := KAN.out _ _ _ _ o7
        have HI7 := Lib.hid hi7
        have HO7 := Lib.hid ho7
        clear hi7 ho7
        go_wp2_with fail
        refine (Dk.crash_in o7 (by have := HW2.out; omega) HI7.out HO7.out).mono ?_
        rintro e w8 ⟨fp8, rfl, st8⟩
        have o8 := st8.own
        clear o7 st8
        go_wp2_with fail
        refine (Dk.read_in o8 i).mono ?_
        rintro e w9 ⟨rfl, o9, -⟩
        rw [(KS.out M2 rfl W2.out).1, ← HSB2.out]
        clear o8
        have hi10 := Dk.ints_one (w := w9) 7 (by omega)
        have ho10 := Dk.off_new o9 [7] 1 1
        have o10 := o9.low ((Below.refl w9.heap.size w9).alloc (Nat.le_refl _) (.cells #[.int .i64 7] 3))
        have HI10 := Lib.hid hi10
        have HO10 := Lib.hid ho10
        clear o9 hi10 ho10
        go_wp2_with fail
        refine (Dk.crash_in o10 (by rw [Dk.waits_crash]; omega) HI10.out HO10.out).mono ?_
        rintro e w11 ⟨fp11, rfl, st11⟩
        have o11 := st11.own
        clear o10 st11
        go_wp2_with fail
        refine (Dk.read_in o11 i).mono ?_
        rintro e w12 ⟨rfl, o12, -⟩
        rw [(KS.out M2 rfl W2.out).2, ← HSB2.out]
        have b12 := o12.below
        clear o11 o12
        go_wp2_with fail
        refine (FU.out _).mono ?_
        rintro e w13 ⟨rfl, k13⟩
        have b13 := b12.trans (k13.mono b12.size)
        clear k13 b12
        go_wp2_with fail
        refine (FU.out _).mono ?_
        rintro e w14 ⟨rfl, k14⟩
        have b14 := b13.trans (k14.mono b13.size)
        clear k14 b13
        go_wp2_with fail
        go_ret
        exact ⟨by simp, b14⟩
      · have hNi : (1 : Int) < (N : Int) := by have := HNR.out; omega
        have hoi2 := HONE.out (by have := HNR.out; omega)
        have HOI := Lib.hid hoi2
        clear hoi2 hN1
        go_enter Try.func7, Try.ntmps7
        go_wp2_with fail
        refine (AW.out).mono ?_
        rintro e w1 ⟨rfl, b1⟩
        go_wp2_with fail
        refine (GR.out w1 b1).mono ?_
        rintro e w2 ⟨rfl, rfl⟩
        go_wp2_with fail
        refine (Dk.new_in b1 (Nat.le_refl _) N HNR.out).mono ?_
        rintro e w2 ⟨r, fp2, rfl, o2, -, -⟩
        clear b1
        go_wp2_with fail
        refine (run7_any o2 rfl (by omega) HIT.out HS.out (by rw [Dk.waits_new]; omega)).mono ?_
        rintro e w3 ⟨rfl, fp3, st3⟩
        have o3 := st3.own
        clear o2 st3
        go_wp2_with fail
        refine (Dk.crash_in o3 (by have := HWR.out; omega) (Dk.IntsAt.nil _) (Dk.Off.nil _)).mono ?_
        rintro e w4 ⟨fp4, rfl, st4⟩
        have o4 := st4.own
        rw [← HM0.out] at o4
        clear o3 st4
        go_wp2_with fail
        refine (FU.out _).mono ?_
        rintro e w5 ⟨rfl, b5⟩
        have o5 := o4.low b5
        clear o4 b5
        go_wp2_with fail
        refine (Dk.write_in o5 (by have := HW0.out; omega) i sb).mono ?_
        rintro e w6 ⟨fp6, rfl, st6⟩
        have o6 := st6.own
        rw [HSB.out] at o6
        rw [← HM1.out] at o6
        rw [HSB.out, E1.out]
        clear o5 st6
        go_wp2_with fail
        refine (Dk.sync_in o6).mono ?_
        rintro e w7 ⟨fp7, rfl, st7⟩
        have o7 := st7.own
        rw [← HM2.out] at o7
        rw [E2.out]
        clear o6 st7
        go_wp2_with fail
        refine (FU1.out _).mono ?_
        rintro e w8 ⟨rfl, b8⟩
        have o8 := o7.low b8
        clear o7 b8
        go_wp2_with fail
        refine (Dk.write_in o8 (by have := HW2.out; omega) o s1).mono ?_
        rintro e w9 ⟨fp9, rfl, st9⟩
        have o9 := st9.own
        rw [HS1.out] at o9
        rw [HS1.out, E3.out]
        clear o8 st9
        obtain ⟨hi7, ho7⟩ := KAN.out _ _ _ _ o9
        have HI7 := Lib.hid hi7
        have HO7 := Lib.hid ho7
        clear hi7 ho7
        go_wp2_with fail
        refine (Dk.crash_in o9 (by have := HW2.out; have := Dk.waits_write M2 o (Dk.full y1); omega) HI7.out HO7.out).mono ?_
        rintro e w10 ⟨fp10, rfl, st10⟩
        have o10 := st10.own
        clear o9 st10
        go_wp2_with fail
        refine (Dk.read_in o10 i).mono ?_
        rintro e w11 ⟨rfl, o11, -⟩
        rw [(KS.out _ L3.out (W3.out HOI.out)).1, ← HSB2.out]
        clear o10
        have hi12 := Dk.ints_one (w := w11) 7 (by omega)
        have ho12 := Dk.off_new o11 [7] 1 1
        have o12 := o11.low ((Below.refl w11.heap.size w11).alloc (Nat.le_refl _) (.cells #[.int .i64 7] 3))
        have HI12 := Lib.hid hi12
        have HO12 := Lib.hid ho12
        clear o11 hi12 ho12
        go_wp2_with fail
        refine (Dk.crash_in o12 (by rw [Dk.waits_crash]; omega) HI12.out HO12.out).mono ?_
        rintro e w13 ⟨fp13, rfl, st13⟩
        have o13 := st13.own
        clear o12 st13
        go_wp2_with fail
        refine (Dk.read_in o13 i).mono ?_
        rintro e w14 ⟨rfl, o14, -⟩
        rw [(KS.out _ L3.out (W3.out HOI.out)).2, ← HSB2.out]
        have b14 := o14.below
        clear o13 o14
        go_wp2_with fail
        refine (FU.out _).mono ?_
        rintro e w15 ⟨rfl, k15⟩
        have b15 := b14.trans (k15.mono b14.size)
        clear k15 b14
        go_wp2_with fail
        refine (FU.out _).mono ?_
        rintro e w16 ⟨rfl, k16⟩
        have b16 := b15.trans (k16.mono b15.size)
        clear k16 b15
        go_wp2_with fail
        go_ret
        exact ⟨by simp, b16⟩
    · have hki : (100 : Int) < keep.length := by omega
      go_enter Try.func7, Try.ntmps7
      go_wp2_with fail
      refine (AW.out).mono ?_
      rintro e w1 ⟨rfl, b1⟩
      go_wp2_with fail
      refine (GR.out w1 b1).mono ?_
      rintro e w2 ⟨rfl, rfl⟩
      go_wp2
      go_ret
      exact ⟨rfl, b1⟩
end Go.Proofs.Ytleknlkbaeognaa
