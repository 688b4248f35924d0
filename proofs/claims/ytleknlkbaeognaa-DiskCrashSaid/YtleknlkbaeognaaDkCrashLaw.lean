/-
  DiskCrash: behind a crash each sector is what lasted, or one of the writes that waited for it.
-/
import Derived.Test.YtleknlkbaeognaaDkMay
import Derived.Test.YtleknlkbaeognaaDkTwinLaw
import Derived.Test.YtleknlkbaeognaaDkKnown
import Derived.Test.YtleknlkbaeognaaDkLook
namespace Go.Proofs.Ytleknlkbaeognaa
open Go.RowKit
namespace Dk
theorem write_zero {M : Md} {i : Int} {b : List UInt8} (h : (write M i b).2 = 0) : 0 ≤ i ∧ i < M.lasts.length ∧ b.length = 64 ∧ ∀ j, (write M i b).1.W j = if j = i.toNat then M.W j ++ [b] else M.W j := by
  unfold write at h ⊢
  split at h
  · cases h
  · rename_i hoff
    split at h
    · rename_i ht
      split at h
      · rename_i ha
        simp only [Bool.and_eq_true, decide_eq_true_eq] at ht
        obtain ⟨h1, h2⟩ := there_iff.1 ht.1
        refine ⟨h1, h2, ht.2, fun j => ?_⟩
        rw [if_neg hoff, if_pos (by simp [ht]), if_pos ha]
        simp only [put, act_W]
      · cases h
    · cases h
theorem write_some {M : Md} {i : Int} {b : List UInt8} (h : ¬ (write M i b).2 = 0) : (write M i b).1.W = M.W := by
  unfold write at h ⊢
  split
  · rfl
  · split
    · split
      · rename_i h1 h2 h3
        rw [if_neg h1, if_pos h2, if_pos h3] at h
        exact absurd rfl h
      · exact act_W M
    · rfl
theorem write_len (M : Md) (i : Int) (b : List UInt8) : (write M i b).1.lasts.length = M.lasts.length := by
  unfold write
  split
  · rfl
  · split
    · split
      · show (act M).1.lasts.length = _
        rw [act_lasts]
      · show (act M).1.lasts.length = _
        rw [act_lasts]
    · rfl
theorem sync_len (M : Md) : (sync M).1.lasts.length = M.lasts.length := by
  unfold sync
  split
  · rfl
  · split
    · simp [synced, act_lasts]
    · show (act M).1.lasts.length = _
      rw [act_lasts]
theorem sync_zero {M : Md} (h : (sync M).2 = 0) : ∀ j, (sync M).1.W j = [] := by
  unfold sync at h ⊢
  split at h
  · cases h
  · rename_i h1
    split at h
    · rename_i h2
      rw [if_neg h1, if_pos h2]
      intro j; rfl
    · cases h
theorem sync_some {M : Md} (h : ¬ (sync M).2 = 0) : (sync M).1.W = M.W := by
  unfold sync at h ⊢
  split
  · rfl
  · split
    · rename_i h1 h2
      rw [if_neg h1, if_pos h2] at h
      exact absurd rfl h
    · exact act_W M
theorem Among.same {M M' : Md} {H : Nat → List ByteArray} (h : Among M H) (e : M'.W = M.W) : Among M' H := fun i s hs => h i s (by rw [← e]; exact hs)
theorem Among.push {M M' : Md} {H : Nat → List ByteArray} (h : Among M H) {i : Nat} {s : ByteArray} (e : ∀ j, M'.W j = if j = i then M.W j ++ [s.data.toList] else M.W j) : Among M' (fun j => if j = i then H i ++ [s] else H j) := fun j t ht => by
  rw [e] at ht
  by_cases hj : j = i
  · subst hj
    simp only [if_pos] at ht ⊢
    rcases List.mem_append.1 ht with h1 | h1
    · obtain ⟨u, hu, he⟩ := h _ _ h1
      exact ⟨u, List.mem_append_left _ hu, he⟩
    · rw [List.mem_singleton.1 h1]
      exact ⟨s, by simp, rfl⟩
  · simp only [if_neg hj] at ht ⊢
    exact h _ _ ht
theorem Among.none {M : Md} {H : Nat → List ByteArray} (e : ∀ j, M.W j = []) : Among M H := fun i s hs => by rw [e] at hs; cases hs
theorem own_cell {w : World} {B e : Nat} {A : Option Addr} {c n : Nat} {xs : List Value} (ho : w.ownsRow B e 1 (.slice A n c) n xs) {j : Nat} (hj : j < n) : ∃ g, A = some ⟨g, 0, none⟩ ∧ w.cell? ⟨g, j, none⟩ = xs[j]? := by
  rcases ho.2 with ⟨_, h0⟩ | ⟨g, cap, cur, e1, h3, h4, h5, h6, h7, h8⟩
  · omega
  · simp only [Value.slice.injEq] at e1
    refine ⟨g, e1.1, ?_⟩
    rw [← h8, Nat.mul_one, List.getElem?_take, if_pos hj]
    simp [World.cell?, h4]
theorem read_kept {M : Md} {kp : List Int} {i : Nat} (hi : i < M.lasts.length) : readOf (crash M kp) (i : Int) = (kept M kp i, 0) := by
  have h1 : there (crash M kp) (i : Int) = true := there_iff.2 ⟨by omega, by simp [crash]; exact hi⟩
  unfold readOf
  rw [if_neg (by simp [crash]), if_pos h1]
  simp [seen, crash, last, List.getD_eq_getElem?_getD, hi]
end Dk
set_option maxRecDepth 100000 in
set_option maxHeartbeats 2500000 in
theorem diskcrash_any (W : World) (n : UInt8) {A KA : Option Addr} {c kc : Nat} {l : List Dk.Ac} {kl : List Int} (hl : l.length ≤ c ∧ c ≤ 9223372036854775807) (hit : Dk.listAt W A l) (hs : ∀ a ∈ l, a.Ok W) (hkl : Dk.IntsAt W (.slice KA kl.length kc) kl) :
    Calls Try.prog 6 #[.int .u8 n.toNat, .slice A l.length c, .slice KA kl.length kc] W fun e w' => e = .returned (.bool true) ∧ Below W.heap.size W w' := by
  obtain ⟨gr, hgr⟩ := Dk.gr_of l
  have HIT := Lib.hid hit
  have HS := Lib.hid hs
  have HKL := Lib.hid hkl
  have GR : Hid (∀ wx, Below W.heap.size W wx → Calls Try.prog 24 #[.slice A l.length c] wx fun e w' => e = .returned (.bool gr) ∧ wx = w') := fun wx hx => great7_any (Nat.le_trans hl.1 hl.2) (HIT.out.below hx) hs gr hgr
  have AW := Lib.hid (awake7_any W)
  have FR : Hid (gr = false → l.length ≤ 200) := Dk.fair_of hgr
  clear hit hs hgr hkl
  cases gr with
  | true =>
    go_enter Try.func6, Try.ntmps6
    go_wp2_with fail
    refine (AW.out).mono ?_
    rintro e w1 ⟨rfl, b1⟩
    go_wp2_with fail
    refine (GR.out w1 b1).mono ?_
    rintro e w2 ⟨rfl, rfl⟩
    go_wp2
    go_ret
    exact ⟨rfl, b1⟩
  | false =>
    have hfl := FR.out rfl
    clear FR
    by_cases hk100 : 100 < kl.length
    · have hki : (100 : Int) < (kl.length : Int) := by omega
      go_enter Try.func6, Try.ntmps6
      go_wp2_with fail
      refine (AW.out).mono ?_
      rintro e w1 ⟨rfl, b1⟩
      go_wp2_with fail
      refine (GR.out w1 b1).mono ?_
      rintro e w2 ⟨rfl, rfl⟩
      go_wp2
      go_ret
      exact ⟨rfl, b1⟩
    have hki100 : ¬ (100 : Int) < (kl.length : Int) := by omega
    obtain ⟨nn, hnn⟩ : ∃ nn, nn = n.toNat % 40 := ⟨_, rfl⟩
    have hnl := n.toNat_lt
    have hm40 : ((n.toNat : Int)).tmod 40 = (nn : Int) := by rw [hnn, Int.tmod_eq_emod_of_nonneg (by omega)]; omega
    have hw8 : IntKind.u8.wrap (nn : Int) = nn := by simp [IntKind.wrap, IntKind.bits, IntKind.signed]; omega
    have hw64 : IntKind.i64.wrap (nn : Int) = nn := by simp [IntKind.wrap, IntKind.bits, IntKind.signed]; omega
    obtain ⟨N, hN⟩ : ∃ N, N = nn + 1 := ⟨_, rfl⟩
    have hw641 : IntKind.i64.wrap (1 + (nn : Int)) = (N : Int) := by rw [hN]; simp [IntKind.wrap, IntKind.bits, IntKind.signed]; omega
    have hNr : 1 ≤ N ∧ N ≤ 4096 := by omega
    have HNR := Lib.hid hNr
    clear hnn hN hnl hNr
    go_enter Try.func6, Try.ntmps6
    go_wp2_with fail
    refine (AW.out).mono ?_
    rintro e w1 ⟨rfl, b1⟩
    go_wp2_with fail
    refine (GR.out w1 b1).mono ?_
    rintro e w2 ⟨rfl, rfl⟩
    go_wp2_with fail
    refine (Dk.new_in b1 (Nat.le_refl _) N HNR.out).mono ?_
    rintro e w2 ⟨r, fp2, rfl, o2, -, -⟩
    clear b1
    have y2 : Dk.May (w2.alloc (.map #[] 0)) W.heap.size w2.heap.size N (fun _ => none) (fun _ => []) := Dk.May.made w2 o2.size
    have ap2 : ∀ k, fp2 k → ¬ Dk.mine w2.heap.size N (fun _ => none) k := fun k hk hm => by
      rcases hm with e | ⟨i, v, hi, hv, -⟩
      · have := o2.lt k hk; omega
      · cases hv
    have o2' := o2.low (w' := w2.alloc (.map #[] 0)) ((Below.refl _ w2).alloc (Nat.le_refl _) _)
    have nl2 : (Dk.new N).lasts.length = N := by simp [Dk.new]
    clear o2
    have hmk : ∀ (wx : World), (Instr.makeMap 59 none).run Try.prog wx = .ok (.map (some wx.heap.size)) (wx.alloc (.map #[] 0)) := fun wx => by kernel_rfl
    have MK := Lib.hid hmk
    go_upto_region 9 with (fail)
    clear hmk
    generalize w2.alloc (.map #[] 0) = w3 at *
    generalize w2.heap.size = mp0 at *
    have O3 := Lib.hid o2'
    have Y3 := Lib.hid y2
    have AP3 := Lib.hid ap2
    have NL3 := Lib.hid nl2
    clear o2' y2 ap2 nl2 GR AW
    go_wp2
    go_loopw [9, 10] (fun s9 s10 wr => ∃ (k mp : Nat) (F : Nat → Option Value) (H : Nat → List ByteArray) (fp : Nat → Prop) (M : Dk.Md), s9 = .map (some mp) ∧ s10 = .int .i64 k ∧ k ≤ l.length ∧ Dk.Own W.heap.size W wr r fp M ∧ Dk.May wr W.heap.size mp N F H ∧ (∀ b, fp b → ¬ Dk.mine mp N F b) ∧ Dk.Among M H ∧ Dk.waits M ≤ k ∧ (∀ i, (H i).length ≤ k) ∧ M.lasts.length = N) (fun _ s10 _ => l.length - (intOf s10).toNat)
    case atStart => exact ⟨0, mp0, _, _, fp2, _, rfl, rfl, Nat.zero_le _, O3.out, Y3.out, AP3.out, Dk.Among.new N, Nat.le_of_eq (Dk.waits_new N), fun i => Nat.le_refl _, NL3.out⟩
    case round =>
      clear O3 Y3 AP3 NL3
      obtain ⟨k, mp, F, H, fp1, M1, rfl, rfl, hk, how, hmy, hap, ham, hwt, hhl, hnl⟩ := hrel
      have OW := Lib.hid how
      have YW := Lib.hid hmy
      have AP := Lib.hid hap
      have AM := Lib.hid ham
      have HWT := Lib.hid hwt
      have HHL := Lib.hid hhl
      have HNL := Lib.hid hnl
      have hbl : Below W.heap.size W wr := how.below
      clear how hmy hap ham hwt hhl hnl
      by_cases hlt : k < l.length
      · have hlt1 : (k : Int) < l.length := by omega
        obtain ⟨b, ao, rfl, hbW, hat⟩ : ∃ b ao, A = some ⟨b, ao, none⟩ ∧ b < W.heap.size ∧ Dk.actsAt W b ao l := by
          rcases HIT.out with h | h
          · rw [h] at hlt; simp at hlt
          · exact h
        obtain ⟨c0, c1, c2, c3, c4, c5, c6⟩ := (hat k hlt).below hbl hbW
        obtain ⟨a, ha⟩ : ∃ a, a = l[k] := ⟨_, rfl⟩
        have hok := HS.out _ (List.getElem_mem hlt)
        rw [← ha] at c0 c1 c2 c3 c4 c5 c6 hok
        have HOK := Lib.hid hok
        have HWK : Hid (Dk.waits M1 ≤ 1099511627776) := by show _ ≤ _; have := HWT.out; omega
        have HNF : Hid (¬ fp1 wr.heap.size) := by show ¬ _; intro e; have := OW.out.lt _ e; omega
        have HNM : Hid (¬ Dk.mine mp N F wr.heap.size) := by show ¬ _; intro e; have := YW.out.lt _ e; omega
        have kb : Below wr.heap.size wr (wr.alloc (.cells a.cells.toArray 50)) := (Below.refl wr.heap.size wr).alloc (Nat.le_refl _) (.cells a.cells.toArray 50)
        have O1 := Lib.hid (OW.out.low kb)
        have Y1 := Lib.hid (YW.out.below kb)
        have hg1 := heap_alloc_new wr (.cells a.cells.toArray 50)
        have hsuc : IntKind.i64.wrap ((k : Int) + 1) = ((k + 1 : Nat) : Int) := by simp [IntKind.wrap, IntKind.bits, IntKind.signed]; omega
        have DA : Hid (∀ wx : World, Calls Try.prog 28 #[.agg a.cells.toArray] wx fun e w' => e = .returned (.string ⟨(Dk.data a).toArray⟩) ∧ Below wx.heap.size wx w') := fun wx => data7_any wx a
        obtain ⟨kA, kc', hkv, -⟩ := hok.keep
        clear ha hok hbl OW YW hat kb
        unfold Dk.Ac.cells at *
        rw [hkv] at c6 hg1 O1 Y1 DA
        obtain ⟨sd, hsd⟩ : ∃ s : ByteArray, s = ⟨(Dk.data a).toArray⟩ := ⟨_, rfl⟩
        have hsdd : sd.data.toList = Dk.data a := by rw [hsd]
        rw [← hsd] at DA
        have HSD := Lib.hid hsdd
        clear hkv hsd hsdd
        go_upto_region 13 with (fail)
        clear c0 c1 c2 c3 c4 c5 c6
        obtain ⟨P, hP⟩ : ∃ P, P = wr.heap.size := ⟨_, rfl⟩
        rw [← hP] at hg1 HNF HNM ⊢
        clear hP
        generalize wr.alloc (.cells #[.int .i64 a.d, .int .i64 a.i, .int .i64 a.n, .string a.b, .string a.x, .int .u8 a.y.toNat, .slice kA a.keep.length kc'] 50) = w1 at *
        obtain ⟨cs, hcs⟩ : ∃ cs : List Value, cs = [.int .i64 a.d, .int .i64 a.i, .int .i64 a.n, .string a.b, .string a.x, .int .u8 a.y.toNat, .slice kA a.keep.length kc'] := ⟨_, rfl⟩
        rw [← hcs] at DA
        have hG : w1.heap[P]? = some (.cells cs.toArray 50 (0, 0)) := by rw [hcs]; exact hg1
        have hcl : (Try.prog.info? 50).map (·.size) = some cs.length := by rw [hcs]; kernel_rfl
        have HC0 : Hid (cs.toArray[0]? = some (.int .i64 a.d)) := by show _ = _; rw [hcs]; rfl
        have HC1 : Hid (cs.toArray[1]? = some (.int .i64 a.i)) := by show _ = _; rw [hcs]; rfl
        have HC2 : Hid (cs.toArray[2]? = some (.int .i64 a.n)) := by show _ = _; rw [hcs]; rfl
        have HCL := Lib.hid hcl
        have HGG := Lib.hid hG
        clear hg1 hcs hcl
        have d0 := Sm.cells_of hG 0 _ HC0.out
        have d2 := Sm.cells_of hG 2 _ HC2.out
        clear hG
        have W1 : Hid (Dk.waits (Dk.write M1 a.i (Dk.data a)).1 ≤ k + 1) := by show _ ≤ _; have := Dk.waits_write M1 a.i (Dk.data a); have := HWT.out; omega
        have W2 : Hid (Dk.waits (Dk.sync M1).1 ≤ k + 1) := by show _ ≤ _; have := Dk.waits_sync M1; have := HWT.out; omega
        by_cases e0 : a.d = 0
        · rw [e0] at d0
          go_upto_region 15 with (fail)
          clear d0 d2
          by_cases hz : (Dk.write M1 a.i (Dk.data a)).2 = 0
          · have HZ := Lib.hid hz
            obtain ⟨hi1, hi2, -, hWj⟩ := Dk.write_zero hz
            obtain ⟨i0, hi0⟩ : ∃ i0 : Nat, a.i = (i0 : Int) := ⟨a.i.toNat, by omega⟩
            have HI := Lib.hid hi0
            have HIN : Hid (i0 < N) := by show i0 < N; have := HNL.out; omega
            have HWJ : Hid (∀ j, (Dk.write M1 a.i (Dk.data a)).1.W j = if j = i0 then M1.W j ++ [sd.data.toList] else M1.W j) := by
              intro j
              rw [hWj j, HSD.out, hi0]; rfl
            clear hz hi1 hi2 hWj hi0
            refine wp_region_held_drew (S := (fun w' => w'.heap[P]? = some (.cells cs.toArray 50 (0, 0)))) (by kernel_rfl) (by exact HGG.out) (fun hHeld => ?_)
            refine wpAnyH_take (i := 0) (oi := ⟨some 54, _, _, _, _, _⟩) (v := .pointer (some ⟨r, 0, none⟩)) rfl (by kernel_rfl) (by kernel_rfl) (by kernel_rfl) (fun _ _ _ h => h) (Or.inl ⟨by rfl, ?_⟩) (by assumption) ?_
            · intro w hSw; (try dsimp only at hSw); go_simp
            simp only [Act.put, List.setIfInBounds_toArray, List.set_cons_zero, List.set_cons_succ]
            refine wpAnyH_take (i := 1) (oi := ⟨some 55, _, _, _, _, _⟩) (v := .pointer (some ⟨P, 1, none⟩)) rfl (by kernel_rfl) (by kernel_rfl) (by kernel_rfl) (fun _ _ _ h => h) (Or.inl ⟨by rfl, ?_⟩) (by assumption) ?_
            · intro w hSw; (try dsimp only at hSw); go_simp
            simp only [Act.put, List.setIfInBounds_toArray, List.set_cons_zero, List.set_cons_succ]
            refine wpAnyH_take (i := 2) (oi := ⟨some 56, _, _, _, _, _⟩) (v := .int .i64 a.i) rfl (by kernel_rfl) (by kernel_rfl) (by kernel_rfl) (fun _ _ _ h => h) (Or.inl ⟨by rfl, ?_⟩) (by assumption) ?_
            · intro w hSw; (try dsimp only at hSw); have s1 := Sm.cells_of hSw 1 _ HC1.out; go_simp
            simp only [Act.put, List.setIfInBounds_toArray, List.set_cons_zero, List.set_cons_succ]
            refine wpAnyH_take (i := 3) (oi := ⟨some 57, _, _, _, _, _⟩) (v := .agg cs.toArray) rfl (by kernel_rfl) (by kernel_rfl) (by kernel_rfl) (fun _ _ _ h => h) (yieldsIf_load_mid (by rfl) _ _ rfl _ _ rfl cs _ (fun w hS => Sm.range_row hS) Try.underlying50 rfl HCL.out) (by assumption) ?_
            simp only [Act.put, List.setIfInBounds_toArray, List.set_cons_zero, List.set_cons_succ]
            refine wpAnyH_ready (rs := [4]) (by kernel_rfl) (by simp) ?_
            refine (AllReadyH.cons (o := ⟨some 58, _, _, _, _, _⟩) rfl (fun K hK => ?_) AllReadyH.nil)
            go_simp
            refine (DA.out w1.drew).mono ?_
            rintro e w3 ⟨rfl, hb3⟩
            have kb3 := (Below.refl w1.heap.size w1).drew.trans hb3
            have o3 := O1.out.low (w' := w3) kb3
            have y3 := Y1.out.below (w' := w3) kb3
            have hG3 : w3.heap[P]? = some (.cells cs.toArray 50 (0, 0)) := (hb3.block P (Sm.lt_of HGG.out)).trans HGG.out
            refine hK.out _ _ hG3 (fun hHeld => ?_)
            clear hK K hb3 kb3
            refine wpAnyH_ready (rs := [5]) (by kernel_rfl) (by simp) ?_
            refine (AllReadyH.cons (o := ⟨some 59, _, _, _, _, _⟩) rfl (fun K hK => ?_) AllReadyH.nil)
            go_simp
            refine (Dk.write_to o3 HWK.out a.i sd HSD.out rfl HZ.out).mono ?_
            rintro e w4 ⟨fp4, rfl, st4⟩
            obtain ⟨y4, ap4⟩ := y3.step st4 AP.out
            have hG4 : w4.heap[P]? = some (.cells cs.toArray 50 (0, 0)) := (st4.turned.block P (Sm.lt_of hG3) HNF.out).trans hG3
            have O4 := Lib.hid st4.own
            have Y4 := Lib.hid y4
            have AP4 := Lib.hid ap4
            have HG4 := Lib.hid hG4
            refine hK.out _ _ hG4 (fun hHeld => ?_)
            clear hK K o3 y3 y4 ap4 hG3 hG4 st4 hHeld
            refine wpAnyH_take (i := 6) (oi := ⟨some 60, _, _, _, _, _⟩) (v := .bool true) rfl (by kernel_rfl) (by kernel_rfl) (by kernel_rfl) (fun _ _ _ h => h) (Or.inl ⟨by rfl, ?_⟩) (by assumption) ?_
            · intro w hSw; (try dsimp only at hSw); go_simp
            simp only [Act.put, List.setIfInBounds_toArray, List.set_cons_zero, List.set_cons_succ]
            refine wpAnyH_done (by kernel_rfl) ?_ _
            go_upto_region 16 with (fail)
            have HC1' : Hid (cs.toArray[1]? = some (.int .i64 (i0 : Int))) := by show _ = _; rw [← HI.out]; exact HC1.out
            clear O1 Y1 HGG
            refine wp_region_held_drew (S := (fun w' => w'.heap[P]? = some (.cells cs.toArray 50 (0, 0)))) (by kernel_rfl) (by exact HG4.out) (fun hHeld => ?_)
            have o5 := O4.out.low (w' := w4.drew) ((Below.refl w4.heap.size w4).drew)
            have y5 := Y4.out.below (w' := w4.drew) ((Below.refl w4.heap.size w4).drew)
            have g5 : w4.drew.heap[P]? = some (.cells cs.toArray 50 (0, 0)) := HG4.out
            refine wpAnyH_take (i := 0) (oi := ⟨some 61, _, _, _, _, _⟩) (v := .map (some mp)) rfl (by kernel_rfl) (by kernel_rfl) (by kernel_rfl) (fun _ _ _ h => h) (Or.inl ⟨by rfl, ?_⟩) (by assumption) ?_
            · intro w hSw; (try dsimp only at hSw); go_simp
            simp only [Act.put, List.setIfInBounds_toArray, List.set_cons_zero, List.set_cons_succ]
            refine wpAnyH_take (i := 1) (oi := ⟨some 62, _, _, _, _, _⟩) (v := .pointer (some ⟨P, 1, none⟩)) rfl (by kernel_rfl) (by kernel_rfl) (by kernel_rfl) (fun _ _ _ h => h) (Or.inl ⟨by rfl, ?_⟩) (by assumption) ?_
            · intro w hSw; (try dsimp only at hSw); go_simp
            simp only [Act.put, List.setIfInBounds_toArray, List.set_cons_zero, List.set_cons_succ]
            refine wpAnyH_take (i := 2) (oi := ⟨some 63, _, _, _, _, _⟩) (v := .int .i64 (i0 : Int)) rfl (by kernel_rfl) (by kernel_rfl) (by kernel_rfl) (fun _ _ _ h => h) (Or.inl ⟨by rfl, ?_⟩) (by assumption) ?_
            · intro w hSw; (try dsimp only at hSw); have s1 := Sm.cells_of hSw 1 _ HC1'.out; go_simp
            simp only [Act.put, List.setIfInBounds_toArray, List.set_cons_zero, List.set_cons_succ]
            refine wpAnyH_take (i := 3) (oi := ⟨some 64, _, _, _, _, _⟩) (v := .map (some mp)) rfl (by kernel_rfl) (by kernel_rfl) (by kernel_rfl) (fun _ _ _ h => h) (Or.inl ⟨by rfl, ?_⟩) (by assumption) ?_
            · intro w hSw; (try dsimp only at hSw); go_simp
            simp only [Act.put, List.setIfInBounds_toArray, List.set_cons_zero, List.set_cons_succ]
            refine wpAnyH_take (i := 4) (oi := ⟨some 65, _, _, _, _, _⟩) (v := .pointer (some ⟨P, 1, none⟩)) rfl (by kernel_rfl) (by kernel_rfl) (by kernel_rfl) (fun _ _ _ h => h) (Or.inl ⟨by rfl, ?_⟩) (by assumption) ?_
            · intro w hSw; (try dsimp only at hSw); go_simp
            simp only [Act.put, List.setIfInBounds_toArray, List.set_cons_zero, List.set_cons_succ]
            refine wpAnyH_take (i := 5) (oi := ⟨some 66, _, _, _, _, _⟩) (v := .int .i64 (i0 : Int)) rfl (by kernel_rfl) (by kernel_rfl) (by kernel_rfl) (fun _ _ _ h => h) (Or.inl ⟨by rfl, ?_⟩) (by assumption) ?_
            · intro w hSw; (try dsimp only at hSw); have s1 := Sm.cells_of hSw 1 _ HC1'.out; go_simp
            simp only [Act.put, List.setIfInBounds_toArray, List.set_cons_zero, List.set_cons_succ]
            refine wpAnyH_take (i := 7) (oi := ⟨some 68, _, _, _, _, _⟩) (v := .agg cs.toArray) rfl (by kernel_rfl) (by kernel_rfl) (by kernel_rfl) (fun _ _ _ h => h) (yieldsIf_load_mid (by rfl) _ _ rfl _ _ rfl cs _ (fun w hS => Sm.range_row hS) Try.underlying50 rfl HCL.out) (by assumption) ?_
            simp only [Act.put, List.setIfInBounds_toArray, List.set_cons_zero, List.set_cons_succ]
            refine wpAnyH_ready (rs := [6, 8]) (by kernel_rfl) (by simp) ?_
            refine (AllReadyH.cons (o := ⟨some 67, _, _, _, _, _⟩) rfl (fun K hK => ?_) (AllReadyH.cons (o := ⟨some 69, _, _, _, _, _⟩) rfl (fun K hK => ?_) AllReadyH.nil))
            · rw [if_pos (by simp [Region.wanted])]
              refine Dk.wp_lookup_run 59 (.tmp 64) (.tmp 66) rfl (mv := .map (some mp)) (kv := .int .i64 (i0 : Int)) rfl rfl (y5.map.look Try.underlying3 Try.underlying59 (Dk.zeroStrs _) HIN.out HNR.out.2) ?_
              refine hK.out _ _ g5 (fun hHeld => ?_)
              clear hK K
              refine wpAnyH_ready (rs := [8]) (by kernel_rfl) (by simp) ?_
              refine (AllReadyH.cons (o := ⟨some 69, _, _, _, _, _⟩) rfl (fun K hK => ?_) AllReadyH.nil)
              go_simp
              refine (DA.out _).mono ?_
              rintro e w6 ⟨rfl, hb6⟩
              have o6 := o5.low hb6
              have y6 := y5.below hb6
              have g6 := (hb6.block P (Sm.lt_of g5)).trans g5
              refine hK.out _ _ g6 (fun hHeld => ?_)
              clear hK K hb6
              refine wpAnyH_ready (rs := [9]) (by kernel_rfl) (by simp) ?_
              refine (AllReadyH.cons (o := ⟨some 70, _, _, _, _, _⟩) rfl (fun K hK => ?_) AllReadyH.nil)
              go_simp
              have ha7 := heap_alloc_new w6 (.cells #[.string sd] 9)
              have hb7 : Below w6.heap.size w6 (w6.alloc (.cells #[.string sd] 9)) := (Below.refl _ w6).alloc (Nat.le_refl _) _
              have o7 := o6.low hb7
              have y7 := y6.below hb7
              have g7 := (hb7.block P (Sm.lt_of g6)).trans g6
              generalize w6.alloc (.cells #[.string sd] 9) = w7 at *
              generalize w6.heap.size = N7 at *
              refine hK.out _ _ g7 (fun hHeld => ?_)
              clear hK K hb7
              refine wpAnyH_ready (rs := [10]) (by kernel_rfl) (by simp) ?_
              refine (AllReadyH.cons (o := ⟨some 71, _, _, _, _, _⟩) rfl (fun K hK => ?_) AllReadyH.nil)
              rw [if_pos (by simp [Region.wanted])]
              refine Dk.wp_append_text (.tmp 67) (.tmp 70) rfl (B := W.heap.size) (v := (F i0).getD (.slice none 0 0)) (l := H i0) rfl (y7.own0 HIN.out) (b := sd) (N := N7) rfl (Sm.cells_of ha7 0 _ rfl) (by have := HHL.out i0; omega) o7.size ?_
              intro A' c' w8 hrow hor
              obtain ⟨q0, hq0, hqm, hqB, hgr, hqn⟩ := y7.after HIN.out hrow hor
              have hm8 := y7.map.block (hgr.block mp y7.map.lt (fun e => hqm (Option.some.inj e).symm))
              have hPq : P ≠ q0 := fun e => by
                rcases hqn with h | h
                · exact HNM.out (e ▸ h)
                · have := Sm.lt_of g7; omega
              have hPm : P ≠ mp := fun e => HNM.out (.inl e)
              have g8 := (hgr.block P (Sm.lt_of g7) (fun e => hPq (Option.some.inj e))).trans g7
              have o8 := o7.other (q := Dk.mine mp N F) (Dk.Turned.of_grown hgr hqn) AP4.out y7.high
              refine hK.out _ _ g8 (fun hHeld => ?_)
              clear hK K
              refine wpAnyH_ready (rs := [11]) (by kernel_rfl) (by simp) ?_
              refine (AllReadyH.cons (o := ⟨none, _, _, _, _, _⟩) rfl (fun K hK => ?_) AllReadyH.nil)
              obtain ⟨w9, hrun9, hm9, ht9⟩ := hm8.store Try.underlying3 Try.underlying59 HIN.out HNR.out.2 (.slice A' (H i0 ++ [sd]).length c')
              have y9 := y7.push HIN.out hrow hor hm9 ht9
              have o9 := o8.other (q := Dk.mine mp N F) (Dk.Turned.of_map ht9 (.inl (.inl rfl))) AP4.out y7.high
              have g9 := (ht9.grown.block P (Sm.lt_of g8) (fun e => hPm (Option.some.inj e))).trans g8
              have ap9 : ∀ b, fp4 b → ¬ Dk.mine mp N (fun j => if j = i0 then some (.slice A' (H i0 ++ [sd]).length c') else F j) b := fun b hb hm => by
                rcases hm with e | ⟨j, v, hj, hv, hg⟩
                · exact AP4.out b hb (.inl e)
                · by_cases hji : j = i0
                  · simp only [if_pos hji] at hv
                    rw [← Option.some.inj hv, hq0] at hg
                    have e := Option.some.inj hg
                    rcases hqn with h | h
                    · exact AP4.out b hb (e ▸ h)
                    · have := o7.lt b hb; omega
                  · simp only [if_neg hji] at hv
                    exact AP4.out b hb (.inr ⟨j, v, hj, hv, hg⟩)
              have HO9 := Lib.hid o9
              have HY9 := Lib.hid y9
              have HAP9 := Lib.hid ap9
              rw [if_pos (by simp [Region.wanted])]
              refine Dk.wp_mapUpdate_run 59 (.tmp 61) (.tmp 63) (.tmp 71) rfl (mv := .map (some mp)) (kv := .int .i64 (i0 : Int)) (vv := .slice A' (H i0 ++ [sd]).length c') rfl rfl rfl hrun9 ?_
              refine hK.out _ _ g9 (fun hHeld => ?_)
              clear hK K o8 o9 y9 ap9 g9 hm9 ht9 hrun9 hm8 g8 o7 y7 g7 ha7 hrow hor hgr hqn hq0 hHeld
              refine wpAnyH_done (by kernel_rfl) ?_ _
              go_wp2_with fail
              go_roundw
              case rel => exact ⟨k + 1, mp, _, _, fp4, _, rfl, rfl, hlt, HO9.out, HY9.out, HAP9.out, AM.out.push HWJ.out, W1.out, fun j => by
                have h1 := HHL.out j
                have h2 := HHL.out i0
                by_cases hj : j = i0
                · rw [if_pos hj, List.length_append, List.length_singleton]; omega
                · rw [if_neg hj]; omega, by rw [Dk.write_len]; exact HNL.out⟩
              case measure => simp [intOf]; omega
            · go_simp
              refine (DA.out _).mono ?_
              rintro e w6 ⟨rfl, hb6⟩
              have o6 := o5.low hb6
              have y6 := y5.below hb6
              have g6 := (hb6.block P (Sm.lt_of g5)).trans g5
              refine hK.out _ _ g6 (fun hHeld => ?_)
              clear hK K hb6
              refine wpAnyH_ready (rs := [6, 9]) (by kernel_rfl) (by simp) ?_
              refine (AllReadyH.cons (o := ⟨some 67, _, _, _, _, _⟩) rfl (fun K hK => ?_) (AllReadyH.cons (o := ⟨some 70, _, _, _, _, _⟩) rfl (fun K hK => ?_) AllReadyH.nil))
              · rw [if_pos (by simp [Region.wanted])]
                refine Dk.wp_lookup_run 59 (.tmp 64) (.tmp 66) rfl (mv := .map (some mp)) (kv := .int .i64 (i0 : Int)) rfl rfl (y6.map.look Try.underlying3 Try.underlying59 (Dk.zeroStrs _) HIN.out HNR.out.2) ?_
                refine hK.out _ _ g6 (fun hHeld => ?_)
                clear hK K
                refine wpAnyH_ready (rs := [9]) (by kernel_rfl) (by simp) ?_
                refine (AllReadyH.cons (o := ⟨some 70, _, _, _, _, _⟩) rfl (fun K hK => ?_) AllReadyH.nil)
                go_simp
                have ha7 := heap_alloc_new w6 (.cells #[.string sd] 9)
                have hb7 : Below w6.heap.size w6 (w6.alloc (.cells #[.string sd] 9)) := (Below.refl _ w6).alloc (Nat.le_refl _) _
                have o7 := o6.low hb7
                have y7 := y6.below hb7
                have g7 := (hb7.block P (Sm.lt_of g6)).trans g6
                generalize w6.alloc (.cells #[.string sd] 9) = w7 at *
                generalize w6.heap.size = N7 at *
                refine hK.out _ _ g7 (fun hHeld => ?_)
                clear hK K hb7
                refine wpAnyH_ready (rs := [10]) (by kernel_rfl) (by simp) ?_
                refine (AllReadyH.cons (o := ⟨some 71, _, _, _, _, _⟩) rfl (fun K hK => ?_) AllReadyH.nil)
                rw [if_pos (by simp [Region.wanted])]
                refine Dk.wp_append_text (.tmp 67) (.tmp 70) rfl (B := W.heap.size) (v := (F i0).getD (.slice none 0 0)) (l := H i0) rfl (y7.own0 HIN.out) (b := sd) (N := N7) rfl (Sm.cells_of ha7 0 _ rfl) (by have := HHL.out i0; omega) o7.size ?_
                intro A' c' w8 hrow hor
                obtain ⟨q0, hq0, hqm, hqB, hgr, hqn⟩ := y7.after HIN.out hrow hor
                have hm8 := y7.map.block (hgr.block mp y7.map.lt (fun e => hqm (Option.some.inj e).symm))
                have hPq : P ≠ q0 := fun e => by
                  rcases hqn with h | h
                  · exact HNM.out (e ▸ h)
                  · have := Sm.lt_of g7; omega
                have hPm : P ≠ mp := fun e => HNM.out (.inl e)
                have g8 := (hgr.block P (Sm.lt_of g7) (fun e => hPq (Option.some.inj e))).trans g7
                have o8 := o7.other (q := Dk.mine mp N F) (Dk.Turned.of_grown hgr hqn) AP4.out y7.high
                refine hK.out _ _ g8 (fun hHeld => ?_)
                clear hK K
                refine wpAnyH_ready (rs := [11]) (by kernel_rfl) (by simp) ?_
                refine (AllReadyH.cons (o := ⟨none, _, _, _, _, _⟩) rfl (fun K hK => ?_) AllReadyH.nil)
                obtain ⟨w9, hrun9, hm9, ht9⟩ := hm8.store Try.underlying3 Try.underlying59 HIN.out HNR.out.2 (.slice A' (H i0 ++ [sd]).length c')
                have y9 := y7.push HIN.out hrow hor hm9 ht9
                have o9 := o8.other (q := Dk.mine mp N F) (Dk.Turned.of_map ht9 (.inl (.inl rfl))) AP4.out y7.high
                have g9 := (ht9.grown.block P (Sm.lt_of g8) (fun e => hPm (Option.some.inj e))).trans g8
                have ap9 : ∀ b, fp4 b → ¬ Dk.mine mp N (fun j => if j = i0 then some (.slice A' (H i0 ++ [sd]).length c') else F j) b := fun b hb hm => by
                  rcases hm with e | ⟨j, v, hj, hv, hg⟩
                  · exact AP4.out b hb (.inl e)
                  · by_cases hji : j = i0
                    · simp only [if_pos hji] at hv
                      rw [← Option.some.inj hv, hq0] at hg
                      have e := Option.some.inj hg
                      rcases hqn with h | h
                      · exact AP4.out b hb (e ▸ h)
                      · have := o7.lt b hb; omega
                    · simp only [if_neg hji] at hv
                      exact AP4.out b hb (.inr ⟨j, v, hj, hv, hg⟩)
                have HO9 := Lib.hid o9
                have HY9 := Lib.hid y9
                have HAP9 := Lib.hid ap9
                rw [if_pos (by simp [Region.wanted])]
                refine Dk.wp_mapUpdate_run 59 (.tmp 61) (.tmp 63) (.tmp 71) rfl (mv := .map (some mp)) (kv := .int .i64 (i0 : Int)) (vv := .slice A' (H i0 ++ [sd]).length c') rfl rfl rfl hrun9 ?_
                refine hK.out _ _ g9 (fun hHeld => ?_)
                clear hK K o8 o9 y9 ap9 g9 hm9 ht9 hrun9 hm8 g8 o7 y7 g7 ha7 hrow hor hgr hqn hq0 hHeld
                refine wpAnyH_done (by kernel_rfl) ?_ _
                go_wp2_with fail
                go_roundw
                case rel => exact ⟨k + 1, mp, _, _, fp4, _, rfl, rfl, hlt, HO9.out, HY9.out, HAP9.out, AM.out.push HWJ.out, W1.out, fun j => by
                  have h1 := HHL.out j
                  have h2 := HHL.out i0
                  by_cases hj : j = i0
                  · rw [if_pos hj, List.length_append, List.length_singleton]; omega
                  · rw [if_neg hj]; omega, by rw [Dk.write_len]; exact HNL.out⟩
                case measure => simp [intOf]; omega
              · go_simp
                have ha7 := heap_alloc_new w6 (.cells #[.string sd] 9)
                have hb7 : Below w6.heap.size w6 (w6.alloc (.cells #[.string sd] 9)) := (Below.refl _ w6).alloc (Nat.le_refl _) _
                have o7 := o6.low hb7
                have y7 := y6.below hb7
                have g7 := (hb7.block P (Sm.lt_of g6)).trans g6
                generalize w6.alloc (.cells #[.string sd] 9) = w7 at *
                generalize w6.heap.size = N7 at *
                refine hK.out _ _ g7 (fun hHeld => ?_)
                clear hK K hb7
                refine wpAnyH_ready (rs := [6]) (by kernel_rfl) (by simp) ?_
                refine (AllReadyH.cons (o := ⟨some 67, _, _, _, _, _⟩) rfl (fun K hK => ?_) AllReadyH.nil)
                rw [if_pos (by simp [Region.wanted])]
                refine Dk.wp_lookup_run 59 (.tmp 64) (.tmp 66) rfl (mv := .map (some mp)) (kv := .int .i64 (i0 : Int)) rfl rfl (y7.map.look Try.underlying3 Try.underlying59 (Dk.zeroStrs _) HIN.out HNR.out.2) ?_
                refine hK.out _ _ g7 (fun hHeld => ?_)
                clear hK K
                refine wpAnyH_ready (rs := [10]) (by kernel_rfl) (by simp) ?_
                refine (AllReadyH.cons (o := ⟨some 71, _, _, _, _, _⟩) rfl (fun K hK => ?_) AllReadyH.nil)
                rw [if_pos (by simp [Region.wanted])]
                refine Dk.wp_append_text (.tmp 67) (.tmp 70) rfl (B := W.heap.size) (v := (F i0).getD (.slice none 0 0)) (l := H i0) rfl (y7.own0 HIN.out) (b := sd) (N := N7) rfl (Sm.cells_of ha7 0 _ rfl) (by have := HHL.out i0; omega) o7.size ?_
                intro A' c' w8 hrow hor
                obtain ⟨q0, hq0, hqm, hqB, hgr, hqn⟩ := y7.after HIN.out hrow hor
                have hm8 := y7.map.block (hgr.block mp y7.map.lt (fun e => hqm (Option.some.inj e).symm))
                have hPq : P ≠ q0 := fun e => by
                  rcases hqn with h | h
                  · exact HNM.out (e ▸ h)
                  · have := Sm.lt_of g7; omega
                have hPm : P ≠ mp := fun e => HNM.out (.inl e)
                have g8 := (hgr.block P (Sm.lt_of g7) (fun e => hPq (Option.some.inj e))).trans g7
                have o8 := o7.other (q := Dk.mine mp N F) (Dk.Turned.of_grown hgr hqn) AP4.out y7.high
                refine hK.out _ _ g8 (fun hHeld => ?_)
                clear hK K
                refine wpAnyH_ready (rs := [11]) (by kernel_rfl) (by simp) ?_
                refine (AllReadyH.cons (o := ⟨none, _, _, _, _, _⟩) rfl (fun K hK => ?_) AllReadyH.nil)
                obtain ⟨w9, hrun9, hm9, ht9⟩ := hm8.store Try.underlying3 Try.underlying59 HIN.out HNR.out.2 (.slice A' (H i0 ++ [sd]).length c')
                have y9 := y7.push HIN.out hrow hor hm9 ht9
                have o9 := o8.other (q := Dk.mine mp N F) (Dk.Turned.of_map ht9 (.inl (.inl rfl))) AP4.out y7.high
                have g9 := (ht9.grown.block P (Sm.lt_of g8) (fun e => hPm (Option.some.inj e))).trans g8
                have ap9 : ∀ b, fp4 b → ¬ Dk.mine mp N (fun j => if j = i0 then some (.slice A' (H i0 ++ [sd]).length c') else F j) b := fun b hb hm => by
                  rcases hm with e | ⟨j, v, hj, hv, hg⟩
                  · exact AP4.out b hb (.inl e)
                  · by_cases hji : j = i0
                    · simp only [if_pos hji] at hv
                      rw [← Option.some.inj hv, hq0] at hg
                      have e := Option.some.inj hg
                      rcases hqn with h | h
                      · exact AP4.out b hb (e ▸ h)
                      · have := o7.lt b hb; omega
                    · simp only [if_neg hji] at hv
                      exact AP4.out b hb (.inr ⟨j, v, hj, hv, hg⟩)
                have HO9 := Lib.hid o9
                have HY9 := Lib.hid y9
                have HAP9 := Lib.hid ap9
                rw [if_pos (by simp [Region.wanted])]
                refine Dk.wp_mapUpdate_run 59 (.tmp 61) (.tmp 63) (.tmp 71) rfl (mv := .map (some mp)) (kv := .int .i64 (i0 : Int)) (vv := .slice A' (H i0 ++ [sd]).length c') rfl rfl rfl hrun9 ?_
                refine hK.out _ _ g9 (fun hHeld => ?_)
                clear hK K o8 o9 y9 ap9 g9 hm9 ht9 hrun9 hm8 g8 o7 y7 g7 ha7 hrow hor hgr hqn hq0 hHeld
                refine wpAnyH_done (by kernel_rfl) ?_ _
                go_wp2_with fail
                go_roundw
                case rel => exact ⟨k + 1, mp, _, _, fp4, _, rfl, rfl, hlt, HO9.out, HY9.out, HAP9.out, AM.out.push HWJ.out, W1.out, fun j => by
                  have h1 := HHL.out j
                  have h2 := HHL.out i0
                  by_cases hj : j = i0
                  · rw [if_pos hj, List.length_append, List.length_singleton]; omega
                  · rw [if_neg hj]; omega, by rw [Dk.write_len]; exact HNL.out⟩
                case measure => simp [intOf]; omega
          · have HZ := Lib.hid hz
            clear hz
            refine wp_region_held_drew (S := (fun w' => w'.heap[P]? = some (.cells cs.toArray 50 (0, 0)))) (by kernel_rfl) (by exact HGG.out) (fun hHeld => ?_)
            refine wpAnyH_take (i := 0) (oi := ⟨some 54, _, _, _, _, _⟩) (v := .pointer (some ⟨r, 0, none⟩)) rfl (by kernel_rfl) (by kernel_rfl) (by kernel_rfl) (fun _ _ _ h => h) (Or.inl ⟨by rfl, ?_⟩) (by assumption) ?_
            · intro w hSw; (try dsimp only at hSw); go_simp
            simp only [Act.put, List.setIfInBounds_toArray, List.set_cons_zero, List.set_cons_succ]
            refine wpAnyH_take (i := 1) (oi := ⟨some 55, _, _, _, _, _⟩) (v := .pointer (some ⟨P, 1, none⟩)) rfl (by kernel_rfl) (by kernel_rfl) (by kernel_rfl) (fun _ _ _ h => h) (Or.inl ⟨by rfl, ?_⟩) (by assumption) ?_
            · intro w hSw; (try dsimp only at hSw); go_simp
            simp only [Act.put, List.setIfInBounds_toArray, List.set_cons_zero, List.set_cons_succ]
            refine wpAnyH_take (i := 2) (oi := ⟨some 56, _, _, _, _, _⟩) (v := .int .i64 a.i) rfl (by kernel_rfl) (by kernel_rfl) (by kernel_rfl) (fun _ _ _ h => h) (Or.inl ⟨by rfl, ?_⟩) (by assumption) ?_
            · intro w hSw; (try dsimp only at hSw); have s1 := Sm.cells_of hSw 1 _ HC1.out; go_simp
            simp only [Act.put, List.setIfInBounds_toArray, List.set_cons_zero, List.set_cons_succ]
            refine wpAnyH_take (i := 3) (oi := ⟨some 57, _, _, _, _, _⟩) (v := .agg cs.toArray) rfl (by kernel_rfl) (by kernel_rfl) (by kernel_rfl) (fun _ _ _ h => h) (yieldsIf_load_mid (by rfl) _ _ rfl _ _ rfl cs _ (fun w hS => Sm.range_row hS) Try.underlying50 rfl HCL.out) (by assumption) ?_
            simp only [Act.put, List.setIfInBounds_toArray, List.set_cons_zero, List.set_cons_succ]
            refine wpAnyH_ready (rs := [4]) (by kernel_rfl) (by simp) ?_
            refine (AllReadyH.cons (o := ⟨some 58, _, _, _, _, _⟩) rfl (fun K hK => ?_) AllReadyH.nil)
            go_simp
            refine (DA.out w1.drew).mono ?_
            rintro e w3 ⟨rfl, hb3⟩
            have kb3 := (Below.refl w1.heap.size w1).drew.trans hb3
            have o3 := O1.out.low (w' := w3) kb3
            have y3 := Y1.out.below (w' := w3) kb3
            have hG3 : w3.heap[P]? = some (.cells cs.toArray 50 (0, 0)) := (hb3.block P (Sm.lt_of HGG.out)).trans HGG.out
            refine hK.out _ _ hG3 (fun hHeld => ?_)
            clear hK K hb3 kb3
            refine wpAnyH_ready (rs := [5]) (by kernel_rfl) (by simp) ?_
            refine (AllReadyH.cons (o := ⟨some 59, _, _, _, _, _⟩) rfl (fun K hK => ?_) AllReadyH.nil)
            go_simp
            refine (Dk.write_to o3 HWK.out a.i sd HSD.out rfl rfl).mono ?_
            rintro e w4 ⟨fp4, rfl, st4⟩
            obtain ⟨y4, ap4⟩ := y3.step st4 AP.out
            have hG4 : w4.heap[P]? = some (.cells cs.toArray 50 (0, 0)) := (st4.turned.block P (Sm.lt_of hG3) HNF.out).trans hG3
            have O4 := Lib.hid st4.own
            have Y4 := Lib.hid y4
            have AP4 := Lib.hid ap4
            have HG4 := Lib.hid hG4
            refine hK.out _ _ hG4 (fun hHeld => ?_)
            clear hK K o3 y3 y4 ap4 hG3 hG4 st4 hHeld
            refine wpAnyH_take (i := 6) (oi := ⟨some 60, _, _, _, _, _⟩) (v := .bool false) rfl (by kernel_rfl) (by kernel_rfl) (by kernel_rfl) (fun _ _ _ h => h) (Or.inl ⟨by rfl, ?_⟩) (by assumption) ?_
            · intro w hSw; (try dsimp only at hSw); have hcb : ((Dk.write M1 a.i (Dk.data a)).2 == 0) = false := beq_eq_false_iff_ne.2 HZ.out; go_simp
            simp only [Act.put, List.setIfInBounds_toArray, List.set_cons_zero, List.set_cons_succ]
            refine wpAnyH_done (by kernel_rfl) ?_ _
            go_wp2_with fail
            go_roundw
            case rel => exact ⟨k + 1, mp, F, H, fp4, _, rfl, rfl, hlt, O4.out, Y4.out, AP4.out, AM.out.same (Dk.write_some HZ.out), W1.out, fun j => Nat.le_succ_of_le (HHL.out j), by rw [Dk.write_len]; exact HNL.out⟩
            case measure => simp [intOf]; omega
        · by_cases e1 : a.d = 1
          · rw [e1] at d0
            by_cases hz : (Dk.sync M1).2 = 0
            · have HZ := Lib.hid hz
              clear hz
              go_wp2_with fail
              refine (Dk.sync_to O1.out rfl HZ.out).mono ?_
              rintro e w4 ⟨fp4, rfl, st4⟩
              have o4 := st4.own
              clear d0 d2 st4
              have hmk := MK.out
              have y5 : Dk.May (w4.alloc (.map #[] 0)) W.heap.size w4.heap.size N (fun _ => none) (fun _ => []) := Dk.May.made w4 o4.size
              have ap5 : ∀ k, fp4 k → ¬ Dk.mine w4.heap.size N (fun _ => none) k := fun k hk hm => by
                rcases hm with e | ⟨i, v, hi, hv, -⟩
                · have := o4.lt k hk; omega
                · cases hv
              have o5 := o4.low (w' := w4.alloc (.map #[] 0)) ((Below.refl _ w4).alloc (Nat.le_refl _) _)
              have HO5 := Lib.hid o5
              have HY5 := Lib.hid y5
              have HAP5 := Lib.hid ap5
              clear o4 o5 y5 ap5
              go_wp2_with fail
              go_roundw
              case rel => exact ⟨k + 1, _, _, _, fp4, _, rfl, rfl, hlt, HO5.out, HY5.out, HAP5.out, Dk.Among.none (Dk.sync_zero HZ.out), W2.out, fun j => Nat.zero_le _, by rw [Dk.sync_len]; exact HNL.out⟩
              case measure => simp [intOf]; omega
            · have HZ := Lib.hid hz
              have hcb : ((Dk.sync M1).2 == 0) = false := beq_eq_false_iff_ne.2 hz
              go_wp2_with fail
              refine (Dk.sync_to O1.out rfl rfl).mono ?_
              rintro e w4 ⟨fp4, rfl, st4⟩
              obtain ⟨y4, ap4⟩ := Y1.out.step st4 AP.out
              have HO4 := Lib.hid st4.own
              have HY4 := Lib.hid y4
              have HAP4 := Lib.hid ap4
              clear d0 d2 st4 y4 ap4
              go_wp2_with fail
              go_roundw
              case rel => exact ⟨k + 1, mp, F, H, fp4, _, rfl, rfl, hlt, HO4.out, HY4.out, HAP4.out, AM.out.same (Dk.sync_some HZ.out), W2.out, fun j => Nat.le_succ_of_le (HHL.out j), by rw [Dk.sync_len]; exact HNL.out⟩
              case measure => simp [intOf]; omega
          · by_cases e2 : a.d = 2
            · rw [e2] at d0
              go_wp2_with fail
              refine (Dk.fuse_in O1.out a.n HOK.out.n).mono ?_
              rintro e w4 ⟨fp4, rfl, st4⟩
              obtain ⟨y4, ap4⟩ := Y1.out.step st4 AP.out
              have HO4 := Lib.hid st4.own
              have HY4 := Lib.hid y4
              have HAP4 := Lib.hid ap4
              clear d0 d2 st4 y4 ap4
              go_wp2_with fail
              go_roundw
              case rel => exact ⟨k + 1, mp, F, H, fp4, _, rfl, rfl, hlt, HO4.out, HY4.out, HAP4.out, AM.out.same rfl, Nat.le_succ_of_le HWT.out, fun j => Nat.le_succ_of_le (HHL.out j), HNL.out⟩
              case measure => simp [intOf]; omega
            · have f0 : (a.d == 0) = false := beq_eq_false_iff_ne.2 e0
              have f1 : (a.d == 1) = false := beq_eq_false_iff_ne.2 e1
              have f2 : (a.d == 2) = false := beq_eq_false_iff_ne.2 e2
              go_wp2_with fail
              go_roundw
              case rel => exact ⟨k + 1, mp, F, H, fp1, _, rfl, rfl, hlt, O1.out, Y1.out, AP.out, AM.out, Nat.le_succ_of_le HWT.out, fun j => Nat.le_succ_of_le (HHL.out j), HNL.out⟩
              case measure => simp [intOf]; omega
      · have hlt1 : ¬ (k : Int) < l.length := by omega
        have HWK : Hid (Dk.waits M1 ≤ 1099511627776) := by show _ ≤ _; have := HWT.out; omega
        have HOKM := Lib.hid OW.out.disk.ok
        go_wp2_with fail
        refine (Dk.twin_in OW.out HWK.out).mono ?_
        rintro e w5 ⟨rt, ft, rfl, t5, o5, gt, at5, k5⟩
        have y5 := YW.out.below k5
        have apt : ∀ b, ft b → ¬ Dk.mine mp N F b := fun b hb hm => by have := gt b hb; have := YW.out.lt b hm; omega
        clear gt k5
        go_wp2_with fail
        refine (Dk.crash_in t5 HWK.out (Dk.IntsAt.nil _) (Dk.Off.nil _)).mono ?_
        rintro e w6 ⟨ft6, rfl, st6⟩
        obtain ⟨o6, a6⟩ := o5.beside st6 (fun b h1 h2 => at5 b h2 h1)
        obtain ⟨y6, apt6⟩ := y5.step st6 apt
        have t6 := st6.own
        clear st6 o5 y5 apt t5 at5
        go_wp2_with fail
        obtain ⟨hki6, hko6⟩ := o6.off HKL.out rfl
        refine (Dk.crash_in o6 HWK.out hki6 hko6).mono ?_
        rintro e w7 ⟨fp7, rfl, st7⟩
        obtain ⟨t7, a7⟩ := t6.beside st7 (fun b h1 h2 => a6 b h2 h1)
        obtain ⟨y7, -⟩ := y6.step st7 AP.out
        have HO7 := Lib.hid st7.own
        have HT7 := Lib.hid t7
        have HY7 := Lib.hid y7
        clear st7 o6 y6 t6 a6 a7 t7 y7 hki6 hko6 apt6 OW YW AP
        have hlen : ∀ kp, (Dk.crash M1 kp).lasts.length = N := fun kp => by rw [← HNL.out]; simp [Dk.crash]
        have HLEN := Lib.hid hlen
        clear hlen
        go_wp2
        go_loopw [13] (fun s13 wr => ∃ i : Nat, s13 = .int .i64 i ∧ i ≤ N ∧ Dk.Own W.heap.size W wr r fp7 (Dk.crash M1 kl) ∧ Dk.Own W.heap.size W wr rt ft6 (Dk.crash M1 []) ∧ Dk.May wr W.heap.size mp N F H) (fun s13 _ => N - (intOf s13).toNat)
        case atStart => exact ⟨0, rfl, Nat.zero_le _, HO7.out, HT7.out, HY7.out⟩
        case round =>
          clear HO7 HT7 HY7 hbl
          obtain ⟨i, rfl, hi, ho, ht, hy⟩ := hrel
          have HO := Lib.hid ho
          have HT := Lib.hid ht
          have HY := Lib.hid hy
          clear ho ht hy
          have SEC : Hid (∀ wx, Dk.Own W.heap.size W wx r fp7 (Dk.crash M1 kl) → Calls Try.prog 29 #[.pointer (some ⟨r, 0, none⟩)] wx fun e w' => e = .returned (.int .i64 (N : Nat)) ∧ wx = w') := fun wx h => by
            have q := Dk.sectors_in h
            rw [HLEN.out] at q; exact q
          go_wp2_with fail
          refine (SEC.out _ HO.out).mono ?_
          rintro e w' ⟨rfl, rfl⟩
          by_cases hin : i < N
          · have hii : (i : Int) < (N : Int) := by omega
            have hsuc : IntKind.i64.wrap ((i : Int) + 1) = ((i + 1 : Nat) : Int) := by have := HNR.out; simp [IntKind.wrap, IntKind.bits, IntKind.signed]; omega
            obtain ⟨sx, hsx⟩ : ∃ s : ByteArray, s = ⟨(Dk.kept M1 kl i).toArray⟩ := ⟨_, rfl⟩
            obtain ⟨sw, hsw⟩ : ∃ s : ByteArray, s = ⟨(Dk.kept M1 [] i).toArray⟩ := ⟨_, rfl⟩
            have hsz : sx.size = 64 := by
              have h := HOKM.out.kept kl (i := i) (by rw [HNL.out]; exact hin)
              rw [hsx]; exact h
            have hszI : (sx.size : Int) = 64 := by omega
            have hrd : ∀ kp, Dk.readOf (Dk.crash M1 kp) (i : Int) = (Dk.kept M1 kp i, 0) := fun kp => Dk.read_kept (by rw [HNL.out]; exact hin)
            have RD : Hid (∀ wx, Dk.Own W.heap.size W wx r fp7 (Dk.crash M1 kl) → Calls Try.prog 15 #[.pointer (some ⟨r, 0, none⟩), .int .i64 (i : Int)] wx fun e w' => e = .returned (.tuple #[.string sx, .int .i64 0]) ∧ Dk.Own W.heap.size W w' r fp7 (Dk.crash M1 kl) ∧ Below wx.heap.size wx w') := fun wx h => Dk.read_to h i (by rw [hsx]) (hrd kl)
            have RT : Hid (∀ wx, Dk.Own W.heap.size W wx rt ft6 (Dk.crash M1 []) → Calls Try.prog 15 #[.pointer (some ⟨rt, 0, none⟩), .int .i64 (i : Int)] wx fun e w' => e = .returned (.tuple #[.string sw, .int .i64 0]) ∧ Dk.Own W.heap.size W w' rt ft6 (Dk.crash M1 []) ∧ Below wx.heap.size wx w') := fun wx h => Dk.read_to h i (by rw [hsw]) (hrd [])
            have hch : (sx.toList == sw.toList) = true ∨ ∃ t ∈ H i, t = sx := by
              rcases Dk.among_kept AM.out kl (i := i) with e | ⟨t, ht, e⟩
              · exact .inl (Dk.str_eq (by rw [hsx, hsw, e, Dk.kept_none]))
              · exact .inr ⟨t, ht, by rw [hsx, ← e]⟩
            have HCH := Lib.hid hch
            clear hsx hsw hsz hrd hch
            go_wp2_with fail
            refine (RD.out _ HO.out).mono ?_
            rintro e w8 ⟨rfl, o8, k8⟩
            have t8 := HT.out.low k8
            have y8 := HY.out.below k8
            clear k8
            go_wp2_with fail
            refine (RT.out _ t8).mono ?_
            rintro e w9 ⟨rfl, t9, k9⟩
            have o9 := o8.low k9
            have y9 := y8.below k9
            have HO9 := Lib.hid o9
            have HT9 := Lib.hid t9
            have HY9 := Lib.hid y9
            clear k9 o8 t8 y8 o9 t9 y9
            go_wp2_with fail
            obtain ⟨Av, cv, hv⟩ := Sm.own_shape (HY9.out.own0 hin)
            have hlk := HY9.out.map.look (t := 59) Try.underlying3 Try.underlying59 (Dk.zeroStrs _) hin HNR.out.2
            have hown := HY9.out.own0 hin
            rw [hv] at hlk hown
            have hl2 : (H i).length ≤ 200 := by have := HHL.out i; omega
            have HOWN := Lib.hid hown
            clear hv hown
            go_loopw [18, 19] (fun s18 s19 wq => ∃ (j : Nat) (β : Bool), s19 = .int .i64 j ∧ j ≤ (H i).length ∧ s18 = .bool β ∧ (β = true ∨ ∃ t ∈ (H i).drop j, t = sx) ∧ w9 = wq) (fun _ s19 _ => (H i).length - (intOf s19).toNat)
            case atStart => exact ⟨0, _, rfl, Nat.zero_le _, rfl, by rw [List.drop_zero]; exact HCH.out, rfl⟩
            case round =>
              obtain ⟨j, β, rfl, hj, rfl, hβ, rfl⟩ := hrel
              have HB := Lib.hid hβ
              clear hβ
              by_cases hjl : j < (H i).length
              · have hji : (j : Int) < ((H i).length : Int) := by omega
                have hsuj : IntKind.i64.wrap ((j : Int) + 1) = ((j + 1 : Nat) : Int) := by simp [IntKind.wrap, IntKind.bits, IntKind.signed]; omega
                cases β with
                | true =>
                  go_wp2
                  go_roundw
                  case rel => exact ⟨j + 1, true, rfl, hjl, rfl, .inl rfl, by trivial⟩
                  case measure => simp [intOf]; omega
                | false =>
                  obtain ⟨t, ht⟩ : ∃ t, t = (H i)[j] := ⟨_, rfl⟩
                  obtain ⟨g, rfl, hc⟩ := Dk.own_cell HOWN.out (j := j) hjl
                  have x0 : w9.cell? ⟨g, j, none⟩ = some (.string t) := by rw [hc, ht]; simp [hjl]
                  have hdr : (H i).drop j = t :: (H i).drop (j + 1) := by rw [ht]; exact List.drop_eq_getElem_cons hjl
                  have HDR := Lib.hid hdr
                  obtain ⟨γ, hγ⟩ : ∃ γ, γ = (sx.toList == t.toList) := ⟨_, rfl⟩
                  have hγ2 : γ = true ∨ ∃ u ∈ (H i).drop (j + 1), u = sx := by
                    rcases HB.out with h | ⟨u, hu, e⟩
                    · cases h
                    · rw [hdr] at hu
                      rcases List.mem_cons.1 hu with h | h
                      · exact .inl (by rw [hγ, ← h, e]; exact Dk.str_eq rfl)
                      · exact .inr ⟨u, h, e⟩
                  have HG2 := Lib.hid hγ2
                  have hγ' := hγ.symm
                  clear ht hc hdr hγ2 hγ
                  go_wp2
                  go_roundw
                  case rel => exact ⟨j + 1, γ, rfl, hjl, rfl, HG2.out, by trivial⟩
                  case measure => simp [intOf]; omega
              · have hji : ¬ (j : Int) < ((H i).length : Int) := by omega
                have hβ : β = true := by
                  rcases HB.out with h | ⟨u, hu, e⟩
                  · exact h
                  · rw [List.drop_of_length_le (by omega)] at hu; cases hu
                subst hβ
                go_wp2
                go_roundw
                case rel => exact ⟨i + 1, rfl, hin, HO9.out, HT9.out, HY9.out⟩
                case measure => simp [intOf]; omega
          · have hii : ¬ (i : Int) < (N : Int) := by omega
            go_wp2_with fail
            refine (Dk.waits_to HO.out (n := 0) (Dk.waits_crash _ _) (by omega)).mono ?_
            rintro e w8 ⟨rfl, o8, k8⟩
            have t8 := HT.out.low k8
            go_wp2_with fail
            refine (Dk.down_to o8 (b := false) rfl).mono ?_
            rintro e w' ⟨rfl, rfl⟩
            go_wp2_with fail
            refine (Dk.down_to t8 (b := false) rfl).mono ?_
            rintro e w' ⟨rfl, rfl⟩
            go_wp2
            go_ret
            exact ⟨rfl, o8.below⟩
end Go.Proofs.Ytleknlkbaeognaa
