/-
  RingCounts: what one ring wraps bears its boot, and the numbers 0, 1, 2 and so on.
-/
import Derived.Test.YtapogiihkbjppaaGreatDoorRiActs
import Derived.Test.YtapogiihkbjppaaGreatDoorRiAwake
import Derived.Test.YtapogiihkbjppaaGreatDoorSeRead
namespace Go.Proofs.YtapogiihkbjppaaGreatDoor
open Go.RowKit
namespace Ri
theorem listAt.get {w w' : World} {A : Option Addr} {l : List Ac} (h : listAt w A l) (k : Below w.heap.size w w') (j : Nat) (hj : j < l.length) : ∃ b off, A = some ⟨b, off, none⟩ ∧ b < w.heap.size ∧ actAt w' b (off + j * 5) l[j] := by
  rcases h with rfl | ⟨b, off, rfl, hb, hi⟩
  · simp at hj
  · exact ⟨b, off, rfl, hb, (hi j hj).below k hb⟩
theorem below_drewN {w w' : World} {N : Nat} (h : Below N w w') (k : Nat) : Below N w (w'.drewN k) := ⟨h.os, h.tape, h.output, h.size, h.block⟩
theorem listAt.below {w w' : World} {A : Option Addr} {l : List Ac} (h : listAt w A l) (k : Below w.heap.size w w') : listAt w' A l := by
  rcases h with rfl | ⟨b, off, rfl, hb, hi⟩
  · exact .inl rfl
  · exact .inr ⟨b, off, rfl, Nat.lt_of_lt_of_le hb k.size, hi.below k hb⟩
end Ri

set_option maxRecDepth 100000 in
set_option maxHeartbeats 4000000 in
theorem ringCounts_some {w : World} (hH : Sm.HAt w) (hK : Sm.KAt w) (hsz : 1 < w.heap.size) (s : ByteArray) (hs : s.size ≤ 300) (boot : Nat) (hb : boot < 2 ^ 32) (A : Option Addr) (c : Nat) (l : List Ri.Ac) (hok : ∀ a ∈ l, a.Ok) (hit : Ri.listAt w A l) (hF : Ri.Fair l) :
    Calls Tryz.prog 8 #[.string s, .int .u32 boot, .slice A l.length c] w fun e w' => e = .returned (.bool true) ∧ Below w.heap.size w w' := by
  have AW := Lib.hid (awake6_any hH hK hsz)
  have HH := Lib.hid hH
  have HK := Lib.hid hK
  have HIT : Hid (∀ wx : World, Below w.heap.size w wx → ∀ j (hj : j < l.length), ∃ b off, A = some ⟨b, off, none⟩ ∧ b < w.heap.size ∧ Ri.actAt wx b (off + j * 5) l[j]) := fun wx k j hj => hit.get k j hj
  have GR : Hid (∀ wx : World, Below w.heap.size w wx → Calls Tryz.prog 17 #[.slice A l.length c] wx fun e w' => e = .returned (.bool false) ∧ wx = w') := fun wx k => great6_any wx A c l (by have := hF.1; omega) hok (hit.below k) false (by simp [hF])
  have hz1 := (zero_of_info Se.zeroEnv).1
  have hzs : Se.zero.cells.toArray.size = 36 := Se.cells_length _ (by rfl)
  obtain ⟨z0, hz0⟩ : ∃ z, z = Se.zero.cells.toArray := ⟨_, rfl⟩
  rw [← hz0] at hz1 hzs
  obtain ⟨N, hN⟩ : ∃ N, N = w.heap.size := ⟨_, rfl⟩
  have hN1 : 1 < N := by omega
  rw [← hN] at AW HIT GR ⊢
  have HN := Lib.hid hN
  have hlen := hF.1
  have HSM := Lib.hid hF.2
  have NW : Hid (∀ wx : World, Calls Tryz.prog 10 #[.string s, .int .i64 0, .int .u32 boot] wx (Ri.NewPost wx s boot 0)) := fun wx => rgNew_any wx s (by omega) boot 0 (by decide)
  have CU : Hid (∀ (wx : World) (r m n : Nat) (cur : Int), Ri.RingAt wx r m s boot n cur → Calls Tryz.prog 16 #[.pointer (some ⟨r, 0, none⟩)] wx fun e w' => e = .returned (.int .i64 cur) ∧ wx = w') := fun wx r m n cur h => rgCurrent_any h
  have CO : Hid (∀ (wx : World) (r m n : Nat) (cur v : Int), v = n → Ri.RingAt wx r m s boot n cur → Calls Tryz.prog 13 #[.pointer (some ⟨r, 0, none⟩)] wx fun e w' => e = .returned (.tuple #[.int .u32 boot, .int .u64 v]) ∧ ∃ k, w' = wx.drewN k) := fun wx r m n cur v hv h => by
    rw [hv]; exact rgCount_any h
  have g1 : ¬ (300 : Int) < s.size := by omega
  clear hN hH hK hsz hz0 hok hit hF
  go_enter Tryz.func8, Tryz.ntmps8
  go_wp2_with fail
  refine (AW.out).mono ?_
  rintro e w1 ⟨rfl, b1⟩
  have B1 := Lib.hid b1
  have s1 := b1.size
  clear b1 AW
  go_wp2_with fail
  refine (GR.out _ B1.out).mono ?_
  rintro e w1b ⟨rfl, rfl⟩
  go_wp2_with fail
  refine (NW.out _).mono ?_
  rintro e w2 ⟨r, m, rfl, ra2, hr, hm, b2⟩
  have RA2 := Lib.hid ra2
  have B2 := Lib.hid (B1.out.trans (b2.mono (by have := HN.out; omega)))
  have hNr : N ≤ r := by have := HN.out; omega
  have hNm : N ≤ m := by have := HN.out; omega
  clear ra2 b2 NW B1 GR hr hm s1
  go_wp2_with fail
  go_loopw [9, 10] (fun n i wr => ∃ k nn : Nat, ∃ cur : Int, ∃ wk : World, wk = wr ∧ k ≤ l.length ∧ i = .int .i64 k ∧ n = .int .u64 nn ∧ nn ≤ k ∧ 0 ≤ cur ∧ cur ≤ 1048576 ∧ Ri.RingAt wk r m s boot nn cur ∧ Below N w wk) (fun _ i _ => l.length - (intOf i).toNat)
  case atStart => exact ⟨0, 0, 0, _, rfl, by omega, rfl, rfl, by omega, by omega, by omega, RA2.out, B2.out⟩
  case round =>
    clear RA2 B2
    obtain ⟨k, nn, cur, wk, rfl, hk, rfl, rfl, hnk, hc0, hc1, ra, bk⟩ := hrel
    have RA := Lib.hid ra
    have BK := Lib.hid bk
    have hNs : N ≤ wk.heap.size := by have := bk.size; have := HN.out; omega
    clear ra bk
    by_cases hlt : k < l.length
    · have hlt1 : (k : Int) < l.length := by omega
      obtain ⟨b, off, rfl, hbN, c0, c1, c2, c3, -⟩ := HIT.out _ BK.out k hlt
      have HB := Lib.hid hbN
      clear hbN
      obtain ⟨hsa, hst0, hsb⟩ := HSM.out k hlt
      obtain ⟨x, hx⟩ : ∃ x, x = l[k] := ⟨_, rfl⟩
      rw [← hx] at c0 c1 c2 c3 hsa hst0 hsb
      have HX := Lib.hid hx
      clear hx
      by_cases d0 : x.d = 0
      · have e0 : (x.d == 0) = true := by rw [d0]; rfl
        clear c3
        by_cases ht : x.t.size ≤ 8192
        · have ht3 : x.t.size ≤ 300 := by omega
          obtain ⟨bw, hbw⟩ : ∃ x' : ByteArray, x' = ⟨(Ri.wrap s.data.toList cur boot nn x.a.data.toList x.t.data.toList).1.toArray⟩ := ⟨_, rfl⟩
          have htl : x.t.data.toList.length = x.t.size := by rw [Array.length_toList]; rfl
          obtain ⟨en, hen⟩ : ∃ e, e = Se.sealed (Ri.key s.data.toList cur) cur boot nn x.a.data.toList x.t.data.toList := ⟨_, rfl⟩
          have hrd : Se.read bw = (en, 0) := by rw [hbw, hen]; exact Ri.read_wrap ⟨hc0, hc1⟩ hb (by omega) (by omega)
          have hbws : bw.size ≤ 9000 := by
            rw [hbw]
            show (List.toArray _).size ≤ _
            rw [List.size_toArray]; exact Ri.wrap_length ⟨hc0, hc1⟩ hb (by omega)
          have oke := (Se.sealed_ok (k := Ri.key s.data.toList cur) (boot := boot) (n := nn) (about := x.a.data.toList) (t := x.t.data.toList) ⟨hc0, hc1⟩ hb (by omega) (by omega)).1
          rw [← hen] at oke
          obtain ⟨ce, hce⟩ : ∃ c, c = en.cells := ⟨_, rfl⟩
          have hcel : ce.length = 36 := by rw [hce]; exact Se.cells_length _ oke.tag
          have hces : ce.toArray.size = 36 := by rw [List.size_toArray, hcel]
          have hceo : ce.toArray.all (·.oneCell') = true := by rw [hce]; exact Se.cells_one _
          have ce0 : ce.toArray[0]? = some (.int .i64 cur) := by rw [hce, hen]; rfl
          have ce1 : ce.toArray[1]? = some (.int .u32 boot) := by rw [hce, hen]; rfl
          have ce2 : ce.toArray[2]? = some (.int .u64 nn) := by rw [hce, hen]; rfl
          have RDC : Hid (∀ wx : World, Calls Tryz.prog 24 #[.string bw] wx fun e w' => e = .returned (.tuple #[.agg ce.toArray, .int .i64 0]) ∧ Below wx.heap.size wx w') := fun wx => by
            have g := read5_any wx bw (by omega)
            rw [hrd] at g
            rw [hce]; exact g
          have WR : Hid (∀ wx : World, Sm.HAt wx → Sm.KAt wx → Ri.RingAt wx r m s boot nn cur → Calls Tryz.prog 11 #[.pointer (some ⟨r, 0, none⟩), .string x.a, .string x.t] wx fun e w' => e = .returned (.tuple #[.string bw, .int .i64 0]) ∧ Ri.RingAt w' r m s boot (nn + 1) cur ∧ Ri.Turned wx w' r m) := fun wx h1 h2 h3 => by
            rw [hbw]
            exact rgWrap_any h1 h2 (by omega) h3 ⟨hc0, hc1⟩ hb (by omega) x.a x.t (by omega) ht
          have hu : IntKind.u64.wrap ((nn : Int) + 1) = (nn : Int) + 1 := by rw [IntKind.wrap_u64]; omega
          clear hbw hen hrd oke hce hcel htl hst0 ht
          go_wp2_with fail
          refine (CU.out _ r m nn cur RA.out).mono ?_
          rintro e w4 ⟨rfl, hw4⟩
          rw [← hw4]
          clear hw4
          go_upto_region 15 with (fail)
          have S1 : Hid (wk.drew.cell? ⟨b, off + k * 5 + 1, none⟩ = some (.string x.a)) := c1
          have S2 : Hid (wk.drew.cell? ⟨b, off + k * 5 + 2, none⟩ = some (.string x.t)) := c2
          have RD := Lib.hid RA.out.drew
          have BD := Lib.hid BK.out.drew
          have hNd : N ≤ wk.drew.heap.size := hNs
          refine wp_region_held_drew (S := fun w' => w'.cell? ⟨b, off + k * 5 + 1, none⟩ = some (.string x.a) ∧ w'.cell? ⟨b, off + k * 5 + 2, none⟩ = some (.string x.t)) (by kernel_rfl) ⟨S1.out, S2.out⟩ (fun hHeld => ?_)
          generalize wk.drew = W0 at *
          refine wpAnyH_take (i := 0) (oi := ⟨some 51, _, _, _, _, _⟩) (v := .pointer (some ⟨r, 0, none⟩)) rfl (by kernel_rfl) (by kernel_rfl) (by kernel_rfl) (fun _ _ _ h => h) (Or.inl ⟨by rfl, ?_⟩) (by assumption) ?_
          · intro w hSw; (try dsimp only at hSw); go_simp
          simp only [Act.put, List.setIfInBounds_toArray, List.set_cons_zero, List.set_cons_succ]
          refine wpAnyH_take (i := 1) (oi := ⟨some 52, _, _, _, _, _⟩) (v := .slice (some ⟨b, off, none⟩) l.length c) rfl (by kernel_rfl) (by kernel_rfl) (by kernel_rfl) (fun _ _ _ h => h) (Or.inl ⟨by rfl, ?_⟩) (by assumption) ?_
          · intro w hSw; (try dsimp only at hSw); go_simp
          simp only [Act.put, List.setIfInBounds_toArray, List.set_cons_zero, List.set_cons_succ]
          refine wpAnyH_take (i := 2) (oi := ⟨some 53, _, _, _, _, _⟩) (v := .int .i64 k) rfl (by kernel_rfl) (by kernel_rfl) (by kernel_rfl) (fun _ _ _ h => h) (Or.inl ⟨by rfl, ?_⟩) (by assumption) ?_
          · intro w hSw; (try dsimp only at hSw); go_simp
          simp only [Act.put, List.setIfInBounds_toArray, List.set_cons_zero, List.set_cons_succ]
          refine wpAnyH_take (i := 3) (oi := ⟨some 54, _, _, _, _, _⟩) (v := .pointer (some ⟨b, off + k * 5, none⟩)) rfl (by kernel_rfl) (by kernel_rfl) (by kernel_rfl) (fun _ _ _ h => h) (Or.inl ⟨by rfl, ?_⟩) (by assumption) ?_
          · intro w hSw; (try dsimp only at hSw); go_simp
          simp only [Act.put, List.setIfInBounds_toArray, List.set_cons_zero, List.set_cons_succ]
          refine wpAnyH_take (i := 4) (oi := ⟨some 55, _, _, _, _, _⟩) (v := .pointer (some ⟨b, off + k * 5 + 1, none⟩)) rfl (by kernel_rfl) (by kernel_rfl) (by kernel_rfl) (fun _ _ _ h => h) (Or.inl ⟨by rfl, ?_⟩) (by assumption) ?_
          · intro w hSw; (try dsimp only at hSw); go_simp
          simp only [Act.put, List.setIfInBounds_toArray, List.set_cons_zero, List.set_cons_succ]
          refine wpAnyH_take (i := 5) (oi := ⟨some 56, _, _, _, _, _⟩) (v := .string x.a) rfl (by kernel_rfl) (by kernel_rfl) (by kernel_rfl) (fun _ _ _ h => h) (Or.inl ⟨by rfl, ?_⟩) (by assumption) ?_
          · intro w hSw; (try dsimp only at hSw); obtain ⟨q1, q2⟩ := hSw; go_simp
          simp only [Act.put, List.setIfInBounds_toArray, List.set_cons_zero, List.set_cons_succ]
          refine wpAnyH_take (i := 6) (oi := ⟨some 57, _, _, _, _, _⟩) (v := .slice (some ⟨b, off, none⟩) l.length c) rfl (by kernel_rfl) (by kernel_rfl) (by kernel_rfl) (fun _ _ _ h => h) (Or.inl ⟨by rfl, ?_⟩) (by assumption) ?_
          · intro w hSw; (try dsimp only at hSw); go_simp
          simp only [Act.put, List.setIfInBounds_toArray, List.set_cons_zero, List.set_cons_succ]
          refine wpAnyH_take (i := 7) (oi := ⟨some 58, _, _, _, _, _⟩) (v := .int .i64 k) rfl (by kernel_rfl) (by kernel_rfl) (by kernel_rfl) (fun _ _ _ h => h) (Or.inl ⟨by rfl, ?_⟩) (by assumption) ?_
          · intro w hSw; (try dsimp only at hSw); go_simp
          simp only [Act.put, List.setIfInBounds_toArray, List.set_cons_zero, List.set_cons_succ]
          refine wpAnyH_take (i := 8) (oi := ⟨some 59, _, _, _, _, _⟩) (v := .pointer (some ⟨b, off + k * 5, none⟩)) rfl (by kernel_rfl) (by kernel_rfl) (by kernel_rfl) (fun _ _ _ h => h) (Or.inl ⟨by rfl, ?_⟩) (by assumption) ?_
          · intro w hSw; (try dsimp only at hSw); go_simp
          simp only [Act.put, List.setIfInBounds_toArray, List.set_cons_zero, List.set_cons_succ]
          refine wpAnyH_take (i := 9) (oi := ⟨some 60, _, _, _, _, _⟩) (v := .pointer (some ⟨b, off + k * 5 + 2, none⟩)) rfl (by kernel_rfl) (by kernel_rfl) (by kernel_rfl) (fun _ _ _ h => h) (Or.inl ⟨by rfl, ?_⟩) (by assumption) ?_
          · intro w hSw; (try dsimp only at hSw); go_simp
          simp only [Act.put, List.setIfInBounds_toArray, List.set_cons_zero, List.set_cons_succ]
          refine wpAnyH_take (i := 10) (oi := ⟨some 61, _, _, _, _, _⟩) (v := .string x.t) rfl (by kernel_rfl) (by kernel_rfl) (by kernel_rfl) (fun _ _ _ h => h) (Or.inl ⟨by rfl, ?_⟩) (by assumption) ?_
          · intro w hSw; (try dsimp only at hSw); obtain ⟨q1, q2⟩ := hSw; go_simp
          simp only [Act.put, List.setIfInBounds_toArray, List.set_cons_zero, List.set_cons_succ]
          refine wpAnyH_ready (rs := [11]) (by kernel_rfl) (by simp) ?_
          refine (AllReadyH.cons (o := ⟨some 62, _, _, _, _, _⟩) rfl (fun K hK => ?_) AllReadyH.nil)
          go_simp
          refine (WR.out _ (HH.out.low BD.out (by omega)) (HK.out.low BD.out hN1) RD.out).mono ?_
          rintro e w5 ⟨rfl, ra5, tu5⟩
          have RA5 := Lib.hid ra5
          have KS5 : Hid (∀ i v, W0.cell? ⟨b, off + k * 5 + i, none⟩ = some v → w5.cell? ⟨b, off + k * 5 + i, none⟩ = some v) := fun i v h => ((tu5.below hNr hNm hNd).cell (p := ⟨b, off + k * 5 + i, none⟩) HB.out).trans h
          have B5 := Lib.hid (BD.out.trans (tu5.below hNr hNm hNd))
          clear ra5 tu5
          have S3 : Hid (w5.cell? ⟨b, off + k * 5 + 1, none⟩ = some (.string x.a)) := KS5.out 1 _ S1.out
          have S4 : Hid (w5.cell? ⟨b, off + k * 5 + 2, none⟩ = some (.string x.t)) := KS5.out 2 _ S2.out
          clear KS5
          refine hK.out _ _ ⟨S3.out, S4.out⟩ (fun hHeld => ?_)
          clear hK K
          refine wpAnyH_take (i := 12) (oi := ⟨some 50, _, _, _, _, _⟩) (v := .tuple #[.string bw, .int .i64 0]) rfl (by kernel_rfl) (by kernel_rfl) (by kernel_rfl) (fun _ _ _ h => h) (Or.inl ⟨by rfl, ?_⟩) (by assumption) ?_
          · intro w hSw; (try dsimp only at hSw); go_simp
          simp only [Act.put, List.setIfInBounds_toArray, List.set_cons_zero, List.set_cons_succ]
          refine wpAnyH_take (i := 13) (oi := ⟨some 63, _, _, _, _, _⟩) (v := .string bw) rfl (by kernel_rfl) (by kernel_rfl) (by kernel_rfl) (fun _ _ _ h => h) (Or.inl ⟨by rfl, ?_⟩) (by assumption) ?_
          · intro w hSw; (try dsimp only at hSw); go_simp
          simp only [Act.put, List.setIfInBounds_toArray, List.set_cons_zero, List.set_cons_succ]
          refine wpAnyH_take (i := 14) (oi := ⟨some 64, _, _, _, _, _⟩) (v := .int .i64 0) rfl (by kernel_rfl) (by kernel_rfl) (by kernel_rfl) (fun _ _ _ h => h) (Or.inl ⟨by rfl, ?_⟩) (by assumption) ?_
          · intro w hSw; (try dsimp only at hSw); go_simp
          simp only [Act.put, List.setIfInBounds_toArray, List.set_cons_zero, List.set_cons_succ]
          refine wpAnyH_take (i := 15) (oi := ⟨some 12, _, _, _, _, _⟩) (v := .string bw) rfl (by kernel_rfl) (by kernel_rfl) (by kernel_rfl) (fun _ _ _ h => h) (Or.inl ⟨by rfl, ?_⟩) (by assumption) ?_
          · intro w hSw; (try dsimp only at hSw); go_simp
          simp only [Act.put, List.setIfInBounds_toArray, List.set_cons_zero, List.set_cons_succ]
          refine wpAnyH_take (i := 16) (oi := ⟨some 13, _, _, _, _, _⟩) (v := .int .i64 0) rfl (by kernel_rfl) (by kernel_rfl) (by kernel_rfl) (fun _ _ _ h => h) (Or.inl ⟨by rfl, ?_⟩) (by assumption) ?_
          · intro w hSw; (try dsimp only at hSw); go_simp
          simp only [Act.put, List.setIfInBounds_toArray, List.set_cons_zero, List.set_cons_succ]
          refine wpAnyH_done (by kernel_rfl) ?_ _
          go_upto_region 17 with (fail)
          go_wp2_with fail
          refine (RDC.out _).mono ?_
          rintro e w6 ⟨rfl, k6⟩
          have RA6 := Lib.hid (RA5.out.below k6 (Nat.le_refl _))
          have B6 := Lib.hid (B5.out.trans (k6.mono (by have := B5.out.size; have := HN.out; omega)))
          have hst6 : (storeCells ⟨w6.heap.size, 0, none⟩ ce).run Tryz.prog (w6.alloc (.cells z0 74)) = .ok () (w6.alloc (.cells ce.toArray 74)) :=
            run_storeCells_new (P := Tryz.prog) w6 74 z0 _ (Se.infoEnv hces) (by rw [hces]; exact hzs) hceo
          have hN6 : N ≤ w6.heap.size := by have := B6.out.size; have := HN.out; omega
          clear k6 RA5 B5 RDC
          go_upto_region 18 with (fail)
          have E7 := heap_alloc_new w6 (.cells ce.toArray 74)
          have RA7 := Lib.hid (RA6.out.alloc (.cells ce.toArray 74))
          have B7 := Lib.hid (B6.out.alloc hN6 (.cells ce.toArray 74))
          clear hst6 RA6 B6
          generalize w6.alloc (.cells ce.toArray 74) = w7 at *
          obtain ⟨M, hM⟩ : ∃ M, M = w6.heap.size := ⟨_, rfl⟩
          rw [← hM] at E7 ⊢
          have z0c := Sm.cells_of E7 0 _ ce0
          have z1c := Sm.cells_of E7 1 _ ce1
          have z2c := Sm.cells_of E7 2 _ ce2
          clear hM E7 hN6
          go_wp2_with fail
          refine (CO.out _ r m (nn + 1) cur ((nn : Int) + 1) (by omega) RA7.out).mono ?_
          rintro e wq ⟨rfl, kk, rfl⟩
          go_wp2_with fail
          go_roundw
          case rel => exact ⟨k + 1, (nn + 1), cur, _, rfl, by omega, by go_num, by go_num, by omega, by omega, by omega, RA7.out.drewN kk, Ri.below_drewN B7.out kk⟩
          case measure => simp [intOf]; omega
        · have htl : 8192 < x.t.size := by omega
          have WR : Hid (∀ wx : World, Ri.RingAt wx r m s boot nn cur → Calls Tryz.prog 11 #[.pointer (some ⟨r, 0, none⟩), .string x.a, .string x.t] wx fun e w' => e = .returned (.tuple #[.string ⟨#[]⟩, .int .i64 3]) ∧ wx = w') := fun wx h => rgWrap_long h x.a x.t htl
          clear htl hst0 ht
          go_wp2_with fail
          refine (CU.out _ r m nn cur RA.out).mono ?_
          rintro e w4 ⟨rfl, hw4⟩
          rw [← hw4]
          clear hw4
          go_upto_region 15 with (fail)
          have S1 : Hid (wk.drew.cell? ⟨b, off + k * 5 + 1, none⟩ = some (.string x.a)) := c1
          have S2 : Hid (wk.drew.cell? ⟨b, off + k * 5 + 2, none⟩ = some (.string x.t)) := c2
          have RD := Lib.hid RA.out.drew
          have BD := Lib.hid BK.out.drew
          have hNd : N ≤ wk.drew.heap.size := hNs
          refine wp_region_held_drew (S := fun w' => w'.cell? ⟨b, off + k * 5 + 1, none⟩ = some (.string x.a) ∧ w'.cell? ⟨b, off + k * 5 + 2, none⟩ = some (.string x.t)) (by kernel_rfl) ⟨S1.out, S2.out⟩ (fun hHeld => ?_)
          generalize wk.drew = W0 at *
          refine wpAnyH_take (i := 0) (oi := ⟨some 51, _, _, _, _, _⟩) (v := .pointer (some ⟨r, 0, none⟩)) rfl (by kernel_rfl) (by kernel_rfl) (by kernel_rfl) (fun _ _ _ h => h) (Or.inl ⟨by rfl, ?_⟩) (by assumption) ?_
          · intro w hSw; (try dsimp only at hSw); go_simp
          simp only [Act.put, List.setIfInBounds_toArray, List.set_cons_zero, List.set_cons_succ]
          refine wpAnyH_take (i := 1) (oi := ⟨some 52, _, _, _, _, _⟩) (v := .slice (some ⟨b, off, none⟩) l.length c) rfl (by kernel_rfl) (by kernel_rfl) (by kernel_rfl) (fun _ _ _ h => h) (Or.inl ⟨by rfl, ?_⟩) (by assumption) ?_
          · intro w hSw; (try dsimp only at hSw); go_simp
          simp only [Act.put, List.setIfInBounds_toArray, List.set_cons_zero, List.set_cons_succ]
          refine wpAnyH_take (i := 2) (oi := ⟨some 53, _, _, _, _, _⟩) (v := .int .i64 k) rfl (by kernel_rfl) (by kernel_rfl) (by kernel_rfl) (fun _ _ _ h => h) (Or.inl ⟨by rfl, ?_⟩) (by assumption) ?_
          · intro w hSw; (try dsimp only at hSw); go_simp
          simp only [Act.put, List.setIfInBounds_toArray, List.set_cons_zero, List.set_cons_succ]
          refine wpAnyH_take (i := 3) (oi := ⟨some 54, _, _, _, _, _⟩) (v := .pointer (some ⟨b, off + k * 5, none⟩)) rfl (by kernel_rfl) (by kernel_rfl) (by kernel_rfl) (fun _ _ _ h => h) (Or.inl ⟨by rfl, ?_⟩) (by assumption) ?_
          · intro w hSw; (try dsimp only at hSw); go_simp
          simp only [Act.put, List.setIfInBounds_toArray, List.set_cons_zero, List.set_cons_succ]
          refine wpAnyH_take (i := 4) (oi := ⟨some 55, _, _, _, _, _⟩) (v := .pointer (some ⟨b, off + k * 5 + 1, none⟩)) rfl (by kernel_rfl) (by kernel_rfl) (by kernel_rfl) (fun _ _ _ h => h) (Or.inl ⟨by rfl, ?_⟩) (by assumption) ?_
          · intro w hSw; (try dsimp only at hSw); go_simp
          simp only [Act.put, List.setIfInBounds_toArray, List.set_cons_zero, List.set_cons_succ]
          refine wpAnyH_take (i := 5) (oi := ⟨some 56, _, _, _, _, _⟩) (v := .string x.a) rfl (by kernel_rfl) (by kernel_rfl) (by kernel_rfl) (fun _ _ _ h => h) (Or.inl ⟨by rfl, ?_⟩) (by assumption) ?_
          · intro w hSw; (try dsimp only at hSw); obtain ⟨q1, q2⟩ := hSw; go_simp
          simp only [Act.put, List.setIfInBounds_toArray, List.set_cons_zero, List.set_cons_succ]
          refine wpAnyH_take (i := 6) (oi := ⟨some 57, _, _, _, _, _⟩) (v := .slice (some ⟨b, off, none⟩) l.length c) rfl (by kernel_rfl) (by kernel_rfl) (by kernel_rfl) (fun _ _ _ h => h) (Or.inl ⟨by rfl, ?_⟩) (by assumption) ?_
          · intro w hSw; (try dsimp only at hSw); go_simp
          simp only [Act.put, List.setIfInBounds_toArray, List.set_cons_zero, List.set_cons_succ]
          refine wpAnyH_take (i := 7) (oi := ⟨some 58, _, _, _, _, _⟩) (v := .int .i64 k) rfl (by kernel_rfl) (by kernel_rfl) (by kernel_rfl) (fun _ _ _ h => h) (Or.inl ⟨by rfl, ?_⟩) (by assumption) ?_
          · intro w hSw; (try dsimp only at hSw); go_simp
          simp only [Act.put, List.setIfInBounds_toArray, List.set_cons_zero, List.set_cons_succ]
          refine wpAnyH_take (i := 8) (oi := ⟨some 59, _, _, _, _, _⟩) (v := .pointer (some ⟨b, off + k * 5, none⟩)) rfl (by kernel_rfl) (by kernel_rfl) (by kernel_rfl) (fun _ _ _ h => h) (Or.inl ⟨by rfl, ?_⟩) (by assumption) ?_
          · intro w hSw; (try dsimp only at hSw); go_simp
          simp only [Act.put, List.setIfInBounds_toArray, List.set_cons_zero, List.set_cons_succ]
          refine wpAnyH_take (i := 9) (oi := ⟨some 60, _, _, _, _, _⟩) (v := .pointer (some ⟨b, off + k * 5 + 2, none⟩)) rfl (by kernel_rfl) (by kernel_rfl) (by kernel_rfl) (fun _ _ _ h => h) (Or.inl ⟨by rfl, ?_⟩) (by assumption) ?_
          · intro w hSw; (try dsimp only at hSw); go_simp
          simp only [Act.put, List.setIfInBounds_toArray, List.set_cons_zero, List.set_cons_succ]
          refine wpAnyH_take (i := 10) (oi := ⟨some 61, _, _, _, _, _⟩) (v := .string x.t) rfl (by kernel_rfl) (by kernel_rfl) (by kernel_rfl) (fun _ _ _ h => h) (Or.inl ⟨by rfl, ?_⟩) (by assumption) ?_
          · intro w hSw; (try dsimp only at hSw); obtain ⟨q1, q2⟩ := hSw; go_simp
          simp only [Act.put, List.setIfInBounds_toArray, List.set_cons_zero, List.set_cons_succ]
          refine wpAnyH_ready (rs := [11]) (by kernel_rfl) (by simp) ?_
          refine (AllReadyH.cons (o := ⟨some 62, _, _, _, _, _⟩) rfl (fun K hK => ?_) AllReadyH.nil)
          go_simp
          refine (WR.out _ RD.out).mono ?_
          rintro e w5 ⟨rfl, hw5⟩
          have RA5 : Hid (Ri.RingAt w5 r m s boot nn cur) := hw5 ▸ RD.out
          have B5 : Hid (Below N w w5) := hw5 ▸ BD.out
          have S3 : Hid (w5.cell? ⟨b, off + k * 5 + 1, none⟩ = some (.string x.a)) := hw5 ▸ S1.out
          have S4 : Hid (w5.cell? ⟨b, off + k * 5 + 2, none⟩ = some (.string x.t)) := hw5 ▸ S2.out
          clear hw5
          refine hK.out _ _ ⟨S3.out, S4.out⟩ (fun hHeld => ?_)
          clear hK K
          refine wpAnyH_take (i := 12) (oi := ⟨some 50, _, _, _, _, _⟩) (v := .tuple #[.string ⟨#[]⟩, .int .i64 3]) rfl (by kernel_rfl) (by kernel_rfl) (by kernel_rfl) (fun _ _ _ h => h) (Or.inl ⟨by rfl, ?_⟩) (by assumption) ?_
          · intro w hSw; (try dsimp only at hSw); go_simp
          simp only [Act.put, List.setIfInBounds_toArray, List.set_cons_zero, List.set_cons_succ]
          refine wpAnyH_take (i := 13) (oi := ⟨some 63, _, _, _, _, _⟩) (v := .string ⟨#[]⟩) rfl (by kernel_rfl) (by kernel_rfl) (by kernel_rfl) (fun _ _ _ h => h) (Or.inl ⟨by rfl, ?_⟩) (by assumption) ?_
          · intro w hSw; (try dsimp only at hSw); go_simp
          simp only [Act.put, List.setIfInBounds_toArray, List.set_cons_zero, List.set_cons_succ]
          refine wpAnyH_take (i := 14) (oi := ⟨some 64, _, _, _, _, _⟩) (v := .int .i64 3) rfl (by kernel_rfl) (by kernel_rfl) (by kernel_rfl) (fun _ _ _ h => h) (Or.inl ⟨by rfl, ?_⟩) (by assumption) ?_
          · intro w hSw; (try dsimp only at hSw); go_simp
          simp only [Act.put, List.setIfInBounds_toArray, List.set_cons_zero, List.set_cons_succ]
          refine wpAnyH_take (i := 15) (oi := ⟨some 12, _, _, _, _, _⟩) (v := .string ⟨#[]⟩) rfl (by kernel_rfl) (by kernel_rfl) (by kernel_rfl) (fun _ _ _ h => h) (Or.inl ⟨by rfl, ?_⟩) (by assumption) ?_
          · intro w hSw; (try dsimp only at hSw); go_simp
          simp only [Act.put, List.setIfInBounds_toArray, List.set_cons_zero, List.set_cons_succ]
          refine wpAnyH_take (i := 16) (oi := ⟨some 13, _, _, _, _, _⟩) (v := .int .i64 3) rfl (by kernel_rfl) (by kernel_rfl) (by kernel_rfl) (fun _ _ _ h => h) (Or.inl ⟨by rfl, ?_⟩) (by assumption) ?_
          · intro w hSw; (try dsimp only at hSw); go_simp
          simp only [Act.put, List.setIfInBounds_toArray, List.set_cons_zero, List.set_cons_succ]
          refine wpAnyH_done (by kernel_rfl) ?_ _
          go_wp2_with fail
          refine (CO.out _ r m nn cur nn rfl RA5.out).mono ?_
          rintro e wq ⟨rfl, kk, rfl⟩
          go_wp2_with fail
          go_roundw
          case rel => exact ⟨k + 1, nn, cur, _, rfl, by omega, by go_num, rfl, by omega, by omega, by omega, RA5.out.drewN kk, Ri.below_drewN B5.out kk⟩
          case measure => simp [intOf]; omega
      · have e0 : (x.d == 0) = false := by rw [beq_eq_false_iff_ne]; exact d0
        by_cases d1 : x.d = 1
        · have e1 : (x.d == 1) = true := by rw [d1]; rfl
          clear c2 d0 d1
          obtain ⟨⟨ot, oe⟩, hop⟩ : ∃ p, p = Ri.opens s.data.toList cur x.b x.a.data.toList := ⟨_, rfl⟩
          obtain ⟨os, hos⟩ : ∃ x : ByteArray, x = ⟨ot.toArray⟩ := ⟨_, rfl⟩
          have OB : Hid (∀ wx : World, Sm.HAt wx → Sm.KAt wx → Ri.RingAt wx r m s boot nn cur → Calls Tryz.prog 14 #[.pointer (some ⟨r, 0, none⟩), .string x.b, .string x.a] wx fun e w' => e = .returned (.tuple #[.string os, .int .i64 oe]) ∧ Ri.RingAt w' r m s boot nn cur ∧ Ri.Turned wx w' r m) := fun wx h1 h2 h3 => by
            have g := rgOpen_any h1 h2 (by omega) h3 x.b x.a (by omega) (by omega)
            unfold Ri.OpenPost at g
            rw [← hop] at g
            rw [hos]
            exact g
          clear hop hos
          go_upto_region 22 with (fail)
          have S1 : Hid (wk.drew.cell? ⟨b, off + k * 5 + 3, none⟩ = some (.string x.b)) := c3
          have S2 : Hid (wk.drew.cell? ⟨b, off + k * 5 + 1, none⟩ = some (.string x.a)) := c1
          have RD := Lib.hid RA.out.drew
          have BD := Lib.hid BK.out.drew
          have hNd : N ≤ wk.drew.heap.size := hNs
          refine wp_region_held_drew (S := fun w' => w'.cell? ⟨b, off + k * 5 + 3, none⟩ = some (.string x.b) ∧ w'.cell? ⟨b, off + k * 5 + 1, none⟩ = some (.string x.a)) (by kernel_rfl) ⟨S1.out, S2.out⟩ (fun hHeld => ?_)
          generalize wk.drew = W0 at *
          refine wpAnyH_take (i := 0) (oi := ⟨some 96, _, _, _, _, _⟩) (v := .pointer (some ⟨r, 0, none⟩)) rfl (by kernel_rfl) (by kernel_rfl) (by kernel_rfl) (fun _ _ _ h => h) (Or.inl ⟨by rfl, ?_⟩) (by assumption) ?_
          · intro w hSw; (try dsimp only at hSw); go_simp
          simp only [Act.put, List.setIfInBounds_toArray, List.set_cons_zero, List.set_cons_succ]
          refine wpAnyH_take (i := 1) (oi := ⟨some 97, _, _, _, _, _⟩) (v := .slice (some ⟨b, off, none⟩) l.length c) rfl (by kernel_rfl) (by kernel_rfl) (by kernel_rfl) (fun _ _ _ h => h) (Or.inl ⟨by rfl, ?_⟩) (by assumption) ?_
          · intro w hSw; (try dsimp only at hSw); go_simp
          simp only [Act.put, List.setIfInBounds_toArray, List.set_cons_zero, List.set_cons_succ]
          refine wpAnyH_take (i := 2) (oi := ⟨some 98, _, _, _, _, _⟩) (v := .int .i64 k) rfl (by kernel_rfl) (by kernel_rfl) (by kernel_rfl) (fun _ _ _ h => h) (Or.inl ⟨by rfl, ?_⟩) (by assumption) ?_
          · intro w hSw; (try dsimp only at hSw); go_simp
          simp only [Act.put, List.setIfInBounds_toArray, List.set_cons_zero, List.set_cons_succ]
          refine wpAnyH_take (i := 3) (oi := ⟨some 99, _, _, _, _, _⟩) (v := .pointer (some ⟨b, off + k * 5, none⟩)) rfl (by kernel_rfl) (by kernel_rfl) (by kernel_rfl) (fun _ _ _ h => h) (Or.inl ⟨by rfl, ?_⟩) (by assumption) ?_
          · intro w hSw; (try dsimp only at hSw); go_simp
          simp only [Act.put, List.setIfInBounds_toArray, List.set_cons_zero, List.set_cons_succ]
          refine wpAnyH_take (i := 4) (oi := ⟨some 100, _, _, _, _, _⟩) (v := .pointer (some ⟨b, off + k * 5 + 3, none⟩)) rfl (by kernel_rfl) (by kernel_rfl) (by kernel_rfl) (fun _ _ _ h => h) (Or.inl ⟨by rfl, ?_⟩) (by assumption) ?_
          · intro w hSw; (try dsimp only at hSw); go_simp
          simp only [Act.put, List.setIfInBounds_toArray, List.set_cons_zero, List.set_cons_succ]
          refine wpAnyH_take (i := 5) (oi := ⟨some 101, _, _, _, _, _⟩) (v := .string x.b) rfl (by kernel_rfl) (by kernel_rfl) (by kernel_rfl) (fun _ _ _ h => h) (Or.inl ⟨by rfl, ?_⟩) (by assumption) ?_
          · intro w hSw; (try dsimp only at hSw); obtain ⟨q1, q2⟩ := hSw; go_simp
          simp only [Act.put, List.setIfInBounds_toArray, List.set_cons_zero, List.set_cons_succ]
          refine wpAnyH_take (i := 6) (oi := ⟨some 102, _, _, _, _, _⟩) (v := .slice (some ⟨b, off, none⟩) l.length c) rfl (by kernel_rfl) (by kernel_rfl) (by kernel_rfl) (fun _ _ _ h => h) (Or.inl ⟨by rfl, ?_⟩) (by assumption) ?_
          · intro w hSw; (try dsimp only at hSw); go_simp
          simp only [Act.put, List.setIfInBounds_toArray, List.set_cons_zero, List.set_cons_succ]
          refine wpAnyH_take (i := 7) (oi := ⟨some 103, _, _, _, _, _⟩) (v := .int .i64 k) rfl (by kernel_rfl) (by kernel_rfl) (by kernel_rfl) (fun _ _ _ h => h) (Or.inl ⟨by rfl, ?_⟩) (by assumption) ?_
          · intro w hSw; (try dsimp only at hSw); go_simp
          simp only [Act.put, List.setIfInBounds_toArray, List.set_cons_zero, List.set_cons_succ]
          refine wpAnyH_take (i := 8) (oi := ⟨some 104, _, _, _, _, _⟩) (v := .pointer (some ⟨b, off + k * 5, none⟩)) rfl (by kernel_rfl) (by kernel_rfl) (by kernel_rfl) (fun _ _ _ h => h) (Or.inl ⟨by rfl, ?_⟩) (by assumption) ?_
          · intro w hSw; (try dsimp only at hSw); go_simp
          simp only [Act.put, List.setIfInBounds_toArray, List.set_cons_zero, List.set_cons_succ]
          refine wpAnyH_take (i := 9) (oi := ⟨some 105, _, _, _, _, _⟩) (v := .pointer (some ⟨b, off + k * 5 + 1, none⟩)) rfl (by kernel_rfl) (by kernel_rfl) (by kernel_rfl) (fun _ _ _ h => h) (Or.inl ⟨by rfl, ?_⟩) (by assumption) ?_
          · intro w hSw; (try dsimp only at hSw); go_simp
          simp only [Act.put, List.setIfInBounds_toArray, List.set_cons_zero, List.set_cons_succ]
          refine wpAnyH_take (i := 10) (oi := ⟨some 106, _, _, _, _, _⟩) (v := .string x.a) rfl (by kernel_rfl) (by kernel_rfl) (by kernel_rfl) (fun _ _ _ h => h) (Or.inl ⟨by rfl, ?_⟩) (by assumption) ?_
          · intro w hSw; (try dsimp only at hSw); obtain ⟨q1, q2⟩ := hSw; go_simp
          simp only [Act.put, List.setIfInBounds_toArray, List.set_cons_zero, List.set_cons_succ]
          refine wpAnyH_ready (rs := [11]) (by kernel_rfl) (by simp) ?_
          refine (AllReadyH.cons (o := ⟨some 107, _, _, _, _, _⟩) rfl (fun K hK => ?_) AllReadyH.nil)
          go_simp
          refine (OB.out _ (HH.out.low BD.out (by omega)) (HK.out.low BD.out hN1) RD.out).mono ?_
          rintro e w5 ⟨rfl, ra5, tu5⟩
          have RA5 := Lib.hid ra5
          have KS5 : Hid (∀ i v, W0.cell? ⟨b, off + k * 5 + i, none⟩ = some v → w5.cell? ⟨b, off + k * 5 + i, none⟩ = some v) := fun i v h => ((tu5.below hNr hNm hNd).cell (p := ⟨b, off + k * 5 + i, none⟩) HB.out).trans h
          have B5 := Lib.hid (BD.out.trans (tu5.below hNr hNm hNd))
          clear ra5 tu5
          have S3 : Hid (w5.cell? ⟨b, off + k * 5 + 3, none⟩ = some (.string x.b)) := KS5.out 3 _ S1.out
          have S4 : Hid (w5.cell? ⟨b, off + k * 5 + 1, none⟩ = some (.string x.a)) := KS5.out 1 _ S2.out
          clear KS5
          refine hK.out _ _ ⟨S3.out, S4.out⟩ (fun hHeld => ?_)
          clear hK K
          refine wpAnyH_done (by kernel_rfl) ?_ _
          go_wp2_with fail
          refine (CO.out _ r m nn cur nn rfl RA5.out).mono ?_
          rintro e wq ⟨rfl, kk, rfl⟩
          go_wp2_with fail
          go_roundw
          case rel => exact ⟨k + 1, nn, cur, _, rfl, by omega, by go_num, rfl, by omega, by omega, by omega, RA5.out.drewN kk, Ri.below_drewN B5.out kk⟩
          case measure => simp [intOf]; omega
        · have e1 : (x.d == 1) = false := by rw [beq_eq_false_iff_ne]; exact d1
          clear c1 c2 c3
          by_cases d2 : x.d = 2
          · have e2 : (x.d == 2) = true := by rw [d2]; rfl
            by_cases hfull : cur = 1048576
            · subst hfull
              go_wp2_with fail
              refine (rgRotate_full RA.out).mono ?_
              rintro e w4 ⟨rfl, hw4⟩
              rw [← hw4]
              clear hw4
              go_wp2_with fail
              refine (CO.out _ r m nn 1048576 nn rfl RA.out).mono ?_
              rintro e wq ⟨rfl, kk, rfl⟩
              go_wp2_with fail
              go_roundw
              case rel => exact ⟨k + 1, nn, 1048576, _, rfl, by omega, by go_num, rfl, by omega, by omega, by omega, RA.out.drewN kk, Ri.below_drewN BK.out kk⟩
              case measure => simp [intOf]; omega
            · go_wp2_with fail
              refine (rgRotate_any RA.out (by omega)).mono ?_
              rintro e w4 ⟨rfl, ra4, gr4⟩
              have RA4 := Lib.hid ra4
              have B4 := Lib.hid (BK.out.trans ((Ri.Turned.of_ring (m := m) gr4).below hNr hNm hNs))
              clear ra4 gr4
              go_wp2_with fail
              refine (CO.out _ r m nn (cur + 1) nn rfl RA4.out).mono ?_
              rintro e wq ⟨rfl, kk, rfl⟩
              go_wp2_with fail
              go_roundw
              case rel => exact ⟨k + 1, nn, (cur + 1), _, rfl, by omega, by go_num, rfl, by omega, by omega, by omega, RA4.out.drewN kk, Ri.below_drewN B4.out kk⟩
              case measure => simp [intOf]; omega
          · have e2 : (x.d == 2) = false := by rw [beq_eq_false_iff_ne]; exact d2
            clear d0 d1 d2
            go_wp2_with fail
            refine (CO.out _ r m nn cur nn rfl RA.out).mono ?_
            rintro e wq ⟨rfl, kk, rfl⟩
            go_wp2_with fail
            go_roundw
            case rel => exact ⟨k + 1, nn, cur, _, rfl, by omega, by go_num, rfl, by omega, by omega, by omega, RA.out.drewN kk, Ri.below_drewN BK.out kk⟩
            case measure => simp [intOf]; omega
    · obtain rfl : k = l.length := by omega
      go_wp2
      go_ret
      exact ⟨rfl, BK.out⟩

set_option maxRecDepth 100000 in
set_option maxHeartbeats 2000000 in
theorem ringCounts_any {w : World} (hH : Sm.HAt w) (hK : Sm.KAt w) (hsz : 1 < w.heap.size) (s : ByteArray) (boot : Nat) (hb : boot < 2 ^ 32) (A : Option Addr) (c : Nat) (l : List Ri.Ac) (hl : l.length ≤ 9223372036854775807) (hok : ∀ a ∈ l, a.Ok) (hit : Ri.listAt w A l) :
    Calls Tryz.prog 8 #[.string s, .int .u32 boot, .slice A l.length c] w fun e w' => e = .returned (.bool true) ∧ Below w.heap.size w w' := by
  by_cases hs : s.size ≤ 300
  · by_cases hF : Ri.Fair l
    · exact ringCounts_some hH hK hsz s hs boot hb A c l hok hit hF
    · have g1 : ¬ (300 : Int) < s.size := by omega
      have AW := Lib.hid (awake6_any hH hK hsz)
      have GR : Hid (∀ wx : World, Below w.heap.size w wx → Calls Tryz.prog 17 #[.slice A l.length c] wx fun e w' => e = .returned (.bool true) ∧ wx = w') := fun wx k => great6_any wx A c l hl hok (hit.below k) true (by simp [hF])
      clear hH hK hok hit hF
      go_enter Tryz.func8, Tryz.ntmps8
      go_wp2_with fail
      refine (AW.out).mono ?_
      rintro e w1 ⟨rfl, b1⟩
      go_wp2_with fail
      refine (GR.out _ b1).mono ?_
      rintro e w2 ⟨rfl, hw2⟩
      rw [← hw2]
      clear hw2
      go_wp2
      go_ret
      exact ⟨rfl, b1⟩
  · have g1 : (300 : Int) < s.size := by omega
    have AW := Lib.hid (awake6_any hH hK hsz)
    clear hH hK hok hit
    go_enter Tryz.func8, Tryz.ntmps8
    go_wp2_with fail
    refine (AW.out).mono ?_
    rintro e w1 ⟨rfl, b1⟩
    go_wp2
    go_ret
    exact ⟨rfl, b1⟩
end Go.Proofs.YtapogiihkbjppaaGreatDoor
