/-
  BatchBack.
-/
import Derived.Test.YtlndggbidmmodaaBaAwake
import Derived.Test.YtlndggbidmmodaaBaGreat
namespace Go.Proofs.Ytlndggbidmmodaa
open Go.RowKit Pk
namespace Ba
theorem low_low {N : Nat} {w a b : World} (hN : N = w.heap.size) (h : Below N w a) (k : Below a.heap.size a b) : Below N w b := h.trans (k.mono (by rw [hN]; exact h.size))
theorem low_alloc {N : Nat} {w a : World} (hN : N = w.heap.size) (h : Below N w a) (o : Obj) : Below N w (a.alloc o) := h.alloc (by rw [hN]; exact h.size) o
theorem cut3000 {s : ByteArray} (h : 3000 < s.size) : (s.extract 0 3000).size = 3000 := by rw [ByteArray.size_extract]; omega
theorem Fair.smalls {l : List Op} (h : Fair l) (hk : ∀ o ∈ l, o.Ok) : smalls l := fun o ho => ⟨(hk o ho).k, by have := (h.mem o ho).1; omega, by have := (h.mem o ho).2; omega⟩
end Ba
set_option maxRecDepth 100000 in
set_option maxHeartbeats 8000000 in
theorem batchback_any (w : World) (b : Ba.Bt) {A : Option Addr} (c : Nat) (hit : Ba.listAt w A b.ops) (hok : b.Ok) (s : ByteArray) :
    Calls Try.prog 6 #[.agg #[.int .i64 b.ix, .int .i64 b.ep, .slice A b.ops.length c], .string s] w fun e w' => e = .returned (.bool true) ∧ Below w.heap.size w w' := by
  have AW := Lib.hid (fun wx => awake12_any wx)
  have gn := heap_alloc_new w (.cells #[.int .i64 b.ix, .int .i64 b.ep, .slice A b.ops.length c] 31)
  have b0 : Below w.heap.size w (w.alloc (.cells #[.int .i64 b.ix, .int .i64 b.ep, .slice A b.ops.length c] 31)) := (Below.refl _ w).alloc (Nat.le_refl _) _
  have hit1 := hit.below b0
  obtain ⟨gr, hgr⟩ := Ba.fair_or b.ops
  have GR := Lib.hid (greatOps_any (c := c) hit1 gr hgr)
  have BY0 : Hid (Ba.Fair b.ops → ∀ (wx : World) (A : Option Addr), Ba.listAt wx A b.ops → Calls Try.prog 16 #[.agg #[.int .i64 b.ix, .int .i64 b.ep, .slice A b.ops.length c]] wx fun e w' => e = .returned (.tuple #[.string ⟨(Ba.spelled b).1.toArray⟩, .int .i64 ((Ba.spelled b).2 : Nat)]) ∧ Below wx.heap.size wx w') := fun hF wx A h => baBytes_any b c h hok (hF.smalls hok.ops)
  have RT00 : Hid (Ba.Fair b.ops → Ba.right b = 0 → ∀ (wx : World), Calls Try.prog 23 #[.string ⟨(Ba.spelled b).1.toArray⟩] wx fun e w' => ∃ A c, e = .returned (.tuple #[.agg #[.int .i64 b.ix, .int .i64 b.ep, .slice A b.ops.length c], .int .i64 0]) ∧ Ba.listAt w' A b.ops ∧ Below wx.heap.size wx w') := fun hF hR wx => by
    have hl := Ba.opsB_len (hF.smalls hok.ops)
    have he1 := R12.enc_len (n := b.ix.toNat) (by have := hok.ix; omega)
    have he2 := R12.enc_len (n := b.ep.toNat) (by have := hok.ep; omega)
    have he3 := R12.enc_len (n := b.ops.length) (by have := hok.len; omega)
    have hf1 := hF.1
    have hsz : (Ba.spelled b).1.length ≤ 1000000000 := by
      unfold Ba.spelled Ba.bytes
      rw [if_pos hR]
      simp only [List.length_append]
      omega
    have := baRead_any wx ⟨(Ba.spelled b).1.toArray⟩ (by rw [Ba.ba_mk_size]; omega)
    have e : (Ba.spelled b).1 = Ba.bytes b := by unfold Ba.spelled; rw [if_pos hR]
    rw [e, Ba.read_bytes hR hok.ep.2] at this
    rw [e]
    exact this
  have SA0 : Hid (∀ (wx : World) (A C : Option Addr) (d : Nat), Ba.listAt wx A b.ops → Ba.listAt wx C b.ops → Calls Try.prog 21 #[.agg #[.int .i64 b.ix, .int .i64 b.ep, .slice A b.ops.length c], .agg #[.int .i64 b.ix, .int .i64 b.ep, .slice C b.ops.length d]] wx fun e w' => e = .returned (.bool true) ∧ Below wx.heap.size wx w') := fun wx A C d h1 h2 => baSame_any b b c d h1 h2 hok.len true (by simp)
  have hsp2 : (Ba.spelled b).2 = Ba.right b := rfl
  rw [hsp2] at BY0
  obtain ⟨R, hR0⟩ : ∃ R, R = Ba.right b := ⟨_, rfl⟩
  obtain ⟨t, ht⟩ : ∃ t : ByteArray, t = ⟨(Ba.spelled b).1.toArray⟩ := ⟨_, rfl⟩
  rw [← hR0, ← ht] at BY0
  rw [← ht, ← hR0] at RT00
  clear hR0 ht hsp2
  obtain ⟨ix, ep, l⟩ := b
  simp only at gn b0 hit1 GR BY0 RT00 SA0 hgr ⊢
  obtain ⟨N, hN⟩ : ∃ N, N = w.heap.size := ⟨_, rfl⟩
  rw [← hN] at gn b0 ⊢
  have HN := Lib.hid hN
  have x0 := Sm.cells_of gn 0 _ rfl
  have x1 := Sm.cells_of gn 1 _ rfl
  have x2 := Sm.cells_of gn 2 _ rfl
  have G1 := Lib.hid gn
  have B1 := Lib.hid b0
  have HIT1 := Lib.hid hit1
  have hlt1 : N < (w.alloc (.cells #[.int .i64 ix, .int .i64 ep, .slice A l.length c] 31)).heap.size := Sm.lt_of gn
  clear hit hok hN gn b0 hit1
  cases gr
  · have hfair : Ba.Fair l := by
      by_cases h : Ba.Fair l
      · exact h
      · exact absurd (hgr.2 h) (by decide)
    have BY := Lib.hid (BY0.out hfair)
    have RT0 := Lib.hid (RT00.out hfair)
    clear hgr hfair BY0 RT00
    by_cases hs : 3000 < s.size
    · have hsi : (3000 : Int) < s.size := by omega
      obtain ⟨u, hu⟩ : ∃ u, u = s.extract 0 3000 := ⟨_, rfl⟩
      have hul : u.size = 3000 := by rw [hu]; exact Ba.cut3000 hs
      have HU := Lib.hid hu
      clear hu
      by_cases hR : R = 0
      · have HR0 := Lib.hid hR
        have RT := Lib.hid (RT0.out hR)
        have SA := SA0
        rw [hR] at BY
        clear hR RT0 SA0
        by_cases hf : Ba.fault u = 0
        · have hrd : Ba.read u = (Ba.got u, 0) := by unfold Ba.read; rw [hf, if_pos rfl]
          obtain ⟨hby, hri⟩ := Ba.got_went hf
          have hgo := Ba.got_ok u
          have hgs := Ba.got_small u
          have hbu : (⟨(Ba.bytes (Ba.got u)).toArray⟩ : ByteArray) = u := by rw [hby, Ba.ba_eq]
          have RG : Hid (∀ wx : World, Calls Try.prog 23 #[.string u] wx fun e w' => ∃ A c, e = .returned (.tuple #[.agg #[.int .i64 (Ba.got u).ix, .int .i64 (Ba.got u).ep, .slice A (Ba.got u).ops.length c], .int .i64 0]) ∧ Ba.listAt w' A (Ba.got u).ops ∧ Below wx.heap.size wx w') := fun wx => by
            have := baRead_any wx u (by omega)
            rw [hrd] at this
            exact this
          have BG : Hid (∀ (wx : World) (A : Option Addr) (c : Nat), Ba.listAt wx A (Ba.got u).ops → Calls Try.prog 16 #[.agg #[.int .i64 (Ba.got u).ix, .int .i64 (Ba.got u).ep, .slice A (Ba.got u).ops.length c]] wx fun e w' => e = .returned (.tuple #[.string u, .int .i64 0]) ∧ Below wx.heap.size wx w') := fun wx A c h => by
            have := baBytes_any (Ba.got u) c h hgo (fun o ho => ⟨(hgs.2 o ho).1, by have := (hgs.2 o ho).2.1; omega, by have := (hgs.2 o ho).2.2; omega⟩)
            unfold Ba.spelled at this
            rw [hri, if_pos rfl, hbu] at this
            exact this
          obtain ⟨gb, hgb⟩ : ∃ g, g = Ba.got u := ⟨_, rfl⟩
          rw [← hgb] at RG BG
          obtain ⟨gx, ge, G⟩ := gb
          simp only at RG BG
          have huu : (u.toList == u.toList) = true := by simp
          clear hrd hby hri hgo hgs hbu hgb hf
          go_enter Try.func6, Try.ntmps6
          go_upto_region 1 with (fail)
          rw [← HN.out]
          generalize w.alloc (.cells #[.int .i64 ix, .int .i64 ep, .slice A l.length c] 31) = W1 at *
          go_wp2_with fail
          refine GR.out.mono ?_
          rintro e w1 ⟨rfl, rfl⟩
          go_upto_region 5 with (fail)
          rw [← HU.out]
          go_wp2_with fail
          refine (BY.out _ _ HIT1.out).mono ?_
          rintro e w2 ⟨rfl, b2⟩
          have B2 := Lib.hid (B1.out.trans (b2.mono (Nat.le_of_lt hlt1)))
          have G2 := Lib.hid ((b2.block N hlt1).trans G1.out)
          have L2 := Lib.hid (HIT1.out.below b2)
          clear b2 x0 x1 x2
          go_wp2_with fail
          refine (RT.out _).mono ?_
          rintro e w3 ⟨A3, c3, rfl, h3, k3⟩
          have B3 := B2.out.trans (k3.mono (Nat.le_trans (Nat.le_of_eq HN.out) B2.out.size))
          have g3 := (k3.block N (Sm.lt_of G2.out)).trans G2.out
          have l3 := L2.out.below k3
          have z0 : (w3.alloc (.cells #[.int .i64 0, .int .i64 0, .slice none 0 0] 31)).frozen? ⟨w3.heap.size, 0, none⟩ = false := Sm.free_of (heap_alloc_new w3 _) 0
          have gz := heap_alloc_new w3 (.cells #[.int .i64 ix, .int .i64 ep, .slice A3 l.length c3] 31)
          have k34 : Below w3.heap.size w3 (w3.alloc (.cells #[.int .i64 ix, .int .i64 ep, .slice A3 l.length c3] 31)) := (Below.refl _ w3).alloc (Nat.le_refl _) _
          have B4 := Lib.hid (B3.trans (k34.mono (Nat.le_trans (Nat.le_of_eq HN.out) B3.size)))
          have g4 := (k34.block N (Sm.lt_of g3)).trans g3
          have SS := Lib.hid (SA.out _ _ _ c3 (l3.below k34) (h3.below k34))
          clear B2 G2 L2 k3 B3 g3 l3 k34 h3
          have q0 := Sm.cells_of gz 0 _ rfl
          have q1 := Sm.cells_of gz 1 _ rfl
          have q2 := Sm.cells_of gz 2 _ rfl
          have y0 := Sm.cells_of g4 0 _ rfl
          have y1 := Sm.cells_of g4 1 _ rfl
          have y2 := Sm.cells_of g4 2 _ rfl
          clear gz g4
          go_upto_region 8 with (fail)
          go_wp2_with fail
          refine SS.out.mono ?_
          rintro e w5 ⟨rfl, k5⟩
          have BB := Lib.hid (B4.out.trans (k5.mono (Nat.le_trans (Nat.le_of_eq HN.out) B4.out.size)))
          clear k5 B4 q0 q1 q2 y0 y1 y2 z0
          go_wp2_with fail
          refine (RG.out _).mono ?_
          rintro e v1 ⟨AG, cg, rfl, hg, kb⟩
          have z0 : (v1.alloc (.cells #[.int .i64 0, .int .i64 0, .slice none 0 0] 31)).frozen? ⟨v1.heap.size, 0, none⟩ = false := Sm.free_of (heap_alloc_new v1 _) 0
          have gz := heap_alloc_new v1 (.cells #[.int .i64 gx, .int .i64 ge, .slice AG G.length cg] 31)
          have q0 := Sm.cells_of gz 0 _ rfl
          have q1 := Sm.cells_of gz 1 _ rfl
          have q2 := Sm.cells_of gz 2 _ rfl
          have BZ := Lib.hid (Ba.low_alloc HN.out (Ba.low_low HN.out BB.out kb) (.cells #[.int .i64 gx, .int .i64 ge, .slice AG G.length cg] 31))
          have hg2 := hg.below ((Below.refl _ v1).alloc (Nat.le_refl _) (.cells #[.int .i64 gx, .int .i64 ge, .slice AG G.length cg] 31))
          have YG := Lib.hid (BG.out _ AG cg hg2)
          clear kb gz hg hg2
          go_upto_region 13 with (fail)
          go_wp2_with fail
          refine YG.out.mono ?_
          rintro e v2 ⟨rfl, k2⟩
          have B5 := Lib.hid (Ba.low_low HN.out BZ.out k2)
          go_wp2_with fail
          refine (AW.out _).mono ?_
          rintro e v3 ⟨rfl, k3⟩
          go_wp2_with fail
          go_ret
          exact ⟨rfl, Ba.low_low HN.out B5.out k3⟩
        · have hrd : Ba.read u = (Ba.zero, Ba.fault u) := by unfold Ba.read; rw [if_neg hf]
          obtain ⟨E, hE⟩ : ∃ E, E = Ba.fault u := ⟨_, rfl⟩
          have RB : Hid (∀ wx : World, Calls Try.prog 23 #[.string u] wx fun e w' => ∃ A c, e = .returned (.tuple #[.agg #[.int .i64 0, .int .i64 0, .slice A 0 c], .int .i64 (E : Nat)]) ∧ Below wx.heap.size wx w') := fun wx => by
            have := baRead_any wx u (by omega)
            rw [hrd, ← hE] at this
            exact this.mono fun _ _ ⟨A, c, h1, _, h3⟩ => ⟨A, c, h1, h3⟩
          have hEn : ((E : Int) != 0) = true := by rw [bne_iff_ne]; omega
          clear hrd hE hf
          go_enter Try.func6, Try.ntmps6
          go_upto_region 1 with (fail)
          rw [← HN.out]
          generalize w.alloc (.cells #[.int .i64 ix, .int .i64 ep, .slice A l.length c] 31) = W1 at *
          go_wp2_with fail
          refine GR.out.mono ?_
          rintro e w1 ⟨rfl, rfl⟩
          go_upto_region 5 with (fail)
          rw [← HU.out]
          go_wp2_with fail
          refine (BY.out _ _ HIT1.out).mono ?_
          rintro e w2 ⟨rfl, b2⟩
          have B2 := Lib.hid (B1.out.trans (b2.mono (Nat.le_of_lt hlt1)))
          have G2 := Lib.hid ((b2.block N hlt1).trans G1.out)
          have L2 := Lib.hid (HIT1.out.below b2)
          clear b2 x0 x1 x2
          go_wp2_with fail
          refine (RT.out _).mono ?_
          rintro e w3 ⟨A3, c3, rfl, h3, k3⟩
          have B3 := B2.out.trans (k3.mono (Nat.le_trans (Nat.le_of_eq HN.out) B2.out.size))
          have g3 := (k3.block N (Sm.lt_of G2.out)).trans G2.out
          have l3 := L2.out.below k3
          have z0 : (w3.alloc (.cells #[.int .i64 0, .int .i64 0, .slice none 0 0] 31)).frozen? ⟨w3.heap.size, 0, none⟩ = false := Sm.free_of (heap_alloc_new w3 _) 0
          have gz := heap_alloc_new w3 (.cells #[.int .i64 ix, .int .i64 ep, .slice A3 l.length c3] 31)
          have k34 : Below w3.heap.size w3 (w3.alloc (.cells #[.int .i64 ix, .int .i64 ep, .slice A3 l.length c3] 31)) := (Below.refl _ w3).alloc (Nat.le_refl _) _
          have B4 := Lib.hid (B3.trans (k34.mono (Nat.le_trans (Nat.le_of_eq HN.out) B3.size)))
          have g4 := (k34.block N (Sm.lt_of g3)).trans g3
          have SS := Lib.hid (SA.out _ _ _ c3 (l3.below k34) (h3.below k34))
          clear B2 G2 L2 k3 B3 g3 l3 k34 h3
          have q0 := Sm.cells_of gz 0 _ rfl
          have q1 := Sm.cells_of gz 1 _ rfl
          have q2 := Sm.cells_of gz 2 _ rfl
          have y0 := Sm.cells_of g4 0 _ rfl
          have y1 := Sm.cells_of g4 1 _ rfl
          have y2 := Sm.cells_of g4 2 _ rfl
          clear gz g4
          go_upto_region 8 with (fail)
          go_wp2_with fail
          refine SS.out.mono ?_
          rintro e w5 ⟨rfl, k5⟩
          have BB := Lib.hid (B4.out.trans (k5.mono (Nat.le_trans (Nat.le_of_eq HN.out) B4.out.size)))
          clear k5 B4 q0 q1 q2 y0 y1 y2 z0
          go_wp2_with fail
          refine (RB.out _).mono ?_
          rintro e v1 ⟨AG, cg, rfl, kb⟩
          have z0 : (v1.alloc (.cells #[.int .i64 0, .int .i64 0, .slice none 0 0] 31)).frozen? ⟨v1.heap.size, 0, none⟩ = false := Sm.free_of (heap_alloc_new v1 _) 0
          have gz := heap_alloc_new v1 (.cells #[.int .i64 0, .int .i64 0, .slice AG 0 cg] 31)
          have q0 := Sm.cells_of gz 0 _ rfl
          have q1 := Sm.cells_of gz 1 _ rfl
          have q2 := Sm.cells_of gz 2 _ rfl
          have BZ := Lib.hid (Ba.low_alloc HN.out (Ba.low_low HN.out BB.out kb) (.cells #[.int .i64 0, .int .i64 0, .slice AG 0 cg] 31))
          clear kb gz
          go_upto_region 12 with (fail)
          go_wp2_with fail
          refine (AW.out _).mono ?_
          rintro e v2 ⟨rfl, k2⟩
          go_wp2_with fail
          go_ret
          exact ⟨rfl, Ba.low_low HN.out BZ.out k2⟩
      · have hRi : ((R : Int) == 0) = false := by rw [beq_eq_false_iff_ne]; omega
        clear hR RT0 SA0
        by_cases hf : Ba.fault u = 0
        · have hrd : Ba.read u = (Ba.got u, 0) := by unfold Ba.read; rw [hf, if_pos rfl]
          obtain ⟨hby, hri⟩ := Ba.got_went hf
          have hgo := Ba.got_ok u
          have hgs := Ba.got_small u
          have hbu : (⟨(Ba.bytes (Ba.got u)).toArray⟩ : ByteArray) = u := by rw [hby, Ba.ba_eq]
          have RG : Hid (∀ wx : World, Calls Try.prog 23 #[.string u] wx fun e w' => ∃ A c, e = .returned (.tuple #[.agg #[.int .i64 (Ba.got u).ix, .int .i64 (Ba.got u).ep, .slice A (Ba.got u).ops.length c], .int .i64 0]) ∧ Ba.listAt w' A (Ba.got u).ops ∧ Below wx.heap.size wx w') := fun wx => by
            have := baRead_any wx u (by omega)
            rw [hrd] at this
            exact this
          have BG : Hid (∀ (wx : World) (A : Option Addr) (c : Nat), Ba.listAt wx A (Ba.got u).ops → Calls Try.prog 16 #[.agg #[.int .i64 (Ba.got u).ix, .int .i64 (Ba.got u).ep, .slice A (Ba.got u).ops.length c]] wx fun e w' => e = .returned (.tuple #[.string u, .int .i64 0]) ∧ Below wx.heap.size wx w') := fun wx A c h => by
            have := baBytes_any (Ba.got u) c h hgo (fun o ho => ⟨(hgs.2 o ho).1, by have := (hgs.2 o ho).2.1; omega, by have := (hgs.2 o ho).2.2; omega⟩)
            unfold Ba.spelled at this
            rw [hri, if_pos rfl, hbu] at this
            exact this
          obtain ⟨gb, hgb⟩ : ∃ g, g = Ba.got u := ⟨_, rfl⟩
          rw [← hgb] at RG BG
          obtain ⟨gx, ge, G⟩ := gb
          simp only at RG BG
          have huu : (u.toList == u.toList) = true := by simp
          clear hrd hby hri hgo hgs hbu hgb hf
          go_enter Try.func6, Try.ntmps6
          go_upto_region 1 with (fail)
          rw [← HN.out]
          generalize w.alloc (.cells #[.int .i64 ix, .int .i64 ep, .slice A l.length c] 31) = W1 at *
          go_wp2_with fail
          refine GR.out.mono ?_
          rintro e w1 ⟨rfl, rfl⟩
          go_upto_region 5 with (fail)
          rw [← HU.out]
          go_wp2_with fail
          refine (BY.out _ _ HIT1.out).mono ?_
          rintro e w2 ⟨rfl, b2⟩
          have BB := Lib.hid (B1.out.trans (b2.mono (Nat.le_of_lt hlt1)))
          clear b2 x0 x1 x2
          go_wp2_with fail
          refine (RG.out _).mono ?_
          rintro e v1 ⟨AG, cg, rfl, hg, kb⟩
          have z0 : (v1.alloc (.cells #[.int .i64 0, .int .i64 0, .slice none 0 0] 31)).frozen? ⟨v1.heap.size, 0, none⟩ = false := Sm.free_of (heap_alloc_new v1 _) 0
          have gz := heap_alloc_new v1 (.cells #[.int .i64 gx, .int .i64 ge, .slice AG G.length cg] 31)
          have q0 := Sm.cells_of gz 0 _ rfl
          have q1 := Sm.cells_of gz 1 _ rfl
          have q2 := Sm.cells_of gz 2 _ rfl
          have BZ := Lib.hid (Ba.low_alloc HN.out (Ba.low_low HN.out BB.out kb) (.cells #[.int .i64 gx, .int .i64 ge, .slice AG G.length cg] 31))
          have hg2 := hg.below ((Below.refl _ v1).alloc (Nat.le_refl _) (.cells #[.int .i64 gx, .int .i64 ge, .slice AG G.length cg] 31))
          have YG := Lib.hid (BG.out _ AG cg hg2)
          clear kb gz hg hg2
          go_upto_region 13 with (fail)
          go_wp2_with fail
          refine YG.out.mono ?_
          rintro e v2 ⟨rfl, k2⟩
          have B5 := Lib.hid (Ba.low_low HN.out BZ.out k2)
          go_wp2_with fail
          refine (AW.out _).mono ?_
          rintro e v3 ⟨rfl, k3⟩
          go_wp2_with fail
          go_ret
          exact ⟨rfl, Ba.low_low HN.out B5.out k3⟩
        · have hrd : Ba.read u = (Ba.zero, Ba.fault u) := by unfold Ba.read; rw [if_neg hf]
          obtain ⟨E, hE⟩ : ∃ E, E = Ba.fault u := ⟨_, rfl⟩
          have RB : Hid (∀ wx : World, Calls Try.prog 23 #[.string u] wx fun e w' => ∃ A c, e = .returned (.tuple #[.agg #[.int .i64 0, .int .i64 0, .slice A 0 c], .int .i64 (E : Nat)]) ∧ Below wx.heap.size wx w') := fun wx => by
            have := baRead_any wx u (by omega)
            rw [hrd, ← hE] at this
            exact this.mono fun _ _ ⟨A, c, h1, _, h3⟩ => ⟨A, c, h1, h3⟩
          have hEn : ((E : Int) != 0) = true := by rw [bne_iff_ne]; omega
          clear hrd hE hf
          go_enter Try.func6, Try.ntmps6
          go_upto_region 1 with (fail)
          rw [← HN.out]
          generalize w.alloc (.cells #[.int .i64 ix, .int .i64 ep, .slice A l.length c] 31) = W1 at *
          go_wp2_with fail
          refine GR.out.mono ?_
          rintro e w1 ⟨rfl, rfl⟩
          go_upto_region 5 with (fail)
          rw [← HU.out]
          go_wp2_with fail
          refine (BY.out _ _ HIT1.out).mono ?_
          rintro e w2 ⟨rfl, b2⟩
          have BB := Lib.hid (B1.out.trans (b2.mono (Nat.le_of_lt hlt1)))
          clear b2 x0 x1 x2
          go_wp2_with fail
          refine (RB.out _).mono ?_
          rintro e v1 ⟨AG, cg, rfl, kb⟩
          have z0 : (v1.alloc (.cells #[.int .i64 0, .int .i64 0, .slice none 0 0] 31)).frozen? ⟨v1.heap.size, 0, none⟩ = false := Sm.free_of (heap_alloc_new v1 _) 0
          have gz := heap_alloc_new v1 (.cells #[.int .i64 0, .int .i64 0, .slice AG 0 cg] 31)
          have q0 := Sm.cells_of gz 0 _ rfl
          have q1 := Sm.cells_of gz 1 _ rfl
          have q2 := Sm.cells_of gz 2 _ rfl
          have BZ := Lib.hid (Ba.low_alloc HN.out (Ba.low_low HN.out BB.out kb) (.cells #[.int .i64 0, .int .i64 0, .slice AG 0 cg] 31))
          clear kb gz
          go_upto_region 12 with (fail)
          go_wp2_with fail
          refine (AW.out _).mono ?_
          rintro e v2 ⟨rfl, k2⟩
          go_wp2_with fail
          go_ret
          exact ⟨rfl, Ba.low_low HN.out BZ.out k2⟩
    · have hsi : ¬ (3000 : Int) < s.size := by omega
      obtain ⟨u, hu⟩ : ∃ u, u = s := ⟨_, rfl⟩
      subst hu
      by_cases hR : R = 0
      · have HR0 := Lib.hid hR
        have RT := Lib.hid (RT0.out hR)
        have SA := SA0
        rw [hR] at BY
        clear hR RT0 SA0
        by_cases hf : Ba.fault u = 0
        · have hrd : Ba.read u = (Ba.got u, 0) := by unfold Ba.read; rw [hf, if_pos rfl]
          obtain ⟨hby, hri⟩ := Ba.got_went hf
          have hgo := Ba.got_ok u
          have hgs := Ba.got_small u
          have hbu : (⟨(Ba.bytes (Ba.got u)).toArray⟩ : ByteArray) = u := by rw [hby, Ba.ba_eq]
          have RG : Hid (∀ wx : World, Calls Try.prog 23 #[.string u] wx fun e w' => ∃ A c, e = .returned (.tuple #[.agg #[.int .i64 (Ba.got u).ix, .int .i64 (Ba.got u).ep, .slice A (Ba.got u).ops.length c], .int .i64 0]) ∧ Ba.listAt w' A (Ba.got u).ops ∧ Below wx.heap.size wx w') := fun wx => by
            have := baRead_any wx u (by omega)
            rw [hrd] at this
            exact this
          have BG : Hid (∀ (wx : World) (A : Option Addr) (c : Nat), Ba.listAt wx A (Ba.got u).ops → Calls Try.prog 16 #[.agg #[.int .i64 (Ba.got u).ix, .int .i64 (Ba.got u).ep, .slice A (Ba.got u).ops.length c]] wx fun e w' => e = .returned (.tuple #[.string u, .int .i64 0]) ∧ Below wx.heap.size wx w') := fun wx A c h => by
            have := baBytes_any (Ba.got u) c h hgo (fun o ho => ⟨(hgs.2 o ho).1, by have := (hgs.2 o ho).2.1; omega, by have := (hgs.2 o ho).2.2; omega⟩)
            unfold Ba.spelled at this
            rw [hri, if_pos rfl, hbu] at this
            exact this
          obtain ⟨gb, hgb⟩ : ∃ g, g = Ba.got u := ⟨_, rfl⟩
          rw [← hgb] at RG BG
          obtain ⟨gx, ge, G⟩ := gb
          simp only at RG BG
          have huu : (u.toList == u.toList) = true := by simp
          clear hrd hby hri hgo hgs hbu hgb hf
          go_enter Try.func6, Try.ntmps6
          go_upto_region 1 with (fail)
          rw [← HN.out]
          generalize w.alloc (.cells #[.int .i64 ix, .int .i64 ep, .slice A l.length c] 31) = W1 at *
          go_wp2_with fail
          refine GR.out.mono ?_
          rintro e w1 ⟨rfl, rfl⟩
          go_wp2_with fail
          refine (BY.out _ _ HIT1.out).mono ?_
          rintro e w2 ⟨rfl, b2⟩
          have B2 := Lib.hid (B1.out.trans (b2.mono (Nat.le_of_lt hlt1)))
          have G2 := Lib.hid ((b2.block N hlt1).trans G1.out)
          have L2 := Lib.hid (HIT1.out.below b2)
          clear b2 x0 x1 x2
          go_wp2_with fail
          refine (RT.out _).mono ?_
          rintro e w3 ⟨A3, c3, rfl, h3, k3⟩
          have B3 := B2.out.trans (k3.mono (Nat.le_trans (Nat.le_of_eq HN.out) B2.out.size))
          have g3 := (k3.block N (Sm.lt_of G2.out)).trans G2.out
          have l3 := L2.out.below k3
          have z0 : (w3.alloc (.cells #[.int .i64 0, .int .i64 0, .slice none 0 0] 31)).frozen? ⟨w3.heap.size, 0, none⟩ = false := Sm.free_of (heap_alloc_new w3 _) 0
          have gz := heap_alloc_new w3 (.cells #[.int .i64 ix, .int .i64 ep, .slice A3 l.length c3] 31)
          have k34 : Below w3.heap.size w3 (w3.alloc (.cells #[.int .i64 ix, .int .i64 ep, .slice A3 l.length c3] 31)) := (Below.refl _ w3).alloc (Nat.le_refl _) _
          have B4 := Lib.hid (B3.trans (k34.mono (Nat.le_trans (Nat.le_of_eq HN.out) B3.size)))
          have g4 := (k34.block N (Sm.lt_of g3)).trans g3
          have SS := Lib.hid (SA.out _ _ _ c3 (l3.below k34) (h3.below k34))
          clear B2 G2 L2 k3 B3 g3 l3 k34 h3
          have q0 := Sm.cells_of gz 0 _ rfl
          have q1 := Sm.cells_of gz 1 _ rfl
          have q2 := Sm.cells_of gz 2 _ rfl
          have y0 := Sm.cells_of g4 0 _ rfl
          have y1 := Sm.cells_of g4 1 _ rfl
          have y2 := Sm.cells_of g4 2 _ rfl
          clear gz g4
          go_upto_region 8 with (fail)
          go_wp2_with fail
          refine SS.out.mono ?_
          rintro e w5 ⟨rfl, k5⟩
          have BB := Lib.hid (B4.out.trans (k5.mono (Nat.le_trans (Nat.le_of_eq HN.out) B4.out.size)))
          clear k5 B4 q0 q1 q2 y0 y1 y2 z0
          go_wp2_with fail
          refine (RG.out _).mono ?_
          rintro e v1 ⟨AG, cg, rfl, hg, kb⟩
          have z0 : (v1.alloc (.cells #[.int .i64 0, .int .i64 0, .slice none 0 0] 31)).frozen? ⟨v1.heap.size, 0, none⟩ = false := Sm.free_of (heap_alloc_new v1 _) 0
          have gz := heap_alloc_new v1 (.cells #[.int .i64 gx, .int .i64 ge, .slice AG G.length cg] 31)
          have q0 := Sm.cells_of gz 0 _ rfl
          have q1 := Sm.cells_of gz 1 _ rfl
          have q2 := Sm.cells_of gz 2 _ rfl
          have BZ := Lib.hid (Ba.low_alloc HN.out (Ba.low_low HN.out BB.out kb) (.cells #[.int .i64 gx, .int .i64 ge, .slice AG G.length cg] 31))
          have hg2 := hg.below ((Below.refl _ v1).alloc (Nat.le_refl _) (.cells #[.int .i64 gx, .int .i64 ge, .slice AG G.length cg] 31))
          have YG := Lib.hid (BG.out _ AG cg hg2)
          clear kb gz hg hg2
          go_upto_region 13 with (fail)
          go_wp2_with fail
          refine YG.out.mono ?_
          rintro e v2 ⟨rfl, k2⟩
          have B5 := Lib.hid (Ba.low_low HN.out BZ.out k2)
          go_wp2_with fail
          refine (AW.out _).mono ?_
          rintro e v3 ⟨rfl, k3⟩
          go_wp2_with fail
          go_ret
          exact ⟨rfl, Ba.low_low HN.out B5.out k3⟩
        · have hrd : Ba.read u = (Ba.zero, Ba.fault u) := by unfold Ba.read; rw [if_neg hf]
          obtain ⟨E, hE⟩ : ∃ E, E = Ba.fault u := ⟨_, rfl⟩
          have RB : Hid (∀ wx : World, Calls Try.prog 23 #[.string u] wx fun e w' => ∃ A c, e = .returned (.tuple #[.agg #[.int .i64 0, .int .i64 0, .slice A 0 c], .int .i64 (E : Nat)]) ∧ Below wx.heap.size wx w') := fun wx => by
            have := baRead_any wx u (by omega)
            rw [hrd, ← hE] at this
            exact this.mono fun _ _ ⟨A, c, h1, _, h3⟩ => ⟨A, c, h1, h3⟩
          have hEn : ((E : Int) != 0) = true := by rw [bne_iff_ne]; omega
          clear hrd hE hf
          go_enter Try.func6, Try.ntmps6
          go_upto_region 1 with (fail)
          rw [← HN.out]
          generalize w.alloc (.cells #[.int .i64 ix, .int .i64 ep, .slice A l.length c] 31) = W1 at *
          go_wp2_with fail
          refine GR.out.mono ?_
          rintro e w1 ⟨rfl, rfl⟩
          go_wp2_with fail
          refine (BY.out _ _ HIT1.out).mono ?_
          rintro e w2 ⟨rfl, b2⟩
          have B2 := Lib.hid (B1.out.trans (b2.mono (Nat.le_of_lt hlt1)))
          have G2 := Lib.hid ((b2.block N hlt1).trans G1.out)
          have L2 := Lib.hid (HIT1.out.below b2)
          clear b2 x0 x1 x2
          go_wp2_with fail
          refine (RT.out _).mono ?_
          rintro e w3 ⟨A3, c3, rfl, h3, k3⟩
          have B3 := B2.out.trans (k3.mono (Nat.le_trans (Nat.le_of_eq HN.out) B2.out.size))
          have g3 := (k3.block N (Sm.lt_of G2.out)).trans G2.out
          have l3 := L2.out.below k3
          have z0 : (w3.alloc (.cells #[.int .i64 0, .int .i64 0, .slice none 0 0] 31)).frozen? ⟨w3.heap.size, 0, none⟩ = false := Sm.free_of (heap_alloc_new w3 _) 0
          have gz := heap_alloc_new w3 (.cells #[.int .i64 ix, .int .i64 ep, .slice A3 l.length c3] 31)
          have k34 : Below w3.heap.size w3 (w3.alloc (.cells #[.int .i64 ix, .int .i64 ep, .slice A3 l.length c3] 31)) := (Below.refl _ w3).alloc (Nat.le_refl _) _
          have B4 := Lib.hid (B3.trans (k34.mono (Nat.le_trans (Nat.le_of_eq HN.out) B3.size)))
          have g4 := (k34.block N (Sm.lt_of g3)).trans g3
          have SS := Lib.hid (SA.out _ _ _ c3 (l3.below k34) (h3.below k34))
          clear B2 G2 L2 k3 B3 g3 l3 k34 h3
          have q0 := Sm.cells_of gz 0 _ rfl
          have q1 := Sm.cells_of gz 1 _ rfl
          have q2 := Sm.cells_of gz 2 _ rfl
          have y0 := Sm.cells_of g4 0 _ rfl
          have y1 := Sm.cells_of g4 1 _ rfl
          have y2 := Sm.cells_of g4 2 _ rfl
          clear gz g4
          go_upto_region 8 with (fail)
          go_wp2_with fail
          refine SS.out.mono ?_
          rintro e w5 ⟨rfl, k5⟩
          have BB := Lib.hid (B4.out.trans (k5.mono (Nat.le_trans (Nat.le_of_eq HN.out) B4.out.size)))
          clear k5 B4 q0 q1 q2 y0 y1 y2 z0
          go_wp2_with fail
          refine (RB.out _).mono ?_
          rintro e v1 ⟨AG, cg, rfl, kb⟩
          have z0 : (v1.alloc (.cells #[.int .i64 0, .int .i64 0, .slice none 0 0] 31)).frozen? ⟨v1.heap.size, 0, none⟩ = false := Sm.free_of (heap_alloc_new v1 _) 0
          have gz := heap_alloc_new v1 (.cells #[.int .i64 0, .int .i64 0, .slice AG 0 cg] 31)
          have q0 := Sm.cells_of gz 0 _ rfl
          have q1 := Sm.cells_of gz 1 _ rfl
          have q2 := Sm.cells_of gz 2 _ rfl
          have BZ := Lib.hid (Ba.low_alloc HN.out (Ba.low_low HN.out BB.out kb) (.cells #[.int .i64 0, .int .i64 0, .slice AG 0 cg] 31))
          clear kb gz
          go_upto_region 12 with (fail)
          go_wp2_with fail
          refine (AW.out _).mono ?_
          rintro e v2 ⟨rfl, k2⟩
          go_wp2_with fail
          go_ret
          exact ⟨rfl, Ba.low_low HN.out BZ.out k2⟩
      · have hRi : ((R : Int) == 0) = false := by rw [beq_eq_false_iff_ne]; omega
        clear hR RT0 SA0
        by_cases hf : Ba.fault u = 0
        · have hrd : Ba.read u = (Ba.got u, 0) := by unfold Ba.read; rw [hf, if_pos rfl]
          obtain ⟨hby, hri⟩ := Ba.got_went hf
          have hgo := Ba.got_ok u
          have hgs := Ba.got_small u
          have hbu : (⟨(Ba.bytes (Ba.got u)).toArray⟩ : ByteArray) = u := by rw [hby, Ba.ba_eq]
          have RG : Hid (∀ wx : World, Calls Try.prog 23 #[.string u] wx fun e w' => ∃ A c, e = .returned (.tuple #[.agg #[.int .i64 (Ba.got u).ix, .int .i64 (Ba.got u).ep, .slice A (Ba.got u).ops.length c], .int .i64 0]) ∧ Ba.listAt w' A (Ba.got u).ops ∧ Below wx.heap.size wx w') := fun wx => by
            have := baRead_any wx u (by omega)
            rw [hrd] at this
            exact this
          have BG : Hid (∀ (wx : World) (A : Option Addr) (c : Nat), Ba.listAt wx A (Ba.got u).ops → Calls Try.prog 16 #[.agg #[.int .i64 (Ba.got u).ix, .int .i64 (Ba.got u).ep, .slice A (Ba.got u).ops.length c]] wx fun e w' => e = .returned (.tuple #[.string u, .int .i64 0]) ∧ Below wx.heap.size wx w') := fun wx A c h => by
            have := baBytes_any (Ba.got u) c h hgo (fun o ho => ⟨(hgs.2 o ho).1, by have := (hgs.2 o ho).2.1; omega, by have := (hgs.2 o ho).2.2; omega⟩)
            unfold Ba.spelled at this
            rw [hri, if_pos rfl, hbu] at this
            exact this
          obtain ⟨gb, hgb⟩ : ∃ g, g = Ba.got u := ⟨_, rfl⟩
          rw [← hgb] at RG BG
          obtain ⟨gx, ge, G⟩ := gb
          simp only at RG BG
          have huu : (u.toList == u.toList) = true := by simp
          clear hrd hby hri hgo hgs hbu hgb hf
          go_enter Try.func6, Try.ntmps6
          go_upto_region 1 with (fail)
          rw [← HN.out]
          generalize w.alloc (.cells #[.int .i64 ix, .int .i64 ep, .slice A l.length c] 31) = W1 at *
          go_wp2_with fail
          refine GR.out.mono ?_
          rintro e w1 ⟨rfl, rfl⟩
          go_wp2_with fail
          refine (BY.out _ _ HIT1.out).mono ?_
          rintro e w2 ⟨rfl, b2⟩
          have BB := Lib.hid (B1.out.trans (b2.mono (Nat.le_of_lt hlt1)))
          clear b2 x0 x1 x2
          go_wp2_with fail
          refine (RG.out _).mono ?_
          rintro e v1 ⟨AG, cg, rfl, hg, kb⟩
          have z0 : (v1.alloc (.cells #[.int .i64 0, .int .i64 0, .slice none 0 0] 31)).frozen? ⟨v1.heap.size, 0, none⟩ = false := Sm.free_of (heap_alloc_new v1 _) 0
          have gz := heap_alloc_new v1 (.cells #[.int .i64 gx, .int .i64 ge, .slice AG G.length cg] 31)
          have q0 := Sm.cells_of gz 0 _ rfl
          have q1 := Sm.cells_of gz 1 _ rfl
          have q2 := Sm.cells_of gz 2 _ rfl
          have BZ := Lib.hid (Ba.low_alloc HN.out (Ba.low_low HN.out BB.out kb) (.cells #[.int .i64 gx, .int .i64 ge, .slice AG G.length cg] 31))
          have hg2 := hg.below ((Below.refl _ v1).alloc (Nat.le_refl _) (.cells #[.int .i64 gx, .int .i64 ge, .slice AG G.length cg] 31))
          have YG := Lib.hid (BG.out _ AG cg hg2)
          clear kb gz hg hg2
          go_upto_region 13 with (fail)
          go_wp2_with fail
          refine YG.out.mono ?_
          rintro e v2 ⟨rfl, k2⟩
          have B5 := Lib.hid (Ba.low_low HN.out BZ.out k2)
          go_wp2_with fail
          refine (AW.out _).mono ?_
          rintro e v3 ⟨rfl, k3⟩
          go_wp2_with fail
          go_ret
          exact ⟨rfl, Ba.low_low HN.out B5.out k3⟩
        · have hrd : Ba.read u = (Ba.zero, Ba.fault u) := by unfold Ba.read; rw [if_neg hf]
          obtain ⟨E, hE⟩ : ∃ E, E = Ba.fault u := ⟨_, rfl⟩
          have RB : Hid (∀ wx : World, Calls Try.prog 23 #[.string u] wx fun e w' => ∃ A c, e = .returned (.tuple #[.agg #[.int .i64 0, .int .i64 0, .slice A 0 c], .int .i64 (E : Nat)]) ∧ Below wx.heap.size wx w') := fun wx => by
            have := baRead_any wx u (by omega)
            rw [hrd, ← hE] at this
            exact this.mono fun _ _ ⟨A, c, h1, _, h3⟩ => ⟨A, c, h1, h3⟩
          have hEn : ((E : Int) != 0) = true := by rw [bne_iff_ne]; omega
          clear hrd hE hf
          go_enter Try.func6, Try.ntmps6
          go_upto_region 1 with (fail)
          rw [← HN.out]
          generalize w.alloc (.cells #[.int .i64 ix, .int .i64 ep, .slice A l.length c] 31) = W1 at *
          go_wp2_with fail
          refine GR.out.mono ?_
          rintro e w1 ⟨rfl, rfl⟩
          go_wp2_with fail
          refine (BY.out _ _ HIT1.out).mono ?_
          rintro e w2 ⟨rfl, b2⟩
          have BB := Lib.hid (B1.out.trans (b2.mono (Nat.le_of_lt hlt1)))
          clear b2 x0 x1 x2
          go_wp2_with fail
          refine (RB.out _).mono ?_
          rintro e v1 ⟨AG, cg, rfl, kb⟩
          have z0 : (v1.alloc (.cells #[.int .i64 0, .int .i64 0, .slice none 0 0] 31)).frozen? ⟨v1.heap.size, 0, none⟩ = false := Sm.free_of (heap_alloc_new v1 _) 0
          have gz := heap_alloc_new v1 (.cells #[.int .i64 0, .int .i64 0, .slice AG 0 cg] 31)
          have q0 := Sm.cells_of gz 0 _ rfl
          have q1 := Sm.cells_of gz 1 _ rfl
          have q2 := Sm.cells_of gz 2 _ rfl
          have BZ := Lib.hid (Ba.low_alloc HN.out (Ba.low_low HN.out BB.out kb) (.cells #[.int .i64 0, .int .i64 0, .slice AG 0 cg] 31))
          clear kb gz
          go_upto_region 12 with (fail)
          go_wp2_with fail
          refine (AW.out _).mono ?_
          rintro e v2 ⟨rfl, k2⟩
          go_wp2_with fail
          go_ret
          exact ⟨rfl, Ba.low_low HN.out BZ.out k2⟩
  · clear BY0 RT00 SA0
    go_enter Try.func6, Try.ntmps6
    go_upto_region 1 with (fail)
    rw [← HN.out]
    generalize w.alloc (.cells #[.int .i64 ix, .int .i64 ep, .slice A l.length c] 31) = W1 at *
    go_wp2_with fail
    refine GR.out.mono ?_
    rintro e w1 ⟨rfl, rfl⟩
    go_wp2_with fail
    refine (AW.out _).mono ?_
    rintro e w2 ⟨rfl, b2⟩
    go_wp2_with fail
    go_ret
    exact ⟨rfl, B1.out.trans (b2.mono (Nat.le_of_lt hlt1))⟩
end Go.Proofs.Ytlndggbidmmodaa
