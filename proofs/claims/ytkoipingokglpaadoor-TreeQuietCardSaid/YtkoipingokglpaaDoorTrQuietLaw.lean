/-
  TreeQuiet answers true for every row of acts and every act, and turns nothing of what was there.
-/
import Derived.Test.YtkoipingokglpaaDoorTrFront
import Derived.Test.YtkoipingokglpaaDoorR13List
import Derived.Test.YtkoipingokglpaaDoorOmGreat
import Derived.Deep.RegionHeld3
namespace Go.Proofs.YtkoipingokglpaaDoor
open Go.RowKit
set_option maxRecDepth 100000 in
set_option maxHeartbeats 8000000 in
theorem treeQuiet_any {w : World} (G : Tr.Gd w) {A : Option Addr} {a : List Tr.Ac} (c0 : Nat) (hit : Tr.actsAt w A a) (b : Tr.Ac) (_ : b.Ok) :
    Calls Tryd.prog 7 #[.slice A a.length c0, .agg #[.int .u8 (b.d : Int), .string b.p, .string b.v]] w fun e w' => e = .returned (.bool true) ∧ Below w.heap.size w w' := by
  have AW : Hid (∀ wx : World, Below w.heap.size w wx → Calls Tryd.prog 10 #[] wx fun e w' => e = .returned (.bool true) ∧ Below wx.heap.size wx w') := fun wx hb => awake15_any (G.low hb)
  have ALL : Hid (∀ (wx : World) (r : Nat) (l : List Om.Pr), Tr.Ow w wx r l → Calls Tryd.prog 20 #[.pointer (some ⟨r, 0, none⟩)] wx fun e w' => ∃ A c, e = .returned (.slice A l.length c) ∧ Om.listAt w' A l ∧ Below wx.heap.size wx w') := fun wx r l h => h.allC
  have TX : Hid (∀ (wx : World) (r : Nat) (l : List Om.Pr), Tr.Ow w wx r l → Calls Tryd.prog 21 #[.pointer (some ⟨r, 0, none⟩)] wx fun e w' => ∃ B q, e = .returned (.slice B (Tr.txl l).length q) ∧ Om.SRow w' wx.heap.size B q (Tr.txl l) ∧ Below wx.heap.size wx w') := fun wx r l h => by
    have := h.textsC G
    rw [Tr.txl_length]
    exact this
  have SETC : Hid (∀ (wx : World) (r : Nat) (l : List Om.Pr) (p v : ByteArray), p.size ≤ 1000 → v.size ≤ 1000 → Tr.Ow w wx r l → Calls Tryd.prog 16 #[.pointer (some ⟨r, 0, none⟩), .string p, .string v] wx fun e w' => e = .returned (.int .i64 (Tr.setE l p v : Nat)) ∧ Tr.Ow w w' r (Tr.setR l p v) ∧ wx.grownBy w' (some r)) := fun wx r l p v hp hv h => h.setC G p v (by omega) (by omega)
  have DROPC : Hid (∀ (wx : World) (r : Nat) (l : List Om.Pr) (p : ByteArray), p.size ≤ 1000 → Tr.Ow w wx r l → Calls Tryd.prog 17 #[.pointer (some ⟨r, 0, none⟩), .string p] wx fun e w' => e = .returned (.bool (Om.get p l).isSome) ∧ Tr.Ow w w' r (Om.del p l) ∧ wx.grownBy w' (some r)) := fun wx r l p hp h => h.dropC G p (by omega)
  obtain ⟨g, hg⟩ := Tr.fairA_or a
  obtain ⟨g2, hg2⟩ := Tr.fairA_or [b]
  have HG := Lib.hid hg
  have HG2 := Lib.hid hg2
  have HIT := Lib.hid hit
  have GR1 : Hid (∀ wx, Below w.heap.size w wx → Calls Tryd.prog 23 #[.slice A a.length c0] wx fun e w' => e = .returned (.bool g) ∧ wx = w') := fun wx hb => great15_any (HIT.out.below hb) g HG.out
  have GR2 : Hid (∀ wx N, Tr.actsAt wx (some ⟨N, 0, none⟩) [b] → Calls Tryd.prog 23 #[.slice (some ⟨N, 0, none⟩) 1 1] wx fun e w' => e = .returned (.bool g2) ∧ wx = w') := fun wx N h => great15_any (c := 1) h g2 HG2.out
  have NEW : Hid (∀ wx : World, Below w.heap.size w wx → Calls Tryd.prog 24 #[] wx fun e w' => ∃ r, e = .returned (.pointer (some ⟨r, 0, none⟩)) ∧ Tr.Ow w w' r [] ∧ wx.heap.size ≤ r ∧ Below wx.heap.size wx w') := fun wx hb => Tr.newC G hb
  have PL : Hid (∀ (wx : World) (r : Nat) (l : List Om.Pr) (A : Option Addr) (c : Nat) (m : List Tr.Ac), Tr.Ow w wx r l → Tr.actsAt wx A m → Tr.Off A m r → Tr.FairA m → Calls Tryd.prog 25 #[.pointer (some ⟨r, 0, none⟩), .slice A m.length c] wx fun e w' => e = .returned (.tuple #[]) ∧ Tr.Ow w w' r (Tr.play l m) ∧ wx.grownBy w' (some r)) := fun wx r l A c m h1 h2 h3 h4 => h1.playC G h2 h3 h4
  have TW : Hid (∀ (wx : World) (r : Nat) (l : List Om.Pr), Tr.Ow w wx r l → Calls Tryd.prog 22 #[.pointer (some ⟨r, 0, none⟩)] wx fun e w' => e = .returned (.pointer (some ⟨wx.heap.size, 0, none⟩)) ∧ Tr.Ow w w' r l ∧ Tr.Ow w w' wx.heap.size l ∧ r < wx.heap.size ∧ Below wx.heap.size wx w') := fun wx r l h => h.twinC
  have ONE : Hid (∀ wx : World, Tr.actsAt (wx.alloc (.cells #[.int .u8 (b.d : Int), .string b.p, .string b.v] 53)) (some ⟨wx.heap.size, 0, none⟩) [b]) := fun wx => Tr.oneAt wx b
  obtain ⟨w1, hw1⟩ : ∃ w1, w1 = w.alloc (.cells #[.int .u8 (b.d : Int), .string b.p, .string b.v] 53) := ⟨_, rfl⟩
  have b1 : Below w.heap.size w w1 := by rw [hw1]; exact (Below.refl _ w).alloc (Nat.le_refl _) _
  have B1 := Lib.hid b1
  obtain ⟨N, hN⟩ : ∃ N, N = w.heap.size := ⟨_, rfl⟩
  have G1 : Hid (w1.heap[N]? = some (.cells #[.int .u8 (b.d : Int), .string b.p, .string b.v] 53 (0, 0))) := by rw [hw1, hN]; exact heap_alloc_new _ _
  clear hit hg hg2 b1 G
  cases g
  case true =>
    clear G1 HG HG2
    go_enter Tryd.func7, Tryd.ntmps7
    go_upto_region 1 with (fail)
    change Code.wp _ _ _ _ (w.alloc (.cells #[.int .u8 (b.d : Int), .string b.p, .string b.v] 53))
    rw [← hw1]
    clear hw1 hN
    go_wp2_with first
      | (go_at_call 23; refine (GR1.out _ B1.out).mono ?_; rintro e w2 ⟨rfl, rfl⟩)
      | (go_at_call 10; refine (AW.out _ B1.out).mono ?_; rintro e w3 ⟨rfl, k3⟩)
    go_ret
    exact ⟨rfl, B1.out.trans (k3.mono B1.out.size)⟩
  case false =>
    have HFA : Hid (Tr.FairA a) := Classical.byContradiction fun h => by have := HG.out.2 h; cases this
    clear HG
    have HIC : (Tryd.prog.info? 53).map (·.size) = some (#[.int .u8 (b.d : Int), .string b.p, .string b.v] : Array Value).size := Tr.infoAct _ rfl
    cases g2
    case true =>
      clear HG2 HFA
      have B2 : Hid (Below w.heap.size w (w1.alloc (.cells #[.int .u8 (b.d : Int), .string b.p, .string b.v] 53))) := B1.out.alloc B1.out.size _
      have ON := Lib.hid (ONE.out w1)
      go_enter Tryd.func7, Tryd.ntmps7
      go_upto_region 1 with (fail)
      change Code.wp _ _ _ _ (w.alloc (.cells #[.int .u8 (b.d : Int), .string b.p, .string b.v] 53))
      rw [← hw1, ← hN]
      clear hw1 hN
      go_wp2_with first
        | (go_at_call 23; refine (GR1.out _ B1.out).mono ?_; rintro e w2 ⟨rfl, rfl⟩; clear GR1)
        | (refine Sm.wpList_load_row_g 53 (.tmp 3) rfl N rfl 53 #[.int .u8 (b.d : Int), .string b.p, .string b.v] (0, 0) _ (by exact G1.out) Tryd.underlying53 rfl HIC ?_ ?_; rotate_left; rfl)
        | (go_at_call 23; refine (GR2.out _ _ ON.out).mono ?_; rintro e w2 ⟨rfl, rfl⟩)
        | (go_at_call 10; refine (AW.out _ B2.out).mono ?_; rintro e w3 ⟨rfl, k3⟩)
      go_ret
      exact ⟨rfl, B2.out.trans (k3.mono B2.out.size)⟩
    case false =>
      have HFB : Hid (Tr.FairA [b]) := Classical.byContradiction fun h => by have := HG2.out.2 h; cases this
      clear HG2
      have B2 : Hid (Below w.heap.size w (w1.alloc (.cells #[.int .u8 (b.d : Int), .string b.p, .string b.v] 53))) := B1.out.alloc B1.out.size _
      have ON := Lib.hid (ONE.out w1)
      have HNL : Hid (N < w1.heap.size) := Sm.lt_of G1.out
      have G2 : Hid ((w1.alloc (.cells #[.int .u8 (b.d : Int), .string b.p, .string b.v] 53)).heap[N]? = some (.cells #[.int .u8 (b.d : Int), .string b.p, .string b.v] 53 (0, 0))) := (((Below.refl _ w1).alloc (Nat.le_refl _) _).block N HNL.out).trans G1.out
      obtain ⟨l, hl⟩ : ∃ l, l = Tr.play [] a := ⟨_, rfl⟩
      have hfit : Tr.Fit l := by rw [hl]; exact Tr.play_fit Tr.Fit.nil a
      have HF := Lib.hid hfit
      have HL := Lib.hid hl
      obtain ⟨hpb, hvb⟩ := HFB.out.one
      have HPB := Lib.hid hpb
      have HVB := Lib.hid hvb
      have RTL : Hid (∀ (wx : World) (r : Nat), Tr.Ow w wx r l → Calls Tryd.prog 18 #[.pointer (some ⟨r, 0, none⟩)] wx fun e w' => e = .returned (.agg (Lib.byteCells (Tr.root l)).toArray) ∧ Below wx.heap.size wx w') := fun wx r h => h.rootC
      have heql : ∀ wx : World, (Op.equalIn 10000 23 (.agg (Lib.byteCells (Tr.root l)).toArray) (.agg (Lib.byteCells (Tr.root l)).toArray)).run Tryd.prog wx = .ok true wx := fun wx => by
        have := Sm.eq_hash (Tr.root l) (Tr.root l) (Tr.nd_length _ _ _) (Tr.nd_length _ _ _) wx
        rw [this]
        simp
      have HEQ : Hid (∃ cr, (∀ (wx : World) (r : Nat), Tr.Ow w wx r l → Calls Tryd.prog 18 #[.pointer (some ⟨r, 0, none⟩)] wx fun e w' => e = .returned (.agg cr) ∧ Below wx.heap.size wx w') ∧ ∀ wx : World, (Op.equalIn 10000 23 (.agg cr) (.agg cr)).run Tryd.prog wx = .ok true wx) := ⟨_, RTL.out, heql⟩
      have SAM : Hid (∀ (wx : World) (A C : Option Addr) (c d : Nat), Om.listAt wx A l → Om.listAt wx C l → Calls Tryd.prog 27 #[.slice A l.length c, .slice C l.length d] wx fun e w' => e = .returned (.bool true) ∧ Below wx.heap.size wx w') := fun wx A C c d h1 h2 => r13Same_any c d h1 h2 (by have := HF.out.len; omega) true ⟨fun _ => rfl, fun _ => rfl⟩
      have SMT : Hid (∀ (wx : World) (A C : Option Addr) (c d : Nat), Om.txtsAt wx A (Tr.txl l) → Om.txtsAt wx C (Tr.txl l) → Calls Tryd.prog 29 #[.slice A (Tr.txl l).length c, .slice C (Tr.txl l).length d] wx fun e w' => e = .returned (.bool true) ∧ Below wx.heap.size wx w') := fun wx A C c d h1 h2 => sameTexts_any c d h1 h2 (by rw [Tr.txl_length]; decide) true ⟨fun _ => rfl, fun _ => rfl⟩
      clear hl hfit hpb hvb RTL heql
      go_enter Tryd.func7, Tryd.ntmps7
      go_upto_region 1 with (fail)
      change Code.wp _ _ _ _ (w.alloc (.cells #[.int .u8 (b.d : Int), .string b.p, .string b.v] 53))
      rw [← hw1, ← hN]
      clear hw1 hN
      go_upto_region 3 with first
        | (go_at_call 23; refine (GR1.out _ B1.out).mono ?_; rintro e w2 ⟨rfl, rfl⟩; clear GR1)
        | (refine Sm.wpList_load_row_g 53 (.tmp 3) rfl N rfl 53 #[.int .u8 (b.d : Int), .string b.p, .string b.v] (0, 0) _ (by exact G1.out) Tryd.underlying53 rfl HIC ?_ ?_; rotate_left; rfl)
        | (go_at_call 23; refine (GR2.out _ _ ON.out).mono ?_; rintro e w2 ⟨rfl, rfl⟩)
      clear GR2 ON G1
      have HNL2 := Lib.hid (Sm.lt_of G2.out)
      generalize w1.alloc (.cells #[.int .u8 (b.d : Int), .string b.p, .string b.v] 53) = W2 at *
      generalize w1.heap.size = N1 at *
      clear HNL B1
      go_upto_region 4 with (go_at_call 24; refine (NEW.out _ B2.out).mono ?_; rintro e w3 ⟨r, rfl, o3, hr3, k3⟩)
      have O3 := Lib.hid o3
      have G3 := Lib.hid ((k3.block N HNL2.out).trans G2.out)
      have HNR : Hid (some N ≠ some r) := fun e => by have := HNL2.out; have := Option.some.inj e; omega
      have PL3 := Lib.hid (PL.out _ _ _ A c0 a O3.out (HIT.out.below O3.out.bel) (Tr.off_of HIT.out O3.out.low) HFA.out)
      rw [← HL.out] at PL3
      clear o3 hr3 k3 G2 HNL2 B2 NEW
      go_upto_region 5 with (go_at_call 25; refine PL3.out.mono ?_; rintro e w4 ⟨rfl, o4, g4⟩)
      have O4 := Lib.hid o4
      have G4 := Lib.hid ((g4.block N (Sm.lt_of G3.out) HNR.out).trans G3.out)
      clear o4 g4 PL3 O3 G3 PL
      go_upto_region 6 with (go_at_call 22; refine (TW.out _ _ _ O4.out).mono ?_; rintro e w5 ⟨rfl, o5, q5, hrq, k5⟩)
      have O5 := Lib.hid o5
      have Q5 := Lib.hid q5
      have HRQ := Lib.hid hrq
      have G5 := Lib.hid ((k5.block N (Sm.lt_of G4.out)).trans G4.out)
      clear o5 q5 hrq k5 O4 G4 TW ONE HFA HIT HL
      generalize w4.heap.size = q at *
      have y0 := Sm.cells_of G5.out 0 _ rfl
      have y1 := Sm.cells_of G5.out 1 _ rfl
      have y2 := Sm.cells_of G5.out 2 _ rfl
      by_cases hd0 : b.d = 0
      · have hd0i : ((b.d : Int) == 0) = true := by rw [hd0]; rfl
        by_cases he : Tr.setE l b.p b.v = 0
        · obtain ⟨m, hm⟩ : ∃ m, m = Om.put b.p b.v l := ⟨_, rfl⟩
          obtain ⟨hs1, hs2⟩ := Tr.set_again HF.out he
          have hsr : Tr.setR l b.p b.v = m := by unfold Tr.setR; rw [if_pos he, hm]
          rw [← hm] at hs1 hs2
          have SET1 : Hid (∀ wx : World, Tr.Ow w wx r l → Calls Tryd.prog 16 #[.pointer (some ⟨r, 0, none⟩), .string b.p, .string b.v] wx fun e w' => e = .returned (.int .i64 0) ∧ Tr.Ow w w' r m ∧ wx.grownBy w' (some r)) := fun wx h => by
            have := SETC.out wx r l b.p b.v HPB.out HVB.out h
            rw [he, hsr] at this
            exact this
          have SET2 : Hid (∀ wx : World, Tr.Ow w wx r m → Calls Tryd.prog 16 #[.pointer (some ⟨r, 0, none⟩), .string b.p, .string b.v] wx fun e w' => e = .returned (.int .i64 0) ∧ Tr.Ow w w' r m ∧ wx.grownBy w' (some r)) := fun wx h => by
            have := SETC.out wx r m b.p b.v HPB.out HVB.out h
            rw [hs1, hs2] at this
            exact this
          have DRP : Hid (∀ wx : World, Tr.Ow w wx r m → Calls Tryd.prog 17 #[.pointer (some ⟨r, 0, none⟩), .string b.p] wx fun e w' => e = .returned (.bool true) ∧ Tr.Ow w w' r (Om.del b.p m) ∧ wx.grownBy w' (some r)) := fun wx h => by
            have := DROPC.out wx r m b.p HPB.out h
            rw [hm, Tr.get_there HF.out.rises, ← hm] at this
            exact this
          obtain ⟨x, hx⟩ : ∃ x, x = Tr.root m := ⟨_, rfl⟩
          have RTM : Hid (∀ wx : World, Tr.Ow w wx r m → Calls Tryd.prog 18 #[.pointer (some ⟨r, 0, none⟩)] wx fun e w' => e = .returned (.agg (Lib.byteCells x).toArray) ∧ Below wx.heap.size wx w') := fun wx h => by rw [hx]; exact h.rootC
          have HLX : Hid (x.length = 32) := by show _ = _; rw [hx]; exact Tr.nd_length _ _ _
          have HXX : Hid ((x == x) = true) := by show _ = _; rw [beq_iff_eq]
          obtain ⟨c1, hc1⟩ : ∃ c, c = (Lib.byteCells x).toArray := ⟨_, rfl⟩
          have hz1 : c1.size = 32 := by rw [hc1]; exact Tr.size32 HLX.out
          have HZ1 := Lib.hid hz1
          have hone1 : Hid (c1.all (·.oneCell') = true) := by show _ = _; rw [hc1]; exact Sm.bytes_one _
          have HC1 := Lib.hid hc1
          have RTC : Hid (∀ wx : World, Tr.Ow w wx r m → Calls Tryd.prog 18 #[.pointer (some ⟨r, 0, none⟩)] wx fun e w' => e = .returned (.agg c1) ∧ Below wx.heap.size wx w') := fun wx h => by rw [hc1]; exact RTM.out wx h
          clear hx hc1 hm hs1 hs2 hsr he hd0 HEQ SAM SMT SETC DROPC TX ALL Q5
          go_upto_region 9 with (go_at_call 16; refine (SET1.out _ O5.out).mono ?_; rintro e w6 ⟨rfl, o6, g6⟩)
          have O6 := Lib.hid o6
          have G6 := Lib.hid ((g6.block N (Sm.lt_of G5.out) HNR.out).trans G5.out)
          clear o6 g6 O5 G5 y0 y1 y2
          go_wp2_with fail
          refine (RTC.out _ O6.out).mono ?_
          rintro e w7 ⟨rfl, k7⟩
          have O7 := Lib.hid (O6.out.step k7)
          have G7 := Lib.hid ((k7.block N (Sm.lt_of G6.out)).trans G6.out)
          have HMR : Hid (some w7.heap.size ≠ some r) := fun e => by have := O7.out.tree.lt; have := Option.some.inj e; omega
          have hst : ∀ (c : Array Value), c.size = 32 → (storeCells ⟨w7.heap.size, 0, none⟩ c1.toList).run Tryd.prog (w7.alloc (.cells c 23)) = .ok () (w7.alloc (.cells c1 23)) := fun c hc =>
            run_storeCells_new (P := Tryd.prog) w7 23 c c1 (Sm.infoHash HZ1.out) (by rw [HZ1.out]; exact hc) hone1.out
          have k8 : Below w7.heap.size w7 (w7.alloc (.cells c1 23)) := (Below.refl _ w7).alloc (Nat.le_refl _) _
          have H8 := Lib.hid (heap_alloc_new w7 (.cells c1 23))
          have O8 := Lib.hid (O7.out.step k8)
          have G8 := Lib.hid ((k8.block N (Sm.lt_of G7.out)).trans G7.out)
          clear k7 k8 O6 O7 G6 G7
          go_upto_region 10 with (fail)
          clear hst
          generalize w7.alloc (.cells c1 23) = w8 at *
          generalize w7.heap.size = M at *
          have y1 := Sm.cells_of G8.out 1 _ rfl
          have y2 := Sm.cells_of G8.out 2 _ rfl
          go_upto_region 11 with (go_at_call 16; refine (SET2.out _ O8.out).mono ?_; rintro e w9 ⟨rfl, o9, g9⟩)
          obtain ⟨W, hW⟩ : ∃ W, W = w9.drew := ⟨_, rfl⟩
          have HDO : Hid (Tr.Ow w W r m) := by rw [hW]; exact o9.step (Below.refl _ _).drew
          have HD1 : Hid (W.heap[M]? = some (.cells (Lib.byteCells x).toArray 23 (0, 0))) := by
            rw [hW, ← HC1.out]
            exact (g9.block M (Sm.lt_of H8.out) HMR.out).trans H8.out
          have HDG : Hid (W.heap[N]? = some (.cells #[.int .u8 (b.d : Int), .string b.p, .string b.v] 53 (0, 0))) := by rw [hW]; exact (g9.block N (Sm.lt_of G8.out) HNR.out).trans G8.out
          have HDC : Hid (W.cell? ⟨N, 1, none⟩ = some (.string b.p)) := Sm.cells_of HDG.out 1 _ rfl
          clear o9 g9 O8 H8 G8 y1 y2
          refine wp_region_held_drew (S := fun w' => w'.rangeAt M 0 (Lib.byteCells x) ∧ w'.cell? ⟨N, 1, none⟩ = some (.string b.p)) (by kernel_rfl) ⟨hW ▸ Sm.range_row HD1.out, hW ▸ HDC.out⟩ (fun hHeld => ?_)
          rw [← hW] at hHeld ⊢
          clear hW
          refine wpAnyH_take (i := 0) (oi := ⟨some 43, _, _, _, _, _⟩) (v := .int .i64 0) rfl (by kernel_rfl) (by kernel_rfl) (by kernel_rfl) (fun _ _ _ h => h) (Or.inl ⟨by rfl, ?_⟩) (by assumption) ?_
          · intro w hSw; (try dsimp only at hSw); go_simp
          simp only [Act.put, List.setIfInBounds_toArray, List.set_cons_zero, List.set_cons_succ]
          refine wpAnyH_take (i := 1) (oi := ⟨some 44, _, _, _, _, _⟩) (v := .bool true) rfl (by kernel_rfl) (by kernel_rfl) (by kernel_rfl) (fun _ _ _ h => h) (Or.inl ⟨by rfl, ?_⟩) (by assumption) ?_
          · intro w hSw; (try dsimp only at hSw); go_simp
          simp only [Act.put, List.setIfInBounds_toArray, List.set_cons_zero, List.set_cons_succ]
          refine wpAnyH_take (i := 2) (oi := ⟨some 45, _, _, _, _, _⟩) (v := .bool true) rfl (by kernel_rfl) (by kernel_rfl) (by kernel_rfl) (fun _ _ _ h => h) (Or.inl ⟨by rfl, ?_⟩) (by assumption) ?_
          · intro w hSw; (try dsimp only at hSw); go_simp
          simp only [Act.put, List.setIfInBounds_toArray, List.set_cons_zero, List.set_cons_succ]
          refine wpAnyH_take (i := 3) (oi := ⟨some 46, _, _, _, _, _⟩) (v := .pointer (some ⟨r, 0, none⟩)) rfl (by kernel_rfl) (by kernel_rfl) (by kernel_rfl) (fun _ _ _ h => h) (Or.inl ⟨by rfl, ?_⟩) (by assumption) ?_
          · intro w hSw; (try dsimp only at hSw); go_simp
          simp only [Act.put, List.setIfInBounds_toArray, List.set_cons_zero, List.set_cons_succ]
          refine wpAnyH_take (i := 5) (oi := ⟨some 48, _, _, _, _, _⟩) (v := .agg (Lib.byteCells x).toArray) rfl (by kernel_rfl) (by kernel_rfl) (by kernel_rfl) (fun _ _ _ h => h) (yieldsIf_load_mid (by rfl) _ _ rfl _ _ rfl (Lib.byteCells x) _ (fun w hS => hS.1) Tryd.underlying23 rfl (Sm.infoHash (Tr.size32 HLX.out))) (by assumption) ?_
          simp only [Act.put, List.setIfInBounds_toArray, List.set_cons_zero, List.set_cons_succ]
          refine wpAnyH_ready (rs := [4]) (by kernel_rfl) (by simp) ?_
          refine (AllReadyH.cons (o := ⟨some 47, _, _, _, _, _⟩) rfl (fun K hK => ?_) AllReadyH.nil)
          go_simp
          refine ((RTM.out _ HDO.out)).mono ?_
          rintro e w10 ⟨rfl, k10⟩
          have O10 := Lib.hid (HDO.out.step k10)
          have H10 := Lib.hid ((k10.block _ (Sm.lt_of HD1.out)).trans HD1.out)
          have G10 := Lib.hid ((k10.block _ (Sm.lt_of HDG.out)).trans HDG.out)
          clear k10
          refine hK.out _ _ ⟨Sm.range_row H10.out, Sm.cells_of G10.out 1 _ rfl⟩ (fun hHeld => ?_)
          clear hK K
          refine wpAnyH_take (i := 6) (oi := ⟨some 49, _, _, _, _, _⟩) (v := .bool (x == x)) rfl (by kernel_rfl) (by kernel_rfl) (by kernel_rfl) (fun _ _ _ h => h) (Tr.yields_heq (by rfl) _ _ _ rfl x x HLX.out HLX.out rfl rfl) (by assumption) ?_
          simp only [Act.put, List.setIfInBounds_toArray, List.set_cons_zero, List.set_cons_succ]
          rw [HXX.out]
          refine wpAnyH_take (i := 7) (oi := ⟨some 50, _, _, _, _, _⟩) (v := .bool true) rfl (by kernel_rfl) (by kernel_rfl) (by kernel_rfl) (fun _ _ _ h => h) (Or.inl ⟨by rfl, ?_⟩) (by assumption) ?_
          · intro w hSw; (try dsimp only at hSw); go_simp
          simp only [Act.put, List.setIfInBounds_toArray, List.set_cons_zero, List.set_cons_succ]
          refine wpAnyH_take (i := 8) (oi := ⟨some 51, _, _, _, _, _⟩) (v := .bool true) rfl (by kernel_rfl) (by kernel_rfl) (by kernel_rfl) (fun _ _ _ h => h) (Or.inl ⟨by rfl, ?_⟩) (by assumption) ?_
          · intro w hSw; (try dsimp only at hSw); go_simp
          simp only [Act.put, List.setIfInBounds_toArray, List.set_cons_zero, List.set_cons_succ]
          refine wpAnyH_take (i := 9) (oi := ⟨some 52, _, _, _, _, _⟩) (v := .pointer (some ⟨r, 0, none⟩)) rfl (by kernel_rfl) (by kernel_rfl) (by kernel_rfl) (fun _ _ _ h => h) (Or.inl ⟨by rfl, ?_⟩) (by assumption) ?_
          · intro w hSw; (try dsimp only at hSw); go_simp
          simp only [Act.put, List.setIfInBounds_toArray, List.set_cons_zero, List.set_cons_succ]
          refine wpAnyH_take (i := 10) (oi := ⟨some 53, _, _, _, _, _⟩) (v := .pointer (some ⟨N, 1, none⟩)) rfl (by kernel_rfl) (by kernel_rfl) (by kernel_rfl) (fun _ _ _ h => h) (Or.inl ⟨by rfl, ?_⟩) (by assumption) ?_
          · intro w hSw; (try dsimp only at hSw); go_simp
          simp only [Act.put, List.setIfInBounds_toArray, List.set_cons_zero, List.set_cons_succ]
          refine wpAnyH_take (i := 11) (oi := ⟨some 54, _, _, _, _, _⟩) (v := .string b.p) rfl (by kernel_rfl) (by kernel_rfl) (by kernel_rfl) (fun _ _ _ h => h) (Or.inl ⟨by rfl, ?_⟩) (by assumption) ?_
          · intro w hSw; (try dsimp only at hSw); go_simp
          simp only [Act.put, List.setIfInBounds_toArray, List.set_cons_zero, List.set_cons_succ]
          refine wpAnyH_ready (rs := [12]) (by kernel_rfl) (by simp) ?_
          refine (AllReadyH.cons (o := ⟨some 55, _, _, _, _, _⟩) rfl (fun K hK => ?_) AllReadyH.nil)
          go_simp
          refine ((DRP.out _ O10.out)).mono ?_
          rintro e w11 ⟨rfl, o11, g11⟩
          have O11 := Lib.hid o11
          have H11 := Lib.hid ((g11.block _ (Sm.lt_of H10.out) HMR.out).trans H10.out)
          have G11 := Lib.hid ((g11.block _ (Sm.lt_of G10.out) HNR.out).trans G10.out)
          clear o11 g11
          refine hK.out _ _ ⟨Sm.range_row H11.out, Sm.cells_of G11.out 1 _ rfl⟩ (fun hHeld => ?_)
          clear hK K
          refine wpAnyH_take (i := 13) (oi := ⟨some 56, _, _, _, _, _⟩) (v := .bool true) rfl (by kernel_rfl) (by kernel_rfl) (by kernel_rfl) (fun _ _ _ h => h) (Or.inl ⟨by rfl, ?_⟩) (by assumption) ?_
          · intro w hSw; (try dsimp only at hSw); go_simp
          simp only [Act.put, List.setIfInBounds_toArray, List.set_cons_zero, List.set_cons_succ]
          refine wpAnyH_take (i := 14) (oi := ⟨some 57, _, _, _, _, _⟩) (v := .bool true) rfl (by kernel_rfl) (by kernel_rfl) (by kernel_rfl) (fun _ _ _ h => h) (Or.inl ⟨by rfl, ?_⟩) (by assumption) ?_
          · intro w hSw; (try dsimp only at hSw); go_simp
          simp only [Act.put, List.setIfInBounds_toArray, List.set_cons_zero, List.set_cons_succ]
          refine wpAnyH_ready (rs := [15]) (by kernel_rfl) (by simp) ?_
          refine (AllReadyH.cons (o := ⟨some 58, _, _, _, _, _⟩) rfl (fun K hK => ?_) AllReadyH.nil)
          go_simp
          refine ((AW.out _ O11.out.bel)).mono ?_
          rintro e w12 ⟨rfl, k12⟩
          have B12 : Hid (Below w.heap.size w w12) := O11.out.bel.trans (k12.mono O11.out.bel.size)
          have H12 := Lib.hid ((k12.block _ (Sm.lt_of H11.out)).trans H11.out)
          have G12 := Lib.hid ((k12.block _ (Sm.lt_of G11.out)).trans G11.out)
          clear k12
          refine hK.out _ _ ⟨Sm.range_row H12.out, Sm.cells_of G12.out 1 _ rfl⟩ (fun hHeld => ?_)
          clear hK K
          refine wpAnyH_take (i := 16) (oi := ⟨some 59, _, _, _, _, _⟩) (v := .bool true) rfl (by kernel_rfl) (by kernel_rfl) (by kernel_rfl) (fun _ _ _ h => h) (Or.inl ⟨by rfl, ?_⟩) (by assumption) ?_
          · intro w hSw; (try dsimp only at hSw); go_simp
          simp only [Act.put, List.setIfInBounds_toArray, List.set_cons_zero, List.set_cons_succ]
          refine wpAnyH_take (i := 17) (oi := ⟨some 4, _, _, _, _, _⟩) (v := .bool true) rfl (by kernel_rfl) (by kernel_rfl) (by kernel_rfl) (fun _ _ _ h => h) (Or.inl ⟨by rfl, ?_⟩) (by assumption) ?_
          · intro w hSw; (try dsimp only at hSw); go_simp
          simp only [Act.put, List.setIfInBounds_toArray, List.set_cons_zero, List.set_cons_succ]
          refine wpAnyH_done (by kernel_rfl) ?_ _
          go_wp2
          go_ret
          exact ⟨rfl, B12.out⟩
        · have hei : (((Tr.setE l b.p b.v : Nat) : Int) == 0) = false := by rw [beq_eq_false_iff_ne]; omega
          have hsr : Tr.setR l b.p b.v = l := by unfold Tr.setR; rw [if_neg he]
          have SET1 : Hid (∀ wx : World, Tr.Ow w wx r l → Calls Tryd.prog 16 #[.pointer (some ⟨r, 0, none⟩), .string b.p, .string b.v] wx fun e w' => e = .returned (.int .i64 (Tr.setE l b.p b.v : Nat)) ∧ Tr.Ow w w' r l ∧ wx.grownBy w' (some r)) := fun wx h => by
            have := SETC.out wx r l b.p b.v HPB.out HVB.out h
            rw [hsr] at this
            exact this
          obtain ⟨E, hE⟩ : ∃ E, E = Tr.setE l b.p b.v := ⟨_, rfl⟩
          rw [← hE] at SET1 hei
          clear hsr he hd0 hE SETC DROPC HFB
          obtain ⟨cr, rtl, heq⟩ := HEQ.out
          have RTL := Lib.hid rtl
          clear rtl HEQ
          go_wp2_with first
            | (go_at_call 16; refine (SET1.out _ O5.out).mono ?_; rintro e w6 ⟨rfl, o6, g6⟩; have O6 := Lib.hid o6; have Q6 : Hid (Tr.Ow w w6 q l) := (Q5.out.beside O5.out (by have := HRQ.out; omega) g6); clear o6 g6 Q5 y0 y1 y2)
            | (go_at_call 18; refine (RTL.out _ _ O6.out).mono ?_; rintro e w10 ⟨rfl, k10⟩; have O10 := Lib.hid (O6.out.step k10); have Q10 := Lib.hid (Q6.out.step k10); clear k10 O6)
            | (go_at_call 18; refine (RTL.out _ _ Q10.out).mono ?_; rintro e w11 ⟨rfl, k11⟩; have O11 := Lib.hid (O10.out.step k11); have Q11 := Lib.hid (Q10.out.step k11); clear k11 Q10)
            | (go_at_call 20; refine (ALL.out _ _ _ O11.out).mono ?_; rintro e w12 ⟨A12, c12, rfl, l12, k12⟩; have L12 := Lib.hid l12; have O12 := Lib.hid (O11.out.step k12); have Q12 := Lib.hid (Q11.out.step k12); clear k12 l12 O11)
            | (go_at_call 20; refine (ALL.out _ _ _ Q12.out).mono ?_; rintro e w13 ⟨A13, c13, rfl, l13, k13⟩; have L13 := Lib.hid l13; have M13 := Lib.hid (L12.out.below k13); have O13 := Lib.hid (O12.out.step k13); have Q13 := Lib.hid (Q12.out.step k13); clear k13 l13 Q12)
            | (go_at_call 27; refine (SAM.out _ _ _ _ _ M13.out L13.out).mono ?_; rintro e w14 ⟨rfl, k14⟩; have O14 := Lib.hid (O13.out.step k14); have Q14 := Lib.hid (Q13.out.step k14); clear k14)
            | (go_at_call 21; refine (TX.out _ _ _ O14.out).mono ?_; rintro e w15 ⟨A15, c15, rfl, r15, k15⟩; have R15 := Lib.hid r15; have Q15 := Lib.hid (Q14.out.step k15); clear r15 k15 O14)
            | (go_at_call 21; refine (TX.out _ _ _ Q15.out).mono ?_; rintro e w16 ⟨A16, c16, rfl, r16, k16⟩; have R16 := Lib.hid r16; have S16 := Lib.hid (R15.out.low k16); have Q16 := Lib.hid (Q15.out.step k16); clear r16 k16 Q15)
            | (go_at_call 29; refine (SMT.out _ _ _ _ _ S16.out.txtsAt R16.out.txtsAt).mono ?_; rintro e w17 ⟨rfl, k17⟩; have Q17 := Lib.hid (Q16.out.step k17); clear k17)
            | (go_at_call 10; refine (AW.out _ Q17.out.bel).mono ?_; rintro e w18 ⟨rfl, k18⟩)
          go_ret
          exact ⟨rfl, Q17.out.bel.trans (k18.mono Q17.out.bel.size)⟩
      · have hd0i : ((b.d : Int) == 0) = false := by rw [beq_eq_false_iff_ne]; omega
        by_cases hf : (Om.get b.p l).isSome = true
        · obtain ⟨m, hm⟩ : ∃ m, m = Om.del b.p l := ⟨_, rfl⟩
          have hg0 : (Om.get b.p m).isSome = false := by rw [hm, Tr.get_gone HF.out.rises]; rfl
          have hdm : Om.del b.p m = m := Tr.del_none hg0
          have hlen : m.length + 1 = l.length := by rw [hm]; exact Tr.del_length hf
          have DRP1 : Hid (∀ wx : World, Tr.Ow w wx r l → Calls Tryd.prog 17 #[.pointer (some ⟨r, 0, none⟩), .string b.p] wx fun e w' => e = .returned (.bool true) ∧ Tr.Ow w w' r m ∧ wx.grownBy w' (some r)) := fun wx h => by
            have := DROPC.out wx r l b.p HPB.out h
            rw [hf, ← hm] at this
            exact this
          have DRP2 : Hid (∀ wx : World, Tr.Ow w wx r m → Calls Tryd.prog 17 #[.pointer (some ⟨r, 0, none⟩), .string b.p] wx fun e w' => e = .returned (.bool false) ∧ Tr.Ow w w' r m ∧ wx.grownBy w' (some r)) := fun wx h => by
            have := DROPC.out wx r m b.p HPB.out h
            rw [hg0, hdm] at this
            exact this
          have hadd : IntKind.i64.wrap ((m.length : Int) + 1) = ((l.length : Nat) : Int) := by have := HF.out.len; simp [IntKind.wrap, IntKind.bits, IntKind.signed]; omega
          clear hm hg0 hdm hlen hf hd0 HEQ SAM SMT SETC DROPC TX HFB
          go_wp2_with first
            | (go_at_call 17; refine (DRP1.out _ O5.out).mono ?_; rintro e w6 ⟨rfl, o6, g6⟩; have O6 := Lib.hid o6; have Q6 : Hid (Tr.Ow w w6 q l) := (Q5.out.beside O5.out (by have := HRQ.out; omega) g6); have z1 : w6.cell? ⟨N, 1, none⟩ = some (.string b.p) := Sm.cells_of ((g6.block N (Sm.lt_of G5.out) HNR.out).trans G5.out) 1 _ rfl; clear o6 g6 Q5 O5 y0 y1 y2)
            | (go_at_call 17; refine (DRP2.out _ O6.out).mono ?_; rintro e w7 ⟨rfl, o7, g7⟩; have O7 := Lib.hid o7; have Q7 : Hid (Tr.Ow w w7 q l) := (Q6.out.beside O6.out (by have := HRQ.out; omega) g7); clear o7 g7 Q6 z1)
            | (go_at_call 20; refine (ALL.out _ _ _ O7.out).mono ?_; rintro e w12 ⟨A12, c12, rfl, l12, k12⟩; have Q12 := Lib.hid (Q7.out.step k12); clear k12 l12 O7)
            | (go_at_call 20; refine (ALL.out _ _ _ Q12.out).mono ?_; rintro e w13 ⟨A13, c13, rfl, l13, k13⟩; have Q13 := Lib.hid (Q12.out.step k13); clear k13 l13)
            | (go_at_call 10; refine (AW.out _ Q13.out.bel).mono ?_; rintro e w18 ⟨rfl, k18⟩)
          go_ret
          exact ⟨rfl, Q13.out.bel.trans (k18.mono Q13.out.bel.size)⟩
        · have hf' : (Om.get b.p l).isSome = false := by cases h : (Om.get b.p l).isSome <;> simp_all
          have hdm : Om.del b.p l = l := Tr.del_none hf'
          have DRP1 : Hid (∀ wx : World, Tr.Ow w wx r l → Calls Tryd.prog 17 #[.pointer (some ⟨r, 0, none⟩), .string b.p] wx fun e w' => e = .returned (.bool false) ∧ Tr.Ow w w' r l ∧ wx.grownBy w' (some r)) := fun wx h => by
            have := DROPC.out wx r l b.p HPB.out h
            rw [hf', hdm] at this
            exact this
          clear hf' hdm hf hd0 SETC DROPC HFB
          obtain ⟨cr, rtl, heq⟩ := HEQ.out
          have RTL := Lib.hid rtl
          clear rtl HEQ
          go_wp2_with first
            | (go_at_call 17; refine (DRP1.out _ O5.out).mono ?_; rintro e w6 ⟨rfl, o6, g6⟩; have O6 := Lib.hid o6; have Q6 : Hid (Tr.Ow w w6 q l) := (Q5.out.beside O5.out (by have := HRQ.out; omega) g6); clear o6 g6 Q5 y0 y1 y2)
            | (go_at_call 18; refine (RTL.out _ _ O6.out).mono ?_; rintro e w10 ⟨rfl, k10⟩; have O10 := Lib.hid (O6.out.step k10); have Q10 := Lib.hid (Q6.out.step k10); clear k10 O6)
            | (go_at_call 18; refine (RTL.out _ _ Q10.out).mono ?_; rintro e w11 ⟨rfl, k11⟩; have O11 := Lib.hid (O10.out.step k11); have Q11 := Lib.hid (Q10.out.step k11); clear k11 Q10)
            | (go_at_call 20; refine (ALL.out _ _ _ O11.out).mono ?_; rintro e w12 ⟨A12, c12, rfl, l12, k12⟩; have L12 := Lib.hid l12; have O12 := Lib.hid (O11.out.step k12); have Q12 := Lib.hid (Q11.out.step k12); clear k12 l12 O11)
            | (go_at_call 20; refine (ALL.out _ _ _ Q12.out).mono ?_; rintro e w13 ⟨A13, c13, rfl, l13, k13⟩; have L13 := Lib.hid l13; have M13 := Lib.hid (L12.out.below k13); have O13 := Lib.hid (O12.out.step k13); have Q13 := Lib.hid (Q12.out.step k13); clear k13 l13 Q12)
            | (go_at_call 27; refine (SAM.out _ _ _ _ _ M13.out L13.out).mono ?_; rintro e w14 ⟨rfl, k14⟩; have O14 := Lib.hid (O13.out.step k14); have Q14 := Lib.hid (Q13.out.step k14); clear k14)
            | (go_at_call 21; refine (TX.out _ _ _ O14.out).mono ?_; rintro e w15 ⟨A15, c15, rfl, r15, k15⟩; have R15 := Lib.hid r15; have Q15 := Lib.hid (Q14.out.step k15); clear r15 k15 O14)
            | (go_at_call 21; refine (TX.out _ _ _ Q15.out).mono ?_; rintro e w16 ⟨A16, c16, rfl, r16, k16⟩; have R16 := Lib.hid r16; have S16 := Lib.hid (R15.out.low k16); have Q16 := Lib.hid (Q15.out.step k16); clear r16 k16 Q15)
            | (go_at_call 29; refine (SMT.out _ _ _ _ _ S16.out.txtsAt R16.out.txtsAt).mono ?_; rintro e w17 ⟨rfl, k17⟩; have Q17 := Lib.hid (Q16.out.step k17); clear k17)
            | (go_at_call 10; refine (AW.out _ Q17.out.bel).mono ?_; rintro e w18 ⟨rfl, k18⟩)
          go_ret
          exact ⟨rfl, Q17.out.bel.trans (k18.mono Q17.out.bel.size)⟩
end Go.Proofs.YtkoipingokglpaaDoor
