/-
  Texts that belong together, laid into one.
-/
import Derived.Test.YtiehcplepneajaaGreatDoorTrB
import Derived.Test.YtiehcplepneajaaGreatDoorOmOwn
import Derived.Test.YtiehcplepneajaaGreatDoorR13Way
import Derived.Test.YtiehcplepneajaaGreatDoorPaPath
import Derived.Shelf.Abstract
import Derived.Lib.AppendZeros
import Derived.Deep.RegionHeld3
/-
  tree's upward, and the closure that change hands to it.
-/
namespace Go.Proofs.YtiehcplepneajaaGreatDoor
open Go.RowKit
namespace Tr
theorem grown_setCells {w w' : World} {r : Nat} (h : w.grownBy w' (some r)) : ∀ (o : Nat) (vs : List Value), w.grownBy (w'.setCells r o vs) (some r) := fun o vs => by
  induction vs generalizing o w' with
  | nil => exact h
  | cons v vs ih => exact ih (Sm.grown_set h o v) (o + 1)
theorem Rows.turned {w w' : World} {r : Nat} {S : Nat → Value} {M : Nat → List UInt8} {T : Nat → Value} {l : List Om.Pr} (h : Rows w T l) (hB : Blk w r S M) (k : w.grownBy w' (some r)) : Rows w' T l := h.keep fun i _ hi => k.block i (Sm.lt_of hi) fun e => hB.apart hi pair_tree (Option.some.inj e)
theorem below_grown {w w' : World} (h : Below w.heap.size w w') (r : Option Nat) : w.grownBy w' r := ⟨h.os, h.tape, h.output, h.size, fun i hi _ => h.block i hi⟩
end Tr
set_option maxRecDepth 100000 in
set_option maxHeartbeats 2000000 in
theorem tChange1_any {w : World} (hH : Sm.HAt w) (hK : Sm.KAt w) (hsz : 1 < w.heap.size) {r g : Nat} {S : Nat → Value} {M : Nat → List UInt8} {l : List Om.Pr} (hB : Tr.Blk w r S M) (hR : Tr.Rows w S l) (hf : Tr.Fit l) {k : Nat} (hk : k < 31) (hkid : Tr.Kids M l k) (hg : w.cell? ⟨g, 0, none⟩ = some (.pointer (some ⟨r, 0, none⟩))) (hgr : g ≠ r) :
    Calls Tryz.prog 120 #[.int .i64 (k : Int), .pointer (some ⟨g, 0, none⟩)] w fun e w' => e = .returned (.tuple #[]) ∧ Tr.Blk w' r S (Tr.upd M k (Tr.nk l k)) ∧ w.grownBy w' (some r) := by
  have hgl : g < w.heap.size := World.block_lt_of_cell? w _ hg
  have HBD : Hid (Tr.Blk w.drew r S M) := hB.low (Below.refl _ w).drew
  have HB1 : Hid (Below w.heap.size w w.drew) := (Below.refl _ w).drew
  have HGD : Hid (w.drew.cell? ⟨g, 0, none⟩ = some (.pointer (some ⟨r, 0, none⟩))) := hg
  have HGC := Lib.hid hg
  have HGL := Lib.hid hgl
  have MD : Hid (Calls Tryz.prog 54 #[.pointer (some ⟨r, 0, none⟩), .int .i64 (k : Int)] w.drew fun e w' => e = .returned (.agg (Lib.byteCells (Tr.nk l k)).toArray) ∧ Below w.drew.heap.size w.drew w') :=
    tMade_any (hH.low HB1.out (by omega)) (hK.low HB1.out hsz) hsz HBD.out (hR.low HB1.out) hf hk hkid
  have hml := Tr.nk_length l k
  have HKI : Hid ((k : Int) < 31) := by show _ < _; omega
  have HPUT : Hid (∀ wx : World, Below w.heap.size w wx → Tr.Blk wx r S M → Tr.Blk (wx.setCells r (16 + k * 32) (Lib.byteCells (Tr.nk l k)).toArray.toList) r S (Tr.upd M k (Tr.nk l k)) ∧ w.grownBy (wx.setCells r (16 + k * 32) (Lib.byteCells (Tr.nk l k)).toArray.toList) (some r)) := fun wx hb hx => by
    rw [List.toList_toArray]
    refine ⟨?_, Tr.grown_setCells (Tr.below_grown hb _) _ _⟩
    have := hx.put hk hml
    rw [Nat.mul_comm] at this
    exact this
  have HTH : Hid (∀ wx : World, Tr.Blk wx r S M → wx.there r (16 + k * 32) (Lib.byteCells (Tr.nk l k)).toArray.size) := fun wx hx => by
    rw [Tr.size32 hml, Nat.mul_comm]
    exact hx.there hk
  have HGK : Hid (∀ wx : World, w.grownBy wx (some r) → wx.cell? ⟨g, 0, none⟩ = some (.pointer (some ⟨r, 0, none⟩))) := fun wx h => (World.cell?_of_block (h.block g hgl (fun e => hgr (Option.some.inj e)))).trans hg
  have HSZ := Lib.hid (Tr.size32 hml)
  have HONE := Lib.hid (Sm.bytes_one (Tr.nk l k))
  obtain ⟨cs, hcs⟩ : ∃ c, c = (Lib.byteCells (Tr.nk l k)).toArray := ⟨_, rfl⟩
  rw [← hcs] at MD HPUT HTH HSZ HONE
  clear hcs hml hH hK hsz hB hR hf hkid hg hgl
  go_enter Tryz.func120, Tryz.ntmps120
  go_upto_region 0 with (fail)
  refine wp_region_held_drew (S := fun w' => w'.cell? ⟨g, 0, none⟩ = some (.pointer (some ⟨r, 0, none⟩))) (by kernel_rfl) HGD.out (fun hHeld => ?_)
  refine wpAnyH_take (i := 0) (oi := ⟨some 3, _, _, _, _, _⟩) (v := .pointer (some ⟨r, 0, none⟩)) rfl (by kernel_rfl) (by kernel_rfl) (by kernel_rfl) (fun _ _ _ h => h) (Or.inl ⟨by rfl, ?_⟩) (by assumption) ?_
  · intro w hSw; (try dsimp only at hSw); go_simp
  simp only [Act.put, List.setIfInBounds_toArray, List.set_cons_zero, List.set_cons_succ]
  refine wpAnyH_take (i := 1) (oi := ⟨some 4, _, _, _, _, _⟩) (v := .int .i64 (k : Int)) rfl (by kernel_rfl) (by kernel_rfl) (by kernel_rfl) (fun _ _ _ h => h) (Or.inl ⟨by rfl, ?_⟩) (by assumption) ?_
  · intro w hSw; (try dsimp only at hSw); go_simp
  simp only [Act.put, List.setIfInBounds_toArray, List.set_cons_zero, List.set_cons_succ]
  refine wpAnyH_take (i := 2) (oi := ⟨some 5, _, _, _, _, _⟩) (v := .pointer (some ⟨r, 0, none⟩)) rfl (by kernel_rfl) (by kernel_rfl) (by kernel_rfl) (fun _ _ _ h => h) (Or.inl ⟨by rfl, ?_⟩) (by assumption) ?_
  · intro w hSw; (try dsimp only at hSw); go_simp
  simp only [Act.put, List.setIfInBounds_toArray, List.set_cons_zero, List.set_cons_succ]
  refine wpAnyH_take (i := 3) (oi := ⟨some 6, _, _, _, _, _⟩) (v := .int .i64 (k : Int)) rfl (by kernel_rfl) (by kernel_rfl) (by kernel_rfl) (fun _ _ _ h => h) (Or.inl ⟨by rfl, ?_⟩) (by assumption) ?_
  · intro w hSw; (try dsimp only at hSw); go_simp
  simp only [Act.put, List.setIfInBounds_toArray, List.set_cons_zero, List.set_cons_succ]
  refine wpAnyH_take (i := 5) (oi := ⟨some 8, _, _, _, _, _⟩) (v := .pointer (some ⟨r, 0, none⟩)) rfl (by kernel_rfl) (by kernel_rfl) (by kernel_rfl) (fun _ _ _ h => h) (Or.inl ⟨by rfl, ?_⟩) (by assumption) ?_
  · intro w hSw; (try dsimp only at hSw); go_simp
  simp only [Act.put, List.setIfInBounds_toArray, List.set_cons_zero, List.set_cons_succ]
  refine wpAnyH_take (i := 6) (oi := ⟨some 9, _, _, _, _, _⟩) (v := .pointer (some ⟨r, 16, none⟩)) rfl (by kernel_rfl) (by kernel_rfl) (by kernel_rfl) (fun _ _ _ h => h) (Or.inl ⟨by rfl, ?_⟩) (by assumption) ?_
  · intro w hSw; (try dsimp only at hSw); go_simp
  simp only [Act.put, List.setIfInBounds_toArray, List.set_cons_zero, List.set_cons_succ]
  refine wpAnyH_ready (rs := [4]) (by kernel_rfl) (by simp) ?_
  refine (AllReadyH.cons (o := ⟨some 7, _, _, _, _, _⟩) rfl (fun K hK => ?_) AllReadyH.nil)
  go_simp
  refine (MD.out).mono ?_
  rintro e w2 ⟨rfl, k2⟩
  have B2 := Lib.hid (HBD.out.low k2)
  have BB := Lib.hid (Sm.low_low HB1.out HB1.out.size k2)
  clear k2
  refine hK.out _ _ ((BB.out.cell (p := ⟨g, 0, none⟩) HGL.out).trans HGC.out) (fun hHeld => ?_)
  clear hK K
  refine wpAnyH_take (i := 7) (oi := ⟨some 10, _, _, _, _, _⟩) (v := .pointer (some ⟨r, 16 + k * 32, none⟩)) rfl (by kernel_rfl) (by kernel_rfl) (by kernel_rfl) (fun _ _ _ h => h) (Or.inl ⟨by rfl, ?_⟩) (by assumption) ?_
  · intro w hSw; (try dsimp only at hSw); have q := HKI.out; go_simp
  simp only [Act.put, List.setIfInBounds_toArray, List.set_cons_zero, List.set_cons_succ]
  refine wpAnyH_ready (rs := [8]) (by kernel_rfl) (by simp) ?_
  refine (AllReadyH.cons (o := ⟨none, _, _, _, _, _⟩) rfl (fun K hK => ?_) AllReadyH.nil)
  rw [if_pos (by simp [Region.wanted])]
  refine wp_store_mid 36 (.tmp 10) (.tmp 7) rfl r (16 + k * 32) cs rfl rfl (HTH.out _ B2.out) (Sm.infoHash HSZ.out) HONE.out ?_
  obtain ⟨q1, q2⟩ := HPUT.out _ BB.out B2.out
  have W3 := Lib.hid q1
  have G3 := Lib.hid q2
  clear q1 q2
  refine hK.out _ _ (HGK.out _ G3.out) (fun hHeld => ?_)
  clear hK K
  refine wpAnyH_done (by kernel_rfl) ?_ _
  go_end0
  exact ⟨rfl, W3.out, G3.out⟩
set_option maxRecDepth 100000 in
set_option maxHeartbeats 2000000 in
theorem tUpward_any {w : World} (hH : Sm.HAt w) (hK : Sm.KAt w) (hsz : 1 < w.heap.size) {r g : Nat} {S : Nat → Value} {M : Nat → List UInt8} {l : List Om.Pr} (hB : Tr.Blk w r S M) (hR : Tr.Rows w S l) (hf : Tr.Fit l) {b : Nat} (hb : b < 16) (hM : ∀ j, j < 31 → Tr.above b j = false → M j = Tr.nk l j) (hg : w.cell? ⟨g, 0, none⟩ = some (.pointer (some ⟨r, 0, none⟩))) (hgr : g ≠ r) (hr : 2 ≤ r) :
    Calls Tryz.prog 119 #[.int .i64 (b : Int), .func (.func 120) #[] #[.pointer (some ⟨g, 0, none⟩)]] w fun e w' => e = .returned (.tuple #[]) ∧ Tr.Blk w' r S (Tr.nk l) ∧ w.grownBy w' (some r) := by
  have hgl : g < w.heap.size := World.block_lt_of_cell? w _ hg
  have hrl := hB.lt
  have CL : Hid (∀ (wx : World) (R : Nat → List UInt8) (k : Nat), w.grownBy wx (some r) → Tr.Blk wx r S R → k < 31 → Tr.Kids R l k → Calls Tryz.prog 120 #[.int .i64 (k : Int), .pointer (some ⟨g, 0, none⟩)] wx fun e w' => e = .returned (.tuple #[]) ∧ Tr.Blk w' r S (Tr.upd R k (Tr.nk l k)) ∧ wx.grownBy w' (some r)) := fun wx R k hx hBx hkx hkid => by
    have hlow : Below 2 w wx := Sm.grown_from hx hr (by omega)
    exact tChange1_any (hH.low hlow (by omega)) (hK.low hlow (by omega)) (Nat.lt_of_lt_of_le hsz hx.size) hBx (hR.turned hB hx) hf hkx hkid ((World.cell?_of_block (hx.block g hgl (fun e => hgr (Option.some.inj e)))).trans hg) hgr
  have HM := Lib.hid hM
  have HBK := Lib.hid hB
  have HBB := Lib.hid hb
  have eg : ∀ args w, (callFunc 120 args).run Tryz.prog w = .ok (.enter 120 args) w := Go.Proofs.enters_of Tryz.func120 (by kernel_rfl) rfl
  clear hH hK hB hR hM hg hgl hrl
  go_enter Tryz.func119, Tryz.ntmps119
  go_wp2
  go_loopw [0] (fun s0 wr => ∃ (k : Nat) (R : Nat → List UInt8), s0 = .int .i64 k ∧ k ≤ 31 ∧ Hid (k < 31 → Tr.above b k = true) ∧ Tr.Blk wr r S R ∧ Hid (∀ j, j < 31 → (j < k ∨ Tr.above b j = false) → R j = Tr.nk l j) ∧ w.grownBy wr (some r)) (fun s0 _ => 31 - (intOf s0).toNat)
  case atStart =>
    refine ⟨b, M, rfl, by have := HBB.out; omega, fun _ => (Tr.up_leaf b HBB.out).1, HBK.out, fun j hj hx => HM.out j hj ?_, Sm.grown_refl _ _⟩
    rcases hx with h | h
    · exact (Tr.up_leaf b HBB.out).2 j hj h
    · exact h
  case round =>
    obtain ⟨k, R, rfl, hk, hab, hbl, hall, hgw⟩ := hrel
    have HBL := Lib.hid hbl
    have HGW := Lib.hid hgw
    clear hbl hgw
    by_cases hlt : k < 31
    · have hki : (k : Int) < 31 := by omega
      have hup := Tr.up_more k hlt
      have hw1 : IntKind.i64.wrap (16 + (k : Int) / 2) = ((16 + k / 2 : Nat) : Int) := by simp [IntKind.wrap, IntKind.bits, IntKind.signed]; omega
      have hw0 : IntKind.i64.wrap ((k : Int) / 2) = ((k / 2 : Nat) : Int) := by simp [IntKind.wrap, IntKind.bits, IntKind.signed]; omega
      have hkid : Tr.Kids R l k := fun h16 => ⟨hall.out _ (by omega) (.inl (by omega)), hall.out _ (by omega) (.inl (by omega))⟩
      have CL1 := Lib.hid (CL.out wr R k HGW.out HBL.out hlt hkid)
      obtain ⟨u1, u2⟩ := Tr.upward HBB.out hlt (hab.out hlt)
      have HN : Hid (∀ j, j < 31 → (j < 16 + k / 2 ∨ Tr.above b j = false) → Tr.upd R k (Tr.nk l k) j = Tr.nk l j) := fun j hj hx => by
        by_cases e : j = k
        · subst e; exact Tr.upd_same _ _ _
        · rw [Tr.upd_other _ _ e]
          refine hall.out j hj ?_
          rcases hx with h | h
          · by_cases h2 : j < k
            · exact .inl h2
            · exact .inr (u1 j hj (by omega) h)
          · exact .inr h
      have HU := Lib.hid u2
      have HUP := Lib.hid hup
      clear hall hkid u1 u2 hup hab CL
      go_wp2_with (go_at_fn 120; refine CL1.out.mono ?_; rintro e w2 ⟨rfl, q1, q2⟩)
      have B2 := Lib.hid q1
      have G2 := Lib.hid (Sm.grown_trans HGW.out q2)
      clear q1 q2 CL1
      go_wp2
      go_roundw
      case rel => exact ⟨16 + k / 2, _, by simp, HUP.out.2, HU.out, B2.out, HN.out, G2.out⟩
      case measure => simp only [intOf]; have := HUP.out; omega
    · have hki : ¬ (k : Int) < 31 := by omega
      have hcong : Tr.Blk wr r S (Tr.nk l) := HBL.out.congr (fun _ _ => rfl) (fun j hj => hall.out j hj (.inl (by omega)))
      have HC := Lib.hid hcong
      clear hall hab hcong
      go_wp2
      go_end0
      exact ⟨rfl, HC.out, HGW.out⟩
end Go.Proofs.YtiehcplepneajaaGreatDoor

/-
  Where a path stands: slices.BinarySearchFunc by byPath; slices.Grow of none; slices.Concat of three rows of pairs.
-/
namespace Go.Proofs.YtiehcplepneajaaGreatDoor
open Go.RowKit
namespace Tr
open Om (Pr)
theorem get_at {p : ByteArray} {l : List Pr} (h : Om.pos p l < l.length) : (Om.get p l).isSome = decide (cmpS (l[Om.pos p l]).p p = 0) := by
  rw [Om.get_pos p l, List.getElem?_eq_getElem h]
  by_cases e : (l[Om.pos p l]).p = p
  · simp [e, (cmpS_zero p p).2 rfl]
  · have : ¬ cmpS (l[Om.pos p l]).p p = 0 := fun q => e ((cmpS_zero _ _).1 q)
    simp [e, this]
theorem get_end {p : ByteArray} {l : List Pr} (h : ¬ Om.pos p l < l.length) : (Om.get p l).isSome = false := by
  rw [Om.get_pos p l, List.getElem?_eq_none (by omega)]
  rfl
end Tr
set_option maxRecDepth 100000 in
set_option maxHeartbeats 2000000 in
theorem prSearch_any {w : World} {A : Option Addr} {l : List Om.Pr} (c : Nat) (hit : Om.listAt w A l) (hr : Om.Rises l) (hn : l.length ≤ 1000000) (p : ByteArray) :
    Calls Tryz.prog 117 #[.slice A l.length c, .string p, .func (.func 77) #[] #[]] w fun e w' => e = .returned (.tuple #[.int .i64 (Om.pos p l : Nat), .bool (Om.get p l).isSome]) ∧ Below w.heap.size w w' := by
  have HIT := Lib.hid hit
  have eg : ∀ args w, (callFunc 77 args).run Tryz.prog w = .ok (.enter 77 args) w := Go.Proofs.enters_of Tryz.func77 (by kernel_rfl) rfl
  have BP : Hid (∀ (wx : World) (x : Om.Pr), Calls Tryz.prog 77 #[.agg #[.string x.p, .string x.v], .string p] wx fun e w' => e = .returned (.int .i64 (Tr.cmpS x.p p)) ∧ Below wx.heap.size wx w') := fun wx x =>
    (tByPath_any wx x p).mono fun _ _ ⟨h1, h2⟩ => ⟨h1, by rw [h2]; exact (Below.refl _ _).alloc (Nat.le_refl _) _⟩
  have HPL := Lib.hid (Om.pos_le p l)
  have HPI : Hid (∀ i (hi : i < l.length), Om.lt l[i].p p = true ↔ i < Om.pos p l) := fun i hi => Tr.pos_iff hr hi
  have HG1 : Hid (∀ h : Om.pos p l < l.length, (Om.get p l).isSome = decide (Tr.cmpS (l[Om.pos p l]).p p = 0)) := fun h => Tr.get_at h
  have HG2 : Hid (¬ Om.pos p l < l.length → (Om.get p l).isSome = false) := fun h => Tr.get_end h
  obtain ⟨g, hg⟩ : ∃ g, g = (Om.get p l).isSome := ⟨_, rfl⟩
  obtain ⟨P, hP⟩ : ∃ P, P = Om.pos p l := ⟨_, rfl⟩
  have HGP : Hid (∀ h : P < l.length, g = decide (Tr.cmpS (l[P]).p p = 0)) := by subst hP; intro h; rw [hg]; exact HG1.out h
  have HGE : Hid (¬ P < l.length → g = false) := by rw [hP]; intro h; rw [hg]; exact HG2.out h
  rw [← hP] at HPL HPI
  rw [← hg, ← hP]
  have HN := Lib.hid hn
  clear hit hr hg hP HG1 HG2 hn
  go_enter Tryz.func117, Tryz.ntmps117
  go_wp2
  go_loopw [9, 10] (fun s9 s10 wr => ∃ i j : Nat, s9 = .int .i64 i ∧ s10 = .int .i64 j ∧ Hid (i ≤ P ∧ P ≤ j ∧ j ≤ l.length) ∧ Below w.heap.size w wr) (fun s9 s10 _ => (intOf s10).toNat - (intOf s9).toNat)
  case atStart => exact ⟨0, l.length, rfl, rfl, ⟨Nat.zero_le _, HPL.out, Nat.le_refl _⟩, Below.refl _ _⟩
  case round =>
    obtain ⟨i, j, rfl, rfl, hij, hb⟩ := hrel
    have HB := Lib.hid hb
    clear hb
    obtain ⟨h1, h2, h3⟩ := hij.out
    by_cases hlt : i < j
    · have hlti : (i : Int) < (j : Int) := by omega
      have hn := HN.out
      obtain ⟨h, hh⟩ : ∃ h, h = (i + j) / 2 := ⟨_, rfl⟩
      have hhl : h < l.length := by omega
      obtain ⟨m, hm⟩ : ∃ m, m = i + j := ⟨_, rfl⟩
      have hw1 : IntKind.i64.wrap ((i : Int) + (j : Int)) = ((m : Nat) : Int) := by simp [IntKind.wrap, IntKind.bits, IntKind.signed]; omega
      have hw2 : IntKind.u64.wrap ((m : Nat) : Int) = ((m : Nat) : Int) := by rw [IntKind.wrap_u64]; omega
      have hw3 : ((m : Nat) : Int) / 2 = (h : Int) := by omega
      have hw4 : IntKind.u64.wrap (h : Int) = (h : Int) := by rw [IntKind.wrap_u64]; omega
      have hw5 : IntKind.i64.wrap (h : Int) = (h : Int) := by simp [IntKind.wrap, IntKind.bits, IntKind.signed]; omega
      clear hm
      have hsuc : IntKind.i64.wrap ((h : Int) + 1) = ((h + 1 : Nat) : Int) := by simp [IntKind.wrap, IntKind.bits, IntKind.signed]; omega
      have hhi : (h : Int) < (l.length : Int) := by omega
      have hpi := HPI.out h hhl
      obtain ⟨b, off, rfl, -, x0, x1⟩ := HIT.out.get HB.out h hhl
      obtain ⟨x, hx⟩ : ∃ x, x = l[h] := ⟨_, rfl⟩
      rw [← hx] at x0 x1 hpi
      have BX := Lib.hid (BP.out wr x)
      have hneg := Tr.cmpS_neg x.p p
      obtain ⟨cv, hcv⟩ : ∃ cv, cv = Tr.cmpS x.p p := ⟨_, rfl⟩
      rw [← hcv] at BX hneg
      have HIJ := Lib.hid hij.out
      have HH := Lib.hid hh
      have HHL := Lib.hid hhl
      have HB1 := Lib.hid HB.out
      clear hx hn hh hij h1 h2 h3
      by_cases hc : cv < 0
      · have hlt2 : h < P := by
          have q := hneg.1 hc
          exact hpi.1 q
        have HLT2 := Lib.hid hlt2
        have HLT := Lib.hid hlt
        clear hpi hneg hlt2 hlt hcv hhl
        go_wp2_with (go_at_fn 77; refine BX.out.mono ?_; rintro e w2 ⟨rfl, k2⟩)
        have B2 : Hid (Below w.heap.size w w2) := HB.out.trans (k2.mono HB.out.size)
        go_roundw
        case rel => exact ⟨h + 1, j, rfl, rfl, ⟨HLT2.out, HIJ.out.2.1, HIJ.out.2.2⟩, B2.out⟩
        case measure => simp only [intOf]; have q := HH.out; have q2 := HLT.out; omega
      · have hlt2 : P ≤ h := by
          have q : ¬ h < P := fun q => hc (hneg.2 (hpi.2 q))
          omega
        have HLT2 := Lib.hid hlt2
        have HLT := Lib.hid hlt
        clear hpi hneg hlt2 hlt hcv hhl
        go_wp2_with (go_at_fn 77; refine BX.out.mono ?_; rintro e w2 ⟨rfl, k2⟩)
        have B2 : Hid (Below w.heap.size w w2) := HB.out.trans (k2.mono HB.out.size)
        go_roundw
        case rel => exact ⟨i, h, rfl, rfl, ⟨HIJ.out.1, HLT2.out, by have := HHL.out; omega⟩, B2.out⟩
        case measure => simp only [intOf]; have q := HH.out; have q2 := HLT.out; omega
    · have hlti : ¬ (i : Int) < (j : Int) := by omega
      have hiP : i = P := by omega
      have HGE' := HGE.out
      have HGP' := HGP.out
      subst hiP
      by_cases hil : i < l.length
      · have hii : (i : Int) < (l.length : Int) := by omega
        obtain ⟨b, off, rfl, -, x0, x1⟩ := HIT.out.get HB.out i hil
        have hgv := HGP' hil
        obtain ⟨x, hx⟩ : ∃ x, x = l[i] := ⟨_, rfl⟩
        rw [← hx] at x0 x1 hgv
        have BX := Lib.hid (BP.out wr x)
        obtain ⟨cv, hcv⟩ : ∃ cv, cv = Tr.cmpS x.p p := ⟨_, rfl⟩
        rw [← hcv] at BX hgv
        have HGV := Lib.hid hgv
        clear hx hcv hgv hil h1 h2 h3 hij HGE' HGP' hlt
        go_wp2_with (go_at_fn 77; refine BX.out.mono ?_; rintro e w2 ⟨rfl, k2⟩)
        go_ret2
        refine ⟨?_, HB.out.trans (k2.mono HB.out.size)⟩
        rw [HGV.out]
        rfl
      · have hii : ¬ (i : Int) < (l.length : Int) := by omega
        have hgv := HGE' hil
        subst hgv
        clear hil h1 h2 h3 hij HGE' HGP' hlt
        go_wp2
        go_ret2
        exact ⟨rfl, HB.out⟩
theorem Om.pair_zero : (Tryz.prog.info? 79).map (fun i => (i.zero, i.size, i.bytes)) = some (some (.agg #[.string ⟨#[]⟩, .string ⟨#[]⟩]), 2, 32) := by kernel_rfl
set_option maxRecDepth 100000 in
set_option maxHeartbeats 1000000 in
theorem prGrow_any (w : World) (n : Nat) (hn : n ≤ 1099511627776) :
    Calls Tryz.prog 147 #[.slice none 0 0, .int .i64 n] w fun e w' => ∃ A c, e = .returned (.slice A 0 c) ∧ Om.Row w' w.heap.size A c [] ∧ Below w.heap.size w w' := by
  obtain ⟨i0, hi, hz0, hz1, hz2⟩ := info_parts Om.pair_zero
  by_cases h0 : n = 0
  · subst h0
    go_enter Tryz.func147, Tryz.ntmps147
    go_wp2
    go_ret
    exact ⟨none, 0, rfl, Om.Row.nil _ _, Below.refl _ w⟩
  · have hp : (0 : Int) < n := by omega
    have hr := fun ty => Lib.run_append_nil_zeros (P := Tryz.prog) w 22 3 ty 79 i0 _ .i64 .i64 Tryz.underlying22 Tryz.underlying3 hi hz0 n (by omega) (by omega) (by omega) (by rw [hz2]; omega)
    have hge : n ≤ grownCap w n 0 79 := grownCap_ge w n 0 _
    have hle : grownCap w n 0 79 ≤ maxLen := grownCap_le_maxLen w n 0 _ (by unfold maxLen; omega)
    have HR := Lib.hid hr
    have HGE := Lib.hid hge
    have HLE := Lib.hid hle
    clear hr hge hle
    generalize grownCap w n 0 79 = cap at *
    go_enter Tryz.func147, Tryz.ntmps147
    go_wp2_with (at_builtin; refine Lib.wpList_append_run _ rfl _ _ _ _ rfl _ _ rfl rfl _ _ (HR.out _) ?_)
    have hcle : (cap : Int) ≤ 9223372036854775807 := by have := HLE.out; unfold maxLen at this; omega
    have hcn : n ≤ cap := HGE.out
    go_wp2
    go_ret
    refine ⟨some ⟨w.heap.size, 0, none⟩, cap, rfl, ⟨rfl, .inr ⟨w.heap.size, cap, _, rfl, Nat.le_refl _, heap_alloc_new w.drew _, Nat.zero_le _, HLE.out, ?_, by simp [Om.flat]⟩⟩, (Below.refl _ w).drew.alloc (by simp) _⟩
    rw [Array.size_append, size_zeroCells, size_zeroCells]
    simp
    omega
end Go.Proofs.YtiehcplepneajaaGreatDoor

/-
  slices.Concat of three rows of pairs.
-/
namespace Go.Proofs.YtiehcplepneajaaGreatDoor
open Go.RowKit
set_option maxRecDepth 100000 in
set_option maxHeartbeats 2000000 in
theorem prConcat_any {w : World} (b : Nat) {A0 A1 A2 : Option Addr} {l0 l1 l2 : List Om.Pr} (c0 c1 c2 : Nat) (hg : w.heap[b]? = some (.cells #[.slice A0 l0.length c0, .slice A1 l1.length c1, .slice A2 l2.length c2] 22 (0, 0)))
    (h0 : Om.listAt w A0 l0) (h1 : Om.listAt w A1 l1) (h2 : Om.listAt w A2 l2) (hn : l0.length + l1.length + l2.length ≤ 1000000) :
    Calls Tryz.prog 118 #[.slice (some ⟨b, 0, none⟩) 3 3] w fun e w' => ∃ A c, e = .returned (.slice A (l0 ++ (l1 ++ l2)).length c) ∧ Om.Row w' w.heap.size A c (l0 ++ (l1 ++ l2)) ∧ Below w.heap.size w w' := by
  have hbl := Sm.lt_of hg
  have Q0 := Lib.hid (Sm.cells_of hg 0 _ rfl)
  have Q1 := Lib.hid (Sm.cells_of hg 1 _ rfl)
  have Q2 := Lib.hid (Sm.cells_of hg 2 _ rfl)
  have H0 := Lib.hid h0
  have H1 := Lib.hid h1
  have H2 := Lib.hid h2
  obtain ⟨n0, hn0⟩ : ∃ n, n = l0.length := ⟨_, rfl⟩
  obtain ⟨n1, hn1⟩ : ∃ n, n = l1.length := ⟨_, rfl⟩
  obtain ⟨n2, hn2⟩ : ∃ n, n = l2.length := ⟨_, rfl⟩
  have L0 : Hid (l0.length = n0) := hn0.symm
  have L1 : Hid (l1.length = n1) := hn1.symm
  have L2 : Hid (l2.length = n2) := hn2.symm
  rw [← hn0] at Q0
  rw [← hn1] at Q1
  rw [← hn2] at Q2
  have HN : Hid (n0 + n1 + n2 ≤ 1000000) := by show _ ≤ _; omega
  obtain ⟨m2, hm2⟩ : ∃ m, m = n0 + n1 := ⟨_, rfl⟩
  obtain ⟨m3, hm3⟩ : ∃ m, m = n0 + n1 + n2 := ⟨_, rfl⟩
  have GR := Lib.hid (prGrow_any w m3 (by omega))
  have hw1 : IntKind.i64.wrap ((n0 : Int) + (n1 : Int)) = ((m2 : Nat) : Int) := by simp [IntKind.wrap, IntKind.bits, IntKind.signed]; omega
  have hw2 : IntKind.i64.wrap ((m2 : Int) + (n2 : Int)) = ((m3 : Nat) : Int) := by simp [IntKind.wrap, IntKind.bits, IntKind.signed]; omega
  have hw0 : IntKind.i64.wrap (n0 : Int) = (n0 : Int) := by simp [IntKind.wrap, IntKind.bits, IntKind.signed]; omega
  have HM3 := Lib.hid hm3
  clear hg h0 h1 h2 hn hn0 hn1 hn2 hm2 hm3
  have E1 : Hid (∀ wx : World, Below w.heap.size w wx → wx.cell? ⟨b, 0, none⟩ = some (.slice A0 n0 c0) ∧ wx.cell? ⟨b, 1, none⟩ = some (.slice A1 n1 c1) ∧ wx.cell? ⟨b, 2, none⟩ = some (.slice A2 n2 c2)) := fun wx hb =>
    ⟨(hb.cell (p := ⟨b, 0, none⟩) hbl).trans Q0.out, (hb.cell (p := ⟨b, 1, none⟩) hbl).trans Q1.out, (hb.cell (p := ⟨b, 2, none⟩) hbl).trans Q2.out⟩
  go_enter Tryz.func118, Tryz.ntmps118
  go_wp2
  go_loopw [3, 5, 11] (fun s3 _ s11 wr => ∃ k : Nat, s11 = .int .i64 k ∧ k ≤ 3 ∧ s3 = .int .i64 ((if k = 0 then 0 else if k = 1 then n0 else if k = 2 then m2 else m3 : Nat) : Int) ∧ w = wr) (fun _ _ s11 _ => 3 - (intOf s11).toNat)
  case atStart => exact ⟨0, rfl, by omega, rfl, rfl⟩
  case round =>
    obtain ⟨k, rfl, hk, rfl, rfl⟩ := hrel
    match k, hk with
    | 0, _ =>
      have x0 := Q0.out
      go_wp2
      go_roundw
      case rel => exact ⟨1, rfl, by omega, by simp, trivial⟩
      case measure => simp [intOf]
    | 1, _ =>
      have x0 := Q1.out
      go_wp2
      go_roundw
      case rel => exact ⟨2, rfl, by omega, by simp, trivial⟩
      case measure => simp [intOf]
    | 2, _ =>
      have x0 := Q2.out
      go_wp2
      go_roundw
      case rel => exact ⟨3, rfl, by omega, by simp, trivial⟩
      case measure => simp [intOf]
    | 3, _ =>
      go_wp2_with fail
      refine GR.out.mono ?_
      rintro e w2 ⟨A, c, rfl, ho, hb⟩
      have HO := Lib.hid ho
      have HB := Lib.hid hb
      clear ho hb GR
      go_wp2
      go_loopw [6, 8, 27] (fun s6 _ s27 wx => ∃ (k : Nat) (A : Option Addr) (c : Nat) (l : List Om.Pr), s27 = .int .i64 k ∧ k ≤ 3 ∧ s6 = .slice A l.length c ∧ Hid (l = (if k = 0 then [] else if k = 1 then l0 else if k = 2 then l0 ++ l1 else l0 ++ (l1 ++ l2))) ∧ Om.Row wx w.heap.size A c l ∧ Below w.heap.size w wx) (fun _ _ s27 _ => 3 - (intOf s27).toNat)
      case atStart => exact ⟨0, A, c, [], rfl, by omega, rfl, rfl, HO.out, HB.out⟩
      case round =>
        clear HO HB
        obtain ⟨k, A, c, l, rfl, hk, rfl, hl, ho, hb⟩ := hrel
        have HO := Lib.hid ho
        have HB := Lib.hid hb
        have hbs := Lib.hid hb.size
        clear ho
        obtain ⟨x0, x1, x2⟩ := E1.out _ hb
        clear hb
        match k, hk with
        | 0, _ =>
          have HLL : Hid (l.length ≤ 1000000) := by
            show _ ≤ _
            have h1 := hl.out
            have h2 := HN.out
            have h3 := L0.out
            have h4 := L1.out
            rw [h1]
            simp
            skip
          have HS : Hid (l.length + l0.length ≤ 1000000) := by
            show _ ≤ _
            have h1 := hl.out
            have h2 := HN.out
            have h3 := L0.out
            have h4 := L1.out
            have h5 := L2.out
            rw [h1]
            simp
            omega
          have hl0n := L0.out
          clear x1 x2
          go_wp2_with (at_builtin; refine Om.wp_cat rfl _ _ rfl rfl HO.out (m := l0) (d := c0) (C := A0) (by show Value.slice _ _ _ = _; rw [L0.out]) (H0.out.below HB.out) HS.out hbs.out ?_; intro A' c' w4 hr4 hg4)
          have HR4 := Lib.hid hr4
          have B4 : Hid (Below w.heap.size w w4) := HB.out.grown hg4 hbs.out (fun q hq => (HO.out.blk hq).1)
          have HLN : Hid (l ++ l0 = l0) := by
            show _ = _
            have h1 : l = [] := hl.out
            rw [h1]
            try simp
          clear hr4 hg4
          have hlen : l.length + n0 = (l ++ l0).length := by rw [List.length_append, L0.out]
          have HLEN := Lib.hid hlen
          clear hlen hl
          go_wp2
          go_roundw
          case rel => exact ⟨1, A', c', l ++ l0, rfl, by omega, by (first | rw [← HLEN.out]; done | (rw [← HLEN.out, L0.out]) | (simp [L0.out])), HLN.out, HR4.out, B4.out⟩
          case measure => simp [intOf]
        | 1, _ =>
          have HLL : Hid (l.length ≤ 1000000) := by
            show _ ≤ _
            have h1 := hl.out
            have h2 := HN.out
            have h3 := L0.out
            have h4 := L1.out
            rw [h1]
            simp
            omega
          have HS : Hid (l.length + l1.length ≤ 1000000) := by
            show _ ≤ _
            have h1 := hl.out
            have h2 := HN.out
            have h3 := L0.out
            have h4 := L1.out
            have h5 := L2.out
            rw [h1]
            simp
            omega
          have hl1n := L1.out
          clear x0 x2
          go_wp2_with (at_builtin; refine Om.wp_cat rfl _ _ rfl rfl HO.out (m := l1) (d := c1) (C := A1) (by show Value.slice _ _ _ = _; rw [L1.out]) (H1.out.below HB.out) HS.out hbs.out ?_; intro A' c' w4 hr4 hg4)
          have HR4 := Lib.hid hr4
          have B4 : Hid (Below w.heap.size w w4) := HB.out.grown hg4 hbs.out (fun q hq => (HO.out.blk hq).1)
          have HLN : Hid (l ++ l1 = l0 ++ l1) := by
            show _ = _
            have h1 : l = l0 := hl.out
            rw [h1]
            try simp
          clear hr4 hg4
          have hlen : l.length + n1 = (l ++ l1).length := by rw [List.length_append, L1.out]
          have HLEN := Lib.hid hlen
          clear hlen hl
          go_wp2
          go_roundw
          case rel => exact ⟨2, A', c', l ++ l1, rfl, by omega, by (first | rw [← HLEN.out]; done | (rw [← HLEN.out, L1.out]) | (simp [L1.out])), HLN.out, HR4.out, B4.out⟩
          case measure => simp [intOf]
        | 2, _ =>
          have HLL : Hid (l.length ≤ 1000000) := by
            show _ ≤ _
            have h1 := hl.out
            have h2 := HN.out
            have h3 := L0.out
            have h4 := L1.out
            rw [h1]
            simp
            omega
          have HS : Hid (l.length + l2.length ≤ 1000000) := by
            show _ ≤ _
            have h1 := hl.out
            have h2 := HN.out
            have h3 := L0.out
            have h4 := L1.out
            have h5 := L2.out
            rw [h1]
            simp
            omega
          have hl2n := L2.out
          clear x0 x1
          go_wp2_with (at_builtin; refine Om.wp_cat rfl _ _ rfl rfl HO.out (m := l2) (d := c2) (C := A2) (by show Value.slice _ _ _ = _; rw [L2.out]) (H2.out.below HB.out) HS.out hbs.out ?_; intro A' c' w4 hr4 hg4)
          have HR4 := Lib.hid hr4
          have B4 : Hid (Below w.heap.size w w4) := HB.out.grown hg4 hbs.out (fun q hq => (HO.out.blk hq).1)
          have HLN : Hid (l ++ l2 = l0 ++ (l1 ++ l2)) := by
            show _ = _
            have h1 : l = l0 ++ l1 := hl.out
            rw [h1]
            try simp
          clear hr4 hg4
          have hlen : l.length + n2 = (l ++ l2).length := by rw [List.length_append, L2.out]
          have HLEN := Lib.hid hlen
          clear hlen hl
          go_wp2
          go_roundw
          case rel => exact ⟨3, A', c', l ++ l2, rfl, by omega, by (first | rw [← HLEN.out]; done | (rw [← HLEN.out, L2.out]) | (simp [L2.out])), HLN.out, HR4.out, B4.out⟩
          case measure => simp [intOf]
        | 3, _ =>
          have e : l = l0 ++ (l1 ++ l2) := hl.out
          have HE := Lib.hid e
          clear e hl
          go_wp2
          go_ret
          exact ⟨A, c, by rw [← HE.out]; rfl, by rw [← HE.out]; exact HO.out, HB.out⟩
end Go.Proofs.YtiehcplepneajaaGreatDoor

/-
  tree's find and size.
-/
namespace Go.Proofs.YtiehcplepneajaaGreatDoor
open Go.RowKit
namespace Tr
open Om (Pr)
theorem get_part {l : List Pr} (h : Om.Rises l) (p : ByteArray) : Om.get p (Bu.part l (Bu.bk p)) = Om.get p l := by
  have hp : Om.Rises (Bu.part l (Bu.bk p)) := h.sublist List.filter_sublist
  apply Option.ext
  intro v
  have a := Om.get_mem hp (p := p) v
  have b := Om.get_mem h (p := p) v
  rw [a, b]
  exact (mem_part l ⟨p, v⟩).symm
theorem part_rises {l : List Pr} (h : Om.Rises l) (i : Int) : Om.Rises (Bu.part l i) := h.sublist List.filter_sublist
theorem und16 : Tryz.prog.underlying 49 = some (.array 16 22) := by kernel_rfl
theorem size_pairs (w : World) : (sizeOf 22).run Tryz.prog w = .ok 1 w := by kernel_rfl
theorem agg_pairs (w : World) : (isAgg 22).run Tryz.prog w = .ok false w := by kernel_rfl
theorem run_index16 (w : World) {cs : Array Value} {i : Nat} {v : Value} (hi : i < 16) (hv : cs[i]? = some v) : (Instr.index 49 (.agg cs) (.int .i64 (i : Int))).run Tryz.prog w = .ok v w := by
  have h0 : 0 ≤ (i : Int) ∧ (i : Int) < 16 := by omega
  simp [Instr.index, asIntOf, Sem.run_bind, run_underlying und16, h0, part, hv, Result.andThen]
  omega
theorem wpList_index {ops : Array Oper} {rest : List Oper} {o : Oper} {a : Act} {w : World} {Q : Exit → Act → World → Prop} (hgd : o.guard = none) (T : TypeId) (x y : Operand) (ho : o.op = .index T x y) (xs ys : Value) (hx : a.eval x = xs) (hy : a.eval y = ys) {v : Value}
    (hr : (Instr.index T xs ys).run Tryz.prog w = .ok v w) (h : wpList Tryz.prog ops Q rest (a.put o.dst v) w) : wpList Tryz.prog ops Q (o :: rest) a w := wpList_plain hgd fun _ hK => by
  unfold Oper.wp execOp
  simp only [ho, hx, hy, Sem.run_bind, Sem.run_pure, Result.andThen_ok, hr]
  exact hK _ _ h
end Tr
set_option maxRecDepth 100000 in
set_option maxHeartbeats 1000000 in
theorem tFind_any {w : World} (hH : Sm.HAt w) (hK : Sm.KAt w) (hsz : 1 < w.heap.size) {r : Nat} {l : List Om.Pr} (hT : Tr.TreeAt w r l) (p : ByteArray) (hp : p.size ≤ 281474976710656) :
    Calls Tryz.prog 84 #[.pointer (some ⟨r, 0, none⟩), .string p] w fun e w' => e = .returned (.tuple #[.int .i64 (Bu.bk p : Nat), .int .i64 (Om.pos p (Bu.part l (Bu.bk p)) : Nat), .bool (Om.get p l).isSome]) ∧ Below w.heap.size w w' := by
  have OF := Lib.hid (buOf_any hH hK hsz p (by omega))
  have hi := Bu.bk_lt p
  rw [← Tr.get_part hT.fit.rises p]
  have hrise := Tr.part_rises hT.fit.rises (Bu.bk p)
  have hlen := Bu.part_length l (Bu.bk p)
  have hfl := hT.fit.len
  obtain ⟨A, c, hc, hrow⟩ := hT.part hi
  obtain ⟨i, hI⟩ : ∃ i, i = Bu.bk p := ⟨_, rfl⟩
  rw [← hI] at OF hi hrise hlen hc hrow ⊢
  obtain ⟨m, hm⟩ : ∃ m, m = Bu.part l i := ⟨_, rfl⟩
  rw [← hm] at hrise hlen hc hrow ⊢
  have SE : Hid (∀ wx : World, Below w.heap.size w wx → Calls Tryz.prog 117 #[.slice A m.length c, .string p, .func (.func 77) #[] #[]] wx fun e w' => e = .returned (.tuple #[.int .i64 (Om.pos p m : Nat), .bool (Om.get p m).isSome]) ∧ Below wx.heap.size wx w') := fun wx hb => prSearch_any c (hrow.listAt.below hb) hrise (by omega) p
  have HC : Hid (∀ wx : World, Below w.heap.size w wx → wx.cell? ⟨r, i, none⟩ = some (.slice A m.length c)) := fun wx hb => (hb.cell (p := ⟨r, i, none⟩) hT.lt).trans hc
  have hii : (i : Int) < 16 := by omega
  obtain ⟨g, hg⟩ : ∃ g, g = (Om.get p m).isSome := ⟨_, rfl⟩
  rw [← hg] at SE ⊢
  clear hH hK hsz hT hI hm hrow hc hrise hlen hfl hi hg
  go_enter Tryz.func84, Tryz.ntmps84
  go_upto_region 2 with (go_at_call 39; refine OF.out.mono ?_; rintro e w1 ⟨rfl, k1⟩)
  have x0 := HC.out _ k1
  have B1 := Lib.hid k1
  have SE1 := Lib.hid (SE.out _ k1)
  clear k1 OF SE HC
  go_wp2_with (go_at_call 117; refine SE1.out.mono ?_; rintro e w2 ⟨rfl, k2⟩)
  go_ret3
  exact ⟨rfl, B1.out.trans (k2.mono B1.out.size)⟩
set_option maxRecDepth 100000 in
set_option maxHeartbeats 1000000 in
theorem tSize_any {w : World} {r : Nat} {l : List Om.Pr} (hT : Tr.TreeAt w r l) :
    Calls Tryz.prog 85 #[.pointer (some ⟨r, 0, none⟩)] w fun e w' => e = .returned (.int .i64 (l.length : Nat)) ∧ w = w' := by
  obtain ⟨S, hB, hR⟩ := hT.blk
  have hall := Bu.upto_all l
  have hlen := hT.fit.len
  have HR : Hid (w.rangeAt r 0 ((List.range 16).map S)) := fun j v hv => by
    have hj : j < 16 := by have := (List.getElem?_eq_some_iff.1 hv).1; simpa using this
    rw [Nat.zero_add, hB.slot hj]
    simpa [hj] using hv
  have HU : Hid (∀ i, i < 16 → Bu.upto l (i + 1) = Bu.upto l i + (Bu.part l i).length) := fun i _ => rfl
  have HUL : Hid (∀ i, Bu.upto l i ≤ 48) := fun i => by rw [Tr.upto_cat]; have := Tr.cat_length l i; omega
  have HSI : Hid (∀ i, i < 16 → ∃ A c, ((List.range 16).map S).toArray[i]? = some (.slice A (Bu.part l i).length c)) := fun i hi => by
    obtain ⟨A, c, e, _⟩ := hR i hi
    exact ⟨A, c, by simp [hi, e]⟩
  have HL : Hid (((List.range 16).map S).length = 16) := by show _ = _; simp
  rw [← hall]
  obtain ⟨cs, hcs⟩ : ∃ c, c = (List.range 16).map S := ⟨_, rfl⟩
  rw [← hcs] at HR HSI HL
  clear hcs hall hlen hB hR hT
  have hi16 : (Tryz.prog.info? 49).map (·.size) = some 16 := by kernel_rfl
  go_enter Tryz.func85, Tryz.ntmps85
  go_wp2_with (with_reducible refine wpList_load_mid rfl 49 (.tmp 8) rfl r 0 rfl cs _ HR.out Tryz.underlying49 rfl (by rw [HL.out]; exact hi16) ?_)
  go_loopw [3, 10] (fun s3 s10 wr => ∃ i : Nat, s10 = .int .i64 i ∧ i ≤ 16 ∧ s3 = .int .i64 (Bu.upto l i : Nat) ∧ w = wr) (fun _ s10 _ => 16 - (intOf s10).toNat)
  case atStart => exact ⟨0, rfl, by omega, rfl, rfl⟩
  case round =>
    obtain ⟨i, rfl, hi, rfl, rfl⟩ := hrel
    by_cases hlt : i < 16
    · have hii : (i : Int) < 16 := by omega
      have hsuc : IntKind.i64.wrap ((i : Int) + 1) = ((i + 1 : Nat) : Int) := by simp [IntKind.wrap, IntKind.bits, IntKind.signed]; omega
      obtain ⟨A, c, hc⟩ := HSI.out i hlt
      have hu := HU.out i hlt
      have hu2 := HUL.out (i + 1)
      obtain ⟨U, hU⟩ : ∃ U, U = Bu.upto l i := ⟨_, rfl⟩
      obtain ⟨V, hV⟩ : ∃ V, V = Bu.upto l (i + 1) := ⟨_, rfl⟩
      obtain ⟨n, hn⟩ : ∃ n, n = (Bu.part l i).length := ⟨_, rfl⟩
      rw [← hU, ← hV, ← hn] at hu
      rw [← hV] at hu2
      rw [← hn] at hc
      rw [← hU]
      have hsum : IntKind.i64.wrap ((U : Int) + (n : Int)) = ((V : Nat) : Int) := by simp [IntKind.wrap, IntKind.bits, IntKind.signed]; omega
      have HV := Lib.hid hV
      clear hU hn hu hu2 hV
      have HIX : Hid ((Instr.index 49 (.agg cs.toArray) (.int .i64 (i : Int))).run Tryz.prog w = .ok (.slice A n c) w) := Tr.run_index16 w hlt hc
      have HLT := Lib.hid hlt
      clear hc hlt
      go_wp2_with (refine Tr.wpList_index rfl 49 (.tmp 9) (.tmp 10) rfl (.agg cs.toArray) (.int .i64 (i : Int)) rfl rfl HIX.out ?_)
      go_roundw
      case rel => exact ⟨i + 1, rfl, HLT.out, by rw [← HV.out], trivial⟩
      case measure => simp only [intOf]; have := HLT.out; omega
    · have hii : ¬ (i : Int) < 16 := by omega
      have hi16 : i = 16 := by omega
      subst hi16
      go_wp2
      go_ret
      exact ⟨rfl, rfl⟩
end Go.Proofs.YtiehcplepneajaaGreatDoor

/-
  tree's change: other pairs in the place of some of a bucket's, and all nodes above made anew.
-/
namespace Go.Proofs.YtiehcplepneajaaGreatDoor
open Go.RowKit
set_option maxRecDepth 100000 in
set_option maxHeartbeats 4000000 in
theorem tChange_any {w : World} (hH : Sm.HAt w) (hK : Sm.KAt w) (hsz : 1 < w.heap.size) {r : Nat} {l l2 : List Om.Pr} (hT : Tr.TreeAt w r l) (hr : 2 ≤ r) (hf2 : Tr.Fit l2) {i k j : Nat} (hi : i < 16) {m n : List Om.Pr} (hm : m = Bu.part l i) (hk : k ≤ m.length) (hj : j ≤ m.length) {B : Option Addr} (d : Nat) (hn : Om.listAt w B n) (hnl : n.length ≤ 1)
    (h2 : Bu.part l2 i = m.take k ++ (n ++ m.drop j)) (hap : ∀ c : Nat, c ≠ i → Bu.part l2 c = Bu.part l c) :
    Calls Tryz.prog 86 #[.pointer (some ⟨r, 0, none⟩), .int .i64 (i : Int), .int .i64 (k : Int), .int .i64 (j : Int), .slice B n.length d] w fun e w' => e = .returned (.tuple #[]) ∧ Tr.TreeAt w' r l2 ∧ w.grownBy w' (some r) := by
  obtain ⟨S, hB, hR⟩ := hT.blk
  obtain ⟨A, c, hS, hrow⟩ := hR i hi
  have hml := Bu.part_length l i
  have hfl := hT.fit.len
  rw [← hm] at hS hrow hml
  obtain ⟨N, hN⟩ : ∃ N, N = w.heap.size := ⟨_, rfl⟩
  obtain ⟨w1, hw1⟩ : ∃ w1, w1 = w.alloc (.cells #[.pointer (some ⟨r, 0, none⟩)] 27) := ⟨_, rfl⟩
  have b1 : Below w.heap.size w w1 := by rw [hw1]; exact (Below.refl _ w).alloc (Nat.le_refl _) _
  have gN : w1.heap[N]? = some (.cells #[.pointer (some ⟨r, 0, none⟩)] 27 (0, 0)) := by rw [hw1, hN]; exact heap_alloc_new _ _
  obtain ⟨w2, hw2⟩ : ∃ w2, w2 = w1.drew := ⟨_, rfl⟩
  have b2 : Below w.heap.size w w2 := by rw [hw2]; exact b1.drew
  have g2 : w2.heap[N]? = some (.cells #[.pointer (some ⟨r, 0, none⟩)] 27 (0, 0)) := by rw [hw2]; exact gN
  have HN1 : Hid (w2.cell? ⟨N, 0, none⟩ = some (.pointer (some ⟨r, 0, none⟩))) := Sm.cells_of g2 0 _ rfl
  have HNL : Hid (N < w2.heap.size) := Sm.lt_of g2
  have HBK := Lib.hid (hB.low b2)
  have HRL : Hid (r < w2.heap.size) := HBK.out.lt
  have HR1 : Hid (w2.cell? ⟨r, i, none⟩ = some (.slice A m.length c)) := by have := HBK.out.slot hi; rw [hS] at this; exact this
  have HROWS := Lib.hid (hR.low b2)
  have HNR : Hid (N ≠ r) := fun e => by have := hB.lt; omega
  have HII : Hid ((i : Int) < 16) := by show _ < _; omega
  have HI16 := Lib.hid hi
  have hcap := hrow.cap
  have SLT : Hid (∀ wx : World, (Instr.sliceAt 22 (.slice A m.length c) none (some (.int .i64 (k : Int))) none).run Tryz.prog wx = .ok (.slice A k c) wx) := fun wx => Om.run_to wx hk hcap
  have SLF : Hid (∀ wx : World, (Instr.sliceAt 22 (.slice A m.length c) (some (.int .i64 (j : Int))) none none).run Tryz.prog wx = .ok (.slice (Om.placeFrom A c j) (m.length - j) (c - j)) wx) := fun wx => Om.run_from wx hj
  have HCC : Hid (∀ wx : World, Below w2.heap.size w2 wx → wx.heap[w2.heap.size]? = some (.cells #[.slice A k c, .slice B n.length d, .slice (Om.placeFrom A c j) (m.length - j) (c - j)] 22 (0, 0)) → Calls Tryz.prog 118 #[.slice (some ⟨w2.heap.size, 0, none⟩) 3 3] wx fun e w' => ∃ A' c', e = .returned (.slice A' (m.take k ++ (n ++ m.drop j)).length c') ∧ Om.Row w' wx.heap.size A' c' (m.take k ++ (n ++ m.drop j)) ∧ Below wx.heap.size wx w') := fun wx hb hg => by
    have hx := hrow.listAt.below (b2.trans (hb.mono b2.size))
    have e1 : (m.take k).length = k := by rw [List.length_take]; omega
    have e2 : (m.drop j).length = m.length - j := List.length_drop
    exact prConcat_any (w := wx) w2.heap.size (A0 := A) (A1 := B) (A2 := Om.placeFrom A c j) (l0 := m.take k) (l1 := n) (l2 := m.drop j) c d (c - j) (by rw [e1, e2]; exact hg) (hx.take k) (hn.below (b2.trans (hb.mono b2.size))) (hx.drop hcap j) (by rw [e1, e2]; omega)
  have HKN : Hid (∀ wx : World, w2.grownBy wx (some r) → wx.cell? ⟨N, 0, none⟩ = some (.pointer (some ⟨r, 0, none⟩))) := fun wx h => (World.cell?_of_block (h.block N HNL.out (fun e => HNR.out (Option.some.inj e)))).trans HN1.out
  have HUP : Hid (∀ (wx : World) (A' : Option Addr) (c' : Nat), w2.grownBy wx (some r) → Tr.Blk wx r (Tr.upd S i (.slice A' (m.take k ++ (n ++ m.drop j)).length c')) (Tr.nk l) → Om.Row wx 0 A' c' (m.take k ++ (n ++ m.drop j)) → Calls Tryz.prog 119 #[.int .i64 (i : Int), .func (.func 120) #[] #[.pointer (some ⟨N, 0, none⟩)]] wx fun e w' => e = .returned (.tuple #[]) ∧ Tr.TreeAt w' r l2 ∧ w.grownBy w' (some r)) := fun wx A' c' hg hb hrw => by
    have hlow : Below 2 w wx := (b2.mono (by omega)).trans (Sm.grown_from hg hr (by have := HRL.out; omega))
    have hg0 : w.grownBy wx (some r) := Sm.grown_trans (Tr.below_grown b2 _) hg
    have hrx : Tr.Rows wx (Tr.upd S i (.slice A' (m.take k ++ (n ++ m.drop j)).length c')) l2 := fun q hq => by
      by_cases e : q = i
      · subst e
        exact ⟨A', c', by rw [Tr.upd_same, h2], by rw [h2]; exact hrw⟩
      · obtain ⟨A3, c3, e3, r3⟩ := (hR.turned hB hg0) q hq
        rw [← hap q e] at e3 r3
        exact ⟨A3, c3, by rw [Tr.upd_other _ _ e, e3], r3⟩
    exact (tUpward_any (l := l2) (hH.low hlow (by omega)) (hK.low hlow (by omega)) (Nat.lt_of_lt_of_le hsz hg0.size) hb hrx hf2 hi (fun q _ ha => (Tr.nk_apart hap ha).symm) (HKN.out wx hg) HNR.out hr).mono fun e w' ⟨he, hb', hg'⟩ =>
      ⟨he, ⟨hf2, _, hb', hrx.turned hb hg'⟩, Sm.grown_trans hg0 hg'⟩
  obtain ⟨L, hL⟩ : ∃ L, L = m.take k ++ (n ++ m.drop j) := ⟨_, rfl⟩
  rw [← hL] at HCC HUP
  clear hL
  clear hH hK hsz hT hr hf2 hi hm hk hj hn hnl h2 hap hB hR hS hrow hml hfl b1 gN b2 g2 hcap HROWS
  go_enter Tryz.func86, Tryz.ntmps86
  go_upto_region 1 with (fail)
  rw [← hN]
  have HN := Lib.hid hN
  rw [← hw1]
  clear hw1 hN
  refine wp_region_held_drew (S := fun w' => w'.cell? ⟨N, 0, none⟩ = some (.pointer (some ⟨r, 0, none⟩))) (by kernel_rfl) (hw2 ▸ HN1.out) (fun hHeld => ?_)
  rw [← hw2]
  clear hw2
  refine wpAnyH_take (i := 0) (oi := ⟨some 10, _, _, _, _, _⟩) (v := .pointer (some ⟨r, 0, none⟩)) rfl (by kernel_rfl) (by kernel_rfl) (by kernel_rfl) (fun _ _ _ h => h) (Or.inl ⟨by rfl, ?_⟩) (by assumption) ?_
  · intro w hSw; (try dsimp only at hSw); go_simp
  simp only [Act.put, List.setIfInBounds_toArray, List.set_cons_zero, List.set_cons_succ]
  refine wpAnyH_take (i := 1) (oi := ⟨some 11, _, _, _, _, _⟩) (v := .int .i64 (i : Int)) rfl (by kernel_rfl) (by kernel_rfl) (by kernel_rfl) (fun _ _ _ h => h) (Or.inl ⟨by rfl, ?_⟩) (by assumption) ?_
  · intro w hSw; (try dsimp only at hSw); go_simp
  simp only [Act.put, List.setIfInBounds_toArray, List.set_cons_zero, List.set_cons_succ]
  refine wpAnyH_take (i := 2) (oi := ⟨some 12, _, _, _, _, _⟩) (v := .pointer (some ⟨r, 0, none⟩)) rfl (by kernel_rfl) (by kernel_rfl) (by kernel_rfl) (fun _ _ _ h => h) (Or.inl ⟨by rfl, ?_⟩) (by assumption) ?_
  · intro w hSw; (try dsimp only at hSw); go_simp
  simp only [Act.put, List.setIfInBounds_toArray, List.set_cons_zero, List.set_cons_succ]
  refine wpAnyH_take (i := 3) (oi := ⟨some 13, _, _, _, _, _⟩) (v := .int .i64 (i : Int)) rfl (by kernel_rfl) (by kernel_rfl) (by kernel_rfl) (fun _ _ _ h => h) (Or.inl ⟨by rfl, ?_⟩) (by assumption) ?_
  · intro w hSw; (try dsimp only at hSw); go_simp
  simp only [Act.put, List.setIfInBounds_toArray, List.set_cons_zero, List.set_cons_succ]
  refine wpAnyH_take (i := 4) (oi := ⟨some 14, _, _, _, _, _⟩) (v := .pointer (some ⟨r, 0, none⟩)) rfl (by kernel_rfl) (by kernel_rfl) (by kernel_rfl) (fun _ _ _ h => h) (Or.inl ⟨by rfl, ?_⟩) (by assumption) ?_
  · intro w hSw; (try dsimp only at hSw); go_simp
  simp only [Act.put, List.setIfInBounds_toArray, List.set_cons_zero, List.set_cons_succ]
  refine wpAnyH_take (i := 5) (oi := ⟨some 15, _, _, _, _, _⟩) (v := .pointer (some ⟨r, 0, none⟩)) rfl (by kernel_rfl) (by kernel_rfl) (by kernel_rfl) (fun _ _ _ h => h) (Or.inl ⟨by rfl, ?_⟩) (by assumption) ?_
  · intro w hSw; (try dsimp only at hSw); go_simp
  simp only [Act.put, List.setIfInBounds_toArray, List.set_cons_zero, List.set_cons_succ]
  refine wpAnyH_take (i := 6) (oi := ⟨some 16, _, _, _, _, _⟩) (v := .pointer (some ⟨r, i, none⟩)) rfl (by kernel_rfl) (by kernel_rfl) (by kernel_rfl) (fun _ _ _ h => h) (Or.inl ⟨by rfl, ?_⟩) (by assumption) ?_
  · intro w hSw; (try dsimp only at hSw); have q := HII.out; go_simp
  simp only [Act.put, List.setIfInBounds_toArray, List.set_cons_zero, List.set_cons_succ]
  refine wpAnyH_take (i := 8) (oi := ⟨some 18, _, _, _, _, _⟩) (v := .int .i64 (k : Int)) rfl (by kernel_rfl) (by kernel_rfl) (by kernel_rfl) (fun _ _ _ h => h) (Or.inl ⟨by rfl, ?_⟩) (by assumption) ?_
  · intro w hSw; (try dsimp only at hSw); go_simp
  simp only [Act.put, List.setIfInBounds_toArray, List.set_cons_zero, List.set_cons_succ]
  refine wpAnyH_take (i := 10) (oi := ⟨some 20, _, _, _, _, _⟩) (v := .slice B n.length d) rfl (by kernel_rfl) (by kernel_rfl) (by kernel_rfl) (fun _ _ _ h => h) (Or.inl ⟨by rfl, ?_⟩) (by assumption) ?_
  · intro w hSw; (try dsimp only at hSw); go_simp
  simp only [Act.put, List.setIfInBounds_toArray, List.set_cons_zero, List.set_cons_succ]
  refine wpAnyH_take (i := 11) (oi := ⟨some 21, _, _, _, _, _⟩) (v := .pointer (some ⟨r, 0, none⟩)) rfl (by kernel_rfl) (by kernel_rfl) (by kernel_rfl) (fun _ _ _ h => h) (Or.inl ⟨by rfl, ?_⟩) (by assumption) ?_
  · intro w hSw; (try dsimp only at hSw); go_simp
  simp only [Act.put, List.setIfInBounds_toArray, List.set_cons_zero, List.set_cons_succ]
  refine wpAnyH_take (i := 12) (oi := ⟨some 22, _, _, _, _, _⟩) (v := .int .i64 (i : Int)) rfl (by kernel_rfl) (by kernel_rfl) (by kernel_rfl) (fun _ _ _ h => h) (Or.inl ⟨by rfl, ?_⟩) (by assumption) ?_
  · intro w hSw; (try dsimp only at hSw); go_simp
  simp only [Act.put, List.setIfInBounds_toArray, List.set_cons_zero, List.set_cons_succ]
  refine wpAnyH_take (i := 13) (oi := ⟨some 23, _, _, _, _, _⟩) (v := .pointer (some ⟨r, 0, none⟩)) rfl (by kernel_rfl) (by kernel_rfl) (by kernel_rfl) (fun _ _ _ h => h) (Or.inl ⟨by rfl, ?_⟩) (by assumption) ?_
  · intro w hSw; (try dsimp only at hSw); go_simp
  simp only [Act.put, List.setIfInBounds_toArray, List.set_cons_zero, List.set_cons_succ]
  refine wpAnyH_take (i := 14) (oi := ⟨some 24, _, _, _, _, _⟩) (v := .pointer (some ⟨r, 0, none⟩)) rfl (by kernel_rfl) (by kernel_rfl) (by kernel_rfl) (fun _ _ _ h => h) (Or.inl ⟨by rfl, ?_⟩) (by assumption) ?_
  · intro w hSw; (try dsimp only at hSw); go_simp
  simp only [Act.put, List.setIfInBounds_toArray, List.set_cons_zero, List.set_cons_succ]
  refine wpAnyH_take (i := 15) (oi := ⟨some 25, _, _, _, _, _⟩) (v := .pointer (some ⟨r, i, none⟩)) rfl (by kernel_rfl) (by kernel_rfl) (by kernel_rfl) (fun _ _ _ h => h) (Or.inl ⟨by rfl, ?_⟩) (by assumption) ?_
  · intro w hSw; (try dsimp only at hSw); have q := HII.out; go_simp
  simp only [Act.put, List.setIfInBounds_toArray, List.set_cons_zero, List.set_cons_succ]
  refine wpAnyH_take (i := 17) (oi := ⟨some 27, _, _, _, _, _⟩) (v := .int .i64 (j : Int)) rfl (by kernel_rfl) (by kernel_rfl) (by kernel_rfl) (fun _ _ _ h => h) (Or.inl ⟨by rfl, ?_⟩) (by assumption) ?_
  · intro w hSw; (try dsimp only at hSw); go_simp
  simp only [Act.put, List.setIfInBounds_toArray, List.set_cons_zero, List.set_cons_succ]
  refine wpAnyH_take (i := 21) (oi := ⟨some 31, _, _, _, _, _⟩) (v := .pointer (some ⟨r, 0, none⟩)) rfl (by kernel_rfl) (by kernel_rfl) (by kernel_rfl) (fun _ _ _ h => h) (Or.inl ⟨by rfl, ?_⟩) (by assumption) ?_
  · intro w hSw; (try dsimp only at hSw); go_simp
  simp only [Act.put, List.setIfInBounds_toArray, List.set_cons_zero, List.set_cons_succ]
  refine wpAnyH_take (i := 22) (oi := ⟨some 32, _, _, _, _, _⟩) (v := .pointer (some ⟨r, 0, none⟩)) rfl (by kernel_rfl) (by kernel_rfl) (by kernel_rfl) (fun _ _ _ h => h) (Or.inl ⟨by rfl, ?_⟩) (by assumption) ?_
  · intro w hSw; (try dsimp only at hSw); go_simp
  simp only [Act.put, List.setIfInBounds_toArray, List.set_cons_zero, List.set_cons_succ]
  refine wpAnyH_ready (rs := [7, 16]) (by kernel_rfl) (by simp) ?_
  refine (AllReadyH.cons (o := ⟨some 17, _, _, _, _, _⟩) rfl (fun K hK => ?_) (AllReadyH.cons (o := ⟨some 26, _, _, _, _, _⟩) rfl (fun K hK => ?_) AllReadyH.nil))
  · have y := HR1.out
    go_simp
    refine hK.out _ _ HN1.out (fun hHeld => ?_)
    clear hK K
    refine wpAnyH_take (i := 9) (oi := ⟨some 19, _, _, _, _, _⟩) (v := .slice A k c) rfl (by kernel_rfl) (by kernel_rfl) (by kernel_rfl) (fun _ _ _ h => h) (Or.inl ⟨by rfl, ?_⟩) (by assumption) ?_
    · intro w hSw; (try dsimp only at hSw); have q := SLT.out; go_simp
    simp only [Act.put, List.setIfInBounds_toArray, List.set_cons_zero, List.set_cons_succ]
    refine wpAnyH_ready (rs := [16]) (by kernel_rfl) (by simp) ?_
    refine (AllReadyH.cons (o := ⟨some 26, _, _, _, _, _⟩) rfl (fun K hK => ?_) AllReadyH.nil)
    have y := HR1.out
    go_simp
    refine hK.out _ _ HN1.out (fun hHeld => ?_)
    clear hK K
    refine wpAnyH_take (i := 18) (oi := ⟨some 28, _, _, _, _, _⟩) (v := .slice (Om.placeFrom A c j) (m.length - j) (c - j)) rfl (by kernel_rfl) (by kernel_rfl) (by kernel_rfl) (fun _ _ _ h => h) (Or.inl ⟨by rfl, ?_⟩) (by assumption) ?_
    · intro w hSw; (try dsimp only at hSw); have q := SLF.out; go_simp
    simp only [Act.put, List.setIfInBounds_toArray, List.set_cons_zero, List.set_cons_succ]
    refine wpAnyH_ready (rs := [19]) (by kernel_rfl) (by simp) ?_
    refine (AllReadyH.cons (o := ⟨some 29, _, _, _, _, _⟩) rfl (fun K hK => ?_) AllReadyH.nil)
    go_simp
    have G4 := Lib.hid (heap_alloc_new w2 (.cells #[.slice A k c, .slice B n.length d, .slice (Om.placeFrom A c j) (m.length - j) (c - j)] 22))
    have K4 : Hid (Below w2.heap.size w2 (w2.alloc (.cells #[.slice A k c, .slice B n.length d, .slice (Om.placeFrom A c j) (m.length - j) (c - j)] 22))) := (Below.refl _ w2).alloc (Nat.le_refl _) _
    have CC := Lib.hid (HCC.out _ K4.out G4.out)
    generalize w2.alloc (.cells #[.slice A k c, .slice B n.length d, .slice (Om.placeFrom A c j) (m.length - j) (c - j)] 22) = W4 at *
    refine hK.out _ _ ((K4.out.cell (p := ⟨N, 0, none⟩) HNL.out).trans HN1.out) (fun hHeld => ?_)
    clear hK K
    refine wpAnyH_ready (rs := [20]) (by kernel_rfl) (by simp) ?_
    refine (AllReadyH.cons (o := ⟨some 30, _, _, _, _, _⟩) rfl (fun K hK => ?_) AllReadyH.nil)
    go_simp
    refine CC.out.mono ?_
    rintro e w5 ⟨A5, c5, rfl, q5, k5⟩
    have K5 : Hid (Below w2.heap.size w2 w5) := K4.out.trans (k5.mono K4.out.size)
    have R5 := Lib.hid (q5.base (B' := 0) (Nat.zero_le _))
    have BK5 := Lib.hid (HBK.out.low K5.out)
    clear q5 k5
    refine hK.out _ _ ((K5.out.cell (p := ⟨N, 0, none⟩) HNL.out).trans HN1.out) (fun hHeld => ?_)
    clear hK K
    refine wpAnyH_take (i := 23) (oi := ⟨some 33, _, _, _, _, _⟩) (v := .pointer (some ⟨r, i, none⟩)) rfl (by kernel_rfl) (by kernel_rfl) (by kernel_rfl) (fun _ _ _ h => h) (Or.inl ⟨by rfl, ?_⟩) (by assumption) ?_
    · intro w hSw; (try dsimp only at hSw); have q := HII.out; go_simp
    simp only [Act.put, List.setIfInBounds_toArray, List.set_cons_zero, List.set_cons_succ]
    refine wpAnyH_ready (rs := [24]) (by kernel_rfl) (by simp) ?_
    refine (AllReadyH.cons (o := ⟨none, _, _, _, _, _⟩) rfl (fun K hK => ?_) AllReadyH.nil)
    have y := BK5.out.slot HI16.out
    have f := BK5.out.free i
    go_simp
    have BK6 := Lib.hid (BK5.out.set HI16.out (.slice A5 L.length c5))
    have G6 : Hid (w2.grownBy (w5.setCell ⟨r, i, none⟩ (.slice A5 L.length c5)) (some r)) := Sm.grown_set (Tr.below_grown K5.out _) i _
    have R6 : Hid (Om.Row (w5.setCell ⟨r, i, none⟩ (.slice A5 L.length c5)) 0 A5 c5 L) := R5.out.keep fun q cs hq => Below.heap_setCell _ _ _ _ (BK5.out.apart hq Tr.pair_tree)
    generalize w5.setCell ⟨r, i, none⟩ (.slice A5 L.length c5) = W6 at *
    clear y f
    refine hK.out _ _ (HKN.out _ G6.out) (fun hHeld => ?_)
    clear hK K
    refine wpAnyH_done (by kernel_rfl) ?_ _
    have UP := Lib.hid (HUP.out _ _ _ G6.out BK6.out R6.out)
    go_wp2_with (go_at_call 119; refine UP.out.mono ?_; rintro e w7 ⟨rfl, q1, q2⟩)
    go_end0
    exact ⟨rfl, q1, q2⟩
  · have y := HR1.out
    go_simp
    refine hK.out _ _ HN1.out (fun hHeld => ?_)
    clear hK K
    refine wpAnyH_take (i := 18) (oi := ⟨some 28, _, _, _, _, _⟩) (v := .slice (Om.placeFrom A c j) (m.length - j) (c - j)) rfl (by kernel_rfl) (by kernel_rfl) (by kernel_rfl) (fun _ _ _ h => h) (Or.inl ⟨by rfl, ?_⟩) (by assumption) ?_
    · intro w hSw; (try dsimp only at hSw); have q := SLF.out; go_simp
    simp only [Act.put, List.setIfInBounds_toArray, List.set_cons_zero, List.set_cons_succ]
    refine wpAnyH_ready (rs := [7]) (by kernel_rfl) (by simp) ?_
    refine (AllReadyH.cons (o := ⟨some 17, _, _, _, _, _⟩) rfl (fun K hK => ?_) AllReadyH.nil)
    have y := HR1.out
    go_simp
    refine hK.out _ _ HN1.out (fun hHeld => ?_)
    clear hK K
    refine wpAnyH_take (i := 9) (oi := ⟨some 19, _, _, _, _, _⟩) (v := .slice A k c) rfl (by kernel_rfl) (by kernel_rfl) (by kernel_rfl) (fun _ _ _ h => h) (Or.inl ⟨by rfl, ?_⟩) (by assumption) ?_
    · intro w hSw; (try dsimp only at hSw); have q := SLT.out; go_simp
    simp only [Act.put, List.setIfInBounds_toArray, List.set_cons_zero, List.set_cons_succ]
    refine wpAnyH_ready (rs := [19]) (by kernel_rfl) (by simp) ?_
    refine (AllReadyH.cons (o := ⟨some 29, _, _, _, _, _⟩) rfl (fun K hK => ?_) AllReadyH.nil)
    go_simp
    have G4 := Lib.hid (heap_alloc_new w2 (.cells #[.slice A k c, .slice B n.length d, .slice (Om.placeFrom A c j) (m.length - j) (c - j)] 22))
    have K4 : Hid (Below w2.heap.size w2 (w2.alloc (.cells #[.slice A k c, .slice B n.length d, .slice (Om.placeFrom A c j) (m.length - j) (c - j)] 22))) := (Below.refl _ w2).alloc (Nat.le_refl _) _
    have CC := Lib.hid (HCC.out _ K4.out G4.out)
    generalize w2.alloc (.cells #[.slice A k c, .slice B n.length d, .slice (Om.placeFrom A c j) (m.length - j) (c - j)] 22) = W4 at *
    refine hK.out _ _ ((K4.out.cell (p := ⟨N, 0, none⟩) HNL.out).trans HN1.out) (fun hHeld => ?_)
    clear hK K
    refine wpAnyH_ready (rs := [20]) (by kernel_rfl) (by simp) ?_
    refine (AllReadyH.cons (o := ⟨some 30, _, _, _, _, _⟩) rfl (fun K hK => ?_) AllReadyH.nil)
    go_simp
    refine CC.out.mono ?_
    rintro e w5 ⟨A5, c5, rfl, q5, k5⟩
    have K5 : Hid (Below w2.heap.size w2 w5) := K4.out.trans (k5.mono K4.out.size)
    have R5 := Lib.hid (q5.base (B' := 0) (Nat.zero_le _))
    have BK5 := Lib.hid (HBK.out.low K5.out)
    clear q5 k5
    refine hK.out _ _ ((K5.out.cell (p := ⟨N, 0, none⟩) HNL.out).trans HN1.out) (fun hHeld => ?_)
    clear hK K
    refine wpAnyH_take (i := 23) (oi := ⟨some 33, _, _, _, _, _⟩) (v := .pointer (some ⟨r, i, none⟩)) rfl (by kernel_rfl) (by kernel_rfl) (by kernel_rfl) (fun _ _ _ h => h) (Or.inl ⟨by rfl, ?_⟩) (by assumption) ?_
    · intro w hSw; (try dsimp only at hSw); have q := HII.out; go_simp
    simp only [Act.put, List.setIfInBounds_toArray, List.set_cons_zero, List.set_cons_succ]
    refine wpAnyH_ready (rs := [24]) (by kernel_rfl) (by simp) ?_
    refine (AllReadyH.cons (o := ⟨none, _, _, _, _, _⟩) rfl (fun K hK => ?_) AllReadyH.nil)
    have y := BK5.out.slot HI16.out
    have f := BK5.out.free i
    go_simp
    have BK6 := Lib.hid (BK5.out.set HI16.out (.slice A5 L.length c5))
    have G6 : Hid (w2.grownBy (w5.setCell ⟨r, i, none⟩ (.slice A5 L.length c5)) (some r)) := Sm.grown_set (Tr.below_grown K5.out _) i _
    have R6 : Hid (Om.Row (w5.setCell ⟨r, i, none⟩ (.slice A5 L.length c5)) 0 A5 c5 L) := R5.out.keep fun q cs hq => Below.heap_setCell _ _ _ _ (BK5.out.apart hq Tr.pair_tree)
    generalize w5.setCell ⟨r, i, none⟩ (.slice A5 L.length c5) = W6 at *
    clear y f
    refine hK.out _ _ (HKN.out _ G6.out) (fun hHeld => ?_)
    clear hK K
    refine wpAnyH_done (by kernel_rfl) ?_ _
    have UP := Lib.hid (HUP.out _ _ _ G6.out BK6.out R6.out)
    go_wp2_with (go_at_call 119; refine UP.out.mono ?_; rintro e w7 ⟨rfl, q1, q2⟩)
    go_end0
    exact ⟨rfl, q1, q2⟩
end Go.Proofs.YtiehcplepneajaaGreatDoor

/-
  tree's Set and Drop.
-/
namespace Go.Proofs.YtiehcplepneajaaGreatDoor
open Go.RowKit
namespace Tr
open Om (Pr)
theorem drop_fit {l : List Pr} (h : Fit l) (p : ByteArray) : Fit (Om.del p l) :=
  ⟨Om.del_rises h.rises, fun x hx => h.fair x ((Om.del_sub p l).subset hx), Nat.le_trans (Om.del_sub p l).length_le h.len⟩
theorem pos_next {p : ByteArray} {l : List Pr} (h : (Om.get p l).isSome = true) : Om.pos p l + 1 ≤ l.length := by
  rw [Om.get_pos p l] at h
  cases hx : l[Om.pos p l]? with
  | none => rw [hx] at h; cases h
  | some x => exact (List.getElem?_eq_some_iff.1 hx).1
/-- What Set needs of change: the path's bucket, where it stands, how far what it takes the place of goes. -/
theorem put_at {l : List Pr} (h : Fit l) (p v : ByteArray) : Bu.part (Om.put p v l) (Bu.bk p) = (Bu.part l (Bu.bk p)).take (Om.pos p (Bu.part l (Bu.bk p))) ++ ([⟨p, v⟩] ++ (Bu.part l (Bu.bk p)).drop (Om.pos p (Bu.part l (Bu.bk p)) + if (Om.get p l).isSome then 1 else 0)) := by
  rw [put_part h.rises, if_pos rfl, Om.put_pos, get_part h.rises]
  rfl
theorem put_apart {l : List Pr} (h : Fit l) (p v : ByteArray) : ∀ c : Nat, c ≠ Bu.bk p → Bu.part (Om.put p v l) c = Bu.part l c := fun c hc => by
  rw [put_part h.rises, if_neg (by omega)]
theorem del_at {l : List Pr} (h : Fit l) {p : ByteArray} (hs : (Om.get p l).isSome = true) : Bu.part (Om.del p l) (Bu.bk p) = (Bu.part l (Bu.bk p)).take (Om.pos p (Bu.part l (Bu.bk p))) ++ ([] ++ (Bu.part l (Bu.bk p)).drop (Om.pos p (Bu.part l (Bu.bk p)) + 1)) := by
  rw [del_part h.rises, if_pos rfl, Om.del_pos, get_part h.rises, if_pos hs]
  rfl
theorem del_apart {l : List Pr} (h : Fit l) (p : ByteArray) : ∀ c : Nat, c ≠ Bu.bk p → Bu.part (Om.del p l) c = Bu.part l c := fun c hc => by
  rw [del_part h.rises, if_neg (by omega)]
theorem pair_at {w : World} {b : Nat} {p v : ByteArray} (h : w.heap[b]? = some (.cells #[.string p, .string v] 79 (0, 0))) : Om.listAt w (some ⟨b, 0, none⟩) [⟨p, v⟩] := .inr ⟨b, 0, rfl, Sm.lt_of h, fun k hk => by
  obtain rfl : k = 0 := by
    have : k < 1 := hk
    omega
  exact ⟨Sm.cells_of h 0 _ rfl, Sm.cells_of h 1 _ rfl⟩⟩
end Tr
set_option maxRecDepth 100000 in
set_option maxHeartbeats 4000000 in
theorem tSet_any {w : World} (hH : Sm.HAt w) (hK : Sm.KAt w) (hsz : 1 < w.heap.size) {r : Nat} {l : List Om.Pr} (hT : Tr.TreeAt w r l) (hr : 2 ≤ r) (p v : ByteArray) (hp : p.size ≤ 281474976710656) (hv : v.size ≤ 281474976710656) :
    Calls Tryz.prog 45 #[.pointer (some ⟨r, 0, none⟩), .string p, .string v] w fun e w' => e = .returned (.int .i64 (Tr.setE l p v : Nat)) ∧ Tr.TreeAt w' r (Tr.setR l p v) ∧ w.grownBy w' (some r) := by
  have CU := Lib.hid (fun wx => paCut_any wx p hp)
  unfold Pa.cutV at CU
  cases ho : Pa.ok p.data.toList
  · rw [ho] at CU
    have hE : Tr.setE l p v = 20 := by unfold Tr.setE; rw [if_pos ho]
    unfold Tr.setR
    rw [hE, if_neg (by decide)]
    clear hE ho
    go_enter Tryz.func45, Tryz.ntmps45
    go_wp2_with (go_at_call 83; refine (CU.out _).mono ?_; rintro e w1 ⟨rfl, k1⟩)
    go_ret
    exact ⟨rfl, hT.low k1, Tr.below_grown k1 _⟩
  rw [ho] at CU
  by_cases hlong : 32 < v.size
  · have hE : Tr.setE l p v = 3 := by unfold Tr.setE; rw [if_neg (by rw [ho]; decide), if_pos hlong]
    unfold Tr.setR
    rw [hE, if_neg (by decide)]
    have hli : (32 : Int) < (v.size : Int) := by omega
    clear hE ho hlong
    go_enter Tryz.func45, Tryz.ntmps45
    go_wp2_with (go_at_call 83; refine (CU.out _).mono ?_; rintro e w1 ⟨rfl, k1⟩)
    go_ret
    exact ⟨rfl, hT.low k1, Tr.below_grown k1 _⟩
  have hli : ¬ (32 : Int) < (v.size : Int) := by omega
  have FI : Hid (∀ wx : World, Below w.heap.size w wx → Calls Tryz.prog 84 #[.pointer (some ⟨r, 0, none⟩), .string p] wx fun e w' => e = .returned (.tuple #[.int .i64 (Bu.bk p : Nat), .int .i64 (Om.pos p (Bu.part l (Bu.bk p)) : Nat), .bool (Om.get p l).isSome]) ∧ Below wx.heap.size wx w') := fun wx hb =>
    tFind_any (hH.low hb (by omega)) (hK.low hb hsz) (Nat.lt_of_lt_of_le hsz hb.size) (hT.low hb) p hp
  have SZ : Hid (∀ wx : World, Below w.heap.size w wx → Calls Tryz.prog 85 #[.pointer (some ⟨r, 0, none⟩)] wx fun e w' => e = .returned (.int .i64 (l.length : Nat)) ∧ wx = w') := fun wx hb => tSize_any (hT.low hb)
  have OW := Lib.hid (fun wx => tOwn_any wx p v hp hv)
  have hfl := hT.fit.len
  have hbk := Bu.bk_lt p
  have CH : Hid (Tr.setE l p v = 0 → ∀ (wx : World) (b : Nat), Below w.heap.size w wx → wx.heap[b]? = some (.cells #[.string p, .string v] 79 (0, 0)) → Calls Tryz.prog 86 #[.pointer (some ⟨r, 0, none⟩), .int .i64 (Bu.bk p : Nat), .int .i64 (Om.pos p (Bu.part l (Bu.bk p)) : Nat), .int .i64 ((Om.pos p (Bu.part l (Bu.bk p)) + if (Om.get p l).isSome then 1 else 0 : Nat) : Int), .slice (some ⟨b, 0, none⟩) 1 1] wx fun e w' => e = .returned (.tuple #[]) ∧ Tr.TreeAt w' r (Om.put p v l) ∧ w.grownBy w' (some r)) := fun hE wx b hb hg =>
    (tChange_any (n := [⟨p, v⟩]) (hH.low hb (by omega)) (hK.low hb hsz) (Nat.lt_of_lt_of_le hsz hb.size) (hT.low hb) hr (Tr.put_fit hT.fit hE) hbk rfl (Om.pos_le _ _) (by
      split
      · rename_i hs
        rw [← Tr.get_part hT.fit.rises p] at hs
        exact Tr.pos_next hs
      · exact Om.pos_le _ _) 1 (Tr.pair_at hg) (Nat.le_refl _) (Tr.put_at hT.fit p v) (Tr.put_apart hT.fit p v)).mono fun e w' ⟨h1, h2, h3⟩ => ⟨h1, h2, Sm.grown_trans (Tr.below_grown hb _) h3⟩
  have hpl : Om.pos p (Bu.part l (Bu.bk p)) ≤ 48 := by
    have q1 := Om.pos_le p (Bu.part l (Bu.bk p))
    have q2 := Bu.part_length l (Bu.bk p)
    omega
  have HT := Lib.hid hT
  have HW : Hid (∀ wx : World, Below w.heap.size w wx → Tr.TreeAt wx r l ∧ w.grownBy wx (some r)) := fun wx hb => ⟨hT.low hb, Tr.below_grown hb _⟩
  obtain ⟨P, hP⟩ : ∃ P, P = Om.pos p (Bu.part l (Bu.bk p)) := ⟨_, rfl⟩
  obtain ⟨i, hi⟩ : ∃ i, i = Bu.bk p := ⟨_, rfl⟩
  obtain ⟨g, hg⟩ : ∃ g, g = (Om.get p l).isSome := ⟨_, rfl⟩
  obtain ⟨n, hn⟩ : ∃ n, n = l.length := ⟨_, rfl⟩
  rw [← hP, ← hg, ← hi] at FI CH
  rw [← hP] at hpl
  rw [← hn] at SZ
  have HLEN := Lib.hid hfl
  have hn48 : n ≤ 48 := by omega
  have HG := Lib.hid hg
  have HNN := Lib.hid hn
  clear hH hK hsz hT hP hi hg hfl hbk hn
  cases g
  · by_cases h48 : n = 48
    · have hE : Tr.setE l p v = 6 := by
        unfold Tr.setE
        rw [if_neg (by rw [ho]; decide), if_neg hlong, if_pos ⟨HG.out.symm, by rw [← HNN.out]; omega⟩]
      unfold Tr.setR
      rw [hE, if_neg (by decide)]
      subst h48
      clear hE ho hlong CH
      go_enter Tryz.func45, Tryz.ntmps45
      go_wp2_with first
        | (go_at_call 83; refine (CU.out _).mono ?_; rintro e w1 ⟨rfl, k1⟩; have B1 := Lib.hid k1; clear k1)
        | (go_at_call 84; refine (FI.out _ B1.out).mono ?_; rintro e w2 ⟨rfl, k2⟩; have B2 : Hid (Below w.heap.size w w2) := B1.out.trans (k2.mono B1.out.size); clear k2)
        | (go_at_call 85; refine (SZ.out _ B2.out).mono ?_; rintro e w3 ⟨rfl, rfl⟩)
      go_ret
      exact ⟨rfl, HW.out _ B2.out⟩
    · have hE : Tr.setE l p v = 0 := Tr.setE_of ho (by omega) (.inr (by rw [← HNN.out]; omega))
      have C0 := Lib.hid (CH.out hE)
      unfold Tr.setR
      rw [hE, if_pos rfl]
      have h48i : ¬ (n : Int) = 48 := by omega
      clear hE ho hlong CH HG HW HT
      simp only [Bool.false_eq_true, if_false, Nat.add_zero] at C0
      go_enter Tryz.func45, Tryz.ntmps45
      go_upto_region 14 with first
        | (go_at_call 83; refine (CU.out _).mono ?_; rintro e w1 ⟨rfl, k1⟩; have B1 := Lib.hid k1; clear k1)
        | (go_at_call 84; refine (FI.out _ B1.out).mono ?_; rintro e w2 ⟨rfl, k2⟩; have B2 : Hid (Below w.heap.size w w2) := B1.out.trans (k2.mono B1.out.size); clear k2)
        | (go_at_call 85; refine (SZ.out _ B2.out).mono ?_; rintro e w3 ⟨rfl, rfl⟩)
      go_wp2_with first
        | (go_at_call 53; refine (OW.out _).mono ?_; rintro e w4 ⟨rfl, k4⟩; have B4 : Hid (Below w.heap.size w w4) := B2.out.trans (k4.mono B2.out.size); clear k4)
        | (go_at_call 86; refine (C0.out _ _ (B4.out.alloc B4.out.size _) (heap_alloc_new w4 (.cells #[.string p, .string v] 79))).mono ?_; rintro e w5 ⟨rfl, q1, q2⟩)
      go_ret
      exact ⟨rfl, q1, q2⟩
  · have hE : Tr.setE l p v = 0 := Tr.setE_of ho (by omega) (.inl HG.out.symm)
    have C0 := Lib.hid (CH.out hE)
    unfold Tr.setR
    rw [hE, if_pos rfl]
    have hsuc : IntKind.i64.wrap ((P : Int) + 1) = ((P + 1 : Nat) : Int) := by simp [IntKind.wrap, IntKind.bits, IntKind.signed]; omega
    clear hE ho hlong CH HG HW HT SZ
    simp only [if_true] at C0
    go_enter Tryz.func45, Tryz.ntmps45
    go_upto_region 14 with first
      | (go_at_call 83; refine (CU.out _).mono ?_; rintro e w1 ⟨rfl, k1⟩; have B1 := Lib.hid k1; clear k1)
      | (go_at_call 84; refine (FI.out _ B1.out).mono ?_; rintro e w2 ⟨rfl, k2⟩; have B2 : Hid (Below w.heap.size w w2) := B1.out.trans (k2.mono B1.out.size); clear k2)
    go_wp2_with first
      | (go_at_call 53; refine (OW.out _).mono ?_; rintro e w4 ⟨rfl, k4⟩; have B4 : Hid (Below w.heap.size w w4) := B2.out.trans (k4.mono B2.out.size); clear k4)
      | (go_at_call 86; refine (C0.out _ _ (B4.out.alloc B4.out.size _) (heap_alloc_new w4 (.cells #[.string p, .string v] 79))).mono ?_; rintro e w5 ⟨rfl, q1, q2⟩)
    go_ret
    exact ⟨rfl, q1, q2⟩
set_option maxRecDepth 100000 in
set_option maxHeartbeats 4000000 in
theorem tDrop_any {w : World} (hH : Sm.HAt w) (hK : Sm.KAt w) (hsz : 1 < w.heap.size) {r : Nat} {l : List Om.Pr} (hT : Tr.TreeAt w r l) (hr : 2 ≤ r) (p : ByteArray) (hp : p.size ≤ 281474976710656) :
    Calls Tryz.prog 46 #[.pointer (some ⟨r, 0, none⟩), .string p] w fun e w' => e = .returned (.bool (Om.get p l).isSome) ∧ Tr.TreeAt w' r (Om.del p l) ∧ w.grownBy w' (some r) := by
  have FI := Lib.hid (tFind_any hH hK hsz hT p hp)
  have hbk := Bu.bk_lt p
  have hfl := hT.fit.len
  have CH : Hid ((Om.get p l).isSome = true → ∀ (wx : World), Below w.heap.size w wx → Calls Tryz.prog 86 #[.pointer (some ⟨r, 0, none⟩), .int .i64 (Bu.bk p : Nat), .int .i64 (Om.pos p (Bu.part l (Bu.bk p)) : Nat), .int .i64 ((Om.pos p (Bu.part l (Bu.bk p)) + 1 : Nat) : Int), .slice none 0 0] wx fun e w' => e = .returned (.tuple #[]) ∧ Tr.TreeAt w' r (Om.del p l) ∧ w.grownBy w' (some r)) := fun hs wx hb =>
    (tChange_any (n := []) (hH.low hb (by omega)) (hK.low hb hsz) (Nat.lt_of_lt_of_le hsz hb.size) (hT.low hb) hr (Tr.drop_fit hT.fit p) hbk rfl (Om.pos_le _ _) (by
      have hs' := hs
      rw [← Tr.get_part hT.fit.rises p] at hs'
      exact Tr.pos_next hs') 0 (.inl rfl) (by simp) (Tr.del_at hT.fit hs) (Tr.del_apart hT.fit p)).mono fun e w' ⟨h1, h2, h3⟩ => ⟨h1, h2, Sm.grown_trans (Tr.below_grown hb _) h3⟩
  have hpl : Om.pos p (Bu.part l (Bu.bk p)) ≤ 48 := by
    have q1 := Om.pos_le p (Bu.part l (Bu.bk p))
    have q2 := Bu.part_length l (Bu.bk p)
    omega
  have HNO : Hid ((Om.get p l).isSome = false → ∀ wx : World, Below w.heap.size w wx → Tr.TreeAt wx r (Om.del p l) ∧ w.grownBy wx (some r)) := fun hs wx hb => by
    rw [Om.del_pos, if_neg (by rw [hs]; decide)]
    exact ⟨hT.low hb, Tr.below_grown hb _⟩
  obtain ⟨P, hP⟩ : ∃ P, P = Om.pos p (Bu.part l (Bu.bk p)) := ⟨_, rfl⟩
  obtain ⟨i, hi⟩ : ∃ i, i = Bu.bk p := ⟨_, rfl⟩
  obtain ⟨g, hg⟩ : ∃ g, g = (Om.get p l).isSome := ⟨_, rfl⟩
  rw [← hP, ← hg, ← hi] at FI
  rw [← hP, ← hg, ← hi] at CH
  rw [← hP] at hpl
  rw [← hg] at HNO ⊢
  clear hH hK hsz hT hP hi hg hfl hbk
  cases g
  · have N0 := Lib.hid (HNO.out rfl)
    clear HNO CH
    go_enter Tryz.func46, Tryz.ntmps46
    go_wp2_with (go_at_call 84; refine FI.out.mono ?_; rintro e w1 ⟨rfl, k1⟩)
    go_ret
    exact ⟨rfl, N0.out _ k1⟩
  · have hsuc : IntKind.i64.wrap ((P : Int) + 1) = ((P + 1 : Nat) : Int) := by simp [IntKind.wrap, IntKind.bits, IntKind.signed]; omega
    have C0 := Lib.hid (CH.out rfl)
    clear CH HNO
    go_enter Tryz.func46, Tryz.ntmps46
    go_wp2_with first
      | (go_at_call 84; refine FI.out.mono ?_; rintro e w1 ⟨rfl, k1⟩; have B1 := Lib.hid k1; clear k1)
      | (go_at_call 86; refine (C0.out _ B1.out).mono ?_; rintro e w5 ⟨rfl, q1, q2⟩)
    go_ret
    exact ⟨rfl, q1, q2⟩
end Go.Proofs.YtiehcplepneajaaGreatDoor
