/-
  TreeRoots answers true for every two rows of acts, and turns nothing of what was there.
-/
import Derived.Test.YtiehcplepneajaaGreatDoorTrFront
import Derived.Test.YtiehcplepneajaaGreatDoorR13List
import Derived.Test.YtiehcplepneajaaGreatDoorR15Coll
import Derived.Test.YtiehcplepneajaaGreatDoorMRs
import Derived.Test.YtiehcplepneajaaGreatDoorOmOwn
namespace Go.Proofs.YtiehcplepneajaaGreatDoor
open Go.RowKit
namespace Om
/-- A row of texts behind another one, under a guard that lets it. -/
theorem wpList_cat_g {w : World} {ops : Array Oper} {rst : List Oper} {o : Oper} {a : Act} {Q : Exit → Act → World → Prop} (s y : Operand)
    (ho : o.op = .call { callee := .builtin .append, args := #[s, y], argTypes := #[50, 50] }) {B : Nat} {A : Option Addr} {c : Nat} {l : List ByteArray} (hs : a.eval s = .slice A l.length c) (h : SRow w B A c l) {m : List ByteArray} {g d : Nat}
    (hy : a.eval y = .slice (some ⟨g, 0, none⟩) m.length d) (hN : ∀ j (hj : j < m.length), w.cell? ⟨g, j, none⟩ = some (.string m[j])) (hl : l.length + m.length ≤ 1000000) (hB : B ≤ w.heap.size)
    (K : ∀ A' c' w', SRow w' B A' c' (l ++ m) → w.grownBy w' (Value.slice A l.length c).ownBlock → wpList Tryz.prog ops Q rst (a.put o.dst (.slice A' (l.length + m.length) c')) w') (hgd : Region.wanted o (yielded ops a.tmps) = true) : wpList Tryz.prog ops Q (o :: rst) a w :=
  wpList_step fun _ hK => by
    rw [if_pos hgd]
    obtain ⟨i0, hi, hz0, hz1, hz2⟩ := info_parts str_info
    refine wp_append_own w s y 50 ho B 9 i0 (.string ⟨#[]⟩) 1 16 Tryz.underlying50 hi hz0 hz1 hz2 rfl (by decide) _ _ _ hs h ⟨g, 0, none⟩ m.length d (txts m) hy (by unfold txts; simp) ?_ (by intro u hu; unfold txts at hu; obtain ⟨x, _, rfl⟩ := List.mem_map.1 hu; rfl) (by unfold maxLen; omega) (by omega) hB ?_
    · intro j u hu
      rw [Addr.add_mid, Nat.zero_add]
      unfold txts at hu
      rw [List.getElem?_map] at hu
      by_cases hj : j < m.length
      · rw [List.getElem?_eq_getElem hj] at hu
        rw [hN j hj]
        exact hu
      · rw [List.getElem?_eq_none (by omega)] at hu
        cases hu
    · intro v' w' h1 h2 _
      obtain ⟨A', c', rfl⟩ := Sm.own_shape h1
      refine hK _ _ (K A' c' w' ?_ h2)
      unfold SRow txts
      rw [List.length_append, List.map_append]
      exact h1
end Om
namespace Tr
theorem txl_data (l : List Om.Pr) : (txl l).map (fun s => s.data.toList) = texts l := by
  unfold txl
  rw [List.map_map]
  conv => rhs; rw [← List.map_id (texts l)]
  exact List.map_congr_left fun x _ => tx_list x
theorem txl_small {l : List Om.Pr} (hf : Fit l) : ∀ x ∈ txl l, x.size ≤ 100000 := fun x hx => by
  unfold txl at hx
  rw [texts_row, List.map_map] at hx
  obtain ⟨k, hk, rfl⟩ := List.mem_map.1 hx
  have := ndT_length l hf.may hf.len k (List.mem_range.1 hk)
  show (tx (tk l k)).size ≤ _
  rw [tx_size]
  exact this
end Tr
set_option maxRecDepth 100000 in
set_option maxHeartbeats 8000000 in
theorem treeRoots_any {w : World} (G : Tr.Gd w) {A : Option Addr} {a : List Tr.Ac} (c0 : Nat) (hit : Tr.actsAt w A a) {A1 : Option Addr} {b : List Tr.Ac} (c1 : Nat) (hit1 : Tr.actsAt w A1 b) :
    Calls Tryz.prog 11 #[.slice A a.length c0, .slice A1 b.length c1] w fun e w' => e = .returned (.bool true) ∧ Below w.heap.size w w' := by
  have AW : Hid (∀ wx : World, Below w.heap.size w wx → Calls Tryz.prog 41 #[] wx fun e w' => e = .returned (.bool true) ∧ Below wx.heap.size wx w') := fun wx hb => awake15_any (G.low hb)
  obtain ⟨g, hg⟩ := Tr.fairA_or a
  obtain ⟨g2, hg2⟩ := Tr.fairA_or b
  have HG := Lib.hid hg
  have HG2 := Lib.hid hg2
  have HIT := Lib.hid hit
  have HIT1 := Lib.hid hit1
  have GR1 : Hid (Calls Tryz.prog 40 #[.slice A a.length c0] w fun e w' => e = .returned (.bool g) ∧ w = w') := great15_any HIT.out g HG.out
  have GR2 : Hid (Calls Tryz.prog 40 #[.slice A1 b.length c1] w fun e w' => e = .returned (.bool g2) ∧ w = w') := great15_any HIT1.out g2 HG2.out
  have NEW : Hid (∀ wx : World, Below w.heap.size w wx → Calls Tryz.prog 16 #[] wx fun e w' => ∃ r, e = .returned (.pointer (some ⟨r, 0, none⟩)) ∧ Tr.Ow w w' r [] ∧ wx.heap.size ≤ r ∧ Below wx.heap.size wx w') := fun wx hb => Tr.newC G hb
  have PL : Hid (∀ (wx : World) (r : Nat) (l : List Om.Pr) (A : Option Addr) (c : Nat) (m : List Tr.Ac), Tr.Ow w wx r l → Tr.actsAt wx A m → Tr.Off A m r → Tr.FairA m → Calls Tryz.prog 49 #[.pointer (some ⟨r, 0, none⟩), .slice A m.length c] wx fun e w' => e = .returned (.tuple #[]) ∧ Tr.Ow w w' r (Tr.play l m) ∧ wx.grownBy w' (some r)) := fun wx r l A c m h1 h2 h3 h4 => h1.playC G h2 h3 h4
  have ALL : Hid (∀ (wx : World) (r : Nat) (l : List Om.Pr), Tr.Ow w wx r l → Calls Tryz.prog 36 #[.pointer (some ⟨r, 0, none⟩)] wx fun e w' => ∃ A c, e = .returned (.slice A l.length c) ∧ Om.listAt w' A l ∧ Below wx.heap.size wx w') := fun wx r l h => h.allC
  have RT : Hid (∀ (wx : World) (r : Nat) (l : List Om.Pr), Tr.Ow w wx r l → Calls Tryz.prog 18 #[.pointer (some ⟨r, 0, none⟩)] wx fun e w' => e = .returned (Tr.hv (Tr.root l)) ∧ Below wx.heap.size wx w') := fun wx r l h => h.rootC
  have TX : Hid (∀ (wx : World) (r : Nat) (l : List Om.Pr), Tr.Ow w wx r l → Calls Tryz.prog 51 #[.pointer (some ⟨r, 0, none⟩)] wx fun e w' => ∃ B q, e = .returned (.slice B 31 q) ∧ Om.SRow w' wx.heap.size B q (Tr.txl l) ∧ Below wx.heap.size wx w') := fun wx r l h => h.textsC G
  clear hit hit1 hg hg2 G
  cases g
  case true =>
    clear HG HG2
    go_enter Tryz.func11, Tryz.ntmps11
    go_wp2_with first
      | (go_at_call 40; refine GR1.out.mono ?_; rintro e w2 ⟨rfl, rfl⟩; clear GR1)
      | (go_at_call 41; refine (AW.out _ (Below.refl _ _)).mono ?_; rintro e w3 ⟨rfl, k3⟩)
    go_ret
    exact ⟨rfl, k3⟩
  case false =>
    have HFA : Hid (Tr.FairA a) := Classical.byContradiction fun h => by have := HG.out.2 h; cases this
    clear HG
    cases g2
    case true =>
      clear HG2 HFA
      go_enter Tryz.func11, Tryz.ntmps11
      go_wp2_with first
        | (go_at_call 40; refine GR1.out.mono ?_; rintro e w2 ⟨rfl, rfl⟩; clear GR1)
        | (go_at_call 40; refine GR2.out.mono ?_; rintro e w2 ⟨rfl, rfl⟩; clear GR2)
        | (go_at_call 41; refine (AW.out _ (Below.refl _ _)).mono ?_; rintro e w3 ⟨rfl, k3⟩)
      go_ret
      exact ⟨rfl, k3⟩
    case false =>
      have HFB : Hid (Tr.FairA b) := Classical.byContradiction fun h => by have := HG2.out.2 h; cases this
      clear HG2
      obtain ⟨l, hl⟩ : ∃ l, l = Tr.play [] a := ⟨_, rfl⟩
      obtain ⟨m, hm⟩ : ∃ m, m = Tr.play [] b := ⟨_, rfl⟩
      have hfl : Tr.Fit l := by rw [hl]; exact Tr.play_fit Tr.Fit.nil a
      have hfm : Tr.Fit m := by rw [hm]; exact Tr.play_fit Tr.Fit.nil b
      have HL := Lib.hid hl
      have HM := Lib.hid hm
      clear hl hm
      have PL1 : Hid (∀ (wx : World) (r : Nat), Tr.Ow w wx r [] → Calls Tryz.prog 49 #[.pointer (some ⟨r, 0, none⟩), .slice A a.length c0] wx fun e w' => e = .returned (.tuple #[]) ∧ Tr.Ow w w' r l ∧ wx.grownBy w' (some r)) := fun wx r h => by rw [HL.out]; exact PL.out wx r [] A c0 a h (HIT.out.below h.bel) (Tr.off_of HIT.out h.low) HFA.out
      have PL2 : Hid (∀ (wx : World) (r : Nat), Tr.Ow w wx r [] → Calls Tryz.prog 49 #[.pointer (some ⟨r, 0, none⟩), .slice A1 b.length c1] wx fun e w' => e = .returned (.tuple #[]) ∧ Tr.Ow w w' r m ∧ wx.grownBy w' (some r)) := fun wx r h => by rw [HM.out]; exact PL.out wx r [] A1 c1 b h (HIT1.out.below h.bel) (Tr.off_of HIT1.out h.low) HFB.out
      have H48 : Hid (l.length ≤ 1000000) := by have := hfl.len; show _ ≤ _; omega
      obtain ⟨g, hg⟩ : ∃ g : Bool, g = true ↔ l = m := by
        by_cases h : l = m
        · exact ⟨true, by simp [h]⟩
        · exact ⟨false, by simp [h]⟩
      obtain ⟨t, ht⟩ : ∃ t : Bool, t = (Tr.root l == Tr.root m) := ⟨_, rfl⟩
      have SAM : Hid (∀ (wx : World) (A C : Option Addr) (c d : Nat), Om.listAt wx A l → Om.listAt wx C m → Calls Tryz.prog 25 #[.slice A l.length c, .slice C m.length d] wx fun e w' => e = .returned (.bool g) ∧ Below wx.heap.size wx w') := fun wx A C c d h1 h2 => r13Same_any c d h1 h2 H48.out g hg
      have heq0 : ∀ wx : World, (Op.equalIn 10000 36 (Tr.hv (Tr.root l)) (Tr.hv (Tr.root m))).run Tryz.prog wx = .ok t wx := fun wx => by
        have := Sm.eq_hash (Tr.root l) (Tr.root m) (Tr.nd_length _ _ _) (Tr.nd_length _ _ _) wx
        rw [this, ht]
      have COL : Hid (g ≠ t → ∀ (wx : World) (A : Option Addr) (c : Nat), Om.txtsAt wx A (Tr.txl l ++ Tr.txl m) → Calls Tryz.prog 50 #[.slice A 62 c] wx fun e w' => e = .returned (.bool true) ∧ Below wx.heap.size wx w') := fun hne wx A c h => by
        have hcoll : Tr.Coll (Tr.texts l ++ Tr.texts m) := by
          by_cases hr : Tr.root l = Tr.root m
          · rcases Tr.Fit.inj hfl hfm hr with h | h
            · exfalso
              apply hne
              rw [hg.2 h, ht, hr]
              simp
            · exact h
          · exfalso
            apply hne
            have h1 : t = false := by rw [ht]; exact beq_eq_false_iff_ne.2 hr
            cases hgg : g with
            | false => exact h1.symm
            | true => exact absurd (by rw [hg.1 hgg]) hr
        have h62 : (Tr.txl l ++ Tr.txl m).length = 62 := by rw [List.length_append, Tr.txl_length, Tr.txl_length]
        have hd : (Tr.txl l ++ Tr.txl m).map (fun s => s.data.toList) = Tr.texts l ++ Tr.texts m := by rw [List.map_append, Tr.txl_data, Tr.txl_data]
        have h0 := r15Collides_any (fun wx s hs => rssum_any s (by omega) wx) c h (by rw [h62]; decide) (fun x hx => by
          rcases List.mem_append.1 hx with hx | hx
          · exact Tr.txl_small hfl x hx
          · exact Tr.txl_small hfm x hx)
        rw [hd, h62] at h0
        refine h0.mono ?_
        rintro e w' ⟨h1 | ⟨_, h1⟩, h2⟩
        · exact ⟨h1, h2⟩
        · exact absurd hcoll (Tr.Calm.none (by rw [List.length_append, Tr.texts_length, Tr.texts_length]; exact h1))
      have HGT : Hid (g = false ∨ t = true) := by
        cases hgg : g with
        | false => exact .inl rfl
        | true => right; rw [ht, hg.1 hgg]; simp
      have RT1 : Hid (∀ (wx : World) (r : Nat), Tr.Ow w wx r l → Calls Tryz.prog 18 #[.pointer (some ⟨r, 0, none⟩)] wx fun e w' => e = .returned (.agg (Lib.byteCells (Tr.root l)).toArray) ∧ Below wx.heap.size wx w') := fun wx r h => RT.out wx r l h
      have RT2 : Hid (∀ (wx : World) (r : Nat), Tr.Ow w wx r m → Calls Tryz.prog 18 #[.pointer (some ⟨r, 0, none⟩)] wx fun e w' => e = .returned (.agg (Lib.byteCells (Tr.root m)).toArray) ∧ Below wx.heap.size wx w') := fun wx r h => RT.out wx r m h
      obtain ⟨cr1, hcr1⟩ : ∃ c, c = (Lib.byteCells (Tr.root l)).toArray := ⟨_, rfl⟩
      obtain ⟨cr2, hcr2⟩ : ∃ c, c = (Lib.byteCells (Tr.root m)).toArray := ⟨_, rfl⟩
      have heq : ∀ wx : World, (Op.equalIn 10000 36 (.agg cr1) (.agg cr2)).run Tryz.prog wx = .ok t wx := fun wx => by rw [hcr1, hcr2]; exact heq0 wx
      rw [← hcr1] at RT1
      rw [← hcr2] at RT2
      have TL := Lib.hid (Tr.txl_length l)
      have TM := Lib.hid (Tr.txl_length m)
      obtain ⟨tl, htl⟩ : ∃ x, x = Tr.txl l := ⟨_, rfl⟩
      obtain ⟨tm, htm⟩ : ∃ x, x = Tr.txl m := ⟨_, rfl⟩
      have TX1 : Hid (∀ (wx : World) (r : Nat), Tr.Ow w wx r l → Calls Tryz.prog 51 #[.pointer (some ⟨r, 0, none⟩)] wx fun e w' => ∃ B q, e = .returned (.slice B tl.length q) ∧ Om.SRow w' wx.heap.size B q tl ∧ Below wx.heap.size wx w') := fun wx r h => by rw [htl, TL.out]; exact TX.out wx r l h
      have TX2 : Hid (∀ (wx : World) (r : Nat), Tr.Ow w wx r m → Calls Tryz.prog 51 #[.pointer (some ⟨r, 0, none⟩)] wx fun e w' => ∃ B q, e = .returned (.slice B tm.length q) ∧ Om.SRow w' wx.heap.size B q tm ∧ Below wx.heap.size wx w') := fun wx r h => by rw [htm, TM.out]; exact TX.out wx r m h
      rw [← htl] at COL TL
      rw [← htm] at COL TM
      clear hcr1 hcr2 heq0 RT TX PL HL HM hfl hfm hg ht htl htm
      go_enter Tryz.func11, Tryz.ntmps11
      go_upto_region 3 with (first | (go_at_call 40; refine GR1.out.mono ?_; rintro e w2 ⟨rfl, rfl⟩; clear GR1) | (go_at_call 40; refine GR2.out.mono ?_; rintro e w2 ⟨rfl, rfl⟩; clear GR2))
      go_upto_region 4 with (go_at_call 16; refine (NEW.out _ (Below.refl _ _)).mono ?_; rintro e w3 ⟨r1, rfl, o3, -, k3⟩)
      have O3 := Lib.hid o3
      clear o3 k3
      go_upto_region 5 with (go_at_call 16; refine (NEW.out _ O3.out.bel).mono ?_; rintro e w4 ⟨r2, rfl, o4, hr4, k4⟩)
      have hne : r1 ≠ r2 := by have := O3.out.tree.lt; omega
      have HNE := Lib.hid hne
      have O4 := Lib.hid (O3.out.step k4)
      have U4 := Lib.hid o4
      clear o4 hr4 k4 NEW O3 hne
      go_upto_region 6 with (go_at_call 49; refine (PL1.out _ _ O4.out).mono ?_; rintro e w5 ⟨rfl, o5, g5⟩)
      have U5 := Lib.hid (U4.out.beside O4.out HNE.out g5)
      have O5 := Lib.hid o5
      clear o5 g5 O4 U4 PL1
      go_upto_region 7 with (go_at_call 49; refine (PL2.out _ _ U5.out).mono ?_; rintro e w6 ⟨rfl, o6, g6⟩)
      have O6 := Lib.hid (O5.out.beside U5.out (fun e => HNE.out e.symm) g6)
      have U6 := Lib.hid o6
      clear o6 g6 O5 U5 PL2
      go_upto_region 8 with (first
        | (go_at_call 36; refine (ALL.out _ _ _ O6.out).mono ?_; rintro e w7 ⟨A7, c7, rfl, l7, k7⟩; have L7 := Lib.hid l7; have O7 := Lib.hid (O6.out.step k7); have U7 := Lib.hid (U6.out.step k7); clear k7 l7 O6 U6)
        | (go_at_call 36; refine (ALL.out _ _ _ U7.out).mono ?_; rintro e w8 ⟨A8, c8, rfl, l8, k8⟩; have M8 := Lib.hid l8; have L8 := Lib.hid (L7.out.below k8); have O8 := Lib.hid (O7.out.step k8); have U8 := Lib.hid (U7.out.step k8); clear k8 l8 O7 U7)
        | (go_at_call 25; refine (SAM.out _ _ _ _ _ L8.out M8.out).mono ?_; rintro e w9 ⟨rfl, k9⟩; have O9 := Lib.hid (O8.out.step k9); have U9 := Lib.hid (U8.out.step k9); clear k9))
      by_cases hgt : g = t
      · have hb : (g == t) = true := by rw [hgt]; simp
        go_wp2_with first
          | (go_at_call 18; refine (RT1.out _ _ O9.out).mono ?_; rintro e w10 ⟨rfl, k10⟩; have O10 := Lib.hid (O9.out.step k10); have U10 := Lib.hid (U9.out.step k10); clear k10 O9 U9)
          | (go_at_call 18; refine (RT2.out _ _ U10.out).mono ?_; rintro e w11 ⟨rfl, k11⟩; have O11 := Lib.hid (O10.out.step k11); clear k11)
          | (go_at_call 41; refine (AW.out _ O11.out.bel).mono ?_; rintro e w12 ⟨rfl, k12⟩)
        go_ret
        exact ⟨rfl, O11.out.bel.trans (k12.mono O11.out.bel.size)⟩
      · have hgf : g = false := by
          rcases HGT.out with h | h
          · exact h
          · cases hg' : g with
            | false => rfl
            | true => exact absurd (by rw [hg', h]) hgt
        have COL2 := Lib.hid (COL.out hgt)
        clear COL
        subst hgf
        have htt : t = true := by
          cases t with
          | true => rfl
          | false => exact absurd rfl hgt
        subst htt
        clear hgt
        go_wp2_with first
          | (go_at_call 18; refine (RT1.out _ _ O9.out).mono ?_; rintro e w10 ⟨rfl, k10⟩; have O10 := Lib.hid (O9.out.step k10); have U10 := Lib.hid (U9.out.step k10); clear k10 O9 U9)
          | (go_at_call 18; refine (RT2.out _ _ U10.out).mono ?_; rintro e w11 ⟨rfl, k11⟩; have O11 := Lib.hid (O10.out.step k11); have U11 := Lib.hid (U10.out.step k11); clear k11 O10 U10)
          | (go_at_call 51; refine (TX1.out _ _ O11.out).mono ?_; rintro e w12 ⟨B12, q12, rfl, r12, k12⟩; have R12 := Lib.hid (r12.base O11.out.bel.size); have U12 := Lib.hid (U11.out.step k12); clear k12 r12 O11 U11)
          | (go_at_call 51; refine (TX2.out _ _ U12.out).mono ?_; rintro e w13 ⟨B13, q13, rfl, r13, k13⟩; have R13 := Lib.hid (R12.out.low k13); have U13 := Lib.hid (U12.out.step k13); obtain ⟨g13, rfl, -, -⟩ := r13.get (j := 0) (by rw [TM.out]; decide); have S13 := Lib.hid r13; clear k13 r13 U12)
          | (at_builtin; refine Om.wpList_cat_g _ _ rfl rfl R13.out (m := tm) (g := g13) (d := q13) rfl (fun j hj => by obtain ⟨g', e', _, h'⟩ := S13.out.get hj; cases e'; exact h') (by rw [TL.out, TM.out]; decide) U13.out.bel.size ?_ ?_; rotate_left; rfl; intro A14 c14 w14 hr14 hg14; have T14 := Lib.hid hr14.txtsAt; have B14 : Hid (Below w.heap.size w w14) := U13.out.bel.grown hg14 U13.out.bel.size (fun q hq => (R13.out.blk hq).1); rw [TL.out, TM.out]; clear hr14 hg14)
          | (go_at_call 50; refine (COL2.out _ _ _ T14.out).mono ?_; rintro e w15 ⟨rfl, k15⟩; have B15 : Hid (Below w.heap.size w w15) := B14.out.trans (k15.mono B14.out.size); clear k15)
          | (go_at_call 41; refine (AW.out _ B15.out).mono ?_; rintro e w16 ⟨rfl, k16⟩)
        go_ret
        exact ⟨rfl, B15.out.trans (k16.mono B15.out.size)⟩
end Go.Proofs.YtiehcplepneajaaGreatDoor
