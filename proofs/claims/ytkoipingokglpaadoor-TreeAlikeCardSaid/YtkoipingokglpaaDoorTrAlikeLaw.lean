/-
  TreeAlike answers true for every two rows of acts, and turns nothing of what was there.
-/
import Derived.Test.YtkoipingokglpaaDoorTrFront
import Derived.Test.YtkoipingokglpaaDoorR13List
namespace Go.Proofs.YtkoipingokglpaaDoor
open Go.RowKit
namespace Tr
theorem wrap_pow' {level : Nat} (h : level ≤ 4) : IntKind.i64.wrap ((2 : Int) ^ level) = (2 : Int) ^ level := by
  obtain rfl | rfl | rfl | rfl | rfl : level = 0 ∨ level = 1 ∨ level = 2 ∨ level = 3 ∨ level = 4 := by omega
  all_goals decide
theorem pow_cast' (level : Nat) : ((2 ^ level : Nat) : Int) = (2 : Int) ^ level := by
  induction level with
  | zero => rfl
  | succ n ih => rw [Nat.pow_succ, Int.pow_succ, ← ih]; rfl
theorem pow_le' {level : Nat} (h : level ≤ 4) : 2 ^ level ≤ 16 := by
  obtain rfl | rfl | rfl | rfl | rfl : level = 0 ∨ level = 1 ∨ level = 2 ∨ level = 3 ∨ level = 4 := by omega
  all_goals decide
end Tr
set_option maxRecDepth 100000 in
set_option maxHeartbeats 8000000 in
theorem treeAlike_any {w : World} (G : Tr.Gd w) {A : Option Addr} {a : List Tr.Ac} (c0 : Nat) (hit : Tr.actsAt w A a) {A1 : Option Addr} {b : List Tr.Ac} (c1 : Nat) (hit1 : Tr.actsAt w A1 b) :
    Calls Tryd.prog 5 #[.slice A a.length c0, .slice A1 b.length c1] w fun e w' => e = .returned (.bool true) ∧ Below w.heap.size w w' := by
  have AW : Hid (∀ wx : World, Below w.heap.size w wx → Calls Tryd.prog 10 #[] wx fun e w' => e = .returned (.bool true) ∧ Below wx.heap.size wx w') := fun wx hb => awake15_any (G.low hb)
  obtain ⟨g, hg⟩ := Tr.fairA_or a
  obtain ⟨g2, hg2⟩ := Tr.fairA_or b
  have HG := Lib.hid hg
  have HG2 := Lib.hid hg2
  have HIT := Lib.hid hit
  have HIT1 := Lib.hid hit1
  have GR1 : Hid (Calls Tryd.prog 23 #[.slice A a.length c0] w fun e w' => e = .returned (.bool g) ∧ w = w') := great15_any HIT.out g HG.out
  have GR2 : Hid (Calls Tryd.prog 23 #[.slice A1 b.length c1] w fun e w' => e = .returned (.bool g2) ∧ w = w') := great15_any HIT1.out g2 HG2.out
  have NEW : Hid (∀ wx : World, Below w.heap.size w wx → Calls Tryd.prog 24 #[] wx fun e w' => ∃ r, e = .returned (.pointer (some ⟨r, 0, none⟩)) ∧ Tr.Ow w w' r [] ∧ wx.heap.size ≤ r ∧ Below wx.heap.size wx w') := fun wx hb => Tr.newC G hb
  have OF : Hid (∀ (wx : World) (A : Option Addr) (m : List Om.Pr) (c : Nat), Below w.heap.size w wx → Om.listAt wx A m → Tr.Fit m → Calls Tryd.prog 26 #[.slice A m.length c] wx fun e w' => ∃ r, e = .returned (.tuple #[.pointer (some ⟨r, 0, none⟩), .int .i64 0]) ∧ Tr.Ow w w' r m ∧ wx.heap.size ≤ r ∧ Below wx.heap.size wx w') := fun wx A m c hb h hf => Tr.ofC G hb c h hf
  have PL : Hid (∀ (wx : World) (r : Nat) (l : List Om.Pr) (A : Option Addr) (c : Nat) (m : List Tr.Ac), Tr.Ow w wx r l → Tr.actsAt wx A m → Tr.Off A m r → Tr.FairA m → Calls Tryd.prog 25 #[.pointer (some ⟨r, 0, none⟩), .slice A m.length c] wx fun e w' => e = .returned (.tuple #[]) ∧ Tr.Ow w w' r (Tr.play l m) ∧ wx.grownBy w' (some r)) := fun wx r l A c m h1 h2 h3 h4 => h1.playC G h2 h3 h4
  have TW : Hid (∀ (wx : World) (r : Nat) (l : List Om.Pr), Tr.Ow w wx r l → Calls Tryd.prog 22 #[.pointer (some ⟨r, 0, none⟩)] wx fun e w' => e = .returned (.pointer (some ⟨wx.heap.size, 0, none⟩)) ∧ Tr.Ow w w' r l ∧ Tr.Ow w w' wx.heap.size l ∧ r < wx.heap.size ∧ Below wx.heap.size wx w') := fun wx r l h => h.twinC
  have ALL : Hid (∀ (wx : World) (r : Nat) (l : List Om.Pr), Tr.Ow w wx r l → Calls Tryd.prog 20 #[.pointer (some ⟨r, 0, none⟩)] wx fun e w' => ∃ A c, e = .returned (.slice A l.length c) ∧ Om.listAt w' A l ∧ Below wx.heap.size wx w') := fun wx r l h => h.allC
  have RT : Hid (∀ (wx : World) (r : Nat) (l : List Om.Pr), Tr.Ow w wx r l → Calls Tryd.prog 18 #[.pointer (some ⟨r, 0, none⟩)] wx fun e w' => e = .returned (Tr.hv (Tr.root l)) ∧ Below wx.heap.size wx w') := fun wx r l h => h.rootC
  clear hit hit1 hg hg2 G
  cases g
  case true =>
    clear HG HG2
    go_enter Tryd.func5, Tryd.ntmps5
    go_wp2_with first
      | (go_at_call 23; refine GR1.out.mono ?_; rintro e w2 ⟨rfl, rfl⟩; clear GR1)
      | (go_at_call 10; refine (AW.out _ (Below.refl _ _)).mono ?_; rintro e w3 ⟨rfl, k3⟩)
    go_ret
    exact ⟨rfl, k3⟩
  case false =>
    have HFA : Hid (Tr.FairA a) := Classical.byContradiction fun h => by have := HG.out.2 h; cases this
    clear HG
    cases g2
    case true =>
      clear HG2 HFA
      go_enter Tryd.func5, Tryd.ntmps5
      go_wp2_with first
        | (go_at_call 23; refine GR1.out.mono ?_; rintro e w2 ⟨rfl, rfl⟩; clear GR1)
        | (go_at_call 23; refine GR2.out.mono ?_; rintro e w2 ⟨rfl, rfl⟩; clear GR2)
        | (go_at_call 10; refine (AW.out _ (Below.refl _ _)).mono ?_; rintro e w3 ⟨rfl, k3⟩)
      go_ret
      exact ⟨rfl, k3⟩
    case false =>
      have HFB : Hid (Tr.FairA b) := Classical.byContradiction fun h => by have := HG2.out.2 h; cases this
      clear HG2
      obtain ⟨l, hl⟩ : ∃ l, l = Tr.play [] a := ⟨_, rfl⟩
      obtain ⟨m, hm⟩ : ∃ m, m = Tr.play l b := ⟨_, rfl⟩
      have HL48 : Hid (m.length ≤ 48) := by show _ ≤ _; rw [hm]; exact (Tr.play_fit (by rw [hl]; exact Tr.play_fit Tr.Fit.nil a) b).len
      have HL := Lib.hid hl
      have HM := Lib.hid hm
      clear hl hm
      go_enter Tryd.func5, Tryd.ntmps5
      go_upto_region 3 with first
        | (go_at_call 23; refine GR1.out.mono ?_; rintro e w2 ⟨rfl, rfl⟩; clear GR1)
        | (go_at_call 23; refine GR2.out.mono ?_; rintro e w2 ⟨rfl, rfl⟩; clear GR2)
      go_upto_region 4 with (go_at_call 24; refine (NEW.out _ (Below.refl _ _)).mono ?_; rintro e w3 ⟨r, rfl, o3, hr3, k3⟩)
      have O3 := Lib.hid o3
      have PL3 := Lib.hid (PL.out _ _ _ A c0 a O3.out (HIT.out.below O3.out.bel) (Tr.off_of HIT.out O3.out.low) HFA.out)
      rw [← HL.out] at PL3
      clear o3 hr3 k3 NEW
      go_upto_region 5 with (go_at_call 25; refine PL3.out.mono ?_; rintro e w4 ⟨rfl, o4, g4⟩)
      have O4 := Lib.hid o4
      clear o4 g4 PL3 O3
      go_upto_region 6 with first
        | (go_at_call 20; refine (ALL.out _ _ _ O4.out).mono ?_; rintro e w5 ⟨A5, c5, rfl, l5, k5⟩; have O5 := Lib.hid (O4.out.step k5); have L5 := Lib.hid l5; clear l5 k5 O4)
        | (go_at_call 26; refine (OF.out _ _ _ _ O5.out.bel L5.out O5.out.fit).mono ?_; rintro e w6 ⟨s, rfl, o6, hs6, k6⟩; have O6 := Lib.hid (O5.out.step k6); have S6 := Lib.hid o6; have HRS : Hid (r < s) := (by have := O5.out.tree.lt; show _ < _; omega); clear o6 hs6 k6 O5 L5)
      go_upto_region 9 with (go_at_call 22; refine (TW.out _ _ _ O6.out).mono ?_; rintro e w7 ⟨rfl, o7, q7, hrq, k7⟩; have O7 := Lib.hid o7; have Q7 := Lib.hid q7; have S7 := Lib.hid (S6.out.step k7); have HSQ : Hid (s < w6.heap.size) := S6.out.tree.lt; clear o7 q7 k7 O6 S6 TW)
      have HRQ := Lib.hid hrq
      clear hrq
      generalize w6.heap.size = q at *
      have PL7 := Lib.hid (PL.out _ _ _ A1 c1 b Q7.out (HIT1.out.below Q7.out.bel) (Tr.off_of HIT1.out Q7.out.low) HFB.out)
      rw [← HM.out] at PL7
      go_upto_region 10 with (go_at_call 25; refine PL7.out.mono ?_; rintro e w8 ⟨rfl, o8, g8⟩)
      have Q8 := Lib.hid o8
      have O8 := Lib.hid (O7.out.beside Q7.out (by have := HRQ.out; omega) g8)
      have S8 := Lib.hid (S7.out.beside Q7.out (by have := HSQ.out; omega) g8)
      clear o8 g8 PL7 O7 Q7 S7 OF HIT HFA
      have ND : Hid (∀ (wx : World) (r : Nat) (l : List Om.Pr) (level i : Nat), Tr.Ow w wx r l → level ≤ 4 → i < 2 ^ level → Calls Tryd.prog 15 #[.pointer (some ⟨r, 0, none⟩), .int .i64 (level : Int), .int .i64 (i : Int)] wx fun e w' => e = .returned (.tuple #[.agg (Lib.byteCells (Tr.lv l level i)).toArray, .bool true]) ∧ Below wx.heap.size wx w') := fun wx r l level i h h4 hi => h.nodeC h4 hi
      go_wp2
      go_loopw [9] (fun s9 wr => ∃ level : Nat, s9 = .int .i64 level ∧ level ≤ 5 ∧ Tr.Ow w wr r l ∧ Tr.Ow w wr s l ∧ Tr.Ow w wr q m) (fun s9 _ => 5 - (intOf s9).toNat)
      case atStart => exact ⟨0, rfl, by omega, O8.out, S8.out, Q8.out⟩
      case round =>
        clear O8 S8 Q8
        obtain ⟨level, rfl, hl5, ho, hs, hq⟩ := hrel
        have O := Lib.hid ho
        have S := Lib.hid hs
        have Q := Lib.hid hq
        clear ho hs hq
        by_cases h4 : level ≤ 4
        · have h4i : (level : Int) ≤ 4 := by omega
          have H4 := Lib.hid h4
          have hsucL : IntKind.i64.wrap ((level : Int) + 1) = ((level + 1 : Nat) : Int) := by simp [IntKind.wrap, IntKind.bits, IntKind.signed]; omega
          have HSL := Lib.hid hsucL
          have hpow := Tr.wrap_pow' h4
          have hp16 := Tr.pow_le' h4
          have HPC := Lib.hid (Tr.pow_cast' level)
          obtain ⟨P, hP⟩ : ∃ P, P = 2 ^ level := ⟨_, rfl⟩
          rw [← hP] at HPC hp16
          have HP := Lib.hid hP
          have HP16 := Lib.hid hp16
          clear hsucL hP hp16
          go_wp2
          go_loopw [10] (fun s10 wr => ∃ i : Nat, s10 = .int .i64 i ∧ i ≤ P ∧ Tr.Ow w wr r l ∧ Tr.Ow w wr s l ∧ Tr.Ow w wr q m) (fun s10 _ => P - (intOf s10).toNat)
          case atStart => exact ⟨0, rfl, Nat.zero_le _, O.out, S.out, Q.out⟩
          case round =>
            clear O S Q
            obtain ⟨i, rfl, hi, ho, hs, hq⟩ := hrel
            have O := Lib.hid ho
            have S := Lib.hid hs
            have Q := Lib.hid hq
            clear ho hs hq
            by_cases hlt : i < P
            · have hii : (i : Int) < (2 : Int) ^ level := by rw [← HPC.out]; omega
              have N1 := Lib.hid (ND.out _ _ _ level i O.out H4.out (by rw [← HP.out]; exact hlt))
              obtain ⟨c1, hc1⟩ : ∃ c1, c1 = (Lib.byteCells (Tr.lv l level i)).toArray := ⟨_, rfl⟩
              have N2 : Hid (∀ wx, Tr.Ow w wx s l → Calls Tryd.prog 15 #[.pointer (some ⟨s, 0, none⟩), .int .i64 (level : Int), .int .i64 (i : Int)] wx fun e w' => e = .returned (.tuple #[.agg c1, .bool true]) ∧ Below wx.heap.size wx w') := fun wx h => by rw [hc1]; exact ND.out _ _ _ level i h H4.out (by rw [← HP.out]; exact hlt)
              rw [← hc1] at N1
              have hz1 : c1.size = 32 := by rw [hc1]; exact Tr.size32 (Tr.lv_length l level i)
              have HZ1 := Lib.hid hz1
              have hone1 : Hid (c1.all (·.oneCell') = true) := by show _ = _; rw [hc1]; exact Sm.bytes_one _
              have heq : ∀ wx : World, (Op.equalIn 10000 23 (.agg c1) (.agg c1)).run Tryd.prog wx = .ok true wx := fun wx => by
                have := Sm.eq_hash (Tr.lv l level i) (Tr.lv l level i) (Tr.lv_length _ _ _) (Tr.lv_length _ _ _) wx
                rw [← hc1] at this
                rw [this]
                simp
              have HLT := Lib.hid hlt
              have hsuci : IntKind.i64.wrap ((i : Int) + 1) = ((i + 1 : Nat) : Int) := by have := HLT.out; have := HP16.out; simp [IntKind.wrap, IntKind.bits, IntKind.signed]; omega
              clear hc1 hlt
              go_wp2_with fail
              refine N1.out.mono ?_
              rintro e w8 ⟨rfl, k8⟩
              have O8 := Lib.hid (O.out.step k8)
              have S8 := Lib.hid (S.out.step k8)
              have Q8 := Lib.hid (Q.out.step k8)
              have hst : ∀ (c : Array Value), c.size = 32 → (storeCells ⟨w8.heap.size, 0, none⟩ c1.toList).run Tryd.prog (w8.alloc (.cells c 23)) = .ok () (w8.alloc (.cells c1 23)) := fun c hc =>
                run_storeCells_new (P := Tryd.prog) w8 23 c c1 (Sm.infoHash HZ1.out) (by rw [HZ1.out]; exact hc) hone1.out
              have k9 : Below w8.heap.size w8 (w8.alloc (.cells c1 23)) := (Below.refl _ w8).alloc (Nat.le_refl _) _
              have G9 := Lib.hid (heap_alloc_new w8 (.cells c1 23))
              have O9 := Lib.hid (O8.out.step k9)
              have S9 := Lib.hid (S8.out.step k9)
              have Q9 := Lib.hid (Q8.out.step k9)
              clear k8 k9 O8 Q8 S8 N1
              go_upto_region 17 with (fail)
              clear hst
              generalize w8.alloc (.cells c1 23) = w9 at *
              generalize w8.heap.size = M1 at *
              go_wp2_with fail
              refine (N2.out _ S9.out).mono ?_
              rintro e w10 ⟨rfl, k10⟩
              have O10 := Lib.hid (O9.out.step k10)
              have S10 := Lib.hid (S9.out.step k10)
              have Q10 := Lib.hid (Q9.out.step k10)
              have G10 := Lib.hid ((k10.block _ (Sm.lt_of G9.out)).trans G9.out)
              have hst : ∀ (c : Array Value), c.size = 32 → (storeCells ⟨w10.heap.size, 0, none⟩ c1.toList).run Tryd.prog (w10.alloc (.cells c 23)) = .ok () (w10.alloc (.cells c1 23)) := fun c hc =>
                run_storeCells_new (P := Tryd.prog) w10 23 c c1 (Sm.infoHash HZ1.out) (by rw [HZ1.out]; exact hc) hone1.out
              have k11 : Below w10.heap.size w10 (w10.alloc (.cells c1 23)) := (Below.refl _ w10).alloc (Nat.le_refl _) _
              have I11 := Lib.hid (heap_alloc_new w10 (.cells c1 23))
              have G11 := Lib.hid ((k11.block _ (Sm.lt_of G10.out)).trans G10.out)
              have O11 := Lib.hid (O10.out.step k11)
              have S11 := Lib.hid (S10.out.step k11)
              have Q11 := Lib.hid (Q10.out.step k11)
              clear k10 k11 O9 Q9 S9 O10 S10 Q10 G9 G10 N2
              go_upto_region 18 with (fail)
              clear hst
              generalize w10.alloc (.cells c1 23) = w11 at *
              generalize w10.heap.size = M2 at *
              go_wp2_with first
                | (refine Sm.wpList_load_row_g 23 (.tmp 11) rfl M1 rfl 23 c1 (0, 0) _ (by exact G11.out) Tryd.underlying23 rfl (Sm.infoHash HZ1.out) ?_ ?_; rotate_left; rfl)
                | (refine Sm.wpList_load_row_g 23 (.tmp 13) rfl M2 rfl 23 c1 (0, 0) _ (by exact I11.out) Tryd.underlying23 rfl (Sm.infoHash HZ1.out) ?_ ?_; rotate_left; rfl)
              go_roundw
              case rel => exact ⟨i + 1, rfl, HLT.out, O11.out, S11.out, Q11.out⟩
              case measure => simp only [intOf]; have := HLT.out; omega
            · have hii : ¬ (i : Int) < (2 : Int) ^ level := by rw [← HPC.out]; omega
              have hsucL := HSL.out
              go_wp2
              go_roundw
              case rel => exact ⟨level + 1, rfl, by have := H4.out; omega, O.out, S.out, Q.out⟩
              case measure => simp only [intOf]; have := H4.out; omega
        · have h4i : ¬ (level : Int) ≤ 4 := by omega
          have PL8 := Lib.hid (PL.out _ _ _ A1 c1 b S.out (HIT1.out.below S.out.bel) (Tr.off_of HIT1.out S.out.low) HFB.out)
          rw [← HM.out] at PL8
          have heq : ∀ wx : World, (Op.equalIn 10000 23 (Tr.hv (Tr.root m)) (Tr.hv (Tr.root m))).run Tryd.prog wx = .ok true wx := fun wx => by
            have := Sm.eq_hash (Tr.root m) (Tr.root m) (Tr.nd_length _ _ _) (Tr.nd_length _ _ _) wx
            rw [this]
            simp
          have SAM : Hid (∀ (wx : World) (A C : Option Addr) (c d : Nat), Om.listAt wx A m → Om.listAt wx C m → Calls Tryd.prog 27 #[.slice A m.length c, .slice C m.length d] wx fun e w' => e = .returned (.bool true) ∧ Below wx.heap.size wx w') := fun wx A C c d h1 h2 => r13Same_any c d h1 h2 (by have := HL48.out; omega) true ⟨fun _ => rfl, fun _ => rfl⟩
          have RTM : Hid (∀ (wx : World) (r : Nat), Tr.Ow w wx r m → Calls Tryd.prog 18 #[.pointer (some ⟨r, 0, none⟩)] wx fun e w' => e = .returned (.agg (Lib.byteCells (Tr.root m)).toArray) ∧ Below wx.heap.size wx w') := fun wx r h => RT.out wx r m h
          obtain ⟨cr, hcr⟩ : ∃ c, c = (Lib.byteCells (Tr.root m)).toArray := ⟨_, rfl⟩
          have heq : ∀ wx : World, (Op.equalIn 10000 23 (.agg cr) (.agg cr)).run Tryd.prog wx = .ok true wx := fun wx => by rw [hcr]; exact heq wx
          rw [← hcr] at RTM
          clear hcr RT
          go_upto_region 21 with (go_at_call 25; refine PL8.out.mono ?_; rintro e w9 ⟨rfl, o9, g9⟩)
          have S9 := Lib.hid o9
          have Q9 := Lib.hid (Q.out.beside S.out (by have := HSQ.out; omega) g9)
          clear o9 g9 PL8 S Q O PL
          go_wp2_with first
            | (go_at_call 18; refine (RTM.out _ _ S9.out).mono ?_; rintro e w10 ⟨rfl, k10⟩; have S10 := Lib.hid (S9.out.step k10); have Q10 := Lib.hid (Q9.out.step k10); clear k10 S9)
            | (go_at_call 18; refine (RTM.out _ _ Q10.out).mono ?_; rintro e w11 ⟨rfl, k11⟩; have S11 := Lib.hid (S10.out.step k11); have Q11 := Lib.hid (Q10.out.step k11); clear k11 Q10)
            | (go_at_call 20; refine (ALL.out _ _ _ S11.out).mono ?_; rintro e w12 ⟨A12, c12, rfl, l12, k12⟩; have L12 := Lib.hid l12; have Q12 := Lib.hid (Q11.out.step k12); clear k12 l12 S11)
            | (go_at_call 20; refine (ALL.out _ _ _ Q12.out).mono ?_; rintro e w13 ⟨A13, c13, rfl, l13, k13⟩; have L13 := Lib.hid l13; have M13 := Lib.hid (L12.out.below k13); have Q13 := Lib.hid (Q12.out.step k13); clear k13 l13 Q12)
            | (go_at_call 27; refine (SAM.out _ _ _ _ _ M13.out L13.out).mono ?_; rintro e w14 ⟨rfl, k14⟩; have Q14 := Lib.hid (Q13.out.step k14); clear k14)
            | (go_at_call 10; refine (AW.out _ Q14.out.bel).mono ?_; rintro e w15 ⟨rfl, k15⟩)
          go_ret
          exact ⟨rfl, Q14.out.bel.trans (k15.mono Q14.out.bel.size)⟩
end Go.Proofs.YtkoipingokglpaaDoor
