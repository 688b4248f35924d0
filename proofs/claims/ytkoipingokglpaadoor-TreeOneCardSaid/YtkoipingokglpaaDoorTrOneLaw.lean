/-
  TreeOne answers true for every row of acts and every act, and turns nothing of what was there.
-/
import Derived.Test.YtkoipingokglpaaDoorTrFront
import Derived.Test.YtkoipingokglpaaDoorR13List
namespace Go.Proofs.YtkoipingokglpaaDoor
open Go.RowKit
namespace Tr
open Om (Pr)
theorem wrap_pow {level : Nat} (h : level ≤ 4) : IntKind.i64.wrap ((2 : Int) ^ level) = (2 : Int) ^ level := by
  obtain rfl | rfl | rfl | rfl | rfl : level = 0 ∨ level = 1 ∨ level = 2 ∨ level = 3 ∨ level = 4 := by omega
  all_goals decide
theorem pow_cast (level : Nat) : ((2 ^ level : Nat) : Int) = (2 : Int) ^ level := by
  induction level with
  | zero => rfl
  | succ n ih => rw [Nat.pow_succ, Int.pow_succ, ← ih]; rfl
theorem pow_le {level : Nat} (h : level ≤ 4) : 2 ^ level ≤ 16 := by
  obtain rfl | rfl | rfl | rfl | rfl : level = 0 ∨ level = 1 ∨ level = 2 ∨ level = 3 ∨ level = 4 := by omega
  all_goals decide
theorem part_len (l : List Pr) (i : Int) : (Bu.part l i).length ≤ l.length := List.length_filter_le _ _
end Tr
set_option maxRecDepth 100000 in
set_option maxHeartbeats 8000000 in
theorem treeOne_any {w : World} (G : Tr.Gd w) {A : Option Addr} {a : List Tr.Ac} (c0 : Nat) (hit : Tr.actsAt w A a) (b : Tr.Ac) (_ : b.Ok) :
    Calls Tryd.prog 8 #[.slice A a.length c0, .agg #[.int .u8 (b.d : Int), .string b.p, .string b.v]] w fun e w' => e = .returned (.bool true) ∧ Below w.heap.size w w' := by
  have AW : Hid (∀ wx : World, Below w.heap.size w wx → Calls Tryd.prog 10 #[] wx fun e w' => e = .returned (.bool true) ∧ Below wx.heap.size wx w') := fun wx hb => awake15_any (G.low hb)
  obtain ⟨g, hg⟩ := Tr.fairA_or a
  obtain ⟨g2, hg2⟩ := Tr.fairA_or [b]
  have HG := Lib.hid hg
  have HG2 := Lib.hid hg2
  have HIT := Lib.hid hit
  have GR1 : Hid (∀ wx, Below w.heap.size w wx → Calls Tryd.prog 23 #[.slice A a.length c0] wx fun e w' => e = .returned (.bool g) ∧ wx = w') := fun wx hb => great15_any (HIT.out.below hb) g HG.out
  have GR2 : Hid (∀ wx N, Tr.actsAt wx (some ⟨N, 0, none⟩) [b] → Calls Tryd.prog 23 #[.slice (some ⟨N, 0, none⟩) 1 1] wx fun e w' => e = .returned (.bool g2) ∧ wx = w') := fun wx N h => great15_any (c := 1) h g2 HG2.out
  have NEW : Hid (∀ wx : World, Below w.heap.size w wx → Calls Tryd.prog 24 #[] wx fun e w' => ∃ r, e = .returned (.pointer (some ⟨r, 0, none⟩)) ∧ Tr.Ow w w' r [] ∧ wx.heap.size ≤ r ∧ Below wx.heap.size wx w') := fun wx hb => Tr.newC G hb
  have PL : Hid (∀ (wx : World) (r : Nat) (l : List Om.Pr) (A : Option Addr) (c : Nat) (m : List Tr.Ac), Tr.Ow w wx r l → Tr.actsAt wx A m → Tr.Off A m r → Tr.FairA m → Calls Tryd.prog 25 #[.pointer (some ⟨r, 0, none⟩), .slice A m.length c] wx fun e w' => e = .returned (.tuple #[]) ∧ Tr.Ow w w' r (Tr.play l m) ∧ wx.grownBy w' (some r)) := fun wx r l A c m h1 h2 h3 h4 => h1.playC G h2 h3 h4
  have TW : Hid (∀ (wx : World) (r : Nat) (l : List Om.Pr), Tr.Ow w wx r l → Calls Tryd.prog 22 #[.pointer (some ⟨r, 0, none⟩)] wx fun e w' => e = .returned (.pointer (some ⟨wx.heap.size, 0, none⟩)) ∧ Tr.Ow w w' r l ∧ Tr.Ow w w' wx.heap.size l ∧ r < wx.heap.size ∧ Below wx.heap.size wx w') := fun wx r l h => h.twinC
  have ONE : Hid (∀ wx : World, Tr.actsAt (wx.alloc (.cells #[.int .u8 (b.d : Int), .string b.p, .string b.v] 53)) (some ⟨wx.heap.size, 0, none⟩) [b]) := fun wx => Tr.oneAt wx b
  obtain ⟨w1, hw1⟩ : ∃ w1, w1 = w.alloc (.cells #[.int .u8 (b.d : Int), .string b.p, .string b.v] 53) := ⟨_, rfl⟩
  have b1 : Below w.heap.size w w1 := by rw [hw1]; exact (Below.refl _ w).alloc (Nat.le_refl _) _
  have B1 := Lib.hid b1
  obtain ⟨N, hN⟩ : ∃ N, N = w.heap.size := ⟨_, rfl⟩
  have G1 : Hid (w1.heap[N]? = some (.cells #[.int .u8 (b.d : Int), .string b.p, .string b.v] 53 (0, 0))) := by rw [hw1, hN]; exact heap_alloc_new _ _
  clear hit hg hg2 b1 G
  cases g
  case true =>
    clear G1 HG HG2
    go_enter Tryd.func8, Tryd.ntmps8
    go_upto_region 1 with (fail)
    change Code.wp _ _ _ _ (w.alloc (.cells #[.int .u8 (b.d : Int), .string b.p, .string b.v] 53))
    rw [← hw1]
    clear hw1 hN
    go_wp2_with first
      | (go_at_call 23; refine (GR1.out _ B1.out).mono ?_; rintro e w2 ⟨rfl, rfl⟩)
      | (go_at_call 10; refine (AW.out _ B1.out).mono ?_; rintro e w3 ⟨rfl, k3⟩)
    go_ret
    exact ⟨rfl, B1.out.trans (k3.mono B1.out.size)⟩
  case false =>
    have HFA : Hid (Tr.FairA a) := Classical.byContradiction fun h => by have := HG.out.2 h; cases this
    clear HG
    have HIC : (Tryd.prog.info? 53).map (·.size) = some (#[.int .u8 (b.d : Int), .string b.p, .string b.v] : Array Value).size := Tr.infoAct _ rfl
    cases g2
    case true =>
      clear HG2 HFA
      have B2 : Hid (Below w.heap.size w (w1.alloc (.cells #[.int .u8 (b.d : Int), .string b.p, .string b.v] 53))) := B1.out.alloc B1.out.size _
      have ON := Lib.hid (ONE.out w1)
      go_enter Tryd.func8, Tryd.ntmps8
      go_upto_region 1 with (fail)
      change Code.wp _ _ _ _ (w.alloc (.cells #[.int .u8 (b.d : Int), .string b.p, .string b.v] 53))
      rw [← hw1, ← hN]
      clear hw1 hN
      go_wp2_with first
        | (go_at_call 23; refine (GR1.out _ B1.out).mono ?_; rintro e w2 ⟨rfl, rfl⟩; clear GR1)
        | (refine Sm.wpList_load_row_g 53 (.tmp 3) rfl N rfl 53 #[.int .u8 (b.d : Int), .string b.p, .string b.v] (0, 0) _ (by exact G1.out) Tryd.underlying53 rfl HIC ?_ ?_; rotate_left; rfl)
        | (go_at_call 23; refine (GR2.out _ _ ON.out).mono ?_; rintro e w2 ⟨rfl, rfl⟩)
        | (go_at_call 10; refine (AW.out _ B2.out).mono ?_; rintro e w3 ⟨rfl, k3⟩)
      go_ret
      exact ⟨rfl, B2.out.trans (k3.mono B2.out.size)⟩
    case false =>
      have HFB : Hid (Tr.FairA [b]) := Classical.byContradiction fun h => by have := HG2.out.2 h; cases this
      clear HG2
      have B2 : Hid (Below w.heap.size w (w1.alloc (.cells #[.int .u8 (b.d : Int), .string b.p, .string b.v] 53))) := B1.out.alloc B1.out.size _
      have ON := Lib.hid (ONE.out w1)
      have HNL : Hid (N < w1.heap.size) := Sm.lt_of G1.out
      have G2 : Hid ((w1.alloc (.cells #[.int .u8 (b.d : Int), .string b.p, .string b.v] 53)).heap[N]? = some (.cells #[.int .u8 (b.d : Int), .string b.p, .string b.v] 53 (0, 0))) := (((Below.refl _ w1).alloc (Nat.le_refl _) _).block N HNL.out).trans G1.out
      obtain ⟨l, hl⟩ : ∃ l, l = Tr.play [] a := ⟨_, rfl⟩
      obtain ⟨m, hm⟩ : ∃ m, m = Tr.play l [b] := ⟨_, rfl⟩
      have hfit : Tr.Fit l := by rw [hl]; exact Tr.play_fit Tr.Fit.nil a
      have hma : m = Tr.act l b := hm
      obtain ⟨t, ht⟩ : ∃ t, t = Bu.bk b.p := ⟨_, rfl⟩
      have HP : Hid (∀ j : Nat, j ≠ t → Bu.part m j = Bu.part l j) := fun j hj => by rw [hma]; exact Tr.act_part hfit b (by rw [← ht]; exact hj)
      have HND : Hid (∀ level i : Nat, Tr.lv m level i ≠ Tr.lv l level i → Bu.part m t ≠ Bu.part l t ∧ t / 2 ^ (4 - level) = i) := fun level i h => by
        rw [hma] at h ⊢
        rw [ht]
        exact Tr.nd_above hfit b h
      have HT16 : Hid (t < 16) := by show _ < _; rw [ht]; exact Bu.bk_lt _
      have HLm : Hid (m.length ≤ 48) := by show _ ≤ _; rw [hma]; exact (Tr.act_fit hfit b).len
      have HLl : Hid (l.length ≤ 48) := hfit.len
      have HL := Lib.hid hl
      have HM := Lib.hid hm
      obtain ⟨d, hd⟩ : ∃ d : Bool, d = true ↔ Bu.part m t = Bu.part l t := by
        by_cases h : Bu.part m t = Bu.part l t
        · exact ⟨true, by simp [h]⟩
        · exact ⟨false, by simp [h]⟩
      have HD := Lib.hid hd
      clear hl hm hfit hma ht hd
      go_enter Tryd.func8, Tryd.ntmps8
      go_upto_region 1 with (fail)
      change Code.wp _ _ _ _ (w.alloc (.cells #[.int .u8 (b.d : Int), .string b.p, .string b.v] 53))
      rw [← hw1, ← hN]
      clear hw1 hN
      go_upto_region 3 with first
        | (go_at_call 23; refine (GR1.out _ B1.out).mono ?_; rintro e w2 ⟨rfl, rfl⟩; clear GR1)
        | (refine Sm.wpList_load_row_g 53 (.tmp 3) rfl N rfl 53 #[.int .u8 (b.d : Int), .string b.p, .string b.v] (0, 0) _ (by exact G1.out) Tryd.underlying53 rfl HIC ?_ ?_; rotate_left; rfl)
        | (go_at_call 23; refine (GR2.out _ _ ON.out).mono ?_; rintro e w2 ⟨rfl, rfl⟩)
      clear GR2 ON G1
      have HNL2 := Lib.hid (Sm.lt_of G2.out)
      generalize w1.alloc (.cells #[.int .u8 (b.d : Int), .string b.p, .string b.v] 53) = W2 at *
      generalize w1.heap.size = N1 at *
      clear HNL B1
      go_upto_region 4 with (go_at_call 24; refine (NEW.out _ B2.out).mono ?_; rintro e w3 ⟨r, rfl, o3, hr3, k3⟩)
      have O3 := Lib.hid o3
      have G3 := Lib.hid ((k3.block N HNL2.out).trans G2.out)
      have HNR : Hid (some N ≠ some r) := fun e => by have := HNL2.out; have := Option.some.inj e; omega
      have PL3 := Lib.hid (PL.out _ _ _ A c0 a O3.out (HIT.out.below O3.out.bel) (Tr.off_of HIT.out O3.out.low) HFA.out)
      rw [← HL.out] at PL3
      clear o3 hr3 k3 G2 HNL2 B2 NEW
      go_upto_region 5 with (go_at_call 25; refine PL3.out.mono ?_; rintro e w4 ⟨rfl, o4, g4⟩)
      have O4 := Lib.hid o4
      have G4 := Lib.hid ((g4.block N (Sm.lt_of G3.out) HNR.out).trans G3.out)
      clear o4 g4 PL3 O3 G3
      go_upto_region 6 with (go_at_call 22; refine (TW.out _ _ _ O4.out).mono ?_; rintro e w5 ⟨rfl, o5, q5, hrq, k5⟩)
      have O5 := Lib.hid o5
      have Q5 := Lib.hid q5
      have HRQ := Lib.hid hrq
      have G5 := Lib.hid ((k5.block N (Sm.lt_of G4.out)).trans G4.out)
      clear o5 q5 hrq k5 O4 G4 TW
      generalize w4.heap.size = q at *
      have k6 : Below w5.heap.size w5 (w5.alloc (.cells #[.int .u8 (b.d : Int), .string b.p, .string b.v] 53)) := (Below.refl _ w5).alloc (Nat.le_refl _) _
      have O6 := Lib.hid (O5.out.step k6)
      have Q6 := Lib.hid (Q5.out.step k6)
      have PL6 : Hid (Calls Tryd.prog 25 #[.pointer (some ⟨r, 0, none⟩), .slice (some ⟨w5.heap.size, 0, none⟩) 1 1] (w5.alloc (.cells #[.int .u8 (b.d : Int), .string b.p, .string b.v] 53)) fun e w' => e = .returned (.tuple #[]) ∧ Tr.Ow w w' r m ∧ (w5.alloc (.cells #[.int .u8 (b.d : Int), .string b.p, .string b.v] 53)).grownBy w' (some r)) := by
        have hlt := O5.out.tree.lt
        have := PL.out _ _ _ (some ⟨w5.heap.size, 0, none⟩) 1 [b] O6.out (ONE.out w5) (fun b' off e _ => by cases e; omega) HFB.out
        rw [← HM.out] at this
        exact this
      clear k6 PL O5 Q5
      go_upto_region 7 with first
        | (refine Sm.wpList_load_row_g 53 (.tmp 3) rfl N rfl 53 #[.int .u8 (b.d : Int), .string b.p, .string b.v] (0, 0) _ (by exact G5.out) Tryd.underlying53 rfl HIC ?_ ?_; rotate_left; rfl)
        | (go_at_call 25; refine PL6.out.mono ?_; rintro e w7 ⟨rfl, o7, g7⟩)
      have O7 := Lib.hid o7
      have Q7 := Lib.hid (Q6.out.beside O6.out (by have := HRQ.out; omega) g7)
      clear o7 g7 PL6 O6 Q6 G5 ONE HFA HFB HIC HL HM HIT HRQ HNR
      have PR : Hid (∀ (wx : World) (r : Nat) (l : List Om.Pr) (i : Nat), Tr.Ow w wx r l → i < 16 → Calls Tryd.prog 19 #[.pointer (some ⟨r, 0, none⟩), .int .i64 (i : Int)] wx fun e w' => ∃ B q, e = .returned (.slice B (Bu.part l i).length q) ∧ Om.Row w' wx.heap.size B q (Bu.part l i) ∧ Below wx.heap.size wx w') := fun wx r l i h hi => h.pairsC hi
      have SAM : Hid (∀ (wx : World) (A C : Option Addr) (c d : Nat) (i : Nat) (g : Bool), Om.listAt wx A (Bu.part m i) → Om.listAt wx C (Bu.part l i) → (g = true ↔ Bu.part m i = Bu.part l i) → Calls Tryd.prog 27 #[.slice A (Bu.part m i).length c, .slice C (Bu.part l i).length d] wx fun e w' => e = .returned (.bool g) ∧ Below wx.heap.size wx w') := fun wx A C c d i g h1 h2 hg => r13Same_any c d h1 h2 (by have := Tr.part_len m i; have := HLm.out; omega) g hg
      go_wp2
      go_loopw [7, 8] (fun s7 s8 wr => ∃ k : Nat, s8 = .int .i64 k ∧ k ≤ 16 ∧ s7 = .int .i64 (if d = false ∧ t < k then (t : Int) else -1) ∧ Tr.Ow w wr r m ∧ Tr.Ow w wr q l) (fun _ s8 _ => 16 - (intOf s8).toNat)
      case atStart => exact ⟨0, rfl, by omega, by rw [if_neg (by omega)], O7.out, Q7.out⟩
      case round =>
        clear O7 Q7
        obtain ⟨k, rfl, hk, rfl, ho, hq⟩ := hrel
        have O := Lib.hid ho
        have Q := Lib.hid hq
        clear ho hq
        by_cases hlt : k < 16
        · have hki : (k : Int) < 16 := by omega
          have hsuc : IntKind.i64.wrap ((k : Int) + 1) = ((k + 1 : Nat) : Int) := by simp [IntKind.wrap, IntKind.bits, IntKind.signed]; omega
          have HLT := Lib.hid hlt
          by_cases hdt : d = false ∧ k = t
          · obtain ⟨rfl, rfl⟩ := hdt
            have hc1 : (if (false : Bool) = false ∧ k < k then (k : Int) else -1) = -1 := if_neg (by omega)
            rw [hc1]
            have SM : Hid (∀ (wx : World) (A C : Option Addr) (c d : Nat), Om.listAt wx A (Bu.part m k) → Om.listAt wx C (Bu.part l k) → Calls Tryd.prog 27 #[.slice A (Bu.part m k).length c, .slice C (Bu.part l k).length d] wx fun e w' => e = .returned (.bool false) ∧ Below wx.heap.size wx w') := fun wx A C c d h1 h2 => SAM.out wx A C c d k false h1 h2 HD.out
            clear hc1
            go_wp2_with first
              | (go_at_call 19; refine (PR.out _ _ _ k O.out HLT.out).mono ?_; rintro e w8 ⟨B8, q8, rfl, r8, k8⟩; have R8 := Lib.hid r8; have O8 := Lib.hid (O.out.step k8); have Q8 := Lib.hid (Q.out.step k8); clear r8 k8 O)
              | (go_at_call 19; refine (PR.out _ _ _ k Q8.out HLT.out).mono ?_; rintro e w9 ⟨B9, q9, rfl, r9, k9⟩; have R9 := Lib.hid r9; have S9 := Lib.hid (R8.out.low k9); have O9 := Lib.hid (O8.out.step k9); have Q9 := Lib.hid (Q8.out.step k9); clear r9 k9)
              | (go_at_call 27; refine (SM.out _ _ _ _ _ S9.out.listAt R9.out.listAt).mono ?_; rintro e w10 ⟨rfl, k10⟩; have O10 := Lib.hid (O9.out.step k10); have Q10 := Lib.hid (Q9.out.step k10); clear k10)
            go_roundw
            case rel => exact ⟨k + 1, rfl, HLT.out, by rw [if_pos ⟨by trivial, by omega⟩], O10.out, Q10.out⟩
            case measure => simp only [intOf]; have := HLT.out; omega
          · have hsame : Bu.part m k = Bu.part l k := by
              by_cases hkt : k = t
              · subst hkt
                cases d
                · exact absurd ⟨rfl, rfl⟩ hdt
                · exact HD.out.1 rfl
              · exact HP.out k hkt
            have hc2 : (if d = false ∧ t < k + 1 then (t : Int) else -1) = (if d = false ∧ t < k then (t : Int) else -1) := by
              by_cases h : d = false ∧ t < k
              · rw [if_pos h, if_pos ⟨h.1, by omega⟩]
              · rw [if_neg h, if_neg (fun h' => h ⟨h'.1, by have : t ≠ k := fun e => hdt ⟨h'.1, e.symm⟩; omega⟩)]
            have HC2 := Lib.hid hc2
            have SM : Hid (∀ (wx : World) (A C : Option Addr) (c d : Nat), Om.listAt wx A (Bu.part m k) → Om.listAt wx C (Bu.part l k) → Calls Tryd.prog 27 #[.slice A (Bu.part m k).length c, .slice C (Bu.part l k).length d] wx fun e w' => e = .returned (.bool true) ∧ Below wx.heap.size wx w') := fun wx A C c d h1 h2 => SAM.out wx A C c d k true h1 h2 ⟨fun _ => hsame, fun _ => rfl⟩
            obtain ⟨ch, hch⟩ : ∃ ch, ch = (if d = false ∧ t < k then (t : Int) else -1) := ⟨_, rfl⟩
            rw [← hch] at HC2 ⊢
            clear hc2 hch hsame hdt
            go_wp2_with first
              | (go_at_call 19; refine (PR.out _ _ _ k O.out HLT.out).mono ?_; rintro e w8 ⟨B8, q8, rfl, r8, k8⟩; have R8 := Lib.hid r8; have O8 := Lib.hid (O.out.step k8); have Q8 := Lib.hid (Q.out.step k8); clear r8 k8 O)
              | (go_at_call 19; refine (PR.out _ _ _ k Q8.out HLT.out).mono ?_; rintro e w9 ⟨B9, q9, rfl, r9, k9⟩; have R9 := Lib.hid r9; have S9 := Lib.hid (R8.out.low k9); have O9 := Lib.hid (O8.out.step k9); have Q9 := Lib.hid (Q8.out.step k9); clear r9 k9)
              | (go_at_call 27; refine (SM.out _ _ _ _ _ S9.out.listAt R9.out.listAt).mono ?_; rintro e w10 ⟨rfl, k10⟩; have O10 := Lib.hid (O9.out.step k10); have Q10 := Lib.hid (Q9.out.step k10); clear k10)
            go_roundw
            case rel => exact ⟨k + 1, rfl, HLT.out, by rw [HC2.out], O10.out, Q10.out⟩
            case measure => simp only [intOf]; have := HLT.out; omega
        · have hki : ¬ (k : Int) < 16 := by omega
          obtain rfl : k = 16 := by omega
          clear SAM PR HLm HLl
          obtain ⟨ch, hch⟩ : ∃ ch : Int, ch = (if d = false ∧ t < 16 then (t : Int) else -1) := ⟨_, rfl⟩
          rw [← hch]
          have HCH : Hid (∀ level i : Nat, Tr.lv m level i ≠ Tr.lv l level i → ch = (t : Int) ∧ t / 2 ^ (4 - level) = i) := fun level i h => by
            obtain ⟨h1, h2⟩ := HND.out level i h
            have hdf : d = false := by
              cases d
              · rfl
              · exact absurd (HD.out.1 rfl) h1
            exact ⟨by rw [hch, if_pos ⟨hdf, HT16.out⟩], h2⟩
          have HC2 : Hid (ch = -1 ∨ ch = (t : Int)) := by
            show _ ∨ _
            rw [hch]
            split
            · exact .inr rfl
            · exact .inl rfl
          have ND : Hid (∀ (wx : World) (r : Nat) (l : List Om.Pr) (level i : Nat), Tr.Ow w wx r l → level ≤ 4 → i < 2 ^ level → Calls Tryd.prog 15 #[.pointer (some ⟨r, 0, none⟩), .int .i64 (level : Int), .int .i64 (i : Int)] wx fun e w' => e = .returned (.tuple #[.agg (Lib.byteCells (Tr.lv l level i)).toArray, .bool true]) ∧ Below wx.heap.size wx w') := fun wx r l level i h h4 hi => h.nodeC h4 hi
          clear hch hki HP HND HT16 HD hlt
          go_wp2
          go_loopw [9] (fun s9 wr => ∃ level : Nat, s9 = .int .i64 level ∧ level ≤ 5 ∧ Tr.Ow w wr r m ∧ Tr.Ow w wr q l) (fun s9 _ => 5 - (intOf s9).toNat)
          case atStart => exact ⟨0, rfl, by omega, O.out, Q.out⟩
          case round =>
            clear O Q
            obtain ⟨level, rfl, hl5, ho, hq⟩ := hrel
            have O := Lib.hid ho
            have Q := Lib.hid hq
            clear ho hq
            by_cases h4 : level ≤ 4
            · have h4i : (level : Int) ≤ 4 := by omega
              have H4 := Lib.hid h4
              have hsucL : IntKind.i64.wrap ((level : Int) + 1) = ((level + 1 : Nat) : Int) := by simp [IntKind.wrap, IntKind.bits, IntKind.signed]; omega
              have HSL := Lib.hid hsucL
              have hpow := Tr.wrap_pow h4
              have hp16 := Tr.pow_le h4
              have HPC := Lib.hid (Tr.pow_cast level)
              obtain ⟨P, hP⟩ : ∃ P, P = 2 ^ level := ⟨_, rfl⟩
              rw [← hP] at HPC hp16
              have HP := Lib.hid hP
              have HP16 := Lib.hid hp16
              clear hsucL hP hp16
              go_wp2
              go_loopw [10] (fun s10 wr => ∃ i : Nat, s10 = .int .i64 i ∧ i ≤ P ∧ Tr.Ow w wr r m ∧ Tr.Ow w wr q l) (fun s10 _ => P - (intOf s10).toNat)
              case atStart => exact ⟨0, rfl, Nat.zero_le _, O.out, Q.out⟩
              case round =>
                clear O Q
                obtain ⟨i, rfl, hi, ho, hq⟩ := hrel
                have O := Lib.hid ho
                have Q := Lib.hid hq
                clear ho hq
                by_cases hlt : i < P
                · have hii : (i : Int) < (2 : Int) ^ level := by rw [← HPC.out]; omega
                  have N1 := Lib.hid (ND.out _ _ _ level i O.out H4.out (by rw [← HP.out]; exact hlt))
                  obtain ⟨c1, hc1⟩ : ∃ c1, c1 = (Lib.byteCells (Tr.lv m level i)).toArray := ⟨_, rfl⟩
                  obtain ⟨c2, hc2⟩ : ∃ c2, c2 = (Lib.byteCells (Tr.lv l level i)).toArray := ⟨_, rfl⟩
                  have N2 : Hid (∀ wx, Tr.Ow w wx q l → Calls Tryd.prog 15 #[.pointer (some ⟨q, 0, none⟩), .int .i64 (level : Int), .int .i64 (i : Int)] wx fun e w' => e = .returned (.tuple #[.agg c2, .bool true]) ∧ Below wx.heap.size wx w') := fun wx h => by rw [hc2]; exact ND.out _ _ _ level i h H4.out (by rw [← HP.out]; exact hlt)
                  rw [← hc1] at N1
                  have hz1 : c1.size = 32 := by rw [hc1]; exact Tr.size32 (Tr.lv_length m level i)
                  have hz2 : c2.size = 32 := by rw [hc2]; exact Tr.size32 (Tr.lv_length l level i)
                  have HZ1 := Lib.hid hz1
                  have HZ2 := Lib.hid hz2
                  have hone1 : Hid (c1.all (·.oneCell') = true) := by show _ = _; rw [hc1]; exact Sm.bytes_one _
                  have hone2 : Hid (c2.all (·.oneCell') = true) := by show _ = _; rw [hc2]; exact Sm.bytes_one _
                  obtain ⟨E, hE⟩ : ∃ E, E = (Tr.lv m level i == Tr.lv l level i) := ⟨_, rfl⟩
                  have heq : ∀ wx : World, (Op.equalIn 10000 23 (.agg c1) (.agg c2)).run Tryd.prog wx = .ok E wx := fun wx => by
                    have := Sm.eq_hash (Tr.lv m level i) (Tr.lv l level i) (Tr.lv_length _ _ _) (Tr.lv_length _ _ _) wx
                    rw [← hc1, ← hc2, ← hE] at this
                    exact this
                  have HCE : Hid (E = false → ch = (t : Int) ∧ t / 2 ^ (4 - level) = i) := fun h => HCH.out level i (by rw [h] at hE; exact fun e => by rw [e] at hE; simp at hE)
                  have HLT := Lib.hid hlt
                  clear hc1 hc2 hE hlt
                  go_wp2_with fail
                  refine N1.out.mono ?_
                  rintro e w8 ⟨rfl, k8⟩
                  have O8 := Lib.hid (O.out.step k8)
                  have Q8 := Lib.hid (Q.out.step k8)
                  have hst : ∀ (c : Array Value), c.size = 32 → (storeCells ⟨w8.heap.size, 0, none⟩ c1.toList).run Tryd.prog (w8.alloc (.cells c 23)) = .ok () (w8.alloc (.cells c1 23)) := fun c hc =>
                    run_storeCells_new (P := Tryd.prog) w8 23 c c1 (Sm.infoHash HZ1.out) (by rw [HZ1.out]; exact hc) hone1.out
                  have k9 : Below w8.heap.size w8 (w8.alloc (.cells c1 23)) := (Below.refl _ w8).alloc (Nat.le_refl _) _
                  have G9 := Lib.hid (heap_alloc_new w8 (.cells c1 23))
                  have O9 := Lib.hid (O8.out.step k9)
                  have Q9 := Lib.hid (Q8.out.step k9)
                  clear k8 k9 O8 Q8 N1
                  go_upto_region 22 with (fail)
                  clear hst
                  generalize w8.alloc (.cells c1 23) = w9 at *
                  generalize w8.heap.size = M1 at *
                  go_wp2_with fail
                  refine (N2.out _ Q9.out).mono ?_
                  rintro e w10 ⟨rfl, k10⟩
                  have O10 := Lib.hid (O9.out.step k10)
                  have Q10 := Lib.hid (Q9.out.step k10)
                  have G10 := Lib.hid ((k10.block _ (Sm.lt_of G9.out)).trans G9.out)
                  have hst : ∀ (c : Array Value), c.size = 32 → (storeCells ⟨w10.heap.size, 0, none⟩ c2.toList).run Tryd.prog (w10.alloc (.cells c 23)) = .ok () (w10.alloc (.cells c2 23)) := fun c hc =>
                    run_storeCells_new (P := Tryd.prog) w10 23 c c2 (Sm.infoHash HZ2.out) (by rw [HZ2.out]; exact hc) hone2.out
                  have k11 : Below w10.heap.size w10 (w10.alloc (.cells c2 23)) := (Below.refl _ w10).alloc (Nat.le_refl _) _
                  have I11 := Lib.hid (heap_alloc_new w10 (.cells c2 23))
                  have G11 := Lib.hid ((k11.block _ (Sm.lt_of G10.out)).trans G10.out)
                  have O11 := Lib.hid (O10.out.step k11)
                  have Q11 := Lib.hid (Q10.out.step k11)
                  clear k10 k11 O9 Q9 O10 Q10 G9 G10 N2
                  go_upto_region 23 with (fail)
                  clear hst
                  generalize w10.alloc (.cells c2 23) = w11 at *
                  generalize w10.heap.size = M2 at *
                  have hsuci : IntKind.i64.wrap ((i : Int) + 1) = ((i + 1 : Nat) : Int) := by have := HLT.out; have := HP16.out; simp [IntKind.wrap, IntKind.bits, IntKind.signed]; omega
                  rcases HC2.out with hc | hc
                  · obtain rfl := hc
                    cases E
                    · exact absurd (HCE.out rfl).1 (by omega)
                    · go_wp2_with first
                        | (refine Sm.wpList_load_row_g 23 (.tmp 11) rfl M1 rfl 23 c1 (0, 0) _ (by exact G11.out) Tryd.underlying23 rfl (Sm.infoHash HZ1.out) ?_ ?_; rotate_left; rfl)
                        | (refine Sm.wpList_load_row_g 23 (.tmp 13) rfl M2 rfl 23 c2 (0, 0) _ (by exact I11.out) Tryd.underlying23 rfl (Sm.infoHash HZ2.out) ?_ ?_; rotate_left; rfl)
                      go_roundw
                      case rel => exact ⟨i + 1, rfl, HLT.out, O11.out, Q11.out⟩
                      case measure => simp only [intOf]; have := HLT.out; omega
                  · obtain rfl := hc
                    cases E
                    · obtain ⟨-, hti⟩ := HCE.out rfl
                      obtain rfl | rfl | rfl | rfl | rfl : level = 0 ∨ level = 1 ∨ level = 2 ∨ level = 3 ∨ level = 4 := by have := H4.out; omega
                      all_goals
                        have hq16 : t / 16 = i → ((t : Int) / 16 == (i : Int)) = true := fun h => by rw [beq_iff_eq]; omega
                        have hq8 : t / 8 = i → ((t : Int) / 8 == (i : Int)) = true := fun h => by rw [beq_iff_eq]; omega
                        have hq4 : t / 4 = i → ((t : Int) / 4 == (i : Int)) = true := fun h => by rw [beq_iff_eq]; omega
                        have hq2 : t / 2 = i → ((t : Int) / 2 == (i : Int)) = true := fun h => by rw [beq_iff_eq]; omega
                        have hq1 : t / 1 = i → ((t : Int) == (i : Int)) = true := fun h => by rw [beq_iff_eq]; omega
                        first
                          | replace hq16 := hq16 hti
                          | replace hq8 := hq8 hti
                          | replace hq4 := hq4 hti
                          | replace hq2 := hq2 hti
                          | replace hq1 := hq1 hti
                        clear hti
                        go_wp2_with first
                          | (refine Sm.wpList_load_row_g 23 (.tmp 11) rfl M1 rfl 23 c1 (0, 0) _ (by exact G11.out) Tryd.underlying23 rfl (Sm.infoHash HZ1.out) ?_ ?_; rotate_left; rfl)
                          | (refine Sm.wpList_load_row_g 23 (.tmp 13) rfl M2 rfl 23 c2 (0, 0) _ (by exact I11.out) Tryd.underlying23 rfl (Sm.infoHash HZ2.out) ?_ ?_; rotate_left; rfl)
                        go_roundw
                        case rel => exact ⟨i + 1, rfl, HLT.out, O11.out, Q11.out⟩
                        case measure => simp only [intOf]; have := HLT.out; omega
                    · obtain rfl | rfl | rfl | rfl | rfl : level = 0 ∨ level = 1 ∨ level = 2 ∨ level = 3 ∨ level = 4 := by have := H4.out; omega
                      all_goals
                        go_wp2_with first
                          | (refine Sm.wpList_load_row_g 23 (.tmp 11) rfl M1 rfl 23 c1 (0, 0) _ (by exact G11.out) Tryd.underlying23 rfl (Sm.infoHash HZ1.out) ?_ ?_; rotate_left; rfl)
                          | (refine Sm.wpList_load_row_g 23 (.tmp 13) rfl M2 rfl 23 c2 (0, 0) _ (by exact I11.out) Tryd.underlying23 rfl (Sm.infoHash HZ2.out) ?_ ?_; rotate_left; rfl)
                        go_roundw
                        case rel => exact ⟨i + 1, rfl, HLT.out, O11.out, Q11.out⟩
                        case measure => simp only [intOf]; have := HLT.out; omega
                · have hii : ¬ (i : Int) < (2 : Int) ^ level := by rw [← HPC.out]; omega
                  have hsucL := HSL.out
                  go_wp2
                  go_roundw
                  case rel => exact ⟨level + 1, rfl, by have := H4.out; omega, O.out, Q.out⟩
                  case measure => simp only [intOf]; have := H4.out; omega
            · have h4i : ¬ (level : Int) ≤ 4 := by omega
              go_wp2_with (go_at_call 10; refine (AW.out _ O.out.bel).mono ?_; rintro e w9 ⟨rfl, k9⟩)
              go_ret
              exact ⟨rfl, O.out.bel.trans (k9.mono O.out.bel.size)⟩
end Go.Proofs.YtkoipingokglpaaDoor
