/-
  TreeMakes answers true for every row of pairs and two numbers, and turns nothing of what was there.
-/
import Derived.Test.YtiehcplepneajaaGreatDoorR15One
import Derived.Test.YtiehcplepneajaaGreatDoorOmGreat
import Derived.Test.YtiehcplepneajaaGreatDoorR14One
namespace Go.Proofs.YtiehcplepneajaaGreatDoor
open Go.RowKit
namespace Tr
theorem wrap_pow3 {level : Nat} (h : level ≤ 4) : IntKind.i64.wrap ((2 : Int) ^ level) = (2 : Int) ^ level := by
  obtain rfl | rfl | rfl | rfl | rfl : level = 0 ∨ level = 1 ∨ level = 2 ∨ level = 3 ∨ level = 4 := by omega
  all_goals decide
theorem pow_cast3 (level : Nat) : ((2 ^ level : Nat) : Int) = (2 : Int) ^ level := by
  induction level with
  | zero => rfl
  | succ n ih => rw [Nat.pow_succ, Int.pow_succ, ← ih]; rfl
theorem rem8 {level : Nat} (h : level ≤ 4) : Int.tmod (level : Int) 8 = (level : Int) := by
  obtain rfl | rfl | rfl | rfl | rfl : level = 0 ∨ level = 1 ∨ level = 2 ∨ level = 3 ∨ level = 4 := by omega
  all_goals decide
/-- Is there a node of a level and a number? -/
theorem out_or (n1 n2 : Int) : n1 < 0 ∨ 4 < n1 ∨ (∃ v : Nat, v ≤ 4 ∧ n1 = v ∧ (n2 < 0 ∨ (∃ i : Nat, n2 = i ∧ ¬ i < 2 ^ v) ∨ ∃ i : Nat, n2 = i ∧ i < 2 ^ v)) := by
  by_cases h1 : n1 < 0
  · exact .inl h1
  · by_cases h2 : 4 < n1
    · exact .inr (.inl h2)
    · refine .inr (.inr ⟨n1.toNat, by omega, by omega, ?_⟩)
      by_cases h3 : n2 < 0
      · exact .inl h3
      · by_cases h4 : n2.toNat < 2 ^ n1.toNat
        · exact .inr (.inr ⟨n2.toNat, by omega, h4⟩)
        · exact .inr (.inl ⟨n2.toNat, by omega, h4⟩)
end Tr
set_option maxRecDepth 100000 in
set_option maxHeartbeats 8000000 in
theorem treeMakes_any {w : World} (G : Tr.Gd w) {A : Option Addr} {l : List Om.Pr} (c0 : Nat) (hit : Om.listAt w A l) (n1 n2 : Int) :
    Calls Tryz.prog 10 #[.slice A l.length c0, .int .i64 n1, .int .i64 n2] w fun e w' => e = .returned (.bool true) ∧ Below w.heap.size w w' := by
  have AW : Hid (∀ wx : World, Below w.heap.size w wx → Calls Tryz.prog 41 #[] wx fun e w' => e = .returned (.bool true) ∧ Below wx.heap.size wx w') := fun wx hb => awake15_any (G.low hb)
  obtain ⟨g, hg⟩ := Om.fairL_or l
  have HG := Lib.hid hg
  have HIT : Hid (∀ wx : World, Below w.heap.size w wx → Om.listAt wx A l) := fun wx hb => hit.below hb
  have GR1 : Hid (Calls Tryz.prog 13 #[.slice A l.length c0] w fun e w' => e = .returned (.bool g) ∧ w = w') := greatPairs_any hit g HG.out
  have HG0 := Lib.hid G
  clear hg G
  cases g
  case true =>
    clear HG
    go_enter Tryz.func10, Tryz.ntmps10
    go_wp2_with first
      | (go_at_call 13; refine GR1.out.mono ?_; rintro e w2 ⟨rfl, rfl⟩; clear GR1)
      | (go_at_call 41; refine (AW.out _ (Below.refl _ _)).mono ?_; rintro e w3 ⟨rfl, k3⟩)
    go_ret
    exact ⟨rfl, k3⟩
  case false =>
    have hfa : Om.FairL l := Classical.byContradiction fun h => by have := HG.out.2 h; cases this
    have hs1 : ∀ x ∈ l, x.p.size ≤ 281474976710656 := fun x hx => by have := (hfa.mem x hx).1; omega
    have hl200 : l.length ≤ 1000000 := by have := hfa.1; omega
    have MY : Hid (∀ wx : World, Below w.heap.size w wx → Calls Tryz.prog 20 #[.slice A l.length c0] wx fun e w' => e = .returned (.bool (Bu.may l)) ∧ Below wx.heap.size wx w') := fun wx hb => r14May_any c0 (HIT.out wx hb) hl200 (fun x hx => by have := (hfa.mem x hx).1; omega)
    clear HG
    by_cases h48 : 48 < l.length
    · have h48i : (48 : Int) < (l.length : Int) := by omega
      have h48j : (l.length : Int) > 48 := by omega
      by_cases hm : Bu.may l = true
      · have OF := Lib.hid (tOf_full c0 hit hl200 hs1 hm h48)
        rw [hm] at MY
        clear hit hfa hs1 hl200 hm h48
        go_enter Tryz.func10, Tryz.ntmps10
        go_wp2_with first
          | (go_at_call 13; refine GR1.out.mono ?_; rintro e w2 ⟨rfl, rfl⟩; clear GR1)
          | (go_at_call 15; refine OF.out.mono ?_; rintro e w3 ⟨rfl, k3⟩)
          | (go_at_call 20; refine (MY.out _ k3).mono ?_; rintro e w4 ⟨rfl, k4⟩; have B4 : Hid (Below w.heap.size w w4) := k3.trans (k4.mono k3.size); clear k4)
          | (go_at_call 41; refine (AW.out _ B4.out).mono ?_; rintro e w5 ⟨rfl, k5⟩)
        go_ret
        exact ⟨rfl, B4.out.trans (k5.mono B4.out.size)⟩
      · have hm : Bu.may l = false := by simpa using hm
        have OF := Lib.hid (tOf_arg c0 hit hl200 hs1 hm)
        rw [hm] at MY
        clear hit hfa hs1 hl200 hm h48
        go_enter Tryz.func10, Tryz.ntmps10
        go_wp2_with first
          | (go_at_call 13; refine GR1.out.mono ?_; rintro e w2 ⟨rfl, rfl⟩; clear GR1)
          | (go_at_call 15; refine OF.out.mono ?_; rintro e w3 ⟨rfl, k3⟩)
          | (go_at_call 20; refine (MY.out _ k3).mono ?_; rintro e w4 ⟨rfl, k4⟩; have B4 : Hid (Below w.heap.size w w4) := k3.trans (k4.mono k3.size); clear k4)
          | (go_at_call 41; refine (AW.out _ B4.out).mono ?_; rintro e w5 ⟨rfl, k5⟩)
        go_ret
        exact ⟨rfl, B4.out.trans (k5.mono B4.out.size)⟩
    · have h48i : ¬ (48 : Int) < (l.length : Int) := by omega
      have h48j : ¬ (l.length : Int) > 48 := by omega
      by_cases hm : Bu.may l = true
      · have hfit := Tr.fit_of hm (by omega)
        have OF := Lib.hid (Tr.ofC HG0.out (Below.refl _ w) c0 hit hfit)
        have ST : Hid (∀ (wx : World) (r : Nat), Tr.Ow w wx r l → Calls Tryz.prog 48 #[.pointer (some ⟨r, 0, none⟩), .slice A l.length c0] wx fun e w' => e = .returned (.bool true) ∧ Below wx.heap.size wx w') := fun wx r h => stands15_any HG0.out h c0 (HIT.out wx h.bel)
        have NO : Hid (Tr.Out n1 n2 → ∀ (wx : World) (r : Nat), Calls Tryz.prog 37 #[.pointer (some ⟨r, 0, none⟩), .int .i64 n1, .int .i64 n2] wx fun e w' => e = .returned (.tuple #[.agg (Lib.byteCells Tr.zeros).toArray, .bool false]) ∧ Below wx.heap.size wx w') := fun h wx r => tNode_no wx r h
        have NI : Hid (∀ (v i : Nat), v ≤ 4 → i < 2 ^ v → n1 = v → n2 = i → ∀ (wx : World) (r : Nat), Tr.Ow w wx r l → Calls Tryz.prog 37 #[.pointer (some ⟨r, 0, none⟩), .int .i64 n1, .int .i64 n2] wx fun e w' => e = .returned (.tuple #[.agg (Lib.byteCells (Tr.lv l v i)).toArray, .bool true]) ∧ Below wx.heap.size wx w') := fun v i hv hi e1 e2 wx r h => by rw [e1, e2]; exact h.nodeC hv hi
        rw [hm] at MY
        obtain ⟨cz, hcz⟩ : ∃ c, c = (Lib.byteCells Tr.zeros).toArray := ⟨_, rfl⟩
        have heq : ∀ wx : World, (Op.equalIn 10000 36 (.agg cz) (.agg #[.int .u8 0, .int .u8 0, .int .u8 0, .int .u8 0, .int .u8 0, .int .u8 0, .int .u8 0, .int .u8 0, .int .u8 0, .int .u8 0, .int .u8 0, .int .u8 0, .int .u8 0, .int .u8 0, .int .u8 0, .int .u8 0, .int .u8 0, .int .u8 0, .int .u8 0, .int .u8 0, .int .u8 0, .int .u8 0, .int .u8 0, .int .u8 0, .int .u8 0, .int .u8 0, .int .u8 0, .int .u8 0, .int .u8 0, .int .u8 0, .int .u8 0, .int .u8 0])).run Tryz.prog wx = .ok true wx := fun wx => by
          have h0 : (Lib.byteCells Tr.zeros).toArray = #[.int .u8 0, .int .u8 0, .int .u8 0, .int .u8 0, .int .u8 0, .int .u8 0, .int .u8 0, .int .u8 0, .int .u8 0, .int .u8 0, .int .u8 0, .int .u8 0, .int .u8 0, .int .u8 0, .int .u8 0, .int .u8 0, .int .u8 0, .int .u8 0, .int .u8 0, .int .u8 0, .int .u8 0, .int .u8 0, .int .u8 0, .int .u8 0, .int .u8 0, .int .u8 0, .int .u8 0, .int .u8 0, .int .u8 0, .int .u8 0, .int .u8 0, .int .u8 0] := by kernel_rfl
          have := Sm.eq_hash Tr.zeros Tr.zeros (by decide) (by decide) wx
          rw [← h0, hcz, this]
          simp
        have HZC : Hid (cz = (Lib.byteCells Tr.zeros).toArray) := hcz
        have HZL : Hid (Tr.zeros.length = 32) := by show _ = _; decide
        clear hit hfa hs1 hl200 hm hfit h48 hcz HG0
        go_enter Tryz.func10, Tryz.ntmps10
        go_upto_region 13 with (first
          | (go_at_call 13; refine GR1.out.mono ?_; rintro e w2 ⟨rfl, rfl⟩; clear GR1)
          | (go_at_call 15; refine OF.out.mono ?_; rintro e w3 ⟨r, rfl, o3, -, k3⟩)
          | (go_at_call 20; refine (MY.out _ k3).mono ?_; rintro e w4 ⟨rfl, k4⟩; have O4 := Lib.hid (o3.step k4); clear k4))
        clear o3 k3 OF MY
        rcases Tr.out_or n1 n2 with h1 | h1 | ⟨v, hv, rfl, h1 | ⟨i, rfl, h1⟩ | ⟨i, rfl, h1⟩⟩
        · have g1 : ¬ (0 : Int) ≤ n1 := by omega
          have g2 : ¬ n1 ≥ 0 := by omega
          have N1 := Lib.hid (NO.out (.inl h1))
          obtain ⟨c1, hc1⟩ : ∃ c, c = (Lib.byteCells Tr.zeros).toArray := ⟨_, rfl⟩
          have hzc1 : c1.size = 32 := by rw [hc1]; exact Tr.size32 HZL.out
          have HZc1 := Lib.hid hzc1
          have HOc1 : Hid (c1.all (·.oneCell') = true) := by show _ = _; rw [hc1]; exact Sm.bytes_one _
          have hce : c1 = cz := by rw [hc1, HZC.out]
          have HCE := Lib.hid hce
          rw [← hc1] at N1
          clear hc1 NO NI hce
          go_wp2_with fail
          refine (N1.out _ _).mono ?_
          rintro e w5 ⟨rfl, k5⟩
          have O5 := Lib.hid (O4.out.step k5)
          have hst : ∀ (c : Array Value), c.size = 32 → (storeCells ⟨w5.heap.size, 0, none⟩ c1.toList).run Tryz.prog (w5.alloc (.cells c 36)) = .ok () (w5.alloc (.cells c1 36)) := fun c hc =>
            run_storeCells_new (P := Tryz.prog) w5 36 c c1 (Sm.infoHash HZc1.out) (by rw [HZc1.out]; exact hc) HOc1.out
          have kk : Below w5.heap.size w5 (w5.alloc (.cells c1 36)) := (Below.refl _ w5).alloc (Nat.le_refl _) _
          have H6 := Lib.hid (heap_alloc_new w5 (.cells c1 36))
          have O6 := Lib.hid (O5.out.step kk)
          clear k5 kk O5 O4 N1
          go_upto_region 14 with (fail)
          clear hst
          generalize w5.alloc (.cells c1 36) = w6 at *
          generalize w5.heap.size = M at *
          have hce := HCE.out
          subst hce
          go_upto_region 15 with (fail)
          go_wp2_with first
            | (refine Sm.wpList_load_row_g 36 (.tmp 10) rfl M rfl 36 c1 (0, 0) _ (by exact H6.out) Tryz.underlying36 rfl (Sm.infoHash HZc1.out) ?_ ?_; rotate_left; rfl)
            | (go_at_call 48; refine (ST.out _ _ O6.out).mono ?_; rintro e w7 ⟨rfl, k7⟩; have O7 := Lib.hid (O6.out.step k7); clear k7)
            | (go_at_call 41; refine (AW.out _ O7.out.bel).mono ?_; rintro e w8 ⟨rfl, k8⟩)
          go_ret
          exact ⟨rfl, O7.out.bel.trans (k8.mono O7.out.bel.size)⟩
        · have g1 : (0 : Int) ≤ n1 := by omega
          have g2 : n1 ≥ 0 := by omega
          have g3 : ¬ n1 ≤ 4 := by omega
          have N1 := Lib.hid (NO.out (.inr (.inl h1)))
          obtain ⟨c1, hc1⟩ : ∃ c, c = (Lib.byteCells Tr.zeros).toArray := ⟨_, rfl⟩
          have hzc1 : c1.size = 32 := by rw [hc1]; exact Tr.size32 HZL.out
          have HZc1 := Lib.hid hzc1
          have HOc1 : Hid (c1.all (·.oneCell') = true) := by show _ = _; rw [hc1]; exact Sm.bytes_one _
          have hce : c1 = cz := by rw [hc1, HZC.out]
          have HCE := Lib.hid hce
          rw [← hc1] at N1
          clear hc1 NO NI hce
          go_wp2_with fail
          refine (N1.out _ _).mono ?_
          rintro e w5 ⟨rfl, k5⟩
          have O5 := Lib.hid (O4.out.step k5)
          have hst : ∀ (c : Array Value), c.size = 32 → (storeCells ⟨w5.heap.size, 0, none⟩ c1.toList).run Tryz.prog (w5.alloc (.cells c 36)) = .ok () (w5.alloc (.cells c1 36)) := fun c hc =>
            run_storeCells_new (P := Tryz.prog) w5 36 c c1 (Sm.infoHash HZc1.out) (by rw [HZc1.out]; exact hc) HOc1.out
          have kk : Below w5.heap.size w5 (w5.alloc (.cells c1 36)) := (Below.refl _ w5).alloc (Nat.le_refl _) _
          have H6 := Lib.hid (heap_alloc_new w5 (.cells c1 36))
          have O6 := Lib.hid (O5.out.step kk)
          clear k5 kk O5 O4 N1
          go_upto_region 14 with (fail)
          clear hst
          generalize w5.alloc (.cells c1 36) = w6 at *
          generalize w5.heap.size = M at *
          have hce := HCE.out
          subst hce
          go_upto_region 15 with (fail)
          go_wp2_with first
            | (refine Sm.wpList_load_row_g 36 (.tmp 10) rfl M rfl 36 c1 (0, 0) _ (by exact H6.out) Tryz.underlying36 rfl (Sm.infoHash HZc1.out) ?_ ?_; rotate_left; rfl)
            | (go_at_call 48; refine (ST.out _ _ O6.out).mono ?_; rintro e w7 ⟨rfl, k7⟩; have O7 := Lib.hid (O6.out.step k7); clear k7)
            | (go_at_call 41; refine (AW.out _ O7.out.bel).mono ?_; rintro e w8 ⟨rfl, k8⟩)
          go_ret
          exact ⟨rfl, O7.out.bel.trans (k8.mono O7.out.bel.size)⟩
        · have HPC := Lib.hid (Tr.pow_cast3 v)
          have hpow := Tr.wrap_pow3 hv
          have h0v : (0 : Int) ≤ (v : Int) := by omega
          have h4v : (v : Int) ≤ 4 := by omega
          have hrem := Tr.rem8 hv
          have hwv : IntKind.u64.wrap (v : Int) = (v : Int) := by simp [IntKind.wrap, IntKind.bits, IntKind.signed]; omega
          have g1 : ¬ (0 : Int) ≤ n2 := by omega
          have g2 : ¬ n2 ≥ 0 := by omega
          have N1 := Lib.hid (NO.out (.inr (.inr (.inl h1))))
          obtain ⟨c1, hc1⟩ : ∃ c, c = (Lib.byteCells Tr.zeros).toArray := ⟨_, rfl⟩
          have hzc1 : c1.size = 32 := by rw [hc1]; exact Tr.size32 HZL.out
          have HZc1 := Lib.hid hzc1
          have HOc1 : Hid (c1.all (·.oneCell') = true) := by show _ = _; rw [hc1]; exact Sm.bytes_one _
          have hce : c1 = cz := by rw [hc1, HZC.out]
          have HCE := Lib.hid hce
          rw [← hc1] at N1
          clear hc1 NO NI hce
          go_wp2_with fail
          refine (N1.out _ _).mono ?_
          rintro e w5 ⟨rfl, k5⟩
          have O5 := Lib.hid (O4.out.step k5)
          have hst : ∀ (c : Array Value), c.size = 32 → (storeCells ⟨w5.heap.size, 0, none⟩ c1.toList).run Tryz.prog (w5.alloc (.cells c 36)) = .ok () (w5.alloc (.cells c1 36)) := fun c hc =>
            run_storeCells_new (P := Tryz.prog) w5 36 c c1 (Sm.infoHash HZc1.out) (by rw [HZc1.out]; exact hc) HOc1.out
          have kk : Below w5.heap.size w5 (w5.alloc (.cells c1 36)) := (Below.refl _ w5).alloc (Nat.le_refl _) _
          have H6 := Lib.hid (heap_alloc_new w5 (.cells c1 36))
          have O6 := Lib.hid (O5.out.step kk)
          clear k5 kk O5 O4 N1
          go_upto_region 14 with (fail)
          clear hst
          generalize w5.alloc (.cells c1 36) = w6 at *
          generalize w5.heap.size = M at *
          have hce := HCE.out
          subst hce
          go_upto_region 15 with (fail)
          go_wp2_with first
            | (refine Sm.wpList_load_row_g 36 (.tmp 10) rfl M rfl 36 c1 (0, 0) _ (by exact H6.out) Tryz.underlying36 rfl (Sm.infoHash HZc1.out) ?_ ?_; rotate_left; rfl)
            | (go_at_call 48; refine (ST.out _ _ O6.out).mono ?_; rintro e w7 ⟨rfl, k7⟩; have O7 := Lib.hid (O6.out.step k7); clear k7)
            | (go_at_call 41; refine (AW.out _ O7.out.bel).mono ?_; rintro e w8 ⟨rfl, k8⟩)
          go_ret
          exact ⟨rfl, O7.out.bel.trans (k8.mono O7.out.bel.size)⟩
        · have HPC := Lib.hid (Tr.pow_cast3 v)
          have hpow := Tr.wrap_pow3 hv
          have h0v : (0 : Int) ≤ (v : Int) := by omega
          have h4v : (v : Int) ≤ 4 := by omega
          have hrem := Tr.rem8 hv
          have hwv : IntKind.u64.wrap (v : Int) = (v : Int) := by simp [IntKind.wrap, IntKind.bits, IntKind.signed]; omega
          have g1 : (0 : Int) ≤ (i : Int) := by omega
          have g2 : ¬ (i : Int) < (2 : Int) ^ v := by rw [← HPC.out]; omega
          have g3 : (2 : Int) ^ v ≤ (i : Int) := by omega
          have g4 : decide ((i : Int) < (2 : Int) ^ v) = false := decide_eq_false g2
          have N1 := Lib.hid (NO.out (.inr (.inr (.inr (by show ((2 ^ ((v : Int)).toNat : Nat) : Int) ≤ _; rw [Int.toNat_natCast]; omega)))))
          obtain ⟨c1, hc1⟩ : ∃ c, c = (Lib.byteCells Tr.zeros).toArray := ⟨_, rfl⟩
          have hzc1 : c1.size = 32 := by rw [hc1]; exact Tr.size32 HZL.out
          have HZc1 := Lib.hid hzc1
          have HOc1 : Hid (c1.all (·.oneCell') = true) := by show _ = _; rw [hc1]; exact Sm.bytes_one _
          have hce : c1 = cz := by rw [hc1, HZC.out]
          have HCE := Lib.hid hce
          rw [← hc1] at N1
          clear hc1 NO NI hce
          go_wp2_with fail
          refine (N1.out _ _).mono ?_
          rintro e w5 ⟨rfl, k5⟩
          have O5 := Lib.hid (O4.out.step k5)
          have hst : ∀ (c : Array Value), c.size = 32 → (storeCells ⟨w5.heap.size, 0, none⟩ c1.toList).run Tryz.prog (w5.alloc (.cells c 36)) = .ok () (w5.alloc (.cells c1 36)) := fun c hc =>
            run_storeCells_new (P := Tryz.prog) w5 36 c c1 (Sm.infoHash HZc1.out) (by rw [HZc1.out]; exact hc) HOc1.out
          have kk : Below w5.heap.size w5 (w5.alloc (.cells c1 36)) := (Below.refl _ w5).alloc (Nat.le_refl _) _
          have H6 := Lib.hid (heap_alloc_new w5 (.cells c1 36))
          have O6 := Lib.hid (O5.out.step kk)
          clear k5 kk O5 O4 N1
          go_upto_region 14 with (fail)
          clear hst
          generalize w5.alloc (.cells c1 36) = w6 at *
          generalize w5.heap.size = M at *
          have hce := HCE.out
          subst hce
          go_upto_region 15 with (fail)
          go_wp2_with first
            | (refine Sm.wpList_load_row_g 36 (.tmp 10) rfl M rfl 36 c1 (0, 0) _ (by exact H6.out) Tryz.underlying36 rfl (Sm.infoHash HZc1.out) ?_ ?_; rotate_left; rfl)
            | (go_at_call 48; refine (ST.out _ _ O6.out).mono ?_; rintro e w7 ⟨rfl, k7⟩; have O7 := Lib.hid (O6.out.step k7); clear k7)
            | (go_at_call 41; refine (AW.out _ O7.out.bel).mono ?_; rintro e w8 ⟨rfl, k8⟩)
          go_ret
          exact ⟨rfl, O7.out.bel.trans (k8.mono O7.out.bel.size)⟩
        · have HPC := Lib.hid (Tr.pow_cast3 v)
          have hpow := Tr.wrap_pow3 hv
          have h0v : (0 : Int) ≤ (v : Int) := by omega
          have h4v : (v : Int) ≤ 4 := by omega
          have hrem := Tr.rem8 hv
          have hwv : IntKind.u64.wrap (v : Int) = (v : Int) := by simp [IntKind.wrap, IntKind.bits, IntKind.signed]; omega
          have g1 : (0 : Int) ≤ (i : Int) := by omega
          have g2 : (i : Int) < (2 : Int) ^ v := by rw [← HPC.out]; omega
          have N1 := Lib.hid (NI.out v i hv h1 rfl rfl _ _ O4.out)
          obtain ⟨c1, hc1⟩ : ∃ c, c = (Lib.byteCells (Tr.lv l v i)).toArray := ⟨_, rfl⟩
          have hzc1 : c1.size = 32 := by rw [hc1]; exact Tr.size32 (Tr.lv_length _ _ _)
          have HZc1 := Lib.hid hzc1
          have HOc1 : Hid (c1.all (·.oneCell') = true) := by show _ = _; rw [hc1]; exact Sm.bytes_one _
          rw [← hc1] at N1
          clear hc1 NO NI
          go_wp2_with fail
          refine N1.out.mono ?_
          rintro e w5 ⟨rfl, k5⟩
          have O5 := Lib.hid (O4.out.step k5)
          have hst : ∀ (c : Array Value), c.size = 32 → (storeCells ⟨w5.heap.size, 0, none⟩ c1.toList).run Tryz.prog (w5.alloc (.cells c 36)) = .ok () (w5.alloc (.cells c1 36)) := fun c hc =>
            run_storeCells_new (P := Tryz.prog) w5 36 c c1 (Sm.infoHash HZc1.out) (by rw [HZc1.out]; exact hc) HOc1.out
          have kk : Below w5.heap.size w5 (w5.alloc (.cells c1 36)) := (Below.refl _ w5).alloc (Nat.le_refl _) _
          have H6 := Lib.hid (heap_alloc_new w5 (.cells c1 36))
          have O6 := Lib.hid (O5.out.step kk)
          clear k5 kk O5 O4 N1
          go_upto_region 14 with (fail)
          clear hst
          generalize w5.alloc (.cells c1 36) = w6 at *
          generalize w5.heap.size = M at *
          go_upto_region 15 with (fail)
          go_wp2_with first
            | (refine Sm.wpList_load_row_g 36 (.tmp 10) rfl M rfl 36 c1 (0, 0) _ (by exact H6.out) Tryz.underlying36 rfl (Sm.infoHash HZc1.out) ?_ ?_; rotate_left; rfl)
            | (go_at_call 48; refine (ST.out _ _ O6.out).mono ?_; rintro e w7 ⟨rfl, k7⟩; have O7 := Lib.hid (O6.out.step k7); clear k7)
            | (go_at_call 41; refine (AW.out _ O7.out.bel).mono ?_; rintro e w8 ⟨rfl, k8⟩)
          go_ret
          exact ⟨rfl, O7.out.bel.trans (k8.mono O7.out.bel.size)⟩
      · have hm : Bu.may l = false := by simpa using hm
        have OF := Lib.hid (tOf_arg c0 hit hl200 hs1 hm)
        rw [hm] at MY
        clear hit hfa hs1 hl200 hm h48
        go_enter Tryz.func10, Tryz.ntmps10
        go_wp2_with first
          | (go_at_call 13; refine GR1.out.mono ?_; rintro e w2 ⟨rfl, rfl⟩; clear GR1)
          | (go_at_call 15; refine OF.out.mono ?_; rintro e w3 ⟨rfl, k3⟩)
          | (go_at_call 20; refine (MY.out _ k3).mono ?_; rintro e w4 ⟨rfl, k4⟩; have B4 : Hid (Below w.heap.size w w4) := k3.trans (k4.mono k3.size); clear k4)
          | (go_at_call 41; refine (AW.out _ B4.out).mono ?_; rintro e w5 ⟨rfl, k5⟩)
        go_ret
        exact ⟨rfl, B4.out.trans (k5.mono B4.out.size)⟩
end Go.Proofs.YtiehcplepneajaaGreatDoor
