/-
  What the law's example and awake do.
-/
import Derived.Test.YtgdnpagmhkkaiaaAeOne
import Derived.Test.YtgdnpagmhkkaiaaAeTable
namespace Go.Proofs.Ytgdnpagmhkkaiaa
open Go.RowKit
namespace Ae
theorem zeroKey : (Try.prog.info? 23).map (fun i => (i.zero, i.size)) = some (some (.agg (Sm.rowB 32 [])), 32) := by kernel_rfl
theorem exKey_length : exKey.length = 32 := by simp [exKey]
theorem exBlk_length : exBlk.length = 16 := by simp [exBlk]
theorem results_two_rows {P : Program} {fn : Func} {p p' : Tmp} {ty ty' : TypeId} (h : fn.results = #[.cell p ty, .cell p' ty']) (tmps : Array Value) (w : World) (g g' : Nat) (t t' : TypeId) (cs cs' : Array Value) (fr fr' : Nat × Nat) (d d' : TypeDesc)
    (hp : tmps.getD p undef = .pointer (some ⟨g, 0, none⟩)) (hg : w.heap[g]? = some (.cells cs t fr))
    (hu : P.underlying ty = some d) (hd : (match d with | .struct _ | .array _ _ => true | _ => false) = true) (hi : (P.info? ty).map (·.size) = some cs.size)
    (hp2 : tmps.getD p' undef = .pointer (some ⟨g', 0, none⟩)) (hg2 : w.heap[g']? = some (.cells cs' t' fr'))
    (hu2 : P.underlying ty' = some d') (hd2 : (match d' with | .struct _ | .array _ _ => true | _ => false) = true) (hi2 : (P.info? ty').map (·.size) = some cs'.size) :
    (results fn tmps).run P w = .ok (.tuple #[.agg cs, .agg cs']) w := by
  have hp' : tmps[p]?.getD undef = .pointer (some ⟨g, 0, none⟩) := by simpa using hp
  have hp2' : tmps[p']?.getD undef = .pointer (some ⟨g', 0, none⟩) := by simpa using hp2
  simp [results, h, hp', hp2', asAddr, run_loadVar_row w g t ty cs fr d hg hu hd hi, run_loadVar_row w g' t' ty' cs' fr' d' hg2 hu2 hd2 hi2]
end Ae

set_option maxRecDepth 100000 in
set_option maxHeartbeats 2000000 in
theorem example_any (w : World) :
    Calls Try.prog 7 #[] w fun e w' => e = .returned (.tuple #[.agg (Lib.byteCells Ae.exKey).toArray, .agg (Lib.byteCells Ae.exBlk).toArray]) ∧ Below w.heap.size w w' := by
  obtain ⟨z1, hz1⟩ : ∃ z, z = Sm.rowB 32 [] := ⟨_, rfl⟩
  obtain ⟨z2, hz2⟩ : ∃ z, z = Sm.rowB 16 [] := ⟨_, rfl⟩
  have hk1 := (zero_of_info Ae.zeroKey).1
  have hk2 := (zero_of_info Ae.zero16).1
  rw [← hz1] at hk1
  rw [← hz2] at hk2
  obtain ⟨N, hN⟩ : ∃ N, N = w.heap.size := ⟨_, rfl⟩
  have g0 : ((((w.alloc (.cells z1 23)).alloc (.cells z2 29)).alloc (.cells z1 23)).alloc (.cells z2 29)).heap[N]? = some (.cells z1 23 (0, 0)) := by
    rw [hN, Below.heap_alloc _ _ _ (by simp <;> omega), Below.heap_alloc _ _ _ (by simp <;> omega), Below.heap_alloc _ _ _ (by simp)]; exact heap_alloc_new w _
  have g1 : ((((w.alloc (.cells z1 23)).alloc (.cells z2 29)).alloc (.cells z1 23)).alloc (.cells z2 29)).heap[N + 1]? = some (.cells z2 29 (0, 0)) := by
    rw [hN, Below.heap_alloc _ _ _ (by simp <;> omega), Below.heap_alloc _ _ _ (by simp)]; simpa using heap_alloc_new (w.alloc (.cells z1 23)) (.cells z2 29)
  have g2 : ((((w.alloc (.cells z1 23)).alloc (.cells z2 29)).alloc (.cells z1 23)).alloc (.cells z2 29)).heap[N + 2]? = some (.cells (Sm.rowB 32 []) 23 (0, 0)) := by
    rw [hN, Below.heap_alloc _ _ _ (by simp), ← hz1]; simpa using heap_alloc_new ((w.alloc (.cells z1 23)).alloc (.cells z2 29)) (.cells z1 23)
  have g3 : ((((w.alloc (.cells z1 23)).alloc (.cells z2 29)).alloc (.cells z1 23)).alloc (.cells z2 29)).heap[N + 3]? = some (.cells (Sm.rowB 16 []) 29 (0, 0)) := by
    rw [hN, ← hz2]; simpa using heap_alloc_new (((w.alloc (.cells z1 23)).alloc (.cells z2 29)).alloc (.cells z1 23)) (.cells z2 29)
  have b4 : Below N w ((((w.alloc (.cells z1 23)).alloc (.cells z2 29)).alloc (.cells z1 23)).alloc (.cells z2 29)) := by
    rw [hN]; exact ((((Below.refl _ w).alloc (Nat.le_refl _) _).alloc (by simp) _).alloc (by simp <;> omega) _).alloc (by simp <;> omega) _
  have hs1 : z1.size = 32 := by rw [hz1]; exact Sm.rowB_size (by simp)
  have hs2 : z2.size = 16 := by rw [hz2]; exact Sm.rowB_size (by simp)
  clear hz1 hz2
  go_enter Try.func7, Try.ntmps7
  go_upto_region 3 with (fail)
  generalize (((w.alloc (.cells z1 23)).alloc (.cells z2 29)).alloc (.cells z1 23)).alloc (.cells z2 29) = W4 at *
  clear hk1 hk2
  simp only [Nat.add_assoc, Nat.reduceAdd]
  rw [← hN]
  have HN := Lib.hid hN
  have HS1 := Lib.hid hs1
  have HS2 := Lib.hid hs2
  clear hN hs1 hs2
  go_wp2_with fail
  go_loopw [4] (fun i wr => ∃ k : Nat, k ≤ 32 ∧ i = .int .i64 k ∧ wr.heap[N]? = some (.cells z1 23 (0, 0)) ∧ wr.heap[N + 1]? = some (.cells z2 29 (0, 0)) ∧ wr.heap[N + 2]? = some (.cells (Sm.rowB 32 ((List.range k).map UInt8.ofNat)) 23 (0, 0)) ∧ wr.heap[N + 3]? = some (.cells (Sm.rowB 16 []) 29 (0, 0)) ∧ Below N w wr) (fun i _ => 32 - (intOf i).toNat)
  case atStart => exact ⟨0, by omega, rfl, g0, g1, g2, g3, b4⟩
  case round =>
    clear g0 g1 g2 g3 b4
    obtain ⟨k, hk, rfl, h0, h1, h2, h3, hbw⟩ := hrel
    have H0 := Lib.hid h0
    have H1 := Lib.hid h1
    have H2 := Lib.hid h2
    have H3 := Lib.hid h3
    clear h0 h1 h2 h3
    by_cases hlt : k < 32
    · obtain ⟨old, hold⟩ := Sm.rowB_some (n := 32) (l := (List.range k).map UInt8.ofNat) k (by simp; omega) hlt
      have hold := Sm.cells_of H2.out k old hold
      have fz := Sm.free_of H2.out k
      have q1 : (k : Int) < 32 := by omega
      go_wp2_with fail
      go_roundw
      case rel =>
        refine ⟨k + 1, by omega, by go_num, (Below.heap_setCell _ _ _ _ (by simp)).trans H0.out, (Below.heap_setCell _ _ _ _ (by simp)).trans H1.out, ?_, (Below.heap_setCell _ _ _ _ (by simp)).trans H3.out, hbw.setCell (p := ⟨N + 2, k, none⟩) (by simp) _⟩
        have e := Sm.rowB_set (n := 32) (l := (List.range k).map UInt8.ofNat) (by simp; omega) (UInt8.ofNat k)
        rw [List.length_map, List.length_range, Ae.ofNat8 _ (by omega)] at e
        rw [Sm.range_snoc, ← e]
        exact Sm.heap_set H2.out k _
      case measure => simp [intOf]; omega
    · obtain rfl : k = 32 := by omega
      clear hlt hk
      have q1 : ¬ ((32 : Nat) : Int) < 32 := by omega
      have hr2 := H2.out
      rw [Sm.rowB_full (by simp)] at hr2
      have HK : Hid (wr.heap[N + 2]? = some (.cells (Lib.byteCells Ae.exKey).toArray 23 (0, 0))) := hr2
      clear hr2 H2
      go_wp2_with fail
      go_loopw [5] (fun i wr => ∃ k : Nat, k ≤ 16 ∧ i = .int .i64 k ∧ wr.heap[N]? = some (.cells z1 23 (0, 0)) ∧ wr.heap[N + 1]? = some (.cells z2 29 (0, 0)) ∧ wr.heap[N + 2]? = some (.cells (Lib.byteCells Ae.exKey).toArray 23 (0, 0)) ∧ wr.heap[N + 3]? = some (.cells (Sm.rowB 16 ((List.range k).map fun i => UInt8.ofNat (17 * i))) 29 (0, 0)) ∧ Below N w wr) (fun i _ => 16 - (intOf i).toNat)
      case atStart => exact ⟨0, by omega, rfl, H0.out, H1.out, HK.out, H3.out, hbw⟩
      case round =>
        clear H0 H1 HK H3 hbw
        obtain ⟨k, hk, rfl, h0, h1, h2, h3, hbw⟩ := hrel
        have H0 := Lib.hid h0
        have H1 := Lib.hid h1
        have H2 := Lib.hid h2
        have H3 := Lib.hid h3
        clear h0 h1 h2 h3
        by_cases hlt : k < 16
        · obtain ⟨old, hold⟩ := Sm.rowB_some (n := 16) (l := (List.range k).map fun i => UInt8.ofNat (17 * i)) k (by simp; omega) hlt
          have hold := Sm.cells_of H3.out k old hold
          have fz := Sm.free_of H3.out k
          have q1 : (k : Int) < 16 := by omega
          go_wp2_with fail
          go_roundw
          case rel =>
            refine ⟨k + 1, by omega, by go_num, (Below.heap_setCell _ _ _ _ (by simp)).trans H0.out, (Below.heap_setCell _ _ _ _ (by simp)).trans H1.out, (Below.heap_setCell _ _ _ _ (by simp)).trans H2.out, ?_, hbw.setCell (p := ⟨N + 3, k, none⟩) (by simp) _⟩
            have e := Sm.rowB_set (n := 16) (l := (List.range k).map fun i => UInt8.ofNat (17 * i)) (by simp; omega) (UInt8.ofNat (17 * k))
            rw [List.length_map, List.length_range, Ae.ofNat8 _ (by omega), show ((17 * k : Nat) : Int) = 17 * (k : Int) by omega] at e
            rw [Sm.range_snoc, ← e]
            exact Sm.heap_set H3.out k _
          case measure => simp [intOf]; omega
        · obtain rfl : k = 16 := by omega
          clear hlt hk
          have q1 : ¬ ((16 : Nat) : Int) < 16 := by omega
          have hr3 := H3.out
          rw [Sm.rowB_full (by simp)] at hr3
          have HB : Hid (wr.heap[N + 3]? = some (.cells (Lib.byteCells Ae.exBlk).toArray 29 (0, 0))) := hr3
          clear hr3 H3
          obtain ⟨ck, hck⟩ : ∃ c, c = Lib.byteCells Ae.exKey := ⟨_, rfl⟩
          obtain ⟨cl, hcl⟩ : ∃ c, c = Lib.byteCells Ae.exBlk := ⟨_, rfl⟩
          have hckn : ck.length = 32 := by rw [hck, Lib.byteCells_length, Ae.exKey_length]
          have hcln : cl.length = 16 := by rw [hcl, Lib.byteCells_length, Ae.exBlk_length]
          have HKO : Hid (ck.toArray.all (·.oneCell') = true) := by show _ = _; rw [hck]; exact Sm.bytes_one _
          have HLO : Hid (cl.toArray.all (·.oneCell') = true) := by show _ = _; rw [hcl]; exact Sm.bytes_one _
          rw [← hck] at H2
          rw [← hcl] at HB
          have HCK := Lib.hid hck
          have HCL := Lib.hid hcl
          have HKN := Lib.hid hckn
          have HLN := Lib.hid hcln
          have HU1 : Hid (Try.prog.underlying 23 = some (.array 32 5)) := Try.underlying23
          have HU2 : Hid (Try.prog.underlying 29 = some (.array 16 5)) := Try.underlying29
          have HI1 : Hid ((Try.prog.info? 23).map (·.size) = some ck.length) := by show _ = _; rw [hckn]; kernel_rfl
          have HI2 : Hid ((Try.prog.info? 29).map (·.size) = some cl.length) := by show _ = _; rw [hcln]; kernel_rfl
          have HI1a : Hid ((Try.prog.info? 23).map (·.size) = some ck.toArray.size) := by show _ = _; rw [List.size_toArray]; exact HI1.out
          have HI2a : Hid ((Try.prog.info? 29).map (·.size) = some cl.toArray.size) := by show _ = _; rw [List.size_toArray]; exact HI2.out
          clear hck hcl hckn hcln
          go_wp2_with fail
          refine wp_region_held_drew (S := fun w' => w'.rangeAt (N + 2) 0 ck ∧ w'.rangeAt (N + 3) 0 cl) (by kernel_rfl) ⟨Sm.range_row (w := wr.drew) H2.out, Sm.range_row (w := wr.drew) HB.out⟩ (fun hHeld => ?_)
          refine wpAnyH_take (i := 0) (oi := ⟨some 23, _, _, _, _, _⟩) (v := .agg ck.toArray) rfl (by kernel_rfl) (by kernel_rfl) (by kernel_rfl) (fun _ _ _ h => h) (yieldsIf_load_mid (by rfl) _ _ rfl _ _ rfl ck _ (fun w hS => hS.1) HU1.out rfl HI1.out) (by assumption) ?_
          simp only [Act.put, List.setIfInBounds_toArray, List.set_cons_zero, List.set_cons_succ]
          refine wpAnyH_take (i := 1) (oi := ⟨some 24, _, _, _, _, _⟩) (v := .agg cl.toArray) rfl (by kernel_rfl) (by kernel_rfl) (by kernel_rfl) (fun _ _ _ h => h) (yieldsIf_load_mid (by rfl) _ _ rfl _ _ rfl cl _ (fun w hS => hS.2) HU2.out rfl HI2.out) (by assumption) ?_
          simp only [Act.put, List.setIfInBounds_toArray, List.set_cons_zero, List.set_cons_succ]
          refine wpAnyH_ready (rs := [2]) (by kernel_rfl) (by simp) ?_
          refine AllReadyH.cons (o := ⟨none, _, _, _, _, _⟩) rfl (fun K hK => ?_) AllReadyH.nil
          rw [if_pos (by simp [Region.wanted])]
          refine wp_store_mid 23 (.tmp 0) (.tmp 23) rfl N 0 ck.toArray rfl rfl (Sm.there_row (w := wr.drew) H0.out (by rw [HS1.out, List.size_toArray, HKN.out])) HI1a.out HKO.out ?_
          have R1 := Lib.hid (Sm.heap_setAll (w := wr.drew) (vs := ck) H0.out (by rw [HS1.out, HKN.out]))
          have R2 := Lib.hid (Sm.other_setCells (b := N) (o := 0) (vs := ck) (w := wr.drew) (c := N + 1) (by omega) H1.out)
          have R3 := Lib.hid (Sm.other_setCells (b := N) (o := 0) (vs := ck) (w := wr.drew) (c := N + 2) (by omega) H2.out)
          have R4 := Lib.hid (Sm.other_setCells (b := N) (o := 0) (vs := ck) (w := wr.drew) (c := N + 3) (by omega) HB.out)
          have B1 : Below N w (wr.drew.setCells N 0 ck) := Sm.below_setCells (Nat.le_refl _) _ _ hbw.drew
          simp only
          generalize wr.drew.setCells N 0 ck = W5 at *
          refine hK.out _ _ ⟨Sm.range_row R3.out, Sm.range_row R4.out⟩ (fun hHeld => ?_)
          clear hK K
          refine wpAnyH_ready (rs := [3]) (by kernel_rfl) (by simp) ?_
          refine AllReadyH.cons (o := ⟨none, _, _, _, _, _⟩) rfl (fun K hK => ?_) AllReadyH.nil
          rw [if_pos (by simp [Region.wanted])]
          refine wp_store_mid 29 (.tmp 1) (.tmp 24) rfl (N + 1) 0 cl.toArray rfl rfl (Sm.there_row R2.out (by rw [HS2.out, List.size_toArray, HLN.out])) HI2a.out HLO.out ?_
          have R5 := Lib.hid (Sm.heap_setAll (vs := cl) R2.out (by rw [HS2.out, HLN.out]))
          have R6 := Lib.hid (Sm.other_setCells (b := N + 1) (o := 0) (vs := cl) (c := N) (by omega) R1.out)
          have R7 := Lib.hid (Sm.other_setCells (b := N + 1) (o := 0) (vs := cl) (c := N + 2) (by omega) R3.out)
          have R8 := Lib.hid (Sm.other_setCells (b := N + 1) (o := 0) (vs := cl) (c := N + 3) (by omega) R4.out)
          have B2 : Below N w (W5.setCells (N + 1) 0 cl) := Sm.below_setCells (by omega) _ _ B1
          simp only
          generalize W5.setCells (N + 1) 0 cl = W6 at *
          refine hK.out _ _ ⟨Sm.range_row R7.out, Sm.range_row R8.out⟩ (fun hHeld => ?_)
          clear hK K
          refine wpAnyH_done (by kernel_rfl) ?_ _
          simp only [Act.put]
          go_wp2
          exact bodyPost_ret (v := .tuple #[.agg ck.toArray, .agg cl.toArray]) (Ae.results_two_rows rfl _ _ N (N + 1) 23 29 _ _ (0, 0) (0, 0) _ _ rfl R6.out Try.underlying23 rfl HI1a.out rfl R5.out Try.underlying29 rfl HI2a.out) rfl ⟨by rw [HCK.out, HCL.out], by rw [← HN.out]; exact B2⟩

set_option maxRecDepth 100000 in
set_option maxHeartbeats 2000000 in
theorem awake4_any (w : World) : Calls Try.prog 4 #[] w fun e w' => e = .returned (.bool true) ∧ Below w.heap.size w w' := by
  have EX := Lib.hid example_any
  have hbk := Ae.ex_block
  have BK := fun wx => block_any wx Ae.exKey Ae.exBlk Ae.exKey_length Ae.exBlk_length
  rw [hbk] at BK
  obtain ⟨ck, hck⟩ : ∃ c, c = (Lib.byteCells Ae.exKey).toArray := ⟨_, rfl⟩
  obtain ⟨cl, hcl⟩ : ∃ c, c = (Lib.byteCells Ae.exBlk).toArray := ⟨_, rfl⟩
  have hckn : ck.size = 32 := by rw [hck, Sm.bytes_size, Ae.exKey_length]
  have hcln : cl.size = 16 := by rw [hcl, Sm.bytes_size, Ae.exBlk_length]
  have hko : ck.all (·.oneCell') = true := by rw [hck]; exact Sm.bytes_one _
  have hlo : cl.all (·.oneCell') = true := by rw [hcl]; exact Sm.bytes_one _
  rw [← hck, ← hcl] at EX
  rw [← hck, ← hcl] at BK
  have HBK := Lib.hid BK
  clear hck hcl hbk BK
  obtain ⟨z1, hz1⟩ : ∃ z, z = Sm.rowB 32 [] := ⟨_, rfl⟩
  obtain ⟨z2, hz2⟩ : ∃ z, z = Sm.rowB 16 [] := ⟨_, rfl⟩
  have hk1 := (zero_of_info Ae.zeroKey).1
  have hk2 := (zero_of_info Ae.zero16).1
  rw [← hz1] at hk1
  rw [← hz2] at hk2
  have HZ1 : Hid (z1.size = 32) := by show _ = _; rw [hz1]; exact Sm.rowB_size (by simp)
  have HZ2 : Hid (z2.size = 16) := by show _ = _; rw [hz2]; exact Sm.rowB_size (by simp)
  have HKN := Lib.hid hckn
  have HLN := Lib.hid hcln
  clear hz1 hz2 hckn hcln
  obtain ⟨cr, hcr⟩ : ∃ c, c = (Lib.byteCells [142, 162, 183, 202, 81, 103, 69, 191, 234, 252, 73, 144, 75, 73, 96, 137]).toArray := ⟨_, rfl⟩
  rw [← hcr] at HBK
  have HRN : Hid (cr.size = 16) := by show _ = _; rw [hcr]; rfl
  have HRO : Hid (cr.all (·.oneCell') = true) := by show _ = _; rw [hcr]; exact Sm.bytes_one _
  have HCR := Lib.hid hcr
  clear hcr
  go_enter Try.func4, Try.ntmps4
  go_wp2_with fail
  refine (EX.out _).mono ?_
  rintro e w1 ⟨rfl, k1⟩
  have g1 : ((w1.alloc (.cells z1 23)).alloc (.cells z2 29)).heap[w1.heap.size]? = some (.cells z1 23 (0, 0)) := by
    rw [Below.heap_alloc _ _ _ (by simp)]; exact heap_alloc_new w1 _
  have g2 : ((w1.alloc (.cells z1 23)).alloc (.cells z2 29)).heap[w1.heap.size + 1]? = some (.cells z2 29 (0, 0)) := by
    simpa using heap_alloc_new (w1.alloc (.cells z1 23)) (.cells z2 29)
  have b1 : Below w.heap.size w ((w1.alloc (.cells z1 23)).alloc (.cells z2 29)) := (k1.alloc k1.size _).alloc (Nat.le_trans k1.size (by simp)) _
  have hst1 := Sm.run_store_row (P := Try.prog) ck g1 (by rw [HZ1.out, HKN.out]) hko
  have g3 := setRow_heap _ w1.heap.size _ ck _ _ g1
  have g4 := (setRow_other ((w1.alloc (.cells z1 23)).alloc (.cells z2 29)) w1.heap.size (w1.heap.size + 1) ck (by omega)).trans g2
  have b2 := Sm.below_setRow b1 k1.size ck
  have hst2 := Sm.run_store_row (P := Try.prog) cl g4 (by rw [HZ2.out, HLN.out]) hlo
  have g5 := setRow_heap _ (w1.heap.size + 1) _ cl _ _ g4
  have g6 := (setRow_other (((w1.alloc (.cells z1 23)).alloc (.cells z2 29)).setRow w1.heap.size ck) (w1.heap.size + 1) w1.heap.size cl (by omega)).trans g3
  have b3 := Sm.below_setRow b2 (Nat.le_trans k1.size (Nat.le_succ _)) cl
  have G5 := Lib.hid g5
  have G6 := Lib.hid g6
  have K1 := Lib.hid k1.size
  have HI1 := Ae.infoKey HKN.out
  have HI2 := Ae.info16 HLN.out
  clear g1 g2 g3 g4 g5 g6 b1 b2 hko hlo
  go_wp2_with (first | (with_reducible refine wpList_load_row rfl 23 (.tmp 1) rfl w1.heap.size rfl 23 ck (0, 0) _ (by exact G6.out) Try.underlying23 rfl HI1 ?_) | (with_reducible refine wpList_load_row rfl 29 (.tmp 2) rfl (w1.heap.size + 1) rfl 29 cl (0, 0) _ (by exact G5.out) Try.underlying29 rfl HI2 ?_))
  refine (HBK.out _).mono ?_
  rintro e w2 ⟨rfl, k2⟩
  have b4 := Sm.low_low b3 (Nat.le_refl _) k2
  clear hst1 hst2 G5 G6 b3 k2
  have g7 := heap_alloc_new w2 (.cells z2 29)
  have hst3 := Sm.run_store_row (P := Try.prog) cr g7 (by rw [HZ2.out, HRN.out]) HRO.out
  have g8 := setRow_heap _ w2.heap.size _ cr _ _ g7
  have b5 := Sm.below_setRow (b4.alloc b4.size (.cells z2 29)) b4.size cr
  rw [HCR.out] at g8
  have hcv := Sm.conv_row (n := 16) g8 (by simp)
  rw [← HCR.out] at hcv
  clear g7 g8
  go_wp2
  go_ret
  exact ⟨rfl, b5⟩
end Go.Proofs.Ytgdnpagmhkkaiaa
