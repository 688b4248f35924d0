/-
  What scheduleOf makes: a key's schedule.
-/
import Derived.Test.YtkannddaihlcdaaAeNewBox
namespace Go.Proofs.Ytkannddaihlcdaa
open Go.RowKit
namespace Ae
theorem zeroSched : (Try.prog.info? 58).map (fun i => (i.zero, i.size)) = some (some (.agg (Sm.rowOf 60 [])), 60) := by kernel_rfl
theorem infoSched {c : Array Value} (h : c.size = 60) : (Try.prog.info? 58).map (·.size) = some c.size := by rw [h]; kernel_rfl
theorem BoxAt.low {w w' : World} {b B : Nat} (h : BoxAt w b) (k : Below B w w') (hb : b < B) : BoxAt w' b := fun i hi => (k.cell (p := ⟨b, i, none⟩) hb).trans (h i hi)
theorem FourAt.low {w w' : World} {b B : Nat} {l : List Nat} (h : FourAt w b l) (k : Below B w w') (hb : b < B) : FourAt w' b l := fun i hi => (k.cell (p := ⟨b, i, none⟩) hb).trans (h i hi)
theorem key_cell {w : World} {N k i : Nat} {l : List UInt8} {t : TypeId} (h : w.heap[N]? = some (.cells (Lib.byteCells l).toArray t (0, 0))) (hl : l.length = 32) (hk : k < 8) (hi : i < 4) : w.cell? ⟨N, 4 * k + i, none⟩ = some (.int .u8 ((l.getD (4 * k + i) 0).toNat : Int)) :=
  Sm.row_cell h _ (by omega)
theorem nums_one (l : List Nat) : (Sm.nums l).toArray.all (·.oneCell') = true := by
  rw [Array.all_eq_true_iff_forall_mem]
  intro v hv
  obtain ⟨x, _, rfl⟩ := List.mem_map.1 (by simpa [Sm.nums] using hv : v ∈ Sm.nums l)
  rfl
end Ae

set_option maxRecDepth 100000 in
set_option maxHeartbeats 4000000 in
theorem schedule_any {w : World} {b : Nat} (hS : Ae.BoxAt w b) (hb : b < w.heap.size) (key : List UInt8) (hkey : key.length = 32) :
    Calls Try.prog 25 #[.agg (Lib.byteCells key).toArray, .pointer (some ⟨b, 0, none⟩)] w fun e w' => e = .returned (.agg (Sm.nums (Ae.ks key)).toArray) ∧ Below w.heap.size w w' := by
  obtain ⟨ck, hck⟩ : ∃ c, c = (Lib.byteCells key).toArray := ⟨_, rfl⟩
  obtain ⟨z0, hz0⟩ : ∃ z, z = Sm.rowOf 60 [] := ⟨_, rfl⟩
  have hz1 := (zero_of_info Ae.zeroSched).1
  rw [← hz0] at hz1
  rw [← hck]
  have g1 : ((w.alloc (.cells ck 25)).alloc (.cells z0 58)).heap[w.heap.size]? = some (.cells (Lib.byteCells key).toArray 25 (0, 0)) := by
    rw [Below.heap_alloc _ _ _ (by simp), ← hck]; exact heap_alloc_new w _
  have g2 : ((w.alloc (.cells ck 25)).alloc (.cells z0 58)).heap[w.heap.size + 1]? = some (.cells (Sm.rowOf 60 []) 58 (0, 0)) := by
    rw [← hz0]; simpa using heap_alloc_new (w.alloc (.cells ck 25)) (.cells z0 58)
  have b2 : Below w.heap.size w ((w.alloc (.cells ck 25)).alloc (.cells z0 58)) := ((Below.refl _ w).alloc (Nat.le_refl _) _).alloc (by simp) _
  have HS := Lib.hid hS
  clear hck hz0 hS
  go_enter Try.func25, Try.ntmps25
  go_upto_region 1 with (fail)
  generalize (w.alloc (.cells ck 25)).alloc (.cells z0 58) = W2 at *
  clear hz1
  obtain ⟨N, hN⟩ : ∃ N, N = w.heap.size := ⟨_, rfl⟩
  rw [← hN] at g1 g2 b2 hb ⊢
  have HN := Lib.hid hN
  clear hN
  go_wp2_with fail
  go_loopw [9] (fun i wr => ∃ k : Nat, k ≤ 8 ∧ i = .int .i64 k ∧ wr.heap[N + 1]? = some (.cells (Sm.rowOf 60 ((List.range k).map (Sm.word key))) 58 (0, 0)) ∧ wr.heap[N]? = some (.cells (Lib.byteCells key).toArray 25 (0, 0)) ∧ Below N w wr) (fun i _ => 8 - (intOf i).toNat)
  case atStart => exact ⟨0, by omega, rfl, g2, g1, b2⟩
  case round =>
    clear g1 g2 b2
    obtain ⟨k, hk, rfl, hr1, hr2, hbk⟩ := hrel
    have HR1 := Lib.hid hr1
    have HR2 := Lib.hid hr2
    clear hr1 hr2
    by_cases hlt : k < 8
    · have c0 : wr.drew.cell? ⟨N, 4 * k, none⟩ = some (.int .u8 ((key.getD (4 * k) 0).toNat : Int)) := Ae.key_cell (i := 0) HR2.out hkey hlt (by decide)
      have c1 : wr.drew.cell? ⟨N, 4 * k + 1, none⟩ = some (.int .u8 ((key.getD (4 * k + 1) 0).toNat : Int)) := Ae.key_cell HR2.out hkey hlt (by decide)
      have c2 : wr.drew.cell? ⟨N, 4 * k + 2, none⟩ = some (.int .u8 ((key.getD (4 * k + 2) 0).toNat : Int)) := Ae.key_cell HR2.out hkey hlt (by decide)
      have c3 : wr.drew.cell? ⟨N, 4 * k + 3, none⟩ = some (.int .u8 ((key.getD (4 * k + 3) 0).toNat : Int)) := Ae.key_cell HR2.out hkey hlt (by decide)
      obtain ⟨old, hold⟩ := Sm.rowOf_some (n := 60) (l := (List.range k).map (Sm.word key)) k (by simp; omega) (by omega)
      have hold : wr.drew.cell? ⟨N + 1, k, none⟩ = some old := Sm.cells_of HR1.out k old hold
      have fz : wr.drew.frozen? ⟨N + 1, k, none⟩ = false := Sm.free_of HR1.out k
      have HWD : Hid (Sm.word key k = Sm.be4 (key.getD (4 * k) 0).toNat (key.getD (4 * k + 1) 0).toNat (key.getD (4 * k + 2) 0).toNat (key.getD (4 * k + 3) 0).toNat) := rfl
      have WD : Hid (Calls Try.prog 28 #[.int .u8 (key.getD (4 * k) 0).toNat, .int .u8 (key.getD (4 * k + 1) 0).toNat, .int .u8 (key.getD (4 * k + 2) 0).toNat, .int .u8 (key.getD (4 * k + 3) 0).toNat] wr.drew fun e w' => e = .returned (.int .u32 (Sm.word key k : Nat)) ∧ w' = wr.drew) :=
        (word_any _ _ _ _ (UInt8.toNat_lt _) (UInt8.toNat_lt _) (UInt8.toNat_lt _) (UInt8.toNat_lt _) wr.drew).mono fun _ _ ⟨h1, h2⟩ => ⟨by rw [h1, HWD.out], h2.symm⟩
      generalize key.getD (4 * k) 0 = x0 at *
      generalize key.getD (4 * k + 1) 0 = x1 at *
      generalize key.getD (4 * k + 2) 0 = x2 at *
      generalize key.getD (4 * k + 3) 0 = x3 at *
      have e0 : (4 * (k : Int)).toNat = 4 * k := by omega
      have e1 : (4 * (k : Int) + 1).toNat = 4 * k + 1 := by omega
      have e2 : (4 * (k : Int) + 2).toNat = 4 * k + 2 := by omega
      have e3 : (4 * (k : Int) + 3).toNat = 4 * k + 3 := by omega
      have v0 : IntKind.i64.wrap (4 * (k : Int)) = 4 * (k : Int) := IntWalk.i64_in _ (by omega)
      have v1 : IntKind.i64.wrap (4 * (k : Int) + 1) = 4 * (k : Int) + 1 := IntWalk.i64_in _ (by omega)
      have v2 : IntKind.i64.wrap (4 * (k : Int) + 2) = 4 * (k : Int) + 2 := IntWalk.i64_in _ (by omega)
      have v3 : IntKind.i64.wrap (4 * (k : Int) + 3) = 4 * (k : Int) + 3 := IntWalk.i64_in _ (by omega)
      have u0 : 4 * (k : Int) < 32 := by omega
      have u1 : 4 * (k : Int) + 1 < 32 := by omega
      have u2 : 4 * (k : Int) + 2 < 32 := by omega
      have u3 : 4 * (k : Int) + 3 < 32 := by omega
      have p0 : 0 ≤ 4 * (k : Int) := by omega
      have p1 : 0 ≤ 4 * (k : Int) + 1 := by omega
      have p2 : 0 ≤ 4 * (k : Int) + 2 := by omega
      have p3 : 0 ≤ 4 * (k : Int) + 3 := by omega
      have q0 : (k : Int) < 8 := by omega
      have q1 : (k : Int) < 60 := by omega
      go_wp2_with fail
      go_still_tail 22, (by kernel_rfl)
      still_call WD.out
      repeat still_step
      refine wpStill_nil ?_
      change wpList _ _ _ _ _ wr.drew
      go_wp2
      go_roundw
      case rel =>
        refine ⟨k + 1, by omega, by go_num, ?_, (Below.heap_setCell _ _ _ _ (by simp)).trans HR2.out, (hbk.setCell (p := ⟨N + 1, k, none⟩) (by simp) _).drew⟩
        have e := Sm.rowOf_set (n := 60) (l := (List.range k).map (Sm.word key)) (by simp; omega) (Sm.word key k)
        rw [List.length_map, List.length_range] at e
        rw [Sm.words_range, ← e]
        exact Sm.heap_set HR1.out k _
      case measure => simp [intOf]; omega
    · obtain rfl : k = 8 := by omega
      clear hlt hk
      go_wp2_with fail
      rw [show ((8 : Nat) : Int) = 8 from rfl]
      go_loopw [6, 7] (fun p i wr => ∃ j : Nat, 8 ≤ j ∧ j ≤ 60 ∧ i = .int .i64 j ∧ p = .int .u32 (Ae.pow2 ((j - 1) / 8) : Nat) ∧ wr.heap[N + 1]? = some (.cells (Sm.rowOf 60 (Ae.sched key (j - 8))) 58 (0, 0)) ∧ Below N w wr) (fun _ i _ => 60 - (intOf i).toNat)
      case atStart => exact ⟨8, by omega, by omega, rfl, rfl, HR1.out, hbk⟩
      case round =>
        clear HR1 HR2 hbk
        obtain ⟨j, hj8, hj, rfl, rfl, hr1, hbk⟩ := hrel
        have HR := Lib.hid hr1
        clear hr1
        have HSW := Lib.hid (HS.out.low hbk hb)
        by_cases hlt : j < 60
        · have hlen : (Ae.sched key (j - 8)).length = j := by rw [Ae.sched_length]; omega
          have hall := Ae.sched_lt key (j - 8)
          have c1 := Sm.cells_of HR.out (j - 1) _ (Sm.rowOf_get (by omega))
          have c8 := Sm.cells_of HR.out (j - 8) _ (Sm.rowOf_get (by omega))
          obtain ⟨old, hold⟩ := Sm.rowOf_some (n := 60) (l := Ae.sched key (j - 8)) j (by omega) hlt
          have hold := Sm.cells_of HR.out j old hold
          have fz := Sm.free_of HR.out j
          have hset := Sm.rowOf_set (n := 60) (l := Ae.sched key (j - 8)) (by omega) (Ae.next (Ae.sched key (j - 8)))
          have hsn : Ae.sched key (j + 1 - 8) = Ae.sched key (j - 8) ++ [Ae.next (Ae.sched key (j - 8))] := by rw [show j + 1 - 8 = (j - 8) + 1 by omega]; rfl
          rw [hlen, ← hsn] at hset
          have HSET := Lib.hid hset
          have hnx : Ae.next (Ae.sched key (j - 8)) = (Ae.sched key (j - 8)).getD (j - 8) 0 ^^^ (if j % 8 = 0 then Ae.subW (Ae.rotl ((Ae.sched key (j - 8)).getD (j - 1) 0) 8) ^^^ Ae.pow2 (j / 8 - 1) * 2 ^ 24 % 4294967296
            else if j % 8 = 4 then Ae.subW ((Ae.sched key (j - 8)).getD (j - 1) 0) else (Ae.sched key (j - 8)).getD (j - 1) 0) := by unfold Ae.next; rw [hlen]
          have HNX := Lib.hid hnx
          have l1 := Sm.getD_lt hall (j - 1)
          have l8 := Sm.getD_lt hall (j - 8)
          clear hlen hall hset hsn hnx
          generalize Ae.next (Ae.sched key (j - 8)) = nx at *
          generalize (Ae.sched key (j - 8)).getD (j - 1) 0 = x at *
          generalize (Ae.sched key (j - 8)).getD (j - 8) 0 = y at *
          have e1 : ((j : Int) - 1).toNat = j - 1 := by omega
          have e8 : ((j : Int) - 8).toNat = j - 8 := by omega
          have v1 : IntKind.i64.wrap ((j : Int) - 1) = (j : Int) - 1 := IntWalk.i64_in _ (by omega)
          have v8 : IntKind.i64.wrap ((j : Int) - 8) = (j : Int) - 8 := IntWalk.i64_in _ (by omega)
          have p1 : 0 ≤ (j : Int) - 1 := by omega
          have p8 : 0 ≤ (j : Int) - 8 := by omega
          have o1 : 1 ≤ (j : Int) := by omega
          have o8 : 8 ≤ (j : Int) := by omega
          have u1 : (j : Int) - 1 < 60 := by omega
          have u8 : (j : Int) - 8 < 60 := by omega
          have u0 : (j : Int) < 60 := by omega
          by_cases hm0 : j % 8 = 0
          · rw [if_pos hm0] at HNX
            have hb0 : ((j : Int) % 8 == 0) = true := by rw [beq_iff_eq]; omega
            have hpq : (j - 1) / 8 = j / 8 - 1 := by omega
            have hpn : (j + 1 - 1) / 8 = (j / 8 - 1) + 1 := by omega
            rw [hpq]
            have hp := Ae.pow2_lt (j / 8 - 1)
            have HPN : Hid (Ae.pow2 ((j + 1 - 1) / 8) = Ae.twice (Ae.pow2 (j / 8 - 1))) := by
              show _ = _
              rw [hpn]; rfl
            generalize Ae.pow2 (j / 8 - 1) = pw at *
            have RL := Lib.hid (rotl32_any x 8 l1 (by decide) (by decide))
            have lr := Ae.rotl_lt (n := 8) l1
            generalize Ae.rotl x 8 = x2 at *
            have OF := Lib.hid (of_any HSW.out x2 lr)
            have ls := Ae.subW_lt x2
            generalize Ae.subW x2 = x3 at *
            have TW := Lib.hid (twice_any pw hp)
            clear hm0 hpq hpn
            go_wp2_with fail
            refine (RL.out _).mono ?_
            rintro e w' ⟨rfl, rfl⟩
            go_wp2_with fail
            refine (OF.out).mono ?_
            rintro e w' ⟨rfl, n, rfl⟩
            go_wp2_with fail
            refine (TW.out _).mono ?_
            rintro e w' ⟨rfl, rfl⟩
            go_wp2_with fail
            go_roundw
            case rel =>
              refine ⟨j + 1, by omega, by omega, by go_num, by rw [HPN.out], ?_, (Sm.below_drewN hbk n).setCell (p := ⟨N + 1, j, none⟩) (by simp) _⟩
              have hv : bits .xor .u32 (y : Int) (bits .xor .u32 (x3 : Int) ((pw : Int) * 16777216 % 4294967296)) = (nx : Int) := by
                rw [show ((pw : Int) * 16777216 % 4294967296) = ((pw * 2 ^ 24 % 4294967296 : Nat) : Int) by omega, Ae.w_xor ls (Nat.mod_lt _ (by decide)), Ae.w_xor l8 (Sm.xor_lt ls (Nat.mod_lt _ (by decide))), HNX.out]
              rw [hv, ← HSET.out]
              exact Sm.heap_set (w := wr.drewN n) HR.out j _
            case measure => simp [intOf]; omega
          · rw [if_neg hm0] at HNX
            have hb0 : ((j : Int) % 8 == 0) = false := by rw [beq_eq_false_iff_ne]; omega
            have hi0 : ¬ (j : Int) % 8 = 0 := by omega
            have hpn : (j + 1 - 1) / 8 = (j - 1) / 8 := by omega
            have HPN : Hid (Ae.pow2 ((j + 1 - 1) / 8) = Ae.pow2 ((j - 1) / 8)) := by
              show _ = _
              rw [hpn]
            generalize Ae.pow2 ((j - 1) / 8) = pw at *
            by_cases hm4 : j % 8 = 4
            · rw [if_pos hm4] at HNX
              have hb4 : ((j : Int) % 8 == 4) = true := by rw [beq_iff_eq]; omega
              have OF := Lib.hid (of_any HSW.out x l1)
              have ls := Ae.subW_lt x
              generalize Ae.subW x = x3 at *
              clear hm0 hm4 hpn
              go_wp2_with fail
              refine (OF.out).mono ?_
              rintro e w' ⟨rfl, n, rfl⟩
              go_wp2_with fail
              go_roundw
              case rel =>
                refine ⟨j + 1, by omega, by omega, by go_num, by rw [HPN.out], ?_, (Sm.below_drewN hbk n).setCell (p := ⟨N + 1, j, none⟩) (by simp) _⟩
                have hv : bits .xor .u32 (y : Int) (x3 : Int) = (nx : Int) := by rw [Ae.w_xor l8 ls, HNX.out]
                rw [hv, ← HSET.out]
                exact Sm.heap_set (w := wr.drewN n) HR.out j _
              case measure => simp [intOf]; omega
            · rw [if_neg hm4] at HNX
              have hb4 : ((j : Int) % 8 == 4) = false := by rw [beq_eq_false_iff_ne]; omega
              have hi4 : ¬ (j : Int) % 8 = 4 := by omega
              clear hm0 hm4 hpn
              go_wp2_with fail
              go_roundw
              case rel =>
                refine ⟨j + 1, by omega, by omega, by go_num, by rw [HPN.out], ?_, hbk.setCell (p := ⟨N + 1, j, none⟩) (by simp) _⟩
                have hv : bits .xor .u32 (y : Int) (x : Int) = (nx : Int) := by rw [Ae.w_xor l8 l1, HNX.out]
                rw [hv, ← HSET.out]
                exact Sm.heap_set HR.out j _
              case measure => simp [intOf]; omega
        · obtain rfl : j = 60 := by omega
          clear hlt hj hj8
          have hr := HR.out
          rw [Sm.rowOf_full (by rw [Ae.sched_length])] at hr
          have hsz : (Sm.nums (Ae.ks key)).toArray.size = 60 := by simp [Sm.nums, Ae.ks_length]
          have hone := Ae.nums_one (Ae.ks key)
          obtain ⟨cs, hcs⟩ : ∃ c, c = (Sm.nums (Ae.ks key)).toArray := ⟨_, rfl⟩
          have hr2 : wr.heap[N + 1]? = some (.cells cs 58 (0, 0)) := by rw [hcs]; exact hr
          rw [← hcs] at hsz hone
          have HR2 := Lib.hid hr2
          have HC := Lib.hid hcs
          clear hcs hr hr2
          go_wp2_with (first | (with_reducible refine wpList_load_row rfl 58 (.tmp 4) rfl (N + 1) rfl 58 cs (0, 0) _ (by exact HR2.out) Try.underlying58 rfl (Ae.infoSched hsz) ?_) | (with_reducible refine wpList_store_row rfl 58 (.tmp 4) (.tmp 69) rfl (N + 1) cs rfl rfl 58 _ (by exact HR2.out) (Ae.infoSched hsz) rfl hone ?_))
          exact bodyPost_ret (v := .agg cs) (results_cell_row rfl _ _ (N + 1) 58 _ (0, 0) _ rfl (setRow_heap _ (N + 1) _ _ _ _ HR2.out) Try.underlying58 rfl (Ae.infoSched hsz)) rfl ⟨by rw [HC.out], by rw [← HN.out]; exact Sm.below_setRow hbk (Nat.le_succ _) _⟩
end Go.Proofs.Ytkannddaihlcdaa
