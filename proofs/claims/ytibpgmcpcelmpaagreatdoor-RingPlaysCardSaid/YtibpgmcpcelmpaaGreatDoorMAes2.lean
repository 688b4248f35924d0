/-
  Texts that belong together, laid into one.
-/
import Derived.Test.YtibpgmcpcelmpaaGreatDoorMAes
import Derived.Test.YtibpgmcpcelmpaaGreatDoorMBase
/-
  What enciphered does: a block's fourteen rounds.
-/
namespace Go.Proofs.YtibpgmcpcelmpaaGreatDoor
open Go.RowKit
namespace Ae
/-- A block, of which the first k words are xored. -/
def part (w b : List Nat) (k : Nat) : List Nat := ((List.range k).map fun i => b.getD i 0 ^^^ w.getD i 0) ++ b.drop k
theorem part_zero (w b : List Nat) : part w b 0 = b := by simp [part]
theorem part_all (w b : List Nat) (h : b.length = 4) : part w b 4 = first w b := by
  unfold part first; rw [List.drop_of_length_le (by omega)]; simp
theorem part_length (w b : List Nat) (k : Nat) (h : b.length = 4) (hk : k ≤ 4) : (part w b k).length = 4 := by simp [part]; omega
theorem part_get (w b : List Nat) (k : Nat) : (part w b k).getD k 0 = b.getD k 0 := by
  rw [List.getD_eq_getElem?_getD, part, List.getElem?_append_right (by simp), List.getElem?_drop, List.getD_eq_getElem?_getD]
  simp
theorem part_set (w b : List Nat) (k : Nat) (h : b.length = 4) (hk : k < 4) : (part w b k).set k (b.getD k 0 ^^^ w.getD k 0) = part w b (k + 1) := by
  unfold part
  have hd : b.drop k = b[k]'(by omega) :: b.drop (k + 1) := List.drop_eq_getElem_cons (by omega)
  rw [List.set_append_right _ _ (by simp), hd, List.range_succ]
  simp only [List.length_map, List.length_range, Nat.sub_self, List.set_cons_zero, List.map_append, List.map_cons, List.map_nil, List.append_assoc, List.singleton_append]
theorem nums_set (l : List Nat) (k x : Nat) : (Sm.nums l).toArray.setIfInBounds k (.int .u32 x) = (Sm.nums (l.set k x)).toArray := by
  apply Array.ext'
  simp [Sm.nums, List.map_set]
theorem nums_cell {w : World} {N k : Nat} {l : List Nat} {t : TypeId} (h : w.heap[N]? = some (.cells (Sm.nums l).toArray t (0, 0))) (hk : k < l.length) : w.cell? ⟨N, k, none⟩ = some (.int .u32 (l.getD k 0 : Nat)) :=
  Sm.cells_of h k _ (by rw [List.getElem?_toArray]; exact Sm.nums_get hk)
theorem nums_four {w : World} {N : Nat} {l : List Nat} {t : TypeId} (h : w.heap[N]? = some (.cells (Sm.nums l).toArray t (0, 0))) (hl : l.length = 4) : FourAt w N l := fun i hi => nums_cell h (by omega)
/-- A row of four words in which a round writes: the first k are these. -/
def mid (f : Nat → Nat) (old : List Nat) (k : Nat) : List Nat := (List.range k).map f ++ old.drop k
theorem mid_zero (f : Nat → Nat) (old : List Nat) : mid f old 0 = old := by simp [mid]
theorem mid_length (f : Nat → Nat) (old : List Nat) (k : Nat) (h : old.length = 4) (hk : k ≤ 4) : (mid f old k).length = 4 := by simp [mid]; omega
theorem mid_set (f : Nat → Nat) (old : List Nat) (k : Nat) (h : old.length = 4) (hk : k < 4) : (mid f old k).set k (f k) = mid f old (k + 1) := by
  unfold mid
  have hd : old.drop k = old[k]'(by omega) :: old.drop (k + 1) := List.drop_eq_getElem_cons (by omega)
  rw [List.set_append_right _ _ (by simp), hd, List.range_succ]
  simp only [List.length_map, List.length_range, Nat.sub_self, List.set_cons_zero, List.map_append, List.map_cons, List.map_nil, List.append_assoc, List.singleton_append]
theorem mid_all (f : Nat → Nat) (old : List Nat) (h : old.length = 4) : mid f old 4 = (List.range 4).map f := by
  unfold mid; rw [List.drop_of_length_le (by omega)]; simp
theorem rowOf_nums (n : Nat) : Sm.rowOf n [] = (Sm.nums (List.replicate n 0)).toArray := by unfold Sm.rowOf; simp
end Ae

set_option maxRecDepth 100000 in
set_option maxHeartbeats 1000000 in
theorem enc_any {w : World} {b : Nat} {key : List UInt8} (hC : Ae.CipAt w b key) (bk : List Nat) (hbk : bk.length = 4) (hblt : ∀ x ∈ bk, x < 4294967296) :
    Calls Tryz.prog 99 #[.pointer (some ⟨b, 0, none⟩), .agg (Sm.nums bk).toArray] w fun e w' => e = .returned (.agg (Sm.nums (Ae.enc (Ae.ks key) bk)).toArray) ∧ Below w.heap.size w w' := by
  have hb := Sm.lt_of hC
  obtain ⟨ck, hck⟩ : ∃ c, c = (Sm.nums bk).toArray := ⟨_, rfl⟩
  obtain ⟨z0, hz0⟩ : ∃ z, z = Sm.rowOf 4 [] := ⟨_, rfl⟩
  have hz1 := (zero_of_info Ae.zeroBlk).1
  rw [← hz0] at hz1
  rw [← hck]
  have g1 : ((w.alloc (.cells ck 170)).alloc (.cells z0 170)).heap[w.heap.size]? = some (.cells (Sm.nums (Ae.part (Ae.ks key) bk 0)).toArray 170 (0, 0)) := by
    rw [Below.heap_alloc _ _ _ (by simp), Ae.part_zero, ← hck]; exact heap_alloc_new w _
  have g2 : ((w.alloc (.cells ck 170)).alloc (.cells z0 170)).heap[w.heap.size + 1]? = some (.cells (Sm.nums (List.replicate 4 0)).toArray 170 (0, 0)) := by
    rw [← Ae.rowOf_nums, ← hz0]; simpa using heap_alloc_new (w.alloc (.cells ck 170)) (.cells z0 170)
  have b2 : Below w.heap.size w ((w.alloc (.cells ck 170)).alloc (.cells z0 170)) := ((Below.refl _ w).alloc (Nat.le_refl _) _).alloc (by simp) _
  have HC := Lib.hid hC
  have HKL := Lib.hid (Ae.ks_lt key)
  have HBLT := Lib.hid hblt
  have HBK := Lib.hid hbk
  clear hblt hbk
  have HKN := Lib.hid (Ae.ks_length key)
  clear hck hz0 hC
  go_enter Tryz.func99, Tryz.ntmps99
  go_upto_region 1 with (fail)
  generalize (w.alloc (.cells ck 170)).alloc (.cells z0 170) = W2 at *
  clear hz1
  obtain ⟨N, hN⟩ : ∃ N, N = w.heap.size := ⟨_, rfl⟩
  rw [← hN] at g1 g2 b2 hb ⊢
  have HN := Lib.hid hN
  clear hN
  have hbN : b ≠ N := by omega
  go_wp2_with fail
  go_loopw [9] (fun i wr => ∃ k : Nat, k ≤ 4 ∧ i = .int .i64 k ∧ wr.heap[N]? = some (.cells (Sm.nums (Ae.part (Ae.ks key) bk k)).toArray 170 (0, 0)) ∧ wr.heap[N + 1]? = some (.cells (Sm.nums (List.replicate 4 0)).toArray 170 (0, 0)) ∧ Below N w wr) (fun i _ => 4 - (intOf i).toNat)
  case atStart => exact ⟨0, by omega, rfl, g1, g2, b2⟩
  case round =>
    clear g1 g2 b2
    obtain ⟨k, hk, rfl, hr1, hr2, hbw⟩ := hrel
    have HR1 := Lib.hid hr1
    have HR2 := Lib.hid hr2
    clear hr1 hr2
    by_cases hlt : k < 4
    · have c0 := Ae.nums_cell HR1.out (k := k) (by rw [Ae.part_length _ _ _ HBK.out hk]; exact hlt)
      rw [Ae.part_get] at c0
      have f0 := Sm.free_of HR1.out k
      have cw := (HC.out.low hbw (by omega)).word k (by omega)
      have hset := Ae.part_set (Ae.ks key) bk k HBK.out hlt
      have HSET := Lib.hid hset
      have lx := Sm.getD_lt HBLT.out k
      have ly := Sm.getD_lt HKL.out k
      have HV := Lib.hid (Ae.w_xor lx ly)
      clear hset
      generalize bk.getD k 0 = x at *
      generalize (Ae.ks key).getD k 0 = y at *
      have q1 : (k : Int) < 60 := by omega
      have q4 : (k : Int) < 4 := by omega
      go_wp2_with fail
      go_region
      all_goals go_wp2
      go_roundw
      case rel =>
        refine ⟨k + 1, by omega, by go_num, ?_, (Below.heap_setCell _ _ _ _ (by simp)).trans HR2.out, (hbw.setCell (p := ⟨N, k, none⟩) (by simp) _).drew⟩
        rw [← HSET.out, ← Ae.nums_set, ← HV.out]
        exact Sm.heap_set HR1.out k _
      case measure => simp [intOf]; omega
    · obtain rfl : k = 4 := by omega
      clear hlt hk
      have hr := HR1.out
      rw [Ae.part_all _ _ HBK.out] at hr
      have HR3 : Hid (wr.heap[N]? = some (.cells (Sm.nums (Ae.rounds (Ae.ks key) bk 0)).toArray 170 (0, 0))) := hr
      clear hr HR1
      go_wp2_with fail
      rw [show ((4 : Nat) : Int) = 4 from rfl]
      go_loopw [6] (fun i wr => ∃ r : Nat, 1 ≤ r ∧ r ≤ 14 ∧ i = .int .i64 r ∧ wr.heap[N]? = some (.cells (Sm.nums (Ae.rounds (Ae.ks key) bk (r - 1))).toArray 170 (0, 0)) ∧ (∃ old : List Nat, old.length = 4 ∧ wr.heap[N + 1]? = some (.cells (Sm.nums old).toArray 170 (0, 0))) ∧ Below N w wr) (fun i _ => 14 - (intOf i).toNat)
      case atStart => exact ⟨1, by omega, by omega, rfl, by rw [Nat.sub_self]; exact HR3.out, ⟨_, List.length_replicate .., HR2.out⟩, hbw⟩
      case round =>
        clear HR3 HR2 hbw
        obtain ⟨r, hr1, hr2, rfl, hra, ⟨old, hold, hrb⟩, hbw⟩ := hrel
        have HA := Lib.hid hra
        have HB := Lib.hid hrb
        clear hra hrb
        have HBl := Lib.hid (Ae.rounds_length (Ae.ks key) bk (r - 1))
        have HBlt := Lib.hid (Ae.rounds_lt HKL.out HBLT.out (r - 1))
        have HOLD := Lib.hid hold
        clear hold
        by_cases hlt : r < 14
        · have HRN : Hid (Ae.rounds (Ae.ks key) bk (r + 1 - 1) = (List.range 4).map fun i => Ae.mixed (Ae.col (Ae.rounds (Ae.ks key) bk (r - 1)) i) ^^^ (Ae.ks key).getD (4 * r + i) 0) := by
            show _ = _
            rw [show r + 1 - 1 = (r - 1) + 1 by omega, Ae.rounds, Ae.round, show r - 1 + 1 = r by omega]
          generalize Ae.rounds (Ae.ks key) bk (r - 1) = B at *
          obtain ⟨f, hf⟩ : ∃ f : Nat → Nat, f = fun i => Ae.mixed (Ae.col B i) ^^^ (Ae.ks key).getD (4 * r + i) 0 := ⟨_, rfl⟩
          have HF := Lib.hid hf
          clear hf
          have hri : (r : Int) < 14 := by omega
          go_wp2_with fail
          obtain ⟨w1, hw1⟩ : ∃ w1, w1 = wr := ⟨_, rfl⟩
          rw [← hw1] at HA HB hbw ⊢
          clear hw1
          go_loopw [28] (fun i wr => ∃ k : Nat, k ≤ 4 ∧ i = .int .i64 k ∧ wr.heap[N]? = some (.cells (Sm.nums B).toArray 170 (0, 0)) ∧ wr.heap[N + 1]? = some (.cells (Sm.nums (Ae.mid f old k)).toArray 170 (0, 0)) ∧ Below N w wr) (fun i _ => 4 - (intOf i).toNat)
          case atStart => exact ⟨0, by omega, rfl, HA.out, by rw [Ae.mid_zero]; exact HB.out, hbw⟩
          case round =>
            clear HA HB hbw
            obtain ⟨k, hk, rfl, hra, hrb, hbw⟩ := hrel
            have HA := Lib.hid hra
            have HB := Lib.hid hrb
            clear hra hrb
            by_cases hlk : k < 4
            · have hml := Ae.mid_length f old k HOLD.out hk
              have ho := Ae.nums_cell HB.out (k := k) (by rw [hml]; exact hlk)
              have fz := Sm.free_of HB.out k
              have hset := Ae.mid_set f old k HOLD.out hlk
              have HSET := Lib.hid hset
              have hCw := HC.out.low hbw (by omega)
              have cw := hCw.word (4 * r + k) (by omega)
              have ly := Sm.getD_lt HKL.out (4 * r + k)
              have COL : Hid (Calls Tryz.prog 125 #[.pointer (some ⟨b, 0, none⟩), .pointer (some ⟨N, 0, none⟩), .int .i64 k] wr.drew fun e w' => e = .returned (.int .u32 (Ae.col B k : Nat)) ∧ ∃ n, w' = wr.drew.drewN n) := column_any (w := wr.drew) (fun i hi => hCw.box i hi) (Ae.nums_four HA.out HBl.out) HBlt.out k hlk
              have lc := Ae.col_lt B k
              have MX := Lib.hid (mixed_any (Ae.col B k) lc)
              have lm := Ae.mixed_lt lc
              have HV : Hid (bits .xor .u32 (Ae.mixed (Ae.col B k) : Int) ((Ae.ks key).getD (4 * r + k) 0 : Nat) = (f k : Nat)) := by
                show _ = _
                rw [Ae.w_xor lm ly, HF.out]
              clear hset hml hCw lm lc
              generalize (Ae.mid f old k).getD k 0 = oldk at *
              generalize Ae.mixed (Ae.col B k) = xm at *
              generalize Ae.col B k = xc at *
              generalize (Ae.ks key).getD (4 * r + k) 0 = y at *
              obtain ⟨q, hq⟩ : ∃ q, q = 256 + (4 * r + k) := ⟨_, rfl⟩
              rw [← hq] at cw
              have CW : Hid (wr.cell? ⟨b, q, none⟩ = some (.int .u32 (y : Nat))) := cw
              have HO : Hid (wr.cell? ⟨N + 1, k, none⟩ = some (.int .u32 (oldk : Nat))) := ho
              have FZ : Hid (wr.frozen? ⟨N + 1, k, none⟩ = false) := fz
              clear cw ho fz
              have e1 : 256 + (4 * (r : Int) + k).toNat = q := by omega
              have v1 : IntKind.i64.wrap (4 * (r : Int)) = 4 * (r : Int) := IntWalk.i64_in _ (by omega)
              have v2 : IntKind.i64.wrap (4 * (r : Int) + k) = 4 * (r : Int) + k := IntWalk.i64_in _ (by omega)
              have u1 : 4 * (r : Int) + k < 60 := by omega
              have p1 : 0 ≤ 4 * (r : Int) + k := by omega
              have q4 : (k : Int) < 4 := by omega
              have HQ := Lib.hid hq
              clear hq
              go_wp2_with fail
              have CW1 : Hid (wr.drew.cell? ⟨b, q, none⟩ = some (.int .u32 (y : Nat))) := CW.out
              have HNE : Hid ((⟨N + 1, k, none⟩ : Addr) ≠ ⟨b, q, none⟩) := by show (⟨N + 1, k, none⟩ : Addr) ≠ ⟨b, q, none⟩; intro e; have := congrArg Addr.block e; simp at this; omega
              go_region_held3 (fun w' => w'.cell? ⟨b, q, none⟩ = some (.int .u32 (y : Nat)))
                (first | (with_reducible exact CW1.out) | (with_reducible exact CW5.out) | exact (World.cell?_setCell_other _ _ _ _ HNE.out).trans CW5.out | exact (World.cell?_setCell_other _ _ _ _ (Ne.symm HNE.out)).trans CW5.out)
                ((first
                  | (go_at_call 125; refine (COL.out).mono ?_; rintro e w5 ⟨rfl, n5, hw5⟩; have CW5 : Hid (w5.cell? ⟨b, q, none⟩ = some (.int .u32 (y : Nat))) := (by rw [hw5]; exact CW.out); have ho : w5.cell? ⟨N + 1, k, none⟩ = some (.int .u32 (oldk : Nat)) := (by rw [hw5]; exact HO.out); have fz : w5.frozen? ⟨N + 1, k, none⟩ = false := (by rw [hw5]; exact FZ.out); have HA5 : Hid (w5.heap[N]? = some (.cells (Sm.nums B).toArray 170 (0, 0))) := (by rw [hw5]; exact HA.out); have HB5 : Hid (w5.heap[N + 1]? = some (.cells (Sm.nums (Ae.mid f old k)).toArray 170 (0, 0))) := (by rw [hw5]; exact HB.out); have hb5 : Below N w w5 := (by rw [hw5]; exact Sm.below_drewN hbw.drew n5); clear hw5)
                  | (go_at_call 124; refine (MX.out _).mono ?_; rintro e w6 ⟨rfl, rfl⟩)))
              go_wp2
              go_roundw
              case rel =>
                refine ⟨k + 1, by omega, by go_num, (Below.heap_setCell _ _ _ _ (by simp)).trans HA5.out, ?_, hb5.setCell (p := ⟨N + 1, k, none⟩) (by simp) _⟩
                rw [← HSET.out, ← Ae.nums_set, HV.out]
                exact Sm.heap_set HB5.out k _
              case measure => simp [intOf]; omega
            · obtain rfl : k = 4 := by omega
              clear hlk hk
              have hrow : wr.heap[N + 1]? = some (.cells (Sm.nums (Ae.rounds (Ae.ks key) bk (r + 1 - 1))).toArray 170 (0, 0)) := by
                have h := HB.out
                rw [Ae.mid_all _ _ HOLD.out] at h
                rw [HRN.out, ← HF.out]; exact h
              have hRl := Ae.rounds_length (Ae.ks key) bk (r + 1 - 1)
              obtain ⟨R, hR⟩ : ∃ R, R = Ae.rounds (Ae.ks key) bk (r + 1 - 1) := ⟨_, rfl⟩
              rw [← hR] at hrow hRl
              have HRE := Lib.hid hR
              clear hR
              have hsz : (Sm.nums R).toArray.size = 4 := by simp [Sm.nums, hRl]
              have hsB : (Sm.nums B).toArray.size = (Sm.nums R).toArray.size := by rw [hsz]; simp [Sm.nums, HBl.out]
              have hone := Ae.nums_one R
              obtain ⟨cB, hcB⟩ : ∃ c, c = (Sm.nums B).toArray := ⟨_, rfl⟩
              have HA2 : Hid (wr.heap[N]? = some (.cells cB 170 (0, 0))) := by rw [hcB]; exact HA.out
              rw [← hcB] at hsB
              obtain ⟨cs, hcs⟩ : ∃ c, c = (Sm.nums R).toArray := ⟨_, rfl⟩
              rw [← hcs] at hsz hone hsB hrow
              have HR4 := Lib.hid hrow
              have HCS := Lib.hid hcs
              have HRL := Lib.hid hRl
              clear hcB hcs hrow hRl HRN HF
              go_wp2_with (first | (with_reducible refine wpList_load_row rfl 170 (.tmp 4) rfl (N + 1) rfl 170 cs (0, 0) _ (by exact HR4.out) Tryz.underlying170 rfl (Ae.infoBlk hsz) ?_) | (with_reducible refine wpList_store_row rfl 170 (.tmp 3) (.tmp 50) rfl N cs rfl rfl 170 _ (by exact HA2.out) (Ae.infoBlk hsz) hsB hone ?_))
              go_roundw
              case rel =>
                refine ⟨r + 1, by omega, by omega, by go_num, ?_, ⟨R, HRL.out, ?_⟩, Sm.below_setRow hbw (Nat.le_refl _) _⟩
                · rw [← HRE.out, ← HCS.out]; exact setRow_heap _ N _ _ _ _ HA2.out
                · rw [← HCS.out]; exact (setRow_other _ _ _ _ (by omega)).trans HR4.out
              case measure => simp [intOf]; omega
        · obtain rfl : r = 14 := by omega
          clear hlt hr1 hr2
          have hri : ¬ ((14 : Nat) : Int) < 14 := by omega
          go_wp2_with fail
          have HEN : Hid (Ae.enc (Ae.ks key) bk = (List.range 4).map fun i => Ae.col (Ae.rounds (Ae.ks key) bk (14 - 1)) i ^^^ (Ae.ks key).getD (56 + i) 0) := rfl
          generalize Ae.rounds (Ae.ks key) bk (14 - 1) = B at *
          obtain ⟨f, hf⟩ : ∃ f : Nat → Nat, f = fun i => Ae.col B i ^^^ (Ae.ks key).getD (56 + i) 0 := ⟨_, rfl⟩
          have HF := Lib.hid hf
          clear hf
          obtain ⟨w1, hw1⟩ : ∃ w1, w1 = wr := ⟨_, rfl⟩
          rw [← hw1] at HA HB hbw ⊢
          clear hw1
          go_loopw [51] (fun i wr => ∃ k : Nat, k ≤ 4 ∧ i = .int .i64 k ∧ wr.heap[N]? = some (.cells (Sm.nums B).toArray 170 (0, 0)) ∧ wr.heap[N + 1]? = some (.cells (Sm.nums (Ae.mid f old k)).toArray 170 (0, 0)) ∧ Below N w wr) (fun i _ => 4 - (intOf i).toNat)
          case atStart => exact ⟨0, by omega, rfl, HA.out, by rw [Ae.mid_zero]; exact HB.out, hbw⟩
          case round =>
            clear HA HB hbw
            obtain ⟨k, hk, rfl, hra, hrb, hbw⟩ := hrel
            have HA := Lib.hid hra
            have HB := Lib.hid hrb
            clear hra hrb
            by_cases hlk : k < 4
            · have hml := Ae.mid_length f old k HOLD.out hk
              have ho := Ae.nums_cell HB.out (k := k) (by rw [hml]; exact hlk)
              have fz := Sm.free_of HB.out k
              have hset := Ae.mid_set f old k HOLD.out hlk
              have HSET := Lib.hid hset
              have hCw := HC.out.low hbw (by omega)
              have cw := hCw.word (56 + k) (by omega)
              have ly := Sm.getD_lt HKL.out (56 + k)
              have COL : Hid (Calls Tryz.prog 125 #[.pointer (some ⟨b, 0, none⟩), .pointer (some ⟨N, 0, none⟩), .int .i64 k] wr.drew fun e w' => e = .returned (.int .u32 (Ae.col B k : Nat)) ∧ ∃ n, w' = wr.drew.drewN n) := column_any (w := wr.drew) (fun i hi => hCw.box i hi) (Ae.nums_four HA.out HBl.out) HBlt.out k hlk
              have lc := Ae.col_lt B k
              have HV : Hid (bits .xor .u32 (Ae.col B k : Int) ((Ae.ks key).getD (56 + k) 0 : Nat) = (f k : Nat)) := by
                show _ = _
                rw [Ae.w_xor lc ly, HF.out]
              clear hset hml hCw lc
              generalize (Ae.mid f old k).getD k 0 = oldk at *
              generalize Ae.col B k = xc at *
              generalize (Ae.ks key).getD (56 + k) 0 = y at *
              obtain ⟨q, hq⟩ : ∃ q, q = 256 + (56 + k) := ⟨_, rfl⟩
              rw [← hq] at cw
              have CW : Hid (wr.cell? ⟨b, q, none⟩ = some (.int .u32 (y : Nat))) := cw
              have HO : Hid (wr.cell? ⟨N + 1, k, none⟩ = some (.int .u32 (oldk : Nat))) := ho
              have FZ : Hid (wr.frozen? ⟨N + 1, k, none⟩ = false) := fz
              clear cw ho fz
              have e1 : 256 + (56 + (k : Int)).toNat = q := by omega
              have v2 : IntKind.i64.wrap (56 + (k : Int)) = 56 + (k : Int) := IntWalk.i64_in _ (by omega)
              have u1 : 56 + (k : Int) < 60 := by omega
              have p1 : 0 ≤ 56 + (k : Int) := by omega
              have q4 : (k : Int) < 4 := by omega
              have HQ := Lib.hid hq
              clear hq
              have CW1 : Hid (wr.drew.cell? ⟨b, q, none⟩ = some (.int .u32 (y : Nat))) := CW.out
              have HNE : Hid ((⟨N + 1, k, none⟩ : Addr) ≠ ⟨b, q, none⟩) := by show (⟨N + 1, k, none⟩ : Addr) ≠ ⟨b, q, none⟩; intro e; have := congrArg Addr.block e; simp at this; omega
              go_wp2_with fail
              go_region_held3 (fun w' => w'.cell? ⟨b, q, none⟩ = some (.int .u32 (y : Nat)))
                (first | (with_reducible exact CW1.out) | (with_reducible exact CW5.out) | exact (World.cell?_setCell_other _ _ _ _ HNE.out).trans CW5.out | exact (World.cell?_setCell_other _ _ _ _ (Ne.symm HNE.out)).trans CW5.out)
                ((first
                  | (go_at_call 125; refine (COL.out).mono ?_; rintro e w5 ⟨rfl, n5, hw5⟩; have CW5 : Hid (w5.cell? ⟨b, q, none⟩ = some (.int .u32 (y : Nat))) := (by rw [hw5]; exact CW.out); have ho : w5.cell? ⟨N + 1, k, none⟩ = some (.int .u32 (oldk : Nat)) := (by rw [hw5]; exact HO.out); have fz : w5.frozen? ⟨N + 1, k, none⟩ = false := (by rw [hw5]; exact FZ.out); have HA5 : Hid (w5.heap[N]? = some (.cells (Sm.nums B).toArray 170 (0, 0))) := (by rw [hw5]; exact HA.out); have HB5 : Hid (w5.heap[N + 1]? = some (.cells (Sm.nums (Ae.mid f old k)).toArray 170 (0, 0))) := (by rw [hw5]; exact HB.out); have hb5 : Below N w w5 := (by rw [hw5]; exact Sm.below_drewN hbw.drew n5); clear hw5)))
              go_wp2
              go_roundw
              case rel =>
                refine ⟨k + 1, by omega, by go_num, (Below.heap_setCell _ _ _ _ (by simp)).trans HA5.out, ?_, hb5.setCell (p := ⟨N + 1, k, none⟩) (by simp) _⟩
                rw [← HSET.out, ← Ae.nums_set, HV.out]
                exact Sm.heap_set HB5.out k _
              case measure => simp [intOf]; omega
            · obtain rfl : k = 4 := by omega
              clear hlk hk
              have hrow : wr.heap[N + 1]? = some (.cells (Sm.nums (Ae.enc (Ae.ks key) bk)).toArray 170 (0, 0)) := by
                have h := HB.out
                rw [Ae.mid_all _ _ HOLD.out] at h
                rw [HEN.out, ← HF.out]; exact h
              have hsz : (Sm.nums (Ae.enc (Ae.ks key) bk)).toArray.size = 4 := by simp [Sm.nums, Ae.enc_length]
              have hone := Ae.nums_one (Ae.enc (Ae.ks key) bk)
              obtain ⟨cs, hcs⟩ : ∃ c, c = (Sm.nums (Ae.enc (Ae.ks key) bk)).toArray := ⟨_, rfl⟩
              rw [← hcs] at hsz hone hrow
              have HR4 := Lib.hid hrow
              have HCS := Lib.hid hcs
              clear hcs hrow HEN HF
              go_wp2_with (first | (with_reducible refine wpList_load_row rfl 170 (.tmp 4) rfl (N + 1) rfl 170 cs (0, 0) _ (by exact HR4.out) Tryz.underlying170 rfl (Ae.infoBlk hsz) ?_) | (with_reducible refine wpList_store_row rfl 170 (.tmp 4) (.tmp 70) rfl (N + 1) cs rfl rfl 170 _ (by exact HR4.out) (Ae.infoBlk hsz) rfl hone ?_))
              exact bodyPost_ret (v := .agg cs) (results_cell_row rfl _ _ (N + 1) 170 _ (0, 0) _ rfl (setRow_heap _ (N + 1) _ _ _ _ HR4.out) Tryz.underlying170 rfl (Ae.infoBlk hsz)) rfl ⟨by rw [HCS.out], by rw [← HN.out]; exact Sm.below_setRow hbw (Nat.le_succ _) _⟩
end Go.Proofs.YtibpgmcpcelmpaaGreatDoor

/-
  The standard's example, reckoned.
-/
namespace Go.Proofs.YtibpgmcpcelmpaaGreatDoor.Ae
def exKey : List UInt8 := (List.range 32).map UInt8.ofNat
def exBlk : List UInt8 := (List.range 16).map fun i => UInt8.ofNat (17 * i)
theorem ex_block : block exKey exBlk = [142, 162, 183, 202, 81, 103, 69, 191, 234, 252, 73, 144, 75, 73, 96, 137] := by decide +kernel
theorem noughts_block : block (List.replicate 32 0) (List.replicate 16 0) = [220, 149, 192, 120, 162, 64, 137, 137, 173, 72, 162, 20, 146, 132, 32, 135] := by decide +kernel
end Go.Proofs.YtibpgmcpcelmpaaGreatDoor.Ae

/-
  What the law's example and awake do.
-/
namespace Go.Proofs.YtibpgmcpcelmpaaGreatDoor
open Go.RowKit
namespace Ae
theorem zeroKey : (Tryz.prog.info? 74).map (fun i => (i.zero, i.size)) = some (some (.agg (Sm.rowB 32 [])), 32) := by kernel_rfl
theorem exKey_length : exKey.length = 32 := by simp [exKey]
theorem exBlk_length : exBlk.length = 16 := by simp [exBlk]
theorem results_two_rows {P : Program} {fn : Func} {p p' : Tmp} {ty ty' : TypeId} (h : fn.results = #[.cell p ty, .cell p' ty']) (tmps : Array Value) (w : World) (g g' : Nat) (t t' : TypeId) (cs cs' : Array Value) (fr fr' : Nat × Nat) (d d' : TypeDesc)
    (hp : tmps.getD p undef = .pointer (some ⟨g, 0, none⟩)) (hg : w.heap[g]? = some (.cells cs t fr))
    (hu : P.underlying ty = some d) (hd : (match d with | .struct _ | .array _ _ => true | _ => false) = true) (hi : (P.info? ty).map (·.size) = some cs.size)
    (hp2 : tmps.getD p' undef = .pointer (some ⟨g', 0, none⟩)) (hg2 : w.heap[g']? = some (.cells cs' t' fr'))
    (hu2 : P.underlying ty' = some d') (hd2 : (match d' with | .struct _ | .array _ _ => true | _ => false) = true) (hi2 : (P.info? ty').map (·.size) = some cs'.size) :
    (results fn tmps).run P w = .ok (.tuple #[.agg cs, .agg cs']) w := by
  have hp' : tmps[p]?.getD undef = .pointer (some ⟨g, 0, none⟩) := by simpa using hp
  have hp2' : tmps[p']?.getD undef = .pointer (some ⟨g', 0, none⟩) := by simpa using hp2
  simp [results, h, hp', hp2', asAddr, run_loadVar_row w g t ty cs fr d hg hu hd hi, run_loadVar_row w g' t' ty' cs' fr' d' hg2 hu2 hd2 hi2]
end Ae

end Go.Proofs.YtibpgmcpcelmpaaGreatDoor

/-
  Streams as plain functions.
-/
namespace Go.Proofs.YtibpgmcpcelmpaaGreatDoor.Ae
/-- The columns of a nonce and a count. -/
def ctrW (nonce : List UInt8) (j : Nat) : List Nat := [Sm.word nonce 0, Sm.word nonce 1, Sm.word nonce 2, j % 4294967296]
theorem ctrW_length (nonce : List UInt8) (j : Nat) : (ctrW nonce j).length = 4 := rfl
theorem ctrW_lt (nonce : List UInt8) (j : Nat) : ∀ x ∈ ctrW nonce j, x < 4294967296 := by
  intro x hx
  simp only [ctrW, List.mem_cons, List.not_mem_nil, or_false] at hx
  rcases hx with rfl | rfl | rfl | rfl
  · exact Sm.word_lt _ _
  · exact Sm.word_lt _ _
  · exact Sm.word_lt _ _
  · exact Nat.mod_lt _ (by decide)
/-- The stream's block j. -/
def pad (key nonce : List UInt8) (j : Nat) : List UInt8 := bytes (enc (ks key) (ctrW nonce j))
theorem pad_length (key nonce : List UInt8) (j : Nat) : (pad key nonce j).length = 16 := bytes_length _
def sbyte (key nonce : List UInt8) (i : Nat) : UInt8 := (pad key nonce (i / 16)).getD (i % 16) 0
def strF (key nonce t : List UInt8) (i : Nat) : UInt8 := t.getD i 0 ^^^ sbyte key nonce i
def stream (key nonce t : List UInt8) : List UInt8 := (List.range t.length).map (strF key nonce t)
theorem stream_length (key nonce t : List UInt8) : (stream key nonce t).length = t.length := by simp [stream]
theorem stream_get (key nonce t : List UInt8) (i : Nat) (h : i < t.length) : (stream key nonce t).getD i 0 = t.getD i 0 ^^^ sbyte key nonce i := by
  simp [stream, List.getD_eq_getElem?_getD, h, strF]
/-- A text, of which the first k bytes are streamed. -/
def part8 (key nonce t : List UInt8) (k : Nat) : List UInt8 := (List.range k).map (strF key nonce t) ++ t.drop k
theorem part8_zero (key nonce t : List UInt8) : part8 key nonce t 0 = t := by simp [part8]
theorem part8_all (key nonce t : List UInt8) : part8 key nonce t t.length = stream key nonce t := by
  unfold part8 stream; rw [List.drop_of_length_le (Nat.le_refl _)]; simp
theorem part8_length (key nonce t : List UInt8) (k : Nat) (h : k ≤ t.length) : (part8 key nonce t k).length = t.length := by simp [part8]; omega
theorem part8_get (key nonce t : List UInt8) (k : Nat) : (part8 key nonce t k).getD k 0 = t.getD k 0 := by
  rw [List.getD_eq_getElem?_getD, part8, List.getElem?_append_right (by simp), List.getElem?_drop, List.getD_eq_getElem?_getD]
  simp
theorem part8_set (key nonce t : List UInt8) (k : Nat) (h : k < t.length) : (part8 key nonce t k).set k (t.getD k 0 ^^^ sbyte key nonce k) = part8 key nonce t (k + 1) := by
  unfold part8
  have hd : t.drop k = t[k] :: t.drop (k + 1) := List.drop_eq_getElem_cons h
  rw [List.set_append_right _ _ (by simp), hd, List.range_succ]
  simp only [List.length_map, List.length_range, Nat.sub_self, List.set_cons_zero, List.map_append, List.map_cons, List.map_nil, List.append_assoc, List.singleton_append]
  rfl
/-- The block that is xored behind k bytes. -/
def padAt (key nonce : List UInt8) (k : Nat) : List UInt8 := if k = 0 then List.replicate 16 0 else pad key nonce ((k - 1) / 16)
theorem padAt_length (key nonce : List UInt8) (k : Nat) : (padAt key nonce k).length = 16 := by
  unfold padAt; split
  · simp
  · exact pad_length _ _ _
theorem padAt_new (key nonce : List UInt8) (k : Nat) (h : k % 16 = 0) : padAt key nonce (k + 1) = pad key nonce (k / 16) := by
  unfold padAt; rw [if_neg (by omega), Nat.add_sub_cancel]
theorem padAt_old (key nonce : List UInt8) (k : Nat) (h : k % 16 ≠ 0) : padAt key nonce (k + 1) = padAt key nonce k := by
  unfold padAt; rw [if_neg (by omega), if_neg (by omega), show (k + 1 - 1) / 16 = (k - 1) / 16 by omega]
theorem padAt_get (key nonce : List UInt8) (k : Nat) : (padAt key nonce (k + 1)).getD (k % 16) 0 = sbyte key nonce k := by
  unfold padAt sbyte; rw [if_neg (by omega), Nat.add_sub_cancel]
theorem ctr_cols (nonce : List UInt8) (h : nonce.length = 12) : cols (nonce ++ List.replicate 4 0) = ctrW nonce 0 := by
  have hw : ∀ i, i < 3 → Sm.word (nonce ++ List.replicate 4 0) i = Sm.word nonce i := fun i hi => by
    unfold Sm.word
    simp only [List.getD_eq_getElem?_getD]
    rw [List.getElem?_append_left (by omega), List.getElem?_append_left (by omega), List.getElem?_append_left (by omega), List.getElem?_append_left (by omega)]
  have h3 : Sm.word (nonce ++ List.replicate 4 0) 3 = 0 := by
    unfold Sm.word
    simp only [List.getD_eq_getElem?_getD]
    rw [List.getElem?_append_right (by omega), List.getElem?_append_right (by omega), List.getElem?_append_right (by omega), List.getElem?_append_right (by omega)]
    simp only [h]
    rfl
  show [Sm.word _ 0, Sm.word _ 1, Sm.word _ 2, Sm.word _ 3] = _
  rw [hw 0 (by decide), hw 1 (by decide), hw 2 (by decide), h3]
  rfl
/-- Streamed twice it is the text. -/
theorem stream_back (key nonce t : List UInt8) : stream key nonce (stream key nonce t) = t := by
  apply List.ext_getElem (by rw [stream_length, stream_length])
  intro i h1 h2
  have e := stream_get key nonce (stream key nonce t) i (by rw [stream_length]; exact h2)
  rw [stream_get key nonce t i h2, UInt8.xor_assoc, UInt8.xor_self, UInt8.xor_zero] at e
  simpa [List.getD_eq_getElem?_getD, h1, h2] using e
theorem stream_take (key nonce t : List UInt8) (n : Nat) : stream key nonce (t.take n) = (stream key nonce t).take n := by
  apply List.ext_getElem (by simp [stream_length])
  intro i h1 h2
  have hi : i < t.length := by simp [stream_length] at h1; omega
  have hn : i < n := by simp [stream_length] at h1; omega
  simp [stream, strF, List.getD_eq_getElem?_getD, hi, hn]
theorem stream_nil (key nonce : List UInt8) : stream key nonce [] = [] := rfl
end Go.Proofs.YtibpgmcpcelmpaaGreatDoor.Ae

/-
  What Stream tells.
-/
namespace Go.Proofs.YtibpgmcpcelmpaaGreatDoor
open Go.RowKit
namespace Ae
theorem info12 {c : Array Value} (h : c.size = 12) : (Tryz.prog.info? 125).map (·.size) = some c.size := by rw [h]; kernel_rfl
theorem u8_one : (Tryz.prog.info? 5).map (·.size) = some 1 := by kernel_rfl
/-- What copy makes of a head. -/
theorem copy_head {w : World} {N M : Nat} {nonce : List UInt8} {t : TypeId} (ty : TypeId) (hn : nonce.length = 12) (h : w.heap[N]? = some (.cells (Sm.rowB 16 []) t (0, 0))) (hs : w.heap[M]? = some (.cells (Lib.byteCells nonce).toArray 125 (0, 0))) :
    (Builtin.copy_ #[85, 85] ty #[.slice (some ⟨N, 0, none⟩) 16 16, .slice (some ⟨M, 0, none⟩) 12 12]).run Tryz.prog w = .ok (.int .i64 12) (w.setRow N (Lib.byteCells (nonce ++ List.replicate 4 0)).toArray) := by
  have r := run_copy_row (P := Tryz.prog) w 85 85 ty 5 N 0 16 16 ⟨M, 0, none⟩ 12 12 _ t (Lib.byteCells nonce) Tryz.underlying85 u8_one h (by rw [Lib.byteCells_length, hn]; rfl)
    (fun j v hv => by rw [Addr.add_mid, Nat.zero_add]; exact Sm.cells_of hs j v (by rw [List.getElem?_toArray]; exact hv)) (by rw [Lib.byteCells_length, hn, Sm.rowB_size (by simp)]; decide) (Lib.byteCells_one _)
  have e1 : (Sm.rowB 16 []).toList = Lib.byteCells (List.replicate 16 0) := by unfold Sm.rowB; rfl
  rw [e1, List.take_zero, List.nil_append, Nat.zero_add, Lib.byteCells_length, hn] at r
  rw [Lib.byteCells_append]
  have e2 : (Lib.byteCells (List.replicate 16 0)).drop 12 = Lib.byteCells (List.replicate 4 0) := by
    rw [Lib.byteCells, Lib.byteCells, List.map_replicate, List.map_replicate, List.drop_replicate]
  rw [e2] at r
  exact r
/-- A row of bytes that came of a conversion. -/
def RowX (w : World) (G cap lo hi : Nat) (xs : List UInt8) : Prop := ∃ cur : Array Value, w.heap[G]? = some (.cells cur 5 (lo, hi)) ∧ cur.size = cap ∧ xs.length ≤ cap ∧ ∀ j, j < xs.length → cur[j]? = some (.int .u8 (xs.getD j 0).toNat)
theorem RowX.lt {w : World} {G cap lo hi : Nat} {xs : List UInt8} (h : RowX w G cap lo hi xs) : G < w.heap.size := by
  obtain ⟨cur, h1, _⟩ := h
  exact Sm.lt_of h1
theorem RowX.cell {w : World} {G cap lo hi : Nat} {xs : List UInt8} (h : RowX w G cap lo hi xs) (j : Nat) (hj : j < xs.length) : w.cell? ⟨G, j, none⟩ = some (.int .u8 ((xs.getD j 0).toNat : Int)) := by
  obtain ⟨cur, h1, _, _, h4⟩ := h
  simp only [World.cell?, h1]
  exact h4 j hj
theorem RowX.free {w : World} {G cap lo hi : Nat} {xs : List UInt8} (h : RowX w G cap lo hi xs) (hf : hi = 0 ∨ cap ≤ lo) (j : Nat) (hj : j < xs.length) : w.frozen? ⟨G, j, none⟩ = false := by
  obtain ⟨cur, h1, _, h3, _⟩ := h
  simp only [World.frozen?, h1]
  rcases hf with rfl | h
  · simp
  · simp; omega
theorem RowX.block {w w' : World} {G cap lo hi : Nat} {xs : List UInt8} (h : RowX w G cap lo hi xs) (k : w'.heap[G]? = w.heap[G]?) : RowX w' G cap lo hi xs := by
  obtain ⟨cur, h1, h2⟩ := h
  exact ⟨cur, k.trans h1, h2⟩
theorem RowX.set {w : World} {G cap lo hi : Nat} {xs : List UInt8} (h : RowX w G cap lo hi xs) (k : Nat) (hk : k < xs.length) (x : UInt8) : RowX (w.setCell ⟨G, k, none⟩ (.int .u8 (x.toNat : Int))) G cap lo hi (xs.set k x) := by
  obtain ⟨cur, h1, h2, h3, h4⟩ := h
  refine ⟨_, Sm.heap_set h1 k _, by rw [Array.size_setIfInBounds]; exact h2, by rw [List.length_set]; exact h3, fun j hj => ?_⟩
  rw [List.length_set] at hj
  by_cases e : j = k
  · subst e
    rw [Array.getElem?_setIfInBounds_self_of_lt (by omega)]
    simp [List.getD_eq_getElem?_getD, hj]
  · rw [Array.getElem?_setIfInBounds_ne (by omega), h4 j hj]
    simp [List.getD_eq_getElem?_getD, List.getElem?_set_ne (Ne.symm e)]
theorem RowX.conv {w : World} {G cap lo hi : Nat} {xs : List UInt8} (h : RowX w G cap lo hi xs) (n c : Nat) (hn : xs.length = n) : (convert 85 9 (.slice (some ⟨G, 0, none⟩) n c)).run Tryz.prog w = .ok (.string ⟨xs.toArray⟩) w := by
  have e := run_convert_bytes_back (P := Tryz.prog) w 85 9 5 ⟨G, 0, none⟩ c xs Tryz.underlying85 Tryz.underlying5 Tryz.underlying9 (fun j hj => by
    have := h.cell j hj
    rw [List.getD_eq_getElem?_getD, List.getElem?_eq_getElem hj] at this
    rw [Addr.add_mid, Nat.zero_add]
    exact this)
  rw [hn] at e
  exact e
theorem ctr_set (nonce : List UInt8) (j : Nat) : (Sm.nums (ctrW nonce j)).toArray.setIfInBounds 3 (.int .u32 ((((j % 4294967296 : Nat) : Int) + 1) % 4294967296)) = (Sm.nums (ctrW nonce (j + 1))).toArray := by
  rw [show (((j % 4294967296 : Nat) : Int) + 1) % 4294967296 = (((j + 1) % 4294967296 : Nat) : Int) by omega, nums_set]
  rfl
end Ae

set_option maxRecDepth 100000 in
set_option maxHeartbeats 4000000 in
theorem stream_any (w : World) (key nonce : List UInt8) (hkey : key.length = 32) (hnon : nonce.length = 12) (s : ByteArray) (hs : s.size ≤ 1099511627776) :
    Calls Tryz.prog 68 #[.agg (Lib.byteCells key).toArray, .agg (Lib.byteCells nonce).toArray, .string s] w fun e w' => e = .returned (.string ⟨(Ae.stream key nonce s.data.toList).toArray⟩) ∧ Below w.heap.size w w' := by
  obtain ⟨ck, hck⟩ : ∃ c, c = (Lib.byteCells key).toArray := ⟨_, rfl⟩
  obtain ⟨cn, hcn⟩ : ∃ c, c = (Lib.byteCells nonce).toArray := ⟨_, rfl⟩
  rw [← hck, ← hcn]
  have hckn : ck.size = 32 := by rw [hck, Sm.bytes_size, hkey]
  have NC : Hid (∀ wx : World, Calls Tryz.prog 97 #[.agg ck] wx fun e w' => ∃ b, e = .returned (.pointer (some ⟨b, 0, none⟩)) ∧ wx.heap.size ≤ b ∧ Ae.CipAt w' b key ∧ Below wx.heap.size wx w') := by
    intro wx; rw [hck]; exact newCipher_any wx key hkey
  have HCN := Lib.hid hcn
  obtain ⟨z2, hz2⟩ : ∃ z, z = Sm.rowB 16 [] := ⟨_, rfl⟩
  obtain ⟨z4, hz4⟩ : ∃ z, z = Sm.rowOf 4 [] := ⟨_, rfl⟩
  have hk2 := (zero_of_info Ae.zero16).1
  have hk4 := (zero_of_info Ae.zeroBlk).1
  rw [← hz2] at hk2
  rw [← hz4] at hk4
  have HZ2 := Lib.hid hz2
  have HZ4 := Lib.hid hz4
  have g0 : ((w.alloc (.cells ck 74)).alloc (.cells cn 125)).heap[w.heap.size]? = some (.cells ck 74 (0, 0)) := by
    rw [Below.heap_alloc _ _ _ (by simp)]; exact heap_alloc_new w _
  have g1 : ((w.alloc (.cells ck 74)).alloc (.cells cn 125)).heap[w.heap.size + 1]? = some (.cells cn 125 (0, 0)) := by
    simpa using heap_alloc_new (w.alloc (.cells ck 74)) (.cells cn 125)
  have b1 : Below w.heap.size w ((w.alloc (.cells ck 74)).alloc (.cells cn 125)) := ((Below.refl _ w).alloc (Nat.le_refl _) _).alloc (by simp) _
  have HI1 := Ae.infoKey hckn
  have G0 := Lib.hid g0
  have HNON := Lib.hid hnon
  clear hck hcn hz2 hz4 hckn g0 hnon
  go_enter Tryz.func68, Tryz.ntmps68
  go_wp2_with (with_reducible refine wpList_load_row rfl 74 (.tmp 3) rfl w.heap.size rfl 74 ck (0, 0) _ (by exact G0.out) Tryz.underlying74 rfl HI1 ?_)
  refine (NC.out _).mono ?_
  rintro e w2 ⟨bc, rfl, hbc, hcip, k2⟩
  have hbl := Sm.lt_of hcip
  have s1 : ((w.alloc (.cells ck 74)).alloc (.cells cn 125)).heap.size = w.heap.size + 1 + 1 := by simp
  rw [s1] at hbc
  have b2 := Sm.low_low b1 (Nat.le_refl _) k2
  have g2 := (k2.block (w.heap.size + 1) (by rw [s1]; omega)).trans g1
  have HCIP := Lib.hid hcip
  clear hcip k2 b1 g1 s1 G0 NC
  go_upto_region 3 with (fail)
  have l2 := Nat.lt_of_lt_of_le hbl (Nat.le_refl w2.heap.size)
  have l1 := Sm.lt_of g2
  have h3 : ((w2.alloc (.cells z2 168)).alloc (.cells z2 168)).heap[w2.heap.size]? = some (.cells (Sm.rowB 16 []) 168 (0, 0)) := by
    rw [Below.heap_alloc _ _ _ (by simp), ← HZ2.out]; exact heap_alloc_new w2 _
  have p3 : ((w2.alloc (.cells z2 168)).alloc (.cells z2 168)).heap[w2.heap.size + 1]? = some (.cells (Sm.rowB 16 []) 168 (0, 0)) := by
    rw [← HZ2.out]; simpa using heap_alloc_new (w2.alloc (.cells z2 168)) (.cells z2 168)
  have k3 : Below w2.heap.size w2 ((w2.alloc (.cells z2 168)).alloc (.cells z2 168)) := ((Below.refl _ w2).alloc (Nat.le_refl _) _).alloc (by simp) _
  have z3 : ((w2.alloc (.cells z2 168)).alloc (.cells z2 168)).heap.size = w2.heap.size + 2 := by simp
  have g3 := (k3.block (w.heap.size + 1) l1).trans g2
  have b3 := Sm.low_low b2 (Nat.le_refl _) k3
  have HC3 := Lib.hid (HCIP.out.low k3 hbl)
  clear k3 g2 HCIP
  generalize (w2.alloc (.cells z2 168)).alloc (.cells z2 168) = W3 at *
  obtain ⟨M, hM⟩ : ∃ M, M = w2.heap.size := ⟨_, rfl⟩
  rw [← hM] at h3 p3 z3 l1 l2 ⊢
  have hMw : w.heap.size ≤ M := by rw [hM]; exact b2.size
  clear hM b2
  have hcp := Ae.copy_head (w := W3.drew) 3 HNON.out h3 (by rw [← HCN.out]; exact g3)
  have h4 : (W3.drew.setRow M (Lib.byteCells (nonce ++ List.replicate 4 0)).toArray).heap[M]? = some (.cells (Lib.byteCells (nonce ++ List.replicate 4 0)).toArray 168 (0, 0)) := setRow_heap _ M _ _ _ _ h3
  have p4 := (setRow_other W3.drew M (M + 1) (Lib.byteCells (nonce ++ List.replicate 4 0)).toArray (by omega)).trans p3
  have c4 : Hid (Ae.CipAt (W3.drew.setRow M (Lib.byteCells (nonce ++ List.replicate 4 0)).toArray) bc key) := (setRow_other W3.drew M bc _ (by omega)).trans HC3.out
  have b4 := Sm.below_setRow b3.drew hMw (Lib.byteCells (nonce ++ List.replicate 4 0)).toArray
  have s4 : (W3.drew.setRow M (Lib.byteCells (nonce ++ List.replicate 4 0)).toArray).heap.size = M + 2 := by rw [size_setRow]; exact z3
  have hhl : (nonce ++ List.replicate 4 0).length = 16 := by rw [List.length_append, HNON.out]; rfl
  have BO : Hid (∀ wx : World, Calls Tryz.prog 98 #[.agg (Lib.byteCells (nonce ++ List.replicate 4 0)).toArray] wx fun e w' => e = .returned (.agg (Sm.nums (Ae.ctrW nonce 0)).toArray) ∧ Below wx.heap.size wx w') := by
    intro wx; rw [← Ae.ctr_cols nonce HNON.out]; exact blkOf_any wx _ hhl
  have hhs : (Lib.byteCells (nonce ++ List.replicate 4 0)).toArray.size = 16 := by rw [Sm.bytes_size, hhl]
  obtain ⟨ch, hch⟩ : ∃ c, c = (Lib.byteCells (nonce ++ List.replicate 4 0)).toArray := ⟨_, rfl⟩
  rw [← hch] at hcp h4 p4 c4 b4 s4 BO hhs
  have HI2 := Ae.info16 hhs
  clear hch hhl hhs HC3 b3 g3 h3 p3
  go_region
  clear hcp
  generalize W3.drew.setRow M ch = W4 at *
  have H4 := Lib.hid h4
  clear h4
  obtain ⟨cw, hcw⟩ : ∃ c, c = (Sm.nums (Ae.ctrW nonce 0)).toArray := ⟨_, rfl⟩
  rw [← hcw] at BO
  have hcws : cw.size = 4 := by rw [hcw]; rfl
  have hcwo : cw.all (·.oneCell') = true := by rw [hcw]; exact Ae.nums_one _
  have HCW := Lib.hid hcw
  clear hcw
  go_wp2_with (with_reducible refine wpList_load_row rfl 168 (.tmp 8) rfl M rfl 168 ch (0, 0) _ (by exact H4.out) Tryz.underlying168 rfl HI2 ?_)
  refine (BO.out _).mono ?_
  rintro e w5 ⟨rfl, k5⟩
  have p5 := (k5.block (M + 1) (by omega)).trans p4
  have c5 : Hid (Ae.CipAt w5 bc key) := c4.out.low k5 (by omega)
  have b5 := Sm.low_low b4 (Nat.le_refl _) k5
  have s5 : M + 2 ≤ w5.heap.size := by have := k5.size; omega
  clear k5 p4 c4 b4 H4 BO s4
  have hst : (storeCells ⟨w5.heap.size, 0, none⟩ cw.toList).run Tryz.prog (w5.alloc (.cells z4 170)) = .ok () (w5.alloc (.cells cw 170)) :=
    run_storeCells_new (P := Tryz.prog) w5 170 z4 cw (Ae.infoBlk hcws) (by rw [hcws, HZ4.out]; exact Sm.rowOf_size (by simp)) hcwo
  have g6 := heap_alloc_new w5 (.cells cw 170)
  have p6 := (Below.heap_alloc w5 (.cells cw 170) (M + 1) (by omega)).trans p5
  have c6 : Hid (Ae.CipAt (w5.alloc (.cells cw 170)) bc key) := (Below.heap_alloc w5 (.cells cw 170) bc (by omega)).trans c5.out
  have b6 := b5.alloc b5.size (.cells cw 170)
  have s6 : (w5.alloc (.cells cw 170)).heap.size = w5.heap.size + 1 := by simp
  obtain ⟨hcv, hrow, k7⟩ := Sm.conv_rowB (w5.alloc (.cells cw 170)) s
  have hcv2 := hcv
  rw [s6] at hcv2
  have HCV := Lib.hid hcv
  have HROW := Lib.hid hrow
  have K7 := Lib.hid k7
  clear hcv hrow k7
  go_upto_region 6 with (fail)
  clear hst hcv2 HCV
  have g7 := (K7.out.block w5.heap.size (by omega)).trans g6
  have p7 := (K7.out.block (M + 1) (by omega)).trans p6
  have c7 : Hid (Ae.CipAt (Lib.bytesWorld (w5.alloc (.cells cw 170)) 5 s) bc key) := (K7.out.block bc (by omega)).trans c6.out
  have b7 := Sm.low_low b6 (Nat.le_refl _) K7.out
  have hrow := HROW.out
  generalize Lib.bytesWorld (w5.alloc (.cells cw 170)) 5 s = W7 at *
  obtain ⟨cap, hcap⟩ : ∃ c, c = grownCap (w5.alloc (.cells cw 170)) s.size 0 5 := ⟨_, rfl⟩
  rw [← hcap, s6] at hrow
  rw [← hcap]
  obtain ⟨g', cap', cur, lo, hi, hv, -, hheap, hle, hcs, hfr, hcell⟩ := hrow
  simp only [Value.slice.injEq, Option.some.injEq, Addr.mk.injEq, and_true] at hv
  obtain ⟨rfl, -, rfl⟩ := hv
  obtain ⟨Q, hQ⟩ : ∃ Q, Q = w5.heap.size := ⟨_, rfl⟩
  rw [← hQ] at g7 hheap s5 ⊢
  have hw5 : w.heap.size ≤ Q := by rw [hQ]; exact b5.size
  have g7' : W7.heap[Q]? = some (.cells (Sm.nums (Ae.ctrW nonce ((0 + 15) / 16))).toArray 170 (0, 0)) := by rw [g7, HCW.out]
  have p7' : W7.heap[M + 1]? = some (.cells (Lib.byteCells (Ae.padAt key nonce 0)).toArray 168 (0, 0)) := by rw [p7]; rfl
  have hX : Ae.RowX W7 (Q + 1) cap lo hi (Ae.part8 key nonce s.data.toList 0) := by
    rw [Ae.part8_zero]; exact ⟨cur, hheap, hcs, hle, hcell⟩
  have HX0 := Lib.hid hX
  have HG := Lib.hid g7'
  have HP := Lib.hid p7'
  have HB := Lib.hid b7
  have HF := Lib.hid hfr
  have hsz : s.data.toList.length = s.size := rfl
  have HSZ := Lib.hid hsz
  have hkl := Lib.hid (Ae.ks_lt key)
  clear hQ hcap HROW K7 g6 p6 c6 b6 s6 g7 p7 b7 hheap hcs hfr hcell hle hX g7' p7' hsz b5 c5 p5 HCW hcws hcwo
  go_wp2_with fail
  go_loopw [24] (fun i wr => ∃ k : Nat, k ≤ s.size ∧ i = .int .i64 k ∧ Ae.RowX wr (Q + 1) cap lo hi (Ae.part8 key nonce s.data.toList k) ∧ wr.heap[Q]? = some (.cells (Sm.nums (Ae.ctrW nonce ((k + 15) / 16))).toArray 170 (0, 0)) ∧ wr.heap[M + 1]? = some (.cells (Lib.byteCells (Ae.padAt key nonce k)).toArray 168 (0, 0)) ∧ Ae.CipAt wr bc key ∧ Below w.heap.size w wr) (fun i _ => s.size - (intOf i).toNat)
  case atStart => exact ⟨0, by omega, rfl, HX0.out, HG.out, HP.out, c7.out, HB.out⟩
  case round =>
    clear HX0 HG HP c7 HB
    obtain ⟨k, hk, rfl, hx, hg, hp, hc, hbw⟩ := hrel
    have HXR := Lib.hid hx
    have HGR := Lib.hid hg
    have HPR := Lib.hid hp
    have HCR := Lib.hid hc
    clear hx hg hp hc
    by_cases hlt : k < s.size
    · have q1 : (k : Int) < s.size := by omega
      by_cases hm : k % 16 = 0
      · have hb0 : ((k : Int) % 16 == 0) = true := by rw [beq_iff_eq]; omega
        have hkd : (k + 15) / 16 = k / 16 := by omega
        have hkd2 : (k + 1 + 15) / 16 = k / 16 + 1 := by omega
        have hg := HGR.out
        rw [hkd] at hg
        have EN : Hid (∀ wx : World, Ae.CipAt wx bc key → Calls Tryz.prog 99 #[.pointer (some ⟨bc, 0, none⟩), .agg (Sm.nums (Ae.ctrW nonce (k / 16))).toArray] wx fun e w' => e = .returned (.agg (Sm.nums (Ae.enc (Ae.ks key) (Ae.ctrW nonce (k / 16)))).toArray) ∧ Below wx.heap.size wx w') := fun wx h => enc_any h _ (Ae.ctrW_length _ _) (Ae.ctrW_lt _ _)
        have BY : Hid (∀ wx : World, Calls Tryz.prog 100 #[.agg (Sm.nums (Ae.enc (Ae.ks key) (Ae.ctrW nonce (k / 16)))).toArray] wx fun e w' => e = .returned (.agg (Lib.byteCells (Ae.padAt key nonce (k + 1))).toArray) ∧ Below wx.heap.size wx w') := fun wx => by
          rw [Ae.padAt_new _ _ _ hm]
          exact bytes_any wx _ (Ae.enc_length _ _) (Ae.enc_lt hkl.out)
        have hcs : (Sm.nums (Ae.ctrW nonce (k / 16))).toArray.size = 4 := rfl
        have hps : (Lib.byteCells (Ae.padAt key nonce (k + 1))).toArray.size = 16 := by rw [Sm.bytes_size, Ae.padAt_length]
        have hps0 : (Lib.byteCells (Ae.padAt key nonce k)).toArray.size = 16 := by rw [Sm.bytes_size, Ae.padAt_length]
        have hpo := Sm.bytes_one (Ae.padAt key nonce (k + 1))
        have hct := Ae.ctr_set nonce (k / 16)
        have hc3 : (Sm.nums (Ae.ctrW nonce (k / 16))).toArray[3]? = some (.int .u32 ((k / 16 % 4294967296 : Nat) : Int)) := rfl
        obtain ⟨cg, hcg⟩ : ∃ c, c = (Sm.nums (Ae.ctrW nonce (k / 16))).toArray := ⟨_, rfl⟩
        obtain ⟨ce, hce⟩ : ∃ c, c = (Sm.nums (Ae.enc (Ae.ks key) (Ae.ctrW nonce (k / 16)))).toArray := ⟨_, rfl⟩
        obtain ⟨cp, hcp⟩ : ∃ c, c = (Lib.byteCells (Ae.padAt key nonce (k + 1))).toArray := ⟨_, rfl⟩
        obtain ⟨co, hco⟩ : ∃ c, c = (Lib.byteCells (Ae.padAt key nonce k)).toArray := ⟨_, rfl⟩
        rw [← hcg, ← hce] at EN
        rw [← hce, ← hcp] at BY
        rw [← hcg] at hg hcs hct hc3
        obtain ⟨ct, hctd⟩ : ∃ c, c = k / 16 % 4294967296 := ⟨_, rfl⟩
        rw [← hctd] at hct hc3
        have hctl : (ct : Int) < 4294967296 := by omega
        rw [← hcp] at hps hpo
        rw [← hco] at hps0
        have hpr := HPR.out
        rw [← hco] at hpr
        have HGQ := Lib.hid hg
        have HPQ := Lib.hid hpr
        have HIG := Ae.infoBlk hcs
        have HIP := Ae.info16 hps
        have hzp : co.size = cp.size := by rw [hps0, hps]
        have HCP := Lib.hid hcp
        have lQ := Sm.lt_of hg
        have lP := Sm.lt_of hpr
        have lC := Sm.lt_of HCR.out
        have lX := HXR.out.lt
        have HCT3 := Lib.hid hct
        have HC3 := Lib.hid hc3
        clear hcg hce hcp hco hg hpr hps hps0 hcs hct hc3 hctd
        go_wp2_with (with_reducible refine wpList_load_row rfl 170 (.tmp 10) rfl Q rfl 170 cg (0, 0) _ (by exact HGQ.out) Tryz.underlying170 rfl HIG ?_)
        refine (EN.out _ HCR.out).mono ?_
        rintro e w8 ⟨rfl, k8⟩
        go_wp2_with fail
        refine (BY.out _).mono ?_
        rintro e w9 ⟨rfl, k9⟩
        have k89 := Sm.low_low k8 (Nat.le_refl _) k9
        have H9P := Lib.hid ((k89.block (M + 1) lP).trans HPQ.out)
        have H9G := Lib.hid ((k89.block Q lQ).trans HGQ.out)
        have H9C : Hid (Ae.CipAt w9 bc key) := (k89.block bc lC).trans HCR.out
        have H9X := Lib.hid (HXR.out.block (k89.block (Q + 1) lX))
        have b9 := Sm.low_low hbw (Nat.le_refl _) k89
        clear k8 k9 k89
        have g10 := (setRow_other w9 (M + 1) Q cp (by omega)).trans H9G.out
        have c10 := Sm.cells_of g10 3 _ HC3.out
        have z10 := Sm.free_of g10 3
        have P10 := Lib.hid ((Below.heap_setCell (w9.setRow (M + 1) cp) ⟨Q, 3, none⟩ (.int .u32 (((ct : Int) + 1) % 4294967296)) (M + 1) (by simp; omega)).trans (setRow_heap w9 (M + 1) _ cp _ _ H9P.out))
        have G10 := Lib.hid (Sm.heap_set g10 3 (.int .u32 (((ct : Int) + 1) % 4294967296)))
        have C10 : Hid (Ae.CipAt ((w9.setRow (M + 1) cp).setCell ⟨Q, 3, none⟩ (.int .u32 (((ct : Int) + 1) % 4294967296))) bc key) := (Below.heap_setCell _ ⟨Q, 3, none⟩ _ bc (by simp; omega)).trans ((setRow_other w9 (M + 1) bc cp (by omega)).trans H9C.out)
        have X10 := Lib.hid (H9X.out.block ((Below.heap_setCell (w9.setRow (M + 1) cp) ⟨Q, 3, none⟩ (.int .u32 (((ct : Int) + 1) % 4294967296)) (Q + 1) (by simp)).trans (setRow_other w9 (M + 1) (Q + 1) cp (by omega))))
        have b10 := (Sm.below_setRow (N := M + 1) b9 (by omega) cp).setCell (p := ⟨Q, 3, none⟩) hw5 (.int .u32 (((ct : Int) + 1) % 4294967296))
        clear g10 b9
        go_upto_region 12 with (with_reducible refine wpList_store_row rfl 168 (.tmp 9) (.tmp 33) rfl (M + 1) cp rfl rfl 168 _ (by exact H9P.out) HIP hzp hpo ?_)
        clear c10 z10
        generalize (w9.setRow (M + 1) cp).setCell ⟨Q, 3, none⟩ (.int .u32 (((ct : Int) + 1) % 4294967296)) = W11 at *
        have HXT := X10
        have HPT : Hid (W11.heap[M + 1]? = some (.cells (Lib.byteCells (Ae.padAt key nonce (k + 1))).toArray 168 (0, 0))) := by show _ = _; rw [← HCP.out]; exact P10.out
        have HGT : Hid (W11.heap[Q]? = some (.cells (Sm.nums (Ae.ctrW nonce ((k + 1 + 15) / 16))).toArray 170 (0, 0))) := by show _ = _; rw [hkd2, ← HCT3.out]; exact G10.out
        have HCT := C10
        have HBT := b10
        clear X10 P10 G10 C10 b10 HCP HCT3 hkd hkd2 hm EN BY
        have f0 := (HXT.out).cell k (by rw [Ae.part8_length _ _ _ _ (by rw [HSZ.out]; omega), HSZ.out]; exact hlt)
        rw [Ae.part8_get] at f0
        have f1 := (HXT.out).free HF.out k (by rw [Ae.part8_length _ _ _ _ (by rw [HSZ.out]; omega), HSZ.out]; exact hlt)
        have f2 := Sm.row_cell HPT.out (k % 16) (by rw [Ae.padAt_length]; omega)
        rw [Ae.padAt_get] at f2
        have hset := Ae.part8_set key nonce s.data.toList k (by rw [HSZ.out]; exact hlt)
        have HST := Lib.hid hset
        have hxo := Sm.w_xor8 (s.data.toList.getD k 0) (Ae.sbyte key nonce k)
        have y1 := byte_fits (s.data.toList.getD k 0)
        have y2 := byte_fits (Ae.sbyte key nonce k)
        have HXS := Lib.hid (HXT.out.set k (by rw [Ae.part8_length _ _ _ _ (by rw [HSZ.out]; omega), HSZ.out]; exact hlt) (s.data.toList.getD k 0 ^^^ Ae.sbyte key nonce k))
        clear hset
        generalize s.data.toList.getD k 0 = x at *
        generalize Ae.sbyte key nonce k = y at *
        go_wp2_with fail
        go_region
        all_goals go_wp2
        go_roundw
        case rel =>
          refine ⟨k + 1, by omega, by go_num, ?_, ?_, ?_, ?_, ?_⟩
          · rw [← HST.out]; exact HXS.out
          · exact (Below.heap_setCell _ _ _ _ (by simp <;> omega)).trans HGT.out
          · exact (Below.heap_setCell _ _ _ _ (by simp <;> omega)).trans HPT.out
          · exact (Below.heap_setCell _ _ _ _ (by simp <;> omega)).trans HCT.out
          · exact (HBT.setCell (p := ⟨Q + 1, k, none⟩) (by show w.heap.size ≤ Q + 1; omega) _).drew
        case measure => simp [intOf]; omega
      · have hb0 : ((k : Int) % 16 == 0) = false := by rw [beq_eq_false_iff_ne]; omega
        have hi0 : ¬ (k : Int) % 16 = 0 := by omega
        have HXT := HXR
        have HPT : Hid (wr.heap[M + 1]? = some (.cells (Lib.byteCells (Ae.padAt key nonce (k + 1))).toArray 168 (0, 0))) := by show _ = _; rw [Ae.padAt_old _ _ _ hm]; exact HPR.out
        have HGT : Hid (wr.heap[Q]? = some (.cells (Sm.nums (Ae.ctrW nonce ((k + 1 + 15) / 16))).toArray 170 (0, 0))) := by show _ = _; rw [show (k + 1 + 15) / 16 = (k + 15) / 16 by omega]; exact HGR.out
        have HCT := HCR
        have HBT := hbw
        clear HXR HPR HGR HCR hbw hm
        have f0 := (HXT.out).cell k (by rw [Ae.part8_length _ _ _ _ (by rw [HSZ.out]; omega), HSZ.out]; exact hlt)
        rw [Ae.part8_get] at f0
        have f1 := (HXT.out).free HF.out k (by rw [Ae.part8_length _ _ _ _ (by rw [HSZ.out]; omega), HSZ.out]; exact hlt)
        have f2 := Sm.row_cell HPT.out (k % 16) (by rw [Ae.padAt_length]; omega)
        rw [Ae.padAt_get] at f2
        have hset := Ae.part8_set key nonce s.data.toList k (by rw [HSZ.out]; exact hlt)
        have HST := Lib.hid hset
        have hxo := Sm.w_xor8 (s.data.toList.getD k 0) (Ae.sbyte key nonce k)
        have y1 := byte_fits (s.data.toList.getD k 0)
        have y2 := byte_fits (Ae.sbyte key nonce k)
        have HXS := Lib.hid (HXT.out.set k (by rw [Ae.part8_length _ _ _ _ (by rw [HSZ.out]; omega), HSZ.out]; exact hlt) (s.data.toList.getD k 0 ^^^ Ae.sbyte key nonce k))
        clear hset
        generalize s.data.toList.getD k 0 = x at *
        generalize Ae.sbyte key nonce k = y at *
        go_wp2_with fail
        go_region
        all_goals go_wp2
        go_roundw
        case rel =>
          refine ⟨k + 1, by omega, by go_num, ?_, ?_, ?_, ?_, ?_⟩
          · rw [← HST.out]; exact HXS.out
          · exact (Below.heap_setCell _ _ _ _ (by simp <;> omega)).trans HGT.out
          · exact (Below.heap_setCell _ _ _ _ (by simp <;> omega)).trans HPT.out
          · exact (Below.heap_setCell _ _ _ _ (by simp <;> omega)).trans HCT.out
          · exact (HBT.setCell (p := ⟨Q + 1, k, none⟩) (by show w.heap.size ≤ Q + 1; omega) _).drew
        case measure => simp [intOf]; omega
    · obtain rfl : k = s.size := by omega
      have q1 : ¬ (s.size : Int) < s.size := by omega
      have hx := HXR.out
      rw [show Ae.part8 key nonce s.data.toList s.size = Ae.stream key nonce s.data.toList from Ae.part8_all _ _ _] at hx
      have hcv := hx.conv s.size cap (by rw [Ae.stream_length]; rfl)
      clear hlt hk hx HXR HPR HGR HCR
      go_wp2
      go_ret
      exact ⟨rfl, hbw⟩
end Go.Proofs.YtibpgmcpcelmpaaGreatDoor
