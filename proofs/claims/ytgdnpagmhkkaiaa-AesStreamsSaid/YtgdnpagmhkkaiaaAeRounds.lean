/-
  What enciphered does: a block's fourteen rounds.
-/
import Derived.Test.YtgdnpagmhkkaiaaMAes
namespace Go.Proofs.Ytgdnpagmhkkaiaa
open Go.RowKit
namespace Ae
/-- A block, of which the first k words are xored. -/
def part (w b : List Nat) (k : Nat) : List Nat := ((List.range k).map fun i => b.getD i 0 ^^^ w.getD i 0) ++ b.drop k
theorem part_zero (w b : List Nat) : part w b 0 = b := by simp [part]
theorem part_all (w b : List Nat) (h : b.length = 4) : part w b 4 = first w b := by
  unfold part first; rw [List.drop_of_length_le (by omega)]; simp
theorem part_length (w b : List Nat) (k : Nat) (h : b.length = 4) (hk : k ≤ 4) : (part w b k).length = 4 := by simp [part]; omega
theorem part_get (w b : List Nat) (k : Nat) : (part w b k).getD k 0 = b.getD k 0 := by
  rw [List.getD_eq_getElem?_getD, part, List.getElem?_append_right (by simp), List.getElem?_drop, List.getD_eq_getElem?_getD]
  simp
theorem part_set (w b : List Nat) (k : Nat) (h : b.length = 4) (hk : k < 4) : (part w b k).set k (b.getD k 0 ^^^ w.getD k 0) = part w b (k + 1) := by
  unfold part
  have hd : b.drop k = b[k]'(by omega) :: b.drop (k + 1) := List.drop_eq_getElem_cons (by omega)
  rw [List.set_append_right _ _ (by simp), hd, List.range_succ]
  simp only [List.length_map, List.length_range, Nat.sub_self, List.set_cons_zero, List.map_append, List.map_cons, List.map_nil, List.append_assoc, List.singleton_append]
theorem nums_set (l : List Nat) (k x : Nat) : (Sm.nums l).toArray.setIfInBounds k (.int .u32 x) = (Sm.nums (l.set k x)).toArray := by
  apply Array.ext'
  simp [Sm.nums, List.map_set]
theorem nums_cell {w : World} {N k : Nat} {l : List Nat} {t : TypeId} (h : w.heap[N]? = some (.cells (Sm.nums l).toArray t (0, 0))) (hk : k < l.length) : w.cell? ⟨N, k, none⟩ = some (.int .u32 (l.getD k 0 : Nat)) :=
  Sm.cells_of h k _ (by rw [List.getElem?_toArray]; exact Sm.nums_get hk)
theorem nums_four {w : World} {N : Nat} {l : List Nat} {t : TypeId} (h : w.heap[N]? = some (.cells (Sm.nums l).toArray t (0, 0))) (hl : l.length = 4) : FourAt w N l := fun i hi => nums_cell h (by omega)
/-- A row of four words in which a round writes: the first k are these. -/
def mid (f : Nat → Nat) (old : List Nat) (k : Nat) : List Nat := (List.range k).map f ++ old.drop k
theorem mid_zero (f : Nat → Nat) (old : List Nat) : mid f old 0 = old := by simp [mid]
theorem mid_length (f : Nat → Nat) (old : List Nat) (k : Nat) (h : old.length = 4) (hk : k ≤ 4) : (mid f old k).length = 4 := by simp [mid]; omega
theorem mid_set (f : Nat → Nat) (old : List Nat) (k : Nat) (h : old.length = 4) (hk : k < 4) : (mid f old k).set k (f k) = mid f old (k + 1) := by
  unfold mid
  have hd : old.drop k = old[k]'(by omega) :: old.drop (k + 1) := List.drop_eq_getElem_cons (by omega)
  rw [List.set_append_right _ _ (by simp), hd, List.range_succ]
  simp only [List.length_map, List.length_range, Nat.sub_self, List.set_cons_zero, List.map_append, List.map_cons, List.map_nil, List.append_assoc, List.singleton_append]
theorem mid_all (f : Nat → Nat) (old : List Nat) (h : old.length = 4) : mid f old 4 = (List.range 4).map f := by
  unfold mid; rw [List.drop_of_length_le (by omega)]; simp
theorem rowOf_nums (n : Nat) : Sm.rowOf n [] = (Sm.nums (List.replicate n 0)).toArray := by unfold Sm.rowOf; simp
end Ae

set_option maxRecDepth 100000 in
set_option maxHeartbeats 1000000 in
theorem enc_any {w : World} {b : Nat} {key : List UInt8} (hC : Ae.CipAt w b key) (bk : List Nat) (hbk : bk.length = 4) (hblt : ∀ x ∈ bk, x < 4294967296) :
    Calls Try.prog 11 #[.pointer (some ⟨b, 0, none⟩), .agg (Sm.nums bk).toArray] w fun e w' => e = .returned (.agg (Sm.nums (Ae.enc (Ae.ks key) bk)).toArray) ∧ Below w.heap.size w w' := by
  have hb := Sm.lt_of hC
  obtain ⟨ck, hck⟩ : ∃ c, c = (Sm.nums bk).toArray := ⟨_, rfl⟩
  obtain ⟨z0, hz0⟩ : ∃ z, z = Sm.rowOf 4 [] := ⟨_, rfl⟩
  have hz1 := (zero_of_info Ae.zeroBlk).1
  rw [← hz0] at hz1
  rw [← hck]
  have g1 : ((w.alloc (.cells ck 38)).alloc (.cells z0 38)).heap[w.heap.size]? = some (.cells (Sm.nums (Ae.part (Ae.ks key) bk 0)).toArray 38 (0, 0)) := by
    rw [Below.heap_alloc _ _ _ (by simp), Ae.part_zero, ← hck]; exact heap_alloc_new w _
  have g2 : ((w.alloc (.cells ck 38)).alloc (.cells z0 38)).heap[w.heap.size + 1]? = some (.cells (Sm.nums (List.replicate 4 0)).toArray 38 (0, 0)) := by
    rw [← Ae.rowOf_nums, ← hz0]; simpa using heap_alloc_new (w.alloc (.cells ck 38)) (.cells z0 38)
  have b2 : Below w.heap.size w ((w.alloc (.cells ck 38)).alloc (.cells z0 38)) := ((Below.refl _ w).alloc (Nat.le_refl _) _).alloc (by simp) _
  have HC := Lib.hid hC
  have HKL := Lib.hid (Ae.ks_lt key)
  have HBLT := Lib.hid hblt
  have HBK := Lib.hid hbk
  clear hblt hbk
  have HKN := Lib.hid (Ae.ks_length key)
  clear hck hz0 hC
  go_enter Try.func11, Try.ntmps11
  go_upto_region 1 with (fail)
  generalize (w.alloc (.cells ck 38)).alloc (.cells z0 38) = W2 at *
  clear hz1
  obtain ⟨N, hN⟩ : ∃ N, N = w.heap.size := ⟨_, rfl⟩
  rw [← hN] at g1 g2 b2 hb ⊢
  have HN := Lib.hid hN
  clear hN
  have hbN : b ≠ N := by omega
  go_wp2_with fail
  go_loopw [9] (fun i wr => ∃ k : Nat, k ≤ 4 ∧ i = .int .i64 k ∧ wr.heap[N]? = some (.cells (Sm.nums (Ae.part (Ae.ks key) bk k)).toArray 38 (0, 0)) ∧ wr.heap[N + 1]? = some (.cells (Sm.nums (List.replicate 4 0)).toArray 38 (0, 0)) ∧ Below N w wr) (fun i _ => 4 - (intOf i).toNat)
  case atStart => exact ⟨0, by omega, rfl, g1, g2, b2⟩
  case round =>
    clear g1 g2 b2
    obtain ⟨k, hk, rfl, hr1, hr2, hbw⟩ := hrel
    have HR1 := Lib.hid hr1
    have HR2 := Lib.hid hr2
    clear hr1 hr2
    by_cases hlt : k < 4
    · have c0 := Ae.nums_cell HR1.out (k := k) (by rw [Ae.part_length _ _ _ HBK.out hk]; exact hlt)
      rw [Ae.part_get] at c0
      have f0 := Sm.free_of HR1.out k
      have cw := (HC.out.low hbw (by omega)).word k (by omega)
      have hset := Ae.part_set (Ae.ks key) bk k HBK.out hlt
      have HSET := Lib.hid hset
      have lx := Sm.getD_lt HBLT.out k
      have ly := Sm.getD_lt HKL.out k
      have HV := Lib.hid (Ae.w_xor lx ly)
      clear hset
      generalize bk.getD k 0 = x at *
      generalize (Ae.ks key).getD k 0 = y at *
      have q1 : (k : Int) < 60 := by omega
      have q4 : (k : Int) < 4 := by omega
      go_wp2_with fail
      go_region
      all_goals go_wp2
      go_roundw
      case rel =>
        refine ⟨k + 1, by omega, by go_num, ?_, (Below.heap_setCell _ _ _ _ (by simp)).trans HR2.out, (hbw.setCell (p := ⟨N, k, none⟩) (by simp) _).drew⟩
        rw [← HSET.out, ← Ae.nums_set, ← HV.out]
        exact Sm.heap_set HR1.out k _
      case measure => simp [intOf]; omega
    · obtain rfl : k = 4 := by omega
      clear hlt hk
      have hr := HR1.out
      rw [Ae.part_all _ _ HBK.out] at hr
      have HR3 : Hid (wr.heap[N]? = some (.cells (Sm.nums (Ae.rounds (Ae.ks key) bk 0)).toArray 38 (0, 0))) := hr
      clear hr HR1
      go_wp2_with fail
      rw [show ((4 : Nat) : Int) = 4 from rfl]
      go_loopw [6] (fun i wr => ∃ r : Nat, 1 ≤ r ∧ r ≤ 14 ∧ i = .int .i64 r ∧ wr.heap[N]? = some (.cells (Sm.nums (Ae.rounds (Ae.ks key) bk (r - 1))).toArray 38 (0, 0)) ∧ (∃ old : List Nat, old.length = 4 ∧ wr.heap[N + 1]? = some (.cells (Sm.nums old).toArray 38 (0, 0))) ∧ Below N w wr) (fun i _ => 14 - (intOf i).toNat)
      case atStart => exact ⟨1, by omega, by omega, rfl, by rw [Nat.sub_self]; exact HR3.out, ⟨_, List.length_replicate .., HR2.out⟩, hbw⟩
      case round =>
        clear HR3 HR2 hbw
        obtain ⟨r, hr1, hr2, rfl, hra, ⟨old, hold, hrb⟩, hbw⟩ := hrel
        have HA := Lib.hid hra
        have HB := Lib.hid hrb
        clear hra hrb
        have HBl := Lib.hid (Ae.rounds_length (Ae.ks key) bk (r - 1))
        have HBlt := Lib.hid (Ae.rounds_lt HKL.out HBLT.out (r - 1))
        have HOLD := Lib.hid hold
        clear hold
        by_cases hlt : r < 14
        · have HRN : Hid (Ae.rounds (Ae.ks key) bk (r + 1 - 1) = (List.range 4).map fun i => Ae.mixed (Ae.col (Ae.rounds (Ae.ks key) bk (r - 1)) i) ^^^ (Ae.ks key).getD (4 * r + i) 0) := by
            show _ = _
            rw [show r + 1 - 1 = (r - 1) + 1 by omega, Ae.rounds, Ae.round, show r - 1 + 1 = r by omega]
          generalize Ae.rounds (Ae.ks key) bk (r - 1) = B at *
          obtain ⟨f, hf⟩ : ∃ f : Nat → Nat, f = fun i => Ae.mixed (Ae.col B i) ^^^ (Ae.ks key).getD (4 * r + i) 0 := ⟨_, rfl⟩
          have HF := Lib.hid hf
          clear hf
          have hri : (r : Int) < 14 := by omega
          go_wp2_with fail
          obtain ⟨w1, hw1⟩ : ∃ w1, w1 = wr := ⟨_, rfl⟩
          rw [← hw1] at HA HB hbw ⊢
          clear hw1
          go_loopw [28] (fun i wr => ∃ k : Nat, k ≤ 4 ∧ i = .int .i64 k ∧ wr.heap[N]? = some (.cells (Sm.nums B).toArray 38 (0, 0)) ∧ wr.heap[N + 1]? = some (.cells (Sm.nums (Ae.mid f old k)).toArray 38 (0, 0)) ∧ Below N w wr) (fun i _ => 4 - (intOf i).toNat)
          case atStart => exact ⟨0, by omega, rfl, HA.out, by rw [Ae.mid_zero]; exact HB.out, hbw⟩
          case round =>
            clear HA HB hbw
            obtain ⟨k, hk, rfl, hra, hrb, hbw⟩ := hrel
            have HA := Lib.hid hra
            have HB := Lib.hid hrb
            clear hra hrb
            by_cases hlk : k < 4
            · have hml := Ae.mid_length f old k HOLD.out hk
              have ho := Ae.nums_cell HB.out (k := k) (by rw [hml]; exact hlk)
              have fz := Sm.free_of HB.out k
              have hset := Ae.mid_set f old k HOLD.out hlk
              have HSET := Lib.hid hset
              have hCw := HC.out.low hbw (by omega)
              have cw := hCw.word (4 * r + k) (by omega)
              have ly := Sm.getD_lt HKL.out (4 * r + k)
              have COL : Hid (Calls Try.prog 20 #[.pointer (some ⟨b, 0, none⟩), .pointer (some ⟨N, 0, none⟩), .int .i64 k] wr.drew fun e w' => e = .returned (.int .u32 (Ae.col B k : Nat)) ∧ ∃ n, w' = wr.drew.drewN n) := column_any (w := wr.drew) (fun i hi => hCw.box i hi) (Ae.nums_four HA.out HBl.out) HBlt.out k hlk
              have lc := Ae.col_lt B k
              have MX := Lib.hid (mixed_any (Ae.col B k) lc)
              have lm := Ae.mixed_lt lc
              have HV : Hid (bits .xor .u32 (Ae.mixed (Ae.col B k) : Int) ((Ae.ks key).getD (4 * r + k) 0 : Nat) = (f k : Nat)) := by
                show _ = _
                rw [Ae.w_xor lm ly, HF.out]
              clear hset hml hCw lm lc
              generalize (Ae.mid f old k).getD k 0 = oldk at *
              generalize Ae.mixed (Ae.col B k) = xm at *
              generalize Ae.col B k = xc at *
              generalize (Ae.ks key).getD (4 * r + k) 0 = y at *
              obtain ⟨q, hq⟩ : ∃ q, q = 256 + (4 * r + k) := ⟨_, rfl⟩
              rw [← hq] at cw
              have CW : Hid (wr.cell? ⟨b, q, none⟩ = some (.int .u32 (y : Nat))) := cw
              have HO : Hid (wr.cell? ⟨N + 1, k, none⟩ = some (.int .u32 (oldk : Nat))) := ho
              have FZ : Hid (wr.frozen? ⟨N + 1, k, none⟩ = false) := fz
              clear cw ho fz
              have e1 : 256 + (4 * (r : Int) + k).toNat = q := by omega
              have v1 : IntKind.i64.wrap (4 * (r : Int)) = 4 * (r : Int) := IntWalk.i64_in _ (by omega)
              have v2 : IntKind.i64.wrap (4 * (r : Int) + k) = 4 * (r : Int) + k := IntWalk.i64_in _ (by omega)
              have u1 : 4 * (r : Int) + k < 60 := by omega
              have p1 : 0 ≤ 4 * (r : Int) + k := by omega
              have q4 : (k : Int) < 4 := by omega
              have HQ := Lib.hid hq
              clear hq
              go_wp2_with fail
              have CW1 : Hid (wr.drew.cell? ⟨b, q, none⟩ = some (.int .u32 (y : Nat))) := CW.out
              have HNE : Hid ((⟨N + 1, k, none⟩ : Addr) ≠ ⟨b, q, none⟩) := by show (⟨N + 1, k, none⟩ : Addr) ≠ ⟨b, q, none⟩; intro e; have := congrArg Addr.block e; simp at this; omega
              go_region_held3 (fun w' => w'.cell? ⟨b, q, none⟩ = some (.int .u32 (y : Nat)))
                (first | (with_reducible exact CW1.out) | (with_reducible exact CW5.out) | exact (World.cell?_setCell_other _ _ _ _ HNE.out).trans CW5.out | exact (World.cell?_setCell_other _ _ _ _ (Ne.symm HNE.out)).trans CW5.out)
                ((first
                  | (go_at_call 20; refine (COL.out).mono ?_; rintro e w5 ⟨rfl, n5, hw5⟩; have CW5 : Hid (w5.cell? ⟨b, q, none⟩ = some (.int .u32 (y : Nat))) := (by rw [hw5]; exact CW.out); have ho : w5.cell? ⟨N + 1, k, none⟩ = some (.int .u32 (oldk : Nat)) := (by rw [hw5]; exact HO.out); have fz : w5.frozen? ⟨N + 1, k, none⟩ = false := (by rw [hw5]; exact FZ.out); have HA5 : Hid (w5.heap[N]? = some (.cells (Sm.nums B).toArray 38 (0, 0))) := (by rw [hw5]; exact HA.out); have HB5 : Hid (w5.heap[N + 1]? = some (.cells (Sm.nums (Ae.mid f old k)).toArray 38 (0, 0))) := (by rw [hw5]; exact HB.out); have hb5 : Below N w w5 := (by rw [hw5]; exact Sm.below_drewN hbw.drew n5); clear hw5)
                  | (go_at_call 19; refine (MX.out _).mono ?_; rintro e w6 ⟨rfl, rfl⟩)))
              go_wp2
              go_roundw
              case rel =>
                refine ⟨k + 1, by omega, by go_num, (Below.heap_setCell _ _ _ _ (by simp)).trans HA5.out, ?_, hb5.setCell (p := ⟨N + 1, k, none⟩) (by simp) _⟩
                rw [← HSET.out, ← Ae.nums_set, HV.out]
                exact Sm.heap_set HB5.out k _
              case measure => simp [intOf]; omega
            · obtain rfl : k = 4 := by omega
              clear hlk hk
              have hrow : wr.heap[N + 1]? = some (.cells (Sm.nums (Ae.rounds (Ae.ks key) bk (r + 1 - 1))).toArray 38 (0, 0)) := by
                have h := HB.out
                rw [Ae.mid_all _ _ HOLD.out] at h
                rw [HRN.out, ← HF.out]; exact h
              have hRl := Ae.rounds_length (Ae.ks key) bk (r + 1 - 1)
              obtain ⟨R, hR⟩ : ∃ R, R = Ae.rounds (Ae.ks key) bk (r + 1 - 1) := ⟨_, rfl⟩
              rw [← hR] at hrow hRl
              have HRE := Lib.hid hR
              clear hR
              have hsz : (Sm.nums R).toArray.size = 4 := by simp [Sm.nums, hRl]
              have hsB : (Sm.nums B).toArray.size = (Sm.nums R).toArray.size := by rw [hsz]; simp [Sm.nums, HBl.out]
              have hone := Ae.nums_one R
              obtain ⟨cB, hcB⟩ : ∃ c, c = (Sm.nums B).toArray := ⟨_, rfl⟩
              have HA2 : Hid (wr.heap[N]? = some (.cells cB 38 (0, 0))) := by rw [hcB]; exact HA.out
              rw [← hcB] at hsB
              obtain ⟨cs, hcs⟩ : ∃ c, c = (Sm.nums R).toArray := ⟨_, rfl⟩
              rw [← hcs] at hsz hone hsB hrow
              have HR4 := Lib.hid hrow
              have HCS := Lib.hid hcs
              have HRL := Lib.hid hRl
              clear hcB hcs hrow hRl HRN HF
              go_wp2_with (first | (with_reducible refine wpList_load_row rfl 38 (.tmp 4) rfl (N + 1) rfl 38 cs (0, 0) _ (by exact HR4.out) Try.underlying38 rfl (Ae.infoBlk hsz) ?_) | (with_reducible refine wpList_store_row rfl 38 (.tmp 3) (.tmp 50) rfl N cs rfl rfl 38 _ (by exact HA2.out) (Ae.infoBlk hsz) hsB hone ?_))
              go_roundw
              case rel =>
                refine ⟨r + 1, by omega, by omega, by go_num, ?_, ⟨R, HRL.out, ?_⟩, Sm.below_setRow hbw (Nat.le_refl _) _⟩
                · rw [← HRE.out, ← HCS.out]; exact setRow_heap _ N _ _ _ _ HA2.out
                · rw [← HCS.out]; exact (setRow_other _ _ _ _ (by omega)).trans HR4.out
              case measure => simp [intOf]; omega
        · obtain rfl : r = 14 := by omega
          clear hlt hr1 hr2
          have hri : ¬ ((14 : Nat) : Int) < 14 := by omega
          go_wp2_with fail
          have HEN : Hid (Ae.enc (Ae.ks key) bk = (List.range 4).map fun i => Ae.col (Ae.rounds (Ae.ks key) bk (14 - 1)) i ^^^ (Ae.ks key).getD (56 + i) 0) := rfl
          generalize Ae.rounds (Ae.ks key) bk (14 - 1) = B at *
          obtain ⟨f, hf⟩ : ∃ f : Nat → Nat, f = fun i => Ae.col B i ^^^ (Ae.ks key).getD (56 + i) 0 := ⟨_, rfl⟩
          have HF := Lib.hid hf
          clear hf
          obtain ⟨w1, hw1⟩ : ∃ w1, w1 = wr := ⟨_, rfl⟩
          rw [← hw1] at HA HB hbw ⊢
          clear hw1
          go_loopw [51] (fun i wr => ∃ k : Nat, k ≤ 4 ∧ i = .int .i64 k ∧ wr.heap[N]? = some (.cells (Sm.nums B).toArray 38 (0, 0)) ∧ wr.heap[N + 1]? = some (.cells (Sm.nums (Ae.mid f old k)).toArray 38 (0, 0)) ∧ Below N w wr) (fun i _ => 4 - (intOf i).toNat)
          case atStart => exact ⟨0, by omega, rfl, HA.out, by rw [Ae.mid_zero]; exact HB.out, hbw⟩
          case round =>
            clear HA HB hbw
            obtain ⟨k, hk, rfl, hra, hrb, hbw⟩ := hrel
            have HA := Lib.hid hra
            have HB := Lib.hid hrb
            clear hra hrb
            by_cases hlk : k < 4
            · have hml := Ae.mid_length f old k HOLD.out hk
              have ho := Ae.nums_cell HB.out (k := k) (by rw [hml]; exact hlk)
              have fz := Sm.free_of HB.out k
              have hset := Ae.mid_set f old k HOLD.out hlk
              have HSET := Lib.hid hset
              have hCw := HC.out.low hbw (by omega)
              have cw := hCw.word (56 + k) (by omega)
              have ly := Sm.getD_lt HKL.out (56 + k)
              have COL : Hid (Calls Try.prog 20 #[.pointer (some ⟨b, 0, none⟩), .pointer (some ⟨N, 0, none⟩), .int .i64 k] wr.drew fun e w' => e = .returned (.int .u32 (Ae.col B k : Nat)) ∧ ∃ n, w' = wr.drew.drewN n) := column_any (w := wr.drew) (fun i hi => hCw.box i hi) (Ae.nums_four HA.out HBl.out) HBlt.out k hlk
              have lc := Ae.col_lt B k
              have HV : Hid (bits .xor .u32 (Ae.col B k : Int) ((Ae.ks key).getD (56 + k) 0 : Nat) = (f k : Nat)) := by
                show _ = _
                rw [Ae.w_xor lc ly, HF.out]
              clear hset hml hCw lc
              generalize (Ae.mid f old k).getD k 0 = oldk at *
              generalize Ae.col B k = xc at *
              generalize (Ae.ks key).getD (56 + k) 0 = y at *
              obtain ⟨q, hq⟩ : ∃ q, q = 256 + (56 + k) := ⟨_, rfl⟩
              rw [← hq] at cw
              have CW : Hid (wr.cell? ⟨b, q, none⟩ = some (.int .u32 (y : Nat))) := cw
              have HO : Hid (wr.cell? ⟨N + 1, k, none⟩ = some (.int .u32 (oldk : Nat))) := ho
              have FZ : Hid (wr.frozen? ⟨N + 1, k, none⟩ = false) := fz
              clear cw ho fz
              have e1 : 256 + (56 + (k : Int)).toNat = q := by omega
              have v2 : IntKind.i64.wrap (56 + (k : Int)) = 56 + (k : Int) := IntWalk.i64_in _ (by omega)
              have u1 : 56 + (k : Int) < 60 := by omega
              have p1 : 0 ≤ 56 + (k : Int) := by omega
              have q4 : (k : Int) < 4 := by omega
              have HQ := Lib.hid hq
              clear hq
              have CW1 : Hid (wr.drew.cell? ⟨b, q, none⟩ = some (.int .u32 (y : Nat))) := CW.out
              have HNE : Hid ((⟨N + 1, k, none⟩ : Addr) ≠ ⟨b, q, none⟩) := by show (⟨N + 1, k, none⟩ : Addr) ≠ ⟨b, q, none⟩; intro e; have := congrArg Addr.block e; simp at this; omega
              go_wp2_with fail
              go_region_held3 (fun w' => w'.cell? ⟨b, q, none⟩ = some (.int .u32 (y : Nat)))
                (first | (with_reducible exact CW1.out) | (with_reducible exact CW5.out) | exact (World.cell?_setCell_other _ _ _ _ HNE.out).trans CW5.out | exact (World.cell?_setCell_other _ _ _ _ (Ne.symm HNE.out)).trans CW5.out)
                ((first
                  | (go_at_call 20; refine (COL.out).mono ?_; rintro e w5 ⟨rfl, n5, hw5⟩; have CW5 : Hid (w5.cell? ⟨b, q, none⟩ = some (.int .u32 (y : Nat))) := (by rw [hw5]; exact CW.out); have ho : w5.cell? ⟨N + 1, k, none⟩ = some (.int .u32 (oldk : Nat)) := (by rw [hw5]; exact HO.out); have fz : w5.frozen? ⟨N + 1, k, none⟩ = false := (by rw [hw5]; exact FZ.out); have HA5 : Hid (w5.heap[N]? = some (.cells (Sm.nums B).toArray 38 (0, 0))) := (by rw [hw5]; exact HA.out); have HB5 : Hid (w5.heap[N + 1]? = some (.cells (Sm.nums (Ae.mid f old k)).toArray 38 (0, 0))) := (by rw [hw5]; exact HB.out); have hb5 : Below N w w5 := (by rw [hw5]; exact Sm.below_drewN hbw.drew n5); clear hw5)))
              go_wp2
              go_roundw
              case rel =>
                refine ⟨k + 1, by omega, by go_num, (Below.heap_setCell _ _ _ _ (by simp)).trans HA5.out, ?_, hb5.setCell (p := ⟨N + 1, k, none⟩) (by simp) _⟩
                rw [← HSET.out, ← Ae.nums_set, HV.out]
                exact Sm.heap_set HB5.out k _
              case measure => simp [intOf]; omega
            · obtain rfl : k = 4 := by omega
              clear hlk hk
              have hrow : wr.heap[N + 1]? = some (.cells (Sm.nums (Ae.enc (Ae.ks key) bk)).toArray 38 (0, 0)) := by
                have h := HB.out
                rw [Ae.mid_all _ _ HOLD.out] at h
                rw [HEN.out, ← HF.out]; exact h
              have hsz : (Sm.nums (Ae.enc (Ae.ks key) bk)).toArray.size = 4 := by simp [Sm.nums, Ae.enc_length]
              have hone := Ae.nums_one (Ae.enc (Ae.ks key) bk)
              obtain ⟨cs, hcs⟩ : ∃ c, c = (Sm.nums (Ae.enc (Ae.ks key) bk)).toArray := ⟨_, rfl⟩
              rw [← hcs] at hsz hone hrow
              have HR4 := Lib.hid hrow
              have HCS := Lib.hid hcs
              clear hcs hrow HEN HF
              go_wp2_with (first | (with_reducible refine wpList_load_row rfl 38 (.tmp 4) rfl (N + 1) rfl 38 cs (0, 0) _ (by exact HR4.out) Try.underlying38 rfl (Ae.infoBlk hsz) ?_) | (with_reducible refine wpList_store_row rfl 38 (.tmp 4) (.tmp 70) rfl (N + 1) cs rfl rfl 38 _ (by exact HR4.out) (Ae.infoBlk hsz) rfl hone ?_))
              exact bodyPost_ret (v := .agg cs) (results_cell_row rfl _ _ (N + 1) 38 _ (0, 0) _ rfl (setRow_heap _ (N + 1) _ _ _ _ HR4.out) Try.underlying38 rfl (Ae.infoBlk hsz)) rfl ⟨by rw [HCS.out], by rw [← HN.out]; exact Sm.below_setRow hbw (Nat.le_succ _) _⟩
end Go.Proofs.Ytgdnpagmhkkaiaa
