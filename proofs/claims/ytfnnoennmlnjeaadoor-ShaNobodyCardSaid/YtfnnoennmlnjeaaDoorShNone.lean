/-
  What Sum, Write, Len, Twin tell of one that is none.
-/
import Derived.Test.YtfnnoennmlnjeaaDoorShAwake
namespace Go.Proofs.YtfnnoennmlnjeaaDoor
open Go.RowKit

set_option maxRecDepth 100000 in
set_option maxHeartbeats 4000000 in
theorem xsum_nil {w : World} (hH : Sm.HAt w) (hK : Sm.KAt w) (hsz : 1 < w.heap.size) :
    Calls Tryd.prog 16 #[.pointer none] w fun e w' => e = .returned (.agg (Lib.byteCells (Sm.sum [])).toArray) ∧ Below w.heap.size w w' := by
  obtain ⟨t, ht⟩ : ∃ t : List UInt8, t = [] := ⟨_, rfl⟩
  have hlen : t.length ≤ 1152921504606846976 := by rw [ht]; decide
  have HT := Lib.hid ht
  have HH := Lib.hid hH
  have HK := Lib.hid hK
  clear hH hK
  obtain ⟨zc, hzs, hzv⟩ := Sm.zero_made
  have hb1 : Below w.heap.size w (w.alloc (.cells (Sm.rowB 32 []) 27)) := (Below.refl _ w).alloc (Nat.le_refl _) _
  have hr1 := Sm.heap_row32 w
  have hh1 := HH.out.low hb1 (by omega)
  have hs1 : (w.alloc (.cells (Sm.rowB 32 []) 27)).heap.size = w.heap.size + 1 := by simp
  go_enter Tryd.func16, Tryd.ntmps16
  go_wp2_with fail
  change Calls _ _ _ (w.alloc (.cells (Sm.rowB 32 []) 27)) _
  generalize w.alloc (.cells (Sm.rowB 32 []) 27) = W1 at *
  refine (new_any W1 hh1).mono ?_
  rintro e w1 ⟨rfl, rfl⟩
  have hb2 : Below W1.heap.size W1 (W1.alloc Sm.fresh) := (Below.refl _ W1).alloc (Nat.le_refl _) _
  have hi2 := Sm.is_new W1
  have hVr : (W1.alloc Sm.fresh).heap[w.heap.size]? = some (.cells (Sm.rowB 32 []) 27 (0, 0)) := (hb2.block w.heap.size (by omega)).trans hr1
  have hVb : Below w.heap.size w (W1.alloc Sm.fresh) := hb1.trans (hb2.mono (by omega))
  have hVs : (W1.alloc Sm.fresh).heap.size = w.heap.size + 2 := by simp; omega
  generalize W1.alloc Sm.fresh = V at *
  rw [hs1] at hi2 ⊢
  rw [← ht] at hi2
  clear hb1 hb2 hr1 hh1 hs1 ht
  obtain ⟨wt, hwl, hwt, hat⟩ := hi2
  have hs74 := Sm.cells_size true (Sm.st t) wt t.length hwl
  have hinfo := Sm.infoSha hs74
  have hone := Sm.cells_one true (Sm.st t) wt t.length
  have hst : ∀ (c : Array Value), c.size = 74 → (storeCells ⟨w.heap.size + 2, 0, none⟩ (Sm.cells true (Sm.st t) wt t.length).toList).run Tryd.prog (V.alloc (.cells c 47)) = .ok () (V.alloc (.cells (Sm.cells true (Sm.st t) wt t.length) 47)) := fun c hc => by
    have h := run_storeCells_new (P := Tryd.prog) V 47 c (Sm.cells true (Sm.st t) wt t.length) hinfo (by rw [hs74]; exact hc) hone
    rw [hVs] at h
    exact h
  have hc73 : ∀ (o' : Obj), (V.alloc o').cell? ⟨w.heap.size + 1, 73, none⟩ = some (.int .i64 t.length) := fun o' =>
    Sm.At.len (w := V.alloc o') (m := true) (v := Sm.st t) (by unfold Sm.At; rw [Below.heap_alloc _ _ _ (by omega)]; exact hat) hwl
  have hnew : (V.alloc (.cells (Sm.cells true (Sm.st t) wt t.length) 47)).heap[w.heap.size + 2]? = some (.cells (Sm.cells true (Sm.st t) wt t.length) 47 (0, 0)) := by
    have := heap_alloc_new V (.cells (Sm.cells true (Sm.st t) wt t.length) 47)
    rw [hVs] at this
    exact this
  have hat : V.heap[w.heap.size + 1]? = some (.cells (Sm.cells true (Sm.st t) wt t.length) 47 (0, 0)) := hat
  have HWT := Lib.hid hwt
  obtain ⟨cs, hcs⟩ : ∃ cs, cs = Sm.cells true (Sm.st t) wt t.length := ⟨_, rfl⟩
  rw [← hcs] at hat hnew hinfo hst hs74
  have HA1 := Lib.hid hat
  have HNEW := Lib.hid hnew
  have HCS := Lib.hid hcs
  clear hnew hwt hat hcs hone
  go_wp2_with (with_reducible refine wpList_load_row rfl 47 (.tmp 17) rfl (w.heap.size + 1) rfl 47 cs (0, 0) _ (by exact HA1.out) Tryd.underlying47 rfl (by exact hinfo) ?_)
  refine (padding_any t.length hlen _).mono ?_
  rintro e w3 ⟨rfl, hb3⟩
  obtain ⟨W2, hW2⟩ : ∃ W, W = V.alloc (.cells cs 47) := ⟨_, rfl⟩
  have hb3' : Below W2.heap.size W2 w3 := by rw [hW2]; exact hb3
  clear hb3
  have hs2 : W2.heap.size = w.heap.size + 2 + 1 := by rw [hW2]; simp [hVs]
  have hb2 : Below w.heap.size w W2 := by rw [hW2]; exact hVb.alloc (by omega) _
  have hr2 : W2.heap[w.heap.size]? = some (.cells (Sm.rowB 32 []) 27 (0, 0)) := by
    rw [hW2, Below.heap_alloc _ _ _ (by omega)]; exact hVr
  have hr3 : w3.heap[w.heap.size]? = some (.cells (Sm.rowB 32 []) 27 (0, 0)) := (hb3'.block _ (by omega)).trans hr2
  have hi3 : Sm.Is w3 (w.heap.size + 2) t := ⟨wt, hwl, HWT.out, by
    unfold Sm.At
    rw [hb3'.block _ (by omega), hW2, HNEW.out, HCS.out]⟩
  have hb4 : Below w.heap.size w w3 := hb2.trans (hb3'.mono (by omega))
  have hk4 := HK.out.low hb4 hsz
  have hs3 : w.heap.size + 2 + 1 ≤ w3.heap.size := by have := hb3'.size; omega
  have HR3 := Lib.hid hr3
  have HI3 := Lib.hid hi3
  have HK4 := Lib.hid hk4
  clear hW2 hs2 hb2 hr2 hb3' hr3 hi3 hk4 hst hc73 hinfo hzs hzv hwl hVs hVb hVr
  go_wp2_with fail
  refine (write_any ⟨(Sm.pad t.length).toArray⟩ HI3.out HK4.out (by omega) (by omega) (by have h := Sm.pad_length t.length; have e : (ByteArray.mk (Sm.pad t.length).toArray).size = (Sm.pad t.length).length := rfl; omega)).mono ?_
  rintro e w5 ⟨rfl, hg5, hi5⟩
  obtain ⟨wt5, hwl5, hwt5, ha5⟩ := hi5
  have HA5 := Lib.hid ha5
  have hr5 : w5.heap[w.heap.size]? = some (.cells (Sm.rowB 32 []) 27 (0, 0)) := (hg5.block _ (Sm.lt_of HR3.out) (by intro e; have := Option.some.inj e; omega)).trans HR3.out
  have HR5 := Lib.hid hr5
  have hb5 : Below w.heap.size w w5 := hb4.trans (Sm.grown_from hg5 (by omega) (by omega))
  have hs5 := Nat.le_trans hs3 hg5.size
  clear ha5 hr5 hg5 hb4 hs3 hwt5
  go_wp2_with fail
  have g1 := Sm.heap_row32 w5
  have g2 : Below w5.heap.size w5 (w5.alloc (.cells (Sm.rowB 32 []) 27)) := (Below.refl _ w5).alloc (Nat.le_refl _) _
  change Code.wp _ _ _ _ (w5.alloc (.cells (Sm.rowB 32 []) 27))
  generalize w5.alloc (.cells (Sm.rowB 32 []) 27) = W6 at *
  have hva := Sm.st_ok (t ++ Sm.pad t.length)
  have HSUM : Hid (Sm.sum t = Sm.outN (Sm.st (t ++ Sm.pad t.length)).l) := rfl
  have HA7 : Hid (Sm.At w5 (w.heap.size + 2) true (Sm.st (t ++ Sm.pad t.length)) wt5 (t ++ Sm.pad t.length).length) := HA5.out
  generalize Sm.st (t ++ Sm.pad t.length) = v5 at *
  generalize (t ++ Sm.pad t.length).length = n5 at *
  clear HA5
  obtain ⟨N1, hN1⟩ : ∃ N, N = w.heap.size + 2 := ⟨_, rfl⟩
  rw [← hN1] at HA7 ⊢
  obtain ⟨N5, hN5⟩ : ∃ N, N = w5.heap.size := ⟨_, rfl⟩
  rw [← hN5] at g1 g2 hs5 ⊢
  have hne15 : N1 ≠ N5 := by omega
  have HN1 := Lib.hid hN1
  have HN5 := Lib.hid hN5
  clear hN1 hN5
  go_loopw [25] (fun i wr => ∃ k : Nat, k ≤ 32 ∧ i = .int .i64 k ∧ wr.heap[N5]? = some (.cells (Sm.rowB 32 ((List.range k).map (Sm.outB v5.l))) 27 (0, 0)) ∧ Below N5 w5 wr) (fun i _ => 32 - (intOf i).toNat)
  case atStart => exact ⟨0, by omega, rfl, g1, g2⟩
  case round =>
    clear g1 g2
    obtain ⟨k, hk, rfl, hrow, hbk⟩ := hrel
    have HR := Lib.hid hrow
    clear hrow
    have haw : Sm.At wr N1 true v5 wt5 n5 := HA7.out.low (by rw [← HN5.out]; exact hbk)
    by_cases hlt : k < 32
    · have cw := haw.word (k / 4) (by omega)
      obtain ⟨old, hold⟩ := Sm.rowB_some (n := 32) (l := (List.range k).map (Sm.outB v5.l)) k (by simp; omega) hlt
      have hold := Sm.cells_of HR.out k old hold
      have hfz := Sm.free_of HR.out k
      have hx : Hid (Sm.outB v5.l k = UInt8.ofNat (v5.l.getD (k / 4) 0 / 2 ^ (24 - k % 4 * 8))) := rfl
      clear haw
      generalize v5.l.getD (k / 4) 0 = x at *
      have hX : ((x : Int) / 2 ^ (24 - k % 4 * 8) % 256) = ((UInt8.ofNat (x / 2 ^ (24 - k % 4 * 8))).toNat : Int) := by
        rw [UInt8.toNat_ofNat']; push_cast; rfl
      have HX := Lib.hid hX
      have hk4 : 0 ≤ 24 - (k : Int) % 4 * 8 := by omega
      clear hX
      go_wp2
      go_roundw
      case rel =>
        refine ⟨k + 1, by omega, by go_num, ?_, ?_⟩
        · have e := Sm.rowB_set (n := 32) (l := (List.range k).map (Sm.outB v5.l)) (by simp; omega) (Sm.outB v5.l k)
          rw [List.length_map, List.length_range] at e
          rw [HX.out, Sm.range_snoc, ← e, hx.out]
          exact Sm.heap_set HR.out k _
        · exact hbk.setCell (p := ⟨N5, k, none⟩) (Nat.le_refl _) _
      case measure => simp [intOf]; omega
    · obtain rfl : k = 32 := by omega
      have hlen32 : ((List.range 32).map (Sm.outB v5.l)).length = 32 := by simp
      have hfull := Sm.rowB_full (n := 32) hlen32
      have hr : wr.heap[N5]? = some (.cells (Lib.byteCells (Sm.sum t)).toArray 27 (0, 0)) := by rw [HR.out, hfull, HSUM.out, Sm.outN_eq]
      have hsz32 : (Lib.byteCells (Sm.sum t)).toArray.size = 32 := by simp [Lib.byteCells, Sm.sum_length]
      have hr0 : wr.heap[w.heap.size]? = some (.cells (Sm.rowB 32 []) 27 (0, 0)) := (hbk.block _ (by omega)).trans HR5.out
      have HR8 := Lib.hid hr
      have HR0 := Lib.hid hr0
      have hone := Sm.bytes_one (Sm.sum t)
      have hz32 : (Sm.rowB 32 []).size = (Lib.byteCells (Sm.sum t)).toArray.size := by rw [hsz32]; exact Sm.rowB_size (by simp)
      clear hr hr0 haw hfull hlen32
      obtain ⟨cs2, hcs2⟩ : ∃ c, c = (Lib.byteCells (Sm.sum t)).toArray := ⟨_, rfl⟩
      rw [← hcs2] at HR8 hsz32 hone hz32
      have HC2 := Lib.hid hcs2
      clear hcs2
      go_wp2_with (first | (with_reducible refine wpList_load_row rfl 27 (.tmp 4) rfl N5 rfl 27 cs2 (0, 0) _ (by exact HR8.out) Tryd.underlying27 rfl (Sm.infoHash hsz32) ?_) | (with_reducible refine wpList_store_row rfl 27 (.tmp 2) (.tmp 42) rfl w.heap.size cs2 rfl rfl 27 _ (by exact HR0.out) (Sm.infoHash hsz32) hz32 hone ?_))
      exact bodyPost_ret (v := .agg cs2) (results_cell_row rfl _ _ w.heap.size 27 _ (0, 0) _ rfl (setRow_heap _ w.heap.size _ _ _ _ HR0.out) Tryd.underlying27 rfl (Sm.infoHash hsz32)) rfl ⟨by rw [HC2.out, HT.out], Sm.below_setRow (hb5.trans (hbk.mono (by omega))) (Nat.le_refl _) _⟩

set_option maxRecDepth 100000 in
set_option maxHeartbeats 4000000 in
theorem xsum_bare {w : World} {b : Nat} {v : Sm.V} {wt0 : List UInt8} {n0 : Nat} (hbare : Sm.At w b false v wt0 n0) (hH : Sm.HAt w) (hK : Sm.KAt w) (hsz : 1 < w.heap.size) :
    Calls Tryd.prog 16 #[.pointer (some ⟨b, 0, none⟩)] w fun e w' => e = .returned (.agg (Lib.byteCells (Sm.sum [])).toArray) ∧ Below w.heap.size w w' := by
  obtain ⟨t, ht⟩ : ∃ t : List UInt8, t = [] := ⟨_, rfl⟩
  have hlen : t.length ≤ 1152921504606846976 := by rw [ht]; decide
  have HT := Lib.hid ht
  have HH := Lib.hid hH
  have HK := Lib.hid hK
  clear hH hK
  have hc0 : ∀ o, (w.alloc o).cell? ⟨b, 0, none⟩ = some (.bool false) := fun o => Sm.At.made (hbare.low ((Below.refl _ w).alloc (Nat.le_refl _) o))
  clear hbare
  obtain ⟨zc, hzs, hzv⟩ := Sm.zero_made
  have hb1 : Below w.heap.size w (w.alloc (.cells (Sm.rowB 32 []) 27)) := (Below.refl _ w).alloc (Nat.le_refl _) _
  have hr1 := Sm.heap_row32 w
  have hh1 := HH.out.low hb1 (by omega)
  have hs1 : (w.alloc (.cells (Sm.rowB 32 []) 27)).heap.size = w.heap.size + 1 := by simp
  go_enter Tryd.func16, Tryd.ntmps16
  go_wp2_with fail
  change Calls _ _ _ (w.alloc (.cells (Sm.rowB 32 []) 27)) _
  generalize w.alloc (.cells (Sm.rowB 32 []) 27) = W1 at *
  refine (new_any W1 hh1).mono ?_
  rintro e w1 ⟨rfl, rfl⟩
  have hb2 : Below W1.heap.size W1 (W1.alloc Sm.fresh) := (Below.refl _ W1).alloc (Nat.le_refl _) _
  have hi2 := Sm.is_new W1
  have hVr : (W1.alloc Sm.fresh).heap[w.heap.size]? = some (.cells (Sm.rowB 32 []) 27 (0, 0)) := (hb2.block w.heap.size (by omega)).trans hr1
  have hVb : Below w.heap.size w (W1.alloc Sm.fresh) := hb1.trans (hb2.mono (by omega))
  have hVs : (W1.alloc Sm.fresh).heap.size = w.heap.size + 2 := by simp; omega
  generalize W1.alloc Sm.fresh = V at *
  rw [hs1] at hi2 ⊢
  rw [← ht] at hi2
  clear hb1 hb2 hr1 hh1 hs1 ht hc0
  obtain ⟨wt, hwl, hwt, hat⟩ := hi2
  have hs74 := Sm.cells_size true (Sm.st t) wt t.length hwl
  have hinfo := Sm.infoSha hs74
  have hone := Sm.cells_one true (Sm.st t) wt t.length
  have hst : ∀ (c : Array Value), c.size = 74 → (storeCells ⟨w.heap.size + 2, 0, none⟩ (Sm.cells true (Sm.st t) wt t.length).toList).run Tryd.prog (V.alloc (.cells c 47)) = .ok () (V.alloc (.cells (Sm.cells true (Sm.st t) wt t.length) 47)) := fun c hc => by
    have h := run_storeCells_new (P := Tryd.prog) V 47 c (Sm.cells true (Sm.st t) wt t.length) hinfo (by rw [hs74]; exact hc) hone
    rw [hVs] at h
    exact h
  have hc73 : ∀ (o' : Obj), (V.alloc o').cell? ⟨w.heap.size + 1, 73, none⟩ = some (.int .i64 t.length) := fun o' =>
    Sm.At.len (w := V.alloc o') (m := true) (v := Sm.st t) (by unfold Sm.At; rw [Below.heap_alloc _ _ _ (by omega)]; exact hat) hwl
  have hnew : (V.alloc (.cells (Sm.cells true (Sm.st t) wt t.length) 47)).heap[w.heap.size + 2]? = some (.cells (Sm.cells true (Sm.st t) wt t.length) 47 (0, 0)) := by
    have := heap_alloc_new V (.cells (Sm.cells true (Sm.st t) wt t.length) 47)
    rw [hVs] at this
    exact this
  have hat : V.heap[w.heap.size + 1]? = some (.cells (Sm.cells true (Sm.st t) wt t.length) 47 (0, 0)) := hat
  have HWT := Lib.hid hwt
  obtain ⟨cs, hcs⟩ : ∃ cs, cs = Sm.cells true (Sm.st t) wt t.length := ⟨_, rfl⟩
  rw [← hcs] at hat hnew hinfo hst hs74
  have HA1 := Lib.hid hat
  have HNEW := Lib.hid hnew
  have HCS := Lib.hid hcs
  clear hnew hwt hat hcs hone
  go_wp2_with (with_reducible refine wpList_load_row rfl 47 (.tmp 17) rfl (w.heap.size + 1) rfl 47 cs (0, 0) _ (by exact HA1.out) Tryd.underlying47 rfl (by exact hinfo) ?_)
  refine (padding_any t.length hlen _).mono ?_
  rintro e w3 ⟨rfl, hb3⟩
  obtain ⟨W2, hW2⟩ : ∃ W, W = V.alloc (.cells cs 47) := ⟨_, rfl⟩
  have hb3' : Below W2.heap.size W2 w3 := by rw [hW2]; exact hb3
  clear hb3
  have hs2 : W2.heap.size = w.heap.size + 2 + 1 := by rw [hW2]; simp [hVs]
  have hb2 : Below w.heap.size w W2 := by rw [hW2]; exact hVb.alloc (by omega) _
  have hr2 : W2.heap[w.heap.size]? = some (.cells (Sm.rowB 32 []) 27 (0, 0)) := by
    rw [hW2, Below.heap_alloc _ _ _ (by omega)]; exact hVr
  have hr3 : w3.heap[w.heap.size]? = some (.cells (Sm.rowB 32 []) 27 (0, 0)) := (hb3'.block _ (by omega)).trans hr2
  have hi3 : Sm.Is w3 (w.heap.size + 2) t := ⟨wt, hwl, HWT.out, by
    unfold Sm.At
    rw [hb3'.block _ (by omega), hW2, HNEW.out, HCS.out]⟩
  have hb4 : Below w.heap.size w w3 := hb2.trans (hb3'.mono (by omega))
  have hk4 := HK.out.low hb4 hsz
  have hs3 : w.heap.size + 2 + 1 ≤ w3.heap.size := by have := hb3'.size; omega
  have HR3 := Lib.hid hr3
  have HI3 := Lib.hid hi3
  have HK4 := Lib.hid hk4
  clear hW2 hs2 hb2 hr2 hb3' hr3 hi3 hk4 hst hc73 hinfo hzs hzv hwl hVs hVb hVr
  go_wp2_with fail
  refine (write_any ⟨(Sm.pad t.length).toArray⟩ HI3.out HK4.out (by omega) (by omega) (by have h := Sm.pad_length t.length; have e : (ByteArray.mk (Sm.pad t.length).toArray).size = (Sm.pad t.length).length := rfl; omega)).mono ?_
  rintro e w5 ⟨rfl, hg5, hi5⟩
  obtain ⟨wt5, hwl5, hwt5, ha5⟩ := hi5
  have HA5 := Lib.hid ha5
  have hr5 : w5.heap[w.heap.size]? = some (.cells (Sm.rowB 32 []) 27 (0, 0)) := (hg5.block _ (Sm.lt_of HR3.out) (by intro e; have := Option.some.inj e; omega)).trans HR3.out
  have HR5 := Lib.hid hr5
  have hb5 : Below w.heap.size w w5 := hb4.trans (Sm.grown_from hg5 (by omega) (by omega))
  have hs5 := Nat.le_trans hs3 hg5.size
  clear ha5 hr5 hg5 hb4 hs3 hwt5
  go_wp2_with fail
  have g1 := Sm.heap_row32 w5
  have g2 : Below w5.heap.size w5 (w5.alloc (.cells (Sm.rowB 32 []) 27)) := (Below.refl _ w5).alloc (Nat.le_refl _) _
  change Code.wp _ _ _ _ (w5.alloc (.cells (Sm.rowB 32 []) 27))
  generalize w5.alloc (.cells (Sm.rowB 32 []) 27) = W6 at *
  have hva := Sm.st_ok (t ++ Sm.pad t.length)
  have HSUM : Hid (Sm.sum t = Sm.outN (Sm.st (t ++ Sm.pad t.length)).l) := rfl
  have HA7 : Hid (Sm.At w5 (w.heap.size + 2) true (Sm.st (t ++ Sm.pad t.length)) wt5 (t ++ Sm.pad t.length).length) := HA5.out
  generalize Sm.st (t ++ Sm.pad t.length) = v5 at *
  generalize (t ++ Sm.pad t.length).length = n5 at *
  clear HA5
  obtain ⟨N1, hN1⟩ : ∃ N, N = w.heap.size + 2 := ⟨_, rfl⟩
  rw [← hN1] at HA7 ⊢
  obtain ⟨N5, hN5⟩ : ∃ N, N = w5.heap.size := ⟨_, rfl⟩
  rw [← hN5] at g1 g2 hs5 ⊢
  have hne15 : N1 ≠ N5 := by omega
  have HN1 := Lib.hid hN1
  have HN5 := Lib.hid hN5
  clear hN1 hN5
  go_loopw [25] (fun i wr => ∃ k : Nat, k ≤ 32 ∧ i = .int .i64 k ∧ wr.heap[N5]? = some (.cells (Sm.rowB 32 ((List.range k).map (Sm.outB v5.l))) 27 (0, 0)) ∧ Below N5 w5 wr) (fun i _ => 32 - (intOf i).toNat)
  case atStart => exact ⟨0, by omega, rfl, g1, g2⟩
  case round =>
    clear g1 g2
    obtain ⟨k, hk, rfl, hrow, hbk⟩ := hrel
    have HR := Lib.hid hrow
    clear hrow
    have haw : Sm.At wr N1 true v5 wt5 n5 := HA7.out.low (by rw [← HN5.out]; exact hbk)
    by_cases hlt : k < 32
    · have cw := haw.word (k / 4) (by omega)
      obtain ⟨old, hold⟩ := Sm.rowB_some (n := 32) (l := (List.range k).map (Sm.outB v5.l)) k (by simp; omega) hlt
      have hold := Sm.cells_of HR.out k old hold
      have hfz := Sm.free_of HR.out k
      have hx : Hid (Sm.outB v5.l k = UInt8.ofNat (v5.l.getD (k / 4) 0 / 2 ^ (24 - k % 4 * 8))) := rfl
      clear haw
      generalize v5.l.getD (k / 4) 0 = x at *
      have hX : ((x : Int) / 2 ^ (24 - k % 4 * 8) % 256) = ((UInt8.ofNat (x / 2 ^ (24 - k % 4 * 8))).toNat : Int) := by
        rw [UInt8.toNat_ofNat']; push_cast; rfl
      have HX := Lib.hid hX
      have hk4 : 0 ≤ 24 - (k : Int) % 4 * 8 := by omega
      clear hX
      go_wp2
      go_roundw
      case rel =>
        refine ⟨k + 1, by omega, by go_num, ?_, ?_⟩
        · have e := Sm.rowB_set (n := 32) (l := (List.range k).map (Sm.outB v5.l)) (by simp; omega) (Sm.outB v5.l k)
          rw [List.length_map, List.length_range] at e
          rw [HX.out, Sm.range_snoc, ← e, hx.out]
          exact Sm.heap_set HR.out k _
        · exact hbk.setCell (p := ⟨N5, k, none⟩) (Nat.le_refl _) _
      case measure => simp [intOf]; omega
    · obtain rfl : k = 32 := by omega
      have hlen32 : ((List.range 32).map (Sm.outB v5.l)).length = 32 := by simp
      have hfull := Sm.rowB_full (n := 32) hlen32
      have hr : wr.heap[N5]? = some (.cells (Lib.byteCells (Sm.sum t)).toArray 27 (0, 0)) := by rw [HR.out, hfull, HSUM.out, Sm.outN_eq]
      have hsz32 : (Lib.byteCells (Sm.sum t)).toArray.size = 32 := by simp [Lib.byteCells, Sm.sum_length]
      have hr0 : wr.heap[w.heap.size]? = some (.cells (Sm.rowB 32 []) 27 (0, 0)) := (hbk.block _ (by omega)).trans HR5.out
      have HR8 := Lib.hid hr
      have HR0 := Lib.hid hr0
      have hone := Sm.bytes_one (Sm.sum t)
      have hz32 : (Sm.rowB 32 []).size = (Lib.byteCells (Sm.sum t)).toArray.size := by rw [hsz32]; exact Sm.rowB_size (by simp)
      clear hr hr0 haw hfull hlen32
      obtain ⟨cs2, hcs2⟩ : ∃ c, c = (Lib.byteCells (Sm.sum t)).toArray := ⟨_, rfl⟩
      rw [← hcs2] at HR8 hsz32 hone hz32
      have HC2 := Lib.hid hcs2
      clear hcs2
      go_wp2_with (first | (with_reducible refine wpList_load_row rfl 27 (.tmp 4) rfl N5 rfl 27 cs2 (0, 0) _ (by exact HR8.out) Tryd.underlying27 rfl (Sm.infoHash hsz32) ?_) | (with_reducible refine wpList_store_row rfl 27 (.tmp 2) (.tmp 42) rfl w.heap.size cs2 rfl rfl 27 _ (by exact HR0.out) (Sm.infoHash hsz32) hz32 hone ?_))
      exact bodyPost_ret (v := .agg cs2) (results_cell_row rfl _ _ w.heap.size 27 _ (0, 0) _ rfl (setRow_heap _ w.heap.size _ _ _ _ HR0.out) Tryd.underlying27 rfl (Sm.infoHash hsz32)) rfl ⟨by rw [HC2.out, HT.out], Sm.below_setRow (hb5.trans (hbk.mono (by omega))) (Nat.le_refl _) _⟩

theorem write_nil (s : ByteArray) (w : World) : Calls Tryd.prog 11 #[.pointer none, .string s] w fun e w' => e = .returned (.int .i64 0) ∧ w = w' := by
  go_enter Tryd.func11, Tryd.ntmps11
  go_wp2
  go_ret
  exact ⟨rfl, rfl⟩
theorem write_bare (s : ByteArray) {w : World} {b : Nat} {v : Sm.V} {wt0 : List UInt8} {n0 : Nat} (hbare : Sm.At w b false v wt0 n0) : Calls Tryd.prog 11 #[.pointer (some ⟨b, 0, none⟩), .string s] w fun e w' => e = .returned (.int .i64 0) ∧ w = w' := by
  have h := hbare.made
  clear hbare
  go_enter Tryd.func11, Tryd.ntmps11
  go_wp2
  go_ret
  exact ⟨rfl, rfl⟩
theorem len_at {w : World} {b : Nat} {m : Bool} {v : Sm.V} {wt0 : List UInt8} {n0 : Nat} (hat : Sm.At w b m v wt0 n0) (hl : wt0.length = 64) : Calls Tryd.prog 15 #[.pointer (some ⟨b, 0, none⟩)] w fun e w' => e = .returned (.int .i64 n0) ∧ w = w' := by
  have c := hat.len hl
  clear hat
  go_enter Tryd.func15, Tryd.ntmps15
  go_wp2
  go_ret
  exact ⟨rfl, rfl⟩
theorem twin_nil (w : World) : Calls Tryd.prog 21 #[.pointer none] w fun e w' => e = .returned (.pointer none) ∧ w = w' := by
  go_enter Tryd.func21, Tryd.ntmps21
  go_wp2
  go_ret
  exact ⟨rfl, rfl⟩
end Go.Proofs.YtfnnoennmlnjeaaDoor
