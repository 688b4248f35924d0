/-
  What Sum tells of one that was written.
-/
import Derived.Test.YtkijdpgdniaagaaDoorShPad
namespace Go.Proofs.YtkijdpgdniaagaaDoor
open Go.RowKit
namespace Sm
/-- A row of n bytes, of which the first are these, the others 0. -/
def rowB (n : Nat) (l : List UInt8) : Array Value := (Lib.byteCells (l ++ List.replicate (n - l.length) 0)).toArray
theorem rowB_set {n : Nat} {l : List UInt8} (h : l.length < n) (x : UInt8) : (rowB n l).setIfInBounds l.length (.int .u8 x.toNat) = rowB n (l ++ [x]) := by
  apply Array.ext'
  simp only [rowB, Lib.byteCells, Array.toList_setIfInBounds, List.toList_toArray, List.map_append, List.length_append, List.length_singleton, List.map_cons, List.map_nil]
  rw [show n - l.length = (n - (l.length + 1)) + 1 by omega, List.replicate_succ, List.map_cons, List.set_append_right _ _ (by simp)]
  simp
theorem rowB_size {n : Nat} {l : List UInt8} (h : l.length ≤ n) : (rowB n l).size = n := by simp [rowB, Lib.byteCells]; omega
theorem rowB_some {n : Nat} {l : List UInt8} (i : Nat) (h : l.length ≤ n) (hi : i < n) : ∃ v, (rowB n l)[i]? = some v := ⟨_, Array.getElem?_eq_getElem (by rw [rowB_size h]; exact hi)⟩
theorem rowB_full {n : Nat} {l : List UInt8} (h : l.length = n) : rowB n l = (Lib.byteCells l).toArray := by unfold rowB; rw [show n - l.length = 0 by omega]; simp
theorem bytes_one (l : List UInt8) : (Lib.byteCells l).toArray.all (·.oneCell') = true := by
  rw [Array.all_eq_true_iff_forall_mem]
  intro v hv
  exact Lib.byteCells_one _ v (by simpa using hv)
theorem cells_one (m : Bool) (v : V) (wt : List UInt8) (n : Nat) : (cells m v wt n).all (·.oneCell') = true := by
  rw [Array.all_eq_true_iff_forall_mem]
  intro x hx
  simp only [cells, List.mem_toArray, List.mem_cons, List.mem_append, List.not_mem_nil, or_false] at hx
  rcases hx with rfl | h | h | rfl
  · rfl
  · obtain ⟨y, _, rfl⟩ := List.mem_map.1 h; rfl
  · exact Lib.byteCells_one _ _ h
  · rfl
theorem infoSha {c : Array Value} (h : c.size = 74) : (Tryd.prog.info? 73).map (·.size) = some c.size := by rw [h]; kernel_rfl
theorem infoHash {c : Array Value} (h : c.size = 32) : (Tryd.prog.info? 24).map (·.size) = some c.size := by rw [h]; kernel_rfl
theorem heap_row32 (w : World) : (w.alloc (.cells (rowB 32 []) 24)).heap[w.heap.size]? = some (.cells (rowB 32 []) 24 (0, 0)) := heap_alloc_new w _
def outB (l : List Nat) (i : Nat) : UInt8 := UInt8.ofNat (l.getD (i / 4) 0 / 2 ^ (24 - i % 4 * 8))
theorem outN_eq (l : List Nat) : outN l = (List.range 32).map (outB l) := rfl
theorem range_snoc {f : Nat → UInt8} {k : Nat} : (List.range (k + 1)).map f = (List.range k).map f ++ [f k] := by rw [List.range_succ]; simp
theorem zeroSha : (Tryd.prog.info? 73).map (fun i => (i.zero, i.size)) = some (some (.agg (cells false ⟨0, 0, 0, 0, 0, 0, 0, 0⟩ (List.replicate 64 0) 0)), 74) := by kernel_rfl
theorem zero_made : ∃ zc : Array Value, zc.size = 74 ∧ ∀ w, (zeroValue 73).run Tryd.prog w = .ok (.agg zc) w := ⟨_, cells_size _ _ _ _ (by simp), (zero_of_info zeroSha).1⟩
end Sm

set_option maxRecDepth 100000 in
set_option maxHeartbeats 4000000 in
theorem xsum_any {w : World} {b : Nat} {t : List UInt8} (his : Sm.Is w b t) (hK : Sm.KAt w) (hlen : t.length ≤ 1152921504606846976) (hsz : 1 < w.heap.size) :
    Calls Tryd.prog 23 #[.pointer (some ⟨b, 0, none⟩)] w fun e w' => e = .returned (.agg (Lib.byteCells (Sm.sum t)).toArray) ∧ Below w.heap.size w w' := by
  obtain ⟨wt, hwl, hwt, hat⟩ := his
  have hlt := hat.lt
  have ha1 : ∀ o, (w.alloc o).heap[b]? = some (.cells (Sm.cells true (Sm.st t) wt t.length) 73 (0, 0)) := fun o => by rw [Below.heap_alloc _ _ _ hlt]; exact hat
  have hs74 := Sm.cells_size true (Sm.st t) wt t.length hwl
  have hinfo := Sm.infoSha hs74
  have hone := Sm.cells_one true (Sm.st t) wt t.length
  have hst : ∀ (o : Obj) (c : Array Value), c.size = 74 → (storeCells ⟨w.heap.size + 1, 0, none⟩ (Sm.cells true (Sm.st t) wt t.length).toList).run Tryd.prog ((w.alloc o).alloc (.cells c 73)) = .ok () ((w.alloc o).alloc (.cells (Sm.cells true (Sm.st t) wt t.length) 73)) := fun o c hc => by
    have h := run_storeCells_new (P := Tryd.prog) (w.alloc o) 73 c (Sm.cells true (Sm.st t) wt t.length) hinfo (by rw [hs74]; exact hc) hone
    simpa using h
  have hc0 : ∀ o, (w.alloc o).cell? ⟨b, 0, none⟩ = some (.bool true) := fun o => Sm.At.made (ha1 o)
  have hc73 : ∀ (o o' : Obj), ((w.alloc o).alloc o').cell? ⟨b, 73, none⟩ = some (.int .i64 t.length) := fun o o' =>
    Sm.At.len (w := (w.alloc o).alloc o') (m := true) (v := Sm.st t) (by unfold Sm.At; rw [Below.heap_alloc _ _ _ (by simp; omega)]; exact ha1 o) hwl
  have hnew : ∀ o, ((w.alloc o).alloc (.cells (Sm.cells true (Sm.st t) wt t.length) 73)).heap[w.heap.size + 1]? = some (.cells (Sm.cells true (Sm.st t) wt t.length) 73 (0, 0)) := fun o => by
    have := heap_alloc_new (w.alloc o) (.cells (Sm.cells true (Sm.st t) wt t.length) 73)
    simpa using this
  have HA1 := Lib.hid ha1
  have HNEW := Lib.hid hnew
  have HK := Lib.hid hK
  have HWT := Lib.hid hwt
  have hcs : ∃ cs, cs = Sm.cells true (Sm.st t) wt t.length := ⟨_, rfl⟩
  obtain ⟨cs, hcs⟩ := hcs
  rw [← hcs] at HA1 HNEW hinfo hone hst hs74
  have HCS := Lib.hid hcs
  have H74 := Lib.hid hs74
  clear ha1 hnew hK hwt hat hcs hone
  obtain ⟨zc, hzs, hzv⟩ := Sm.zero_made
  go_enter Tryd.func23, Tryd.ntmps23
  go_wp2_with (with_reducible refine wpList_load_row rfl 73 (.tmp 17) rfl b rfl 73 cs (0, 0) _ (by exact HA1.out _) Tryd.underlying73 rfl (by exact hinfo) ?_)
  refine (padding_any t.length hlen _).mono ?_
  rintro e w3 ⟨rfl, hb3⟩
  obtain ⟨W2, hW2⟩ : ∃ W, W = (w.alloc (.cells (Sm.rowB 32 []) 24)).alloc (.cells cs 73) := ⟨_, rfl⟩
  have hb3' : Below W2.heap.size W2 w3 := by rw [hW2]; exact hb3
  clear hb3
  have hs2 : W2.heap.size = w.heap.size + 1 + 1 := by rw [hW2]; simp
  have hb2 : Below w.heap.size w W2 := by rw [hW2]; exact ((Below.refl _ w).alloc (Nat.le_refl _) _).alloc (by simp) _
  have hr2 : W2.heap[w.heap.size]? = some (.cells (Sm.rowB 32 []) 24 (0, 0)) := by
    rw [hW2, Below.heap_alloc _ _ _ (by simp)]; exact Sm.heap_row32 w
  have hr3 : w3.heap[w.heap.size]? = some (.cells (Sm.rowB 32 []) 24 (0, 0)) := (hb3'.block _ (by omega)).trans hr2
  have hi3 : Sm.Is w3 (w.heap.size + 1) t := ⟨wt, hwl, HWT.out, by
    unfold Sm.At
    rw [hb3'.block _ (by omega), hW2, HNEW.out, HCS.out]⟩
  have hb4 : Below w.heap.size w w3 := hb2.trans (hb3'.mono (by omega))
  have hk4 := HK.out.low hb4 hsz
  have hs3 : w.heap.size + 1 + 1 ≤ w3.heap.size := by have := hb3'.size; omega
  have HR3 := Lib.hid hr3
  have HI3 := Lib.hid hi3
  have HK4 := Lib.hid hk4
  clear hW2 hs2 hb2 hr2 hb3' hr3 hi3 hk4 hst hc0 hc73 hinfo hzs hzv hwl hlt
  go_wp2_with fail
  refine (write_any ⟨(Sm.pad t.length).toArray⟩ HI3.out HK4.out (by omega) (by omega) (by have h := Sm.pad_length t.length; have e : (ByteArray.mk (Sm.pad t.length).toArray).size = (Sm.pad t.length).length := rfl; omega)).mono ?_
  rintro e w5 ⟨rfl, hg5, hi5⟩
  obtain ⟨wt5, hwl5, hwt5, ha5⟩ := hi5
  have HA5 := Lib.hid ha5
  have hr5 : w5.heap[w.heap.size]? = some (.cells (Sm.rowB 32 []) 24 (0, 0)) := (hg5.block _ (Sm.lt_of HR3.out) (by intro e; have := Option.some.inj e; omega)).trans HR3.out
  have HR5 := Lib.hid hr5
  have hb5 : Below w.heap.size w w5 := hb4.trans (Sm.grown_from hg5 (by omega) (by omega))
  have hs5 := Nat.le_trans hs3 hg5.size
  clear ha5 hr5 hg5 hb4 hs3 hwt5
  go_wp2_with fail
  have g1 := Sm.heap_row32 w5
  have g2 : Below w5.heap.size w5 (w5.alloc (.cells (Sm.rowB 32 []) 24)) := (Below.refl _ w5).alloc (Nat.le_refl _) _
  change Code.wp _ _ _ _ (w5.alloc (.cells (Sm.rowB 32 []) 24))
  generalize w5.alloc (.cells (Sm.rowB 32 []) 24) = W6 at *
  have hva := Sm.st_ok (t ++ Sm.pad t.length)
  have HSUM : Hid (Sm.sum t = Sm.outN (Sm.st (t ++ Sm.pad t.length)).l) := rfl
  have HA7 : Hid (Sm.At w5 (w.heap.size + 1) true (Sm.st (t ++ Sm.pad t.length)) wt5 (t ++ Sm.pad t.length).length) := HA5.out
  generalize Sm.st (t ++ Sm.pad t.length) = v5 at *
  generalize (t ++ Sm.pad t.length).length = n5 at *
  clear HA5
  obtain ⟨N1, hN1⟩ : ∃ N, N = w.heap.size + 1 := ⟨_, rfl⟩
  rw [← hN1] at HA7 ⊢
  obtain ⟨N5, hN5⟩ : ∃ N, N = w5.heap.size := ⟨_, rfl⟩
  rw [← hN5] at g1 g2 hs5 ⊢
  have hne15 : N1 ≠ N5 := by omega
  have HN1 := Lib.hid hN1
  have HN5 := Lib.hid hN5
  clear hN1 hN5
  go_loopw [25] (fun i wr => ∃ k : Nat, k ≤ 32 ∧ i = .int .i64 k ∧ wr.heap[N5]? = some (.cells (Sm.rowB 32 ((List.range k).map (Sm.outB v5.l))) 24 (0, 0)) ∧ Below N5 w5 wr) (fun i _ => 32 - (intOf i).toNat)
  case atStart => exact ⟨0, by omega, rfl, g1, g2⟩
  case round =>
    clear g1 g2
    obtain ⟨k, hk, rfl, hrow, hbk⟩ := hrel
    have HR := Lib.hid hrow
    clear hrow
    have haw : Sm.At wr N1 true v5 wt5 n5 := HA7.out.low (by rw [← HN5.out]; exact hbk)
    by_cases hlt : k < 32
    · have cw := haw.word (k / 4) (by omega)
      obtain ⟨old, hold⟩ := Sm.rowB_some (n := 32) (l := (List.range k).map (Sm.outB v5.l)) k (by simp; omega) hlt
      have hold := Sm.cells_of HR.out k old hold
      have hfz := Sm.free_of HR.out k
      have hx : Hid (Sm.outB v5.l k = UInt8.ofNat (v5.l.getD (k / 4) 0 / 2 ^ (24 - k % 4 * 8))) := rfl
      clear haw
      generalize v5.l.getD (k / 4) 0 = x at *
      have hX : ((x : Int) / 2 ^ (24 - k % 4 * 8) % 256) = ((UInt8.ofNat (x / 2 ^ (24 - k % 4 * 8))).toNat : Int) := by
        rw [UInt8.toNat_ofNat']; push_cast; rfl
      have HX := Lib.hid hX
      have hk4 : 0 ≤ 24 - (k : Int) % 4 * 8 := by omega
      clear hX
      go_wp2
      go_roundw
      case rel =>
        refine ⟨k + 1, by omega, by go_num, ?_, ?_⟩
        · have e := Sm.rowB_set (n := 32) (l := (List.range k).map (Sm.outB v5.l)) (by simp; omega) (Sm.outB v5.l k)
          rw [List.length_map, List.length_range] at e
          rw [HX.out, Sm.range_snoc, ← e, hx.out]
          exact Sm.heap_set HR.out k _
        · exact hbk.setCell (p := ⟨N5, k, none⟩) (Nat.le_refl _) _
      case measure => simp [intOf]; omega
    · obtain rfl : k = 32 := by omega
      have hlen32 : ((List.range 32).map (Sm.outB v5.l)).length = 32 := by simp
      have hfull := Sm.rowB_full (n := 32) hlen32
      have hr : wr.heap[N5]? = some (.cells (Lib.byteCells (Sm.sum t)).toArray 24 (0, 0)) := by rw [HR.out, hfull, HSUM.out, Sm.outN_eq]
      have hsz32 : (Lib.byteCells (Sm.sum t)).toArray.size = 32 := by simp [Lib.byteCells, Sm.sum_length]
      have hr0 : wr.heap[w.heap.size]? = some (.cells (Sm.rowB 32 []) 24 (0, 0)) := (hbk.block _ (by omega)).trans HR5.out
      have HR8 := Lib.hid hr
      have HR0 := Lib.hid hr0
      have hone := Sm.bytes_one (Sm.sum t)
      have hz32 : (Sm.rowB 32 []).size = (Lib.byteCells (Sm.sum t)).toArray.size := by rw [hsz32]; exact Sm.rowB_size (by simp)
      clear hr hr0 haw hfull hlen32
      obtain ⟨cs2, hcs2⟩ : ∃ c, c = (Lib.byteCells (Sm.sum t)).toArray := ⟨_, rfl⟩
      rw [← hcs2] at HR8 hsz32 hone hz32
      have HC2 := Lib.hid hcs2
      clear hcs2
      go_wp2_with (first | (with_reducible refine wpList_load_row rfl 24 (.tmp 4) rfl N5 rfl 24 cs2 (0, 0) _ (by exact HR8.out) Tryd.underlying24 rfl (Sm.infoHash hsz32) ?_) | (with_reducible refine wpList_store_row rfl 24 (.tmp 2) (.tmp 42) rfl w.heap.size cs2 rfl rfl 24 _ (by exact HR0.out) (Sm.infoHash hsz32) hz32 hone ?_))
      exact bodyPost_ret (v := .agg cs2) (results_cell_row rfl _ _ w.heap.size 24 _ (0, 0) _ rfl (setRow_heap _ w.heap.size _ _ _ _ HR0.out) Tryd.underlying24 rfl (Sm.infoHash hsz32)) rfl ⟨by rw [HC2.out], Sm.below_setRow (hb5.trans (hbk.mono (by omega))) (Nat.le_refl _) _⟩
end Go.Proofs.YtkijdpgdniaagaaDoor
