/-
  ShaPieces answers true for all pieces, and turns nothing of what was there.
-/
import Derived.Test.YtkijdpgdniaagaaDoorShGreat
import Derived.Deep.RegionHeld3
namespace Go.Proofs.YtkijdpgdniaagaaDoor
open Go.RowKit

theorem range_of {w : World} {h : Nat} {cs : List Value} {t : TypeId} (hb : w.heap[h]? = some (.cells cs.toArray t (0, 0))) : w.rangeAt h 0 cs := fun j v hv => by
  rw [Nat.zero_add]
  exact Sm.cells_of hb j v (by rw [List.getElem?_toArray]; exact hv)

set_option maxRecDepth 100000 in
set_option maxHeartbeats 8000000 in
theorem pieces_any {w : World} (hH : Sm.HAt w) (hK : Sm.KAt w) (hsz : 1 < w.heap.size) (A : Option Addr) (c : Nat) (l : List ByteArray)
    (hl : l.length ≤ 9223372036854775807) (hsl : ∀ i, (l.getD i ByteArray.empty).size ≤ 9223372036854775807) (hil : Sm.strsAt w A l) :
    Calls Tryd.prog 6 #[.slice A l.length c] w fun e w' => e = .returned (.bool true) ∧ Below w.heap.size w w' := by
  have HH := Lib.hid hH
  have HK := Lib.hid hK
  have HIL := Lib.hid hil
  have HSL := Lib.hid hsl
  clear hH hK hil hsl
  go_enter Tryd.func6, Tryd.ntmps6
  go_wp2_with fail
  refine (awake_any HH.out HK.out hsz).mono ?_
  rintro e w1 ⟨rfl, b1⟩
  have hs1 := b1.size
  have hil1 : Sm.strsAt w1 A l := by
    rcases HIL.out with h | ⟨b, o, h1, h2, h3⟩
    · exact .inl h
    · exact .inr ⟨b, o, h1, by omega, fun i hi => (b1.cell (p := ⟨b, o + i, none⟩) h2).trans (h3 i hi)⟩
  go_wp2_with fail
  refine (great_any A c l hl HSL.out hil1).mono ?_
  rintro e w2 ⟨⟨g, rfl, hg⟩, rfl⟩
  clear hil1
  cases g
  case true =>
    go_wp2
    go_ret
    exact ⟨rfl, b1⟩
  case false =>
    obtain ⟨hl2, hp2⟩ := hg rfl
    have HP := Lib.hid hp2
    clear hg hp2
    go_wp2_with fail
    refine (new_any w1 (HH.out.low b1 (by omega))).mono ?_
    rintro e w2 ⟨rfl, rfl⟩
    have b2 : Below w.heap.size w (w1.alloc Sm.fresh) := b1.alloc hs1 _
    have i2 := Sm.is_new w1
    generalize w1.alloc Sm.fresh = w2 at *
    go_wp2_with fail
    obtain ⟨X, hX⟩ : ∃ X, X = w1.heap.size := ⟨_, rfl⟩
    rw [← hX] at i2 ⊢
    have hXw : w.heap.size ≤ X := by omega
    clear hX b1 hs1
    go_loopw [4, 5] (fun a i wr => ∃ (k : Nat) (SA : ByteArray), k ≤ l.length ∧ i = .int .i64 k ∧ a = .string SA ∧ SA.size ≤ 20000 * k ∧ Sm.Is wr X SA.data.toList ∧ Below w.heap.size w wr) (fun _ i _ => l.length - (intOf i).toNat)
    case atStart => exact ⟨0, ⟨#[]⟩, by omega, rfl, rfl, by decide, i2, b2⟩
    case round =>
      clear i2 b2
      obtain ⟨k, SA, hk, rfl, rfl, hSA, ix, hbk⟩ := hrel
      have IX := Lib.hid ix
      have hbs := hbk.size
      have eA : SA.data.toList.length = SA.size := rfl
      have hlA : Hid (SA.data.toList.length ≤ 5000000) := by show _ ≤ _; omega
      clear ix eA
      by_cases hlt : k < l.length
      · have h1i : (k : Int) < l.length := by omega
        rcases HIL.out with h0 | ⟨b, o, rfl, hb, hcs⟩
        · rw [h0] at hlt; simp at hlt
        · have hc : wr.cell? ⟨b, o + k, none⟩ = some (.string (l.getD k ByteArray.empty)) := (hbk.cell (p := ⟨b, o + k, none⟩) hb).trans (hcs k hlt)
          have hpz := HP.out k hlt
          have HCS := Lib.hid hcs
          clear hcs
          generalize l.getD k ByteArray.empty = p at *
          go_wp2_with fail
          refine (write_any p IX.out (HK.out.low hbk hsz) (by omega) (by omega) (by have := hlA.out; omega)).mono ?_
          rintro e w6 ⟨rfl, g6, i6⟩
          have b6 := Sm.grown_low hbk (Nat.le_refl _) g6 hXw
          have hs6 := b6.size
          have hc6 : w6.cell? ⟨b, o + k, none⟩ = some (.string p) := (Sm.grown_cell g6 (by omega) (by omega)).trans hc
          rw [← append_data] at i6
          have I6 := Lib.hid i6
          clear i6 g6
          go_wp2_with fail
          have hsS : (SA ++ p).size ≤ 5000000 := by rw [append_size]; omega
          have hSS : Hid ((SA ++ p).size ≤ 20000 * (k + 1)) := by show _ ≤ _; rw [append_size]; omega
          have hlS : (SA ++ p).data.toList.length = (SA ++ p).size := rfl
          obtain ⟨S, hS⟩ : ∃ S, S = SA ++ p := ⟨_, rfl⟩
          rw [← hS] at I6 hsS hSS hlS ⊢
          clear hS
          refine (xsum_any I6.out (HK.out.low b6 hsz) (by omega) (by omega)).mono ?_
          rintro e w7 ⟨rfl, k7⟩
          have b7 := Sm.low_low b6 (Nat.le_refl _) k7
          have hs7 := k7.size
          have I7 := Lib.hid (I6.out.low k7)
          have hc7 : w7.cell? ⟨b, o + k, none⟩ = some (.string p) := (k7.cell (p := ⟨b, o + k, none⟩) (by show b < _; omega)).trans hc6
          have hsz32 : (Lib.byteCells (Sm.sum S.data.toList)).toArray.size = 32 := by simp [Lib.byteCells, Sm.sum_length]
          have hone := Sm.bytes_one (Sm.sum S.data.toList)
          have hst : ∀ (c : Array Value), c.size = 32 → (storeCells ⟨w7.heap.size, 0, none⟩ (Lib.byteCells (Sm.sum S.data.toList)).toArray.toList).run Tryd.prog (w7.alloc (.cells c 24)) = .ok () (w7.alloc (.cells (Lib.byteCells (Sm.sum S.data.toList)).toArray 24)) := fun c hc =>
            run_storeCells_new (P := Tryd.prog) w7 24 c _ (Sm.infoHash hsz32) (by rw [hsz32]; exact hc) hone
          have heq := fun w' => Sm.eq_hash (Sm.sum S.data.toList) (Sm.sum S.data.toList) (Sm.sum_length _) (Sm.sum_length _) w'
          rw [beq_self_eq_true] at heq
          have HEQ := Lib.hid heq
          have hinfo := Sm.infoHash hsz32
          obtain ⟨cl, hcs⟩ : ∃ cl, cl = Lib.byteCells (Sm.sum S.data.toList) := ⟨_, rfl⟩
          rw [← hcs] at hst hsz32 HEQ hinfo ⊢
          have HC := Lib.hid hcs
          have H8 := Lib.hid (heap_alloc_new w7 (.cells cl.toArray 24))
          have b8 : Below w.heap.size w (w7.alloc (.cells cl.toArray 24)) := b7.alloc b7.size _
          have k8 : Below w7.heap.size w7 (w7.alloc (.cells cl.toArray 24)) := (Below.refl _ w7).alloc (Nat.le_refl _) _
          have I8 := Lib.hid (I7.out.low k8)
          have C8 := Lib.hid ((k8.cell (p := ⟨b, o + k, none⟩) (by show b < _; omega)).trans hc7)
          have hs8 : w7.heap.size < (w7.alloc (.cells cl.toArray 24)).heap.size := by simp
          clear hcs heq hone k7 k8 hc hc6
          go_wp2_with fail
          clear hst hc7
          generalize w7.alloc (.cells cl.toArray 24) = w8 at *
          generalize w7.heap.size = H at *
          have hund : Tryd.prog.underlying 24 = some (.array 32 5) := Tryd.underlying24
          have hcl : (Tryd.prog.info? 24).map (·.size) = some cl.length := by rw [hinfo]; simp
          have hlen2 : ∀ w' : World, Sm.Is w' X S.data.toList → Calls Tryd.prog 24 #[.pointer (some ⟨X, 0, none⟩)] w' fun e w'' => e = .returned (.int .i64 S.size) ∧ w' = w'' := fun w' hi => len_any hi
          have HLEN := Lib.hid hlen2
          have B8 := Lib.hid b8
          have HS8 := Lib.hid hs8
          have hHw : w.heap.size ≤ H := by omega
          have heq2 := HEQ.out
          clear hlen2 b8 hs8
          have hss : S.size ≤ 1152921504606846976 := by omega
          have B8d : Hid (Below w.heap.size w w8.drew) := B8.out.drew
          have hsu := sum_any S (w := w8.drew) (HH.out.low B8d.out (by omega)) (HK.out.low B8d.out hsz) (Nat.lt_of_lt_of_le hsz B8d.out.size) hss
          rw [← HC.out] at hsu
          have SUM8 := Lib.hid hsu
          have C8d : Hid (w8.drew.cell? ⟨b, o + k, none⟩ = some (.string p)) := C8.out
          have H8d : Hid (w8.drew.heap[H]? = some (.cells cl.toArray 24 (0, 0))) := H8.out
          have I8d : Hid (Sm.Is w8.drew X S.data.toList) := I8.out
          have HB8 : Hid (b < w8.drew.heap.size) := Nat.lt_of_lt_of_le hb B8.out.size
          have HS8d : Hid (H < w8.drew.heap.size) := HS8.out
          have HUND := Lib.hid hund
          have HCL := Lib.hid hcl
          have i1 : (0 : Int) ≤ k := by omega
          have hll : (k : Int) < l.length := h1i
          clear hsu hund hcl
          refine wp_region_noPanic ?_
          refine wp_region_held_drew (S := fun w' => w'.cell? ⟨b, o + k, none⟩ = some (.string p) ∧ w'.rangeAt H 0 cl) (by kernel_rfl) ⟨C8d.out, range_of H8d.out⟩ (fun hHeld => ?_)
          refine wpAnyH_take (i := 0) (oi := ⟨some 33, _, _, _, _, _⟩) (v := .int .i64 p.size) rfl (by kernel_rfl) (by kernel_rfl) (by kernel_rfl) (fun _ _ _ h => h) (Or.inl ⟨by rfl, ?_⟩) (by assumption) ?_
          · intro w hSw; (try dsimp only at hSw); go_simp
          simp only [Act.put, List.setIfInBounds_toArray, List.set_cons_zero, List.set_cons_succ]
          refine wpAnyH_take (i := 1) (oi := ⟨some 34, _, _, _, _, _⟩) (v := .slice (some ⟨b, o, none⟩) l.length c) rfl (by kernel_rfl) (by kernel_rfl) (by kernel_rfl) (fun _ _ _ h => h) (Or.inl ⟨by rfl, ?_⟩) (by assumption) ?_
          · intro w hSw; (try dsimp only at hSw); go_simp
          simp only [Act.put, List.setIfInBounds_toArray, List.set_cons_zero, List.set_cons_succ]
          refine wpAnyH_take (i := 2) (oi := ⟨some 35, _, _, _, _, _⟩) (v := .int .i64 k) rfl (by kernel_rfl) (by kernel_rfl) (by kernel_rfl) (fun _ _ _ h => h) (Or.inl ⟨by rfl, ?_⟩) (by assumption) ?_
          · intro w hSw; (try dsimp only at hSw); go_simp
          simp only [Act.put, List.setIfInBounds_toArray, List.set_cons_zero, List.set_cons_succ]
          refine wpAnyH_take (i := 3) (oi := ⟨some 36, _, _, _, _, _⟩) (v := .pointer (some ⟨b, o + k, none⟩)) rfl (by kernel_rfl) (by kernel_rfl) (by kernel_rfl) (fun _ _ _ h => h) (Or.inl ⟨by rfl, ?_⟩) (by assumption) ?_
          · intro w hSw; (try dsimp only at hSw); go_simp
          simp only [Act.put, List.setIfInBounds_toArray, List.set_cons_zero, List.set_cons_succ]
          refine wpAnyH_take (i := 4) (oi := ⟨some 37, _, _, _, _, _⟩) (v := .string p) rfl (by kernel_rfl) (by kernel_rfl) (by kernel_rfl) (fun _ _ _ h => h) (Or.inl ⟨by rfl, ?_⟩) (by assumption) ?_
          · intro w hSw; (try dsimp only at hSw); go_simp
          simp only [Act.put, List.setIfInBounds_toArray, List.set_cons_zero, List.set_cons_succ]
          refine wpAnyH_take (i := 5) (oi := ⟨some 38, _, _, _, _, _⟩) (v := .int .i64 p.size) rfl (by kernel_rfl) (by kernel_rfl) (by kernel_rfl) (fun _ _ _ h => h) (Or.inl ⟨by rfl, ?_⟩) (by assumption) ?_
          · intro w hSw; (try dsimp only at hSw); go_simp
          simp only [Act.put, List.setIfInBounds_toArray, List.set_cons_zero, List.set_cons_succ]
          refine wpAnyH_take (i := 6) (oi := ⟨some 39, _, _, _, _, _⟩) (v := .bool false) rfl (by kernel_rfl) (by kernel_rfl) (by kernel_rfl) (fun _ _ _ h => h) (Or.inl ⟨by rfl, ?_⟩) (by assumption) ?_
          · intro w hSw; (try dsimp only at hSw); go_simp
          simp only [Act.put, List.setIfInBounds_toArray, List.set_cons_zero, List.set_cons_succ]
          refine wpAnyH_take (i := 7) (oi := ⟨some 40, _, _, _, _, _⟩) (v := .bool false) rfl (by kernel_rfl) (by kernel_rfl) (by kernel_rfl) (fun _ _ _ h => h) (Or.inl ⟨by rfl, ?_⟩) (by assumption) ?_
          · intro w hSw; (try dsimp only at hSw); go_simp
          simp only [Act.put, List.setIfInBounds_toArray, List.set_cons_zero, List.set_cons_succ]
          refine wpAnyH_take (i := 8) (oi := ⟨some 41, _, _, _, _, _⟩) (v := .pointer (some ⟨X, 0, none⟩)) rfl (by kernel_rfl) (by kernel_rfl) (by kernel_rfl) (fun _ _ _ h => h) (Or.inl ⟨by rfl, ?_⟩) (by assumption) ?_
          · intro w hSw; (try dsimp only at hSw); go_simp
          simp only [Act.put, List.setIfInBounds_toArray, List.set_cons_zero, List.set_cons_succ]
          refine wpAnyH_take (i := 10) (oi := ⟨some 43, _, _, _, _, _⟩) (v := .string S) rfl (by kernel_rfl) (by kernel_rfl) (by kernel_rfl) (fun _ _ _ h => h) (Or.inl ⟨by rfl, ?_⟩) (by assumption) ?_
          · intro w hSw; (try dsimp only at hSw); go_simp
          simp only [Act.put, List.setIfInBounds_toArray, List.set_cons_zero, List.set_cons_succ]
          refine wpAnyH_take (i := 11) (oi := ⟨some 44, _, _, _, _, _⟩) (v := .int .i64 S.size) rfl (by kernel_rfl) (by kernel_rfl) (by kernel_rfl) (fun _ _ _ h => h) (Or.inl ⟨by rfl, ?_⟩) (by assumption) ?_
          · intro w hSw; (try dsimp only at hSw); go_simp
          simp only [Act.put, List.setIfInBounds_toArray, List.set_cons_zero, List.set_cons_succ]
          refine wpAnyH_ready (rs := [9]) (by kernel_rfl) (by simp) ?_
          refine AllReadyH.cons (o := ⟨some 42, _, _, _, _, _⟩) rfl (fun K hK => ?_) AllReadyH.nil
          go_simp
          refine (HLEN.out _ (by exact I8d.out)).mono ?_
          rintro e w' ⟨rfl, rfl⟩
          refine hK.out _ _ ⟨C8d.out, range_of H8d.out⟩ (fun hHeld => ?_)
          clear hK K
          refine wpAnyH_take (i := 12) (oi := ⟨some 45, _, _, _, _, _⟩) (v := .bool false) rfl (by kernel_rfl) (by kernel_rfl) (by kernel_rfl) (fun _ _ _ h => h) (Or.inl ⟨by rfl, ?_⟩) (by assumption) ?_
          · intro w hSw; (try dsimp only at hSw); go_simp
          simp only [Act.put, List.setIfInBounds_toArray, List.set_cons_zero, List.set_cons_succ]
          refine wpAnyH_take (i := 13) (oi := ⟨some 46, _, _, _, _, _⟩) (v := .bool false) rfl (by kernel_rfl) (by kernel_rfl) (by kernel_rfl) (fun _ _ _ h => h) (Or.inl ⟨by rfl, ?_⟩) (by assumption) ?_
          · intro w hSw; (try dsimp only at hSw); go_simp
          simp only [Act.put, List.setIfInBounds_toArray, List.set_cons_zero, List.set_cons_succ]
          refine wpAnyH_take (i := 14) (oi := ⟨some 47, _, _, _, _, _⟩) (v := .bool false) rfl (by kernel_rfl) (by kernel_rfl) (by kernel_rfl) (fun _ _ _ h => h) (Or.inl ⟨by rfl, ?_⟩) (by assumption) ?_
          · intro w hSw; (try dsimp only at hSw); go_simp
          simp only [Act.put, List.setIfInBounds_toArray, List.set_cons_zero, List.set_cons_succ]
          refine wpAnyH_take (i := 15) (oi := ⟨some 48, _, _, _, _, _⟩) (v := .agg cl.toArray) rfl (by kernel_rfl) (by kernel_rfl) (by kernel_rfl) (fun _ _ _ h => h) (yieldsIf_load_mid (by rfl) _ _ rfl _ _ rfl cl _ (fun w hS => hS.2) HUND.out rfl HCL.out) (by assumption) ?_
          simp only [Act.put, List.setIfInBounds_toArray, List.set_cons_zero, List.set_cons_succ]
          refine wpAnyH_take (i := 16) (oi := ⟨some 49, _, _, _, _, _⟩) (v := .string S) rfl (by kernel_rfl) (by kernel_rfl) (by kernel_rfl) (fun _ _ _ h => h) (Or.inl ⟨by rfl, ?_⟩) (by assumption) ?_
          · intro w hSw; (try dsimp only at hSw); go_simp
          simp only [Act.put, List.setIfInBounds_toArray, List.set_cons_zero, List.set_cons_succ]
          refine wpAnyH_ready (rs := [17]) (by kernel_rfl) (by simp) ?_
          refine AllReadyH.cons (o := ⟨some 50, _, _, _, _, _⟩) rfl (fun K hK => ?_) AllReadyH.nil
          go_simp
          refine (SUM8.out).mono ?_
          rintro e w9 ⟨rfl, k9⟩
          have C9 := Lib.hid ((k9.cell (p := ⟨b, o + k, none⟩) HB8.out).trans C8d.out)
          have H9 := Lib.hid ((k9.block H HS8d.out).trans H8d.out)
          have I9 := Lib.hid (Sm.Is.low I8d.out k9)
          have B9 := Lib.hid (Sm.low_low B8d.out (Nat.le_refl _) k9)
          clear k9
          refine hK.out _ _ ⟨C9.out, range_of H9.out⟩ (fun hHeld => ?_)
          clear hK K
          refine wpAnyH_take (i := 18) (oi := ⟨some 51, _, _, _, _, _⟩) (v := .bool false) rfl (by kernel_rfl) (by kernel_rfl) (by kernel_rfl) (fun _ _ _ h => h) (Or.inl ⟨by rfl, ?_⟩) (by assumption) ?_
          · intro w hSw; (try dsimp only at hSw); go_simp
          simp only [Act.put, List.setIfInBounds_toArray, List.set_cons_zero, List.set_cons_succ]
          refine wpAnyH_take (i := 19) (oi := ⟨some 52, _, _, _, _, _⟩) (v := .bool false) rfl (by kernel_rfl) (by kernel_rfl) (by kernel_rfl) (fun _ _ _ h => h) (Or.inl ⟨by rfl, ?_⟩) (by assumption) ?_
          · intro w hSw; (try dsimp only at hSw); go_simp
          simp only [Act.put, List.setIfInBounds_toArray, List.set_cons_zero, List.set_cons_succ]
          refine wpAnyH_take (i := 20) (oi := ⟨some 53, _, _, _, _, _⟩) (v := .bool false) rfl (by kernel_rfl) (by kernel_rfl) (by kernel_rfl) (fun _ _ _ h => h) (Or.inl ⟨by rfl, ?_⟩) (by assumption) ?_
          · intro w hSw; (try dsimp only at hSw); go_simp
          simp only [Act.put, List.setIfInBounds_toArray, List.set_cons_zero, List.set_cons_succ]
          refine wpAnyH_take (i := 21) (oi := ⟨some 54, _, _, _, _, _⟩) (v := .pointer (some ⟨X, 0, none⟩)) rfl (by kernel_rfl) (by kernel_rfl) (by kernel_rfl) (fun _ _ _ h => h) (Or.inl ⟨by rfl, ?_⟩) (by assumption) ?_
          · intro w hSw; (try dsimp only at hSw); go_simp
          simp only [Act.put, List.setIfInBounds_toArray, List.set_cons_zero, List.set_cons_succ]
          refine wpAnyH_take (i := 23) (oi := ⟨some 56, _, _, _, _, _⟩) (v := .agg cl.toArray) rfl (by kernel_rfl) (by kernel_rfl) (by kernel_rfl) (fun _ _ _ h => h) (yieldsIf_load_mid (by rfl) _ _ rfl _ _ rfl cl _ (fun w hS => hS.2) HUND.out rfl HCL.out) (by assumption) ?_
          simp only [Act.put, List.setIfInBounds_toArray, List.set_cons_zero, List.set_cons_succ]
          have hxs := xsum_any I9.out (by exact HK.out.low B9.out hsz) (by omega) (by exact Nat.lt_of_lt_of_le hsz B9.out.size)
          rw [← HC.out] at hxs
          have XS9 := Lib.hid hxs
          clear hxs
          refine wpAnyH_ready (rs := [22]) (by kernel_rfl) (by simp) ?_
          refine AllReadyH.cons (o := ⟨some 55, _, _, _, _, _⟩) rfl (fun K hK => ?_) AllReadyH.nil
          go_simp
          refine (XS9.out).mono ?_
          rintro e w10 ⟨rfl, k10⟩
          have C10 := Lib.hid ((k10.cell (p := ⟨b, o + k, none⟩) (by exact Nat.lt_of_lt_of_le hb B9.out.size)).trans C9.out)
          have H10 := Lib.hid ((k10.block H (Sm.lt_of H9.out)).trans H9.out)
          have I10 := Lib.hid (I9.out.low k10)
          have B10 := Lib.hid (Sm.low_low B9.out (Nat.le_refl _) k10)
          clear k10
          refine hK.out _ _ ⟨C10.out, range_of H10.out⟩ (fun hHeld => ?_)
          clear hK K
          refine wpAnyH_take (i := 24) (oi := ⟨some 57, _, _, _, _, _⟩) (v := .bool false) rfl (by kernel_rfl) (by kernel_rfl) (by kernel_rfl) (fun _ _ _ h => h) (Or.inl ⟨by rfl, ?_⟩) (by assumption) ?_
          · intro w hSw; (try dsimp only at hSw); go_simp
          simp only [Act.put, List.setIfInBounds_toArray, List.set_cons_zero, List.set_cons_succ]
          refine wpAnyH_take (i := 25) (oi := ⟨some 58, _, _, _, _, _⟩) (v := .bool false) rfl (by kernel_rfl) (by kernel_rfl) (by kernel_rfl) (fun _ _ _ h => h) (Or.inl ⟨by rfl, ?_⟩) (by assumption) ?_
          · intro w hSw; (try dsimp only at hSw); go_simp
          simp only [Act.put, List.setIfInBounds_toArray, List.set_cons_zero, List.set_cons_succ]
          refine wpAnyH_done (by kernel_rfl) ?_ _
          refine NoPanic.normal ?_
          go_wp2
          go_roundw
          case rel => exact ⟨k + 1, S, by omega, by go_num, rfl, hSS.out, I10.out, B10.out⟩
          case measure => simp [intOf]; omega
      · go_wp2_with fail
        have heq := fun w' => Sm.eq_hash (Sm.sum SA.data.toList) (Sm.sum SA.data.toList) (Sm.sum_length _) (Sm.sum_length _) w'
        rw [beq_self_eq_true] at heq
        have HEQ := Lib.hid heq
        clear heq
        refine (xsum_any IX.out (HK.out.low hbk hsz) (by have := hlA.out; omega) (by omega)).mono ?_
        rintro e w6 ⟨rfl, k6⟩
        have b6 := Sm.low_low hbk (Nat.le_refl _) k6
        have hs6 := k6.size
        clear k6
        go_wp2_with fail
        refine (sum_any SA (HH.out.low b6 (by omega)) (HK.out.low b6 hsz) (by omega) (by omega)).mono ?_
        rintro e w7 ⟨rfl, k7⟩
        have b7 := Sm.low_low b6 (Nat.le_refl _) k7
        have e7 := HEQ.out w7
        go_wp2
        go_ret
        exact ⟨rfl, b7⟩
end Go.Proofs.YtkijdpgdniaagaaDoor
