/-
  MacEqual answers true for all hashes, places and bytes, and turns nothing of what was there.
-/
import Derived.Test.YtkijdpgdniaagaaDoorMcAwake
namespace Go.Proofs.YtkijdpgdniaagaaDoor
open Go.RowKit
namespace Sm
theorem xor_self_iff (x v : UInt8) : x ^^^ v = x ↔ v = 0 := by
  constructor
  · intro h
    have h2 : x ^^^ (x ^^^ v) = x ^^^ x := by rw [h]
    rw [← UInt8.xor_assoc, UInt8.xor_self, UInt8.zero_xor] at h2
    exact h2
  · rintro rfl; simp
theorem set_same_iff (l : List UInt8) (i : Nat) (h : i < l.length) (v : UInt8) : l.set i (l.getD i 0 ^^^ v) = l ↔ v = 0 := by
  have hg : l.getD i 0 = l[i] := by rw [List.getD_eq_getElem?_getD, List.getElem?_eq_getElem h]; rfl
  constructor
  · intro e
    have e2 : (l.set i (l.getD i 0 ^^^ v))[i]? = l[i]? := by rw [e]
    rw [List.getElem?_set_self h, List.getElem?_eq_getElem h] at e2
    have e3 := Option.some.inj e2
    rw [hg] at e3
    exact (xor_self_iff _ _).1 e3
  · rintro rfl
    rw [hg]
    simp
end Sm

set_option maxRecDepth 100000 in
set_option maxHeartbeats 4000000 in
theorem maceq_any (l : List UInt8) (hl : l.length = 32) (p v : UInt8) {w : World} (hH : Sm.HAt w) (hK : Sm.KAt w) (hsz : 1 < w.heap.size) :
    Calls Tryd.prog 13 #[.agg (Lib.byteCells l).toArray, .int .u8 p.toNat, .int .u8 v.toNat] w fun e w' => e = .returned (.bool true) ∧ Below w.heap.size w w' := by
  have hi32 : p.toNat % 32 < 32 := by omega
  obtain ⟨x, hx0⟩ : ∃ x, x = l.getD (p.toNat % 32) 0 := ⟨_, rfl⟩
  have hse := Sm.set_same_iff l (p.toNat % 32) (by omega) v
  have hbl : (l.set (p.toNat % 32) (x ^^^ v)).length = 32 := by rw [List.length_set, hl]
  have hbs := Sm.bytes_set l (p.toNat % 32) (x ^^^ v)
  have HX := Lib.hid (Sm.w_xor8 x v)
  have hxb := byte_fits x
  have hvb := byte_fits v
  have hpb := byte_fits p
  have hcell : ∀ (wx : World) (N : Nat), wx.heap[N]? = some (.cells (Lib.byteCells l).toArray 24 (0, 0)) → wx.cell? ⟨N, p.toNat % 32, none⟩ = some (.int .u8 x.toNat) := fun wx N h => by rw [hx0]; exact Sm.row_cell h _ (by omega)
  have HCELL := Lib.hid hcell
  rw [← hx0] at hse
  obtain ⟨bl, hb⟩ : ∃ b, b = l.set (p.toNat % 32) (x ^^^ v) := ⟨_, rfl⟩
  rw [← hb] at hse hbl hbs
  have E1 : Hid (∀ wx : World, Calls Tryd.prog 29 #[.agg (Lib.byteCells l).toArray, .agg (Lib.byteCells bl).toArray] wx fun e w' => e = .returned (.bool (l == bl)) ∧ Below wx.heap.size wx w') := fun wx => equal_any l bl hl hbl wx
  have E2 : Hid (∀ wx : World, Calls Tryd.prog 29 #[.agg (Lib.byteCells bl).toArray, .agg (Lib.byteCells l).toArray] wx fun e w' => e = .returned (.bool (bl == l)) ∧ Below wx.heap.size wx w') := fun wx => equal_any bl l hbl hl wx
  have E3 : Hid (∀ wx : World, Calls Tryd.prog 29 #[.agg (Lib.byteCells l).toArray, .agg (Lib.byteCells l).toArray] wx fun e w' => e = .returned (.bool (l == l)) ∧ Below wx.heap.size wx w') := fun wx => equal_any l l hl hl wx
  have HSE := Lib.hid hse
  have hsz32 : (Lib.byteCells l).toArray.size = 32 := by rw [Sm.bytes_size, hl]
  have hszb : (Lib.byteCells bl).toArray.size = 32 := by rw [Sm.bytes_size, hbl]
  have hone := Sm.bytes_one l
  have HH := Lib.hid hH
  have HK := Lib.hid hK
  clear hse hcell hb hx0 hH hK
  obtain ⟨cl, hcl⟩ : ∃ c, c = Lib.byteCells l := ⟨_, rfl⟩
  obtain ⟨cb, hcb⟩ : ∃ c, c = Lib.byteCells bl := ⟨_, rfl⟩
  rw [← hcl] at E1 E2 E3 hsz32 hone HCELL hbs ⊢
  rw [← hcb] at E1 E2 hszb hbs
  have HBS := Lib.hid hbs
  clear hcl hcb hbs
  go_enter Tryd.func13, Tryd.ntmps13
  have b1 : Below w.heap.size w (w.alloc (.cells cl.toArray 24)) := (Below.refl _ w).alloc (Nat.le_refl _) _
  have r1 := heap_alloc_new w (.cells cl.toArray 24)
  have s1 : w.heap.size < (w.alloc (.cells cl.toArray 24)).heap.size := by simp
  go_wp2_with fail
  generalize w.alloc (.cells cl.toArray 24) = W1 at *
  refine (awake3_any (HH.out.low b1 (by omega)) (HK.out.low b1 hsz) (by omega)).mono ?_
  rintro e W2 ⟨rfl, k2⟩
  have b2 := Sm.low_low b1 (Nat.le_refl _) k2
  have r2 := (k2.block w.heap.size s1).trans r1
  have s2 := k2.size
  clear k2 r1 b1
  have hst : ∀ (c : Array Value), c.size = 32 → (storeCells ⟨W2.heap.size, 0, none⟩ cl.toArray.toList).run Tryd.prog (W2.alloc (.cells c 24)) = .ok () (W2.alloc (.cells cl.toArray 24)) := fun c hc =>
    run_storeCells_new (P := Tryd.prog) W2 24 c _ (Sm.infoHash hsz32) (by rw [hsz32]; exact hc) hone
  have b3 : Below w.heap.size w (W2.alloc (.cells cl.toArray 24)) := b2.alloc b2.size _
  have r3 : (W2.alloc (.cells cl.toArray 24)).heap[w.heap.size]? = some (.cells cl.toArray 24 (0, 0)) := by
    rw [Below.heap_alloc _ _ _ (Sm.lt_of r2)]; exact r2
  have q3 := heap_alloc_new W2 (.cells cl.toArray 24)
  have s3 : (W2.alloc (.cells cl.toArray 24)).heap.size = W2.heap.size + 1 := by simp
  have HR2 := Lib.hid r2
  clear r2
  go_upto_region 4 with (first | (with_reducible refine wpList_load_row rfl 24 (.tmp 3) rfl w.heap.size rfl 24 cl.toArray (0, 0) _ (by exact HR2.out) Tryd.underlying24 rfl (Sm.infoHash hsz32) ?_))
  clear hst
  generalize W2.alloc (.cells cl.toArray 24) = W3 at *
  have hne : w.heap.size ≠ W2.heap.size := by omega
  obtain ⟨N2, hN2⟩ : ∃ N, N = W2.heap.size := ⟨_, rfl⟩
  rw [← hN2] at q3 s3 hne ⊢
  have c3 := HCELL.out W3 N2 q3
  have f3 := Sm.free_of q3 (p.toNat % 32)
  have HR3 := Lib.hid r3
  have HQ3 := Lib.hid q3
  have hle2 : w.heap.size ≤ N2 := by omega
  clear r3 q3 hN2 b2
  go_upto_region 5 with (fail)
  have q4 : (W3.setCell ⟨N2, p.toNat % 32, none⟩ (.int .u8 (bits .xor .u8 (x.toNat : Int) (v.toNat : Int)))).heap[N2]? = some (.cells cb.toArray 24 (0, 0)) := by
    rw [HX.out, ← HBS.out]; exact Sm.heap_set HQ3.out _ _
  have r4 : (W3.setCell ⟨N2, p.toNat % 32, none⟩ (.int .u8 (bits .xor .u8 (x.toNat : Int) (v.toNat : Int)))).heap[w.heap.size]? = some (.cells cl.toArray 24 (0, 0)) :=
    (Below.heap_setCell _ _ _ _ hne).trans HR3.out
  have b4 : Below w.heap.size w (W3.setCell ⟨N2, p.toNat % 32, none⟩ (.int .u8 (bits .xor .u8 (x.toNat : Int) (v.toNat : Int)))) := b3.setCell (p := ⟨N2, p.toNat % 32, none⟩) hle2 _
  generalize W3.setCell ⟨N2, p.toNat % 32, none⟩ (.int .u8 (bits .xor .u8 (x.toNat : Int) (v.toNat : Int))) = W4 at *
  generalize bits .xor .u8 (x.toNat : Int) (v.toNat : Int) = y at *
  have hund : Tryd.prog.underlying 24 = some (.array 32 5) := Tryd.underlying24
  have hicl : (Tryd.prog.info? 24).map (·.size) = some cl.length := by rw [Sm.infoHash hsz32]; simp
  have hicb : (Tryd.prog.info? 24).map (·.size) = some cb.length := by rw [Sm.infoHash hszb]; simp
  obtain ⟨N1, hN1⟩ : ∃ N, N = w.heap.size := ⟨_, rfl⟩
  rw [← hN1] at r4 b4 hne ⊢
  have hN1le : N1 ≤ w.heap.size := by omega
  have HN1 := Lib.hid hN1
  clear hN1
  by_cases hv : v = 0
  · have hbl2 : bl = l := HSE.out.2 hv
    have hvz : v.toNat = 0 := by rw [hv]; rfl
    have hlb : (l == bl) = true := by rw [beq_iff_eq]; exact hbl2.symm
    have hbl3 : (bl == l) = true := by rw [beq_iff_eq]; exact hbl2
    have hll : (l == l) = true := by rw [beq_iff_eq]
    rw [hlb] at E1
    rw [hbl3] at E2
    rw [hll] at E3
    have R4 := Lib.hid r4
    have Q4 := Lib.hid q4
    clear r4 q4 hlb hbl3 hll hbl2 hv c3 f3 hund hicl hicb
    go_wp2_with (first | (with_reducible refine wpList_load_row rfl 24 (.tmp 3) rfl N1 rfl 24 cl.toArray (0, 0) _ (by exact R4.out) Tryd.underlying24 rfl (Sm.infoHash hsz32) ?_) | (with_reducible refine wpList_load_row rfl 24 (.tmp 7) rfl N2 rfl 24 cb.toArray (0, 0) _ (by exact Q4.out) Tryd.underlying24 rfl (Sm.infoHash hszb) ?_))
    refine (E1.out _).mono ?_
    rintro e W5 ⟨rfl, k5⟩
    have b5 := Sm.low_low b4 (by omega) k5
    have R5 := Lib.hid ((k5.block N1 (Sm.lt_of R4.out)).trans R4.out)
    have Q5 := Lib.hid ((k5.block N2 (Sm.lt_of Q4.out)).trans Q4.out)
    clear k5
    go_wp2_with (first | (refine Sm.wpList_load_row_g 24 (.tmp 3) rfl N1 rfl 24 cl.toArray (0, 0) _ (by exact R5.out) Tryd.underlying24 rfl (Sm.infoHash hsz32) ?_ ?_; rotate_left; rfl) | (refine Sm.wpList_load_row_g 24 (.tmp 7) rfl N2 rfl 24 cb.toArray (0, 0) _ (by exact Q5.out) Tryd.underlying24 rfl (Sm.infoHash hszb) ?_ ?_; rotate_left; rfl))
    refine (E2.out _).mono ?_
    rintro e W6 ⟨rfl, k6⟩
    have b6 := Sm.low_low b5 (by omega) k6
    have R6 := Lib.hid ((k6.block N1 (Sm.lt_of R5.out)).trans R5.out)
    have Q6 := Lib.hid ((k6.block N2 (Sm.lt_of Q5.out)).trans Q5.out)
    clear k6
    go_wp2_with (first | (refine Sm.wpList_load_row_g 24 (.tmp 3) rfl N1 rfl 24 cl.toArray (0, 0) _ (by exact R6.out) Tryd.underlying24 rfl (Sm.infoHash hsz32) ?_ ?_; rotate_left; rfl) | (refine Sm.wpList_load_row_g 24 (.tmp 7) rfl N2 rfl 24 cb.toArray (0, 0) _ (by exact Q6.out) Tryd.underlying24 rfl (Sm.infoHash hszb) ?_ ?_; rotate_left; rfl))
    refine (E3.out _).mono ?_
    rintro e W7 ⟨rfl, k7⟩
    have b7 := Sm.low_low b6 (by omega) k7
    clear k7
    go_wp2
    go_ret
    exact ⟨rfl, by rw [← HN1.out]; exact b7⟩
  · have hbl2 : ¬ bl = l := fun h => hv (HSE.out.1 h)
    have hvz : v.toNat ≠ 0 := fun h => hv (UInt8.toNat_inj.1 h)
    have hlb : (l == bl) = false := by rw [beq_eq_false_iff_ne]; exact fun h => hbl2 h.symm
    have hbl3 : (bl == l) = false := by rw [beq_eq_false_iff_ne]; exact hbl2
    have hll : (l == l) = true := by rw [beq_iff_eq]
    rw [hlb] at E1
    rw [hbl3] at E2
    rw [hll] at E3
    generalize v.toNat = vn at *
    have hvn : ((vn : Int) == 0) = false := by rw [beq_eq_false_iff_ne]; omega
    have R4 := Lib.hid r4
    have Q4 := Lib.hid q4
    clear r4 q4 hlb hbl3 hll hbl2 hv c3 f3 hund hicl hicb
    go_wp2_with (first | (with_reducible refine wpList_load_row rfl 24 (.tmp 3) rfl N1 rfl 24 cl.toArray (0, 0) _ (by exact R4.out) Tryd.underlying24 rfl (Sm.infoHash hsz32) ?_) | (with_reducible refine wpList_load_row rfl 24 (.tmp 7) rfl N2 rfl 24 cb.toArray (0, 0) _ (by exact Q4.out) Tryd.underlying24 rfl (Sm.infoHash hszb) ?_))
    refine (E1.out _).mono ?_
    rintro e W5 ⟨rfl, k5⟩
    have b5 := Sm.low_low b4 (by omega) k5
    have R5 := Lib.hid ((k5.block N1 (Sm.lt_of R4.out)).trans R4.out)
    have Q5 := Lib.hid ((k5.block N2 (Sm.lt_of Q4.out)).trans Q4.out)
    clear k5
    go_wp2_with (first | (refine Sm.wpList_load_row_g 24 (.tmp 3) rfl N1 rfl 24 cl.toArray (0, 0) _ (by exact R5.out) Tryd.underlying24 rfl (Sm.infoHash hsz32) ?_ ?_; rotate_left; rfl) | (refine Sm.wpList_load_row_g 24 (.tmp 7) rfl N2 rfl 24 cb.toArray (0, 0) _ (by exact Q5.out) Tryd.underlying24 rfl (Sm.infoHash hszb) ?_ ?_; rotate_left; rfl))
    refine (E2.out _).mono ?_
    rintro e W6 ⟨rfl, k6⟩
    have b6 := Sm.low_low b5 (by omega) k6
    have R6 := Lib.hid ((k6.block N1 (Sm.lt_of R5.out)).trans R5.out)
    have Q6 := Lib.hid ((k6.block N2 (Sm.lt_of Q5.out)).trans Q5.out)
    clear k6
    go_wp2_with (first | (refine Sm.wpList_load_row_g 24 (.tmp 3) rfl N1 rfl 24 cl.toArray (0, 0) _ (by exact R6.out) Tryd.underlying24 rfl (Sm.infoHash hsz32) ?_ ?_; rotate_left; rfl) | (refine Sm.wpList_load_row_g 24 (.tmp 7) rfl N2 rfl 24 cb.toArray (0, 0) _ (by exact Q6.out) Tryd.underlying24 rfl (Sm.infoHash hszb) ?_ ?_; rotate_left; rfl))
    refine (E3.out _).mono ?_
    rintro e W7 ⟨rfl, k7⟩
    have b7 := Sm.low_low b6 (by omega) k7
    clear k7
    go_wp2
    go_ret
    exact ⟨rfl, by rw [← HN1.out]; exact b7⟩
end Go.Proofs.YtkijdpgdniaagaaDoor
