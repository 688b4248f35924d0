/-
  What mac's Key, Equal, and the law's awake do.
-/
import Derived.Test.YtkijdpgdniaagaaDoorMcTag
namespace Go.Proofs.YtkijdpgdniaagaaDoor
open Go.RowKit
namespace Sm
theorem tag_jefe : digits (tag [74, 101, 102, 101] [119, 104, 97, 116, 32, 100, 111, 32, 121, 97, 32, 119, 97, 110, 116, 32, 102, 111, 114, 32, 110, 111, 116, 104, 105, 110, 103, 63]) = [53, 98, 100, 99, 99, 49, 52, 54, 98, 102, 54, 48, 55, 53, 52, 101, 54, 97, 48, 52, 50, 52, 50, 54, 48, 56, 57, 53, 55, 53, 99, 55, 53, 97, 48, 48, 51, 102, 48, 56, 57, 100, 50, 55, 51, 57, 56, 51, 57, 100, 101, 99, 53, 56, 98, 57, 54, 52, 101, 99, 51, 56, 52, 51] := by decide +kernel
theorem w_or8 (a b : UInt8) : bits .or .u8 (a.toNat : Int) (b.toNat : Int) = ((a ||| b).toNat : Int) := by
  show IntKind.u8.wrap ((BitVec.ofInt 8 (a.toNat : Int) ||| BitVec.ofInt 8 (b.toNat : Int)).toNat : Int) = _
  rw [BitVec.toNat_or, ofInt8 a, ofInt8 b, ← UInt8.toNat_or]
  have := (a ||| b).toNat_lt
  rw [IntKind.wrap_u8]; omega
/-- What the first k bytes differ by. -/
def other (l l' : List UInt8) : Nat → UInt8
  | 0 => 0
  | k + 1 => other l l' k ||| (l.getD k 0 ^^^ l'.getD k 0)
theorem or_zero (a b : UInt8) : (a ||| b) = 0 ↔ a = 0 ∧ b = 0 := by
  rw [← UInt8.toNat_inj, ← UInt8.toNat_inj, ← UInt8.toNat_inj, UInt8.toNat_or]
  show a.toNat ||| b.toNat = 0 ↔ _
  exact Nat.or_eq_zero_iff
theorem xor_zero (a b : UInt8) : (a ^^^ b) = 0 ↔ a = b := UInt8.xor_eq_zero_iff
theorem other_zero (l l' : List UInt8) (k : Nat) : other l l' k = 0 ↔ ∀ i, i < k → l.getD i 0 = l'.getD i 0 := by
  induction k with
  | zero => simp [other]
  | succ k ih =>
    rw [other, or_zero, ih, xor_zero]
    constructor
    · rintro ⟨h1, h2⟩ i hi
      by_cases e : i = k
      · rw [e]; exact h2
      · exact h1 i (by omega)
    · exact fun h => ⟨fun i hi => h i (by omega), h k (by omega)⟩
theorem other_all (l l' : List UInt8) (h : l.length = 32) (h' : l'.length = 32) : other l l' 32 = 0 ↔ l = l' := by
  rw [other_zero]
  constructor
  · intro hi
    apply List.ext_getElem (by omega)
    intro i h1 h2
    have := hi i (by omega)
    simpa [List.getD_eq_getElem?_getD, h1, h2] using this
  · rintro rfl i _
    rfl
theorem infoKey {c : Array Value} (h : c.size = 32) : (Tryd.prog.info? 45).map (·.size) = some c.size := by rw [h]; kernel_rfl
theorem heap_key (w : World) : (w.alloc (.cells (rowB 32 []) 45)).heap[w.heap.size]? = some (.cells (rowB 32 []) 45 (0, 0)) := heap_alloc_new w _
end Sm

set_option maxRecDepth 100000 in
set_option maxHeartbeats 2000000 in
theorem equal_any (l l' : List UInt8) (hl : l.length = 32) (hl' : l'.length = 32) (w : World) :
    Calls Tryd.prog 29 #[.agg (Lib.byteCells l).toArray, .agg (Lib.byteCells l').toArray] w fun e w' => e = .returned (.bool (l == l')) ∧ Below w.heap.size w w' := by
  obtain ⟨cs, hcs⟩ : ∃ c, c = (Lib.byteCells l).toArray := ⟨_, rfl⟩
  obtain ⟨cs', hcs'⟩ : ∃ c, c = (Lib.byteCells l').toArray := ⟨_, rfl⟩
  rw [← hcs, ← hcs']
  have HC := Lib.hid hcs
  have HC' := Lib.hid hcs'
  clear hcs hcs'
  go_enter Tryd.func29, Tryd.ntmps29
  go_wp2
  have g1 : ((w.alloc (.cells cs 24)).alloc (.cells cs' 24)).heap[w.heap.size]? = some (.cells (Lib.byteCells l).toArray 24 (0, 0)) := by
    rw [← HC.out, Below.heap_alloc _ _ _ (by simp)]; exact heap_alloc_new w _
  have g2 : ((w.alloc (.cells cs 24)).alloc (.cells cs' 24)).heap[w.heap.size + 1]? = some (.cells (Lib.byteCells l').toArray 24 (0, 0)) := by
    rw [← HC'.out]
    have := heap_alloc_new (w.alloc (.cells cs 24)) (.cells cs' 24)
    simpa using this
  have g3 : Below w.heap.size w ((w.alloc (.cells cs 24)).alloc (.cells cs' 24)) := ((Below.refl _ w).alloc (Nat.le_refl _) _).alloc (by simp) _
  generalize (w.alloc (.cells cs 24)).alloc (.cells cs' 24) = W1 at *
  obtain ⟨N, hN⟩ : ∃ N, N = w.heap.size := ⟨_, rfl⟩
  rw [← hN] at g1 g2 g3 ⊢
  have HN := Lib.hid hN
  clear hN
  go_loopw [5, 7] (fun o i wr => ∃ k : Nat, k ≤ 32 ∧ i = .int .i64 k ∧ o = .int .u8 (Sm.other l l' k).toNat ∧ wr.heap[N]? = some (.cells (Lib.byteCells l).toArray 24 (0, 0)) ∧ wr.heap[N + 1]? = some (.cells (Lib.byteCells l').toArray 24 (0, 0)) ∧ Below N w wr) (fun _ i _ => 32 - (intOf i).toNat)
  case atStart => exact ⟨0, by omega, rfl, rfl, g1, g2, g3⟩
  case round =>
    clear g1 g2 g3
    obtain ⟨k, hk, rfl, rfl, hr1, hr2, hbk⟩ := hrel
    have HR1 := Lib.hid hr1
    have HR2 := Lib.hid hr2
    clear hr1 hr2
    by_cases hlt : k < 32
    · have c1 := Sm.row_cell HR1.out k (by omega)
      have c2 := Sm.row_cell HR2.out k (by omega)
      have ho : Hid (Sm.other l l' (k + 1) = Sm.other l l' k ||| (l.getD k 0 ^^^ l'.getD k 0)) := rfl
      have hx := Sm.w_xor8 (l.getD k 0) (l'.getD k 0)
      have HY : Hid (bits .or .u8 ((Sm.other l l' k).toNat : Int) (((l.getD k 0).toNat ^^^ (l'.getD k 0).toNat : Nat) : Int) = ((Sm.other l l' k ||| (l.getD k 0 ^^^ l'.getD k 0)).toNat : Int)) := by
        show _ = _
        rw [← UInt8.toNat_xor]
        exact Sm.w_or8 _ _
      have f1 := byte_fits (l.getD k 0)
      have f2 := byte_fits (l'.getD k 0)
      have f3 := byte_fits (Sm.other l l' k)
      generalize l.getD k 0 = x at *
      generalize l'.getD k 0 = y at *
      generalize Sm.other l l' k = z at *
      go_wp2
      go_quiet (fail)
      go_wp2
      go_roundw
      case rel => exact ⟨k + 1, by omega, by go_num, by rw [ho.out, ← HY.out], HR1.out, HR2.out, Sm.below_drewN hbk _⟩
      case measure => simp [intOf]; omega
    · obtain rfl : k = 32 := by omega
      have hz := Sm.other_all l l' hl hl'
      generalize Sm.other l l' 32 = z at *
      by_cases he : l = l'
      · have hz0 : z = 0 := hz.2 he
        have hb : (l == l') = true := by rw [beq_iff_eq]; exact he
        rw [hz0]
        clear hz hz0 he
        go_wp2
        go_ret
        exact ⟨by rw [hb]; rfl, by rw [← HN.out]; exact hbk⟩
      · have hz0 : z ≠ 0 := fun h => he (hz.1 h)
        have hzp : z.toNat ≠ 0 := fun h => hz0 (UInt8.toNat_inj.1 h)
        generalize z.toNat = m at *
        have hzn : ((m : Int) == 0) = false := by rw [beq_eq_false_iff_ne]; omega
        have hb : (l == l') = false := by rw [beq_eq_false_iff_ne]; exact he
        have HB := Lib.hid hb
        clear hz0 he hb hzp
        go_wp2
        go_ret
        exact ⟨by rw [HB.out]; rfl, by rw [← HN.out]; exact hbk⟩

set_option maxRecDepth 100000 in
set_option maxHeartbeats 2000000 in
theorem key_any (l : List UInt8) (hl : l.length = 32) (t : ByteArray) {w : World} (hH : Sm.HAt w) (hK : Sm.KAt w) (hsz : 1 < w.heap.size) (ht : t.size ≤ 1152921504606846912) :
    Calls Tryd.prog 28 #[.agg (Lib.byteCells l).toArray, .string t] w fun e w' => e = .returned (.agg (Lib.byteCells (Sm.tag l t.data.toList)).toArray) ∧ Below w.heap.size w w' := by
  have HH := Lib.hid hH
  have HK := Lib.hid hK
  clear hH hK
  obtain ⟨cs, hcs⟩ : ∃ c, c = (Lib.byteCells l).toArray := ⟨_, rfl⟩
  rw [← hcs]
  have g1 : (w.alloc (.cells cs 45)).heap[w.heap.size]? = some (.cells (Lib.byteCells l).toArray 45 (0, 0)) := by
    rw [← hcs]; exact heap_alloc_new w _
  have g2 : Below w.heap.size w (w.alloc (.cells cs 45)) := (Below.refl _ w).alloc (Nat.le_refl _) _
  have g3 : (w.alloc (.cells cs 45)).heap.size = w.heap.size + 1 := by simp
  clear hcs
  go_enter Tryd.func28, Tryd.ntmps28
  go_upto_region 1 with (fail)
  have r1 := Sm.heap_key (w.alloc (.cells cs 45))
  have b1 := g2.alloc g2.size (.cells (Sm.rowB 32 []) 45)
  have g4 := (Below.heap_alloc (w.alloc (.cells cs 45)) (.cells (Sm.rowB 32 []) 45) w.heap.size (by omega)).trans g1
  rw [g3] at r1
  change Code.wp _ _ _ _ ((w.alloc (.cells cs 45)).alloc (.cells (Sm.rowB 32 []) 45))
  clear g1 g2 g3
  generalize (w.alloc (.cells cs 45)).alloc (.cells (Sm.rowB 32 []) 45) = W1 at *
  have hcv := Sm.conv_row (n := 32) g4 hl
  have s1 := Sm.lt_of r1
  have eL : (ByteArray.mk l.toArray).size = l.length := rfl
  have hT := tag_any ⟨l.toArray⟩ t (HH.out.low b1 (by omega)) (HK.out.low b1 hsz) (by omega) (by omega) ht
  have HT := Lib.hid hT
  have HR1 := Lib.hid r1
  clear hT r1 g4 eL
  go_wp2_with fail
  refine (HT.out).mono ?_
  rintro e W2 ⟨rfl, k2⟩
  have b2 := Sm.low_low b1 (Nat.le_refl _) k2
  have r2 := (k2.block (w.heap.size + 1) s1).trans HR1.out
  have HR2 := Lib.hid r2
  have hsz32 : (Lib.byteCells (Sm.tag (ByteArray.mk l.toArray).data.toList t.data.toList)).toArray.size = 32 := by rw [Sm.bytes_size, Sm.tag_length]
  have hone := Sm.bytes_one (Sm.tag (ByteArray.mk l.toArray).data.toList t.data.toList)
  have hz32 : (Sm.rowB 32 []).size = (Lib.byteCells (Sm.tag (ByteArray.mk l.toArray).data.toList t.data.toList)).toArray.size := by rw [hsz32]; exact Sm.rowB_size (by simp)
  obtain ⟨cs2, hcs2⟩ : ∃ c, c = (Lib.byteCells (Sm.tag (ByteArray.mk l.toArray).data.toList t.data.toList)).toArray := ⟨_, rfl⟩
  have HC2 : Hid (cs2 = (Lib.byteCells (Sm.tag l t.data.toList)).toArray) := hcs2
  rw [← hcs2] at hsz32 hone hz32 ⊢
  clear hcs2 r2 k2 hcv HT HR1
  go_wp2_with (with_reducible refine wpList_store_row rfl 45 (.tmp 4) (.tmp 8) rfl (w.heap.size + 1) cs2 rfl rfl 45 _ (by exact HR2.out) (Sm.infoKey hsz32) hz32 hone ?_)
  exact bodyPost_ret (v := .agg cs2) (results_cell_row rfl _ _ (w.heap.size + 1) 45 _ (0, 0) _ rfl (setRow_heap _ (w.heap.size + 1) _ _ _ _ HR2.out) Tryd.underlying45 rfl (Sm.infoKey hsz32)) rfl ⟨by rw [HC2.out], Sm.below_setRow b2 (by omega) _⟩

theorem jefe_small : (ByteArray.mk #[119, 104, 97, 116, 32, 100, 111, 32, 121, 97, 32, 119, 97, 110, 116, 32, 102, 111, 114, 32, 110, 111, 116, 104, 105, 110, 103, 63]).size ≤ 1152921504606846912 := by decide
set_option maxHeartbeats 1000000 in
theorem awake3_any {w : World} (hH : Sm.HAt w) (hK : Sm.KAt w) (hsz : 1 < w.heap.size) :
    Calls Tryd.prog 26 #[] w fun e w' => e = .returned (.bool true) ∧ Below w.heap.size w w' := by
  have hS := tag_any ⟨#[74, 101, 102, 101]⟩ ⟨#[119, 104, 97, 116, 32, 100, 111, 32, 121, 97, 32, 119, 97, 110, 116, 32, 102, 111, 114, 32, 110, 111, 116, 104, 105, 110, 103, 63]⟩ hH hK hsz (by decide) jefe_small
  have hD := fun w' => digits_any (Sm.tag [74, 101, 102, 101] [119, 104, 97, 116, 32, 100, 111, 32, 121, 97, 32, 119, 97, 110, 116, 32, 102, 111, 114, 32, 110, 111, 116, 104, 105, 110, 103, 63]) (Sm.tag_length _ _) w'
  rw [Sm.tag_jefe] at hD
  have HS := Lib.hid hS
  have HD := Lib.hid hD
  clear hS hD hH hK
  go_enter Tryd.func26, Tryd.ntmps26
  go_wp2_with fail
  refine (HS.out).mono ?_
  rintro e w1 ⟨rfl, hb1⟩
  have hs1 := hb1.size
  go_wp2_with fail
  refine (HD.out _).mono ?_
  rintro e w2 ⟨rfl, hb2⟩
  go_wp2
  go_ret
  exact ⟨rfl, hb1.trans (hb2.mono hs1)⟩
end Go.Proofs.YtkijdpgdniaagaaDoor
