/-
  ShaDigits answers true for any two hashes, and turns nothing of what was there.
-/
import Derived.Test.YtkijdpgdniaagaaDoorRsDigits
import Derived.Deep.RegionHeld3
import Derived.Deep.Cut
namespace Go.Proofs.YtkijdpgdniaagaaDoor
open Go.RowKit
namespace Sm
theorem digit_inj : ∀ a b : Fin 16, digit a.val = digit b.val → a = b := by decide
theorem digit_inj' {a b : Nat} (ha : a < 16) (hb : b < 16) (h : digit a = digit b) : a = b := by
  have := digit_inj ⟨a, ha⟩ ⟨b, hb⟩ h
  simpa using this
theorem digits_inj : ∀ l l' : List UInt8, digits l = digits l' → l = l'
  | [], [], _ => rfl
  | [], _ :: _, h => by simp [digits] at h
  | _ :: _, [], h => by simp [digits] at h
  | a :: l, b :: l', h => by
    simp only [digits, List.cons.injEq] at h
    obtain ⟨h1, h2, h3⟩ := h
    have ha := a.toNat_lt
    have hb := b.toNat_lt
    have e1 := digit_inj' (by omega) (by omega) h1
    have e2 := digit_inj' (by omega) (by omega) h2
    have e : a = b := UInt8.toNat_inj.1 (by omega)
    rw [e, digits_inj l l' h3]
theorem range_row2 {w : World} {h : Nat} {cs : List Value} {t : TypeId} (hb : w.heap[h]? = some (.cells cs.toArray t (0, 0))) : w.rangeAt h 0 cs := fun j v hv => by
  rw [Nat.zero_add]
  exact cells_of hb j v (by rw [List.getElem?_toArray]; exact hv)
end Sm

set_option maxRecDepth 100000 in
set_option maxHeartbeats 4000000 in
theorem diglaw_any (la lb : List UInt8) (hla : la.length = 32) (hlb : lb.length = 32) (z : Bool) (hz : (la == lb) = z) {w : World} (hH : Sm.HAt w) (hK : Sm.KAt w) (hsz : 1 < w.heap.size) :
    Calls Tryd.prog 5 #[.agg (Lib.byteCells la).toArray, .agg (Lib.byteCells lb).toArray] w fun e w' => e = .returned (.bool true) ∧ Below w.heap.size w w' := by
  have HH := Lib.hid hH
  have HK := Lib.hid hK
  clear hH hK
  obtain ⟨XA, hXA⟩ : ∃ b, b = ByteArray.mk (Sm.digits la).toArray := ⟨_, rfl⟩
  obtain ⟨XB, hXB⟩ : ∃ b, b = ByteArray.mk (Sm.digits lb).toArray := ⟨_, rfl⟩
  have hsA : XA.size = 64 := by
    have : (ByteArray.mk (Sm.digits la).toArray).size = (Sm.digits la).length := rfl
    rw [hXA, this, Sm.digits_length, hla]
  have hstr : (XA.toList == XB.toList) = z := by
    rw [hXA, hXB, ByteArray.toList_mk, ByteArray.toList_mk, ← hz, Bool.eq_iff_iff, beq_iff_eq, beq_iff_eq]
    exact ⟨Sm.digits_inj la lb, fun h => by rw [h]⟩
  have heq := fun w' => Sm.eq_hash la lb hla hlb w'
  rw [hz] at heq
  obtain ⟨ca, hca⟩ : ∃ c, c = Lib.byteCells la := ⟨_, rfl⟩
  obtain ⟨cb, hcb⟩ : ∃ c, c = Lib.byteCells lb := ⟨_, rfl⟩
  have hza : ca.toArray.size = 32 := by rw [hca, List.size_toArray, Lib.byteCells_length, hla]
  have hzb : cb.toArray.size = 32 := by rw [hcb, List.size_toArray, Lib.byteCells_length, hlb]
  have DA : Hid (∀ wx : World, Calls Tryd.prog 17 #[.agg ca.toArray] wx fun e w' => e = .returned (.string XA) ∧ Below wx.heap.size wx w') := fun wx => by rw [hca, hXA]; exact digits_any la hla wx
  have DB : Hid (∀ wx : World, Calls Tryd.prog 17 #[.agg cb.toArray] wx fun e w' => e = .returned (.string XB) ∧ Below wx.heap.size wx w') := fun wx => by rw [hcb, hXB]; exact digits_any lb hlb wx
  have RA : Hid (∀ wx : World, Calls Tryd.prog 18 #[.agg ca.toArray] wx fun e w' => e = .returned (.string XA) ∧ Below wx.heap.size wx w') := fun wx => by rw [hca, hXA]; exact rsdigits_any la hla wx
  rw [← hca, ← hcb] at heq ⊢
  have hund : Tryd.prog.underlying 24 = some (.array 32 5) := Tryd.underlying24
  have hia : (Tryd.prog.info? 24).map (·.size) = some ca.length := by rw [Sm.infoHash hza]; simp
  have hib : (Tryd.prog.info? 24).map (·.size) = some cb.length := by rw [Sm.infoHash hzb]; simp
  have HUND := Lib.hid hund
  have HIA := Lib.hid hia
  have HIB := Lib.hid hib
  have HSA := Lib.hid hsA
  have hself : (XA.toList == XA.toList) = true := by rw [beq_iff_eq]
  clear hca hcb hXA hXB hz hund hia hib hla hlb
  have b1 : Below w.heap.size w ((w.alloc (.cells ca.toArray 24)).alloc (.cells cb.toArray 24)) := ((Below.refl _ w).alloc (Nat.le_refl _) _).alloc (by simp) _
  have r1 : ((w.alloc (.cells ca.toArray 24)).alloc (.cells cb.toArray 24)).heap[w.heap.size]? = some (.cells ca.toArray 24 (0, 0)) := by
    rw [Below.heap_alloc _ _ _ (by simp)]; exact heap_alloc_new w _
  have q1 : ((w.alloc (.cells ca.toArray 24)).alloc (.cells cb.toArray 24)).heap[w.heap.size + 1]? = some (.cells cb.toArray 24 (0, 0)) := by
    have := heap_alloc_new (w.alloc (.cells ca.toArray 24)) (.cells cb.toArray 24)
    simpa using this
  have s1 : w.heap.size + 1 < ((w.alloc (.cells ca.toArray 24)).alloc (.cells cb.toArray 24)).heap.size := by simp
  go_enter Tryd.func5, Tryd.ntmps5
  go_wp2_with fail
  generalize (w.alloc (.cells ca.toArray 24)).alloc (.cells cb.toArray 24) = W1 at *
  refine (awake_any (HH.out.low b1 (by omega)) (HK.out.low b1 hsz) (by omega)).mono ?_
  rintro e W2 ⟨rfl, k2⟩
  have b2 := Sm.low_low b1 (Nat.le_refl _) k2
  have R2 := Lib.hid ((k2.block w.heap.size (by omega)).trans r1)
  have Q2 := Lib.hid ((k2.block (w.heap.size + 1) (by omega)).trans q1)
  clear k2 r1 q1 b1
  go_wp2_with (with_reducible refine wpList_load_row rfl 24 (.tmp 2) rfl w.heap.size rfl 24 ca.toArray (0, 0) _ (by exact R2.out) Tryd.underlying24 rfl (Sm.infoHash hza) ?_)
  refine (DA.out _).mono ?_
  rintro e W3 ⟨rfl, k3⟩
  have b3 := Sm.low_low b2 (Nat.le_refl _) k3
  obtain ⟨N, hN⟩ : ∃ N, N = w.heap.size := ⟨_, rfl⟩
  have R3 := (k3.block w.heap.size (Sm.lt_of R2.out)).trans R2.out
  have Q3 := (k3.block (w.heap.size + 1) (Sm.lt_of Q2.out)).trans Q2.out
  rw [← hN] at R3 Q3 b3 ⊢
  have R3 : Hid (W3.drew.heap[N]? = some (.cells ca.toArray 24 (0, 0))) := R3
  have Q3 : Hid (W3.drew.heap[N + 1]? = some (.cells cb.toArray 24 (0, 0))) := Q3
  have hNw : N ≤ w.heap.size := by omega
  have HN := Lib.hid hN
  clear hN k3 b2
  have b3 : Below N w W3.drew := b3.drew
  go_upto_region 4 with (fail)
  refine wp_region_held_drew (S := fun w' => w'.rangeAt N 0 ca ∧ w'.rangeAt (N + 1) 0 cb) (by kernel_rfl) ⟨Sm.range_row2 R3.out, Sm.range_row2 Q3.out⟩ (fun hHeld => ?_)
  refine wpAnyH_take (i := 0) (oi := ⟨some 10, _, _, _, _, _⟩) (v := .string XA) rfl (by kernel_rfl) (by kernel_rfl) (by kernel_rfl) (fun _ _ _ h => h) (Or.inl ⟨by rfl, ?_⟩) (by assumption) ?_
  · intro w hSw; (try dsimp only at hSw); go_simp
  simp only [Act.put, List.setIfInBounds_toArray, List.set_cons_zero, List.set_cons_succ]
  refine wpAnyH_take (i := 1) (oi := ⟨some 11, _, _, _, _, _⟩) (v := .agg ca.toArray) rfl (by kernel_rfl) (by kernel_rfl) (by kernel_rfl) (fun _ _ _ h => h) (yieldsIf_load_mid (by rfl) _ _ rfl _ _ rfl ca _ (fun w hS => hS.1) HUND.out rfl HIA.out) (by assumption) ?_
  simp only [Act.put, List.setIfInBounds_toArray, List.set_cons_zero, List.set_cons_succ]
  refine wpAnyH_ready (rs := [2]) (by kernel_rfl) (by simp) ?_
  refine AllReadyH.cons (o := ⟨some 12, _, _, _, _, _⟩) rfl (fun K hK => ?_) AllReadyH.nil
  go_simp
  refine (RA.out _).mono ?_
  rintro e W4 ⟨rfl, k4⟩
  have b4 := Sm.low_low b3 hNw k4
  have R4 := Lib.hid ((k4.block N (Sm.lt_of R3.out)).trans R3.out)
  have Q4 := Lib.hid ((k4.block (N + 1) (Sm.lt_of Q3.out)).trans Q3.out)
  clear k4
  refine hK.out _ _ ⟨Sm.range_row2 R4.out, Sm.range_row2 Q4.out⟩ (fun hHeld => ?_)
  clear hK K
  refine wpAnyH_take (i := 3) (oi := ⟨some 13, _, _, _, _, _⟩) (v := .bool true) rfl (by kernel_rfl) (by kernel_rfl) (by kernel_rfl) (fun _ _ _ h => h) (Or.inl ⟨by rfl, ?_⟩) (by assumption) ?_
  · intro w hSw; (try dsimp only at hSw); go_simp
  simp only [Act.put, List.setIfInBounds_toArray, List.set_cons_zero, List.set_cons_succ]
  refine wpAnyH_take (i := 4) (oi := ⟨some 14, _, _, _, _, _⟩) (v := .bool true) rfl (by kernel_rfl) (by kernel_rfl) (by kernel_rfl) (fun _ _ _ h => h) (Or.inl ⟨by rfl, ?_⟩) (by assumption) ?_
  · intro w hSw; (try dsimp only at hSw); go_simp
  simp only [Act.put, List.setIfInBounds_toArray, List.set_cons_zero, List.set_cons_succ]
  refine wpAnyH_take (i := 5) (oi := ⟨some 15, _, _, _, _, _⟩) (v := .string XA) rfl (by kernel_rfl) (by kernel_rfl) (by kernel_rfl) (fun _ _ _ h => h) (Or.inl ⟨by rfl, ?_⟩) (by assumption) ?_
  · intro w hSw; (try dsimp only at hSw); go_simp
  simp only [Act.put, List.setIfInBounds_toArray, List.set_cons_zero, List.set_cons_succ]
  refine wpAnyH_take (i := 6) (oi := ⟨some 16, _, _, _, _, _⟩) (v := .int .i64 64) rfl (by kernel_rfl) (by kernel_rfl) (by kernel_rfl) (fun _ _ _ h => h) (Or.inl ⟨by rfl, ?_⟩) (by assumption) ?_
  · intro w hSw; (try dsimp only at hSw); go_simp
  simp only [Act.put, List.setIfInBounds_toArray, List.set_cons_zero, List.set_cons_succ]
  refine wpAnyH_take (i := 7) (oi := ⟨some 17, _, _, _, _, _⟩) (v := .bool true) rfl (by kernel_rfl) (by kernel_rfl) (by kernel_rfl) (fun _ _ _ h => h) (Or.inl ⟨by rfl, ?_⟩) (by assumption) ?_
  · intro w hSw; (try dsimp only at hSw); go_simp
  simp only [Act.put, List.setIfInBounds_toArray, List.set_cons_zero, List.set_cons_succ]
  refine wpAnyH_take (i := 8) (oi := ⟨some 18, _, _, _, _, _⟩) (v := .bool true) rfl (by kernel_rfl) (by kernel_rfl) (by kernel_rfl) (fun _ _ _ h => h) (Or.inl ⟨by rfl, ?_⟩) (by assumption) ?_
  · intro w hSw; (try dsimp only at hSw); go_simp
  simp only [Act.put, List.setIfInBounds_toArray, List.set_cons_zero, List.set_cons_succ]
  refine wpAnyH_take (i := 9) (oi := ⟨some 19, _, _, _, _, _⟩) (v := .bool true) rfl (by kernel_rfl) (by kernel_rfl) (by kernel_rfl) (fun _ _ _ h => h) (Or.inl ⟨by rfl, ?_⟩) (by assumption) ?_
  · intro w hSw; (try dsimp only at hSw); go_simp
  simp only [Act.put, List.setIfInBounds_toArray, List.set_cons_zero, List.set_cons_succ]
  refine wpAnyH_take (i := 10) (oi := ⟨some 20, _, _, _, _, _⟩) (v := .string XA) rfl (by kernel_rfl) (by kernel_rfl) (by kernel_rfl) (fun _ _ _ h => h) (Or.inl ⟨by rfl, ?_⟩) (by assumption) ?_
  · intro w hSw; (try dsimp only at hSw); go_simp
  simp only [Act.put, List.setIfInBounds_toArray, List.set_cons_zero, List.set_cons_succ]
  refine wpAnyH_take (i := 11) (oi := ⟨some 21, _, _, _, _, _⟩) (v := .agg cb.toArray) rfl (by kernel_rfl) (by kernel_rfl) (by kernel_rfl) (fun _ _ _ h => h) (yieldsIf_load_mid (by rfl) _ _ rfl _ _ rfl cb _ (fun w hS => hS.2) HUND.out rfl HIB.out) (by assumption) ?_
  simp only [Act.put, List.setIfInBounds_toArray, List.set_cons_zero, List.set_cons_succ]
  refine wpAnyH_take (i := 14) (oi := ⟨some 24, _, _, _, _, _⟩) (v := .agg ca.toArray) rfl (by kernel_rfl) (by kernel_rfl) (by kernel_rfl) (fun _ _ _ h => h) (yieldsIf_load_mid (by rfl) _ _ rfl _ _ rfl ca _ (fun w hS => hS.1) HUND.out rfl HIA.out) (by assumption) ?_
  simp only [Act.put, List.setIfInBounds_toArray, List.set_cons_zero, List.set_cons_succ]
  refine wpAnyH_take (i := 15) (oi := ⟨some 25, _, _, _, _, _⟩) (v := .agg cb.toArray) rfl (by kernel_rfl) (by kernel_rfl) (by kernel_rfl) (fun _ _ _ h => h) (yieldsIf_load_mid (by rfl) _ _ rfl _ _ rfl cb _ (fun w hS => hS.2) HUND.out rfl HIB.out) (by assumption) ?_
  simp only [Act.put, List.setIfInBounds_toArray, List.set_cons_zero, List.set_cons_succ]
  refine wpAnyH_take (i := 16) (oi := ⟨some 26, _, _, _, _, _⟩) (v := .bool z) rfl (by kernel_rfl) (by kernel_rfl) (by kernel_rfl) (fun _ _ _ h => h) (Or.inl ⟨by rfl, ?_⟩) (by assumption) ?_
  · intro w hSw; (try dsimp only at hSw); go_simp
  simp only [Act.put, List.setIfInBounds_toArray, List.set_cons_zero, List.set_cons_succ]
  refine wpAnyH_ready (rs := [12]) (by kernel_rfl) (by simp) ?_
  refine AllReadyH.cons (o := ⟨some 22, _, _, _, _, _⟩) rfl (fun K hK => ?_) AllReadyH.nil
  go_simp
  refine (DB.out _).mono ?_
  rintro e W5 ⟨rfl, k5⟩
  have b5 := Sm.low_low b4 hNw k5
  have R5 := Lib.hid ((k5.block N (Sm.lt_of R4.out)).trans R4.out)
  have Q5 := Lib.hid ((k5.block (N + 1) (Sm.lt_of Q4.out)).trans Q4.out)
  clear k5
  refine hK.out _ _ ⟨Sm.range_row2 R5.out, Sm.range_row2 Q5.out⟩ (fun hHeld => ?_)
  clear hK K
  refine wpAnyH_take (i := 13) (oi := ⟨some 23, _, _, _, _, _⟩) (v := .bool z) rfl (by kernel_rfl) (by kernel_rfl) (by kernel_rfl) (fun _ _ _ h => h) (Or.inl ⟨by rfl, ?_⟩) (by assumption) ?_
  · intro w hSw; (try dsimp only at hSw); go_simp
  simp only [Act.put, List.setIfInBounds_toArray, List.set_cons_zero, List.set_cons_succ]
  refine wpAnyH_take (i := 17) (oi := ⟨some 27, _, _, _, _, _⟩) (v := .bool true) rfl (by kernel_rfl) (by kernel_rfl) (by kernel_rfl) (fun _ _ _ h => h) (Or.inl ⟨by rfl, ?_⟩) (by assumption) ?_
  · intro w hSw; (try dsimp only at hSw); go_simp
  simp only [Act.put, List.setIfInBounds_toArray, List.set_cons_zero, List.set_cons_succ]
  refine wpAnyH_take (i := 18) (oi := ⟨some 28, _, _, _, _, _⟩) (v := .bool true) rfl (by kernel_rfl) (by kernel_rfl) (by kernel_rfl) (fun _ _ _ h => h) (Or.inl ⟨by rfl, ?_⟩) (by assumption) ?_
  · intro w hSw; (try dsimp only at hSw); go_simp
  simp only [Act.put, List.setIfInBounds_toArray, List.set_cons_zero, List.set_cons_succ]
  refine wpAnyH_take (i := 19) (oi := ⟨some 4, _, _, _, _, _⟩) (v := .bool true) rfl (by kernel_rfl) (by kernel_rfl) (by kernel_rfl) (fun _ _ _ h => h) (Or.inl ⟨by rfl, ?_⟩) (by assumption) ?_
  · intro w hSw; (try dsimp only at hSw); go_simp
  simp only [Act.put, List.setIfInBounds_toArray, List.set_cons_zero, List.set_cons_succ]
  refine wpAnyH_done (by kernel_rfl) ?_ _
  go_wp2
  go_ret
  exact ⟨rfl, by rw [← HN.out]; exact b5⟩
end Go.Proofs.YtkijdpgdniaagaaDoor
