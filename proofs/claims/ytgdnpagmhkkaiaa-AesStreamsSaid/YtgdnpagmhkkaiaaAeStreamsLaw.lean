/-
  AesStreams: a text, streamed, is the document's.
-/
import Derived.Test.YtgdnpagmhkkaiaaRaStream
import Derived.Test.YtgdnpagmhkkaiaaAeStream
import Derived.Test.YtgdnpagmhkkaiaaAeAwake
namespace Go.Proofs.Ytgdnpagmhkkaiaa
open Go.RowKit

set_option maxRecDepth 100000 in
set_option maxHeartbeats 2000000 in
theorem aesStreams_any (w : World) (key l : List UInt8) (hkey : key.length = 32) (hl : l.length = 12) (s : ByteArray) (hs : s.size ≤ 9223372036854775807) :
    Calls Try.prog 3 #[.agg (Lib.byteCells key).toArray, .agg (Lib.byteCells l).toArray, .string s] w fun e w' => e = .returned (.bool true) ∧ Below w.heap.size w w' := by
  obtain ⟨ck, hck⟩ : ∃ c, c = Lib.byteCells key := ⟨_, rfl⟩
  obtain ⟨cl, hcl⟩ : ∃ c, c = Lib.byteCells l := ⟨_, rfl⟩
  obtain ⟨x, hx⟩ : ∃ c : ByteArray, c = ⟨(Ae.stream key l s.data.toList).toArray⟩ := ⟨_, rfl⟩
  have B1 : Hid (s.size ≤ 500 → ∀ wx : World, Calls Try.prog 5 #[.agg ck.toArray, .agg cl.toArray, .string s] wx fun e w' => e = .returned (.string x) ∧ Below wx.heap.size wx w') := fun h5 wx => by
    rw [hck, hcl, hx]
    exact stream_any wx key l hkey hl s (by omega)
  have B2 : Hid (s.size ≤ 500 → ∀ wx : World, Calls Try.prog 6 #[.agg ck.toArray, .agg cl.toArray, .string s] wx fun e w' => e = .returned (.string x) ∧ Below wx.heap.size wx w') := fun h5 wx => by
    rw [hck, hcl, hx]
    exact refStream_any wx key l hkey hl s (by omega)
  have hckn : ck.length = 32 := by rw [hck, Lib.byteCells_length, hkey]
  have hcln : cl.length = 12 := by rw [hcl, Lib.byteCells_length, hl]
  rw [← hck, ← hcl]
  have HU1 : Hid (Try.prog.underlying 23 = some (.array 32 5)) := Try.underlying23
  have HU2 : Hid (Try.prog.underlying 24 = some (.array 12 5)) := Try.underlying24
  have HI1 : Hid ((Try.prog.info? 23).map (·.size) = some ck.length) := by show _ = _; rw [hckn]; kernel_rfl
  have HI2 : Hid ((Try.prog.info? 24).map (·.size) = some cl.length) := by show _ = _; rw [hcln]; kernel_rfl
  obtain ⟨N, hN⟩ : ∃ N, N = w.heap.size := ⟨_, rfl⟩
  have g1 : ((w.alloc (.cells ck.toArray 23)).alloc (.cells cl.toArray 24)).heap[N]? = some (.cells ck.toArray 23 (0, 0)) := by
    rw [hN, Below.heap_alloc _ _ _ (by simp)]; exact heap_alloc_new w _
  have g2 : ((w.alloc (.cells ck.toArray 23)).alloc (.cells cl.toArray 24)).heap[N + 1]? = some (.cells cl.toArray 24 (0, 0)) := by
    rw [hN]; simpa using heap_alloc_new (w.alloc (.cells ck.toArray 23)) (.cells cl.toArray 24)
  have b3 : Below N w ((w.alloc (.cells ck.toArray 23)).alloc (.cells cl.toArray 24)) := by
    rw [hN]; exact ((Below.refl _ w).alloc (Nat.le_refl _) _).alloc (by simp) _
  have AW := Lib.hid awake4_any
  clear hck hcl hx hckn hcln
  by_cases h5 : s.size ≤ 500
  · have B1 := Lib.hid (B1.out h5)
    have B2 := Lib.hid (B2.out h5)
    have h5i : (s.size : Int) ≤ 500 := by omega
    go_enter Try.func3, Try.ntmps3
    go_wp2_with fail
    generalize (w.alloc (.cells ck.toArray 23)).alloc (.cells cl.toArray 24) = W3 at *
    refine (AW.out _).mono ?_
    rintro e w4 ⟨rfl, k4⟩
    have hHN : N ≤ w.heap.size := by omega
    have s3 := Sm.lt_of g2
    have b4 := Sm.low_low b3 hHN k4
    have G1 : Hid (w4.drew.heap[N]? = some (.cells ck.toArray 23 (0, 0))) := (k4.block N (by omega)).trans g1
    have G2 : Hid (w4.drew.heap[N + 1]? = some (.cells cl.toArray 24 (0, 0))) := (k4.block (N + 1) s3).trans g2
    have HN := Lib.hid hN
    have B4 : Below N w w4.drew := b4.drew
    rw [← hN]
    clear g1 g2 b3 k4 b4 s3 hN
    go_wp2_with fail
    refine wp_region_held_drew (S := fun w' => w'.rangeAt N 0 ck ∧ w'.rangeAt (N + 1) 0 cl) (by kernel_rfl) ⟨Sm.range_row G1.out, Sm.range_row G2.out⟩ (fun hHeld => ?_)
    refine wpAnyH_take (i := 0) (oi := ⟨some 12, _, _, _, _, _⟩) (v := .agg ck.toArray) rfl (by kernel_rfl) (by kernel_rfl) (by kernel_rfl) (fun _ _ _ h => h) (yieldsIf_load_mid (by rfl) _ _ rfl _ _ rfl ck _ (fun w hS => hS.1) HU1.out rfl HI1.out) (by assumption) ?_
    simp only [Act.put, List.setIfInBounds_toArray, List.set_cons_zero, List.set_cons_succ]
    refine wpAnyH_take (i := 1) (oi := ⟨some 13, _, _, _, _, _⟩) (v := .agg cl.toArray) rfl (by kernel_rfl) (by kernel_rfl) (by kernel_rfl) (fun _ _ _ h => h) (yieldsIf_load_mid (by rfl) _ _ rfl _ _ rfl cl _ (fun w hS => hS.2) HU2.out rfl HI2.out) (by assumption) ?_
    simp only [Act.put, List.setIfInBounds_toArray, List.set_cons_zero, List.set_cons_succ]
    refine wpAnyH_take (i := 2) (oi := ⟨some 14, _, _, _, _, _⟩) (v := .string s) rfl (by kernel_rfl) (by kernel_rfl) (by kernel_rfl) (fun _ _ _ h => h) (Or.inl ⟨by rfl, ?_⟩) (by assumption) ?_
    · intro w hSw; (try dsimp only at hSw); go_simp
    simp only [Act.put, List.setIfInBounds_toArray, List.set_cons_zero, List.set_cons_succ]
    refine wpAnyH_take (i := 4) (oi := ⟨some 16, _, _, _, _, _⟩) (v := .agg ck.toArray) rfl (by kernel_rfl) (by kernel_rfl) (by kernel_rfl) (fun _ _ _ h => h) (yieldsIf_load_mid (by rfl) _ _ rfl _ _ rfl ck _ (fun w hS => hS.1) HU1.out rfl HI1.out) (by assumption) ?_
    simp only [Act.put, List.setIfInBounds_toArray, List.set_cons_zero, List.set_cons_succ]
    refine wpAnyH_take (i := 5) (oi := ⟨some 17, _, _, _, _, _⟩) (v := .agg cl.toArray) rfl (by kernel_rfl) (by kernel_rfl) (by kernel_rfl) (fun _ _ _ h => h) (yieldsIf_load_mid (by rfl) _ _ rfl _ _ rfl cl _ (fun w hS => hS.2) HU2.out rfl HI2.out) (by assumption) ?_
    simp only [Act.put, List.setIfInBounds_toArray, List.set_cons_zero, List.set_cons_succ]
    refine wpAnyH_take (i := 6) (oi := ⟨some 18, _, _, _, _, _⟩) (v := .string s) rfl (by kernel_rfl) (by kernel_rfl) (by kernel_rfl) (fun _ _ _ h => h) (Or.inl ⟨by rfl, ?_⟩) (by assumption) ?_
    · intro w hSw; (try dsimp only at hSw); go_simp
    simp only [Act.put, List.setIfInBounds_toArray, List.set_cons_zero, List.set_cons_succ]
    refine wpAnyH_ready (rs := [3]) (by kernel_rfl) (by simp) ?_
    refine AllReadyH.cons (o := ⟨some 15, _, _, _, _, _⟩) rfl (fun K hK => ?_) AllReadyH.nil
    go_simp
    refine (B1.out _).mono ?_
    rintro e W5 ⟨rfl, k5⟩
    have s4 := Sm.lt_of G2.out
    have B5 := Sm.low_low B4 hHN k5
    have G1b := Lib.hid ((k5.block N (by omega)).trans G1.out)
    have G2b := Lib.hid ((k5.block (N + 1) s4).trans G2.out)
    have s5 := Sm.lt_of G2b.out
    clear k5
    refine hK.out _ _ ⟨Sm.range_row G1b.out, Sm.range_row G2b.out⟩ (fun hHeld => ?_)
    clear hK K
    refine wpAnyH_ready (rs := [7]) (by kernel_rfl) (by simp) ?_
    refine AllReadyH.cons (o := ⟨some 19, _, _, _, _, _⟩) rfl (fun K hK => ?_) AllReadyH.nil
    go_simp
    refine (B2.out _).mono ?_
    rintro e W6 ⟨rfl, k6⟩
    have B6 := Sm.low_low B5 hHN k6
    have G1c := Lib.hid ((k6.block N (by omega)).trans G1b.out)
    have G2c := Lib.hid ((k6.block (N + 1) s5).trans G2b.out)
    clear k6
    refine hK.out _ _ ⟨Sm.range_row G1c.out, Sm.range_row G2c.out⟩ (fun hHeld => ?_)
    clear hK K
    refine wpAnyH_take (i := 8) (oi := ⟨some 20, _, _, _, _, _⟩) (v := .bool true) rfl (by kernel_rfl) (by kernel_rfl) (by kernel_rfl) (fun _ _ _ h => h) (Or.inl ⟨by rfl, ?_⟩) (by assumption) ?_
    · intro w hSw; (try dsimp only at hSw); go_simp
    simp only [Act.put, List.setIfInBounds_toArray, List.set_cons_zero, List.set_cons_succ]
    refine wpAnyH_take (i := 9) (oi := ⟨some 6, _, _, _, _, _⟩) (v := .bool true) rfl (by kernel_rfl) (by kernel_rfl) (by kernel_rfl) (fun _ _ _ h => h) (Or.inl ⟨by rfl, ?_⟩) (by assumption) ?_
    · intro w hSw; (try dsimp only at hSw); go_simp
    simp only [Act.put, List.setIfInBounds_toArray, List.set_cons_zero, List.set_cons_succ]
    refine wpAnyH_done (by kernel_rfl) ?_ _
    go_wp2
    go_ret
    exact ⟨rfl, by rw [← HN.out]; exact B6⟩
  · have h5i : ¬ (s.size : Int) ≤ 500 := by omega
    have h5j : (500 : Int) < s.size := by omega
    clear B1 B2
    go_enter Try.func3, Try.ntmps3
    go_wp2_with fail
    generalize (w.alloc (.cells ck.toArray 23)).alloc (.cells cl.toArray 24) = W3 at *
    refine (AW.out _).mono ?_
    rintro e w4 ⟨rfl, k4⟩
    have b4 := Sm.low_low b3 (by omega) k4
    rw [← hN]
    go_wp2
    go_ret
    exact ⟨rfl, by first | exact b4 | exact b4.drew | (rw [← hN]; exact b4)⟩
end Go.Proofs.Ytgdnpagmhkkaiaa
