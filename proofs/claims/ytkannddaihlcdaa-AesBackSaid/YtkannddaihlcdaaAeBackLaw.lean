/-
  AesBack answers true for every key, nonce and text, and turns nothing of what was there.
-/
import Derived.Test.YtkannddaihlcdaaAeStream
namespace Go.Proofs.Ytkannddaihlcdaa
open Go.RowKit

set_option maxRecDepth 100000 in
set_option maxHeartbeats 2000000 in
theorem aesBack_any (w : World) (key nonce : List UInt8) (hkey : key.length = 32) (hnon : nonce.length = 12) (s : ByteArray) (_hs : s.size ≤ 9223372036854775807) :
    Calls Try.prog 6 #[.agg (Lib.byteCells key).toArray, .agg (Lib.byteCells nonce).toArray, .string s] w fun e w' => e = .returned (.bool true) ∧ Below w.heap.size w w' := by
  obtain ⟨ck, hck⟩ : ∃ c, c = (Lib.byteCells key).toArray := ⟨_, rfl⟩
  obtain ⟨cn, hcn⟩ : ∃ c, c = (Lib.byteCells nonce).toArray := ⟨_, rfl⟩
  have hckn : ck.size = 32 := by rw [hck, Sm.bytes_size, hkey]
  have hcnn : cn.size = 12 := by rw [hcn, Sm.bytes_size, hnon]
  have STR : Hid (∀ (wx : World) (t : ByteArray), t.size ≤ 1099511627776 → Calls Try.prog 12 #[.agg ck, .agg cn, .string t] wx fun e w' => e = .returned (.string ⟨(Ae.stream key nonce t.data.toList).toArray⟩) ∧ Below wx.heap.size wx w') := by
    intro wx t ht; rw [hck, hcn]; exact stream_any wx key nonce hkey hnon t ht
  rw [← hck, ← hcn]
  have g0 : ((w.alloc (.cells ck 25)).alloc (.cells cn 29)).heap[w.heap.size]? = some (.cells ck 25 (0, 0)) := by
    rw [Below.heap_alloc _ _ _ (by simp)]; exact heap_alloc_new w _
  have g1 : ((w.alloc (.cells ck 25)).alloc (.cells cn 29)).heap[w.heap.size + 1]? = some (.cells cn 29 (0, 0)) := by
    simpa using heap_alloc_new (w.alloc (.cells ck 25)) (.cells cn 29)
  have b1 : Below w.heap.size w ((w.alloc (.cells ck 25)).alloc (.cells cn 29)) := ((Below.refl _ w).alloc (Nat.le_refl _) _).alloc (by simp) _
  have AW := Lib.hid awake4_any
  have HI1 := Ae.infoKey hckn
  have HI2 := Ae.info12 hcnn
  have HG0 := Lib.hid g0
  have HG1 := Lib.hid g1
  clear hck hcn hckn hcnn hkey hnon g0 g1
  go_enter Try.func6, Try.ntmps6
  go_wp2_with fail
  generalize (w.alloc (.cells ck 25)).alloc (.cells cn 29) = W1 at *
  refine (AW.out _).mono ?_
  rintro e w2 ⟨rfl, k2⟩
  have b2 := Sm.low_low b1 (Nat.le_refl _) k2
  have G0 := Lib.hid ((k2.block w.heap.size (Sm.lt_of HG0.out)).trans HG0.out)
  have G1 := Lib.hid ((k2.block (w.heap.size + 1) (Sm.lt_of HG1.out)).trans HG1.out)
  clear k2 HG0 HG1 b1
  by_cases hg : 10000 < s.size
  · have hgi : (10000 : Int) < s.size := by omega
    go_wp2
    go_ret
    exact ⟨rfl, b2⟩
  · have hgi : ¬ (10000 : Int) < s.size := by omega
    go_wp2_with (first | (with_reducible refine wpList_load_row rfl 25 (.tmp 3) rfl w.heap.size rfl 25 ck (0, 0) _ (by exact G0.out) Try.underlying25 rfl HI1 ?_) | (with_reducible refine wpList_load_row rfl 29 (.tmp 4) rfl (w.heap.size + 1) rfl 29 cn (0, 0) _ (by exact G1.out) Try.underlying29 rfl HI2 ?_))
    refine (STR.out _ _ (by omega)).mono ?_
    rintro e w3 ⟨rfl, k3⟩
    have b3 := Sm.low_low b2 (Nat.le_refl _) k3
    have G0b := Lib.hid ((k3.block w.heap.size (Sm.lt_of G0.out)).trans G0.out)
    have G1b := Lib.hid ((k3.block (w.heap.size + 1) (Sm.lt_of G1.out)).trans G1.out)
    obtain ⟨x, hx⟩ : ∃ x : ByteArray, x = ⟨(Ae.stream key nonce s.data.toList).toArray⟩ := ⟨_, rfl⟩
    rw [← hx]
    have hxs : x.size = s.size := by
      rw [hx]; show (Ae.stream key nonce s.data.toList).length = s.size
      rw [Ae.stream_length]; rfl
    have ST2 : Hid (∀ wx : World, Calls Try.prog 12 #[.agg ck, .agg cn, .string x] wx fun e w' => e = .returned (.string s) ∧ Below wx.heap.size wx w') := fun wx => by
      refine (STR.out wx x (by omega)).mono fun e w' ⟨h1, h2⟩ => ⟨?_, h2⟩
      rw [h1, hx]
      show Ending.returned (.string ⟨(Ae.stream key nonce (Ae.stream key nonce s.data.toList)).toArray⟩) = _
      rw [Ae.stream_back]
    have hxi : ((x.size : Int) == (s.size : Int)) = true := by rw [beq_iff_eq]; omega
    have HXS := Lib.hid hxs
    clear hx k3 G0 G1 STR hxs
    go_wp2_with (first | (with_reducible refine Sm.wpList_load_row_g 25 (.tmp 3) rfl w.heap.size rfl 25 ck (0, 0) _ (by exact G0b.out) Try.underlying25 rfl HI1 ?_ rfl) | (with_reducible refine Sm.wpList_load_row_g 29 (.tmp 4) rfl (w.heap.size + 1) rfl 29 cn (0, 0) _ (by exact G1b.out) Try.underlying29 rfl HI2 ?_ rfl))
    refine (ST2.out _).mono ?_
    rintro e w4 ⟨rfl, k4⟩
    have b4 := Sm.low_low b3 (Nat.le_refl _) k4
    go_wp2
    go_ret
    exact ⟨rfl, b4⟩
end Go.Proofs.Ytkannddaihlcdaa
