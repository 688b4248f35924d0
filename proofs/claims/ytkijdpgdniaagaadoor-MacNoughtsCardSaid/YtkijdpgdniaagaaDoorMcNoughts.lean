/-
  MacNoughts answers true for every key, text and number, and turns nothing of what was there.
-/
import Derived.Test.YtkijdpgdniaagaaDoorMcAwake
import Derived.Test.YtkijdpgdniaagaaDoorShelf
namespace Go.Proofs.YtkijdpgdniaagaaDoor
open Go.RowKit
namespace Sm
theorem repeat_zero (n : Nat) : Lib.repeatL [0] n = List.replicate n (0 : UInt8) := by
  induction n with
  | zero => rfl
  | succ n ih => rw [Lib.repeatL, ih]; rfl
end Sm

set_option maxRecDepth 100000 in
set_option maxHeartbeats 2000000 in
theorem noughts_great {w : World} (hH : Sm.HAt w) (hK : Sm.KAt w) (hsz : 1 < w.heap.size) (s t : ByteArray) (m : UInt8) (ht : 10000 < s.size ∨ 10000 < t.size) :
    Calls Tryd.prog 12 #[.string s, .string t, .int .u8 m.toNat] w fun e w' => e = .returned (.bool true) ∧ Below w.heap.size w w' := by
  have HA := Lib.hid (awake3_any hH hK hsz)
  clear hH hK
  by_cases h1 : 10000 < s.size
  · have h1i : (10000 : Int) < s.size := by omega
    clear ht
    go_enter Tryd.func12, Tryd.ntmps12
    go_wp2_with fail
    refine (HA.out).mono ?_
    rintro e w1 ⟨rfl, b1⟩
    go_wp2
    go_ret
    exact ⟨rfl, b1⟩
  · have h1i : ¬ (10000 : Int) < s.size := by omega
    have h2i : (10000 : Int) < t.size := by omega
    clear ht
    go_enter Tryd.func12, Tryd.ntmps12
    go_wp2_with fail
    refine (HA.out).mono ?_
    rintro e w1 ⟨rfl, b1⟩
    go_wp2
    go_ret
    exact ⟨rfl, b1⟩

set_option maxRecDepth 100000 in
set_option maxHeartbeats 4000000 in
theorem noughts_long {w : World} (hH : Sm.HAt w) (hK : Sm.KAt w) (hsz : 1 < w.heap.size) (s t : ByteArray) (m : UInt8) (h1 : ¬ 10000 < s.size) (h2 : ¬ 10000 < t.size) (h3 : 64 < s.size) :
    Calls Tryd.prog 12 #[.string s, .string t, .int .u8 m.toNat] w fun e w' => e = .returned (.bool true) ∧ Below w.heap.size w w' := by
  have h1i : ¬ (10000 : Int) < s.size := by omega
  have h2i : ¬ (10000 : Int) < t.size := by omega
  have h3i : (64 : Int) < s.size := by omega
  have HH := Lib.hid hH
  have HK := Lib.hid hK
  clear hH hK
  go_enter Tryd.func12, Tryd.ntmps12
  go_wp2_with fail
  refine (awake3_any HH.out HK.out hsz).mono ?_
  rintro e w1 ⟨rfl, b1⟩
  have s1 := b1.size
  go_wp2_with fail
  refine (sum_any s (HH.out.low b1 (by omega)) (HK.out.low b1 hsz) (by omega) (by omega)).mono ?_
  rintro e w4 ⟨rfl, k4⟩
  have b4 := Sm.low_low b1 (Nat.le_refl _) k4
  have s4 := k4.size
  have hT : Sm.tag (Sm.sum s.data.toList) t.data.toList = Sm.tag s.data.toList t.data.toList := Sm.tag_long _ _ h3
  obtain ⟨hi, hhi⟩ : ∃ h, h = Sm.sum s.data.toList := ⟨_, rfl⟩
  have hil : hi.length = 32 := by rw [hhi]; exact Sm.sum_length _
  rw [← hhi] at hT ⊢
  have hsz32 : (Lib.byteCells hi).toArray.size = 32 := by rw [Sm.bytes_size, hil]
  have hone := Sm.bytes_one hi
  have hst : ∀ (c : Array Value), c.size = 32 → (storeCells ⟨w4.heap.size, 0, none⟩ (Lib.byteCells hi).toArray.toList).run Tryd.prog (w4.alloc (.cells c 24)) = .ok () (w4.alloc (.cells (Lib.byteCells hi).toArray 24)) := fun c hc =>
    run_storeCells_new (P := Tryd.prog) w4 24 c _ (Sm.infoHash hsz32) (by rw [hsz32]; exact hc) hone
  have HP5 := Lib.hid (heap_alloc_new w4 (.cells (Lib.byteCells hi).toArray 24))
  have b5 : Below w.heap.size w (w4.alloc (.cells (Lib.byteCells hi).toArray 24)) := b4.alloc b4.size _
  have HT := Lib.hid hT
  obtain ⟨ci, hci⟩ : ∃ c, c = (Lib.byteCells hi).toArray := ⟨_, rfl⟩
  rw [← hci] at HP5 hst b5 hsz32 ⊢
  have HCI := Lib.hid hci
  clear hci hhi hone k4 b4 hT
  go_upto_region 7 with (fail)
  clear hst
  have hW5 : w4.heap.size < (w4.alloc (.cells ci 24)).heap.size := by simp
  generalize w4.alloc (.cells ci 24) = W5 at *
  obtain ⟨M, hM⟩ : ∃ M, M = w4.heap.size := ⟨_, rfl⟩
  rw [← hM] at HP5 hW5 ⊢
  obtain ⟨co, hco⟩ : ∃ c, c = (Lib.byteCells (Sm.tag s.data.toList t.data.toList)).toArray := ⟨_, rfl⟩
  obtain ⟨HB, hHB⟩ : ∃ b, b = ByteArray.mk hi.toArray := ⟨_, rfl⟩
  have hHs : HB.size ≤ 32 := by
    have : (ByteArray.mk hi.toArray).size = hi.length := rfl
    rw [hHB]; omega
  have TAG : Hid (∀ wx : World, Sm.HAt wx → Sm.KAt wx → 1 < wx.heap.size → Calls Tryd.prog 25 #[.string s, .string t] wx fun e w' => e = .returned (.agg co) ∧ Below wx.heap.size wx w') := by
    intro wx h1 h2 h3
    rw [hco]
    exact tag_any s t h1 h2 h3 (by omega) (by omega)
  have TAG2 : Hid (∀ wx : World, Sm.HAt wx → Sm.KAt wx → 1 < wx.heap.size → Calls Tryd.prog 25 #[.string HB, .string t] wx fun e w' => e = .returned (.agg co) ∧ Below wx.heap.size wx w') := by
    intro wx h1 h2 h3
    have h := tag_any HB t h1 h2 h3 (by omega) (by omega)
    have e1 : HB.data.toList = hi := by rw [hHB]
    rw [e1, HT.out, ← hco] at h
    exact h
  have heq := fun w' => Sm.eq_hash (Sm.tag s.data.toList t.data.toList) (Sm.tag s.data.toList t.data.toList) (Sm.tag_length _ _) (Sm.tag_length _ _) w'
  rw [beq_self_eq_true, ← hco] at heq
  have CONV : Hid (∀ wx : World, wx.heap[M]? = some (.cells ci 24 (0, 0)) → (convert 31 9 (.slice (some ⟨M, 0, none⟩) 32 32)).run Tryd.prog wx = .ok (.string HB) wx) := by
    intro wx h
    rw [HCI.out] at h
    rw [hHB]
    exact Sm.conv_row h hil
  have P5 : Hid (W5.drew.heap[M]? = some (.cells ci 24 (0, 0))) := HP5.out
  have B5 : Hid (Below w.heap.size w W5.drew) := b5.drew
  have DONE : Hid True := trivial
  clear hHB hco HT HP5 hM b5 hil HCI
  go_region_held3 (fun w' => (convert 31 9 (.slice (some ⟨M, 0, none⟩) 32 32)).run Tryd.prog w' = .ok (.string HB) w')
    (first | exact CONV.out _ P5.out | exact CONV.out _ P7.out | exact CONV.out _ P8.out)
    ((first
      | (go_at_call 25; (with_reducible refine (TAG.out _ (HH.out.low B5.out (by omega)) (HK.out.low B5.out hsz) (Nat.lt_of_lt_of_le hsz B5.out.size)).mono ?_); rintro e w7 ⟨rfl, k7⟩; have P7 := Lib.hid ((k7.block M (Sm.lt_of P5.out)).trans P5.out); have B7 := Lib.hid (Sm.low_low B5.out (Nat.le_refl _) k7); clear k7)
      | (go_at_call 25; (with_reducible refine (TAG2.out _ (HH.out.low B7.out (by omega)) (HK.out.low B7.out hsz) (Nat.lt_of_lt_of_le hsz B7.out.size)).mono ?_); rintro e w8 ⟨rfl, k8⟩; have P8 := Lib.hid ((k8.block M (Sm.lt_of P7.out)).trans P7.out); have B8 := Lib.hid (Sm.low_low B7.out (Nat.le_refl _) k8); clear k8)))
  go_wp2
  go_ret
  exact ⟨rfl, B8.out⟩

set_option maxRecDepth 100000 in
set_option maxHeartbeats 4000000 in
theorem noughts_short {w : World} (hH : Sm.HAt w) (hK : Sm.KAt w) (hsz : 1 < w.heap.size) (s t : ByteArray) (m : UInt8) (h1 : ¬ 10000 < s.size) (h2 : ¬ 10000 < t.size) (h3 : ¬ 64 < s.size) :
    Calls Tryd.prog 12 #[.string s, .string t, .int .u8 m.toNat] w fun e w' => e = .returned (.bool true) ∧ Below w.heap.size w w' := by
  have h1i : ¬ (10000 : Int) < s.size := by omega
  have h2i : ¬ (10000 : Int) < t.size := by omega
  have h3i : ¬ (64 : Int) < s.size := by omega
  have hm := byte_fits m
  generalize m.toNat = mn at *
  obtain ⟨n, hn⟩ : ∃ n, n = min (mn % 65) (64 - s.size) := ⟨_, rfl⟩
  have HH := Lib.hid hH
  have HK := Lib.hid hK
  clear hH hK
  go_enter Tryd.func12, Tryd.ntmps12
  go_wp2_with fail
  refine (awake3_any HH.out HK.out hsz).mono ?_
  rintro e w1 ⟨rfl, b1⟩
  have s1 := b1.size
  go_upto_region 9 with (fail)
  have e8 : min ((mn : Int) % 65) (64 - (s.size : Int)) = (n : Int) := by omega
  rw [e8]
  have hns : s.size + n ≤ 64 := by omega
  clear e8
  have HN := Lib.hid hn
  clear hn
  have hT := Sm.tag_noughts s.data.toList t.data.toList n (by exact hns)
  rw [← Sm.repeat_zero] at hT
  obtain ⟨co, hco⟩ : ∃ c, c = Sm.tag s.data.toList t.data.toList := ⟨_, rfl⟩
  have hcol : co.length = 32 := by rw [hco]; exact Sm.tag_length _ _
  obtain ⟨z, hz⟩ : ∃ z, z = ByteArray.mk (Lib.repeatL [0] n).toArray := ⟨_, rfl⟩
  have hzs : z.size ≤ 64 := by
    rw [hz]
    have : (ByteArray.mk (Lib.repeatL [0] n).toArray).size = (Lib.repeatL [0] n).length := rfl
    rw [this, Sm.repeat_zero, List.length_replicate]; omega
  have TAG : Hid (∀ wx : World, Sm.HAt wx → Sm.KAt wx → 1 < wx.heap.size → Calls Tryd.prog 25 #[.string s, .string t] wx fun e w' => e = .returned (.agg (Lib.byteCells co).toArray) ∧ Below wx.heap.size wx w') := by
    intro wx h1 h2 h3
    rw [hco]
    exact tag_any s t h1 h2 h3 (by omega) (by omega)
  have TAG2 : Hid (∀ wx : World, Sm.HAt wx → Sm.KAt wx → 1 < wx.heap.size → Calls Tryd.prog 25 #[.string (s ++ z), .string t] wx fun e w' => e = .returned (.agg (Lib.byteCells co).toArray) ∧ Below wx.heap.size wx w') := by
    intro wx h1 h2 h3
    have h := tag_any (s ++ z) t h1 h2 h3 (by rw [append_size]; omega) (by omega)
    have e1 : z.data.toList = Lib.repeatL [0] n := by rw [hz]
    rw [append_data, e1, hT, ← hco] at h
    exact h
  have REP : Hid (∀ wx : World, Calls Tryd.prog 19 #[.string ⟨#[0]⟩, .int .i64 (n : Int)] wx fun e w' => e = .returned (.string z) ∧ Below wx.heap.size wx w') := by
    intro wx
    rw [hz]
    exact strings_Repeat ⟨#[0]⟩ n wx (by omega) (by show 1 * n ≤ _; omega)
  have heq := fun w' => Sm.eq_hash co co hcol hcol w'
  rw [beq_self_eq_true] at heq
  have hsi : (s.size : Int) ≤ 8388608 := by omega
  have hzi : (z.size : Int) ≤ 8388608 := by omega
  have hab : ¬ 9223372036854775807 < s.size + z.size := by omega
  clear hT hco hcol hz hns
  go_wp2_with fail
  refine (TAG.out _ (HH.out.low b1 (by omega)) (HK.out.low b1 hsz) (by omega)).mono ?_
  rintro e w2 ⟨rfl, k2⟩
  have b2 := Sm.low_low b1 (Nat.le_refl _) k2
  have s2 := k2.size
  go_wp2_with fail
  refine (REP.out _).mono ?_
  rintro e w3 ⟨rfl, k3⟩
  have b3 := Sm.low_low b2 (Nat.le_refl _) k3
  have s3 := k3.size
  go_wp2_with fail
  refine (TAG2.out _ (HH.out.low b3 (by omega)) (HK.out.low b3 hsz) (by omega)).mono ?_
  rintro e w4 ⟨rfl, k4⟩
  have b4 := Sm.low_low b3 (Nat.le_refl _) k4
  clear k2 k3 k4
  have heq4 := heq w4
  go_wp2
  go_ret
  exact ⟨rfl, b4⟩

theorem noughts_any {w : World} (hH : Sm.HAt w) (hK : Sm.KAt w) (hsz : 1 < w.heap.size) (s t : ByteArray) (m : UInt8) :
    Calls Tryd.prog 12 #[.string s, .string t, .int .u8 m.toNat] w fun e w' => e = .returned (.bool true) ∧ Below w.heap.size w w' := by
  by_cases h : 10000 < s.size ∨ 10000 < t.size
  · exact noughts_great hH hK hsz s t m h
  · by_cases h3 : 64 < s.size
    · exact noughts_long hH hK hsz s t m (by omega) (by omega) h3
    · exact noughts_short hH hK hsz s t m (by omega) (by omega) h3
end Go.Proofs.YtkijdpgdniaagaaDoor
