/-
  What mac's hash and Tag do.
-/
import Derived.Test.YtkijdpgdniaagaaDoorMcBlock
namespace Go.Proofs.YtkijdpgdniaagaaDoor
open Go.RowKit

set_option maxRecDepth 100000 in
set_option maxHeartbeats 2000000 in
theorem hash_any (s t : ByteArray) {w : World} (hH : Sm.HAt w) (hK : Sm.KAt w) (hsz : 1 < w.heap.size) (hlen : s.size + t.size ≤ 1152921504606846976) :
    Calls Tryd.prog 42 #[.string s, .string t] w fun e w' => e = .returned (.agg (Lib.byteCells (Sm.sum (s.data.toList ++ t.data.toList))).toArray) ∧ Below w.heap.size w w' := by
  have HH := Lib.hid hH
  have HK := Lib.hid hK
  clear hH hK
  have hb1 : Below w.heap.size w (w.alloc (.cells (Sm.rowB 32 []) 24)) := (Below.refl _ w).alloc (Nat.le_refl _) _
  have hr1 := Sm.heap_row32 w
  have hh1 := HH.out.low hb1 (by omega)
  have hk1 := HK.out.low hb1 hsz
  have hs1 : (w.alloc (.cells (Sm.rowB 32 []) 24)).heap.size = w.heap.size + 1 := by simp
  go_enter Tryd.func42, Tryd.ntmps42
  go_wp2_with fail
  change Calls _ _ _ (w.alloc (.cells (Sm.rowB 32 []) 24)) _
  generalize w.alloc (.cells (Sm.rowB 32 []) 24) = W1 at *
  refine (new_any W1 hh1).mono ?_
  rintro e w1 ⟨rfl, rfl⟩
  have hb2 : Below W1.heap.size W1 (W1.alloc Sm.fresh) := (Below.refl _ W1).alloc (Nat.le_refl _) _
  have hi2 := Sm.is_new W1
  have hr2 := (hb2.block w.heap.size (by omega)).trans hr1
  have hb2w : Below w.heap.size w (W1.alloc Sm.fresh) := hb1.trans (hb2.mono (by omega))
  have hs2 : (W1.alloc Sm.fresh).heap.size = w.heap.size + 2 := by simp; omega
  generalize W1.alloc Sm.fresh = W2 at *
  rw [hs1] at hi2 ⊢
  have hk2 := HK.out.low hb2w hsz
  have HI2 := Lib.hid hi2
  have HK2 := Lib.hid hk2
  have HR2 := Lib.hid hr2
  clear hi2 hk2 hr2 hr1 hb1 hb2 hh1 hk1 hs1
  go_wp2_with fail
  refine (write_any s HI2.out HK2.out (by omega) (by omega) (by simp; omega)).mono ?_
  rintro e w3 ⟨rfl, hg3, hi3⟩
  have hs3 := hg3.size
  have hr3 := (hg3.block w.heap.size (by omega) (by intro e; have := Option.some.inj e; omega)).trans HR2.out
  have hb3w : Below w.heap.size w w3 := hb2w.trans (Sm.grown_from hg3 (by omega) (by omega))
  have hk3 := HK.out.low hb3w hsz
  rw [List.nil_append] at hi3
  have HI3 := Lib.hid hi3
  have HK3 := Lib.hid hk3
  have HR3 := Lib.hid hr3
  clear hi3 hk3 hr3 hg3
  go_wp2_with fail
  refine (write_any t HI3.out HK3.out (by omega) (by omega) (by show s.size + t.size ≤ _; omega)).mono ?_
  rintro e w3b ⟨rfl, hg3, hi3⟩
  have hs3b := hg3.size
  have hr3 := (hg3.block w.heap.size (by omega) (by intro e; have := Option.some.inj e; omega)).trans HR3.out
  have hb3b : Below w.heap.size w w3b := hb3w.trans (Sm.grown_from hg3 (by omega) (by omega))
  have hk3 := HK.out.low hb3b hsz
  have HI3b := Lib.hid hi3
  have HK3b := Lib.hid hk3
  have HR3b := Lib.hid hr3
  clear hi3 hk3 hr3 hg3
  go_wp2_with fail
  refine (xsum_any HI3b.out HK3b.out (by rw [List.length_append]; exact hlen) (by omega)).mono ?_
  rintro e w4 ⟨rfl, hb4⟩
  have hr4 : w4.heap[w.heap.size]? = some (.cells (Sm.rowB 32 []) 24 (0, 0)) := (hb4.block _ (by omega)).trans HR3b.out
  have HR4 := Lib.hid hr4
  have hsz32 : (Lib.byteCells (Sm.sum (s.data.toList ++ t.data.toList))).toArray.size = 32 := by simp [Lib.byteCells, Sm.sum_length]
  have hone := Sm.bytes_one (Sm.sum (s.data.toList ++ t.data.toList))
  have hz32 : (Sm.rowB 32 []).size = (Lib.byteCells (Sm.sum (s.data.toList ++ t.data.toList))).toArray.size := by rw [hsz32]; exact Sm.rowB_size (by simp)
  obtain ⟨cs2, hcs2⟩ : ∃ c, c = (Lib.byteCells (Sm.sum (s.data.toList ++ t.data.toList))).toArray := ⟨_, rfl⟩
  rw [← hcs2] at hsz32 hone hz32 ⊢
  have HC2 := Lib.hid hcs2
  clear hcs2 hr4
  go_wp2_with (with_reducible refine wpList_store_row rfl 24 (.tmp 4) (.tmp 14) rfl w.heap.size cs2 rfl rfl 24 _ (by exact HR4.out) (Sm.infoHash hsz32) hz32 hone ?_)
  exact bodyPost_ret (v := .agg cs2) (results_cell_row rfl _ _ w.heap.size 24 _ (0, 0) _ rfl (setRow_heap _ w.heap.size _ _ _ _ HR4.out) Tryd.underlying24 rfl (Sm.infoHash hsz32)) rfl ⟨by rw [HC2.out], Sm.below_setRow (hb3b.trans (hb4.mono (by omega))) (Nat.le_refl _) _⟩

set_option maxRecDepth 100000 in
set_option maxHeartbeats 4000000 in
theorem tag_any (k t : ByteArray) {w : World} (hH : Sm.HAt w) (hK : Sm.KAt w) (hsz : 1 < w.heap.size) (hk : k.size ≤ 1152921504606846976) (ht : t.size ≤ 1152921504606846912) :
    Calls Tryd.prog 25 #[.string k, .string t] w fun e w' => e = .returned (.agg (Lib.byteCells (Sm.tag k.data.toList t.data.toList)).toArray) ∧ Below w.heap.size w w' := by
  have HH := Lib.hid hH
  have HK := Lib.hid hK
  clear hH hK
  have b1 : Below w.heap.size w (w.alloc (.cells (Sm.rowB 32 []) 24)) := (Below.refl _ w).alloc (Nat.le_refl _) _
  have r1 := Sm.heap_row32 w
  have s1 : w.heap.size < (w.alloc (.cells (Sm.rowB 32 []) 24)).heap.size := by simp
  go_enter Tryd.func25, Tryd.ntmps25
  go_wp2_with fail
  change Calls _ _ _ (w.alloc (.cells (Sm.rowB 32 []) 24)) _
  generalize w.alloc (.cells (Sm.rowB 32 []) 24) = W1 at *
  refine (blockOf_any k (HH.out.low b1 (by omega)) (HK.out.low b1 hsz) (by omega) hk).mono ?_
  rintro e W2 ⟨rfl, k2⟩
  have b2 := Sm.low_low b1 (Nat.le_refl _) k2
  have r2 := (k2.block _ s1).trans r1
  have s2 := k2.size
  have hkb := Sm.kblock_length k.data.toList
  obtain ⟨kb, hkb2⟩ : ∃ l, l = Sm.kblock k.data.toList := ⟨_, rfl⟩
  have hT : Hid (Sm.tag k.data.toList t.data.toList = Sm.sum (Sm.xored 92 kb ++ Sm.sum (Sm.xored 54 kb ++ t.data.toList))) := by rw [hkb2]; rfl
  rw [← hkb2] at hkb ⊢
  clear hkb2 k2
  have hsz64 : (Lib.byteCells kb).toArray.size = 64 := by rw [Sm.bytes_size, hkb]
  have hone := Sm.bytes_one kb
  have hst : ∀ (c : Array Value), c.size = 64 → (storeCells ⟨W2.heap.size, 0, none⟩ (Lib.byteCells kb).toArray.toList).run Tryd.prog (W2.alloc (.cells c 77)) = .ok () (W2.alloc (.cells (Lib.byteCells kb).toArray 77)) := fun c hc =>
    run_storeCells_new (P := Tryd.prog) W2 77 c _ (Sm.infoBlk hsz64) (by rw [hsz64]; exact hc) hone
  have r3 := heap_alloc_new W2 (.cells (Lib.byteCells kb).toArray 77)
  have b3 : Below w.heap.size w (W2.alloc (.cells (Lib.byteCells kb).toArray 77)) := b2.alloc b2.size _
  have q3 : (W2.alloc (.cells (Lib.byteCells kb).toArray 77)).heap[w.heap.size]? = some (.cells (Sm.rowB 32 []) 24 (0, 0)) := by
    rw [Below.heap_alloc _ _ _ (Sm.lt_of r2)]; exact r2
  have s3 : (W2.alloc (.cells (Lib.byteCells kb).toArray 77)).heap.size = W2.heap.size + 1 := by simp
  obtain ⟨cl, hcl⟩ : ∃ c, c = Lib.byteCells kb := ⟨_, rfl⟩
  rw [← hcl] at hst hsz64 r3 b3 q3 s3 ⊢
  have HCL := Lib.hid hcl
  clear hcl hone r1 r2 b1
  have XI : Hid (∀ wx : World, Calls Tryd.prog 43 #[.agg cl.toArray, .int .u8 54] wx fun e w' => e = .returned (.string ⟨(Sm.xored 54 kb).toArray⟩) ∧ Below wx.heap.size wx w') := by
    rw [HCL.out]; exact fun wx => xored_any kb hkb 54 wx
  have XO : Hid (∀ wx : World, Calls Tryd.prog 43 #[.agg cl.toArray, .int .u8 92] wx fun e w' => e = .returned (.string ⟨(Sm.xored 92 kb).toArray⟩) ∧ Below wx.heap.size wx w') := by
    rw [HCL.out]; exact fun wx => xored_any kb hkb 92 wx
  have hcsz : cl.toArray.size = 64 := hsz64
  go_upto_region 2 with (fail)
  clear hst
  generalize W2.alloc (.cells cl.toArray 77) = W3 at *
  obtain ⟨N5, hN5⟩ : ∃ N, N = W2.heap.size := ⟨_, rfl⟩
  rw [← hN5] at r3 s2 s3 ⊢
  have HR3 := Lib.hid r3
  have HN5 := Lib.hid hN5
  have h5 : w.heap.size < N5 := Nat.lt_of_lt_of_le s1 s2
  clear r3 hN5 b2 s1 s2
  go_wp2_with (with_reducible refine wpList_load_row rfl 77 (.tmp 5) rfl N5 rfl 77 cl.toArray (0, 0) _ (by exact HR3.out) Tryd.underlying77 rfl (Sm.infoBlk hcsz) ?_)
  refine (XI.out _).mono ?_
  rintro e W4 ⟨rfl, k4⟩
  have b4 := Sm.low_low b3 (Nat.le_refl _) k4
  have s4 := k4.size
  have r4 := (k4.block N5 (by omega)).trans HR3.out
  have q4 := (k4.block w.heap.size (by omega)).trans q3
  clear k4 q3 HR3 b3
  have HR4 := Lib.hid r4
  clear r4
  go_wp2_with fail
  have hxi := Sm.xored_length 54 kb
  have eI : (ByteArray.mk (Sm.xored 54 kb).toArray).size = (Sm.xored 54 kb).length := rfl
  have hHA := hash_any ⟨(Sm.xored 54 kb).toArray⟩ t (HH.out.low b4 (by omega)) (HK.out.low b4 hsz) (by omega) (by omega)
  refine hHA.mono ?_
  rintro e W5 ⟨rfl, k5⟩
  have b5 := Sm.low_low b4 (Nat.le_refl _) k5
  have s5 := k5.size
  have r5 := (k5.block N5 (by omega)).trans HR4.out
  have q5 := (k5.block w.heap.size (by omega)).trans q4
  clear k5 q4 HR4 b4 hHA eI hxi
  have hT2 : Hid (Sm.tag k.data.toList t.data.toList = Sm.sum (Sm.xored 92 kb ++ Sm.sum ((ByteArray.mk (Sm.xored 54 kb).toArray).data.toList ++ t.data.toList))) := hT.out
  obtain ⟨hi, hhi⟩ : ∃ h, h = Sm.sum ((ByteArray.mk (Sm.xored 54 kb).toArray).data.toList ++ t.data.toList) := ⟨_, rfl⟩
  have hil : hi.length = 32 := by rw [hhi]; exact Sm.sum_length _
  rw [← hhi] at hT2 ⊢
  have hsz32 : (Lib.byteCells hi).toArray.size = 32 := by rw [Sm.bytes_size, hil]
  have hone := Sm.bytes_one hi
  have hst : ∀ (c : Array Value), c.size = 32 → (storeCells ⟨W5.heap.size, 0, none⟩ (Lib.byteCells hi).toArray.toList).run Tryd.prog (W5.alloc (.cells c 24)) = .ok () (W5.alloc (.cells (Lib.byteCells hi).toArray 24)) := fun c hc =>
    run_storeCells_new (P := Tryd.prog) W5 24 c _ (Sm.infoHash hsz32) (by rw [hsz32]; exact hc) hone
  have p6 := heap_alloc_new W5 (.cells (Lib.byteCells hi).toArray 24)
  have b6 : Below w.heap.size w (W5.alloc (.cells (Lib.byteCells hi).toArray 24)) := b5.alloc b5.size _
  have r6 : (W5.alloc (.cells (Lib.byteCells hi).toArray 24)).heap[N5]? = some (.cells cl.toArray 77 (0, 0)) := by
    rw [Below.heap_alloc _ _ _ (Sm.lt_of r5)]; exact r5
  have q6 : (W5.alloc (.cells (Lib.byteCells hi).toArray 24)).heap[w.heap.size]? = some (.cells (Sm.rowB 32 []) 24 (0, 0)) := by
    rw [Below.heap_alloc _ _ _ (Sm.lt_of q5)]; exact q5
  have s6 : (W5.alloc (.cells (Lib.byteCells hi).toArray 24)).heap.size = W5.heap.size + 1 := by simp
  have hcv6 := Sm.conv_row (n := 32) p6 hil
  have hsz32b := hsz32
  obtain ⟨co, hco⟩ : ∃ c, c = Lib.byteCells (Sm.sum ((ByteArray.mk (Sm.xored 92 kb).toArray).data.toList ++ (ByteArray.mk hi.toArray).data.toList)) := ⟨_, rfl⟩
  have hxo := Sm.xored_length 92 kb
  have eO : (ByteArray.mk (Sm.xored 92 kb).toArray).size = (Sm.xored 92 kb).length := rfl
  have eH : (ByteArray.mk hi.toArray).size = hi.length := rfl
  have HASH : Hid (∀ wx : World, Sm.HAt wx → Sm.KAt wx → 1 < wx.heap.size → Calls Tryd.prog 42 #[.string ⟨(Sm.xored 92 kb).toArray⟩, .string ⟨hi.toArray⟩] wx fun e w' => e = .returned (.agg co.toArray) ∧ Below wx.heap.size wx w') := by
    intro wx h1 h2 h3
    rw [hco]
    exact hash_any _ _ h1 h2 h3 (by omega)
  have hcol : co.length = 32 := by rw [hco, Lib.byteCells_length, Sm.sum_length]
  have hoc : ∀ v ∈ co, v.oneCell' = true := by rw [hco]; exact Lib.byteCells_one _
  have HT3 : Hid (Sm.tag k.data.toList t.data.toList = Sm.sum ((ByteArray.mk (Sm.xored 92 kb).toArray).data.toList ++ (ByteArray.mk hi.toArray).data.toList)) := hT2.out
  have HRES : Hid ((Value.agg co.toArray) = .agg (Lib.byteCells (Sm.tag k.data.toList t.data.toList)).toArray) := by
    show _ = _
    rw [HT3.out, ← hco]
  have hund : Tryd.prog.underlying 77 = some (.array 64 5) := Tryd.underlying77
  have hicl : (Tryd.prog.info? 77).map (·.size) = some cl.length := by rw [Sm.infoBlk hcsz]; simp
  have hioc : (Tryd.prog.info? 24).map (·.size) = some co.length := by rw [hcol]; kernel_rfl
  have HP6 := Lib.hid p6
  have HIL := Lib.hid hil
  obtain ⟨ci, hci⟩ : ∃ c, c = Lib.byteCells hi := ⟨_, rfl⟩
  rw [← hci] at HP6 hst hsz32 p6 b6 r6 q6 s6 hcv6 ⊢
  have HCI := Lib.hid hci
  have lt6 := Sm.lt_of q5
  clear hci hT hT2 HT3 hhi hone p6 r5 q5 hcv6 hxo eO eH hco hsz32b b5 s4 s5 XI
  go_upto_region 3 with (fail)
  clear hst
  generalize W5.alloc (.cells ci.toArray 24) = W6 at *
  obtain ⟨N6, hN6⟩ : ∃ N, N = W5.heap.size := ⟨_, rfl⟩
  rw [← hN6] at HP6 s6 lt6 ⊢
  have CONV : Hid (∀ wx : World, wx.heap[N6]? = some (.cells ci.toArray 24 (0, 0)) → (convert 31 9 (.slice (some ⟨N6, 0, none⟩) 32 32)).run Tryd.prog wx = .ok (.string ⟨hi.toArray⟩) wx) := by
    intro wx h
    rw [HCI.out] at h
    exact Sm.conv_row h HIL.out
  have h6 : N6 < W6.drew.heap.size := by show N6 < W6.heap.size; omega
  have h56 : N5 < W6.drew.heap.size := Sm.lt_of r6
  have h46 : w.heap.size < W6.drew.heap.size := Sm.lt_of q6
  have hz32 : (Sm.rowB 32 []).size = 32 := Sm.rowB_size (by simp)
  have hzl : (Sm.rowB 32 []).size = co.length := by rw [hz32, hcol]
  have R6 : Hid (W6.drew.heap[N5]? = some (.cells cl.toArray 77 (0, 0))) := r6
  have P6 : Hid (W6.drew.heap[N6]? = some (.cells ci.toArray 24 (0, 0))) := HP6.out
  have Q6 : Hid (W6.drew.heap[w.heap.size]? = some (.cells (Sm.rowB 32 []) 24 (0, 0))) := q6
  have B6 : Hid (Below w.heap.size w W6.drew) := b6.drew
  have H45 : Hid (N5 ≠ w.heap.size) := by show N5 ≠ w.heap.size; omega
  have H46 : Hid (N6 ≠ w.heap.size) := by show N6 ≠ w.heap.size; omega
  have HZ32 := Lib.hid hz32
  have HZL := Lib.hid hzl
  have HCOL := Lib.hid hcol
  clear r6 q6 b6 HP6 hN6 hz32 hzl
  go_region_held3 (fun w' => w'.rangeAt N5 0 cl ∧ (convert 31 9 (.slice (some ⟨N6, 0, none⟩) 32 32)).run Tryd.prog w' = .ok (.string ⟨hi.toArray⟩) w' ∧ w'.there w.heap.size 0 32)
    (first | exact ⟨Sm.range_row R6.out, CONV.out _ P6.out, Sm.there_row Q6.out HZ32.out⟩ | exact ⟨Sm.range_row R7.out, CONV.out _ P7.out, Sm.there_row Q7.out HZ32.out⟩ | exact ⟨Sm.range_row R8.out, CONV.out _ P8.out, Sm.there_row Q8.out HZ32.out⟩ | exact ⟨World.rangeAt_setCells_apart (Sm.range_row R8.out) _ _ _ (.inl H45.out), CONV.out _ (Sm.other_setCells H46.out P8.out), World.there_setCells (Sm.there_row Q8.out HZ32.out) _ _ _⟩)
    ((first
      | (go_at_call 43; refine (XO.out _).mono ?_; rintro e w7 ⟨rfl, k7⟩; have R7 := Lib.hid ((k7.block N5 h56).trans R6.out); have P7 := Lib.hid ((k7.block N6 h6).trans P6.out); have Q7 := Lib.hid ((k7.block w.heap.size h46).trans Q6.out); have B7 := Lib.hid (Sm.low_low B6.out (Nat.le_refl _) k7); clear k7)
      | (go_at_call 42; refine (HASH.out _ (HH.out.low B7.out (by omega)) (HK.out.low B7.out hsz) (Nat.lt_of_lt_of_le hsz B7.out.size)).mono ?_; rintro e w8 ⟨rfl, k8⟩; have R8 := Lib.hid ((k8.block N5 (Sm.lt_of R7.out)).trans R7.out); have P8 := Lib.hid ((k8.block N6 (Sm.lt_of P7.out)).trans P7.out); have Q8 := Lib.hid ((k8.block w.heap.size (Sm.lt_of Q7.out)).trans Q7.out); have B8 := Lib.hid (Sm.low_low B7.out (Nat.le_refl _) k8); clear k8)))
  go_wp2
  exact bodyPost_ret (v := .agg co.toArray) (results_cell_row rfl _ _ w.heap.size 24 _ (0, 0) _ rfl (Sm.heap_setAll Q8.out HZL.out) Tryd.underlying24 rfl (by rw [List.size_toArray]; exact hioc)) rfl ⟨by rw [HRES.out], Sm.below_setCells (Nat.le_refl _) _ _ B8.out⟩
end Go.Proofs.YtkijdpgdniaagaaDoor
