/-
  The document's own functions of seal: Right, under, head, Tag, stream.
-/
import Derived.Test.YtibpgmcpcelmpaaGreatDoorSeMath
import Derived.Test.YtibpgmcpcelmpaaGreatDoorSeOne
import Derived.Test.YtibpgmcpcelmpaaGreatDoorPkTell
import Derived.Test.YtibpgmcpcelmpaaGreatDoorMRs
import Derived.Test.YtibpgmcpcelmpaaGreatDoorRaStream
namespace Go.Proofs.YtibpgmcpcelmpaaGreatDoor
open Go.RowKit Pk
namespace R5
theorem zeroA32 : (Tryz.prog.info? 63).map (fun i => (i.zero, i.size)) = some (some (.agg (Sm.rowB 32 [])), 32) := by kernel_rfl
theorem infoA32 {c : List Value} (h : c.length = 32) : (Tryz.prog.info? 63).map (·.size) = some c.length := by rw [h]; kernel_rfl
theorem infoA32a {c : List Value} (h : c.length = 32) : (Tryz.prog.info? 63).map (·.size) = some c.toArray.size := by rw [List.size_toArray]; exact infoA32 h
theorem infoA12 {c : List Value} (h : c.length = 12) : (Tryz.prog.info? 125).map (·.size) = some c.length := by rw [h]; kernel_rfl
theorem infoEnvL {c : List Value} (h : c.length = 36) : (Tryz.prog.info? 66).map (·.size) = some c.length := by rw [h]; kernel_rfl
end R5

set_option maxRecDepth 100000 in
set_option maxHeartbeats 1000000 in
theorem r5Right_any (w : World) (x : Se.Env) :
    Calls Tryz.prog 35 #[.agg x.cells.toArray] w fun e w' => e = .returned (.bool (decide x.Right)) ∧ Below w.heap.size w w' := by
  have hE := Se.env_new w x
  have hb := Se.below_new w (.cells x.cells.toArray 66)
  obtain ⟨cs, hcs⟩ : ∃ c, c = x.cells.toArray := ⟨_, rfl⟩
  rw [← hcs] at hE hb ⊢
  clear hcs
  obtain ⟨h0, -, -, h3⟩ := hE.cell
  clear hE
  by_cases k0 : 0 ≤ x.key
  · by_cases k1 : x.key ≤ 1048576
    · by_cases k2 : x.data.size ≤ 8192
      · have k2i : (x.data.size : Int) ≤ 8192 := by omega
        rw [decide_eq_true (show x.Right from ⟨⟨k0, k1⟩, k2⟩)]
        go_enter Tryz.func35, Tryz.ntmps35
        go_wp2
        go_ret
        exact ⟨rfl, hb⟩
      · have k2i : ¬ (x.data.size : Int) ≤ 8192 := by omega
        rw [decide_eq_false (show ¬ x.Right from fun h => k2 h.2)]
        go_enter Tryz.func35, Tryz.ntmps35
        go_wp2
        go_ret
        exact ⟨rfl, hb⟩
    · rw [decide_eq_false (show ¬ x.Right from fun h => k1 h.1.2)]
      go_enter Tryz.func35, Tryz.ntmps35
      go_wp2
      go_ret
      exact ⟨rfl, hb⟩
  · rw [decide_eq_false (show ¬ x.Right from fun h => k0 h.1.1)]
    go_enter Tryz.func35, Tryz.ntmps35
    go_wp2
    go_ret
    exact ⟨rfl, hb⟩

set_option maxRecDepth 100000 in
set_option maxHeartbeats 1000000 in
theorem r5Under_any (w : World) (k : List UInt8) (hk : k.length = 32) (s : ByteArray) (hs : s.size ≤ 8388608) :
    Calls Tryz.prog 65 #[.agg (Lib.byteCells k).toArray, .string s] w fun e w' => e = .returned (.agg (Lib.byteCells (Sm.tag k s.data.toList)).toArray) ∧ Below w.heap.size w w' := by
  obtain ⟨zk, hzk⟩ : ∃ z, z = Sm.rowB 32 [] := ⟨_, rfl⟩
  have hzz := (zero_of_info R5.zeroA32).1
  rw [← hzk] at hzz
  have hzs : zk.size = 32 := by rw [hzk]; exact Sm.rowB_size (by simp)
  obtain ⟨N, hN⟩ : ∃ N, N = w.heap.size := ⟨_, rfl⟩
  have g0 : ((w.alloc (.cells (Lib.byteCells k).toArray 63)).alloc (.cells zk 63)).heap[N]? = some (.cells (Lib.byteCells k).toArray 63 (0, 0)) := by
    rw [hN, Below.heap_alloc _ _ _ (by simp)]; exact heap_alloc_new w _
  have g1 : ((w.alloc (.cells (Lib.byteCells k).toArray 63)).alloc (.cells zk 63)).heap[N + 1]? = some (.cells zk 63 (0, 0)) := by
    rw [hN]; simpa using heap_alloc_new (w.alloc (.cells (Lib.byteCells k).toArray 63)) (.cells zk 63)
  have b2 : Below N w ((w.alloc (.cells (Lib.byteCells k).toArray 63)).alloc (.cells zk 63)) := by
    rw [hN]; exact ((Below.refl _ w).alloc (Nat.le_refl _) _).alloc (by simp) _
  have cv := Sm.conv_row g0 hk
  obtain ⟨co, hco⟩ : ∃ c, c = Lib.byteCells (Sm.tag k s.data.toList) := ⟨_, rfl⟩
  have hcol : co.length = 32 := by rw [hco, Lib.byteCells_length, Sm.tag_length]
  have hone : co.toArray.all (·.oneCell') = true := by rw [hco]; exact Sm.bytes_one _
  obtain ⟨kb, hkb⟩ : ∃ b : ByteArray, b = ⟨k.toArray⟩ := ⟨_, rfl⟩
  have TAG : Hid (∀ wx : World, Calls Tryz.prog 34 #[.string kb, .string s] wx fun e w' => e = .returned (.agg co.toArray) ∧ Below wx.heap.size wx w') := fun wx => by
    have q := rmtag_any kb s (by rw [hkb]; show k.toArray.size ≤ _; rw [List.size_toArray]; omega) hs wx
    rw [hco]
    rw [hkb] at q ⊢
    exact q
  rw [← hkb] at cv
  rw [← hco, ← hN]
  obtain ⟨ck, hck⟩ : ∃ c, c = (Lib.byteCells k).toArray := ⟨_, rfl⟩
  rw [← hck] at g0 g1 b2 cv ⊢
  have hick := R5.infoA32a hcol
  have HN := Lib.hid hN
  have G1 := Lib.hid g1
  have B2 := Lib.hid b2
  clear hzk hN g0 g1 b2 hco hkb hck
  go_enter Tryz.func65, Tryz.ntmps65
  go_upto_region 1 with (fail)
  rw [← HN.out]
  clear hzz
  generalize (w.alloc (.cells ck 63)).alloc (.cells zk 63) = W2 at *
  go_wp2_with fail
  refine (TAG.out _).mono ?_
  rintro e w3 ⟨rfl, k3⟩
  have HR3 := Lib.hid ((k3.block (N + 1) (Sm.lt_of G1.out)).trans G1.out)
  have B3 := Lib.hid (B2.out.trans (k3.mono (by have := B2.out.size; have := HN.out; omega)))
  clear k3 TAG cv
  go_wp2_with (with_reducible refine wpList_store_row rfl 63 (.tmp 4) (.tmp 8) rfl (N + 1) co.toArray rfl rfl 63 _ (by exact HR3.out) hick (by rw [hzs, List.size_toArray, hcol]) hone ?_)
  exact bodyPost_ret (v := .agg co.toArray) (results_cell_row rfl _ _ (N + 1) 63 _ (0, 0) _ rfl (setRow_heap _ (N + 1) _ _ _ _ HR3.out) Tryz.underlying63 rfl hick) rfl ⟨rfl, Sm.below_setRow B3.out (Nat.le_succ _) _⟩

set_option maxRecDepth 100000 in
set_option maxHeartbeats 1000000 in
theorem r5Head_any (w : World) (x : Se.Env) (ok : x.Ok) (hr : 0 ≤ x.key) :
    Calls Tryz.prog 36 #[.agg x.cells.toArray] w fun e w' => e = .returned (.string ⟨(Se.head x).toArray⟩) ∧ Below w.heap.size w w' := by
  have hE := Se.env_new w x
  have hb := Se.below_new w (.cells x.cells.toArray 66)
  obtain ⟨cs, hcs⟩ : ∃ c, c = x.cells.toArray := ⟨_, rfl⟩
  rw [← hcs] at hE hb ⊢
  obtain ⟨h0, h1, h2, -⟩ := hE.cell
  obtain ⟨N, hN⟩ : ∃ N, N = w.heap.size := ⟨_, rfl⟩
  rw [← hN] at hE hb h0 h1 h2 ⊢
  obtain ⟨kn, hkn⟩ : ∃ n : Nat, x.key = n := ⟨x.key.toNat, by omega⟩
  have hkb := ok.key
  have hbb := ok.boot
  have hnb := ok.n
  have e1 := enc_len (n := kn) (by omega)
  have e2 := enc_len (n := x.boot) (by omega)
  have e3 := enc_len hnb
  obtain ⟨s1, hs1⟩ : ∃ b : ByteArray, b = ⟨(enc kn).toArray⟩ := ⟨_, rfl⟩
  obtain ⟨s2, hs2⟩ : ∃ b : ByteArray, b = ⟨(enc x.boot).toArray⟩ := ⟨_, rfl⟩
  obtain ⟨s3, hs3⟩ : ∃ b : ByteArray, b = ⟨(enc x.n).toArray⟩ := ⟨_, rfl⟩
  have z1 : s1.size ≤ 10 := by rw [hs1]; show (enc kn).toArray.size ≤ _; rw [List.size_toArray]; exact e1
  have z2 : s2.size ≤ 10 := by rw [hs2]; show (enc x.boot).toArray.size ≤ _; rw [List.size_toArray]; exact e2
  have z3 : s3.size ≤ 10 := by rw [hs3]; show (enc x.n).toArray.size ≤ _; rw [List.size_toArray]; exact e3
  have p1 : ¬ 9223372036854775807 < s1.size + s2.size := by omega
  have p2 : ¬ 9223372036854775807 < (s1 ++ s2).size + s3.size := by rw [ByteArray.size_append]; omega
  have p3 : s1.size + s2.size + s3.size ≤ 9223372036854775807 := by omega
  have N1 : Hid (∀ wx : World, Calls Tryz.prog 67 #[.int .u64 (kn : Int)] wx fun e w' => e = .returned (.string s1) ∧ Below wx.heap.size wx w') := fun wx => by rw [hs1]; exact rNum_any kn (by omega) wx
  have N2 : Hid (∀ wx : World, Calls Tryz.prog 67 #[.int .u64 (x.boot : Int)] wx fun e w' => e = .returned (.string s2) ∧ Below wx.heap.size wx w') := fun wx => by rw [hs2]; exact rNum_any x.boot (by omega) wx
  have N3 : Hid (∀ wx : World, Calls Tryz.prog 67 #[.int .u64 (x.n : Int)] wx fun e w' => e = .returned (.string s3) ∧ Below wx.heap.size wx w') := fun wx => by rw [hs3]; exact rNum_any x.n hnb wx
  have HR : Hid (s1 ++ s2 ++ s3 = ⟨(Se.head x).toArray⟩) := by
    show _ = _
    rw [hs1, hs2, hs3, Se.head, hkn, Int.toNat_natCast]
    exact ByteArray.ext (by rw [ByteArray.data_append, ByteArray.data_append]; simp)
  have v1 : IntKind.u64.wrap (kn : Int) = kn := by rw [IntKind.wrap_u64]; omega
  have v2 : IntKind.u64.wrap (x.boot : Int) = x.boot := by rw [IntKind.wrap_u64]; omega
  rw [hkn] at h0
  have C := Lib.hid (show w.heap.size = w.heap.size ∧ True from ⟨rfl, trivial⟩)
  have HE : Hid ((w.alloc (.cells cs 66)).drew.heap[N]? = some (.cells cs 66 (0, 0))) := by
    show _ = _
    rw [hcs]; rw [hcs] at hE; exact hE
  have B2 := Lib.hid hb.drew
  have f0 : cs[0]? = some (.int .i64 (kn : Int)) := by rw [hcs, ← hkn]; rfl
  have f1 : cs[1]? = some (.int .u32 (x.boot : Int)) := by rw [hcs]; rfl
  have f2 : cs[2]? = some (.int .u64 (x.n : Int)) := by rw [hcs]; rfl
  have HN := Lib.hid hN
  clear hE hb h0 h1 h2 hcs hs1 hs2 hs3 hkn e1 e2 e3 C hN
  go_enter Tryz.func36, Tryz.ntmps36
  go_upto_region 1 with (fail)
  rw [← HN.out]
  refine wp_region_held_drew (S := fun w' => w'.heap[N]? = some (.cells cs 66 (0, 0))) (by kernel_rfl) HE.out (fun hHeld => ?_)
  generalize (w.alloc (.cells cs 66)).drew = W2 at *
  refine wpAnyH_take (i := 0) (oi := ⟨some 3, _, _, _, _, _⟩) (v := .pointer (some ⟨N, 0, none⟩)) rfl (by kernel_rfl) (by kernel_rfl) (by kernel_rfl) (fun _ _ _ h => h) (Or.inl ⟨by rfl, ?_⟩) (by assumption) ?_
  · intro w hSw; (try dsimp only at hSw); go_simp
  simp only [Act.put, List.setIfInBounds_toArray, List.set_cons_zero, List.set_cons_succ]
  refine wpAnyH_take (i := 1) (oi := ⟨some 4, _, _, _, _, _⟩) (v := .int .i64 (kn : Int)) rfl (by kernel_rfl) (by kernel_rfl) (by kernel_rfl) (fun _ _ _ h => h) (Or.inl ⟨by rfl, ?_⟩) (by assumption) ?_
  · intro w hSw; (try dsimp only at hSw); have c := Sm.cells_of hSw 0 _ f0; go_simp
  simp only [Act.put, List.setIfInBounds_toArray, List.set_cons_zero, List.set_cons_succ]
  refine wpAnyH_take (i := 2) (oi := ⟨some 5, _, _, _, _, _⟩) (v := .int .u64 (kn : Int)) rfl (by kernel_rfl) (by kernel_rfl) (by kernel_rfl) (fun _ _ _ h => h) (Or.inl ⟨by rfl, ?_⟩) (by assumption) ?_
  · intro w hSw; (try dsimp only at hSw); go_simp
  simp only [Act.put, List.setIfInBounds_toArray, List.set_cons_zero, List.set_cons_succ]
  refine wpAnyH_take (i := 4) (oi := ⟨some 7, _, _, _, _, _⟩) (v := .pointer (some ⟨N, 1, none⟩)) rfl (by kernel_rfl) (by kernel_rfl) (by kernel_rfl) (fun _ _ _ h => h) (Or.inl ⟨by rfl, ?_⟩) (by assumption) ?_
  · intro w hSw; (try dsimp only at hSw); go_simp
  simp only [Act.put, List.setIfInBounds_toArray, List.set_cons_zero, List.set_cons_succ]
  refine wpAnyH_take (i := 5) (oi := ⟨some 8, _, _, _, _, _⟩) (v := .int .u32 (x.boot : Int)) rfl (by kernel_rfl) (by kernel_rfl) (by kernel_rfl) (fun _ _ _ h => h) (Or.inl ⟨by rfl, ?_⟩) (by assumption) ?_
  · intro w hSw; (try dsimp only at hSw); have c := Sm.cells_of hSw 1 _ f1; go_simp
  simp only [Act.put, List.setIfInBounds_toArray, List.set_cons_zero, List.set_cons_succ]
  refine wpAnyH_take (i := 6) (oi := ⟨some 9, _, _, _, _, _⟩) (v := .int .u64 (x.boot : Int)) rfl (by kernel_rfl) (by kernel_rfl) (by kernel_rfl) (fun _ _ _ h => h) (Or.inl ⟨by rfl, ?_⟩) (by assumption) ?_
  · intro w hSw; (try dsimp only at hSw); go_simp
  simp only [Act.put, List.setIfInBounds_toArray, List.set_cons_zero, List.set_cons_succ]
  refine wpAnyH_take (i := 9) (oi := ⟨some 12, _, _, _, _, _⟩) (v := .pointer (some ⟨N, 2, none⟩)) rfl (by kernel_rfl) (by kernel_rfl) (by kernel_rfl) (fun _ _ _ h => h) (Or.inl ⟨by rfl, ?_⟩) (by assumption) ?_
  · intro w hSw; (try dsimp only at hSw); go_simp
  simp only [Act.put, List.setIfInBounds_toArray, List.set_cons_zero, List.set_cons_succ]
  refine wpAnyH_take (i := 10) (oi := ⟨some 13, _, _, _, _, _⟩) (v := .int .u64 (x.n : Int)) rfl (by kernel_rfl) (by kernel_rfl) (by kernel_rfl) (fun _ _ _ h => h) (Or.inl ⟨by rfl, ?_⟩) (by assumption) ?_
  · intro w hSw; (try dsimp only at hSw); have c := Sm.cells_of hSw 2 _ f2; go_simp
  simp only [Act.put, List.setIfInBounds_toArray, List.set_cons_zero, List.set_cons_succ]
  refine wpAnyH_ready (rs := [3]) (by kernel_rfl) (by simp) ?_
  refine (AllReadyH.cons (o := ⟨some 6, _, _, _, _, _⟩) rfl (fun K hK => ?_) AllReadyH.nil)
  go_simp
  refine (N1.out _).mono ?_
  rintro e w3 ⟨rfl, kw3⟩
  have HEw3 := Lib.hid ((kw3.block N (Sm.lt_of HE.out)).trans HE.out)
  have Bw3 := Lib.hid (B2.out.trans (kw3.mono (by have := B2.out.size; have := HN.out; omega)))
  clear kw3
  refine hK.out _ _ HEw3.out (fun hHeld => ?_)
  clear hK K
  refine wpAnyH_ready (rs := [7]) (by kernel_rfl) (by simp) ?_
  refine (AllReadyH.cons (o := ⟨some 10, _, _, _, _, _⟩) rfl (fun K hK => ?_) AllReadyH.nil)
  go_simp
  refine (N2.out _).mono ?_
  rintro e w4 ⟨rfl, kw4⟩
  have HEw4 := Lib.hid ((kw4.block N (Sm.lt_of HEw3.out)).trans HEw3.out)
  have Bw4 := Lib.hid (Bw3.out.trans (kw4.mono (by have := Bw3.out.size; have := HN.out; omega)))
  clear kw4
  refine hK.out _ _ HEw4.out (fun hHeld => ?_)
  clear hK K
  refine wpAnyH_take (i := 8) (oi := ⟨some 11, _, _, _, _, _⟩) (v := .string (s1 ++ s2)) rfl (by kernel_rfl) (by kernel_rfl) (by kernel_rfl) (fun _ _ _ h => h) (Or.inl ⟨by rfl, ?_⟩) (by assumption) ?_
  · intro w hSw; (try dsimp only at hSw); go_simp
  simp only [Act.put, List.setIfInBounds_toArray, List.set_cons_zero, List.set_cons_succ]
  refine wpAnyH_ready (rs := [11]) (by kernel_rfl) (by simp) ?_
  refine (AllReadyH.cons (o := ⟨some 14, _, _, _, _, _⟩) rfl (fun K hK => ?_) AllReadyH.nil)
  go_simp
  refine (N3.out _).mono ?_
  rintro e w5 ⟨rfl, kw5⟩
  have HEw5 := Lib.hid ((kw5.block N (Sm.lt_of HEw4.out)).trans HEw4.out)
  have Bw5 := Lib.hid (Bw4.out.trans (kw5.mono (by have := Bw4.out.size; have := HN.out; omega)))
  clear kw5
  refine hK.out _ _ HEw5.out (fun hHeld => ?_)
  clear hK K
  refine wpAnyH_take (i := 12) (oi := ⟨some 15, _, _, _, _, _⟩) (v := .string (s1 ++ s2 ++ s3)) rfl (by kernel_rfl) (by kernel_rfl) (by kernel_rfl) (fun _ _ _ h => h) (Or.inl ⟨by rfl, ?_⟩) (by assumption) ?_
  · intro w hSw; (try dsimp only at hSw); go_simp
  simp only [Act.put, List.setIfInBounds_toArray, List.set_cons_zero, List.set_cons_succ]
  refine wpAnyH_take (i := 13) (oi := ⟨some 2, _, _, _, _, _⟩) (v := .string (s1 ++ s2 ++ s3)) rfl (by kernel_rfl) (by kernel_rfl) (by kernel_rfl) (fun _ _ _ h => h) (Or.inl ⟨by rfl, ?_⟩) (by assumption) ?_
  · intro w hSw; (try dsimp only at hSw); go_simp
  simp only [Act.put, List.setIfInBounds_toArray, List.set_cons_zero, List.set_cons_succ]
  refine wpAnyH_done (by kernel_rfl) ?_ _
  go_wp2
  go_ret
  exact ⟨by rw [HR.out]; rfl, Bw5.out⟩

set_option maxRecDepth 100000 in
set_option maxHeartbeats 2000000 in
theorem r5Stream_any (w : World) (k : List UInt8) (hk : k.length = 32) (x : Se.Env) (t : ByteArray) (ht : t.size ≤ 1099511627776) :
    Calls Tryz.prog 32 #[.agg (Lib.byteCells k).toArray, .agg x.cells.toArray, .string t] w fun e w' => e = .returned (.string ⟨(Se.strm k x.boot x.n t.data.toList).toArray⟩) ∧ Below w.heap.size w w' := by
  obtain ⟨ck, hck⟩ : ∃ c, c = Lib.byteCells k := ⟨_, rfl⟩
  have hckl : ck.length = 32 := by rw [hck, Lib.byteCells_length, hk]
  obtain ⟨cs, hcs⟩ : ∃ c, c = x.cells.toArray := ⟨_, rfl⟩
  obtain ⟨zn, hzn⟩ : ∃ z, z = Sm.rowB 12 [] := ⟨_, rfl⟩
  have hzz := (zero_of_info Se.zero12).1
  rw [← hzn] at hzz
  obtain ⟨N, hN⟩ : ∃ N, N = w.heap.size := ⟨_, rfl⟩
  obtain ⟨W3, hW3⟩ : ∃ W, W = ((w.alloc (.cells ck.toArray 63)).alloc (.cells cs 66)).alloc (.cells zn 125) := ⟨_, rfl⟩
  have g0 : W3.heap[N]? = some (.cells ck.toArray 63 (0, 0)) := by
    rw [hW3, Below.heap_alloc _ _ _ (by simp; omega), Below.heap_alloc _ _ _ (by simp; omega), hN]; exact heap_alloc_new w _
  have g1 : W3.heap[N + 1]? = some (.cells x.cells.toArray 66 (0, 0)) := by
    rw [hW3, Below.heap_alloc _ _ _ (by simp; omega), hN, ← hcs]
    simpa using heap_alloc_new (w.alloc (.cells ck.toArray 63)) (.cells cs 66)
  have g2 : W3.heap[N + 2]? = some (.cells (Sm.rowB 12 (Se.n1 x.boot 0)) 125 (0, 0)) := by
    rw [hW3, hN, show Sm.rowB 12 (Se.n1 x.boot 0) = zn by rw [hzn]; rfl]
    simpa using heap_alloc_new ((w.alloc (.cells ck.toArray 63)).alloc (.cells cs 66)) (.cells zn 125)
  have b3 : Below N w W3 := by
    rw [hW3, hN]; exact (((Below.refl _ w).alloc (Nat.le_refl _) _).alloc (by simp) _).alloc (by simp; omega) _
  have s3 : W3.heap.size = N + 3 := by rw [hW3, hN]; simp
  obtain ⟨cn, hcn⟩ : ∃ c, c = Lib.byteCells (Se.nonce x.boot x.n) := ⟨_, rfl⟩
  have hcnl : cn.length = 12 := by rw [hcn, Lib.byteCells_length, Se.nonce_length]
  obtain ⟨cu, hcu⟩ : ∃ c, c = Lib.byteCells (Sm.tag k Se.encL) := ⟨_, rfl⟩
  have UN : Hid (∀ wx : World, Calls Tryz.prog 65 #[.agg ck.toArray, .string ⟨#[101, 110, 99]⟩] wx fun e w' => e = .returned (.agg cu.toArray) ∧ Below wx.heap.size wx w') := fun wx => by
    rw [hck, hcu]; exact r5Under_any wx k hk ⟨#[101, 110, 99]⟩ (by decide)
  have ST : Hid (∀ wx : World, Calls Tryz.prog 64 #[.agg cu.toArray, .agg cn.toArray, .string t] wx fun e w' => e = .returned (.string ⟨(Se.strm k x.boot x.n t.data.toList).toArray⟩) ∧ Below wx.heap.size wx w') := fun wx => by
    rw [hcu, hcn]; exact refStream_any wx (Sm.tag k Se.encL) (Se.nonce x.boot x.n) (Sm.tag_length _ _) (Se.nonce_length _ _) t ht
  have HCN := Lib.hid hcn
  rw [← hck, ← hcs, ← hN]
  have hick := R5.infoA32 hckl
  have hicn := R5.infoA12 hcnl
  have HG0 := Lib.hid g0
  have HG1 := Lib.hid g1
  have HN := Lib.hid hN
  have HW := Lib.hid hW3
  obtain ⟨rs, hrs⟩ : ∃ b : ByteArray, b = ⟨(Se.strm k x.boot x.n t.data.toList).toArray⟩ := ⟨_, rfl⟩
  rw [← hrs] at ST ⊢
  clear hck hcs hzn hN hW3 g0 g1 hcn hcu hrs
  go_enter Tryz.func32, Tryz.ntmps32
  go_upto_region 2 with (fail)
  rw [← HW.out, ← HN.out]
  clear hzz HW
  go_wp2_with fail
  go_loopw [8] (fun i wr => ∃ j : Nat, j ≤ 4 ∧ i = .int .i64 j ∧ wr.heap[N + 2]? = some (.cells (Sm.rowB 12 (Se.n1 x.boot j)) 125 (0, 0)) ∧ wr.heap[N]? = some (.cells ck.toArray 63 (0, 0)) ∧ wr.heap[N + 1]? = some (.cells x.cells.toArray 66 (0, 0)) ∧ Below N w wr) (fun i _ => 4 - (intOf i).toNat)
  case atStart => exact ⟨0, by omega, rfl, g2, HG0.out, HG1.out, b3⟩
  case round =>
    clear g2 b3 HG0 HG1
    obtain ⟨j, hj, rfl, hr2, hr0, hr1, hbk⟩ := hrel
    have HR2 := Lib.hid hr2
    have HR0 := Lib.hid hr0
    have HR1 := Lib.hid hr1
    clear hr0 hr1 hr2
    by_cases hlt : j < 4
    · have q1 : (j : Int) < 4 := by omega
      have hl := Se.n1_length x.boot j
      obtain ⟨old, hold⟩ := Sm.rowB_some (n := 12) (l := Se.n1 x.boot j) j (by omega) (by omega)
      have hold := Sm.cells_of HR2.out j old hold
      have fz := Sm.free_of HR2.out j
      have hb1 := (Se.EnvAt.cell HR1.out).2.1
      have v1 : IntKind.i64.wrap (8 * (j : Int)) = 8 * (j : Int) := IntWalk.i64_in _ (by omega)
      have v2 : IntKind.i64.wrap (24 - 8 * (j : Int)) = 24 - 8 * (j : Int) := IntWalk.i64_in _ (by omega)
      have v3 : IntKind.u64.wrap (24 - 8 * (j : Int)) = 24 - 8 * (j : Int) := by rw [IntKind.wrap_u64]; omega
      have p1 : 0 ≤ 24 - 8 * (j : Int) := by omega
      have p2 : 8 * (j : Int) ≤ 24 := by omega
      go_wp2_with fail
      go_roundw
      case rel =>
        refine ⟨j + 1, by omega, by go_num, ?_, ?_, ?_, hbk.setCell (p := ⟨N + 2, j, none⟩) (by show N ≤ N + 2; omega) _⟩
        · have e := Sm.rowB_set (n := 12) (l := Se.n1 x.boot j) (by omega) (UInt8.ofNat (x.boot / 2 ^ (24 - 8 * j)))
          rw [hl] at e
          rw [Se.n1_snoc, ← e, Se.shr_byte]
          exact Sm.heap_set HR2.out j _
        · rw [Below.heap_setCell _ _ _ _ (by show N ≠ N + 2; omega)]; exact HR0.out
        · rw [Below.heap_setCell _ _ _ _ (by show N + 1 ≠ N + 2; omega)]; exact HR1.out
      case measure => simp [intOf]; omega
    · obtain rfl : j = 4 := by omega
      have q1 : ¬ ((4 : Nat) : Int) < 4 := by omega
      have hr : wr.heap[N + 2]? = some (.cells (Sm.rowB 12 (Se.n2 x.boot x.n 0)) 125 (0, 0)) := by rw [HR2.out]; simp [Se.n2]
      have HR := Lib.hid hr
      clear hr HR2 hlt hj
      go_wp2_with fail
      obtain ⟨w1, hw1⟩ : ∃ w1, w1 = wr := ⟨_, rfl⟩
      rw [← hw1] at HR HR0 HR1 hbk ⊢
      clear hw1
      go_loopw [9] (fun i wr => ∃ j : Nat, j ≤ 8 ∧ i = .int .i64 j ∧ wr.heap[N + 2]? = some (.cells (Sm.rowB 12 (Se.n2 x.boot x.n j)) 125 (0, 0)) ∧ wr.heap[N]? = some (.cells ck.toArray 63 (0, 0)) ∧ wr.heap[N + 1]? = some (.cells x.cells.toArray 66 (0, 0)) ∧ Below N w wr) (fun i _ => 8 - (intOf i).toNat)
      case atStart => exact ⟨0, by omega, rfl, HR.out, HR0.out, HR1.out, hbk⟩
      case round =>
        clear HR HR0 HR1 hbk
        obtain ⟨j, hj, rfl, hr2, hr0, hr1, hbk⟩ := hrel
        have HR2 := Lib.hid hr2
        have HR0 := Lib.hid hr0
        have HR1 := Lib.hid hr1
        clear hr0 hr1 hr2
        by_cases hlt : j < 8
        · have q1 : (j : Int) < 8 := by omega
          have hl := Se.n2_length x.boot x.n j
          obtain ⟨old, hold⟩ := Sm.rowB_some (n := 12) (l := Se.n2 x.boot x.n j) (4 + j) (by omega) (by omega)
          have hold := Sm.cells_of HR2.out (4 + j) old hold
          have fz := Sm.free_of HR2.out (4 + j)
          have hb1 := (Se.EnvAt.cell HR1.out).2.2.1
          have v0 : IntKind.i64.wrap (4 + (j : Int)) = 4 + (j : Int) := IntWalk.i64_in _ (by omega)
          have v1 : IntKind.i64.wrap (8 * (j : Int)) = 8 * (j : Int) := IntWalk.i64_in _ (by omega)
          have v2 : IntKind.i64.wrap (56 - 8 * (j : Int)) = 56 - 8 * (j : Int) := IntWalk.i64_in _ (by omega)
          have v3 : IntKind.u64.wrap (56 - 8 * (j : Int)) = 56 - 8 * (j : Int) := by rw [IntKind.wrap_u64]; omega
          have p0 : (4 + (j : Int)).toNat = 4 + j := by omega
          have p1 : 0 ≤ 56 - 8 * (j : Int) := by omega
          have p2 : 8 * (j : Int) ≤ 56 := by omega
          have p3 : 0 ≤ 4 + (j : Int) := by omega
          have p4 : 4 + (j : Int) < 12 := by omega
          go_wp2_with fail
          go_roundw
          case rel =>
            refine ⟨j + 1, by omega, by go_num, ?_, ?_, ?_, hbk.setCell (p := ⟨N + 2, 4 + j, none⟩) (by show N ≤ N + 2; omega) _⟩
            · have e := Sm.rowB_set (n := 12) (l := Se.n2 x.boot x.n j) (by omega) (UInt8.ofNat (x.n / 2 ^ (56 - 8 * j)))
              rw [hl] at e
              rw [Se.n2_snoc, ← e, Se.shr_byte]
              exact Sm.heap_set HR2.out (4 + j) _
            · rw [Below.heap_setCell _ _ _ _ (by show N ≠ N + 2; omega)]; exact HR0.out
            · rw [Below.heap_setCell _ _ _ _ (by show N + 1 ≠ N + 2; omega)]; exact HR1.out
          case measure => simp [intOf]; omega
        · obtain rfl : j = 8 := by omega
          have q1 : ¬ ((8 : Nat) : Int) < 8 := by omega
          have hr := HR2.out
          rw [Sm.rowB_full (by rw [Se.n2_length]), show Se.n2 x.boot x.n 8 = Se.nonce x.boot x.n from rfl, ← HCN.out] at hr
          have HN2 : Hid (wr.drew.heap[N + 2]? = some (.cells cn.toArray 125 (0, 0))) := hr
          have HK0 : Hid (wr.drew.heap[N]? = some (.cells ck.toArray 63 (0, 0))) := HR0.out
          have B2 := Lib.hid hbk.drew
          clear hr HR2 HR0 HR1 hbk
          go_upto_region 10 with (fail)
          refine wp_region_held_drew (S := fun w' => w'.heap[N]? = some (.cells ck.toArray 63 (0, 0)) ∧ w'.heap[N + 2]? = some (.cells cn.toArray 125 (0, 0))) (by kernel_rfl) ⟨HK0.out, HN2.out⟩ (fun hHeld => ?_)
          generalize wr.drew = W2 at *
          refine wpAnyH_take (i := 0) (oi := ⟨some 39, _, _, _, _, _⟩) (v := .agg ck.toArray) rfl (by kernel_rfl) (by kernel_rfl) (by kernel_rfl) (fun _ _ _ h => h) (yieldsIf_load_mid (by rfl) _ _ rfl _ _ rfl ck _ (fun w hS => Sm.range_row hS.1) Tryz.underlying63 rfl hick) (by assumption) ?_
          simp only [Act.put, List.setIfInBounds_toArray, List.set_cons_zero, List.set_cons_succ]
          refine wpAnyH_take (i := 2) (oi := ⟨some 41, _, _, _, _, _⟩) (v := .agg cn.toArray) rfl (by kernel_rfl) (by kernel_rfl) (by kernel_rfl) (fun _ _ _ h => h) (yieldsIf_load_mid (by rfl) _ _ rfl _ _ rfl cn _ (fun w hS => Sm.range_row hS.2) Tryz.underlying125 rfl hicn) (by assumption) ?_
          simp only [Act.put, List.setIfInBounds_toArray, List.set_cons_zero, List.set_cons_succ]
          refine wpAnyH_take (i := 3) (oi := ⟨some 42, _, _, _, _, _⟩) (v := .string t) rfl (by kernel_rfl) (by kernel_rfl) (by kernel_rfl) (fun _ _ _ h => h) (Or.inl ⟨by rfl, ?_⟩) (by assumption) ?_
          · intro w hSw; (try dsimp only at hSw); go_simp
          simp only [Act.put, List.setIfInBounds_toArray, List.set_cons_zero, List.set_cons_succ]
          refine wpAnyH_ready (rs := [1]) (by kernel_rfl) (by simp) ?_
          refine (AllReadyH.cons (o := ⟨some 40, _, _, _, _, _⟩) rfl (fun K hK => ?_) AllReadyH.nil)
          go_simp
          refine (UN.out _).mono ?_
          rintro e w5 ⟨rfl, kw5⟩
          have HKw5 := Lib.hid ((kw5.block N (Sm.lt_of HK0.out)).trans HK0.out)
          have HNw5 := Lib.hid ((kw5.block (N + 2) (Sm.lt_of HN2.out)).trans HN2.out)
          have Bw5 := Lib.hid (B2.out.trans (kw5.mono (by have := B2.out.size; have := HN.out; omega)))
          clear kw5
          refine hK.out _ _ ⟨HKw5.out, HNw5.out⟩ (fun hHeld => ?_)
          clear hK K
          refine wpAnyH_ready (rs := [4]) (by kernel_rfl) (by simp) ?_
          refine (AllReadyH.cons (o := ⟨some 43, _, _, _, _, _⟩) rfl (fun K hK => ?_) AllReadyH.nil)
          go_simp
          refine (ST.out _).mono ?_
          rintro e w6 ⟨rfl, kw6⟩
          have HKw6 := Lib.hid ((kw6.block N (Sm.lt_of HKw5.out)).trans HKw5.out)
          have HNw6 := Lib.hid ((kw6.block (N + 2) (Sm.lt_of HNw5.out)).trans HNw5.out)
          have Bw6 := Lib.hid (Bw5.out.trans (kw6.mono (by have := Bw5.out.size; have := HN.out; omega)))
          clear kw6
          refine hK.out _ _ ⟨HKw6.out, HNw6.out⟩ (fun hHeld => ?_)
          clear hK K
          refine wpAnyH_take (i := 5) (oi := ⟨some 6, _, _, _, _, _⟩) (v := .string rs) rfl (by kernel_rfl) (by kernel_rfl) (by kernel_rfl) (fun _ _ _ h => h) (Or.inl ⟨by rfl, ?_⟩) (by assumption) ?_
          · intro w hSw; (try dsimp only at hSw); go_simp
          simp only [Act.put, List.setIfInBounds_toArray, List.set_cons_zero, List.set_cons_succ]
          refine wpAnyH_done (by kernel_rfl) ?_ _
          go_wp2
          go_ret
          exact ⟨rfl, Bw6.out⟩
end Go.Proofs.YtibpgmcpcelmpaaGreatDoor
