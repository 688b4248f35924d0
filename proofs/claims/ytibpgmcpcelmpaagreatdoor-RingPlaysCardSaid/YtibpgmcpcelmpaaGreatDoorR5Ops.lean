/-
  The document's own Tag, Close and Open of seal.
-/
import Derived.Test.YtibpgmcpcelmpaaGreatDoorR5Fns
import Derived.Test.YtibpgmcpcelmpaaGreatDoorSeOne
import Derived.Test.YtibpgmcpcelmpaaGreatDoorMBase
namespace Go.Proofs.YtibpgmcpcelmpaaGreatDoor
open Go.RowKit Pk
namespace R5
theorem text_bytes (s : ByteArray) : enc s.size ++ s.data.toList = Se.txt s.data.toList := by
  rw [Se.txt, Array.length_toList]; rfl
end R5

set_option maxRecDepth 100000 in
set_option maxHeartbeats 2000000 in
theorem r5Tag_any (w : World) (k : List UInt8) (hk : k.length = 32) (x : Se.Env) (ok : x.Ok) (hr : 0 ≤ x.key) (about : ByteArray) (ha : about.size ≤ 20000) (hd : x.data.size ≤ 20000) :
    Calls Tryz.prog 33 #[.agg (Lib.byteCells k).toArray, .agg x.cells.toArray, .string about] w fun e w' => e = .returned (.agg (Lib.byteCells (Se.tagOf k x about.data.toList)).toArray) ∧ Below w.heap.size w w' := by
  obtain ⟨ck, hck⟩ : ∃ c, c = Lib.byteCells k := ⟨_, rfl⟩
  have hckl : ck.length = 32 := by rw [hck, Lib.byteCells_length, hk]
  obtain ⟨cs, hcs⟩ : ∃ c, c = x.cells := ⟨_, rfl⟩
  have hcsl : cs.length = 36 := by rw [hcs]; exact Se.cells_length _ ok.tag
  obtain ⟨zk, hzk⟩ : ∃ z, z = Sm.rowB 32 [] := ⟨_, rfl⟩
  have hzz := (zero_of_info R5.zeroA32).1
  rw [← hzk] at hzz
  have hzs : zk.size = 32 := by rw [hzk]; exact Sm.rowB_size (by simp)
  obtain ⟨N, hN⟩ : ∃ N, N = w.heap.size := ⟨_, rfl⟩
  obtain ⟨W3, hW3⟩ : ∃ W, W = ((w.alloc (.cells ck.toArray 63)).alloc (.cells cs.toArray 66)).alloc (.cells zk 63) := ⟨_, rfl⟩
  have g0 : W3.heap[N]? = some (.cells ck.toArray 63 (0, 0)) := by
    rw [hW3, Below.heap_alloc _ _ _ (by simp; omega), Below.heap_alloc _ _ _ (by simp; omega), hN]; exact heap_alloc_new w _
  have g1 : W3.heap[N + 1]? = some (.cells cs.toArray 66 (0, 0)) := by
    rw [hW3, Below.heap_alloc _ _ _ (by simp; omega), hN]
    simpa using heap_alloc_new (w.alloc (.cells ck.toArray 63)) (.cells cs.toArray 66)
  have g2 : W3.heap[N + 2]? = some (.cells zk 63 (0, 0)) := by
    rw [hW3, hN]
    simpa using heap_alloc_new ((w.alloc (.cells ck.toArray 63)).alloc (.cells cs.toArray 66)) (.cells zk 63)
  have b3 : Below N w W3 := by
    rw [hW3, hN]; exact (((Below.refl _ w).alloc (Nat.le_refl _) _).alloc (by simp) _).alloc (by simp; omega) _
  have s3 : W3.heap.size = N + 3 := by rw [hW3, hN]; simp
  obtain ⟨cm, hcm⟩ : ∃ c, c = Lib.byteCells (Sm.tag k Se.macL) := ⟨_, rfl⟩
  have hcml : cm.length = 32 := by rw [hcm, Lib.byteCells_length, Sm.tag_length]
  have hcmo : cm.toArray.all (·.oneCell') = true := by rw [hcm]; exact Sm.bytes_one _
  have UN : Hid (∀ wx : World, Calls Tryz.prog 65 #[.agg ck.toArray, .string ⟨#[109, 97, 99]⟩] wx fun e w' => e = .returned (.agg cm.toArray) ∧ Below wx.heap.size wx w') := fun wx => by
    rw [hck, hcm]; exact r5Under_any wx k hk ⟨#[109, 97, 99]⟩ (by decide)
  obtain ⟨hb, hhb⟩ : ∃ b : ByteArray, b = ⟨(Se.head x).toArray⟩ := ⟨_, rfl⟩
  obtain ⟨ab, hab⟩ : ∃ b : ByteArray, b = ⟨(enc about.size ++ about.data.toList).toArray⟩ := ⟨_, rfl⟩
  obtain ⟨db, hdb⟩ : ∃ b : ByteArray, b = ⟨(enc x.data.size ++ x.data.data.toList).toArray⟩ := ⟨_, rfl⟩
  have HD : Hid (∀ wx : World, Calls Tryz.prog 36 #[.agg cs.toArray] wx fun e w' => e = .returned (.string hb) ∧ Below wx.heap.size wx w') := fun wx => by rw [hcs, hhb]; exact r5Head_any wx x ok hr
  have T1 : Hid (∀ wx : World, Calls Tryz.prog 37 #[.string about] wx fun e w' => e = .returned (.string ab) ∧ Below wx.heap.size wx w') := fun wx => by rw [hab]; exact rText_any about (by omega) wx
  have T2 : Hid (∀ wx : World, Calls Tryz.prog 37 #[.string x.data] wx fun e w' => e = .returned (.string db) ∧ Below wx.heap.size wx w') := fun wx => by rw [hdb]; exact rText_any x.data (by omega) wx
  have hbs : hb.size ≤ 30 := by
    have e1 := enc_len (n := x.key.toNat) (by have := ok.key; omega)
    have e2 := enc_len (n := x.boot) (by have := ok.boot; omega)
    have e3 := enc_len ok.n
    rw [hhb]
    show (Se.head x).toArray.size ≤ _
    rw [List.size_toArray]
    simp only [Se.head, List.length_append]
    omega
  have habs : ab.size ≤ 20010 := by
    have e1 := enc_len (n := about.size) (by omega)
    rw [hab]
    show (enc about.size ++ about.data.toList).toArray.size ≤ _
    have h1 : about.data.toList.length = about.size := by rw [Array.length_toList]; rfl
    rw [List.size_toArray, List.length_append, h1]
    omega
  have hdbs : db.size ≤ 20010 := by
    have e1 := enc_len (n := x.data.size) (by omega)
    rw [hdb]
    show (enc x.data.size ++ x.data.data.toList).toArray.size ≤ _
    have h1 : x.data.data.toList.length = x.data.size := by rw [Array.length_toList]; rfl
    rw [List.size_toArray, List.length_append, h1]
    omega
  obtain ⟨tg, htg⟩ : ∃ b : ByteArray, b = hb ++ ab ++ db := ⟨_, rfl⟩
  have htgl : tg.data.toList = Se.tagged x about.data.toList := by
    rw [htg, hhb, hab, hdb, ByteArray.data_append, ByteArray.data_append, R5.text_bytes, R5.text_bytes, Se.tagged]
    simp
  have htgs : tg.size ≤ 40050 := by rw [htg, ByteArray.size_append, ByteArray.size_append]; omega
  obtain ⟨km, hkm⟩ : ∃ b : ByteArray, b = ⟨(Sm.tag k Se.macL).toArray⟩ := ⟨_, rfl⟩
  obtain ⟨co, hco⟩ : ∃ c, c = Lib.byteCells (Se.tagOf k x about.data.toList) := ⟨_, rfl⟩
  have hcol : co.length = 32 := by rw [hco, Lib.byteCells_length, Se.tagOf_length]
  have hone : co.toArray.all (·.oneCell') = true := by rw [hco]; exact Sm.bytes_one _
  have TAG : Hid (∀ wx : World, Calls Tryz.prog 34 #[.string km, .string (hb ++ ab ++ db)] wx fun e w' => e = .returned (.agg co.toArray) ∧ Below wx.heap.size wx w') := fun wx => by
    rw [← htg]
    have q := rmtag_any km tg (by rw [hkm]; show (Sm.tag k Se.macL).toArray.size ≤ _; rw [List.size_toArray, Sm.tag_length]; decide) (by omega) wx
    rw [htgl] at q
    rw [hco, Se.tagOf]
    rw [hkm] at q ⊢
    exact q
  have CV : Hid (∀ (wx : World) (b : Nat), wx.heap[b]? = some (.cells cm.toArray 63 (0, 0)) → (convert 85 9 (.slice (some ⟨b, 0, none⟩) 32 32)).run Tryz.prog wx = .ok (.string km) wx) := fun wx b h => by
    rw [hcm] at h
    rw [hkm]
    exact Sm.conv_row h (Sm.tag_length _ _)
  have p1 : ¬ 9223372036854775807 < hb.size + ab.size := by omega
  have p2 : ¬ 9223372036854775807 < (hb ++ ab).size + db.size := by rw [ByteArray.size_append]; omega
  have p3 : hb.size + ab.size + db.size ≤ 9223372036854775807 := by omega
  have hcd : cs[3]? = some (.string x.data) := by rw [hcs]; rfl
  rw [← hck, ← hcs, ← hco, ← hN]
  have hick := R5.infoA32a hckl
  have hicm := R5.infoA32a hcml
  have hico := R5.infoA32a hcol
  have hics := R5.infoEnvL hcsl
  have HG0 := Lib.hid g0
  have HG1 := Lib.hid g1
  have HG2 := Lib.hid g2
  have HN := Lib.hid hN
  have HW := Lib.hid hW3
  have B3 := Lib.hid b3
  clear hck hcs hzk hN hW3 g0 g1 g2 b3 hcm hhb hab hdb htg htgl hkm hco
  go_enter Tryz.func33, Tryz.ntmps33
  go_upto_region 1 with (fail)
  rw [← HW.out, ← HN.out]
  clear HW
  go_wp2_with (with_reducible refine wpList_load_row rfl 63 (.tmp 3) rfl N rfl 63 ck.toArray (0, 0) _ (by exact HG0.out) Tryz.underlying63 rfl hick ?_)
  refine (UN.out _).mono ?_
  rintro e w4 ⟨rfl, k4⟩
  have Q1 := Lib.hid ((k4.block (N + 1) (by omega)).trans HG1.out)
  have Q2 := Lib.hid ((k4.block (N + 2) (by omega)).trans HG2.out)
  have B4 := Lib.hid (B3.out.trans (k4.mono (by omega)))
  have s4 := k4.size
  clear k4 HG0 HG1 HG2 B3 UN
  have hst : (storeCells ⟨w4.heap.size, 0, none⟩ cm).run Tryz.prog (w4.alloc (.cells zk 63)) = .ok () (w4.alloc (.cells cm.toArray 63)) :=
    run_storeCells_new (P := Tryz.prog) w4 63 zk _ hicm (by rw [hzs, List.size_toArray, hcml]) hcmo
  go_upto_region 2 with (fail)
  have Q3 := Lib.hid (heap_alloc_new w4 (.cells cm.toArray 63))
  have Q1 := Lib.hid ((Below.heap_alloc w4 (.cells cm.toArray 63) (N + 1) (by omega)).trans Q1.out)
  have Q2 := Lib.hid ((Below.heap_alloc w4 (.cells cm.toArray 63) (N + 2) (by omega)).trans Q2.out)
  have B5 := Lib.hid (B4.out.alloc (by omega) (.cells cm.toArray 63))
  clear hst hzz B4
  generalize w4.alloc (.cells cm.toArray 63) = w5 at *
  obtain ⟨M, hM⟩ : ∃ M, M = w4.heap.size := ⟨_, rfl⟩
  rw [← hM] at Q3 ⊢
  have hM2 : N + 2 < M := by omega
  clear hM
  rw [show N + 1 + 1 = N + 2 from rfl]
  have E1 : Hid (w5.drew.heap[N + 1]? = some (.cells cs.toArray 66 (0, 0))) := Q1.out
  have E2 : Hid (w5.drew.heap[N + 2]? = some (.cells zk 63 (0, 0))) := Q2.out
  have E3 : Hid (w5.drew.heap[M]? = some (.cells cm.toArray 63 (0, 0))) := Q3.out
  have EB := Lib.hid B5.out.drew
  clear Q1 Q2 Q3 B5
  refine wp_region_held_drew (S := fun w' => w'.heap[N + 1]? = some (.cells cs.toArray 66 (0, 0)) ∧ w'.heap[M]? = some (.cells cm.toArray 63 (0, 0))) (by kernel_rfl) ⟨E1.out, E3.out⟩ (fun hHeld => ?_)
  generalize w5.drew = W0 at *
  refine wpAnyH_take (i := 0) (oi := ⟨some 10, _, _, _, _, _⟩) (v := .slice (some ⟨M, 0, none⟩) 32 32) rfl (by kernel_rfl) (by kernel_rfl) (by kernel_rfl) (fun _ _ _ h => h) (Or.inl ⟨by rfl, ?_⟩) (by assumption) ?_
  · intro w hSw; (try dsimp only at hSw); go_simp
  simp only [Act.put, List.setIfInBounds_toArray, List.set_cons_zero, List.set_cons_succ]
  refine wpAnyH_take (i := 1) (oi := ⟨some 11, _, _, _, _, _⟩) (v := .string km) rfl (by kernel_rfl) (by kernel_rfl) (by kernel_rfl) (fun _ _ _ h => h) (Or.inl ⟨by rfl, ?_⟩) (by assumption) ?_
  · intro w hSw; (try dsimp only at hSw); have c := CV.out _ _ hSw.2; go_simp
  simp only [Act.put, List.setIfInBounds_toArray, List.set_cons_zero, List.set_cons_succ]
  refine wpAnyH_take (i := 2) (oi := ⟨some 12, _, _, _, _, _⟩) (v := .agg cs.toArray) rfl (by kernel_rfl) (by kernel_rfl) (by kernel_rfl) (fun _ _ _ h => h) (yieldsIf_load_mid (by rfl) _ _ rfl _ _ rfl cs _ (fun w hS => Sm.range_row hS.1) Tryz.underlying66 rfl hics) (by assumption) ?_
  simp only [Act.put, List.setIfInBounds_toArray, List.set_cons_zero, List.set_cons_succ]
  refine wpAnyH_take (i := 4) (oi := ⟨some 14, _, _, _, _, _⟩) (v := .string about) rfl (by kernel_rfl) (by kernel_rfl) (by kernel_rfl) (fun _ _ _ h => h) (Or.inl ⟨by rfl, ?_⟩) (by assumption) ?_
  · intro w hSw; (try dsimp only at hSw); go_simp
  simp only [Act.put, List.setIfInBounds_toArray, List.set_cons_zero, List.set_cons_succ]
  refine wpAnyH_take (i := 7) (oi := ⟨some 17, _, _, _, _, _⟩) (v := .pointer (some ⟨N + 1, 3, none⟩)) rfl (by kernel_rfl) (by kernel_rfl) (by kernel_rfl) (fun _ _ _ h => h) (Or.inl ⟨by rfl, ?_⟩) (by assumption) ?_
  · intro w hSw; (try dsimp only at hSw); go_simp
  simp only [Act.put, List.setIfInBounds_toArray, List.set_cons_zero, List.set_cons_succ]
  refine wpAnyH_take (i := 8) (oi := ⟨some 18, _, _, _, _, _⟩) (v := .string x.data) rfl (by kernel_rfl) (by kernel_rfl) (by kernel_rfl) (fun _ _ _ h => h) (Or.inl ⟨by rfl, ?_⟩) (by assumption) ?_
  · intro w hSw; (try dsimp only at hSw); have c := Sm.cells_of hSw.1 3 _ (by rw [List.getElem?_toArray]; exact hcd); go_simp
  simp only [Act.put, List.setIfInBounds_toArray, List.set_cons_zero, List.set_cons_succ]
  refine wpAnyH_ready (rs := [3]) (by kernel_rfl) (by simp) ?_
  refine (AllReadyH.cons (o := ⟨some 13, _, _, _, _, _⟩) rfl (fun K hK => ?_) AllReadyH.nil)
  go_simp
  refine (HD.out _).mono ?_
  rintro e w6 ⟨rfl, kw6⟩
  have E1w6 := Lib.hid ((kw6.block (N + 1) (Sm.lt_of E1.out)).trans E1.out)
  have E2w6 := Lib.hid ((kw6.block (N + 2) (Sm.lt_of E2.out)).trans E2.out)
  have E3w6 := Lib.hid ((kw6.block M (Sm.lt_of E3.out)).trans E3.out)
  have EBw6 := Lib.hid (EB.out.trans (kw6.mono (by have := Sm.lt_of E3.out; omega)))
  clear kw6
  refine hK.out _ _ ⟨E1w6.out, E3w6.out⟩ (fun hHeld => ?_)
  clear hK K
  refine wpAnyH_ready (rs := [5]) (by kernel_rfl) (by simp) ?_
  refine (AllReadyH.cons (o := ⟨some 15, _, _, _, _, _⟩) rfl (fun K hK => ?_) AllReadyH.nil)
  go_simp
  refine (T1.out _).mono ?_
  rintro e w7 ⟨rfl, kw7⟩
  have E1w7 := Lib.hid ((kw7.block (N + 1) (Sm.lt_of E1w6.out)).trans E1w6.out)
  have E2w7 := Lib.hid ((kw7.block (N + 2) (Sm.lt_of E2w6.out)).trans E2w6.out)
  have E3w7 := Lib.hid ((kw7.block M (Sm.lt_of E3w6.out)).trans E3w6.out)
  have EBw7 := Lib.hid (EBw6.out.trans (kw7.mono (by have := Sm.lt_of E3w6.out; omega)))
  clear kw7
  refine hK.out _ _ ⟨E1w7.out, E3w7.out⟩ (fun hHeld => ?_)
  clear hK K
  refine wpAnyH_take (i := 6) (oi := ⟨some 16, _, _, _, _, _⟩) (v := .string (hb ++ ab)) rfl (by kernel_rfl) (by kernel_rfl) (by kernel_rfl) (fun _ _ _ h => h) (Or.inl ⟨by rfl, ?_⟩) (by assumption) ?_
  · intro w hSw; (try dsimp only at hSw); go_simp
  simp only [Act.put, List.setIfInBounds_toArray, List.set_cons_zero, List.set_cons_succ]
  refine wpAnyH_ready (rs := [9]) (by kernel_rfl) (by simp) ?_
  refine (AllReadyH.cons (o := ⟨some 19, _, _, _, _, _⟩) rfl (fun K hK => ?_) AllReadyH.nil)
  go_simp
  refine (T2.out _).mono ?_
  rintro e w8 ⟨rfl, kw8⟩
  have E1w8 := Lib.hid ((kw8.block (N + 1) (Sm.lt_of E1w7.out)).trans E1w7.out)
  have E2w8 := Lib.hid ((kw8.block (N + 2) (Sm.lt_of E2w7.out)).trans E2w7.out)
  have E3w8 := Lib.hid ((kw8.block M (Sm.lt_of E3w7.out)).trans E3w7.out)
  have EBw8 := Lib.hid (EBw7.out.trans (kw8.mono (by have := Sm.lt_of E3w7.out; omega)))
  clear kw8
  refine hK.out _ _ ⟨E1w8.out, E3w8.out⟩ (fun hHeld => ?_)
  clear hK K
  refine wpAnyH_take (i := 10) (oi := ⟨some 20, _, _, _, _, _⟩) (v := .string (hb ++ ab ++ db)) rfl (by kernel_rfl) (by kernel_rfl) (by kernel_rfl) (fun _ _ _ h => h) (Or.inl ⟨by rfl, ?_⟩) (by assumption) ?_
  · intro w hSw; (try dsimp only at hSw); go_simp
  simp only [Act.put, List.setIfInBounds_toArray, List.set_cons_zero, List.set_cons_succ]
  refine wpAnyH_ready (rs := [11]) (by kernel_rfl) (by simp) ?_
  refine (AllReadyH.cons (o := ⟨some 21, _, _, _, _, _⟩) rfl (fun K hK => ?_) AllReadyH.nil)
  go_simp
  refine (TAG.out _).mono ?_
  rintro e w9 ⟨rfl, kw9⟩
  have E1w9 := Lib.hid ((kw9.block (N + 1) (Sm.lt_of E1w8.out)).trans E1w8.out)
  have E2w9 := Lib.hid ((kw9.block (N + 2) (Sm.lt_of E2w8.out)).trans E2w8.out)
  have E3w9 := Lib.hid ((kw9.block M (Sm.lt_of E3w8.out)).trans E3w8.out)
  have EBw9 := Lib.hid (EBw8.out.trans (kw9.mono (by have := Sm.lt_of E3w8.out; omega)))
  clear kw9
  refine hK.out _ _ ⟨E1w9.out, E3w9.out⟩ (fun hHeld => ?_)
  clear hK K
  refine wpAnyH_ready (rs := [12]) (by kernel_rfl) (by simp) ?_
  refine (AllReadyH.cons (o := ⟨none, _, _, _, _, _⟩) rfl (fun K hK => ?_) AllReadyH.nil)
  rw [if_pos (by simp [Region.wanted])]
  refine wp_store_mid 63 (.tmp 6) (.tmp 21) rfl (N + 2) 0 co.toArray rfl rfl (Sm.there_row E2w9.out (by rw [hzs, List.size_toArray, hcol])) hico hone ?_
  refine hK.out _ _ ⟨Sm.other_setCells (by omega) E1w9.out, Sm.other_setCells (by omega) E3w9.out⟩ (fun hHeld => ?_)
  clear hK K
  refine wpAnyH_done (by kernel_rfl) ?_ _
  have HRF := Lib.hid (Sm.heap_setAll (vs := co) E2w9.out (by rw [hzs, hcol]))
  have BF : Below N w (w9.setCells (N + 2) 0 co) := Sm.below_setCells (by omega) _ _ EBw9.out
  simp only [Act.put]
  go_wp2
  exact bodyPost_ret (v := .agg co.toArray) (results_cell_row rfl _ _ (N + 2) 63 _ (0, 0) _ rfl HRF.out Tryz.underlying63 rfl hico) rfl ⟨rfl, BF⟩
end Go.Proofs.YtibpgmcpcelmpaaGreatDoor
