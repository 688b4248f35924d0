/-
  What seal's tagOf does.
-/
import Derived.Test.YtapogiihkbjppaaDoorSeStrm
namespace Go.Proofs.YtapogiihkbjppaaDoor
open Go.RowKit Pk

set_option maxRecDepth 100000 in
set_option maxHeartbeats 1000000 in
theorem tagOf_any {w : World} (hH : Sm.HAt w) (hK : Sm.KAt w) (hsz : 1 < w.heap.size) (k : List UInt8) (hk : k.length = 32) (x : Se.Env) (ok : x.Ok) (hr : 0 ≤ x.key) (about : ByteArray) (ha : about.size ≤ 1099511627776) (hd : x.data.size ≤ 1099511627776) :
    Calls Tryd.prog 21 #[.agg (Lib.byteCells k).toArray, .agg x.cells.toArray, .string about] w fun e w' => e = .returned (.agg (Lib.byteCells (Se.tagOf k x about.data.toList)).toArray) ∧ Below w.heap.size w w' := by
  obtain ⟨ckl, hck⟩ : ∃ c, c = Lib.byteCells k := ⟨_, rfl⟩
  have hckl : ckl.length = 32 := by rw [hck, Lib.byteCells_length, hk]
  obtain ⟨cs, hcs⟩ : ∃ c, c = x.cells := ⟨_, rfl⟩
  have hcsl : cs.toArray.size = 36 := by rw [hcs, List.size_toArray]; exact Se.cells_length x ok.tag
  have HH := Lib.hid hH
  have HK := Lib.hid hK
  have HCK := Lib.hid hck
  have HCS := Lib.hid hcs
  obtain ⟨N, hN⟩ : ∃ N, N = w.heap.size := ⟨_, rfl⟩
  obtain ⟨W3, hW3⟩ : ∃ W, W = ((w.alloc (.cells ckl.toArray 23)).alloc (.cells cs.toArray 28)).alloc (.cells (Sm.rowB 32 []) 26) := ⟨_, rfl⟩
  have s3 : W3.heap.size = N + 3 := by rw [hW3, hN]; simp
  have r0 : W3.heap[N]? = some (.cells ckl.toArray 23 (0, 0)) := by
    rw [hW3, hN, Below.heap_alloc _ _ _ (by simp; omega), Below.heap_alloc _ _ _ (by simp)]; exact heap_alloc_new w _
  have r1 : W3.heap[N + 1]? = some (.cells cs.toArray 28 (0, 0)) := by
    rw [hW3, hN, Below.heap_alloc _ _ _ (by simp)]
    simpa using heap_alloc_new (w.alloc (.cells ckl.toArray 23)) (.cells cs.toArray 28)
  have r2 : W3.heap[N + 2]? = some (.cells (Sm.rowB 32 []) 26 (0, 0)) := by
    rw [hW3, hN]
    simpa using heap_alloc_new ((w.alloc (.cells ckl.toArray 23)).alloc (.cells cs.toArray 28)) (.cells (Sm.rowB 32 []) 26)
  have b3 : Below N w W3 := by
    rw [hW3, hN]
    exact (((Below.refl _ w).alloc (Nat.le_refl _) _).alloc (by simp) _).alloc (by simp; omega) _
  rw [← hck, ← hcs, ← hN]
  have HN := Lib.hid hN
  have HW3 := Lib.hid hW3
  clear hW3 hN hck hcs hH hK
  have htg0 : Se.tagOf k x about.data.toList = Sm.tag (Sm.tag k Se.macL) (Se.tagged x about.data.toList) := rfl
  rw [htg0]
  clear htg0
  have hml := Sm.tag_length k Se.macL
  obtain ⟨km, hkm⟩ : ∃ c, c = Sm.tag k Se.macL := ⟨_, rfl⟩
  obtain ⟨tg, htg⟩ : ∃ t, t = Se.tagged x about.data.toList := ⟨_, rfl⟩
  rw [← htg, ← hkm]
  rw [← hkm] at hml
  have HTG := Lib.hid htg
  have HKM := Lib.hid hkm
  clear htg hkm
  go_enter Tryd.func21, Tryd.ntmps21
  go_upto_region 1 with (fail)
  change Code.wp _ _ _ _ (((w.alloc (.cells ckl.toArray 23)).alloc (.cells cs.toArray 28)).alloc (.cells (Sm.rowB 32 []) 26))
  rw [← HW3.out, ← HN.out]
  clear HW3
  have ho4 : outAt (W3.alloc (.cells #[.pointer none, .int .i64 0] 58)) N (N + 3) [] := ⟨by omega, .inl ⟨by rw [← s3]; exact heap_alloc_new W3 _, rfl⟩⟩
  have b4 : Below N w (W3.alloc (.cells #[.pointer none, .int .i64 0] 58)) := b3.alloc (by omega) _
  have f4 : Fr W3 (W3.alloc (.cells #[.pointer none, .int .i64 0] 58)) := (Fr.refl W3).alloc _
  have s4 : (W3.alloc (.cells #[.pointer none, .int .i64 0] 58)).heap.size = N + 4 := by simp; omega
  go_upto_region 2 with (fail)
  generalize W3.alloc (.cells #[.pointer none, .int .i64 0] 58) = W4 at *
  have R0 := Lib.hid (f4 _ _ _ _ r0 (by decide) (by decide) (by decide))
  have R1 := Lib.hid (f4 _ _ _ _ r1 (by decide) (by decide) (by decide))
  have R2 := Lib.hid (f4 _ _ _ _ r2 (by decide) (by decide) (by decide))
  have NU : Hid (∀ (wx : World) (bs : List UInt8), outAt wx N (N + 3) bs → N ≤ wx.heap.size → bs.length + 30 ≤ 140737488355328 → Calls Tryd.prog 24 #[.pointer (some ⟨N + 3, 0, none⟩), .agg cs.toArray] wx fun e w' => e = .returned (.tuple #[]) ∧ outAt w' N (N + 3) (bs ++ Se.head x) ∧ Below N wx w' ∧ Fr wx w') := fun wx bs h1 h2 h3 => by
    rw [HCS.out]; exact numbers_any x ok hr h1 h2 h3
  have CELL : Hid (∀ wx : World, wx.heap[N + 1]? = some (.cells cs.toArray 28 (0, 0)) → wx.cell? ⟨N + 1, 3, none⟩ = some (.string x.data)) := fun wx h => by
    rw [HCS.out] at h
    exact (Se.EnvAt.cell h).2.2.2
  have lh : (Se.head x).length ≤ 30 := by
    have h1 := enc_len (n := x.key.toNat) (by have := ok.key; omega)
    have h2 := enc_len (n := x.boot) (by have := ok.boot; omega)
    have h3 := enc_len (n := x.n) (by have := ok.n; omega)
    simp only [Se.head, List.length_append]
    omega
  have la := enc_len (n := about.size) (by omega)
  have ld := enc_len (n := x.data.size) (by omega)
  have hiE : (Tryd.prog.info? 28).map (·.size) = some cs.toArray.size := by rw [hcsl]; kernel_rfl
  clear r0 r1 r2 f4 b3 s3
  go_wp2_with (with_reducible refine wpList_load_row rfl 28 (.tmp 4) rfl (N + 1) rfl 28 cs.toArray (0, 0) _ (by exact R1.out) Tryd.underlying28 rfl hiE ?_)
  refine (NU.out _ [] ho4 (by omega) (by simp)).mono ?_
  rintro e w5 ⟨rfl, ho5, b5, f5⟩
  have P0 := Lib.hid (f5 _ _ _ _ R0.out (by decide) (by decide) (by decide))
  have P1 := Lib.hid (f5 _ _ _ _ R1.out (by decide) (by decide) (by decide))
  have P2 := Lib.hid (f5 _ _ _ _ R2.out (by decide) (by decide) (by decide))
  have s5 := b5.size
  have B5 := Lib.hid (b4.trans b5)
  rw [List.nil_append] at ho5
  clear R0 R1 R2 b4 b5 f5 ho4 NU
  have T5 := oText_any_fr about ho5 (by omega) (by omega)
  clear ho5
  go_wp2_with fail
  refine T5.mono ?_
  rintro e w6 ⟨rfl, ho6, b6, f6⟩
  have R0 := Lib.hid (f6 _ _ _ _ P0.out (by decide) (by decide) (by decide))
  have R1 := Lib.hid (f6 _ _ _ _ P1.out (by decide) (by decide) (by decide))
  have R2 := Lib.hid (f6 _ _ _ _ P2.out (by decide) (by decide) (by decide))
  have s6 := b6.size
  have B6 := Lib.hid (B5.out.trans b6)
  have c6 := CELL.out _ R1.out
  have hal : about.data.toList.length = about.size := by rw [Array.length_toList]; rfl
  have T6 := oText_any_fr x.data ho6 (by omega) (by simp only [List.length_append]; omega)
  clear P0 P1 P2 b6 f6 ho6 T5 B5
  go_wp2_with fail
  refine T6.mono ?_
  rintro e w7 ⟨rfl, ho7, b7, f7⟩
  have P0 := Lib.hid (f7 _ _ _ _ R0.out (by decide) (by decide) (by decide))
  have P2 := Lib.hid (f7 _ _ _ _ R2.out (by decide) (by decide) (by decide))
  have s7 := b7.size
  have B7 := Lib.hid (B6.out.trans b7)
  have htx : Se.head x ++ (enc about.size ++ about.data.toList) ++ (enc x.data.size ++ x.data.data.toList) = Se.tagged x about.data.toList := by
    unfold Se.tagged Se.txt
    rw [hal, show x.data.data.toList.length = x.data.size by rw [Array.length_toList]; rfl]
  rw [htx] at ho7
  have hlt : (Se.tagged x about.data.toList).length ≤ 2199023256000 := by
    rw [← htx]
    have hdl : x.data.data.toList.length = x.data.size := by rw [Array.length_toList]; rfl
    simp only [List.length_append]
    omega
  rw [← HTG.out] at ho7 hlt
  clear R0 R1 R2 b7 f7 T6 B6 htx HTG c6 CELL lh la ld hal hcsl hiE HCS
  have HO := Lib.hid ho7
  clear ho7
  have KEY : Hid (∀ wx : World, Sm.HAt wx → Sm.KAt wx → 1 < wx.heap.size → Calls Tryd.prog 18 #[.agg ckl.toArray, .string ⟨#[109, 97, 99]⟩] wx fun e w' => e = .returned (.agg (Lib.byteCells (Sm.tag k Se.macL)).toArray) ∧ Below wx.heap.size wx w') := fun wx h1 h2 h3 => by
    rw [HCK.out]; exact key_any k hk ⟨#[109, 97, 99]⟩ h1 h2 h3 (by decide)
  rw [← HKM.out] at KEY
  have hkml : (Lib.byteCells km).length = 32 := by rw [Lib.byteCells_length, hml]
  have hone := Sm.bytes_one km
  have hicl : (Tryd.prog.info? 23).map (·.size) = some ckl.toArray.size := by rw [List.size_toArray, hckl]; kernel_rfl
  have hw7 : N ≤ w7.heap.size := by omega
  have hN1 : 1 < N := by rw [HN.out]; exact hsz
  go_wp2_with (with_reducible refine wpList_load_row rfl 23 (.tmp 3) rfl N rfl 23 ckl.toArray (0, 0) _ (by exact P0.out) Tryd.underlying23 rfl hicl ?_)
  refine (KEY.out _ (HH.out.low B7.out (by omega)) (HK.out.low B7.out hN1) (Nat.lt_of_lt_of_le hN1 hw7)).mono ?_
  rintro e w8 ⟨rfl, k8⟩
  have B8 := Lib.hid (B7.out.trans (k8.mono hw7))
  have P8 := Lib.hid ((k8.block (N + 2) (Sm.lt_of P2.out)).trans P2.out)
  have hout8 := HO.out.kept k8
  have s8 := k8.size
  have hkm2 : (Lib.byteCells km).toArray.size = 32 := by rw [Sm.bytes_size, hml]
  have hst : ∀ (c : Array Value), c.size = 32 → (storeCells ⟨w8.heap.size, 0, none⟩ (Lib.byteCells km).toArray.toList).run Tryd.prog (w8.alloc (.cells c 23)) = .ok () (w8.alloc (.cells (Lib.byteCells km).toArray 23)) := fun c hc =>
    run_storeCells_new (P := Tryd.prog) w8 23 c _ (Sm.infoKey hkm2) (by rw [hkm2]; exact hc) hone
  have p9 := heap_alloc_new w8 (.cells (Lib.byteCells km).toArray 23)
  have b9 : Below N w (w8.alloc (.cells (Lib.byteCells km).toArray 23)) := B8.out.alloc (by omega) _
  have q9 : (w8.alloc (.cells (Lib.byteCells km).toArray 23)).heap[N + 2]? = some (.cells (Sm.rowB 32 []) 26 (0, 0)) := by
    rw [Below.heap_alloc _ _ _ (Sm.lt_of P8.out)]; exact P8.out
  have s9 : (w8.alloc (.cells (Lib.byteCells km).toArray 23)).heap.size = w8.heap.size + 1 := by simp
  have o9 : outAt (w8.alloc (.cells (Lib.byteCells km).toArray 23)) N (N + 3) tg := hout8.kept (Se.below_new w8 _)
  have hl8 : N + 2 < w8.heap.size := Sm.lt_of P8.out
  obtain ⟨ci, hci⟩ : ∃ c, c = Lib.byteCells km := ⟨_, rfl⟩
  rw [← hci] at hst p9 b9 q9 s9 o9 hkm2 hkml ⊢
  have HCI := Lib.hid hci
  clear hci hone P0 P2 B7 HO KEY k8 hout8 P8 B8
  go_upto_region 6 with (fail)
  clear hst
  generalize w8.alloc (.cells ci.toArray 23) = W9 at *
  obtain ⟨M, hM⟩ : ∃ M, M = w8.heap.size := ⟨_, rfl⟩
  rw [← hM] at p9 s9 hl8 ⊢
  have CONV : Hid (∀ wx : World, wx.heap[M]? = some (.cells ci.toArray 23 (0, 0)) → (convert 32 9 (.slice (some ⟨M, 0, none⟩) 32 32)).run Tryd.prog wx = .ok (.string ⟨km.toArray⟩) wx) := by
    intro wx h
    rw [HCI.out] at h
    exact Sm.conv_row h hml
  have ST : Hid (∀ wx : World, outAt wx N (N + 3) tg → Calls Tryd.prog 27 #[.pointer (some ⟨N + 3, 0, none⟩)] wx fun e w' => e = .returned (.string ⟨tg.toArray⟩) ∧ ∃ n, w' = wx.drewN n) := fun wx h => oString_any h (by omega)
  obtain ⟨co, hco⟩ : ∃ c, c = Lib.byteCells (Sm.tag km tg) := ⟨_, rfl⟩
  have TAG : Hid (∀ wx : World, Sm.HAt wx → Sm.KAt wx → 1 < wx.heap.size → Calls Tryd.prog 46 #[.string ⟨km.toArray⟩, .string ⟨tg.toArray⟩] wx fun e w' => e = .returned (.agg co.toArray) ∧ Below wx.heap.size wx w') := by
    intro wx h1 h2 h3
    rw [hco]
    exact tag_any ⟨km.toArray⟩ ⟨tg.toArray⟩ h1 h2 h3 (by show km.toArray.size ≤ _; rw [List.size_toArray]; omega) (by show tg.toArray.size ≤ _; rw [List.size_toArray]; omega)
  have hcol : co.length = 32 := by rw [hco, Lib.byteCells_length, Sm.tag_length]
  have hoc : ∀ v ∈ co, v.oneCell' = true := by rw [hco]; exact Lib.byteCells_one _
  have HRES : Hid ((Value.agg co.toArray) = .agg (Lib.byteCells (Sm.tag km tg)).toArray) := by
    show _ = _
    rw [hco]
  have hund : Tryd.prog.underlying 23 = some (.array 32 5) := Tryd.underlying23
  have hioc : (Tryd.prog.info? 26).map (·.size) = some co.length := by rw [hcol]; kernel_rfl
  have hz32 : (Sm.rowB 32 []).size = 32 := Sm.rowB_size (by simp)
  have hzl : (Sm.rowB 32 []).size = co.length := by rw [hz32, hcol]
  have P9 : Hid (W9.drew.heap[M]? = some (.cells ci.toArray 23 (0, 0))) := p9
  have Q9 : Hid (W9.drew.heap[N + 2]? = some (.cells (Sm.rowB 32 []) 26 (0, 0))) := q9
  have B9 : Hid (Below N w W9.drew) := b9.drew
  have O9 : Hid (outAt W9.drew N (N + 3) tg) := o9
  have HNE : Hid (M ≠ N + 2) := by show M ≠ N + 2; omega
  have HNW : Hid (N ≤ W9.drew.heap.size) := by show N ≤ W9.heap.size; omega
  have HZ32 := Lib.hid hz32
  have HZL := Lib.hid hzl
  clear p9 q9 b9 o9 hz32 hzl hco hM
  go_region_held3 (fun w' => (convert 32 9 (.slice (some ⟨M, 0, none⟩) 32 32)).run Tryd.prog w' = .ok (.string ⟨km.toArray⟩) w' ∧ w'.there (N + 1 + 1) 0 32)
    (first | (with_reducible exact ⟨CONV.out _ P9.out, Sm.there_row Q9.out HZ32.out⟩) | (with_reducible exact ⟨CONV.out _ P10.out, Sm.there_row Q10.out HZ32.out⟩) | (with_reducible exact ⟨CONV.out _ P11.out, Sm.there_row Q11.out HZ32.out⟩) | exact ⟨CONV.out _ (Sm.other_setCells HNE.out P11.out), World.there_setCells (Sm.there_row Q11.out HZ32.out) _ _ _⟩)
    ((first
      | (go_at_call 27; refine (ST.out _ O9.out).mono ?_; rintro e w10 ⟨rfl, n10, hw10⟩; have P10 : Hid (w10.heap[M]? = some (.cells ci.toArray 23 (0, 0))) := (by rw [hw10]; exact P9.out); have Q10 : Hid (w10.heap[N + 2]? = some (.cells (Sm.rowB 32 []) 26 (0, 0))) := (by rw [hw10]; exact Q9.out); have B10 : Hid (Below N w w10) := (by rw [hw10]; exact Sm.below_drewN B9.out n10); have HN10 : Hid (N ≤ w10.heap.size) := (by rw [hw10]; exact HNW.out); clear hw10)
      | (go_at_call 46; refine (TAG.out _ (HH.out.low B10.out (by have := HN.out; omega)) (HK.out.low B10.out hN1) (Nat.lt_of_lt_of_le hN1 HN10.out)).mono ?_; rintro e w11 ⟨rfl, k11⟩; have P11 := Lib.hid ((k11.block M (Sm.lt_of P10.out)).trans P10.out); have Q11 := Lib.hid ((k11.block (N + 2) (Sm.lt_of Q10.out)).trans Q10.out); have B11 := Lib.hid (B10.out.trans (k11.mono HN10.out)); clear k11)))
  go_wp2
  exact bodyPost_ret (v := .agg co.toArray) (results_cell_row rfl _ _ (N + 2) 26 _ (0, 0) _ rfl (Sm.heap_setAll Q11.out HZL.out) Tryd.underlying26 rfl (by rw [List.size_toArray]; exact hioc)) rfl ⟨by rw [HRES.out], Sm.below_setCells (by omega) _ _ B11.out⟩
end Go.Proofs.YtapogiihkbjppaaDoor
