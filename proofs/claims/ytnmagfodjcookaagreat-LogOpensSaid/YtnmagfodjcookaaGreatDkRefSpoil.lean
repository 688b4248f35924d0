/-
  The document's own disk: Spoil.
-/
import Derived.Test.YtnmagfodjcookaaGreatDkRefCrash
namespace Go.Proofs.YtnmagfodjcookaaGreat
open Go.RowKit
namespace Dk
theorem spoil_cases (M : Md) (i a : Int) (x : List UInt8) : ((0 ≤ i ∧ i < M.lasts.length ∧ x.length ≤ 4 ∧ 0 ≤ a ∧ a ≤ 64 - (x.length : Int)) ∧ spoil M i a x = ({ M with lasts := M.lasts.set i.toNat (xored (last M i.toNat) a.toNat x) }, 0)) ∨ (¬ (0 ≤ i ∧ i < M.lasts.length ∧ x.length ≤ 4 ∧ 0 ≤ a ∧ a ≤ 64 - (x.length : Int)) ∧ spoil M i a x = (M, 1)) := by
  have e : mayspoil M i a x = true ↔ (0 ≤ i ∧ i < M.lasts.length ∧ x.length ≤ 4 ∧ 0 ≤ a ∧ a ≤ 64 - (x.length : Int)) := by
    simp [mayspoil, there]; omega
  by_cases h : mayspoil M i a x = true
  · exact .inl ⟨e.1 h, by simp [spoil, h]⟩
  · exact .inr ⟨fun k => h (e.2 k), by simp [spoil, h]⟩
theorem conv1 (W : World) (b : UInt8) : (convert 65 9 (.slice (some ⟨W.heap.size, 0, none⟩) 1 1)).run Tryz.prog (W.alloc (.cells #[.int .u8 (b.toNat : Int)] 5)) = .ok (.string ⟨#[b]⟩) (W.alloc (.cells #[.int .u8 (b.toNat : Int)] 5)) := by
  have hn := heap_alloc_new W (.cells #[.int .u8 (b.toNat : Int)] 5)
  exact run_convert_bytes_back (P := Tryz.prog) (W.alloc (.cells #[.int .u8 (b.toNat : Int)] 5)) 65 9 5 ⟨W.heap.size, 0, none⟩ 1 [b] Tryz.underlying65 Tryz.underlying5 Tryz.underlying9 (fun j hj => by
    have : j = 0 := by simpa using hj
    subst this
    rw [Addr.add_mid]
    exact Sm.cells_of hn 0 _ rfl)
theorem take_snoc {l : List UInt8} {k : Nat} (hk : k < l.length) : l.take (k + 1) = l.take k ++ [l.getD k 0] := by
  rw [List.take_succ_eq_append_getElem hk, List.getD_eq_getElem?_getD, List.getElem?_eq_getElem hk]; rfl
end Dk
set_option maxRecDepth 100000 in
set_option maxHeartbeats 2000000 in
theorem r7Spoil_any (w : World) (fp : Nat → Prop) (v : Value) (M : Dk.Md) (hM : M.Ok) (h : Dk.RefAt w fp v M) (hfp : ∀ k, fp k → k < w.heap.size) (i a : Int) (x : ByteArray) :
    Calls Tryz.prog 32 #[v, .int .i64 i, .int .i64 a, .string x] w fun e w' => ∃ v', e = .returned (.tuple #[v', .int .i64 (Dk.spoil M i a x.data.toList).2]) ∧ Dk.RefAt w' fp v' (Dk.spoil M i a x.data.toList).1 ∧ Below w.heap.size w w' := by
  have H := Lib.hid h
  have hxs : x.data.toList.length = x.size := by simp
  obtain ⟨A, c, B, d0, ws, rfl, hL, hW, hk, hA, hB, hn⟩ := h
  have h4096 := hM.n
  have HFP := Lib.hid hfp
  clear hfp
  obtain ⟨N, hN⟩ : ∃ N, N = w.heap.size := ⟨_, rfl⟩
  obtain ⟨f, hf⟩ : ∃ f, f = max M.fuse (-1) := ⟨_, rfl⟩
  obtain ⟨o, ho⟩ : ∃ o, o = M.off := ⟨_, rfl⟩
  obtain ⟨n, hnl⟩ : ∃ n, n = M.lasts.length := ⟨_, rfl⟩
  obtain ⟨m, hml⟩ : ∃ m, m = ws.length := ⟨_, rfl⟩
  rw [← hf, ← hnl, ← hml, ← ho] at H ⊢
  rcases Dk.spoil_cases M i a x.data.toList with ⟨⟨hi0, hi1, hx4, ha0, ha1⟩, e⟩ | ⟨hx, e⟩
  · rw [e]
    rw [hxs] at hx4 ha1
    obtain ⟨i0, rfl⟩ : ∃ k : Nat, i = (k : Int) := ⟨i.toNat, by omega⟩
    obtain ⟨a0, rfl⟩ : ∃ k : Nat, a = (k : Int) := ⟨a.toNat, by omega⟩
    rw [Int.toNat_natCast, Int.toNat_natCast]
    rw [← hnl] at hi1
    have hin : i0 < n := by omega
    have hn96 : n ≤ 4096 := by rw [hnl]; exact h4096.2
    have hs64 : (Dk.last M i0).length = 64 := hM.last (by rw [← hnl]; exact hin)
    obtain ⟨w1, hw1⟩ : ∃ x, x = (w.alloc (.cells #[.slice A n c, .slice B m d0, .int .i64 f, .bool o] 33)).alloc (.cells #[.slice none 0 0, .slice none 0 0, .int .i64 0, .bool false] 33) := ⟨_, rfl⟩
    have b1 : Below w.heap.size w w1 := by rw [hw1]; exact ((Below.refl _ w).alloc (Nat.le_refl _) _).alloc (by simp) _
    have g1 : w1.heap[N]? = some (.cells #[.slice A n c, .slice B m d0, .int .i64 f, .bool o] 33 (0, 0)) := by rw [hw1, hN, Below.heap_alloc _ _ _ (by simp)]; exact heap_alloc_new w _
    have r1 : w1.heap[N + 1]? = some (.cells #[.slice none 0 0, .slice none 0 0, .int .i64 0, .bool false] 33 (0, 0)) := by
      have := heap_alloc_new (w.alloc (.cells #[.slice A n c, .slice B m d0, .int .i64 f, .bool o] 33)) (.cells #[.slice none 0 0, .slice none 0 0, .int .i64 0, .bool false] 33)
      rw [World.size_alloc] at this
      rw [hw1, hN]; exact this
    have T1 : Hid (Dk.TextsAt w1 0 (.slice A M.lasts.length c) M.lasts) := hL.below b1
    have HW1 := Lib.hid hw1
    have HN := Lib.hid hN
    have G1 := Lib.hid g1
    have R1 := Lib.hid r1
    have B1 := Lib.hid b1
    have HNL := Lib.hid hnl
    have HML := Lib.hid hml
    have HWR := Lib.hid hW
    have HK := Lib.hid hk
    have HBK := Lib.hid hB
    have HNI := Lib.hid hn
    have HFF := Lib.hid hf
    have HOO := Lib.hid ho
    have H40 := Lib.hid h4096
    have x0 := Sm.cells_of g1 0 _ rfl
    have x1 := Sm.cells_of g1 1 _ rfl
    have x2 := Sm.cells_of g1 2 _ rfl
    have x3 := Sm.cells_of g1 3 _ rfl
    have hg1s := Sm.lt_of g1
    have t1 : ¬ (4 < (x.size : Int)) := by omega
    have t2 : ¬ ((a0 : Int) < 0) := by omega
    have t3 : ¬ (64 - (x.size : Int) < (a0 : Int)) := by omega
    have t4 : ¬ ((n : Int) ≤ (i0 : Int)) := by omega
    have t5 : ¬ ((i0 : Int) < 0) := by omega
    have hxw : IntKind.i64.wrap (64 - (x.size : Int)) = 64 - (x.size : Int) := by simp [IntKind.wrap, IntKind.bits, IntKind.signed]; omega
    clear hL hW hk hA hB hn hf hnl hml h4096 hN hw1 ho b1 g1 r1 e H
    go_enter Tryz.func32, Tryz.ntmps32
    go_upto_region 1 with (fail)
    rw [← HW1.out, ← HN.out]
    go_upto_region 6 with (
      at_builtin
      refine Dk.wpList_copyT rfl _ _ rfl T1.out (by intro e; have := H40.out.1; rw [e] at this; simp at this) H40.out.2 rfl (by rw [← HNL.out]; rfl) ?_
      intro g c4 w4 ho4 k4)
    rw [← HNL.out] at ho4 ⊢
    have g4 := (k4.block N (Sm.lt_of G1.out)).trans G1.out
    have r4 := (k4.block (N + 1) (Sm.lt_of R1.out)).trans R1.out
    have b4 := B1.out.trans (k4.mono B1.out.size)
    obtain ⟨N3, hN3⟩ : ∃ x, x = w1.heap.size := ⟨_, rfl⟩
    have hNN : N + 1 < N3 := by rw [hN3]; exact Sm.lt_of R1.out
    have HNN := Lib.hid hNN
    rw [← hN3] at ho4
    have G4 := Lib.hid g4
    have R4 := Lib.hid r4
    have B4 := Lib.hid b4
    have HO4 := Lib.hid ho4
    obtain ⟨sB, hsB⟩ : ∃ s : ByteArray, s = ⟨(Dk.last M i0).toArray⟩ := ⟨_, rfl⟩
    have hsB64 : sB.size = 64 := by rw [hsB]; show (Dk.last M i0).toArray.size = 64; rw [List.size_toArray]; exact hs64
    have hcell : w4.cell? ⟨g, i0, none⟩ = some (.string sB) := by
      rw [ho4.cellAt i0 (by omega), List.getElem?_map, List.getElem?_eq_getElem (by rw [← HNL.out]; exact hin), hsB, Dk.last, List.getD_eq_getElem?_getD, List.getElem?_eq_getElem (by rw [← HNL.out]; exact hin)]
      rfl
    have hglt := (Dk.own_blk ho4 rfl).2.1
    have HGE : Hid (N3 ≤ g) := (Dk.own_blk ho4 rfl).1
    have HCELL := Lib.hid hcell
    have HSB := Lib.hid hsB
    have HS64 := Lib.hid hs64
    clear x0 x1 x2 x3 hN3 k4 hg1s hNN ho4 g4 r4 b4 hcell hsB hs64 t1 t2 t3 t4 t5 hxw
    go_loopw [11, 12] (fun s11 s12 wr => ∃ (k : Nat) (S : ByteArray), s11 = .string S ∧ s12 = .int .i64 k ∧ k ≤ 64 ∧ S.data.toList = (Dk.xored (Dk.last M i0) a0 x.data.toList).take k ∧ S.size = k ∧ Below w4.heap.size w4 wr) (fun _ s12 _ => 64 - (intOf s12).toNat)
    case atStart => exact ⟨0, ⟨#[]⟩, rfl, rfl, Nat.zero_le _, rfl, rfl, Below.refl _ _⟩
    case round =>
      obtain ⟨k, S, rfl, rfl, hk64, hS, hSs, hb⟩ := hrel
      by_cases hkl : k < 64
      · have hki : (k : Int) < 64 := by omega
        have hsuc : IntKind.i64.wrap ((k : Int) + 1) = ((k + 1 : Nat) : Int) := by simp [IntKind.wrap, IntKind.bits, IntKind.signed]; omega
        have z0 := (hb.cell (p := ⟨g, i0, none⟩) hglt).trans HCELL.out
        have hks : k < sB.size := by omega
        obtain ⟨b0, hb0⟩ : ∃ b, b = (Dk.last M i0).getD k 0 := ⟨_, rfl⟩
        have hkl2 : k < (Dk.last M i0).length := by rw [HS64.out]; exact hkl
        have hget : sB[k] = b0 := by
          have : ∀ (s : ByteArray) (hk : k < s.size), s = ⟨(Dk.last M i0).toArray⟩ → s[k] = b0 := by
            intro s hk e
            subst e
            rw [hb0, List.getD_eq_getElem?_getD, List.getElem?_eq_getElem hkl2]; rfl
          exact this sB hks HSB.out
        have hxl : k < (Dk.xored (Dk.last M i0) a0 x.data.toList).length := by rw [Dk.xored_length, HS64.out]; exact hkl
        have hsn := Dk.take_snoc hxl
        rw [Dk.xored_get hkl2, ← hb0, hxs] at hsn
        have HSN := Lib.hid hsn
        have HS := Lib.hid hS
        have HB := Lib.hid hb
        have a1 : ∀ D : ByteArray, D.size = 1 → ¬ 9223372036854775807 < S.size + D.size := fun D hD => by omega
        have hwa : IntKind.i64.wrap ((a0 : Int) + (x.size : Int)) = (a0 : Int) + (x.size : Int) := by simp [IntKind.wrap, IntKind.bits, IntKind.signed]; omega
        have hb8 := byte_fits b0
        clear hS hsn hb hb0 hkl2 hxl
        by_cases hin2 : a0 ≤ k ∧ k < a0 + x.size
        · obtain ⟨q, hq⟩ : ∃ q, q = k - a0 := ⟨_, rfl⟩
          have hqx : q < x.size := by omega
          obtain ⟨xb, hxb⟩ : ∃ y, y = x.data.toList.getD q 0 := ⟨_, rfl⟩
          have hxk : x[q] = xb := by rw [hxb, List.getD_eq_getElem?_getD, List.getElem?_eq_getElem (by omega)]; simp; rfl
          have hx8 := Sm.w_xor8 b0 xb
          have c1 : (a0 : Int) ≤ (k : Int) := by omega
          have c2 : (k : Int) < (a0 : Int) + (x.size : Int) := by omega
          have hsq : IntKind.i64.wrap ((k : Int) - (a0 : Int)) = (q : Int) := by simp [IntKind.wrap, IntKind.bits, IntKind.signed]; omega
          have hsq2 : (k : Int) - (a0 : Int) = (q : Int) := by omega
          obtain ⟨D, hD⟩ : ∃ D : ByteArray, D = ⟨#[b0 ^^^ xb]⟩ := ⟨_, rfl⟩
          have CV := fun W => Dk.conv1 W (b0 ^^^ xb)
          rw [UInt8.toNat_xor] at CV
          rw [← hD] at CV
          have z1 : D.size = 1 := by rw [hD]; rfl
          have a2 := a1 D z1
          have FIN : Hid ((S ++ D).data.toList = (Dk.xored (Dk.last M i0) a0 x.data.toList).take (k + 1) ∧ (S ++ D).size = k + 1) := by
            refine ⟨?_, by rw [ByteArray.size_append]; omega⟩
            rw [HSN.out, if_pos hin2, ← hq, ← hxb, ByteArray.data_append, Array.toList_append, HS.out, hD]
          clear hD hxb hq a1
          go_wp2
          go_roundw
          case rel => exact ⟨k + 1, S ++ D, rfl, rfl, hkl, FIN.out.1, FIN.out.2, HB.out.alloc HB.out.size _⟩
          case measure => simp [intOf]; omega
        · obtain ⟨D, hD⟩ : ∃ D : ByteArray, D = ⟨#[b0]⟩ := ⟨_, rfl⟩
          have CV := fun W => Dk.conv1 W b0
          rw [← hD] at CV
          have z1 : D.size = 1 := by rw [hD]; rfl
          have a2 := a1 D z1
          have FIN : Hid ((S ++ D).data.toList = (Dk.xored (Dk.last M i0) a0 x.data.toList).take (k + 1) ∧ (S ++ D).size = k + 1) := by
            refine ⟨?_, by rw [ByteArray.size_append]; omega⟩
            rw [HSN.out, if_neg hin2, ByteArray.data_append, Array.toList_append, HS.out, hD]
          clear hD a1
          by_cases hlo : a0 ≤ k
          · have c1 : (a0 : Int) ≤ (k : Int) := by omega
            have c2 : ¬ (k : Int) < (a0 : Int) + (x.size : Int) := by omega
            go_wp2
            go_roundw
            case rel => exact ⟨k + 1, S ++ D, rfl, rfl, hkl, FIN.out.1, FIN.out.2, HB.out.alloc HB.out.size _⟩
            case measure => simp [intOf]; omega
          · have c1 : ¬ (a0 : Int) ≤ (k : Int) := by omega
            go_wp2
            go_roundw
            case rel => exact ⟨k + 1, S ++ D, rfl, rfl, hkl, FIN.out.1, FIN.out.2, HB.out.alloc HB.out.size _⟩
            case measure => simp [intOf]; omega
      · have hki : ¬ (k : Int) < 64 := by omega
        have hkk : k = 64 := by omega
        have hxt : (Dk.xored (Dk.last M i0) a0 x.data.toList).take k = Dk.xored (Dk.last M i0) a0 x.data.toList := List.take_of_length_le (by rw [Dk.xored_length, HS64.out]; omega)
        rw [hxt] at hS
        have hown := Dk.own_block HO4.out fun q hq => hb.block q (Dk.own_blk HO4.out hq).2.1
        have hg := (hb.block N (Sm.lt_of G4.out)).trans G4.out
        have hr := (hb.block (N + 1) (Sm.lt_of R4.out)).trans R4.out
        have hbw := B4.out.trans (hb.mono B4.out.size)
        have hstd := (hown.stored i0 (.string S)).1
        have hst : (wr.setCell ⟨g, i0, none⟩ (.string S)).ownsRow N3 9 1 (.slice (some ⟨g, 0, none⟩) n c4) n ((M.lasts.set i0 (Dk.xored (Dk.last M i0) a0 x.data.toList)).map Dk.txt) := by
          have hSe : S = ⟨(Dk.xored (Dk.last M i0) a0 x.data.toList).toArray⟩ := by rw [← hS]
          rw [List.map_set, Dk.txt, ← hSe]; exact hstd
        clear hS
        have hge := HGE.out
        have hn3 := HNN.out
        have hg2 : (wr.setCell ⟨g, i0, none⟩ (.string S)).heap[N]? = _ := (Below.heap_setCell wr ⟨g, i0, none⟩ (.string S) N (by simp only; omega)).trans hg
        have hr2 : (wr.setCell ⟨g, i0, none⟩ (.string S)).heap[N + 1]? = _ := (Below.heap_setCell wr ⟨g, i0, none⟩ (.string S) (N + 1) (by simp only; omega)).trans hr
        have FIN : Hid (∀ a b c' d : Value, Below w.heap.size w ((((((wr.setCell ⟨g, i0, none⟩ (.string S)).setCell ⟨N, 0, none⟩ (.slice (some ⟨g, 0, none⟩) n c4)).setCell ⟨N + 1, 0, none⟩ a).setCell ⟨N + 1, 1, none⟩ b).setCell ⟨N + 1, 2, none⟩ c').setCell ⟨N + 1, 3, none⟩ d) ∧ Dk.RefAt ((((((wr.setCell ⟨g, i0, none⟩ (.string S)).setCell ⟨N, 0, none⟩ (.slice (some ⟨g, 0, none⟩) n c4)).setCell ⟨N + 1, 0, none⟩ a).setCell ⟨N + 1, 1, none⟩ b).setCell ⟨N + 1, 2, none⟩ c').setCell ⟨N + 1, 3, none⟩ d) fp (.agg #[.slice (some ⟨g, 0, none⟩) n c4, .slice B m d0, .int .i64 f, .bool o]) { M with lasts := M.lasts.set i0 (Dk.xored (Dk.last M i0) a0 x.data.toList) }) := fun a b c' d => by
          have hnw := HN.out
          have b7 : Below w.heap.size w ((((((wr.setCell ⟨g, i0, none⟩ (.string S)).setCell ⟨N, 0, none⟩ (.slice (some ⟨g, 0, none⟩) n c4)).setCell ⟨N + 1, 0, none⟩ a).setCell ⟨N + 1, 1, none⟩ b).setCell ⟨N + 1, 2, none⟩ c').setCell ⟨N + 1, 3, none⟩ d) := Dk.set4_below ((hbw.setCell (p := ⟨g, i0, none⟩) (by simp only; omega) _).setCell (p := ⟨N, 0, none⟩) (by simp only; omega) _) (by omega) _ _ _ _
          have e2 : (M.lasts.set i0 (Dk.xored (Dk.last M i0) a0 x.data.toList)).length = n := by rw [List.length_set]; exact HNL.out.symm
          have hge2 : ∀ q, (Value.slice (some ⟨g, 0, none⟩) n c4).ownBlock = some q → N3 ≤ q ∧ q < (wr.setCell ⟨g, i0, none⟩ (.string S)).heap.size := fun q hq => ⟨(Dk.own_blk hst hq).1, (Dk.own_blk hst hq).2.1⟩
          have ht : Dk.TextsAt (wr.setCell ⟨g, i0, none⟩ (.string S)) N3 (.slice (some ⟨g, 0, none⟩) (M.lasts.set i0 (Dk.xored (Dk.last M i0) a0 x.data.toList)).length c4) (M.lasts.set i0 (Dk.xored (Dk.last M i0) a0 x.data.toList)) := Dk.TextsAt.of_own (e := 9) (by rw [e2]; exact hst)
          refine ⟨b7, some ⟨g, 0, none⟩, c4, B, d0, ws, by rw [HML.out, HFF.out, HOO.out]; simp only [e2], ?_, HWR.out.below b7, ⟨HK.out.waits, fun p hp => by rw [e2, HNL.out]; exact HK.out.lt p hp⟩, ?_, fun q hq => ⟨Nat.lt_of_lt_of_le (HBK.out q hq).1 b7.size, (HBK.out q hq).2⟩, HNI.out⟩
          · refine ht.more.keep (by simp) fun q _ hq => ?_
            rw [e2] at hq
            have := hge2 q hq
            rw [Dk.set4_other _ _ _ _ _ _ _ (by omega), Below.heap_setCell _ _ _ _ (by simp only; omega)]
          · simp only [e2]
            intro q hq
            have := hge2 q hq
            refine ⟨by have := this.2; simp at this ⊢; exact this, fun hf => ?_⟩
            have := HFP.out q hf
            omega
        obtain ⟨o0, ho0⟩ : ∃ u, wr.cell? ⟨g, i0, none⟩ = some u := ⟨_, (hb.cell (p := ⟨g, i0, none⟩) hglt).trans HCELL.out⟩
        have fz := hown.frozenAt i0
        go_upto_region 13 with (fail)
        clear ho0 fz hstd
        generalize wr.setCell ⟨g, i0, none⟩ (.string S) = w5 at *
        have x0 := Sm.cells_of hg2 0 _ rfl
        have x1 := Sm.cells_of hg2 1 _ rfl
        have x2 := Sm.cells_of hg2 2 _ rfl
        have x3 := Sm.cells_of hg2 3 _ rfl
        have f0 := Sm.free_of hg2 0
        have y0 := Sm.cells_of hr2 0 _ rfl
        have y1 := Sm.cells_of hr2 1 _ rfl
        have y2 := Sm.cells_of hr2 2 _ rfl
        have y3 := Sm.cells_of hr2 3 _ rfl
        have q0 := Sm.free_of hr2 0
        have q1 := Sm.free_of hr2 1
        have q2 := Sm.free_of hr2 2
        have q3 := Sm.free_of hr2 3
        clear hown hb hg hr hg2 hr2 hbw hst
        go_wp2
        refine bodyPost_ret (v := .tuple #[.agg #[.slice (some ⟨g, 0, none⟩) n c4, .slice B m d0, .int .i64 f, .bool o], .int .i64 0]) ((results_cell_tmp rfl _ _ _).trans (by go_simp)) rfl ⟨_, rfl, (FIN.out _ _ _ _).2, (FIN.out _ _ _ _).1⟩
  · rw [e]
    rw [hxs, ← hnl] at hx
    have OUT : Hid (∀ w', Below w.heap.size w w' → Dk.RefAt w' fp (.agg #[.slice A n c, .slice B m d0, .int .i64 f, .bool o]) M) := fun w' k => H.out.low k
    have B2 : Hid (Below w.heap.size w ((w.alloc (.cells #[.slice A n c, .slice B m d0, .int .i64 f, .bool o] 33)).alloc (.cells #[.slice A n c, .slice B m d0, .int .i64 f, .bool o] 33))) := ((Below.refl _ w).alloc (Nat.le_refl _) _).alloc (by simp) _
    have hxsz := x.size
    clear hL hW hk hA hB hn hf hnl hml h4096 ho
    by_cases k1 : i < 0
    · go_enter Tryz.func32, Tryz.ntmps32
      go_wp2
      refine bodyPost_ret (v := .tuple #[.agg #[.slice A n c, .slice B m d0, .int .i64 f, .bool o], .int .i64 1]) ((results_cell_tmp rfl _ _ _).trans (by go_simp)) rfl ⟨_, rfl, OUT.out _ B2.out, B2.out⟩
    · by_cases k2 : (n : Int) ≤ i
      · go_enter Tryz.func32, Tryz.ntmps32
        go_wp2
        refine bodyPost_ret (v := .tuple #[.agg #[.slice A n c, .slice B m d0, .int .i64 f, .bool o], .int .i64 1]) ((results_cell_tmp rfl _ _ _).trans (by go_simp)) rfl ⟨_, rfl, OUT.out _ B2.out, B2.out⟩
      · by_cases k3 : 4 < (x.size : Int)
        · go_enter Tryz.func32, Tryz.ntmps32
          go_wp2
          refine bodyPost_ret (v := .tuple #[.agg #[.slice A n c, .slice B m d0, .int .i64 f, .bool o], .int .i64 1]) ((results_cell_tmp rfl _ _ _).trans (by go_simp)) rfl ⟨_, rfl, OUT.out _ B2.out, B2.out⟩
        · by_cases k4 : a < 0
          · go_enter Tryz.func32, Tryz.ntmps32
            go_wp2
            refine bodyPost_ret (v := .tuple #[.agg #[.slice A n c, .slice B m d0, .int .i64 f, .bool o], .int .i64 1]) ((results_cell_tmp rfl _ _ _).trans (by go_simp)) rfl ⟨_, rfl, OUT.out _ B2.out, B2.out⟩
          · have k5 : 64 - (x.size : Int) < a := by omega
            have hxw : IntKind.i64.wrap (64 - (x.size : Int)) = 64 - (x.size : Int) := by simp [IntKind.wrap, IntKind.bits, IntKind.signed]; omega
            go_enter Tryz.func32, Tryz.ntmps32
            go_wp2
            refine bodyPost_ret (v := .tuple #[.agg #[.slice A n c, .slice B m d0, .int .i64 f, .bool o], .int .i64 1]) ((results_cell_tmp rfl _ _ _).trans (by go_simp)) rfl ⟨_, rfl, OUT.out _ B2.out, B2.out⟩
end Go.Proofs.YtnmagfodjcookaaGreat
