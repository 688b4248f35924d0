/-
  The document's own Bytes and Read of seal.
-/
import Derived.Test.YtibpgmcpcelmpaaGreatDoorR5RdMath
import Derived.Test.YtibpgmcpcelmpaaGreatDoorR5Ops
import Derived.Test.YtibpgmcpcelmpaaGreatDoorSeOne
import Derived.Test.YtibpgmcpcelmpaaGreatDoorPkTell
namespace Go.Proofs.YtibpgmcpcelmpaaGreatDoor
open Go.RowKit Pk

set_option maxRecDepth 100000 in
set_option maxHeartbeats 2000000 in
theorem r5Bytes_any (w : World) (x : Se.Env) (ok : x.Ok) :
    Calls Tryz.prog 18 #[.agg x.cells.toArray] w fun e w' => e = .returned (.tuple #[.string ⟨(Se.spelled x).1.toArray⟩, .int .i64 (Se.spelled x).2]) ∧ Below w.heap.size w w' := by
  obtain ⟨cs, hcs⟩ : ∃ c, c = x.cells := ⟨_, rfl⟩
  have hcsl : cs.length = 36 := by rw [hcs]; exact Se.cells_length _ ok.tag
  obtain ⟨N, hN⟩ : ∃ N, N = w.heap.size := ⟨_, rfl⟩
  have g0 : (w.alloc (.cells cs.toArray 66)).heap[N]? = some (.cells cs.toArray 66 (0, 0)) := by rw [hN]; exact heap_alloc_new w _
  have b1 : Below N w (w.alloc (.cells cs.toArray 66)) := by rw [hN]; exact Se.below_new w _
  have s1 : (w.alloc (.cells cs.toArray 66)).heap.size = N + 1 := by rw [hN]; simp
  have RI : Hid (∀ wx : World, Calls Tryz.prog 35 #[.agg cs.toArray] wx fun e w' => e = .returned (.bool (decide x.Right)) ∧ Below wx.heap.size wx w') := fun wx => by rw [hcs]; exact r5Right_any wx x
  have hics := R5.infoEnvL hcsl
  have hicsa := Se.infoEnv (c := cs.toArray) (by rw [List.size_toArray, hcsl])
  rw [← hcs, ← hN]
  have HN := Lib.hid hN
  have G0 := Lib.hid g0
  have B1 := Lib.hid b1
  unfold Se.spelled
  by_cases hr : x.Right
  · rw [if_pos hr, decide_eq_true hr] at *
    have hds := hr.2
    obtain ⟨hb, hhb⟩ : ∃ b : ByteArray, b = ⟨(Se.head x).toArray⟩ := ⟨_, rfl⟩
    obtain ⟨db, hdb⟩ : ∃ b : ByteArray, b = ⟨(enc x.data.size ++ x.data.data.toList).toArray⟩ := ⟨_, rfl⟩
    obtain ⟨tb, htb⟩ : ∃ b : ByteArray, b = ⟨x.tag.toArray⟩ := ⟨_, rfl⟩
    have HD : Hid (∀ wx : World, Calls Tryz.prog 36 #[.agg cs.toArray] wx fun e w' => e = .returned (.string hb) ∧ Below wx.heap.size wx w') := fun wx => by rw [hcs, hhb]; exact r5Head_any wx x ok hr.1.1
    have T2 : Hid (∀ wx : World, Calls Tryz.prog 37 #[.string x.data] wx fun e w' => e = .returned (.string db) ∧ Below wx.heap.size wx w') := fun wx => by rw [hdb]; exact rText_any x.data (by omega) wx
    have hbs : hb.size ≤ 30 := by
      have e1 := enc_len (n := x.key.toNat) (by have := ok.key; omega)
      have e2 := enc_len (n := x.boot) (by have := ok.boot; omega)
      have e3 := enc_len ok.n
      rw [hhb]
      show (Se.head x).toArray.size ≤ _
      rw [List.size_toArray]
      simp only [Se.head, List.length_append]
      omega
    have hdbs : db.size ≤ 20010 := by
      have e1 := enc_len (n := x.data.size) (by omega)
      rw [hdb]
      show (enc x.data.size ++ x.data.data.toList).toArray.size ≤ _
      have h1 : x.data.data.toList.length = x.data.size := by rw [Array.length_toList]; rfl
      rw [List.size_toArray, List.length_append, h1]
      omega
    have htbs : tb.size = 32 := by rw [htb]; show x.tag.toArray.size = _; rw [List.size_toArray, ok.tag]
    have hcat : hb ++ db ++ tb = ⟨(Se.bytes x).toArray⟩ := by
      rw [hhb, hdb, htb, R5.text_bytes, Se.bytes]
      exact ByteArray.ext (by rw [ByteArray.data_append, ByteArray.data_append]; simp)
    have CV : Hid (∀ wx : World, wx.heap[N]? = some (.cells cs.toArray 66 (0, 0)) → (convert 85 9 (.slice (some ⟨N, 4, none⟩) 32 32)).run Tryz.prog wx = .ok (.string tb) wx) := fun wx h => by
      rw [hcs] at h
      have q := run_convert_bytes_back (P := Tryz.prog) wx 85 9 5 ⟨N, 4, none⟩ 32 x.tag Tryz.underlying85 Tryz.underlying5 Tryz.underlying9 (fun j hj => by
        have q2 := Se.EnvAt.tag h j hj
        rw [List.getD_eq_getElem?_getD, List.getElem?_eq_getElem hj] at q2
        rw [Addr.add_mid]
        exact q2)
      rw [ok.tag] at q
      rw [htb]
      exact q
    have hcd : cs[3]? = some (.string x.data) := by rw [hcs]; rfl
    have p1 : ¬ 9223372036854775807 < hb.size + db.size := by omega
    have p2 : ¬ 9223372036854775807 < (hb ++ db).size + tb.size := by rw [ByteArray.size_append]; omega
    have p3 : hb.size + db.size + tb.size ≤ 9223372036854775807 := by omega
    rw [← hcat]
    clear g0 b1 hN hcs hhb hdb htb hcat hr htbs
    go_enter Tryz.func18, Tryz.ntmps18
    go_upto_region 1 with (fail)
    rw [← HN.out]
    generalize w.alloc (.cells cs.toArray 66) = W1 at *
    go_wp2_with (with_reducible refine wpList_load_row rfl 66 (.tmp 1) rfl N rfl 66 cs.toArray (0, 0) _ (by exact G0.out) Tryz.underlying66 rfl hicsa ?_)
    refine (RI.out _).mono ?_
    rintro e w3 ⟨rfl, k3⟩
    have E0 : Hid (w3.drew.heap[N]? = some (.cells cs.toArray 66 (0, 0))) := (k3.block N (by omega)).trans G0.out
    have EB : Hid (Below N w w3.drew) := (B1.out.trans (k3.mono (by omega))).drew
    clear k3 G0 B1 RI
    go_upto_region 3 with (fail)
    refine wp_region_held_drew (S := fun w' => w'.heap[N]? = some (.cells cs.toArray 66 (0, 0))) (by kernel_rfl) E0.out (fun hHeld => ?_)
    generalize w3.drew = W0 at *
    refine wpAnyH_take (i := 0) (oi := ⟨some 7, _, _, _, _, _⟩) (v := .agg cs.toArray) rfl (by kernel_rfl) (by kernel_rfl) (by kernel_rfl) (fun _ _ _ h => h) (yieldsIf_load_mid (by rfl) _ _ rfl _ _ rfl cs _ (fun w hS => Sm.range_row hS) Tryz.underlying66 rfl hics) (by assumption) ?_
    simp only [Act.put, List.setIfInBounds_toArray, List.set_cons_zero, List.set_cons_succ]
    refine wpAnyH_take (i := 2) (oi := ⟨some 9, _, _, _, _, _⟩) (v := .pointer (some ⟨N, 3, none⟩)) rfl (by kernel_rfl) (by kernel_rfl) (by kernel_rfl) (fun _ _ _ h => h) (Or.inl ⟨by rfl, ?_⟩) (by assumption) ?_
    · intro w hSw; (try dsimp only at hSw); go_simp
    simp only [Act.put, List.setIfInBounds_toArray, List.set_cons_zero, List.set_cons_succ]
    refine wpAnyH_take (i := 3) (oi := ⟨some 10, _, _, _, _, _⟩) (v := .string x.data) rfl (by kernel_rfl) (by kernel_rfl) (by kernel_rfl) (fun _ _ _ h => h) (Or.inl ⟨by rfl, ?_⟩) (by assumption) ?_
    · intro w hSw; (try dsimp only at hSw); have c := Sm.cells_of hSw 3 _ (by rw [List.getElem?_toArray]; exact hcd); go_simp
    simp only [Act.put, List.setIfInBounds_toArray, List.set_cons_zero, List.set_cons_succ]
    refine wpAnyH_take (i := 6) (oi := ⟨some 13, _, _, _, _, _⟩) (v := .pointer (some ⟨N, 4, none⟩)) rfl (by kernel_rfl) (by kernel_rfl) (by kernel_rfl) (fun _ _ _ h => h) (Or.inl ⟨by rfl, ?_⟩) (by assumption) ?_
    · intro w hSw; (try dsimp only at hSw); go_simp
    simp only [Act.put, List.setIfInBounds_toArray, List.set_cons_zero, List.set_cons_succ]
    refine wpAnyH_take (i := 7) (oi := ⟨some 14, _, _, _, _, _⟩) (v := .slice (some ⟨N, 4, none⟩) 32 32) rfl (by kernel_rfl) (by kernel_rfl) (by kernel_rfl) (fun _ _ _ h => h) (Or.inl ⟨by rfl, ?_⟩) (by assumption) ?_
    · intro w hSw; (try dsimp only at hSw); have c := Sm.cells_of hSw 4 _ (Array.getElem?_eq_getElem (by rw [List.size_toArray, hcsl]; decide)); go_simp
    simp only [Act.put, List.setIfInBounds_toArray, List.set_cons_zero, List.set_cons_succ]
    refine wpAnyH_take (i := 8) (oi := ⟨some 15, _, _, _, _, _⟩) (v := .string tb) rfl (by kernel_rfl) (by kernel_rfl) (by kernel_rfl) (fun _ _ _ h => h) (Or.inl ⟨by rfl, ?_⟩) (by assumption) ?_
    · intro w hSw; (try dsimp only at hSw); have c := CV.out _ hSw; go_simp
    simp only [Act.put, List.setIfInBounds_toArray, List.set_cons_zero, List.set_cons_succ]
    refine wpAnyH_ready (rs := [1]) (by kernel_rfl) (by simp) ?_
    refine (AllReadyH.cons (o := ⟨some 8, _, _, _, _, _⟩) rfl (fun K hK => ?_) AllReadyH.nil)
    go_simp
    refine (HD.out _).mono ?_
    rintro e w4 ⟨rfl, kw4⟩
    have E0w4 := Lib.hid ((kw4.block N (Sm.lt_of E0.out)).trans E0.out)
    have EBw4 := Lib.hid (EB.out.trans (kw4.mono (by have := Sm.lt_of E0.out; omega)))
    clear kw4
    refine hK.out _ _ E0w4.out (fun hHeld => ?_)
    clear hK K
    refine wpAnyH_ready (rs := [4]) (by kernel_rfl) (by simp) ?_
    refine (AllReadyH.cons (o := ⟨some 11, _, _, _, _, _⟩) rfl (fun K hK => ?_) AllReadyH.nil)
    go_simp
    refine (T2.out _).mono ?_
    rintro e w5 ⟨rfl, kw5⟩
    have E0w5 := Lib.hid ((kw5.block N (Sm.lt_of E0w4.out)).trans E0w4.out)
    have EBw5 := Lib.hid (EBw4.out.trans (kw5.mono (by have := Sm.lt_of E0w4.out; omega)))
    clear kw5
    refine hK.out _ _ E0w5.out (fun hHeld => ?_)
    clear hK K
    refine wpAnyH_take (i := 5) (oi := ⟨some 12, _, _, _, _, _⟩) (v := .string (hb ++ db)) rfl (by kernel_rfl) (by kernel_rfl) (by kernel_rfl) (fun _ _ _ h => h) (Or.inl ⟨by rfl, ?_⟩) (by assumption) ?_
    · intro w hSw; (try dsimp only at hSw); go_simp
    simp only [Act.put, List.setIfInBounds_toArray, List.set_cons_zero, List.set_cons_succ]
    refine wpAnyH_take (i := 9) (oi := ⟨some 16, _, _, _, _, _⟩) (v := .string (hb ++ db ++ tb)) rfl (by kernel_rfl) (by kernel_rfl) (by kernel_rfl) (fun _ _ _ h => h) (Or.inl ⟨by rfl, ?_⟩) (by assumption) ?_
    · intro w hSw; (try dsimp only at hSw); go_simp
    simp only [Act.put, List.setIfInBounds_toArray, List.set_cons_zero, List.set_cons_succ]
    refine wpAnyH_take (i := 10) (oi := ⟨some 2, _, _, _, _, _⟩) (v := .string (hb ++ db ++ tb)) rfl (by kernel_rfl) (by kernel_rfl) (by kernel_rfl) (fun _ _ _ h => h) (Or.inl ⟨by rfl, ?_⟩) (by assumption) ?_
    · intro w hSw; (try dsimp only at hSw); go_simp
    simp only [Act.put, List.setIfInBounds_toArray, List.set_cons_zero, List.set_cons_succ]
    refine wpAnyH_take (i := 11) (oi := ⟨some 3, _, _, _, _, _⟩) (v := .int .i64 0) rfl (by kernel_rfl) (by kernel_rfl) (by kernel_rfl) (fun _ _ _ h => h) (Or.inl ⟨by rfl, ?_⟩) (by assumption) ?_
    · intro w hSw; (try dsimp only at hSw); go_simp
    simp only [Act.put, List.setIfInBounds_toArray, List.set_cons_zero, List.set_cons_succ]
    refine wpAnyH_done (by kernel_rfl) ?_ _
    go_wp2
    refine bodyPost_ret (results_tmp2 rfl _ _ _) rfl ?_
    exact ⟨rfl, EBw5.out⟩
  · rw [if_neg hr, decide_eq_false hr] at *
    clear g0 b1 hN hcs hr
    go_enter Tryz.func18, Tryz.ntmps18
    go_upto_region 1 with (fail)
    rw [← HN.out]
    generalize w.alloc (.cells cs.toArray 66) = W1 at *
    go_wp2_with (with_reducible refine wpList_load_row rfl 66 (.tmp 1) rfl N rfl 66 cs.toArray (0, 0) _ (by exact G0.out) Tryz.underlying66 rfl hicsa ?_)
    refine (RI.out _).mono ?_
    rintro e w3 ⟨rfl, k3⟩
    go_wp2_with fail
    refine bodyPost_ret (results_tmp2 rfl _ _ _) rfl ?_
    exact ⟨rfl, B1.out.trans (k3.mono (by omega))⟩
end Go.Proofs.YtibpgmcpcelmpaaGreatDoor
