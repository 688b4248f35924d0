/-
  The document's Page of buckets.
-/
import Derived.Test.YthhmnbpabncdnaaDoorR14Fns
import Derived.Test.YthhmnbpabncdnaaDoorBuPage
namespace Go.Proofs.YthhmnbpabncdnaaDoor
open Go.RowKit Pk
namespace Bu
theorem cat3 (P a b : List UInt8) : (⟨P.toArray⟩ : ByteArray) ++ ⟨a.toArray⟩ ++ ⟨b.toArray⟩ = ⟨(P ++ (a ++ b)).toArray⟩ := by
  rw [R12.ba_cat, R12.ba_cat, List.append_assoc]
theorem ba_len (P : List UInt8) : (⟨P.toArray⟩ : ByteArray).size = P.length := by rw [← Ba.ba_size, Ba.ba_mk]
end Bu
set_option maxRecDepth 100000 in
set_option maxHeartbeats 4000000 in
theorem r14Page_any {w : World} (i : Int) {A : Option Addr} {l : List Om.Pr} (c : Nat) (hit : Om.listAt w A l) (hn : l.length ≤ 1000) (hs : ∀ x ∈ l, x.p.size ≤ 1000000) :
    Calls Tryd.prog 21 #[.int .i64 i, .slice A l.length c] w fun e w' => e = .returned (.tuple #[.string (Bu.page i l).1, .int .i64 ((Bu.page i l).2 : Nat)]) ∧ Below w.heap.size w w' := by
  have MA := Lib.hid (r14May_any c hit (by omega) (fun x hx => hs x hx))
  have HIT := Lib.hid hit
  clear hit
  by_cases h1 : i < 0
  · rw [Bu.page_bad (Bu.pageE_out (decide_eq_false (by omega))) (by decide)]
    go_enter Tryd.func21, Tryd.ntmps21
    go_wp2
    go_ret2
    exact ⟨rfl, Below.refl _ _⟩
  by_cases h15 : 15 < i
  · rw [Bu.page_bad (Bu.pageE_out (decide_eq_false (by omega))) (by decide)]
    go_enter Tryd.func21, Tryd.ntmps21
    go_wp2
    go_ret2
    exact ⟨rfl, Below.refl _ _⟩
  cases h2 : Bu.may l
  · rw [h2] at MA
    rw [Bu.page_bad (Bu.pageE_may h2) (by decide)]
    clear h2
    go_enter Tryd.func21, Tryd.ntmps21
    go_wp2_with (go_at_call 16; refine MA.out.mono ?_; rintro e w1 ⟨rfl, k1⟩)
    go_ret2
    exact ⟨rfl, k1⟩
  rw [h2] at MA
  have HRG : Hid (0 ≤ i ∧ i ≤ 15) := ⟨by omega, by omega⟩
  have H2 := Lib.hid h2
  have HFA := Lib.hid (Bu.may_iff.1 h2).1
  have wl : IntKind.u64.wrap (l.length : Int) = (l.length : Int) := by rw [IntKind.wrap_u64]; omega
  have HBB : Hid (Bu.bytes l = enc l.length ++ Bu.prsB l) := rfl
  have HEL := Lib.hid (R12.enc_len (n := l.length) (by omega))
  have NU := Lib.hid (fun wx => r12Num_any l.length (by omega) wx)
  obtain ⟨HD, hHD⟩ : ∃ x, x = enc l.length := ⟨_, rfl⟩
  rw [← hHD] at HBB HEL NU
  have HS := Lib.hid hs
  clear h2 hHD hs
  go_enter Tryd.func21, Tryd.ntmps21
  go_upto_region 4 with first
    | (go_at_call 16; refine MA.out.mono ?_; rintro e w1 ⟨rfl, k1⟩)
    | (go_at_call 35; refine (NU.out _).mono ?_; rintro e w2 ⟨rfl, k2⟩)
  have B2 : Hid (Below w.heap.size w w2) := k1.trans (k2.mono k1.size)
  clear k1 k2 MA NU h1 h15
  go_wp2
  go_loopw [6, 7] (fun s6 s7 wr => ∃ (k : Nat) (P : List UInt8), s7 = .int .i64 k ∧ s6 = .string ⟨P.toArray⟩ ∧ k ≤ l.length ∧ Hid (P = HD ++ Bu.prsB (l.take k)) ∧ Hid (∀ j (hj : j < l.length), j < k → Bu.isOf i l[j] = true) ∧ Below w.heap.size w wr) (fun _ s7 _ => l.length - (intOf s7).toNat)
  case atStart => exact ⟨0, HD, rfl, rfl, Nat.zero_le _, by show _ = _; simp [Bu.prsB], fun _ _ h => absurd h (Nat.not_lt_zero _), B2.out⟩
  case round =>
    clear B2
    obtain ⟨k, P, rfl, rfl, hk, hP, hall, hb⟩ := hrel
    have HB := Lib.hid hb
    clear hb
    by_cases hlt : k < l.length
    · have hki : (k : Int) < (l.length : Int) := by omega
      have hsuc : IntKind.i64.wrap ((k : Int) + 1) = ((k + 1 : Nat) : Int) := by simp [IntKind.wrap, IntKind.bits, IntKind.signed]; omega
      obtain ⟨b, off, rfl, hbl, x0, x1⟩ := HIT.out.get HB.out k hlt
      have hblr : Hid (b < wr.heap.size) := Nat.lt_of_lt_of_le hbl HB.out.size
      have hxp := HS.out _ (List.getElem_mem hlt)
      have hfx := HFA.out _ (List.getElem_mem hlt)
      have htk := Bu.prsB_take hlt
      have hpl := Bu.prsB_part HFA.out k
      have hPl : P.length ≤ 100000 := by
        have h1 := HEL.out
        rw [hP.out, List.length_append]
        omega
      obtain ⟨x, hx⟩ : ∃ x, x = l[k] := ⟨_, rfl⟩
      rw [← hx] at x0 x1 hxp hfx htk
      have HX := Lib.hid hx
      have ISO := Bu.neq_isOf i x
      have OF := Lib.hid (fun wx => r14Of_any wx x.p (by omega))
      clear hx
      cases hsx : Bu.isOf i x
      · rw [hsx] at ISO
        have hpe : Hid (Bu.page i l = (⟨#[]⟩, 1)) := Bu.page_bad (Bu.pageE_all (Bu.all_not hlt (by rw [← HX.out]; exact hsx))) (by decide)
        clear hsx htk hpl
        go_wp2_with (go_at_call 14; refine (OF.out _).mono ?_; rintro e w3 ⟨rfl, k3⟩)
        go_ret2
        exact ⟨by rw [hpe.out]; rfl, HB.out.trans (k3.mono HB.out.size)⟩
      · rw [hsx] at ISO
        have hnext : ∀ j (hj : j < l.length), j < k + 1 → Bu.isOf i l[j] = true := fun j hj hjk => by
          by_cases e : j = k
          · subst e; rw [← HX.out]; exact hsx
          · exact hall.out j hj (by omega)
        have HNX := Lib.hid hnext
        have hfl := Bu.fair_len hfx
        rw [Ba.ba_size, Ba.ba_size] at hfl
        obtain ⟨hfp, hfv⟩ := hfl
        have T1 := Lib.hid (fun wx => r12Text_any x.p (by omega) wx)
        have T2 := Lib.hid (fun wx => r12Text_any x.v (by omega) wx)
        have hp85 := Bu.prB_len hfx
        have hcat := Bu.cat3 P (Rm.txt x.p.data.toList) (Rm.txt x.v.data.toList)
        have hsz1 : (⟨(Rm.txt x.p.data.toList).toArray⟩ : ByteArray).size ≤ 85 := by
          rw [Bu.ba_len]
          unfold Bu.prB at hp85
          rw [List.length_append] at hp85
          omega
        have hsz2 : (⟨(Rm.txt x.v.data.toList).toArray⟩ : ByteArray).size ≤ 85 := by
          rw [Bu.ba_len]
          unfold Bu.prB at hp85
          rw [List.length_append] at hp85
          omega
        have hszP : (⟨P.toArray⟩ : ByteArray).size ≤ 100000 := by rw [Bu.ba_len]; exact hPl
        have HTK : Hid (HD ++ Bu.prsB (l.take (k + 1)) = P ++ (Rm.txt x.p.data.toList ++ Rm.txt x.v.data.toList)) := by
          show _ = _
          rw [htk, ← List.append_assoc, ← hP.out]
          rfl
        obtain ⟨Q, hQ⟩ : ∃ Q, Q = P ++ (Rm.txt x.p.data.toList ++ Rm.txt x.v.data.toList) := ⟨_, rfl⟩
        rw [← hQ] at HTK hcat
        obtain ⟨TP, hTP⟩ : ∃ t : ByteArray, t = ⟨(Rm.txt x.p.data.toList).toArray⟩ := ⟨_, rfl⟩
        obtain ⟨TV, hTV⟩ : ∃ t : ByteArray, t = ⟨(Rm.txt x.v.data.toList).toArray⟩ := ⟨_, rfl⟩
        obtain ⟨SB, hSB⟩ : ∃ t : ByteArray, t = ⟨P.toArray⟩ := ⟨_, rfl⟩
        rw [← hTP] at T1 hcat hsz1
        rw [← hTV] at T2 hcat hsz2
        rw [← hSB] at hcat hszP ⊢
        have HCAT := Lib.hid hcat
        have hsz3 : (SB ++ TP).size ≤ 100085 := by rw [ByteArray.size_append]; omega
        clear hsx htk hpl hnext hfx hp85 hcat hQ hTP hTV hSB hP hPl
        go_upto_region 9 with (go_at_call 14; refine (OF.out _).mono ?_; rintro e w3 ⟨rfl, k3⟩)
        have HBD : Hid (Below w.heap.size w w3.drew) := (HB.out.trans (k3.mono HB.out.size)).drew
        have HBL : Hid (b < w3.drew.heap.size) := Nat.lt_of_lt_of_le hblr.out k3.size
        have z0 : w3.drew.cell? ⟨b, off + k * 2, none⟩ = some (.string x.p) := (k3.cell (p := ⟨b, off + k * 2, none⟩) hblr.out).trans x0
        have z1 : w3.drew.cell? ⟨b, off + k * 2 + 1, none⟩ = some (.string x.v) := (k3.cell (p := ⟨b, off + k * 2 + 1, none⟩) hblr.out).trans x1
        clear x0 x1 k3
        refine wp_region_held_drew (S := fun w' => w'.cell? ⟨b, off + k * 2, none⟩ = some (.string x.p) ∧ w'.cell? ⟨b, off + k * 2 + 1, none⟩ = some (.string x.v)) (by kernel_rfl) ⟨z0, z1⟩ (fun hHeld => ?_)
        refine wpAnyH_take (i := 0) (oi := ⟨some 37, _, _, _, _, _⟩) (v := .string SB) rfl (by kernel_rfl) (by kernel_rfl) (by kernel_rfl) (fun _ _ _ h => h) (Or.inl ⟨by rfl, ?_⟩) (by assumption) ?_
        · intro w hSw; (try dsimp only at hSw); go_simp
        simp only [Act.put, List.setIfInBounds_toArray, List.set_cons_zero, List.set_cons_succ]
        refine wpAnyH_take (i := 1) (oi := ⟨some 38, _, _, _, _, _⟩) (v := .slice (some ⟨b, off, none⟩) l.length c) rfl (by kernel_rfl) (by kernel_rfl) (by kernel_rfl) (fun _ _ _ h => h) (Or.inl ⟨by rfl, ?_⟩) (by assumption) ?_
        · intro w hSw; (try dsimp only at hSw); go_simp
        simp only [Act.put, List.setIfInBounds_toArray, List.set_cons_zero, List.set_cons_succ]
        refine wpAnyH_take (i := 2) (oi := ⟨some 39, _, _, _, _, _⟩) (v := .int .i64 (k : Int)) rfl (by kernel_rfl) (by kernel_rfl) (by kernel_rfl) (fun _ _ _ h => h) (Or.inl ⟨by rfl, ?_⟩) (by assumption) ?_
        · intro w hSw; (try dsimp only at hSw); go_simp
        simp only [Act.put, List.setIfInBounds_toArray, List.set_cons_zero, List.set_cons_succ]
        refine wpAnyH_take (i := 3) (oi := ⟨some 40, _, _, _, _, _⟩) (v := .pointer (some ⟨b, off + k * 2, none⟩)) rfl (by kernel_rfl) (by kernel_rfl) (by kernel_rfl) (fun _ _ _ h => h) (Or.inl ⟨by rfl, ?_⟩) (by assumption) ?_
        · intro w hSw; (try dsimp only at hSw); go_simp
        simp only [Act.put, List.setIfInBounds_toArray, List.set_cons_zero, List.set_cons_succ]
        refine wpAnyH_take (i := 4) (oi := ⟨some 41, _, _, _, _, _⟩) (v := .pointer (some ⟨b, off + k * 2, none⟩)) rfl (by kernel_rfl) (by kernel_rfl) (by kernel_rfl) (fun _ _ _ h => h) (Or.inl ⟨by rfl, ?_⟩) (by assumption) ?_
        · intro w hSw; (try dsimp only at hSw); go_simp
        simp only [Act.put, List.setIfInBounds_toArray, List.set_cons_zero, List.set_cons_succ]
        refine wpAnyH_take (i := 5) (oi := ⟨some 42, _, _, _, _, _⟩) (v := .string x.p) rfl (by kernel_rfl) (by kernel_rfl) (by kernel_rfl) (fun _ _ _ h => h) (Or.inl ⟨by rfl, ?_⟩) (by assumption) ?_
        · intro w hSw; (try dsimp only at hSw); go_simp
        simp only [Act.put, List.setIfInBounds_toArray, List.set_cons_zero, List.set_cons_succ]
        refine wpAnyH_take (i := 8) (oi := ⟨some 45, _, _, _, _, _⟩) (v := .slice (some ⟨b, off, none⟩) l.length c) rfl (by kernel_rfl) (by kernel_rfl) (by kernel_rfl) (fun _ _ _ h => h) (Or.inl ⟨by rfl, ?_⟩) (by assumption) ?_
        · intro w hSw; (try dsimp only at hSw); go_simp
        simp only [Act.put, List.setIfInBounds_toArray, List.set_cons_zero, List.set_cons_succ]
        refine wpAnyH_take (i := 9) (oi := ⟨some 46, _, _, _, _, _⟩) (v := .int .i64 (k : Int)) rfl (by kernel_rfl) (by kernel_rfl) (by kernel_rfl) (fun _ _ _ h => h) (Or.inl ⟨by rfl, ?_⟩) (by assumption) ?_
        · intro w hSw; (try dsimp only at hSw); go_simp
        simp only [Act.put, List.setIfInBounds_toArray, List.set_cons_zero, List.set_cons_succ]
        refine wpAnyH_take (i := 10) (oi := ⟨some 47, _, _, _, _, _⟩) (v := .pointer (some ⟨b, off + k * 2, none⟩)) rfl (by kernel_rfl) (by kernel_rfl) (by kernel_rfl) (fun _ _ _ h => h) (Or.inl ⟨by rfl, ?_⟩) (by assumption) ?_
        · intro w hSw; (try dsimp only at hSw); go_simp
        simp only [Act.put, List.setIfInBounds_toArray, List.set_cons_zero, List.set_cons_succ]
        refine wpAnyH_take (i := 11) (oi := ⟨some 48, _, _, _, _, _⟩) (v := .pointer (some ⟨b, off + k * 2 + 1, none⟩)) rfl (by kernel_rfl) (by kernel_rfl) (by kernel_rfl) (fun _ _ _ h => h) (Or.inl ⟨by rfl, ?_⟩) (by assumption) ?_
        · intro w hSw; (try dsimp only at hSw); go_simp
        simp only [Act.put, List.setIfInBounds_toArray, List.set_cons_zero, List.set_cons_succ]
        refine wpAnyH_take (i := 12) (oi := ⟨some 49, _, _, _, _, _⟩) (v := .string x.v) rfl (by kernel_rfl) (by kernel_rfl) (by kernel_rfl) (fun _ _ _ h => h) (Or.inl ⟨by rfl, ?_⟩) (by assumption) ?_
        · intro w hSw; (try dsimp only at hSw); go_simp
        simp only [Act.put, List.setIfInBounds_toArray, List.set_cons_zero, List.set_cons_succ]
        refine wpAnyH_ready (rs := [6]) (by kernel_rfl) (by simp) ?_
        refine (AllReadyH.cons (o := ⟨some 43, _, _, _, _, _⟩) rfl (fun K hK => ?_) AllReadyH.nil)
        go_simp
        refine (T1.out _).mono ?_
        rintro e w4 ⟨rfl, k4⟩
        have z2 := (k4.cell (p := ⟨b, off + k * 2, none⟩) HBL.out).trans z0
        have z3 := (k4.cell (p := ⟨b, off + k * 2 + 1, none⟩) HBL.out).trans z1
        have HBL4 : Hid (b < w4.heap.size) := Nat.lt_of_lt_of_le HBL.out k4.size
        have B4 : Hid (Below w.heap.size w w4) := HBD.out.trans (k4.mono HBD.out.size)
        clear z0 z1 k4
        refine hK.out _ _ ⟨z2, z3⟩ (fun hHeld => ?_)
        clear hK K
        refine wpAnyH_take (i := 7) (oi := ⟨some 44, _, _, _, _, _⟩) (v := .string (SB ++ TP)) rfl (by kernel_rfl) (by kernel_rfl) (by kernel_rfl) (fun _ _ _ h => h) (Or.inl ⟨by rfl, ?_⟩) (by assumption) ?_
        · intro w hSw; (try dsimp only at hSw); go_simp <;> omega
        simp only [Act.put, List.setIfInBounds_toArray, List.set_cons_zero, List.set_cons_succ]
        refine wpAnyH_ready (rs := [13]) (by kernel_rfl) (by simp) ?_
        refine (AllReadyH.cons (o := ⟨some 50, _, _, _, _, _⟩) rfl (fun K hK => ?_) AllReadyH.nil)
        go_simp
        refine (T2.out _).mono ?_
        rintro e w5 ⟨rfl, k5⟩
        have z4 := (k5.cell (p := ⟨b, off + k * 2, none⟩) HBL4.out).trans z2
        have z5 := (k5.cell (p := ⟨b, off + k * 2 + 1, none⟩) HBL4.out).trans z3
        have B5 : Hid (Below w.heap.size w w5) := B4.out.trans (k5.mono B4.out.size)
        clear z2 z3 k5
        refine hK.out _ _ ⟨z4, z5⟩ (fun hHeld => ?_)
        clear hK K
        refine wpAnyH_take (i := 14) (oi := ⟨some 51, _, _, _, _, _⟩) (v := .string (SB ++ TP ++ TV)) rfl (by kernel_rfl) (by kernel_rfl) (by kernel_rfl) (fun _ _ _ h => h) (Or.inl ⟨by rfl, ?_⟩) (by assumption) ?_
        · intro w hSw; (try dsimp only at hSw); go_simp <;> omega
        simp only [Act.put, List.setIfInBounds_toArray, List.set_cons_zero, List.set_cons_succ]
        refine wpAnyH_take (i := 15) (oi := ⟨some 6, _, _, _, _, _⟩) (v := .string (SB ++ TP ++ TV)) rfl (by kernel_rfl) (by kernel_rfl) (by kernel_rfl) (fun _ _ _ h => h) (Or.inl ⟨by rfl, ?_⟩) (by assumption) ?_
        · intro w hSw; (try dsimp only at hSw); go_simp
        simp only [Act.put, List.setIfInBounds_toArray, List.set_cons_zero, List.set_cons_succ]
        refine wpAnyH_done (by kernel_rfl) ?_ _
        go_wp2_with fail
        rw [HCAT.out]
        go_roundw
        case rel => exact ⟨k + 1, Q, rfl, rfl, hlt, HTK.out.symm, HNX.out, B5.out⟩
        case measure => simp only [intOf]; omega
    · have hki : ¬ (k : Int) < (l.length : Int) := by omega
      have hke : k = l.length := by omega
      have hP' := hP.out
      rw [hke, List.take_length] at hP'
      have HALL := Lib.hid (Bu.all_upto (l := l) (i := i) fun j hj => hall.out j hj (by omega))
      have HP := Lib.hid hP'
      clear hP hP' hall hke
      by_cases h48 : 48 < l.length
      · have h48i : (48 : Int) < (l.length : Int) := by omega
        have hpe : Hid (Bu.page i l = (⟨#[]⟩, 3)) := Bu.page_bad (Bu.pageE_long HRG.out H2.out HALL.out h48) (by decide)
        clear h48
        go_wp2
        go_ret2
        exact ⟨by rw [hpe.out]; rfl, HB.out⟩
      · have h48i : ¬ (48 : Int) < (l.length : Int) := by omega
        have hpe : Hid (Bu.page i l = (⟨(Bu.bytes l).toArray⟩, 0)) := Bu.page_good (Bu.pageE_of HRG.out H2.out HALL.out (by omega))
        clear h48
        go_wp2
        go_ret2
        exact ⟨by rw [hpe.out, HBB.out, ← HP.out]; rfl, HB.out⟩
end Go.Proofs.YthhmnbpabncdnaaDoor
