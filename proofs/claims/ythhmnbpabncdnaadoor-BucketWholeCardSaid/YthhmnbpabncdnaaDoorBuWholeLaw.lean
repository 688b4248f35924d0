/-
  BucketWhole answers true for every row of pairs, and turns nothing of what was there.
-/
import Derived.Test.YthhmnbpabncdnaaDoorBuAwake
import Derived.Test.YthhmnbpabncdnaaDoorOmGreat
import Derived.Test.YthhmnbpabncdnaaDoorBuPart
import Derived.Test.YthhmnbpabncdnaaDoorR13List
namespace Go.Proofs.YthhmnbpabncdnaaDoor
open Go.RowKit
namespace Bu
theorem upto_le (l : List Om.Pr) (n : Nat) : upto l n ≤ l.length := by rw [upto_filter]; exact List.length_filter_le _ _
theorem eqb_self (x : Om.Pr) : (!Om.eqb x x) = false := by rw [Om.eqb_iff.2 rfl]; rfl
theorem fair_page {l : List Om.Pr} {i : Int} (h : pageE i l = 0) : (⟨(bytes l).toArray⟩ : ByteArray).size ≤ 5000 := by
  obtain ⟨-, hm, -, h48⟩ := pageE_ok h
  have h1 := prsB_len (may_iff.1 hm).1
  have h2 := R12.enc_len (n := l.length) (by omega)
  rw [← Ba.ba_size, Ba.ba_mk]
  unfold bytes
  rw [List.length_append]
  omega
end Bu
set_option maxRecDepth 100000 in
set_option maxHeartbeats 4000000 in
theorem bucketWhole_any {w : World} (hH : Sm.HAt w) (hK : Sm.KAt w) (hsz : 1 < w.heap.size) {A : Option Addr} {l : List Om.Pr} (c : Nat) (hit : Om.listAt w A l) :
    Calls Tryd.prog 6 #[.slice A l.length c] w fun e w' => e = .returned (.bool true) ∧ Below w.heap.size w w' := by
  have AW : Hid (∀ wx : World, Below w.heap.size w wx → Calls Tryd.prog 12 #[] wx fun e w' => e = .returned (.bool true) ∧ Below wx.heap.size wx w') := fun wx hb => awake14_any (hH.low hb (by omega)) (hK.low hb hsz) (Nat.lt_of_lt_of_le hsz hb.size)
  obtain ⟨g, hg⟩ := Om.fairL_or l
  have GP := Lib.hid (greatPairs_any (c := c) hit g hg)
  have HEQ := hg
  cases g
  case true =>
    clear HEQ hg
    go_enter Tryd.func6, Tryd.ntmps6
    go_wp2_with first
      | (go_at_call 11; refine GP.out.mono ?_; rintro e w0 ⟨rfl, rfl⟩)
      | (go_at_call 12; refine (AW.out _ (Below.refl _ _)).mono ?_; rintro e w1 ⟨rfl, k1⟩)
    go_ret
    exact ⟨rfl, k1⟩
  have hf : Om.FairL l := Classical.byContradiction fun h => by have := HEQ.2 h; cases this
  clear HEQ hg
  by_cases hl : 48 < l.length
  · have hli : (48 : Int) < (l.length : Int) := by omega
    go_enter Tryd.func6, Tryd.ntmps6
    go_wp2_with first
      | (go_at_call 11; refine GP.out.mono ?_; rintro e w0 ⟨rfl, rfl⟩)
      | (go_at_call 12; refine (AW.out _ (Below.refl _ _)).mono ?_; rintro e w1 ⟨rfl, k1⟩)
    go_ret
    exact ⟨rfl, k1⟩
  have hli : ¬ (48 : Int) < (l.length : Int) := by omega
  have OF : Hid (∀ (wx : World) (p : ByteArray), Below w.heap.size w wx → p.size ≤ 281474976710656 → Calls Tryd.prog 13 #[.string p] wx fun e w' => e = .returned (.int .i64 (Bu.bk p : Nat)) ∧ Below wx.heap.size wx w') := fun wx p hb hp => buOf_any (hH.low hb (by omega)) (hK.low hb hsz) (Nat.lt_of_lt_of_le hsz hb.size) p (by omega)
  have PT : Hid (∀ (wx : World), Below w.heap.size w wx → ∀ i : Int, Calls Tryd.prog 18 #[.slice A l.length c, .int .i64 i] wx fun e w' => ∃ B q, e = .returned (.slice B (Bu.part l i).length q) ∧ Om.Row w' wx.heap.size B q (Bu.part l i) ∧ Below wx.heap.size wx w') := fun wx hb i =>
    buPart_any (hH.low hb (by omega)) (hK.low hb hsz) (Nat.lt_of_lt_of_le hsz hb.size) c (hit.below hb) (by have := hf.1; omega) (fun x hx => by have := hf.mem x hx; omega) i
  have PG : Hid (∀ (wx : World) (C : Option Addr) (d : Nat) (m : List Om.Pr) (i : Int), Below w.heap.size w wx → Om.listAt wx C m → m.length ≤ 200 → (∀ x ∈ m, x.p.size ≤ 1000) → Calls Tryd.prog 20 #[.int .i64 i, .slice C m.length d] wx fun e w' => e = .returned (.tuple #[.string (Bu.page i m).1, .int .i64 ((Bu.page i m).2 : Nat)]) ∧ Below wx.heap.size wx w') := fun wx C d m i hb hl hm hs =>
    buPage_any (hH.low hb (by omega)) (hK.low hb hsz) (Nat.lt_of_lt_of_le hsz hb.size) i d hl (by omega) (fun x hx => by have := hs x hx; omega)
  have MY : Hid (∀ (wx : World) (C : Option Addr) (d : Nat) (m : List Om.Pr), Om.listAt wx C m → m.length ≤ 200 → (∀ x ∈ m, x.p.size ≤ 1000) → Calls Tryd.prog 15 #[.slice C m.length d] wx fun e w' => e = .returned (.bool (Bu.may m)) ∧ Below wx.heap.size wx w') := fun wx C d m hl hm hs => buMay_any d hl (by omega) (fun x hx => by have := hs x hx; omega)
  have RD : Hid (∀ (wx : World) (i : Int) (s : ByteArray), Below w.heap.size w wx → s.size ≤ 100000 → Calls Tryd.prog 22 #[.int .i64 i, .string s] wx fun e w' => ∃ A c, e = .returned (.tuple #[.slice A (Bu.read i s).1.length c, .int .i64 ((Bu.read i s).2 : Nat)]) ∧ Om.Row w' wx.heap.size A c (Bu.read i s).1 ∧ Below wx.heap.size wx w') := fun wx i s hb hs =>
    buRead_any (hH.low hb (by omega)) (hK.low hb hsz) (Nat.lt_of_lt_of_le hsz hb.size) i s (by omega)
  have HIT := Lib.hid hit
  have HF := Lib.hid hf
  have HL48 : Hid (l.length ≤ 48) := by show _ ≤ _; omega
  have HALL := Lib.hid (Bu.upto_all l)
  have HZ : Hid (Bu.upto l 0 = 0) := rfl
  clear hit hf hH hK hsz
  go_enter Tryd.func6, Tryd.ntmps6
  go_upto_region 4 with (go_at_call 11; refine GP.out.mono ?_; rintro e w0 ⟨rfl, rfl⟩)
  clear hl hli GP
  go_wp2
  go_loopw [3, 4] (fun s3 s4 wr => ∃ i : Nat, i ≤ 16 ∧ s4 = .int .i64 i ∧ s3 = .int .i64 (Bu.upto l i : Nat) ∧ Below w.heap.size w wr) (fun _ s4 _ => 16 - (intOf s4).toNat)
  case atStart => exact ⟨0, by omega, rfl, rfl, Below.refl _ _⟩
  case round =>
    obtain ⟨i, hi, rfl, rfl, hb⟩ := hrel
    have HB := Lib.hid hb
    clear hb
    by_cases hlt : i < 16
    · have hii : (i : Int) < 16 := by omega
      have hsuc : IntKind.i64.wrap ((i : Int) + 1) = ((i + 1 : Nat) : Int) := by simp [IntKind.wrap, IntKind.bits, IntKind.signed]; omega
      have hu1 := Bu.upto_le l (i + 1)
      have HUP : Hid (Bu.upto l (i + 1) = Bu.upto l i + (Bu.part l i).length) := rfl
      have hsum : IntKind.i64.wrap ((Bu.upto l i : Int) + ((Bu.part l i).length : Int)) = ((Bu.upto l i + (Bu.part l i).length : Nat) : Int) := by
        have h1 := HUP.out
        have h2 := HL48.out
        simp [IntKind.wrap, IntKind.bits, IntKind.signed]
        omega
      have hpl : (Bu.part l i).length ≤ 48 := Nat.le_trans (Bu.part_length l i) HL48.out
      have hpm : ∀ x ∈ Bu.part l i, x.p.size ≤ 1000 := fun x hx => (HF.out.mem x (List.mem_filter.1 hx).1).1
      have PT1 := Lib.hid (PT.out wr HB.out i)
      have MY1 : Hid (∀ wx : World, Below w.heap.size w wx → Calls Tryd.prog 15 #[.slice A l.length c] wx fun e w' => e = .returned (.bool (Bu.may l)) ∧ Below wx.heap.size wx w') := fun wx hb => MY.out wx A c l (HIT.out.below hb) HF.out.1 (fun x hx => (HF.out.mem x hx).1)
      have PG1 : Hid (∀ (wx : World) (C : Option Addr) (d : Nat), Below w.heap.size w wx → Om.listAt wx C (Bu.part l i) → Calls Tryd.prog 20 #[.int .i64 (i : Int), .slice C (Bu.part l i).length d] wx fun e w' => e = .returned (.tuple #[.string (Bu.page i (Bu.part l i)).1, .int .i64 ((Bu.page i (Bu.part l i)).2 : Nat)]) ∧ Below wx.heap.size wx w') := fun wx C d hb hc => PG.out wx C d _ i hb hc (by omega) hpm
      have HNTH : Hid (∀ j (hj : j < l.length), Bu.isOf i l[j] = true → ∃ hk : (Bu.part (l.take j) i).length < (Bu.part l i).length, (Bu.part l i)[(Bu.part (l.take j) i).length] = l[j] ∧ (Bu.part (l.take (j + 1)) i).length = (Bu.part (l.take j) i).length + 1) := fun j hj h => by
        have h1 := Bu.part_nth hj h
        exact ⟨Bu.part_count hj h, (List.getElem?_eq_some_iff.1 h1).2, Bu.part_more hj h⟩
      have HSTAY : Hid (∀ j (hj : j < l.length), Bu.isOf i l[j] = false → Bu.part (l.take (j + 1)) i = Bu.part (l.take j) i) := fun j hj h => Bu.part_stay hj h
      have HPE : Hid (Bu.may l = true → Bu.pageE i (Bu.part l i) = 0) := fun h => Bu.page_part h HL48.out ⟨by omega, by omega⟩
      obtain ⟨P, hP⟩ : ∃ P, P = Bu.part l i := ⟨_, rfl⟩
      rw [← hP] at PT1 HNTH HPE PG1 hpl hpm hsum HUP
      obtain ⟨U, hU⟩ : ∃ U, U = Bu.upto l i := ⟨_, rfl⟩
      rw [← hU] at hsum HUP
      have hUl : U ≤ 48 := by rw [hU]; exact Nat.le_trans (Bu.upto_le l i) HL48.out
      rw [← hU]
      have HPL := Lib.hid hpl
      clear hP hU hu1 hpm
      go_upto_region 10 with (go_at_call 18; refine PT1.out.mono ?_; rintro e w1 ⟨C1, d1, rfl, q1, k1⟩; have B1 : Hid (Below w.heap.size w w1) := HB.out.trans (k1.mono HB.out.size); have Q1 := Lib.hid q1.listAt; clear k1 q1)
      clear PT1 hsum
      go_wp2
      go_loopw [6, 7] (fun s6 s7 wx => ∃ j : Nat, j ≤ l.length ∧ s7 = .int .i64 j ∧ s6 = .int .i64 ((Bu.part (l.take j) i).length : Nat) ∧ Om.listAt wx C1 P ∧ Below w.heap.size w wx) (fun _ s7 _ => l.length - (intOf s7).toNat)
      case atStart => exact ⟨0, Nat.zero_le _, rfl, rfl, Q1.out, B1.out⟩
      case round =>
        clear Q1 B1
        rename World => wx
        obtain ⟨j, hj, rfl, rfl, hq, hb⟩ := hrel
        have HQ := Lib.hid hq
        have HX := Lib.hid hb
        clear hq hb
        by_cases hjl : j < l.length
        · have hji : (j : Int) < (l.length : Int) := by omega
          have hsj : IntKind.i64.wrap ((j : Int) + 1) = ((j + 1 : Nat) : Int) := by have := HL48.out; simp [IntKind.wrap, IntKind.bits, IntKind.signed]; omega
          obtain ⟨b2, o2, rfl, hbl2, x0, x1⟩ := HIT.out.get HX.out j hjl
          have hbx2 : Hid (b2 < wx.heap.size) := Nat.lt_of_lt_of_le hbl2 HX.out.size
          have N1 := Lib.hid (HNTH.out j hjl)
          have N2 := Lib.hid (HSTAY.out j hjl)
          have OX := Lib.hid (OF.out wx l[j].p HX.out (by have := (HF.out.mem _ (List.getElem_mem hjl)).1; omega))
          have ISO := Bu.isOf_eq i l[j]
          obtain ⟨x, hx⟩ : ∃ x, x = l[j] := ⟨_, rfl⟩
          rw [← hx] at x0 x1 OX ISO N1 N2
          obtain ⟨eb, heb⟩ : ∃ eb, eb = Om.eqb x x := ⟨_, rfl⟩
          have HEB := Lib.hid heb
          clear heb
          obtain ⟨k, hk⟩ : ∃ k, k = (Bu.part (l.take j) i).length := ⟨_, rfl⟩
          have HLT := Lib.hid hjl
          have HPL2 : Hid (k ≤ 48) := by
            show _ ≤ _
            have h1 := Bu.part_le l j i
            have h2 := HL48.out
            omega
          clear hx
          cases hs : Bu.isOf i x
          · rw [hs] at ISO
            have NS := Lib.hid (N2.out hs)
            rw [← hk]
            have HKK := Lib.hid hk
            clear hs hk N1 N2
            go_wp2_with (go_at_call 13; refine OX.out.mono ?_; rintro e w3 ⟨rfl, k3⟩)
            go_roundw
            case rel => exact ⟨j + 1, HLT.out, rfl, by rw [NS.out, ← HKK.out], HQ.out.below k3, HX.out.trans (k3.mono HX.out.size)⟩
            case measure => simp only [intOf]; have := HLT.out; omega
          · rw [hs] at ISO
            obtain ⟨hkP, hnth, hmore⟩ := N1.out hs
            have hkk := hk
            rw [← hk] at hmore ⊢
            have hkPk : k < P.length := by rw [hk]; exact hkP
            have hnk : ∀ h : k < P.length, P[k] = x := by rw [hk]; intro _; exact hnth
            obtain ⟨b1, o1, hC1, hbl1, y0, y1⟩ := HQ.out.get (Below.refl _ _) k hkPk
            subst hC1
            rw [hnk hkPk] at y0 y1
            have hsk : IntKind.i64.wrap ((k : Int) + 1) = ((k + 1 : Nat) : Int) := by have := HPL2.out; simp [IntKind.wrap, IntKind.bits, IntKind.signed]; omega
            have HGE : Hid (¬ (P.length : Int) ≤ (k : Int)) := by show ¬ _; omega
            have hkPi : (k : Int) < (P.length : Int) := by omega
            have HMO := Lib.hid hmore
            have HKP := Lib.hid hkPk
            clear hs hk N1 N2 hkP hnth hmore hnk hkk hkPk
            go_upto_region 14 with (go_at_call 13; refine OX.out.mono ?_; rintro e w3 ⟨rfl, k3⟩)
            have z0 : w3.drew.cell? ⟨b1, o1 + k * 2, none⟩ = some (.string x.p) := (k3.cell (p := ⟨b1, o1 + k * 2, none⟩) hbl1).trans y0
            have z1 : w3.drew.cell? ⟨b1, o1 + k * 2 + 1, none⟩ = some (.string x.v) := (k3.cell (p := ⟨b1, o1 + k * 2 + 1, none⟩) hbl1).trans y1
            have z2 : w3.drew.cell? ⟨b2, o2 + j * 2, none⟩ = some (.string x.p) := (k3.cell (p := ⟨b2, o2 + j * 2, none⟩) hbx2.out).trans x0
            have z3 : w3.drew.cell? ⟨b2, o2 + j * 2 + 1, none⟩ = some (.string x.v) := (k3.cell (p := ⟨b2, o2 + j * 2 + 1, none⟩) hbx2.out).trans x1
            have B3 : Hid (Below w.heap.size w w3.drew) := (HX.out.trans (k3.mono HX.out.size)).drew
            have Q3 : Hid (Om.listAt w3.drew (some ⟨b1, o1, none⟩) P) := HQ.out.below k3.drew
            clear x0 x1 y0 y1 k3
            refine wp_region_held_drew (S := fun w' => (w'.cell? ⟨b1, o1 + k * 2, none⟩ = some (.string x.p) ∧ w'.cell? ⟨b1, o1 + k * 2 + 1, none⟩ = some (.string x.v)) ∧ (w'.cell? ⟨b2, o2 + j * 2, none⟩ = some (.string x.p) ∧ w'.cell? ⟨b2, o2 + j * 2 + 1, none⟩ = some (.string x.v))) (by kernel_rfl) ⟨⟨z0, z1⟩, ⟨z2, z3⟩⟩ (fun hHeld => ?_)
            refine wpAnyH_take (i := 0) (oi := ⟨some 45, _, _, _, _, _⟩) (v := .int .i64 (k : Int)) rfl (by kernel_rfl) (by kernel_rfl) (by kernel_rfl) (fun _ _ _ h => h) (Or.inl ⟨by rfl, ?_⟩) (by assumption) ?_
            · intro w hSw; (try dsimp only at hSw); go_simp
            simp only [Act.put, List.setIfInBounds_toArray, List.set_cons_zero, List.set_cons_succ]
            refine wpAnyH_take (i := 1) (oi := ⟨some 46, _, _, _, _, _⟩) (v := .slice (some ⟨b1, o1, none⟩) P.length d1) rfl (by kernel_rfl) (by kernel_rfl) (by kernel_rfl) (fun _ _ _ h => h) (Or.inl ⟨by rfl, ?_⟩) (by assumption) ?_
            · intro w hSw; (try dsimp only at hSw); go_simp
            simp only [Act.put, List.setIfInBounds_toArray, List.set_cons_zero, List.set_cons_succ]
            refine wpAnyH_take (i := 2) (oi := ⟨some 47, _, _, _, _, _⟩) (v := .int .i64 (P.length : Int)) rfl (by kernel_rfl) (by kernel_rfl) (by kernel_rfl) (fun _ _ _ h => h) (Or.inl ⟨by rfl, ?_⟩) (by assumption) ?_
            · intro w hSw; (try dsimp only at hSw); go_simp
            simp only [Act.put, List.setIfInBounds_toArray, List.set_cons_zero, List.set_cons_succ]
            refine wpAnyH_take (i := 3) (oi := ⟨some 48, _, _, _, _, _⟩) (v := .bool false) rfl (by kernel_rfl) (by kernel_rfl) (by kernel_rfl) (fun _ _ _ h => h) (Or.inl ⟨by rfl, ?_⟩) (by assumption) ?_
            · intro w hSw; (try dsimp only at hSw); have q := HGE.out; have q2 := HKP.out; go_simp
            simp only [Act.put, List.setIfInBounds_toArray, List.set_cons_zero, List.set_cons_succ]
            refine wpAnyH_take (i := 4) (oi := ⟨some 49, _, _, _, _, _⟩) (v := .bool false) rfl (by kernel_rfl) (by kernel_rfl) (by kernel_rfl) (fun _ _ _ h => h) (Or.inl ⟨by rfl, ?_⟩) (by assumption) ?_
            · intro w hSw; (try dsimp only at hSw); go_simp
            simp only [Act.put, List.setIfInBounds_toArray, List.set_cons_zero, List.set_cons_succ]
            refine wpAnyH_take (i := 5) (oi := ⟨some 50, _, _, _, _, _⟩) (v := .slice (some ⟨b1, o1, none⟩) P.length d1) rfl (by kernel_rfl) (by kernel_rfl) (by kernel_rfl) (fun _ _ _ h => h) (Or.inl ⟨by rfl, ?_⟩) (by assumption) ?_
            · intro w hSw; (try dsimp only at hSw); go_simp
            simp only [Act.put, List.setIfInBounds_toArray, List.set_cons_zero, List.set_cons_succ]
            refine wpAnyH_take (i := 6) (oi := ⟨some 51, _, _, _, _, _⟩) (v := .int .i64 (k : Int)) rfl (by kernel_rfl) (by kernel_rfl) (by kernel_rfl) (fun _ _ _ h => h) (Or.inl ⟨by rfl, ?_⟩) (by assumption) ?_
            · intro w hSw; (try dsimp only at hSw); go_simp
            simp only [Act.put, List.setIfInBounds_toArray, List.set_cons_zero, List.set_cons_succ]
            refine wpAnyH_take (i := 7) (oi := ⟨some 52, _, _, _, _, _⟩) (v := .pointer (some ⟨b1, o1 + k * 2, none⟩)) rfl (by kernel_rfl) (by kernel_rfl) (by kernel_rfl) (fun _ _ _ h => h) (Or.inl ⟨by rfl, ?_⟩) (by assumption) ?_
            · intro w hSw; (try dsimp only at hSw); go_simp
            simp only [Act.put, List.setIfInBounds_toArray, List.set_cons_zero, List.set_cons_succ]
            refine wpAnyH_take (i := 8) (oi := ⟨some 53, _, _, _, _, _⟩) (v := .agg #[.string x.p, .string x.v]) rfl (by kernel_rfl) (by kernel_rfl) (by kernel_rfl) (fun _ _ _ h => h) (Or.inl ⟨by rfl, ?_⟩) (by assumption) ?_
            · intro w hSw; (try dsimp only at hSw); go_simp
            simp only [Act.put, List.setIfInBounds_toArray, List.set_cons_zero, List.set_cons_succ]
            refine wpAnyH_take (i := 9) (oi := ⟨some 54, _, _, _, _, _⟩) (v := .slice (some ⟨b2, o2, none⟩) l.length c) rfl (by kernel_rfl) (by kernel_rfl) (by kernel_rfl) (fun _ _ _ h => h) (Or.inl ⟨by rfl, ?_⟩) (by assumption) ?_
            · intro w hSw; (try dsimp only at hSw); go_simp
            simp only [Act.put, List.setIfInBounds_toArray, List.set_cons_zero, List.set_cons_succ]
            refine wpAnyH_take (i := 10) (oi := ⟨some 55, _, _, _, _, _⟩) (v := .int .i64 (j : Int)) rfl (by kernel_rfl) (by kernel_rfl) (by kernel_rfl) (fun _ _ _ h => h) (Or.inl ⟨by rfl, ?_⟩) (by assumption) ?_
            · intro w hSw; (try dsimp only at hSw); go_simp
            simp only [Act.put, List.setIfInBounds_toArray, List.set_cons_zero, List.set_cons_succ]
            refine wpAnyH_take (i := 11) (oi := ⟨some 56, _, _, _, _, _⟩) (v := .pointer (some ⟨b2, o2 + j * 2, none⟩)) rfl (by kernel_rfl) (by kernel_rfl) (by kernel_rfl) (fun _ _ _ h => h) (Or.inl ⟨by rfl, ?_⟩) (by assumption) ?_
            · intro w hSw; (try dsimp only at hSw); go_simp
            simp only [Act.put, List.setIfInBounds_toArray, List.set_cons_zero, List.set_cons_succ]
            refine wpAnyH_take (i := 12) (oi := ⟨some 57, _, _, _, _, _⟩) (v := .agg #[.string x.p, .string x.v]) rfl (by kernel_rfl) (by kernel_rfl) (by kernel_rfl) (fun _ _ _ h => h) (Or.inl ⟨by rfl, ?_⟩) (by assumption) ?_
            · intro w hSw; (try dsimp only at hSw); go_simp
            simp only [Act.put, List.setIfInBounds_toArray, List.set_cons_zero, List.set_cons_succ]
            refine wpAnyH_take (i := 13) (oi := ⟨some 58, _, _, _, _, _⟩) (v := .bool (!eb)) rfl (by kernel_rfl) (by kernel_rfl) (by kernel_rfl) (fun _ _ _ h => h) (by rw [HEB.out]; exact Om.yields_neq (by rfl) _ _ _ rfl x x rfl rfl) (by assumption) ?_
            simp only [Act.put, List.setIfInBounds_toArray, List.set_cons_zero, List.set_cons_succ]
            have heb1 : eb = true := by rw [HEB.out]; exact Om.eqb_iff.2 rfl
            rw [heb1]
            clear heb1
            refine wpAnyH_take (i := 14) (oi := ⟨some 59, _, _, _, _, _⟩) (v := .bool false) rfl (by kernel_rfl) (by kernel_rfl) (by kernel_rfl) (fun _ _ _ h => h) (Or.inl ⟨by rfl, ?_⟩) (by assumption) ?_
            · intro w hSw; (try dsimp only at hSw); go_simp
            simp only [Act.put, List.setIfInBounds_toArray, List.set_cons_zero, List.set_cons_succ]
            refine wpAnyH_done (by kernel_rfl) ?_ _
            go_wp2_with fail
            go_roundw
            case rel => exact ⟨j + 1, HLT.out, rfl, by rw [HMO.out]; simp, Q3.out, B3.out⟩
            case measure => simp only [intOf]; have := HLT.out; omega
        · have hji : ¬ (j : Int) < (l.length : Int) := by omega
          have MY2 := Lib.hid (MY1.out wx HX.out)
          cases hm : Bu.may l
          · rw [hm] at MY2
            clear hm
            go_wp2_with (go_at_call 15; refine MY2.out.mono ?_; rintro e w4 ⟨rfl, k4⟩)
            go_roundw
            case rel => exact ⟨i + 1, hlt, rfl, by rw [HUP.out]; simp, HX.out.trans (k4.mono HX.out.size)⟩
            case measure => simp only [intOf]; omega
          · rw [hm] at MY2
            have hpe := HPE.out hm
            have PG2 : Hid (∀ (wx : World) (C : Option Addr) (d : Nat), Below w.heap.size w wx → Om.listAt wx C P → Calls Tryd.prog 20 #[.int .i64 (i : Int), .slice C P.length d] wx fun e w' => e = .returned (.tuple #[.string ⟨(Bu.bytes P).toArray⟩, .int .i64 0]) ∧ Below wx.heap.size wx w') := fun wx C d hb hc => by
              have := PG1.out wx C d hb hc
              rw [Bu.page_good hpe] at this
              exact this
            have RD2 : Hid (∀ (wx : World), Below w.heap.size w wx → Calls Tryd.prog 22 #[.int .i64 (i : Int), .string ⟨(Bu.bytes P).toArray⟩] wx fun e w' => ∃ A c, e = .returned (.tuple #[.slice A P.length c, .int .i64 0]) ∧ Om.Row w' wx.heap.size A c P ∧ Below wx.heap.size wx w') := fun wx hb => by
              have := RD.out wx i ⟨(Bu.bytes P).toArray⟩ hb (by have := Bu.fair_page hpe; omega)
              rw [Bu.read_page hpe] at this
              exact this
            obtain ⟨TX, hTX⟩ : ∃ t : ByteArray, t = ⟨(Bu.bytes P).toArray⟩ := ⟨_, rfl⟩
            rw [← hTX] at PG2 RD2
            clear hm hpe hTX
            go_wp2_with first
              | (go_at_call 15; refine MY2.out.mono ?_; rintro e w4 ⟨rfl, k4⟩; have B4 : Hid (Below w.heap.size w w4) := HX.out.trans (k4.mono HX.out.size); have Q4 := Lib.hid (HQ.out.below k4); clear k4)
              | (go_at_call 20; refine (PG2.out _ _ _ B4.out Q4.out).mono ?_; rintro e w5 ⟨rfl, k5⟩; have B5 : Hid (Below w.heap.size w w5) := B4.out.trans (k5.mono B4.out.size); have Q5 := Lib.hid (Q4.out.below k5); clear k5)
              | (go_at_call 22; refine (RD2.out _ B5.out).mono ?_; rintro e w6 ⟨C6, d6, rfl, q6, k6⟩; have B6 : Hid (Below w.heap.size w w6) := B5.out.trans (k6.mono B5.out.size); have Q6 := Lib.hid (Q5.out.below k6); have R6 := Lib.hid q6.listAt; clear k6 q6)
              | (go_at_call 17; refine (r13Same_any d6 d1 R6.out Q6.out (by have := HPL.out; omega) true (by simp)).mono ?_; rintro e w7 ⟨rfl, k7⟩; have B7 : Hid (Below w.heap.size w w7) := B6.out.trans (k7.mono B6.out.size); clear k7)
            go_roundw
            case rel => exact ⟨i + 1, hlt, rfl, by rw [HUP.out]; simp, B7.out⟩
            case measure => simp only [intOf]; omega
    · have hii : ¬ (i : Int) < 16 := by omega
      have hi16 : i = 16 := by omega
      rw [hi16, HALL.out]
      have AW2 := Lib.hid (AW.out _ HB.out)
      go_wp2_with (go_at_call 12; refine AW2.out.mono ?_; rintro e w4 ⟨rfl, k4⟩)
      go_ret
      exact ⟨rfl, HB.out.trans (k4.mono HB.out.size)⟩
end Go.Proofs.YthhmnbpabncdnaaDoor
