/-
  The document's log: a record's sectors.
-/
import Derived.Test.YtnmagfodjcookaaGreatR10Gen
import Derived.Test.YtnmagfodjcookaaGreatLgMath
import Derived.Test.YtnmagfodjcookaaGreatPtOne
import Derived.Test.YtnmagfodjcookaaGreatDkRefOf
import Derived.Deep.CutRange
namespace Go.Proofs.YtnmagfodjcookaaGreat
open Go.RowKit
namespace Lg
/-- A record's sectors. -/
def closeds (hs : List Nat) (t : List UInt8) : List (List UInt8) := (Pt.bodies hs 32 t).map Dk.closed
theorem closeds_length (hs : List Nat) (t : List UInt8) : (closeds hs t).length = Pt.parts 32 t := by rw [closeds, List.length_map, Pt.bodies_length]
theorem closeds_take {hs : List Nat} {t : List UInt8} {k : Nat} (h : k < Pt.parts 32 t) : (closeds hs t).take (k + 1) = (closeds hs t).take k ++ [Dk.closed (Pt.body hs 32 t k)] := by
  rw [closeds, ← List.map_take, Pt.bodies_take h, List.map_append, List.map_take]; rfl
/-- What is written of a part's body so far. -/
def headOf (hs : List Nat) (t : List UInt8) (i : Nat) : List UInt8 := Pt.head hs ++ [UInt8.ofNat i, UInt8.ofNat (Pt.parts 32 t), UInt8.ofNat (Pt.part 32 t i).length, 0] ++ Pt.part 32 t i
theorem headOf_length {hs : List Nat} (h3 : hs.length = 3) (t : List UInt8) (i : Nat) : (headOf hs t i).length = 28 + (Pt.part 32 t i).length := by simp [headOf, Pt.head_length, h3]; omega
theorem headOf_body (hs : List Nat) (t : List UInt8) (i : Nat) : headOf hs t i ++ List.replicate (32 - (Pt.part 32 t i).length) 0 = Pt.body hs 32 t i := by simp [headOf, Pt.body, Pt.tail]
def txtLen : Value → Nat
  | .string b => b.size
  | _ => 0
theorem part_ext (t : ByteArray) (i e : Nat) (hto : e = min (32 * i + 32) t.size) : (t.extract (32 * i) e).data.toList = Pt.part 32 t.data.toList i := by
  have htl : t.data.toList.length = t.size := by simp
  rw [Pt.part, ByteArray.data_extract, Array.toList_extract, List.extract_eq_take_drop, hto]
  by_cases hc : 32 * i + 32 ≤ t.size
  · rw [Nat.min_eq_left hc, show 32 * i + 32 - 32 * i = 32 by omega]
  · rw [Nat.min_eq_right (by omega), List.take_of_length_le (by rw [List.length_drop]; omega), List.take_of_length_le (by rw [List.length_drop]; omega)]
end Lg
set_option maxRecDepth 100000 in
set_option maxHeartbeats 8000000 in
theorem r10Sectors_any (w : World) (t : ByteArray) (ep sa ah : Nat) (ht : t.size ≤ 2000) :
    Calls Tryz.prog 34 #[.string t, .int .u64 ep, .int .u64 sa, .int .u64 ah] w fun e w' => ∃ A c, e = .returned (.slice A (Pt.parts 32 t.data.toList) c) ∧ Pt.parts 32 t.data.toList ≤ c ∧ Kp.StrsAt w' A (Lg.closeds (Lg.nums ep sa ah) t.data.toList) ∧ (∀ q o, A = some ⟨q, o, none⟩ → w.heap.size ≤ q) ∧ Below w.heap.size w w' := by
  obtain ⟨i0, hie, hz0, hz1, hz2⟩ := info_parts Dk.info3_str
  have htl : t.data.toList.length = t.size := by simp
  have hP1 := Pt.parts_pos 32 t.data.toList
  have hPl : Pt.parts 32 t.data.toList ≤ t.size / 32 + 1 := by unfold Pt.parts; rw [htl]; omega
  have PA := Lib.hid (r10Parts_any w t (by omega))
  obtain ⟨hs, hhs⟩ : ∃ hs, hs = Lg.nums ep sa ah := ⟨_, rfl⟩
  have hs3 : hs.length = 3 := by rw [hhs]; rfl
  have AT : Hid (∀ i, i < Pt.parts 32 t.data.toList → 32 * i ≤ t.size) := fun i hi => by have := Pt.at_parts (n := 32) (by decide) hi; omega
  obtain ⟨P, hP⟩ : ∃ P, P = Pt.parts 32 t.data.toList := ⟨_, rfl⟩
  obtain ⟨L, hL⟩ : ∃ L, L = Lg.closeds hs t.data.toList := ⟨_, rfl⟩
  have LL : Hid (L.length = P) := by show _ = _; rw [hL, hP]; exact Lg.closeds_length _ _
  have LK : Hid (∀ k, k < P → L.take (k + 1) = L.take k ++ [Dk.closed (Pt.body hs 32 t.data.toList k)]) := fun k hk => by rw [hL]; exact Lg.closeds_take (by rw [← hP]; exact hk)
  rw [← hP] at hP1 hPl PA AT ⊢
  rw [← hhs, ← hL]
  have HP := Lib.hid hP
  have HHS := Lib.hid hhs
  have HS3 := Lib.hid hs3
  clear hP hL hhs hs3
  go_enter Tryz.func34, Tryz.ntmps34
  go_upto_region 4 with (go_at_call 54; refine PA.out.mono ?_; rintro e w1 ⟨rfl, rfl⟩)
  go_loopw [10, 11] (fun s6 s7 wr => ∃ i : Nat, s7 = .int .i64 i ∧ i ≤ P ∧ wr.ownsRow w.heap.size 9 1 s6 (L.take i).length ((L.take i).map Dk.txt) ∧ Below w.heap.size w wr) (fun _ s7 _ => P - (intOf s7).toNat)
  case atStart => exact ⟨0, rfl, Nat.zero_le _, World.ownsRow_nil _ _ _ _, Below.refl _ _⟩
  case round =>
    obtain ⟨i, rfl, hi, hown, hbl⟩ := hrel
    obtain ⟨Av, cv, hv⟩ := Sm.own_shape hown
    subst hv
    have HO := Lib.hid hown
    have HBL := Lib.hid hbl
    clear hown hbl
    by_cases hlt : i < P
    · have hki : (i : Int) < (P : Int) := by omega
      have hsuc : IntKind.i64.wrap ((i : Int) + 1) = ((i + 1 : Nat) : Int) := by rw [IntWalk.i64_in _ (by omega)]; omega
      have hln : (L.take i).length = i := by rw [List.length_take, LL.out]; omega
      rw [hln] at HO ⊢
      obtain ⟨m, hm⟩ : ∃ m, m = 32 * i := ⟨_, rfl⟩
      have v1 : IntKind.i64.wrap (32 * (i : Int)) = (m : Int) := by rw [IntWalk.i64_in _ (by omega), hm]; push_cast; rfl
      have v2 : IntKind.i64.wrap ((m : Int) + 32) = (m : Int) + 32 := IntWalk.i64_in _ (by omega)
      have HMI : Hid ((m : Int) = 32 * (i : Int)) := by show _ = _; omega
      obtain ⟨e, he⟩ : ∃ e, e = min (m + 32) t.size := ⟨_, rfl⟩
      have hle : m ≤ t.size := by rw [hm]; exact AT.out i hlt
      obtain ⟨p, hp⟩ : ∃ p : ByteArray, p = t.extract m e := ⟨_, rfl⟩
      have hpl : p.data.toList = Pt.part 32 t.data.toList i := by rw [hp, hm]; exact Lg.part_ext t i e (by rw [he, hm])
      go_upto_if 28 with (fail)
      go_cut [12] from 29 to 67 (fun s8 wx => s8 = .int .i64 (e : Int) ∧ wr = wx)
      case first =>
        by_cases hc : m + 32 ≤ t.size
        · have hci : ¬ (t.size : Int) < (m : Int) + 32 := by omega
          have hei : (e : Int) = (m : Int) + 32 := by omega
          have HEI := Lib.hid hei
          clear hei hp hpl he
          go_wp2
          go_meet
          exact ⟨by rw [HEI.out, HMI.out], rfl⟩
        · have hci : (t.size : Int) < (m : Int) + 32 := by omega
          have hei : (e : Int) = (t.size : Int) := by omega
          have HEI := Lib.hid hei
          clear hei hp hpl he
          go_wp2
          go_meet
          exact ⟨by rw [HEI.out], rfl⟩
      case rest =>
        obtain ⟨rfl, rfl⟩ := hcut
        have q1 : (0 : Int) ≤ (m : Int) := by omega
        have q2 : (m : Int) ≤ (e : Int) := by omega
        have q3 : (e : Int) ≤ (t.size : Int) := by omega
        have q4 : ¬ (e : Int) < (m : Int) := by omega
        have q5 : ¬ (t.size : Int) < (e : Int) := by omega
        have q6 : ¬ (m : Int) < 0 := by omega
        have hps : p.size = (Pt.part 32 t.data.toList i).length := by rw [← hpl]; simp
        have hp48 := Pt.part_le 32 t.data.toList i
        obtain ⟨Ln, hLn⟩ : ∃ n, n = p.size := ⟨_, rfl⟩
        have hLn48 : Ln ≤ 32 := by omega
        have w1 : IntKind.u8.wrap (i : Int) = ((UInt8.ofNat i).toNat : Int) := by rw [IntKind.wrap_u8, UInt8.toNat_ofNat']; omega
        have w2 : IntKind.u8.wrap (P : Int) = ((UInt8.ofNat P).toNat : Int) := by rw [IntKind.wrap_u8, UInt8.toNat_ofNat']; omega
        have w3 : IntKind.u8.wrap (Ln : Int) = ((UInt8.ofNat Ln).toNat : Int) := by rw [IntKind.wrap_u8, UInt8.toNat_ofNat']; omega
        obtain ⟨y1, hy1⟩ : ∃ x, x = UInt8.ofNat i := ⟨_, rfl⟩
        obtain ⟨y2, hy2⟩ : ∃ x, x = UInt8.ofNat P := ⟨_, rfl⟩
        obtain ⟨y3, hy3⟩ : ∃ x, x = UInt8.ofNat Ln := ⟨_, rfl⟩
        rw [← hy1] at w1
        rw [← hy2] at w2
        rw [← hy3] at w3
        obtain ⟨z1, hz1'⟩ : ∃ b : ByteArray, b = ⟨(Kp.eight ep).toArray⟩ := ⟨_, rfl⟩
        obtain ⟨z2, hz2'⟩ : ∃ b : ByteArray, b = ⟨(Kp.eight sa).toArray⟩ := ⟨_, rfl⟩
        obtain ⟨z3, hz3'⟩ : ∃ b : ByteArray, b = ⟨(Kp.eight ah).toArray⟩ := ⟨_, rfl⟩
        have E1 : Hid (∀ wx : World, Calls Tryz.prog 68 #[.int .u64 (ep : Int)] wx fun e w' => e = .returned (.string z1) ∧ Below wx.heap.size wx w') := fun wx => by rw [hz1']; exact r10eight_any wx ep
        have E2 : Hid (∀ wx : World, Calls Tryz.prog 68 #[.int .u64 (sa : Int)] wx fun e w' => e = .returned (.string z2) ∧ Below wx.heap.size wx w') := fun wx => by rw [hz2']; exact r10eight_any wx sa
        have E3 : Hid (∀ wx : World, Calls Tryz.prog 68 #[.int .u64 (ah : Int)] wx fun e w' => e = .returned (.string z3) ∧ Below wx.heap.size wx w') := fun wx => by rw [hz3']; exact r10eight_any wx ah
        have s1 : z1.size = 8 := by rw [hz1']; simp [ByteArray.size, Kp.eight_length]
        have s2 : z2.size = 8 := by rw [hz2']; simp [ByteArray.size, Kp.eight_length]
        have s3 : z3.size = 8 := by rw [hz3']; simp [ByteArray.size, Kp.eight_length]
        have g1 : (z1 ++ z2).size = 16 := by rw [ByteArray.size_append]; omega
        have g2 : (z1 ++ z2 ++ z3).size = 24 := by rw [ByteArray.size_append]; omega
        have g3 : (z1 ++ z2 ++ z3 ++ (⟨#[y1, y2, y3, 0]⟩ : ByteArray)).size = 28 := by rw [ByteArray.size_append, g2]; rfl
        have c1 : z1.size + z2.size ≤ 9223372036854775807 := by omega
        have c2 : (z1 ++ z2).size + z3.size ≤ 9223372036854775807 := by omega
        have c3 : (z1 ++ z2 ++ z3).size + (ByteArray.mk #[y1, y2, y3, 0]).size ≤ 9223372036854775807 := by rw [g2]; show 24 + 4 ≤ _; omega
        have c4 : (z1 ++ z2 ++ z3 ++ (⟨#[y1, y2, y3, 0]⟩ : ByteArray)).size + p.size ≤ 9223372036854775807 := by omega
        have c5 : 28 + Ln ≤ 9223372036854775807 := by omega
        obtain ⟨d0, hd0⟩ : ∃ d, d = z1 ++ z2 ++ z3 ++ (⟨#[y1, y2, y3, 0]⟩ : ByteArray) ++ p := ⟨_, rfl⟩
        have hhd : d0.data.toList = Lg.headOf hs t.data.toList i := by
          rw [hd0, ByteArray.data_append, Array.toList_append, ByteArray.data_append, Array.toList_append, ByteArray.data_append, Array.toList_append, ByteArray.data_append, Array.toList_append, hpl, hz1', hz2', hz3', hy1, hy2, hy3, hLn, hps, HP.out, Lg.headOf, HHS.out]
          simp [Pt.head, Lg.nums]
        have HHD := Lib.hid hhd
        have HD0 : Hid (z1 ++ z2 ++ z3 ++ (⟨#[y1, y2, y3, 0]⟩ : ByteArray) ++ p = d0) := hd0.symm
        have HLN : Hid (Ln = (Pt.part 32 t.data.toList i).length) := by show _ = _; rw [hLn, hps]
        have HPE := Lib.hid hp
        have hLs := hLn.symm
        have BD : Hid (Below wr.heap.size wr wr.drew) := (Below.refl _ wr).drew
        clear hhd hd0 hz1' hz2' hz3' hy1 hy2 hy3 hps hp48 hp hpl he hLn hm
        go_upto_region 10 with (fail)
        rw [← HPE.out]
        go_cut [14] from 36 to 67 (fun s14 wx => s14 = .string d0 ∧ Below wr.heap.size wr wx)
        case first =>
          refine wp_region_held_drew (S := (fun _ => True)) (by kernel_rfl) trivial (fun hHeld => ?_)
          generalize wr.drew = wd at *
          refine wpAnyH_take (i := 0) (oi := ⟨some 36, _, _, _, _, _⟩) (v := .int .u64 (ep : Int)) rfl (by kernel_rfl) (by kernel_rfl) (by kernel_rfl) (fun _ _ _ h => h) (Or.inl ⟨by rfl, ?_⟩) (by assumption) ?_
          · intro w hSw; (try dsimp only at hSw); go_simp
          simp only [Act.put, List.setIfInBounds_toArray, List.set_cons_zero, List.set_cons_succ]
          refine wpAnyH_take (i := 2) (oi := ⟨some 38, _, _, _, _, _⟩) (v := .int .u64 (sa : Int)) rfl (by kernel_rfl) (by kernel_rfl) (by kernel_rfl) (fun _ _ _ h => h) (Or.inl ⟨by rfl, ?_⟩) (by assumption) ?_
          · intro w hSw; (try dsimp only at hSw); go_simp
          simp only [Act.put, List.setIfInBounds_toArray, List.set_cons_zero, List.set_cons_succ]
          refine wpAnyH_take (i := 5) (oi := ⟨some 41, _, _, _, _, _⟩) (v := .int .u64 (ah : Int)) rfl (by kernel_rfl) (by kernel_rfl) (by kernel_rfl) (fun _ _ _ h => h) (Or.inl ⟨by rfl, ?_⟩) (by assumption) ?_
          · intro w hSw; (try dsimp only at hSw); go_simp
          simp only [Act.put, List.setIfInBounds_toArray, List.set_cons_zero, List.set_cons_succ]
          refine wpAnyH_take (i := 8) (oi := ⟨some 44, _, _, _, _, _⟩) (v := .int .i64 (i : Int)) rfl (by kernel_rfl) (by kernel_rfl) (by kernel_rfl) (fun _ _ _ h => h) (Or.inl ⟨by rfl, ?_⟩) (by assumption) ?_
          · intro w hSw; (try dsimp only at hSw); go_simp
          simp only [Act.put, List.setIfInBounds_toArray, List.set_cons_zero, List.set_cons_succ]
          refine wpAnyH_take (i := 9) (oi := ⟨some 45, _, _, _, _, _⟩) (v := .int .u8 (y1.toNat : Int)) rfl (by kernel_rfl) (by kernel_rfl) (by kernel_rfl) (fun _ _ _ h => h) (Or.inl ⟨by rfl, ?_⟩) (by assumption) ?_
          · intro w hSw; (try dsimp only at hSw); go_simp
          simp only [Act.put, List.setIfInBounds_toArray, List.set_cons_zero, List.set_cons_succ]
          refine wpAnyH_take (i := 10) (oi := ⟨some 46, _, _, _, _, _⟩) (v := .int .i64 (P : Int)) rfl (by kernel_rfl) (by kernel_rfl) (by kernel_rfl) (fun _ _ _ h => h) (Or.inl ⟨by rfl, ?_⟩) (by assumption) ?_
          · intro w hSw; (try dsimp only at hSw); go_simp
          simp only [Act.put, List.setIfInBounds_toArray, List.set_cons_zero, List.set_cons_succ]
          refine wpAnyH_take (i := 11) (oi := ⟨some 47, _, _, _, _, _⟩) (v := .int .u8 (y2.toNat : Int)) rfl (by kernel_rfl) (by kernel_rfl) (by kernel_rfl) (fun _ _ _ h => h) (Or.inl ⟨by rfl, ?_⟩) (by assumption) ?_
          · intro w hSw; (try dsimp only at hSw); go_simp
          simp only [Act.put, List.setIfInBounds_toArray, List.set_cons_zero, List.set_cons_succ]
          refine wpAnyH_take (i := 12) (oi := ⟨some 48, _, _, _, _, _⟩) (v := .string p) rfl (by kernel_rfl) (by kernel_rfl) (by kernel_rfl) (fun _ _ _ h => h) (Or.inl ⟨by rfl, ?_⟩) (by assumption) ?_
          · intro w hSw; (try dsimp only at hSw); go_simp
          simp only [Act.put, List.setIfInBounds_toArray, List.set_cons_zero, List.set_cons_succ]
          refine wpAnyH_take (i := 13) (oi := ⟨some 49, _, _, _, _, _⟩) (v := .int .i64 (Ln : Int)) rfl (by kernel_rfl) (by kernel_rfl) (by kernel_rfl) (fun _ _ _ h => h) (Or.inl ⟨by rfl, ?_⟩) (by assumption) ?_
          · intro w hSw; (try dsimp only at hSw); go_simp
          simp only [Act.put, List.setIfInBounds_toArray, List.set_cons_zero, List.set_cons_succ]
          refine wpAnyH_take (i := 14) (oi := ⟨some 50, _, _, _, _, _⟩) (v := .int .u8 (y3.toNat : Int)) rfl (by kernel_rfl) (by kernel_rfl) (by kernel_rfl) (fun _ _ _ h => h) (Or.inl ⟨by rfl, ?_⟩) (by assumption) ?_
          · intro w hSw; (try dsimp only at hSw); go_simp
          simp only [Act.put, List.setIfInBounds_toArray, List.set_cons_zero, List.set_cons_succ]
          refine wpAnyH_take (i := 18) (oi := ⟨some 54, _, _, _, _, _⟩) (v := .string p) rfl (by kernel_rfl) (by kernel_rfl) (by kernel_rfl) (fun _ _ _ h => h) (Or.inl ⟨by rfl, ?_⟩) (by assumption) ?_
          · intro w hSw; (try dsimp only at hSw); go_simp
          simp only [Act.put, List.setIfInBounds_toArray, List.set_cons_zero, List.set_cons_succ]
          refine wpAnyH_ready (rs := [1, 15]) (by kernel_rfl) (by simp) ?_
          refine (AllReadyH.cons (o := ⟨some 37, _, _, _, _, _⟩) rfl (fun K hK => ?_) (AllReadyH.cons (o := ⟨some 51, _, _, _, _, _⟩) rfl (fun K hK => ?_) AllReadyH.nil))
          · go_simp
            refine (E1.out _).mono ?_
            rintro e v1 ⟨rfl, k1⟩
            have b1 := BD.out.trans (k1.mono BD.out.size)
            refine hK.out _ _ trivial (fun hHeld => ?_)
            clear hK K
            refine wpAnyH_ready (rs := [3, 15]) (by kernel_rfl) (by simp) ?_
            refine (AllReadyH.cons (o := ⟨some 39, _, _, _, _, _⟩) rfl (fun K hK => ?_) (AllReadyH.cons (o := ⟨some 51, _, _, _, _, _⟩) rfl (fun K hK => ?_) AllReadyH.nil))
            · go_simp
              refine (E2.out _).mono ?_
              rintro e v2 ⟨rfl, k2⟩
              have b2 := b1.trans (k2.mono b1.size)
              refine hK.out _ _ trivial (fun hHeld => ?_)
              clear hK K
              refine wpAnyH_take (i := 4) (oi := ⟨some 40, _, _, _, _, _⟩) (v := .string (z1 ++ z2)) rfl (by kernel_rfl) (by kernel_rfl) (by kernel_rfl) (fun _ _ _ h => h) (Or.inl ⟨by rfl, ?_⟩) (by assumption) ?_
              · intro w hSw; (try dsimp only at hSw); go_simp
              simp only [Act.put, List.setIfInBounds_toArray, List.set_cons_zero, List.set_cons_succ]
              refine wpAnyH_ready (rs := [6, 15]) (by kernel_rfl) (by simp) ?_
              refine (AllReadyH.cons (o := ⟨some 42, _, _, _, _, _⟩) rfl (fun K hK => ?_) (AllReadyH.cons (o := ⟨some 51, _, _, _, _, _⟩) rfl (fun K hK => ?_) AllReadyH.nil))
              · go_simp
                refine (E3.out _).mono ?_
                rintro e v3 ⟨rfl, k3⟩
                have b3 := b2.trans (k3.mono b2.size)
                refine hK.out _ _ trivial (fun hHeld => ?_)
                clear hK K
                refine wpAnyH_take (i := 7) (oi := ⟨some 43, _, _, _, _, _⟩) (v := .string (z1 ++ z2 ++ z3)) rfl (by kernel_rfl) (by kernel_rfl) (by kernel_rfl) (fun _ _ _ h => h) (Or.inl ⟨by rfl, ?_⟩) (by assumption) ?_
                · intro w hSw; (try dsimp only at hSw); go_simp
                simp only [Act.put, List.setIfInBounds_toArray, List.set_cons_zero, List.set_cons_succ]
                refine wpAnyH_ready (rs := [15]) (by kernel_rfl) (by simp) ?_
                refine (AllReadyH.cons (o := ⟨some 51, _, _, _, _, _⟩) rfl (fun K hK => ?_) AllReadyH.nil)
                rw [if_pos (by simp [Region.wanted])]
                go_simp
                have ro4 := heap_alloc_new v3 (.cells #[.int .u8 (y1.toNat : Int), .int .u8 (y2.toNat : Int), .int .u8 (y3.toNat : Int), .int .u8 0] 5)
                have b4 := b3.alloc b3.size (.cells #[.int .u8 (y1.toNat : Int), .int .u8 (y2.toNat : Int), .int .u8 (y3.toNat : Int), .int .u8 0] 5)
                generalize v3.alloc (.cells #[.int .u8 (y1.toNat : Int), .int .u8 (y2.toNat : Int), .int .u8 (y3.toNat : Int), .int .u8 0] 5) = v4 at *
                generalize v3.heap.size = Q4 at ro4 ⊢
                refine hK.out _ _ trivial (fun hHeld => ?_)
                clear hK K
                refine wpAnyH_ready (rs := [16]) (by kernel_rfl) (by simp) ?_
                refine (AllReadyH.cons (o := ⟨some 52, _, _, _, _, _⟩) rfl (fun K hK => ?_) AllReadyH.nil)
                have hcv := Sm.conv_row (l := [y1, y2, y3, 0]) (n := 4) ro4 rfl
                go_simp
                clear hcv
                refine hK.out _ _ trivial (fun hHeld => ?_)
                clear hK K
                refine wpAnyH_take (i := 17) (oi := ⟨some 53, _, _, _, _, _⟩) (v := .string (z1 ++ z2 ++ z3 ++ (⟨#[y1, y2, y3, 0]⟩ : ByteArray))) rfl (by kernel_rfl) (by kernel_rfl) (by kernel_rfl) (fun _ _ _ h => h) (Or.inl ⟨by rfl, ?_⟩) (by assumption) ?_
                · intro w hSw; (try dsimp only at hSw); go_simp
                simp only [Act.put, List.setIfInBounds_toArray, List.set_cons_zero, List.set_cons_succ]
                refine wpAnyH_take (i := 19) (oi := ⟨some 55, _, _, _, _, _⟩) (v := .string (z1 ++ z2 ++ z3 ++ (⟨#[y1, y2, y3, 0]⟩ : ByteArray) ++ p)) rfl (by kernel_rfl) (by kernel_rfl) (by kernel_rfl) (fun _ _ _ h => h) (Or.inl ⟨by rfl, ?_⟩) (by assumption) ?_
                · intro w hSw; (try dsimp only at hSw); go_simp
                simp only [Act.put, List.setIfInBounds_toArray, List.set_cons_zero, List.set_cons_succ]
                refine wpAnyH_take (i := 20) (oi := ⟨some 14, _, _, _, _, _⟩) (v := .string (z1 ++ z2 ++ z3 ++ (⟨#[y1, y2, y3, 0]⟩ : ByteArray) ++ p)) rfl (by kernel_rfl) (by kernel_rfl) (by kernel_rfl) (fun _ _ _ h => h) (Or.inl ⟨by rfl, ?_⟩) (by assumption) ?_
                · intro w hSw; (try dsimp only at hSw); go_simp
                simp only [Act.put, List.setIfInBounds_toArray, List.set_cons_zero, List.set_cons_succ]
                refine wpAnyH_done (by kernel_rfl) ?_ _
                clear hHeld
                go_wp2
                go_meet
                exact ⟨by rw [HD0.out], b4⟩
              · rw [if_pos (by simp [Region.wanted])]
                go_simp
                have ro6 := heap_alloc_new v2 (.cells #[.int .u8 (y1.toNat : Int), .int .u8 (y2.toNat : Int), .int .u8 (y3.toNat : Int), .int .u8 0] 5)
                have b6 := b2.alloc b2.size (.cells #[.int .u8 (y1.toNat : Int), .int .u8 (y2.toNat : Int), .int .u8 (y3.toNat : Int), .int .u8 0] 5)
                generalize v2.alloc (.cells #[.int .u8 (y1.toNat : Int), .int .u8 (y2.toNat : Int), .int .u8 (y3.toNat : Int), .int .u8 0] 5) = v6 at *
                generalize v2.heap.size = Q6 at ro6 ⊢
                refine hK.out _ _ trivial (fun hHeld => ?_)
                clear hK K
                refine wpAnyH_ready (rs := [6, 16]) (by kernel_rfl) (by simp) ?_
                refine (AllReadyH.cons (o := ⟨some 42, _, _, _, _, _⟩) rfl (fun K hK => ?_) (AllReadyH.cons (o := ⟨some 52, _, _, _, _, _⟩) rfl (fun K hK => ?_) AllReadyH.nil))
                · go_simp
                  refine (E3.out _).mono ?_
                  rintro e v7 ⟨rfl, k7⟩
                  have b7 := b6.trans (k7.mono b6.size)
                  have ro7 := (k7.block _ (Sm.lt_of ro6)).trans ro6
                  refine hK.out _ _ trivial (fun hHeld => ?_)
                  clear hK K
                  refine wpAnyH_take (i := 7) (oi := ⟨some 43, _, _, _, _, _⟩) (v := .string (z1 ++ z2 ++ z3)) rfl (by kernel_rfl) (by kernel_rfl) (by kernel_rfl) (fun _ _ _ h => h) (Or.inl ⟨by rfl, ?_⟩) (by assumption) ?_
                  · intro w hSw; (try dsimp only at hSw); go_simp
                  simp only [Act.put, List.setIfInBounds_toArray, List.set_cons_zero, List.set_cons_succ]
                  refine wpAnyH_ready (rs := [16]) (by kernel_rfl) (by simp) ?_
                  refine (AllReadyH.cons (o := ⟨some 52, _, _, _, _, _⟩) rfl (fun K hK => ?_) AllReadyH.nil)
                  have hcv := Sm.conv_row (l := [y1, y2, y3, 0]) (n := 4) ro7 rfl
                  go_simp
                  clear hcv
                  refine hK.out _ _ trivial (fun hHeld => ?_)
                  clear hK K
                  refine wpAnyH_take (i := 17) (oi := ⟨some 53, _, _, _, _, _⟩) (v := .string (z1 ++ z2 ++ z3 ++ (⟨#[y1, y2, y3, 0]⟩ : ByteArray))) rfl (by kernel_rfl) (by kernel_rfl) (by kernel_rfl) (fun _ _ _ h => h) (Or.inl ⟨by rfl, ?_⟩) (by assumption) ?_
                  · intro w hSw; (try dsimp only at hSw); go_simp
                  simp only [Act.put, List.setIfInBounds_toArray, List.set_cons_zero, List.set_cons_succ]
                  refine wpAnyH_take (i := 19) (oi := ⟨some 55, _, _, _, _, _⟩) (v := .string (z1 ++ z2 ++ z3 ++ (⟨#[y1, y2, y3, 0]⟩ : ByteArray) ++ p)) rfl (by kernel_rfl) (by kernel_rfl) (by kernel_rfl) (fun _ _ _ h => h) (Or.inl ⟨by rfl, ?_⟩) (by assumption) ?_
                  · intro w hSw; (try dsimp only at hSw); go_simp
                  simp only [Act.put, List.setIfInBounds_toArray, List.set_cons_zero, List.set_cons_succ]
                  refine wpAnyH_take (i := 20) (oi := ⟨some 14, _, _, _, _, _⟩) (v := .string (z1 ++ z2 ++ z3 ++ (⟨#[y1, y2, y3, 0]⟩ : ByteArray) ++ p)) rfl (by kernel_rfl) (by kernel_rfl) (by kernel_rfl) (fun _ _ _ h => h) (Or.inl ⟨by rfl, ?_⟩) (by assumption) ?_
                  · intro w hSw; (try dsimp only at hSw); go_simp
                  simp only [Act.put, List.setIfInBounds_toArray, List.set_cons_zero, List.set_cons_succ]
                  refine wpAnyH_done (by kernel_rfl) ?_ _
                  clear hHeld
                  go_wp2
                  go_meet
                  exact ⟨by rw [HD0.out], b7⟩
                · have hcv := Sm.conv_row (l := [y1, y2, y3, 0]) (n := 4) ro6 rfl
                  go_simp
                  clear hcv
                  refine hK.out _ _ trivial (fun hHeld => ?_)
                  clear hK K
                  refine wpAnyH_ready (rs := [6]) (by kernel_rfl) (by simp) ?_
                  refine (AllReadyH.cons (o := ⟨some 42, _, _, _, _, _⟩) rfl (fun K hK => ?_) AllReadyH.nil)
                  go_simp
                  refine (E3.out _).mono ?_
                  rintro e v10 ⟨rfl, k10⟩
                  have b10 := b6.trans (k10.mono b6.size)
                  have ro10 := (k10.block _ (Sm.lt_of ro6)).trans ro6
                  refine hK.out _ _ trivial (fun hHeld => ?_)
                  clear hK K
                  refine wpAnyH_take (i := 7) (oi := ⟨some 43, _, _, _, _, _⟩) (v := .string (z1 ++ z2 ++ z3)) rfl (by kernel_rfl) (by kernel_rfl) (by kernel_rfl) (fun _ _ _ h => h) (Or.inl ⟨by rfl, ?_⟩) (by assumption) ?_
                  · intro w hSw; (try dsimp only at hSw); go_simp
                  simp only [Act.put, List.setIfInBounds_toArray, List.set_cons_zero, List.set_cons_succ]
                  refine wpAnyH_take (i := 17) (oi := ⟨some 53, _, _, _, _, _⟩) (v := .string (z1 ++ z2 ++ z3 ++ (⟨#[y1, y2, y3, 0]⟩ : ByteArray))) rfl (by kernel_rfl) (by kernel_rfl) (by kernel_rfl) (fun _ _ _ h => h) (Or.inl ⟨by rfl, ?_⟩) (by assumption) ?_
                  · intro w hSw; (try dsimp only at hSw); go_simp
                  simp only [Act.put, List.setIfInBounds_toArray, List.set_cons_zero, List.set_cons_succ]
                  refine wpAnyH_take (i := 19) (oi := ⟨some 55, _, _, _, _, _⟩) (v := .string (z1 ++ z2 ++ z3 ++ (⟨#[y1, y2, y3, 0]⟩ : ByteArray) ++ p)) rfl (by kernel_rfl) (by kernel_rfl) (by kernel_rfl) (fun _ _ _ h => h) (Or.inl ⟨by rfl, ?_⟩) (by assumption) ?_
                  · intro w hSw; (try dsimp only at hSw); go_simp
                  simp only [Act.put, List.setIfInBounds_toArray, List.set_cons_zero, List.set_cons_succ]
                  refine wpAnyH_take (i := 20) (oi := ⟨some 14, _, _, _, _, _⟩) (v := .string (z1 ++ z2 ++ z3 ++ (⟨#[y1, y2, y3, 0]⟩ : ByteArray) ++ p)) rfl (by kernel_rfl) (by kernel_rfl) (by kernel_rfl) (fun _ _ _ h => h) (Or.inl ⟨by rfl, ?_⟩) (by assumption) ?_
                  · intro w hSw; (try dsimp only at hSw); go_simp
                  simp only [Act.put, List.setIfInBounds_toArray, List.set_cons_zero, List.set_cons_succ]
                  refine wpAnyH_done (by kernel_rfl) ?_ _
                  clear hHeld
                  go_wp2
                  go_meet
                  exact ⟨by rw [HD0.out], b10⟩
            · rw [if_pos (by simp [Region.wanted])]
              go_simp
              have ro11 := heap_alloc_new v1 (.cells #[.int .u8 (y1.toNat : Int), .int .u8 (y2.toNat : Int), .int .u8 (y3.toNat : Int), .int .u8 0] 5)
              have b11 := b1.alloc b1.size (.cells #[.int .u8 (y1.toNat : Int), .int .u8 (y2.toNat : Int), .int .u8 (y3.toNat : Int), .int .u8 0] 5)
              generalize v1.alloc (.cells #[.int .u8 (y1.toNat : Int), .int .u8 (y2.toNat : Int), .int .u8 (y3.toNat : Int), .int .u8 0] 5) = v11 at *
              generalize v1.heap.size = Q11 at ro11 ⊢
              refine hK.out _ _ trivial (fun hHeld => ?_)
              clear hK K
              refine wpAnyH_ready (rs := [3, 16]) (by kernel_rfl) (by simp) ?_
              refine (AllReadyH.cons (o := ⟨some 39, _, _, _, _, _⟩) rfl (fun K hK => ?_) (AllReadyH.cons (o := ⟨some 52, _, _, _, _, _⟩) rfl (fun K hK => ?_) AllReadyH.nil))
              · go_simp
                refine (E2.out _).mono ?_
                rintro e v12 ⟨rfl, k12⟩
                have b12 := b11.trans (k12.mono b11.size)
                have ro12 := (k12.block _ (Sm.lt_of ro11)).trans ro11
                refine hK.out _ _ trivial (fun hHeld => ?_)
                clear hK K
                refine wpAnyH_take (i := 4) (oi := ⟨some 40, _, _, _, _, _⟩) (v := .string (z1 ++ z2)) rfl (by kernel_rfl) (by kernel_rfl) (by kernel_rfl) (fun _ _ _ h => h) (Or.inl ⟨by rfl, ?_⟩) (by assumption) ?_
                · intro w hSw; (try dsimp only at hSw); go_simp
                simp only [Act.put, List.setIfInBounds_toArray, List.set_cons_zero, List.set_cons_succ]
                refine wpAnyH_ready (rs := [6, 16]) (by kernel_rfl) (by simp) ?_
                refine (AllReadyH.cons (o := ⟨some 42, _, _, _, _, _⟩) rfl (fun K hK => ?_) (AllReadyH.cons (o := ⟨some 52, _, _, _, _, _⟩) rfl (fun K hK => ?_) AllReadyH.nil))
                · go_simp
                  refine (E3.out _).mono ?_
                  rintro e v13 ⟨rfl, k13⟩
                  have b13 := b12.trans (k13.mono b12.size)
                  have ro13 := (k13.block _ (Sm.lt_of ro12)).trans ro12
                  refine hK.out _ _ trivial (fun hHeld => ?_)
                  clear hK K
                  refine wpAnyH_take (i := 7) (oi := ⟨some 43, _, _, _, _, _⟩) (v := .string (z1 ++ z2 ++ z3)) rfl (by kernel_rfl) (by kernel_rfl) (by kernel_rfl) (fun _ _ _ h => h) (Or.inl ⟨by rfl, ?_⟩) (by assumption) ?_
                  · intro w hSw; (try dsimp only at hSw); go_simp
                  simp only [Act.put, List.setIfInBounds_toArray, List.set_cons_zero, List.set_cons_succ]
                  refine wpAnyH_ready (rs := [16]) (by kernel_rfl) (by simp) ?_
                  refine (AllReadyH.cons (o := ⟨some 52, _, _, _, _, _⟩) rfl (fun K hK => ?_) AllReadyH.nil)
                  have hcv := Sm.conv_row (l := [y1, y2, y3, 0]) (n := 4) ro13 rfl
                  go_simp
                  clear hcv
                  refine hK.out _ _ trivial (fun hHeld => ?_)
                  clear hK K
                  refine wpAnyH_take (i := 17) (oi := ⟨some 53, _, _, _, _, _⟩) (v := .string (z1 ++ z2 ++ z3 ++ (⟨#[y1, y2, y3, 0]⟩ : ByteArray))) rfl (by kernel_rfl) (by kernel_rfl) (by kernel_rfl) (fun _ _ _ h => h) (Or.inl ⟨by rfl, ?_⟩) (by assumption) ?_
                  · intro w hSw; (try dsimp only at hSw); go_simp
                  simp only [Act.put, List.setIfInBounds_toArray, List.set_cons_zero, List.set_cons_succ]
                  refine wpAnyH_take (i := 19) (oi := ⟨some 55, _, _, _, _, _⟩) (v := .string (z1 ++ z2 ++ z3 ++ (⟨#[y1, y2, y3, 0]⟩ : ByteArray) ++ p)) rfl (by kernel_rfl) (by kernel_rfl) (by kernel_rfl) (fun _ _ _ h => h) (Or.inl ⟨by rfl, ?_⟩) (by assumption) ?_
                  · intro w hSw; (try dsimp only at hSw); go_simp
                  simp only [Act.put, List.setIfInBounds_toArray, List.set_cons_zero, List.set_cons_succ]
                  refine wpAnyH_take (i := 20) (oi := ⟨some 14, _, _, _, _, _⟩) (v := .string (z1 ++ z2 ++ z3 ++ (⟨#[y1, y2, y3, 0]⟩ : ByteArray) ++ p)) rfl (by kernel_rfl) (by kernel_rfl) (by kernel_rfl) (fun _ _ _ h => h) (Or.inl ⟨by rfl, ?_⟩) (by assumption) ?_
                  · intro w hSw; (try dsimp only at hSw); go_simp
                  simp only [Act.put, List.setIfInBounds_toArray, List.set_cons_zero, List.set_cons_succ]
                  refine wpAnyH_done (by kernel_rfl) ?_ _
                  clear hHeld
                  go_wp2
                  go_meet
                  exact ⟨by rw [HD0.out], b13⟩
                · have hcv := Sm.conv_row (l := [y1, y2, y3, 0]) (n := 4) ro12 rfl
                  go_simp
                  clear hcv
                  refine hK.out _ _ trivial (fun hHeld => ?_)
                  clear hK K
                  refine wpAnyH_ready (rs := [6]) (by kernel_rfl) (by simp) ?_
                  refine (AllReadyH.cons (o := ⟨some 42, _, _, _, _, _⟩) rfl (fun K hK => ?_) AllReadyH.nil)
                  go_simp
                  refine (E3.out _).mono ?_
                  rintro e v16 ⟨rfl, k16⟩
                  have b16 := b12.trans (k16.mono b12.size)
                  have ro16 := (k16.block _ (Sm.lt_of ro12)).trans ro12
                  refine hK.out _ _ trivial (fun hHeld => ?_)
                  clear hK K
                  refine wpAnyH_take (i := 7) (oi := ⟨some 43, _, _, _, _, _⟩) (v := .string (z1 ++ z2 ++ z3)) rfl (by kernel_rfl) (by kernel_rfl) (by kernel_rfl) (fun _ _ _ h => h) (Or.inl ⟨by rfl, ?_⟩) (by assumption) ?_
                  · intro w hSw; (try dsimp only at hSw); go_simp
                  simp only [Act.put, List.setIfInBounds_toArray, List.set_cons_zero, List.set_cons_succ]
                  refine wpAnyH_take (i := 17) (oi := ⟨some 53, _, _, _, _, _⟩) (v := .string (z1 ++ z2 ++ z3 ++ (⟨#[y1, y2, y3, 0]⟩ : ByteArray))) rfl (by kernel_rfl) (by kernel_rfl) (by kernel_rfl) (fun _ _ _ h => h) (Or.inl ⟨by rfl, ?_⟩) (by assumption) ?_
                  · intro w hSw; (try dsimp only at hSw); go_simp
                  simp only [Act.put, List.setIfInBounds_toArray, List.set_cons_zero, List.set_cons_succ]
                  refine wpAnyH_take (i := 19) (oi := ⟨some 55, _, _, _, _, _⟩) (v := .string (z1 ++ z2 ++ z3 ++ (⟨#[y1, y2, y3, 0]⟩ : ByteArray) ++ p)) rfl (by kernel_rfl) (by kernel_rfl) (by kernel_rfl) (fun _ _ _ h => h) (Or.inl ⟨by rfl, ?_⟩) (by assumption) ?_
                  · intro w hSw; (try dsimp only at hSw); go_simp
                  simp only [Act.put, List.setIfInBounds_toArray, List.set_cons_zero, List.set_cons_succ]
                  refine wpAnyH_take (i := 20) (oi := ⟨some 14, _, _, _, _, _⟩) (v := .string (z1 ++ z2 ++ z3 ++ (⟨#[y1, y2, y3, 0]⟩ : ByteArray) ++ p)) rfl (by kernel_rfl) (by kernel_rfl) (by kernel_rfl) (fun _ _ _ h => h) (Or.inl ⟨by rfl, ?_⟩) (by assumption) ?_
                  · intro w hSw; (try dsimp only at hSw); go_simp
                  simp only [Act.put, List.setIfInBounds_toArray, List.set_cons_zero, List.set_cons_succ]
                  refine wpAnyH_done (by kernel_rfl) ?_ _
                  clear hHeld
                  go_wp2
                  go_meet
                  exact ⟨by rw [HD0.out], b16⟩
              · have hcv := Sm.conv_row (l := [y1, y2, y3, 0]) (n := 4) ro11 rfl
                go_simp
                clear hcv
                refine hK.out _ _ trivial (fun hHeld => ?_)
                clear hK K
                refine wpAnyH_ready (rs := [3]) (by kernel_rfl) (by simp) ?_
                refine (AllReadyH.cons (o := ⟨some 39, _, _, _, _, _⟩) rfl (fun K hK => ?_) AllReadyH.nil)
                go_simp
                refine (E2.out _).mono ?_
                rintro e v18 ⟨rfl, k18⟩
                have b18 := b11.trans (k18.mono b11.size)
                have ro18 := (k18.block _ (Sm.lt_of ro11)).trans ro11
                refine hK.out _ _ trivial (fun hHeld => ?_)
                clear hK K
                refine wpAnyH_take (i := 4) (oi := ⟨some 40, _, _, _, _, _⟩) (v := .string (z1 ++ z2)) rfl (by kernel_rfl) (by kernel_rfl) (by kernel_rfl) (fun _ _ _ h => h) (Or.inl ⟨by rfl, ?_⟩) (by assumption) ?_
                · intro w hSw; (try dsimp only at hSw); go_simp
                simp only [Act.put, List.setIfInBounds_toArray, List.set_cons_zero, List.set_cons_succ]
                refine wpAnyH_ready (rs := [6]) (by kernel_rfl) (by simp) ?_
                refine (AllReadyH.cons (o := ⟨some 42, _, _, _, _, _⟩) rfl (fun K hK => ?_) AllReadyH.nil)
                go_simp
                refine (E3.out _).mono ?_
                rintro e v19 ⟨rfl, k19⟩
                have b19 := b18.trans (k19.mono b18.size)
                have ro19 := (k19.block _ (Sm.lt_of ro18)).trans ro18
                refine hK.out _ _ trivial (fun hHeld => ?_)
                clear hK K
                refine wpAnyH_take (i := 7) (oi := ⟨some 43, _, _, _, _, _⟩) (v := .string (z1 ++ z2 ++ z3)) rfl (by kernel_rfl) (by kernel_rfl) (by kernel_rfl) (fun _ _ _ h => h) (Or.inl ⟨by rfl, ?_⟩) (by assumption) ?_
                · intro w hSw; (try dsimp only at hSw); go_simp
                simp only [Act.put, List.setIfInBounds_toArray, List.set_cons_zero, List.set_cons_succ]
                refine wpAnyH_take (i := 17) (oi := ⟨some 53, _, _, _, _, _⟩) (v := .string (z1 ++ z2 ++ z3 ++ (⟨#[y1, y2, y3, 0]⟩ : ByteArray))) rfl (by kernel_rfl) (by kernel_rfl) (by kernel_rfl) (fun _ _ _ h => h) (Or.inl ⟨by rfl, ?_⟩) (by assumption) ?_
                · intro w hSw; (try dsimp only at hSw); go_simp
                simp only [Act.put, List.setIfInBounds_toArray, List.set_cons_zero, List.set_cons_succ]
                refine wpAnyH_take (i := 19) (oi := ⟨some 55, _, _, _, _, _⟩) (v := .string (z1 ++ z2 ++ z3 ++ (⟨#[y1, y2, y3, 0]⟩ : ByteArray) ++ p)) rfl (by kernel_rfl) (by kernel_rfl) (by kernel_rfl) (fun _ _ _ h => h) (Or.inl ⟨by rfl, ?_⟩) (by assumption) ?_
                · intro w hSw; (try dsimp only at hSw); go_simp
                simp only [Act.put, List.setIfInBounds_toArray, List.set_cons_zero, List.set_cons_succ]
                refine wpAnyH_take (i := 20) (oi := ⟨some 14, _, _, _, _, _⟩) (v := .string (z1 ++ z2 ++ z3 ++ (⟨#[y1, y2, y3, 0]⟩ : ByteArray) ++ p)) rfl (by kernel_rfl) (by kernel_rfl) (by kernel_rfl) (fun _ _ _ h => h) (Or.inl ⟨by rfl, ?_⟩) (by assumption) ?_
                · intro w hSw; (try dsimp only at hSw); go_simp
                simp only [Act.put, List.setIfInBounds_toArray, List.set_cons_zero, List.set_cons_succ]
                refine wpAnyH_done (by kernel_rfl) ?_ _
                clear hHeld
                go_wp2
                go_meet
                exact ⟨by rw [HD0.out], b19⟩
          · rw [if_pos (by simp [Region.wanted])]
            go_simp
            have ro20 := heap_alloc_new wd (.cells #[.int .u8 (y1.toNat : Int), .int .u8 (y2.toNat : Int), .int .u8 (y3.toNat : Int), .int .u8 0] 5)
            have b20 := BD.out.alloc BD.out.size (.cells #[.int .u8 (y1.toNat : Int), .int .u8 (y2.toNat : Int), .int .u8 (y3.toNat : Int), .int .u8 0] 5)
            generalize wd.alloc (.cells #[.int .u8 (y1.toNat : Int), .int .u8 (y2.toNat : Int), .int .u8 (y3.toNat : Int), .int .u8 0] 5) = v20 at *
            generalize wd.heap.size = Q20 at ro20 ⊢
            refine hK.out _ _ trivial (fun hHeld => ?_)
            clear hK K
            refine wpAnyH_ready (rs := [1, 16]) (by kernel_rfl) (by simp) ?_
            refine (AllReadyH.cons (o := ⟨some 37, _, _, _, _, _⟩) rfl (fun K hK => ?_) (AllReadyH.cons (o := ⟨some 52, _, _, _, _, _⟩) rfl (fun K hK => ?_) AllReadyH.nil))
            · go_simp
              refine (E1.out _).mono ?_
              rintro e v21 ⟨rfl, k21⟩
              have b21 := b20.trans (k21.mono b20.size)
              have ro21 := (k21.block _ (Sm.lt_of ro20)).trans ro20
              refine hK.out _ _ trivial (fun hHeld => ?_)
              clear hK K
              refine wpAnyH_ready (rs := [3, 16]) (by kernel_rfl) (by simp) ?_
              refine (AllReadyH.cons (o := ⟨some 39, _, _, _, _, _⟩) rfl (fun K hK => ?_) (AllReadyH.cons (o := ⟨some 52, _, _, _, _, _⟩) rfl (fun K hK => ?_) AllReadyH.nil))
              · go_simp
                refine (E2.out _).mono ?_
                rintro e v22 ⟨rfl, k22⟩
                have b22 := b21.trans (k22.mono b21.size)
                have ro22 := (k22.block _ (Sm.lt_of ro21)).trans ro21
                refine hK.out _ _ trivial (fun hHeld => ?_)
                clear hK K
                refine wpAnyH_take (i := 4) (oi := ⟨some 40, _, _, _, _, _⟩) (v := .string (z1 ++ z2)) rfl (by kernel_rfl) (by kernel_rfl) (by kernel_rfl) (fun _ _ _ h => h) (Or.inl ⟨by rfl, ?_⟩) (by assumption) ?_
                · intro w hSw; (try dsimp only at hSw); go_simp
                simp only [Act.put, List.setIfInBounds_toArray, List.set_cons_zero, List.set_cons_succ]
                refine wpAnyH_ready (rs := [6, 16]) (by kernel_rfl) (by simp) ?_
                refine (AllReadyH.cons (o := ⟨some 42, _, _, _, _, _⟩) rfl (fun K hK => ?_) (AllReadyH.cons (o := ⟨some 52, _, _, _, _, _⟩) rfl (fun K hK => ?_) AllReadyH.nil))
                · go_simp
                  refine (E3.out _).mono ?_
                  rintro e v23 ⟨rfl, k23⟩
                  have b23 := b22.trans (k23.mono b22.size)
                  have ro23 := (k23.block _ (Sm.lt_of ro22)).trans ro22
                  refine hK.out _ _ trivial (fun hHeld => ?_)
                  clear hK K
                  refine wpAnyH_take (i := 7) (oi := ⟨some 43, _, _, _, _, _⟩) (v := .string (z1 ++ z2 ++ z3)) rfl (by kernel_rfl) (by kernel_rfl) (by kernel_rfl) (fun _ _ _ h => h) (Or.inl ⟨by rfl, ?_⟩) (by assumption) ?_
                  · intro w hSw; (try dsimp only at hSw); go_simp
                  simp only [Act.put, List.setIfInBounds_toArray, List.set_cons_zero, List.set_cons_succ]
                  refine wpAnyH_ready (rs := [16]) (by kernel_rfl) (by simp) ?_
                  refine (AllReadyH.cons (o := ⟨some 52, _, _, _, _, _⟩) rfl (fun K hK => ?_) AllReadyH.nil)
                  have hcv := Sm.conv_row (l := [y1, y2, y3, 0]) (n := 4) ro23 rfl
                  go_simp
                  clear hcv
                  refine hK.out _ _ trivial (fun hHeld => ?_)
                  clear hK K
                  refine wpAnyH_take (i := 17) (oi := ⟨some 53, _, _, _, _, _⟩) (v := .string (z1 ++ z2 ++ z3 ++ (⟨#[y1, y2, y3, 0]⟩ : ByteArray))) rfl (by kernel_rfl) (by kernel_rfl) (by kernel_rfl) (fun _ _ _ h => h) (Or.inl ⟨by rfl, ?_⟩) (by assumption) ?_
                  · intro w hSw; (try dsimp only at hSw); go_simp
                  simp only [Act.put, List.setIfInBounds_toArray, List.set_cons_zero, List.set_cons_succ]
                  refine wpAnyH_take (i := 19) (oi := ⟨some 55, _, _, _, _, _⟩) (v := .string (z1 ++ z2 ++ z3 ++ (⟨#[y1, y2, y3, 0]⟩ : ByteArray) ++ p)) rfl (by kernel_rfl) (by kernel_rfl) (by kernel_rfl) (fun _ _ _ h => h) (Or.inl ⟨by rfl, ?_⟩) (by assumption) ?_
                  · intro w hSw; (try dsimp only at hSw); go_simp
                  simp only [Act.put, List.setIfInBounds_toArray, List.set_cons_zero, List.set_cons_succ]
                  refine wpAnyH_take (i := 20) (oi := ⟨some 14, _, _, _, _, _⟩) (v := .string (z1 ++ z2 ++ z3 ++ (⟨#[y1, y2, y3, 0]⟩ : ByteArray) ++ p)) rfl (by kernel_rfl) (by kernel_rfl) (by kernel_rfl) (fun _ _ _ h => h) (Or.inl ⟨by rfl, ?_⟩) (by assumption) ?_
                  · intro w hSw; (try dsimp only at hSw); go_simp
                  simp only [Act.put, List.setIfInBounds_toArray, List.set_cons_zero, List.set_cons_succ]
                  refine wpAnyH_done (by kernel_rfl) ?_ _
                  clear hHeld
                  go_wp2
                  go_meet
                  exact ⟨by rw [HD0.out], b23⟩
                · have hcv := Sm.conv_row (l := [y1, y2, y3, 0]) (n := 4) ro22 rfl
                  go_simp
                  clear hcv
                  refine hK.out _ _ trivial (fun hHeld => ?_)
                  clear hK K
                  refine wpAnyH_ready (rs := [6]) (by kernel_rfl) (by simp) ?_
                  refine (AllReadyH.cons (o := ⟨some 42, _, _, _, _, _⟩) rfl (fun K hK => ?_) AllReadyH.nil)
                  go_simp
                  refine (E3.out _).mono ?_
                  rintro e v26 ⟨rfl, k26⟩
                  have b26 := b22.trans (k26.mono b22.size)
                  have ro26 := (k26.block _ (Sm.lt_of ro22)).trans ro22
                  refine hK.out _ _ trivial (fun hHeld => ?_)
                  clear hK K
                  refine wpAnyH_take (i := 7) (oi := ⟨some 43, _, _, _, _, _⟩) (v := .string (z1 ++ z2 ++ z3)) rfl (by kernel_rfl) (by kernel_rfl) (by kernel_rfl) (fun _ _ _ h => h) (Or.inl ⟨by rfl, ?_⟩) (by assumption) ?_
                  · intro w hSw; (try dsimp only at hSw); go_simp
                  simp only [Act.put, List.setIfInBounds_toArray, List.set_cons_zero, List.set_cons_succ]
                  refine wpAnyH_take (i := 17) (oi := ⟨some 53, _, _, _, _, _⟩) (v := .string (z1 ++ z2 ++ z3 ++ (⟨#[y1, y2, y3, 0]⟩ : ByteArray))) rfl (by kernel_rfl) (by kernel_rfl) (by kernel_rfl) (fun _ _ _ h => h) (Or.inl ⟨by rfl, ?_⟩) (by assumption) ?_
                  · intro w hSw; (try dsimp only at hSw); go_simp
                  simp only [Act.put, List.setIfInBounds_toArray, List.set_cons_zero, List.set_cons_succ]
                  refine wpAnyH_take (i := 19) (oi := ⟨some 55, _, _, _, _, _⟩) (v := .string (z1 ++ z2 ++ z3 ++ (⟨#[y1, y2, y3, 0]⟩ : ByteArray) ++ p)) rfl (by kernel_rfl) (by kernel_rfl) (by kernel_rfl) (fun _ _ _ h => h) (Or.inl ⟨by rfl, ?_⟩) (by assumption) ?_
                  · intro w hSw; (try dsimp only at hSw); go_simp
                  simp only [Act.put, List.setIfInBounds_toArray, List.set_cons_zero, List.set_cons_succ]
                  refine wpAnyH_take (i := 20) (oi := ⟨some 14, _, _, _, _, _⟩) (v := .string (z1 ++ z2 ++ z3 ++ (⟨#[y1, y2, y3, 0]⟩ : ByteArray) ++ p)) rfl (by kernel_rfl) (by kernel_rfl) (by kernel_rfl) (fun _ _ _ h => h) (Or.inl ⟨by rfl, ?_⟩) (by assumption) ?_
                  · intro w hSw; (try dsimp only at hSw); go_simp
                  simp only [Act.put, List.setIfInBounds_toArray, List.set_cons_zero, List.set_cons_succ]
                  refine wpAnyH_done (by kernel_rfl) ?_ _
                  clear hHeld
                  go_wp2
                  go_meet
                  exact ⟨by rw [HD0.out], b26⟩
              · have hcv := Sm.conv_row (l := [y1, y2, y3, 0]) (n := 4) ro21 rfl
                go_simp
                clear hcv
                refine hK.out _ _ trivial (fun hHeld => ?_)
                clear hK K
                refine wpAnyH_ready (rs := [3]) (by kernel_rfl) (by simp) ?_
                refine (AllReadyH.cons (o := ⟨some 39, _, _, _, _, _⟩) rfl (fun K hK => ?_) AllReadyH.nil)
                go_simp
                refine (E2.out _).mono ?_
                rintro e v28 ⟨rfl, k28⟩
                have b28 := b21.trans (k28.mono b21.size)
                have ro28 := (k28.block _ (Sm.lt_of ro21)).trans ro21
                refine hK.out _ _ trivial (fun hHeld => ?_)
                clear hK K
                refine wpAnyH_take (i := 4) (oi := ⟨some 40, _, _, _, _, _⟩) (v := .string (z1 ++ z2)) rfl (by kernel_rfl) (by kernel_rfl) (by kernel_rfl) (fun _ _ _ h => h) (Or.inl ⟨by rfl, ?_⟩) (by assumption) ?_
                · intro w hSw; (try dsimp only at hSw); go_simp
                simp only [Act.put, List.setIfInBounds_toArray, List.set_cons_zero, List.set_cons_succ]
                refine wpAnyH_ready (rs := [6]) (by kernel_rfl) (by simp) ?_
                refine (AllReadyH.cons (o := ⟨some 42, _, _, _, _, _⟩) rfl (fun K hK => ?_) AllReadyH.nil)
                go_simp
                refine (E3.out _).mono ?_
                rintro e v29 ⟨rfl, k29⟩
                have b29 := b28.trans (k29.mono b28.size)
                have ro29 := (k29.block _ (Sm.lt_of ro28)).trans ro28
                refine hK.out _ _ trivial (fun hHeld => ?_)
                clear hK K
                refine wpAnyH_take (i := 7) (oi := ⟨some 43, _, _, _, _, _⟩) (v := .string (z1 ++ z2 ++ z3)) rfl (by kernel_rfl) (by kernel_rfl) (by kernel_rfl) (fun _ _ _ h => h) (Or.inl ⟨by rfl, ?_⟩) (by assumption) ?_
                · intro w hSw; (try dsimp only at hSw); go_simp
                simp only [Act.put, List.setIfInBounds_toArray, List.set_cons_zero, List.set_cons_succ]
                refine wpAnyH_take (i := 17) (oi := ⟨some 53, _, _, _, _, _⟩) (v := .string (z1 ++ z2 ++ z3 ++ (⟨#[y1, y2, y3, 0]⟩ : ByteArray))) rfl (by kernel_rfl) (by kernel_rfl) (by kernel_rfl) (fun _ _ _ h => h) (Or.inl ⟨by rfl, ?_⟩) (by assumption) ?_
                · intro w hSw; (try dsimp only at hSw); go_simp
                simp only [Act.put, List.setIfInBounds_toArray, List.set_cons_zero, List.set_cons_succ]
                refine wpAnyH_take (i := 19) (oi := ⟨some 55, _, _, _, _, _⟩) (v := .string (z1 ++ z2 ++ z3 ++ (⟨#[y1, y2, y3, 0]⟩ : ByteArray) ++ p)) rfl (by kernel_rfl) (by kernel_rfl) (by kernel_rfl) (fun _ _ _ h => h) (Or.inl ⟨by rfl, ?_⟩) (by assumption) ?_
                · intro w hSw; (try dsimp only at hSw); go_simp
                simp only [Act.put, List.setIfInBounds_toArray, List.set_cons_zero, List.set_cons_succ]
                refine wpAnyH_take (i := 20) (oi := ⟨some 14, _, _, _, _, _⟩) (v := .string (z1 ++ z2 ++ z3 ++ (⟨#[y1, y2, y3, 0]⟩ : ByteArray) ++ p)) rfl (by kernel_rfl) (by kernel_rfl) (by kernel_rfl) (fun _ _ _ h => h) (Or.inl ⟨by rfl, ?_⟩) (by assumption) ?_
                · intro w hSw; (try dsimp only at hSw); go_simp
                simp only [Act.put, List.setIfInBounds_toArray, List.set_cons_zero, List.set_cons_succ]
                refine wpAnyH_done (by kernel_rfl) ?_ _
                clear hHeld
                go_wp2
                go_meet
                exact ⟨by rw [HD0.out], b29⟩
            · have hcv := Sm.conv_row (l := [y1, y2, y3, 0]) (n := 4) ro20 rfl
              go_simp
              clear hcv
              refine hK.out _ _ trivial (fun hHeld => ?_)
              clear hK K
              refine wpAnyH_ready (rs := [1]) (by kernel_rfl) (by simp) ?_
              refine (AllReadyH.cons (o := ⟨some 37, _, _, _, _, _⟩) rfl (fun K hK => ?_) AllReadyH.nil)
              go_simp
              refine (E1.out _).mono ?_
              rintro e v31 ⟨rfl, k31⟩
              have b31 := b20.trans (k31.mono b20.size)
              have ro31 := (k31.block _ (Sm.lt_of ro20)).trans ro20
              refine hK.out _ _ trivial (fun hHeld => ?_)
              clear hK K
              refine wpAnyH_ready (rs := [3]) (by kernel_rfl) (by simp) ?_
              refine (AllReadyH.cons (o := ⟨some 39, _, _, _, _, _⟩) rfl (fun K hK => ?_) AllReadyH.nil)
              go_simp
              refine (E2.out _).mono ?_
              rintro e v32 ⟨rfl, k32⟩
              have b32 := b31.trans (k32.mono b31.size)
              have ro32 := (k32.block _ (Sm.lt_of ro31)).trans ro31
              refine hK.out _ _ trivial (fun hHeld => ?_)
              clear hK K
              refine wpAnyH_take (i := 4) (oi := ⟨some 40, _, _, _, _, _⟩) (v := .string (z1 ++ z2)) rfl (by kernel_rfl) (by kernel_rfl) (by kernel_rfl) (fun _ _ _ h => h) (Or.inl ⟨by rfl, ?_⟩) (by assumption) ?_
              · intro w hSw; (try dsimp only at hSw); go_simp
              simp only [Act.put, List.setIfInBounds_toArray, List.set_cons_zero, List.set_cons_succ]
              refine wpAnyH_ready (rs := [6]) (by kernel_rfl) (by simp) ?_
              refine (AllReadyH.cons (o := ⟨some 42, _, _, _, _, _⟩) rfl (fun K hK => ?_) AllReadyH.nil)
              go_simp
              refine (E3.out _).mono ?_
              rintro e v33 ⟨rfl, k33⟩
              have b33 := b32.trans (k33.mono b32.size)
              have ro33 := (k33.block _ (Sm.lt_of ro32)).trans ro32
              refine hK.out _ _ trivial (fun hHeld => ?_)
              clear hK K
              refine wpAnyH_take (i := 7) (oi := ⟨some 43, _, _, _, _, _⟩) (v := .string (z1 ++ z2 ++ z3)) rfl (by kernel_rfl) (by kernel_rfl) (by kernel_rfl) (fun _ _ _ h => h) (Or.inl ⟨by rfl, ?_⟩) (by assumption) ?_
              · intro w hSw; (try dsimp only at hSw); go_simp
              simp only [Act.put, List.setIfInBounds_toArray, List.set_cons_zero, List.set_cons_succ]
              refine wpAnyH_take (i := 17) (oi := ⟨some 53, _, _, _, _, _⟩) (v := .string (z1 ++ z2 ++ z3 ++ (⟨#[y1, y2, y3, 0]⟩ : ByteArray))) rfl (by kernel_rfl) (by kernel_rfl) (by kernel_rfl) (fun _ _ _ h => h) (Or.inl ⟨by rfl, ?_⟩) (by assumption) ?_
              · intro w hSw; (try dsimp only at hSw); go_simp
              simp only [Act.put, List.setIfInBounds_toArray, List.set_cons_zero, List.set_cons_succ]
              refine wpAnyH_take (i := 19) (oi := ⟨some 55, _, _, _, _, _⟩) (v := .string (z1 ++ z2 ++ z3 ++ (⟨#[y1, y2, y3, 0]⟩ : ByteArray) ++ p)) rfl (by kernel_rfl) (by kernel_rfl) (by kernel_rfl) (fun _ _ _ h => h) (Or.inl ⟨by rfl, ?_⟩) (by assumption) ?_
              · intro w hSw; (try dsimp only at hSw); go_simp
              simp only [Act.put, List.setIfInBounds_toArray, List.set_cons_zero, List.set_cons_succ]
              refine wpAnyH_take (i := 20) (oi := ⟨some 14, _, _, _, _, _⟩) (v := .string (z1 ++ z2 ++ z3 ++ (⟨#[y1, y2, y3, 0]⟩ : ByteArray) ++ p)) rfl (by kernel_rfl) (by kernel_rfl) (by kernel_rfl) (fun _ _ _ h => h) (Or.inl ⟨by rfl, ?_⟩) (by assumption) ?_
              · intro w hSw; (try dsimp only at hSw); go_simp
              simp only [Act.put, List.setIfInBounds_toArray, List.set_cons_zero, List.set_cons_succ]
              refine wpAnyH_done (by kernel_rfl) ?_ _
              clear hHeld
              go_wp2
              go_meet
              exact ⟨by rw [HD0.out], b33⟩
        case rest =>
          obtain ⟨rfl, hbc⟩ := hcut
          rename World => W2
          clear c1 c2 c3 c4 c5 g1 g2 g3 s1 s2 s3 w1 w2 w3 E1 E2 E3 HD0 BD
          have HBC := Lib.hid hbc
          clear hbc
          generalize wr = W1 at *
          have hLp := HLN.out
          go_wp2_with fail
          go_loopw [14] (fun s10 wx => ∃ (q : Nat) (d : ByteArray), s10 = .string d ∧ d.data.toList = Lg.headOf hs t.data.toList i ++ List.replicate q 0 ∧ q ≤ 32 - Ln ∧ Below W1.heap.size W1 wx) (fun s10 _ => 60 - Lg.txtLen s10)
          case atStart => exact ⟨0, d0, rfl, by rw [HHD.out]; simp, Nat.zero_le _, HBC.out⟩
          case round =>
            obtain ⟨q, d, rfl, hd, hq, hbq⟩ := hrel
            have hds : d.size = 28 + Ln + q := by
              have := congrArg List.length hd
              rw [List.length_append, Lg.headOf_length HS3.out, List.length_replicate, ← hLp] at this
              simpa using this
            have HD := Lib.hid hd
            have HBQ := Lib.hid hbq
            clear hd hbq
            by_cases h60 : d.size < 60
            · have h60i : (d.size : Int) < 60 := by omega
              have hcat : d.size + (ByteArray.mk #[0]).size ≤ 9223372036854775807 := by show d.size + 1 ≤ _; omega
              have hcv := Sm.conv_row (l := [0]) (n := 1) (heap_alloc_new wr (.cells #[.int .u8 0] 5)) rfl
              have hnx : (d ++ (⟨#[0]⟩ : ByteArray)).data.toList = Lg.headOf hs t.data.toList i ++ List.replicate (q + 1) 0 := by
                rw [ByteArray.data_append, Array.toList_append, HD.out, List.append_assoc, ← List.replicate_succ']
              have hsz2 : (d ++ (⟨#[0]⟩ : ByteArray)).size = d.size + 1 := by rw [ByteArray.size_append]; rfl
              have HNX := Lib.hid hnx
              have HSZ2 := Lib.hid hsz2
              have HB5 := Lib.hid (HBQ.out.alloc HBQ.out.size (.cells #[.int .u8 0] 5))
              have HDS := Lib.hid hds
              clear hnx hsz2 hds
              go_wp2_with fail
              exact ⟨⟨q + 1, d ++ ⟨#[0]⟩, rfl, HNX.out, by have := HDS.out; omega, HB5.out⟩, by simp only [Lg.txtLen]; have := HSZ2.out; omega⟩
            · have h60i : ¬ (d.size : Int) < 60 := by omega
              have hdb : d.data.toList = Pt.body hs 32 t.data.toList i := by
                rw [HD.out, ← Lg.headOf_body, ← hLp, show q = 32 - Ln by omega]
              have CL := Lib.hid (r7Close_any wr d (by omega))
              rw [hdb] at CL
              obtain ⟨cb, hcb⟩ : ∃ x : ByteArray, x = ⟨(Dk.closed (Pt.body hs 32 t.data.toList i)).toArray⟩ := ⟨_, rfl⟩
              rw [← hcb] at CL
              have HCB := Lib.hid hcb
              have E := Lib.hid (LK.out i hlt)
              have hwl := HBL.out.size
              have hwq := HBQ.out.size
              clear hdb hcb hds
              go_wp2_with (first
                | (go_at_call 35; refine CL.out.mono ?_; rintro e w4 ⟨rfl, k4⟩)
                | (at_builtin
                   refine wpList_append_own _ rfl _ _ 30 rfl w.heap.size 9 i0 (.string ⟨#[]⟩) 1 16 Tryz.underlying30 hie hz0 hz1 hz2 rfl (by decide) _ _ _ rfl ((Dk.own_block (Dk.own_block HO.out (fun q hq => HBQ.out.block q (Dk.own_blk HO.out hq).2.1)) (fun q hq => k4.block q (by have := (Dk.own_blk HO.out hq).2.1; omega))).alloc _) ⟨w4.heap.size, 0, none⟩ 1 1 [.string cb] rfl rfl (Dk.new_text _ _) (by intro u hu; simp at hu; subst hu; rfl) (by unfold maxLen; omega) (by omega) (by have := k4.size; simp; omega) ?_
                   intro v' w5 hown' hgrow _))
              have hge : ∀ q, (Value.slice Av i cv).ownBlock = some q → w.heap.size ≤ q := fun q hq => (Dk.own_blk HO.out hq).1
              have b4 : Below w.heap.size w w4 := HBL.out.trans ((HBQ.out.trans (k4.mono hwq)).mono hwl)
              have hb5 : Below w.heap.size w w5 := (b4.alloc b4.size _).grown hgrow (by have := b4.size; simp; omega) hge
              have hl5 : (L.take (i + 1)).length = i + 1 := by rw [List.length_take, LL.out]; omega
              have ho5 : w5.ownsRow w.heap.size 9 1 v' (L.take (i + 1)).length ((L.take (i + 1)).map Dk.txt) := by
                rw [hl5, E.out, List.map_append, List.map_cons, List.map_nil, show Dk.txt (Dk.closed (Pt.body hs 32 t.data.toList i)) = .string cb from congrArg Value.string HCB.out.symm]
                exact hown'
              have HO5 := Lib.hid ho5
              have HB5 := Lib.hid hb5
              clear hge b4 hb5 hl5 ho5 hown' hgrow
              go_roundw
              case rel => exact ⟨i + 1, by push_cast; rfl, by omega, HO5.out, HB5.out⟩
              case measure => simp [intOf]; omega
    · have hki : ¬ (i : Int) < (P : Int) := by omega
      have hiP : i = P := by omega
      have htk : L.take i = L := List.take_of_length_le (by rw [LL.out]; omega)
      rw [htk] at HO ⊢
      have hne : L ≠ [] := fun e => by have := LL.out; rw [e] at this; simp at this; omega
      obtain ⟨A', c', e1, hcap, hs, hq⟩ := Kp.StrsAt.of_own HO.out hne
      simp only [Value.slice.injEq] at e1
      obtain ⟨rfl, -, rfl⟩ := e1
      rw [LL.out] at hcap
      rw [LL.out]
      have HS := Lib.hid hs
      have HCP := Lib.hid hcap
      have HQ : Hid (∀ q o, Av = some ⟨q, o, none⟩ → w.heap.size ≤ q) := fun q o e => hq q (by rw [e]; rfl)
      clear hs hcap hq hne htk hiP
      go_wp2
      go_ret
      exact ⟨_, _, rfl, HCP.out, HS.out, HQ.out, HBL.out⟩
end Go.Proofs.YtnmagfodjcookaaGreat
