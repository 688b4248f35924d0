/-
  PackReturns answers true for every list of items and every two texts, and turns nothing of what was there.
-/
import Derived.Test.YtecpcaphgnapoaaSame
namespace Go.Proofs.Ytecpcaphgnapoaa
open Go.RowKit Pk

set_option maxHeartbeats 8000000 in
theorem returns_some (w : World) (A : Option Addr) (c : Nat) (l : List It) (s t : ByteArray) (hgl : great l = false) (hol : ∀ a ∈ l, a.Ok) (hil : listAt w A l) (hs : s.size ≤ 30000) (ht : t.size ≤ 30000) :
    Calls Try.prog 6 #[.slice A l.length c, .string s, .string t] w fun e w' => e = .returned (.bool true) ∧ Below w.heap.size w w' := by
  obtain ⟨ll, tl⟩ := not_great hgl
  have H1 := great_any w A c l (by omega) (fun a ha => by have := (hol a ha).s; omega) hil
  rw [hgl] at H1
  have HG1 := Lib.hid H1
  have HW1 := Lib.hid (written_any w A c l ll hol hil)
  have HGL : Hid (Good (writtenL l)) := writtenL_ok hol
  have hll := writtenL_len l
  have htl := writtenL_total l
  have IL := Lib.hid hil
  have OL := Lib.hid hol
  have gs : ¬ (30000 : Int) < s.size := by omega
  have gt : ¬ (30000 : Int) < t.size := by omega
  clear H1 hgl hol hil
  go_enter Try.func6, Try.ntmps6
  go_wp2_with fail
  refine (HG1.out).mono ?_
  rintro e w1 ⟨rfl, rfl⟩
  go_wp2_with fail
  refine (HW1.out).mono ?_
  rintro e w1 ⟨A5, c5, rfl, hb1, hc5, hn5⟩
  have HN5 : Hid (newAt w1 w.heap.size A5 (writtenL l)) := hn5
  have HL5w := Lib.hid (HN5.out.list)
  clear hn5 HW1 HN5
  generalize writtenL l = la at *
  have hla := encs_len (l := la) (fun a ha => (HGL.out a ha).1)
  go_wp2_with fail
  refine (bytes_any A5 c5 la (fun a ha => (HGL.out a ha).1) HL5w.out (by omega)).mono ?_
  rintro e w6 ⟨rfl, hb6⟩
  have hLlim : (encs la).length ≤ 281474976710656 := by omega
  go_wp2_with fail
  refine (of_any ⟨(encs la).toArray⟩ _ (by show (encs la).toArray.size ≤ _; simpa using hLlim)).mono ?_
  rintro e w10 ⟨br, hbr, rfl, hin, hbo⟩
  have hbz : Below w1.heap.size w1 w10 := chainO hb6 (Nat.le_refl _) hbo
  have hbr2 : w1.heap.size ≤ br := Nat.le_trans hb6.size hbr
  have hbrlt := hin.lt
  have HOK := Lib.hid (rd_ok hLlim)
  clear hLlim hbr hbo hb6
  go_wp2_with fail
  go_loopw [9] (fun i wr => ∃ k : Nat, k ≤ la.length ∧ i = .int .i64 k ∧ inAt wr br ⟨⟨(encs la).toArray⟩, (encs (la.take k)).length, 0⟩ ∧ Below br w10 wr) (fun i _ => la.length - (intOf i).toNat)
  case atStart => exact ⟨0, Nat.zero_le _, rfl, by simpa [encs] using hin, Below.refl _ _⟩
  case round =>
    obtain ⟨k, hk, rfl, hink, hbk2⟩ := hrel
    have HIN := Lib.hid hink
    clear hink hin
    by_cases hlt : k < la.length
    · have hlt1 : (k : Int) < la.length := by omega
      rcases HL5w.out with h0 | ⟨b6, off6, rfl, hb6lt, hi6⟩
      · rw [h0] at hlt; simp at hlt
      · have hx := (hi6 k hlt).below (hbz.trans (hbk2.mono hbr2)) hb6lt
        have hxo := (HGL.out _ (List.getElem_mem hlt)).1
        have HST := Lib.hid (rd_step HGL.out hlt)
        have HX := Lib.hid hx
        have HI6 := Lib.hid hi6
        clear hx hi6
        generalize la[k] = x at *
        have hne : b6 ≠ br := by omega
        have s0 : (0 : Int) ≤ k := by omega
        have hd0 := HX.out
        obtain ⟨x0, x1, x2, x3, x4, x5⟩ := hd0
        go_wp2_with fail
        go_region_held3 (fun w' => w'.cell? ⟨b6, off6 + k * 6, none⟩ = some (.int .u8 x.d) ∧ w'.cell? ⟨b6, off6 + k * 6 + 1, none⟩ = some (.int .u64 x.n) ∧ w'.cell? ⟨b6, off6 + k * 6 + 2, none⟩ = some (.int .i64 x.i) ∧
            w'.cell? ⟨b6, off6 + k * 6 + 3, none⟩ = some (.string x.s) ∧ w'.cell? ⟨b6, off6 + k * 6 + 4, none⟩ = some (.int .u8 x.b) ∧ w'.cell? ⟨b6, off6 + k * 6 + 5, none⟩ = some (.int .i64 x.m))
          (first | exact HX.out | exact HY1.out | exact HY2.out | go_keep)
          ((first
            | (go_at_call 13; refine (read_eq x (by exact HIN.out) (HOK.out k) hxo HST.out).mono ?_; rintro e w15 ⟨rfl, hs15⟩; have HY1 := Lib.hid (itemAt.stp (by exact HX.out) hs15 hne); have HS15 := Lib.hid hs15; clear hs15)
            | (go_at_call 31; refine (bare_eq _ x hxo).mono ?_; rintro e w16 ⟨rfl, hs16⟩; have HY2 := Lib.hid (itemAt.low (by first | exact HY1.out | exact HX.out) hs16); have HS16 := Lib.hid hs16; clear hs16)))
        go_wp2_with fail
        go_roundw
        case rel =>
          refine ⟨k + 1, by omega, by go_num, HS15.out.inAt.below HS16.out, ?_⟩
          have g1 : Below br w10 w15 := by
            first
              | exact chainS hbk2.drew (Nat.le_of_lt hbrlt) HS15.out (Nat.le_refl _)
              | exact chainS hbk2 (Nat.le_of_lt hbrlt) HS15.out (Nat.le_refl _)
              | exact chainS (below_drewN hbk2 _) (Nat.le_of_lt hbrlt) HS15.out (Nat.le_refl _)
          exact chainO g1 (Nat.le_of_lt hbrlt) HS16.out
        case measure => simp [intOf]; omega
    · obtain rfl : k = la.length := by omega
      have hfin : Rd.fin ⟨⟨(encs la).toArray⟩, (encs (la.take la.length)).length, 0⟩ = 0 := by
        rw [List.take_length]
        unfold Rd.fin
        rw [if_neg (by simp), if_pos]
        show (encs la).drop (encs la).length = []
        exact List.drop_length
      have HF := Lib.hid hfin
      clear hfin
      go_wp2_with fail
      refine (fin_eq HIN.out (HOK.out _) HF.out).mono ?_
      rintro e w17 ⟨rfl, n17, rfl⟩
      have g1 : Below w.heap.size w (wr.drewN n17) := chainO hb1 (Nat.le_refl _) (below_drewN (hbz.trans (hbk2.mono hbr2)) n17)
      have hil := IL.out.low g1
      clear hbk2 hbz HL5w HIN HOK HF
      generalize wr.drewN n17 = wa at *
      go_wp2_with fail
      refine (of_any s _ (by omega)).mono ?_
      rintro e w20 ⟨ry, hry, rfl, hiny, hby⟩
      go_wp2_with fail
      refine (of_any t _ (by omega)).mono ?_
      rintro e w21 ⟨rz, hrz, rfl, hinz, hbz⟩
      have hyz : ry ≠ rz := by have := hiny.lt; omega
      have hyz2 : ry ≤ rz := by have := hiny.lt; omega
      have hya : wa.heap.size ≤ ry := hry
      have hinya := hiny.below hbz
      have hblt := hinya.lt
      have g2 : Below wa.heap.size wa w21 := chainO hby (Nat.le_refl _) hbz
      have HIL := Lib.hid hil
      clear hil hiny hby hbz hry hrz
      go_wp2_with fail
      go_loopw [12] (fun i wr => ∃ (k : Nat) (y z : Rd), k ≤ l.length ∧ i = .int .i64 k ∧ inAt wr ry y ∧ inAt wr rz z ∧ Alike s t y z ∧ Below ry w21 wr) (fun i _ => l.length - (intOf i).toNat)
      case atStart => exact ⟨0, _, _, Nat.zero_le _, rfl, hinya, hinz, alike_start (by omega) (by omega), Below.refl _ _⟩
      case round =>
        obtain ⟨k, y, z, hk, rfl, hy, hz, hal, hbk⟩ := hrel
        have HA := Lib.hid hal
        have HY := Lib.hid hy
        have HZ := Lib.hid hz
        have hzlt := hz.lt
        clear hal hy hz hinya hinz
        by_cases hlt : k < l.length
        · have hlt1 : (k : Int) < l.length := by omega
          rcases HIL.out with h0 | ⟨b6, off6, rfl, hb6lt, hi6⟩
          · rw [h0] at hlt; simp at hlt
          · have hx := (hi6 k hlt).below (g2.trans (hbk.mono hya)) hb6lt
            have hxo := OL.out _ (List.getElem_mem hlt)
            have HX := Lib.hid hx
            have HI6 := Lib.hid hi6
            clear hx hi6
            generalize l[k] = x at *
            obtain ⟨v1, y', hv1⟩ : ∃ v r', rdI y x = (v, r') := ⟨_, _, rfl⟩
            obtain ⟨v2, z', hv2⟩ : ∃ v r', rdI z x = (v, r') := ⟨_, _, rfl⟩
            have HV1 := Lib.hid hv1
            have HV2 := Lib.hid hv2
            clear hv1 hv2
            have hney : b6 ≠ ry := by omega
            have hnez : b6 ≠ rz := by omega
            have s0 : (0 : Int) ≤ k := by omega
            have hd0 := HX.out
            obtain ⟨x0, x1, x2, x3, x4, x5⟩ := hd0
            by_cases hv : v1 = v2
            · subst hv
              go_wp2_with fail
              go_region_held3 (fun w' => w'.cell? ⟨b6, off6 + k * 6, none⟩ = some (.int .u8 x.d) ∧ w'.cell? ⟨b6, off6 + k * 6 + 1, none⟩ = some (.int .u64 x.n) ∧ w'.cell? ⟨b6, off6 + k * 6 + 2, none⟩ = some (.int .i64 x.i) ∧
                  w'.cell? ⟨b6, off6 + k * 6 + 3, none⟩ = some (.string x.s) ∧ w'.cell? ⟨b6, off6 + k * 6 + 4, none⟩ = some (.int .u8 x.b) ∧ w'.cell? ⟨b6, off6 + k * 6 + 5, none⟩ = some (.int .i64 x.m))
                (first | exact HX.out | exact HY1.out | exact HY2.out | go_keep)
                ((first
                  | (go_at_call_of 13 (Value.pointer (some ⟨ry, 0, none⟩)); refine (read_eq x (by exact HY.out) (HA.out.2.2.1) hxo HV1.out).mono ?_; rintro e w15 ⟨rfl, hs15⟩; have HY1 := Lib.hid (itemAt.stp (by exact HX.out) hs15 hney); have HZ1 := Lib.hid (inAt.stp (by exact HZ.out) hs15 hyz.symm); have HS15 := Lib.hid hs15; clear hs15)
                  | (go_at_call_of 13 (Value.pointer (some ⟨rz, 0, none⟩)); refine (read_eq x (by exact HZ1.out) (HA.out.2.2.2.1) hxo HV2.out).mono ?_; rintro e w16 ⟨rfl, hs16⟩; have HY2 := Lib.hid (itemAt.stp (by exact HY1.out) hs16 hnez); have HYY := Lib.hid (inAt.stp HS15.out.inAt hs16 hyz); have HS16 := Lib.hid hs16; clear hs16)))
              go_wp2_with fail
              go_roundw
              case rel =>
                refine ⟨k + 1, y', z', by omega, by go_num, HYY.out, HS16.out.inAt, alike_step HA.out HV1.out HV2.out, ?_⟩
                have hwl : ry ≤ w21.heap.size := Nat.le_of_lt hblt
                have gy : Below ry w21 w15 := by
                  first
                    | exact chainS hbk.drew hwl HS15.out (Nat.le_refl _)
                    | exact chainS hbk hwl HS15.out (Nat.le_refl _)
                    | exact chainS (below_drewN hbk _) hwl HS15.out (Nat.le_refl _)
                have gz : Below ry w21 w16 := chainS gy hwl HS16.out hyz2
                exact gz
              case measure => simp [intOf]; omega
            · obtain ⟨d1, n1, i1, s1, bb1, m1⟩ := v1
              obtain ⟨d2, n2, i2, s2, bb2, m2⟩ := v2
              have hdif := rd_differ HV1.out HV2.out hv
              clear hv
              obtain ⟨rfl, rfl, hdif⟩ := hdif
              have hf : ((((n1 : Int) == (n2 : Int)) = false ∧ i2 = i1 ∧ s2 = s1 ∧ bb2 = bb1) ∨ (n2 = n1 ∧ (i1 == i2) = false ∧ s2 = s1 ∧ bb2 = bb1) ∨ (n2 = n1 ∧ i2 = i1 ∧ (s1.toList == s2.toList) = false ∧ bb2 = bb1) ∨ (n2 = n1 ∧ i2 = i1 ∧ s2 = s1 ∧ ((bb1 : Int) == (bb2 : Int)) = false)) := by
                rcases hdif with ⟨h, h1, h2, h3⟩ | ⟨h1, h, h2, h3⟩ | ⟨h1, h2, h, h3⟩ | ⟨h1, h2, h3, h⟩
                · exact .inl ⟨by rw [beq_eq_false_iff_ne]; omega, h1, h2, h3⟩
                · exact .inr (.inl ⟨h1, by rw [beq_eq_false_iff_ne]; exact h, h2, h3⟩)
                · refine .inr (.inr (.inl ⟨h1, h2, ?_, h3⟩))
                  rw [beq_eq_false_iff_ne, Lib.toList_data, Lib.toList_data]
                  exact fun e => h (ByteArray.ext (Array.ext' e))
                · exact .inr (.inr (.inr ⟨h1, h2, h3, by rw [beq_eq_false_iff_ne]; omega⟩))
              clear hdif
              rcases hf with ⟨hf, rfl, rfl, rfl⟩ | ⟨rfl, hf, rfl, rfl⟩ | ⟨rfl, rfl, hf, rfl⟩ | ⟨rfl, rfl, rfl, hf⟩
              all_goals
                go_wp2_with fail
                go_region_held3 (fun w' => w'.cell? ⟨b6, off6 + k * 6, none⟩ = some (.int .u8 x.d) ∧ w'.cell? ⟨b6, off6 + k * 6 + 1, none⟩ = some (.int .u64 x.n) ∧ w'.cell? ⟨b6, off6 + k * 6 + 2, none⟩ = some (.int .i64 x.i) ∧
                    w'.cell? ⟨b6, off6 + k * 6 + 3, none⟩ = some (.string x.s) ∧ w'.cell? ⟨b6, off6 + k * 6 + 4, none⟩ = some (.int .u8 x.b) ∧ w'.cell? ⟨b6, off6 + k * 6 + 5, none⟩ = some (.int .i64 x.m))
                  (first | exact HX.out | exact HY1.out | exact HY2.out | go_keep)
                  ((first
                    | (go_at_call_of 13 (Value.pointer (some ⟨ry, 0, none⟩)); refine (read_eq x (by exact HY.out) (HA.out.2.2.1) hxo HV1.out).mono ?_; rintro e w15 ⟨rfl, hs15⟩; have HY1 := Lib.hid (itemAt.stp (by exact HX.out) hs15 hney); have HZ1 := Lib.hid (inAt.stp (by exact HZ.out) hs15 hyz.symm); have HS15 := Lib.hid hs15; clear hs15)
                    | (go_at_call_of 13 (Value.pointer (some ⟨rz, 0, none⟩)); refine (read_eq x (by exact HZ1.out) (HA.out.2.2.2.1) hxo HV2.out).mono ?_; rintro e w16 ⟨rfl, hs16⟩; have HY2 := Lib.hid (itemAt.stp (by exact HY1.out) hs16 hnez); have HYY := Lib.hid (inAt.stp HS15.out.inAt hs16 hyz); have HS16 := Lib.hid hs16; clear hs16)))
                go_wp2_with fail
                refine (wakes_any _).mono ?_
                rintro e w18 ⟨rfl, hb18⟩
                go_wp2
                go_ret
                have hwl : ry ≤ w21.heap.size := Nat.le_of_lt hblt
                have gy : Below ry w21 w15 := by
                  first
                    | exact chainS hbk.drew hwl HS15.out (Nat.le_refl _)
                    | exact chainS hbk hwl HS15.out (Nat.le_refl _)
                    | exact chainS (below_drewN hbk _) hwl HS15.out (Nat.le_refl _)
                have gz : Below ry w21 w16 := chainS gy hwl HS16.out hyz2
                exact ⟨rfl, chainO (g1.trans ((g2.trans (gz.mono hya)).mono g1.size)) (Nat.le_refl _) hb18⟩
        · obtain rfl : k = l.length := by omega
          by_cases hfy : y.fin = 0
          · have HFY := Lib.hid hfy
            by_cases hfz : z.fin = 0
            · have HFZ := Lib.hid hfz
              have hst := alike_end HA.out hfy hfz
              clear hfy hfz
              subst hst
              go_wp2_with fail
              refine (fin_eq HY.out HA.out.2.2.1 HFY.out).mono ?_
              rintro e w30 ⟨rfl, n30, rfl⟩
              go_wp2_with fail
              refine (fin_eq (HZ.out.drewN n30) HA.out.2.2.2.1 HFZ.out).mono ?_
              rintro e w31 ⟨rfl, n31, rfl⟩
              go_wp2_with fail
              have gw : Below w.heap.size w (wr.drewN (n30 + n31)) := below_drewN (g1.trans ((g2.trans (hbk.mono hya)).mono g1.size)) _
              refine (wakes_any _).mono ?_
              rintro e w32 ⟨rfl, hb32⟩
              go_wp2
              go_ret
              exact ⟨rfl, chainO gw (Nat.le_refl _) hb32⟩
            · clear hfy
              have e1 : ((z.fin : Int) == 0) = false := by rw [beq_eq_false_iff_ne]; omega
              have e2 : ¬ ((z.fin : Int) = 0) := by omega
              clear hfz
              go_wp2_with fail
              refine (fin_eq HY.out HA.out.2.2.1 HFY.out).mono ?_
              rintro e w30 ⟨rfl, n30, rfl⟩
              go_wp2_with fail
              refine (fin_eq (HZ.out.drewN n30) HA.out.2.2.2.1 rfl).mono ?_
              rintro e w31 ⟨rfl, n31, rfl⟩
              go_wp2_with fail
              have gw : Below w.heap.size w (wr.drewN (n30 + n31)) := below_drewN (g1.trans ((g2.trans (hbk.mono hya)).mono g1.size)) _
              refine (wakes_any _).mono ?_
              rintro e w32 ⟨rfl, hb32⟩
              go_wp2
              go_ret
              exact ⟨rfl, chainO gw (Nat.le_refl _) hb32⟩
          · skip
            have e1 : ((y.fin : Int) == 0) = false := by rw [beq_eq_false_iff_ne]; omega
            have e2 : ¬ ((y.fin : Int) = 0) := by omega
            clear hfy
            go_wp2_with fail
            refine (fin_eq HY.out HA.out.2.2.1 rfl).mono ?_
            rintro e w30 ⟨rfl, n30, rfl⟩
            go_wp2_with fail
            have gw : Below w.heap.size w (wr.drewN n30) := below_drewN (g1.trans ((g2.trans (hbk.mono hya)).mono g1.size)) _
            refine (wakes_any _).mono ?_
            rintro e w32 ⟨rfl, hb32⟩
            go_wp2
            go_ret
            exact ⟨rfl, chainO gw (Nat.le_refl _) hb32⟩
end Go.Proofs.Ytecpcaphgnapoaa
