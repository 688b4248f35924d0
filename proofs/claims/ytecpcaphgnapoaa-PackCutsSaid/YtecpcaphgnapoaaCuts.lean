/-
  PackCuts answers true for every list of items and every cut, and turns nothing of what was there.
-/
import Derived.Test.YtecpcaphgnapoaaCutMath
namespace Go.Proofs.Ytecpcaphgnapoaa
open Go.RowKit Pk

theorem rem_bd (cut : Int) (n : Nat) : -((n : Int)) ≤ cut.tmod ((n : Int) + 1) ∧ cut.tmod ((n : Int) + 1) ≤ n := by
  rcases Int.le_total 0 cut with h | h
  · have h1 := Int.tmod_lt_of_pos cut (b := (n : Int) + 1) (by omega)
    have h2 := Int.tmod_nonneg ((n : Int) + 1) h
    omega
  · have h1 := Int.tmod_lt_of_pos (-cut) (b := (n : Int) + 1) (by omega)
    have h2 := Int.tmod_nonneg ((n : Int) + 1) (a := -cut) (by omega)
    rw [Int.neg_tmod] at h1 h2
    omega

def aAt (w : World) (b : Nat) (v : It) : Prop :=
  w.cell? ⟨b, 0, none⟩ = some (.int .u8 v.d) ∧ w.cell? ⟨b, 1, none⟩ = some (.int .u64 v.n) ∧ w.cell? ⟨b, 2, none⟩ = some (.int .i64 v.i) ∧
  w.cell? ⟨b, 3, none⟩ = some (.string v.s) ∧ w.cell? ⟨b, 4, none⟩ = some (.int .u8 v.b) ∧ w.cell? ⟨b, 5, none⟩ = some (.int .i64 v.m)
theorem aAt_of {w : World} {b : Nat} {v : It} (h : w.heap[b]? = some (.cells #[.int .u8 v.d, .int .u64 v.n, .int .i64 v.i, .string v.s, .int .u8 v.b, .int .i64 v.m] 24 (0, 0))) : aAt w b v :=
  ⟨cells_of h 0 _ rfl, cells_of h 1 _ rfl, cells_of h 2 _ rfl, cells_of h 3 _ rfl, cells_of h 4 _ rfl, cells_of h 5 _ rfl⟩
theorem aAt_low {w w' : World} {b : Nat} {v : It} (h : aAt w b v) (k : Below w.heap.size w w') (hb : b < w.heap.size) : aAt w' b v := by
  have e : ∀ x, w'.cell? ⟨b, x, none⟩ = w.cell? ⟨b, x, none⟩ := fun x => k.cell (p := ⟨b, x, none⟩) hb
  unfold aAt
  simp only [e]
  exact h
theorem join12 {w : World} {b o ba : Nat} {x v : It} (h : itemAt w b o x) (k : aAt w ba v) :
    w.cell? ⟨b, o, none⟩ = some (.int .u8 x.d) ∧ w.cell? ⟨b, o + 1, none⟩ = some (.int .u64 x.n) ∧ w.cell? ⟨b, o + 2, none⟩ = some (.int .i64 x.i) ∧
    w.cell? ⟨b, o + 3, none⟩ = some (.string x.s) ∧ w.cell? ⟨b, o + 4, none⟩ = some (.int .u8 x.b) ∧ w.cell? ⟨b, o + 5, none⟩ = some (.int .i64 x.m) ∧ aAt w ba v :=
  ⟨h.1, h.2.1, h.2.2.1, h.2.2.2.1, h.2.2.2.2.1, h.2.2.2.2.2, k⟩

set_option maxHeartbeats 8000000 in
set_option maxRecDepth 100000 in
theorem cuts_some (w : World) (A : Option Addr) (c : Nat) (l : List It) (cut : Int) (hcb : -9223372036854775808 ≤ cut ∧ cut ≤ 9223372036854775807) (hgl : great l = false) (hol : ∀ a ∈ l, a.Ok) (hil : listAt w A l) :
    Calls Try.prog 7 #[.slice A l.length c, .int .i64 cut] w fun e w' => e = .returned (.bool true) ∧ Below w.heap.size w w' := by
  obtain ⟨ll, tl⟩ := not_great hgl
  have H1 := great_any w A c l (by omega) (fun a ha => by have := (hol a ha).s; omega) hil
  rw [hgl] at H1
  have HG1 := Lib.hid H1
  have HW1 := Lib.hid (written_any w A c l ll hol hil)
  have HGL : Hid (Good (writtenL l)) := writtenL_ok hol
  have hll := writtenL_len l
  have htl := writtenL_total l
  obtain ⟨hcb1, hcb2⟩ := hcb
  clear H1 hgl hol hil
  go_enter Try.func7, Try.ntmps7
  go_wp2_with fail
  refine (HG1.out).mono ?_
  rintro e w1 ⟨rfl, rfl⟩
  go_wp2_with fail
  refine (HW1.out).mono ?_
  rintro e w1 ⟨A5, c5, rfl, hb1, hc5, hn5⟩
  have HN5 : Hid (newAt w1 w.heap.size A5 (writtenL l)) := hn5
  have HL5w := Lib.hid (HN5.out.list)
  clear hn5 HW1 HN5
  generalize writtenL l = la at *
  have hla := encs_len (l := la) (fun a ha => (HGL.out a ha).1)
  go_wp2_with fail
  refine (bytes_any A5 c5 la (fun a ha => (HGL.out a ha).1) HL5w.out (by omega)).mono ?_
  rintro e w6 ⟨rfl, hb6⟩
  have hLlim : (encs la).length ≤ 40000 := by omega
  have hrem := rem_bd cut (encs la).length
  obtain ⟨q, hq⟩ : ∃ q, cut.tmod (((encs la).length : Int) + 1) = q := ⟨_, rfl⟩
  rw [hq] at hrem
  obtain ⟨hq1, hq2⟩ := hrem
  have hex : ∀ kk, (ByteArray.mk (encs la).toArray).extract 0 kk = ⟨((encs la).take kk).toArray⟩ := by
    intro kk
    apply ByteArray.ext
    apply Array.ext'
    rw [Lib.extract_data]
    simp
  have HEX := Lib.hid hex
  clear hex
  have hcase : q < 0 ∨ 0 ≤ q := by omega
  rcases hcase with hneg | hneg
  case' inl =>
    go_wp2_with fail
    obtain ⟨kk, hkk⟩ : ∃ kk : Nat, q + ((encs la).length : Int) + 1 = kk := ⟨(q + ((encs la).length : Int) + 1).toNat, by omega⟩
    have hkl : kk ≤ (encs la).length := by omega
    rw [hkk, Int.toNat_natCast, HEX.out]
    clear hq hq1 hq2 hkk hneg
  case' inr =>
    obtain ⟨kk, rfl⟩ := Int.eq_ofNat_of_zero_le hneg
    have hkl : kk ≤ (encs la).length := by omega
    go_wp2_with fail
    rw [HEX.out]
    clear hq hq1 hq2 hneg
  all_goals
    have hSlim : (ByteArray.mk ((encs la).take kk).toArray).size ≤ 281474976710656 := by show ((encs la).take kk).toArray.size ≤ _; simp; omega
    refine (of_any ⟨((encs la).take kk).toArray⟩ _ hSlim).mono ?_
    rintro e w10 ⟨br, hbr, rfl, hin, hbo⟩
    have hbz : Below w1.heap.size w1 w10 := chainO hb6 (Nat.le_refl _) hbo
    have hbr2 : w1.heap.size ≤ br := Nat.le_trans hb6.size hbr
    have hbrlt := hin.lt
    have HSL := Lib.hid hSlim
    have HLW := Lib.hid (show ∀ p f, (Rd.rest ⟨⟨((encs la).take kk).toArray⟩, p, f⟩).length = kk - p from fun p f => cut_left hkl)
    clear hSlim hbr hbo hb6
    go_wp2_with fail
    go_loopw [9, 10] (fun a i wr => ∃ (k p : Nat), k ≤ la.length ∧ i = .int .i64 k ∧ a = .int .i64 p ∧ p ≤ kk ∧ Hid (p = (encs (la.take k)).length) ∧ inAt wr br ⟨⟨((encs la).take kk).toArray⟩, p, 0⟩ ∧ Below br w10 wr) (fun _ i _ => la.length - (intOf i).toNat)
    case atStart => exact ⟨0, 0, Nat.zero_le _, rfl, rfl, Nat.zero_le _, rfl, hin, Below.refl _ _⟩
    case round =>
      obtain ⟨k, p, hk, rfl, rfl, hpk, hp, hink, hbk⟩ := hrel
      have HIN := Lib.hid hink
      clear hink hin
      have HOK : Hid (∀ f, f ≤ 8 → Rd.Ok ⟨⟨((encs la).take kk).toArray⟩, p, f⟩) := fun f hf => ⟨by show p ≤ ((encs la).take kk).toArray.size; simp; omega, hf, HSL.out⟩
      by_cases hlt : k < la.length
      · have hlt1 : (k : Int) < la.length := by omega
        rcases HL5w.out with h0 | ⟨b6, off6, rfl, hb6lt, hi6⟩
        · rw [h0] at hlt; simp at hlt
        · have hx := (hi6 k hlt).below (hbz.trans (hbk.mono hbr2)) hb6lt
          have hxo := (HGL.out _ (List.getElem_mem hlt)).1
          have hxs : la[k].s.size ≤ 30000 := by have := mem_total (List.getElem_mem hlt); omega
          have HW := Lib.hid (fun h => @cut_whole la HGL.out k kk hlt h)
          have HSH := Lib.hid (fun h h' => @cut_short la HGL.out k kk hlt h h')
          have het := encs_take hlt
          have hel := congrArg List.length het
          rw [List.length_append] at hel
          have HEL := Lib.hid hel
          clear hel het
          have HX := Lib.hid hx
          have HI6 := Lib.hid hi6
          clear hx hi6
          generalize la[k] = x at *
          have hne : b6 ≠ br := by omega
          have s0 : (0 : Int) ≤ k := by omega
          have s1 : (k : Int) ≤ k + 1 := by omega
          have s2 : (k : Int) + 1 ≤ c5 := by omega
          have hd0 := HX.out
          have hb6w := World.block_lt_of_cell? wr _ hd0.1
          have hxl := encI_len hxo
          clear hd0
          go_wp2_with fail
          refine (bytes_any (some ⟨b6, off6 + k * 6, none⟩) (c5 - k) [x] (by simpa using hxo) (.inr ⟨b6, off6 + k * 6, rfl, hb6w, HX.out.single⟩) (by simp [total]; omega)).mono ?_
          rintro e w11 ⟨rfl, hb11⟩
          have HIN11 := Lib.hid (HIN.out.below hb11)
          have hx11 := HX.out.low hb11
          have HX11 := Lib.hid hx11
          obtain ⟨x0, x1, x2, x3, x4, x5⟩ := hx11
          have e1 : encs [x] = encI x := by simp [encs]
          rw [e1]
          have hbk11 : Below br w10 w11 := chainO hbk (Nat.le_of_lt hbrlt) hb11
          clear e1 hb11
          by_cases hw : p + (encI x).length ≤ kk
          · have hwi : (p : Int) + (encI x).length ≤ kk := by omega
            have hrd := HW.out (by rw [← hp.out]; exact hw)
            rw [← hp.out, HEL.out, ← hp.out] at hrd
            have HR := Lib.hid hrd
            clear hrd
            go_wp2_with fail
            refine (read_eq x HIN11.out (HOK.out 0 (by omega)) hxo HR.out).mono ?_
            rintro e w12 ⟨rfl, hs12⟩
            have hbk12 : Below br w10 w12 := chainS hbk11 (Nat.le_of_lt hbrlt) hs12 (Nat.le_refl _)
            have hx12 := HX11.out.stp hs12 hne
            have HIN12 := Lib.hid hs12.inAt
            clear x0 x1 x2 x3 x4 x5 hs12
            go_wp2_with fail
            have hba : Below w12.heap.size w12 (w12.alloc (.cells #[.int .u8 (bareI x).d, .int .u64 (bareI x).n, .int .i64 (bareI x).i, .string (bareI x).s, .int .u8 (bareI x).b, .int .i64 (bareI x).m] 24)) := (Below.refl _ _).alloc (Nat.le_refl _) _
            have hAA := heap_alloc_new w12 (.cells #[.int .u8 (bareI x).d, .int .u64 (bareI x).n, .int .i64 (bareI x).i, .string (bareI x).s, .int .u8 (bareI x).b, .int .i64 (bareI x).m] 24)
            have hx13 := hx12.low hba
            have HIN13 := Lib.hid (HIN12.out.below hba)
            have hbk13 : Below br w10 _ := chainO hbk12 (Nat.le_of_lt hbrlt) hba
            generalize (w12.alloc (.cells #[.int .u8 (bareI x).d, .int .u64 (bareI x).n, .int .i64 (bareI x).i, .string (bareI x).s, .int .u8 (bareI x).b, .int .i64 (bareI x).m] 24)) = w13 at *
            have HA13 := Lib.hid (aAt_of hAA)
            have HX13 := Lib.hid hx13
            have hA13 := HA13.out
            obtain ⟨x0, x1, x2, x3, x4, x5⟩ := hx13
            obtain ⟨a0, a1, a2, a3, a4, a5⟩ := hA13
            have hasz := (Array.getElem?_eq_some_iff.1 hAA).1
            clear hba hAA hx12
            refine (fault_eq HIN13.out (f := 0) (p := 0) rfl).mono ?_
            rintro e w14 ⟨rfl, n14, rfl⟩
            obtain ⟨lf, hlf⟩ : ∃ lf, kk - (p + (encI x).length) = lf := ⟨_, rfl⟩
            have HLF := Lib.hid ((HLW.out (p + (encI x).length) 0).trans hlf)
            have hlfi : (lf : Int) = kk - ((p : Int) + (encI x).length) := by omega
            have HOK2 : Hid (Rd.Ok ⟨⟨((encs la).take kk).toArray⟩, p + (encI x).length, 0⟩) := ⟨by show p + (encI x).length ≤ ((encs la).take kk).toArray.size; simp; omega, Nat.zero_le _, HSL.out⟩
            clear hlf
            have hwr : IntKind.i64.wrap ((kk : Int) - ((p : Int) + (encI x).length)) = (kk : Int) - ((p : Int) + (encI x).length) := IntWalk.i64_in _ (by omega)
            have HWR := Lib.hid hwr
            clear hwr
            go_wp2_with fail
            have hwr := HWR.out
            go_region_held3 (fun w' => w'.cell? ⟨b6, off6 + k * 6, none⟩ = some (.int .u8 x.d) ∧ w'.cell? ⟨b6, off6 + k * 6 + 1, none⟩ = some (.int .u64 x.n) ∧ w'.cell? ⟨b6, off6 + k * 6 + 2, none⟩ = some (.int .i64 x.i) ∧
        w'.cell? ⟨b6, off6 + k * 6 + 3, none⟩ = some (.string x.s) ∧ w'.cell? ⟨b6, off6 + k * 6 + 4, none⟩ = some (.int .u8 x.b) ∧ w'.cell? ⟨b6, off6 + k * 6 + 5, none⟩ = some (.int .i64 x.m) ∧
        w'.cell? ⟨w12.heap.size, 0, none⟩ = some (.int .u8 (bareI x).d) ∧ w'.cell? ⟨w12.heap.size, 1, none⟩ = some (.int .u64 (bareI x).n) ∧ w'.cell? ⟨w12.heap.size, 2, none⟩ = some (.int .i64 (bareI x).i) ∧
        w'.cell? ⟨w12.heap.size, 3, none⟩ = some (.string (bareI x).s) ∧ w'.cell? ⟨w12.heap.size, 4, none⟩ = some (.int .u8 (bareI x).b) ∧ w'.cell? ⟨w12.heap.size, 5, none⟩ = some (.int .i64 (bareI x).m))
              (first | exact join12 HX13.out HA13.out | exact join12 HY2.out HB2.out | go_keep)
              ((first
                | (go_at_call 31; refine (bare_eq _ x hxo).mono ?_; rintro e w16 ⟨rfl, hs16⟩; have HY2 := Lib.hid (itemAt.low (by exact HX13.out) hs16); have HB2 := Lib.hid (aAt_low (by exact HA13.out) hs16 hasz); have HI16 := Lib.hid (inAt.below (by exact HIN13.out) hs16); have HS16 := Lib.hid hs16; clear hs16)
                | (go_at_call 18; refine (left_eq (by exact HI16.out) HOK2.out HLF.out).mono ?_; rintro e w17 ⟨rfl, n17, rfl⟩)))
            go_wp2_with fail
            go_roundw
            case rel =>
              have g16 : Below br w10 w16 := by
                first
                  | exact chainO (below_drewN hbk13 n14).drew (Nat.le_of_lt hbrlt) HS16.out
                  | exact chainO (below_drewN hbk13 (n14 + 1)) (Nat.le_of_lt hbrlt) HS16.out
                  | exact chainO (below_drewN hbk13 n14) (Nat.le_of_lt hbrlt) HS16.out
              exact ⟨k + 1, p + (encI x).length, by omega, by go_num, by go_num, hw, by show _ = _; rw [HEL.out, ← hp.out], by first | exact HI16.out | exact HI16.out.drewN _, by first | exact g16 | exact below_drewN g16 _⟩
            case measure => simp [intOf]; omega
          · have hwi : ¬ (p : Int) + (encI x).length ≤ kk := by omega
            have hrd := HSH.out (by rw [← hp.out]; exact hpk) (by rw [← hp.out]; exact hw)
            rw [← hp.out] at hrd
            have HR := Lib.hid hrd
            have hff : (⟨⟨((encs la).take kk).toArray⟩, p, 7⟩ : Rd).f ≠ 0 := by simp
            have HFF := Lib.hid hff
            clear hrd hff
            go_wp2_with fail
            refine (read_eq x HIN11.out (HOK.out 0 (by omega)) hxo HR.out).mono ?_
            rintro e w12 ⟨rfl, hs12⟩
            have hbk12 : Below br w10 w12 := chainS hbk11 (Nat.le_of_lt hbrlt) hs12 (Nat.le_refl _)
            have HIN12 := Lib.hid hs12.inAt
            clear x0 x1 x2 x3 x4 x5 hs12
            go_wp2_with fail
            have hO := HOK.out 7 (by omega)
            refine (fault_eq (HIN12.out.below ((Below.refl _ _).alloc (Nat.le_refl _) _)) (f := 7) (p := p) rfl).mono ?_
            rintro e w14 ⟨rfl, n14, rfl⟩
            obtain ⟨lf, hlf⟩ : ∃ lf, kk - p = lf := ⟨_, rfl⟩
            have HLF := Lib.hid ((HLW.out p 7).trans hlf)
            have hlfi : (lf : Int) = kk - (p : Int) := by omega
            clear hlf
            go_wp2_with fail
            refine (left_eq ((HIN12.out.below ((Below.refl _ _).alloc (Nat.le_refl _) _)).drewN n14) hO HLF.out).mono ?_
            rintro e w15 ⟨rfl, n15, rfl⟩
            go_wp2_with fail
            refine (num_eq ((HIN12.out.below ((Below.refl _ _).alloc (Nat.le_refl _) _)).drewN (n14 + n15)) hO (fail_num HFF.out)).mono ?_
            rintro e w16 ⟨rfl, hs16⟩
            have g16 : Below br w10 w16 := chainS (below_drewN (hbk12.alloc (Nat.le_trans (Nat.le_of_lt hbrlt) hbk12.size) _) (n14 + n15)) (Nat.le_of_lt hbrlt) hs16 (Nat.le_refl _)
            go_wp2_with fail
            refine (int_eq hs16.inAt hO (fail_num HFF.out) (i := 0) (by simp [zag])).mono ?_
            rintro e w17 ⟨rfl, hs17⟩
            have g17 := chainS g16 (Nat.le_of_lt hbrlt) hs17 (Nat.le_refl _)
            go_wp2_with fail
            refine (byte_eq hs17.inAt hO (fail_byte HFF.out)).mono ?_
            rintro e w18 ⟨rfl, hs18⟩
            have g18 := chainS g17 (Nat.le_of_lt hbrlt) hs18 (Nat.le_refl _)
            go_wp2_with fail
            refine (text_eq hs18.inAt hO (by omega) (fail_text HFF.out 9)).mono ?_
            rintro e w19 ⟨rfl, hs19⟩
            have g19 := chainS g18 (Nat.le_of_lt hbrlt) hs19 (Nat.le_refl _)
            go_wp2_with fail
            refine (most_eq hs19.inAt hO (by omega) (fail_most HFF.out 9)).mono ?_
            rintro e w20 ⟨rfl, hs20⟩
            have g20 := chainS g19 (Nat.le_of_lt hbrlt) hs20 (Nat.le_refl _)
            go_wp2_with fail
            refine (left_eq hs20.inAt hO HLF.out).mono ?_
            rintro e w21 ⟨rfl, n21, rfl⟩
            go_wp2_with fail
            refine (fin_eq (f := 7) (hs20.inAt.drewN n21) hO rfl).mono ?_
            rintro e w22 ⟨rfl, n22, rfl⟩
            go_wp2_with fail
            refine (wakes_any _).mono ?_
            rintro e w23 ⟨rfl, hb23⟩
            go_wp2
            go_ret
            have g22 : Below w1.heap.size w1 (w20.drewN (n21 + n22)) := below_drewN (hbz.trans (g20.mono hbr2)) _
            exact ⟨rfl, chainO (chainO hb1 (Nat.le_refl _) g22) (Nat.le_refl _) hb23⟩
      · obtain rfl : k = la.length := by omega
        have hpe := hp.out
        rw [List.take_length] at hpe
        have hfin : Rd.fin ⟨⟨((encs la).take kk).toArray⟩, p, 0⟩ = 0 := by
          unfold Rd.fin
          rw [if_neg (by simp), if_pos]
          have h := HLW.out p 0
          exact List.eq_nil_of_length_eq_zero (by rw [h]; omega)
        have HF := Lib.hid hfin
        clear hfin hpe
        go_wp2_with fail
        refine (fin_eq HIN.out (HOK.out 0 (by omega)) HF.out).mono ?_
        rintro e w22 ⟨rfl, n22, rfl⟩
        go_wp2_with fail
        refine (wakes_any _).mono ?_
        rintro e w23 ⟨rfl, hb23⟩
        go_wp2
        go_ret
        have g22 : Below w1.heap.size w1 (wr.drewN n22) := below_drewN (hbz.trans (hbk.mono hbr2)) _
        exact ⟨rfl, chainO (chainO hb1 (Nat.le_refl _) g22) (Nat.le_refl _) hb23⟩
end Go.Proofs.Ytecpcaphgnapoaa
