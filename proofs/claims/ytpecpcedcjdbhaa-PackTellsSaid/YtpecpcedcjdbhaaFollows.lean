/-
  PackFollows answers true for every two lists of items, and turns nothing of what was there.
-/
import Derived.Test.YtpecpcedcjdbhaaBack
import Derived.Test.YtpecpcedcjdbhaaOpen
import Derived.Deep.RegionHeld3
namespace Go.Proofs.Ytpecpcedcjdbhaa
open Go.RowKit Pk

theorem itemAt.stp {w w' : World} {b o br : Nat} {a : It} {r : Rd} (h : itemAt w b o a) (k : Stp w w' br r) (hne : b ≠ br) : itemAt w' b o a := by
  have e : ∀ x v, w.cell? ⟨b, x, none⟩ = some v → w'.cell? ⟨b, x, none⟩ = some v := fun x v hx => k.grown.cell (a := ⟨b, x, none⟩) hx (fun e => hne (Option.some.inj e))
  obtain ⟨c0, c1, c2, c3, c4, c5⟩ := h
  exact ⟨e _ _ c0, e _ _ c1, e _ _ c2, e _ _ c3, e _ _ c4, e _ _ c5⟩
theorem itemAt.low {w w' : World} {b o : Nat} {a : It} (h : itemAt w b o a) (k : Below w.heap.size w w') : itemAt w' b o a :=
  h.below k (World.block_lt_of_cell? w _ h.1)

/-- Items that lie in memory, of a list that was made behind block number B. -/
def newAt (w : World) (B : Nat) (A : Option Addr) (l : List It) : Prop := l = [] ∨ ∃ b off, A = some ⟨b, off, none⟩ ∧ B ≤ b ∧ b < w.heap.size ∧ itemsAt w b off l
theorem newAt.list {w : World} {B : Nat} {A : Option Addr} {l : List It} (h : newAt w B A l) : listAt w A l := by
  rcases h with h | ⟨b, off, h1, _, h2, h3⟩
  · exact .inl h
  · exact .inr ⟨b, off, h1, h2, h3⟩
theorem listAt.low {w w' : World} {A : Option Addr} {l : List It} (h : listAt w A l) (k : Below w.heap.size w w') : listAt w' A l := by
  rcases h with h | ⟨b, off, h1, h2, h3⟩
  · exact .inl h
  · exact .inr ⟨b, off, h1, Nat.lt_of_lt_of_le h2 k.size, h3.below k h2⟩
theorem listAt.drewN {w : World} {A : Option Addr} {l : List It} (h : listAt w A l) (n : Nat) : listAt (w.drewN n) A l := h
theorem listAt.lt {w : World} {A : Option Addr} {l : List It} (h : listAt w A l) : l = [] ∨ ∃ b off, A = some ⟨b, off, none⟩ ∧ b < w.heap.size ∧ itemsAt w b off l := h
theorem listAt.from {w w' : World} {A : Option Addr} {l : List It} {B : Nat} (h : listAt w A l) (hB : w.heap.size ≤ B) (k : Below B w w') : listAt w' A l := h.low (k.mono hB)

theorem read_eq {w : World} {b : Nat} {r r' : Rd} {v : It} (a : It) (hin : inAt w b r) (hr : r.Ok) (ha : a.Ok) (h : rdI r a = (v, r')) :
    Calls Try.prog 13 #[.pointer (some ⟨b, 0, none⟩), .agg #[.int .u8 a.d, .int .u64 a.n, .int .i64 a.i, .string a.s, .int .u8 a.b, .int .i64 a.m]] w fun e w' =>
      e = .returned (.agg #[.int .u8 v.d, .int .u64 v.n, .int .i64 v.i, .string v.s, .int .u8 v.b, .int .i64 v.m]) ∧ Stp w w' b r' := by
  have := read_in hin hr a ha
  rw [h] at this
  exact this
theorem bare_eq (w : World) (a : It) (ha : a.Ok) :
    Calls Try.prog 31 #[.agg #[.int .u8 a.d, .int .u64 a.n, .int .i64 a.i, .string a.s, .int .u8 a.b, .int .i64 a.m]] w fun e w' =>
      e = .returned (.agg #[.int .u8 (bareI a).d, .int .u64 (bareI a).n, .int .i64 (bareI a).i, .string (bareI a).s, .int .u8 (bareI a).b, .int .i64 (bareI a).m]) ∧ Below w.heap.size w w' :=
  bare_any w a ha

set_option maxHeartbeats 8000000 in
theorem follows_some (w : World) (A A' : Option Addr) (c c' : Nat) (l m : List It) (hgl : great l = false) (hgm : great m = false) (hol : ∀ a ∈ l, a.Ok) (hom : ∀ a ∈ m, a.Ok) (hil : listAt w A l) (him : listAt w A' m) :
    Calls Try.prog 8 #[.slice A l.length c, .slice A' m.length c'] w fun e w' => e = .returned (.bool true) ∧ Below w.heap.size w w' := by
  obtain ⟨ll, tl⟩ := not_great hgl
  obtain ⟨lm, tm⟩ := not_great hgm
  have H1 := great_any w A c l (by omega) (fun a ha => by have := (hol a ha).s; omega) hil
  have H2 := great_any w A' c' m (by omega) (fun a ha => by have := (hom a ha).s; omega) him
  rw [hgl] at H1
  rw [hgm] at H2
  have HG1 := Lib.hid H1
  have HG2 := Lib.hid H2
  have HW1 := Lib.hid (written_any w A c l ll hol hil)
  have HGL : Hid (Good (writtenL l)) := writtenL_ok hol
  have HGM : Hid (Good (writtenL m)) := writtenL_ok hom
  have hll := writtenL_len l
  have hlm := writtenL_len m
  have htl := writtenL_total l
  have htm := writtenL_total m
  have IM := Lib.hid him
  have OM := Lib.hid hom
  clear H1 H2 hgl hgm hol hom hil him
  go_enter Try.func8, Try.ntmps8
  go_wp2_with fail
  refine (HG1.out).mono ?_
  rintro e w1 ⟨rfl, rfl⟩
  go_wp2_with fail
  refine (HG2.out).mono ?_
  rintro e w1 ⟨rfl, rfl⟩
  go_wp2_with fail
  refine (HW1.out).mono ?_
  rintro e w1 ⟨A5, c5, rfl, hb1, hc5, hn5⟩
  have HN5 : Hid (newAt w1 w.heap.size A5 (writtenL l)) := hn5
  clear hn5 HW1
  go_wp2_with fail
  refine (written_any w1 A' c' m lm OM.out (IM.out.low hb1)).mono ?_
  rintro e w2 ⟨A6, c6, rfl, hb2, hc6, hn6⟩
  have HN6 : Hid (newAt w2 w1.heap.size A6 (writtenL m)) := hn6
  have HL5 := Lib.hid ((HN5.out.list).low hb2)
  have HL6 := Lib.hid (HN6.out.list)
  have hbw2 := chainO hb1 (Nat.le_refl _) hb2
  have HL5w := HL5
  have HL6w := HL6
  clear hn6 IM OM HN5 HN6 hb1 hb2
  generalize writtenL l = la at *
  generalize writtenL m = lb at *
  go_wp2_with fail
  have hb0 : Below w2.heap.size w2 (w2.alloc (.cells #[.pointer none, .int .i64 0] 29)) := (Below.refl _ w2).alloc (Nat.le_refl _) _
  have ho0 : outAt (w2.alloc (.cells #[.pointer none, .int .i64 0] 29)) w2.heap.size w2.heap.size [] := ⟨Nat.le_refl _, .inl ⟨heap_alloc_new w2 _, rfl⟩⟩
  have h5' : la = [] ∨ ∃ b off, A5 = some ⟨b, off, none⟩ ∧ b < w2.heap.size ∧ itemsAt (w2.alloc (.cells #[.pointer none, .int .i64 0] 29)) b off la := by
    rcases HL5.out with h | ⟨b, off, h, hb, hi⟩
    · exact .inl h
    · exact .inr ⟨b, off, h, hb, hi.below hb0 hb⟩
  have H5 := Lib.hid h5'
  clear h5'
  refine (writes_any A5 c5 la ho0 hb0.size (fun a ha => (HGL.out a ha).1) H5.out (by simp; omega)).mono ?_
  rintro e w3 ⟨rfl, ho3, hb3⟩
  rw [List.nil_append] at ho3
  have hla := encs_len (l := la) (fun a ha => (HGL.out a ha).1)
  have hlb := encs_len (l := lb) (fun a ha => (HGM.out a ha).1)
  go_wp2_with fail
  refine (oString_any ho3 (by omega)).mono ?_
  rintro e w4 ⟨rfl, n4, rfl⟩
  have hbx := below_drewN (hb0.trans hb3) n4
  have h6' : lb = [] ∨ ∃ b off, A6 = some ⟨b, off, none⟩ ∧ b < w2.heap.size ∧ itemsAt (w3.drewN n4) b off lb := by
    rcases HL6.out with h | ⟨b, off, h, hb, hi⟩
    · exact .inl h
    · exact .inr ⟨b, off, h, hb, hi.below hbx hb⟩
  have H6 := Lib.hid h6'
  clear h6'
  go_wp2_with fail
  refine (writes_any A6 c6 lb (ho3.drewN n4) hbx.size (fun a ha => (HGM.out a ha).1) H6.out (by omega)).mono ?_
  rintro e w5 ⟨rfl, ho5, hb5⟩
  have hby := hbx.trans hb5
  have hl5 := HL5.out.low hby
  have hl6 := HL6.out.low hby
  have HL5 := Lib.hid hl5
  have HL6 := Lib.hid hl6
  clear hl5 hl6 H5 H6 ho0 ho3 hb0 hb3 hbx hb5
  go_wp2_with fail
  refine (bytes_any A5 c5 la (fun a ha => (HGL.out a ha).1) HL5.out (by omega)).mono ?_
  rintro e w6 ⟨rfl, hb6⟩
  have ho6 := ho5.kept hb6
  go_wp2_with fail
  refine (oString_any ho6 (by rw [List.length_append]; omega)).mono ?_
  rintro e w7 ⟨rfl, n7, rfl⟩
  go_wp2_with fail
  refine (bytes_any A6 c6 lb (fun a ha => (HGM.out a ha).1) ((HL6.out.low hb6).drewN n7) (by omega)).mono ?_
  rintro e w8 ⟨rfl, hb8⟩
  have hcat : ¬ 9223372036854775807 < (encs la).length + (encs lb).length := by omega
  have hcat2 := ba_cat (encs la) (encs lb)
  go_wp2_with fail
  have ho8 := (ho6.drewN n7).kept hb8
  have hb68 := chainO (below_drewN (chainO hby (Nat.le_refl _) hb6) n7) (Nat.le_refl _) hb8
  have hba : ((encs la).length : Int) ≤ 40000 := by omega
  have hbb : ((encs lb).length : Int) ≤ 40000 := by omega
  clear hcat hcat2 ho5 ho6 hby hb6 hb8
  refine (oString_any ho8 (by rw [List.length_append]; omega)).mono ?_
  rintro e w9 ⟨rfl, n9, rfl⟩
  go_wp2_with fail
  rw [← encs_append]
  have hLlim : (encs (la ++ lb)).length ≤ 281474976710656 := by rw [encs_append, List.length_append]; omega
  refine (of_any ⟨(encs (la ++ lb)).toArray⟩ _ (by show (encs (la ++ lb)).toArray.size ≤ _; simpa using hLlim)).mono ?_
  rintro e w10 ⟨br, hbr, rfl, hin, hbo⟩
  have hbz := chainO (below_drewN hb68 n9) (Nat.le_refl _) hbo
  have hbr2 : w2.heap.size ≤ br := Nat.le_trans hb68.size hbr
  have hbrlt := hin.lt
  have HGG : Hid (Good (la ++ lb)) := by
    intro a ha
    rcases List.mem_append.1 ha with h | h
    · exact HGL.out a h
    · exact HGM.out a h
  have HOK := Lib.hid (rd_ok hLlim)
  clear hLlim hbr hbo hb68 ho8
  go_wp2_with fail
  go_loopw [10] (fun i wr => ∃ k : Nat, k ≤ la.length ∧ i = .int .i64 k ∧ inAt wr br ⟨⟨(encs (la ++ lb)).toArray⟩, (encs ((la ++ lb).take k)).length, 0⟩ ∧ Below br w10 wr) (fun i _ => la.length - (intOf i).toNat)
  case atStart => exact ⟨0, Nat.zero_le _, rfl, by simpa [encs] using hin, Below.refl _ _⟩
  case round =>
    obtain ⟨k, hk, rfl, hink, hbk⟩ := hrel
    have HIN := Lib.hid hink
    clear hink hin
    by_cases hlt : k < la.length
    · have hlt1 : (k : Int) < la.length := by omega
      rcases HL5w.out with h0 | ⟨b5, off5, rfl, hb5lt, hi5⟩
      · rw [h0] at hlt; simp at hlt
      · have hx := (hi5 k hlt).below (hbz.trans (hbk.mono hbr2)) hb5lt
        have hxo := (HGL.out _ (List.getElem_mem hlt)).1
        have hst := rd_step HGG.out (k := k) (by rw [List.length_append]; omega)
        rw [List.getElem_append_left hlt] at hst
        have HST := Lib.hid hst
        have HI5 := Lib.hid hi5
        clear hst hi5
        generalize la[k] = x at *
        obtain ⟨x0, x1, x2, x3, x4, x5⟩ := hx
        go_wp2_with fail
        refine (read_in HIN.out (HOK.out k) x hxo).mono ?_
        rintro e w11 ⟨rfl, hs11⟩
        rw [HST.out] at hs11
        go_wp2
        go_roundw
        case rel => exact ⟨k + 1, by omega, by go_num, hs11.inAt, hbk.trans (hs11.from (Nat.le_refl _) (Nat.le_trans (Nat.le_of_lt hbrlt) hbk.size))⟩
        case measure => simp [intOf]; omega
    · obtain rfl : k = la.length := by omega
      have hina := HIN.out
      rw [List.take_left] at hina
      have hok1 := HOK.out la.length
      rw [List.take_left] at hok1
      have hsz : br ≤ wr.heap.size := Nat.le_of_lt (Nat.lt_of_lt_of_le hbrlt hbk.size)
      clear HIN
      go_wp2_with fail
      refine (fault_eq hina (f := 0) (p := 0) rfl).mono ?_
      rintro e w12 ⟨rfl, n12, rfl⟩
      go_wp2_with fail
      refine (left_eq (hina.drewN n12) hok1 rd_left).mono ?_
      rintro e w13 ⟨rfl, n13, rfl⟩
      go_wp2_with fail
      have hbw := below_drewN (hbz.trans (hbk.mono hbr2)) (n12 + n13)
      refine (bytes_any A6 c6 lb (fun a ha => (HGM.out a ha).1) (HL6w.out.low hbw) (by omega)).mono ?_
      rintro e w14 ⟨rfl, hb14⟩
      have hb14' : Below br w10 w14 := below_drewN hbk (n12 + n13) |>.trans (hb14.mono hsz)
      have hin14 : inAt w14 br ⟨⟨(encs (la ++ lb)).toArray⟩, (encs la).length, 0⟩ := (hina.drewN (n12 + n13)).below hb14
      clear hina hb14 hbw
      go_wp2_with fail
      go_loopw [13] (fun i wr => ∃ k : Nat, k ≤ lb.length ∧ i = .int .i64 k ∧ inAt wr br ⟨⟨(encs (la ++ lb)).toArray⟩, (encs ((la ++ lb).take (la.length + k))).length, 0⟩ ∧ Below br w10 wr) (fun i _ => lb.length - (intOf i).toNat)
      case atStart => exact ⟨0, Nat.zero_le _, rfl, by rw [Nat.add_zero, List.take_left]; exact hin14, hb14'⟩
      case round =>
        obtain ⟨k, hk, rfl, hink, hbk2⟩ := hrel
        have HIN := Lib.hid hink
        clear hink hin14
        by_cases hlt : k < lb.length
        · have hlt1 : (k : Int) < lb.length := by omega
          rcases HL6w.out with h0 | ⟨b6, off6, rfl, hb6lt, hi6⟩
          · rw [h0] at hlt; simp at hlt
          · have hx := (hi6 k hlt).below (hbz.trans (hbk2.mono hbr2)) hb6lt
            have hxo := (HGM.out _ (List.getElem_mem hlt)).1
            have hst := rd_step HGG.out (k := la.length + k) (by rw [List.length_append]; omega)
            rw [List.getElem_append_right (by omega)] at hst
            simp only [Nat.add_sub_cancel_left] at hst
            have HST := Lib.hid hst
            have HI6 := Lib.hid hi6
            have HX := Lib.hid hx
            clear hst hi6 hx
            generalize lb[k] = x at *
            have hne : b6 ≠ br := by omega
            have s0 : (0 : Int) ≤ k := by omega
            have hd0 := HX.out
            obtain ⟨x0, x1, x2, x3, x4, x5⟩ := hd0
            go_wp2_with fail
            go_region_held3 (fun w' => w'.cell? ⟨b6, off6 + k * 6, none⟩ = some (.int .u8 x.d) ∧ w'.cell? ⟨b6, off6 + k * 6 + 1, none⟩ = some (.int .u64 x.n) ∧ w'.cell? ⟨b6, off6 + k * 6 + 2, none⟩ = some (.int .i64 x.i) ∧
                w'.cell? ⟨b6, off6 + k * 6 + 3, none⟩ = some (.string x.s) ∧ w'.cell? ⟨b6, off6 + k * 6 + 4, none⟩ = some (.int .u8 x.b) ∧ w'.cell? ⟨b6, off6 + k * 6 + 5, none⟩ = some (.int .i64 x.m))
              (first | exact HX.out | exact HY1.out | exact HY2.out | go_keep)
              ((first
                | (go_at_call 13; refine (read_eq x (by exact HIN.out) (HOK.out (la.length + k)) hxo HST.out).mono ?_; rintro e w15 ⟨rfl, hs15⟩; have HY1 := Lib.hid (itemAt.stp (by exact HX.out) hs15 hne); have HS15 := Lib.hid hs15; clear hs15)
                | (go_at_call 31; refine (bare_eq _ x hxo).mono ?_; rintro e w16 ⟨rfl, hs16⟩; have HY2 := Lib.hid (itemAt.low (by first | exact HY1.out | exact HX.out) hs16); have HS16 := Lib.hid hs16; clear hs16)))
            go_wp2_with fail
            go_roundw
            case rel =>
              refine ⟨k + 1, by omega, by go_num, HS15.out.inAt.below HS16.out, ?_⟩
              have g1 : Below br w10 w15 := by
                first
                  | exact chainS hbk2.drew (Nat.le_of_lt hbrlt) HS15.out (Nat.le_refl _)
                  | exact chainS hbk2 (Nat.le_of_lt hbrlt) HS15.out (Nat.le_refl _)
                  | exact chainS (below_drewN hbk2 _) (Nat.le_of_lt hbrlt) HS15.out (Nat.le_refl _)
              exact chainO g1 (Nat.le_of_lt hbrlt) HS16.out
            case measure => simp [intOf]; omega
        · obtain rfl : k = lb.length := by omega
          have hfin : Rd.fin ⟨⟨(encs (la ++ lb)).toArray⟩, (encs ((la ++ lb).take (la.length + lb.length))).length, 0⟩ = 0 := by
            have e : (la ++ lb).take (la.length + lb.length) = la ++ lb := List.take_of_length_le (by simp)
            rw [e]
            unfold Rd.fin
            rw [if_neg (by simp), if_pos]
            show (encs (la ++ lb)).drop (encs (la ++ lb)).length = []
            exact List.drop_length
          have HF := Lib.hid hfin
          clear hfin
          go_wp2_with fail
          refine (fin_eq HIN.out (HOK.out _) HF.out).mono ?_
          rintro e w17 ⟨rfl, n17, rfl⟩
          go_wp2_with fail
          refine (wakes_any _).mono ?_
          rintro e w18 ⟨rfl, hb18⟩
          go_wp2
          go_ret
          have g1 : Below w2.heap.size w2 (wr.drewN n17) := below_drewN (hbz.trans (hbk2.mono hbr2)) n17
          have g2 := chainO g1 (Nat.le_refl _) hb18
          exact ⟨rfl, chainO hbw2 (Nat.le_refl _) g2⟩
end Go.Proofs.Ytpecpcedcjdbhaa
