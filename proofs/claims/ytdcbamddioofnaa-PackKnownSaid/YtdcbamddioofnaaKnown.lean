/-
  PackKnown answers true, and turns nothing of what was there.
-/
import Derived.Test.YtdcbamddioofnaaKnownMath
import Derived.Test.YtdcbamddioofnaaWrOne
import Derived.Test.YtdcbamddioofnaaByteStuck
import Derived.Deep.Cut
import Derived.Deep.RegionHeld3
namespace Go.Proofs.Ytdcbamddioofnaa
open Go.RowKit Pk

set_option maxRecDepth 100000 in
set_option maxHeartbeats 4000000 in
theorem known_any (w : World) : Calls Try.prog 3 #[] w fun e w' => e = .returned (.bool true) ∧ Below w.heap.size w w' := by
  go_enter Try.func3, Try.ntmps3
  go_upto_region 1 with (fail)
  go_cut [1] from 23 (fun s1 wx => s1 = .slice (some ⟨w.heap.size, 0, none⟩) 13 13 ∧ wx = w.alloc (.cells cells91 25))
  case first =>
    go_wp2_with fail
    go_meet
    exact ⟨rfl, rfl⟩
  case rest =>
    obtain ⟨rfl, rfl⟩ := hcut
    have b0 : Below w.heap.size w (w.alloc (.cells cells91 25)) := (Below.refl _ w).alloc (Nat.le_refl _) _
    have r0 := rowsAt_of (heap_alloc_new w (.cells cells91 25))
    have l0 : w.heap.size < (w.alloc (.cells cells91 25)).heap.size := by simp
    generalize w.alloc (.cells cells91 25) = w0 at *
    obtain ⟨N, hN⟩ : ∃ N, N = w.heap.size := ⟨_, rfl⟩
    rw [← hN] at b0 r0 l0 ⊢
    have R0 := Lib.hid r0
    have HN := Lib.hid hN
    have HOK := Lib.hid rows13_ok
    clear r0 hN
    go_wp2_with fail
    go_loopw [2] (fun i wr => ∃ k : Nat, k ≤ 13 ∧ i = .int .i64 k ∧ Below w0.heap.size w0 wr) (fun i _ => 13 - (intOf i).toNat)
    case atStart => exact ⟨0, by omega, rfl, Below.refl _ _⟩
    case round =>
      obtain ⟨k, hk, rfl, hbk⟩ := hrel
      by_cases hlt : k < 13
      · have hlt1 : (k : Int) < 13 := by omega
        have hk13 : k < rows13.length := hlt
        obtain ⟨x, s, hxs⟩ : ∃ x s, rows13[k] = (x, s) := ⟨_, _, rfl⟩
        have HX : Hid (∀ wx : World, Below w0.heap.size w0 wx → itemAt wx N (k * 7) x ∧ wx.cell? ⟨N, k * 7 + 6, none⟩ = some (.string s)) := fun wx h => by
          have h2 := R0.out.low h l0 k hk13
          rw [hxs] at h2; exact h2
        have hro := HOK.out _ (List.getElem_mem hk13)
        rw [hxs] at hro
        obtain ⟨hok, henc, hread, hfin, hsm, htx⟩ := hro
        rw [encs_one] at henc
        have HE := Lib.hid henc
        have HR := Lib.hid hread
        have HF := Lib.hid hfin
        have HXO := Lib.hid hok
        have hs0 := hbk.size
        obtain ⟨⟨c0, c1, c2, c3, c4, c5⟩, c6⟩ := HX.out (wr.alloc (.cells #[.pointer none, .int .i64 0] 29)) (hbk.alloc hs0 _)
        clear henc hread hfin hxs hk13 hok
        have out1 : outAt (wr.alloc (.cells #[.pointer none, .int .i64 0] 29)) wr.heap.size wr.heap.size [] := ⟨Nat.le_refl _, .inl ⟨heap_alloc_new wr _, rfl⟩⟩
        have out2 := outAt.kept out1 ((Below.refl _ _).alloc (Nat.le_refl _) (.cells #[.int .u8 x.d, .int .u64 x.n, .int .i64 x.i, .string x.s, .int .u8 x.b, .int .i64 x.m] 24))
        have hit2 := heap_alloc_new (wr.alloc (.cells #[.pointer none, .int .i64 0] 29)) (.cells #[.int .u8 x.d, .int .u64 x.n, .int .i64 x.i, .string x.s, .int .u8 x.b, .int .i64 x.m] 24)
        have bW2 : Below wr.heap.size wr ((wr.alloc (.cells #[.pointer none, .int .i64 0] 29)).alloc (.cells #[.int .u8 x.d, .int .u64 x.n, .int .i64 x.i, .string x.s, .int .u8 x.b, .int .i64 x.m] 24)) := ((Below.refl _ wr).alloc (Nat.le_refl _) _).alloc (by simp) _
        have hsz : (wr.alloc (.cells #[.pointer none, .int .i64 0] 29)).heap.size = wr.heap.size + 1 := by simp
        rw [hsz] at hit2
        have OUT2 := Lib.hid out2
        have IT2 := Lib.hid (show itemAt _ (wr.heap.size + 1) 0 x from ⟨cells_of hit2 0 _ rfl, cells_of hit2 1 _ rfl, cells_of hit2 2 _ rfl, cells_of hit2 3 _ rfl, cells_of hit2 4 _ rfl, cells_of hit2 5 _ rfl⟩)
        clear out1 out2 hit2 hsz
        go_wp2_with fail
        refine (writes_one (wr.heap.size + 1) 1 x OUT2.out bW2.size HXO.out IT2.out (by simp; omega)).mono ?_
        rintro e w1 ⟨rfl, ho1, hb1⟩
        rw [List.nil_append, HE.out] at ho1
        have hb1' := bW2.trans hb1
        have OUT3 := Lib.hid ho1
        clear ho1 c0 c1 c2 c3 c4 c5 c6 OUT2 IT2
        have hb10 : Below w0.heap.size w0 w1 := hbk.trans (hb1'.mono hs0)
        obtain ⟨⟨c0, c1, c2, c3, c4, c5⟩, c6⟩ := HX.out w1 hb10
        go_wp2_with fail
        refine (of_any s _ (by omega)).mono ?_
        rintro e w2 ⟨br, hbr, rfl, hin, hbo⟩
        have hsw := hb10.size
        have hb20 : Below w0.heap.size w0 w2 := chainO hb10 (Nat.le_refl _) hbo
        have hM : N < w2.heap.size := Nat.lt_of_lt_of_le l0 hb20.size
        have hrok : Rd.Ok ⟨s, 0, 0⟩ := ⟨Nat.zero_le _, Nat.zero_le _, by show s.size ≤ _; omega⟩
        clear c0 c1 c2 c3 c4 c5 c6
        obtain ⟨⟨c0, c1, c2, c3, c4, c5⟩, c6⟩ := HX.out w2 hb20
        go_wp2_with fail
        refine (read_in hin hrok x HXO.out).mono ?_
        rintro e w3 ⟨rfl, hs3⟩
        rw [HR.out]
        unfold itV
        have hb30 : Below w0.heap.size w0 w3 := chainS hb20 (Nat.le_refl _) hs3 (Nat.le_trans hsw hbr)
        have hb13 : Below w1.heap.size w1 w3 := hbo.trans ((hs3.from hbr (hbo.size)))
        have OUT5 := Lib.hid ((OUT3.out.kept hb13).kept ((Below.refl _ w3).alloc (Nat.le_refl _) (.cells #[.int .u8 x.d, .int .u64 x.n, .int .i64 x.i, .string x.s, .int .u8 x.b, .int .i64 x.m] 24)))
        have HIN5 := Lib.hid (inAt.below hs3.inAt ((Below.refl _ w3).alloc (Nat.le_refl _) (.cells #[.int .u8 x.d, .int .u64 x.n, .int .i64 x.i, .string x.s, .int .u8 x.b, .int .i64 x.m] 24)))
        have HOK5 := Lib.hid (rdI_ok hrok x)
        have hb40 : Below w0.heap.size w0 (w3.alloc (.cells #[.int .u8 x.d, .int .u64 x.n, .int .i64 x.i, .string x.s, .int .u8 x.b, .int .i64 x.m] 24)) := hb30.alloc hb30.size _
        have hit5 := heap_alloc_new w3 (.cells #[.int .u8 x.d, .int .u64 x.n, .int .i64 x.i, .string x.s, .int .u8 x.b, .int .i64 x.m] 24)
        have IT5 := Lib.hid (show itemAt _ w3.heap.size 0 x from ⟨cells_of hit5 0 _ rfl, cells_of hit5 1 _ rfl, cells_of hit5 2 _ rfl, cells_of hit5 3 _ rfl, cells_of hit5 4 _ rfl, cells_of hit5 5 _ rfl⟩)
        have lt5 : w3.heap.size < (w3.alloc (.cells #[.int .u8 x.d, .int .u64 x.n, .int .i64 x.i, .string x.s, .int .u8 x.b, .int .i64 x.m] 24)).heap.size := by simp
        clear c0 c1 c2 c3 c4 c5 c6 hs3 hit5 hbo hrok hin OUT3
        obtain ⟨⟨c0, -, -, -, -, -⟩, -⟩ := HX.out (w3.alloc (.cells #[.int .u8 0, .int .u64 x.n, .int .i64 x.i, .string x.s, .int .u8 x.b, .int .i64 0] 24)) (hb30.alloc hb30.size _)
        obtain ⟨⟨-, -, -, -, -, c5⟩, -⟩ := HX.out (w3.alloc (.cells #[.int .u8 x.d, .int .u64 x.n, .int .i64 x.i, .string x.s, .int .u8 x.b, .int .i64 0] 24)) (hb30.alloc hb30.size _)
        go_wp2_with fail
        clear c0 c5
        generalize w3.alloc (.cells #[.int .u8 x.d, .int .u64 x.n, .int .i64 x.i, .string x.s, .int .u8 x.b, .int .i64 x.m] 24) = w4 at *
        obtain ⟨M, hM5⟩ : ∃ M, M = w3.heap.size := ⟨_, rfl⟩
        rw [← hM5] at IT5 lt5 ⊢
        clear hM5
        have hsb : (ByteArray.mk s.data.toList.toArray) = s := rfl
        have STR : Hid (∀ wx : World, outAt wx wr.heap.size wr.heap.size s.data.toList → Calls Try.prog 7 #[.pointer (some ⟨wr.heap.size, 0, none⟩)] wx fun e w' => e = .returned (.string s) ∧ ∃ n, w' = wx.drewN n) := fun wx h => oString_any h (by show s.size ≤ _; omega)
        obtain ⟨⟨c0, c1, c2, c3, c4, c5⟩, c6⟩ := HX.out w4 hb40
        obtain ⟨i0, i1, i2, i3, i4, i5⟩ := IT5.out
        simp only [Nat.zero_add] at i1 i2 i3 i4 i5
        have OUTN : Hid (∀ n, outAt (w4.drewN n) wr.heap.size wr.heap.size s.data.toList) := fun _ => OUT5.out
        have HINN : Hid (∀ n, inAt (w4.drewN n) br (rdI ⟨s, 0, 0⟩ x).2) := fun _ => HIN5.out
        clear OUT5 hsb HIN5 IT5
        go_quiet ((first
          | (go_at_call 7; exact Calls.quiet_of (STR.out _ (OUTN.out _)))
          | (go_at_call 8; exact Calls.quiet_of (fin_eq (by exact HINN.out _) HOK5.out HF.out))))
        go_wp2_with fail
        go_roundw
        case rel => exact ⟨k + 1, by omega, by go_num, below_drewN hb40 _⟩
        case measure => simp [intOf]; omega
      · obtain rfl : k = 13 := by omega
        clear hlt hk
        go_upto_region 13 with (fail)
        rw [show ((13 : Nat) : Int) = 13 from rfl]
        go_cut [6] from 111 (fun s6 wx => s6 = .slice (some ⟨wr.heap.size, 0, none⟩) 7 7 ∧ wx = wr.alloc (.cells cells14 39))
        case first =>
          go_wp2_with fail
          go_meet
          exact ⟨rfl, rfl⟩
        case rest =>
          obtain ⟨rfl, rfl⟩ := hcut
          have b1 : Below w0.heap.size w0 (wr.alloc (.cells cells14 39)) := hbk.alloc hbk.size _
          have r1 := badAt_of (heap_alloc_new wr (.cells cells14 39))
          have l1 : wr.heap.size < (wr.alloc (.cells cells14 39)).heap.size := by simp
          generalize wr.alloc (.cells cells14 39) = w1 at *
          obtain ⟨M, hM⟩ : ∃ M, M = wr.heap.size := ⟨_, rfl⟩
          rw [← hM] at r1 l1 ⊢
          have R1 := Lib.hid r1
          have HBAD := Lib.hid bad7_ok
          clear hM r1
          go_wp2_with fail
          go_loopw [7] (fun i wq => ∃ k : Nat, k ≤ 7 ∧ i = .int .i64 k ∧ Below w1.heap.size w1 wq) (fun i _ => 7 - (intOf i).toNat)
          case atStart => exact ⟨0, by omega, rfl, Below.refl _ _⟩
          case round =>
            obtain ⟨k, hk, rfl, hbq⟩ := hrel
            by_cases hlt : k < 7
            · have hlt1 : (k : Int) < 7 := by omega
              have hk7 : k < bad7.length := hlt
              obtain ⟨s, f, hsf⟩ : ∃ s f, bad7[k] = (s, f) := ⟨_, _, rfl⟩
              have HX : Hid (∀ wx : World, Below w1.heap.size w1 wx → wx.cell? ⟨M, k * 2, none⟩ = some (.string s) ∧ wx.cell? ⟨M, k * 2 + 1, none⟩ = some (.int .i64 f)) := fun wx h => by
                have h2 := R1.out.low h l1 k hk7
                rw [hsf] at h2; exact h2
              have hbo := HBAD.out _ (List.getElem_mem hk7)
              rw [hsf] at hbo
              obtain ⟨hnum, hfail, hle, hsm⟩ := hbo
              have HN := Lib.hid hnum
              clear hnum hsf hk7
              obtain ⟨c0, c1⟩ := HX.out wr hbq
              go_wp2_with fail
              refine (of_any s _ (by omega)).mono ?_
              rintro e w2 ⟨br, hbr, rfl, hin, hbo⟩
              have hrok : Rd.Ok ⟨s, 0, 0⟩ := ⟨Nat.zero_le _, Nat.zero_le _, by show s.size ≤ _; omega⟩
              have hb2 : Below w1.heap.size w1 w2 := chainO hbq (Nat.le_refl _) hbo
              go_wp2_with fail
              refine (num_eq hin hrok HN.out).mono ?_
              rintro e w3 ⟨rfl, hs3⟩
              have hb3 : Below w1.heap.size w1 w3 := chainS hb2 (Nat.le_refl _) hs3 (Nat.le_trans hbq.size hbr)
              have HI3 := Lib.hid hs3.inAt
              clear hin hs3 c0 c1
              go_wp2_with fail
              refine (fault_eq HI3.out (f := f) (p := 0) (by simp [Rd.fault, hfail])).mono ?_
              rintro e w4 ⟨rfl, n4, rfl⟩
              go_wp2_with fail
              have HL : Hid ((Rd.rest ⟨s, 0, f⟩).length = s.size) := by rw [Rd.rest_length]; rfl
              have HOK3 : Hid (Rd.Ok ⟨s, 0, f⟩) := ⟨Nat.zero_le _, hle, by show s.size ≤ _; omega⟩
              have HFN := Lib.hid hfail
              have HIN3 : Hid (∀ n, inAt (w3.drewN n) br ⟨s, 0, f⟩) := fun _ => HI3.out
              obtain ⟨c0, c1⟩ := HX.out w3 hb3
              clear hfail HI3 hrok hbo hbr
              go_quiet ((first
                | (go_at_call 11; exact q_joined (left_eq (by exact HIN3.out _) HOK3.out HL.out))
                | (go_at_call 12; exact q_joined (byte_stuck (by exact HIN3.out _) HOK3.out HFN.out))))
              go_wp2_with fail
              go_roundw
              case rel => exact ⟨k + 1, by omega, by go_num, below_drewN hb3 _⟩
              case measure => simp [intOf]; omega
            · obtain rfl : k = 7 := by omega
              clear hlt hk
              have bw : Below w.heap.size w wr := by
                have h0 : Below w.heap.size w w0 := by rw [← HN.out]; exact b0
                exact chainO (chainO h0 (Nat.le_refl _) b1) (Nat.le_refl _) hbq
              have hsw : w.heap.size ≤ wr.heap.size := bw.size
              have T1 := Lib.hid know_num
              have T2 := Lib.hid know_text
              have T3 := Lib.hid know_most
              clear b0 b1 hbq R1 R0 HOK HBAD HN hbk
              go_wp2_with fail
              refine (of_any ⟨#[7, 2, 97]⟩ _ (by decide)).mono ?_
              rintro e w2 ⟨br, hbr, rfl, hin, hbo⟩
              have k2 : Below w.heap.size w w2 := chainO bw (Nat.le_refl _) hbo
              have BR := Nat.le_trans hsw hbr
              go_wp2_with fail
              refine (num_eq hin (know_ok 0 0 (by decide) (by decide)) T1.out).mono ?_
              rintro e w3 ⟨rfl, hs3⟩
              have k3 : Below w.heap.size w w3 := chainS k2 (Nat.le_refl _) hs3 BR
              have i3 := hs3.inAt
              clear hin hs3 hbo
              go_wp2_with fail
              refine (text_eq i3 (know_ok 1 0 (by decide) (by decide)) (by decide) T2.out).mono ?_
              rintro e w4 ⟨rfl, hs4⟩
              have k4 : Below w.heap.size w w4 := k3.trans (hs4.from BR k3.size)
              have i4 := hs4.inAt
              clear i3 hs4
              go_wp2_with fail
              refine (fault_eq i4 (f := 7) (p := 1) rfl).mono ?_
              rintro e w5 ⟨rfl, n5, rfl⟩
              have i5 := i4.drewN n5
              have k5 := below_drewN k4 n5
              clear i4
              generalize w4.drewN n5 = w5 at *
              go_wp2_with fail
              refine (of_any ⟨#[7]⟩ _ (by decide)).mono ?_
              rintro e w6 ⟨bz, hbz, rfl, hin6, hbo6⟩
              have k6 : Below w.heap.size w w6 := chainO k5 (Nat.le_refl _) hbo6
              have i6 := inAt.below i5 hbo6
              have BZ := Nat.le_trans k5.size hbz
              have hne : br ≠ bz := by have := i5.lt; omega
              clear i5 hbo6
              go_wp2_with fail
              refine (most_eq hin6 (know_ok1 0 0 (by decide) (by decide)) (by decide) T3.out).mono ?_
              rintro e w7 ⟨rfl, hs7⟩
              have i7 := i6.stp hs7 hne
              have z7 := hs7.inAt
              have k7 := chainS k6 (Nat.le_refl _) hs7 BZ
              clear i6 hin6 hs7
              rw [show ((0 : Nat) : Int) = 0 from rfl]
              go_wp2_with fail
              refine (fault_nil _).mono ?_
              rintro e w' ⟨rfl, rfl⟩
              go_wp2_with (first
                | (go_at_call 9; refine (num_nil _).mono ?_; rintro e w' ⟨rfl, rfl⟩)
                | (go_at_call 15; refine (int_nil _).mono ?_; rintro e w' ⟨rfl, rfl⟩)
                | (go_at_call 14; refine (most_nil 1 _ (by decide)).mono ?_; rintro e w' ⟨rfl, rfl⟩)
                | (go_at_call 13; refine (text_nil 1 _ (by decide)).mono ?_; rintro e w' ⟨rfl, rfl⟩)
                | (go_at_call 12; refine (byte_nil _).mono ?_; rintro e w' ⟨rfl, rfl⟩)
                | (go_at_call 11; refine (left_nil _).mono ?_; rintro e w' ⟨rfl, rfl⟩)
                | (go_at_call 8; refine (fin_nil _).mono ?_; rintro e w' ⟨rfl, rfl⟩))
              refine (left_eq (k := 2) i7 (know_ok 1 7 (by decide) (by decide)) rfl).mono ?_
              rintro e w8 ⟨rfl, n8, rfl⟩
              have z8 := z7.drewN n8
              have k8 := below_drewN k7 n8
              clear i7 z7
              generalize w7.drewN n8 = w8 at *
              rw [show ((2 : Nat) : Int) = 2 from rfl]
              go_wp2_with fail
              refine (fin_eq (f := 8) z8 (know_ok1 0 8 (by decide) (by decide)) rfl).mono ?_
              rintro e w9 ⟨rfl, n9, rfl⟩
              have k9 := below_drewN k8 n9
              clear z8
              generalize w8.drewN n9 = w9 at *
              rw [show ((8 : Nat) : Int) = 8 from rfl]
              go_wp2_with fail
              refine (of_any ⟨#[120]⟩ _ (by decide)).mono ?_
              rintro e wa ⟨bx, hbx, rfl, hina, hboa⟩
              have ka : Below w.heap.size w wa := chainO k9 (Nat.le_refl _) hboa
              clear hboa
              go_wp2_with fail
              refine (fin_eq (f := 8) hina (know_okx 0 0 (by decide) (by decide)) rfl).mono ?_
              rintro e wb ⟨rfl, nb, rfl⟩
              have kb := below_drewN ka nb
              clear hina
              generalize wa.drewN nb = wb at *
              rw [show ((8 : Nat) : Int) = 8 from rfl]
              go_wp2_with fail
              refine (wakes_any _).mono ?_
              rintro e wc ⟨rfl, hbc⟩
              have kc : Below w.heap.size w wc := chainO kb (Nat.le_refl _) hbc
              go_wp2_with fail
              go_ret
              exact ⟨rfl, kc⟩
end Go.Proofs.Ytdcbamddioofnaa
