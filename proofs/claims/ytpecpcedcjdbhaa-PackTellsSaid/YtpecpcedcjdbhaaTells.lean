/-
  PackTells answers true for every text, every list of items, bare or not, and turns nothing of what was there.
-/
import Derived.Test.YtpecpcedcjdbhaaTell4
namespace Go.Proofs.Ytpecpcedcjdbhaa
open Go.RowKit Pk

/-- A call that only draws, behind draws that have been joined already. -/
theorem q_more {P : Program} {f : FuncId} {xs : Array Value} {w : World} {i j : Nat} {r : Value} (h : Calls P f xs (w.drewN (i + j)) fun e w' => e = .returned r ∧ ∃ k, w' = (w.drewN (i + j)).drewN k) :
    Calls P f xs (w.drewN (i + j)) fun e w' => e = .returned r ∧ ∃ k, w' = w.drewN (i + k) := h.mono fun _ _ ⟨h1, k, h2⟩ => ⟨h1, j + k, by rw [h2, World.drewN_drewN, Nat.add_assoc]⟩

theorem told_eq {w : World} {b : Nat} {r r' : Rd} {v : It} (a : It) (hin : rinAt w b r) (hr : r.Ok) (ha : a.Ok) (h : rdI r a = (v, r')) :
    Calls Try.prog 28 #[.pointer (some ⟨b, 0, none⟩), .agg #[.int .u8 a.d, .int .u64 a.n, .int .i64 a.i, .string a.s, .int .u8 a.b, .int .i64 a.m]] w fun e w' =>
      e = .returned (.agg #[.int .u8 v.d, .int .u64 v.n, .int .i64 v.i, .string v.s, .int .u8 v.b, .int .i64 v.m]) ∧ RStp w w' b r' := by
  have := told_in hin hr a ha
  rw [h] at this
  exact this

theorem itemAt.rstp {w w' : World} {b o br : Nat} {a : It} {r : Rd} (h : itemAt w b o a) (k : RStp w w' br r) (hne : b ≠ br) : itemAt w' b o a := by
  have e : ∀ x v, w.cell? ⟨b, x, none⟩ = some v → w'.cell? ⟨b, x, none⟩ = some v := fun x v hx => k.grown.cell (a := ⟨b, x, none⟩) hx (fun e => hne (Option.some.inj e))
  obtain ⟨c0, c1, c2, c3, c4, c5⟩ := h
  exact ⟨e _ _ c0, e _ _ c1, e _ _ c2, e _ _ c3, e _ _ c4, e _ _ c5⟩
theorem rinAt.stp {w w' : World} {b b' : Nat} {r r' : Rd} (h : rinAt w b r) (k : Stp w w' b' r') (hne : b ≠ b') : rinAt w' b r := (k.grown.block b h.lt (fun e => hne (Option.some.inj e))).trans h
theorem inAt.rstp {w w' : World} {b b' : Nat} {r r' : Rd} (h : inAt w b r) (k : RStp w w' b' r') (hne : b ≠ b') : inAt w' b r := (k.grown.block b h.lt (fun e => hne (Option.some.inj e))).trans h
theorem chainR {w w1 w2 : World} {B b : Nat} {r : Rd} (k : Below B w w1) (hB : B ≤ w.heap.size) (h : RStp w1 w2 b r) (hb : B ≤ b) : Below B w w2 :=
  k.trans ⟨h.grown.os, h.grown.tape, h.grown.output, h.grown.size, fun j hj => h.grown.block j (by have := k.size; omega) (fun e => by have := Option.some.inj e; omega)⟩

set_option maxRecDepth 100000 in
set_option maxHeartbeats 8000000 in
theorem tells_plain (w : World) (A : Option Addr) (c : Nat) (l : List It) (s : ByteArray) (hgl : great l = false) (hol : ∀ a ∈ l, a.Ok) (hil : listAt w A l) (hs : s.size ≤ 30000) :
    Calls Try.prog 5 #[.string s, .slice A l.length c, .bool false] w fun e w' => e = .returned (.bool true) ∧ Below w.heap.size w w' := by
  obtain ⟨ll, tl⟩ := not_great hgl
  have H1 := great_any w A c l (by omega) (fun a ha => by have := (hol a ha).s; omega) hil
  rw [hgl] at H1
  have HG1 := Lib.hid H1
  have IL := Lib.hid hil
  have OL := Lib.hid hol
  have gs : ¬ (30000 : Int) < s.size := by omega
  have HOK0 : Hid (Rd.Ok ⟨s, 0, 0⟩) := ⟨Nat.zero_le _, Nat.zero_le _, by show s.size ≤ _; omega⟩
  clear H1 hgl hol hil
  go_enter Try.func5, Try.ntmps5
  go_wp2_with fail
  refine (HG1.out).mono ?_
  rintro e w1 ⟨rfl, rfl⟩
  go_wp2_with fail
  refine (of_any s _ (by omega)).mono ?_
  rintro e w2 ⟨bx, hbx, rfl, hinx, hbo⟩
  go_wp2_with fail
  have hin0 := hinx.below ((Below.refl _ w2).alloc (Nat.le_refl _) (.cells #[.string s, .int .i64 0, .int .i64 0] 57))
  have hrin0 : rinAt (w2.alloc (.cells #[.string s, .int .i64 0, .int .i64 0] 57)) w2.heap.size ⟨s, 0, 0⟩ := heap_alloc_new w2 _
  have hb0 : Below w.heap.size w (w2.alloc (.cells #[.string s, .int .i64 0, .int .i64 0] 57)) := hbo.alloc hbo.size _
  have hbw := hbo.size
  have hne : bx ≠ w2.heap.size := by have := hinx.lt; omega
  have HOK := HOK0
  clear hbo hinx HOK0
  generalize w2.heap.size = bw at *
  generalize w2.alloc (.cells #[.string s, .int .i64 0, .int .i64 0] 57) = W0 at *
  generalize (⟨s, 0, 0⟩ : Rd) = r0 at *
  go_loopw [9] (fun i wr => ∃ (k : Nat) (r : Rd), k ≤ l.length ∧ i = .int .i64 k ∧ inAt wr bx r ∧ rinAt wr bw r ∧ Hid r.Ok ∧ Below w.heap.size w wr) (fun i _ => l.length - (intOf i).toNat)
  case atStart => exact ⟨0, r0, Nat.zero_le _, rfl, hin0, hrin0, HOK, hb0⟩
  case round =>
    clear HOK
    obtain ⟨k, r, hk, rfl, hi, hr, HOK, hbk⟩ := hrel
    have HIN := Lib.hid hi
    have HRIN := Lib.hid hr
    clear hi hr hin0 hrin0 hb0
    by_cases hlt : k < l.length
    · have hlt1 : (k : Int) < l.length := by omega
      rcases IL.out with h0 | ⟨b6, off6, rfl, hb6lt, hi6⟩
      · rw [h0] at hlt; simp at hlt
      · have hx := (hi6 k hlt).below hbk hb6lt
        have hxo := OL.out _ (List.getElem_mem hlt)
        have HX := Lib.hid hx
        have HI6 := Lib.hid hi6
        clear hx hi6
        generalize l[k] = x at *
        have hok2 := rdI_ok HOK.out x
        obtain ⟨v, r', hv⟩ : ∃ v r', rdI r x = (v, r') := ⟨_, _, rfl⟩
        rw [hv] at hok2
        obtain ⟨S, q, g⟩ := r'
        have hql := hok2.pos
        have hgl := hok2.f
        have hSl := hok2.lim
        have hrl := Rd.rest_length ⟨S, q, g⟩
        simp only at hql hgl hSl hrl hok2
        have HV := Lib.hid hv
        have HOK2 := Lib.hid hok2
        clear hv hok2
        have hnex : b6 ≠ bx := by omega
        have hnew : b6 ≠ bw := by omega
        have s0 : (0 : Int) ≤ k := by omega
        have hd0 := HX.out
        obtain ⟨x0, x1, x2, x3, x4, x5⟩ := hd0
        obtain ⟨lf, hlf⟩ : ∃ lf, Rd.rest ⟨S, q, g⟩ = lf := ⟨_, rfl⟩
        rw [hlf] at hrl
        have hlfi : (lf.length : Int) = (S.size : Int) - q := by omega
        have HLF := Lib.hid (congrArg List.length hlf)
        have HCASE : Hid ((g = 0 ∧ q < S.size ∧ Rd.fault ⟨S, q, g⟩ = (0, 0) ∧ Rd.fin ⟨S, q, g⟩ = 8) ∨ (g = 0 ∧ ¬ q < S.size ∧ Rd.fault ⟨S, q, g⟩ = (0, 0) ∧ Rd.fin ⟨S, q, g⟩ = 0) ∨ (g ≠ 0 ∧ Rd.fault ⟨S, q, g⟩ = (g, q) ∧ Rd.fin ⟨S, q, g⟩ = g)) := by
          show _ ∨ _ ∨ _
          unfold Rd.fault Rd.fin
          rw [hlf]
          by_cases h0 : g = 0
          · by_cases h1 : q < S.size
            · left
              refine ⟨h0, h1, if_pos h0, ?_⟩
              rw [if_neg (by simpa using h0), if_neg (fun e => by rw [e] at hrl; simp at hrl; omega)]
            · right; left
              refine ⟨h0, h1, if_pos h0, ?_⟩
              rw [if_neg (by simpa using h0), if_pos (List.eq_nil_of_length_eq_zero (by omega))]
          · right; right
            exact ⟨h0, if_neg h0, if_pos h0⟩
        clear hrl hlf
        generalize hlfl : lf.length = lfn at *
        clear hlfl
        go_wp2_with fail
        go_region_held3 (fun w' => w'.cell? ⟨b6, off6 + k * 6, none⟩ = some (.int .u8 x.d) ∧ w'.cell? ⟨b6, off6 + k * 6 + 1, none⟩ = some (.int .u64 x.n) ∧ w'.cell? ⟨b6, off6 + k * 6 + 2, none⟩ = some (.int .i64 x.i) ∧
            w'.cell? ⟨b6, off6 + k * 6 + 3, none⟩ = some (.string x.s) ∧ w'.cell? ⟨b6, off6 + k * 6 + 4, none⟩ = some (.int .u8 x.b) ∧ w'.cell? ⟨b6, off6 + k * 6 + 5, none⟩ = some (.int .i64 x.m))
          (first | exact HX.out | exact HY1.out | exact HY2.out | go_keep)
          ((first
            | (go_at_call 13; refine (read_eq x (by exact HIN.out) HOK.out hxo HV.out).mono ?_; rintro e w15 ⟨rfl, hs15⟩; have HY1 := Lib.hid (itemAt.stp (by exact HX.out) hs15 hnex); have HR1 := Lib.hid (rinAt.stp (by exact HRIN.out) hs15 hne.symm); have HS15 := Lib.hid hs15; clear hs15)
            | (go_at_call 28; refine (told_eq x (by exact HR1.out) HOK.out hxo HV.out).mono ?_; rintro e w16 ⟨rfl, hs16⟩; have HY2 := Lib.hid (itemAt.rstp (by exact HY1.out) hs16 hnew); have HI2 := Lib.hid (inAt.rstp HS15.out.inAt hs16 hne); have HS16 := Lib.hid hs16; clear hs16)))
        have gk : Below w.heap.size w w16 := by
          refine chainR ?_ (Nat.le_refl _) HS16.out hbw
          first
            | exact chainS hbk.drew (Nat.le_refl _) HS15.out hbx
            | exact chainS hbk (Nat.le_refl _) HS15.out hbx
            | exact chainS (below_drewN hbk _) (Nat.le_refl _) HS15.out hbx
        have hr2 := HS16.out.inAt
        obtain ⟨a0, a1, a2⟩ := hr2.cell
        have HR2 := Lib.hid hr2
        clear hr2 hbk x0 x1 x2 x3 x4 x5
        simp only at a0 a1 a2
        rcases HCASE.out with ⟨rfl, hq, hfa, hfi⟩ | ⟨rfl, hq, hfa, hfi⟩ | ⟨hg, hfa, hfi⟩
        · have HFA := Lib.hid hfa
          have HFI := Lib.hid hfi
          have hq1 : (q : Int) < S.size := by omega
          clear hfa hfi HCASE
          go_wp2_with fail
          refine (fault_eq (by exact HI2.out) HFA.out).mono ?_
          rintro e w17 ⟨rfl, n17, rfl⟩
          go_wp2_with fail
          go_quiet (fail)
          go_wp2_with fail
          go_quiet ((first | (go_at_call 18; exact q_more (left_eq (by exact HI2.out) HOK2.out HLF.out)) | (go_at_call 15; exact q_more (fin_eq (by exact HI2.out) HOK2.out HFI.out))))
          go_wp2_with fail
          go_roundw
          case rel => exact ⟨k + 1, _, by omega, by go_num, HI2.out, HR2.out, HOK2, ⟨gk.os, gk.tape, gk.output, gk.size, gk.block⟩⟩
          case measure => simp [intOf]; omega
        · have HFA := Lib.hid hfa
          have HFI := Lib.hid hfi
          have hq1 : ¬ (q : Int) < S.size := by omega
          clear hfa hfi HCASE
          go_wp2_with fail
          refine (fault_eq (by exact HI2.out) HFA.out).mono ?_
          rintro e w17 ⟨rfl, n17, rfl⟩
          go_wp2_with fail
          go_quiet (fail)
          go_wp2_with fail
          go_quiet ((first | (go_at_call 18; exact q_more (left_eq (by exact HI2.out) HOK2.out HLF.out)) | (go_at_call 15; exact q_more (fin_eq (by exact HI2.out) HOK2.out HFI.out))))
          go_wp2_with fail
          go_roundw
          case rel => exact ⟨k + 1, _, by omega, by go_num, HI2.out, HR2.out, HOK2, ⟨gk.os, gk.tape, gk.output, gk.size, gk.block⟩⟩
          case measure => simp [intOf]; omega
        · have HFA := Lib.hid hfa
          have HFI := Lib.hid hfi
          have h3' : ((g : Int) == 0) = false := by rw [beq_eq_false_iff_ne]; omega
          have h3 : ¬ ((g : Int) = 0) := by omega
          have h3n : ((g : Int) != 0) = true := by rw [bne_iff_ne]; exact h3
          clear hfa hfi HCASE
          go_wp2_with fail
          refine (fault_eq (by exact HI2.out) HFA.out).mono ?_
          rintro e w17 ⟨rfl, n17, rfl⟩
          go_wp2_with fail
          go_quiet (fail)
          go_wp2_with fail
          go_quiet ((first | (go_at_call 18; exact q_more (left_eq (by exact HI2.out) HOK2.out HLF.out)) | (go_at_call 15; exact q_more (fin_eq (by exact HI2.out) HOK2.out HFI.out))))
          go_wp2_with fail
          go_roundw
          case rel => exact ⟨k + 1, _, by omega, by go_num, HI2.out, HR2.out, HOK2, ⟨gk.os, gk.tape, gk.output, gk.size, gk.block⟩⟩
          case measure => simp [intOf]; omega
    · obtain rfl : k = l.length := by omega
      go_wp2_with fail
      refine (wakes_any _).mono ?_
      rintro e w18 ⟨rfl, hb18⟩
      go_wp2
      go_ret
      exact ⟨rfl, chainO hbk (Nat.le_refl _) hb18⟩

set_option maxRecDepth 100000 in
set_option maxHeartbeats 8000000 in
theorem tells_bare (w : World) (A : Option Addr) (c : Nat) (l : List It) (s : ByteArray) (hgl : great l = false) (hol : ∀ a ∈ l, a.Ok) (hil : listAt w A l) (hs : s.size ≤ 30000) :
    Calls Try.prog 5 #[.string s, .slice A l.length c, .bool true] w fun e w' => e = .returned (.bool true) ∧ Below w.heap.size w w' := by
  obtain ⟨ll, tl⟩ := not_great hgl
  have H1 := great_any w A c l (by omega) (fun a ha => by have := (hol a ha).s; omega) hil
  rw [hgl] at H1
  have HG1 := Lib.hid H1
  have IL := Lib.hid hil
  have OL := Lib.hid hol
  have gs : ¬ (30000 : Int) < s.size := by omega
  have HOK1 : Hid (Rd.Ok ⟨⟨#[]⟩, 0, 0⟩) := ⟨Nat.zero_le _, Nat.zero_le _, by decide⟩
  clear H1 hgl hol hil
  go_enter Try.func5, Try.ntmps5
  go_wp2_with fail
  refine (HG1.out).mono ?_
  rintro e w1 ⟨rfl, rfl⟩
  go_wp2_with fail
  refine (of_any s _ (by omega)).mono ?_
  rintro e w2 ⟨bx0, hbx0, rfl, hinx, hbo⟩
  go_wp2_with fail
  have hbw := hbo.size
  have hb0 : Below w.heap.size w ((w2.alloc (.cells #[.string ⟨#[]⟩, .int .i64 0, .int .i64 0] 57)).alloc (.cells #[.string ⟨#[]⟩, .int .i64 0, .int .i64 0] 59)) := (hbo.alloc hbw _).alloc (Nat.le_trans hbw (by simp)) _
  have hrin0 : rinAt ((w2.alloc (.cells #[.string ⟨#[]⟩, .int .i64 0, .int .i64 0] 57)).alloc (.cells #[.string ⟨#[]⟩, .int .i64 0, .int .i64 0] 59)) w2.heap.size ⟨⟨#[]⟩, 0, 0⟩ := by
    unfold rinAt
    rw [Below.heap_alloc _ _ _ (by simp)]
    exact heap_alloc_new w2 _
  have hin0 : inAt ((w2.alloc (.cells #[.string ⟨#[]⟩, .int .i64 0, .int .i64 0] 57)).alloc (.cells #[.string ⟨#[]⟩, .int .i64 0, .int .i64 0] 59)) (w2.heap.size + 1) ⟨⟨#[]⟩, 0, 0⟩ := by
    have := heap_alloc_new (w2.alloc (.cells #[.string ⟨#[]⟩, .int .i64 0, .int .i64 0] 57)) (.cells #[.string ⟨#[]⟩, .int .i64 0, .int .i64 0] 59)
    simpa [inAt] using this
  have hne : w2.heap.size + 1 ≠ w2.heap.size := by omega
  have hbx : w.heap.size ≤ w2.heap.size + 1 := by omega
  have HOK := HOK1
  clear hbo hinx HOK1 hbx0
  generalize ((w2.alloc (.cells #[.string ⟨#[]⟩, .int .i64 0, .int .i64 0] 57)).alloc (.cells #[.string ⟨#[]⟩, .int .i64 0, .int .i64 0] 59)) = W0 at *
  generalize w2.heap.size + 1 = bx at *
  generalize w2.heap.size = bw at *
  generalize (⟨⟨#[]⟩, 0, 0⟩ : Rd) = r0 at *
  go_loopw [9] (fun i wr => ∃ (k : Nat) (r : Rd), k ≤ l.length ∧ i = .int .i64 k ∧ inAt wr bx r ∧ rinAt wr bw r ∧ Hid r.Ok ∧ Below w.heap.size w wr) (fun i _ => l.length - (intOf i).toNat)
  case atStart => exact ⟨0, r0, Nat.zero_le _, rfl, hin0, hrin0, HOK, hb0⟩
  case round =>
    clear HOK
    obtain ⟨k, r, hk, rfl, hi, hr, HOK, hbk⟩ := hrel
    have HIN := Lib.hid hi
    have HRIN := Lib.hid hr
    clear hi hr hin0 hrin0 hb0
    by_cases hlt : k < l.length
    · have hlt1 : (k : Int) < l.length := by omega
      rcases IL.out with h0 | ⟨b6, off6, rfl, hb6lt, hi6⟩
      · rw [h0] at hlt; simp at hlt
      · have hx := (hi6 k hlt).below hbk hb6lt
        have hxo := OL.out _ (List.getElem_mem hlt)
        have HX := Lib.hid hx
        have HI6 := Lib.hid hi6
        clear hx hi6
        generalize l[k] = x at *
        have hok2 := rdI_ok HOK.out x
        obtain ⟨v, r', hv⟩ : ∃ v r', rdI r x = (v, r') := ⟨_, _, rfl⟩
        rw [hv] at hok2
        obtain ⟨S, q, g⟩ := r'
        have hql := hok2.pos
        have hgl := hok2.f
        have hSl := hok2.lim
        have hrl := Rd.rest_length ⟨S, q, g⟩
        simp only at hql hgl hSl hrl hok2
        have HV := Lib.hid hv
        have HOK2 := Lib.hid hok2
        clear hv hok2
        have hnex : b6 ≠ bx := by omega
        have hnew : b6 ≠ bw := by omega
        have s0 : (0 : Int) ≤ k := by omega
        have hd0 := HX.out
        obtain ⟨x0, x1, x2, x3, x4, x5⟩ := hd0
        obtain ⟨lf, hlf⟩ : ∃ lf, Rd.rest ⟨S, q, g⟩ = lf := ⟨_, rfl⟩
        rw [hlf] at hrl
        have hlfi : (lf.length : Int) = (S.size : Int) - q := by omega
        have HLF := Lib.hid (congrArg List.length hlf)
        have HCASE : Hid ((g = 0 ∧ q < S.size ∧ Rd.fault ⟨S, q, g⟩ = (0, 0) ∧ Rd.fin ⟨S, q, g⟩ = 8) ∨ (g = 0 ∧ ¬ q < S.size ∧ Rd.fault ⟨S, q, g⟩ = (0, 0) ∧ Rd.fin ⟨S, q, g⟩ = 0) ∨ (g ≠ 0 ∧ Rd.fault ⟨S, q, g⟩ = (g, q) ∧ Rd.fin ⟨S, q, g⟩ = g)) := by
          show _ ∨ _ ∨ _
          unfold Rd.fault Rd.fin
          rw [hlf]
          by_cases h0 : g = 0
          · by_cases h1 : q < S.size
            · left
              refine ⟨h0, h1, if_pos h0, ?_⟩
              rw [if_neg (by simpa using h0), if_neg (fun e => by rw [e] at hrl; simp at hrl; omega)]
            · right; left
              refine ⟨h0, h1, if_pos h0, ?_⟩
              rw [if_neg (by simpa using h0), if_pos (List.eq_nil_of_length_eq_zero (by omega))]
          · right; right
            exact ⟨h0, if_neg h0, if_pos h0⟩
        clear hrl hlf
        generalize hlfl : lf.length = lfn at *
        clear hlfl
        go_wp2_with fail
        go_region_held3 (fun w' => w'.cell? ⟨b6, off6 + k * 6, none⟩ = some (.int .u8 x.d) ∧ w'.cell? ⟨b6, off6 + k * 6 + 1, none⟩ = some (.int .u64 x.n) ∧ w'.cell? ⟨b6, off6 + k * 6 + 2, none⟩ = some (.int .i64 x.i) ∧
            w'.cell? ⟨b6, off6 + k * 6 + 3, none⟩ = some (.string x.s) ∧ w'.cell? ⟨b6, off6 + k * 6 + 4, none⟩ = some (.int .u8 x.b) ∧ w'.cell? ⟨b6, off6 + k * 6 + 5, none⟩ = some (.int .i64 x.m))
          (first | exact HX.out | exact HY1.out | exact HY2.out | go_keep)
          ((first
            | (go_at_call 13; refine (read_eq x (by exact HIN.out) HOK.out hxo HV.out).mono ?_; rintro e w15 ⟨rfl, hs15⟩; have HY1 := Lib.hid (itemAt.stp (by exact HX.out) hs15 hnex); have HR1 := Lib.hid (rinAt.stp (by exact HRIN.out) hs15 hne.symm); have HS15 := Lib.hid hs15; clear hs15)
            | (go_at_call 28; refine (told_eq x (by exact HR1.out) HOK.out hxo HV.out).mono ?_; rintro e w16 ⟨rfl, hs16⟩; have HY2 := Lib.hid (itemAt.rstp (by exact HY1.out) hs16 hnew); have HI2 := Lib.hid (inAt.rstp HS15.out.inAt hs16 hne); have HS16 := Lib.hid hs16; clear hs16)))
        have gk : Below w.heap.size w w16 := by
          refine chainR ?_ (Nat.le_refl _) HS16.out hbw
          first
            | exact chainS hbk.drew (Nat.le_refl _) HS15.out hbx
            | exact chainS hbk (Nat.le_refl _) HS15.out hbx
            | exact chainS (below_drewN hbk _) (Nat.le_refl _) HS15.out hbx
        have hr2 := HS16.out.inAt
        obtain ⟨a0, a1, a2⟩ := hr2.cell
        have HR2 := Lib.hid hr2
        clear hr2 hbk x0 x1 x2 x3 x4 x5
        simp only at a0 a1 a2
        rcases HCASE.out with ⟨rfl, hq, hfa, hfi⟩ | ⟨rfl, hq, hfa, hfi⟩ | ⟨hg, hfa, hfi⟩
        · have HFA := Lib.hid hfa
          have HFI := Lib.hid hfi
          have hq1 : (q : Int) < S.size := by omega
          clear hfa hfi HCASE
          go_wp2_with fail
          refine (fault_eq (by exact HI2.out) HFA.out).mono ?_
          rintro e w17 ⟨rfl, n17, rfl⟩
          go_wp2_with fail
          go_quiet (fail)
          go_wp2_with fail
          go_quiet ((first | (go_at_call 18; exact q_more (left_eq (by exact HI2.out) HOK2.out HLF.out)) | (go_at_call 15; exact q_more (fin_eq (by exact HI2.out) HOK2.out HFI.out))))
          go_wp2_with fail
          go_roundw
          case rel => exact ⟨k + 1, _, by omega, by go_num, HI2.out, HR2.out, HOK2, ⟨gk.os, gk.tape, gk.output, gk.size, gk.block⟩⟩
          case measure => simp [intOf]; omega
        · have HFA := Lib.hid hfa
          have HFI := Lib.hid hfi
          have hq1 : ¬ (q : Int) < S.size := by omega
          clear hfa hfi HCASE
          go_wp2_with fail
          refine (fault_eq (by exact HI2.out) HFA.out).mono ?_
          rintro e w17 ⟨rfl, n17, rfl⟩
          go_wp2_with fail
          go_quiet (fail)
          go_wp2_with fail
          go_quiet ((first | (go_at_call 18; exact q_more (left_eq (by exact HI2.out) HOK2.out HLF.out)) | (go_at_call 15; exact q_more (fin_eq (by exact HI2.out) HOK2.out HFI.out))))
          go_wp2_with fail
          go_roundw
          case rel => exact ⟨k + 1, _, by omega, by go_num, HI2.out, HR2.out, HOK2, ⟨gk.os, gk.tape, gk.output, gk.size, gk.block⟩⟩
          case measure => simp [intOf]; omega
        · have HFA := Lib.hid hfa
          have HFI := Lib.hid hfi
          have h3' : ((g : Int) == 0) = false := by rw [beq_eq_false_iff_ne]; omega
          have h3 : ¬ ((g : Int) = 0) := by omega
          have h3n : ((g : Int) != 0) = true := by rw [bne_iff_ne]; exact h3
          clear hfa hfi HCASE
          go_wp2_with fail
          refine (fault_eq (by exact HI2.out) HFA.out).mono ?_
          rintro e w17 ⟨rfl, n17, rfl⟩
          go_wp2_with fail
          go_quiet (fail)
          go_wp2_with fail
          go_quiet ((first | (go_at_call 18; exact q_more (left_eq (by exact HI2.out) HOK2.out HLF.out)) | (go_at_call 15; exact q_more (fin_eq (by exact HI2.out) HOK2.out HFI.out))))
          go_wp2_with fail
          go_roundw
          case rel => exact ⟨k + 1, _, by omega, by go_num, HI2.out, HR2.out, HOK2, ⟨gk.os, gk.tape, gk.output, gk.size, gk.block⟩⟩
          case measure => simp [intOf]; omega
    · obtain rfl : k = l.length := by omega
      go_wp2_with fail
      refine (wakes_any _).mono ?_
      rintro e w18 ⟨rfl, hb18⟩
      go_wp2
      go_ret
      exact ⟨rfl, chainO hbk (Nat.le_refl _) hb18⟩
end Go.Proofs.Ytpecpcedcjdbhaa
