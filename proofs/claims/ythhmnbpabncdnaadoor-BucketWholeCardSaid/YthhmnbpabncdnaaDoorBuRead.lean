/-
  bucket's pairs and Read.
-/
import Derived.Test.YthhmnbpabncdnaaDoorBuPage
import Derived.Test.YthhmnbpabncdnaaDoorMPackB
namespace Go.Proofs.YthhmnbpabncdnaaDoor
open Go.RowKit Pk
namespace Bu
open Om (Pr)
/-- Where pairs stands: the reader r in block b, what was read in a row of its own. -/
structure Rs (w W : World) (b : Nat) (A : Option Addr) (c : Nat) (l : List Pr) (r : Rd) : Prop where
  stp : Stp w W b r
  row : Om.Row W w.heap.size A c l
section
variable {w W W' : World} {b : Nat} {A : Option Addr} {c : Nat} {l : List Pr} {r r' : Rd}
theorem Rs.low (h : Rs w W b A c l r) : w.heap.size ≤ W.heap.size := h.stp.grown.size
theorem Rs.step (h : Rs w W b A c l r) (k : Stp W W' b r') : Rs w W' b A c l r' := ⟨k.after h.stp.grown, h.row.turned h.stp.inAt (by decide) k.grown⟩
theorem Rs.alloc (h : Rs w W b A c l r) (o : Obj) : Rs w (W.alloc o) b A c l r :=
  h.step ⟨⟨rfl, rfl, rfl, by simp, fun j hj _ => Below.heap_alloc _ _ _ hj⟩, (Below.heap_alloc _ _ _ h.stp.inAt.lt).trans h.stp.inAt⟩
theorem Rs.drewN (h : Rs w W b A c l r) (n : Nat) : Rs w (W.drewN n) b A c l r := ⟨⟨grown_drewN h.stp.grown n, h.stp.inAt⟩, h.row⟩
theorem Rs.push (h : Rs w W b A c l r) {A' : Option Addr} {c' : Nat} {x : Pr} (hr : Om.Row W' w.heap.size A' c' (l ++ [x])) (g : W.grownBy W' (Value.slice A l.length c).ownBlock) : Rs w W' b A' c' (l ++ [x]) r := by
  have hin : inAt W' b r := (g.block b h.stp.inAt.lt (fun e => h.row.off (cs := #[.string r.s, .int .i64 r.pos, .int .i64 r.f]) h.stp.inAt (by decide) e.symm)).trans h.stp.inAt
  exact ⟨⟨⟨g.os.trans h.stp.grown.os, g.tape.trans h.stp.grown.tape, g.output.trans h.stp.grown.output, Nat.le_trans h.low g.size, fun j hj hn => (g.block j (Nat.lt_of_lt_of_le hj h.low) (fun e => by
    have := (h.row.blk e.symm).1
    omega)).trans (h.stp.grown.block j hj hn)⟩, hin⟩, hr⟩
end
theorem rdPr_ok {r : Rd} (h : r.Ok) : (rdPr r).2.Ok := (h.text 33).text 32
theorem rdPrs_len (n : Nat) (r : Rd) : (rdPrs n r).1.length = n := rdPrs_length n r
theorem rdN_le (s : ByteArray) : (rdN s).1 ≤ 48 := by
  have := Rm.most_le (⟨s, 0, 0⟩ : Rd) 48 (by decide)
  unfold rdN
  omega
theorem text_small (r : Rd) (m : Nat) : (⟨(r.text m).1.toArray⟩ : ByteArray).size ≤ m := by
  have := Rm.text_le r m (by omega)
  rw [← Ba.ba_size, Ba.ba_mk]
  omega
end Bu
set_option maxRecDepth 100000 in
set_option maxHeartbeats 4000000 in
theorem buPairs_any {w : World} {b : Nat} (s : ByteArray) (hin : inAt w b ⟨s, 0, 0⟩) (hs : s.size ≤ 281474976710656) :
    Calls Tryd.prog 37 #[.pointer (some ⟨b, 0, none⟩)] w fun e w' => ∃ A c, e = .returned (.tuple #[.slice A (Bu.rdL s).1.length c, .int .i64 ((Bu.rdL s).2.fin : Nat)]) ∧ Om.Row w' w.heap.size A c (Bu.rdL s).1 ∧ w.grownBy w' (some b) := by
  have ok0 : Rd.Ok ⟨s, 0, 0⟩ := ⟨Nat.zero_le _, Nat.zero_le _, hs⟩
  have hn48 := Bu.rdN_le s
  have hL1 : (Bu.rdL s) = Bu.rdPrs (Bu.rdN s).1 (Bu.rdN s).2 := rfl
  obtain ⟨n, hn⟩ : ∃ v, v = (Bu.rdN s).1 := ⟨_, rfl⟩
  obtain ⟨r0, hr0⟩ : ∃ v, v = (Bu.rdN s).2 := ⟨_, rfl⟩
  have ok1 : r0.Ok := by rw [hr0]; exact ok0.most _
  have M1 : Hid (∀ wx, inAt wx b ⟨s, 0, 0⟩ → Calls Tryd.prog 54 #[.pointer (some ⟨b, 0, none⟩), .int .i64 48] wx fun e w' => e = .returned (.int .i64 (n : Int)) ∧ Stp wx w' b r0) := fun wx h => by rw [hn, hr0]; exact most_in h ok0 48 (by decide)
  rw [← hn, ← hr0] at hL1
  rw [← hn] at hn48
  rw [hL1]
  have HR : Hid (∀ k r, r = (Bu.rdPrs k r0).2 → (Bu.rdPrs (k + 1) r0).1 = (Bu.rdPrs k r0).1 ++ [(Bu.rdPr r).1] ∧ (Bu.rdPrs (k + 1) r0).2 = (Bu.rdPr r).2) := fun k r h => by
    have := Bu.rdPrs_snoc k r0
    rw [h, this]
    exact ⟨rfl, rfl⟩
  have S0 : Hid (Bu.Rs w w b none 0 [] ⟨s, 0, 0⟩) := ⟨⟨grown_refl _ _, hin⟩, Om.Row.nil _ _⟩
  have HL : Hid (∀ k, (Bu.rdPrs k r0).1.length = k) := fun k => Bu.rdPrs_len k r0
  have OK1 := Lib.hid ok1
  clear hn hr0 hL1 hin ok0 hs ok1
  go_enter Tryd.func37, Tryd.ntmps37
  go_upto_region 2 with (go_at_call 54; refine (M1.out _ S0.out.stp.inAt).mono ?_; rintro e w1 ⟨rfl, st⟩; have S1 := Lib.hid (S0.out.step st); clear st)
  go_loopw [2, 8] (fun s2 s8 wr => ∃ (k : Nat) (A : Option Addr) (c : Nat) (l : List Om.Pr) (r : Rd), s2 = .slice A l.length c ∧ s8 = .int .i64 k ∧ k ≤ n ∧ r.Ok ∧ Hid (l = (Bu.rdPrs k r0).1) ∧ Hid (r = (Bu.rdPrs k r0).2) ∧ Bu.Rs w wr b A c l r) (fun _ s8 _ => n - (intOf s8).toNat)
  case atStart => exact ⟨0, none, 0, [], r0, rfl, rfl, Nat.zero_le _, OK1.out, rfl, rfl, S1.out⟩
  case round =>
    clear S1 S0 M1 OK1
    obtain ⟨k, A, c, l, r, rfl, rfl, hk, hrok, h1, h2, hs⟩ := hrel
    have S2 := Lib.hid hs
    clear hs
    by_cases hlt : k < n
    · have hki : (k : Int) < (n : Int) := by omega
      have hsuc : IntKind.i64.wrap ((k : Int) + 1) = ((k + 1 : Nat) : Int) := by simp [IntKind.wrap, IntKind.bits, IntKind.signed]; omega
      have T1 := Lib.hid (text_in S2.out.stp.inAt hrok 33 (by decide))
      have hok1 := hrok.text 33
      have HN := Lib.hid (HR.out k r h2.out)
      have HOK := Lib.hid (Bu.rdPr_ok hrok)
      have hll : Hid (l.length = k) := by show _ = _; rw [h1.out]; exact HL.out k
      have hx : (Bu.rdPr r).1 = ⟨⟨(r.text 33).1.toArray⟩, ⟨((r.text 33).2.text 32).1.toArray⟩⟩ := rfl
      have hr2 : (Bu.rdPr r).2 = ((r.text 33).2.text 32).2 := rfl
      rw [hx, hr2] at HN
      rw [hr2] at HOK
      obtain ⟨p, hp⟩ : ∃ p : ByteArray, p = ⟨(r.text 33).1.toArray⟩ := ⟨_, rfl⟩
      obtain ⟨r1, hr1⟩ : ∃ x, x = (r.text 33).2 := ⟨_, rfl⟩
      rw [← hp, ← hr1] at HN
      rw [← hr1] at HOK hok1
      have T1' : Hid (Calls Tryd.prog 55 #[.pointer (some ⟨b, 0, none⟩), .int .i64 33] wr fun e w' => e = .returned (.string p) ∧ Stp wr w' b r1) := by rw [hp, hr1]; exact T1.out
      have T2 : Hid (∀ wx, inAt wx b r1 → Calls Tryd.prog 55 #[.pointer (some ⟨b, 0, none⟩), .int .i64 32] wx fun e w' => e = .returned (.string ⟨(r1.text 32).1.toArray⟩) ∧ Stp wx w' b (r1.text 32).2) := fun wx h => text_in h hok1 32 (by decide)
      obtain ⟨v, hv⟩ : ∃ v : ByteArray, v = ⟨(r1.text 32).1.toArray⟩ := ⟨_, rfl⟩
      obtain ⟨r2, hr22⟩ : ∃ x, x = (r1.text 32).2 := ⟨_, rfl⟩
      rw [← hv, ← hr22] at HN T2
      rw [← hr22] at HOK
      clear T1 hp hr1 hv hr22 hx hr2 hok1 hrok
      go_upto_region 5 with first
        | (go_at_call 55; with_reducible refine T1'.out.mono ?_; rintro e w3 ⟨rfl, st⟩; have S3 := Lib.hid (S2.out.step st); clear st T1')
        | (go_at_call 55; with_reducible refine (T2.out _ S3.out.stp.inAt).mono ?_; rintro e w4 ⟨rfl, st⟩; have S4 := Lib.hid (S3.out.step st); clear st)
      have S5 := Lib.hid (S4.out.alloc (.cells #[.string p, .string v] 37))
      have G5 := Lib.hid (heap_alloc_new w4 (.cells #[.string p, .string v] 37))
      clear S2 S3 S4 T2
      go_wp2_with (at_builtin; refine Om.wp_push rfl _ _ rfl rfl S5.out.row ⟨p, v⟩ rfl G5.out (by have := hll.out; omega) S5.out.low ?_; intro A' c' w7 hr7 hg7; have S7 := Lib.hid (S5.out.push hr7 hg7); clear hr7 hg7)
      go_roundw
      case rel =>
        refine ⟨k + 1, A', c', l ++ [⟨p, v⟩], r2, by simp, rfl, hlt, HOK.out, ?_, ?_, S7.out⟩
        · show _ = _
          rw [HN.out.1, h1.out]
        · show _ = _
          rw [HN.out.2]
      case measure => simp only [intOf]; omega
    · have hki : ¬ (k : Int) < (n : Int) := by omega
      have hkn : k = n := by omega
      have FI := Lib.hid (fin_in S2.out.stp.inAt hrok)
      have h1' := h1.out
      have h2' := h2.out
      rw [hkn] at h1' h2'
      have H1 := Lib.hid h1'
      have H2 := Lib.hid h2'
      clear h1 h2 h1' h2' hk hkn hrok
      go_wp2_with (go_at_call 56; refine FI.out.mono ?_; rintro e w3 ⟨rfl, m, rfl⟩)
      have S9 := Lib.hid (S2.out.drewN m)
      go_ret2
      refine ⟨A, c, ?_, ?_, S9.out.stp.grown⟩
      · rw [← H1.out, ← H2.out]; rfl
      · rw [← H1.out]; exact S9.out.row
namespace Bu
theorem fin_zero {r : Rd} (h : r.fin = 0) : r.f = 0 ∧ r.rest = [] := by
  unfold Rd.fin at h
  split at h
  · rename_i h1; exact absurd h h1
  · rename_i h1
    split at h
    · rename_i h2; exact ⟨by omega, h2⟩
    · cases h
theorem read_out {i : Int} {s : ByteArray} (h : decide (0 ≤ i ∧ i ≤ 15) = false) : read i s = ([], 1) := by
  have h0 := of_decide_eq_false h
  have e : readE i s = 1 := by unfold readE; rw [if_pos (by omega)]
  unfold read
  rw [e, if_neg (by decide)]
theorem read_fin {i : Int} {s : ByteArray} (h : decide (0 ≤ i ∧ i ≤ 15) = true) (hf : (rdL s).2.fin ≠ 0) : read i s = ([], (rdL s).2.fin) := by
  have h0 := of_decide_eq_true h
  have e : readE i s = (rdL s).2.fin := by
    unfold readE
    rw [if_neg (by omega)]
    unfold Rd.fin at hf ⊢
    by_cases h1 : (rdL s).2.f = 0
    · have hn : ¬ (rdL s).2.f ≠ 0 := by omega
      rw [if_neg hn] at hf
      rw [if_neg hn, if_neg hn]
      by_cases h2 : (rdL s).2.rest = []
      · rw [if_pos h2] at hf; exact absurd rfl hf
      · rw [if_neg h2, if_pos (.inl h2)]
    · rw [if_pos h1, if_pos h1]
  unfold read
  rw [e, if_neg hf]
theorem read_form {i : Int} {s : ByteArray} (h : decide (0 ≤ i ∧ i ≤ 15) = true) (hf : (rdL s).2.fin = 0) (hp : pageE i (rdL s).1 ≠ 0) : read i s = ([], 8) := by
  have h0 := of_decide_eq_true h
  obtain ⟨h1, h2⟩ := fin_zero hf
  have e : readE i s = 8 := by unfold readE; rw [if_neg (by omega), if_neg (by omega), if_pos (.inr hp)]
  unfold read
  rw [e, if_neg (by decide)]
theorem read_ok {i : Int} {s : ByteArray} (h : decide (0 ≤ i ∧ i ≤ 15) = true) (hf : (rdL s).2.fin = 0) (hp : pageE i (rdL s).1 = 0) : read i s = ((rdL s).1, 0) := by
  have h0 := of_decide_eq_true h
  obtain ⟨h1, h2⟩ := fin_zero hf
  have e : readE i s = 0 := by unfold readE; rw [if_neg (by omega), if_neg (by omega), if_neg (by rw [h2, hp]; simp)]
  unfold read
  rw [e, if_pos rfl]
theorem rdL_len (s : ByteArray) : (rdL s).1.length ≤ 48 := by
  unfold rdL
  rw [rdPrs_length]
  exact rdN_le s
theorem rdPrs_small : ∀ (n : Nat) (r : Rd), ∀ x ∈ (rdPrs n r).1, x.p.size ≤ 33 ∧ x.v.size ≤ 32
  | 0, _, x, hx => by cases hx
  | n + 1, r, x, hx => by
    rcases List.mem_cons.1 (show x ∈ (rdPr r).1 :: (rdPrs n (rdPr r).2).1 from hx) with rfl | hx
    · exact ⟨text_small r 33, text_small _ 32⟩
    · exact rdPrs_small n _ x hx
theorem rdL_small (s : ByteArray) : ∀ x ∈ (rdL s).1, x.p.size ≤ 33 ∧ x.v.size ≤ 32 := rdPrs_small _ _
end Bu
set_option maxRecDepth 100000 in
set_option maxHeartbeats 4000000 in
theorem buRead_any {w : World} (hH : Sm.HAt w) (hK : Sm.KAt w) (hsz : 1 < w.heap.size) (i : Int) (s : ByteArray) (hs : s.size ≤ 281474976710656) :
    Calls Tryd.prog 22 #[.int .i64 i, .string s] w fun e w' => ∃ A c, e = .returned (.tuple #[.slice A (Bu.read i s).1.length c, .int .i64 ((Bu.read i s).2 : Nat)]) ∧ Om.Row w' w.heap.size A c (Bu.read i s).1 ∧ Below w.heap.size w w' := by
  have PA := Lib.hid (buIsBucket_any w i)
  have OF := Lib.hid (of_any s w hs)
  have PR : Hid (∀ (wx : World) (b : Nat), inAt wx b ⟨s, 0, 0⟩ → Calls Tryd.prog 37 #[.pointer (some ⟨b, 0, none⟩)] wx fun e w' => ∃ A c, e = .returned (.tuple #[.slice A (Bu.rdL s).1.length c, .int .i64 ((Bu.rdL s).2.fin : Nat)]) ∧ Om.Row w' wx.heap.size A c (Bu.rdL s).1 ∧ wx.grownBy w' (some b)) := fun wx b h => buPairs_any s h hs
  have hll := Bu.rdL_len s
  have hsm := Bu.rdL_small s
  have HRO := Lib.hid (@Bu.read_out i s)
  have HRF := Lib.hid (@Bu.read_fin i s)
  have HRM := Lib.hid (@Bu.read_form i s)
  have HRK := Lib.hid (@Bu.read_ok i s)
  obtain ⟨L, hL⟩ : ∃ L, L = (Bu.rdL s).1 := ⟨_, rfl⟩
  obtain ⟨E, hE⟩ : ∃ E, E = (Bu.rdL s).2.fin := ⟨_, rfl⟩
  rw [← hL] at PR hll hsm HRM HRK
  rw [← hE] at PR HRF HRM HRK
  have PG : Hid (∀ (wx : World) (A : Option Addr) (c : Nat), Below w.heap.size w wx → Om.listAt wx A L → Calls Tryd.prog 20 #[.int .i64 i, .slice A L.length c] wx fun e w' => e = .returned (.tuple #[.string (Bu.page i L).1, .int .i64 ((Bu.page i L).2 : Nat)]) ∧ Below wx.heap.size wx w') := fun wx A c hb hl =>
    buPage_any (hH.low hb (by omega)) (hK.low hb hsz) (Nat.lt_of_lt_of_le hsz hb.size) i c hl (by omega) (fun x hx => by have := (hsm x hx).1; omega)
  clear hL hE hsm hH hK hsz hs
  cases h1 : decide (0 ≤ i ∧ i ≤ 15)
  · have e := HRO.out h1
    rw [e]
    rw [h1] at PA
    clear h1 e
    go_enter Tryd.func22, Tryd.ntmps22
    go_wp2_with (go_at_call 30; refine PA.out.mono ?_; rintro e w0 ⟨rfl, rfl⟩)
    go_ret2
    exact ⟨none, 0, rfl, Om.Row.nil _ _, Below.refl _ _⟩
  rw [h1] at PA
  by_cases h2 : E = 0
  · have h2i : ((E : Int) != 0) = false := by rw [h2]; rfl
    by_cases h3 : Bu.pageE i L = 0
    · have e := HRK.out h1 h2 h3
      rw [e]
      have hp2 : (Bu.page i L).2 = 0 := h3
      rw [hp2] at PG
      clear h1 h2 h3 e hp2 HRO HRF HRM HRK
      go_enter Tryd.func22, Tryd.ntmps22
      go_wp2_with first
        | (go_at_call 30; refine PA.out.mono ?_; rintro e w0 ⟨rfl, rfl⟩)
        | (go_at_call 38; refine OF.out.mono ?_; rintro e w1 ⟨b, hb, rfl, hin, k1⟩)
        | (go_at_call 37; refine (PR.out _ _ hin).mono ?_; rintro e w2 ⟨A, c, rfl, hrow, hg⟩; have B2 : Hid (Below w.heap.size w w2) := k1.grown hg k1.size (fun q hq => by cases hq; exact hb); have RW : Hid (Om.Row w2 w.heap.size A c L) := hrow.base k1.size; clear hrow hg)
        | (go_at_call 20; refine (PG.out _ _ _ B2.out RW.out.listAt).mono ?_; rintro e w3 ⟨rfl, k3⟩)
      go_ret2
      exact ⟨A, c, rfl, RW.out.low k3, B2.out.trans (k3.mono B2.out.size)⟩
    · have e := HRM.out h1 h2 h3
      rw [e]
      have hp2 : (Bu.page i L).2 = Bu.pageE i L := rfl
      rw [hp2] at PG
      obtain ⟨E2, hE2⟩ : ∃ E2, E2 = Bu.pageE i L := ⟨_, rfl⟩
      rw [← hE2] at PG h3
      have h3i : ((E2 : Int) != 0) = true := by rw [bne_iff_ne]; omega
      clear h1 h2 h3 e hp2 hE2 HRO HRF HRM HRK
      go_enter Tryd.func22, Tryd.ntmps22
      go_wp2_with first
        | (go_at_call 30; refine PA.out.mono ?_; rintro e w0 ⟨rfl, rfl⟩)
        | (go_at_call 38; refine OF.out.mono ?_; rintro e w1 ⟨b, hb, rfl, hin, k1⟩)
        | (go_at_call 37; refine (PR.out _ _ hin).mono ?_; rintro e w2 ⟨A, c, rfl, hrow, hg⟩; have B2 : Hid (Below w.heap.size w w2) := k1.grown hg k1.size (fun q hq => by cases hq; exact hb); have RW : Hid (Om.Row w2 w.heap.size A c L) := hrow.base k1.size; clear hrow hg)
        | (go_at_call 20; refine (PG.out _ _ _ B2.out RW.out.listAt).mono ?_; rintro e w3 ⟨rfl, k3⟩)
      go_ret2
      exact ⟨none, 0, rfl, Om.Row.nil _ _, B2.out.trans (k3.mono B2.out.size)⟩
  · have h2i : ((E : Int) != 0) = true := by rw [bne_iff_ne]; omega
    have e := HRF.out h1 h2
    rw [e]
    clear h1 h2 e HRO HRF HRM HRK PG
    go_enter Tryd.func22, Tryd.ntmps22
    go_wp2_with first
      | (go_at_call 30; refine PA.out.mono ?_; rintro e w0 ⟨rfl, rfl⟩)
      | (go_at_call 38; refine OF.out.mono ?_; rintro e w1 ⟨b, hb, rfl, hin, k1⟩)
      | (go_at_call 37; refine (PR.out _ _ hin).mono ?_; rintro e w2 ⟨A, c, rfl, hrow, hg⟩; have B2 : Hid (Below w.heap.size w w2) := k1.grown hg k1.size (fun q hq => by cases hq; exact hb); clear hrow hg)
    go_ret2
    exact ⟨none, 0, rfl, Om.Row.nil _ _, B2.out⟩
end Go.Proofs.YthhmnbpabncdnaaDoor
