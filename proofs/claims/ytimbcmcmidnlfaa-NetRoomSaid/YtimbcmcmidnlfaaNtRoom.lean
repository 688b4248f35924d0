/-
  NetRoom: a link takes just as many packets more as its room has places that are free.
-/
import Derived.Test.YtimbcmcmidnlfaaNtParted
namespace Go.Proofs.Ytimbcmcmidnlfaa
open Go.RowKit
namespace Nt
def more (f : Int) : Pk := ⟨f, 1 - f, ⟨#[109, 111, 114, 101]⟩⟩
/-- A net with j packets more. -/
def room (M : Md) (p : Pk) (j : Nat) : Md := ⟨M.row ++ List.replicate j p, false⟩
theorem count_rep (p : Pk) (j : Nat) : count (List.replicate j p) p.f = j := by
  unfold count
  rw [List.filter_eq_self.2 (fun a ha => by rw [List.eq_of_mem_replicate ha]; simp), List.length_replicate]
theorem count_room (M : Md) (p : Pk) (j : Nat) : count (room M p j).row p.f = count M.row p.f + j := by
  rw [room, count_append, count_rep]
theorem room_post {M : Md} {p : Pk} {j : Nat} (hl : linked p) (h : count M.row p.f + j < 64) : post (room M p j) p = (room M p (j + 1), 0) := by
  rw [post_room hl (by rw [count_room]; exact h)]
  simp only [room, List.append_assoc, List.replicate_succ']
theorem room_full {M : Md} {p : Pk} {j : Nat} (hl : linked p) (h : count M.row p.f + j = 64) : post (room M p j) p = (room M p j, 6) := by
  unfold post put
  rw [if_pos hl, if_pos (by rw [count_room]; exact h)]
theorem room_len (M : Md) (p : Pk) (j : Nat) : (room M p j).row.length = M.row.length + j := by simp [room]
theorem room_take (M : Md) (p : Pk) (j : Nat) : take (room M p (j + 1)) ((M.row.length + j : Nat) : Int) = (room M p j, p, 0) := by
  have e : (room M p (j + 1)).row = (M.row ++ List.replicate j p) ++ [p] := by simp only [room, List.replicate_succ', List.append_assoc]
  have hl : (M.row ++ List.replicate j p).length = M.row.length + j := by simp
  have hk : M.row.length + j < (room M p (j + 1)).row.length := by rw [room_len]; omega
  rw [take_at hk rfl]
  have e1 : drop (room M p (j + 1)) (M.row.length + j) = room M p j := by
    simp only [drop, room, Md.mk.injEq, and_true]
    rw [List.replicate_succ', ← List.append_assoc, ← hl, List.eraseIdx_append_of_length_le (Nat.le_refl _)]
    simp
  have e2 : (room M p (j + 1)).row[M.row.length + j] = p := by
    have : (room M p (j + 1)).row[M.row.length + j]? = some p := by
      rw [e, List.getElem?_append_right (by omega), hl, Nat.sub_self]; rfl
    rw [List.getElem?_eq_getElem hk] at this
    exact Option.some.inj this
  rw [e1, e2]
theorem room_zero (M : Md) (p : Pk) : room M p 0 = { M with parted := false } := by simp [room]
theorem linked_more {f : Int} (h : f = 0 ∨ f = 1) : linked (more f) := by
  rcases h with rfl | rfl
  · exact .inl ⟨rfl, rfl⟩
  · exact .inr ⟨rfl, rfl⟩
theorem count_step {l : List Pk} {k : Nat} (h : k < l.length) (f : Int) : count (l.take (k + 1)) f = count (l.take k) f + (if l[k].f = f then 1 else 0) := by
  rw [List.take_succ_eq_append_getElem h, count_append, count_one]
end Nt
set_option maxRecDepth 100000 in
set_option maxHeartbeats 4000000 in
theorem netroom_any (W : World) (A : Option Addr) (c : Nat) (l : List Nt.Ac) (hl : l.length ≤ 9223372036854775807) (hit : Nt.listAt W A l) (hs : ∀ a ∈ l, a.Ok) (y : UInt8) :
    Calls Try.prog 7 #[.slice A l.length c, .int .u8 y.toNat] W fun e w' => e = .returned (.bool true) ∧ Below W.heap.size W w' := by
  have AW := Lib.hid (awake8_any W)
  obtain ⟨g, hg⟩ := Nt.great_fair l
  have GR : Hid (∀ wx : World, Below W.heap.size W wx → Calls Try.prog 18 #[.slice A l.length c] wx fun e w' => e = .returned (.bool g) ∧ wx = w') := fun wx hx => great8_any hl (hit.below hx) hs g hg
  cases g with
  | true =>
    clear hit hs hg
    go_enter Try.func7, Try.ntmps7
    go_wp2_with fail
    refine (AW.out).mono ?_
    rintro e w1 ⟨rfl, b1⟩
    go_wp2_with fail
    refine (GR.out w1 b1).mono ?_
    rintro e w2 ⟨rfl, rfl⟩
    go_wp2
    go_ret
    exact ⟨rfl, b1⟩
  | false =>
    have hf : Nt.Fair l := by
      by_cases h : Nt.Fair l
      · exact h
      · have := hg.2 h; cases this
    have AF : Hid (∀ wx : World, Below W.heap.size W wx → Calls Try.prog 24 #[.slice A l.length c] wx fun e w' => ∃ r, e = .returned (.pointer (some ⟨r, 0, none⟩)) ∧ Nt.Own W.heap.size W w' r Nt.Non (Nt.runs Nt.new l)) := fun wx hx => after8_any hx rfl hit hs hf
    clear hit hs hg hf
    generalize Nt.runs Nt.new l = M at *
    have hy := y.toNat_lt
    have htm : ((y.toNat : Nat) : Int).tmod 2 = ((y.toNat % 2 : Nat) : Int) := by rw [Int.tmod_eq_emod_of_nonneg (by omega)]; omega
    obtain ⟨f, hff⟩ : ∃ f, f = y.toNat % 2 := ⟨_, rfl⟩
    have hf2 : f < 2 := by omega
    rw [← hff] at htm
    have hcv : IntKind.i64.wrap (f : Int) = f := by simp [IntKind.wrap, IntKind.bits, IntKind.signed]; omega
    have hcu : IntKind.u8.wrap (f : Int) = f := by rw [IntKind.wrap_u8]; omega
    have hsb : IntKind.i64.wrap (1 - (f : Int)) = 1 - (f : Int) := by simp [IntKind.wrap, IntKind.bits, IntKind.signed]; omega
    clear hff
    have hlk : Nt.linked (Nt.more (f : Int)) := Nt.linked_more (by omega)
    have PO : Hid (∀ (wx : World) (r : Nat) (L : Nat → Prop) (M' : Nt.Md), Nt.Own W.heap.size W wx r L M' → Calls Try.prog 11 #[.pointer (some ⟨r, 0, none⟩), .agg #[.int .i64 (f : Int), .int .i64 (1 - (f : Int)), .string ⟨#[109, 111, 114, 101]⟩]] wx fun e w' => e = .returned (.int .i64 (Nt.post M' (Nt.more f)).2) ∧ Nt.Step W.heap.size W wx w' r L (Nt.post M' (Nt.more f)).1) := fun wx r L M' h => ntPost_any h (Nt.more f) ⟨by show (_ : Int) ≤ (f : Int); omega, by show (f : Int) ≤ _; omega⟩ (by show (4 : Nat) ≤ _; decide)
    have HLK := Lib.hid hlk
    have hpm : (Nt.more (f : Int)).cells.toArray = #[.int .i64 (f : Int), .int .i64 (1 - (f : Int)), .string ⟨#[109, 111, 114, 101]⟩] := rfl
    have HPM := Lib.hid hpm
    clear hlk hpm
    obtain ⟨pm, hpme⟩ : ∃ p, p = Nt.more (f : Int) := ⟨_, rfl⟩
    have hpf : pm.f = (f : Int) := by rw [hpme]; rfl
    rw [← hpme] at PO HLK HPM
    have HPF := Lib.hid hpf
    clear hpme hpf
    go_enter Try.func7, Try.ntmps7
    go_wp2_with fail
    refine (AW.out).mono ?_
    rintro e w1 ⟨rfl, b1⟩
    go_wp2_with fail
    refine (GR.out w1 b1).mono ?_
    rintro e w2 ⟨rfl, rfl⟩
    go_wp2_with fail
    refine (AF.out _ b1).mono ?_
    rintro e w3 ⟨r, rfl, o3⟩
    clear AF GR AW
    have hlen := o3.net.ok.len
    have hcnt : Nt.count M.row (f : Int) ≤ 64 := by
      have h := o3.net.ok.room
      have : f = 0 ∨ f = 1 := by omega
      rcases this with rfl | rfl
      · exact h.1
      · exact h.2
    go_wp2_with fail
    refine (ntPart_any o3 false).mono ?_
    rintro e w4 ⟨rfl, s4⟩
    have o4 : Nt.Own W.heap.size W w4 r Nt.Non (Nt.room M pm 0) := by rw [Nt.room_zero]; exact s4.own
    clear o3 s4
    go_upto_region 9 with (fail)
    have b5 : Below w4.heap.size w4 (w4.alloc (.cells #[.int .i64 (f : Int), .int .i64 (1 - (f : Int)), .string ⟨#[109, 111, 114, 101]⟩] 25)) := (Below.refl _ w4).alloc (Nat.le_refl _) _
    have g5 := heap_alloc_new w4 (.cells #[.int .i64 (f : Int), .int .i64 (1 - (f : Int)), .string ⟨#[109, 111, 114, 101]⟩] 25)
    have o5 := o4.low b5
    have hltN := o4.lt
    obtain ⟨N, hN⟩ : ∃ n, n = w4.heap.size := ⟨_, rfl⟩
    rw [← hN] at g5 hltN ⊢
    have hrN : N ≠ r := by omega
    clear b5 o4 hN hltN
    generalize w4.alloc (.cells #[.int .i64 (f : Int), .int .i64 (1 - (f : Int)), .string ⟨#[109, 111, 114, 101]⟩] 25) = w5 at *
    go_wp2_with fail
    refine (ntAll_any o5).mono ?_
    rintro e w6 ⟨v, rfl, p6, k6⟩
    have o6 := o5.low k6
    have g6 := (k6.block N (Sm.lt_of g5)).trans g5
    clear o5 k6 g5
    generalize w5.heap.size = B1 at *
    replace p6 : Nt.PksAt w6 B1 v M.row := by have := p6; rw [show (Nt.room M pm 0).row = M.row by simp [Nt.room]] at this; exact this
    obtain ⟨A1, c1, rfl, -, -⟩ := p6.shape
    have P6 := Lib.hid p6
    have O6 := Lib.hid o6
    have G6 := Lib.hid g6
    clear p6 o6 g6
    go_wp2
    go_loopw [9, 10] (fun s9 s10 wr => ∃ k : Nat, s10 = .int .i64 k ∧ k ≤ M.row.length ∧ s9 = .int .i64 (Nt.count (M.row.take k) (f : Int) : Nat) ∧ w6 = wr) (fun _ s10 _ => M.row.length - (intOf s10).toNat)
    case atStart => exact ⟨0, rfl, Nat.zero_le _, rfl, rfl⟩
    case round =>
      obtain ⟨k, rfl, hk, rfl, rfl⟩ := hrel
      by_cases hkl : k < M.row.length
      · have hki : (k : Int) < (M.row.length : Int) := by omega
        have hsuc : IntKind.i64.wrap ((k : Int) + 1) = ((k + 1 : Nat) : Int) := by simp [IntKind.wrap, IntKind.bits, IntKind.signed]; omega
        obtain ⟨g1, rfl, hgl, x0, x1, x2⟩ := P6.out.get hkl
        have hst := Nt.count_step hkl (f : Int)
        have hct := Nt.count_le (M.row.take k) (f : Int)
        have htk : (M.row.take k).length ≤ 128 := by rw [List.length_take]; omega
        obtain ⟨pf, hpf⟩ : ∃ x, x = M.row[k].f := ⟨_, rfl⟩
        rw [← hpf] at x0 hst
        obtain ⟨n, hn⟩ : ∃ n, n = Nt.count (M.row.take k) (f : Int) := ⟨_, rfl⟩
        rw [← hn] at hst hct ⊢
        have HST := Lib.hid hst
        have hsn : IntKind.i64.wrap ((n : Int) + 1) = ((n + 1 : Nat) : Int) := by simp [IntKind.wrap, IntKind.bits, IntKind.signed]; omega
        clear hpf hn hst x1 x2
        by_cases he : pf = (f : Int)
        · subst he
          go_wp2
          go_roundw
          case rel => exact ⟨k + 1, rfl, hkl, by rw [HST.out, if_pos rfl]; simp, trivial⟩
          case measure => simp [intOf]; omega
        · have hb : (pf == (f : Int)) = false := beq_eq_false_iff_ne.2 he
          go_wp2
          go_roundw
          case rel => exact ⟨k + 1, rfl, hkl, by rw [HST.out, if_neg he]; rfl, trivial⟩
          case measure => simp [intOf]; omega
      · have hki : ¬ (k : Int) < (M.row.length : Int) := by omega
        have hke : M.row.take k = M.row := List.take_of_length_le (by omega)
        rw [hke]
        obtain ⟨n, hn⟩ : ∃ n, n = Nt.count M.row (f : Int) := ⟨_, rfl⟩
        have hnp : n = Nt.count M.row pm.f := by rw [hn, HPF.out]
        rw [← hn] at hcnt ⊢
        have HNP := Lib.hid hnp
        clear hke hn hnp P6
        go_wp2
        go_loopw [11] (fun s11 wq => ∃ k : Nat, s11 = .int .i64 k ∧ n ≤ k ∧ k ≤ 64 ∧ Nt.Own W.heap.size W wq r Nt.Non (Nt.room M pm (k - n)) ∧ wq.heap[N]? = some (.cells #[.int .i64 (f : Int), .int .i64 (1 - (f : Int)), .string ⟨#[109, 111, 114, 101]⟩] 25 (0, 0))) (fun s11 _ => 64 - (intOf s11).toNat)
        case atStart => exact ⟨n, rfl, Nat.le_refl _, hcnt, by rw [Nat.sub_self]; exact O6.out, G6.out⟩
        case round =>
          clear O6 G6
          obtain ⟨j, rfl, hnj, hj, o, g⟩ := hrel
          have x0 := Sm.cells_of g 0 _ rfl
          have x1 := Sm.cells_of g 1 _ rfl
          have x2 := Sm.cells_of g 2 _ rfl
          by_cases hjl : j < 64
          · have hji : (j : Int) < 64 := by omega
            have hsuj : IntKind.i64.wrap ((j : Int) + 1) = ((j + 1 : Nat) : Int) := by simp [IntKind.wrap, IntKind.bits, IntKind.signed]; omega
            have hrp : Nt.post (Nt.room M pm (j - n)) pm = (Nt.room M pm (j + 1 - n), 0) := by
              rw [Nt.room_post HLK.out (by rw [← HNP.out]; omega), show j - n + 1 = j + 1 - n by omega]
            have HRP := Lib.hid hrp
            clear hrp
            go_wp2_with fail
            refine (PO.out _ _ _ _ o).mono ?_
            rintro e w7 ⟨rfl, s7⟩
            rw [HRP.out] at s7 ⊢
            have O7 := Lib.hid s7.own
            have G7 := Lib.hid ((s7.turned.block N (Sm.lt_of g) (fun e => hrN (Option.some.inj e))).trans g)
            clear s7 o g x0 x1 x2
            go_wp2
            go_roundw
            case rel => exact ⟨j + 1, rfl, by omega, by omega, O7.out, G7.out⟩
            case measure => simp [intOf]; omega
          · have hji : ¬ (j : Int) < 64 := by omega
            have hj64 : j = 64 := by omega
            subst hj64
            have hrf : Nt.post (Nt.room M pm (64 - n)) pm = (Nt.room M pm (64 - n), 6) := Nt.room_full HLK.out (by rw [← HNP.out]; omega)
            have HRF := Lib.hid hrf
            have hrl := Nt.room_len M pm (64 - n)
            have HRL := Lib.hid hrl
            have hq1 : IntKind.i64.wrap ((M.row.length : Int) + 64) = (M.row.length : Int) + 64 := by simp [IntKind.wrap, IntKind.bits, IntKind.signed]; omega
            have hq2 : IntKind.i64.wrap ((M.row.length : Int) + 64 - (n : Int)) = ((M.row.length + (64 - n) : Nat) : Int) := by simp [IntKind.wrap, IntKind.bits, IntKind.signed]; omega
            clear hrf hrl
            go_wp2_with fail
            refine (PO.out _ _ _ _ o).mono ?_
            rintro e w7 ⟨rfl, s7⟩
            rw [HRF.out] at s7 ⊢
            have o7 := s7.own
            have g7 := (s7.turned.block N (Sm.lt_of g) (fun e => hrN (Option.some.inj e))).trans g
            clear s7 o g x0 x1 x2
            have x0 := Sm.cells_of g7 0 _ rfl
            have x1 := Sm.cells_of g7 1 _ rfl
            have x2 := Sm.cells_of g7 2 _ rfl
            go_wp2_with fail
            refine (PO.out _ _ _ _ o7).mono ?_
            rintro e w8 ⟨rfl, s8⟩
            rw [HRF.out] at s8 ⊢
            have o8 := s8.own
            have g8 := (s8.turned.block N (Sm.lt_of g7) (fun e => hrN (Option.some.inj e))).trans g7
            clear s8 o7 g7 x0 x1 x2
            go_wp2_with fail
            refine (ntLen_any o8).mono ?_
            rintro e w9 ⟨rfl, rfl⟩
            rw [HRL.out]
            by_cases hn64 : n = 64
            · subst hn64
              have b8 := o8.below
              clear o8 g8
              go_wp2
              go_ret
              exact ⟨rfl, b8⟩
            · have hni : ((n : Int) == 64) = false := beq_eq_false_iff_ne.2 (by omega)
              have hnn : ¬ (n : Int) = 64 := by omega
              have hq3 : IntKind.i64.wrap (((M.row.length + (64 - n) : Nat) : Int) - 1) = ((M.row.length + (63 - n) : Nat) : Int) := by simp [IntKind.wrap, IntKind.bits, IntKind.signed]; omega
              have htk : Nt.take (Nt.room M pm (64 - n)) ((M.row.length + (63 - n) : Nat) : Int) = (Nt.room M pm (63 - n), pm, 0) := by
                have := Nt.room_take M pm (63 - n)
                rw [show 63 - n + 1 = 64 - n by omega] at this; exact this
              have hrp : Nt.post (Nt.room M pm (63 - n)) pm = (Nt.room M pm (64 - n), 0) := by
                rw [Nt.room_post HLK.out (by rw [← HNP.out]; omega), show 63 - n + 1 = 64 - n by omega]
              obtain ⟨K, hK⟩ : ∃ K, K = M.row.length + (64 - n) := ⟨_, rfl⟩
              obtain ⟨K1, hK1⟩ : ∃ K, K = M.row.length + (63 - n) := ⟨_, rfl⟩
              rw [← hK] at hq2 hq3 HRL ⊢
              rw [← hK1] at hq3 htk
              have HTK := Lib.hid htk
              have HRP := Lib.hid hrp
              clear htk hrp hK hK1
              go_wp2_with fail
              refine (ntLen_any o8).mono ?_
              rintro e w9 ⟨rfl, rfl⟩
              rw [HRL.out]
              go_wp2_with fail
              refine (ntTake_any o8 _).mono ?_
              rintro e w10 ⟨rfl, s10⟩
              rw [HTK.out] at s10 ⊢
              have o10 := s10.own
              have g10 := (s10.turned.block N (Sm.lt_of g8) (fun e => hrN (Option.some.inj e))).trans g8
              rw [HPM.out]
              clear s10 o8 g8
              go_upto_region 26 with (fail)
              have b11 : Below w10.heap.size w10 (w10.alloc (.cells #[.int .i64 (f : Int), .int .i64 (1 - (f : Int)), .string ⟨#[109, 111, 114, 101]⟩] 25)) := (Below.refl _ w10).alloc (Nat.le_refl _) _
              have g11 := heap_alloc_new w10 (.cells #[.int .i64 (f : Int), .int .i64 (1 - (f : Int)), .string ⟨#[109, 111, 114, 101]⟩] 25)
              have o11 := o10.low b11
              have h11 := (b11.block N (Sm.lt_of g10)).trans g10
              obtain ⟨N2, hN2⟩ : ∃ n, n = w10.heap.size := ⟨_, rfl⟩
              rw [← hN2] at g11 ⊢
              clear b11 o10 g10 hN2
              generalize w10.alloc (.cells #[.int .i64 (f : Int), .int .i64 (1 - (f : Int)), .string ⟨#[109, 111, 114, 101]⟩] 25) = w11 at *
              have x0 := Sm.cells_of h11 0 _ rfl
              have x1 := Sm.cells_of h11 1 _ rfl
              have x2 := Sm.cells_of h11 2 _ rfl
              have y0 := Sm.cells_of g11 0 _ rfl
              have y1 := Sm.cells_of g11 1 _ rfl
              have y2 := Sm.cells_of g11 2 _ rfl
              go_wp2_with fail
              refine (PO.out _ _ _ _ o11).mono ?_
              rintro e w12 ⟨rfl, s12⟩
              rw [HRP.out] at s12 ⊢
              have o12 := s12.own
              have h12 := (s12.turned.block N (Sm.lt_of h11) (fun e => hrN (Option.some.inj e))).trans h11
              clear s12 o11 h11 g11 x0 x1 x2 y0 y1 y2
              have x0 := Sm.cells_of h12 0 _ rfl
              have x1 := Sm.cells_of h12 1 _ rfl
              have x2 := Sm.cells_of h12 2 _ rfl
              go_wp2_with fail
              refine (PO.out _ _ _ _ o12).mono ?_
              rintro e w13 ⟨rfl, s13⟩
              rw [HRF.out] at s13 ⊢
              have b13 := s13.own.below
              clear s13 o12 h12 x0 x1 x2
              go_wp2
              go_ret
              exact ⟨rfl, b13⟩
end Go.Proofs.Ytimbcmcmidnlfaa
