/-
  NetParted: a net that is parted and joined again has lost nothing, and let nothing come between.
-/
import Derived.Test.YtimbcmcmidnlfaaNtRun
namespace Go.Proofs.Ytimbcmcmidnlfaa
open Go.RowKit
namespace Nt
theorem Own.block {B : Nat} {w0 w : World} {r : Nat} {L : Nat → Prop} {M : Md} (h : Own B w0 w r L M) : ∃ cs, w.heap[r]? = some (.cells cs 46 (0, 0)) := by obtain ⟨v, h, _⟩ := h.net.net; exact ⟨_, h⟩
/-- A row of packets is kept where a net turns whose packets lie elsewhere. -/
theorem PksAt.step {B : Nat} {w0 w w' : World} {r : Nat} {L : Nat → Prop} {M M' : Md} (h : Own B w0 w r L M) (s : Step B w0 w w' r L M') {B' : Nat} {v : Value} {l : List Pk} (hp : PksAt w B' v l) : PksAt w' B' v l := by
  obtain ⟨cs, hr⟩ := h.block
  exact hp.turned hr net_packet s.turned
/-- The first steps of each statement: the wake is met, the acts are not great. -/
theorem great_fair (l : List Ac) : ∃ g : Bool, (g = true ↔ ¬ Fair l) := by
  by_cases h : Fair l
  · exact ⟨false, by simp [h]⟩
  · exact ⟨true, by simp [h]⟩
end Nt
set_option maxRecDepth 100000 in
set_option maxHeartbeats 4000000 in
theorem netparted_any (W : World) (A : Option Addr) (c : Nat) (l : List Nt.Ac) (hl : l.length ≤ 9223372036854775807) (hit : Nt.listAt W A l) (hs : ∀ a ∈ l, a.Ok) :
    Calls Try.prog 8 #[.slice A l.length c] W fun e w' => e = .returned (.bool true) ∧ Below W.heap.size W w' := by
  have AW := Lib.hid (awake8_any W)
  obtain ⟨g, hg⟩ := Nt.great_fair l
  have GR : Hid (∀ wx : World, Below W.heap.size W wx → Calls Try.prog 18 #[.slice A l.length c] wx fun e w' => e = .returned (.bool g) ∧ wx = w') := fun wx hx => great8_any hl (hit.below hx) hs g hg
  cases g with
  | true =>
    clear hit hs hg
    go_enter Try.func8, Try.ntmps8
    go_wp2_with fail
    refine (AW.out).mono ?_
    rintro e w1 ⟨rfl, b1⟩
    go_wp2_with fail
    refine (GR.out w1 b1).mono ?_
    rintro e w2 ⟨rfl, rfl⟩
    go_wp2
    go_ret
    exact ⟨rfl, b1⟩
  | false =>
    have hf : Nt.Fair l := by
      by_cases h : Nt.Fair l
      · exact h
      · have := hg.2 h; cases this
    have AF : Hid (∀ wx : World, Below W.heap.size W wx → Calls Try.prog 24 #[.slice A l.length c] wx fun e w' => ∃ r, e = .returned (.pointer (some ⟨r, 0, none⟩)) ∧ Nt.Own W.heap.size W w' r Nt.Non (Nt.runs Nt.new l)) := fun wx hx => after8_any hx rfl hit hs hf
    clear hit hs hg hf
    generalize Nt.runs Nt.new l = M at *
    go_enter Try.func8, Try.ntmps8
    go_wp2_with fail
    refine (AW.out).mono ?_
    rintro e w1 ⟨rfl, b1⟩
    go_wp2_with fail
    refine (GR.out w1 b1).mono ?_
    rintro e w2 ⟨rfl, rfl⟩
    go_wp2_with fail
    refine (AF.out _ b1).mono ?_
    rintro e w3 ⟨r, rfl, o3⟩
    clear AF GR AW
    have hlen := o3.net.ok.len
    go_wp2_with fail
    refine (ntAll_any o3).mono ?_
    rintro e w4 ⟨v, rfl, p4, k4⟩
    have o4 := o3.low k4
    clear o3 k4
    obtain ⟨A1, c1, rfl, -, -⟩ := p4.shape
    go_wp2_with fail
    refine (ntPart_any o4 true).mono ?_
    rintro e w5 ⟨rfl, s5⟩
    have p5 := p4.step o4 s5
    have o5 := s5.own
    clear o4 p4 s5
    generalize w3.heap.size = B1 at *
    obtain ⟨M1, hM1⟩ : ∃ M1 : Nt.Md, M1 = { M with parted := true } := ⟨_, rfl⟩
    have hrow : M1.row = M.row := by rw [hM1]
    have hpar : M1.parted = true := by rw [hM1]
    have hback : ({ M1 with parted := false } : Nt.Md).row = M.row := hrow
    rw [← hM1] at o5
    have TA : Hid (∀ i : Nat, i < M.row.length → Nt.take M1 i = (M1, Nt.zero, 14)) := fun i hi => by
      have : Nt.there M1 i = true := Nt.there_nat (by rw [hrow]; exact hi)
      simp [Nt.take, this, hpar]
    have TE : Hid (Nt.take M1 (M.row.length : Nat) = (M1, Nt.zero, 4)) := by
      show _ = _
      have : Nt.there M1 (M.row.length : Nat) = false := Nt.there_not.2 (by rw [hrow]; omega)
      simp [Nt.take, this]
    have HROW := Lib.hid hrow
    clear hM1 hpar hback
    have O5 := Lib.hid o5
    have P5 := Lib.hid p5
    clear o5 p5
    go_wp2
    go_loopw [5, 6, 7] (fun s5 _ _ wr => ∃ k : Nat, s5 = .int .i64 k ∧ k ≤ M.row.length ∧ Nt.Own W.heap.size W wr r Nt.Non M1 ∧ Nt.PksAt wr B1 (.slice A1 M.row.length c1) M.row) (fun s5 _ _ _ => M.row.length - (intOf s5).toNat)
    case atStart => exact ⟨0, rfl, Nat.zero_le _, O5.out, P5.out⟩
    case round =>
      clear O5 P5
      obtain ⟨k, rfl, hk, o, p⟩ := hrel
      by_cases hkl : k < M.row.length
      · have hki : (k : Int) < (M.row.length : Int) := by omega
        have hsuc : IntKind.i64.wrap ((k : Int) + 1) = ((k + 1 : Nat) : Int) := by simp [IntKind.wrap, IntKind.bits, IntKind.signed]; omega
        go_wp2_with fail
        refine (ntTake_any o (k : Int)).mono ?_
        rintro e w6 ⟨rfl, s6⟩
        rw [TA.out k hkl] at s6 ⊢
        have p6 := p.step o s6
        have o6 := s6.own
        clear o p s6
        have hz : Nt.zero.cells.toArray = #[.int .i64 0, .int .i64 0, .string ⟨#[]⟩] := rfl
        rw [hz]
        go_upto_region 12 with (fail)
        have b7 : Below w6.heap.size w6 (w6.alloc (.cells #[.int .i64 0, .int .i64 0, .string ⟨#[]⟩] 25)) := (Below.refl _ w6).alloc (Nat.le_refl _) _
        have g7 := heap_alloc_new w6 (.cells #[.int .i64 0, .int .i64 0, .string ⟨#[]⟩] 25)
        have o7 := o6.low b7
        have p7 := p6.low b7
        obtain ⟨N, hN⟩ : ∃ n, n = w6.heap.size := ⟨_, rfl⟩
        rw [← hN] at g7 ⊢
        clear b7 o6 p6 hN
        generalize w6.alloc (.cells #[.int .i64 0, .int .i64 0, .string ⟨#[]⟩] 25) = w7 at *
        have x0 := Sm.cells_of g7 0 _ rfl
        have x1 := Sm.cells_of g7 1 _ rfl
        have x2 := Sm.cells_of g7 2 _ rfl
        go_wp2
        go_roundw
        case rel => exact ⟨k + 1, rfl, hkl, o7, p7⟩
        case measure => simp [intOf]; omega
      · have hki : ¬ (k : Int) < (M.row.length : Int) := by omega
        clear TA
        go_wp2_with fail
        refine (ntTake_any o (M.row.length : Nat)).mono ?_
        rintro e w6 ⟨rfl, s6⟩
        rw [TE.out] at s6 ⊢
        have p6 := p.step o s6
        have o6 := s6.own
        clear o p s6 TE
        have hz : Nt.zero.cells.toArray = #[.int .i64 0, .int .i64 0, .string ⟨#[]⟩] := rfl
        rw [hz]
        go_upto_region 15 with (fail)
        have b7 : Below w6.heap.size w6 (w6.alloc (.cells #[.int .i64 0, .int .i64 0, .string ⟨#[]⟩] 25)) := (Below.refl _ w6).alloc (Nat.le_refl _) _
        have o7 := o6.low b7
        have p7 := p6.low b7
        clear b7 o6 p6
        generalize w6.alloc (.cells #[.int .i64 0, .int .i64 0, .string ⟨#[]⟩] 25) = w7 at *
        go_wp2_with fail
        refine (ntAll_any o7).mono ?_
        rintro e w8 ⟨v, rfl, p8, k8⟩
        have o8 := o7.low k8
        have q8 := p7.low k8
        clear o7 p7 k8
        rw [HROW.out] at p8
        obtain ⟨A2, c2, rfl, -, -⟩ := p8.shape
        go_wp2_with fail
        refine (ntPart_any o8 false).mono ?_
        rintro e w9 ⟨rfl, s9⟩
        have p9 := p8.step o8 s9
        have q9 := q8.step o8 s9
        have o9 := s9.own
        clear o8 p8 q8 s9
        go_wp2_with fail
        refine (ntParted_any o9).mono ?_
        rintro e w10 ⟨rfl, rfl⟩
        generalize w7.heap.size = B2 at *
        have P9 := Lib.hid p9
        have Q9 := Lib.hid q9
        have B9 := Lib.hid o9.below
        clear p9 q9 o9 HROW
        go_wp2
        go_loopw [11] (fun s11 wq => ∃ j : Nat, s11 = .int .i64 j ∧ j ≤ M.row.length ∧ Nt.PksAt wq B1 (.slice A1 M.row.length c1) M.row ∧ Nt.PksAt wq B2 (.slice A2 M.row.length c2) M.row ∧ Below W.heap.size W wq) (fun s11 _ => M.row.length - (intOf s11).toNat)
        case atStart => exact ⟨0, rfl, Nat.zero_le _, Q9.out, P9.out, B9.out⟩
        case round =>
          clear P9 Q9 B9
          obtain ⟨j, rfl, hj, q, p, b⟩ := hrel
          by_cases hjl : j < M.row.length
          · have hji : (j : Int) < (M.row.length : Int) := by omega
            have hsuj : IntKind.i64.wrap ((j : Int) + 1) = ((j + 1 : Nat) : Int) := by simp [IntKind.wrap, IntKind.bits, IntKind.signed]; omega
            obtain ⟨g1, rfl, -, x0, x1, x2⟩ := q.get hjl
            obtain ⟨g2, rfl, -, y0, y1, y2⟩ := p.get hjl
            generalize M.row[j] = pk at *
            have Q := Lib.hid q
            have P := Lib.hid p
            clear p q
            go_upto_region 22 with (fail)
            go_region
            go_wp2
            go_roundw
            case rel => exact ⟨j + 1, rfl, hjl, Q.out.low ((Below.refl _ _).drew), P.out.low ((Below.refl _ _).drew), b.drew⟩
            case measure => simp [intOf]; omega
          · have hji : ¬ (j : Int) < (M.row.length : Int) := by omega
            clear p q
            go_wp2
            go_ret
            exact ⟨rfl, b⟩
end Go.Proofs.Ytimbcmcmidnlfaa
