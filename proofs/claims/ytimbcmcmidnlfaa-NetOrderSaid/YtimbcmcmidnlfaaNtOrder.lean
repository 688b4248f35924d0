/-
  NetOrder: what is on its way comes in the order that All tells.
-/
import Derived.Test.YtimbcmcmidnlfaaNtParted
namespace Go.Proofs.Ytimbcmcmidnlfaa
open Go.RowKit
namespace Nt
/-- A net whose first k packets came. -/
def rest (M : Md) (k : Nat) : Md := ⟨M.row.drop k, false⟩
theorem rest_take {M : Md} {k : Nat} (h : k < M.row.length) : take (rest M k) 0 = (rest M (k + 1), M.row[k], 0) := by
  have hl : 0 < (rest M k).row.length := by show 0 < (M.row.drop k).length; rw [List.length_drop]; omega
  have h1 := take_at (M := rest M k) (k := 0) hl rfl
  have e1 : drop (rest M k) 0 = rest M (k + 1) := by
    show Md.mk ((M.row.drop k).eraseIdx 0) false = Md.mk (M.row.drop (k + 1)) false
    rw [List.eraseIdx_zero, List.tail_drop]
  have e3 : (M.row.drop k)[0]'(by rw [List.length_drop]; omega) = M.row[k] := by rw [List.getElem_drop]; simp
  have e2 : (rest M k).row[0] = M.row[k] := e3
  rw [e1, e2] at h1
  exact h1
theorem rest_len (M : Md) (k : Nat) : (rest M k).row.length = M.row.length - k := by show (M.row.drop k).length = _; rw [List.length_drop]
theorem none_there {M : Md} (h : M.row.length = 0) (i : Int) : there M i = false := there_not.2 (by omega)
end Nt
set_option maxRecDepth 100000 in
set_option maxHeartbeats 4000000 in
theorem netorder_any (W : World) (A : Option Addr) (c : Nat) (l : List Nt.Ac) (hl : l.length ≤ 9223372036854775807) (hit : Nt.listAt W A l) (hs : ∀ a ∈ l, a.Ok) :
    Calls Try.prog 6 #[.slice A l.length c] W fun e w' => e = .returned (.bool true) ∧ Below W.heap.size W w' := by
  have AW := Lib.hid (awake8_any W)
  obtain ⟨g, hg⟩ := Nt.great_fair l
  have GR : Hid (∀ wx : World, Below W.heap.size W wx → Calls Try.prog 18 #[.slice A l.length c] wx fun e w' => e = .returned (.bool g) ∧ wx = w') := fun wx hx => great8_any hl (hit.below hx) hs g hg
  cases g with
  | true =>
    clear hit hs hg
    go_enter Try.func6, Try.ntmps6
    go_wp2_with fail
    refine (AW.out).mono ?_
    rintro e w1 ⟨rfl, b1⟩
    go_wp2_with fail
    refine (GR.out w1 b1).mono ?_
    rintro e w2 ⟨rfl, rfl⟩
    go_wp2
    go_ret
    exact ⟨rfl, b1⟩
  | false =>
    have hf : Nt.Fair l := by
      by_cases h : Nt.Fair l
      · exact h
      · have := hg.2 h; cases this
    have AF : Hid (∀ wx : World, Below W.heap.size W wx → Calls Try.prog 24 #[.slice A l.length c] wx fun e w' => ∃ r, e = .returned (.pointer (some ⟨r, 0, none⟩)) ∧ Nt.Own W.heap.size W w' r Nt.Non (Nt.runs Nt.new l)) := fun wx hx => after8_any hx rfl hit hs hf
    clear hit hs hg hf
    generalize Nt.runs Nt.new l = M at *
    go_enter Try.func6, Try.ntmps6
    go_wp2_with fail
    refine (AW.out).mono ?_
    rintro e w1 ⟨rfl, b1⟩
    go_wp2_with fail
    refine (GR.out w1 b1).mono ?_
    rintro e w2 ⟨rfl, rfl⟩
    go_wp2_with fail
    refine (AF.out _ b1).mono ?_
    rintro e w3 ⟨r, rfl, o3⟩
    clear AF GR AW
    have hlen := o3.net.ok.len
    go_wp2_with fail
    refine (ntPart_any o3 false).mono ?_
    rintro e w4 ⟨rfl, s4⟩
    have o4 := s4.own
    clear o3 s4
    go_wp2_with fail
    refine (ntAll_any o4).mono ?_
    rintro e w5 ⟨v, rfl, p5, k5⟩
    have o5 : Nt.Own W.heap.size W w5 r Nt.Non (Nt.rest M 0) := o4.low k5
    clear o4 k5
    generalize w4.heap.size = B1 at *
    replace p5 : Nt.PksAt w5 B1 v M.row := p5
    obtain ⟨A1, c1, rfl, -, -⟩ := p5.shape
    have O5 := Lib.hid o5
    have P5 := Lib.hid p5
    clear o5 p5
    go_wp2
    go_loopw [5, 6, 7] (fun s5 _ _ wr => ∃ k : Nat, s5 = .int .i64 k ∧ k ≤ M.row.length ∧ Nt.Own W.heap.size W wr r Nt.Non (Nt.rest M k) ∧ Nt.PksAt wr B1 (.slice A1 M.row.length c1) M.row) (fun s5 _ _ _ => M.row.length - (intOf s5).toNat)
    case atStart => exact ⟨0, rfl, Nat.zero_le _, O5.out, P5.out⟩
    case round =>
      clear O5 P5
      obtain ⟨k, rfl, hk, o, p⟩ := hrel
      by_cases hkl : k < M.row.length
      · have hki : (k : Int) < (M.row.length : Int) := by omega
        have hsuc : IntKind.i64.wrap ((k : Int) + 1) = ((k + 1 : Nat) : Int) := by simp [IntKind.wrap, IntKind.bits, IntKind.signed]; omega
        go_wp2_with fail
        refine (ntTake_any o 0).mono ?_
        rintro e w6 ⟨rfl, s6⟩
        rw [Nt.rest_take hkl] at s6 ⊢
        have p6 := p.step o s6
        have o6 := s6.own
        clear o p s6
        have hlr := Nt.rest_len M (k + 1)
        obtain ⟨g1, rfl, hgl, x0, x1, x2⟩ := p6.get hkl
        have hpe : ∃ pk, pk = M.row[k] := ⟨_, rfl⟩
        obtain ⟨pk, hpk⟩ := hpe
        rw [← hpk] at x0 x1 x2 ⊢
        clear hpk
        obtain ⟨f, t, d⟩ := pk
        unfold Nt.Pk.cells
        simp only at x0 x1 x2 ⊢
        go_upto_region 12 with (fail)
        have b7 : Below w6.heap.size w6 (w6.alloc (.cells #[.int .i64 f, .int .i64 t, .string d] 25)) := (Below.refl _ w6).alloc (Nat.le_refl _) _
        have g7 := heap_alloc_new w6 (.cells #[.int .i64 f, .int .i64 t, .string d] 25)
        have o7 := o6.low b7
        have p7 := p6.low b7
        have x0 := (b7.cell (p := ⟨g1, k * 3, none⟩) hgl).trans x0
        have x1 := (b7.cell (p := ⟨g1, k * 3 + 1, none⟩) hgl).trans x1
        have x2 := (b7.cell (p := ⟨g1, k * 3 + 2, none⟩) hgl).trans x2
        obtain ⟨N, hN⟩ : ∃ n, n = w6.heap.size := ⟨_, rfl⟩
        rw [← hN] at g7 ⊢
        clear b7 o6 p6 hN
        generalize w6.alloc (.cells #[.int .i64 f, .int .i64 t, .string d] 25) = w7 at *
        have y0 := Sm.cells_of g7 0 _ rfl
        have y1 := Sm.cells_of g7 1 _ rfl
        have y2 := Sm.cells_of g7 2 _ rfl
        have O7 := Lib.hid o7
        have P7 := Lib.hid p7
        have LE : Hid (∀ wx : World, Nt.Own W.heap.size W wx r Nt.Non (Nt.rest M (k + 1)) → Calls Try.prog 14 #[.pointer (some ⟨r, 0, none⟩)] wx fun e w' => e = .returned (.int .i64 ((M.row.length - (k + 1) : Nat) : Int)) ∧ wx = w') := fun wx h => by
          have := ntLen_any h
          rw [hlr] at this; exact this
        have hq1 : IntKind.i64.wrap ((M.row.length : Int) - (k : Int)) = (M.row.length : Int) - (k : Int) := by simp [IntKind.wrap, IntKind.bits, IntKind.signed]; omega
        have hq2 : IntKind.i64.wrap ((M.row.length : Int) - (k : Int) - 1) = ((M.row.length - (k + 1) : Nat) : Int) := by simp [IntKind.wrap, IntKind.bits, IntKind.signed]; omega
        have HQ1 := Lib.hid hq1
        have HQ2 := Lib.hid hq2
        clear o7 p7 hlr hq1 hq2
        have hS0 : (fun w' => (w'.cell? ⟨N, 0, none⟩ = some (.int .i64 f) ∧ w'.cell? ⟨N, 1, none⟩ = some (.int .i64 t) ∧ w'.cell? ⟨N, 2, none⟩ = some (.string d)) ∧ w'.cell? ⟨g1, k * 3, none⟩ = some (.int .i64 f) ∧ w'.cell? ⟨g1, k * 3 + 1, none⟩ = some (.int .i64 t) ∧ w'.cell? ⟨g1, k * 3 + 2, none⟩ = some (.string d)) w7.drew := ⟨⟨y0, y1, y2⟩, x0, x1, x2⟩
        clear x0 x1 x2 y0 y1 y2
        refine wp_region_held_drew (S := (fun w' => (w'.cell? ⟨N, 0, none⟩ = some (.int .i64 f) ∧ w'.cell? ⟨N, 1, none⟩ = some (.int .i64 t) ∧ w'.cell? ⟨N, 2, none⟩ = some (.string d)) ∧ w'.cell? ⟨g1, k * 3, none⟩ = some (.int .i64 f) ∧ w'.cell? ⟨g1, k * 3 + 1, none⟩ = some (.int .i64 t) ∧ w'.cell? ⟨g1, k * 3 + 2, none⟩ = some (.string d))) (by kernel_rfl) hS0 (fun hHeld => ?_)
        refine wpAnyH_take (i := 0) (oi := ⟨some 31, _, _, _, _, _⟩) (v := .int .i64 0) rfl (by kernel_rfl) (by kernel_rfl) (by kernel_rfl) (fun _ _ _ h => h) (Or.inl ⟨by rfl, ?_⟩) (by assumption) ?_
        · intro w hSw; (try dsimp only at hSw); go_simp
        simp only [Act.put, List.setIfInBounds_toArray, List.set_cons_zero, List.set_cons_succ]
        refine wpAnyH_take (i := 1) (oi := ⟨some 32, _, _, _, _, _⟩) (v := .bool false) rfl (by kernel_rfl) (by kernel_rfl) (by kernel_rfl) (fun _ _ _ h => h) (Or.inl ⟨by rfl, ?_⟩) (by assumption) ?_
        · intro w hSw; (try dsimp only at hSw); go_simp
        simp only [Act.put, List.setIfInBounds_toArray, List.set_cons_zero, List.set_cons_succ]
        refine wpAnyH_take (i := 2) (oi := ⟨some 33, _, _, _, _, _⟩) (v := .bool false) rfl (by kernel_rfl) (by kernel_rfl) (by kernel_rfl) (fun _ _ _ h => h) (Or.inl ⟨by rfl, ?_⟩) (by assumption) ?_
        · intro w hSw; (try dsimp only at hSw); go_simp
        simp only [Act.put, List.setIfInBounds_toArray, List.set_cons_zero, List.set_cons_succ]
        refine wpAnyH_take (i := 3) (oi := ⟨some 34, _, _, _, _, _⟩) (v := .agg #[.int .i64 f, .int .i64 t, .string d]) rfl (by kernel_rfl) (by kernel_rfl) (by kernel_rfl) (fun _ _ _ h => h) (Or.inl ⟨by rfl, ?_⟩) (by assumption) ?_
        · intro w hSw; (try dsimp only at hSw); obtain ⟨⟨s1, s2, s3⟩, s4, s5, s6⟩ := hSw; go_simp
        simp only [Act.put, List.setIfInBounds_toArray, List.set_cons_zero, List.set_cons_succ]
        refine wpAnyH_take (i := 4) (oi := ⟨some 35, _, _, _, _, _⟩) (v := .slice (some ⟨g1, 0, none⟩) M.row.length c1) rfl (by kernel_rfl) (by kernel_rfl) (by kernel_rfl) (fun _ _ _ h => h) (Or.inl ⟨by rfl, ?_⟩) (by assumption) ?_
        · intro w hSw; (try dsimp only at hSw); go_simp
        simp only [Act.put, List.setIfInBounds_toArray, List.set_cons_zero, List.set_cons_succ]
        refine wpAnyH_take (i := 5) (oi := ⟨some 36, _, _, _, _, _⟩) (v := .int .i64 (k : Int)) rfl (by kernel_rfl) (by kernel_rfl) (by kernel_rfl) (fun _ _ _ h => h) (Or.inl ⟨by rfl, ?_⟩) (by assumption) ?_
        · intro w hSw; (try dsimp only at hSw); go_simp
        simp only [Act.put, List.setIfInBounds_toArray, List.set_cons_zero, List.set_cons_succ]
        refine wpAnyH_take (i := 6) (oi := ⟨some 37, _, _, _, _, _⟩) (v := .pointer (some ⟨g1, k * 3, none⟩)) rfl (by kernel_rfl) (by kernel_rfl) (by kernel_rfl) (fun _ _ _ h => h) (Or.inl ⟨by rfl, ?_⟩) (by assumption) ?_
        · intro w hSw; (try dsimp only at hSw); go_simp
        simp only [Act.put, List.setIfInBounds_toArray, List.set_cons_zero, List.set_cons_succ]
        refine wpAnyH_take (i := 7) (oi := ⟨some 38, _, _, _, _, _⟩) (v := .agg #[.int .i64 f, .int .i64 t, .string d]) rfl (by kernel_rfl) (by kernel_rfl) (by kernel_rfl) (fun _ _ _ h => h) (Or.inl ⟨by rfl, ?_⟩) (by assumption) ?_
        · intro w hSw; (try dsimp only at hSw); obtain ⟨⟨s1, s2, s3⟩, s4, s5, s6⟩ := hSw; go_simp
        simp only [Act.put, List.setIfInBounds_toArray, List.set_cons_zero, List.set_cons_succ]
        refine wpAnyH_take (i := 8) (oi := ⟨some 39, _, _, _, _, _⟩) (v := .bool false) rfl (by kernel_rfl) (by kernel_rfl) (by kernel_rfl) (fun _ _ _ h => h) (Or.inl ⟨by rfl, ?_⟩) (by assumption) ?_
        · intro w hSw; (try dsimp only at hSw); go_simp
        simp only [Act.put, List.setIfInBounds_toArray, List.set_cons_zero, List.set_cons_succ]
        refine wpAnyH_take (i := 9) (oi := ⟨some 40, _, _, _, _, _⟩) (v := .bool false) rfl (by kernel_rfl) (by kernel_rfl) (by kernel_rfl) (fun _ _ _ h => h) (Or.inl ⟨by rfl, ?_⟩) (by assumption) ?_
        · intro w hSw; (try dsimp only at hSw); go_simp
        simp only [Act.put, List.setIfInBounds_toArray, List.set_cons_zero, List.set_cons_succ]
        refine wpAnyH_take (i := 10) (oi := ⟨some 41, _, _, _, _, _⟩) (v := .bool false) rfl (by kernel_rfl) (by kernel_rfl) (by kernel_rfl) (fun _ _ _ h => h) (Or.inl ⟨by rfl, ?_⟩) (by assumption) ?_
        · intro w hSw; (try dsimp only at hSw); go_simp
        simp only [Act.put, List.setIfInBounds_toArray, List.set_cons_zero, List.set_cons_succ]
        refine wpAnyH_take (i := 11) (oi := ⟨some 42, _, _, _, _, _⟩) (v := .pointer (some ⟨r, 0, none⟩)) rfl (by kernel_rfl) (by kernel_rfl) (by kernel_rfl) (fun _ _ _ h => h) (Or.inl ⟨by rfl, ?_⟩) (by assumption) ?_
        · intro w hSw; (try dsimp only at hSw); go_simp
        simp only [Act.put, List.setIfInBounds_toArray, List.set_cons_zero, List.set_cons_succ]
        refine wpAnyH_take (i := 13) (oi := ⟨some 44, _, _, _, _, _⟩) (v := .slice (some ⟨g1, 0, none⟩) M.row.length c1) rfl (by kernel_rfl) (by kernel_rfl) (by kernel_rfl) (fun _ _ _ h => h) (Or.inl ⟨by rfl, ?_⟩) (by assumption) ?_
        · intro w hSw; (try dsimp only at hSw); go_simp
        simp only [Act.put, List.setIfInBounds_toArray, List.set_cons_zero, List.set_cons_succ]
        refine wpAnyH_take (i := 14) (oi := ⟨some 45, _, _, _, _, _⟩) (v := .int .i64 (M.row.length : Int)) rfl (by kernel_rfl) (by kernel_rfl) (by kernel_rfl) (fun _ _ _ h => h) (Or.inl ⟨by rfl, ?_⟩) (by assumption) ?_
        · intro w hSw; (try dsimp only at hSw); go_simp
        simp only [Act.put, List.setIfInBounds_toArray, List.set_cons_zero, List.set_cons_succ]
        refine wpAnyH_take (i := 15) (oi := ⟨some 46, _, _, _, _, _⟩) (v := .int .i64 (k : Int)) rfl (by kernel_rfl) (by kernel_rfl) (by kernel_rfl) (fun _ _ _ h => h) (Or.inl ⟨by rfl, ?_⟩) (by assumption) ?_
        · intro w hSw; (try dsimp only at hSw); go_simp
        simp only [Act.put, List.setIfInBounds_toArray, List.set_cons_zero, List.set_cons_succ]
        refine wpAnyH_take (i := 16) (oi := ⟨some 47, _, _, _, _, _⟩) (v := .int .i64 ((M.row.length : Int) - (k : Int))) rfl (by kernel_rfl) (by kernel_rfl) (by kernel_rfl) (fun _ _ _ h => h) (Or.inl ⟨by rfl, ?_⟩) (by assumption) ?_
        · intro w hSw; (try dsimp only at hSw); have hq := HQ1.out; go_simp
        simp only [Act.put, List.setIfInBounds_toArray, List.set_cons_zero, List.set_cons_succ]
        refine wpAnyH_take (i := 17) (oi := ⟨some 48, _, _, _, _, _⟩) (v := .int .i64 ((M.row.length - (k + 1) : Nat) : Int)) rfl (by kernel_rfl) (by kernel_rfl) (by kernel_rfl) (fun _ _ _ h => h) (Or.inl ⟨by rfl, ?_⟩) (by assumption) ?_
        · intro w hSw; (try dsimp only at hSw); have hq := HQ2.out; go_simp
        simp only [Act.put, List.setIfInBounds_toArray, List.set_cons_zero, List.set_cons_succ]
        refine wpAnyH_ready (rs := [12]) (by kernel_rfl) (by simp) ?_
        refine (AllReadyH.cons (o := ⟨some 43, _, _, _, _, _⟩) rfl (fun K hK => ?_) AllReadyH.nil)
        go_simp
        refine (LE.out _ (O7.out.low ((Below.refl _ _).drew))).mono ?_
        rintro e w' ⟨rfl, rfl⟩
        refine hK.out _ _ hHeld (fun hHeld => ?_)
        clear hK K
        refine wpAnyH_take (i := 18) (oi := ⟨some 49, _, _, _, _, _⟩) (v := .bool false) rfl (by kernel_rfl) (by kernel_rfl) (by kernel_rfl) (fun _ _ _ h => h) (Or.inl ⟨by rfl, ?_⟩) (by assumption) ?_
        · intro w hSw; (try dsimp only at hSw); go_simp
        simp only [Act.put, List.setIfInBounds_toArray, List.set_cons_zero, List.set_cons_succ]
        refine wpAnyH_take (i := 19) (oi := ⟨some 50, _, _, _, _, _⟩) (v := .bool false) rfl (by kernel_rfl) (by kernel_rfl) (by kernel_rfl) (fun _ _ _ h => h) (Or.inl ⟨by rfl, ?_⟩) (by assumption) ?_
        · intro w hSw; (try dsimp only at hSw); go_simp
        simp only [Act.put, List.setIfInBounds_toArray, List.set_cons_zero, List.set_cons_succ]
        refine wpAnyH_done (by kernel_rfl) ?_ _
        clear hHeld
        go_wp2
        go_roundw
        case rel => exact ⟨k + 1, rfl, hkl, O7.out.low ((Below.refl _ _).drew), P7.out.low ((Below.refl _ _).drew)⟩
        case measure => simp [intOf]; omega
      · have hki : ¬ (k : Int) < (M.row.length : Int) := by omega
        have hke : k = M.row.length := by omega
        have hr0 : (Nt.rest M k).row.length = 0 := by rw [Nt.rest_len]; omega
        obtain ⟨M2, hM2⟩ : ∃ m, m = Nt.rest M k := ⟨_, rfl⟩
        rw [← hM2] at o hr0
        have ht0 := Nt.none_there hr0 0
        have e1 : Nt.take M2 0 = (M2, Nt.zero, 4) := by simp [Nt.take, ht0]
        have e2 : Nt.dup M2 0 = (M2, 4) := by simp [Nt.dup, ht0]
        have e3 : Nt.lose M2 0 = (M2, 4) := by simp [Nt.lose, ht0]
        have E1 := Lib.hid e1
        have E2 := Lib.hid e2
        have E3 := Lib.hid e3
        have HR0 := Lib.hid hr0
        clear hM2 ht0 e1 e2 e3 hr0 p
        go_wp2_with fail
        refine (ntTake_any o 0).mono ?_
        rintro e w6 ⟨rfl, s6⟩
        rw [E1.out] at s6 ⊢
        have o6 := s6.own
        clear o s6
        have hz : Nt.zero.cells.toArray = #[.int .i64 0, .int .i64 0, .string ⟨#[]⟩] := rfl
        rw [hz]
        go_upto_region 15 with (fail)
        have b7 : Below w6.heap.size w6 (w6.alloc (.cells #[.int .i64 0, .int .i64 0, .string ⟨#[]⟩] 25)) := (Below.refl _ w6).alloc (Nat.le_refl _) _
        have o7 := o6.low b7
        clear b7 o6
        generalize w6.alloc (.cells #[.int .i64 0, .int .i64 0, .string ⟨#[]⟩] 25) = w7 at *
        go_wp2_with fail
        refine (ntLen_any o7).mono ?_
        rintro e w8 ⟨rfl, rfl⟩
        rw [HR0.out]
        go_wp2_with fail
        refine (ntDup_any o7 0).mono ?_
        rintro e w9 ⟨rfl, s9⟩
        rw [E2.out] at s9 ⊢
        have o9 := s9.own
        clear o7 s9
        go_wp2_with fail
        refine (ntLose_any o9 0).mono ?_
        rintro e w10 ⟨rfl, s10⟩
        rw [E3.out] at s10 ⊢
        have b10 := s10.own.below
        clear o9 s10
        go_wp2
        go_ret
        exact ⟨rfl, b10⟩
end Go.Proofs.Ytimbcmcmidnlfaa
