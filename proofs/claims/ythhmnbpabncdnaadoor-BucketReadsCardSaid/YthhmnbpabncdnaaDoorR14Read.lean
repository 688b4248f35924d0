/-
  The document's Read of buckets.
-/
import Derived.Test.YthhmnbpabncdnaaDoorR14Page
import Derived.Test.YthhmnbpabncdnaaDoorBuRead
import Derived.Test.YthhmnbpabncdnaaDoorR12In
namespace Go.Proofs.YthhmnbpabncdnaaDoor
open Go.RowKit Pk
namespace Bu
open Om (Pr)
theorem rdPrs_add : ∀ {k n : Nat} (_ : k ≤ n) (r : Rd), (rdPrs n r).2 = (rdPrs (n - k) (rdPrs k r).2).2
  | 0, n, _, r => by rw [Nat.sub_zero]; rfl
  | k + 1, 0, h, _ => absurd h (by omega)
  | k + 1, n + 1, h, r => by
    have ih := rdPrs_add (k := k) (n := n) (by omega) (rdPr r).2
    rw [show n + 1 - (k + 1) = n - k by omega]
    exact ih
/-- Where the document's Read stands: the reader in block M, what was read in a row of its own. -/
structure Ws (w W : World) (M : Nat) (A : Option Addr) (c : Nat) (l : List Pr) (r : Rd) : Prop where
  box : R12.inW W M r
  row : Om.Row W M A c l
  bel : Below M w W
section
variable {w W W' : World} {M : Nat} {A : Option Addr} {c : Nat} {l : List Pr} {r r' : Rd}
theorem Ws.low (h : Ws w W M A c l r) : M ≤ W.heap.size := Nat.le_of_lt h.box.lt
theorem Ws.step (h : Ws w W M A c l r) (k : R12.StW W W' M r') : Ws w W' M A c l r' := by
  obtain ⟨S, h1, -⟩ := h.box
  exact ⟨k.inW, h.row.turned h1 (by decide) k.grown, h.bel.grown k.grown h.low (fun _ hq => by cases hq; exact Nat.le_refl _)⟩
theorem Ws.alloc (h : Ws w W M A c l r) (o : Obj) : Ws w (W.alloc o) M A c l r := by
  obtain ⟨S, h1, h2⟩ := h.box
  exact ⟨⟨S, (Below.heap_alloc _ _ _ (Sm.lt_of h1)).trans h1, h2⟩, h.row.low ((Below.refl _ W).alloc (Nat.le_refl _) _), h.bel.alloc h.low _⟩
theorem Ws.push (h : Ws w W M A c l r) {A' : Option Addr} {c' : Nat} {x : Pr} (hr : Om.Row W' M A' c' (l ++ [x])) (g : W.grownBy W' (Value.slice A l.length c).ownBlock) : Ws w W' M A' c' (l ++ [x]) r := by
  obtain ⟨S, h1, h2⟩ := h.box
  exact ⟨⟨S, (g.block M (Sm.lt_of h1) (fun e => h.row.off h1 (by decide) e.symm)).trans h1, h2⟩, hr, h.bel.grown g h.low (fun _ hb => (h.row.blk hb).1)⟩
end
theorem left_none {r : Rd} (h : r.rest = []) : (R12.left r).toList.isEmpty = true := R12.text_none (by rw [R12.left_size, h]; rfl)
theorem left_some {r : Rd} (h : r.rest ≠ []) : (R12.left r).toList.isEmpty = false := R12.text_ne (by
  rw [R12.left_size]
  intro h0
  exact h (List.eq_nil_of_length_eq_zero h0))
end Bu
set_option maxRecDepth 100000 in
set_option maxHeartbeats 4000000 in
theorem r14Read_any {w : World} (i : Int) (s : ByteArray) (hs : s.size ≤ 281474976710656) :
    Calls Tryd.prog 23 #[.int .i64 i, .string s] w fun e w' => ∃ A c, e = .returned (.tuple #[.slice A (Bu.read i s).1.length c, .int .i64 ((Bu.read i s).2 : Nat)]) ∧ Om.Row w' w.heap.size A c (Bu.read i s).1 ∧ Below w.heap.size w w' := by
  by_cases h1 : i < 0
  · rw [Bu.read_out (decide_eq_false (by omega))]
    go_enter Tryd.func23, Tryd.ntmps23
    go_wp2
    go_ret2
    exact ⟨none, 0, rfl, Om.Row.nil _ _, Below.refl _ _⟩
  by_cases h15 : 15 < i
  · rw [Bu.read_out (decide_eq_false (by omega))]
    go_enter Tryd.func23, Tryd.ntmps23
    go_wp2
    go_ret2
    exact ⟨none, 0, rfl, Om.Row.nil _ _, Below.refl _ _⟩
  have HRG : Hid (decide (0 ≤ i ∧ i ≤ 15) = true) := decide_eq_true (by omega)
  have HRF := Lib.hid (@Bu.read_fin i s)
  have HRM := Lib.hid (@Bu.read_form i s)
  have HRK := Lib.hid (@Bu.read_ok i s)
  have HSM := Lib.hid (Bu.rdL_small s)
  have HLN := Lib.hid (Bu.rdL_len s)
  have ok0 : Rd.Ok ⟨s, 0, 0⟩ := ⟨Nat.zero_le _, Nat.zero_le _, hs⟩
  have HLL : Hid (Bu.rdL s = Bu.rdPrs (Bu.rdN s).1 (Bu.rdN s).2) := rfl
  obtain ⟨n, hn⟩ : ∃ v, v = (Bu.rdN s).1 := ⟨_, rfl⟩
  obtain ⟨r0, hr0⟩ : ∃ v, v = (Bu.rdN s).2 := ⟨_, rfl⟩
  have hn48 : n ≤ 48 := by rw [hn]; exact Bu.rdN_le s
  have ok1 : r0.Ok := by rw [hr0]; exact ok0.most _
  have M1 : Hid (∀ wx M, R12.inW wx M ⟨s, 0, 0⟩ → Calls Tryd.prog 39 #[.pointer (some ⟨M, 0, none⟩), .int .u64 48] wx fun e w' => e = .returned (.int .u64 (n : Int)) ∧ R12.StW wx w' M r0) := fun wx M h => by rw [hn, hr0]; exact r12InNum_w h ok0 48 (by decide)
  rw [← hn, ← hr0] at HLL
  have HR : Hid (∀ k r, r = (Bu.rdPrs k r0).2 → (Bu.rdPrs (k + 1) r0).1 = (Bu.rdPrs k r0).1 ++ [(Bu.rdPr r).1] ∧ (Bu.rdPrs (k + 1) r0).2 = (Bu.rdPr r).2) := fun k r h => by
    have := Bu.rdPrs_snoc k r0
    rw [h, this]
    exact ⟨rfl, rfl⟩
  have HL : Hid (∀ k, (Bu.rdPrs k r0).1.length = k) := fun k => Bu.rdPrs_len k r0
  have OK1 := Lib.hid ok1
  obtain ⟨M, hM⟩ : ∃ M, M = w.heap.size := ⟨_, rfl⟩
  have S0 : Hid (Bu.Ws w (w.alloc (.cells #[.string s, .int .i64 0] 65)) M none 0 [] ⟨s, 0, 0⟩) := by
    rw [hM]
    refine ⟨⟨s, heap_alloc_new w _, fun _ => ?_⟩, Om.Row.nil _ _, (Below.refl _ w).alloc (Nat.le_refl _) _⟩
    unfold R12.left
    simp
  have HM := Lib.hid hM
  have PG : Hid (∀ (wx : World) (A : Option Addr) (c : Nat) (l : List Om.Pr), l = (Bu.rdL s).1 → Om.listAt wx A l → Calls Tryd.prog 21 #[.int .i64 i, .slice A l.length c] wx fun e w' => e = .returned (.tuple #[.string (Bu.page i l).1, .int .i64 ((Bu.page i l).2 : Nat)]) ∧ Below wx.heap.size wx w') := fun wx A c l e hl =>
    r14Page_any i c hl (by rw [e]; have := HLN.out; omega) (fun x hx => by rw [e] at hx; have := (HSM.out x hx).1; omega)
  clear hn hr0 ok0 hs ok1
  go_enter Tryd.func23, Tryd.ntmps23
  go_upto_region 4 with (fail)
  rw [← hM]
  clear hM
  generalize w.alloc (.cells #[.string s, .int .i64 0] 65) = W0 at *
  go_upto_region 7 with (go_at_call 39; refine (M1.out _ _ S0.out.box).mono ?_; rintro e w1 ⟨rfl, st⟩; have S1 := Lib.hid (S0.out.step st); clear st)
  clear h1 h15
  go_loopw [7, 9] (fun s2 s8 wr => ∃ (k : Nat) (A : Option Addr) (c : Nat) (l : List Om.Pr) (r : Rd), s2 = .slice A l.length c ∧ s8 = .int .u64 k ∧ k ≤ n ∧ r.Ok ∧ Hid (l = (Bu.rdPrs k r0).1) ∧ Hid (r = (Bu.rdPrs k r0).2) ∧ Bu.Ws w wr M A c l r) (fun _ s8 _ => n - (intOf s8).toNat)
  case atStart => exact ⟨0, none, 0, [], r0, rfl, rfl, Nat.zero_le _, OK1.out, rfl, rfl, S1.out⟩
  case round =>
    clear S1 S0 M1 OK1
    obtain ⟨k, A, c, l, r, rfl, rfl, hk, hrok, h1, h2, hs⟩ := hrel
    have S2 := Lib.hid hs
    clear hs
    by_cases hlt : k < n
    · have hki : (k : Int) < (n : Int) := by omega
      by_cases hf : r.f ≠ 0
      · obtain ⟨S3, g3, -⟩ := S2.out.box
        have c1 := Sm.cells_of g3 1 _ rfl
        have hfe0 : ((r.f : Int) == 0) = false := by rw [beq_eq_false_iff_ne]; omega
        have hfe1 : ((r.f : Int) != 0) = true := by rw [bne_iff_ne]; omega
        have HE : Hid ((Bu.rdL s).2.fin = r.f) := by
          show _ = _
          rw [HLL.out, Bu.rdPrs_add (Nat.le_of_lt_succ (Nat.lt_succ_of_le hk)) r0, ← h2.out]
          unfold Rd.fin
          rw [Bu.rdPrs_bad _ hf, if_pos hf]
        have hrd := HRF.out HRG.out (by rw [HE.out]; exact hf)
        rw [HE.out] at hrd
        have HRD := Lib.hid hrd
        obtain ⟨E, hE⟩ : ∃ E, E = r.f := ⟨_, rfl⟩
        rw [← hE] at c1 hfe0 hfe1 HRD
        clear hrd hf HE hE g3 h2
        go_upto_region 15 with (fail)
        have c2 : wr.drew.cell? ⟨M, 1, none⟩ = some (.int .i64 (E : Int)) := c1
        have BD := Lib.hid (S2.out.bel.drew)
        clear c1
        refine wp_region_held_drew (S := fun w' => w'.cell? ⟨M, 1, none⟩ = some (.int .i64 (E : Int))) (by kernel_rfl) c2 (fun hHeld => ?_)
        refine wpAnyH_take (i := 0) (oi := ⟨some 67, _, _, _, _, _⟩) (v := .pointer (some ⟨M, 0, none⟩)) rfl (by kernel_rfl) (by kernel_rfl) (by kernel_rfl) (fun _ _ _ h => h) (Or.inl ⟨by rfl, ?_⟩) (by assumption) ?_
        · intro w hSw; (try dsimp only at hSw); go_simp
        simp only [Act.put, List.setIfInBounds_toArray, List.set_cons_zero, List.set_cons_succ]
        refine wpAnyH_take (i := 1) (oi := ⟨some 68, _, _, _, _, _⟩) (v := .pointer (some ⟨M, 0, none⟩)) rfl (by kernel_rfl) (by kernel_rfl) (by kernel_rfl) (fun _ _ _ h => h) (Or.inl ⟨by rfl, ?_⟩) (by assumption) ?_
        · intro w hSw; (try dsimp only at hSw); go_simp
        simp only [Act.put, List.setIfInBounds_toArray, List.set_cons_zero, List.set_cons_succ]
        refine wpAnyH_take (i := 2) (oi := ⟨some 69, _, _, _, _, _⟩) (v := .pointer (some ⟨M, 1, none⟩)) rfl (by kernel_rfl) (by kernel_rfl) (by kernel_rfl) (fun _ _ _ h => h) (Or.inl ⟨by rfl, ?_⟩) (by assumption) ?_
        · intro w hSw; (try dsimp only at hSw); go_simp
        simp only [Act.put, List.setIfInBounds_toArray, List.set_cons_zero, List.set_cons_succ]
        refine wpAnyH_take (i := 3) (oi := ⟨some 70, _, _, _, _, _⟩) (v := .int .i64 (E : Int)) rfl (by kernel_rfl) (by kernel_rfl) (by kernel_rfl) (fun _ _ _ h => h) (Or.inl ⟨by rfl, ?_⟩) (by assumption) ?_
        · intro w hSw; (try dsimp only at hSw); go_simp
        simp only [Act.put, List.setIfInBounds_toArray, List.set_cons_zero, List.set_cons_succ]
        refine wpAnyH_take (i := 4) (oi := ⟨some 4, _, _, _, _, _⟩) (v := .slice none 0 0) rfl (by kernel_rfl) (by kernel_rfl) (by kernel_rfl) (fun _ _ _ h => h) (Or.inl ⟨by rfl, ?_⟩) (by assumption) ?_
        · intro w hSw; (try dsimp only at hSw); go_simp
        simp only [Act.put, List.setIfInBounds_toArray, List.set_cons_zero, List.set_cons_succ]
        refine wpAnyH_take (i := 5) (oi := ⟨some 5, _, _, _, _, _⟩) (v := .int .i64 (E : Int)) rfl (by kernel_rfl) (by kernel_rfl) (by kernel_rfl) (fun _ _ _ h => h) (Or.inl ⟨by rfl, ?_⟩) (by assumption) ?_
        · intro w hSw; (try dsimp only at hSw); go_simp
        simp only [Act.put, List.setIfInBounds_toArray, List.set_cons_zero, List.set_cons_succ]
        refine wpAnyH_done (by kernel_rfl) ?_ _
        go_wp2_with fail
        go_ret2
        exact ⟨none, 0, by rw [HRD.out]; rfl, by rw [HRD.out]; exact Om.Row.nil _ _, by rw [← HM.out]; exact BD.out⟩
      · have hf0 : r.f = 0 := by omega
        have hsuc : IntKind.u64.wrap ((k : Int) + 1) = ((k + 1 : Nat) : Int) := by rw [IntKind.wrap_u64]; omega
        obtain ⟨S3, g3, -⟩ := S2.out.box
        rw [hf0] at g3
        have c1 := Sm.cells_of g3 1 _ rfl
        have T1 := Lib.hid (r12InText_w S2.out.box hrok 33 (by decide))
        have hok1 := hrok.text 33
        have HN := Lib.hid (HR.out k r h2.out)
        have HOK := Lib.hid (Bu.rdPr_ok hrok)
        have hll : Hid (l.length = k) := by show _ = _; rw [h1.out]; exact HL.out k
        have hx : (Bu.rdPr r).1 = ⟨⟨(r.text 33).1.toArray⟩, ⟨((r.text 33).2.text 32).1.toArray⟩⟩ := rfl
        have hr2 : (Bu.rdPr r).2 = ((r.text 33).2.text 32).2 := rfl
        rw [hx, hr2] at HN
        rw [hr2] at HOK
        obtain ⟨p, hp⟩ : ∃ p : ByteArray, p = ⟨(r.text 33).1.toArray⟩ := ⟨_, rfl⟩
        obtain ⟨r1, hr1⟩ : ∃ x, x = (r.text 33).2 := ⟨_, rfl⟩
        rw [← hp, ← hr1] at HN
        rw [← hr1] at HOK hok1
        have T1' : Hid (Calls Tryd.prog 40 #[.pointer (some ⟨M, 0, none⟩), .int .u64 33] wr fun e w' => e = .returned (.string p) ∧ R12.StW wr w' M r1) := by rw [hp, hr1]; exact T1.out
        have T2 : Hid (∀ wx, R12.inW wx M r1 → Calls Tryd.prog 40 #[.pointer (some ⟨M, 0, none⟩), .int .u64 32] wx fun e w' => e = .returned (.string ⟨(r1.text 32).1.toArray⟩) ∧ R12.StW wx w' M (r1.text 32).2) := fun wx h => r12InText_w h hok1 32 (by decide)
        obtain ⟨v, hv⟩ : ∃ v : ByteArray, v = ⟨(r1.text 32).1.toArray⟩ := ⟨_, rfl⟩
        obtain ⟨r2, hr22⟩ : ∃ x, x = (r1.text 32).2 := ⟨_, rfl⟩
        rw [← hv, ← hr22] at HN T2
        rw [← hr22] at HOK
        clear T1 hp hr1 hv hr22 hx hr2 hok1 hrok g3 hf hf0
        go_upto_region 11 with first
          | (go_at_call 40; with_reducible refine T1'.out.mono ?_; rintro e w3 ⟨rfl, st⟩; have S3 := Lib.hid (S2.out.step st); clear st T1')
          | (go_at_call 40; with_reducible refine (T2.out _ S3.out.box).mono ?_; rintro e w4 ⟨rfl, st⟩; have S4 := Lib.hid (S3.out.step st); clear st)
        have S5 := Lib.hid (S4.out.alloc (.cells #[.string p, .string v] 37))
        have G5 := Lib.hid (heap_alloc_new w4 (.cells #[.string p, .string v] 37))
        clear S2 S4 T2 c1
        go_wp2_with (at_builtin; refine Om.wp_push rfl _ _ rfl rfl S5.out.row ⟨p, v⟩ rfl G5.out (by have := hll.out; omega) S5.out.low ?_; intro A' c' w7 hr7 hg7; have S7 := Lib.hid (S5.out.push hr7 hg7); clear hr7 hg7)
        go_roundw
        case rel =>
          refine ⟨k + 1, A', c', l ++ [⟨p, v⟩], r2, by simp, rfl, hlt, HOK.out, ?_, ?_, S7.out⟩
          · show _ = _
            rw [HN.out.1, h1.out]
          · show _ = _
            rw [HN.out.2]
        case measure => simp only [intOf]; omega
    · have hki : ¬ (k : Int) < (n : Int) := by omega
      by_cases hf : r.f ≠ 0
      · obtain ⟨S3, g3, -⟩ := S2.out.box
        have c1 := Sm.cells_of g3 1 _ rfl
        have hfe0 : ((r.f : Int) == 0) = false := by rw [beq_eq_false_iff_ne]; omega
        have hfe1 : ((r.f : Int) != 0) = true := by rw [bne_iff_ne]; omega
        have HE : Hid ((Bu.rdL s).2.fin = r.f) := by
          show _ = _
          rw [HLL.out, Bu.rdPrs_add (Nat.le_of_lt_succ (Nat.lt_succ_of_le hk)) r0, ← h2.out]
          unfold Rd.fin
          rw [Bu.rdPrs_bad _ hf, if_pos hf]
        have hrd := HRF.out HRG.out (by rw [HE.out]; exact hf)
        rw [HE.out] at hrd
        have HRD := Lib.hid hrd
        obtain ⟨E, hE⟩ : ∃ E, E = r.f := ⟨_, rfl⟩
        rw [← hE] at c1 hfe0 hfe1 HRD
        clear hrd hf HE hE g3 h2
        go_upto_region 15 with (fail)
        have c2 : wr.drew.cell? ⟨M, 1, none⟩ = some (.int .i64 (E : Int)) := c1
        have BD := Lib.hid (S2.out.bel.drew)
        clear c1
        refine wp_region_held_drew (S := fun w' => w'.cell? ⟨M, 1, none⟩ = some (.int .i64 (E : Int))) (by kernel_rfl) c2 (fun hHeld => ?_)
        refine wpAnyH_take (i := 0) (oi := ⟨some 67, _, _, _, _, _⟩) (v := .pointer (some ⟨M, 0, none⟩)) rfl (by kernel_rfl) (by kernel_rfl) (by kernel_rfl) (fun _ _ _ h => h) (Or.inl ⟨by rfl, ?_⟩) (by assumption) ?_
        · intro w hSw; (try dsimp only at hSw); go_simp
        simp only [Act.put, List.setIfInBounds_toArray, List.set_cons_zero, List.set_cons_succ]
        refine wpAnyH_take (i := 1) (oi := ⟨some 68, _, _, _, _, _⟩) (v := .pointer (some ⟨M, 0, none⟩)) rfl (by kernel_rfl) (by kernel_rfl) (by kernel_rfl) (fun _ _ _ h => h) (Or.inl ⟨by rfl, ?_⟩) (by assumption) ?_
        · intro w hSw; (try dsimp only at hSw); go_simp
        simp only [Act.put, List.setIfInBounds_toArray, List.set_cons_zero, List.set_cons_succ]
        refine wpAnyH_take (i := 2) (oi := ⟨some 69, _, _, _, _, _⟩) (v := .pointer (some ⟨M, 1, none⟩)) rfl (by kernel_rfl) (by kernel_rfl) (by kernel_rfl) (fun _ _ _ h => h) (Or.inl ⟨by rfl, ?_⟩) (by assumption) ?_
        · intro w hSw; (try dsimp only at hSw); go_simp
        simp only [Act.put, List.setIfInBounds_toArray, List.set_cons_zero, List.set_cons_succ]
        refine wpAnyH_take (i := 3) (oi := ⟨some 70, _, _, _, _, _⟩) (v := .int .i64 (E : Int)) rfl (by kernel_rfl) (by kernel_rfl) (by kernel_rfl) (fun _ _ _ h => h) (Or.inl ⟨by rfl, ?_⟩) (by assumption) ?_
        · intro w hSw; (try dsimp only at hSw); go_simp
        simp only [Act.put, List.setIfInBounds_toArray, List.set_cons_zero, List.set_cons_succ]
        refine wpAnyH_take (i := 4) (oi := ⟨some 4, _, _, _, _, _⟩) (v := .slice none 0 0) rfl (by kernel_rfl) (by kernel_rfl) (by kernel_rfl) (fun _ _ _ h => h) (Or.inl ⟨by rfl, ?_⟩) (by assumption) ?_
        · intro w hSw; (try dsimp only at hSw); go_simp
        simp only [Act.put, List.setIfInBounds_toArray, List.set_cons_zero, List.set_cons_succ]
        refine wpAnyH_take (i := 5) (oi := ⟨some 5, _, _, _, _, _⟩) (v := .int .i64 (E : Int)) rfl (by kernel_rfl) (by kernel_rfl) (by kernel_rfl) (fun _ _ _ h => h) (Or.inl ⟨by rfl, ?_⟩) (by assumption) ?_
        · intro w hSw; (try dsimp only at hSw); go_simp
        simp only [Act.put, List.setIfInBounds_toArray, List.set_cons_zero, List.set_cons_succ]
        refine wpAnyH_done (by kernel_rfl) ?_ _
        go_wp2_with fail
        go_ret2
        exact ⟨none, 0, by rw [HRD.out]; rfl, by rw [HRD.out]; exact Om.Row.nil _ _, by rw [← HM.out]; exact BD.out⟩
      · have hf0 : r.f = 0 := by omega
        have hkn : k = n := by omega
        have h1' := h1.out
        have h2' := h2.out
        rw [hkn, ← HLL.out] at h1' h2'
        obtain ⟨S3, g3, hS3⟩ := S2.out.box
        have hS := hS3 hf0
        subst hS
        rw [hf0] at g3
        have c1 := Sm.cells_of g3 1 _ rfl
        have c0 := Sm.cells_of g3 0 _ rfl
        by_cases hrest : r.rest = []
        · have hemp := Bu.left_none hrest
          have hfin : (Bu.rdL s).2.fin = 0 := by
            rw [← h2']
            unfold Rd.fin
            rw [if_neg (by omega), if_pos hrest]
          have HRK2 := Lib.hid (HRK.out HRG.out hfin)
          have HRM2 := Lib.hid (HRM.out HRG.out hfin)
          have PGL := Lib.hid (PG.out wr A c l h1' S2.out.row.listAt)
          rw [← h1'] at HRK2 HRM2
          obtain ⟨SL, hSL⟩ : ∃ S, S = R12.left r := ⟨_, rfl⟩
          rw [← hSL] at hemp c0
          clear hfin h1' h2' hS3 hf hf0 g3 hrest hSL h1 h2 PG HRF HRM HRK hkn
          by_cases hp : Bu.pageE i l = 0
          · have hp2 : (Bu.page i l).2 = 0 := hp
            rw [hp2] at PGL
            have HRD := Lib.hid (HRK2.out hp)
            clear hp hp2
            go_wp2_with (go_at_call 21; refine PGL.out.mono ?_; rintro e w9 ⟨rfl, k9⟩)
            go_ret2
            exact ⟨A, c, by rw [HRD.out]; rfl, by rw [HRD.out, ← HM.out]; exact S2.out.row.low k9, by rw [← HM.out]; exact S2.out.bel.trans (k9.mono S2.out.low)⟩
          · have HRD := Lib.hid (HRM2.out hp)
            have hp2 : (Bu.page i l).2 = Bu.pageE i l := rfl
            rw [hp2] at PGL
            obtain ⟨E2, hE2⟩ : ∃ E2, E2 = Bu.pageE i l := ⟨_, rfl⟩
            rw [← hE2] at PGL hp
            have h3i : ((E2 : Int) != 0) = true := by rw [bne_iff_ne]; omega
            clear hp hp2 hE2
            go_wp2_with (go_at_call 21; refine PGL.out.mono ?_; rintro e w9 ⟨rfl, k9⟩)
            go_ret2
            exact ⟨none, 0, by rw [HRD.out]; rfl, by rw [HRD.out]; exact Om.Row.nil _ _, by rw [← HM.out]; exact S2.out.bel.trans (k9.mono S2.out.low)⟩
        · have hemp := Bu.left_some hrest
          have hfin : (Bu.rdL s).2.fin = 8 := by
            rw [← h2']
            unfold Rd.fin
            rw [if_neg (by omega), if_neg hrest]
          have hrd := HRF.out HRG.out (by rw [hfin]; decide)
          rw [hfin] at hrd
          have HRD := Lib.hid hrd
          have q1 := Sm.free_of g3 1
          have g4 := Sm.heap_set g3 1 (.int .i64 8)
          have BS : Hid (Below M w (wr.setCell ⟨M, 1, none⟩ (.int .i64 8))) := S2.out.bel.setCell (p := ⟨M, 1, none⟩) (Nat.le_refl M) _
          have c2 := Sm.cells_of g4 1 _ rfl
          obtain ⟨SL, hSL⟩ : ∃ S, S = R12.left r := ⟨_, rfl⟩
          rw [← hSL] at hemp c0
          clear hfin hrd h1' h2' hS3 hf hf0 g3 hrest hSL h1 h2 PG HRF HRM HRK hkn
          go_upto_region 14 with (fail)
          generalize wr.setCell ⟨M, 1, none⟩ (.int .i64 8) = w8 at *
          clear c0 c1 q1 g4
          go_upto_region 15 with (fail)
          have c3 : w8.drew.cell? ⟨M, 1, none⟩ = some (.int .i64 8) := c2
          have BD := Lib.hid (BS.out.drew)
          clear c2
          refine wp_region_held_drew (S := fun w' => w'.cell? ⟨M, 1, none⟩ = some (.int .i64 8)) (by kernel_rfl) c3 (fun hHeld => ?_)
          refine wpAnyH_take (i := 0) (oi := ⟨some 67, _, _, _, _, _⟩) (v := .pointer (some ⟨M, 0, none⟩)) rfl (by kernel_rfl) (by kernel_rfl) (by kernel_rfl) (fun _ _ _ h => h) (Or.inl ⟨by rfl, ?_⟩) (by assumption) ?_
          · intro w hSw; (try dsimp only at hSw); go_simp
          simp only [Act.put, List.setIfInBounds_toArray, List.set_cons_zero, List.set_cons_succ]
          refine wpAnyH_take (i := 1) (oi := ⟨some 68, _, _, _, _, _⟩) (v := .pointer (some ⟨M, 0, none⟩)) rfl (by kernel_rfl) (by kernel_rfl) (by kernel_rfl) (fun _ _ _ h => h) (Or.inl ⟨by rfl, ?_⟩) (by assumption) ?_
          · intro w hSw; (try dsimp only at hSw); go_simp
          simp only [Act.put, List.setIfInBounds_toArray, List.set_cons_zero, List.set_cons_succ]
          refine wpAnyH_take (i := 2) (oi := ⟨some 69, _, _, _, _, _⟩) (v := .pointer (some ⟨M, 1, none⟩)) rfl (by kernel_rfl) (by kernel_rfl) (by kernel_rfl) (fun _ _ _ h => h) (Or.inl ⟨by rfl, ?_⟩) (by assumption) ?_
          · intro w hSw; (try dsimp only at hSw); go_simp
          simp only [Act.put, List.setIfInBounds_toArray, List.set_cons_zero, List.set_cons_succ]
          refine wpAnyH_take (i := 3) (oi := ⟨some 70, _, _, _, _, _⟩) (v := .int .i64 8) rfl (by kernel_rfl) (by kernel_rfl) (by kernel_rfl) (fun _ _ _ h => h) (Or.inl ⟨by rfl, ?_⟩) (by assumption) ?_
          · intro w hSw; (try dsimp only at hSw); go_simp
          simp only [Act.put, List.setIfInBounds_toArray, List.set_cons_zero, List.set_cons_succ]
          refine wpAnyH_take (i := 4) (oi := ⟨some 4, _, _, _, _, _⟩) (v := .slice none 0 0) rfl (by kernel_rfl) (by kernel_rfl) (by kernel_rfl) (fun _ _ _ h => h) (Or.inl ⟨by rfl, ?_⟩) (by assumption) ?_
          · intro w hSw; (try dsimp only at hSw); go_simp
          simp only [Act.put, List.setIfInBounds_toArray, List.set_cons_zero, List.set_cons_succ]
          refine wpAnyH_take (i := 5) (oi := ⟨some 5, _, _, _, _, _⟩) (v := .int .i64 8) rfl (by kernel_rfl) (by kernel_rfl) (by kernel_rfl) (fun _ _ _ h => h) (Or.inl ⟨by rfl, ?_⟩) (by assumption) ?_
          · intro w hSw; (try dsimp only at hSw); go_simp
          simp only [Act.put, List.setIfInBounds_toArray, List.set_cons_zero, List.set_cons_succ]
          refine wpAnyH_done (by kernel_rfl) ?_ _
          go_wp2_with fail
          go_ret2
          exact ⟨none, 0, by rw [HRD.out]; rfl, by rw [HRD.out]; exact Om.Row.nil _ _, by rw [← HM.out]; exact BD.out⟩
end Go.Proofs.YthhmnbpabncdnaaDoor
