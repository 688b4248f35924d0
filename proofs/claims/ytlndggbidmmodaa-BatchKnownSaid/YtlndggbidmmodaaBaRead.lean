/-
  batch's Read.
-/
import Derived.Test.YtlndggbidmmodaaBaFields
import Derived.Test.YtlndggbidmmodaaBaWrite
namespace Go.Proofs.Ytlndggbidmmodaa
open Go.RowKit Pk
namespace Ba
theorem rdOp_small (r : Rd) : (rdOp r).1.k < 256 ∧ (rdOp r).1.p.size ≤ 33 ∧ (rdOp r).1.v.size ≤ 32 := by
  have hb := byte_lt r
  have h1 := Rm.text_le r.byte.2 33 (by decide)
  have h2 := Rm.text_le (r.byte.2.text 33).2 32 (by decide)
  have z : no.size = 0 := rfl
  have e1 : (⟨(r.byte.2.text 33).1.toArray⟩ : ByteArray).size ≤ 33 := by rw [ba_mk_size]; omega
  have e2 : (⟨((r.byte.2.text 33).2.text 32).1.toArray⟩ : ByteArray).size ≤ 32 := by rw [ba_mk_size]; omega
  unfold rdOp
  split
  · exact ⟨by show (0 : Nat) < 256; decide, by show no.size ≤ 33; omega, by show no.size ≤ 32; omega⟩
  · split
    · exact ⟨hb, by show no.size ≤ 33; omega, by show no.size ≤ 32; omega⟩
    · split
      · exact ⟨hb, by show no.size ≤ 33; omega, by show no.size ≤ 32; omega⟩
      · split
        · exact ⟨by show (1 : Nat) < 256; decide, e1, e2⟩
        · exact ⟨by show (2 : Nat) < 256; decide, e1, by show no.size ≤ 32; omega⟩
theorem rdOps_small : ∀ (n : Nat) (r : Rd), (rdOps n r).1.length ≤ n ∧ ∀ o ∈ (rdOps n r).1, o.k < 256 ∧ o.p.size ≤ 33 ∧ o.v.size ≤ 32
  | 0, _ => ⟨Nat.le_refl _, fun o ho => by simp [rdOps] at ho⟩
  | n + 1, r => by
    by_cases h : (rdOp r).2.2 = 0
    · rw [rdOps_good h]
      obtain ⟨i1, i2⟩ := rdOps_small n (rdOp r).2.1
      refine ⟨by simp only [List.length_cons]; omega, fun o ho => ?_⟩
      rcases List.mem_cons.1 ho with e | e
      · rw [e]; exact rdOp_small r
      · exact i2 o e
    · rw [rdOps_bad h]
      exact ⟨by simp, fun o ho => by simp at ho⟩
theorem rdN_le (s : ByteArray) : (rdN s).1 ≤ 4 := by
  have := Rm.most_le (rdE s).2 4 (by decide)
  have e : ((rdE s).2.most 4).1 = (rdN s).1 := rfl
  omega
theorem got_small (s : ByteArray) : (got s).ops.length ≤ 4 ∧ ∀ o ∈ (got s).ops, o.k < 256 ∧ o.p.size ≤ 33 ∧ o.v.size ≤ 32 := by
  obtain ⟨h1, h2⟩ := rdOps_small (rdN s).1 (rdN s).2
  exact ⟨Nat.le_trans h1 (rdN_le s), h2⟩
theorem got_ok (s : ByteArray) : (got s).Ok := by
  obtain ⟨h1, h2⟩ := got_numbers s
  obtain ⟨h3, h4⟩ := got_small s
  have z1 : 0 ≤ (got s).ix := Int.natCast_nonneg _
  have z2 : 0 ≤ (got s).ep := Int.natCast_nonneg _
  exact ⟨by omega, by omega, fun o ho => ⟨(h4 o ho).1, by have := (h4 o ho).2.1; omega, by have := (h4 o ho).2.2; omega⟩, by omega⟩
theorem bt_zero : (Try.prog.info? 31).map (·.zero) = some (some (.agg #[.int .i64 0, .int .i64 0, .slice none 0 0])) := by kernel_rfl
end Ba
namespace Ba
/-- A batch's own block is not that of a row of operations. -/
theorem list_off {w : World} {N : Nat} {i e : Int} {v : Value} {t : TypeId} {f : Nat × Nat} {A : Option Addr} {l : List Op} (hN : w.heap[N]? = some (.cells #[.int .i64 i, .int .i64 e, v] t f)) (hv : ∀ k : Int, v ≠ .int .u8 k) (h : listAt w A l) : l ≠ [] → ∀ b off, A = some ⟨b, off, none⟩ → b ≠ N := by
  intro h0 b off eA eb
  subst eb
  rcases h with h | ⟨b', off', e', -, hi⟩
  · exact h0 h
  · rw [eA] at e'
    injection e' with e'
    injection e' with e1 e2 e3
    subst e1 e2
    obtain ⟨q0, -, -⟩ := hi 0 (List.length_pos_iff.2 h0)
    simp only [World.cell?, hN, Nat.zero_mul, Nat.add_zero] at q0
    match off, q0 with
    | 0, q0 => simp at q0
    | 1, q0 => simp at q0
    | 2, q0 => simp at q0; exact hv _ q0
    | k + 3, q0 => simp at q0
theorem list_set {w : World} {N : Nat} {A : Option Addr} {l : List Op} (h : listAt w A l) (hne : l ≠ [] → ∀ b off, A = some ⟨b, off, none⟩ → b ≠ N) (i : Nat) (v : Value) : listAt (w.setCell ⟨N, i, none⟩ v) A l := by
  rcases h with h | ⟨b, off, e, hb, hi⟩
  · exact .inl h
  · by_cases h0 : l = []
    · exact .inl h0
    · have hbn := hne h0 b off e
      refine .inr ⟨b, off, e, by simpa using hb, fun k hk => ?_⟩
      have ec : ∀ o, (w.setCell ⟨N, i, none⟩ v).cell? ⟨b, o, none⟩ = w.cell? ⟨b, o, none⟩ := fun o => World.cell?_of_block (Below.heap_setCell _ _ _ _ hbn)
      obtain ⟨q0, q1, q2⟩ := hi k hk
      exact ⟨(ec _).trans q0, (ec _).trans q1, (ec _).trans q2⟩
/-- Three stores into a batch keep what lies elsewhere. -/
theorem list_set3 {w : World} {N : Nat} {i e : Int} {v : Value} {t : TypeId} {f : Nat × Nat} {A : Option Addr} {l : List Op} (hN : w.heap[N]? = some (.cells #[.int .i64 i, .int .i64 e, v] t f)) (hv : ∀ k : Int, v ≠ .int .u8 k) (h : listAt w A l) (a b c : Value) : listAt (((w.setCell ⟨N, 0, none⟩ a).setCell ⟨N, 1, none⟩ b).setCell ⟨N, 2, none⟩ c) A l :=
  list_set (list_set (list_set h (list_off hN hv h) 0 a) (list_off hN hv h) 1 b) (list_off hN hv h) 2 c
end Ba
set_option maxRecDepth 100000 in
set_option maxHeartbeats 8000000 in
theorem baRead_any (w : World) (s : ByteArray) (hs : s.size ≤ 281474976710656) :
    Calls Try.prog 23 #[.string s] w fun e w' => ∃ A c, e = .returned (.tuple #[.agg #[.int .i64 (Ba.read s).1.ix, .int .i64 (Ba.read s).1.ep, .slice A (Ba.read s).1.ops.length c], .int .i64 ((Ba.read s).2 : Nat)]) ∧ Ba.listAt w' A (Ba.read s).1.ops ∧ Below w.heap.size w w' := by
  obtain ⟨N, hN⟩ : ∃ N, N = w.heap.size := ⟨_, rfl⟩
  have r0 : (w.alloc (.cells #[.int .i64 0, .int .i64 0, .slice none 0 0] 31)).heap[N]? = some (.cells #[.int .i64 0, .int .i64 0, .slice none 0 0] 31 (0, 0)) := by rw [hN]; exact heap_alloc_new w _
  have b1 : Below N w (w.alloc (.cells #[.int .i64 0, .int .i64 0, .slice none 0 0] 31)) := by rw [hN]; exact (Below.refl _ w).alloc (Nat.le_refl _) _
  have hNlt : N < (w.alloc (.cells #[.int .i64 0, .int .i64 0, .slice none 0 0] 31)).heap.size := Sm.lt_of r0
  have R0 := Lib.hid r0
  have B1 := Lib.hid b1
  have HN := Lib.hid hN
  rw [← hN]
  have OF : Hid (∀ wx : World, Calls Try.prog 47 #[.string s] wx fun e w' => ∃ b, wx.heap.size ≤ b ∧ e = .returned (.pointer (some ⟨b, 0, none⟩)) ∧ inAt w' b ⟨s, 0, 0⟩ ∧ Below wx.heap.size wx w') := fun wx => of_any s wx hs
  have hft := Ba.fault_two s
  clear r0 b1 hN
  by_cases h1 : Ba.fault1 s = 0
  · rw [h1, if_neg (by decide)] at hft
    by_cases h2 : Ba.right (Ba.got s) = 0
    · have hrd : Ba.read s = (Ba.got s, 0) := by unfold Ba.read; rw [hft, h2, if_pos rfl]
      have HRD := Lib.hid hrd
      rw [hrd]
      simp only
      have RT : Hid (∀ (wx : World) (A : Option Addr) (c : Nat), Ba.listAt wx A (Ba.got s).ops → Calls Try.prog 22 #[.agg #[.int .i64 ((Ba.rdI s).1 : Int), .int .i64 ((Ba.rdE s).1 : Int), .slice A (Ba.rdO s).1.length c]] wx fun e w' => e = .returned (.int .i64 0) ∧ Below wx.heap.size wx w') := fun wx A c hl => by
        have := baRight_any (Ba.got s) c hl (Ba.got_ok s) (fun o ho => by have := ((Ba.got_small s).2 o ho).2.1; omega)
        rw [h2] at this
        exact this
      have H1 := Lib.hid h1
      have hg1 : (Ba.got s).ix = ((Ba.rdI s).1 : Int) := rfl
      have hg2 : (Ba.got s).ep = ((Ba.rdE s).1 : Int) := rfl
      have hg3 : (Ba.got s).ops = (Ba.rdO s).1 := rfl
      rw [hg1, hg2, hg3]
      rw [hg3] at RT
      clear h1 h2 hft hrd hg1 hg2 hg3
      go_enter Try.func23, Try.ntmps23
      go_upto_region 1 with (fail)
      rw [← HN.out]
      generalize w.alloc (.cells #[.int .i64 0, .int .i64 0, .slice none 0 0] 31) = W1 at *
      go_wp2_with fail
      refine (OF.out _).mono ?_
      rintro e w2 ⟨b, hb, rfl, hin, k2⟩
      have r2 := (k2.block N hNlt).trans R0.out
      have B2 := Lib.hid (B1.out.trans (k2.mono (Nat.le_of_lt hNlt)))
      have hb2 : b < w2.heap.size := hin.lt
      have hNb : N ≠ b := by omega
      have FI := Lib.hid (baFields_any s hin hs)
      have hNw2 : N < w2.heap.size := Sm.lt_of r2
      clear OF B1 R0 hin k2
      go_wp2_with fail
      refine FI.out.mono ?_
      rintro e w3 ⟨A, n, c, rfl, hgot, hgr⟩
      have r3 := (hgr.block N hNw2 (fun e => hNb (Option.some.inj e))).trans r2
      have B3 := Lib.hid (B2.out.grown hgr (Nat.le_of_lt hNw2) (fun k hk => by have e := Option.some.inj hk; omega))
      have hsz3 := hgr.size
      rw [H1.out] 
      obtain ⟨hn, hla⟩ := hgot H1.out
      subst hn
      obtain ⟨L, hL⟩ : ∃ L, L = (Ba.rdO s).1 := ⟨_, rfl⟩
      rw [← hL] at hla RT ⊢
      have HL := Lib.hid hL
      have z0 : (w3.alloc (.cells #[.int .i64 0, .int .i64 0, .slice none 0 0] 31)).frozen? ⟨w3.heap.size, 0, none⟩ = false := Sm.free_of (heap_alloc_new w3 _) 0
      have gl := heap_alloc_new w3 (.cells #[.int .i64 ((Ba.rdI s).1 : Int), .int .i64 ((Ba.rdE s).1 : Int), .slice A L.length c] 31)
      have r4 := (Below.heap_alloc w3 (.cells #[.int .i64 ((Ba.rdI s).1 : Int), .int .i64 ((Ba.rdE s).1 : Int), .slice A L.length c] 31) _ (Sm.lt_of r3)).trans r3
      have b4 := Lib.hid (B3.out.alloc (by omega) (.cells #[.int .i64 ((Ba.rdI s).1 : Int), .int .i64 ((Ba.rdE s).1 : Int), .slice A L.length c] 31))
      obtain ⟨v1, hv1⟩ : ∃ v : Nat, v = (Ba.rdI s).1 := ⟨_, rfl⟩
      obtain ⟨v2, hv2⟩ : ∃ v : Nat, v = (Ba.rdE s).1 := ⟨_, rfl⟩
      rw [← hv1, ← hv2] at gl r4 b4 ⊢
      have HV1 := Lib.hid hv1
      have HV2 := Lib.hid hv2
      clear hv1 hv2
      rw [← HV1.out, ← HV2.out] at RT
      have HLA := Lib.hid hla
      have B4 := Lib.hid b4
      clear hgot hgr FI r2 B2 r3 B3 hla b4 hL
      go_upto_region 3 with (fail)
      obtain ⟨M, hM⟩ : ∃ M, M = w3.heap.size := ⟨_, rfl⟩
      have b34 : Below w3.heap.size w3 (w3.alloc (.cells #[.int .i64 (v1 : Int), .int .i64 (v2 : Int), .slice A L.length c] 31)) := (Below.refl _ w3).alloc (Nat.le_refl _) _
      have hla4 := HLA.out.below b34
      have hs4 : M < (w3.alloc (.cells #[.int .i64 (v1 : Int), .int .i64 (v2 : Int), .slice A L.length c] 31)).heap.size := by rw [hM]; simp
      rw [← hM] at gl ⊢
      clear b34 HLA z0
      generalize w3.alloc (.cells #[.int .i64 (v1 : Int), .int .i64 (v2 : Int), .slice A L.length c] 31) = w4 at *
      have y0 := Sm.cells_of gl 0 _ rfl
      have y1 := Sm.cells_of gl 1 _ rfl
      have y2 := Sm.cells_of gl 2 _ rfl
      have hNM : N < M := by omega
      have RR := Lib.hid (RT.out w4 A c hla4)
      clear hM RT hsz3 hNw2 hb2 hNb
      go_wp2_with fail
      refine RR.out.mono ?_
      rintro e w5 ⟨rfl, k5⟩
      have gl5 := (k5.block M hs4).trans gl
      have hN4 : N < w4.heap.size := Sm.lt_of r4
      have R4 := Lib.hid ((k5.block N hN4).trans r4)
      have B5 := Lib.hid (B4.out.trans (k5.mono (Nat.le_of_lt hN4)))
      have L5 := Lib.hid (hla4.below k5)
      clear gl y0 y1 y2 RR r4 hla4 B4 k5
      have y0 := Sm.cells_of gl5 0 _ rfl
      have y1 := Sm.cells_of gl5 1 _ rfl
      have y2 := Sm.cells_of gl5 2 _ rfl
      have hl5 := Sm.lt_of R4.out
      have d0 := Sm.cells_of R4.out 0 _ rfl
      have d1 := Sm.cells_of R4.out 1 _ rfl
      have d2 := Sm.cells_of R4.out 2 _ rfl
      have g0 := Sm.free_of R4.out 0
      have g1 := Sm.free_of R4.out 1
      have g2 := Sm.free_of R4.out 2
      have L6 : Hid (Ba.listAt (((w5.setCell ⟨N, 0, none⟩ (.int .i64 (v1 : Int))).setCell ⟨N, 1, none⟩ (.int .i64 (v2 : Int))).setCell ⟨N, 2, none⟩ (.slice A L.length c)) A L) := Ba.list_set3 R4.out (by intro k h; cases h) L5.out _ _ _
      clear gl5 L5
      go_wp2
      refine bodyPost_ret (v := .tuple #[.agg #[.int .i64 (v1 : Int), .int .i64 (v2 : Int), .slice A L.length c], .int .i64 0]) ((results_cell_tmp rfl _ _ _).trans (by go_simp)) rfl ⟨A, c, by rw [HV1.out, HV2.out, HL.out]; try rfl, by rw [← HL.out]; exact L6.out, ?_⟩
      exact ((B5.out.setCell (p := ⟨N, 0, none⟩) (Nat.le_refl N) _).setCell (p := ⟨N, 1, none⟩) (Nat.le_refl N) _).setCell (p := ⟨N, 2, none⟩) (Nat.le_refl N) _
    · have hf : Ba.fault s = Ba.right (Ba.got s) := hft
      obtain ⟨E, hE⟩ : ∃ E, E = Ba.right (Ba.got s) := ⟨_, rfl⟩
      have hrd : Ba.read s = (Ba.zero, E) := by unfold Ba.read; rw [hf, if_neg h2, hE]
      rw [hrd]
      simp only
      have RT : Hid (∀ (wx : World) (A : Option Addr) (c : Nat), Ba.listAt wx A (Ba.got s).ops → Calls Try.prog 22 #[.agg #[.int .i64 ((Ba.rdI s).1 : Int), .int .i64 ((Ba.rdE s).1 : Int), .slice A (Ba.rdO s).1.length c]] wx fun e w' => e = .returned (.int .i64 (E : Nat)) ∧ Below wx.heap.size wx w') := fun wx A c hl => by
        have := baRight_any (Ba.got s) c hl (Ba.got_ok s) (fun o ho => by have := ((Ba.got_small s).2 o ho).2.1; omega)
        rw [← hE] at this
        exact this
      have H1 := Lib.hid h1
      have hEi : ((E : Int) != 0) = true := by rw [bne_iff_ne]; omega
      have hg3 : (Ba.got s).ops = (Ba.rdO s).1 := rfl
      rw [hg3] at RT
      clear h1 h2 hft hrd hg3 hE hf
      go_enter Try.func23, Try.ntmps23
      go_upto_region 1 with (fail)
      rw [← HN.out]
      generalize w.alloc (.cells #[.int .i64 0, .int .i64 0, .slice none 0 0] 31) = W1 at *
      go_wp2_with fail
      refine (OF.out _).mono ?_
      rintro e w2 ⟨b, hb, rfl, hin, k2⟩
      have r2 := (k2.block N hNlt).trans R0.out
      have B2 := Lib.hid (B1.out.trans (k2.mono (Nat.le_of_lt hNlt)))
      have hb2 : b < w2.heap.size := hin.lt
      have hNb : N ≠ b := by omega
      have FI := Lib.hid (baFields_any s hin hs)
      have hNw2 : N < w2.heap.size := Sm.lt_of r2
      clear OF B1 R0 hin k2
      go_wp2_with fail
      refine FI.out.mono ?_
      rintro e w3 ⟨A, n, c, rfl, hgot, hgr⟩
      have r3 := (hgr.block N hNw2 (fun e => hNb (Option.some.inj e))).trans r2
      have B3 := Lib.hid (B2.out.grown hgr (Nat.le_of_lt hNw2) (fun k hk => by have e := Option.some.inj hk; omega))
      have hsz3 := hgr.size
      rw [H1.out]
      obtain ⟨hn, hla⟩ := hgot H1.out
      subst hn
      obtain ⟨L, hL⟩ : ∃ L, L = (Ba.rdO s).1 := ⟨_, rfl⟩
      rw [← hL] at hla RT ⊢
      have z0 : (w3.alloc (.cells #[.int .i64 0, .int .i64 0, .slice none 0 0] 31)).frozen? ⟨w3.heap.size, 0, none⟩ = false := Sm.free_of (heap_alloc_new w3 _) 0
      have gl := heap_alloc_new w3 (.cells #[.int .i64 ((Ba.rdI s).1 : Int), .int .i64 ((Ba.rdE s).1 : Int), .slice A L.length c] 31)
      have r4 := (Below.heap_alloc w3 (.cells #[.int .i64 ((Ba.rdI s).1 : Int), .int .i64 ((Ba.rdE s).1 : Int), .slice A L.length c] 31) _ (Sm.lt_of r3)).trans r3
      have b4 := Lib.hid (B3.out.alloc (by omega) (.cells #[.int .i64 ((Ba.rdI s).1 : Int), .int .i64 ((Ba.rdE s).1 : Int), .slice A L.length c] 31))
      obtain ⟨v1, hv1⟩ : ∃ v : Nat, v = (Ba.rdI s).1 := ⟨_, rfl⟩
      obtain ⟨v2, hv2⟩ : ∃ v : Nat, v = (Ba.rdE s).1 := ⟨_, rfl⟩
      rw [← hv1, ← hv2] at gl r4 b4 ⊢
      have HV1 := Lib.hid hv1
      have HV2 := Lib.hid hv2
      clear hv1 hv2
      rw [← HV1.out, ← HV2.out] at RT
      have HLA := Lib.hid hla
      have B4 := Lib.hid b4
      clear hgot hgr FI r2 B2 r3 B3 hla b4 hL
      go_upto_region 3 with (fail)
      obtain ⟨M, hM⟩ : ∃ M, M = w3.heap.size := ⟨_, rfl⟩
      have b34 : Below w3.heap.size w3 (w3.alloc (.cells #[.int .i64 (v1 : Int), .int .i64 (v2 : Int), .slice A L.length c] 31)) := (Below.refl _ w3).alloc (Nat.le_refl _) _
      have hla4 := HLA.out.below b34
      rw [← hM] at gl ⊢
      clear b34 HLA z0
      generalize w3.alloc (.cells #[.int .i64 (v1 : Int), .int .i64 (v2 : Int), .slice A L.length c] 31) = w4 at *
      have y0 := Sm.cells_of gl 0 _ rfl
      have y1 := Sm.cells_of gl 1 _ rfl
      have y2 := Sm.cells_of gl 2 _ rfl
      have RR := Lib.hid (RT.out w4 A c hla4)
      clear hM RT hsz3 hNw2 hb2 hNb
      go_wp2_with fail
      refine RR.out.mono ?_
      rintro e w5 ⟨rfl, k5⟩
      have hN4 : N < w4.heap.size := Sm.lt_of r4
      have R4 := Lib.hid ((k5.block N hN4).trans r4)
      have B5 := Lib.hid (B4.out.trans (k5.mono (Nat.le_of_lt hN4)))
      clear gl y0 y1 y2 RR r4 hla4 B4 k5
      have d0 := Sm.cells_of R4.out 0 _ rfl
      have d1 := Sm.cells_of R4.out 1 _ rfl
      have d2 := Sm.cells_of R4.out 2 _ rfl
      have g0 := Sm.free_of R4.out 0
      have g1 := Sm.free_of R4.out 1
      have g2 := Sm.free_of R4.out 2
      go_wp2_with (with_reducible refine wpList_build_eq rfl 31 #[] rfl #[.int .i64 0, .int .i64 0, .slice none 0 0] (by kernel_rfl) ?_)
      refine bodyPost_ret (v := .tuple #[.agg #[.int .i64 0, .int .i64 0, .slice none 0 0], .int .i64 (E : Int)]) ((results_cell_tmp rfl _ _ _).trans (by go_simp)) rfl ⟨none, 0, rfl, .inl rfl, ?_⟩
      exact ((B5.out.setCell (p := ⟨N, 0, none⟩) (Nat.le_refl N) _).setCell (p := ⟨N, 1, none⟩) (Nat.le_refl N) _).setCell (p := ⟨N, 2, none⟩) (Nat.le_refl N) _
  · rw [if_pos h1] at hft
    obtain ⟨E, hE⟩ : ∃ E, E = Ba.fault1 s := ⟨_, rfl⟩
    have hrd : Ba.read s = (Ba.zero, E) := by unfold Ba.read; rw [hft, if_neg h1, hE]
    rw [hrd]
    simp only
    have hEi : ((E : Int) == 0) = false := by rw [beq_eq_false_iff_ne]; omega
    have hEn : ((E : Int) != 0) = true := by rw [bne_iff_ne]; omega
    have HE := Lib.hid hE
    clear h1 hft hrd hE
    go_enter Try.func23, Try.ntmps23
    go_upto_region 1 with (fail)
    rw [← HN.out]
    generalize w.alloc (.cells #[.int .i64 0, .int .i64 0, .slice none 0 0] 31) = W1 at *
    go_wp2_with fail
    refine (OF.out _).mono ?_
    rintro e w2 ⟨b, hb, rfl, hin, k2⟩
    have r2 := (k2.block N hNlt).trans R0.out
    have B2 := Lib.hid (B1.out.trans (k2.mono (Nat.le_of_lt hNlt)))
    have hb2 : b < w2.heap.size := hin.lt
    have hNb : N ≠ b := by omega
    have FI := Lib.hid (baFields_any s hin hs)
    have hNw2 : N < w2.heap.size := Sm.lt_of r2
    clear OF B1 R0 hin k2
    go_wp2_with fail
    refine FI.out.mono ?_
    rintro e w3 ⟨A, n, c, rfl, hgot, hgr⟩
    have r3 := (hgr.block N hNw2 (fun e => hNb (Option.some.inj e))).trans r2
    have B3 := Lib.hid (B2.out.grown hgr (Nat.le_of_lt hNw2) (fun k hk => by have e := Option.some.inj hk; omega))
    have hsz3 := hgr.size
    rw [← HE.out]
    have z0 : (w3.alloc (.cells #[.int .i64 0, .int .i64 0, .slice none 0 0] 31)).frozen? ⟨w3.heap.size, 0, none⟩ = false := Sm.free_of (heap_alloc_new w3 _) 0
    have gl := heap_alloc_new w3 (.cells #[.int .i64 ((Ba.rdI s).1 : Int), .int .i64 ((Ba.rdE s).1 : Int), .slice A n c] 31)
    have r4 := (Below.heap_alloc w3 (.cells #[.int .i64 ((Ba.rdI s).1 : Int), .int .i64 ((Ba.rdE s).1 : Int), .slice A n c] 31) _ (Sm.lt_of r3)).trans r3
    have b4 := Lib.hid (B3.out.alloc (by omega) (.cells #[.int .i64 ((Ba.rdI s).1 : Int), .int .i64 ((Ba.rdE s).1 : Int), .slice A n c] 31))
    obtain ⟨v1, hv1⟩ : ∃ v : Nat, v = (Ba.rdI s).1 := ⟨_, rfl⟩
    obtain ⟨v2, hv2⟩ : ∃ v : Nat, v = (Ba.rdE s).1 := ⟨_, rfl⟩
    rw [← hv1, ← hv2] at gl r4 b4 ⊢
    have HV1 := Lib.hid hv1
    have HV2 := Lib.hid hv2
    clear hv1 hv2
    have B4 := Lib.hid b4
    clear hgot hgr FI r2 B2 r3 B3 b4
    go_upto_region 5 with (fail)
    obtain ⟨M, hM⟩ : ∃ M, M = w3.heap.size := ⟨_, rfl⟩
    rw [← hM]
    clear z0 gl
    generalize w3.alloc (.cells #[.int .i64 (v1 : Int), .int .i64 (v2 : Int), .slice A n c] 31) = w4 at *
    have R4 := Lib.hid r4
    have d0 := Sm.cells_of R4.out 0 _ rfl
    have d1 := Sm.cells_of R4.out 1 _ rfl
    have d2 := Sm.cells_of R4.out 2 _ rfl
    have g0 := Sm.free_of R4.out 0
    have g1 := Sm.free_of R4.out 1
    have g2 := Sm.free_of R4.out 2
    go_wp2_with (with_reducible refine wpList_build_eq rfl 31 #[] rfl #[.int .i64 0, .int .i64 0, .slice none 0 0] (by kernel_rfl) ?_)
    refine bodyPost_ret (v := .tuple #[.agg #[.int .i64 0, .int .i64 0, .slice none 0 0], .int .i64 (E : Int)]) ((results_cell_tmp rfl _ _ _).trans (by go_simp)) rfl ⟨none, 0, rfl, .inl rfl, ?_⟩
    exact ((B4.out.setCell (p := ⟨N, 0, none⟩) (Nat.le_refl N) _).setCell (p := ⟨N, 1, none⟩) (Nat.le_refl N) _).setCell (p := ⟨N, 2, none⟩) (Nat.le_refl N) _
end Go.Proofs.Ytlndggbidmmodaa
