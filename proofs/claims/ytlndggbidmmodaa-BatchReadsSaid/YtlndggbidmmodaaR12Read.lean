/-
  The document's own batch: Read.
-/
import Derived.Test.YtlndggbidmmodaaR12Rd
namespace Go.Proofs.Ytlndggbidmmodaa
open Go.RowKit Pk
namespace R12
theorem yields_zero {ops : Array Oper} {S : World → Prop} {op : Oper} {a : Act} (hw : Region.wanted op (yielded ops a.tmps) = true) (ho : op.op = .build 31 #[]) : YieldsIf Try.prog ops S op (.agg #[.int .i64 0, .int .i64 0, .slice none 0 0]) a :=
  .inl ⟨hw, fun w _ => by
    have hr := run_build (P := Try.prog) w 31 ((#[] : Array (Nat × Operand)).map fun x => (x.1, a.eval x.2)) #[.int .i64 0, .int .i64 0, .slice none 0 0] (by kernel_rfl)
    unfold execOp
    simp only [ho, Sem.run_bind, hr, Result.andThen_ok, Sem.run_pure]⟩
theorem held_set3 {w : World} {N : Nat} {v a b c : Value} (h : w.cell? ⟨N + 1, 1, none⟩ = some v) : (((w.setCell ⟨N, 0, none⟩ a).setCell ⟨N, 1, none⟩ b).setCell ⟨N, 2, none⟩ c).cell? ⟨N + 1, 1, none⟩ = some v := by
  rw [World.cell?_setCell_far _ _ _ _ (by show N ≠ N + 1; omega), World.cell?_setCell_far _ _ _ _ (by show N ≠ N + 1; omega), World.cell?_setCell_far _ _ _ _ (by show N ≠ N + 1; omega)]
  exact h
end R12
set_option maxRecDepth 100000 in
set_option maxHeartbeats 16000000 in
theorem r12Read_any (w : World) (s : ByteArray) (hs : s.size ≤ 281474976710656) :
    Calls Try.prog 24 #[.string s] w fun e w' => ∃ A c, e = .returned (.tuple #[.agg #[.int .i64 (Ba.read s).1.ix, .int .i64 (Ba.read s).1.ep, .slice A (Ba.read s).1.ops.length c], .int .i64 ((Ba.read s).2 : Nat)]) ∧ Ba.listAt w' A (Ba.read s).1.ops ∧ Below w.heap.size w w' := by
  obtain ⟨N, hN⟩ : ∃ N, N = w.heap.size := ⟨_, rfl⟩
  have R1 : Hid (Ba.Rr w (((w.alloc (.cells #[.int .i64 0, .int .i64 0, .slice none 0 0] 31)).alloc (.cells #[.string s, .int .i64 0] 81)).alloc (.cells #[.int .i64 0, .int .i64 0, .slice none 0 0] 31)) N 0 0 none 0 [] s 0) := by
    have g1 := heap_alloc_new w (.cells #[.int .i64 0, .int .i64 0, .slice none 0 0] 31)
    have g2 := heap_alloc_new (w.alloc (.cells #[.int .i64 0, .int .i64 0, .slice none 0 0] 31)) (.cells #[.string s, .int .i64 0] 81)
    have g3 := heap_alloc_new ((w.alloc (.cells #[.int .i64 0, .int .i64 0, .slice none 0 0] 31)).alloc (.cells #[.string s, .int .i64 0] 81)) (.cells #[.int .i64 0, .int .i64 0, .slice none 0 0] 31)
    have h1 : (w.alloc (.cells #[.int .i64 0, .int .i64 0, .slice none 0 0] 31)).heap.size = w.heap.size + 1 := by simp
    have h2 : ((w.alloc (.cells #[.int .i64 0, .int .i64 0, .slice none 0 0] 31)).alloc (.cells #[.string s, .int .i64 0] 81)).heap.size = w.heap.size + 1 + 1 := by simp
    have g12 := (Below.heap_alloc _ (.cells #[.string s, .int .i64 0] 81) _ (Sm.lt_of g1)).trans g1
    rw [h1, ← hN] at g2
    rw [h2, ← hN] at g3
    rw [← hN] at g12
    refine ⟨(Below.heap_alloc _ _ _ (Sm.lt_of g12)).trans g12, (Below.heap_alloc _ _ _ (Sm.lt_of g2)).trans g2, g3, Ba.Row.nil _ _, ?_, by simp; omega⟩
    rw [hN]
    exact (((Below.refl _ w).alloc (Nat.le_refl _) _).alloc (by simp) _).alloc (by simp; omega) _
  have HN := Lib.hid hN
  have ok0 : Rd.Ok ⟨s, 0, 0⟩ := ⟨Nat.zero_le _, Nat.zero_le _, hs⟩
  obtain ⟨v1, hv1⟩ : ∃ v, v = (Ba.rdI s).1 := ⟨_, rfl⟩
  obtain ⟨r1, hr1⟩ : ∃ v, v = (Ba.rdI s).2 := ⟨_, rfl⟩
  obtain ⟨v2, hv2⟩ : ∃ v, v = (Ba.rdE s).1 := ⟨_, rfl⟩
  obtain ⟨r2, hr2⟩ : ∃ v, v = (Ba.rdE s).2 := ⟨_, rfl⟩
  obtain ⟨n, hn⟩ : ∃ v, v = (Ba.rdN s).1 := ⟨_, rfl⟩
  obtain ⟨r3, hr3⟩ : ∃ v, v = (Ba.rdN s).2 := ⟨_, rfl⟩
  have M1 : Hid (∀ wx, R12.inW wx (N + 1) ⟨s, 0, 0⟩ → Calls Try.prog 48 #[.pointer (some ⟨N + 1, 0, none⟩), .int .u64 4611686018427387904] wx fun e w' => e = .returned (.int .u64 (v1 : Int)) ∧ R12.StW wx w' (N + 1) r1) := fun wx h => by rw [hv1, hr1]; exact r12InNum_w h ok0 4611686018427387904 (by decide)
  have ok1 : r1.Ok := by rw [hr1]; exact ok0.most _
  have M2 : Hid (∀ wx, R12.inW wx (N + 1) r1 → Calls Try.prog 48 #[.pointer (some ⟨N + 1, 0, none⟩), .int .u64 9223372036854775807] wx fun e w' => e = .returned (.int .u64 (v2 : Int)) ∧ R12.StW wx w' (N + 1) r2) := fun wx h => by rw [hv2, hr2]; rw [hr1] at h ok1; exact r12InNum_w h ok1 9223372036854775807 (by decide)
  have ok2 : r2.Ok := by rw [hr2]; rw [hr1] at ok1; exact ok1.most _
  have M3 : Hid (∀ wx, R12.inW wx (N + 1) r2 → Calls Try.prog 48 #[.pointer (some ⟨N + 1, 0, none⟩), .int .u64 4] wx fun e w' => e = .returned (.int .u64 (n : Int)) ∧ R12.StW wx w' (N + 1) r3) := fun wx h => by rw [hn, hr3]; rw [hr2] at h ok2; exact r12InNum_w h ok2 4 (by decide)
  have ok3 : r3.Ok := by rw [hr3]; rw [hr2] at ok2; exact ok2.most _
  have hn4 : n ≤ 4 := by rw [hn]; exact Ba.rdN_le s
  have hgn := Ba.got_numbers s
  have hb1 : (v1 : Int) ≤ 4611686018427387904 := by rw [hv1]; exact hgn.1
  have hb2 : (v2 : Int) ≤ 9223372036854775807 := by rw [hv2]; exact hgn.2
  have wv1 : IntKind.i64.wrap (v1 : Int) = (v1 : Int) := IntWalk.i64_in _ (by omega)
  have wv2 : IntKind.i64.wrap (v2 : Int) = (v2 : Int) := IntWalk.i64_in _ (by omega)
  obtain ⟨hF1, hF2⟩ := Ba.fields_fault s
  have hF3 : ¬ r3.f = 0 → Ba.fault1 s = r3.f := fun h => by unfold Ba.fault1; rw [← hr3, if_pos h]
  rw [← hn, ← hr3] at hF1 hF2
  obtain ⟨F1, hFE⟩ : ∃ v, v = Ba.fault1 s := ⟨_, rfl⟩
  obtain ⟨LO, hLO⟩ : ∃ v, v = (Ba.rdO s).1 := ⟨_, rfl⟩
  rw [← hFE, ← hLO] at hF2
  rw [← hFE] at hF1 hF3
  have AL0 : Hid (∀ S3, (r3.f = 0 → S3 = R12.left r3) → Ba.Al n F1 LO [] S3 r3.f) := fun S3 h => by
    by_cases hf : r3.f = 0
    · exact .inl ⟨hf, r3, ok3, hf, h hf, by rw [← hF1]; rfl, fun h0 => by rw [← hF2 h0]; rfl⟩
    · exact .inr ⟨hf, (hF3 hf).symm⟩
  obtain ⟨R, hR0⟩ : ∃ R, R = Ba.right (Ba.got s) := ⟨_, rfl⟩
  have RT0 : Hid (∀ l, l = LO → ∀ (wx : World) (A : Option Addr) (c : Nat), Ba.listAt wx A l → Calls Try.prog 38 #[.agg #[.int .i64 (v1 : Int), .int .i64 (v2 : Int), .slice A l.length c]] wx fun e w' => e = .returned (.int .i64 (R : Nat)) ∧ Below wx.heap.size wx w') := fun l hl wx A c h => by
    have h2 : Ba.listAt wx A (Ba.got s).ops := by rw [hl, hLO] at h; exact h
    have := r12Right_any (Ba.got s) c h2 (Ba.got_ok s) (fun o ho => by have := ((Ba.got_small s).2 o ho).2.1; omega)
    rw [← hR0] at this
    rw [hl, hLO, hv1, hv2]
    exact this
  have HFE := Lib.hid hFE
  have HLO := Lib.hid hLO
  have HR0 := Lib.hid hR0
  have HV1 := Lib.hid hv1
  have HV2 := Lib.hid hv2
  clear hv1 hr1 hv2 hr2 hn hr3 hF1 hF2 hF3 hFE hLO hN ok0 hs ok1 ok2 hgn hR0 ok3
  rw [← HN.out]
  go_enter Try.func24, Try.ntmps24
  go_upto_region 3 with (fail)
  rw [← HN.out]
  generalize (((w.alloc (.cells #[.int .i64 0, .int .i64 0, .slice none 0 0] 31)).alloc (.cells #[.string s, .int .i64 0] 81)).alloc (.cells #[.int .i64 0, .int .i64 0, .slice none 0 0] 31)) = W3 at *
  go_wp2_with fail
  refine (M1.out _ (R1.out.inW rfl (fun _ => (Ba.left0 s).symm))).mono ?_
  rintro e w4 ⟨rfl, st⟩
  obtain ⟨S2, rr, hS⟩ := R1.out.step st
  have Q1 := Lib.hid rr
  have L2 := Lib.hid hS
  clear R1  st rr hS M1
  have b0 := Sm.cells_of Q1.out.box 0 _ rfl
  have g0 := Sm.free_of Q1.out.box 0
  have R2 := Lib.hid (Q1.out.set 0 (.int .i64 (v1 : Int)) v1 0 (by rfl))
  clear Q1
  go_upto_region 4 with (fail)
  generalize w4.setCell ⟨N + 1 + 1, 0, none⟩ (.int .i64 (v1 : Int)) = w5 at *
  clear b0 g0
  go_wp2_with fail
  refine (M2.out _ (R2.out.inW rfl L2.out)).mono ?_
  rintro e w6 ⟨rfl, st⟩
  obtain ⟨S3, rr, hS⟩ := R2.out.step st
  have Q2 := Lib.hid rr
  have L3 := Lib.hid hS
  clear R2 L2 st rr hS M2
  have b0 := Sm.cells_of Q2.out.box 1 _ rfl
  have g0 := Sm.free_of Q2.out.box 1
  have R3 := Lib.hid (Q2.out.set 1 (.int .i64 (v2 : Int)) v1 v2 (by rfl))
  clear Q2
  go_upto_region 5 with (fail)
  generalize w6.setCell ⟨N + 1 + 1, 1, none⟩ (.int .i64 (v2 : Int)) = w7 at *
  clear b0 g0
  go_wp2_with fail
  refine (M3.out _ (R3.out.inW rfl L3.out)).mono ?_
  rintro e w8 ⟨rfl, st⟩
  obtain ⟨S4, rr, hS⟩ := R3.out.step st
  have Q3 := Lib.hid rr
  have L4 := Lib.hid hS
  clear R3 L3 st rr hS M3
  go_upto_region 7 with (fail)
  go_loopw [7] (fun iv wr => ∃ (A : Option Addr) (c : Nat) (l : List Ba.Op) (S : ByteArray) (f : Nat), iv = .int .u64 (l.length : Nat) ∧ l.length ≤ n ∧ Ba.Rr w wr N v1 v2 A c l S f ∧ Hid (Ba.Al n F1 LO l S f)) (fun iv _ => n - (intOf iv).toNat)
  case atStart => exact ⟨none, 0, [], _, _, rfl, Nat.zero_le _, Q3.out, AL0.out _ L4.out⟩
  case round =>
    clear Q3 L4 AL0 wv1 wv2
    obtain ⟨A, c, l, S, f, rfl, hl, rr, al⟩ := hrel
    have RL := Lib.hid rr
    have i1 := Sm.cells_of rr.inn 1 _ rfl
    have i0 := Sm.cells_of rr.inn 0 _ rfl
    clear rr
    rcases al.out with ⟨hf, r, hrok, hrf0, hSl0, hE10, hE20⟩ | ⟨hf0, hfF⟩
    · subst hf
      have hrf : Hid (r.f = 0) := hrf0
      have hSl : Hid (S = R12.left r) := hSl0
      by_cases hln : l.length < n
      · have hlni : (l.length : Int) < (n : Int) := by omega
        have hsuc : IntKind.u64.wrap ((l.length : Int) + 1) = ((l.length + 1 : Nat) : Int) := by rw [IntKind.wrap_u64]; omega
        have hE1 : Hid (Ba.pdE (n - l.length) r = F1) := hE10
        have hE2 : Hid (F1 = 0 → l ++ (Ba.pdOps (n - l.length) r).1 = LO) := hE20
        clear al hE10 hE20 hrf0 hSl0
        go_upto_region 10 with (fail)
        have gx := heap_alloc_new wr (.cells #[.int .u8 0, .string ⟨#[]⟩, .string ⟨#[]⟩] 37)
        have U1 : Hid (Ba.Ro w (wr.alloc (.cells #[.int .u8 0, .string ⟨#[]⟩, .string ⟨#[]⟩] 37)) N wr.heap.size v1 v2 A c l S 0 ⟨0, Ba.no, Ba.no⟩) := ⟨RL.out.alloc _, gx, Sm.lt_of RL.out.box, fun e => by
          obtain ⟨-, cs, h2⟩ := RL.out.row.blk e
          exact absurd (Sm.lt_of h2) (Nat.lt_irrefl _)⟩
        obtain ⟨O, hO⟩ : ∃ O, O = wr.heap.size := ⟨_, rfl⟩
        rw [← hO] at U1 ⊢
        clear hO gx RL i1 i0
        generalize wr.alloc (.cells #[.int .u8 0, .string ⟨#[]⟩, .string ⟨#[]⟩] 37) = w5 at *
        have BY := r12InByte_w (U1.out.rr.inW (r := r) hrf.out.symm (fun _ => hSl.out)) hrok
        obtain ⟨k, hk⟩ : ∃ k, k = r.byte.1 := ⟨_, rfl⟩
        obtain ⟨q1, hq1⟩ : ∃ k, k = r.byte.2 := ⟨_, rfl⟩
        rw [← hk, ← hq1] at BY
        have HBY := Lib.hid BY
        clear BY
        by_cases hqf : q1.f = 0
        · by_cases hkk : k ≠ 1 ∧ k ≠ 2
          · have HPD : Hid ((Ba.pdOp r).2.2 = 10) := by show _ = _; unfold Ba.pdOp; rw [← hq1, ← hk, if_neg (by omega), if_pos hkk]
            have e1 : ((k : Int) != 1) = true := by rw [bne_iff_ne]; omega
            have e2 : ((k : Int) != 2) = true := by rw [bne_iff_ne]; omega
            have e3 : ((k : Int) == 1) = false := by rw [beq_eq_false_iff_ne]; omega
            have hq1f : Hid (q1.f = 0) := hqf
            clear hk hq1 hkk hqf
            go_wp2_with fail
            refine HBY.out.mono ?_
            rintro e w6 ⟨rfl, st⟩
            obtain ⟨S6, u6, hS6⟩ := U1.out.step st
            have U2 := Lib.hid u6
            have L6 := Lib.hid hS6
            clear U1 HBY st u6 hS6
            have o0 := Sm.cells_of U2.out.op 0 _ rfl
            have p0 := Sm.free_of U2.out.op 0
            have U3 : Hid (Ba.Ro w (w6.setCell ⟨O, 0, none⟩ (.int .u8 (k : Int))) N O v1 v2 A c l S6 q1.f ⟨k, Ba.no, Ba.no⟩) := U2.out.set 0 (.int .u8 (k : Int)) (by rfl)
            clear U2
            go_upto_region 11 with (fail)
            generalize w6.setCell ⟨O, 0, none⟩ (.int .u8 (k : Int)) = w7 at *
            clear o0 p0
            have i1 := Sm.cells_of U3.out.rr.inn 1 _ rfl
            have o0 := Sm.cells_of U3.out.op 0 _ rfl
            rw [hq1f.out] at i1
            have fi := Sm.free_of U3.out.rr.inn 1
            have U4 : Hid (Ba.Ro w (w7.setCell ⟨N + 1, 1, none⟩ (.int .i64 10)) N O v1 v2 A c l S6 10 ⟨k, Ba.no, Ba.no⟩) := U3.out.fault 10
            clear U3
            go_upto_region 13 with (fail)
            generalize w7.setCell ⟨N + 1, 1, none⟩ (.int .i64 10) = w8 at *
            clear i1 o0 fi
            have TX : Hid (Calls Try.prog 50 #[.pointer (some ⟨N + 1, 0, none⟩), .int .u64 33] w8 fun e w' => e = .returned (.string ⟨#[]⟩) ∧ w8 = w') := r12InText_stuck U4.out.rr.inn (by decide) 33
            go_wp2_with fail
            refine TX.out.mono ?_
            rintro e w9 ⟨rfl, rfl⟩
            clear TX
            have o1 := Sm.cells_of U4.out.op 1 _ rfl
            have p1 := Sm.free_of U4.out.op 1
            have U5 : Hid (Ba.Ro w (w8.setCell ⟨O, 1, none⟩ (.string ⟨#[]⟩)) N O v1 v2 A c l S6 10 ⟨k, Ba.no, Ba.no⟩) := U4.out.set 1 (.string ⟨#[]⟩) (by rfl)
            clear U4
            go_upto_region 14 with (fail)
            generalize w8.setCell ⟨O, 1, none⟩ (.string ⟨#[]⟩) = w10 at *
            clear o1 p1
            have o0 := Sm.cells_of U5.out.op 0 _ rfl
            go_upto_region 16 with (fail)
            clear o0
            have b2 := Sm.cells_of U5.out.rr.box 2 _ rfl
            have o0 := Sm.cells_of U5.out.op 0 _ rfl
            have o1 := Sm.cells_of U5.out.op 1 _ rfl
            have o2 := Sm.cells_of U5.out.op 2 _ rfl
            have R8 := Lib.hid (U5.out.rr.alloc (.cells #[.int .u8 (k : Int), .string ⟨#[]⟩, .string ⟨#[]⟩] 37))
            have g8 := Lib.hid (heap_alloc_new w10 (.cells #[.int .u8 (k : Int), .string ⟨#[]⟩, .string ⟨#[]⟩] 37))
            clear U5
            go_upto_region 8 with (at_builtin; refine Ba.wp_push rfl _ _ rfl rfl R8.out.row (⟨k, Ba.no, Ba.no⟩ : Ba.Op) rfl g8.out (by omega) R8.out.low ?_; intro A' c' w9 hrow hgrow; have R9 := Lib.hid (R8.out.push hrow hgrow); have f2 : w9.frozen? ⟨N + 1 + 1, 2, none⟩ = false := (Sm.free_of ((hgrow.block (N + 1 + 1) (Sm.lt_of R8.out.box) (fun e => R8.out.row.off R8.out.box (by decide) e.symm)).trans R8.out.box) 2); have d2 : w9.cell? ⟨N + 1 + 1, 2, none⟩ = some (.slice A l.length c) := Sm.cells_of ((hgrow.block (N + 1 + 1) (Sm.lt_of R8.out.box) (fun e => R8.out.row.off R8.out.box (by decide) e.symm)).trans R8.out.box) 2 _ rfl)
            clear b2 o0 o1 o2 g8 R8
            go_wp2_with fail
            go_roundw
            case rel => exact ⟨A', c', l ++ [(⟨k, Ba.no, Ba.no⟩ : Ba.Op)], _, _, by rw [List.length_append]; rfl, by rw [List.length_append]; exact hln, R9.out, Ba.al_bad hE1.out hln (by rw [HPD.out]; decide) _ _ HPD.out.symm⟩
            case measure => simp [intOf]; omega
          · by_cases hk1 : k = 1
            · have HPD : Hid (Ba.pdOp r = (⟨1, ⟨(q1.text 33).1.toArray⟩, ⟨((q1.text 33).2.text 32).1.toArray⟩⟩, ((q1.text 33).2.text 32).2, 0)) := by show _ = _; unfold Ba.pdOp; rw [← hq1, ← hk, if_neg (by omega), if_neg hkk, if_pos hk1]
              have e1 : ((k : Int) != 1) = false := by rw [hk1]; rfl
              have e3 : ((k : Int) == 1) = true := by rw [hk1]; rfl
              have HK1 := Lib.hid hk1
              have hq1f : Hid (q1.f = 0) := hqf
              have hq1ok : q1.Ok := by rw [hq1]; exact hrok.byte
              clear hk hq1 hkk hqf hk1
              go_wp2_with fail
              refine HBY.out.mono ?_
              rintro e w6 ⟨rfl, st⟩
              obtain ⟨S6, u6, hS6⟩ := U1.out.step st
              have U2 := Lib.hid u6
              have L6 := Lib.hid hS6
              clear U1 HBY st u6 hS6
              have o0 := Sm.cells_of U2.out.op 0 _ rfl
              have p0 := Sm.free_of U2.out.op 0
              have U3 : Hid (Ba.Ro w (w6.setCell ⟨O, 0, none⟩ (.int .u8 (k : Int))) N O v1 v2 A c l S6 q1.f ⟨k, Ba.no, Ba.no⟩) := U2.out.set 0 (.int .u8 (k : Int)) (by rfl)
              clear U2
              go_upto_region 11 with (fail)
              generalize w6.setCell ⟨O, 0, none⟩ (.int .u8 (k : Int)) = w7 at *
              clear o0 p0
              have TX : Hid (Calls Try.prog 50 #[.pointer (some ⟨N + 1, 0, none⟩), .int .u64 33] w7 fun e w' => e = .returned (.string ⟨(q1.text 33).1.toArray⟩) ∧ R12.StW w7 w' (N + 1) (q1.text 33).2) := r12InText_w (U3.out.rr.inW (r := q1) rfl L6.out) hq1ok 33 (by decide)
              have i1 := Sm.cells_of U3.out.rr.inn 1 _ rfl
              have o0 := Sm.cells_of U3.out.op 0 _ rfl
              rw [hq1f.out] at i1
              obtain ⟨tp, htp⟩ : ∃ x : ByteArray, x = ⟨(q1.text 33).1.toArray⟩ := ⟨_, rfl⟩
              obtain ⟨q2, hq2⟩ : ∃ x, x = (q1.text 33).2 := ⟨_, rfl⟩
              have hq2ok : q2.Ok := by rw [hq2]; exact hq1ok.text _
              rw [← htp, ← hq2] at TX
              have HTP := Lib.hid htp
              have HQ2 := Lib.hid hq2
              clear htp hq2
              go_wp2_with fail
              refine TX.out.mono ?_
              rintro e w8 ⟨rfl, st⟩
              obtain ⟨S8, u8, hS8⟩ := U3.out.step st
              have U4 := Lib.hid u8
              have L8 := Lib.hid hS8
              clear U3 st u8 hS8 TX i1 o0 L6
              have o1 := Sm.cells_of U4.out.op 1 _ rfl
              have p1 := Sm.free_of U4.out.op 1
              have U5 : Hid (Ba.Ro w (w8.setCell ⟨O, 1, none⟩ (.string tp)) N O v1 v2 A c l S8 q2.f ⟨k, tp, Ba.no⟩) := U4.out.set 1 (.string tp) (by rfl)
              clear U4
              go_upto_region 14 with (fail)
              generalize w8.setCell ⟨O, 1, none⟩ (.string tp) = w10 at *
              clear o1 p1
              have o0 := Sm.cells_of U5.out.op 0 _ rfl
              have TV : Hid (Calls Try.prog 50 #[.pointer (some ⟨N + 1, 0, none⟩), .int .u64 32] w10 fun e w' => e = .returned (.string ⟨(q2.text 32).1.toArray⟩) ∧ R12.StW w10 w' (N + 1) (q2.text 32).2) := r12InText_w (U5.out.rr.inW (r := q2) rfl L8.out) hq2ok 32 (by decide)
              obtain ⟨tv, htv⟩ : ∃ x : ByteArray, x = ⟨(q2.text 32).1.toArray⟩ := ⟨_, rfl⟩
              obtain ⟨q3, hq3⟩ : ∃ x, x = (q2.text 32).2 := ⟨_, rfl⟩
              rw [← htv, ← hq3] at TV
              have HTV := Lib.hid htv
              have HQ3 := Lib.hid hq3
              clear htv hq3
              go_wp2_with fail
              refine TV.out.mono ?_
              rintro e w11 ⟨rfl, st⟩
              obtain ⟨S9, u9, hS9⟩ := U5.out.step st
              have U6 := Lib.hid u9
              have L9 := Lib.hid hS9
              clear U5 st u9 hS9 TV o0 L8
              have o2 := Sm.cells_of U6.out.op 2 _ rfl
              have p2 := Sm.free_of U6.out.op 2
              have U7 : Hid (Ba.Ro w (w11.setCell ⟨O, 2, none⟩ (.string tv)) N O v1 v2 A c l S9 q3.f ⟨k, tp, tv⟩) := U6.out.set 2 (.string tv) (by rfl)
              clear U6
              go_upto_region 16 with (fail)
              generalize w11.setCell ⟨O, 2, none⟩ (.string tv) = w12 at *
              clear o2 p2
              have b2 := Sm.cells_of U7.out.rr.box 2 _ rfl
              have o0 := Sm.cells_of U7.out.op 0 _ rfl
              have o1 := Sm.cells_of U7.out.op 1 _ rfl
              have o2 := Sm.cells_of U7.out.op 2 _ rfl
              have R8 := Lib.hid (U7.out.rr.alloc (.cells #[.int .u8 (k : Int), .string tp, .string tv] 37))
              have g8 := Lib.hid (heap_alloc_new w12 (.cells #[.int .u8 (k : Int), .string tp, .string tv] 37))
              clear U7
              go_upto_region 8 with (at_builtin; refine Ba.wp_push rfl _ _ rfl rfl R8.out.row (⟨k, tp, tv⟩ : Ba.Op) rfl g8.out (by omega) R8.out.low ?_; intro A' c' w9 hrow hgrow; have R9 := Lib.hid (R8.out.push hrow hgrow); have f2 : w9.frozen? ⟨N + 1 + 1, 2, none⟩ = false := (Sm.free_of ((hgrow.block (N + 1 + 1) (Sm.lt_of R8.out.box) (fun e => R8.out.row.off R8.out.box (by decide) e.symm)).trans R8.out.box) 2); have d2 : w9.cell? ⟨N + 1 + 1, 2, none⟩ = some (.slice A l.length c) := Sm.cells_of ((hgrow.block (N + 1 + 1) (Sm.lt_of R8.out.box) (fun e => R8.out.row.off R8.out.box (by decide) e.symm)).trans R8.out.box) 2 _ rfl)
              clear b2 o0 o1 o2 g8 R8
              go_wp2_with fail
              go_roundw
              case rel => exact ⟨A', c', l ++ [(⟨k, tp, tv⟩ : Ba.Op)], _, _, by rw [List.length_append]; rfl, by rw [List.length_append]; exact hln, R9.out, Ba.al_good hrok hE1.out hE2.out hln (by rw [HPD.out]) (by rw [HPD.out, HK1.out, HTP.out, HTV.out, HQ2.out]) (by rw [HPD.out, HQ3.out, HQ2.out]) L9.out⟩
              case measure => simp [intOf]; omega
            · have hk2 : k = 2 := by omega
              have HPD : Hid (Ba.pdOp r = (⟨2, ⟨(q1.text 33).1.toArray⟩, Ba.no⟩, (q1.text 33).2, 0)) := by show _ = _; unfold Ba.pdOp; rw [← hq1, ← hk, if_neg (by omega), if_neg hkk, if_neg hk1]
              have e1 : ((k : Int) != 1) = true := by rw [bne_iff_ne]; omega
              have e2 : ((k : Int) != 2) = false := by rw [hk2]; rfl
              have e3 : ((k : Int) == 1) = false := by rw [beq_eq_false_iff_ne]; omega
              have HK2 := Lib.hid hk2
              have hq1f : Hid (q1.f = 0) := hqf
              have hq1ok : q1.Ok := by rw [hq1]; exact hrok.byte
              clear hk hq1 hkk hqf hk1 hk2
              go_wp2_with fail
              refine HBY.out.mono ?_
              rintro e w6 ⟨rfl, st⟩
              obtain ⟨S6, u6, hS6⟩ := U1.out.step st
              have U2 := Lib.hid u6
              have L6 := Lib.hid hS6
              clear U1 HBY st u6 hS6
              have o0 := Sm.cells_of U2.out.op 0 _ rfl
              have p0 := Sm.free_of U2.out.op 0
              have U3 : Hid (Ba.Ro w (w6.setCell ⟨O, 0, none⟩ (.int .u8 (k : Int))) N O v1 v2 A c l S6 q1.f ⟨k, Ba.no, Ba.no⟩) := U2.out.set 0 (.int .u8 (k : Int)) (by rfl)
              clear U2
              go_upto_region 11 with (fail)
              generalize w6.setCell ⟨O, 0, none⟩ (.int .u8 (k : Int)) = w7 at *
              clear o0 p0
              have TX : Hid (Calls Try.prog 50 #[.pointer (some ⟨N + 1, 0, none⟩), .int .u64 33] w7 fun e w' => e = .returned (.string ⟨(q1.text 33).1.toArray⟩) ∧ R12.StW w7 w' (N + 1) (q1.text 33).2) := r12InText_w (U3.out.rr.inW (r := q1) rfl L6.out) hq1ok 33 (by decide)
              have i1 := Sm.cells_of U3.out.rr.inn 1 _ rfl
              have o0 := Sm.cells_of U3.out.op 0 _ rfl
              rw [hq1f.out] at i1
              obtain ⟨tp, htp⟩ : ∃ x : ByteArray, x = ⟨(q1.text 33).1.toArray⟩ := ⟨_, rfl⟩
              obtain ⟨q2, hq2⟩ : ∃ x, x = (q1.text 33).2 := ⟨_, rfl⟩
              have hq2ok : q2.Ok := by rw [hq2]; exact hq1ok.text _
              rw [← htp, ← hq2] at TX
              have HTP := Lib.hid htp
              have HQ2 := Lib.hid hq2
              clear htp hq2
              go_wp2_with fail
              refine TX.out.mono ?_
              rintro e w8 ⟨rfl, st⟩
              obtain ⟨S8, u8, hS8⟩ := U3.out.step st
              have U4 := Lib.hid u8
              have L8 := Lib.hid hS8
              clear U3 st u8 hS8 TX i1 o0 L6
              have o1 := Sm.cells_of U4.out.op 1 _ rfl
              have p1 := Sm.free_of U4.out.op 1
              have U5 : Hid (Ba.Ro w (w8.setCell ⟨O, 1, none⟩ (.string tp)) N O v1 v2 A c l S8 q2.f ⟨k, tp, Ba.no⟩) := U4.out.set 1 (.string tp) (by rfl)
              clear U4
              go_upto_region 14 with (fail)
              generalize w8.setCell ⟨O, 1, none⟩ (.string tp) = w10 at *
              clear o1 p1
              have o0 := Sm.cells_of U5.out.op 0 _ rfl
              go_upto_region 16 with (fail)
              clear o0
              have b2 := Sm.cells_of U5.out.rr.box 2 _ rfl
              have o0 := Sm.cells_of U5.out.op 0 _ rfl
              have o1 := Sm.cells_of U5.out.op 1 _ rfl
              have o2 := Sm.cells_of U5.out.op 2 _ rfl
              have R8 := Lib.hid (U5.out.rr.alloc (.cells #[.int .u8 (k : Int), .string tp, .string ⟨#[]⟩] 37))
              have g8 := Lib.hid (heap_alloc_new w10 (.cells #[.int .u8 (k : Int), .string tp, .string ⟨#[]⟩] 37))
              clear U5
              go_upto_region 8 with (at_builtin; refine Ba.wp_push rfl _ _ rfl rfl R8.out.row (⟨k, tp, Ba.no⟩ : Ba.Op) rfl g8.out (by omega) R8.out.low ?_; intro A' c' w9 hrow hgrow; have R9 := Lib.hid (R8.out.push hrow hgrow); have f2 : w9.frozen? ⟨N + 1 + 1, 2, none⟩ = false := (Sm.free_of ((hgrow.block (N + 1 + 1) (Sm.lt_of R8.out.box) (fun e => R8.out.row.off R8.out.box (by decide) e.symm)).trans R8.out.box) 2); have d2 : w9.cell? ⟨N + 1 + 1, 2, none⟩ = some (.slice A l.length c) := Sm.cells_of ((hgrow.block (N + 1 + 1) (Sm.lt_of R8.out.box) (fun e => R8.out.row.off R8.out.box (by decide) e.symm)).trans R8.out.box) 2 _ rfl)
              clear b2 o0 o1 o2 g8 R8
              go_wp2_with fail
              go_roundw
              case rel => exact ⟨A', c', l ++ [(⟨k, tp, Ba.no⟩ : Ba.Op)], _, _, by rw [List.length_append]; rfl, by rw [List.length_append]; exact hln, R9.out, Ba.al_good hrok hE1.out hE2.out hln (by rw [HPD.out]) (by rw [HPD.out, HK2.out, HTP.out]) (by rw [HPD.out, HQ2.out]) L8.out⟩
              case measure => simp [intOf]; omega
        · have HPD : Hid ((Ba.pdOp r).2.2 = q1.f) := by show _ = _; unfold Ba.pdOp; rw [← hq1, if_pos hqf]
          have hk0 : k = 0 := by rw [hk]; exact Ba.byte_bad hrf.out (by rw [← hq1]; exact hqf)
          have e3 : ((k : Int) == 1) = false := by rw [hk0]; rfl
          have hfi : ((q1.f : Int) == 0) = false := by rw [beq_eq_false_iff_ne]; omega
          have HQF := Lib.hid hqf
          clear hk hq1 hqf hk0
          go_wp2_with fail
          refine HBY.out.mono ?_
          rintro e w6 ⟨rfl, st⟩
          obtain ⟨S6, u6, hS6⟩ := U1.out.step st
          have U2 := Lib.hid u6
          have L6 := Lib.hid hS6
          clear U1 HBY st u6 hS6
          have o0 := Sm.cells_of U2.out.op 0 _ rfl
          have p0 := Sm.free_of U2.out.op 0
          have U3 : Hid (Ba.Ro w (w6.setCell ⟨O, 0, none⟩ (.int .u8 (k : Int))) N O v1 v2 A c l S6 q1.f ⟨k, Ba.no, Ba.no⟩) := U2.out.set 0 (.int .u8 (k : Int)) (by rfl)
          clear U2
          go_upto_region 11 with (fail)
          generalize w6.setCell ⟨O, 0, none⟩ (.int .u8 (k : Int)) = w7 at *
          clear o0 p0
          have i1 := Sm.cells_of U3.out.rr.inn 1 _ rfl
          have o0 := Sm.cells_of U3.out.op 0 _ rfl
          have TX : Hid (Calls Try.prog 50 #[.pointer (some ⟨N + 1, 0, none⟩), .int .u64 33] w7 fun e w' => e = .returned (.string ⟨#[]⟩) ∧ w7 = w') := r12InText_stuck U3.out.rr.inn HQF.out 33
          go_wp2_with fail
          refine TX.out.mono ?_
          rintro e w8 ⟨rfl, rfl⟩
          clear TX i1 o0
          have o1 := Sm.cells_of U3.out.op 1 _ rfl
          have p1 := Sm.free_of U3.out.op 1
          have U5 : Hid (Ba.Ro w (w7.setCell ⟨O, 1, none⟩ (.string ⟨#[]⟩)) N O v1 v2 A c l S6 q1.f ⟨k, Ba.no, Ba.no⟩) := U3.out.set 1 (.string ⟨#[]⟩) (by rfl)
          clear U3
          go_upto_region 14 with (fail)
          generalize w7.setCell ⟨O, 1, none⟩ (.string ⟨#[]⟩) = w10 at *
          clear o1 p1
          have o0 := Sm.cells_of U5.out.op 0 _ rfl
          go_upto_region 16 with (fail)
          clear o0
          have b2 := Sm.cells_of U5.out.rr.box 2 _ rfl
          have o0 := Sm.cells_of U5.out.op 0 _ rfl
          have o1 := Sm.cells_of U5.out.op 1 _ rfl
          have o2 := Sm.cells_of U5.out.op 2 _ rfl
          have R8 := Lib.hid (U5.out.rr.alloc (.cells #[.int .u8 (k : Int), .string ⟨#[]⟩, .string ⟨#[]⟩] 37))
          have g8 := Lib.hid (heap_alloc_new w10 (.cells #[.int .u8 (k : Int), .string ⟨#[]⟩, .string ⟨#[]⟩] 37))
          clear U5
          go_upto_region 8 with (at_builtin; refine Ba.wp_push rfl _ _ rfl rfl R8.out.row (⟨k, Ba.no, Ba.no⟩ : Ba.Op) rfl g8.out (by omega) R8.out.low ?_; intro A' c' w9 hrow hgrow; have R9 := Lib.hid (R8.out.push hrow hgrow); have f2 : w9.frozen? ⟨N + 1 + 1, 2, none⟩ = false := (Sm.free_of ((hgrow.block (N + 1 + 1) (Sm.lt_of R8.out.box) (fun e => R8.out.row.off R8.out.box (by decide) e.symm)).trans R8.out.box) 2); have d2 : w9.cell? ⟨N + 1 + 1, 2, none⟩ = some (.slice A l.length c) := Sm.cells_of ((hgrow.block (N + 1 + 1) (Sm.lt_of R8.out.box) (fun e => R8.out.row.off R8.out.box (by decide) e.symm)).trans R8.out.box) 2 _ rfl)
          clear b2 o0 o1 o2 g8 R8
          go_wp2_with fail
          go_roundw
          case rel => exact ⟨A', c', l ++ [(⟨k, Ba.no, Ba.no⟩ : Ba.Op)], _, _, by rw [List.length_append]; rfl, by rw [List.length_append]; exact hln, R9.out, Ba.al_bad hE1.out hln (by rw [HPD.out]; exact HQF.out) _ _ HPD.out.symm⟩
          case measure => simp [intOf]; omega
      · have hlni : ¬ (l.length : Int) < (n : Int) := by omega
        have e1 := hE10
        have e2 := hE20
        rw [show n - l.length = 0 by omega] at e1 e2
        have ef : Ba.pdE 0 r = r.fin := by unfold Ba.pdE Ba.pdOps; simp
        clear al hE10 hE20 hrf0 hSl0
        by_cases h0 : r.rest = []
        · have hF0 : F1 = 0 := by rw [← e1, ef]; unfold Rd.fin; rw [if_neg (by rw [hrf.out]; decide), if_pos h0]
          have hne := R12.text_none (s := S) (by rw [hSl.out, R12.left_size, h0]; rfl)
          have hl0 : l = LO := by have := e2 hF0; rwa [show (Ba.pdOps 0 r).1 = [] from rfl, List.append_nil] at this
          have hft : Ba.fault s = Ba.right (Ba.got s) := by rw [Ba.fault_two, ← HFE.out, hF0, if_neg (by decide)]
          have RT := RT0.out l hl0 _ A c RL.out.row.listAt
          have b0 := Sm.cells_of RL.out.box 0 _ rfl
          have b1 := Sm.cells_of RL.out.box 1 _ rfl
          have b2 := Sm.cells_of RL.out.box 2 _ rfl
          have HL0 := Lib.hid hl0
          clear hF0 e1 e2 ef h0 hl0
          by_cases hR : R = 0
          · have hrd : Ba.read s = (Ba.got s, 0) := by unfold Ba.read; rw [hft, ← HR0.out, hR, if_pos rfl]
            have HRD := Lib.hid hrd
            rw [hR] at RT
            have HRT := Lib.hid RT
            clear hrd hft hR RT
            go_wp2_with fail
            refine HRT.out.mono ?_
            rintro e w9 ⟨rfl, k9⟩
            have R9 := Lib.hid (RL.out.low' k9)
            clear k9 RL HRT b0 b1 b2 i1 i0
            have i1 := Sm.cells_of R9.out.inn 1 _ rfl
            have fi := Sm.free_of R9.out.inn 1
            have R10 : Hid (Ba.Rr w (w9.setCell ⟨N + 1, 1, none⟩ (.int .i64 0)) N v1 v2 A c l S 0) := R9.out.fault 0
            clear R9
            go_upto_region 21 with (fail)
            generalize w9.setCell ⟨N + 1, 1, none⟩ (.int .i64 0) = w10 at *
            clear i1 fi
            have i1 := Sm.cells_of R10.out.inn 1 _ rfl
            have b0 := Sm.cells_of R10.out.box 0 _ rfl
            have b1 := Sm.cells_of R10.out.box 1 _ rfl
            have b2 := Sm.cells_of R10.out.box 2 _ rfl
            have r0 := Sm.cells_of R10.out.res 0 _ rfl
            have r1' := Sm.cells_of R10.out.res 1 _ rfl
            have r2' := Sm.cells_of R10.out.res 2 _ rfl
            have g0 := Sm.free_of R10.out.res 0
            have g1 := Sm.free_of R10.out.res 1
            have g2 := Sm.free_of R10.out.res 2
            have L6 := Lib.hid (Ba.list_set3 R10.out.res (by intro k h; cases h) R10.out.row.listAt (.int .i64 (v1 : Int)) (.int .i64 (v2 : Int)) (.slice A l.length c))
            have BL := Lib.hid R10.out.bel
            clear R10
            go_wp2_with fail
            refine bodyPost_ret (v := .tuple #[.agg #[.int .i64 (v1 : Int), .int .i64 (v2 : Int), .slice A l.length c], .int .i64 0]) ((results_cell_tmp rfl _ _ _).trans (by go_simp)) rfl ⟨A, c, ?_, ?_, ((BL.out.setCell (p := ⟨N, 0, none⟩) (Nat.le_refl N) _).setCell (p := ⟨N, 1, none⟩) (Nat.le_refl N) _).setCell (p := ⟨N, 2, none⟩) (Nat.le_refl N) _⟩
            · rw [HRD.out, HV1.out, HV2.out, HL0.out, HLO.out]; rfl
            · rw [HRD.out]
              show Ba.listAt _ A (Ba.rdO s).1
              rw [← HLO.out, ← HL0.out]
              exact L6.out
          · have hrd : Ba.read s = (Ba.zero, R) := by unfold Ba.read; rw [hft, ← HR0.out, if_neg hR]
            have HRD := Lib.hid hrd
            have hRi : ((R : Int) != 0) = true := by rw [bne_iff_ne]; omega
            have HRT := Lib.hid RT
            clear hrd hft hR RT
            go_wp2_with fail
            refine HRT.out.mono ?_
            rintro e w9 ⟨rfl, k9⟩
            have R9 := Lib.hid (RL.out.low' k9)
            clear k9 RL HRT b0 b1 b2 i1 i0
            have i1 := Sm.cells_of R9.out.inn 1 _ rfl
            have fi := Sm.free_of R9.out.inn 1
            have R10 : Hid (Ba.Rr w (w9.setCell ⟨N + 1, 1, none⟩ (.int .i64 (R : Int))) N v1 v2 A c l S R) := R9.out.fault R
            clear R9
            go_upto_region 21 with (fail)
            generalize w9.setCell ⟨N + 1, 1, none⟩ (.int .i64 (R : Int)) = w10 at *
            clear i1 fi
            have r0 := Sm.cells_of R10.out.res 0 _ rfl
            have r1' := Sm.cells_of R10.out.res 1 _ rfl
            have r2' := Sm.cells_of R10.out.res 2 _ rfl
            have g0 := Sm.free_of R10.out.res 0
            have g1 := Sm.free_of R10.out.res 1
            have g2 := Sm.free_of R10.out.res 2
            have i1 := Sm.cells_of R10.out.inn 1 _ rfl
            have BL := Lib.hid ((((R10.out.bel.setCell (p := ⟨N, 0, none⟩) (Nat.le_refl N) (.int .i64 0)).setCell (p := ⟨N, 1, none⟩) (Nat.le_refl N) (.int .i64 0)).setCell (p := ⟨N, 2, none⟩) (Nat.le_refl N) (.slice none 0 0)).drew)
            go_upto_region 22 with (fail)
            clear R10
            refine wp_region_held_drew (S := fun w' => w'.cell? ⟨N + 1, 1, none⟩ = some (.int .i64 (R : Int))) (by kernel_rfl) (by exact i1) (fun hHeld => ?_)
            refine wpAnyH_take (i := 0) (oi := ⟨some 100, _, _, _, _, _⟩) (v := .agg #[.int .i64 0, .int .i64 0, .slice none 0 0]) rfl (by kernel_rfl) (by kernel_rfl) (by kernel_rfl) (fun _ _ _ h => h) (R12.yields_zero (by rfl) rfl) (by assumption) ?_
            simp only [Act.put, List.setIfInBounds_toArray, List.set_cons_zero, List.set_cons_succ]
            refine wpAnyH_take (i := 1) (oi := ⟨some 101, _, _, _, _, _⟩) (v := .pointer (some ⟨N + 1, 0, none⟩)) rfl (by kernel_rfl) (by kernel_rfl) (by kernel_rfl) (fun _ _ _ h => h) (Or.inl ⟨by rfl, ?_⟩) (by assumption) ?_
            · intro w hSw; (try dsimp only at hSw); go_simp
            simp only [Act.put, List.setIfInBounds_toArray, List.set_cons_zero, List.set_cons_succ]
            refine wpAnyH_take (i := 2) (oi := ⟨some 102, _, _, _, _, _⟩) (v := .pointer (some ⟨N + 1, 0, none⟩)) rfl (by kernel_rfl) (by kernel_rfl) (by kernel_rfl) (fun _ _ _ h => h) (Or.inl ⟨by rfl, ?_⟩) (by assumption) ?_
            · intro w hSw; (try dsimp only at hSw); go_simp
            simp only [Act.put, List.setIfInBounds_toArray, List.set_cons_zero, List.set_cons_succ]
            refine wpAnyH_take (i := 3) (oi := ⟨some 103, _, _, _, _, _⟩) (v := .pointer (some ⟨N + 1, 1, none⟩)) rfl (by kernel_rfl) (by kernel_rfl) (by kernel_rfl) (fun _ _ _ h => h) (Or.inl ⟨by rfl, ?_⟩) (by assumption) ?_
            · intro w hSw; (try dsimp only at hSw); go_simp
            simp only [Act.put, List.setIfInBounds_toArray, List.set_cons_zero, List.set_cons_succ]
            refine wpAnyH_take (i := 4) (oi := ⟨some 104, _, _, _, _, _⟩) (v := .int .i64 (R : Int)) rfl (by kernel_rfl) (by kernel_rfl) (by kernel_rfl) (fun _ _ _ h => h) (Or.inl ⟨by rfl, ?_⟩) (by assumption) ?_
            · intro w hSw; (try dsimp only at hSw); go_simp
            simp only [Act.put, List.setIfInBounds_toArray, List.set_cons_zero, List.set_cons_succ]
            refine wpAnyH_ready (rs := [5]) (by kernel_rfl) (by simp) ?_
            refine (AllReadyH.cons (o := ⟨none, _, _, _, _, _⟩) rfl (fun K hK => ?_) AllReadyH.nil)
            go_simp
            refine hK.out _ _ (R12.held_set3 hHeld) (fun hHeld => ?_)
            clear hK K
            refine wpAnyH_take (i := 6) (oi := ⟨some 3, _, _, _, _, _⟩) (v := .int .i64 (R : Int)) rfl (by kernel_rfl) (by kernel_rfl) (by kernel_rfl) (fun _ _ _ h => h) (Or.inl ⟨by rfl, ?_⟩) (by assumption) ?_
            · intro w hSw; (try dsimp only at hSw); go_simp
            simp only [Act.put, List.setIfInBounds_toArray, List.set_cons_zero, List.set_cons_succ]
            refine wpAnyH_done (by kernel_rfl) ?_ _
            go_wp2_with fail
            refine bodyPost_ret (v := .tuple #[.agg #[.int .i64 0, .int .i64 0, .slice none 0 0], .int .i64 (R : Int)]) ((results_cell_tmp rfl _ _ _).trans (by go_simp)) rfl ?_
            first | refine ⟨none, 0, ?_, ?_, BL.out⟩ | refine ⟨none, ⟨0, ?_⟩, ?_, BL.out⟩
            · rw [HRD.out]; rfl
            · rw [HRD.out]; exact .inl rfl
        · have hF8 : F1 = 8 := by rw [← e1, ef]; unfold Rd.fin; rw [if_neg (by rw [hrf.out]; decide), if_neg h0]
          have hne := R12.text_ne (s := S) (by rw [hSl.out, R12.left_size]; have := List.length_pos_iff.2 h0; omega)
          have hrd : Ba.read s = (Ba.zero, 8) := by
            have e : Ba.fault s = 8 := by rw [Ba.fault_two, ← HFE.out, hF8, if_pos (by decide)]
            unfold Ba.read
            rw [e, if_neg (by decide)]
          have HRD := Lib.hid hrd
          have fi := Sm.free_of RL.out.inn 1
          have R9 := Lib.hid (RL.out.fault 8)
          clear hrd hF8 e1 e2 ef h0
          go_upto_region 19 with (fail)
          generalize wr.setCell ⟨N + 1, 1, none⟩ (.int .i64 8) = w9 at *
          clear i1 i0 fi RL
          have r0 := Sm.cells_of R9.out.res 0 _ rfl
          have r1' := Sm.cells_of R9.out.res 1 _ rfl
          have r2' := Sm.cells_of R9.out.res 2 _ rfl
          have g0 := Sm.free_of R9.out.res 0
          have g1 := Sm.free_of R9.out.res 1
          have g2 := Sm.free_of R9.out.res 2
          have i1 := Sm.cells_of R9.out.inn 1 _ rfl
          have BL := Lib.hid ((((R9.out.bel.setCell (p := ⟨N, 0, none⟩) (Nat.le_refl N) (.int .i64 0)).setCell (p := ⟨N, 1, none⟩) (Nat.le_refl N) (.int .i64 0)).setCell (p := ⟨N, 2, none⟩) (Nat.le_refl N) (.slice none 0 0)).drew)
          go_upto_region 22 with (fail)
          clear R9
          refine wp_region_held_drew (S := fun w' => w'.cell? ⟨N + 1, 1, none⟩ = some (.int .i64 8)) (by kernel_rfl) (by exact i1) (fun hHeld => ?_)
          refine wpAnyH_take (i := 0) (oi := ⟨some 100, _, _, _, _, _⟩) (v := .agg #[.int .i64 0, .int .i64 0, .slice none 0 0]) rfl (by kernel_rfl) (by kernel_rfl) (by kernel_rfl) (fun _ _ _ h => h) (R12.yields_zero (by rfl) rfl) (by assumption) ?_
          simp only [Act.put, List.setIfInBounds_toArray, List.set_cons_zero, List.set_cons_succ]
          refine wpAnyH_take (i := 1) (oi := ⟨some 101, _, _, _, _, _⟩) (v := .pointer (some ⟨N + 1, 0, none⟩)) rfl (by kernel_rfl) (by kernel_rfl) (by kernel_rfl) (fun _ _ _ h => h) (Or.inl ⟨by rfl, ?_⟩) (by assumption) ?_
          · intro w hSw; (try dsimp only at hSw); go_simp
          simp only [Act.put, List.setIfInBounds_toArray, List.set_cons_zero, List.set_cons_succ]
          refine wpAnyH_take (i := 2) (oi := ⟨some 102, _, _, _, _, _⟩) (v := .pointer (some ⟨N + 1, 0, none⟩)) rfl (by kernel_rfl) (by kernel_rfl) (by kernel_rfl) (fun _ _ _ h => h) (Or.inl ⟨by rfl, ?_⟩) (by assumption) ?_
          · intro w hSw; (try dsimp only at hSw); go_simp
          simp only [Act.put, List.setIfInBounds_toArray, List.set_cons_zero, List.set_cons_succ]
          refine wpAnyH_take (i := 3) (oi := ⟨some 103, _, _, _, _, _⟩) (v := .pointer (some ⟨N + 1, 1, none⟩)) rfl (by kernel_rfl) (by kernel_rfl) (by kernel_rfl) (fun _ _ _ h => h) (Or.inl ⟨by rfl, ?_⟩) (by assumption) ?_
          · intro w hSw; (try dsimp only at hSw); go_simp
          simp only [Act.put, List.setIfInBounds_toArray, List.set_cons_zero, List.set_cons_succ]
          refine wpAnyH_take (i := 4) (oi := ⟨some 104, _, _, _, _, _⟩) (v := .int .i64 8) rfl (by kernel_rfl) (by kernel_rfl) (by kernel_rfl) (fun _ _ _ h => h) (Or.inl ⟨by rfl, ?_⟩) (by assumption) ?_
          · intro w hSw; (try dsimp only at hSw); go_simp
          simp only [Act.put, List.setIfInBounds_toArray, List.set_cons_zero, List.set_cons_succ]
          refine wpAnyH_ready (rs := [5]) (by kernel_rfl) (by simp) ?_
          refine (AllReadyH.cons (o := ⟨none, _, _, _, _, _⟩) rfl (fun K hK => ?_) AllReadyH.nil)
          go_simp
          refine hK.out _ _ (R12.held_set3 hHeld) (fun hHeld => ?_)
          clear hK K
          refine wpAnyH_take (i := 6) (oi := ⟨some 3, _, _, _, _, _⟩) (v := .int .i64 8) rfl (by kernel_rfl) (by kernel_rfl) (by kernel_rfl) (fun _ _ _ h => h) (Or.inl ⟨by rfl, ?_⟩) (by assumption) ?_
          · intro w hSw; (try dsimp only at hSw); go_simp
          simp only [Act.put, List.setIfInBounds_toArray, List.set_cons_zero, List.set_cons_succ]
          refine wpAnyH_done (by kernel_rfl) ?_ _
          go_wp2_with fail
          refine bodyPost_ret (v := .tuple #[.agg #[.int .i64 0, .int .i64 0, .slice none 0 0], .int .i64 8]) ((results_cell_tmp rfl _ _ _).trans (by go_simp)) rfl ?_
          first | refine ⟨none, 0, ?_, ?_, BL.out⟩ | refine ⟨none, ⟨0, ?_⟩, ?_, BL.out⟩
          · rw [HRD.out]; rfl
          · rw [HRD.out]; exact .inl rfl
    · have hfb : ((f : Int) == 0) = false := by rw [beq_eq_false_iff_ne]; omega
      clear al
      by_cases hln : l.length < n
      · have hlni : (l.length : Int) < (n : Int) := by omega
        have hfi : ((f : Int) != 0) = true := by rw [bne_iff_ne]; omega
        have hrd : Ba.read s = (Ba.zero, f) := by
          have e : Ba.fault s = f := by rw [Ba.fault_two, ← HFE.out, ← hfF, if_pos hf0]
          unfold Ba.read
          rw [e, if_neg hf0]
        have HRD := Lib.hid hrd
        clear hrd hfF hf0
        have r0 := Sm.cells_of RL.out.res 0 _ rfl
        have r1' := Sm.cells_of RL.out.res 1 _ rfl
        have r2' := Sm.cells_of RL.out.res 2 _ rfl
        have g0 := Sm.free_of RL.out.res 0
        have g1 := Sm.free_of RL.out.res 1
        have g2 := Sm.free_of RL.out.res 2
        have i1 := Sm.cells_of RL.out.inn 1 _ rfl
        have BL := Lib.hid ((((RL.out.bel.setCell (p := ⟨N, 0, none⟩) (Nat.le_refl N) (.int .i64 0)).setCell (p := ⟨N, 1, none⟩) (Nat.le_refl N) (.int .i64 0)).setCell (p := ⟨N, 2, none⟩) (Nat.le_refl N) (.slice none 0 0)).drew)
        go_upto_region 22 with (fail)
        clear RL
        refine wp_region_held_drew (S := fun w' => w'.cell? ⟨N + 1, 1, none⟩ = some (.int .i64 (f : Int))) (by kernel_rfl) (by exact i1) (fun hHeld => ?_)
        refine wpAnyH_take (i := 0) (oi := ⟨some 100, _, _, _, _, _⟩) (v := .agg #[.int .i64 0, .int .i64 0, .slice none 0 0]) rfl (by kernel_rfl) (by kernel_rfl) (by kernel_rfl) (fun _ _ _ h => h) (R12.yields_zero (by rfl) rfl) (by assumption) ?_
        simp only [Act.put, List.setIfInBounds_toArray, List.set_cons_zero, List.set_cons_succ]
        refine wpAnyH_take (i := 1) (oi := ⟨some 101, _, _, _, _, _⟩) (v := .pointer (some ⟨N + 1, 0, none⟩)) rfl (by kernel_rfl) (by kernel_rfl) (by kernel_rfl) (fun _ _ _ h => h) (Or.inl ⟨by rfl, ?_⟩) (by assumption) ?_
        · intro w hSw; (try dsimp only at hSw); go_simp
        simp only [Act.put, List.setIfInBounds_toArray, List.set_cons_zero, List.set_cons_succ]
        refine wpAnyH_take (i := 2) (oi := ⟨some 102, _, _, _, _, _⟩) (v := .pointer (some ⟨N + 1, 0, none⟩)) rfl (by kernel_rfl) (by kernel_rfl) (by kernel_rfl) (fun _ _ _ h => h) (Or.inl ⟨by rfl, ?_⟩) (by assumption) ?_
        · intro w hSw; (try dsimp only at hSw); go_simp
        simp only [Act.put, List.setIfInBounds_toArray, List.set_cons_zero, List.set_cons_succ]
        refine wpAnyH_take (i := 3) (oi := ⟨some 103, _, _, _, _, _⟩) (v := .pointer (some ⟨N + 1, 1, none⟩)) rfl (by kernel_rfl) (by kernel_rfl) (by kernel_rfl) (fun _ _ _ h => h) (Or.inl ⟨by rfl, ?_⟩) (by assumption) ?_
        · intro w hSw; (try dsimp only at hSw); go_simp
        simp only [Act.put, List.setIfInBounds_toArray, List.set_cons_zero, List.set_cons_succ]
        refine wpAnyH_take (i := 4) (oi := ⟨some 104, _, _, _, _, _⟩) (v := .int .i64 (f : Int)) rfl (by kernel_rfl) (by kernel_rfl) (by kernel_rfl) (fun _ _ _ h => h) (Or.inl ⟨by rfl, ?_⟩) (by assumption) ?_
        · intro w hSw; (try dsimp only at hSw); go_simp
        simp only [Act.put, List.setIfInBounds_toArray, List.set_cons_zero, List.set_cons_succ]
        refine wpAnyH_ready (rs := [5]) (by kernel_rfl) (by simp) ?_
        refine (AllReadyH.cons (o := ⟨none, _, _, _, _, _⟩) rfl (fun K hK => ?_) AllReadyH.nil)
        go_simp
        refine hK.out _ _ (R12.held_set3 hHeld) (fun hHeld => ?_)
        clear hK K
        refine wpAnyH_take (i := 6) (oi := ⟨some 3, _, _, _, _, _⟩) (v := .int .i64 (f : Int)) rfl (by kernel_rfl) (by kernel_rfl) (by kernel_rfl) (fun _ _ _ h => h) (Or.inl ⟨by rfl, ?_⟩) (by assumption) ?_
        · intro w hSw; (try dsimp only at hSw); go_simp
        simp only [Act.put, List.setIfInBounds_toArray, List.set_cons_zero, List.set_cons_succ]
        refine wpAnyH_done (by kernel_rfl) ?_ _
        go_wp2_with fail
        refine bodyPost_ret (v := .tuple #[.agg #[.int .i64 0, .int .i64 0, .slice none 0 0], .int .i64 (f : Int)]) ((results_cell_tmp rfl _ _ _).trans (by go_simp)) rfl ?_
        first | refine ⟨none, 0, ?_, ?_, BL.out⟩ | refine ⟨none, ⟨0, ?_⟩, ?_, BL.out⟩
        · rw [HRD.out]; rfl
        · rw [HRD.out]; exact .inl rfl
      · have hlni : ¬ (l.length : Int) < (n : Int) := by omega
        have hfi : ((f : Int) != 0) = true := by rw [bne_iff_ne]; omega
        have hrd : Ba.read s = (Ba.zero, f) := by
          have e : Ba.fault s = f := by rw [Ba.fault_two, ← HFE.out, ← hfF, if_pos hf0]
          unfold Ba.read
          rw [e, if_neg hf0]
        have HRD := Lib.hid hrd
        clear hrd hfF hf0
        have r0 := Sm.cells_of RL.out.res 0 _ rfl
        have r1' := Sm.cells_of RL.out.res 1 _ rfl
        have r2' := Sm.cells_of RL.out.res 2 _ rfl
        have g0 := Sm.free_of RL.out.res 0
        have g1 := Sm.free_of RL.out.res 1
        have g2 := Sm.free_of RL.out.res 2
        have i1 := Sm.cells_of RL.out.inn 1 _ rfl
        have BL := Lib.hid ((((RL.out.bel.setCell (p := ⟨N, 0, none⟩) (Nat.le_refl N) (.int .i64 0)).setCell (p := ⟨N, 1, none⟩) (Nat.le_refl N) (.int .i64 0)).setCell (p := ⟨N, 2, none⟩) (Nat.le_refl N) (.slice none 0 0)).drew)
        go_upto_region 22 with (fail)
        clear RL
        refine wp_region_held_drew (S := fun w' => w'.cell? ⟨N + 1, 1, none⟩ = some (.int .i64 (f : Int))) (by kernel_rfl) (by exact i1) (fun hHeld => ?_)
        refine wpAnyH_take (i := 0) (oi := ⟨some 100, _, _, _, _, _⟩) (v := .agg #[.int .i64 0, .int .i64 0, .slice none 0 0]) rfl (by kernel_rfl) (by kernel_rfl) (by kernel_rfl) (fun _ _ _ h => h) (R12.yields_zero (by rfl) rfl) (by assumption) ?_
        simp only [Act.put, List.setIfInBounds_toArray, List.set_cons_zero, List.set_cons_succ]
        refine wpAnyH_take (i := 1) (oi := ⟨some 101, _, _, _, _, _⟩) (v := .pointer (some ⟨N + 1, 0, none⟩)) rfl (by kernel_rfl) (by kernel_rfl) (by kernel_rfl) (fun _ _ _ h => h) (Or.inl ⟨by rfl, ?_⟩) (by assumption) ?_
        · intro w hSw; (try dsimp only at hSw); go_simp
        simp only [Act.put, List.setIfInBounds_toArray, List.set_cons_zero, List.set_cons_succ]
        refine wpAnyH_take (i := 2) (oi := ⟨some 102, _, _, _, _, _⟩) (v := .pointer (some ⟨N + 1, 0, none⟩)) rfl (by kernel_rfl) (by kernel_rfl) (by kernel_rfl) (fun _ _ _ h => h) (Or.inl ⟨by rfl, ?_⟩) (by assumption) ?_
        · intro w hSw; (try dsimp only at hSw); go_simp
        simp only [Act.put, List.setIfInBounds_toArray, List.set_cons_zero, List.set_cons_succ]
        refine wpAnyH_take (i := 3) (oi := ⟨some 103, _, _, _, _, _⟩) (v := .pointer (some ⟨N + 1, 1, none⟩)) rfl (by kernel_rfl) (by kernel_rfl) (by kernel_rfl) (fun _ _ _ h => h) (Or.inl ⟨by rfl, ?_⟩) (by assumption) ?_
        · intro w hSw; (try dsimp only at hSw); go_simp
        simp only [Act.put, List.setIfInBounds_toArray, List.set_cons_zero, List.set_cons_succ]
        refine wpAnyH_take (i := 4) (oi := ⟨some 104, _, _, _, _, _⟩) (v := .int .i64 (f : Int)) rfl (by kernel_rfl) (by kernel_rfl) (by kernel_rfl) (fun _ _ _ h => h) (Or.inl ⟨by rfl, ?_⟩) (by assumption) ?_
        · intro w hSw; (try dsimp only at hSw); go_simp
        simp only [Act.put, List.setIfInBounds_toArray, List.set_cons_zero, List.set_cons_succ]
        refine wpAnyH_ready (rs := [5]) (by kernel_rfl) (by simp) ?_
        refine (AllReadyH.cons (o := ⟨none, _, _, _, _, _⟩) rfl (fun K hK => ?_) AllReadyH.nil)
        go_simp
        refine hK.out _ _ (R12.held_set3 hHeld) (fun hHeld => ?_)
        clear hK K
        refine wpAnyH_take (i := 6) (oi := ⟨some 3, _, _, _, _, _⟩) (v := .int .i64 (f : Int)) rfl (by kernel_rfl) (by kernel_rfl) (by kernel_rfl) (fun _ _ _ h => h) (Or.inl ⟨by rfl, ?_⟩) (by assumption) ?_
        · intro w hSw; (try dsimp only at hSw); go_simp
        simp only [Act.put, List.setIfInBounds_toArray, List.set_cons_zero, List.set_cons_succ]
        refine wpAnyH_done (by kernel_rfl) ?_ _
        go_wp2_with fail
        refine bodyPost_ret (v := .tuple #[.agg #[.int .i64 0, .int .i64 0, .slice none 0 0], .int .i64 (f : Int)]) ((results_cell_tmp rfl _ _ _).trans (by go_simp)) rfl ?_
        first | refine ⟨none, 0, ?_, ?_, BL.out⟩ | refine ⟨none, ⟨0, ?_⟩, ?_, BL.out⟩
        · rw [HRD.out]; rfl
        · rw [HRD.out]; exact .inl rfl
end Go.Proofs.Ytlndggbidmmodaa
