/-
  The document's own disk: Crash.
-/
import Derived.Test.YtnmagfodjcookaaGreatDkRefSync
namespace Go.Proofs.YtnmagfodjcookaaGreat
open Go.RowKit
namespace Dk
/-- What lasts where the first i sectors are told already. -/
def crow (M : Md) (keep : List Int) (i : Nat) : List (List UInt8) := (List.range M.lasts.length).map fun j => if j < i then kept M keep j else last M j
theorem crow_length (M : Md) (keep : List Int) (i : Nat) : (crow M keep i).length = M.lasts.length := by simp [crow]
theorem crow_zero (M : Md) (keep : List Int) : crow M keep 0 = M.lasts := by
  apply List.ext_getElem
  · simp [crow]
  · intro i h1 h2
    simp [crow, last, List.getD_eq_getElem?_getD, h2]
theorem crow_all (M : Md) (keep : List Int) : crow M keep M.lasts.length = (crash M keep).lasts := by
  unfold crow crash
  exact List.map_congr_left fun j hj => by rw [if_pos (List.mem_range.1 hj)]
theorem crow_step (M : Md) (keep : List Int) {i : Nat} : crow M keep (i + 1) = (crow M keep i).set i (kept M keep i) := by
  apply List.ext_getElem
  · simp [crow]
  · intro j h1 h2
    rw [List.getElem_set]
    simp only [crow, List.getElem_map, List.getElem_range]
    by_cases e : i = j
    · subst e; simp
    · rw [if_neg e]
      by_cases e2 : j < i
      · rw [if_pos e2, if_pos (by omega)]
      · rw [if_neg e2, if_neg (by omega)]
theorem crow_same (M : Md) (keep : List Int) {i : Nat} (hk : kept M keep i = last M i) : crow M keep (i + 1) = crow M keep i := by
  unfold crow
  refine List.map_congr_left fun j _ => ?_
  by_cases e : j = i
  · subst e; simp [hk]
  · by_cases e2 : j < i
    · rw [if_pos e2, if_pos (by omega)]
    · rw [if_neg e2, if_neg (by omega)]
theorem rank_step (M : Md) (i : Nat) : rank M (i + 1) = if M.W i = [] then rank M i else rank M i + 1 := by
  unfold rank
  rw [List.range_succ, List.filter_append, List.length_append]
  by_cases h : M.W i = []
  · simp [busy, h]
  · have hb : busy M i = true := by simp [busy, h]
    rw [if_neg h]
    simp [hb]
theorem rank_le (M : Md) (i : Nat) : rank M i ≤ i := by
  unfold rank
  have := List.length_filter_le (busy M) (List.range i)
  simpa using this
theorem results_cell1 {fn : Func} {p : Tmp} {ty : TypeId} (h : fn.results = #[.cell p ty]) (tmps : Array Value) (P : Program) (w : World) :
    (results fn tmps).run P w = ((asAddr (tmps.getD p undef)).run P w).andThen fun a w₁ => (loadVar ty a).run P w₁ := by
  simp only [results, h]
  simp [Sem.run_bind, Result.andThen]
end Dk
set_option maxRecDepth 100000 in
set_option maxHeartbeats 2000000 in
theorem r7Crash_any (w : World) (fp : Nat → Prop) (v : Value) (M : Dk.Md) (hM : M.Ok) (h : Dk.RefAt w fp v M) (hfp : ∀ k, fp k → k < w.heap.size) (hq : Dk.waits M ≤ 1099511627775) {kv : Value} {keep : List Int} (hkp : Dk.IntsAt w kv keep) :
    Calls Tryz.prog 31 #[v, kv] w fun e w' => ∃ v', e = .returned v' ∧ Dk.RefAt w' fp v' (Dk.crash M keep) ∧ Below w.heap.size w w' := by
  obtain ⟨A, c, B, d, ws, rfl, hL, hW, hk, hA, hB, hn⟩ := h
  have hcnt := hk.count
  have h4096 := hM.n
  have HF := Lib.hid hfp
  obtain ⟨KA, kc, rfl, hkl, hkb, hkc⟩ := hkp
  obtain ⟨kn, hkn⟩ : ∃ x, x = keep.length := ⟨_, rfl⟩
  rw [← hkn] at hkl ⊢
  have HKN := Lib.hid hkn
  have HKB := Lib.hid hkb
  have HKC := Lib.hid hkc
  obtain ⟨N, hN⟩ : ∃ N, N = w.heap.size := ⟨_, rfl⟩
  obtain ⟨f, hf⟩ : ∃ f, f = max M.fuse (-1) := ⟨_, rfl⟩
  obtain ⟨o, ho⟩ : ∃ o, o = M.off := ⟨_, rfl⟩
  obtain ⟨n, hnl⟩ : ∃ n, n = M.lasts.length := ⟨_, rfl⟩
  obtain ⟨m, hml⟩ : ∃ m, m = ws.length := ⟨_, rfl⟩
  rw [← hf, ← hnl, ← hml, ← ho]
  obtain ⟨w1, hw1⟩ : ∃ x, x = (w.alloc (.cells #[.slice A n c, .slice B m d, .int .i64 f, .bool o] 33)).alloc (.cells #[.slice none 0 0, .slice none 0 0, .int .i64 0, .bool false] 33) := ⟨_, rfl⟩
  have b1 : Below w.heap.size w w1 := by rw [hw1]; exact ((Below.refl _ w).alloc (Nat.le_refl _) _).alloc (by simp) _
  have g1 : w1.heap[N]? = some (.cells #[.slice A n c, .slice B m d, .int .i64 f, .bool o] 33 (0, 0)) := by rw [hw1, hN, Below.heap_alloc _ _ _ (by simp)]; exact heap_alloc_new w _
  have r1 : w1.heap[N + 1]? = some (.cells #[.slice none 0 0, .slice none 0 0, .int .i64 0, .bool false] 33 (0, 0)) := by
    have := heap_alloc_new (w.alloc (.cells #[.slice A n c, .slice B m d, .int .i64 f, .bool o] 33)) (.cells #[.slice none 0 0, .slice none 0 0, .int .i64 0, .bool false] 33)
    rw [World.size_alloc] at this
    rw [hw1, hN]; exact this
  have T1 : Hid (Dk.TextsAt w1 0 (.slice A M.lasts.length c) M.lasts) := hL.below b1
  have HW1 := Lib.hid hw1
  have HN := Lib.hid hN
  have G1 := Lib.hid g1
  have R1 := Lib.hid r1
  have B1 := Lib.hid b1
  have HNL := Lib.hid hnl
  have HML := Lib.hid hml
  have HK := Lib.hid hk
  have H40 := Lib.hid h4096
  have HLE : Hid (m ≤ 1099511627775) := by show _ ≤ _; rw [hml, ← hcnt]; exact hq
  have OF : Hid (∀ wx, Below w.heap.size w wx → ∀ i : Nat, Calls Tryz.prog 67 #[.agg #[.slice A n c, .slice B m d, .int .i64 f, .bool o], .int .i64 (i : Int)] wx fun e w' => ∃ v, e = .returned v ∧ w'.ownsRow wx.heap.size 9 1 v (Dk.ofL ws i).length ((Dk.ofL ws i).map Dk.txt) ∧ Below wx.heap.size wx w') := fun wx k i => by
    have := r7Of_any wx 0 A n c d B ws f o (hW.below k) (by rw [← hml]; have := HLE.out; omega) i
    rw [← hml] at this
    exact this
  have x0 := Sm.cells_of g1 0 _ rfl
  have x1 := Sm.cells_of g1 1 _ rfl
  have x2 := Sm.cells_of g1 2 _ rfl
  have x3 := Sm.cells_of g1 3 _ rfl
  have hg1s := Sm.lt_of g1
  clear hL hW hk hA hB hn hcnt hf hnl hml h4096 hN hw1 ho b1 g1 r1 hq hkn hkb hkc hfp
  go_enter Tryz.func31, Tryz.ntmps31
  go_upto_region 1 with (fail)
  rw [← HW1.out, ← HN.out]
  go_upto_region 4 with (
    at_builtin
    refine Dk.wpList_copyT rfl _ _ rfl T1.out (by intro e; have := H40.out.1; rw [e] at this; simp at this) H40.out.2 rfl (by rw [← HNL.out]; rfl) ?_
    intro g c4 w4 ho4 k4)
  rw [← HNL.out] at ho4 ⊢
  have g4 := (k4.block N (Sm.lt_of G1.out)).trans G1.out
  have r4 := (k4.block (N + 1) (Sm.lt_of R1.out)).trans R1.out
  have b4 := B1.out.trans (k4.mono B1.out.size)
  obtain ⟨N3, hN3⟩ : ∃ x, x = w1.heap.size := ⟨_, rfl⟩
  have hNN : N + 1 < N3 := by rw [hN3]; exact Sm.lt_of R1.out
  have HNN := Lib.hid hNN
  rw [← hN3] at ho4
  have ho4' : w4.ownsRow N3 9 1 (.slice (some ⟨g, 0, none⟩) n c4) n ((Dk.crow M keep 0).map Dk.txt) := by rw [Dk.crow_zero]; exact ho4
  clear x0 x1 x2 x3 hN3 k4 hg1s hNN ho4
  go_loopw [6, 7] (fun s6 s7 wr => ∃ i : Nat, s6 = .int .i64 (Dk.rank M i : Nat) ∧ s7 = .int .i64 i ∧ i ≤ n ∧ wr.ownsRow N3 9 1 (.slice (some ⟨g, 0, none⟩) n c4) n ((Dk.crow M keep i).map Dk.txt) ∧ Below w.heap.size w wr ∧ wr.heap[N]? = some (.cells #[.slice A n c, .slice B m d, .int .i64 f, .bool o] 33 (0, 0)) ∧ wr.heap[N + 1]? = some (.cells #[.slice none 0 0, .slice none 0 0, .int .i64 0, .bool false] 33 (0, 0))) (fun _ s7 _ => n - (intOf s7).toNat)
  case atStart => exact ⟨0, rfl, rfl, Nat.zero_le _, ho4', b4, g4, r4⟩
  case round =>
    clear ho4' b4 g4 r4
    obtain ⟨i, rfl, rfl, him, hown, hb, hg, hr⟩ := hrel
    have hn96 : n ≤ 4096 := by rw [HNL.out]; exact H40.out.2
    by_cases hil : i < n
    · have hii : (i : Int) < (n : Int) := by omega
      have hsuc : IntKind.i64.wrap ((i : Int) + 1) = ((i + 1 : Nat) : Int) := by simp [IntKind.wrap, IntKind.bits, IntKind.signed]; omega
      have x0 := Sm.cells_of hg 0 _ rfl
      have x1 := Sm.cells_of hg 1 _ rfl
      have x2 := Sm.cells_of hg 2 _ rfl
      have x3 := Sm.cells_of hg 3 _ rfl
      obtain ⟨k, hkr⟩ : ∃ k, k = Dk.rank M i := ⟨_, rfl⟩
      rw [← hkr]
      have hki : k ≤ i := by rw [hkr]; exact Dk.rank_le M i
      have hsk : IntKind.i64.wrap ((k : Int) + 1) = ((k + 1 : Nat) : Int) := by simp [IntKind.wrap, IntKind.bits, IntKind.signed]; omega
      have HKR := Lib.hid hkr
      have HB := Lib.hid hb
      have HG := Lib.hid hg
      have HR := Lib.hid hr
      have HOWN := Lib.hid hown
      clear hkr hb hg hr hown
      go_wp2_with fail
      refine (OF.out wr HB.out i).mono ?_
      rintro e w2 ⟨vo, rfl, ho, k2⟩
      obtain ⟨Av, cv, rfl⟩ := Sm.own_shape ho
      have b2 := HB.out.trans (k2.mono HB.out.size)
      have g2 := (k2.block N (Sm.lt_of HG.out)).trans HG.out
      have r2 := (k2.block (N + 1) (Sm.lt_of HR.out)).trans HR.out
      have own2 : w2.ownsRow N3 9 1 (.slice (some ⟨g, 0, none⟩) n c4) n ((Dk.crow M keep i).map Dk.txt) := Dk.own_block HOWN.out fun q hq => k2.block q (Dk.own_blk HOWN.out hq).2.1
      have B2 := Lib.hid b2
      have G2 := Lib.hid g2
      have R2 := Lib.hid r2
      have HO := Lib.hid ho
      clear x0 x1 x2 x3 b2 g2 r2 ho k2
      have hWi := HK.out.waits i
      have hlm : (Dk.ofL ws i).length ≤ m := by rw [HML.out]; exact Dk.ofL_le ws i
      obtain ⟨mo, hmo⟩ : ∃ mo, mo = (Dk.ofL ws i).length := ⟨_, rfl⟩
      rw [← hmo] at hlm ⊢
      have HMO := Lib.hid hmo
      by_cases hz : M.W i = []
      · have hlen : mo = 0 := by rw [hmo, ← hWi, hz]; rfl
        have own3 : w2.ownsRow N3 9 1 (.slice (some ⟨g, 0, none⟩) n c4) n ((Dk.crow M keep (i + 1)).map Dk.txt) := by rw [Dk.crow_same M keep (Dk.kept_idle hz)]; exact own2
        have OWN3 := Lib.hid own3
        have HRS : Hid (k = Dk.rank M (i + 1)) := by show k = _; rw [Dk.rank_step, if_pos hz]; exact HKR.out
        subst hlen
        clear own2 own3 hmo hWi
        go_wp2
        go_roundw
        case rel => exact ⟨i + 1, by rw [HRS.out], rfl, hil, OWN3.out, B2.out, G2.out, R2.out⟩
        case measure => simp [intOf]; omega
      · have HRS : Hid (k + 1 = Dk.rank M (i + 1)) := by show k + 1 = _; rw [Dk.rank_step, if_neg hz, HKR.out]
        have hmpos : 0 < mo := by rw [hmo, ← hWi]; exact List.length_pos_iff.2 hz
        have hmb : ((mo : Int) == 0) = false := beq_eq_false_iff_ne.2 (by omega)
        have hml2 := HLE.out
        have hkd : Dk.kept M keep i = Dk.choice M i (Dk.chosen keep k mo) := by rw [Dk.kept, ← HKR.out, hWi, ← hmo]
        have hcle := Dk.chosen_le keep k mo
        have hceq := Dk.chosen_eq keep k mo
        have hw0 : IntKind.i64.wrap ((mo : Int) + 1) = (mo : Int) + 1 := by simp [IntKind.wrap, IntKind.bits, IntKind.signed]; omega
        have hne : ¬ ((mo : Int) + 1 = 0) := by omega
        obtain ⟨ch, hch⟩ : ∃ ch, ch = Dk.chosen keep k mo := ⟨_, rfl⟩
        rw [← hch] at hkd hcle hceq
        have same : ch = 0 → w2.ownsRow N3 9 1 (.slice (some ⟨g, 0, none⟩) n c4) n ((Dk.crow M keep (i + 1)).map Dk.txt) := fun h0 => by
          rw [Dk.crow_same M keep (by rw [hkd, h0]; rfl)]; exact own2
        have SAME := Lib.hid same
        clear same
        by_cases hkl : k < kn
        · have hkl2 : (k : Int) < (kn : Int) := by omega
          obtain ⟨kb, ko, rfl, hkbl, hkcell⟩ : ∃ b o, KA = some ⟨b, o, none⟩ ∧ b < w.heap.size ∧ ∀ i, i < keep.length → w.cell? ⟨b, o + i, none⟩ = some (.int .i64 (keep.getD i 0)) := by
            rcases HKC.out with h | ⟨b, o, h1, h2, h3⟩
            · have := HKN.out; rw [h] at this; simp at this; omega
            · exact ⟨b, o, h1, h2, h3⟩
          have z0 := (B2.out.cell (p := ⟨kb, ko + k, none⟩) hkbl).trans (hkcell k (by rw [← HKN.out]; exact hkl))
          have hxb := HKB.out k
          clear hkcell hkbl
          rw [← Dk.tmod_emod] at hceq
          generalize keep.getD k 0 = x at *
          have hx1 : -((mo : Int) + 1) < x.tmod ((mo : Int) + 1) ∧ x.tmod ((mo : Int) + 1) < (mo : Int) + 1 := by
            have := Int.tmod_lt_of_pos x (show (0 : Int) < (mo : Int) + 1 by omega)
            have := Int.lt_tmod_of_pos x (show (0 : Int) < (mo : Int) + 1 by omega)
            omega
          have put : 0 < ch → ∃ go, Av = some ⟨go, 0, none⟩ ∧ ∃ t : List UInt8, w2.cell? ⟨go, ch - 1, none⟩ = some (.string ⟨t.toArray⟩) ∧ (w2.setCell ⟨g, i, none⟩ (.string ⟨t.toArray⟩)).ownsRow N3 9 1 (.slice (some ⟨g, 0, none⟩) n c4) n ((Dk.crow M keep (i + 1)).map Dk.txt) := fun hp => by
            obtain ⟨go, e1, _, _, e4⟩ := Dk.own_cells HO.out (by omega)
            have hlt : ch - 1 < (Dk.ofL ws i).length := by rw [← hmo]; omega
            refine ⟨go, e1, (Dk.ofL ws i)[ch - 1], ?_, ?_⟩
            · rw [e4 (ch - 1) (by omega), List.getElem?_map, List.getElem?_eq_getElem hlt]; rfl
            · have := (own2.stored i (.string ⟨((Dk.ofL ws i)[ch - 1]).toArray⟩)).1
              rw [Dk.crow_step M keep, hkd, List.map_set]
              have e5 : Dk.choice M i ch = (Dk.ofL ws i)[ch - 1] := by
                rw [Dk.choice, if_neg (by omega), hWi, List.getD_eq_getElem?_getD, List.getElem?_eq_getElem hlt]; rfl
              rw [e5]
              exact this
          have PUT := Lib.hid put
          have fz := own2.frozenAt i
          obtain ⟨o0, ho0⟩ : ∃ u, w2.cell? ⟨g, i, none⟩ = some u := by
            rw [own2.cellAt i (by omega)]
            exact ⟨_, List.getElem?_eq_getElem (by simp [Dk.crow_length, ← HNL.out]; exact hil)⟩
          have hge : N3 ≤ g := (Dk.own_blk own2 rfl).1
          have AFT : Hid (∀ u : Value, Below w.heap.size w (w2.setCell ⟨g, i, none⟩ u) ∧ (w2.setCell ⟨g, i, none⟩ u).heap[N]? = some (.cells #[.slice A n c, .slice B m d, .int .i64 f, .bool o] 33 (0, 0)) ∧ (w2.setCell ⟨g, i, none⟩ u).heap[N + 1]? = some (.cells #[.slice none 0 0, .slice none 0 0, .int .i64 0, .bool false] 33 (0, 0))) := fun u => by
            have hnn := HNN.out
            have hnw := HN.out
            exact ⟨B2.out.setCell (p := ⟨g, i, none⟩) (by simp only; omega) u, (Below.heap_setCell w2 ⟨g, i, none⟩ u N (by simp only; omega)).trans G2.out, (Below.heap_setCell w2 ⟨g, i, none⟩ u (N + 1) (by simp only; omega)).trans R2.out⟩
          obtain ⟨y, hy⟩ : ∃ y, y = x.tmod ((mo : Int) + 1) := ⟨_, rfl⟩
          rw [← hy] at hceq hx1
          replace hy := hy.symm
          by_cases hneg : y < 0
          · rw [if_pos hneg] at hceq
            have hpos : 0 < ch := by omega
            obtain ⟨go, rfl, t, z1, own3⟩ := PUT.out hpos
            have OWN3 := Lib.hid own3
            obtain ⟨c1, hc1⟩ : ∃ c1, c1 = ch - 1 := ⟨_, rfl⟩
            rw [← hc1] at z1
            have hym : y + (mo : Int) = (c1 : Int) := by omega
            have hil2 : c1 < mo := by omega
            have hm40 : mo ≤ 1099511627775 := by omega
            have hcn1 : (0 : Int) < (c1 : Int) + 1 := by omega
            clear own2 own3 hmo hWi hkd hceq hch hcle hz hge hc1 hpos
            go_wp2
            go_roundw
            case rel => exact ⟨i + 1, by rw [← HRS.out]; rfl, rfl, hil, OWN3.out, (AFT.out _).1, (AFT.out _).2.1, (AFT.out _).2.2⟩
            case measure => simp [intOf]; omega
          · rw [if_neg hneg] at hceq
            by_cases hpos : 0 < ch
            · obtain ⟨go, rfl, t, z1, own3⟩ := PUT.out hpos
              have OWN3 := Lib.hid own3
              obtain ⟨c1, hc1⟩ : ∃ c1, c1 = ch - 1 := ⟨_, rfl⟩
              rw [← hc1] at z1
              have hy2 : x.tmod ((mo : Int) + 1) = (c1 : Int) + 1 := by omega
              have hil2 : c1 < mo := by omega
              have hm40 : mo ≤ 1099511627775 := by omega
              have hcn0 : ¬ (c1 : Int) + 1 < 0 := by omega
              have hcn1 : (0 : Int) < (c1 : Int) + 1 := by omega
              clear own2 own3 hmo hWi hkd hceq hch hx1 hcle hz hge hneg hc1 hpos hy
              go_wp2
              go_roundw
              case rel => exact ⟨i + 1, by rw [← HRS.out]; rfl, rfl, hil, OWN3.out, (AFT.out _).1, (AFT.out _).2.1, (AFT.out _).2.2⟩
              case measure => simp [intOf]; omega
            · have h0 : ch = 0 := by omega
              have hy2 : x.tmod ((mo : Int) + 1) = 0 := by omega
              have OWN3 := Lib.hid (SAME.out h0)
              clear own2 hmo hWi hkd hceq hch hx1 hcle hz hge hneg hy
              go_wp2
              go_roundw
              case rel => exact ⟨i + 1, by rw [← HRS.out]; rfl, rfl, hil, OWN3.out, B2.out, G2.out, R2.out⟩
              case measure => simp [intOf]; omega
        · have hkl2 : ¬ (k : Int) < (kn : Int) := by omega
          have h0 : ch = 0 := by
            have e : keep.getD k 0 = 0 := by rw [List.getD_eq_getElem?_getD, List.getElem?_eq_none (by rw [← HKN.out]; omega)]; rfl
            rw [e] at hceq
            simp at hceq
            exact hceq
          have OWN3 := Lib.hid (SAME.out h0)
          clear own2 hmo hWi hkd hceq hch hcle hz
          go_wp2
          go_roundw
          case rel => exact ⟨i + 1, by rw [← HRS.out]; rfl, rfl, hil, OWN3.out, B2.out, G2.out, R2.out⟩
          case measure => simp [intOf]; omega
    · have hii : ¬ (i : Int) < (n : Int) := by omega
      have hin : i = M.lasts.length := by rw [← HNL.out]; omega
      rw [hin, Dk.crow_all] at hown
      have FIN : Hid (∀ a b c' d : Value, Below w.heap.size w ((((wr.setCell ⟨N + 1, 0, none⟩ a).setCell ⟨N + 1, 1, none⟩ b).setCell ⟨N + 1, 2, none⟩ c').setCell ⟨N + 1, 3, none⟩ d) ∧ Dk.RefAt ((((wr.setCell ⟨N + 1, 0, none⟩ a).setCell ⟨N + 1, 1, none⟩ b).setCell ⟨N + 1, 2, none⟩ c').setCell ⟨N + 1, 3, none⟩ d) fp (.agg #[.slice (some ⟨g, 0, none⟩) n c4, .slice none 0 0, .int .i64 (-1), .bool false]) (Dk.crash M keep)) := fun a b c' d => by
        have b7 : Below w.heap.size w ((((wr.setCell ⟨N + 1, 0, none⟩ a).setCell ⟨N + 1, 1, none⟩ b).setCell ⟨N + 1, 2, none⟩ c').setCell ⟨N + 1, 3, none⟩ d) := Dk.set4_below hb (by have := HN.out; omega) _ _ _ _
        have e2 : (Dk.crash M keep).lasts.length = n := by rw [HNL.out]; simp [Dk.crash]
        have hge : ∀ q, (Value.slice (some ⟨g, 0, none⟩) n c4).ownBlock = some q → N3 ≤ q ∧ q < wr.heap.size := fun q hq => ⟨(Dk.own_blk hown hq).1, (Dk.own_blk hown hq).2.1⟩
        have hn3 := HNN.out
        have ht : Dk.TextsAt wr N3 (.slice (some ⟨g, 0, none⟩) (Dk.crash M keep).lasts.length c4) (Dk.crash M keep).lasts := Dk.TextsAt.of_own (e := 9) (by rw [e2]; exact hown)
        refine ⟨b7, some ⟨g, 0, none⟩, c4, none, 0, [], by rw [e2]; rfl, ?_, Dk.WritesAt.nil _ _, ?_, ?_, ?_, ?_⟩
        · refine ht.more.keep (by simp) fun q _ hq => ?_
          rw [e2] at hq
          have := hge q hq
          rw [Dk.set4_other _ _ _ _ _ _ _ (by omega)]
        · exact Dk.Like.none fun _ => rfl
        · rw [e2]
          intro q hq
          have := hge q hq
          refine ⟨by simp; exact this.2, fun hf => ?_⟩
          have := HF.out q hf
          have := HN.out
          omega
        · intro q hq; cases hq
        · exact fun _ => ⟨rfl, rfl⟩
      have y0 := Sm.cells_of hr 0 _ rfl
      have y1 := Sm.cells_of hr 1 _ rfl
      have y2 := Sm.cells_of hr 2 _ rfl
      have y3 := Sm.cells_of hr 3 _ rfl
      have q0 := Sm.free_of hr 0
      have q1 := Sm.free_of hr 1
      have q2 := Sm.free_of hr 2
      have q3 := Sm.free_of hr 3
      have x0 := Sm.cells_of hg 0 _ rfl
      clear hown hb hg hr
      go_wp2
      refine bodyPost_ret (v := .agg #[.slice (some ⟨g, 0, none⟩) n c4, .slice none 0 0, .int .i64 (-1), .bool false]) ((Dk.results_cell1 rfl _ _ _).trans (by go_simp)) rfl ⟨_, rfl, (FIN.out _ _ _ _).2, (FIN.out _ _ _ _).1⟩
end Go.Proofs.YtnmagfodjcookaaGreat
