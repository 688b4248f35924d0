/-
  BatchShips.
-/
import Derived.Test.YtlndggbidmmodaaBaFilter
import Derived.Test.YtlndggbidmmodaaBaAwake
import Derived.Test.YtlndggbidmmodaaBaGreat
import Derived.Test.YtlndggbidmmodaaBaBackLaw
namespace Go.Proofs.Ytlndggbidmmodaa
open Go.RowKit Pk
namespace Ba
theorem filt_split {m : List Pa.Mo} {l : List Op} {i : Nat} (hi : i < l.length) (hs : Pa.ships m l[i].p.data.toList = true) : filt m l = filt m (l.take i) ++ l[i] :: filt m (l.drop (i + 1)) := by
  have e : l = l.take i ++ l[i] :: l.drop (i + 1) := by rw [← List.drop_eq_getElem_cons hi, List.take_append_drop]
  have e2 : filt m l = filt m (l.take i ++ l[i] :: l.drop (i + 1)) := by rw [← e]
  rw [e2]
  unfold filt
  rw [List.filter_append, List.filter_cons, if_pos hs]
theorem filt_get {m : List Pa.Mo} {l : List Op} {i : Nat} (hi : i < l.length) (hs : Pa.ships m l[i].p.data.toList = true) : ∃ h : (filt m (l.take i)).length < (filt m l).length, (filt m l)[(filt m (l.take i)).length] = l[i] := by
  have e := filt_split hi hs
  have h : (filt m (l.take i)).length < (filt m l).length := by rw [e, List.length_append, List.length_cons]; omega
  refine ⟨h, ?_⟩
  have h2 : (filt m l)[(filt m (l.take i)).length]? = some l[i] := by rw [e]; simp
  rw [List.getElem?_eq_getElem h] at h2
  exact Option.some.inj h2
theorem filt_filt (m : List Pa.Mo) (l : List Op) : filt m (filt m l) = filt m l := by unfold filt; rw [List.filter_filter]; congr 1; funext o; simp
theorem filt_mem {m : List Pa.Mo} {l : List Op} {o : Op} (h : o ∈ filt m l) : o ∈ l := (List.mem_filter.1 h).1
theorem right_filt {m : List Pa.Mo} {ix ep : Int} {l : List Op} (h : right ⟨ix, ep, l⟩ = 0) : right ⟨ix, ep, filt m l⟩ = 0 := by
  obtain ⟨h1, h2, h3, h4⟩ := right_ok h
  exact right_of h1 h2 (Nat.le_trans (filt_le m l) h3) fun o ho => h4 o (filt_mem ho)
/-- A batch in block N, what is shipped of it in block P. -/
structure Two (w W : World) (N P : Nat) (ix ep : Int) (C : Option Addr) (d : Nat) (l : List Op) (A : Option Addr) (c : Nat) (F : List Op) : Prop where
  bx : W.heap[N]? = some (.cells #[.int .i64 ix, .int .i64 ep, .slice C l.length d] 31 (0, 0))
  fx : W.heap[P]? = some (.cells #[.int .i64 ix, .int .i64 ep, .slice A F.length c] 31 (0, 0))
  lb : listAt W C l
  lf : listAt W A F
  bel : Below N w W
  low : N ≤ W.heap.size
theorem Two.step {w W W' : World} {N P : Nat} {ix ep : Int} {C : Option Addr} {d : Nat} {l : List Op} {A : Option Addr} {c : Nat} {F : List Op} (h : Two w W N P ix ep C d l A c F) (k : Below W.heap.size W W') : Two w W' N P ix ep C d l A c F :=
  ⟨(k.block N (Sm.lt_of h.bx)).trans h.bx, (k.block P (Sm.lt_of h.fx)).trans h.fx, h.lb.below k, h.lf.below k, h.bel.trans (k.mono h.low), Nat.le_trans h.low k.size⟩
end Ba
set_option maxRecDepth 100000 in
set_option maxHeartbeats 16000000 in
theorem batchships_any (w : World) {A0 : Option Addr} (c0 : Nat) {m : List Pa.Mo} (hml : m.length ≤ 9223372036854775807) (hm : Pa.listAt w A0 m) (b : Ba.Bt) {C : Option Addr} (d : Nat) (hit : Ba.listAt w C b.ops) (hok : b.Ok) :
    Calls Try.prog 7 #[.slice A0 m.length c0, .agg #[.int .i64 b.ix, .int .i64 b.ep, .slice C b.ops.length d]] w fun e w' => e = .returned (.bool true) ∧ Below w.heap.size w w' := by
  have AW := Lib.hid (fun wx => awake12_any wx)
  obtain ⟨ix, ep, l⟩ := b
  simp only at hit ⊢
  have hll := hok.len
  have hix := hok.ix
  have hep := hok.ep
  have hoo := hok.ops
  simp only at hll hix hep hoo
  have gn := heap_alloc_new w (.cells #[.int .i64 ix, .int .i64 ep, .slice C l.length d] 31)
  have b0 : Below w.heap.size w (w.alloc (.cells #[.int .i64 ix, .int .i64 ep, .slice C l.length d] 31)) := (Below.refl _ w).alloc (Nat.le_refl _) _
  have hit1 := hit.below b0
  have hm1 := hm.below b0
  obtain ⟨gm, hgm⟩ := Pa.fair_or m
  have GM := Lib.hid (great11_any (c := c0) hm1 gm hgm)
  obtain ⟨gr, hgr⟩ := Ba.fair_or l
  have GO := Lib.hid (greatOps_any (c := d) hit1 gr hgr)
  obtain ⟨N, hN⟩ : ∃ N, N = w.heap.size := ⟨_, rfl⟩
  have HM : Hid (∀ wx : World, Below N w wx → Pa.listAt wx A0 m) := fun wx k => by rw [hN] at k; exact hm.below k
  rw [← hN] at gn b0 ⊢
  have HN := Lib.hid hN
  have x0 := Sm.cells_of gn 0 _ rfl
  have x1 := Sm.cells_of gn 1 _ rfl
  have x2 := Sm.cells_of gn 2 _ rfl
  have G1 := Lib.hid gn
  have B1 := Lib.hid b0
  have HIT1 := Lib.hid hit1
  have HM1 := Lib.hid hm1
  have hlt1 : N < (w.alloc (.cells #[.int .i64 ix, .int .i64 ep, .slice C l.length d] 31)).heap.size := Sm.lt_of gn
  clear hit hok hN gn b0 hit1 hm hm1
  cases gm
  · cases gr
    · have hfair : Ba.Fair l := by
        by_cases h : Ba.Fair l
        · exact h
        · exact absurd (hgr.2 h) (by decide)
      have hmem := hfair.mem
      have hl100 := hfair.1
      obtain ⟨F, hF⟩ : ∃ F, F = Ba.filt m l := ⟨_, rfl⟩
      have hFl : F.length ≤ l.length := by rw [hF]; exact Ba.filt_le m l
      have hFm : ∀ o ∈ F, o ∈ l := by intro o ho; rw [hF] at ho; exact Ba.filt_mem ho
      have FI : Hid (∀ wx, Pa.listAt wx A0 m → Ba.listAt wx C l → Calls Try.prog 18 #[.slice A0 m.length c0, .agg #[.int .i64 ix, .int .i64 ep, .slice C l.length d]] wx fun e w' => ∃ A c, e = .returned (.agg #[.int .i64 ix, .int .i64 ep, .slice A F.length c]) ∧ Ba.listAt w' A F ∧ Below wx.heap.size wx w') := fun wx h1 h2 => by
        have := baFilter_any c0 h1 hml ⟨ix, ep, l⟩ d h2 (by show l.length ≤ 1000; omega) (fun o ho => by have := hmem o ho; omega)
        simp only at this
        rw [← hF] at this
        exact this.mono fun _ _ ⟨A, c, h1, h2, h3⟩ => ⟨A, c, h1, h2.listAt, h3⟩
      have FF : Hid (∀ wx A c, Pa.listAt wx A0 m → Ba.listAt wx A F → Calls Try.prog 18 #[.slice A0 m.length c0, .agg #[.int .i64 ix, .int .i64 ep, .slice A F.length c]] wx fun e w' => ∃ A c, e = .returned (.agg #[.int .i64 ix, .int .i64 ep, .slice A F.length c]) ∧ Ba.listAt w' A F ∧ Below wx.heap.size wx w') := fun wx A c h1 h2 => by
        have := baFilter_any c0 h1 hml ⟨ix, ep, F⟩ c h2 (by show F.length ≤ 1000; omega) (fun o ho => by have := hmem o (hFm o ho); omega)
        have e : Ba.filt m F = F := by rw [hF]; exact Ba.filt_filt m l
        simp only [e] at this
        exact this.mono fun _ _ ⟨A, c, h1, h2, h3⟩ => ⟨A, c, h1, h2.listAt, h3⟩
      have SA : Hid (∀ (wx : World) (A A' : Option Addr) (c c' : Nat), Ba.listAt wx A' F → Ba.listAt wx A F → Calls Try.prog 21 #[.agg #[.int .i64 ix, .int .i64 ep, .slice A' F.length c'], .agg #[.int .i64 ix, .int .i64 ep, .slice A F.length c]] wx fun e w' => e = .returned (.bool true) ∧ Below wx.heap.size wx w') := fun wx A A' c c' h1 h2 => baSame_any ⟨ix, ep, F⟩ ⟨ix, ep, F⟩ c' c h1 h2 (by show F.length ≤ _; omega) true (by simp)
      have RB : Hid (∀ wx, Ba.listAt wx C l → Calls Try.prog 22 #[.agg #[.int .i64 ix, .int .i64 ep, .slice C l.length d]] wx fun e w' => e = .returned (.int .i64 (Ba.right ⟨ix, ep, l⟩ : Nat)) ∧ Below wx.heap.size wx w') := fun wx h => baRight_any ⟨ix, ep, l⟩ d h ⟨hix, hep, hoo, hll⟩ (fun o ho => by have := (hmem o ho).1; omega)
      have RF : Hid (∀ wx A c, Ba.listAt wx A F → Ba.right ⟨ix, ep, l⟩ = 0 → Calls Try.prog 22 #[.agg #[.int .i64 ix, .int .i64 ep, .slice A F.length c]] wx fun e w' => e = .returned (.int .i64 0) ∧ Below wx.heap.size wx w') := fun wx A c h h0 => by
        have := baRight_any ⟨ix, ep, F⟩ c h ⟨hix, hep, fun o ho => hoo o (hFm o ho), by show F.length ≤ _; omega⟩ (fun o ho => by have := (hmem o (hFm o ho)).1; omega)
        rw [hF, Ba.right_filt h0, ← hF] at this
        exact this
      have SH : Hid (∀ wx, Pa.listAt wx A0 m → ∀ i (hi : i < l.length), Calls Try.prog 25 #[.slice A0 m.length c0, .string l[i].p] wx fun e w' => e = .returned (.bool (Pa.ships m l[i].p.data.toList)) ∧ Below wx.heap.size wx w') := fun wx h i hi => paShips_any c0 h hml _ (by have := (hmem _ (List.getElem_mem hi)).1; omega)
      have GET : Hid (∀ i (hi : i < l.length), Pa.ships m l[i].p.data.toList = true → ∃ h : (Ba.filt m (l.take i)).length < F.length, F[(Ba.filt m (l.take i)).length] = l[i]) := fun i hi hs => by subst hF; exact Ba.filt_get hi hs
      have HF := Lib.hid hF
      clear hgm hgr hfair hmem hFm hF hoo
      go_enter Try.func7, Try.ntmps7
      go_upto_region 1 with (fail)
      rw [← HN.out]
      generalize w.alloc (.cells #[.int .i64 ix, .int .i64 ep, .slice C l.length d] 31) = W1 at *
      go_wp2_with fail
      refine GM.out.mono ?_
      rintro e w1 ⟨rfl, rfl⟩
      go_wp2_with fail
      refine GO.out.mono ?_
      rintro e w1 ⟨rfl, rfl⟩
      go_wp2_with fail
      refine (FI.out _ HM1.out HIT1.out).mono ?_
      rintro e w2 ⟨A, c, rfl, hf2, k2⟩
      have g2 := (k2.block N hlt1).trans G1.out
      have B2 := B1.out.trans (k2.mono (Nat.le_of_lt hlt1))
      have L2 := HIT1.out.below k2
      have z0 : (w2.alloc (.cells #[.int .i64 0, .int .i64 0, .slice none 0 0] 31)).frozen? ⟨w2.heap.size, 0, none⟩ = false := Sm.free_of (heap_alloc_new w2 _) 0
      have k3 : Below w2.heap.size w2 (w2.alloc (.cells #[.int .i64 ix, .int .i64 ep, .slice A F.length c] 31)) := (Below.refl _ w2).alloc (Nat.le_refl _) _
      have hsz := k2.size
      have T3 : Hid (Ba.Two w (w2.alloc (.cells #[.int .i64 ix, .int .i64 ep, .slice A F.length c] 31)) N w2.heap.size ix ep C d l A c F) := ⟨(k3.block N (Sm.lt_of g2)).trans g2, heap_alloc_new w2 _, L2.below k3, hf2.below k3, B2.trans (k3.mono (by omega)), by simp; omega⟩
      clear g2 B2 L2 k3 hf2 k2 GM GO FI HIT1 HM1 G1 B1 x0 x1 x2
      go_upto_region 5 with (fail)
      obtain ⟨P, hP⟩ : ∃ P, P = w2.heap.size := ⟨_, rfl⟩
      rw [← hP] at T3 ⊢
      clear hP hsz z0 hlt1
      generalize w2.alloc (.cells #[.int .i64 ix, .int .i64 ep, .slice A F.length c] 31) = w3 at *
      go_upto_region 6 with (fail)
      go_loopw [6, 7] (fun kv iv wr => ∃ (i K : Nat), iv = .int .i64 i ∧ i ≤ l.length ∧ kv = .int .i64 K ∧ K ≤ i ∧ Hid (K = (Ba.filt m (l.take i)).length) ∧ Ba.Two w wr N P ix ep C d l A c F) (fun _ iv _ => l.length - (intOf iv).toNat)
      case atStart => exact ⟨0, 0, rfl, Nat.zero_le _, rfl, Nat.le_refl _, rfl, T3.out⟩
      case round =>
        clear T3
        obtain ⟨i, K, rfl, hi, rfl, hKi, hK, tw⟩ := hrel
        have TW := Lib.hid tw
        have n2 := Sm.cells_of tw.bx 2 _ rfl
        clear tw
        by_cases hlt : i < l.length
        · have hii : (i : Int) < (l.length : Int) := by omega
          have hsuc : IntKind.i64.wrap ((i : Int) + 1) = ((i + 1 : Nat) : Int) := by simp [IntKind.wrap, IntKind.bits, IntKind.signed]; omega
          obtain ⟨b1, f1, rfl, -, a0, a1, a2⟩ := TW.out.lb.get (Below.refl _ _) i hlt
          have SI := SH.out _ (HM.out _ TW.out.bel) i hlt
          have hft := Ba.filt_take (m := m) hlt
          have GI := GET.out i hlt
          obtain ⟨x, hx⟩ : ∃ x, x = l[i] := ⟨_, rfl⟩
          rw [← hx] at a0 a1 a2 SI hft GI
          obtain ⟨sh, hsh⟩ : ∃ b, b = Pa.ships m x.p.data.toList := ⟨_, rfl⟩
          rw [← hsh] at SI hft GI
          have HX := Lib.hid hx
          have HSI := Lib.hid SI
          clear SI hsh hx
          cases sh
          · rw [if_neg (by decide), List.append_nil] at hft
            have HK : Hid (K = (Ba.filt m (l.take (i + 1))).length) := by show _ = _; rw [hft]; exact hK.out
            clear hft hK GI
            go_wp2_with fail
            refine HSI.out.mono ?_
            rintro e w5 ⟨rfl, b5⟩
            have T5 := Lib.hid (TW.out.step b5)
            clear b5 TW HSI a0 a1 a2 n2
            go_wp2_with fail
            go_roundw
            case rel => exact ⟨i + 1, K, rfl, hlt, rfl, by omega, HK.out, T5.out⟩
            case measure => simp [intOf]; omega
          · rw [if_pos rfl] at hft
            have HK : Hid (K + 1 = (Ba.filt m (l.take (i + 1))).length) := by show _ = _; rw [hft, List.length_append]; show K + 1 = _ + 1; rw [hK.out]
            obtain ⟨h1, h2⟩ := GI rfl
            have hKF : K < F.length := by rw [hK.out]; exact h1
            have hFK : F[K] = x := by
              have : F[K] = F[(Ba.filt m (l.take i)).length] := by congr 1
              rw [this]; exact h2
            have hKFi : ¬ (F.length : Int) ≤ (K : Int) := by omega
            have hKFj : (K : Int) < (F.length : Int) := by omega
            have hsuk : IntKind.i64.wrap ((K : Int) + 1) = ((K + 1 : Nat) : Int) := by simp [IntKind.wrap, IntKind.bits, IntKind.signed]; omega
            have HFK := Lib.hid hFK
            clear hft hK GI h1 h2 hFK
            go_wp2_with fail
            refine HSI.out.mono ?_
            rintro e w5 ⟨rfl, b5⟩
            have T5 := Lib.hid (TW.out.step b5)
            clear b5 TW HSI a0 a1 a2 n2
            have n2 := Sm.cells_of T5.out.bx 2 _ rfl
            have p2 := Sm.cells_of T5.out.fx 2 _ rfl
            obtain ⟨b1', f1', hbb, -, a0, a1, a2⟩ := T5.out.lb.get (Below.refl _ _) i hlt
            injection hbb with hbb
            injection hbb with hb1 hb2 _
            subst hb1 hb2
            obtain ⟨b2, f2, rfl, -, e0, e1, e2⟩ := T5.out.lf.get (Below.refl _ _) K hKF
            rw [← HX.out] at a0 a1 a2
            rw [HFK.out] at e0 e1 e2
            have hxx : (!Ba.eqb x x) = false := by rw [Ba.eqb_iff.2 rfl]; rfl
            clear HX HFK
            go_upto_region 9 with (fail)
            refine wp_region_held_drew (S := (fun w' => (w'.cell? ⟨N, 2, none⟩ = some (.slice (some ⟨b1, f1, none⟩) l.length d) ∧ w'.cell? ⟨P, 2, none⟩ = some (.slice (some ⟨b2, f2, none⟩) F.length c)) ∧ (w'.cell? ⟨b1, f1 + i * 3, none⟩ = some (.int .u8 (x.k : Int)) ∧ w'.cell? ⟨b1, f1 + i * 3 + 1, none⟩ = some (.string x.p) ∧ w'.cell? ⟨b1, f1 + i * 3 + 2, none⟩ = some (.string x.v)) ∧ (w'.cell? ⟨b2, f2 + K * 3, none⟩ = some (.int .u8 (x.k : Int)) ∧ w'.cell? ⟨b2, f2 + K * 3 + 1, none⟩ = some (.string x.p) ∧ w'.cell? ⟨b2, f2 + K * 3 + 2, none⟩ = some (.string x.v)))) (by kernel_rfl) ⟨⟨n2, p2⟩, ⟨a0, a1, a2⟩, e0, e1, e2⟩ (fun hHeld => ?_)
            refine wpAnyH_take (i := 0) (oi := ⟨some 36, _, _, _, _, _⟩) (v := .int .i64 (K : Int)) rfl (by kernel_rfl) (by kernel_rfl) (by kernel_rfl) (fun _ _ _ h => h) (Or.inl ⟨by rfl, ?_⟩) (by assumption) ?_
            · intro w hSw; (try dsimp only at hSw); go_simp
            simp only [Act.put, List.setIfInBounds_toArray, List.set_cons_zero, List.set_cons_succ]
            refine wpAnyH_take (i := 1) (oi := ⟨some 37, _, _, _, _, _⟩) (v := .pointer (some ⟨P, 2, none⟩)) rfl (by kernel_rfl) (by kernel_rfl) (by kernel_rfl) (fun _ _ _ h => h) (Or.inl ⟨by rfl, ?_⟩) (by assumption) ?_
            · intro w hSw; (try dsimp only at hSw); go_simp
            simp only [Act.put, List.setIfInBounds_toArray, List.set_cons_zero, List.set_cons_succ]
            refine wpAnyH_take (i := 2) (oi := ⟨some 38, _, _, _, _, _⟩) (v := .slice (some ⟨b2, f2, none⟩) F.length c) rfl (by kernel_rfl) (by kernel_rfl) (by kernel_rfl) (fun _ _ _ h => h) (Or.inl ⟨by rfl, ?_⟩) (by assumption) ?_
            · intro w hSw; (try dsimp only at hSw); obtain ⟨⟨s0, s1⟩, ⟨q0, q1, q2⟩, q3, q4, q5⟩ := hSw; go_simp
            simp only [Act.put, List.setIfInBounds_toArray, List.set_cons_zero, List.set_cons_succ]
            refine wpAnyH_take (i := 3) (oi := ⟨some 39, _, _, _, _, _⟩) (v := .int .i64 (F.length : Int)) rfl (by kernel_rfl) (by kernel_rfl) (by kernel_rfl) (fun _ _ _ h => h) (Or.inl ⟨by rfl, ?_⟩) (by assumption) ?_
            · intro w hSw; (try dsimp only at hSw); go_simp
            simp only [Act.put, List.setIfInBounds_toArray, List.set_cons_zero, List.set_cons_succ]
            refine wpAnyH_take (i := 4) (oi := ⟨some 40, _, _, _, _, _⟩) (v := .bool false) rfl (by kernel_rfl) (by kernel_rfl) (by kernel_rfl) (fun _ _ _ h => h) (Or.inl ⟨by rfl, ?_⟩) (by assumption) ?_
            · intro w hSw; (try dsimp only at hSw); go_simp
            simp only [Act.put, List.setIfInBounds_toArray, List.set_cons_zero, List.set_cons_succ]
            refine wpAnyH_take (i := 5) (oi := ⟨some 41, _, _, _, _, _⟩) (v := .bool false) rfl (by kernel_rfl) (by kernel_rfl) (by kernel_rfl) (fun _ _ _ h => h) (Or.inl ⟨by rfl, ?_⟩) (by assumption) ?_
            · intro w hSw; (try dsimp only at hSw); go_simp
            simp only [Act.put, List.setIfInBounds_toArray, List.set_cons_zero, List.set_cons_succ]
            refine wpAnyH_take (i := 6) (oi := ⟨some 42, _, _, _, _, _⟩) (v := .pointer (some ⟨P, 2, none⟩)) rfl (by kernel_rfl) (by kernel_rfl) (by kernel_rfl) (fun _ _ _ h => h) (Or.inl ⟨by rfl, ?_⟩) (by assumption) ?_
            · intro w hSw; (try dsimp only at hSw); go_simp
            simp only [Act.put, List.setIfInBounds_toArray, List.set_cons_zero, List.set_cons_succ]
            refine wpAnyH_take (i := 7) (oi := ⟨some 43, _, _, _, _, _⟩) (v := .slice (some ⟨b2, f2, none⟩) F.length c) rfl (by kernel_rfl) (by kernel_rfl) (by kernel_rfl) (fun _ _ _ h => h) (Or.inl ⟨by rfl, ?_⟩) (by assumption) ?_
            · intro w hSw; (try dsimp only at hSw); obtain ⟨⟨s0, s1⟩, ⟨q0, q1, q2⟩, q3, q4, q5⟩ := hSw; go_simp
            simp only [Act.put, List.setIfInBounds_toArray, List.set_cons_zero, List.set_cons_succ]
            refine wpAnyH_take (i := 8) (oi := ⟨some 44, _, _, _, _, _⟩) (v := .int .i64 (K : Int)) rfl (by kernel_rfl) (by kernel_rfl) (by kernel_rfl) (fun _ _ _ h => h) (Or.inl ⟨by rfl, ?_⟩) (by assumption) ?_
            · intro w hSw; (try dsimp only at hSw); go_simp
            simp only [Act.put, List.setIfInBounds_toArray, List.set_cons_zero, List.set_cons_succ]
            refine wpAnyH_take (i := 9) (oi := ⟨some 45, _, _, _, _, _⟩) (v := .pointer (some ⟨b2, f2 + K * 3, none⟩)) rfl (by kernel_rfl) (by kernel_rfl) (by kernel_rfl) (fun _ _ _ h => h) (Or.inl ⟨by rfl, ?_⟩) (by assumption) ?_
            · intro w hSw; (try dsimp only at hSw); go_simp
            simp only [Act.put, List.setIfInBounds_toArray, List.set_cons_zero, List.set_cons_succ]
            refine wpAnyH_take (i := 10) (oi := ⟨some 46, _, _, _, _, _⟩) (v := .agg #[.int .u8 (x.k : Int), .string x.p, .string x.v]) rfl (by kernel_rfl) (by kernel_rfl) (by kernel_rfl) (fun _ _ _ h => h) (Or.inl ⟨by rfl, ?_⟩) (by assumption) ?_
            · intro w hSw; (try dsimp only at hSw); obtain ⟨⟨s0, s1⟩, ⟨q0, q1, q2⟩, q3, q4, q5⟩ := hSw; go_simp
            simp only [Act.put, List.setIfInBounds_toArray, List.set_cons_zero, List.set_cons_succ]
            refine wpAnyH_take (i := 11) (oi := ⟨some 47, _, _, _, _, _⟩) (v := .pointer (some ⟨N, 2, none⟩)) rfl (by kernel_rfl) (by kernel_rfl) (by kernel_rfl) (fun _ _ _ h => h) (Or.inl ⟨by rfl, ?_⟩) (by assumption) ?_
            · intro w hSw; (try dsimp only at hSw); go_simp
            simp only [Act.put, List.setIfInBounds_toArray, List.set_cons_zero, List.set_cons_succ]
            refine wpAnyH_take (i := 12) (oi := ⟨some 48, _, _, _, _, _⟩) (v := .slice (some ⟨b1, f1, none⟩) l.length d) rfl (by kernel_rfl) (by kernel_rfl) (by kernel_rfl) (fun _ _ _ h => h) (Or.inl ⟨by rfl, ?_⟩) (by assumption) ?_
            · intro w hSw; (try dsimp only at hSw); obtain ⟨⟨s0, s1⟩, ⟨q0, q1, q2⟩, q3, q4, q5⟩ := hSw; go_simp
            simp only [Act.put, List.setIfInBounds_toArray, List.set_cons_zero, List.set_cons_succ]
            refine wpAnyH_take (i := 13) (oi := ⟨some 49, _, _, _, _, _⟩) (v := .int .i64 (i : Int)) rfl (by kernel_rfl) (by kernel_rfl) (by kernel_rfl) (fun _ _ _ h => h) (Or.inl ⟨by rfl, ?_⟩) (by assumption) ?_
            · intro w hSw; (try dsimp only at hSw); go_simp
            simp only [Act.put, List.setIfInBounds_toArray, List.set_cons_zero, List.set_cons_succ]
            refine wpAnyH_take (i := 14) (oi := ⟨some 50, _, _, _, _, _⟩) (v := .pointer (some ⟨b1, f1 + i * 3, none⟩)) rfl (by kernel_rfl) (by kernel_rfl) (by kernel_rfl) (fun _ _ _ h => h) (Or.inl ⟨by rfl, ?_⟩) (by assumption) ?_
            · intro w hSw; (try dsimp only at hSw); go_simp
            simp only [Act.put, List.setIfInBounds_toArray, List.set_cons_zero, List.set_cons_succ]
            refine wpAnyH_take (i := 15) (oi := ⟨some 51, _, _, _, _, _⟩) (v := .agg #[.int .u8 (x.k : Int), .string x.p, .string x.v]) rfl (by kernel_rfl) (by kernel_rfl) (by kernel_rfl) (fun _ _ _ h => h) (Or.inl ⟨by rfl, ?_⟩) (by assumption) ?_
            · intro w hSw; (try dsimp only at hSw); obtain ⟨⟨s0, s1⟩, ⟨q0, q1, q2⟩, q3, q4, q5⟩ := hSw; go_simp
            simp only [Act.put, List.setIfInBounds_toArray, List.set_cons_zero, List.set_cons_succ]
            refine wpAnyH_take (i := 16) (oi := ⟨some 52, _, _, _, _, _⟩) (v := .bool (!Ba.eqb x x)) rfl (by kernel_rfl) (by kernel_rfl) (by kernel_rfl) (fun _ _ _ h => h) (Ba.yields_neq (by rfl) _ _ _ rfl x x rfl rfl) (by assumption) ?_
            simp only [Act.put, List.setIfInBounds_toArray, List.set_cons_zero, List.set_cons_succ]
            rw [hxx]
            refine wpAnyH_take (i := 17) (oi := ⟨some 53, _, _, _, _, _⟩) (v := .bool false) rfl (by kernel_rfl) (by kernel_rfl) (by kernel_rfl) (fun _ _ _ h => h) (Or.inl ⟨by rfl, ?_⟩) (by assumption) ?_
            · intro w hSw; (try dsimp only at hSw); go_simp
            simp only [Act.put, List.setIfInBounds_toArray, List.set_cons_zero, List.set_cons_succ]
            refine wpAnyH_done (by kernel_rfl) ?_ _
            clear a0 a1 a2 e0 e1 e2 n2 p2
            have T6 := Lib.hid (T5.out.step (Below.refl _ w5).drew)
            generalize w5.drew = w6 at *
            clear T5
            go_wp2_with fail
            go_roundw
            case rel => exact ⟨i + 1, K + 1, rfl, hlt, rfl, by omega, HK.out, T6.out⟩
            case measure => simp [intOf]; omega
        · have hii : ¬ (i : Int) < (l.length : Int) := by omega
          have hil : i = l.length := by omega
          have hKF : K = F.length := by rw [hK.out, hil, List.take_length, HF.out]
          subst hKF
          clear hK hil hKi hi
          have x0 := Sm.cells_of TW.out.bx 0 _ rfl
          have x1 := Sm.cells_of TW.out.bx 1 _ rfl
          have p0 := Sm.cells_of TW.out.fx 0 _ rfl
          have p1 := Sm.cells_of TW.out.fx 1 _ rfl
          have p2 := Sm.cells_of TW.out.fx 2 _ rfl
          have hff : ((F.length : Int) == (F.length : Int)) = true := by simp
          have hxx : (ix == ix) = true := by simp
          have hee : (ep == ep) = true := by simp
          by_cases hR : Ba.right ⟨ix, ep, l⟩ = 0
          · have RBI := RB.out _ TW.out.lb
            rw [hR] at RBI
            have HRB := Lib.hid RBI
            have HR := Lib.hid hR
            clear RBI hR
            go_wp2_with fail
            refine HRB.out.mono ?_
            rintro e w5 ⟨rfl, b5⟩
            have T5 := Lib.hid (TW.out.step b5)
            clear b5 TW HRB x0 x1 p0 p1 p2 n2
            have p0 := Sm.cells_of T5.out.fx 0 _ rfl
            have p1 := Sm.cells_of T5.out.fx 1 _ rfl
            have p2 := Sm.cells_of T5.out.fx 2 _ rfl
            have HRF := Lib.hid (RF.out _ A c T5.out.lf HR.out)
            go_wp2_with fail
            refine HRF.out.mono ?_
            rintro e w6 ⟨rfl, b6⟩
            have T6 := Lib.hid (T5.out.step b6)
            clear b6 T5 HRF p0 p1 p2
            go_upto_region 13 with (fail)
            have T7 := Lib.hid (T6.out.step (Below.refl _ w6).drew)
            go_region_held3 (fun w' => (w'.cell? ⟨N, 0, none⟩ = some (.int .i64 ix) ∧ w'.cell? ⟨N, 1, none⟩ = some (.int .i64 ep) ∧ w'.cell? ⟨N, 2, none⟩ = some (.slice C l.length d)) ∧ w'.cell? ⟨P, 0, none⟩ = some (.int .i64 ix) ∧ w'.cell? ⟨P, 1, none⟩ = some (.int .i64 ep) ∧ w'.cell? ⟨P, 2, none⟩ = some (.slice A F.length c))
              (first | (with_reducible exact ⟨Ba.row_three T7.out.bx, Ba.row_three T7.out.fx⟩) | (with_reducible exact ⟨Ba.row_three T8.out.bx, Ba.row_three T8.out.fx⟩) | (with_reducible exact ⟨Ba.row_three T9.out.bx, Ba.row_three T9.out.fx⟩) | (with_reducible exact ⟨Ba.row_three T10.out.bx, Ba.row_three T10.out.fx⟩))
              ((first
                | (go_at_call 18; refine (FF.out _ _ _ (HM.out _ T7.out.bel) T7.out.lf).mono ?_; rintro e w8 ⟨A8, c8, rfl, h8, k8⟩; have T8 := Lib.hid (T7.out.step k8); have H8 := Lib.hid h8; clear h8 k8)
                | (go_at_call 21; refine (SA.out _ _ _ _ _ H8.out T8.out.lf).mono ?_; rintro e w9 ⟨rfl, k9⟩; have T9 := Lib.hid (T8.out.step k9); clear k9)
                | (go_at_call 13; refine (AW.out _).mono ?_; rintro e w10 ⟨rfl, k10⟩; have T10 := Lib.hid (T9.out.step k10); clear k10)))
            go_wp2
            go_ret
            exact ⟨rfl, T10.out.bel⟩
          · have HRB := Lib.hid (RB.out _ TW.out.lb)
            obtain ⟨R, hR2⟩ : ∃ R, R = Ba.right ⟨ix, ep, l⟩ := ⟨_, rfl⟩
            rw [← hR2] at HRB
            have hRi : ((R : Int) != 0) = true := by rw [bne_iff_ne]; omega
            clear hR hR2
            go_wp2_with fail
            refine HRB.out.mono ?_
            rintro e w6 ⟨rfl, b6⟩
            have T6 := Lib.hid (TW.out.step b6)
            clear b6 TW HRB x0 x1 p0 p1 p2 n2
            go_upto_region 13 with (fail)
            have T7 := Lib.hid (T6.out.step (Below.refl _ w6).drew)
            go_region_held3 (fun w' => (w'.cell? ⟨N, 0, none⟩ = some (.int .i64 ix) ∧ w'.cell? ⟨N, 1, none⟩ = some (.int .i64 ep) ∧ w'.cell? ⟨N, 2, none⟩ = some (.slice C l.length d)) ∧ w'.cell? ⟨P, 0, none⟩ = some (.int .i64 ix) ∧ w'.cell? ⟨P, 1, none⟩ = some (.int .i64 ep) ∧ w'.cell? ⟨P, 2, none⟩ = some (.slice A F.length c))
              (first | (with_reducible exact ⟨Ba.row_three T7.out.bx, Ba.row_three T7.out.fx⟩) | (with_reducible exact ⟨Ba.row_three T8.out.bx, Ba.row_three T8.out.fx⟩) | (with_reducible exact ⟨Ba.row_three T9.out.bx, Ba.row_three T9.out.fx⟩) | (with_reducible exact ⟨Ba.row_three T10.out.bx, Ba.row_three T10.out.fx⟩))
              ((first
                | (go_at_call 18; refine (FF.out _ _ _ (HM.out _ T7.out.bel) T7.out.lf).mono ?_; rintro e w8 ⟨A8, c8, rfl, h8, k8⟩; have T8 := Lib.hid (T7.out.step k8); have H8 := Lib.hid h8; clear h8 k8)
                | (go_at_call 21; refine (SA.out _ _ _ _ _ H8.out T8.out.lf).mono ?_; rintro e w9 ⟨rfl, k9⟩; have T9 := Lib.hid (T8.out.step k9); clear k9)
                | (go_at_call 13; refine (AW.out _).mono ?_; rintro e w10 ⟨rfl, k10⟩; have T10 := Lib.hid (T9.out.step k10); clear k10)))
            go_wp2
            go_ret
            exact ⟨rfl, T10.out.bel⟩
    · clear hgm hgr
      go_enter Try.func7, Try.ntmps7
      go_upto_region 1 with (fail)
      rw [← HN.out]
      generalize w.alloc (.cells #[.int .i64 ix, .int .i64 ep, .slice C l.length d] 31) = W1 at *
      go_wp2_with fail
      refine GM.out.mono ?_
      rintro e w1 ⟨rfl, rfl⟩
      go_wp2_with fail
      refine GO.out.mono ?_
      rintro e w1 ⟨rfl, rfl⟩
      go_wp2_with fail
      refine (AW.out _).mono ?_
      rintro e w2 ⟨rfl, b2⟩
      go_wp2_with fail
      go_ret
      exact ⟨rfl, B1.out.trans (b2.mono (Nat.le_of_lt hlt1))⟩
  · clear hgm hgr GO
    go_enter Try.func7, Try.ntmps7
    go_upto_region 1 with (fail)
    rw [← HN.out]
    generalize w.alloc (.cells #[.int .i64 ix, .int .i64 ep, .slice C l.length d] 31) = W1 at *
    go_wp2_with fail
    refine GM.out.mono ?_
    rintro e w1 ⟨rfl, rfl⟩
    go_wp2_with fail
    refine (AW.out _).mono ?_
    rintro e w2 ⟨rfl, b2⟩
    go_wp2_with fail
    go_ret
    exact ⟨rfl, B1.out.trans (b2.mono (Nat.le_of_lt hlt1))⟩
end Go.Proofs.Ytlndggbidmmodaa
