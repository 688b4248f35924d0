/-
  The document's List and Same.
-/
import Derived.Test.YtehkbffbehlpnaaR13Do
import Derived.Test.YtehkbffbehlpnaaOmGreat
import Derived.Test.YtehkbffbehlpnaaOmText
namespace Go.Proofs.Ytehkbffbehlpnaa
open Go.RowKit
set_option maxRecDepth 100000 in
set_option maxHeartbeats 4000000 in
theorem r13List_any {w : World} {A : Option Addr} {c : Nat} {l : List Om.Pr} (h : Om.Ref w A c l) (hG : Om.Good l) (t : ByteArray) :
    Calls Try.prog 26 #[.agg #[.slice A l.length c], .string t] w fun e w' => ∃ B k, e = .returned (.slice B (Om.list t l).length k) ∧ Om.txtsAt w' B (Om.list t l) ∧ Below w.heap.size w w' := by
  obtain ⟨w2, hw2⟩ : ∃ w2, w2 = w.alloc (.cells #[.slice A l.length c] 32) := ⟨_, rfl⟩
  have g2 : w2.heap[w.heap.size]? = some (.cells #[.slice A l.length c] 32 (0, 0)) := by rw [hw2]; exact heap_alloc_new _ _
  have b2 : Below w.heap.size w w2 := by rw [hw2]; exact (Below.refl _ w).alloc (Nat.le_refl _) _
  obtain ⟨N, hN⟩ : ∃ N, N = w.heap.size := ⟨_, rfl⟩
  have HN := Lib.hid hN
  have HR : Hid (∀ wx : World, Below N w wx → Om.Ref wx A c l) := fun wx k => h.below (by rw [← hN]; exact k)
  rw [← hN] at g2 b2 ⊢
  have HG2 := Lib.hid g2
  have HB2 := Lib.hid b2
  have HG := Lib.hid hG
  have hl48 := hG.len
  have HL := Lib.hid hl48
  have hNs : N < w2.heap.size := Sm.lt_of g2
  have HNS := Lib.hid hNs
  clear h hG g2 b2 hl48 hNs
  go_enter Try.func26, Try.ntmps26
  go_upto_region 1 with (fail)
  rw [← hw2, ← hN]
  clear hw2 hN
  obtain ⟨M, hM⟩ : ∃ M, M = w2.heap.size := ⟨_, rfl⟩
  have HM := Lib.hid hM
  clear hM
  go_wp2
  go_loopw [5, 6] (fun s5 s6 wr => ∃ (k : Nat) (B : Option Addr) (q : Nat) (m : List ByteArray), s6 = .int .i64 k ∧ k ≤ l.length ∧ s5 = .slice B m.length q ∧ Hid (m = Om.list t (l.take k)) ∧ m.length ≤ k ∧ Om.SRow wr M B q m ∧ Below N w wr ∧ Below M w2 wr) (fun _ s _ => l.length - (intOf s).toNat)
  case atStart => exact ⟨0, none, 0, [], rfl, Nat.zero_le _, rfl, rfl, Nat.le_refl _, Om.SRow.nil _ _, HB2.out, Below.refl _ _⟩
  case round =>
    obtain ⟨k, B, q, m, rfl, hk, rfl, hm, hmk, hrow, hb, hb1⟩ := hrel
    have HB := Lib.hid hb
    have HB1 := Lib.hid hb1
    have HRW := Lib.hid hrow
    have HMK := Lib.hid hmk
    have z := Sm.cells_of ((hb1.block N (by rw [HM.out]; exact HNS.out)).trans HG2.out) 0 _ rfl
    clear hb hb1 hrow hmk
    by_cases hlt : k < l.length
    · have hki : (k : Int) < (l.length : Int) := by omega
      have hsuc : IntKind.i64.wrap ((k : Int) + 1) = ((k + 1 : Nat) : Int) := by have := HL.out; simp [IntKind.wrap, IntKind.bits, IntKind.signed]; omega
      obtain ⟨gb, off, rfl, -, o0, o1⟩ := (HR.out wr HB.out).1.get (Below.refl _ _) k hlt
      have hst : Om.list t (l.take (k + 1)) = m ++ (if Om.begins t l[k].p then [l[k].p] else []) := by
        rw [hm.out, List.take_succ_eq_append_getElem hlt]
        unfold Om.list
        rw [List.filter_append, List.map_append, List.filter_cons, List.filter_nil]
        split <;> simp
      obtain ⟨x, hx⟩ : ∃ x, x = l[k].p := ⟨_, rfl⟩
      rw [← hx] at o0 hst
      have HST := Lib.hid hst
      have HLT := Lib.hid hlt
      clear hst hm hx o1
      clear hlt
      by_cases hle : t.size ≤ x.size
      · have hge : (t.size : Int) ≤ (x.size : Int) := by omega
        have hsb := Om.slice_begins hle
        cases hbg : Om.begins t x with
        | true =>
          rw [hbg] at hsb HST
          clear hbg hle
          have K2 : Hid (Below wr.heap.size wr (wr.alloc (.cells #[.string x] 9))) := (Below.refl _ wr).alloc (Nat.le_refl _) _
          go_upto_region 7 with (fail)
          go_wp2_with (at_builtin; refine Om.wp_text rfl _ _ rfl rfl (HRW.out.low K2.out) x rfl (heap_alloc_new _ _) (by have := HMK.out; have := HLT.out; have := HL.out; omega) (by rw [HM.out]; exact Nat.le_trans HB1.out.size K2.out.size) ?_; intro A' c' w3 hr3 hg3)
          have hsl : m.length + 1 = (m ++ [x]).length := by simp
          have K3 : Below M w2 w3 := (HB1.out.trans (K2.out.mono (by rw [HM.out]; exact HB1.out.size))).grown hg3 (by rw [HM.out]; exact Nat.le_trans HB1.out.size K2.out.size) (fun q hq => ((HRW.out.low K2.out).blk hq).1)
          have K3' : Below N w w3 := HB2.out.trans (K3.mono (by rw [HM.out]; exact Nat.le_of_lt HNS.out))
          have HR3 := Lib.hid hr3
          clear hr3 hg3
          go_roundw
          case rel =>
            refine ⟨k + 1, A', c', m ++ [x], rfl, HLT.out, by rw [← hsl], ?_, by simp; exact HMK.out, HR3.out, K3', K3⟩
            show _ = _
            rw [HST.out]; simp
          case measure => simp only [intOf]; have := HLT.out; omega
        | false =>
          rw [hbg] at hsb HST
          clear hbg hle
          go_wp2
          go_roundw
          case rel =>
            refine ⟨k + 1, B, q, m, rfl, HLT.out, rfl, ?_, by have := HMK.out; omega, HRW.out, HB.out, HB1.out⟩
            show _ = _
            rw [HST.out]; simp
          case measure => simp only [intOf]; have := HLT.out; omega
      · have hge : (x.size : Int) < (t.size : Int) := by omega
        have hbg : Om.begins t x = false := Om.short_begins (by omega)
        rw [hbg] at HST
        clear hbg hle
        go_wp2
        go_roundw
        case rel =>
          refine ⟨k + 1, B, q, m, rfl, HLT.out, rfl, ?_, by have := HMK.out; omega, HRW.out, HB.out, HB1.out⟩
          show _ = _
          rw [HST.out]; simp
        case measure => simp only [intOf]; have := HLT.out; omega
    · have hke : k = l.length := by omega
      have hm' := hm.out
      rw [hke, List.take_length] at hm'
      clear hm hk
      subst hke hm'
      go_wp2
      go_ret
      exact ⟨B, q, rfl, HRW.out.txtsAt, HB.out⟩
set_option maxRecDepth 100000 in
set_option maxHeartbeats 4000000 in
/-- Two rows of pairs compared. -/
theorem r13Same_any {w : World} {A C : Option Addr} (c d : Nat) {l m : List Om.Pr} (h1 : Om.listAt w A l) (h2 : Om.listAt w C m) (hll : l.length ≤ 1000000) (g : Bool) (hg : g = true ↔ l = m) :
    Calls Try.prog 22 #[.slice A l.length c, .slice C m.length d] w fun e w' => e = .returned (.bool g) ∧ Below w.heap.size w w' := by
  have HG := Lib.hid hg
  by_cases hlm : l.length = m.length
  · have hi : (l.length : Int) = (m.length : Int) := by omega
    have H1 := Lib.hid h1
    have H2 := Lib.hid h2
    have HL := Lib.hid hll
    have HLM := Lib.hid hlm
    clear h1 h2 hg hll hlm
    go_enter Try.func22, Try.ntmps22
    go_wp2
    go_loopw [5] (fun i wr => ∃ k : Nat, i = .int .i64 k ∧ k ≤ l.length ∧ Hid (∀ j (_ : j < k) (h1 : j < l.length) (h2 : j < m.length), l[j] = m[j]) ∧ Below w.heap.size w wr) (fun i _ => l.length - (intOf i).toNat)
    case atStart => exact ⟨0, rfl, Nat.zero_le _, fun j h => absurd h (Nat.not_lt_zero _), Below.refl _ _⟩
    case round =>
      obtain ⟨k, rfl, hk, hall, hb⟩ := hrel
      have HB := Lib.hid hb
      clear hb
      by_cases hlt : k < l.length
      · have hki : (k : Int) < (l.length : Int) := by omega
        have hki2 : (k : Int) < (m.length : Int) := by omega
        have hkm : k < m.length := by have := HLM.out; omega
        have hsuc : IntKind.i64.wrap ((k : Int) + 1) = ((k + 1 : Nat) : Int) := by have := HL.out; simp [IntKind.wrap, IntKind.bits, IntKind.signed]; omega
        obtain ⟨b1, o1, rfl, -, x0, x1⟩ := H1.out.get HB.out k hlt
        obtain ⟨b2, o2, rfl, -, y0, y1⟩ := H2.out.get HB.out k hkm
        obtain ⟨x, hx⟩ : ∃ x, x = l[k] := ⟨_, rfl⟩
        obtain ⟨y, hy⟩ : ∃ y, y = m[k] := ⟨_, rfl⟩
        rw [← hx] at x0 x1
        rw [← hy] at y0 y1
        have HAB : Hid (∀ (h1 : k < l.length) (h2 : k < m.length), x = l[k] ∧ y = m[k]) := fun _ _ => ⟨hx, hy⟩
        have HLT := Lib.hid hlt
        have HKM := Lib.hid hkm
        have HALL := Lib.hid hall
        have HBD : Hid (Below w.heap.size w wr.drew) := HB.out.drew
        obtain ⟨eb, heb⟩ : ∃ eb, eb = Om.eqb x y := ⟨_, rfl⟩
        have HEB := Lib.hid heb
        have hS : (fun wx : World => (wx.cell? ⟨b1, o1 + k * 2, none⟩ = some (.string x.p) ∧ wx.cell? ⟨b1, o1 + k * 2 + 1, none⟩ = some (.string x.v)) ∧ (wx.cell? ⟨b2, o2 + k * 2, none⟩ = some (.string y.p) ∧ wx.cell? ⟨b2, o2 + k * 2 + 1, none⟩ = some (.string y.v))) wr.drew := ⟨⟨x0, x1⟩, ⟨y0, y1⟩⟩
        have HSS := Lib.hid hS
        clear hx hy hlt hkm hall heb hS x0 x1 y0 y1
        go_upto_region 6 with (fail)
        refine wp_region_held_drew (S := fun wx : World => (wx.cell? ⟨b1, o1 + k * 2, none⟩ = some (.string x.p) ∧ wx.cell? ⟨b1, o1 + k * 2 + 1, none⟩ = some (.string x.v)) ∧ (wx.cell? ⟨b2, o2 + k * 2, none⟩ = some (.string y.p) ∧ wx.cell? ⟨b2, o2 + k * 2 + 1, none⟩ = some (.string y.v))) (by kernel_rfl) (by exact HSS.out) (fun hHeld => ?_)
        refine wpAnyH_take (i := 0) (oi := ⟨some 17, _, _, _, _, _⟩) (v := .slice (some ⟨b1, o1, none⟩) l.length c) rfl (by kernel_rfl) (by kernel_rfl) (by kernel_rfl) (fun _ _ _ h => h) (Or.inl ⟨by rfl, ?_⟩) (by assumption) ?_
        · intro w hSw; (try dsimp only at hSw); go_simp
        simp only [Act.put, List.setIfInBounds_toArray, List.set_cons_zero, List.set_cons_succ]
        refine wpAnyH_take (i := 1) (oi := ⟨some 18, _, _, _, _, _⟩) (v := .int .i64 (k : Int)) rfl (by kernel_rfl) (by kernel_rfl) (by kernel_rfl) (fun _ _ _ h => h) (Or.inl ⟨by rfl, ?_⟩) (by assumption) ?_
        · intro w hSw; (try dsimp only at hSw); go_simp
        simp only [Act.put, List.setIfInBounds_toArray, List.set_cons_zero, List.set_cons_succ]
        refine wpAnyH_take (i := 2) (oi := ⟨some 19, _, _, _, _, _⟩) (v := .pointer (some ⟨b1, o1 + k * 2, none⟩)) rfl (by kernel_rfl) (by kernel_rfl) (by kernel_rfl) (fun _ _ _ h => h) (Or.inl ⟨by rfl, ?_⟩) (by assumption) ?_
        · intro w hSw; (try dsimp only at hSw); go_simp
        simp only [Act.put, List.setIfInBounds_toArray, List.set_cons_zero, List.set_cons_succ]
        refine wpAnyH_take (i := 3) (oi := ⟨some 20, _, _, _, _, _⟩) (v := .agg #[.string x.p, .string x.v]) rfl (by kernel_rfl) (by kernel_rfl) (by kernel_rfl) (fun _ _ _ h => h) (Or.inl ⟨by rfl, ?_⟩) (by assumption) ?_
        · intro w hSw; (try dsimp only at hSw); go_simp
        simp only [Act.put, List.setIfInBounds_toArray, List.set_cons_zero, List.set_cons_succ]
        refine wpAnyH_take (i := 4) (oi := ⟨some 21, _, _, _, _, _⟩) (v := .slice (some ⟨b2, o2, none⟩) m.length d) rfl (by kernel_rfl) (by kernel_rfl) (by kernel_rfl) (fun _ _ _ h => h) (Or.inl ⟨by rfl, ?_⟩) (by assumption) ?_
        · intro w hSw; (try dsimp only at hSw); go_simp
        simp only [Act.put, List.setIfInBounds_toArray, List.set_cons_zero, List.set_cons_succ]
        refine wpAnyH_take (i := 5) (oi := ⟨some 22, _, _, _, _, _⟩) (v := .int .i64 (k : Int)) rfl (by kernel_rfl) (by kernel_rfl) (by kernel_rfl) (fun _ _ _ h => h) (Or.inl ⟨by rfl, ?_⟩) (by assumption) ?_
        · intro w hSw; (try dsimp only at hSw); go_simp
        simp only [Act.put, List.setIfInBounds_toArray, List.set_cons_zero, List.set_cons_succ]
        refine wpAnyH_take (i := 6) (oi := ⟨some 23, _, _, _, _, _⟩) (v := .pointer (some ⟨b2, o2 + k * 2, none⟩)) rfl (by kernel_rfl) (by kernel_rfl) (by kernel_rfl) (fun _ _ _ h => h) (Or.inl ⟨by rfl, ?_⟩) (by assumption) ?_
        · intro w hSw; (try dsimp only at hSw); go_simp
        simp only [Act.put, List.setIfInBounds_toArray, List.set_cons_zero, List.set_cons_succ]
        refine wpAnyH_take (i := 7) (oi := ⟨some 24, _, _, _, _, _⟩) (v := .agg #[.string y.p, .string y.v]) rfl (by kernel_rfl) (by kernel_rfl) (by kernel_rfl) (fun _ _ _ h => h) (Or.inl ⟨by rfl, ?_⟩) (by assumption) ?_
        · intro w hSw; (try dsimp only at hSw); go_simp
        simp only [Act.put, List.setIfInBounds_toArray, List.set_cons_zero, List.set_cons_succ]
        refine wpAnyH_take (i := 8) (oi := ⟨some 25, _, _, _, _, _⟩) (v := .bool (!eb)) rfl (by kernel_rfl) (by kernel_rfl) (by kernel_rfl) (fun _ _ _ h => h) (by rw [HEB.out]; exact Om.yields_neq (by rfl) _ _ _ rfl x y rfl rfl) (by assumption) ?_
        simp only [Act.put, List.setIfInBounds_toArray, List.set_cons_zero, List.set_cons_succ]
        refine wpAnyH_done (by kernel_rfl) ?_ _
        cases eb with
        | true =>
          have HEQ : Hid (x = y) := Om.eqb_iff.1 HEB.out.symm
          go_wp2
          go_roundw
          case rel =>
            refine ⟨k + 1, rfl, HLT.out, fun j hj h1 h2 => ?_, HBD.out⟩
            by_cases e : j = k
            · subst e; rw [← (HAB.out h1 h2).1, ← (HAB.out h1 h2).2]; exact HEQ.out
            · exact HALL.out.out j (by omega) h1 h2
          case measure => simp only [intOf]; have := HLT.out; omega
        | false =>
          have hgf : g = false := by
            cases hgg : g with
            | false => rfl
            | true =>
              exfalso
              have e := HG.out.1 hgg
              have hxy : x = y := by
                rw [(HAB.out HLT.out HKM.out).1, (HAB.out HLT.out HKM.out).2]
                congr 1
              have := Om.eqb_iff.2 hxy
              rw [← HEB.out] at this
              cases this
          subst hgf
          go_wp2
          go_ret
          exact ⟨rfl, HBD.out⟩
      · have hke : k = l.length := by omega
        have hgt : g = true := HG.out.2 (List.ext_getElem HLM.out fun j h1 h2 => hall.out j (by omega) h1 h2)
        have hki : ¬ (k : Int) < (m.length : Int) := by omega
        subst hgt
        clear hk hall
        subst hke
        go_wp2
        go_ret
        exact ⟨rfl, HB.out⟩
  · have hi : ¬ (l.length : Int) = (m.length : Int) := by omega
    have hgf : g = false := by
      cases hgg : g with
      | false => rfl
      | true => exact absurd (by rw [HG.out.1 hgg]) hlm
    subst hgf
    clear h1 h2 hg
    go_enter Try.func22, Try.ntmps22
    go_wp2
    go_ret
    exact ⟨rfl, Below.refl _ _⟩
end Go.Proofs.Ytehkbffbehlpnaa
