/-
  The document's List and Same.
-/
import Derived.Test.YtiehcplepneajaaGreatDoorR13Does
import Derived.Test.YtiehcplepneajaaGreatDoorOmPut
import Derived.Test.YtiehcplepneajaaGreatDoorPaMounts
import Derived.Test.YtiehcplepneajaaGreatDoorR12Right
import Derived.Test.YtiehcplepneajaaGreatDoorOmMath
import Derived.Test.YtiehcplepneajaaGreatDoorMBase
import Derived.Test.YtiehcplepneajaaGreatDoorOmOwn
import Derived.Test.YtiehcplepneajaaGreatDoorOmGreat
import Derived.Test.YtiehcplepneajaaGreatDoorOmText
namespace Go.Proofs.YtiehcplepneajaaGreatDoor
open Go.RowKit
set_option maxRecDepth 100000 in
set_option maxHeartbeats 4000000 in
/-- Two rows of pairs compared. -/
theorem r13Same_any {w : World} {A C : Option Addr} (c d : Nat) {l m : List Om.Pr} (h1 : Om.listAt w A l) (h2 : Om.listAt w C m) (hll : l.length ≤ 1000000) (g : Bool) (hg : g = true ↔ l = m) :
    Calls Tryz.prog 25 #[.slice A l.length c, .slice C m.length d] w fun e w' => e = .returned (.bool g) ∧ Below w.heap.size w w' := by
  have HG := Lib.hid hg
  by_cases hlm : l.length = m.length
  · have hi : (l.length : Int) = (m.length : Int) := by omega
    have H1 := Lib.hid h1
    have H2 := Lib.hid h2
    have HL := Lib.hid hll
    have HLM := Lib.hid hlm
    clear h1 h2 hg hll hlm
    go_enter Tryz.func25, Tryz.ntmps25
    go_wp2
    go_loopw [5] (fun i wr => ∃ k : Nat, i = .int .i64 k ∧ k ≤ l.length ∧ Hid (∀ j (_ : j < k) (h1 : j < l.length) (h2 : j < m.length), l[j] = m[j]) ∧ Below w.heap.size w wr) (fun i _ => l.length - (intOf i).toNat)
    case atStart => exact ⟨0, rfl, Nat.zero_le _, fun j h => absurd h (Nat.not_lt_zero _), Below.refl _ _⟩
    case round =>
      obtain ⟨k, rfl, hk, hall, hb⟩ := hrel
      have HB := Lib.hid hb
      clear hb
      by_cases hlt : k < l.length
      · have hki : (k : Int) < (l.length : Int) := by omega
        have hki2 : (k : Int) < (m.length : Int) := by omega
        have hkm : k < m.length := by have := HLM.out; omega
        have hsuc : IntKind.i64.wrap ((k : Int) + 1) = ((k + 1 : Nat) : Int) := by have := HL.out; simp [IntKind.wrap, IntKind.bits, IntKind.signed]; omega
        obtain ⟨b1, o1, rfl, -, x0, x1⟩ := H1.out.get HB.out k hlt
        obtain ⟨b2, o2, rfl, -, y0, y1⟩ := H2.out.get HB.out k hkm
        obtain ⟨x, hx⟩ : ∃ x, x = l[k] := ⟨_, rfl⟩
        obtain ⟨y, hy⟩ : ∃ y, y = m[k] := ⟨_, rfl⟩
        rw [← hx] at x0 x1
        rw [← hy] at y0 y1
        have HAB : Hid (∀ (h1 : k < l.length) (h2 : k < m.length), x = l[k] ∧ y = m[k]) := fun _ _ => ⟨hx, hy⟩
        have HLT := Lib.hid hlt
        have HKM := Lib.hid hkm
        have HALL := Lib.hid hall
        have HBD : Hid (Below w.heap.size w wr.drew) := HB.out.drew
        obtain ⟨eb, heb⟩ : ∃ eb, eb = Om.eqb x y := ⟨_, rfl⟩
        have HEB := Lib.hid heb
        have hS : (fun wx : World => (wx.cell? ⟨b1, o1 + k * 2, none⟩ = some (.string x.p) ∧ wx.cell? ⟨b1, o1 + k * 2 + 1, none⟩ = some (.string x.v)) ∧ (wx.cell? ⟨b2, o2 + k * 2, none⟩ = some (.string y.p) ∧ wx.cell? ⟨b2, o2 + k * 2 + 1, none⟩ = some (.string y.v))) wr.drew := ⟨⟨x0, x1⟩, ⟨y0, y1⟩⟩
        have HSS := Lib.hid hS
        clear hx hy hlt hkm hall heb hS x0 x1 y0 y1
        go_upto_region 6 with (fail)
        refine wp_region_held_drew (S := fun wx : World => (wx.cell? ⟨b1, o1 + k * 2, none⟩ = some (.string x.p) ∧ wx.cell? ⟨b1, o1 + k * 2 + 1, none⟩ = some (.string x.v)) ∧ (wx.cell? ⟨b2, o2 + k * 2, none⟩ = some (.string y.p) ∧ wx.cell? ⟨b2, o2 + k * 2 + 1, none⟩ = some (.string y.v))) (by kernel_rfl) (by exact HSS.out) (fun hHeld => ?_)
        refine wpAnyH_take (i := 0) (oi := ⟨some 17, _, _, _, _, _⟩) (v := .slice (some ⟨b1, o1, none⟩) l.length c) rfl (by kernel_rfl) (by kernel_rfl) (by kernel_rfl) (fun _ _ _ h => h) (Or.inl ⟨by rfl, ?_⟩) (by assumption) ?_
        · intro w hSw; (try dsimp only at hSw); go_simp
        simp only [Act.put, List.setIfInBounds_toArray, List.set_cons_zero, List.set_cons_succ]
        refine wpAnyH_take (i := 1) (oi := ⟨some 18, _, _, _, _, _⟩) (v := .int .i64 (k : Int)) rfl (by kernel_rfl) (by kernel_rfl) (by kernel_rfl) (fun _ _ _ h => h) (Or.inl ⟨by rfl, ?_⟩) (by assumption) ?_
        · intro w hSw; (try dsimp only at hSw); go_simp
        simp only [Act.put, List.setIfInBounds_toArray, List.set_cons_zero, List.set_cons_succ]
        refine wpAnyH_take (i := 2) (oi := ⟨some 19, _, _, _, _, _⟩) (v := .pointer (some ⟨b1, o1 + k * 2, none⟩)) rfl (by kernel_rfl) (by kernel_rfl) (by kernel_rfl) (fun _ _ _ h => h) (Or.inl ⟨by rfl, ?_⟩) (by assumption) ?_
        · intro w hSw; (try dsimp only at hSw); go_simp
        simp only [Act.put, List.setIfInBounds_toArray, List.set_cons_zero, List.set_cons_succ]
        refine wpAnyH_take (i := 3) (oi := ⟨some 20, _, _, _, _, _⟩) (v := .agg #[.string x.p, .string x.v]) rfl (by kernel_rfl) (by kernel_rfl) (by kernel_rfl) (fun _ _ _ h => h) (Or.inl ⟨by rfl, ?_⟩) (by assumption) ?_
        · intro w hSw; (try dsimp only at hSw); go_simp
        simp only [Act.put, List.setIfInBounds_toArray, List.set_cons_zero, List.set_cons_succ]
        refine wpAnyH_take (i := 4) (oi := ⟨some 21, _, _, _, _, _⟩) (v := .slice (some ⟨b2, o2, none⟩) m.length d) rfl (by kernel_rfl) (by kernel_rfl) (by kernel_rfl) (fun _ _ _ h => h) (Or.inl ⟨by rfl, ?_⟩) (by assumption) ?_
        · intro w hSw; (try dsimp only at hSw); go_simp
        simp only [Act.put, List.setIfInBounds_toArray, List.set_cons_zero, List.set_cons_succ]
        refine wpAnyH_take (i := 5) (oi := ⟨some 22, _, _, _, _, _⟩) (v := .int .i64 (k : Int)) rfl (by kernel_rfl) (by kernel_rfl) (by kernel_rfl) (fun _ _ _ h => h) (Or.inl ⟨by rfl, ?_⟩) (by assumption) ?_
        · intro w hSw; (try dsimp only at hSw); go_simp
        simp only [Act.put, List.setIfInBounds_toArray, List.set_cons_zero, List.set_cons_succ]
        refine wpAnyH_take (i := 6) (oi := ⟨some 23, _, _, _, _, _⟩) (v := .pointer (some ⟨b2, o2 + k * 2, none⟩)) rfl (by kernel_rfl) (by kernel_rfl) (by kernel_rfl) (fun _ _ _ h => h) (Or.inl ⟨by rfl, ?_⟩) (by assumption) ?_
        · intro w hSw; (try dsimp only at hSw); go_simp
        simp only [Act.put, List.setIfInBounds_toArray, List.set_cons_zero, List.set_cons_succ]
        refine wpAnyH_take (i := 7) (oi := ⟨some 24, _, _, _, _, _⟩) (v := .agg #[.string y.p, .string y.v]) rfl (by kernel_rfl) (by kernel_rfl) (by kernel_rfl) (fun _ _ _ h => h) (Or.inl ⟨by rfl, ?_⟩) (by assumption) ?_
        · intro w hSw; (try dsimp only at hSw); go_simp
        simp only [Act.put, List.setIfInBounds_toArray, List.set_cons_zero, List.set_cons_succ]
        refine wpAnyH_take (i := 8) (oi := ⟨some 25, _, _, _, _, _⟩) (v := .bool (!eb)) rfl (by kernel_rfl) (by kernel_rfl) (by kernel_rfl) (fun _ _ _ h => h) (by rw [HEB.out]; exact Om.yields_neq (by rfl) _ _ _ rfl x y rfl rfl) (by assumption) ?_
        simp only [Act.put, List.setIfInBounds_toArray, List.set_cons_zero, List.set_cons_succ]
        refine wpAnyH_done (by kernel_rfl) ?_ _
        cases eb with
        | true =>
          have HEQ : Hid (x = y) := Om.eqb_iff.1 HEB.out.symm
          go_wp2
          go_roundw
          case rel =>
            refine ⟨k + 1, rfl, HLT.out, fun j hj h1 h2 => ?_, HBD.out⟩
            by_cases e : j = k
            · subst e; rw [← (HAB.out h1 h2).1, ← (HAB.out h1 h2).2]; exact HEQ.out
            · exact HALL.out.out j (by omega) h1 h2
          case measure => simp only [intOf]; have := HLT.out; omega
        | false =>
          have hgf : g = false := by
            cases hgg : g with
            | false => rfl
            | true =>
              exfalso
              have e := HG.out.1 hgg
              have hxy : x = y := by
                rw [(HAB.out HLT.out HKM.out).1, (HAB.out HLT.out HKM.out).2]
                congr 1
              have := Om.eqb_iff.2 hxy
              rw [← HEB.out] at this
              cases this
          subst hgf
          go_wp2
          go_ret
          exact ⟨rfl, HBD.out⟩
      · have hke : k = l.length := by omega
        have hgt : g = true := HG.out.2 (List.ext_getElem HLM.out fun j h1 h2 => hall.out j (by omega) h1 h2)
        have hki : ¬ (k : Int) < (m.length : Int) := by omega
        subst hgt
        clear hk hall
        subst hke
        go_wp2
        go_ret
        exact ⟨rfl, HB.out⟩
  · have hi : ¬ (l.length : Int) = (m.length : Int) := by omega
    have hgf : g = false := by
      cases hgg : g with
      | false => rfl
      | true => exact absurd (by rw [HG.out.1 hgg]) hlm
    subst hgf
    clear h1 h2 hg
    go_enter Tryz.func25, Tryz.ntmps25
    go_wp2
    go_ret
    exact ⟨rfl, Below.refl _ _⟩
end Go.Proofs.YtiehcplepneajaaGreatDoor
