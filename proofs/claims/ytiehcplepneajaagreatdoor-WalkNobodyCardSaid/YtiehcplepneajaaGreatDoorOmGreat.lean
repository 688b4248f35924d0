/-
  Pairs, and rows of operations, that the statements take; two rows of texts compared.
-/
import Derived.Test.YtiehcplepneajaaGreatDoorBaGreat
import Derived.Test.YtiehcplepneajaaGreatDoorOmOwn
import Derived.Test.YtiehcplepneajaaGreatDoorOmActs
import Derived.Test.YtiehcplepneajaaGreatDoorOmEq
namespace Go.Proofs.YtiehcplepneajaaGreatDoor
open Go.RowKit
namespace Om
def FairL (l : List Pr) : Prop := l.length ≤ 200 ∧ ∀ j (h : j < l.length), l[j].p.size ≤ 1000 ∧ l[j].v.size ≤ 1000
theorem FairL.mem {l : List Pr} (h : FairL l) : ∀ o ∈ l, o.p.size ≤ 1000 ∧ o.v.size ≤ 1000 := fun o ho => by
  obtain ⟨j, hj, rfl⟩ := List.getElem_of_mem ho
  exact h.2 j hj
theorem fairL_or (l : List Pr) : ∃ g : Bool, g = true ↔ ¬ FairL l := by
  by_cases h : FairL l
  · exact ⟨false, by simp [h]⟩
  · exact ⟨true, by simp [h]⟩
def FairR (L : List Rw) : Prop := L.length ≤ 200 ∧ ∀ j (h : j < L.length), Ba.Fair L[j].l
theorem fairR_or (L : List Rw) : ∃ g : Bool, g = true ↔ ¬ FairR L := by
  by_cases h : FairR L
  · exact ⟨false, by simp [h]⟩
  · exact ⟨true, by simp [h]⟩
/-- Texts that lie somewhere. -/
def txtsAt (w : World) (A : Option Addr) (l : List ByteArray) : Prop := l = [] ∨ ∃ b o, A = some ⟨b, o, none⟩ ∧ b < w.heap.size ∧ ∀ i (h : i < l.length), w.cell? ⟨b, o + i, none⟩ = some (.string l[i])
theorem SRow.txtsAt {w : World} {B : Nat} {A : Option Addr} {c : Nat} {l : List ByteArray} (h : SRow w B A c l) : Om.txtsAt w A l := by
  by_cases h0 : l = []
  · exact .inl h0
  · obtain ⟨g, e, hg, _⟩ := h.get (List.length_pos_iff.2 h0)
    refine .inr ⟨g, 0, e, hg, fun i hi => ?_⟩
    obtain ⟨g', e', _, hc⟩ := h.get hi
    rw [e] at e'
    simp only [Option.some.injEq, Addr.mk.injEq] at e'
    obtain ⟨rfl, _, _⟩ := e'
    rw [Nat.zero_add]
    exact hc
theorem txts_eq {l m : List ByteArray} (hl : l.length = m.length) (h : ∀ j (h1 : j < l.length) (h2 : j < m.length), l[j] = m[j]) : l = m := List.ext_getElem hl h
end Om
set_option maxRecDepth 100000 in
set_option maxHeartbeats 4000000 in
theorem greatPairs_some (w : World) (b off c : Nat) (l : List Om.Pr) (hit : Om.prsAt w b off l) (g : Bool) (hg : g = true ↔ ¬ Om.FairL l) :
    Calls Tryz.prog 13 #[.slice (some ⟨b, off, none⟩) l.length c] w fun e w' => e = .returned (.bool g) ∧ w = w' := by
  have HIT := Lib.hid hit
  have HG := Lib.hid hg
  clear hit hg
  go_enter Tryz.func13, Tryz.ntmps13
  by_cases h100 : 200 < l.length
  · have h100i : (200 : Int) < l.length := by omega
    have hgt : g = true := HG.out.2 (fun hf => by have := hf.1; omega)
    subst hgt
    go_wp2
    go_ret
    exact ⟨by rfl, rfl⟩
  · have h100i : ¬ (200 : Int) < l.length := by omega
    go_wp2
    go_loop [3] (fun i => ∃ k : Nat, k ≤ l.length ∧ i = .int .i64 k ∧ ∀ j (_ : j < k) (h : j < l.length), l[j].p.size ≤ 1000 ∧ l[j].v.size ≤ 1000) (fun i => l.length - (intOf i).toNat)
    case atStart => exact ⟨0, Nat.zero_le _, rfl, by intro j hj; omega⟩
    case round =>
      obtain ⟨k, hk, rfl, hall⟩ := hrel
      have HA := Lib.hid hall
      clear hall
      by_cases hlt : k < l.length
      · have hlt1 : (k : Int) < l.length := by omega
        obtain ⟨c1, c2⟩ := HIT.out k hlt
        obtain ⟨x, hx⟩ : ∃ x, x = l[k] := ⟨_, rfl⟩
        rw [← hx] at c1 c2
        have HX := Lib.hid hx
        clear hx
        by_cases g1 : x.p.size ≤ 1000
        · have g1i : ¬ (1000 : Int) < x.p.size := by omega
          by_cases g2 : x.v.size ≤ 1000
          · have g2i : ¬ (1000 : Int) < x.v.size := by omega
            have hnext : ∀ j (_ : j < k + 1) (h : j < l.length), l[j].p.size ≤ 1000 ∧ l[j].v.size ≤ 1000 := fun j hj h => by
              by_cases e : j = k
              · subst e; rw [← HX.out]; exact ⟨g1, g2⟩
              · exact HA.out j (by omega) h
            have HN := Lib.hid hnext
            clear hnext
            have hsuc : IntKind.i64.wrap ((k : Int) + 1) = ((k + 1 : Nat) : Int) := by simp [IntKind.wrap, IntKind.bits, IntKind.signed]; omega
            go_wp2
            go_round
            case rel => exact ⟨k + 1, by omega, rfl, HN.out⟩
            case measure => simp [intOf]; omega
          · have g2i : (1000 : Int) < x.v.size := by omega
            have hgt : g = true := HG.out.2 (fun hf => g2 (by have := (hf.2 k hlt).2; rw [← HX.out] at this; exact this))
            subst hgt
            go_wp2
            go_ret
            exact ⟨rfl, rfl⟩
        · have g1i : (1000 : Int) < x.p.size := by omega
          have hgt : g = true := HG.out.2 (fun hf => g1 (by have := (hf.2 k hlt).1; rw [← HX.out] at this; exact this))
          subst hgt
          go_wp2
          go_ret
          exact ⟨rfl, rfl⟩
      · have hlt1 : ¬ (k : Int) < l.length := by omega
        have hgf : g = false := by
          cases hgc : g
          · rfl
          · exact absurd ⟨by omega, fun j h => HA.out j (by omega) h⟩ (HG.out.1 hgc)
        subst hgf
        go_wp2
        go_ret
        exact ⟨by rfl, rfl⟩
set_option maxRecDepth 100000 in
theorem greatPairs_none (w : World) (A : Option Addr) (c : Nat) : Calls Tryz.prog 13 #[.slice A 0 c] w fun e w' => e = .returned (.bool false) ∧ w = w' := by
  go_enter Tryz.func13, Tryz.ntmps13
  go_wp2
  refine wp_loop_rounds 1 ?_
  rw [rounds_succ]
  go_wp2
  go_ret
  exact ⟨rfl, rfl⟩
theorem greatPairs_any {w : World} {A : Option Addr} {c : Nat} {l : List Om.Pr} (hit : Om.listAt w A l) (g : Bool) (hg : g = true ↔ ¬ Om.FairL l) :
    Calls Tryz.prog 13 #[.slice A l.length c] w fun e w' => e = .returned (.bool g) ∧ w = w' := by
  rcases hit with rfl | ⟨b, off, rfl, -, hit⟩
  · have : g = false := by
      cases g
      · rfl
      · exact absurd ⟨by simp, fun j h => by simp at h⟩ (hg.1 rfl)
    subst this
    exact greatPairs_none w A c
  · exact greatPairs_some w b off c l hit g hg
set_option maxRecDepth 100000 in
set_option maxHeartbeats 2000000 in
/-- Two rows of texts compared. -/
theorem sameTexts_any {w : World} {A C : Option Addr} (c d : Nat) {l m : List ByteArray} (h1 : Om.txtsAt w A l) (h2 : Om.txtsAt w C m) (hll : l.length ≤ 1000000) (g : Bool) (hg : g = true ↔ l = m) :
    Calls Tryz.prog 27 #[.slice A l.length c, .slice C m.length d] w fun e w' => e = .returned (.bool g) ∧ Below w.heap.size w w' := by
  have HG := Lib.hid hg
  by_cases hlm : l.length = m.length
  · have hi : (l.length : Int) = (m.length : Int) := by omega
    have H1 := Lib.hid h1
    have H2 := Lib.hid h2
    have HL := Lib.hid hll
    have HLM := Lib.hid hlm
    clear h1 h2 hg hll hlm
    go_enter Tryz.func27, Tryz.ntmps27
    go_wp2
    go_loopw [5] (fun i wr => ∃ k : Nat, i = .int .i64 k ∧ k ≤ l.length ∧ Hid (∀ j (_ : j < k) (h1 : j < l.length) (h2 : j < m.length), l[j] = m[j]) ∧ Below w.heap.size w wr) (fun i _ => l.length - (intOf i).toNat)
    case atStart => exact ⟨0, rfl, Nat.zero_le _, fun j h => absurd h (Nat.not_lt_zero _), Below.refl _ _⟩
    case round =>
      obtain ⟨k, rfl, hk, hall, hb⟩ := hrel
      have HB := Lib.hid hb
      clear hb
      by_cases hlt : k < l.length
      · have hki : (k : Int) < (l.length : Int) := by omega
        have hki2 : (k : Int) < (m.length : Int) := by omega
        have hkm : k < m.length := by have := HLM.out; omega
        have hsuc : IntKind.i64.wrap ((k : Int) + 1) = ((k + 1 : Nat) : Int) := by have := HL.out; simp [IntKind.wrap, IntKind.bits, IntKind.signed]; omega
        rcases H1.out with e0 | ⟨b1, o1, rfl, q1, r1⟩
        · rw [e0] at hlt; exact absurd hlt (Nat.not_lt_zero _)
        rcases H2.out with e0 | ⟨b2, o2, rfl, q2, r2⟩
        · rw [e0] at hkm; exact absurd hkm (Nat.not_lt_zero _)
        have x1 : wr.cell? ⟨b1, o1 + k, none⟩ = some (.string l[k]) := (HB.out.cell (p := ⟨b1, o1 + k, none⟩) q1).trans (r1 k hlt)
        have x2 : wr.cell? ⟨b2, o2 + k, none⟩ = some (.string m[k]) := (HB.out.cell (p := ⟨b2, o2 + k, none⟩) q2).trans (r2 k hkm)
        have y1 : wr.drew.cell? ⟨b1, o1 + k, none⟩ = some (.string l[k]) := x1
        have y2 : wr.drew.cell? ⟨b2, o2 + k, none⟩ = some (.string m[k]) := x2
        obtain ⟨a, ha⟩ : ∃ a, a = l[k] := ⟨_, rfl⟩
        obtain ⟨b, hb⟩ : ∃ b, b = m[k] := ⟨_, rfl⟩
        rw [← ha] at x1 y1
        rw [← hb] at x2 y2
        have HAB : Hid (∀ (h1 : k < l.length) (h2 : k < m.length), a = l[k] ∧ b = m[k]) := fun _ _ => ⟨ha, hb⟩
        have HLT := Lib.hid hlt
        have HKM := Lib.hid hkm
        have HALL := Lib.hid hall
        have HBD : Hid (Below w.heap.size w wr.drew) := HB.out.drew
        clear ha hb hlt hkm hall r1 r2
        by_cases hab : a = b
        · have hne : (a.toList == b.toList) = true := Om.ba_same.2 hab
          have hne2 : (a.toList != b.toList) = false := by rw [bne, hne]; rfl
          have HEQ := Lib.hid hab
          clear hab
          go_upto_region 6 with (fail)
          go_region
          go_wp2
          go_roundw
          case rel =>
            refine ⟨k + 1, rfl, HLT.out, fun j hj h1 h2 => ?_, HBD.out⟩
            by_cases e : j = k
            · subst e; rw [← (HAB.out h1 h2).1, ← (HAB.out h1 h2).2]; exact HEQ.out
            · exact HALL.out.out j (by omega) h1 h2
          case measure => simp only [intOf]; have := HLT.out; omega
        · have hne : (a.toList == b.toList) = false := by
            cases h : a.toList == b.toList with
            | false => rfl
            | true => exact absurd (Om.ba_same.1 h) hab
          have hne2 : (a.toList != b.toList) = true := by rw [bne, hne]; rfl
          have hgf : g = false := by
            cases hgg : g with
            | false => rfl
            | true =>
              refine absurd ?_ hab
              have e := HG.out.1 hgg
              rw [(HAB.out HLT.out HKM.out).1, (HAB.out HLT.out HKM.out).2]
              congr 1
          subst hgf
          clear hab
          go_upto_region 6 with (fail)
          go_region
          go_wp2
          go_ret
          exact ⟨rfl, HBD.out⟩
      · have hke : k = l.length := by omega
        have hgt : g = true := HG.out.2 (Om.txts_eq HLM.out fun j h1 h2 => hall.out j (by omega) h1 h2)
        have hki : ¬ (k : Int) < (m.length : Int) := by omega
        subst hgt
        clear hk hall
        subst hke
        go_wp2
        go_ret
        exact ⟨rfl, HB.out⟩
  · have hi : ¬ (l.length : Int) = (m.length : Int) := by omega
    have hgf : g = false := by
      cases hgg : g with
      | false => rfl
      | true => exact absurd (by rw [HG.out.1 hgg]) hlm
    subst hgf
    clear h1 h2 hg
    go_enter Tryz.func27, Tryz.ntmps27
    go_wp2
    go_ret
    exact ⟨rfl, Below.refl _ _⟩
end Go.Proofs.YtiehcplepneajaaGreatDoor
