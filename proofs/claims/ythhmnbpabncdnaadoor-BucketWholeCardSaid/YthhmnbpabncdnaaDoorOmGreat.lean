/-
  Pairs, and rows of operations, that the statements take; two rows of texts compared.
-/
import Derived.Test.YthhmnbpabncdnaaDoorBaGreat
import Derived.Test.YthhmnbpabncdnaaDoorOmOwn
import Derived.Test.YthhmnbpabncdnaaDoorOmActs
import Derived.Test.YthhmnbpabncdnaaDoorOmEq
namespace Go.Proofs.YthhmnbpabncdnaaDoor
open Go.RowKit
namespace Om
def FairL (l : List Pr) : Prop := l.length ≤ 200 ∧ ∀ j (h : j < l.length), l[j].p.size ≤ 1000 ∧ l[j].v.size ≤ 1000
theorem FairL.mem {l : List Pr} (h : FairL l) : ∀ o ∈ l, o.p.size ≤ 1000 ∧ o.v.size ≤ 1000 := fun o ho => by
  obtain ⟨j, hj, rfl⟩ := List.getElem_of_mem ho
  exact h.2 j hj
theorem fairL_or (l : List Pr) : ∃ g : Bool, g = true ↔ ¬ FairL l := by
  by_cases h : FairL l
  · exact ⟨false, by simp [h]⟩
  · exact ⟨true, by simp [h]⟩
def FairR (L : List Rw) : Prop := L.length ≤ 200 ∧ ∀ j (h : j < L.length), Ba.Fair L[j].l
theorem fairR_or (L : List Rw) : ∃ g : Bool, g = true ↔ ¬ FairR L := by
  by_cases h : FairR L
  · exact ⟨false, by simp [h]⟩
  · exact ⟨true, by simp [h]⟩
/-- Texts that lie somewhere. -/
def txtsAt (w : World) (A : Option Addr) (l : List ByteArray) : Prop := l = [] ∨ ∃ b o, A = some ⟨b, o, none⟩ ∧ b < w.heap.size ∧ ∀ i (h : i < l.length), w.cell? ⟨b, o + i, none⟩ = some (.string l[i])
theorem SRow.txtsAt {w : World} {B : Nat} {A : Option Addr} {c : Nat} {l : List ByteArray} (h : SRow w B A c l) : Om.txtsAt w A l := by
  by_cases h0 : l = []
  · exact .inl h0
  · obtain ⟨g, e, hg, _⟩ := h.get (List.length_pos_iff.2 h0)
    refine .inr ⟨g, 0, e, hg, fun i hi => ?_⟩
    obtain ⟨g', e', _, hc⟩ := h.get hi
    rw [e] at e'
    simp only [Option.some.injEq, Addr.mk.injEq] at e'
    obtain ⟨rfl, _, _⟩ := e'
    rw [Nat.zero_add]
    exact hc
theorem txts_eq {l m : List ByteArray} (hl : l.length = m.length) (h : ∀ j (h1 : j < l.length) (h2 : j < m.length), l[j] = m[j]) : l = m := List.ext_getElem hl h
end Om
set_option maxRecDepth 100000 in
set_option maxHeartbeats 4000000 in
theorem greatPairs_some (w : World) (b off c : Nat) (l : List Om.Pr) (hit : Om.prsAt w b off l) (g : Bool) (hg : g = true ↔ ¬ Om.FairL l) :
    Calls Tryd.prog 11 #[.slice (some ⟨b, off, none⟩) l.length c] w fun e w' => e = .returned (.bool g) ∧ w = w' := by
  have HIT := Lib.hid hit
  have HG := Lib.hid hg
  clear hit hg
  go_enter Tryd.func11, Tryd.ntmps11
  by_cases h100 : 200 < l.length
  · have h100i : (200 : Int) < l.length := by omega
    have hgt : g = true := HG.out.2 (fun hf => by have := hf.1; omega)
    subst hgt
    go_wp2
    go_ret
    exact ⟨by rfl, rfl⟩
  · have h100i : ¬ (200 : Int) < l.length := by omega
    go_wp2
    go_loop [3] (fun i => ∃ k : Nat, k ≤ l.length ∧ i = .int .i64 k ∧ ∀ j (_ : j < k) (h : j < l.length), l[j].p.size ≤ 1000 ∧ l[j].v.size ≤ 1000) (fun i => l.length - (intOf i).toNat)
    case atStart => exact ⟨0, Nat.zero_le _, rfl, by intro j hj; omega⟩
    case round =>
      obtain ⟨k, hk, rfl, hall⟩ := hrel
      have HA := Lib.hid hall
      clear hall
      by_cases hlt : k < l.length
      · have hlt1 : (k : Int) < l.length := by omega
        obtain ⟨c1, c2⟩ := HIT.out k hlt
        obtain ⟨x, hx⟩ : ∃ x, x = l[k] := ⟨_, rfl⟩
        rw [← hx] at c1 c2
        have HX := Lib.hid hx
        clear hx
        by_cases g1 : x.p.size ≤ 1000
        · have g1i : ¬ (1000 : Int) < x.p.size := by omega
          by_cases g2 : x.v.size ≤ 1000
          · have g2i : ¬ (1000 : Int) < x.v.size := by omega
            have hnext : ∀ j (_ : j < k + 1) (h : j < l.length), l[j].p.size ≤ 1000 ∧ l[j].v.size ≤ 1000 := fun j hj h => by
              by_cases e : j = k
              · subst e; rw [← HX.out]; exact ⟨g1, g2⟩
              · exact HA.out j (by omega) h
            have HN := Lib.hid hnext
            clear hnext
            have hsuc : IntKind.i64.wrap ((k : Int) + 1) = ((k + 1 : Nat) : Int) := by simp [IntKind.wrap, IntKind.bits, IntKind.signed]; omega
            go_wp2
            go_round
            case rel => exact ⟨k + 1, by omega, rfl, HN.out⟩
            case measure => simp [intOf]; omega
          · have g2i : (1000 : Int) < x.v.size := by omega
            have hgt : g = true := HG.out.2 (fun hf => g2 (by have := (hf.2 k hlt).2; rw [← HX.out] at this; exact this))
            subst hgt
            go_wp2
            go_ret
            exact ⟨rfl, rfl⟩
        · have g1i : (1000 : Int) < x.p.size := by omega
          have hgt : g = true := HG.out.2 (fun hf => g1 (by have := (hf.2 k hlt).1; rw [← HX.out] at this; exact this))
          subst hgt
          go_wp2
          go_ret
          exact ⟨rfl, rfl⟩
      · have hlt1 : ¬ (k : Int) < l.length := by omega
        have hgf : g = false := by
          cases hgc : g
          · rfl
          · exact absurd ⟨by omega, fun j h => HA.out j (by omega) h⟩ (HG.out.1 hgc)
        subst hgf
        go_wp2
        go_ret
        exact ⟨by rfl, rfl⟩
set_option maxRecDepth 100000 in
theorem greatPairs_none (w : World) (A : Option Addr) (c : Nat) : Calls Tryd.prog 11 #[.slice A 0 c] w fun e w' => e = .returned (.bool false) ∧ w = w' := by
  go_enter Tryd.func11, Tryd.ntmps11
  go_wp2
  refine wp_loop_rounds 1 ?_
  rw [rounds_succ]
  go_wp2
  go_ret
  exact ⟨rfl, rfl⟩
theorem greatPairs_any {w : World} {A : Option Addr} {c : Nat} {l : List Om.Pr} (hit : Om.listAt w A l) (g : Bool) (hg : g = true ↔ ¬ Om.FairL l) :
    Calls Tryd.prog 11 #[.slice A l.length c] w fun e w' => e = .returned (.bool g) ∧ w = w' := by
  rcases hit with rfl | ⟨b, off, rfl, -, hit⟩
  · have : g = false := by
      cases g
      · rfl
      · exact absurd ⟨by simp, fun j h => by simp at h⟩ (hg.1 rfl)
    subst this
    exact greatPairs_none w A c
  · exact greatPairs_some w b off c l hit g hg
end Go.Proofs.YthhmnbpabncdnaaDoor
