/-
  Operations that the statements take.
-/
import Derived.Test.YtehkbffbehlpnaaBaActs
import Derived.Test.YtehkbffbehlpnaaPaMounts
namespace Go.Proofs.Ytehkbffbehlpnaa
open Go.RowKit
namespace Ba
def Fair (l : List Op) : Prop := l.length ≤ 100 ∧ ∀ j (h : j < l.length), l[j].p.size ≤ 1000 ∧ l[j].v.size ≤ 1000
theorem Fair.mem {l : List Op} (h : Fair l) : ∀ o ∈ l, o.p.size ≤ 1000 ∧ o.v.size ≤ 1000 := fun o ho => by
  obtain ⟨j, hj, rfl⟩ := List.getElem_of_mem ho
  exact h.2 j hj
theorem fair_or (l : List Op) : ∃ g : Bool, g = true ↔ ¬ Fair l := by
  by_cases h : Fair l
  · exact ⟨false, by simp [h]⟩
  · exact ⟨true, by simp [h]⟩
end Ba
namespace Pa
theorem fair_or (l : List Mo) : ∃ g : Bool, g = true ↔ ¬ Fair l := by
  by_cases h : Fair l
  · exact ⟨false, by simp [h]⟩
  · exact ⟨true, by simp [h]⟩
end Pa
set_option maxRecDepth 100000 in
set_option maxHeartbeats 4000000 in
theorem greatOps_some (w : World) (b off c : Nat) (l : List Ba.Op) (hit : Ba.opsAt w b off l) (g : Bool) (hg : g = true ↔ ¬ Ba.Fair l) :
    Calls Try.prog 30 #[.slice (some ⟨b, off, none⟩) l.length c] w fun e w' => e = .returned (.bool g) ∧ w = w' := by
  have HIT := Lib.hid hit
  have HG := Lib.hid hg
  clear hit hg
  go_enter Try.func30, Try.ntmps30
  by_cases h100 : 100 < l.length
  · have h100i : (100 : Int) < l.length := by omega
    have hgt : g = true := HG.out.2 (fun hf => by have := hf.1; omega)
    subst hgt
    go_wp2
    go_ret
    exact ⟨by rfl, rfl⟩
  · have h100i : ¬ (100 : Int) < l.length := by omega
    go_wp2
    go_loop [3] (fun i => ∃ k : Nat, k ≤ l.length ∧ i = .int .i64 k ∧ ∀ j (_ : j < k) (h : j < l.length), l[j].p.size ≤ 1000 ∧ l[j].v.size ≤ 1000) (fun i => l.length - (intOf i).toNat)
    case atStart => exact ⟨0, Nat.zero_le _, rfl, by intro j hj; omega⟩
    case round =>
      obtain ⟨k, hk, rfl, hall⟩ := hrel
      have HA := Lib.hid hall
      clear hall
      by_cases hlt : k < l.length
      · have hlt1 : (k : Int) < l.length := by omega
        obtain ⟨c0, c1, c2⟩ := HIT.out k hlt
        obtain ⟨x, hx⟩ : ∃ x, x = l[k] := ⟨_, rfl⟩
        rw [← hx] at c0 c1 c2
        have HX := Lib.hid hx
        clear hx
        by_cases g1 : x.p.size ≤ 1000
        · have g1i : ¬ (1000 : Int) < x.p.size := by omega
          by_cases g2 : x.v.size ≤ 1000
          · have g2i : ¬ (1000 : Int) < x.v.size := by omega
            have hnext : ∀ j (_ : j < k + 1) (h : j < l.length), l[j].p.size ≤ 1000 ∧ l[j].v.size ≤ 1000 := fun j hj h => by
              by_cases e : j = k
              · subst e; rw [← HX.out]; exact ⟨g1, g2⟩
              · exact HA.out j (by omega) h
            have HN := Lib.hid hnext
            clear hnext
            have hsuc : IntKind.i64.wrap ((k : Int) + 1) = ((k + 1 : Nat) : Int) := by simp [IntKind.wrap, IntKind.bits, IntKind.signed]; omega
            go_wp2
            go_round
            case rel => exact ⟨k + 1, by omega, rfl, HN.out⟩
            case measure => simp [intOf]; omega
          · have g2i : (1000 : Int) < x.v.size := by omega
            have hgt : g = true := HG.out.2 (fun hf => g2 (by have := (hf.2 k hlt).2; rw [← HX.out] at this; exact this))
            subst hgt
            go_wp2
            go_ret
            exact ⟨rfl, rfl⟩
        · have g1i : (1000 : Int) < x.p.size := by omega
          have hgt : g = true := HG.out.2 (fun hf => g1 (by have := (hf.2 k hlt).1; rw [← HX.out] at this; exact this))
          subst hgt
          go_wp2
          go_ret
          exact ⟨rfl, rfl⟩
      · have hlt1 : ¬ (k : Int) < l.length := by omega
        have hgf : g = false := by
          cases hgc : g
          · rfl
          · exact absurd ⟨by omega, fun j h => HA.out j (by omega) h⟩ (HG.out.1 hgc)
        subst hgf
        go_wp2
        go_ret
        exact ⟨by rfl, rfl⟩
set_option maxRecDepth 100000 in
theorem greatOps_none (w : World) (A : Option Addr) (c : Nat) : Calls Try.prog 30 #[.slice A 0 c] w fun e w' => e = .returned (.bool false) ∧ w = w' := by
  go_enter Try.func30, Try.ntmps30
  go_wp2
  refine wp_loop_rounds 1 ?_
  rw [rounds_succ]
  go_wp2
  go_ret
  exact ⟨rfl, rfl⟩
theorem greatOps_any {w : World} {A : Option Addr} {c : Nat} {l : List Ba.Op} (hit : Ba.listAt w A l) (g : Bool) (hg : g = true ↔ ¬ Ba.Fair l) :
    Calls Try.prog 30 #[.slice A l.length c] w fun e w' => e = .returned (.bool g) ∧ w = w' := by
  rcases hit with rfl | ⟨b, off, rfl, -, hit⟩
  · have : g = false := by
      cases g
      · rfl
      · exact absurd ⟨by simp, fun j h => by simp at h⟩ (hg.1 rfl)
    subst this
    exact greatOps_none w A c
  · exact greatOps_some w b off c l hit g hg
end Go.Proofs.Ytehkbffbehlpnaa
