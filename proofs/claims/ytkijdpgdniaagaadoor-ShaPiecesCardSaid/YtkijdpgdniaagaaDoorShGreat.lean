/-
  What the law's Great does.
-/
import Derived.Test.YtkijdpgdniaagaaDoorShLow
namespace Go.Proofs.YtkijdpgdniaagaaDoor
open Go.RowKit
namespace Sm
theorem val_i64 {a b : Int} (h : a = b) : Value.int .i64 a = Value.int .i64 b := by rw [h]
/-- How many bytes the first k pieces have, each one counted with 20001 at most. -/
def gsum (l : List ByteArray) : Nat → Nat
  | 0 => 0
  | k + 1 => gsum l k + min (l.getD k ByteArray.empty).size 20001
theorem gsum_le (l : List ByteArray) (k : Nat) : gsum l k ≤ 20001 * k := by
  induction k with
  | zero => exact Nat.le_refl _
  | succ k ih => unfold gsum; omega
theorem gsum_at (l : List ByteArray) : ∀ (k i : Nat), i < k → min (l.getD i ByteArray.empty).size 20001 ≤ gsum l k
  | k + 1, i, h => by
    unfold gsum
    by_cases e : i = k
    · subst e; omega
    · have := gsum_at l k i (by omega); omega
def GreatTells (l : List ByteArray) (e : Ending) : Prop := ∃ g : Bool, e = .returned (.bool g) ∧ (g = false → l.length ≤ 200 ∧ ∀ i, i < l.length → (l.getD i ByteArray.empty).size ≤ 20000)
/-- The pieces lie where the slice says. -/
def strsAt (w : World) (A : Option Addr) (l : List ByteArray) : Prop := l = [] ∨ ∃ b o, A = some ⟨b, o, none⟩ ∧ b < w.heap.size ∧ ∀ i, i < l.length → w.cell? ⟨b, o + i, none⟩ = some (.string (l.getD i ByteArray.empty))
end Sm

set_option maxHeartbeats 2000000 in
theorem great_any {w : World} (A : Option Addr) (c : Nat) (l : List ByteArray) (hl : l.length ≤ 9223372036854775807) (hsl : ∀ i, (l.getD i ByteArray.empty).size ≤ 9223372036854775807) (hil : Sm.strsAt w A l) :
    Calls Tryd.prog 20 #[.slice A l.length c] w fun e w' => Sm.GreatTells l e ∧ w = w' := by
  have HSL := Lib.hid hsl
  have HIL := Lib.hid hil
  clear hsl hil
  go_enter Tryd.func20, Tryd.ntmps20
  go_wp2
  go_loop [3, 4] (fun n i => ∃ k : Nat, k ≤ l.length ∧ k ≤ 201 ∧ i = .int .i64 k ∧ n = .int .i64 (Sm.gsum l k)) (fun _ i => l.length - (intOf i).toNat)
  case atStart => exact ⟨0, by omega, by omega, rfl, rfl⟩
  case round =>
    obtain ⟨k, hk, hk2, rfl, rfl⟩ := hrel
    have hgs := Sm.gsum_le l k
    by_cases hlt : k < l.length ∧ k ≤ 200
    · obtain ⟨h1, h2⟩ := hlt
      rcases HIL.out with h0 | ⟨b, o, rfl, hb, hcs⟩
      · rw [h0] at h1; simp at h1
      · have hc := hcs k h1
        have hsz := HSL.out k
        have hgn : Sm.gsum l (k + 1) = Sm.gsum l k + min (l.getD k ByteArray.empty).size 20001 := rfl
        have HGN := Lib.hid hgn
        clear hgn hcs
        generalize l.getD k ByteArray.empty = p at *
        have h1i : (k : Int) < l.length := by omega
        have h2i : (k : Int) ≤ 200 := by omega
        go_wp2
        go_round
        case rel =>
          refine ⟨k + 1, by omega, by omega, by go_num, ?_⟩
          rw [HGN.out]
          exact Sm.val_i64 (by split <;> omega)
        case measure => simp [intOf]; omega
    · have hfin : ∀ g : Bool, g = decide (200 < l.length ∨ 20000 < Sm.gsum l k) → g = false → l.length ≤ 200 ∧ ∀ i, i < l.length → (l.getD i ByteArray.empty).size ≤ 20000 := by
        intro g hg hf
        rw [hf] at hg
        have h3 : ¬ (200 < l.length ∨ 20000 < Sm.gsum l k) := by simpa using hg.symm
        have hkl : k = l.length := by omega
        refine ⟨by omega, fun i hi => ?_⟩
        have := Sm.gsum_at l k i (by omega)
        omega
      have HFIN := Lib.hid hfin
      clear hfin
      by_cases hkl : k < l.length
      · have hk3 : k = 201 := by omega
        have e1 : (k : Int) < l.length := by omega
        have e2 : ¬ (k : Int) ≤ 200 := by omega
        have e3 : (200 : Int) < l.length := by omega
        have E4 : Hid (200 < l.length) := by show 200 < l.length; omega
        clear hlt hk3
        go_wp2
        go_ret
        exact ⟨⟨true, rfl, fun h => by cases h⟩, rfl⟩
      · have e1 : ¬ (k : Int) < l.length := by omega
        by_cases h5 : 200 < l.length
        · have e3 : (200 : Int) < l.length := by omega
          clear hlt
          go_wp2
          go_ret
          exact ⟨⟨true, rfl, fun h => by cases h⟩, rfl⟩
        · have e3 : ¬ (200 : Int) < l.length := by omega
          by_cases h6 : 20000 < Sm.gsum l k
          · have e4 : (20000 : Int) < Sm.gsum l k := by omega
            clear hlt
            go_wp2
            go_ret
            exact ⟨⟨true, rfl, fun h => by cases h⟩, rfl⟩
          · have e4 : ¬ (20000 : Int) < Sm.gsum l k := by omega
            clear hlt
            go_wp2
            go_ret
            exact ⟨⟨false, rfl, HFIN.out false (by simp [h5, h6])⟩, rfl⟩
end Go.Proofs.YtkijdpgdniaagaaDoor
