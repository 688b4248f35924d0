/-
  What Twin of one that was written, and the law's Great, do.
-/
import Derived.Test.YtfnnoennmlnjeaaDoorShKnown
namespace Go.Proofs.YtfnnoennmlnjeaaDoor
open Go.RowKit
namespace Sm
theorem Is.grown {w w' : World} {b c : Nat} {t : List UInt8} (h : Is w b t) (k : w.grownBy w' (some c)) (hn : b ≠ c) : Is w' b t :=
  let ⟨wt, h1, h2, h3⟩ := h
  ⟨wt, h1, h2, (k.block b h3.lt (fun e => hn (Option.some.inj e))).trans h3⟩
theorem val_i64 {a b : Int} (h : a = b) : Value.int .i64 a = Value.int .i64 b := by rw [h]
/-- How many bytes the first k pieces have, each one counted with 20001 at most. -/
def gsum (l : List ByteArray) : Nat → Nat
  | 0 => 0
  | k + 1 => gsum l k + min (l.getD k ByteArray.empty).size 20001
theorem gsum_le (l : List ByteArray) (k : Nat) : gsum l k ≤ 20001 * k := by
  induction k with
  | zero => exact Nat.le_refl _
  | succ k ih => unfold gsum; omega
theorem gsum_at (l : List ByteArray) : ∀ (k i : Nat), i < k → min (l.getD i ByteArray.empty).size 20001 ≤ gsum l k
  | k + 1, i, h => by
    unfold gsum
    by_cases e : i = k
    · subst e; omega
    · have := gsum_at l k i (by omega); omega
def GreatTells (l : List ByteArray) (e : Ending) : Prop := ∃ g : Bool, e = .returned (.bool g) ∧ (g = false → l.length ≤ 200 ∧ ∀ i, i < l.length → (l.getD i ByteArray.empty).size ≤ 20000)
/-- The pieces lie where the slice says. -/
def strsAt (w : World) (A : Option Addr) (l : List ByteArray) : Prop := l = [] ∨ ∃ b o, A = some ⟨b, o, none⟩ ∧ b < w.heap.size ∧ ∀ i, i < l.length → w.cell? ⟨b, o + i, none⟩ = some (.string (l.getD i ByteArray.empty))
end Sm

set_option maxRecDepth 100000 in
set_option maxHeartbeats 2000000 in
theorem twin_any {w : World} {b : Nat} {t : List UInt8} (his : Sm.Is w b t) :
    Calls Tryd.prog 21 #[.pointer (some ⟨b, 0, none⟩)] w fun e w' => e = .returned (.pointer (some ⟨w.heap.size, 0, none⟩)) ∧ Below w.heap.size w w' ∧ Sm.Is w' w.heap.size t ∧ w'.heap.size = w.heap.size + 1 := by
  obtain ⟨wt, hwl, hwt, hat⟩ := his
  have hs74 := Sm.cells_size true (Sm.st t) wt t.length hwl
  have hinfo := Sm.infoSha hs74
  have hone := Sm.cells_one true (Sm.st t) wt t.length
  have hst : ∀ (c : Array Value), c.size = 74 → (storeCells ⟨w.heap.size, 0, none⟩ (Sm.cells true (Sm.st t) wt t.length).toList).run Tryd.prog (w.alloc (.cells c 47)) = .ok () (w.alloc (.cells (Sm.cells true (Sm.st t) wt t.length) 47)) := fun c hc =>
    run_storeCells_new (P := Tryd.prog) w 47 c (Sm.cells true (Sm.st t) wt t.length) hinfo (by rw [hs74]; exact hc) hone
  have hat : w.heap[b]? = some (.cells (Sm.cells true (Sm.st t) wt t.length) 47 (0, 0)) := hat
  have HWT := Lib.hid hwt
  obtain ⟨cs, hcs⟩ : ∃ cs, cs = Sm.cells true (Sm.st t) wt t.length := ⟨_, rfl⟩
  rw [← hcs] at hat hinfo hst hs74
  have HA1 := Lib.hid hat
  have HCS := Lib.hid hcs
  clear hwt hat hcs hone
  obtain ⟨zc, hzs, hzv⟩ := Sm.zero_made
  go_enter Tryd.func21, Tryd.ntmps21
  go_wp2_with (with_reducible refine wpList_load_row rfl 47 (.tmp 7) rfl b rfl 47 cs (0, 0) _ (by exact HA1.out) Tryd.underlying47 rfl (by exact hinfo) ?_)
  go_ret
  exact ⟨rfl, (Below.refl _ w).alloc (Nat.le_refl _) _, ⟨wt, hwl, HWT.out, by unfold Sm.At; rw [← HCS.out]; exact heap_alloc_new w _⟩, by simp⟩

set_option maxHeartbeats 2000000 in
theorem great_any {w : World} (A : Option Addr) (c : Nat) (l : List ByteArray) (hl : l.length ≤ 9223372036854775807) (hsl : ∀ i, (l.getD i ByteArray.empty).size ≤ 9223372036854775807) (hil : Sm.strsAt w A l) :
    Calls Tryd.prog 20 #[.slice A l.length c] w fun e w' => Sm.GreatTells l e ∧ w = w' := by
  have HSL := Lib.hid hsl
  have HIL := Lib.hid hil
  clear hsl hil
  go_enter Tryd.func20, Tryd.ntmps20
  go_wp2
  go_loop [3, 4] (fun n i => ∃ k : Nat, k ≤ l.length ∧ k ≤ 201 ∧ i = .int .i64 k ∧ n = .int .i64 (Sm.gsum l k)) (fun _ i => l.length - (intOf i).toNat)
  case atStart => exact ⟨0, by omega, by omega, rfl, rfl⟩
  case round =>
    obtain ⟨k, hk, hk2, rfl, rfl⟩ := hrel
    have hgs := Sm.gsum_le l k
    by_cases hlt : k < l.length ∧ k ≤ 200
    · obtain ⟨h1, h2⟩ := hlt
      rcases HIL.out with h0 | ⟨b, o, rfl, hb, hcs⟩
      · rw [h0] at h1; simp at h1
      · have hc := hcs k h1
        have hsz := HSL.out k
        have hgn : Sm.gsum l (k + 1) = Sm.gsum l k + min (l.getD k ByteArray.empty).size 20001 := rfl
        have HGN := Lib.hid hgn
        clear hgn hcs
        generalize l.getD k ByteArray.empty = p at *
        have h1i : (k : Int) < l.length := by omega
        have h2i : (k : Int) ≤ 200 := by omega
        go_wp2
        go_round
        case rel =>
          refine ⟨k + 1, by omega, by omega, by go_num, ?_⟩
          rw [HGN.out]
          exact Sm.val_i64 (by split <;> omega)
        case measure => simp [intOf]; omega
    · have hfin : ∀ g : Bool, g = decide (200 < l.length ∨ 20000 < Sm.gsum l k) → g = false → l.length ≤ 200 ∧ ∀ i, i < l.length → (l.getD i ByteArray.empty).size ≤ 20000 := by
        intro g hg hf
        rw [hf] at hg
        have h3 : ¬ (200 < l.length ∨ 20000 < Sm.gsum l k) := by simpa using hg.symm
        have hkl : k = l.length := by omega
        refine ⟨by omega, fun i hi => ?_⟩
        have := Sm.gsum_at l k i (by omega)
        omega
      have HFIN := Lib.hid hfin
      clear hfin
      by_cases hkl : k < l.length
      · have hk3 : k = 201 := by omega
        have e1 : (k : Int) < l.length := by omega
        have e2 : ¬ (k : Int) ≤ 200 := by omega
        have e3 : (200 : Int) < l.length := by omega
        have E4 : Hid (200 < l.length) := by show 200 < l.length; omega
        clear hlt hk3
        go_wp2
        go_ret
        exact ⟨⟨true, rfl, fun h => by cases h⟩, rfl⟩
      · have e1 : ¬ (k : Int) < l.length := by omega
        by_cases h5 : 200 < l.length
        · have e3 : (200 : Int) < l.length := by omega
          clear hlt
          go_wp2
          go_ret
          exact ⟨⟨true, rfl, fun h => by cases h⟩, rfl⟩
        · have e3 : ¬ (200 : Int) < l.length := by omega
          by_cases h6 : 20000 < Sm.gsum l k
          · have e4 : (20000 : Int) < Sm.gsum l k := by omega
            clear hlt
            go_wp2
            go_ret
            exact ⟨⟨true, rfl, fun h => by cases h⟩, rfl⟩
          · have e4 : ¬ (20000 : Int) < Sm.gsum l k := by omega
            clear hlt
            go_wp2
            go_ret
            exact ⟨⟨false, rfl, HFIN.out false (by simp [h5, h6])⟩, rfl⟩
end Go.Proofs.YtfnnoennmlnjeaaDoor
