/-
  What slices.Clone makes of a row of sectors.
-/
import Derived.Test.YtimbcmcmidnlfaaDkAppend
import Derived.Lib.SliceRun
namespace Go.Proofs.Ytimbcmcmidnlfaa
open Go.RowKit
set_option maxRecDepth 100000 in
set_option maxHeartbeats 1000000 in
theorem dkClone_any {w : World} {b c : Nat} {l : List (List UInt8)} (h : Dk.RowAt w b c l) (h0 : l ≠ []) (hroom : l.length ≤ 1099511627776) :
    Calls Try.prog 67 #[.slice (some ⟨b, 0, none⟩) l.length c] w fun e w' => ∃ g c', e = .returned (.slice (some ⟨g, 0, none⟩) l.length c') ∧ Dk.RowAt w' g c' l ∧ w.heap.size ≤ g ∧ Below w.heap.size w w' := by
  obtain ⟨i0, hi, hz0, hz1, hz2⟩ := info_parts Dk.info3_sec
  have hq : ∀ (w : World) (a : Option Addr) (n c n' c' : Nat), (binOp .eql 83 (.slice a n c) (.slice none n' c')).run Try.prog w = .ok (.bool a.isNone) w := fun w a n c n' c' => Lib.run_eql_slice_nil w _ _ a n c n' c' Try.underlying83
  have hsec := h.sec
  have hzs : (Value.agg (Sm.rowB 64 [])).cells.size = 64 := by show (Sm.rowB 64 []).size = 64; exact Sm.rowB_size (by simp)
  have A : Aside (∀ j u, (Dk.flat l)[j]? = some u → w.cell? ⟨b, j, none⟩ = some u) := by
    intro j u hj
    obtain ⟨cur, h1, h2, h3⟩ := h.row
    rw [← h3, List.getElem?_take] at hj
    split at hj
    · simp only [World.cell?, h1]; simpa using hj
    · cases hj
  have HF := Lib.hid (Dk.flat_length hsec)
  have hlp : 0 < l.length := List.length_pos_iff.2 h0
  clear h
  go_enter Try.func67, Try.ntmps67
  go_wp2_with (at_builtin; refine wpList_append_own _ rfl _ _ 83 rfl w.heap.size 101 i0 _ 64 64 Try.underlying83 hi hz0 hz1 hz2 hzs (by decide) _ _ _ rfl (World.ownsRow_made w #[] 0 (Nat.le_refl _) (Nat.zero_le _) rfl) ⟨b, 0, none⟩ l.length c (Dk.flat l) rfl ?qc1 ?qc2 ?qc3 ?qc4 ?qc5 ?qc6 ?_)
  case qc1 => exact HF.out
  case qc2 =>
    intro j u hj
    rw [Addr.add_lit]
    refine Lib.cell?_alloc_some _ ?_
    rw [Nat.zero_add]
    exact A.out j u hj
  case qc3 => exact Dk.flat_one l
  case qc4 => unfold maxLen; omega
  case qc5 => omega
  case qc6 => simp
  intro v' w1 hown hgrow hnil
  go_wp2
  go_ret
  obtain ⟨g, c', rfl, hR, hB, _⟩ := Dk.RowAt.of_own hown rfl (by omega) hsec
  exact ⟨g, c', rfl, hR, hB, ((Below.refl _ w).alloc (Nat.le_refl _) _).grown hgrow (by simp) (by intro k hk; simp [Value.ownBlock] at hk; omega)⟩
end Go.Proofs.Ytimbcmcmidnlfaa
