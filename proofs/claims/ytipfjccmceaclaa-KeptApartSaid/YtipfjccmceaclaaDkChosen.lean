/-
  What disk's chosen tells, and Waits.
-/
import Derived.Test.YtipfjccmceaclaaDkRead
import Derived.Maps.RangeWalk
namespace Go.Proofs.Ytipfjccmceaclaa
open Go.RowKit
namespace Dk
/-- A slice of numbers. -/
def IntsAt (w : World) (v : Value) (l : List Int) : Prop := ∃ A c, v = .slice A l.length c ∧ l.length ≤ 9223372036854775807 ∧ (∀ i, -9223372036854775808 ≤ l.getD i 0 ∧ l.getD i 0 ≤ 9223372036854775807) ∧
  (l = [] ∨ ∃ b o, A = some ⟨b, o, none⟩ ∧ b < w.heap.size ∧ ∀ i, i < l.length → w.cell? ⟨b, o + i, none⟩ = some (.int .i64 (l.getD i 0)))
theorem IntsAt.block {w w' : World} {v : Value} {l : List Int} (h : IntsAt w v l) (k : l ≠ [] → ∀ b o A n c, v = .slice A n c → A = some ⟨b, o, none⟩ → b < w.heap.size → w'.heap[b]? = w.heap[b]?) (hs : w.heap.size ≤ w'.heap.size) : IntsAt w' v l := by
  obtain ⟨A, c, h1, h2, h3, h4⟩ := h
  by_cases e : l = []
  · exact ⟨A, c, h1, h2, h3, .inl e⟩
  · rcases h4 with h4 | ⟨b, o, h5, h6, h7⟩
    · exact absurd h4 e
    · exact ⟨A, c, h1, h2, h3, .inr ⟨b, o, h5, by omega, fun i hi => by rw [World.cell?_of_block (a := ⟨b, o + i, none⟩) (k e b o A _ c h1 h5 h6)]; exact h7 i hi⟩⟩
theorem IntsAt.below {w w' : World} {v : Value} {l : List Int} (h : IntsAt w v l) (k : Below w.heap.size w w') : IntsAt w' v l := h.block (fun _ b _ _ _ _ _ _ hb => k.block b hb) k.size
theorem tmod_emod (a : Int) (n : Nat) : (if a.tmod ((n : Int) + 1) < 0 then a.tmod ((n : Int) + 1) + ((n : Int) + 1) else a.tmod ((n : Int) + 1)) = a % ((n : Int) + 1) := by
  have h1 := Int.emod_nonneg a (show ((n : Int) + 1) ≠ 0 by omega)
  have h2 := Int.emod_lt_of_pos a (show (0 : Int) < (n : Int) + 1 by omega)
  rw [Int.tmod_eq_emod]
  have e : ((n : Int) + 1).natAbs = n + 1 := by omega
  rw [e]
  split <;> split <;> omega
theorem chosen_eq (l : List Int) (k n : Nat) : ((chosen l k n : Nat) : Int) = l.getD k 0 % ((n : Int) + 1) := by
  unfold chosen
  have := Int.emod_nonneg (l.getD k 0) (show ((n : Int) + 1) ≠ 0 by omega)
  omega
theorem sum_same : ∀ (N : Nat) {f f' : Nat → Nat}, (∀ j, j < N → f' j = f j) → ((List.range N).map f').sum = ((List.range N).map f).sum
  | 0, _, _, _ => rfl
  | N + 1, f, f', h => by
    rw [List.range_succ, List.map_append, List.map_append, List.sum_append, List.sum_append, sum_same N (fun j hj => h j (by omega))]
    simp [h N (by omega)]
theorem sum_at : ∀ (N : Nat) {f f' : Nat → Nat} {i d : Nat}, i < N → (∀ j, j ≠ i → f' j = f j) → f' i = f i + d → ((List.range N).map f').sum = ((List.range N).map f).sum + d
  | 0, _, _, _, _, h, _, _ => absurd h (by omega)
  | N + 1, f, f', i, d, hi, h1, h2 => by
    rw [List.range_succ, List.map_append, List.map_append, List.sum_append, List.sum_append]
    by_cases e : i = N
    · subst e
      rw [sum_same i (fun j hj => h1 j (by omega))]
      simp [h2]; omega
    · rw [sum_at N (by omega) h1 h2]
      simp [h1 N (fun e2 => e e2.symm)]; omega
theorem sum_le : ∀ (N : Nat) {f f' : Nat → Nat}, (∀ j, j < N → f j ≤ f' j) → ((List.range N).map f).sum ≤ ((List.range N).map f').sum
  | 0, _, _, _ => Nat.le_refl _
  | N + 1, f, f', h => by
    rw [List.range_succ, List.map_append, List.map_append, List.sum_append, List.sum_append]
    have := sum_le N (f := f) (f' := f') (fun j hj => h j (by omega))
    have := h N (by omega)
    simp; omega
/-- The writes of the sectors that are told already. -/
def told (M : Md) (left : Nat → Bool) : Nat := ((List.range M.lasts.length).map fun i => if left i then 0 else (M.W i).length).sum
theorem told_le (M : Md) (left : Nat → Bool) : told M left ≤ waits M := sum_le _ fun j _ => by split <;> omega
end Dk
set_option maxRecDepth 100000 in
theorem dkChosen_any {w : World} {v : Value} {l : List Int} (h : Dk.IntsAt w v l) (k n : Nat) (hn : n ≤ 1099511627776) :
    Calls Try.prog 46 #[v, .int .i64 (k : Int), .int .i64 (n : Int)] w fun e w' => e = .returned (.int .i64 (Dk.chosen l k n : Nat)) ∧ w = w' := by
  rw [Dk.chosen_eq]
  obtain ⟨A, c, rfl, hl, hb, hA⟩ := h
  by_cases hkl : k < l.length
  · rcases hA with rfl | ⟨b, o, rfl, _, hc⟩
    · simp at hkl
    have hcell := hc k hkl
    have hbk := hb k
    rw [← Dk.tmod_emod]
    clear hc hb
    generalize l.getD k 0 = x at *
    have hx1 : -((n : Int) + 1) < x.tmod ((n : Int) + 1) ∧ x.tmod ((n : Int) + 1) < (n : Int) + 1 := by
      have := Int.tmod_lt_of_pos x (show (0 : Int) < (n : Int) + 1 by omega)
      have := Int.lt_tmod_of_pos x (show (0 : Int) < (n : Int) + 1 by omega)
      omega
    have hw0 : IntKind.i64.wrap ((n : Int) + 1) = (n : Int) + 1 := by simp [IntKind.wrap, IntKind.bits, IntKind.signed]; omega
    have hw1 : IntKind.i64.wrap (x.tmod ((n : Int) + 1)) = x.tmod ((n : Int) + 1) := by
      generalize x.tmod ((n : Int) + 1) = y at *
      simp [IntKind.wrap, IntKind.bits, IntKind.signed]; omega
    have hw2 : IntKind.i64.wrap (x.tmod ((n : Int) + 1) + ((n : Int) + 1)) = x.tmod ((n : Int) + 1) + ((n : Int) + 1) := by
      generalize x.tmod ((n : Int) + 1) = y at *
      simp [IntKind.wrap, IntKind.bits, IntKind.signed]; omega
    have hne : ¬ ((n : Int) + 1 = 0) := by omega
    have hkl2 : (k : Int) < (l.length : Int) := by omega
    by_cases hneg : x.tmod ((n : Int) + 1) < 0
    · rw [if_pos hneg]
      go_enter Try.func46, Try.ntmps46
      go_wp2
      go_ret
      exact ⟨rfl, rfl⟩
    · rw [if_neg hneg]
      go_enter Try.func46, Try.ntmps46
      go_wp2
      go_ret
      exact ⟨rfl, rfl⟩
  · rw [List.getD_eq_getElem?_getD, List.getElem?_eq_none (by omega)]
    have hkl2 : ¬ (k : Int) < (l.length : Int) := by omega
    have e : (none : Option Int).getD 0 % ((n : Int) + 1) = 0 := by simp
    rw [e]
    clear hA hb
    go_enter Try.func46, Try.ntmps46
    go_wp2
    go_ret
    exact ⟨rfl, rfl⟩
set_option maxRecDepth 100000 in
theorem dkWaits_none {w : World} {v : Value} (h : Dk.None w v) :
    Calls Try.prog 29 #[v] w fun e w' => e = .returned (.int .i64 0) ∧ w = w' := by
  have NO := Lib.hid (dkNone_is h)
  clear h
  go_enter Try.func29, Try.ntmps29
  go_wp2_with (go_at_call 43; refine NO.out.mono ?_; rintro e w' ⟨rfl, rfl⟩)
  go_ret
  exact ⟨rfl, rfl⟩
set_option maxRecDepth 100000 in
set_option maxHeartbeats 1000000 in
theorem dkWaits_parts {w : World} {r m b c : Nat} {g : Nat → Nat} {F : Nat → Option Value} {M : Dk.Md} (h : Dk.Parts w r m b c g F M) (hsum : Dk.waits M ≤ 1099511627776) :
    Calls Try.prog 29 #[.pointer (some ⟨r, 0, none⟩)] w fun e w' => e = .returned (.int .i64 (Dk.waits M : Nat)) ∧ Below w.heap.size w w' := by
  have NO := Lib.hid (dkNone_not h.c1)
  have H := Lib.hid h
  have c1 := h.c1
  obtain ⟨w0, cnt0, hrun, hrg0, hg0, hs0⟩ := h.map.range Try.underlying3 Try.underlying74
  have HG0 := Lib.hid hg0
  have HR0 := Lib.hid hrg0
  clear h hg0 hrg0
  go_enter Try.func29, Try.ntmps29
  go_wp2_with (go_at_call 43; refine NO.out.mono ?_; rintro e w' ⟨rfl, rfl⟩)
  have ht0 : Dk.told M (fun i => decide (i < M.lasts.length) && (F i).isSome) = 0 := by
    unfold Dk.told
    rw [Dk.sum_same M.lasts.length (f := fun _ => 0)]
    · generalize M.lasts.length = n
      induction n with
      | zero => rfl
      | succ n ih => rw [List.range_succ, List.map_append, List.sum_append, ih]; rfl
    · intro j hj
      by_cases hw : M.W j = []
      · simp [hw]
      · obtain ⟨cj, e, _⟩ := H.out.wait j hj hw
        simp [hj, e]
  go_loopw [3, 5] (fun a b5 wr => (∃ left cnt, a = .int .i64 (Dk.told M left : Nat) ∧ Dk.RangeAt Try.prog 3 wr m w.heap.size M.lasts.length F left cnt ∧ (∀ i, M.lasts.length ≤ i → left i = false)) ∧ Below w.heap.size w wr) (fun _ _ wr => wr.rangeLeft m w.heap.size)
  case atStart => exact ⟨⟨_, cnt0, by rw [ht0]; rfl, HR0.out, fun i hi => by simp [show ¬ i < M.lasts.length by omega]⟩, (Below.refl _ w).grown HG0.out (Nat.le_refl _) (fun k e => by cases e)⟩
  case round =>
    obtain ⟨⟨left, cnt, rfl, hrg, hout⟩, hbl⟩ := hrel
    have HRG := Lib.hid hrg
    have HB := Lib.hid hbl
    have HO := Lib.hid hout
    have htl := Dk.told_le M left
    rcases hrg.next Try.underlying3 0 with ⟨hall, hnext⟩ | ⟨i, v, w2, cnt2, hi, hl, hF, hnext, hrg2, hlt, hg2, hs2, hen⟩
    · have e : Dk.told M left = Dk.waits M := Dk.sum_same _ fun j _ => by simp [hall j]
      rw [e]
      clear hrg hbl hout hall e htl
      go_wp2
      go_ret
      exact ⟨rfl, HB.out⟩
    · have hw : M.W i ≠ [] := fun e => by rw [H.out.idle i hi e] at hF; cases hF
      obtain ⟨ci, hF2, hR⟩ := H.out.wait i hi hw
      rw [hF] at hF2
      obtain rfl := Option.some.inj hF2
      have hstep : Dk.told M (fun j => left j && !decide (j = i)) = Dk.told M left + (M.W i).length := Dk.sum_at _ hi (fun j hj => by simp [hj]) (by simp [hl])
      have htl2 := Dk.told_le M (fun j => left j && !decide (j = i))
      rw [hstep] at htl2
      have HRG2 := Lib.hid hrg2
      have HG2 := Lib.hid hg2
      have HST := Lib.hid hstep
      have hwr : IntKind.i64.wrap (((Dk.told M left : Nat) : Int) + ((M.W i).length : Nat)) = ((Dk.told M left + (M.W i).length : Nat) : Int) := by
        generalize Dk.told M left = x at *
        generalize (M.W i).length = y at *
        simp [IntKind.wrap, IntKind.bits, IntKind.signed]; omega
      clear hrg hbl hout hrg2 hg2 hs2 hstep hF hw hR hF2 htl htl2 hsum
      go_wp2
      go_roundw
      case rel => exact ⟨⟨_, cnt2, by rw [HST.out, Int.natCast_add], HRG2.out, fun j hj => by simp [HO.out j hj]⟩, HB.out.grown HG2.out HB.out.size (fun k e => by cases e; exact Nat.le_refl _)⟩
      case measure => rw [HRG2.out.left_eq, HRG.out.left_eq]; exact hlt
end Go.Proofs.Ytipfjccmceaclaa
