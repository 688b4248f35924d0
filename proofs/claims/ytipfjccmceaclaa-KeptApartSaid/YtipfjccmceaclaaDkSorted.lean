/-
  The numbers of a map, sorted: slices.Sorted(maps.Keys(m)).
-/
import Derived.Test.YtipfjccmceaclaaDkSeen
import Derived.Test.YtipfjccmceaclaaIter
namespace Go.Proofs.Ytipfjccmceaclaa
open Go.RowKit Go.Maps Go.Sort Go.Shelf
namespace Dk
theorem keys_of_reads {N : Nat} {F : Nat → Option Value} {D : DataW Value} (h : Reads N F D) (ht : ∃ es, D = .map es ∧ es.Pairwise (fun p q => p.1 ≠ q.1) ∧ ∀ p ∈ es, WideAt.IsKeyLit p.1) {ss : List Int} (hp : ss.Perm (intKeys D)) :
    ss.mergeSort (fun x y => decide (x ≤ y)) = ((List.range N).filter fun i => (F i).isSome).map (fun i : Nat => (i : Int)) := by
  obtain ⟨es, rfl, hd, hkl⟩ := ht
  have hall : ∀ p ∈ es, ∃ i, i < N ∧ p.1 = key i := fun p hp => h.keys p.1 (List.any_eq_true.2 ⟨p, hp, WideAt.sameKey_self (hkl p hp)⟩)
  have hnd : (es.map fun p => Go.intOf p.1).Nodup := by
    rw [List.Nodup, List.pairwise_map]
    refine hd.imp_of_mem ?_
    intro p q hp hq hne
    obtain ⟨i, _, e1⟩ := hall p hp
    obtain ⟨j, _, e2⟩ := hall q hq
    rw [e1, e2] at hne ⊢
    intro e
    simp only [Go.intOf] at e
    exact hne (by rw [show i = j by omega])
  have hnd2 : (((List.range N).filter fun i => (F i).isSome).map (fun i : Nat => (i : Int))).Nodup := by
    rw [List.Nodup, List.pairwise_map]
    refine ((List.nodup_range (n := N)).filter _).imp ?_
    intro a b hne e
    exact hne (by omega)
  have hperm : (es.map fun p => Go.intOf p.1).Perm (((List.range N).filter fun i => (F i).isSome).map (fun i : Nat => (i : Int))) := by
    rw [List.perm_ext_iff_of_nodup hnd hnd2]
    intro x
    simp only [List.mem_map, List.mem_filter, List.mem_range]
    constructor
    · rintro ⟨p, hp, rfl⟩
      obtain ⟨i, hi, e1⟩ := hall p hp
      have hh : Maps.has (.map es) (key i) = true := List.any_eq_true.2 ⟨p, hp, by rw [e1]; exact WideAt.sameKey_self (isKey i)⟩
      rw [h.has i hi] at hh
      exact ⟨i, ⟨hi, hh⟩, by rw [e1]; rfl⟩
    · rintro ⟨i, ⟨hi, hs⟩, rfl⟩
      rw [← h.has i hi] at hs
      obtain ⟨p, hp, hk⟩ := List.any_eq_true.1 hs
      exact ⟨p, hp, by rw [WideAt.sameKey_eq hk]; rfl⟩
  refine List.Perm.eq_of_pairwise (le := fun a b : Int => a ≤ b) (fun a b _ _ h1 h2 => by omega) ?_ ?_ (((List.mergeSort_perm ss _).trans hp).trans hperm)
  · have := List.pairwise_mergeSort (le := fun x y : Int => decide (x ≤ y)) (fun a b c h1 h2 => by simp at *; omega) (fun a b => by simp; omega) ss
    exact this.imp (fun h => by simpa using h)
  · rw [List.pairwise_map]
    refine ((List.pairwise_lt_range (n := N)).filter _).imp ?_
    intro a b hab
    omega
end Dk
theorem dkSorts (m : Nat) : AnyZI.SortsIn Try.prog Dk.sortedA_ren Fence.wide m :=
  ⟨fun blk off cap ss W hH hblk hsz => callsIn_wide.2 (AnyM.slices_Sort_int Dk.sortA blk off cap ss W hH hblk hsz),
   fun p cap W => callsIn_wide.2 (AnyM.slices_Sort_int_none Dk.sortA p cap W)⟩
theorem dkKeys_any (mb : Option Nat) (W : World) : Calls Try.prog 45 #[.map mb] W fun e w' => e = .returned (.func (.func 71) #[] #[.pointer (some ⟨W.heap.size, 0, none⟩)]) ∧ w' = W.alloc (.cells #[.map mb] 74) :=
  (callsIn_wide (n := 5)).1 (AnyZI.keys_in Dk.keysA Fence.wide 5 trivial rfl mb W)
set_option maxHeartbeats 1000000 in
theorem dkSorted_any {w : World} {b N : Nat} {F : Nat → Option Value} (h : Dk.MapAt Try.prog 3 w b N F) (hN : N ≤ 4096) :
    Calls Try.prog 44 #[.func (.func 71) #[] #[.pointer (some ⟨w.heap.size, 0, none⟩)]] (w.alloc (.cells #[.map (some b)] 74)) fun e w' =>
      ∃ v, e = .returned v ∧ w'.ownsRow w.heap.size 3 1 v ((List.range N).filter fun i => (F i).isSome).length (((List.range N).filter fun i => (F i).isSome).map fun i : Nat => .int .i64 (i : Int)) ∧ Below w.heap.size w w' := by
  obtain ⟨D, hown, hR⟩ := h
  have hent := hown.entries (int_keyed Try.underlying3)
  have hsz := hR.size hent
  have hbl := hown.lt
  have hseq : SeqGives Fence.wide 2 Try.prog 71 #[.pointer (some ⟨w.heap.size, 0, none⟩)] encZ (fun ss => ss.Perm (intKeys D)) (Maps.size D) (w.alloc (.cells #[.map (some b)] 74)) :=
    AnyZI.keys_gives (ρ := Dk.keysA_ren) { Dk.keysA with } Fence.wide _ trivial rfl (by omega) w.heap.size b N D _ (by simp) (by simp) (by
      obtain ⟨es, clock, hb, Ft, hs, hD⟩ := hown
      exact ⟨es, clock, (Below.heap_alloc _ _ b hbl).trans hb, Ft, hs, hD⟩)
  have cS := AnyZI.sorted_in Dk.sortedA Fence.wide 5 trivial trivial trivial trivial rfl (by omega) (dkSorts _) (enters_of Try.func70 (by kernel_rfl) rfl) 71 #[.pointer (some ⟨w.heap.size, 0, none⟩)] trivial (enters_of Try.func71 (by kernel_rfl) rfl) _ _ (by unfold maxLen; omega) (by omega) _ hseq
  change CallsIn _ _ Try.prog 44 _ _ _ at cS
  refine ((callsIn_wide (n := 5)).1 cS).mono ?_
  rintro e w' ⟨v, ss, rfl, hS, hrow, hnil, hb⟩
  have e1 := Dk.keys_of_reads hR hent hS
  have e2 := congrArg List.length e1
  rw [List.length_mergeSort, List.length_map] at e2
  rw [e1, e2, List.map_map] at hrow
  exact ⟨v, rfl, ownsRow_base_a hrow (by simp), ((Below.refl _ w).alloc (Nat.le_refl _) _).trans (hb.mono (by simp))⟩
end Go.Proofs.Ytipfjccmceaclaa
