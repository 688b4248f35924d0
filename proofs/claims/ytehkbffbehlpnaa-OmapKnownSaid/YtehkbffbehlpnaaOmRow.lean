/-
  A map's paths in their row: slices.Sorted(maps.Keys(m)).
-/
import Derived.Test.YtehkbffbehlpnaaOmFns
import Derived.Test.YtehkbffbehlpnaaOwn
import Derived.Test.YtehkbffbehlpnaaIterS
namespace Go.Proofs.Ytehkbffbehlpnaa
open Go.RowKit Go.Maps Go.Sort Go.Shelf
namespace Om
theorem less_lt : ∀ x y : List UInt8, Op.bytesLess x y = true ↔ x < y
  | [], [] => by simp [Op.bytesLess]
  | [], b :: y => by simp [Op.bytesLess]
  | a :: x, [] => by simp [Op.bytesLess]
  | a :: x, b :: y => by
    have ih := less_lt x y
    rw [Op.bytesLess, List.cons_lt_cons_iff]
    simp only [Bool.or_eq_true, decide_eq_true_eq, Bool.and_eq_true, beq_iff_eq, ih]
theorem lt_iff (a b : ByteArray) : lt a b = true ↔ a.data.toList < b.data.toList := less_lt _ _
theorem keys_dat (l : List Pr) : strKeys (dat l) = l.map fun x => x.p.data.toList := by
  simp [strKeys, dat, ent, key, strOf]
theorem sorted_row {l : List Pr} (h : Rises l) {ss : List (List UInt8)} (hp : ss.Perm (strKeys (dat l))) : ss.mergeSort (fun x y => decide (x ≤ y)) = l.map fun x => x.p.data.toList := by
  rw [keys_dat] at hp
  refine List.Perm.eq_of_pairwise (le := fun a b : List UInt8 => a ≤ b) (fun a b _ _ h1 h2 => List.le_antisymm h1 h2) ?_ ?_ ((List.mergeSort_perm ss _).trans hp)
  · have := List.pairwise_mergeSort (le := fun x y : List UInt8 => decide (x ≤ y)) (fun a b c h1 h2 => by
      simp only [decide_eq_true_eq] at *
      exact List.le_trans h1 h2) (fun a b => by
      simp only [Bool.or_eq_true, decide_eq_true_eq]
      exact List.le_total a b) ss
    exact this.imp (fun h => by simpa using h)
  · rw [List.pairwise_map]
    exact h.imp fun hab => List.le_of_lt ((lt_iff _ _).1 hab)
end Om
theorem omSorts (m : Nat) : AnyZ.SortsIn Try.prog Om.sortedA_ren Fence.wide m :=
  ⟨fun blk off cap ss W hH hblk hsz => callsIn_wide.2 (AnyM.slices_Sort_string Om.sortA blk off cap ss W hH hblk hsz),
   fun p cap W => callsIn_wide.2 (AnyM.slices_Sort_string_none Om.sortA p cap W)⟩
theorem keysPair_any (mb : Option Nat) (W : World) : Calls Try.prog 68 #[.map mb] W fun e w' => e = .returned (.func (.func 78) #[] #[.pointer (some ⟨W.heap.size, 0, none⟩)]) ∧ w' = W.alloc (.cells #[.map mb] 69) :=
  (callsIn_wide (n := 5)).1 (AnyZ.keys_in Om.keysA Fence.wide 5 trivial rfl mb W)
/-- A row of texts, of one's own. -/
def Om.strs (l : List Om.Pr) : List Value := l.map fun x => .string x.p
theorem Om.enc_strs (l : List Om.Pr) : (l.map fun x => x.p.data.toList).map encStr = Om.strs l := by
  unfold Om.strs
  rw [List.map_map]
  refine List.map_congr_left fun x _ => ?_
  show Value.string ⟨x.p.data.toList.toArray⟩ = .string x.p
  rw [Ba.ba_eq]
set_option maxHeartbeats 1000000 in
theorem sortedStr_any {w : World} {mb : Option Nat} {l : List Om.Pr} (h : Om.HasP w mb l) (hl : l.length ≤ 4096) :
    Calls Try.prog 67 #[.func (.func 78) #[] #[.pointer (some ⟨w.heap.size, 0, none⟩)]] (w.alloc (.cells #[.map mb] 69)) fun e w' =>
      ∃ v, e = .returned v ∧ w'.ownsRow w.heap.size 9 1 v l.length (Om.strs l) ∧ Below w.heap.size w w' := by
  rcases h with ⟨rfl, rfl⟩ | ⟨b, rfl, h⟩
  · have hseq : SeqGives Fence.wide 2 Try.prog 78 #[.pointer (some ⟨w.heap.size, 0, none⟩)] encStr (fun ss : List (List UInt8) => ss = []) 0 (w.alloc (.cells #[.map none] 69)) :=
      AnyZ.keys_gives_nil (ρ := Om.keysA_ren) { Om.keysA with } Fence.wide _ trivial rfl w.heap.size _ (by simp) (by simp)
    have cS := AnyZ.sorted_in Om.sortedA Fence.wide 5 trivial trivial trivial trivial rfl (by omega) (omSorts _) (enters_of Try.func77 (by kernel_rfl) rfl) 78 #[.pointer (some ⟨w.heap.size, 0, none⟩)] trivial (enters_of Try.func78 (by kernel_rfl) rfl) _ 0 (Nat.zero_le _) (by omega) _ hseq
    change CallsIn _ _ Try.prog 67 _ _ _ at cS
    refine ((callsIn_wide (n := 5)).1 cS).mono ?_
    rintro e w' ⟨v, ss, rfl, rfl, hrow, hnil, hb⟩
    rw [List.mergeSort_nil] at hrow
    change w'.ownsRow _ 9 1 v 0 [] at hrow
    exact ⟨v, rfl, ownsRow_base_a hrow (by simp), ((Below.refl _ w).alloc (Nat.le_refl _) _).trans (hb.mono (by simp))⟩
  · have hR := h.rises
    have hown := h.own
    have hbl := hown.lt
    have hseq : SeqGives Fence.wide 2 Try.prog 78 #[.pointer (some ⟨w.heap.size, 0, none⟩)] encStr (fun ss => ss.Perm (strKeys (Om.dat l))) (Maps.size (Om.dat l)) (w.alloc (.cells #[.map (some b)] 69)) :=
      AnyZ.keys_gives (ρ := Om.keysA_ren) { Om.keysA with } Fence.wide _ trivial rfl (by omega) w.heap.size b l.length (Om.dat l) _ (by simp) (by simp) (by
        obtain ⟨es, clock, hb, Ft, hs, hD⟩ := hown
        exact ⟨es, clock, (Below.heap_alloc _ _ b hbl).trans hb, Ft, hs, hD⟩)
    have cS := AnyZ.sorted_in Om.sortedA Fence.wide 5 trivial trivial trivial trivial rfl (by omega) (omSorts _) (enters_of Try.func77 (by kernel_rfl) rfl) 78 #[.pointer (some ⟨w.heap.size, 0, none⟩)] trivial (enters_of Try.func78 (by kernel_rfl) rfl) _ _ (by rw [Om.dat_size]; unfold maxLen; omega) (by rw [Om.dat_size]; omega) _ hseq
    change CallsIn _ _ Try.prog 67 _ _ _ at cS
    refine ((callsIn_wide (n := 5)).1 cS).mono ?_
    rintro e w' ⟨v, ss, rfl, hS, hrow, hnil, hb⟩
    have e1 := Om.sorted_row hR hS
    have e2 := congrArg List.length e1
    rw [List.length_mergeSort, List.length_map] at e2
    rw [e1, e2, Om.enc_strs] at hrow
    exact ⟨v, rfl, ownsRow_base_a hrow (by simp), ((Below.refl _ w).alloc (Nat.le_refl _) _).trans (hb.mono (by simp))⟩
set_option maxRecDepth 100000 in
theorem omRow_any {w : World} {v : Value} {mb : Option Nat} {l : List Om.Pr} (h : Om.Ptr w v mb l) (hl : l.length ≤ 4096) :
    Calls Try.prog 48 #[v] w fun e w' => ∃ A c, e = .returned (.slice A l.length c) ∧ w'.ownsRow w.heap.size 9 1 (.slice A l.length c) l.length (Om.strs l) ∧ Below w.heap.size w w' := by
  have C := Lib.hid (omHas_any h)
  have K := Lib.hid (keysPair_any mb w)
  have SO := Lib.hid (sortedStr_any h.has hl)
  clear h
  go_enter Try.func48, Try.ntmps48
  go_wp2_with first | (go_at_call 46; refine C.out.mono ?_; rintro e w' ⟨rfl, rfl⟩) | (go_at_call 68; refine K.out.mono ?_; rintro e w' ⟨rfl, rfl⟩) | (go_at_call 67; refine SO.out.mono ?_; rintro e w1 ⟨u, rfl, hrow, hb⟩)
  go_ret
  obtain ⟨A, c, rfl⟩ := Sm.own_shape hrow
  exact ⟨A, c, rfl, hrow, hb⟩
end Go.Proofs.Ytehkbffbehlpnaa
