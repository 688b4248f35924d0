/-
  What disk's New makes.
-/
import Derived.Test.YtipfjccmceaclaaDkSeen
import Derived.Carry
import Derived.OwnWalk
namespace Go.Proofs.Ytipfjccmceaclaa
open Go.RowKit
namespace Dk
theorem info3_sec : (Try.prog.info? 106).map (fun i => (i.zero, i.size, i.bytes)) = some (some (.agg (Sm.rowB 64 [])), 64, 64) := by kernel_rfl
theorem rowB_zero : (Sm.rowB 64 []).toList = List.replicate 64 (.int .u8 0) := by simp [Sm.rowB, Lib.byteCells]
theorem flat_blank : ∀ n, flat (List.replicate n blank) = List.replicate (n * 64) (.int .u8 0)
  | 0 => rfl
  | n + 1 => by
    rw [List.replicate_succ, show flat (blank :: List.replicate n blank) = Lib.byteCells blank ++ flat (List.replicate n blank) from rfl, flat_blank n, show Lib.byteCells blank = List.replicate 64 (.int .u8 0) by simp [Lib.byteCells, blank], List.replicate_append_replicate, show (n + 1) * 64 = 64 + n * 64 by omega]
theorem made_blank (n : Nat) : (madeCells (Value.agg (Sm.rowB 64 [])).cells (n * 64)).toList = flat (List.replicate n blank) := by
  rw [flat_blank]
  refine List.ext_getElem? fun i => ?_
  have hz : ∀ j, j < 64 → (Sm.rowB 64 [])[j]? = some (.int .u8 0) := fun j hj => by
    rw [← Array.getElem?_toList, rowB_zero, List.getElem?_replicate, if_pos hj]
  have hs : (Sm.rowB 64 []).size = 64 := Sm.rowB_size (by simp)
  by_cases hi : i < n * 64
  · have := hz (i % 64) (Nat.mod_lt _ (by decide))
    rw [List.getElem?_replicate, if_pos hi]
    simp [madeCells, Value.cells, hs, hi, getElem!_def, this]
  · rw [List.getElem?_replicate, if_neg hi]
    simp [madeCells]
    omega
/-- A disk for which nothing waits. -/
theorem Parts.idleAll {w : World} {r m b c : Nat} {M : Md} (ok : M.Ok) (hd : w.heap[r]? = some (.cells (cells b M.lasts.length c m M.off M.fuse) 76 (0, 0))) (hr : RowAt w b c M.lasts) {F : Nat → Option Value} (hm : MapAt Try.prog 3 w m M.lasts.length F) (hF : ∀ i, i < M.lasts.length → F i = none) (hW : M.W = fun _ => []) :
    Parts w r m b c (fun _ => 0) F M :=
  ⟨ok, hd, hr, hm, fun i hi _ => hF i hi, fun i _ h => absurd (by rw [hW]) h, fun i _ h => absurd (by rw [hW]) h, fun i _ _ _ h => absurd (by rw [hW]) h⟩
end Dk
set_option maxRecDepth 100000 in
theorem dkNew_bad (w : World) (n : Int) (h : n < 1 ∨ 4096 < n) :
    Calls Try.prog 10 #[.int .i64 n] w fun e w' => e = .returned (.tuple #[.pointer none, .int .i64 1]) ∧ w = w' := by
  by_cases h1 : n < 1
  · go_enter Try.func10, Try.ntmps10
    go_wp2
    go_ret2
    exact ⟨rfl, rfl⟩
  · have h2 : 4096 < n := by omega
    clear h
    go_enter Try.func10, Try.ntmps10
    go_wp2
    go_ret2
    exact ⟨rfl, rfl⟩
set_option maxRecDepth 100000 in
set_option maxHeartbeats 1000000 in
theorem dkNew_any (w : World) (n : Nat) (h : 1 ≤ n ∧ n ≤ 4096) :
    Calls Try.prog 10 #[.int .i64 (n : Int)] w fun e w' => ∃ r, e = .returned (.tuple #[.pointer (some ⟨r, 0, none⟩), .int .i64 0]) ∧ w.heap.size ≤ r ∧ Dk.DiskAt w' r (fun k => w.heap.size ≤ k ∧ k < w'.heap.size) (Dk.new n) ∧ Below w.heap.size w w' := by
  obtain ⟨i0, hi, hz0, hz1, hz2⟩ := info_parts Dk.info3_sec
  have hmm := @run_makeMap Try.prog
  have hn1 : ¬ (n : Int) < 1 := by omega
  have hn2 : ¬ 4096 < (n : Int) := by omega
  go_enter Try.func10, Try.ntmps10
  go_wp2_with (at_make; refine wpList_make_full _ rfl _ _ 73 rfl w.heap.size 106 i0 _ 64 Try.underlying73 hi hz0 hz1 .i64 .i64 n n n rfl rfl rfl rfl (by rw [hz2]; omega) (by unfold maxLen; omega) (Nat.le_refl _) ?_; intro w1 ho hg)
  go_ret2
  obtain ⟨b, c, hv, hrow, hb, _⟩ := Dk.RowAt.of_own (l := List.replicate n Dk.blank) (by rw [← Dk.made_blank]; exact ho) (by simp) (by omega) (fun s hs => by rw [(List.mem_replicate.1 hs).2]; rfl)
  simp only [Value.slice.injEq, Option.some.injEq, Addr.mk.injEq, and_true, List.length_replicate, true_and] at hv
  obtain ⟨rfl, rfl⟩ := hv
  obtain ⟨cs, hcs⟩ : ∃ cs, cs = Dk.cells w.heap.size n n w1.heap.size false (-1) := ⟨_, rfl⟩
  change ∃ r, _ ∧ _ ∧ Dk.DiskAt ((w1.alloc (.map #[] 0)).alloc (.cells (Dk.cells w.heap.size n n w1.heap.size false (-1)) 76)) r (fun k => w.heap.size ≤ k ∧ k < ((w1.alloc (.map #[] 0)).alloc (.cells (Dk.cells w.heap.size n n w1.heap.size false (-1)) 76)).heap.size) _ ∧ Below _ _ ((w1.alloc (.map #[] 0)).alloc (.cells (Dk.cells w.heap.size n n w1.heap.size false (-1)) 76))
  rw [← hcs]
  have hsz : (w1.alloc (.map #[] 0)).heap.size = w1.heap.size + 1 := by simp
  have hsz2 : ((w1.alloc (.map #[] 0)).alloc (.cells cs 76)).heap.size = w1.heap.size + 2 := by simp
  have h1 := hrow.lt
  have hbl : Below w.heap.size w ((w1.alloc (.map #[] 0)).alloc (.cells cs 76)) := ((((Below.refl _ w).grown hg (Nat.le_refl _) (fun k e => by cases e))).alloc (by omega) _).alloc (by omega) _
  refine ⟨w1.heap.size + 1, rfl, by omega, ⟨fun k hk => hk.2, w1.heap.size, w.heap.size, n, fun _ => 0, fun _ => none, Dk.Parts.idleAll (Dk.Md.Ok.new h) ?_ ?_ ?_ (fun _ _ => rfl) rfl, ?_⟩, hbl⟩
  · have := heap_alloc_new (w1.alloc (.map #[] 0)) (.cells cs 76)
    rw [hsz] at this
    rw [this, hcs]
    simp [Dk.new]
  · refine hrow.block ?_
    rw [Below.heap_alloc _ _ _ (by omega), Below.heap_alloc _ _ _ (by omega)]
  · refine (Dk.MapAt.made w1).block ?_
    rw [Below.heap_alloc _ _ _ (by omega)]
  · rintro k (rfl | rfl | rfl | ⟨i, _, hw, _⟩)
    · exact ⟨by omega, by omega⟩
    · exact ⟨by omega, by omega⟩
    · exact ⟨Nat.le_refl _, by omega⟩
    · exact absurd rfl hw
end Go.Proofs.Ytipfjccmceaclaa
