/-
  Texts that belong together, laid into one.
-/
import Derived.Test.YtiehcplepneajaaGreatDoorTrB
import Derived.Test.YtiehcplepneajaaGreatDoorTrC
import Derived.Test.YtiehcplepneajaaGreatDoorBuPart
import Derived.Test.YtiehcplepneajaaGreatDoorOmText
import Derived.Test.YtiehcplepneajaaGreatDoorR13Way
import Derived.Test.YtiehcplepneajaaGreatDoorBuMay
import Derived.Deep.RegionHeld3
import Derived.Test.YtiehcplepneajaaGreatDoorSortP
import Derived.Shelf.SlicesQ.Reverse
/-
  tree's Node and Root.
-/
namespace Go.Proofs.YtiehcplepneajaaGreatDoor
open Go.RowKit
namespace Tr
open Om (Pr)
theorem results_row_tmp {P : Program} {fn : Func} {p u : Tmp} {ty : TypeId} (h : fn.results = #[.cell p ty, .tmp u]) (tmps : Array Value) (w : World) (g : Nat) (t : TypeId) (cs : Array Value) (fr : Nat × Nat) (d : TypeDesc) (v : Value)
    (hp : tmps.getD p undef = .pointer (some ⟨g, 0, none⟩)) (hg : w.heap[g]? = some (.cells cs t fr))
    (hu : P.underlying ty = some d) (hd : (match d with | .struct _ | .array _ _ => true | _ => false) = true) (hi : (P.info? ty).map (·.size) = some cs.size) (hv : tmps.getD u undef = v) :
    (results fn tmps).run P w = .ok (.tuple #[.agg cs, v]) w := by
  have hp' : tmps[p]?.getD undef = .pointer (some ⟨g, 0, none⟩) := by simpa using hp
  have hv' : tmps[u]?.getD undef = v := by simpa using hv
  simp [results, h, hp', hv', asAddr, run_loadVar_row w g t ty cs fr d hg hu hd hi]
/-- The hash of noughts. -/
def zeros : List UInt8 := List.replicate 32 0
theorem zeros_length : zeros.length = 32 := rfl
/-- The node of a level. -/
def lv (l : List Pr) (level i : Nat) : List UInt8 := nd l (4 - level) i
theorem lv_length (l : List Pr) (level i : Nat) : (lv l level i).length = 32 := nd_length _ _ _
theorem lv_at (l : List Pr) {level i : Nat} (h : level ≤ 4) (hi : i < 2 ^ level) : lv l level i = nk l (at_ level i) := (nk_at l h hi).1.symm
theorem lv_root (l : List Pr) : lv l 0 0 = root l := rfl
end Tr
set_option maxRecDepth 100000 in
set_option maxHeartbeats 4000000 in
theorem tNode_ok {w : World} {r : Nat} {l : List Om.Pr} (hT : Tr.TreeAt w r l) {level i : Nat} (h : level ≤ 4) (hi : i < 2 ^ level) :
    Calls Tryz.prog 37 #[.pointer (some ⟨r, 0, none⟩), .int .i64 (level : Int), .int .i64 (i : Int)] w fun e w' => e = .returned (.tuple #[.agg (Lib.byteCells (Tr.lv l level i)).toArray, .bool true]) ∧ Below w.heap.size w w' := by
  have hk31 := (Tr.nk_at l h hi).2
  have hi16 : i < 16 := Nat.lt_of_lt_of_le hi (by
    have : (2 : Nat) ^ level ≤ 2 ^ 4 := Nat.pow_le_pow_right (by decide) h
    omega)
  rw [Tr.lv_at l h hi]
  obtain ⟨S, hB, -⟩ := hT.blk
  have PL := Lib.hid (fun wx => tPlace_any wx h hi16)
  obtain ⟨k, hk⟩ : ∃ k, k = Tr.at_ level i := ⟨_, rfl⟩
  rw [← hk] at hk31 PL ⊢
  obtain ⟨M, hM⟩ : ∃ M, M = Tr.nk l := ⟨_, rfl⟩
  rw [← hM] at hB ⊢
  have HFK := Lib.hid (hB.full k hk31)
  have HKK := Lib.hid hk31
  have HKI : Hid ((k : Int) < 31) := by show _ < _; omega
  obtain ⟨N, hN⟩ : ∃ N, N = w.heap.size := ⟨_, rfl⟩
  obtain ⟨w1, hw1x⟩ : ∃ w1, w1 = w.alloc (.cells (Sm.rowB 32 []) 36) := ⟨_, rfl⟩
  obtain ⟨w2, hw1⟩ : ∃ w2, w2 = w1.drew := ⟨_, rfl⟩
  have b1 : Below w.heap.size w w1 := by rw [hw1x]; exact (Below.refl _ w).alloc (Nat.le_refl _) _
  have b2 : Below w.heap.size w w2 := by rw [hw1]; exact b1.drew
  have g1 : w2.heap[N]? = some (.cells (Sm.rowB 32 []) 36 (0, 0)) := by rw [hw1, hw1x, hN]; exact Sm.heap_row32 w
  have HBD : Hid (Tr.Blk w2 r S M) := hB.low b2
  have hrN : r ≠ N := by have := hB.lt; omega
  have hbl : (Lib.byteCells (M k)).toArray.size = 32 := Tr.size32 HFK.out
  have HTH : Hid (w2.there N 0 (Lib.byteCells (M k)).toArray.size) := by rw [hbl]; exact Sm.there_row g1 (Sm.rowB_size (by simp))
  have HB4 : Hid (Tr.Blk (w2.setCells N 0 (Lib.byteCells (M k)).toArray.toList) r S M) := ⟨Sm.other_setCells hrN HBD.out.cells, HBD.out.full⟩
  have HG4 : Hid ((w2.setCells N 0 (Lib.byteCells (M k)).toArray.toList).heap[N]? = some (.cells (Lib.byteCells (M k)).toArray 36 (0, 0))) := by
    have := Sm.heap_setAll (vs := (Lib.byteCells (M k)).toArray.toList) g1 (by rw [Sm.rowB_size (by simp), List.toList_toArray]; rw [List.size_toArray] at hbl; exact hbl.symm)
    rw [Array.toArray_toList] at this
    exact this
  have HBE : Hid (Below w.heap.size w (w2.setCells N 0 (Lib.byteCells (M k)).toArray.toList)) := Sm.below_setCells (by omega) _ _ b2
  have HS32 := Lib.hid hbl
  clear hT hB hk hM hk31 b1 b2 g1 hrN hbl
  obtain ⟨L, hL⟩ : ∃ L, L = level := ⟨_, rfl⟩
  rw [← hL] at PL ⊢
  have HLI : Hid (L = level) := hL
  have hc1 : ¬ (L : Int) < 0 := by omega
  have hc2 : ¬ (4 : Int) < (L : Int) := by omega
  have hc3 : ¬ (i : Int) < 0 := by omega
  match level, h with
  | 0, _ =>
    have hLi := HLI.out
    subst hLi
    clear HLI hL
    have hii : ¬ (1 : Int) ≤ (i : Int) := by omega
    clear hi hi16
    go_enter Tryz.func37, Tryz.ntmps37
    go_upto_region 3 with (fail)
    change Code.wp _ _ _ _ (w.alloc (.cells (Sm.rowB 32 []) 36))
    rw [← hw1x, ← hN]
    clear hw1x hN
    refine wp_region_held_drew (S := fun w' => Tr.Blk w' r S M) (by kernel_rfl) (hw1 ▸ HBD.out) (fun hHeld => ?_)
    rw [← hw1]
    clear hw1
    refine wpAnyH_take (i := 0) (oi := ⟨some 29, _, _, _, _, _⟩) (v := .pointer (some ⟨r, 0, none⟩)) rfl (by kernel_rfl) (by kernel_rfl) (by kernel_rfl) (fun _ _ _ h => h) (Or.inl ⟨by rfl, ?_⟩) (by assumption) ?_
    · intro w hSw; (try dsimp only at hSw); go_simp
    simp only [Act.put, List.setIfInBounds_toArray, List.set_cons_zero, List.set_cons_succ]
    refine wpAnyH_take (i := 1) (oi := ⟨some 30, _, _, _, _, _⟩) (v := .int .i64 ((0 : Nat) : Int)) rfl (by kernel_rfl) (by kernel_rfl) (by kernel_rfl) (fun _ _ _ h => h) (Or.inl ⟨by rfl, ?_⟩) (by assumption) ?_
    · intro w hSw; (try dsimp only at hSw); go_simp
    simp only [Act.put, List.setIfInBounds_toArray, List.set_cons_zero, List.set_cons_succ]
    refine wpAnyH_take (i := 2) (oi := ⟨some 31, _, _, _, _, _⟩) (v := .int .i64 (i : Int)) rfl (by kernel_rfl) (by kernel_rfl) (by kernel_rfl) (fun _ _ _ h => h) (Or.inl ⟨by rfl, ?_⟩) (by assumption) ?_
    · intro w hSw; (try dsimp only at hSw); go_simp
    simp only [Act.put, List.setIfInBounds_toArray, List.set_cons_zero, List.set_cons_succ]
    refine wpAnyH_take (i := 4) (oi := ⟨some 33, _, _, _, _, _⟩) (v := .pointer (some ⟨r, 0, none⟩)) rfl (by kernel_rfl) (by kernel_rfl) (by kernel_rfl) (fun _ _ _ h => h) (Or.inl ⟨by rfl, ?_⟩) (by assumption) ?_
    · intro w hSw; (try dsimp only at hSw); go_simp
    simp only [Act.put, List.setIfInBounds_toArray, List.set_cons_zero, List.set_cons_succ]
    refine wpAnyH_take (i := 5) (oi := ⟨some 34, _, _, _, _, _⟩) (v := .pointer (some ⟨r, 16, none⟩)) rfl (by kernel_rfl) (by kernel_rfl) (by kernel_rfl) (fun _ _ _ h => h) (Or.inl ⟨by rfl, ?_⟩) (by assumption) ?_
    · intro w hSw; (try dsimp only at hSw); go_simp
    simp only [Act.put, List.setIfInBounds_toArray, List.set_cons_zero, List.set_cons_succ]
    refine wpAnyH_ready (rs := [3]) (by kernel_rfl) (by simp) ?_
    refine (AllReadyH.cons (o := ⟨some 32, _, _, _, _, _⟩) rfl (fun K hK => ?_) AllReadyH.nil)
    go_simp
    refine (PL.out _).mono ?_
    rintro e w3 ⟨rfl, rfl⟩
    refine hK.out _ _ HBD.out (fun hHeld => ?_)
    clear hK K
    refine wpAnyH_take (i := 6) (oi := ⟨some 35, _, _, _, _, _⟩) (v := .pointer (some ⟨r, 16 + k * 32, none⟩)) rfl (by kernel_rfl) (by kernel_rfl) (by kernel_rfl) (fun _ _ _ h => h) (Or.inl ⟨by rfl, ?_⟩) (by assumption) ?_
    · intro w hSw; (try dsimp only at hSw); have q := HKI.out; go_simp
    simp only [Act.put, List.setIfInBounds_toArray, List.set_cons_zero, List.set_cons_succ]
    refine wpAnyH_take (i := 7) (oi := ⟨some 36, _, _, _, _, _⟩) (v := .agg (Lib.byteCells (M k)).toArray) rfl (by kernel_rfl) (by kernel_rfl) (by kernel_rfl) (fun _ _ _ h => h) (yieldsIf_load_mid (by rfl) _ _ rfl _ _ rfl (Lib.byteCells (M k)) _ (fun w hS => hS.node' HKK.out) Tryz.underlying36 rfl (Sm.infoHash (Tr.size32 HFK.out))) (by assumption) ?_
    simp only [Act.put, List.setIfInBounds_toArray, List.set_cons_zero, List.set_cons_succ]
    refine wpAnyH_ready (rs := [8]) (by kernel_rfl) (by simp) ?_
    refine (AllReadyH.cons (o := ⟨none, _, _, _, _, _⟩) rfl (fun K hK => ?_) AllReadyH.nil)
    rw [if_pos (by simp [Region.wanted])]
    refine wp_store_mid 36 (.tmp 6) (.tmp 36) rfl N 0 (Lib.byteCells (M k)).toArray rfl rfl (HTH.out) (Sm.infoHash HS32.out) (Sm.bytes_one _) ?_
    refine hK.out _ _ HB4.out (fun hHeld => ?_)
    clear hK K
    refine wpAnyH_take (i := 9) (oi := ⟨some 7, _, _, _, _, _⟩) (v := .bool true) rfl (by kernel_rfl) (by kernel_rfl) (by kernel_rfl) (fun _ _ _ h => h) (Or.inl ⟨by rfl, ?_⟩) (by assumption) ?_
    · intro w hSw; (try dsimp only at hSw); go_simp
    simp only [Act.put, List.setIfInBounds_toArray, List.set_cons_zero, List.set_cons_succ]
    refine wpAnyH_done (by kernel_rfl) ?_ _
    go_wp2_with fail
    exact bodyPost_ret (v := .tuple #[.agg (Lib.byteCells (M k)).toArray, .bool true]) (Tr.results_row_tmp rfl _ _ N 36 _ (0, 0) _ _ rfl HG4.out Tryz.underlying36 rfl (Sm.infoHash HS32.out) rfl) rfl ⟨rfl, HBE.out⟩
  | 1, _ =>
    have hLi := HLI.out
    subst hLi
    clear HLI hL
    have hii : ¬ (2 : Int) ≤ (i : Int) := by omega
    clear hi hi16
    go_enter Tryz.func37, Tryz.ntmps37
    go_upto_region 3 with (fail)
    change Code.wp _ _ _ _ (w.alloc (.cells (Sm.rowB 32 []) 36))
    rw [← hw1x, ← hN]
    clear hw1x hN
    refine wp_region_held_drew (S := fun w' => Tr.Blk w' r S M) (by kernel_rfl) (hw1 ▸ HBD.out) (fun hHeld => ?_)
    rw [← hw1]
    clear hw1
    refine wpAnyH_take (i := 0) (oi := ⟨some 29, _, _, _, _, _⟩) (v := .pointer (some ⟨r, 0, none⟩)) rfl (by kernel_rfl) (by kernel_rfl) (by kernel_rfl) (fun _ _ _ h => h) (Or.inl ⟨by rfl, ?_⟩) (by assumption) ?_
    · intro w hSw; (try dsimp only at hSw); go_simp
    simp only [Act.put, List.setIfInBounds_toArray, List.set_cons_zero, List.set_cons_succ]
    refine wpAnyH_take (i := 1) (oi := ⟨some 30, _, _, _, _, _⟩) (v := .int .i64 ((1 : Nat) : Int)) rfl (by kernel_rfl) (by kernel_rfl) (by kernel_rfl) (fun _ _ _ h => h) (Or.inl ⟨by rfl, ?_⟩) (by assumption) ?_
    · intro w hSw; (try dsimp only at hSw); go_simp
    simp only [Act.put, List.setIfInBounds_toArray, List.set_cons_zero, List.set_cons_succ]
    refine wpAnyH_take (i := 2) (oi := ⟨some 31, _, _, _, _, _⟩) (v := .int .i64 (i : Int)) rfl (by kernel_rfl) (by kernel_rfl) (by kernel_rfl) (fun _ _ _ h => h) (Or.inl ⟨by rfl, ?_⟩) (by assumption) ?_
    · intro w hSw; (try dsimp only at hSw); go_simp
    simp only [Act.put, List.setIfInBounds_toArray, List.set_cons_zero, List.set_cons_succ]
    refine wpAnyH_take (i := 4) (oi := ⟨some 33, _, _, _, _, _⟩) (v := .pointer (some ⟨r, 0, none⟩)) rfl (by kernel_rfl) (by kernel_rfl) (by kernel_rfl) (fun _ _ _ h => h) (Or.inl ⟨by rfl, ?_⟩) (by assumption) ?_
    · intro w hSw; (try dsimp only at hSw); go_simp
    simp only [Act.put, List.setIfInBounds_toArray, List.set_cons_zero, List.set_cons_succ]
    refine wpAnyH_take (i := 5) (oi := ⟨some 34, _, _, _, _, _⟩) (v := .pointer (some ⟨r, 16, none⟩)) rfl (by kernel_rfl) (by kernel_rfl) (by kernel_rfl) (fun _ _ _ h => h) (Or.inl ⟨by rfl, ?_⟩) (by assumption) ?_
    · intro w hSw; (try dsimp only at hSw); go_simp
    simp only [Act.put, List.setIfInBounds_toArray, List.set_cons_zero, List.set_cons_succ]
    refine wpAnyH_ready (rs := [3]) (by kernel_rfl) (by simp) ?_
    refine (AllReadyH.cons (o := ⟨some 32, _, _, _, _, _⟩) rfl (fun K hK => ?_) AllReadyH.nil)
    go_simp
    refine (PL.out _).mono ?_
    rintro e w3 ⟨rfl, rfl⟩
    refine hK.out _ _ HBD.out (fun hHeld => ?_)
    clear hK K
    refine wpAnyH_take (i := 6) (oi := ⟨some 35, _, _, _, _, _⟩) (v := .pointer (some ⟨r, 16 + k * 32, none⟩)) rfl (by kernel_rfl) (by kernel_rfl) (by kernel_rfl) (fun _ _ _ h => h) (Or.inl ⟨by rfl, ?_⟩) (by assumption) ?_
    · intro w hSw; (try dsimp only at hSw); have q := HKI.out; go_simp
    simp only [Act.put, List.setIfInBounds_toArray, List.set_cons_zero, List.set_cons_succ]
    refine wpAnyH_take (i := 7) (oi := ⟨some 36, _, _, _, _, _⟩) (v := .agg (Lib.byteCells (M k)).toArray) rfl (by kernel_rfl) (by kernel_rfl) (by kernel_rfl) (fun _ _ _ h => h) (yieldsIf_load_mid (by rfl) _ _ rfl _ _ rfl (Lib.byteCells (M k)) _ (fun w hS => hS.node' HKK.out) Tryz.underlying36 rfl (Sm.infoHash (Tr.size32 HFK.out))) (by assumption) ?_
    simp only [Act.put, List.setIfInBounds_toArray, List.set_cons_zero, List.set_cons_succ]
    refine wpAnyH_ready (rs := [8]) (by kernel_rfl) (by simp) ?_
    refine (AllReadyH.cons (o := ⟨none, _, _, _, _, _⟩) rfl (fun K hK => ?_) AllReadyH.nil)
    rw [if_pos (by simp [Region.wanted])]
    refine wp_store_mid 36 (.tmp 6) (.tmp 36) rfl N 0 (Lib.byteCells (M k)).toArray rfl rfl (HTH.out) (Sm.infoHash HS32.out) (Sm.bytes_one _) ?_
    refine hK.out _ _ HB4.out (fun hHeld => ?_)
    clear hK K
    refine wpAnyH_take (i := 9) (oi := ⟨some 7, _, _, _, _, _⟩) (v := .bool true) rfl (by kernel_rfl) (by kernel_rfl) (by kernel_rfl) (fun _ _ _ h => h) (Or.inl ⟨by rfl, ?_⟩) (by assumption) ?_
    · intro w hSw; (try dsimp only at hSw); go_simp
    simp only [Act.put, List.setIfInBounds_toArray, List.set_cons_zero, List.set_cons_succ]
    refine wpAnyH_done (by kernel_rfl) ?_ _
    go_wp2_with fail
    exact bodyPost_ret (v := .tuple #[.agg (Lib.byteCells (M k)).toArray, .bool true]) (Tr.results_row_tmp rfl _ _ N 36 _ (0, 0) _ _ rfl HG4.out Tryz.underlying36 rfl (Sm.infoHash HS32.out) rfl) rfl ⟨rfl, HBE.out⟩
  | 2, _ =>
    have hLi := HLI.out
    subst hLi
    clear HLI hL
    have hii : ¬ (4 : Int) ≤ (i : Int) := by omega
    clear hi hi16
    go_enter Tryz.func37, Tryz.ntmps37
    go_upto_region 3 with (fail)
    change Code.wp _ _ _ _ (w.alloc (.cells (Sm.rowB 32 []) 36))
    rw [← hw1x, ← hN]
    clear hw1x hN
    refine wp_region_held_drew (S := fun w' => Tr.Blk w' r S M) (by kernel_rfl) (hw1 ▸ HBD.out) (fun hHeld => ?_)
    rw [← hw1]
    clear hw1
    refine wpAnyH_take (i := 0) (oi := ⟨some 29, _, _, _, _, _⟩) (v := .pointer (some ⟨r, 0, none⟩)) rfl (by kernel_rfl) (by kernel_rfl) (by kernel_rfl) (fun _ _ _ h => h) (Or.inl ⟨by rfl, ?_⟩) (by assumption) ?_
    · intro w hSw; (try dsimp only at hSw); go_simp
    simp only [Act.put, List.setIfInBounds_toArray, List.set_cons_zero, List.set_cons_succ]
    refine wpAnyH_take (i := 1) (oi := ⟨some 30, _, _, _, _, _⟩) (v := .int .i64 ((2 : Nat) : Int)) rfl (by kernel_rfl) (by kernel_rfl) (by kernel_rfl) (fun _ _ _ h => h) (Or.inl ⟨by rfl, ?_⟩) (by assumption) ?_
    · intro w hSw; (try dsimp only at hSw); go_simp
    simp only [Act.put, List.setIfInBounds_toArray, List.set_cons_zero, List.set_cons_succ]
    refine wpAnyH_take (i := 2) (oi := ⟨some 31, _, _, _, _, _⟩) (v := .int .i64 (i : Int)) rfl (by kernel_rfl) (by kernel_rfl) (by kernel_rfl) (fun _ _ _ h => h) (Or.inl ⟨by rfl, ?_⟩) (by assumption) ?_
    · intro w hSw; (try dsimp only at hSw); go_simp
    simp only [Act.put, List.setIfInBounds_toArray, List.set_cons_zero, List.set_cons_succ]
    refine wpAnyH_take (i := 4) (oi := ⟨some 33, _, _, _, _, _⟩) (v := .pointer (some ⟨r, 0, none⟩)) rfl (by kernel_rfl) (by kernel_rfl) (by kernel_rfl) (fun _ _ _ h => h) (Or.inl ⟨by rfl, ?_⟩) (by assumption) ?_
    · intro w hSw; (try dsimp only at hSw); go_simp
    simp only [Act.put, List.setIfInBounds_toArray, List.set_cons_zero, List.set_cons_succ]
    refine wpAnyH_take (i := 5) (oi := ⟨some 34, _, _, _, _, _⟩) (v := .pointer (some ⟨r, 16, none⟩)) rfl (by kernel_rfl) (by kernel_rfl) (by kernel_rfl) (fun _ _ _ h => h) (Or.inl ⟨by rfl, ?_⟩) (by assumption) ?_
    · intro w hSw; (try dsimp only at hSw); go_simp
    simp only [Act.put, List.setIfInBounds_toArray, List.set_cons_zero, List.set_cons_succ]
    refine wpAnyH_ready (rs := [3]) (by kernel_rfl) (by simp) ?_
    refine (AllReadyH.cons (o := ⟨some 32, _, _, _, _, _⟩) rfl (fun K hK => ?_) AllReadyH.nil)
    go_simp
    refine (PL.out _).mono ?_
    rintro e w3 ⟨rfl, rfl⟩
    refine hK.out _ _ HBD.out (fun hHeld => ?_)
    clear hK K
    refine wpAnyH_take (i := 6) (oi := ⟨some 35, _, _, _, _, _⟩) (v := .pointer (some ⟨r, 16 + k * 32, none⟩)) rfl (by kernel_rfl) (by kernel_rfl) (by kernel_rfl) (fun _ _ _ h => h) (Or.inl ⟨by rfl, ?_⟩) (by assumption) ?_
    · intro w hSw; (try dsimp only at hSw); have q := HKI.out; go_simp
    simp only [Act.put, List.setIfInBounds_toArray, List.set_cons_zero, List.set_cons_succ]
    refine wpAnyH_take (i := 7) (oi := ⟨some 36, _, _, _, _, _⟩) (v := .agg (Lib.byteCells (M k)).toArray) rfl (by kernel_rfl) (by kernel_rfl) (by kernel_rfl) (fun _ _ _ h => h) (yieldsIf_load_mid (by rfl) _ _ rfl _ _ rfl (Lib.byteCells (M k)) _ (fun w hS => hS.node' HKK.out) Tryz.underlying36 rfl (Sm.infoHash (Tr.size32 HFK.out))) (by assumption) ?_
    simp only [Act.put, List.setIfInBounds_toArray, List.set_cons_zero, List.set_cons_succ]
    refine wpAnyH_ready (rs := [8]) (by kernel_rfl) (by simp) ?_
    refine (AllReadyH.cons (o := ⟨none, _, _, _, _, _⟩) rfl (fun K hK => ?_) AllReadyH.nil)
    rw [if_pos (by simp [Region.wanted])]
    refine wp_store_mid 36 (.tmp 6) (.tmp 36) rfl N 0 (Lib.byteCells (M k)).toArray rfl rfl (HTH.out) (Sm.infoHash HS32.out) (Sm.bytes_one _) ?_
    refine hK.out _ _ HB4.out (fun hHeld => ?_)
    clear hK K
    refine wpAnyH_take (i := 9) (oi := ⟨some 7, _, _, _, _, _⟩) (v := .bool true) rfl (by kernel_rfl) (by kernel_rfl) (by kernel_rfl) (fun _ _ _ h => h) (Or.inl ⟨by rfl, ?_⟩) (by assumption) ?_
    · intro w hSw; (try dsimp only at hSw); go_simp
    simp only [Act.put, List.setIfInBounds_toArray, List.set_cons_zero, List.set_cons_succ]
    refine wpAnyH_done (by kernel_rfl) ?_ _
    go_wp2_with fail
    exact bodyPost_ret (v := .tuple #[.agg (Lib.byteCells (M k)).toArray, .bool true]) (Tr.results_row_tmp rfl _ _ N 36 _ (0, 0) _ _ rfl HG4.out Tryz.underlying36 rfl (Sm.infoHash HS32.out) rfl) rfl ⟨rfl, HBE.out⟩
  | 3, _ =>
    have hLi := HLI.out
    subst hLi
    clear HLI hL
    have hii : ¬ (8 : Int) ≤ (i : Int) := by omega
    clear hi hi16
    go_enter Tryz.func37, Tryz.ntmps37
    go_upto_region 3 with (fail)
    change Code.wp _ _ _ _ (w.alloc (.cells (Sm.rowB 32 []) 36))
    rw [← hw1x, ← hN]
    clear hw1x hN
    refine wp_region_held_drew (S := fun w' => Tr.Blk w' r S M) (by kernel_rfl) (hw1 ▸ HBD.out) (fun hHeld => ?_)
    rw [← hw1]
    clear hw1
    refine wpAnyH_take (i := 0) (oi := ⟨some 29, _, _, _, _, _⟩) (v := .pointer (some ⟨r, 0, none⟩)) rfl (by kernel_rfl) (by kernel_rfl) (by kernel_rfl) (fun _ _ _ h => h) (Or.inl ⟨by rfl, ?_⟩) (by assumption) ?_
    · intro w hSw; (try dsimp only at hSw); go_simp
    simp only [Act.put, List.setIfInBounds_toArray, List.set_cons_zero, List.set_cons_succ]
    refine wpAnyH_take (i := 1) (oi := ⟨some 30, _, _, _, _, _⟩) (v := .int .i64 ((3 : Nat) : Int)) rfl (by kernel_rfl) (by kernel_rfl) (by kernel_rfl) (fun _ _ _ h => h) (Or.inl ⟨by rfl, ?_⟩) (by assumption) ?_
    · intro w hSw; (try dsimp only at hSw); go_simp
    simp only [Act.put, List.setIfInBounds_toArray, List.set_cons_zero, List.set_cons_succ]
    refine wpAnyH_take (i := 2) (oi := ⟨some 31, _, _, _, _, _⟩) (v := .int .i64 (i : Int)) rfl (by kernel_rfl) (by kernel_rfl) (by kernel_rfl) (fun _ _ _ h => h) (Or.inl ⟨by rfl, ?_⟩) (by assumption) ?_
    · intro w hSw; (try dsimp only at hSw); go_simp
    simp only [Act.put, List.setIfInBounds_toArray, List.set_cons_zero, List.set_cons_succ]
    refine wpAnyH_take (i := 4) (oi := ⟨some 33, _, _, _, _, _⟩) (v := .pointer (some ⟨r, 0, none⟩)) rfl (by kernel_rfl) (by kernel_rfl) (by kernel_rfl) (fun _ _ _ h => h) (Or.inl ⟨by rfl, ?_⟩) (by assumption) ?_
    · intro w hSw; (try dsimp only at hSw); go_simp
    simp only [Act.put, List.setIfInBounds_toArray, List.set_cons_zero, List.set_cons_succ]
    refine wpAnyH_take (i := 5) (oi := ⟨some 34, _, _, _, _, _⟩) (v := .pointer (some ⟨r, 16, none⟩)) rfl (by kernel_rfl) (by kernel_rfl) (by kernel_rfl) (fun _ _ _ h => h) (Or.inl ⟨by rfl, ?_⟩) (by assumption) ?_
    · intro w hSw; (try dsimp only at hSw); go_simp
    simp only [Act.put, List.setIfInBounds_toArray, List.set_cons_zero, List.set_cons_succ]
    refine wpAnyH_ready (rs := [3]) (by kernel_rfl) (by simp) ?_
    refine (AllReadyH.cons (o := ⟨some 32, _, _, _, _, _⟩) rfl (fun K hK => ?_) AllReadyH.nil)
    go_simp
    refine (PL.out _).mono ?_
    rintro e w3 ⟨rfl, rfl⟩
    refine hK.out _ _ HBD.out (fun hHeld => ?_)
    clear hK K
    refine wpAnyH_take (i := 6) (oi := ⟨some 35, _, _, _, _, _⟩) (v := .pointer (some ⟨r, 16 + k * 32, none⟩)) rfl (by kernel_rfl) (by kernel_rfl) (by kernel_rfl) (fun _ _ _ h => h) (Or.inl ⟨by rfl, ?_⟩) (by assumption) ?_
    · intro w hSw; (try dsimp only at hSw); have q := HKI.out; go_simp
    simp only [Act.put, List.setIfInBounds_toArray, List.set_cons_zero, List.set_cons_succ]
    refine wpAnyH_take (i := 7) (oi := ⟨some 36, _, _, _, _, _⟩) (v := .agg (Lib.byteCells (M k)).toArray) rfl (by kernel_rfl) (by kernel_rfl) (by kernel_rfl) (fun _ _ _ h => h) (yieldsIf_load_mid (by rfl) _ _ rfl _ _ rfl (Lib.byteCells (M k)) _ (fun w hS => hS.node' HKK.out) Tryz.underlying36 rfl (Sm.infoHash (Tr.size32 HFK.out))) (by assumption) ?_
    simp only [Act.put, List.setIfInBounds_toArray, List.set_cons_zero, List.set_cons_succ]
    refine wpAnyH_ready (rs := [8]) (by kernel_rfl) (by simp) ?_
    refine (AllReadyH.cons (o := ⟨none, _, _, _, _, _⟩) rfl (fun K hK => ?_) AllReadyH.nil)
    rw [if_pos (by simp [Region.wanted])]
    refine wp_store_mid 36 (.tmp 6) (.tmp 36) rfl N 0 (Lib.byteCells (M k)).toArray rfl rfl (HTH.out) (Sm.infoHash HS32.out) (Sm.bytes_one _) ?_
    refine hK.out _ _ HB4.out (fun hHeld => ?_)
    clear hK K
    refine wpAnyH_take (i := 9) (oi := ⟨some 7, _, _, _, _, _⟩) (v := .bool true) rfl (by kernel_rfl) (by kernel_rfl) (by kernel_rfl) (fun _ _ _ h => h) (Or.inl ⟨by rfl, ?_⟩) (by assumption) ?_
    · intro w hSw; (try dsimp only at hSw); go_simp
    simp only [Act.put, List.setIfInBounds_toArray, List.set_cons_zero, List.set_cons_succ]
    refine wpAnyH_done (by kernel_rfl) ?_ _
    go_wp2_with fail
    exact bodyPost_ret (v := .tuple #[.agg (Lib.byteCells (M k)).toArray, .bool true]) (Tr.results_row_tmp rfl _ _ N 36 _ (0, 0) _ _ rfl HG4.out Tryz.underlying36 rfl (Sm.infoHash HS32.out) rfl) rfl ⟨rfl, HBE.out⟩
  | 4, _ =>
    have hLi := HLI.out
    subst hLi
    clear HLI hL
    have hii : ¬ (16 : Int) ≤ (i : Int) := by omega
    clear hi hi16
    go_enter Tryz.func37, Tryz.ntmps37
    go_upto_region 3 with (fail)
    change Code.wp _ _ _ _ (w.alloc (.cells (Sm.rowB 32 []) 36))
    rw [← hw1x, ← hN]
    clear hw1x hN
    refine wp_region_held_drew (S := fun w' => Tr.Blk w' r S M) (by kernel_rfl) (hw1 ▸ HBD.out) (fun hHeld => ?_)
    rw [← hw1]
    clear hw1
    refine wpAnyH_take (i := 0) (oi := ⟨some 29, _, _, _, _, _⟩) (v := .pointer (some ⟨r, 0, none⟩)) rfl (by kernel_rfl) (by kernel_rfl) (by kernel_rfl) (fun _ _ _ h => h) (Or.inl ⟨by rfl, ?_⟩) (by assumption) ?_
    · intro w hSw; (try dsimp only at hSw); go_simp
    simp only [Act.put, List.setIfInBounds_toArray, List.set_cons_zero, List.set_cons_succ]
    refine wpAnyH_take (i := 1) (oi := ⟨some 30, _, _, _, _, _⟩) (v := .int .i64 ((4 : Nat) : Int)) rfl (by kernel_rfl) (by kernel_rfl) (by kernel_rfl) (fun _ _ _ h => h) (Or.inl ⟨by rfl, ?_⟩) (by assumption) ?_
    · intro w hSw; (try dsimp only at hSw); go_simp
    simp only [Act.put, List.setIfInBounds_toArray, List.set_cons_zero, List.set_cons_succ]
    refine wpAnyH_take (i := 2) (oi := ⟨some 31, _, _, _, _, _⟩) (v := .int .i64 (i : Int)) rfl (by kernel_rfl) (by kernel_rfl) (by kernel_rfl) (fun _ _ _ h => h) (Or.inl ⟨by rfl, ?_⟩) (by assumption) ?_
    · intro w hSw; (try dsimp only at hSw); go_simp
    simp only [Act.put, List.setIfInBounds_toArray, List.set_cons_zero, List.set_cons_succ]
    refine wpAnyH_take (i := 4) (oi := ⟨some 33, _, _, _, _, _⟩) (v := .pointer (some ⟨r, 0, none⟩)) rfl (by kernel_rfl) (by kernel_rfl) (by kernel_rfl) (fun _ _ _ h => h) (Or.inl ⟨by rfl, ?_⟩) (by assumption) ?_
    · intro w hSw; (try dsimp only at hSw); go_simp
    simp only [Act.put, List.setIfInBounds_toArray, List.set_cons_zero, List.set_cons_succ]
    refine wpAnyH_take (i := 5) (oi := ⟨some 34, _, _, _, _, _⟩) (v := .pointer (some ⟨r, 16, none⟩)) rfl (by kernel_rfl) (by kernel_rfl) (by kernel_rfl) (fun _ _ _ h => h) (Or.inl ⟨by rfl, ?_⟩) (by assumption) ?_
    · intro w hSw; (try dsimp only at hSw); go_simp
    simp only [Act.put, List.setIfInBounds_toArray, List.set_cons_zero, List.set_cons_succ]
    refine wpAnyH_ready (rs := [3]) (by kernel_rfl) (by simp) ?_
    refine (AllReadyH.cons (o := ⟨some 32, _, _, _, _, _⟩) rfl (fun K hK => ?_) AllReadyH.nil)
    go_simp
    refine (PL.out _).mono ?_
    rintro e w3 ⟨rfl, rfl⟩
    refine hK.out _ _ HBD.out (fun hHeld => ?_)
    clear hK K
    refine wpAnyH_take (i := 6) (oi := ⟨some 35, _, _, _, _, _⟩) (v := .pointer (some ⟨r, 16 + k * 32, none⟩)) rfl (by kernel_rfl) (by kernel_rfl) (by kernel_rfl) (fun _ _ _ h => h) (Or.inl ⟨by rfl, ?_⟩) (by assumption) ?_
    · intro w hSw; (try dsimp only at hSw); have q := HKI.out; go_simp
    simp only [Act.put, List.setIfInBounds_toArray, List.set_cons_zero, List.set_cons_succ]
    refine wpAnyH_take (i := 7) (oi := ⟨some 36, _, _, _, _, _⟩) (v := .agg (Lib.byteCells (M k)).toArray) rfl (by kernel_rfl) (by kernel_rfl) (by kernel_rfl) (fun _ _ _ h => h) (yieldsIf_load_mid (by rfl) _ _ rfl _ _ rfl (Lib.byteCells (M k)) _ (fun w hS => hS.node' HKK.out) Tryz.underlying36 rfl (Sm.infoHash (Tr.size32 HFK.out))) (by assumption) ?_
    simp only [Act.put, List.setIfInBounds_toArray, List.set_cons_zero, List.set_cons_succ]
    refine wpAnyH_ready (rs := [8]) (by kernel_rfl) (by simp) ?_
    refine (AllReadyH.cons (o := ⟨none, _, _, _, _, _⟩) rfl (fun K hK => ?_) AllReadyH.nil)
    rw [if_pos (by simp [Region.wanted])]
    refine wp_store_mid 36 (.tmp 6) (.tmp 36) rfl N 0 (Lib.byteCells (M k)).toArray rfl rfl (HTH.out) (Sm.infoHash HS32.out) (Sm.bytes_one _) ?_
    refine hK.out _ _ HB4.out (fun hHeld => ?_)
    clear hK K
    refine wpAnyH_take (i := 9) (oi := ⟨some 7, _, _, _, _, _⟩) (v := .bool true) rfl (by kernel_rfl) (by kernel_rfl) (by kernel_rfl) (fun _ _ _ h => h) (Or.inl ⟨by rfl, ?_⟩) (by assumption) ?_
    · intro w hSw; (try dsimp only at hSw); go_simp
    simp only [Act.put, List.setIfInBounds_toArray, List.set_cons_zero, List.set_cons_succ]
    refine wpAnyH_done (by kernel_rfl) ?_ _
    go_wp2_with fail
    exact bodyPost_ret (v := .tuple #[.agg (Lib.byteCells (M k)).toArray, .bool true]) (Tr.results_row_tmp rfl _ _ N 36 _ (0, 0) _ _ rfl HG4.out Tryz.underlying36 rfl (Sm.infoHash HS32.out) rfl) rfl ⟨rfl, HBE.out⟩
end Go.Proofs.YtiehcplepneajaaGreatDoor

/-
  tree's Node where there is none, Root, Twin.
-/
namespace Go.Proofs.YtiehcplepneajaaGreatDoor
open Go.RowKit
namespace Tr
theorem zeros_row : Sm.rowB 32 [] = (Lib.byteCells zeros).toArray := rfl
theorem zeroTree : (Tryz.prog.info? 103).map (fun i => (i.zero, i.size)) = some (some (.agg (cellsOf (fun _ => .slice none 0 0) (fun _ => zeros)).toArray), 1008) := by kernel_rfl
/-- There is no such node. -/
def Out (level i : Int) : Prop := level < 0 ∨ 4 < level ∨ i < 0 ∨ (2 ^ level.toNat : Nat) ≤ i
end Tr
set_option maxRecDepth 100000 in
set_option maxHeartbeats 2000000 in
theorem tNode_nil (w : World) (level i : Int) :
    Calls Tryz.prog 37 #[.pointer none, .int .i64 level, .int .i64 i] w fun e w' => e = .returned (.tuple #[.agg (Lib.byteCells Tr.zeros).toArray, .bool false]) ∧ Below w.heap.size w w' := by
  have HR := Lib.hid (Sm.heap_row32 w)
  have HB : Hid (Below w.heap.size w (w.alloc (.cells (Sm.rowB 32 []) 36))) := (Below.refl _ w).alloc (Nat.le_refl _) _
  have hz : (Sm.rowB 32 []).size = 32 := Sm.rowB_size (by simp)
  go_enter Tryz.func37, Tryz.ntmps37
  go_wp2_with (refine wpList_store_row rfl 36 (.tmp 6) (.tmp 28) rfl w.heap.size (Sm.rowB 32 []) rfl rfl 36 _ (by exact HR.out) (Sm.infoHash hz) rfl (Sm.bytes_one Tr.zeros) ?_)
  exact bodyPost_ret (v := .tuple #[.agg (Sm.rowB 32 []), .bool false]) (Tr.results_row_tmp rfl _ _ w.heap.size 36 _ (0, 0) _ _ rfl (setRow_heap _ w.heap.size _ _ _ _ HR.out) Tryz.underlying36 rfl (Sm.infoHash hz) rfl) rfl ⟨rfl, Sm.below_setRow HB.out (Nat.le_refl _) _⟩
set_option maxRecDepth 100000 in
set_option maxHeartbeats 4000000 in
theorem tNode_no (w : World) (r : Nat) {level i : Int} (h : Tr.Out level i) :
    Calls Tryz.prog 37 #[.pointer (some ⟨r, 0, none⟩), .int .i64 level, .int .i64 i] w fun e w' => e = .returned (.tuple #[.agg (Lib.byteCells Tr.zeros).toArray, .bool false]) ∧ Below w.heap.size w w' := by
  have HR := Lib.hid (Sm.heap_row32 w)
  have HB : Hid (Below w.heap.size w (w.alloc (.cells (Sm.rowB 32 []) 36))) := (Below.refl _ w).alloc (Nat.le_refl _) _
  have hz : (Sm.rowB 32 []).size = 32 := Sm.rowB_size (by simp)
  have FIN := Lib.hid (fun (tmps : Array Value) (h6 : tmps.getD 6 undef = .pointer (some ⟨w.heap.size, 0, none⟩)) (h7 : tmps.getD 7 undef = .bool false) => bodyPost_ret (P := Tryz.prog) (fn := Tryz.f37) (a := { tmps := tmps, defers := [] }) (R := fun e w' => e = .returned (.tuple #[.agg (Lib.byteCells Tr.zeros).toArray, .bool false]) ∧ Below w.heap.size w w') (v := .tuple #[.agg (Sm.rowB 32 []), .bool false]) (Tr.results_row_tmp rfl _ _ w.heap.size 36 _ (0, 0) _ _ h6 (setRow_heap _ w.heap.size _ _ _ _ HR.out) Tryz.underlying36 rfl (Sm.infoHash hz) h7) rfl ⟨rfl, Sm.below_setRow HB.out (Nat.le_refl _) _⟩)
  by_cases h1 : level < 0
  · go_enter Tryz.func37, Tryz.ntmps37
    go_wp2_with (refine wpList_store_row rfl 36 (.tmp 6) (.tmp 28) rfl w.heap.size (Sm.rowB 32 []) rfl rfl 36 _ (by exact HR.out) (Sm.infoHash hz) rfl (Sm.bytes_one Tr.zeros) ?_)
    exact FIN.out _ rfl rfl
  by_cases h2 : 4 < level
  · go_enter Tryz.func37, Tryz.ntmps37
    go_wp2_with (refine wpList_store_row rfl 36 (.tmp 6) (.tmp 28) rfl w.heap.size (Sm.rowB 32 []) rfl rfl 36 _ (by exact HR.out) (Sm.infoHash hz) rfl (Sm.bytes_one Tr.zeros) ?_)
    exact FIN.out _ rfl rfl
  by_cases h3 : i < 0
  · go_enter Tryz.func37, Tryz.ntmps37
    go_wp2_with (refine wpList_store_row rfl 36 (.tmp 6) (.tmp 28) rfl w.heap.size (Sm.rowB 32 []) rfl rfl 36 _ (by exact HR.out) (Sm.infoHash hz) rfl (Sm.bytes_one Tr.zeros) ?_)
    exact FIN.out _ rfl rfl
  have h4 : (2 ^ level.toNat : Nat) ≤ i := by
    rcases h with h | h | h | h
    · exact absurd h h1
    · exact absurd h h2
    · exact absurd h h3
    · exact h
  obtain ⟨L, hL⟩ : ∃ L : Nat, level = (L : Int) := ⟨level.toNat, by omega⟩
  subst hL
  rw [Int.toNat_natCast] at h4
  have hL5 : L < 5 := by omega
  clear h
  match L, hL5 with
  | 0, _ | 1, _ | 2, _ | 3, _ | 4, _ =>
    have h5 := h4
    simp at h5
    go_enter Tryz.func37, Tryz.ntmps37
    go_wp2_with (refine wpList_store_row rfl 36 (.tmp 6) (.tmp 28) rfl w.heap.size (Sm.rowB 32 []) rfl rfl 36 _ (by exact HR.out) (Sm.infoHash hz) rfl (Sm.bytes_one Tr.zeros) ?_)
    exact FIN.out _ rfl rfl
set_option maxRecDepth 100000 in
set_option maxHeartbeats 2000000 in
theorem tRoot_of {w : World} {po : Value} {h : List UInt8} (hh : h.length = 32) (b : Bool) (HN : ∀ wx : World, Below w.heap.size w wx → Calls Tryz.prog 37 #[po, .int .i64 0, .int .i64 0] wx fun e w' => e = .returned (.tuple #[.agg (Lib.byteCells h).toArray, .bool b]) ∧ Below wx.heap.size wx w') :
    Calls Tryz.prog 18 #[po] w fun e w' => e = .returned (.agg (Lib.byteCells h).toArray) ∧ Below w.heap.size w w' := by
  have HR := Lib.hid (Sm.heap_row32 w)
  have HB : Hid (Below w.heap.size w (w.alloc (.cells (Sm.rowB 32 []) 36))) := (Below.refl _ w).alloc (Nat.le_refl _) _
  have hlt : w.heap.size < (w.alloc (.cells (Sm.rowB 32 []) 36)).heap.size := by simp
  have hsz32 := Tr.size32 hh
  have hz32 := Tr.zero32 hh
  have hone := Sm.bytes_one h
  have HNO := Lib.hid HN
  obtain ⟨cs, hcs⟩ : ∃ c, c = (Lib.byteCells h).toArray := ⟨_, rfl⟩
  rw [← hcs] at HNO hsz32 hz32 hone ⊢
  clear hcs HN hh
  go_enter Tryz.func18, Tryz.ntmps18
  go_wp2_with fail
  refine (HNO.out _ HB.out).mono ?_
  rintro e w1 ⟨rfl, k1⟩
  have HR1 := Lib.hid ((k1.block _ hlt).trans HR.out)
  have B1 : Hid (Below w.heap.size w w1) := HB.out.trans (k1.mono (Nat.le_of_lt hlt))
  have hst : ∀ (c : Array Value), c.size = 32 → (storeCells ⟨w1.heap.size, 0, none⟩ cs.toList).run Tryz.prog (w1.alloc (.cells c 36)) = .ok () (w1.alloc (.cells cs 36)) := fun c hc =>
    run_storeCells_new (P := Tryz.prog) w1 36 c cs (Sm.infoHash hsz32) (by rw [hsz32]; exact hc) hone
  have HB2 : Hid (Below w.heap.size w (w1.alloc (.cells cs 36))) := B1.out.alloc B1.out.size _
  have G2 := Lib.hid (heap_alloc_new w1 (.cells cs 36))
  have HR2 : Hid ((w1.alloc (.cells cs 36)).heap[w.heap.size]? = some (.cells (Sm.rowB 32 []) 36 (0, 0))) := by
    show _ = _
    rw [Below.heap_alloc _ _ _ (Sm.lt_of HR1.out)]
    exact HR1.out
  clear k1
  go_upto_region 2 with (fail)
  clear hst
  generalize w1.alloc (.cells cs 36) = W2 at *
  go_wp2_with first
    | (with_reducible refine wpList_load_row rfl 36 (.tmp 3) rfl w1.heap.size rfl 36 cs (0, 0) _ (by exact G2.out) Tryz.underlying36 rfl (Sm.infoHash hsz32) ?_)
    | (with_reducible refine wpList_store_row rfl 36 (.tmp 2) (.tmp 10) rfl w.heap.size cs rfl rfl 36 _ (by exact HR2.out) (Sm.infoHash hsz32) hz32 hone ?_)
  exact bodyPost_ret (v := .agg cs) (results_cell_row rfl _ _ w.heap.size 36 _ (0, 0) _ rfl (setRow_heap _ w.heap.size _ _ _ _ HR2.out) Tryz.underlying36 rfl (Sm.infoHash hsz32)) rfl ⟨rfl, Sm.below_setRow HB2.out (Nat.le_refl _) _⟩
theorem tRoot_any {w : World} {r : Nat} {l : List Om.Pr} (hT : Tr.TreeAt w r l) :
    Calls Tryz.prog 18 #[.pointer (some ⟨r, 0, none⟩)] w fun e w' => e = .returned (.agg (Lib.byteCells (Tr.root l)).toArray) ∧ Below w.heap.size w w' :=
  tRoot_of (Tr.lv_length l 0 0) true fun wx hb => tNode_ok (hT.low hb) (level := 0) (i := 0) (by decide) (by decide)
theorem tRoot_nil (w : World) : Calls Tryz.prog 18 #[.pointer none] w fun e w' => e = .returned (.agg (Lib.byteCells Tr.zeros).toArray) ∧ Below w.heap.size w w' :=
  tRoot_of Tr.zeros_length false fun wx _ => tNode_nil wx 0 0
end Go.Proofs.YtiehcplepneajaaGreatDoor

/-
  tree's Pairs and Texts.
-/
namespace Go.Proofs.YtiehcplepneajaaGreatDoor
open Go.RowKit
namespace Tr
open Om (Pr)
theorem fair_small {l : List Pr} (h : Fit l) {x : Pr} (hx : x ∈ l) : x.p.size ≤ 33 ∧ x.v.size ≤ 32 := by
  have := Bu.fair_len (h.fair x hx)
  rw [Ba.ba_size, Ba.ba_size] at this
  exact this
end Tr
set_option maxRecDepth 100000 in
theorem tPairs_nil (w : World) (i : Int) : Calls Tryz.prog 60 #[.pointer none, .int .i64 i] w fun e w' => e = .returned (.slice none 0 0) ∧ w = w' := by
  go_enter Tryz.func60, Tryz.ntmps60
  go_wp2
  go_ret
  exact ⟨rfl, rfl⟩
set_option maxRecDepth 100000 in
set_option maxHeartbeats 4000000 in
theorem tPairs_any {w : World} {r : Nat} {l : List Om.Pr} (hT : Tr.TreeAt w r l) {i : Nat} (hi : i < 16) :
    Calls Tryz.prog 60 #[.pointer (some ⟨r, 0, none⟩), .int .i64 (i : Int)] w fun e w' => ∃ B q, e = .returned (.slice B (Bu.part l i).length q) ∧ Om.Row w' w.heap.size B q (Bu.part l i) ∧ Below w.heap.size w w' := by
  obtain ⟨A, c, hc, hrow⟩ := hT.part hi
  have hlen := Bu.part_length l i
  have hfl := hT.fit.len
  have HS : Hid (∀ x ∈ Bu.part l i, x.p.size ≤ 33 ∧ x.v.size ≤ 32) := fun x hx => Tr.fair_small hT.fit (List.mem_filter.1 hx).1
  have HIT := Lib.hid hrow.listAt
  obtain ⟨m, hm⟩ : ∃ m, m = Bu.part l i := ⟨_, rfl⟩
  rw [← hm] at hc HIT HS hlen ⊢
  have HN : Hid (m.length ≤ 48) := by show _ ≤ _; omega
  have hii : (i : Int) < 16 := by omega
  have hi0 : ¬ (i : Int) < 0 := by omega
  have hi1 : ¬ (16 : Int) ≤ (i : Int) := by omega
  clear hT hrow hlen hfl hm hi
  go_enter Tryz.func60, Tryz.ntmps60
  go_wp2
  go_loopw [5, 25] (fun s5 s25 wr => ∃ (k : Nat) (B : Option Addr) (q : Nat) (t : List Om.Pr), s25 = .int .i64 k ∧ s5 = .slice B t.length q ∧ k ≤ m.length ∧ Bu.Pt w wr B q t ∧ Hid (t = m.take k)) (fun _ s25 _ => m.length - (intOf s25).toNat)
  case atStart => exact ⟨0, none, 0, [], rfl, rfl, Nat.zero_le _, Bu.Pt.nil w, rfl⟩
  case round =>
    obtain ⟨k, B, q, t, rfl, rfl, hk, hpt, hm⟩ := hrel
    have HPT := Lib.hid hpt
    clear hpt
    by_cases hlt : k < m.length
    · have hki : (k : Int) < (m.length : Int) := by omega
      have hsuc : IntKind.i64.wrap ((k : Int) + 1) = ((k + 1 : Nat) : Int) := by have := HN.out; simp [IntKind.wrap, IntKind.bits, IntKind.signed]; omega
      obtain ⟨b, off, rfl, hbl, x0, x1⟩ := HIT.out.get HPT.out.bel k hlt
      obtain ⟨hxp, hxv⟩ := HS.out _ (List.getElem_mem hlt)
      have hst : m.take (k + 1) = t ++ [m[k]] := by rw [hm.out, List.take_append_getElem hlt]
      have HML : Hid (t.length ≤ 1000000) := by
        show _ ≤ _
        rw [hm.out, List.length_take]
        have := HN.out
        omega
      obtain ⟨x, hx⟩ : ∃ x, x = m[k] := ⟨_, rfl⟩
      rw [← hx] at x0 x1 hxp hxv hst
      have HST := Lib.hid hst
      have HLT := Lib.hid hlt
      have OW := Lib.hid (fun wx => tOwn_any wx x.p x.v (by omega) (by omega))
      obtain ⟨M, hM⟩ : ∃ M, M = wr.heap.size := ⟨_, rfl⟩
      have gn := heap_alloc_new wr (.cells #[.string x.p, .string x.v] 79)
      have b1 : Below wr.heap.size wr (wr.alloc (.cells #[.string x.p, .string x.v] 79)) := (Below.refl _ wr).alloc (Nat.le_refl _) _
      have S1 := Lib.hid (HPT.out.step b1)
      rw [← hM] at gn
      clear hx hst b1 hlt hm
      go_upto_region 7 with (fail)
      rw [← hM]
      clear hM
      generalize wr.alloc (.cells #[.string x.p, .string x.v] 79) = W1 at *
      have y0 := Sm.cells_of gn 0 _ rfl
      have y1 := Sm.cells_of gn 1 _ rfl
      clear x0 x1 gn
      go_wp2_with first
        | (go_at_call 53; refine (OW.out _).mono ?_; rintro e w4 ⟨rfl, k4⟩; have S4 := Lib.hid ((S1.out.step k4).step ((Below.refl _ w4).alloc (Nat.le_refl _) (.cells #[.string x.p, .string x.v] 79))); clear k4)
        | (at_builtin; refine Om.wp_push rfl _ _ rfl rfl S4.out.row x rfl (heap_alloc_new w4 _) (by have := HML.out; omega) S4.out.bel.size ?_; intro B7 q7 w7 hr7 hg7)
      have S7 := Lib.hid (S4.out.push hr7 hg7)
      have hlen : t.length + 1 = (t ++ [x]).length := by simp
      clear hr7 hg7
      go_roundw
      case rel => exact ⟨k + 1, B7, q7, t ++ [x], rfl, by rw [← hlen], HLT.out, S7.out, HST.out.symm⟩
      case measure => simp only [intOf]; have := HLT.out; omega
    · have hki : ¬ (k : Int) < (m.length : Int) := by omega
      have hke : k = m.length := by omega
      have hm' := hm.out
      rw [hke, List.take_length] at hm'
      have HMM := Lib.hid hm'
      clear hm hk hm'
      go_wp2
      go_ret
      exact ⟨B, q, by rw [← HMM.out]; rfl, by rw [← HMM.out]; exact HPT.out.row, HPT.out.bel⟩
set_option maxRecDepth 100000 in
theorem tTexts_nil (w : World) : Calls Tryz.prog 51 #[.pointer none] w fun e w' => e = .returned (.slice none 0 0) ∧ w = w' := by
  go_enter Tryz.func51, Tryz.ntmps51
  go_wp2
  go_ret
  exact ⟨rfl, rfl⟩
namespace Tr
/-- The texts, as texts. -/
def txl (l : List Om.Pr) : List ByteArray := (texts l).map tx
theorem txl_take (l : List Om.Pr) {k : Nat} (hk : k < 31) : (txl l).take (k + 1) = (txl l).take k ++ [tx (tk l k)] := by
  have h : (txl l).length = 31 := by unfold txl; rw [List.length_map, texts_length]
  rw [← List.take_append_getElem (show k < (txl l).length by omega)]
  congr 2
  unfold txl
  rw [List.getElem_map]
  congr 1
  simp [texts_row]
theorem txl_length (l : List Om.Pr) : (txl l).length = 31 := by unfold txl; rw [List.length_map, texts_length]
end Tr
set_option maxRecDepth 100000 in
set_option maxHeartbeats 4000000 in
theorem tTexts_any {w : World} (hH : Sm.HAt w) (hK : Sm.KAt w) (hsz : 1 < w.heap.size) {r : Nat} {l : List Om.Pr} (hT : Tr.TreeAt w r l) :
    Calls Tryz.prog 51 #[.pointer (some ⟨r, 0, none⟩)] w fun e w' => ∃ B q, e = .returned (.slice B 31 q) ∧ Om.SRow w' w.heap.size B q (Tr.txl l) ∧ Below w.heap.size w w' := by
  have TT : Hid (∀ (wx : World) (k : Nat), Below w.heap.size w wx → k < 31 → Calls Tryz.prog 88 #[.pointer (some ⟨r, 0, none⟩), .int .i64 (k : Int)] wx fun e w' => e = .returned (.string (Tr.tx (Tr.tk l k))) ∧ Below wx.heap.size wx w') := fun wx k hb hk => by
    obtain ⟨S, hB, hR⟩ := (hT.low hb).blk
    exact tText_any (hH.low hb (by omega)) (hK.low hb hsz) (Nat.lt_of_lt_of_le hsz hb.size) hB hR hT.fit hk (Tr.Kids.all l k)
  have HTK : Hid (∀ k, k < 31 → (Tr.txl l).take (k + 1) = (Tr.txl l).take k ++ [Tr.tx (Tr.tk l k)]) := fun k hk => Tr.txl_take l hk
  have HLEN := Lib.hid (Tr.txl_length l)
  obtain ⟨T, hT'⟩ : ∃ T, T = Tr.txl l := ⟨_, rfl⟩
  rw [← hT'] at HTK HLEN ⊢
  clear hH hK hsz hT hT'
  go_enter Tryz.func51, Tryz.ntmps51
  go_wp2
  go_loopw [3, 7] (fun s3 s7 wr => ∃ (k : Nat) (B : Option Addr) (q : Nat) (t : List ByteArray), s7 = .int .i64 k ∧ s3 = .slice B t.length q ∧ k ≤ 31 ∧ Hid (t = T.take k) ∧ Om.SRow wr w.heap.size B q t ∧ Below w.heap.size w wr) (fun _ s7 _ => 31 - (intOf s7).toNat)
  case atStart => exact ⟨0, none, 0, [], rfl, rfl, by omega, rfl, Om.SRow.nil _ _, Below.refl _ _⟩
  case round =>
    obtain ⟨k, B, q, t, rfl, rfl, hk, hm, hrow, hb⟩ := hrel
    have HRW := Lib.hid hrow
    have HB := Lib.hid hb
    clear hrow hb
    by_cases hlt : k < 31
    · have hki : (k : Int) < 31 := by omega
      have hsuc : IntKind.i64.wrap ((k : Int) + 1) = ((k + 1 : Nat) : Int) := by simp [IntKind.wrap, IntKind.bits, IntKind.signed]; omega
      have hst := HTK.out k hlt
      rw [← hm.out] at hst
      have T1 := Lib.hid (TT.out wr k HB.out hlt)
      have HML : Hid (t.length ≤ 31) := by
        show _ ≤ _
        rw [hm.out, List.length_take]
        omega
      obtain ⟨x, hx⟩ : ∃ x, x = Tr.tx (Tr.tk l k) := ⟨_, rfl⟩
      rw [← hx] at hst T1
      have HST := Lib.hid hst
      have HLT := Lib.hid hlt
      clear hst hx hm hlt
      go_wp2_with first
        | (go_at_call 88; refine T1.out.mono ?_; rintro e w4 ⟨rfl, k4⟩; have K4 : Hid (Below wr.heap.size wr (w4.alloc (.cells #[.string x] 9))) := k4.alloc k4.size _; clear k4)
        | (at_builtin; refine Om.wp_text rfl _ _ rfl rfl (HRW.out.low K4.out) x rfl (heap_alloc_new _ _) (by have := HML.out; omega) (Nat.le_trans HB.out.size K4.out.size) ?_; intro A' c' w3 hr3 hg3)
      have hsl : t.length + 1 = (t ++ [x]).length := by simp
      have K3 : Hid (Below w.heap.size w w3) := (HB.out.trans (K4.out.mono HB.out.size)).grown hg3 (Nat.le_trans HB.out.size K4.out.size) (fun q hq => ((HRW.out.low K4.out).blk hq).1)
      have HR3 := Lib.hid hr3
      clear hr3 hg3
      go_roundw
      case rel => exact ⟨k + 1, A', c', t ++ [x], rfl, by rw [← hsl], HLT.out, HST.out.symm, HR3.out, K3.out⟩
      case measure => simp only [intOf]; have := HLT.out; omega
    · have hki : ¬ (k : Int) < 31 := by omega
      have hke : k = 31 := by omega
      have hm' := hm.out
      rw [hke, List.take_of_length_le (by rw [HLEN.out]; omega)] at hm'
      have HMM := Lib.hid hm'
      clear hm hm'
      go_wp2
      go_ret
      exact ⟨B, q, by rw [← HLEN.out, ← HMM.out]; rfl, by rw [← HMM.out]; exact HRW.out, HB.out⟩
end Go.Proofs.YtiehcplepneajaaGreatDoor

/-
  tree's All: the buckets' rows behind one another, sorted by slices.SortFunc.
-/
namespace Go.Proofs.YtiehcplepneajaaGreatDoor
open Go.RowKit Go.Sort
instance Tr.prInh : Inhabited Om.Pr := ⟨⟨⟨#[]⟩, ⟨#[]⟩⟩⟩
namespace Tr
open Om (Pr lt)
def cf (x y : Pr) : Int := cmpS x.p y.p
theorem lt_cf (x y : Pr) : Go.Proofs.ltOf cf x y = lt x.p y.p := by
  unfold Go.Proofs.ltOf cf
  rw [Bool.eq_iff_iff, decide_eq_true_eq]
  exact cmpS_neg _ _
theorem swo : SWO (Go.Proofs.ltOf cf) where
  irrefl x := by rw [lt_cf]; exact Om.lt_irrefl _
  trans x y z h1 h2 := by rw [lt_cf] at *; exact Om.lt_trans h1 h2
  ntrans x y z h1 h2 := by
    rw [lt_cf] at *
    cases h : lt x.p z.p with
    | false => rfl
    | true =>
      rcases Om.lt_three x.p y.p with q | q | q
      · rw [q] at h1; cases h1
      · rw [q] at h; rw [h] at h2; cases h2
      · have := Om.lt_trans q h
        rw [this] at h2; cases h2
theorem sort_below {w : World} {N g n : Nat} (hg : N ≤ g) (hs : N ≤ w.heap.size) (d : Array Pr) (os : Array Obj) : Below N w (sortWorldK Om.Pr.cells 2 w g 0 n d os) := by
  refine ⟨rfl, rfl, rfl, ?_, fun k hk => ?_⟩
  · unfold sortWorldK grow putRowK putRow mapBlock Sort.ahead
    simp
  · unfold sortWorldK grow putRowK putRow mapBlock Sort.ahead
    simp only
    rw [Array.getElem?_append_left (by simp; omega), Array.getElem?_modify, if_neg (by omega)]
theorem row_holds {w : World} {N g c : Nat} {d : List Pr} (h : Om.Row w N (some ⟨g, 0, none⟩) c d) : HoldsK Om.Pr.cells 2 w g 0 d.toArray := fun j hj => by
  have hj2 : j < d.length * 2 := by simpa using hj
  have hq : j / 2 < d.length := by omega
  have hm : j % 2 < 2 := Nat.mod_lt _ (by decide)
  have e : j = j / 2 * 2 + j % 2 := by omega
  have hc := World.ownsRow.cellAt h j hj2
  have hfl : (Om.flat d)[j]? = (d[j / 2]).cells[j % 2]? := by
    have := Om.flat_at (l := d) hq hm
    rw [← e] at this
    exact this
  have hl2 : (d[j / 2]).cells.length = 2 := rfl
  refine ⟨?_, ?_⟩
  · rw [Nat.zero_add, hc, hfl, get_flatK _ _ _ j (by simpa using hj2)]
    rw [List.getElem?_eq_getElem (by omega)]
    congr 1
    have h1 : d.toArray[j / 2]! = d[j / 2] := by simp [hq]
    rw [h1]
    simp [hl2, hm]
  · obtain ⟨-, cs, hcs⟩ := h.blk (q := g) rfl
    exact Sm.free_of hcs _
end Tr
theorem prSort_any {w : World} {N c : Nat} {A : Option Addr} {d l : List Om.Pr} (h : Om.Row w N A c d) (hN : N ≤ w.heap.size) (hl : Om.Rises l) (hp : d.Perm l) (hn : d.length ≤ 1000000) :
    Calls Tryz.prog 67 #[.slice A d.length c, .func (.func 76) #[] #[]] w fun e w' => e = .returned (.tuple #[]) ∧ Om.listAt w' A l ∧ Below N w w' := by
  by_cases h0 : d = []
  · subst h0
    have hl0 : l = [] := List.Perm.nil_eq hp ▸ rfl
    subst hl0
    have := AnyF.slices_SortFunc_none { Om.sortPr with } A c (.func (.func 76) #[] #[]) w
    change Calls Tryz.prog 67 _ _ _ at this
    exact this.mono fun e w' ⟨h1, h2⟩ => ⟨h1, .inl rfl, by rw [h2]; exact Below.refl _ _⟩
  · obtain ⟨b, off, hA, hb, -⟩ := h.listAt.resolve_left h0
    subst hA
    have hoff : off = 0 := by
      rcases h.2 with ⟨e, _⟩ | ⟨g, cap, cur, e, _⟩
      · cases e
      · injection e with e1
        simp only [Option.some.injEq, Addr.mk.injEq] at e1
        exact e1.2.1
    subst hoff
    have hNb : N ≤ b := (h.blk (q := b) rfl).1
    have eg : ∀ args w, (callFunc 76 args).run Tryz.prog w = .ok (.enter 76 args) w := Go.Proofs.enters_of Tryz.func76 (by kernel_rfl) rfl
    have hcon := AnyQ.slices_SortFunc Om.sortPr 2 (fun w => by kernel_rfl) (fun w => by kernel_rfl) Om.Pr.cells (fun _ => rfl) (fun x v hv => Om.cells_one' x v hv) Tr.cf Tr.swo 76 #[] b 0 c d.toArray w eg (fun _ _ _ _ x y => tAll1_any _ x y) (Tr.row_holds h) hb (by simp; omega)
    rw [List.size_toArray] at hcon
    change Calls Tryz.prog 67 _ _ _ at hcon
    refine hcon.mono fun e w' ⟨h1, d', n, os, hperm, hsort, hw⟩ => ⟨h1, ?_, by rw [hw]; exact Tr.sort_below hNb hN _ _⟩
    obtain ⟨hds, -, hpp⟩ := hperm
    have hds2 : d'.size = d.length := by simpa using hds
    have hpl : d'.toList.Perm d := by
      have e1 : d'.extract 0 d.length = d' := by rw [← hds2, Array.extract_size]
      have e2 : d.toArray.extract 0 d.length = d.toArray := by simp
      rw [e1, e2] at hpp
      exact hpp
    have heq : d'.toList = l := Tr.sorted_is (hpl.trans hp) hl fun i j hi hj hij => by
      have q : j < d'.size := by simpa using hj
      have := hsort i j (Nat.zero_le _) hij (by rw [hds2] at q; simpa using q)
      rw [Tr.lt_cf] at this
      simp only [Array.length_toList] at hi hj
      rw [getElem!_pos d' j hj, getElem!_pos d' i hi] at this
      simpa using this
    have hh := holdsK_sortWorldK Om.Pr.cells 2 w b 0 n d.toArray d' os hb (Tr.row_holds h) (by rw [List.size_toArray]; exact hds)
    rw [← hw] at hh
    refine .inr ⟨b, 0, rfl, by rw [hw]; exact lt_sortWorldK _ _ _ _ _ _ _ _ hb, fun k hk => ?_⟩
    have hkd : k < d'.size := by rw [← heq] at hk; simpa using hk
    have hlk : l[k] = d'[k] := by
      have : d'.toList[k]'(by simpa using hkd) = d'[k] := by simp
      rw [← this]
      congr 1
      exact heq.symm
    have c0 := HoldsK.cells hh (fun _ => rfl) hkd 0 (.string l[k].p) (by rw [getElem!_pos d' k hkd, hlk]; rfl)
    have c1 := HoldsK.cells hh (fun _ => rfl) hkd 1 (.string l[k].v) (by rw [getElem!_pos d' k hkd, hlk]; rfl)
    rw [Addr.add_lit] at c0 c1
    exact ⟨c0, c1⟩
set_option maxRecDepth 100000 in
set_option maxHeartbeats 1000000 in
theorem tAll_nil (w : World) : Calls Tryz.prog 36 #[.pointer none] w fun e w' => ∃ A c, e = .returned (.slice A 0 c) ∧ Below w.heap.size w w' := by
  have PN := Lib.hid (fun (wx : World) (i : Int) => tPairs_nil wx i)
  have SN : Hid (∀ (wx : World) (A : Option Addr) (c : Nat), Calls Tryz.prog 67 #[.slice A 0 c, .func (.func 76) #[] #[]] wx fun e w' => e = .returned (.tuple #[]) ∧ w' = wx) := fun wx A c => by
    have := AnyF.slices_SortFunc_none { Om.sortPr with } A c (.func (.func 76) #[] #[]) wx
    exact this
  go_enter Tryz.func36, Tryz.ntmps36
  go_wp2
  go_loopw [3, 5] (fun s3 s5 wr => ∃ (i : Nat) (A : Option Addr) (c : Nat), s5 = .int .i64 i ∧ i ≤ 16 ∧ s3 = .slice A 0 c ∧ Om.Row wr w.heap.size A c [] ∧ Below w.heap.size w wr) (fun _ s5 _ => 16 - (intOf s5).toNat)
  case atStart => exact ⟨0, none, 0, rfl, by omega, rfl, Om.Row.nil _ _, Below.refl _ _⟩
  case round =>
    obtain ⟨i, A, c, rfl, hi, rfl, hrow, hb⟩ := hrel
    have HB := Lib.hid hb
    have HRW := Lib.hid hrow
    clear hb hrow
    by_cases hlt : i < 16
    · have hii : (i : Int) < 16 := by omega
      have hsuc : IntKind.i64.wrap ((i : Int) + 1) = ((i + 1 : Nat) : Int) := by simp [IntKind.wrap, IntKind.bits, IntKind.signed]; omega
      have HLT := Lib.hid hlt
      clear hlt
      go_wp2_with first
        | (go_at_call 60; refine (PN.out _ _).mono ?_; rintro e w2 ⟨rfl, rfl⟩)
        | (at_builtin; refine Om.wp_cat rfl _ _ rfl (l := []) rfl HRW.out (m := []) (d := 0) (C := none) rfl (.inl rfl) (by simp) HB.out.size ?_; intro A' c' w4 hr4 hg4)
      have K4 : Hid (Below w.heap.size w w4) := HB.out.grown hg4 HB.out.size (fun q hq => (HRW.out.blk hq).1)
      have HR4 := Lib.hid hr4
      clear hr4 hg4
      go_roundw
      case rel => exact ⟨i + 1, A', c', rfl, HLT.out, rfl, HR4.out, K4.out⟩
      case measure => simp only [intOf]; have := HLT.out; omega
    · have hii : ¬ (i : Int) < 16 := by omega
      go_wp2_with (go_at_call 67; refine (SN.out _ _ _).mono ?_; rintro e w2 ⟨rfl, rfl⟩)
      go_ret
      exact ⟨A, c, rfl, HB.out⟩
set_option maxRecDepth 100000 in
set_option maxHeartbeats 2000000 in
theorem tAll_any {w : World} {r : Nat} {l : List Om.Pr} (hT : Tr.TreeAt w r l) :
    Calls Tryz.prog 36 #[.pointer (some ⟨r, 0, none⟩)] w fun e w' => ∃ A c, e = .returned (.slice A l.length c) ∧ Om.listAt w' A l ∧ Below w.heap.size w w' := by
  have PA : Hid (∀ (wx : World) (i : Nat), Below w.heap.size w wx → i < 16 → Calls Tryz.prog 60 #[.pointer (some ⟨r, 0, none⟩), .int .i64 (i : Int)] wx fun e w' => ∃ B q, e = .returned (.slice B (Bu.part l i).length q) ∧ Om.Row w' wx.heap.size B q (Bu.part l i) ∧ Below wx.heap.size wx w') := fun wx i hb hi => tPairs_any (hT.low hb) hi
  have HFL := Lib.hid hT.fit.len
  have HCL : Hid (∀ i, (Tr.cat l i).length ≤ 48) := fun i => Nat.le_trans (Tr.cat_length l i) hT.fit.len
  have HC : Hid (∀ i : Nat, Tr.cat l (i + 1) = Tr.cat l i ++ Bu.part l i) := fun _ => rfl
  have HCP := Lib.hid (Tr.cat_all l)
  have HRI := Lib.hid hT.fit.rises
  have SO : Hid (∀ (wx : World) (A : Option Addr) (c : Nat), Om.Row wx w.heap.size A c (Tr.cat l 16) → Below w.heap.size w wx → Calls Tryz.prog 67 #[.slice A l.length c, .func (.func 76) #[] #[]] wx fun e w' => e = .returned (.tuple #[]) ∧ Om.listAt w' A l ∧ Below w.heap.size wx w') := fun wx A c h hb => by
    have := prSort_any h hb.size HRI.out HCP.out (by have := HCL.out 16; omega)
    rw [HCP.out.length_eq] at this
    exact this
  have HL16 : Hid ((Tr.cat l 16).length = l.length) := HCP.out.length_eq
  clear hT
  go_enter Tryz.func36, Tryz.ntmps36
  go_wp2
  go_loopw [3, 5] (fun s3 s5 wr => ∃ (i : Nat) (A : Option Addr) (c : Nat) (m : List Om.Pr), s5 = .int .i64 i ∧ i ≤ 16 ∧ s3 = .slice A m.length c ∧ Hid (m = Tr.cat l i) ∧ Om.Row wr w.heap.size A c m ∧ Below w.heap.size w wr) (fun _ s5 _ => 16 - (intOf s5).toNat)
  case atStart => exact ⟨0, none, 0, [], rfl, by omega, rfl, rfl, Om.Row.nil _ _, Below.refl _ _⟩
  case round =>
    obtain ⟨i, A, c, m, rfl, hi, rfl, hm, hrow, hb⟩ := hrel
    have HRW := Lib.hid hrow
    have HB := Lib.hid hb
    clear hrow hb
    by_cases hlt : i < 16
    · have hii : (i : Int) < 16 := by omega
      have hsuc : IntKind.i64.wrap ((i : Int) + 1) = ((i + 1 : Nat) : Int) := by simp [IntKind.wrap, IntKind.bits, IntKind.signed]; omega
      have P1 := Lib.hid (PA.out wr i HB.out hlt)
      have hnext : Tr.cat l (i + 1) = m ++ Bu.part l i := by rw [HC.out i, hm.out]
      have HSUM : Hid (m.length + (Bu.part l i).length ≤ 1000000) := by
        have h1 := HCL.out (i + 1)
        rw [hnext, List.length_append] at h1
        show _ ≤ _
        omega
      obtain ⟨t, ht⟩ : ∃ t, t = Bu.part l i := ⟨_, rfl⟩
      rw [← ht] at P1 hnext HSUM
      have HNX := Lib.hid hnext
      have HLT := Lib.hid hlt
      clear hnext ht hlt hm
      go_wp2_with first
        | (go_at_call 60; refine P1.out.mono ?_; rintro e w2 ⟨B2, q2, rfl, r2, k2⟩; have R2 := Lib.hid r2; have K2 := Lib.hid k2; clear r2 k2)
        | (at_builtin; refine Om.wp_cat rfl _ _ rfl rfl (HRW.out.low K2.out) rfl R2.out.listAt HSUM.out (Nat.le_trans HB.out.size K2.out.size) ?_; intro A' c' w4 hr4 hg4)
      have hlen : m.length + t.length = (m ++ t).length := by simp
      have K4 : Hid (Below w.heap.size w w4) := (HB.out.trans (K2.out.mono HB.out.size)).grown hg4 (Nat.le_trans HB.out.size K2.out.size) (fun q hq => ((HRW.out.low K2.out).blk hq).1)
      have HR4 := Lib.hid hr4
      clear hr4 hg4
      go_roundw
      case rel => exact ⟨i + 1, A', c', m ++ t, rfl, HLT.out, by rw [← hlen], HNX.out.symm, HR4.out, K4.out⟩
      case measure => simp only [intOf]; have := HLT.out; omega
    · have hii : ¬ (i : Int) < 16 := by omega
      have hi16 : i = 16 := by omega
      subst hi16
      have hml : m.length = l.length := by rw [hm.out]; exact HL16.out
      have S1 := Lib.hid (SO.out wr A c (by rw [← hm.out]; exact HRW.out) HB.out)
      rw [hml]
      clear hm hml hi
      go_wp2_with (go_at_call 67; refine S1.out.mono ?_; rintro e w2 ⟨rfl, q1, q2⟩)
      go_ret
      exact ⟨A, c, rfl, q1, HB.out.trans q2⟩
end Go.Proofs.YtiehcplepneajaaGreatDoor

/-
  Where tree's Of stands: the pairs taken so far in their buckets' rows, each in a block of its own.
-/
namespace Go.Proofs.YtiehcplepneajaaGreatDoor
open Go.RowKit
namespace Tr
open Om (Pr)
/-- Rows with unlike pairs at their heads lie in blocks of their own. -/
theorem rows_apart {w : World} {B B' : Nat} {A A' : Option Addr} {c c' : Nat} {l l' : List Pr} (h : Om.Row w B A c l) (h' : Om.Row w B' A' c' l') (h0 : 0 < l.length) (h1 : 0 < l'.length) (hne : l[0].p ≠ l'[0].p) :
    (Value.slice A l.length c).ownBlock ≠ (Value.slice A' l'.length c').ownBlock := by
  intro e
  obtain ⟨b, off, rfl, -, -⟩ := (h.listAt).resolve_left (fun q => by rw [q] at h0; exact absurd h0 (Nat.lt_irrefl _))
  have e1 : (Value.slice (some ⟨b, off, none⟩) l.length c).ownBlock = some b := rfl
  rw [e1] at e
  have c1 := World.ownsRow.cells h e1 0 (.string l[0].p) (by have := Om.flat_at (l := l) (k := 0) (j := 0) h0 (by decide); exact this)
  have c2 := World.ownsRow.cells h' e.symm 0 (.string l'[0].p) (by have := Om.flat_at (l := l') (k := 0) (j := 0) h1 (by decide); exact this)
  rw [c1] at c2
  simp only [Option.some.injEq, Value.string.injEq] at c2
  exact hne c2
/-- The rows of the pairs taken so far, from block N on. -/
def Grown (w : World) (N : Nat) (S : Nat → Value) (m : List Pr) : Prop := ∀ i, i < 16 → ∃ A c, S i = .slice A (Bu.part m i).length c ∧ Om.Row w N A c (Bu.part m i) ∧ (Bu.part m i = [] → A = none ∧ c = 0)
structure OfAt (w W : World) (N r : Nat) (S : Nat → Value) (m : List Pr) : Prop where
  blk : Blk W r S (fun _ => zeros)
  rows : Grown W N S m
  bel : Below N w W
  low : N ≤ r
theorem OfAt.step {w W W' : World} {N r : Nat} {S : Nat → Value} {m : List Pr} (h : OfAt w W N r S m) (k : Below W.heap.size W W') : OfAt w W' N r S m :=
  ⟨h.blk.low k, fun i hi => by
    obtain ⟨A, c, h1, h2, h3⟩ := h.rows i hi
    exact ⟨A, c, h1, h2.low k, h3⟩, h.bel.trans (k.mono (Nat.le_of_lt (Nat.lt_of_le_of_lt h.low h.blk.lt))), h.low⟩
theorem OfAt.size {w W : World} {N r : Nat} {S : Nat → Value} {m : List Pr} (h : OfAt w W N r S m) : N ≤ W.heap.size := Nat.le_of_lt (Nat.lt_of_le_of_lt h.low h.blk.lt)
/-- The block that an append may turn is the bucket's own row's. -/
theorem OfAt.push {w W W' : World} {N r i : Nat} {S : Nat → Value} {m : List Pr} (h : OfAt w W N r S m) (hi : i < 16) {x : Pr} (hx : Bu.bk x.p = i) {A : Option Addr} {c : Nat} (hS : S i = .slice A (Bu.part m i).length c) {B : Option Addr} {q : Nat}
    (hr : Om.Row W' N B q (Bu.part m i ++ [x])) (hg : W.grownBy W' (Value.slice A (Bu.part m i).length c).ownBlock) :
    OfAt w (W'.setCell ⟨r, i, none⟩ (.slice B ((Bu.part m i).length + 1) q)) N r (upd S i (.slice B ((Bu.part m i).length + 1) q)) (m ++ [x]) ∧ W'.cell? ⟨r, i, none⟩ = some (S i) ∧ W'.frozen? ⟨r, i, none⟩ = false := by
  obtain ⟨A0, c0, e0, r0, n0⟩ := h.rows i hi
  rw [hS] at e0
  injection e0 with e1 e2 e3
  subst e1
  subst e3
  have hoff : (Value.slice A (Bu.part m i).length c).ownBlock ≠ some r := r0.off h.blk.cells (fun e => pair_tree e.symm)
  have hb : Blk W' r S (fun _ => zeros) := h.blk.keep (hg.block r h.blk.lt (fun e => hoff e.symm))
  have hset : ∀ (j : Nat) (cs : Array Value), W'.heap[j]? = some (Obj.cells cs 79 (0, 0)) → (W'.setCell ⟨r, i, none⟩ (.slice B ((Bu.part m i).length + 1) q)).heap[j]? = W'.heap[j]? := fun j cs hj => Below.heap_setCell _ _ _ _ (hb.apart hj pair_tree)
  have pi : Bu.part (m ++ [x]) i = Bu.part m i ++ [x] := by
    rw [Bu.part_snoc, if_pos]
    unfold Bu.isOf
    rw [hx]
    simp
  refine ⟨⟨hb.set hi _, fun j hj => ?_, ?_, h.low⟩, hb.slot hi, hb.free i⟩
  · by_cases e : j = i
    · subst e
      refine ⟨B, q, by rw [upd_same, pi]; simp, ?_, fun e => ?_⟩
      · rw [pi]
        exact hr.keep hset
      · rw [pi] at e
        simp at e
    · have pj : Bu.part (m ++ [x]) j = Bu.part m j := by
        rw [Bu.part_snoc, if_neg]
        · simp
        · unfold Bu.isOf
          rw [hx]
          simp
          omega
      obtain ⟨A', c', e', r', n'⟩ := h.rows j hj
      rw [pj]
      refine ⟨A', c', by rw [upd_other _ _ e]; exact e', ?_, n'⟩
      by_cases hnil : Bu.part m j = []
      · obtain ⟨rfl, rfl⟩ := n' hnil
        rw [hnil]
        exact Om.Row.nil _ _
      · refine Om.Row.keep ?_ hset
        have hpos : 0 < (Bu.part m j).length := List.length_pos_iff.2 hnil
        refine World.ownsRow.kept r' hg ?_
        by_cases hni : Bu.part m i = []
        · obtain ⟨rfl, rfl⟩ := n0 hni
          right
          rcases r'.listAt with q | ⟨b', off', rfl, -, -⟩
          · exact absurd q hnil
          · intro q
            cases q
        · right
          have hposi : 0 < (Bu.part m i).length := List.length_pos_iff.2 hni
          refine rows_apart r' r0 hpos hposi fun q => ?_
          have m1 := (List.mem_filter.1 (List.getElem_mem hpos)).2
          have m2 := (List.mem_filter.1 (List.getElem_mem hposi)).2
          unfold Bu.isOf at m1 m2
          rw [decide_eq_true_eq] at m1 m2
          have q2 := congrArg Bu.bk q
          rw [q2] at m1
          omega
  · exact (h.bel.grown hg h.size (fun b hb => (r0.blk hb).1)).setCell (p := ⟨r, i, none⟩) h.low _
end Tr
end Go.Proofs.YtiehcplepneajaaGreatDoor

/-
  tree's Of and New.
-/
namespace Go.Proofs.YtiehcplepneajaaGreatDoor
open Go.RowKit
namespace Tr
open Om (Pr)
theorem OfAt.rowsOf {w W : World} {N r : Nat} {S : Nat → Value} {m : List Pr} (h : OfAt w W N r S m) : Rows W S m := fun i hi => by
  obtain ⟨A, c, h1, h2, _⟩ := h.rows i hi
  exact ⟨A, c, h1, h2.base (Nat.zero_le _)⟩
theorem built_tree : Tryz.prog.built 103 [] = some (cellsOf (fun _ => .slice none 0 0) (fun _ => zeros)).toArray := by kernel_rfl
end Tr
set_option maxRecDepth 100000 in
set_option maxHeartbeats 8000000 in
theorem tOf_ok {w : World} (hH : Sm.HAt w) (hK : Sm.KAt w) (hsz : 1 < w.heap.size) {A : Option Addr} {l : List Om.Pr} (c : Nat) (hit : Om.listAt w A l) (hf : Tr.Fit l) :
    Calls Tryz.prog 15 #[.slice A l.length c] w fun e w' => ∃ r, e = .returned (.tuple #[.pointer (some ⟨r, 0, none⟩), .int .i64 0]) ∧ w.heap.size ≤ r ∧ Tr.TreeAt w' r l ∧ Below w.heap.size w w' := by
  have hsmall : ∀ x ∈ l, x.p.size ≤ 33 ∧ x.v.size ≤ 32 := fun x hx => by
    have := Bu.fair_len (hf.fair x hx)
    rw [Ba.ba_size, Ba.ba_size] at this
    exact this
  have MA := Lib.hid (buMay_any c hit (by have := hf.len; omega) (fun x hx => by have := hsmall x hx; omega))
  rw [hf.may] at MA
  have HS := Lib.hid hsmall
  have HIT := Lib.hid hit
  have HL48 := Lib.hid hf.len
  have h48 : ¬ (48 : Int) < (l.length : Int) := by have := hf.len; omega
  have HHK : Hid (∀ wx : World, Below w.heap.size w wx → Sm.HAt wx ∧ Sm.KAt wx ∧ 1 < wx.heap.size) := fun wx hb => ⟨hH.low hb (by omega), hK.low hb hsz, Nat.lt_of_lt_of_le hsz hb.size⟩
  have HF := Lib.hid hf
  obtain ⟨hz, hzs⟩ := zero_of_info Tr.zeroTree
  have hlz := Tr.cells_length (S := fun _ => Value.slice none 0 0) (M := fun _ => Tr.zeros) (fun _ _ => rfl)
  have hbt := Tr.built_tree
  obtain ⟨N, hN⟩ : ∃ N, N = w.heap.size := ⟨_, rfl⟩
  have HN := Lib.hid hN
  have HOF : Hid (∀ w1 : World, Below w.heap.size w w1 → Tr.OfAt w (w1.alloc (.cells (Tr.cellsOf (fun _ => .slice none 0 0) (fun _ => Tr.zeros)).toArray 103)) N w1.heap.size (fun _ => .slice none 0 0) []) := fun w1 hb =>
    ⟨⟨heap_alloc_new _ _, fun _ _ => rfl⟩, fun i hi => ⟨none, 0, rfl, Om.Row.nil _ _, fun _ => ⟨rfl, rfl⟩⟩, by rw [hN]; exact hb.alloc hb.size _, by rw [hN]; exact hb.size⟩
  obtain ⟨Z, hZ⟩ : ∃ Z, Z = (Tr.cellsOf (fun _ => Value.slice none 0 0) (fun _ => Tr.zeros)).toArray := ⟨_, rfl⟩
  rw [← hZ] at HOF hz hbt
  have hZs : Z.size = 1008 := by rw [hZ, List.size_toArray, hlz]
  clear hZ hlz hit hf hH hK hsz hsmall hN
  go_enter Tryz.func15, Tryz.ntmps15
  go_upto_region 5 with (go_at_call 52; refine MA.out.mono ?_; rintro e w1 ⟨rfl, k1⟩)
  go_upto_region 6 with (fail)
  have ST0 := Lib.hid (HOF.out w1 k1)
  generalize w1.alloc (.cells Z 103) = W0 at *
  generalize w1.heap.size = r at *
  clear hz hzs hbt hZs HOF MA k1
  go_wp2
  go_loopw [19] (fun s19 wr => ∃ (k : Nat) (S : Nat → Value) (m : List Om.Pr), s19 = .int .i64 k ∧ k ≤ l.length ∧ Hid (m = l.take k) ∧ Tr.OfAt w wr N r S m) (fun s19 _ => l.length - (intOf s19).toNat)
  case atStart => exact ⟨0, _, [], rfl, Nat.zero_le _, rfl, ST0.out⟩
  case round =>
    clear ST0
    obtain ⟨k, S, m, rfl, hk, hm, hst⟩ := hrel
    have ST := Lib.hid hst
    clear hst
    by_cases hlt : k < l.length
    · have hki : (k : Int) < (l.length : Int) := by omega
      have hsuc : IntKind.i64.wrap ((k : Int) + 1) = ((k + 1 : Nat) : Int) := by have := HL48.out; simp [IntKind.wrap, IntKind.bits, IntKind.signed]; omega
      have hbw : Below w.heap.size w wr := by rw [← HN.out]; exact ST.out.bel
      obtain ⟨b, off, rfl, hbl, x0, x1⟩ := HIT.out.get hbw k hlt
      obtain ⟨hxp, hxv⟩ := HS.out _ (List.getElem_mem hlt)
      have htk : l.take (k + 1) = m ++ [l[k]] := by rw [hm.out, List.take_append_getElem hlt]
      have hml : m.length ≤ 48 := by
        rw [hm.out, List.length_take]
        have := HL48.out
        omega
      obtain ⟨x, hx⟩ : ∃ x, x = l[k] := ⟨_, rfl⟩
      rw [← hx] at x0 x1 hxp hxv htk
      have HST := Lib.hid htk
      have HLT := Lib.hid hlt
      have OW := Lib.hid (fun wx => tOwn_any wx x.p x.v (by omega) (by omega))
      have OF : Hid (∀ (wx : World), Below w.heap.size w wx → Calls Tryz.prog 39 #[.string x.p] wx fun e w' => e = .returned (.int .i64 (Bu.bk x.p : Nat)) ∧ Below wx.heap.size wx w') := fun wx hb => by
        obtain ⟨q1, q2, q3⟩ := HHK.out wx hb
        exact buOf_any q1 q2 q3 x.p (by omega)
      have hi16 := Bu.bk_lt x.p
      obtain ⟨i, hi⟩ : ∃ i, i = Bu.bk x.p := ⟨_, rfl⟩
      rw [← hi] at OF hi16
      have HBX : Hid (Bu.bk x.p = i) := hi.symm
      have HI16 := Lib.hid hi16
      have HII : Hid ((i : Int) < 16) := by show _ < _; omega
      obtain ⟨A0, c0, e0, r0, n0⟩ := ST.out.rows i hi16
      have HSI := Lib.hid e0
      have HPN : Hid ((Bu.part m i).length ≤ 48) := Nat.le_trans (Bu.part_length m i) hml
      obtain ⟨M, hM⟩ : ∃ M, M = wr.heap.size := ⟨_, rfl⟩
      have gn := heap_alloc_new wr (.cells #[.string x.p, .string x.v] 79)
      have b1 : Below wr.heap.size wr (wr.alloc (.cells #[.string x.p, .string x.v] 79)) := (Below.refl _ wr).alloc (Nat.le_refl _) _
      have ST1 := Lib.hid (ST.out.step b1)
      have HMR : Hid (M ≠ r) := fun e => by have := ST.out.blk.lt; omega
      have HOFF : Hid ((Value.slice A0 (Bu.part m i).length c0).ownBlock ≠ some M) := fun e => by
        obtain ⟨-, cs, h⟩ := r0.blk e
        have := Sm.lt_of h
        omega
      have BW1 : Hid (Below w.heap.size w (wr.alloc (.cells #[.string x.p, .string x.v] 79))) := hbw.alloc hbw.size _
      rw [← hM] at gn
      clear hx htk b1 hlt hm hi hi16 e0 n0 r0 hml hbw ST
      go_upto_region 9 with (fail)
      rw [← hM]
      clear hM
      generalize wr.alloc (.cells #[.string x.p, .string x.v] 79) = W1 at *
      have y0 := Sm.cells_of gn 0 _ rfl
      clear x0 x1
      go_upto_region 10 with (go_at_call 39; refine (OF.out _ BW1.out).mono ?_; rintro e w2 ⟨rfl, k2⟩)
      obtain ⟨Wd, hWd⟩ : ∃ Wd, Wd = w2.drew := ⟨_, rfl⟩
      have k3 : Below W1.heap.size W1 Wd := by rw [hWd]; exact k2.drew
      have ST := Lib.hid (ST1.out.step k3)
      have g3 : Wd.heap[M]? = some (.cells #[.string x.p, .string x.v] 79 (0, 0)) := (k3.block M (Sm.lt_of gn)).trans gn
      have PC : Hid (Wd.cell? ⟨M, 0, none⟩ = some (.string x.p) ∧ Wd.cell? ⟨M, 1, none⟩ = some (.string x.v)) := ⟨Sm.cells_of g3 0 _ rfl, Sm.cells_of g3 1 _ rfl⟩
      have PC0 : Hid (w2.drew.cell? ⟨M, 0, none⟩ = some (.string x.p) ∧ w2.drew.cell? ⟨M, 1, none⟩ = some (.string x.v)) := by rw [← hWd]; exact PC.out
      have HML : Hid (M < Wd.heap.size) := Sm.lt_of g3
      have HC7 : Hid (Wd.cell? ⟨r, i, none⟩ = some (.slice A0 (Bu.part m i).length c0)) := by have := ST.out.blk.slot HI16.out; rw [HSI.out] at this; exact this
      have HRL : Hid (r < Wd.heap.size) := ST.out.blk.lt
      have HROW : Hid (∀ wx : World, Tr.OfAt w wx N r S m → Om.Row wx N A0 c0 (Bu.part m i)) := fun wx h => by
        obtain ⟨A', c', e', r', -⟩ := h.rows i HI16.out
        have e2 := HSI.out
        rw [e'] at e2
        injection e2 with q1 q2 q3
        subst q1 q3
        exact r'
      clear y0 gn k2 k3 g3 ST1
      refine wp_region_held_drew (S := fun w' => w'.cell? ⟨M, 0, none⟩ = some (.string x.p) ∧ w'.cell? ⟨M, 1, none⟩ = some (.string x.v)) (by kernel_rfl) PC0.out (fun hHeld => ?_)
      rw [← hWd]
      clear hWd
      refine wpAnyH_take (i := 0) (oi := ⟨some 26, _, _, _, _, _⟩) (v := .pointer (some ⟨r, 0, none⟩)) rfl (by kernel_rfl) (by kernel_rfl) (by kernel_rfl) (fun _ _ _ h => h) (Or.inl ⟨by rfl, ?_⟩) (by assumption) ?_
      · intro w hSw; (try dsimp only at hSw); go_simp
      simp only [Act.put, List.setIfInBounds_toArray, List.set_cons_zero, List.set_cons_succ]
      refine wpAnyH_take (i := 1) (oi := ⟨some 27, _, _, _, _, _⟩) (v := .int .i64 (i : Int)) rfl (by kernel_rfl) (by kernel_rfl) (by kernel_rfl) (fun _ _ _ h => h) (Or.inl ⟨by rfl, ?_⟩) (by assumption) ?_
      · intro w hSw; (try dsimp only at hSw); go_simp
      simp only [Act.put, List.setIfInBounds_toArray, List.set_cons_zero, List.set_cons_succ]
      refine wpAnyH_take (i := 2) (oi := ⟨some 28, _, _, _, _, _⟩) (v := .pointer (some ⟨r, 0, none⟩)) rfl (by kernel_rfl) (by kernel_rfl) (by kernel_rfl) (fun _ _ _ h => h) (Or.inl ⟨by rfl, ?_⟩) (by assumption) ?_
      · intro w hSw; (try dsimp only at hSw); go_simp
      simp only [Act.put, List.setIfInBounds_toArray, List.set_cons_zero, List.set_cons_succ]
      refine wpAnyH_take (i := 3) (oi := ⟨some 29, _, _, _, _, _⟩) (v := .int .i64 (i : Int)) rfl (by kernel_rfl) (by kernel_rfl) (by kernel_rfl) (fun _ _ _ h => h) (Or.inl ⟨by rfl, ?_⟩) (by assumption) ?_
      · intro w hSw; (try dsimp only at hSw); go_simp
      simp only [Act.put, List.setIfInBounds_toArray, List.set_cons_zero, List.set_cons_succ]
      refine wpAnyH_take (i := 4) (oi := ⟨some 30, _, _, _, _, _⟩) (v := .pointer (some ⟨r, 0, none⟩)) rfl (by kernel_rfl) (by kernel_rfl) (by kernel_rfl) (fun _ _ _ h => h) (Or.inl ⟨by rfl, ?_⟩) (by assumption) ?_
      · intro w hSw; (try dsimp only at hSw); go_simp
      simp only [Act.put, List.setIfInBounds_toArray, List.set_cons_zero, List.set_cons_succ]
      refine wpAnyH_take (i := 5) (oi := ⟨some 31, _, _, _, _, _⟩) (v := .pointer (some ⟨r, 0, none⟩)) rfl (by kernel_rfl) (by kernel_rfl) (by kernel_rfl) (fun _ _ _ h => h) (Or.inl ⟨by rfl, ?_⟩) (by assumption) ?_
      · intro w hSw; (try dsimp only at hSw); go_simp
      simp only [Act.put, List.setIfInBounds_toArray, List.set_cons_zero, List.set_cons_succ]
      refine wpAnyH_take (i := 6) (oi := ⟨some 32, _, _, _, _, _⟩) (v := .pointer (some ⟨r, i, none⟩)) rfl (by kernel_rfl) (by kernel_rfl) (by kernel_rfl) (fun _ _ _ h => h) (Or.inl ⟨by rfl, ?_⟩) (by assumption) ?_
      · intro w hSw; (try dsimp only at hSw); have q := HII.out; go_simp
      simp only [Act.put, List.setIfInBounds_toArray, List.set_cons_zero, List.set_cons_succ]
      refine wpAnyH_take (i := 8) (oi := ⟨some 34, _, _, _, _, _⟩) (v := .pointer (some ⟨M, 0, none⟩)) rfl (by kernel_rfl) (by kernel_rfl) (by kernel_rfl) (fun _ _ _ h => h) (Or.inl ⟨by rfl, ?_⟩) (by assumption) ?_
      · intro w hSw; (try dsimp only at hSw); go_simp
      simp only [Act.put, List.setIfInBounds_toArray, List.set_cons_zero, List.set_cons_succ]
      refine wpAnyH_take (i := 9) (oi := ⟨some 35, _, _, _, _, _⟩) (v := .string x.p) rfl (by kernel_rfl) (by kernel_rfl) (by kernel_rfl) (fun _ _ _ h => h) (Or.inl ⟨by rfl, ?_⟩) (by assumption) ?_
      · intro w hSw; (try dsimp only at hSw); go_simp
      simp only [Act.put, List.setIfInBounds_toArray, List.set_cons_zero, List.set_cons_succ]
      refine wpAnyH_take (i := 10) (oi := ⟨some 36, _, _, _, _, _⟩) (v := .pointer (some ⟨M, 1, none⟩)) rfl (by kernel_rfl) (by kernel_rfl) (by kernel_rfl) (fun _ _ _ h => h) (Or.inl ⟨by rfl, ?_⟩) (by assumption) ?_
      · intro w hSw; (try dsimp only at hSw); go_simp
      simp only [Act.put, List.setIfInBounds_toArray, List.set_cons_zero, List.set_cons_succ]
      refine wpAnyH_take (i := 11) (oi := ⟨some 37, _, _, _, _, _⟩) (v := .string x.v) rfl (by kernel_rfl) (by kernel_rfl) (by kernel_rfl) (fun _ _ _ h => h) (Or.inl ⟨by rfl, ?_⟩) (by assumption) ?_
      · intro w hSw; (try dsimp only at hSw); go_simp
      simp only [Act.put, List.setIfInBounds_toArray, List.set_cons_zero, List.set_cons_succ]
      refine wpAnyH_take (i := 15) (oi := ⟨some 41, _, _, _, _, _⟩) (v := .pointer (some ⟨r, 0, none⟩)) rfl (by kernel_rfl) (by kernel_rfl) (by kernel_rfl) (fun _ _ _ h => h) (Or.inl ⟨by rfl, ?_⟩) (by assumption) ?_
      · intro w hSw; (try dsimp only at hSw); go_simp
      simp only [Act.put, List.setIfInBounds_toArray, List.set_cons_zero, List.set_cons_succ]
      refine wpAnyH_take (i := 16) (oi := ⟨some 42, _, _, _, _, _⟩) (v := .pointer (some ⟨r, 0, none⟩)) rfl (by kernel_rfl) (by kernel_rfl) (by kernel_rfl) (fun _ _ _ h => h) (Or.inl ⟨by rfl, ?_⟩) (by assumption) ?_
      · intro w hSw; (try dsimp only at hSw); go_simp
      simp only [Act.put, List.setIfInBounds_toArray, List.set_cons_zero, List.set_cons_succ]
      refine wpAnyH_ready (rs := [7, 12]) (by kernel_rfl) (by simp) ?_
      refine (AllReadyH.cons (o := ⟨some 33, _, _, _, _, _⟩) rfl (fun K hK => ?_) (AllReadyH.cons (o := ⟨some 38, _, _, _, _, _⟩) rfl (fun K hK => ?_) AllReadyH.nil))
      · have y := HC7.out
        go_simp
        refine hK.out _ _ PC.out (fun hHeld => ?_)
        clear hK K
        refine wpAnyH_ready (rs := [12]) (by kernel_rfl) (by simp) ?_
        refine (AllReadyH.cons (o := ⟨some 38, _, _, _, _, _⟩) rfl (fun K hK => ?_) AllReadyH.nil)
        go_simp
        refine (OW.out _).mono ?_
        rintro e w4 ⟨rfl, k4⟩
        have ST := Lib.hid (ST.out.step k4)
        have HC7 : Hid (w4.cell? ⟨r, i, none⟩ = some (.slice A0 (Bu.part m i).length c0)) := (k4.cell (p := ⟨r, i, none⟩) HRL.out).trans HC7.out
        have HRL : Hid (r < w4.heap.size) := Nat.lt_of_lt_of_le HRL.out k4.size
        have PC : Hid (w4.cell? ⟨M, 0, none⟩ = some (.string x.p) ∧ w4.cell? ⟨M, 1, none⟩ = some (.string x.v)) := ⟨(k4.cell (p := ⟨M, 0, none⟩) HML.out).trans PC.out.1, (k4.cell (p := ⟨M, 1, none⟩) HML.out).trans PC.out.2⟩
        have HML : Hid (M < w4.heap.size) := Nat.lt_of_lt_of_le HML.out k4.size
        clear k4
        refine hK.out _ _ PC.out (fun hHeld => ?_)
        clear hK K
        refine wpAnyH_ready (rs := [13]) (by kernel_rfl) (by simp) ?_
        refine (AllReadyH.cons (o := ⟨some 39, _, _, _, _, _⟩) rfl (fun K hK => ?_) AllReadyH.nil)
        go_simp
        have k5 : Below w4.heap.size w4 (w4.alloc (.cells #[.string x.p, .string x.v] 79)) := (Below.refl _ w4).alloc (Nat.le_refl _) _
        have G5 := Lib.hid (heap_alloc_new w4 (.cells #[.string x.p, .string x.v] 79))
        have ST := Lib.hid (ST.out.step k5)
        have HC7 : Hid ((w4.alloc (.cells #[.string x.p, .string x.v] 79)).cell? ⟨r, i, none⟩ = some (.slice A0 (Bu.part m i).length c0)) := (k5.cell (p := ⟨r, i, none⟩) HRL.out).trans HC7.out
        have PC : Hid ((w4.alloc (.cells #[.string x.p, .string x.v] 79)).cell? ⟨M, 0, none⟩ = some (.string x.p) ∧ (w4.alloc (.cells #[.string x.p, .string x.v] 79)).cell? ⟨M, 1, none⟩ = some (.string x.v)) := ⟨(k5.cell (p := ⟨M, 0, none⟩) HML.out).trans PC.out.1, (k5.cell (p := ⟨M, 1, none⟩) HML.out).trans PC.out.2⟩
        have HML : Hid (M < (w4.alloc (.cells #[.string x.p, .string x.v] 79)).heap.size) := Nat.lt_of_lt_of_le HML.out k5.size
        clear k5
        refine hK.out _ _ PC.out (fun hHeld => ?_)
        clear hK K
        refine wpAnyH_ready (rs := [14]) (by kernel_rfl) (by simp) ?_
        refine (AllReadyH.cons (o := ⟨some 40, _, _, _, _, _⟩) rfl (fun K hK => ?_) AllReadyH.nil)
        rw [if_pos (by simp [Region.wanted])]
        refine Om.wp_push0 (.tmp 33) (.tmp 39) rfl rfl (HROW.out _ ST.out) x rfl G5.out (by have := HPN.out; omega) ST.out.size ?_
        intro B7 q7 w7 hr7 hg7
        obtain ⟨p1, p2, p3⟩ := ST.out.push HI16.out HBX.out HSI.out hr7 hg7
        have P1 := Lib.hid p1
        have P2 : Hid (w7.cell? ⟨r, i, none⟩ = some (.slice A0 (Bu.part m i).length c0)) := by rw [HSI.out] at p2; exact p2
        have P3 := Lib.hid p3
        have PC7 : Hid (w7.cell? ⟨M, 0, none⟩ = some (.string x.p) ∧ w7.cell? ⟨M, 1, none⟩ = some (.string x.v)) := by
          have hbk : ∀ o, w7.cell? ⟨M, o, none⟩ = (w4.alloc (.cells #[.string x.p, .string x.v] 79)).cell? ⟨M, o, none⟩ := fun o => World.cell?_of_block (hg7.block M HML.out (fun e => HOFF.out e.symm))
          exact ⟨(hbk 0).trans PC.out.1, (hbk 1).trans PC.out.2⟩
        clear p1 p2 p3 hr7 hg7
        refine hK.out _ _ PC7.out (fun hHeld => ?_)
        clear hK K
        try simp only [Act.put, List.setIfInBounds_toArray, List.set_cons_zero, List.set_cons_succ]
        refine wpAnyH_take (i := 17) (oi := ⟨some 43, _, _, _, _, _⟩) (v := .pointer (some ⟨r, i, none⟩)) rfl (by kernel_rfl) (by kernel_rfl) (by kernel_rfl) (fun _ _ _ h => h) (Or.inl ⟨by rfl, ?_⟩) (by assumption) ?_
        · intro w hSw; (try dsimp only at hSw); have q := HII.out; go_simp
        simp only [Act.put, List.setIfInBounds_toArray, List.set_cons_zero, List.set_cons_succ]
        refine wpAnyH_ready (rs := [18]) (by kernel_rfl) (by simp) ?_
        refine (AllReadyH.cons (o := ⟨none, _, _, _, _, _⟩) rfl (fun K hK => ?_) AllReadyH.nil)
        have y := P2.out
        have f := P3.out
        go_simp
        have PC8 : Hid ((w7.setCell ⟨r, i, none⟩ (.slice B7 ((Bu.part m i).length + 1) q7)).cell? ⟨M, 0, none⟩ = some (.string x.p) ∧ (w7.setCell ⟨r, i, none⟩ (.slice B7 ((Bu.part m i).length + 1) q7)).cell? ⟨M, 1, none⟩ = some (.string x.v)) := by
          have hbk : ∀ o, (w7.setCell ⟨r, i, none⟩ (.slice B7 ((Bu.part m i).length + 1) q7)).cell? ⟨M, o, none⟩ = w7.cell? ⟨M, o, none⟩ := fun o => World.cell?_of_block (Below.heap_setCell _ _ _ _ HMR.out)
          exact ⟨(hbk 0).trans PC7.out.1, (hbk 1).trans PC7.out.2⟩
        clear y f
        refine hK.out _ _ PC8.out (fun hHeld => ?_)
        clear hK K
        refine wpAnyH_done (by kernel_rfl) ?_ _
        go_wp2
        go_roundw
        case rel => exact ⟨k + 1, _, _, rfl, HLT.out, HST.out.symm, P1.out⟩
        case measure => simp only [intOf]; have := HLT.out; omega
      · go_simp
        refine (OW.out _).mono ?_
        rintro e w4 ⟨rfl, k4⟩
        have ST := Lib.hid (ST.out.step k4)
        have HC7 : Hid (w4.cell? ⟨r, i, none⟩ = some (.slice A0 (Bu.part m i).length c0)) := (k4.cell (p := ⟨r, i, none⟩) HRL.out).trans HC7.out
        have HRL : Hid (r < w4.heap.size) := Nat.lt_of_lt_of_le HRL.out k4.size
        have PC : Hid (w4.cell? ⟨M, 0, none⟩ = some (.string x.p) ∧ w4.cell? ⟨M, 1, none⟩ = some (.string x.v)) := ⟨(k4.cell (p := ⟨M, 0, none⟩) HML.out).trans PC.out.1, (k4.cell (p := ⟨M, 1, none⟩) HML.out).trans PC.out.2⟩
        have HML : Hid (M < w4.heap.size) := Nat.lt_of_lt_of_le HML.out k4.size
        clear k4
        refine hK.out _ _ PC.out (fun hHeld => ?_)
        clear hK K
        refine wpAnyH_ready (rs := [7, 13]) (by kernel_rfl) (by simp) ?_
        refine (AllReadyH.cons (o := ⟨some 33, _, _, _, _, _⟩) rfl (fun K hK => ?_) (AllReadyH.cons (o := ⟨some 39, _, _, _, _, _⟩) rfl (fun K hK => ?_) AllReadyH.nil))
        · have y := HC7.out
          go_simp
          refine hK.out _ _ PC.out (fun hHeld => ?_)
          clear hK K
          refine wpAnyH_ready (rs := [13]) (by kernel_rfl) (by simp) ?_
          refine (AllReadyH.cons (o := ⟨some 39, _, _, _, _, _⟩) rfl (fun K hK => ?_) AllReadyH.nil)
          go_simp
          have k5 : Below w4.heap.size w4 (w4.alloc (.cells #[.string x.p, .string x.v] 79)) := (Below.refl _ w4).alloc (Nat.le_refl _) _
          have G5 := Lib.hid (heap_alloc_new w4 (.cells #[.string x.p, .string x.v] 79))
          have ST := Lib.hid (ST.out.step k5)
          have HC7 : Hid ((w4.alloc (.cells #[.string x.p, .string x.v] 79)).cell? ⟨r, i, none⟩ = some (.slice A0 (Bu.part m i).length c0)) := (k5.cell (p := ⟨r, i, none⟩) HRL.out).trans HC7.out
          have PC : Hid ((w4.alloc (.cells #[.string x.p, .string x.v] 79)).cell? ⟨M, 0, none⟩ = some (.string x.p) ∧ (w4.alloc (.cells #[.string x.p, .string x.v] 79)).cell? ⟨M, 1, none⟩ = some (.string x.v)) := ⟨(k5.cell (p := ⟨M, 0, none⟩) HML.out).trans PC.out.1, (k5.cell (p := ⟨M, 1, none⟩) HML.out).trans PC.out.2⟩
          have HML : Hid (M < (w4.alloc (.cells #[.string x.p, .string x.v] 79)).heap.size) := Nat.lt_of_lt_of_le HML.out k5.size
          clear k5
          refine hK.out _ _ PC.out (fun hHeld => ?_)
          clear hK K
          refine wpAnyH_ready (rs := [14]) (by kernel_rfl) (by simp) ?_
          refine (AllReadyH.cons (o := ⟨some 40, _, _, _, _, _⟩) rfl (fun K hK => ?_) AllReadyH.nil)
          rw [if_pos (by simp [Region.wanted])]
          refine Om.wp_push0 (.tmp 33) (.tmp 39) rfl rfl (HROW.out _ ST.out) x rfl G5.out (by have := HPN.out; omega) ST.out.size ?_
          intro B7 q7 w7 hr7 hg7
          obtain ⟨p1, p2, p3⟩ := ST.out.push HI16.out HBX.out HSI.out hr7 hg7
          have P1 := Lib.hid p1
          have P2 : Hid (w7.cell? ⟨r, i, none⟩ = some (.slice A0 (Bu.part m i).length c0)) := by rw [HSI.out] at p2; exact p2
          have P3 := Lib.hid p3
          have PC7 : Hid (w7.cell? ⟨M, 0, none⟩ = some (.string x.p) ∧ w7.cell? ⟨M, 1, none⟩ = some (.string x.v)) := by
            have hbk : ∀ o, w7.cell? ⟨M, o, none⟩ = (w4.alloc (.cells #[.string x.p, .string x.v] 79)).cell? ⟨M, o, none⟩ := fun o => World.cell?_of_block (hg7.block M HML.out (fun e => HOFF.out e.symm))
            exact ⟨(hbk 0).trans PC.out.1, (hbk 1).trans PC.out.2⟩
          clear p1 p2 p3 hr7 hg7
          refine hK.out _ _ PC7.out (fun hHeld => ?_)
          clear hK K
          try simp only [Act.put, List.setIfInBounds_toArray, List.set_cons_zero, List.set_cons_succ]
          refine wpAnyH_take (i := 17) (oi := ⟨some 43, _, _, _, _, _⟩) (v := .pointer (some ⟨r, i, none⟩)) rfl (by kernel_rfl) (by kernel_rfl) (by kernel_rfl) (fun _ _ _ h => h) (Or.inl ⟨by rfl, ?_⟩) (by assumption) ?_
          · intro w hSw; (try dsimp only at hSw); have q := HII.out; go_simp
          simp only [Act.put, List.setIfInBounds_toArray, List.set_cons_zero, List.set_cons_succ]
          refine wpAnyH_ready (rs := [18]) (by kernel_rfl) (by simp) ?_
          refine (AllReadyH.cons (o := ⟨none, _, _, _, _, _⟩) rfl (fun K hK => ?_) AllReadyH.nil)
          have y := P2.out
          have f := P3.out
          go_simp
          have PC8 : Hid ((w7.setCell ⟨r, i, none⟩ (.slice B7 ((Bu.part m i).length + 1) q7)).cell? ⟨M, 0, none⟩ = some (.string x.p) ∧ (w7.setCell ⟨r, i, none⟩ (.slice B7 ((Bu.part m i).length + 1) q7)).cell? ⟨M, 1, none⟩ = some (.string x.v)) := by
            have hbk : ∀ o, (w7.setCell ⟨r, i, none⟩ (.slice B7 ((Bu.part m i).length + 1) q7)).cell? ⟨M, o, none⟩ = w7.cell? ⟨M, o, none⟩ := fun o => World.cell?_of_block (Below.heap_setCell _ _ _ _ HMR.out)
            exact ⟨(hbk 0).trans PC7.out.1, (hbk 1).trans PC7.out.2⟩
          clear y f
          refine hK.out _ _ PC8.out (fun hHeld => ?_)
          clear hK K
          refine wpAnyH_done (by kernel_rfl) ?_ _
          go_wp2
          go_roundw
          case rel => exact ⟨k + 1, _, _, rfl, HLT.out, HST.out.symm, P1.out⟩
          case measure => simp only [intOf]; have := HLT.out; omega
        · go_simp
          have k5 : Below w4.heap.size w4 (w4.alloc (.cells #[.string x.p, .string x.v] 79)) := (Below.refl _ w4).alloc (Nat.le_refl _) _
          have G5 := Lib.hid (heap_alloc_new w4 (.cells #[.string x.p, .string x.v] 79))
          have ST := Lib.hid (ST.out.step k5)
          have HC7 : Hid ((w4.alloc (.cells #[.string x.p, .string x.v] 79)).cell? ⟨r, i, none⟩ = some (.slice A0 (Bu.part m i).length c0)) := (k5.cell (p := ⟨r, i, none⟩) HRL.out).trans HC7.out
          have PC : Hid ((w4.alloc (.cells #[.string x.p, .string x.v] 79)).cell? ⟨M, 0, none⟩ = some (.string x.p) ∧ (w4.alloc (.cells #[.string x.p, .string x.v] 79)).cell? ⟨M, 1, none⟩ = some (.string x.v)) := ⟨(k5.cell (p := ⟨M, 0, none⟩) HML.out).trans PC.out.1, (k5.cell (p := ⟨M, 1, none⟩) HML.out).trans PC.out.2⟩
          have HML : Hid (M < (w4.alloc (.cells #[.string x.p, .string x.v] 79)).heap.size) := Nat.lt_of_lt_of_le HML.out k5.size
          clear k5
          refine hK.out _ _ PC.out (fun hHeld => ?_)
          clear hK K
          refine wpAnyH_ready (rs := [7]) (by kernel_rfl) (by simp) ?_
          refine (AllReadyH.cons (o := ⟨some 33, _, _, _, _, _⟩) rfl (fun K hK => ?_) AllReadyH.nil)
          have y := HC7.out
          go_simp
          refine hK.out _ _ PC.out (fun hHeld => ?_)
          clear hK K
          refine wpAnyH_ready (rs := [14]) (by kernel_rfl) (by simp) ?_
          refine (AllReadyH.cons (o := ⟨some 40, _, _, _, _, _⟩) rfl (fun K hK => ?_) AllReadyH.nil)
          rw [if_pos (by simp [Region.wanted])]
          refine Om.wp_push0 (.tmp 33) (.tmp 39) rfl rfl (HROW.out _ ST.out) x rfl G5.out (by have := HPN.out; omega) ST.out.size ?_
          intro B7 q7 w7 hr7 hg7
          obtain ⟨p1, p2, p3⟩ := ST.out.push HI16.out HBX.out HSI.out hr7 hg7
          have P1 := Lib.hid p1
          have P2 : Hid (w7.cell? ⟨r, i, none⟩ = some (.slice A0 (Bu.part m i).length c0)) := by rw [HSI.out] at p2; exact p2
          have P3 := Lib.hid p3
          have PC7 : Hid (w7.cell? ⟨M, 0, none⟩ = some (.string x.p) ∧ w7.cell? ⟨M, 1, none⟩ = some (.string x.v)) := by
            have hbk : ∀ o, w7.cell? ⟨M, o, none⟩ = (w4.alloc (.cells #[.string x.p, .string x.v] 79)).cell? ⟨M, o, none⟩ := fun o => World.cell?_of_block (hg7.block M HML.out (fun e => HOFF.out e.symm))
            exact ⟨(hbk 0).trans PC.out.1, (hbk 1).trans PC.out.2⟩
          clear p1 p2 p3 hr7 hg7
          refine hK.out _ _ PC7.out (fun hHeld => ?_)
          clear hK K
          try simp only [Act.put, List.setIfInBounds_toArray, List.set_cons_zero, List.set_cons_succ]
          refine wpAnyH_take (i := 17) (oi := ⟨some 43, _, _, _, _, _⟩) (v := .pointer (some ⟨r, i, none⟩)) rfl (by kernel_rfl) (by kernel_rfl) (by kernel_rfl) (fun _ _ _ h => h) (Or.inl ⟨by rfl, ?_⟩) (by assumption) ?_
          · intro w hSw; (try dsimp only at hSw); have q := HII.out; go_simp
          simp only [Act.put, List.setIfInBounds_toArray, List.set_cons_zero, List.set_cons_succ]
          refine wpAnyH_ready (rs := [18]) (by kernel_rfl) (by simp) ?_
          refine (AllReadyH.cons (o := ⟨none, _, _, _, _, _⟩) rfl (fun K hK => ?_) AllReadyH.nil)
          have y := P2.out
          have f := P3.out
          go_simp
          have PC8 : Hid ((w7.setCell ⟨r, i, none⟩ (.slice B7 ((Bu.part m i).length + 1) q7)).cell? ⟨M, 0, none⟩ = some (.string x.p) ∧ (w7.setCell ⟨r, i, none⟩ (.slice B7 ((Bu.part m i).length + 1) q7)).cell? ⟨M, 1, none⟩ = some (.string x.v)) := by
            have hbk : ∀ o, (w7.setCell ⟨r, i, none⟩ (.slice B7 ((Bu.part m i).length + 1) q7)).cell? ⟨M, o, none⟩ = w7.cell? ⟨M, o, none⟩ := fun o => World.cell?_of_block (Below.heap_setCell _ _ _ _ HMR.out)
            exact ⟨(hbk 0).trans PC7.out.1, (hbk 1).trans PC7.out.2⟩
          clear y f
          refine hK.out _ _ PC8.out (fun hHeld => ?_)
          clear hK K
          refine wpAnyH_done (by kernel_rfl) ?_ _
          go_wp2
          go_roundw
          case rel => exact ⟨k + 1, _, _, rfl, HLT.out, HST.out.symm, P1.out⟩
          case measure => simp only [intOf]; have := HLT.out; omega
    · have hki : ¬ (k : Int) < (l.length : Int) := by omega
      have hke : k = l.length := by omega
      have hml : m = l := by rw [hm.out, hke, List.take_length]
      clear hm hk hke
      subst hml
      have RW0 := Lib.hid ST.out.rowsOf
      have BK0 := Lib.hid ST.out.blk
      have BE0 := Lib.hid ST.out.bel
      have HNR := Lib.hid ST.out.low
      clear ST HIT HS
      generalize wr = WL at *
      go_upto_region 12 with (fail)
      go_wp2
      go_loopw [45] (fun s45 wr => ∃ (k : Nat) (M : Nat → List UInt8), s45 = .int .i64 k ∧ k ≤ 31 ∧ Tr.Blk wr r S M ∧ Tr.Rows wr S m ∧ Hid (∀ j, j < k → M j = Tr.nk m j) ∧ Below N w wr) (fun s45 _ => 31 - (intOf s45).toNat)
      case atStart => exact ⟨0, _, rfl, by omega, BK0.out, RW0.out, fun j h => absurd h (Nat.not_lt_zero _), BE0.out⟩
      case round =>
        clear RW0 BK0 BE0
        obtain ⟨k, M, rfl, hk, hbk, hrw, hall, hbe⟩ := hrel
        have HBK := Lib.hid hbk
        have HRW := Lib.hid hrw
        have HBE := Lib.hid hbe
        clear hbk hrw hbe
        by_cases hlt : k < 31
        · have hki : (k : Int) < 31 := by omega
          have hsuc : IntKind.i64.wrap ((k : Int) + 1) = ((k + 1 : Nat) : Int) := by simp [IntKind.wrap, IntKind.bits, IntKind.signed]; omega
          have hkid : Tr.Kids M m k := fun h16 => ⟨hall.out _ (by omega), hall.out _ (by omega)⟩
          have HKI := Lib.hid hki
          have HLT := Lib.hid hlt
          obtain ⟨Wd, hWd⟩ : ∃ Wd, Wd = wr.drew := ⟨_, rfl⟩
          have kd : Below wr.heap.size wr Wd := by rw [hWd]; exact (Below.refl _ wr).drew
          have HBD := Lib.hid (HBK.out.low kd)
          have HRD := Lib.hid (HRW.out.low kd)
          have HBN : Hid (Below N w Wd) := HBE.out.trans (kd.mono (Nat.le_of_lt (Nat.lt_of_le_of_lt HNR.out HBK.out.lt)))
          have HBS : Hid (N ≤ Wd.heap.size) := Nat.le_of_lt (Nat.lt_of_le_of_lt HNR.out HBD.out.lt)
          have MD : Hid (Calls Tryz.prog 54 #[.pointer (some ⟨r, 0, none⟩), .int .i64 (k : Int)] Wd fun e w' => e = .returned (.agg (Lib.byteCells (Tr.nk m k)).toArray) ∧ Below Wd.heap.size Wd w') := by
            obtain ⟨q1, q2, q3⟩ := HHK.out Wd (by rw [← HN.out]; exact HBN.out)
            exact tMade_any q1 q2 q3 HBD.out HRD.out HF.out hlt hkid
          have hml := Tr.nk_length m k
          have HPUT : Hid (∀ wx : World, Tr.Blk wx r S M → Tr.Blk (wx.setCells r (16 + k * 32) (Lib.byteCells (Tr.nk m k)).toArray.toList) r S (Tr.upd M k (Tr.nk m k))) := fun wx hx => by
            rw [List.toList_toArray]
            have := hx.put hlt hml
            rw [Nat.mul_comm] at this
            exact this
          have HRP : Hid (∀ wx : World, Tr.Blk wx r S M → Tr.Rows wx S m → Tr.Rows (wx.setCells r (16 + k * 32) (Lib.byteCells (Tr.nk m k)).toArray.toList) S m) := fun wx hx hy =>
            hy.turned hx (Tr.grown_setCells (Sm.grown_refl wx _) _ _)
          have HTH : Hid (∀ wx : World, Tr.Blk wx r S M → wx.there r (16 + k * 32) (Lib.byteCells (Tr.nk m k)).toArray.size) := fun wx hx => by
            rw [Tr.size32 hml, Nat.mul_comm]
            exact hx.there hlt
          have HSZ := Lib.hid (Tr.size32 hml)
          have HONE := Lib.hid (Sm.bytes_one (Tr.nk m k))
          have HNEXT : Hid (∀ j, j < k + 1 → Tr.upd M k (Tr.nk m k) j = Tr.nk m j) := fun j hj => by
            by_cases e : j = k
            · subst e; exact Tr.upd_same _ _ _
            · rw [Tr.upd_other _ _ e]; exact hall.out j (by omega)
          obtain ⟨cs, hcs⟩ : ∃ c, c = (Lib.byteCells (Tr.nk m k)).toArray := ⟨_, rfl⟩
          rw [← hcs] at MD HPUT HRP HTH HSZ HONE
          clear hcs hml hkid hall kd hlt
          go_upto_region 15 with (fail)
          refine wp_region_held_drew (S := fun w' => True) (by kernel_rfl) trivial (fun hHeld => ?_)
          rw [← hWd]
          clear hWd
          refine wpAnyH_take (i := 0) (oi := ⟨some 48, _, _, _, _, _⟩) (v := .pointer (some ⟨r, 0, none⟩)) rfl (by kernel_rfl) (by kernel_rfl) (by kernel_rfl) (fun _ _ _ h => h) (Or.inl ⟨by rfl, ?_⟩) (by assumption) ?_
          · intro w hSw; (try dsimp only at hSw); go_simp
          simp only [Act.put, List.setIfInBounds_toArray, List.set_cons_zero, List.set_cons_succ]
          refine wpAnyH_take (i := 1) (oi := ⟨some 49, _, _, _, _, _⟩) (v := .int .i64 (k : Int)) rfl (by kernel_rfl) (by kernel_rfl) (by kernel_rfl) (fun _ _ _ h => h) (Or.inl ⟨by rfl, ?_⟩) (by assumption) ?_
          · intro w hSw; (try dsimp only at hSw); go_simp
          simp only [Act.put, List.setIfInBounds_toArray, List.set_cons_zero, List.set_cons_succ]
          refine wpAnyH_take (i := 2) (oi := ⟨some 50, _, _, _, _, _⟩) (v := .pointer (some ⟨r, 0, none⟩)) rfl (by kernel_rfl) (by kernel_rfl) (by kernel_rfl) (fun _ _ _ h => h) (Or.inl ⟨by rfl, ?_⟩) (by assumption) ?_
          · intro w hSw; (try dsimp only at hSw); go_simp
          simp only [Act.put, List.setIfInBounds_toArray, List.set_cons_zero, List.set_cons_succ]
          refine wpAnyH_take (i := 3) (oi := ⟨some 51, _, _, _, _, _⟩) (v := .int .i64 (k : Int)) rfl (by kernel_rfl) (by kernel_rfl) (by kernel_rfl) (fun _ _ _ h => h) (Or.inl ⟨by rfl, ?_⟩) (by assumption) ?_
          · intro w hSw; (try dsimp only at hSw); go_simp
          simp only [Act.put, List.setIfInBounds_toArray, List.set_cons_zero, List.set_cons_succ]
          refine wpAnyH_take (i := 5) (oi := ⟨some 53, _, _, _, _, _⟩) (v := .pointer (some ⟨r, 0, none⟩)) rfl (by kernel_rfl) (by kernel_rfl) (by kernel_rfl) (fun _ _ _ h => h) (Or.inl ⟨by rfl, ?_⟩) (by assumption) ?_
          · intro w hSw; (try dsimp only at hSw); go_simp
          simp only [Act.put, List.setIfInBounds_toArray, List.set_cons_zero, List.set_cons_succ]
          refine wpAnyH_take (i := 6) (oi := ⟨some 54, _, _, _, _, _⟩) (v := .pointer (some ⟨r, 16, none⟩)) rfl (by kernel_rfl) (by kernel_rfl) (by kernel_rfl) (fun _ _ _ h => h) (Or.inl ⟨by rfl, ?_⟩) (by assumption) ?_
          · intro w hSw; (try dsimp only at hSw); go_simp
          simp only [Act.put, List.setIfInBounds_toArray, List.set_cons_zero, List.set_cons_succ]
          refine wpAnyH_ready (rs := [4]) (by kernel_rfl) (by simp) ?_
          refine (AllReadyH.cons (o := ⟨some 52, _, _, _, _, _⟩) rfl (fun K hK => ?_) AllReadyH.nil)
          go_simp
          refine (MD.out).mono ?_
          rintro e w2 ⟨rfl, k2⟩
          have B2 := Lib.hid (HBD.out.low k2)
          have R2 := Lib.hid (HRD.out.low k2)
          have BB := Lib.hid (HBN.out.trans (k2.mono HBS.out))
          clear k2
          refine hK.out _ _ trivial (fun hHeld => ?_)
          clear hK K
          refine wpAnyH_take (i := 7) (oi := ⟨some 55, _, _, _, _, _⟩) (v := .pointer (some ⟨r, 16 + k * 32, none⟩)) rfl (by kernel_rfl) (by kernel_rfl) (by kernel_rfl) (fun _ _ _ h => h) (Or.inl ⟨by rfl, ?_⟩) (by assumption) ?_
          · intro w hSw; (try dsimp only at hSw); have q := HKI.out; go_simp
          simp only [Act.put, List.setIfInBounds_toArray, List.set_cons_zero, List.set_cons_succ]
          refine wpAnyH_ready (rs := [8]) (by kernel_rfl) (by simp) ?_
          refine (AllReadyH.cons (o := ⟨none, _, _, _, _, _⟩) rfl (fun K hK => ?_) AllReadyH.nil)
          rw [if_pos (by simp [Region.wanted])]
          refine wp_store_mid 36 (.tmp 55) (.tmp 52) rfl r (16 + k * 32) cs rfl rfl (HTH.out _ B2.out) (Sm.infoHash HSZ.out) HONE.out ?_
          have B3 := Lib.hid (HPUT.out _ B2.out)
          have R3 := Lib.hid (HRP.out _ B2.out R2.out)
          have BB3 : Hid (Below N w (w2.setCells r (16 + k * 32) cs.toList)) := Sm.below_setCells HNR.out _ _ BB.out
          refine hK.out _ _ trivial (fun hHeld => ?_)
          clear hK K
          refine wpAnyH_done (by kernel_rfl) ?_ _
          go_wp2
          go_roundw
          case rel => exact ⟨k + 1, _, rfl, HLT.out, B3.out, R3.out, HNEXT.out, BB3.out⟩
          case measure => simp only [intOf]; have := HLT.out; omega
        · have hki : ¬ (k : Int) < 31 := by omega
          have FINB : Hid (Tr.Blk wr r S (Tr.nk m)) := HBK.out.congr (fun _ _ => rfl) (fun j hj => hall.out j (by omega))
          clear hall
          go_wp2
          go_ret2
          exact ⟨r, rfl, by rw [← HN.out]; exact HNR.out, ⟨HF.out, S, FINB.out, HRW.out⟩, by rw [← HN.out]; exact HBE.out⟩
set_option maxRecDepth 100000 in
set_option maxHeartbeats 1000000 in
theorem tOf_arg {w : World} {A : Option Addr} {l : List Om.Pr} (c : Nat) (hit : Om.listAt w A l) (hn : l.length ≤ 1000000) (hs : ∀ x ∈ l, x.p.size ≤ 281474976710656) (hm : Bu.may l = false) :
    Calls Tryz.prog 15 #[.slice A l.length c] w fun e w' => e = .returned (.tuple #[.pointer none, .int .i64 1]) ∧ Below w.heap.size w w' := by
  have MA := Lib.hid (buMay_any c hit (by omega) hs)
  rw [hm] at MA
  clear hit hs hm
  go_enter Tryz.func15, Tryz.ntmps15
  go_wp2_with (go_at_call 52; refine MA.out.mono ?_; rintro e w1 ⟨rfl, k1⟩)
  go_ret2
  exact ⟨rfl, k1⟩
set_option maxRecDepth 100000 in
set_option maxHeartbeats 1000000 in
theorem tOf_full {w : World} {A : Option Addr} {l : List Om.Pr} (c : Nat) (hit : Om.listAt w A l) (hn : l.length ≤ 1000000) (hs : ∀ x ∈ l, x.p.size ≤ 281474976710656) (hm : Bu.may l = true) (h48 : 48 < l.length) :
    Calls Tryz.prog 15 #[.slice A l.length c] w fun e w' => e = .returned (.tuple #[.pointer none, .int .i64 6]) ∧ Below w.heap.size w w' := by
  have MA := Lib.hid (buMay_any c hit (by omega) hs)
  rw [hm] at MA
  have h48i : (48 : Int) < (l.length : Int) := by omega
  clear hit hs hm
  go_enter Tryz.func15, Tryz.ntmps15
  go_wp2_with (go_at_call 52; refine MA.out.mono ?_; rintro e w1 ⟨rfl, k1⟩)
  go_ret2
  exact ⟨rfl, k1⟩
set_option maxRecDepth 100000 in
set_option maxHeartbeats 1000000 in
theorem tNew_any {w : World} (hH : Sm.HAt w) (hK : Sm.KAt w) (hsz : 1 < w.heap.size) :
    Calls Tryz.prog 16 #[] w fun e w' => ∃ r, e = .returned (.pointer (some ⟨r, 0, none⟩)) ∧ w.heap.size ≤ r ∧ Tr.TreeAt w' r [] ∧ Below w.heap.size w w' := by
  have OF := Lib.hid (tOf_ok hH hK hsz (A := none) (l := []) 0 (.inl rfl) Tr.Fit.nil)
  clear hH hK
  go_enter Tryz.func16, Tryz.ntmps16
  go_wp2_with (go_at_call 15; refine OF.out.mono ?_; rintro e w1 ⟨r, rfl, h1, h2, h3⟩)
  go_ret
  exact ⟨r, rfl, h1, h2, h3⟩
end Go.Proofs.YtiehcplepneajaaGreatDoor
