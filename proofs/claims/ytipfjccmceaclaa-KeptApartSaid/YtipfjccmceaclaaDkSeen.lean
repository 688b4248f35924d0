/-
  What disk's seen tells.
-/
import Derived.Test.YtipfjccmceaclaaDkFns
namespace Go.Proofs.Ytipfjccmceaclaa
open Go.RowKit
namespace Dk
theorem zeroSec : (Try.prog.info? 106).map (fun i => (i.zero, i.size)) = some (some (.agg (Sm.rowB 64 [])), 64) := by kernel_rfl
theorem infoSec {c : Array Value} (h : c.size = 64) : (Try.prog.info? 106).map (·.size) = some c.size := by rw [h]; kernel_rfl
theorem infoSecL {c : List Value} (h : c.length = 64) : (Try.prog.info? 106).map (·.size) = some c.length := by rw [h]; kernel_rfl
theorem zeroSecs (w : World) : (zeroValue 73).run Try.prog w = .ok (.slice none 0 0) w := by kernel_rfl
theorem MapAt.look7 {w : World} {b N : Nat} {F : Nat → Option Value} (h : MapAt Try.prog 3 w b N F) {i : Nat} (hi : i < N) (hN : N ≤ 4096) :
    (Instr.lookup 74 (.map (some b)) (.int .i64 (i : Int)) false).run Try.prog w = .ok ((F i).getD (.slice none 0 0)) w :=
  h.look Try.underlying3 Try.underlying74 (zeroSecs w) hi hN
end Dk

set_option maxRecDepth 100000 in
set_option maxHeartbeats 1000000 in
theorem dkSeen_any {w : World} {r m b c : Nat} {g : Nat → Nat} {F : Nat → Option Value} {M : Dk.Md} (h : Dk.Parts w r m b c g F M) {i : Nat} (hi : i < M.lasts.length) :
    Calls Try.prog 57 #[.pointer (some ⟨r, 0, none⟩), .int .i64 (i : Int)] w fun e w' => e = .returned (.agg (Lib.byteCells (Dk.seen M i)).toArray) ∧ Below w.heap.size w w' := by
  obtain ⟨z0, hz0⟩ : ∃ z, z = Sm.rowB 64 [] := ⟨_, rfl⟩
  have hz1 := (zero_of_info Dk.zeroSec).1
  rw [← hz0] at hz1
  have hzn : z0.size = 64 := by rw [hz0]; exact Sm.rowB_size (by simp)
  have hn := h.ok.n
  have hlook := (h.alloc (.cells z0 106)).map.look7 hi hn.2
  have hP := h.alloc (.cells z0 106)
  have g0 : (w.alloc (.cells z0 106)).heap[w.heap.size]? = some (.cells z0 106 (0, 0)) := heap_alloc_new w _
  have b0 : Below w.heap.size w (w.alloc (.cells z0 106)) := (Below.refl _ w).alloc (Nat.le_refl _) _
  obtain ⟨N, hN⟩ : ∃ N, N = w.heap.size := ⟨_, rfl⟩
  rw [← hN] at g0 b0 ⊢
  have HN := Lib.hid hN
  clear hz0 hN
  by_cases hw : M.W i = []
  · rw [Dk.seen_last hw]
    rw [h.idle i hi hw] at hlook
    obtain ⟨cs, hcs⟩ : ∃ cs, cs = Lib.byteCells (Dk.last M i) := ⟨_, rfl⟩
    have hcl : cs.length = 64 := by rw [hcs, Lib.byteCells_length, h.ok.last hi]
    have h1 : cs.toArray.all (·.oneCell') = true := by rw [hcs]; exact Sm.bytes_one _
    have hrg := hP.row.range hi
    rw [← hcs]
    have hrg2 : (w.alloc (.cells z0 106)).rangeAt b (i * 64) cs := by rw [hcs]; exact hrg
    have c0 := hP.c0
    have c1 := hP.c1
    have hil : (i : Int) < (M.lasts.length : Int) := by omega
    have RG := Lib.hid hrg2
    have HCL := Lib.hid hcl
    have H1 := Lib.hid h1
    have G0 := Lib.hid g0
    have B0 := Lib.hid b0
    have HZN := Lib.hid hzn
    clear h hcs hcl h1 hrg hrg2 hP g0 b0 hzn
    go_enter Try.func57, Try.ntmps57
    go_upto_region 1 with (fail)
    clear hz1
    rw [← HN.out]
    generalize w.alloc (.cells z0 106) = W1 at *
    go_wp2_with (first | (with_reducible refine wpList_load_mid rfl 106 _ rfl b (i * 64) rfl cs _ (by exact RG.out) Try.underlying106 rfl (Dk.infoSecL HCL.out) ?_) | (with_reducible refine wpList_store_row rfl 106 _ _ rfl N cs.toArray rfl rfl 106 _ (by exact G0.out) (Dk.infoSec (by rw [List.size_toArray]; exact HCL.out)) (by rw [HZN.out, List.size_toArray, HCL.out]) H1.out ?_))
    exact bodyPost_ret (v := .agg cs.toArray) (results_cell_row rfl _ _ N 106 _ (0, 0) _ rfl (setRow_heap _ N _ _ _ _ G0.out) Try.underlying106 rfl (Dk.infoSec (by rw [List.size_toArray]; exact HCL.out))) rfl ⟨rfl, Sm.below_setRow B0.out (Nat.le_refl _) _⟩
  · rw [Dk.seen_wait hw]
    obtain ⟨ci, hF, hR⟩ := hP.wait i hi hw
    rw [hF] at hlook
    have hlp : 0 < (M.W i).length := List.length_pos_iff.2 hw
    obtain ⟨k, hk⟩ : ∃ k, (M.W i).length = k + 1 := ⟨(M.W i).length - 1, by omega⟩
    have hlast : (M.W i).getLast hw = (M.W i).getD k [] := by
      rw [List.getLast_eq_getElem, List.getD_eq_getElem?_getD, List.getElem?_eq_getElem (by omega)]
      simp [hk]
    rw [hlast]
    obtain ⟨cs, hcs⟩ : ∃ cs, cs = Lib.byteCells ((M.W i).getD k []) := ⟨_, rfl⟩
    have hcl : cs.length = 64 := by rw [hcs, Lib.byteCells_length]; exact Dk.sec_length hR.sec (by omega)
    have h1 : cs.toArray.all (·.oneCell') = true := by rw [hcs]; exact Sm.bytes_one _
    have hrg := hR.range (show k < (M.W i).length by omega)
    rw [← hcs]
    have hrg2 : (w.alloc (.cells z0 106)).rangeAt (g i) (k * 64) cs := by rw [hcs]; exact hrg
    have hcap := hR.cap
    unfold maxLen at hcap
    have hkm : k + 1 ≤ 9223372036854775807 := by omega
    rw [hk] at hlook
    have c0 := hP.c0
    have c1 := hP.c1
    have e1 : ((k + 1 : Nat) : Int) - 1 = (k : Int) := by omega
    have RG := Lib.hid hrg2
    have HCL := Lib.hid hcl
    have H1 := Lib.hid h1
    have G0 := Lib.hid g0
    have B0 := Lib.hid b0
    have HZN := Lib.hid hzn
    clear h hcs hcl h1 hrg hrg2 hP g0 b0 hzn hcap hR hF hlast hk hlp hw
    go_enter Try.func57, Try.ntmps57
    go_upto_region 1 with (fail)
    clear hz1
    rw [← HN.out]
    generalize w.alloc (.cells z0 106) = W1 at *
    go_wp2_with (first | (with_reducible refine wpList_load_mid rfl 106 _ rfl (g i) (k * 64) rfl cs _ (by exact RG.out) Try.underlying106 rfl (Dk.infoSecL HCL.out) ?_) | (with_reducible refine wpList_store_row rfl 106 _ _ rfl N cs.toArray rfl rfl 106 _ (by exact G0.out) (Dk.infoSec (by rw [List.size_toArray]; exact HCL.out)) (by rw [HZN.out, List.size_toArray, HCL.out]) H1.out ?_))
    exact bodyPost_ret (v := .agg cs.toArray) (results_cell_row rfl _ _ N 106 _ (0, 0) _ rfl (setRow_heap _ N _ _ _ _ G0.out) Try.underlying106 rfl (Dk.infoSec (by rw [List.size_toArray]; exact HCL.out))) rfl ⟨rfl, Sm.below_setRow B0.out (Nat.le_refl _) _⟩
end Go.Proofs.Ytipfjccmceaclaa
