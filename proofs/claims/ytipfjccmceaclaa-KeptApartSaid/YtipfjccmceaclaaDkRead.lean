/-
  What disk's Read tells.
-/
import Derived.Test.YtipfjccmceaclaaDkWrite
namespace Go.Proofs.Ytipfjccmceaclaa
open Go.RowKit
namespace Dk
theorem conv_sec {w : World} {N : Nat} {l : List UInt8} (h : w.heap[N]? = some (.cells (Lib.byteCells l).toArray 106 (0, 0))) (hl : l.length = 64) :
    (convert 70 9 (.slice (some ⟨N, 0, none⟩) 64 64)).run Try.prog w = .ok (.string ⟨l.toArray⟩) w := Sm.conv_row h hl
end Dk
set_option maxRecDepth 100000 in
theorem dkRead_none {w : World} {v : Value} (h : Dk.None w v) (i : Int) :
    Calls Try.prog 25 #[v, .int .i64 i] w fun e w' => e = .returned (.tuple #[.string ⟨#[]⟩, .int .i64 2]) ∧ w = w' := by
  have RE := Lib.hid (dkReady_none h)
  clear h
  go_enter Try.func25, Try.ntmps25
  go_wp2_with (go_at_call 54; refine RE.out.mono ?_; rintro e w' ⟨rfl, rfl⟩)
  go_ret2
  exact ⟨rfl, rfl⟩
set_option maxRecDepth 100000 in
set_option maxHeartbeats 1000000 in
theorem dkRead_parts {w : World} {r m b c : Nat} {g : Nat → Nat} {F : Nat → Option Value} {M : Dk.Md} (h : Dk.Parts w r m b c g F M) (i : Int) :
    Calls Try.prog 25 #[.pointer (some ⟨r, 0, none⟩), .int .i64 i] w fun e w' => e = .returned (.tuple #[.string ⟨(Dk.readOf M i).1.toArray⟩, .int .i64 (Dk.readOf M i).2]) ∧ Below w.heap.size w w' := by
  have RE := Lib.hid (dkReady_any h)
  have HA := Lib.hid (dkHas_any h i)
  cases hoff : M.off
  · rw [hoff] at RE
    cases hth : Dk.there M i
    · have e : Dk.readOf M i = ([], 1) := by simp [Dk.readOf, hoff, hth]
      rw [e]; clear e
      rw [hth] at HA
      clear h
      go_enter Try.func25, Try.ntmps25
      go_wp2_with (first | (go_at_call 54; refine RE.out.mono ?_; rintro e w' ⟨rfl, rfl⟩) | (go_at_call 55; refine HA.out.mono ?_; rintro e w' ⟨rfl, rfl⟩))
      go_ret2
      exact ⟨rfl, Below.refl _ _⟩
    · rw [hth] at HA
      obtain ⟨i0, hi0⟩ : ∃ k : Nat, i = (k : Int) := ⟨i.toNat, by have := Dk.there_iff.1 hth; omega⟩
      subst hi0
      have hi : i0 < M.lasts.length := by have := Dk.there_iff.1 hth; omega
      have e : Dk.readOf M i0 = (Dk.seen M i0, 0) := by simp [Dk.readOf, hoff, hth]
      rw [e]; clear e
      obtain ⟨l, hl⟩ : ∃ l, l = Dk.seen M i0 := ⟨_, rfl⟩
      have SE := dkSeen_any h hi
      have hll : l.length = 64 := by rw [hl]; exact h.ok.seen hi
      rw [← hl] at SE ⊢
      obtain ⟨cs, hcs⟩ : ∃ cs, cs = Lib.byteCells l := ⟨_, rfl⟩
      rw [← hcs] at SE
      have SE := Lib.hid SE
      have hcl : cs.length = 64 := by rw [hcs, Lib.byteCells_length, hll]
      have h1 : cs.toArray.all (·.oneCell') = true := by rw [hcs]; exact Sm.bytes_one _
      obtain ⟨z0, hz0⟩ : ∃ z, z = Sm.rowB 64 [] := ⟨_, rfl⟩
      have hz1 := (zero_of_info Dk.zeroSec).1
      rw [← hz0] at hz1
      have hzn : z0.size = 64 := by rw [hz0]; exact Sm.rowB_size (by simp)
      have HZN := Lib.hid hzn
      have HCL := Lib.hid hcl
      have H1 := Lib.hid h1
      have HCS := Lib.hid hcs
      clear h hl hz0 hcs hcl h1 hzn hi
      go_enter Try.func25, Try.ntmps25
      go_upto_region 6 with (first | (go_at_call 54; refine RE.out.mono ?_; rintro e w' ⟨rfl, rfl⟩) | (go_at_call 55; refine HA.out.mono ?_; rintro e w' ⟨rfl, rfl⟩))
      go_wp2_with fail
      refine (SE.out).mono ?_
      rintro e w1 ⟨rfl, hb1⟩
      have hg := heap_alloc_new w1 (.cells z0 106)
      have hbl : Below w.heap.size w (w1.alloc (.cells z0 106)) := hb1.alloc hb1.size _
      have hNw := hb1.size
      have hset := setRow_heap _ _ _ cs.toArray _ _ hg
      have hcv : (convert 70 9 (.slice (some ⟨w1.heap.size, 0, none⟩) 64 64)).run Try.prog ((w1.alloc (.cells z0 106)).setRow w1.heap.size cs.toArray) = .ok (.string ⟨l.toArray⟩) ((w1.alloc (.cells z0 106)).setRow w1.heap.size cs.toArray) := by
        rw [HCS.out] at hset ⊢
        exact Dk.conv_sec hset hll
      have hbl2 : Below w.heap.size w ((w1.alloc (.cells z0 106)).setRow w1.heap.size cs.toArray) := Sm.below_setRow hbl hNw _
      have G := Lib.hid hg
      have B2 := Lib.hid hbl2
      clear hg hbl2 hbl hset hb1 hNw
      go_wp2_with (first | (with_reducible refine wpList_store_row rfl 106 _ _ rfl w1.heap.size cs.toArray rfl rfl 106 _ (by exact G.out) (Dk.infoSec (by rw [List.size_toArray]; exact HCL.out)) (by rw [HZN.out, List.size_toArray, HCL.out]) H1.out ?_))
      go_ret2
      exact ⟨rfl, B2.out⟩
  · rw [hoff] at RE
    have e : Dk.readOf M i = ([], 14) := by simp [Dk.readOf, hoff]
    rw [e]; clear e
    clear h
    go_enter Try.func25, Try.ntmps25
    go_wp2_with (first | (go_at_call 54; refine RE.out.mono ?_; rintro e w' ⟨rfl, rfl⟩))
    go_ret2
    exact ⟨rfl, Below.refl _ _⟩
end Go.Proofs.Ytipfjccmceaclaa
