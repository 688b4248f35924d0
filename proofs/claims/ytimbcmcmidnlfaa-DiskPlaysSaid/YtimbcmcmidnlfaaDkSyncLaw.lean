/-
  DiskSync: what is synced is there behind every crash.
-/
import Derived.Test.YtimbcmcmidnlfaaDkRun
namespace Go.Proofs.Ytimbcmcmidnlfaa
open Go.RowKit
namespace Dk
theorem write_free {M : Md} (h1 : M.off = false) (h2 : M.fuse = -1) {i : Nat} (hi : i < M.lasts.length) {s : List UInt8} (hs : s.length = 64) : write M i s = (put M i s, 0) := by
  have ht : there M (i : Int) = true := there_iff.2 ⟨by omega, by omega⟩
  have ha : act M = (M, true) := by simp [act, h2]
  simp [write, h1, ht, hs, ha]
theorem sync_free {M : Md} (h1 : M.off = false) (h2 : M.fuse = -1) : sync M = (synced M, 0) := by
  have ha : act M = (M, true) := by simp [act, h2]
  simp [sync, h1, ha]
theorem last_range {n : Nat} {f : Nat → List UInt8} {i : Nat} (hi : i < n) : ((List.range n).map f).getD i [] = f i := by
  rw [List.getD_eq_getElem?_getD, List.getElem?_map, List.getElem?_range hi]; rfl
theorem last_crash {M : Md} {keep : List Int} {i : Nat} (hi : i < M.lasts.length) : last (crash M keep) i = kept M keep i := last_range hi
theorem read_crash {M : Md} {keep : List Int} {i : Nat} (hi : i < M.lasts.length) : readOf (crash M keep) i = (kept M keep i, 0) := by
  have ht : there (crash M keep) (i : Int) = true := there_iff.2 ⟨by omega, by rw [len_crash]; omega⟩
  have e : (crash M keep).off = false := rfl
  have e2 : seen (crash M keep) i = last (crash M keep) i := seen_last rfl
  simp [readOf, e, ht, e2, last_crash hi]
theorem full_length (b : UInt8) : (full b).length = 64 := by simp [full]
/-- What is synced is there behind two crashes, with or without a write elsewhere. -/
theorem kept_synced {M : Md} (h1 : M.off = false) (h2 : M.fuse = -1) {i : Nat} (hi : i < M.lasts.length) {s : List UInt8} (hs : s.length = 64) (M3 : Md) (h3 : M3.lasts = (sync (write M i s).1).1.lasts) (hW : M3.W i = []) (keep keep2 : List Int) :
    (write M i s).2 = 0 ∧ (sync (write M i s).1).2 = 0 ∧ readOf (crash M3 keep) i = (s, 0) ∧ readOf (crash (crash M3 keep) keep2) i = (s, 0) := by
  rw [write_free h1 h2 hi hs, sync_free (by exact h1) (by exact h2)]
  rw [write_free h1 h2 hi hs, sync_free (by exact h1) (by exact h2)] at h3
  have hl : M3.lasts.length = M.lasts.length := by rw [h3]; simp [synced, put]
  have hlast : last M3 i = s := by
    rw [last, h3]
    show ((List.range M.lasts.length).map (seen (put M i s))).getD i [] = s
    rw [last_range hi, seen_wait (by rw [put_same]; simp)]
    simp [put_same]
  refine ⟨rfl, rfl, ?_, ?_⟩
  · rw [read_crash (by omega), kept_idle hW, hlast]
  · rw [read_crash (by rw [len_crash]; omega), kept_idle (by rfl), last_crash (by omega), kept_idle hW, hlast]
theorem ints_one {w : World} (x : Int) (hx : -9223372036854775808 ≤ x ∧ x ≤ 9223372036854775807) : IntsAt (w.alloc (.cells #[.int .i64 x] 3)) (.slice (some ⟨w.heap.size, 0, none⟩) 1 1) [x] := by
  refine ⟨some ⟨w.heap.size, 0, none⟩, 1, rfl, by simp, fun i => ?_, .inr ⟨w.heap.size, 0, rfl, by simp, fun i hi => ?_⟩⟩
  · match i with
    | 0 => exact hx
    | i + 1 => simp
  · have : i = 0 := by simpa using hi
    subst this
    exact Sm.cells_of (heap_alloc_new w _) 0 _ rfl
theorem off_new {B : Nat} {w0 w : World} {r : Nat} {fp : Nat → Prop} {M : Md} (h : Own B w0 w r fp M) (l : List Int) (n c : Nat) : Off fp (.slice (some ⟨w.heap.size, 0, none⟩) n c) l := fun _ A n c b o e1 e2 e3 => by
  simp only [Value.slice.injEq] at e1
  rw [← e1.1] at e2
  simp only [Option.some.injEq, Addr.mk.injEq] at e2
  have := h.lt b e3
  omega
end Dk
end Go.Proofs.Ytimbcmcmidnlfaa
