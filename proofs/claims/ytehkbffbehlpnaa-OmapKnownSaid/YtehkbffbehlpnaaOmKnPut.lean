/-
  OmapKnown's shorthand for an operation.
-/
import Derived.Test.YtehkbffbehlpnaaOmKnMath
namespace Go.Proofs.Ytehkbffbehlpnaa
open Go.RowKit Go.Maps
set_option maxRecDepth 100000 in
theorem put13_any (w : World) (p v : ByteArray) : Calls Try.prog 36 #[.string p, .string v] w fun e w' => e = .returned (.agg #[.int .u8 1, .string p, .string v]) ∧ Below w.heap.size w w' := by
  have b1 : Below w.heap.size w (w.alloc (.cells #[.int .u8 0, .string ⟨#[]⟩, .string ⟨#[]⟩] 52)) := (Below.refl _ w).alloc (Nat.le_refl _) _
  have z0 : (w.alloc (.cells #[.int .u8 0, .string ⟨#[]⟩, .string ⟨#[]⟩] 52)).frozen? ⟨w.heap.size, 0, none⟩ = false := Sm.free_of (heap_alloc_new w _) 0
  go_enter Try.func36, Try.ntmps36
  go_wp2
  have g := heap_alloc_new w (.cells #[.int .u8 1, .string p, .string v] 52)
  have y0 := Sm.cells_of g 0 _ rfl
  have y1 := Sm.cells_of g 1 _ rfl
  have y2 := Sm.cells_of g 2 _ rfl
  exact bodyPost_ret (v := .agg #[.int .u8 1, .string p, .string v]) (by simp [results, Try.results36, go_sem, y0, y1, y2]) rfl ⟨rfl, (Below.refl _ w).alloc (Nat.le_refl _) _⟩
end Go.Proofs.Ytehkbffbehlpnaa
