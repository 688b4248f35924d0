/-
  ShaNobody answers true for every text, and turns nothing of what was there.
-/
import Derived.Test.YtfnnoennmlnjeaaDoorShNone
import Derived.Test.YtfnnoennmlnjeaaDoorShKnown
namespace Go.Proofs.YtfnnoennmlnjeaaDoor
open Go.RowKit

theorem nobody_great {w : World} (hH : Sm.HAt w) (hK : Sm.KAt w) (hsz : 1 < w.heap.size) (s : ByteArray) (hg : 20000 < s.size) :
    Calls Tryd.prog 9 #[.string s] w fun e w' => e = .returned (.bool true) ∧ Below w.heap.size w w' := by
  have hg1 : (20000 : Int) < s.size := by omega
  have HA := Lib.hid (awake_any hH hK hsz)
  clear hH hK hg
  go_enter Tryd.func9, Tryd.ntmps9
  go_wp2_with fail
  refine (HA.out).mono ?_
  rintro e w1 ⟨rfl, b1⟩
  go_wp2
  go_ret
  exact ⟨rfl, b1⟩

set_option maxRecDepth 100000 in
set_option maxHeartbeats 2000000 in
theorem nobody_any {w : World} (hH : Sm.HAt w) (hK : Sm.KAt w) (hsz : 1 < w.heap.size) (s : ByteArray) (hg : ¬ 20000 < s.size) :
    Calls Tryd.prog 9 #[.string s] w fun e w' => e = .returned (.bool true) ∧ Below w.heap.size w w' := by
  have hg1 : ¬ (20000 : Int) < s.size := by omega
  have HH := Lib.hid hH
  have HK := Lib.hid hK
  have heq := fun w' => Sm.eq_hash (Sm.sum []) (Sm.sum []) (Sm.sum_length _) (Sm.sum_length _) w'
  rw [beq_self_eq_true] at heq
  have HEQ := Lib.hid heq
  clear hH hK hg heq
  go_enter Tryd.func9, Tryd.ntmps9
  go_wp2_with fail
  refine (awake_any HH.out HK.out hsz).mono ?_
  rintro e w1 ⟨rfl, b1⟩
  have hs1 := b1.size
  go_wp2_with (refine wpList_build_eq rfl 47 _ rfl (Sm.cells false ⟨0, 0, 0, 0, 0, 0, 0, 0⟩ (List.replicate 64 0) 0) (by kernel_rfl) ?_)
  have i2 : Sm.At (w1.alloc (.cells (Sm.cells false ⟨0, 0, 0, 0, 0, 0, 0, 0⟩ (List.replicate 64 0) 0) 47)) w1.heap.size false ⟨0, 0, 0, 0, 0, 0, 0, 0⟩ (List.replicate 64 0) 0 := heap_alloc_new w1 _
  have b2 : Below w.heap.size w (w1.alloc (.cells (Sm.cells false ⟨0, 0, 0, 0, 0, 0, 0, 0⟩ (List.replicate 64 0) 0) 47)) := b1.alloc hs1 _
  have hs2 : w1.heap.size < (w1.alloc (.cells (Sm.cells false ⟨0, 0, 0, 0, 0, 0, 0, 0⟩ (List.replicate 64 0) 0) 47)).heap.size := by simp
  change Calls _ _ _ (w1.alloc (.cells (Sm.cells false ⟨0, 0, 0, 0, 0, 0, 0, 0⟩ (List.replicate 64 0) 0) 47)) _
  generalize w1.alloc (.cells (Sm.cells false ⟨0, 0, 0, 0, 0, 0, 0, 0⟩ (List.replicate 64 0) 0) 47) = w2 at *
  have I2 := Lib.hid i2
  clear i2
  refine (write_nil s _).mono ?_
  rintro e w3 ⟨rfl, rfl⟩
  go_wp2_with fail
  refine (len_nil _).mono ?_
  rintro e w3 ⟨rfl, rfl⟩
  go_wp2_with fail
  refine (xsum_nil (HH.out.low b2 (by omega)) (HK.out.low b2 hsz) (by omega)).mono ?_
  rintro e w3 ⟨rfl, k3⟩
  have b3 := Sm.low_low b2 (Nat.le_refl _) k3
  have hs3 := k3.size
  have I3 := Lib.hid (I2.out.low k3)
  clear k3
  go_wp2_with fail
  refine (sum_any ⟨#[]⟩ (HH.out.low b3 (by omega)) (HK.out.low b3 hsz) (by omega) (by decide)).mono ?_
  rintro e w4 ⟨rfl, k4⟩
  have b4 := Sm.low_low b3 (Nat.le_refl _) k4
  have hs4 := k4.size
  have I4 := Lib.hid (I3.out.low k4)
  have heq := HEQ.out w4
  clear k4
  go_wp2_with fail
  clear heq
  refine (twin_nil _).mono ?_
  rintro e w5 ⟨rfl, rfl⟩
  go_wp2_with fail
  refine (write_bare s I4.out).mono ?_
  rintro e w5 ⟨rfl, rfl⟩
  go_wp2_with fail
  refine (len_at I4.out (by simp)).mono ?_
  rintro e w5 ⟨rfl, rfl⟩
  go_wp2_with fail
  refine (xsum_bare I4.out (HH.out.low b4 (by omega)) (HK.out.low b4 hsz) (by omega)).mono ?_
  rintro e w6 ⟨rfl, k6⟩
  have b6 := Sm.low_low b4 (Nat.le_refl _) k6
  have hs6 := k6.size
  clear k6
  go_wp2_with fail
  refine (sum_any ⟨#[]⟩ (HH.out.low b6 (by omega)) (HK.out.low b6 hsz) (by omega) (by decide)).mono ?_
  rintro e w7 ⟨rfl, k7⟩
  have b7 := Sm.low_low b6 (Nat.le_refl _) k7
  have heq := HEQ.out w7
  go_wp2
  go_ret
  exact ⟨rfl, b7⟩
end Go.Proofs.YtfnnoennmlnjeaaDoor
