/-
  path's Ships.
-/
import Derived.Test.YtehkbffbehlpnaaPaOf
namespace Go.Proofs.Ytehkbffbehlpnaa
open Go.RowKit
set_option maxRecDepth 100000 in
set_option maxHeartbeats 1000000 in
theorem paShips_any {w : World} {A : Option Addr} {l : List Pa.Mo} (c : Nat) (hit : Pa.listAt w A l) (hl : l.length ≤ 9223372036854775807) (p : ByteArray) (hp : p.size ≤ 281474976710656) :
    Calls Try.prog 51 #[.slice A l.length c, .string p] w fun e w' => e = .returned (.bool (Pa.ships l p.data.toList)) ∧ Below w.heap.size w w' := by
  have OF := Lib.hid (paOf_any c hit hl p hp)
  obtain ⟨q, hq⟩ : ∃ q, q = Pa.ships l p.data.toList := ⟨_, rfl⟩
  rw [← hq]
  obtain ⟨n, s, e, hx⟩ : ∃ n s e, Pa.of3 l p.data.toList = (n, s, e) := ⟨_, _, _, rfl⟩
  unfold Pa.ships at hq
  rw [hx] at hq
  have hv : Pa.ofV (Pa.of3 l p.data.toList) = .tuple #[.agg #[.string n, .bool s], .int .i64 e] := by rw [hx]; rfl
  rw [hv] at OF
  simp only at hq
  clear hit hx hv
  by_cases he : e = 0
  · have heb : (e == 0) = true := by rw [he]; rfl
    have hqs : q = s := by rw [hq, he]; simp
    subst hqs
    clear hq
    have HE := Lib.hid he
    clear he
    go_enter Try.func51, Try.ntmps51
    go_wp2_with fail
    refine OF.out.mono ?_
    rintro e1 w1 ⟨rfl, b1⟩
    have g1 := heap_alloc_new w1 (.cells #[.string n, .bool q] 89)
    have x1 := Sm.cells_of g1 1 _ rfl
    have B2 := Lib.hid (b1.trans (((Below.refl w1.heap.size w1).alloc (Nat.le_refl _) (.cells #[.string n, .bool q] 89)).mono b1.size))
    clear b1 g1
    have he2 : e = 0 := HE.out
    go_wp2
    go_ret
    exact ⟨rfl, B2.out⟩
  · have heb : (e == 0) = false := by simpa using he
    have hqs : q = false := by rw [hq]; simp [he]
    subst hqs
    clear hq
    go_enter Try.func51, Try.ntmps51
    go_wp2_with fail
    refine OF.out.mono ?_
    rintro e1 w1 ⟨rfl, b1⟩
    have B2 := Lib.hid (b1.trans (((Below.refl w1.heap.size w1).alloc (Nat.le_refl _) (.cells #[.string n, .bool s] 89)).mono b1.size))
    clear b1
    go_wp2
    go_ret
    exact ⟨rfl, B2.out⟩
end Go.Proofs.Ytehkbffbehlpnaa
