/-
  What ring's none, Current, Rotate and Count do.
-/
import Derived.Test.YtapogiihkbjppaaGreatDoorRiAt
import Derived.Test.YtapogiihkbjppaaGreatDoorRiLock
import Derived.WalkSpells
namespace Go.Proofs.YtapogiihkbjppaaGreatDoor
open Go.RowKit
namespace Ri
/-- A ring's cells that New did not make. -/
def bareCells : Array Value := #[.string ⟨#[]⟩, .int .u32 0, .int .u64 0, .int .i32 0, .int .u32 0, .int .i64 0, .map none]
/-- What is no ring: nil, or a Ring that New did not make. -/
def None (w : World) (v : Value) : Prop := v = .pointer none ∨ ∃ b, v = .pointer (some ⟨b, 0, none⟩) ∧ w.heap[b]? = some (.cells bareCells 66 (0, 0))
theorem None.keep {w w' : World} {v : Value} (h : None w v) (k : ∀ i, i < w.heap.size → w'.heap[i]? = w.heap[i]?) : None w' v := by
  rcases h with rfl | ⟨b, rfl, h⟩
  · exact .inl rfl
  · exact .inr ⟨b, rfl, (k b (Sm.lt_of h)).trans h⟩
/-- A cell that is set and set back. -/
theorem set_back {w : World} {b : Nat} {cs : Array Value} {t : TypeId} {o : Nat} {v : Value} (h : w.heap[b]? = some (.cells cs t (0, 0))) (hv : cs[o]? = some v) (x : Value) : (w.setCell ⟨b, o, none⟩ x).setCell ⟨b, o, none⟩ v = w := by
  have h2 := Sm.heap_set h o x
  have e : ∀ (i : Nat), ((w.setCell ⟨b, o, none⟩ x).setCell ⟨b, o, none⟩ v).heap[i]? = w.heap[i]? := fun i => by
    by_cases hi : i = b
    · subst hi
      rw [Sm.heap_set h2 o v, h]
      congr 2
      apply Array.ext_getElem?
      intro j
      rw [Array.getElem?_setIfInBounds, Array.size_setIfInBounds]
      by_cases hj : o = j
      · subst hj
        rw [if_pos rfl, if_pos (Array.getElem?_eq_some_iff.1 hv).1, hv]
      · rw [if_neg hj, Array.getElem?_setIfInBounds, if_neg hj]
    · rw [Below.heap_setCell _ _ _ _ hi, Below.heap_setCell _ _ _ _ hi]
  have e2 : ((w.setCell ⟨b, o, none⟩ x).setCell ⟨b, o, none⟩ v).heap = w.heap := Array.ext_getElem? e
  have e3 : (w.setCell ⟨b, o, none⟩ x).setCell ⟨b, o, none⟩ v = { w with heap := ((w.setCell ⟨b, o, none⟩ x).setCell ⟨b, o, none⟩ v).heap } := rfl
  rw [e3, e2]
end Ri

set_option maxRecDepth 100000 in
theorem rgNone_not {w : World} {r m : Nat} {M : ByteArray} {boot n : Nat} {cur : Int} (h : Ri.RingAt w r m M boot n cur) :
    Calls Tryz.prog 26 #[.pointer (some ⟨r, 0, none⟩)] w fun e w' => e = .returned (.bool false) ∧ w = w' := by
  have hq : ∀ (w : World) (r : Option Nat), (binOp .eql 64 (.map r) (.map none)).run Tryz.prog w = .ok (.bool r.isNone) w := fun w r => run_eql_map_nil w _ _ _ r Tryz.underlying64
  have c5 := Sm.cells_of h.ring 6 _ (show (Ri.cells M boot n cur m)[6]? = some (.map (some m)) from rfl)
  have hlt := h.lt
  clear h
  go_enter Tryz.func26, Tryz.ntmps26
  go_wp2
  go_ret
  exact ⟨rfl, rfl⟩
set_option maxRecDepth 100000 in
theorem rgNone_is {w : World} {v : Value} (h : Ri.None w v) :
    Calls Tryz.prog 26 #[v] w fun e w' => e = .returned (.bool true) ∧ w = w' := by
  have hq : ∀ (w : World) (r : Option Nat), (binOp .eql 64 (.map r) (.map none)).run Tryz.prog w = .ok (.bool r.isNone) w := fun w r => run_eql_map_nil w _ _ _ r Tryz.underlying64
  rcases h with rfl | ⟨b, rfl, h⟩
  · go_enter Tryz.func26, Tryz.ntmps26
    go_wp2
    go_ret
    exact ⟨rfl, rfl⟩
  · have c5 := Sm.cells_of h 6 _ (show Ri.bareCells[6]? = some (.map none) from rfl)
    clear h
    go_enter Tryz.func26, Tryz.ntmps26
    go_wp2
    go_ret
    exact ⟨rfl, rfl⟩

set_option maxRecDepth 100000 in
set_option maxHeartbeats 1000000 in
theorem rgCurrent_any {w : World} {r m : Nat} {M : ByteArray} {boot n : Nat} {cur : Int} (h : Ri.RingAt w r m M boot n cur) :
    Calls Tryz.prog 16 #[.pointer (some ⟨r, 0, none⟩)] w fun e w' => e = .returned (.int .i64 cur) ∧ w = w' := by
  have NO := Lib.hid (rgNone_not h)
  have c3 := Sm.cells_of h.ring 3 _ (show (Ri.cells M boot n cur m)[3]? = some (.int .i32 0) from rfl)
  have c5 := Sm.cells_of h.ring 5 _ (show (Ri.cells M boot n cur m)[5]? = some (.int .i64 cur) from rfl)
  have f3 := Sm.free_of h.ring 3
  have c5' : (w.setCell ⟨r, 3, none⟩ (.int .i32 1)).cell? ⟨r, 5, none⟩ = some (.int .i64 cur) := (World.cell?_setCell_other w ⟨r, 3, none⟩ ⟨r, 5, none⟩ _ (by simp)).trans c5
  have c3' : (w.setCell ⟨r, 3, none⟩ (.int .i32 1)).cell? ⟨r, 3, none⟩ = some (.int .i32 1) := World.cell?_setCell_same w _ _ c3
  have hb := Ri.set_back h.ring (show (Ri.cells M boot n cur m)[3]? = some (.int .i32 0) from rfl) (.int .i32 1)
  have HB := Lib.hid hb
  have LK := Lib.hid (Ri.lock_free ⟨r, 3, none⟩ w c3 f3)
  have UL := Lib.hid (Ri.unlock_deferred ⟨r, 3, none⟩ .returning (w.setCell ⟨r, 3, none⟩ (.int .i32 1)) c3' (by simp [f3]))
  clear h hb c3 c5 c3'
  go_enter_defers Tryz.func16, Tryz.ntmps16
  go_wp2_with fail
  refine (NO.out).mono ?_
  rintro e w1 ⟨rfl, rfl⟩
  go_wp2_with fail
  refine (LK.out).mono ?_
  rintro e w1 ⟨rfl, rfl⟩
  go_wp2_with fail
  refine leaves_cons (f := 32) (args := #[.pointer (some ⟨r, 3, none⟩)]) (by simp) (by simp [go_sem]) ?_
  refine (UL.out).mono ?_
  rintro e u' w'' ⟨rfl, rfl, rfl⟩
  exact ⟨_, results_tmp rfl _ _ _, rfl, HB.out.symm⟩

set_option maxRecDepth 100000 in
set_option maxHeartbeats 1000000 in
theorem rgCurrent_none {w : World} {v : Value} (h : Ri.None w v) :
    Calls Tryz.prog 16 #[v] w fun e w' => e = .returned (.int .i64 0) ∧ w = w' := by
  have NO := Lib.hid (rgNone_is h)
  clear h
  go_enter_defers Tryz.func16, Tryz.ntmps16
  go_wp2_with fail
  refine (NO.out).mono ?_
  rintro e w1 ⟨rfl, rfl⟩
  go_wp2_with fail
  exact ⟨_, results_tmp rfl _ _ _, rfl, rfl⟩
end Go.Proofs.YtapogiihkbjppaaGreatDoor
