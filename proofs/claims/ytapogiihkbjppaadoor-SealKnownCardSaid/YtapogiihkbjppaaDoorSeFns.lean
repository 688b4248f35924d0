/-
  What seal's small functions do: numbered, right, streamed, numbers, tagOf.
-/
import Derived.Test.YtapogiihkbjppaaDoorSeNonce
import Derived.Test.YtapogiihkbjppaaDoorMMac
import Derived.Test.YtapogiihkbjppaaDoorMPack
namespace Go.Proofs.YtapogiihkbjppaaDoor
open Go.RowKit Pk

set_option maxRecDepth 100000 in
set_option maxHeartbeats 400000 in
theorem numbered_any (w : World) (key : Int) :
    Calls Tryd.prog 19 #[.int .i64 key] w fun e w' => e = .returned (.bool (decide (0 ≤ key ∧ key ≤ 1048576))) ∧ w = w' := by
  by_cases h0 : 0 ≤ key
  · by_cases h1 : key ≤ 1048576
    · rw [decide_eq_true ⟨h0, h1⟩]
      go_enter Tryd.func19, Tryd.ntmps19
      go_wp2
      go_ret
      exact ⟨rfl, rfl⟩
    · rw [decide_eq_false (fun h => h1 h.2)]
      go_enter Tryd.func19, Tryd.ntmps19
      go_wp2
      go_ret
      exact ⟨rfl, rfl⟩
  · rw [decide_eq_false (fun h => h0 h.1)]
    go_enter Tryd.func19, Tryd.ntmps19
    go_wp2
    go_ret
    exact ⟨rfl, rfl⟩

namespace Se
/-- An envelope lies in block b. -/
def EnvAt (w : World) (b : Nat) (x : Env) : Prop := w.heap[b]? = some (.cells x.cells.toArray 28 (0, 0))
theorem cells_length (x : Env) (h : x.tag.length = 32) : x.cells.length = 36 := by simp [Env.cells, Lib.byteCells_length, h]
theorem EnvAt.lt {w : World} {b : Nat} {x : Env} (h : EnvAt w b x) : b < w.heap.size := Sm.lt_of h
theorem EnvAt.cell {w : World} {b : Nat} {x : Env} (h : EnvAt w b x) :
    w.cell? ⟨b, 0, none⟩ = some (.int .i64 x.key) ∧ w.cell? ⟨b, 1, none⟩ = some (.int .u32 x.boot) ∧ w.cell? ⟨b, 2, none⟩ = some (.int .u64 x.n) ∧ w.cell? ⟨b, 3, none⟩ = some (.string x.data) :=
  ⟨Sm.cells_of h 0 _ (by simp [Env.cells]), Sm.cells_of h 1 _ (by simp [Env.cells]), Sm.cells_of h 2 _ (by simp [Env.cells]), Sm.cells_of h 3 _ (by simp [Env.cells])⟩
theorem EnvAt.tag {w : World} {b : Nat} {x : Env} (h : EnvAt w b x) (i : Nat) (hi : i < x.tag.length) : w.cell? ⟨b, 4 + i, none⟩ = some (.int .u8 ((x.tag.getD i 0).toNat : Int)) := by
  refine Sm.cells_of h (4 + i) _ ?_
  rw [List.getElem?_toArray]
  show (([.int .i64 x.key, .int .u32 x.boot, .int .u64 x.n, .string x.data] : List Value) ++ Lib.byteCells x.tag)[4 + i]? = _
  rw [List.getElem?_append_right (by simp), List.length_cons, List.length_cons, List.length_cons, List.length_singleton, show 4 + i - 4 = i by omega]
  exact Sm.byteCells_get hi
theorem EnvAt.keep {w w' : World} {b B : Nat} {x : Env} (h : EnvAt w b x) (hb : b < B) (k : Below B w w') : EnvAt w' b x := (k.block b hb).trans h
theorem env_new (w : World) (x : Env) : EnvAt (w.alloc (.cells x.cells.toArray 28)) w.heap.size x := heap_alloc_new w _
theorem below_new (w : World) (o : Obj) : Below w.heap.size w (w.alloc o) := (Below.refl _ w).alloc (Nat.le_refl _) _
end Se

set_option maxRecDepth 100000 in
set_option maxHeartbeats 400000 in
theorem right_any (w : World) (x : Se.Env) (ok : x.Ok) :
    Calls Tryd.prog 22 #[.agg x.cells.toArray] w fun e w' => e = .returned (.bool (decide x.Right)) ∧ Below w.heap.size w w' := by
  have hE := Se.env_new w x
  have hb := Se.below_new w (.cells x.cells.toArray 28)
  obtain ⟨cs, hcs⟩ : ∃ c, c = x.cells.toArray := ⟨_, rfl⟩
  rw [← hcs] at hE hb ⊢
  clear hcs
  obtain ⟨h0, -, -, h3⟩ := hE.cell
  clear hE
  have hds := ok.data
  have NU := Lib.hid (fun wx => numbered_any wx x.key)
  by_cases hk : 0 ≤ x.key ∧ x.key ≤ 1048576
  · rw [decide_eq_true hk] at NU
    by_cases hd : x.data.size ≤ 8192
    · rw [decide_eq_true (show x.Right from ⟨hk, hd⟩)]
      have hd2 : (x.data.size : Int) ≤ 8192 := by omega
      clear hk hd
      go_enter Tryd.func22, Tryd.ntmps22
      go_upto_region 1 with (fail)
      generalize w.alloc (.cells cs 28) = W1 at *
      go_wp2_with fail
      refine (NU.out _).mono ?_
      rintro e w' ⟨rfl, rfl⟩
      go_wp2
      go_ret
      exact ⟨rfl, hb⟩
    · rw [decide_eq_false (show ¬ x.Right from fun h => hd h.2)]
      have hd2 : ¬ (x.data.size : Int) ≤ 8192 := by omega
      clear hk hd
      go_enter Tryd.func22, Tryd.ntmps22
      go_upto_region 1 with (fail)
      generalize w.alloc (.cells cs 28) = W1 at *
      go_wp2_with fail
      refine (NU.out _).mono ?_
      rintro e w' ⟨rfl, rfl⟩
      go_wp2
      go_ret
      exact ⟨by simp; omega, hb⟩
  · rw [decide_eq_false hk] at NU
    rw [decide_eq_false (show ¬ x.Right from fun h => hk h.1)]
    clear hk
    go_enter Tryd.func22, Tryd.ntmps22
    go_upto_region 1 with (fail)
    generalize w.alloc (.cells cs 28) = W1 at *
    go_wp2_with fail
    refine (NU.out _).mono ?_
    rintro e w' ⟨rfl, rfl⟩
    go_wp2
    go_ret
    exact ⟨rfl, hb⟩
end Go.Proofs.YtapogiihkbjppaaDoor
