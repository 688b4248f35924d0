/-
  What disk's none, ready, has, act, Sectors, Fuse, Down and seen do.
-/
import Derived.Test.YtipfjccmceaclaaDkAt
import Derived.WalkSpells
namespace Go.Proofs.Ytipfjccmceaclaa
open Go.RowKit
namespace Dk
/-- A disk's cells that New did not make. -/
def bareCells : Array Value := #[.slice none 0 0, .map none, .bool false, .int .i64 0]
/-- What is no disk: nil, or a Disk that New did not make. -/
def None (w : World) (v : Value) : Prop := v = .pointer none ∨ ∃ b, v = .pointer (some ⟨b, 0, none⟩) ∧ w.heap[b]? = some (.cells bareCells 76 (0, 0))
theorem None.keep {w w' : World} {v : Value} (h : None w v) (k : ∀ i, i < w.heap.size → w'.heap[i]? = w.heap[i]?) : None w' v := by
  rcases h with rfl | ⟨b, rfl, h⟩
  · exact .inl rfl
  · exact .inr ⟨b, rfl, (k b (Sm.lt_of h)).trans h⟩
section
variable {w : World} {r m b c : Nat} {g : Nat → Nat} {F : Nat → Option Value} {M : Md}
theorem Parts.c0 (h : Parts w r m b c g F M) : w.cell? ⟨r, 0, none⟩ = some (.slice (some ⟨b, 0, none⟩) M.lasts.length c) := Sm.cells_of h.disk 0 _ rfl
theorem Parts.c1 (h : Parts w r m b c g F M) : w.cell? ⟨r, 1, none⟩ = some (.map (some m)) := Sm.cells_of h.disk 1 _ rfl
theorem Parts.c2 (h : Parts w r m b c g F M) : w.cell? ⟨r, 2, none⟩ = some (.bool M.off) := Sm.cells_of h.disk 2 _ rfl
theorem Parts.c3 (h : Parts w r m b c g F M) : w.cell? ⟨r, 3, none⟩ = some (.int .i64 M.fuse) := Sm.cells_of h.disk 3 _ rfl
theorem Parts.free (h : Parts w r m b c g F M) (i : Nat) : w.frozen? ⟨r, i, none⟩ = false := Sm.free_of h.disk i
theorem Parts.fuse (h : Parts w r m b c g F M) {f : Int} (hf : -9223372036854775808 ≤ f ∧ f ≤ 9223372036854775807) : Parts (w.setCell ⟨r, 3, none⟩ (.int .i64 f)) r m b c g F { M with fuse := f } :=
  h.set (off := M.off) (Sm.grown_set (Sm.grown_refl w (some r)) 3 _) hf (by rw [Sm.heap_set h.disk]; rfl)
theorem Parts.power (h : Parts w r m b c g F M) (o : Bool) : Parts (w.setCell ⟨r, 2, none⟩ (.bool o)) r m b c g F { M with off := o } :=
  h.set (fuse := M.fuse) (Sm.grown_set (Sm.grown_refl w (some r)) 2 _) h.ok.fuse (by rw [Sm.heap_set h.disk]; rfl)
end
end Dk

set_option maxRecDepth 100000 in
theorem dkNone_not {w : World} {r m : Nat} (h : w.cell? ⟨r, 1, none⟩ = some (.map (some m))) :
    Calls Try.prog 43 #[.pointer (some ⟨r, 0, none⟩)] w fun e w' => e = .returned (.bool false) ∧ w = w' := by
  have hq : ∀ (w : World) (r : Option Nat), (binOp .eql 74 (.map r) (.map none)).run Try.prog w = .ok (.bool r.isNone) w := fun w r => run_eql_map_nil w _ _ _ r Try.underlying74
  go_enter Try.func43, Try.ntmps43
  go_wp2
  go_ret
  exact ⟨rfl, rfl⟩
set_option maxRecDepth 100000 in
theorem dkNone_is {w : World} {v : Value} (h : Dk.None w v) :
    Calls Try.prog 43 #[v] w fun e w' => e = .returned (.bool true) ∧ w = w' := by
  have hq : ∀ (w : World) (r : Option Nat), (binOp .eql 74 (.map r) (.map none)).run Try.prog w = .ok (.bool r.isNone) w := fun w r => run_eql_map_nil w _ _ _ r Try.underlying74
  rcases h with rfl | ⟨b, rfl, h⟩
  · go_enter Try.func43, Try.ntmps43
    go_wp2
    go_ret
    exact ⟨rfl, rfl⟩
  · have c1 := Sm.cells_of h 1 _ (show Dk.bareCells[1]? = some (.map none) from rfl)
    clear h
    go_enter Try.func43, Try.ntmps43
    go_wp2
    go_ret
    exact ⟨rfl, rfl⟩
set_option maxRecDepth 100000 in
theorem dkReady_any {w : World} {r m b c : Nat} {g : Nat → Nat} {F : Nat → Option Value} {M : Dk.Md} (h : Dk.Parts w r m b c g F M) :
    Calls Try.prog 54 #[.pointer (some ⟨r, 0, none⟩)] w fun e w' => e = .returned (.int .i64 (if M.off then 14 else 0)) ∧ w = w' := by
  have NO := Lib.hid (dkNone_not h.c1)
  have c2 := h.c2
  clear h
  cases hoff : M.off
  · rw [hoff] at c2
    go_enter Try.func54, Try.ntmps54
    go_wp2_with (go_at_call 43; refine NO.out.mono ?_; rintro e w' ⟨rfl, rfl⟩)
    go_ret
    exact ⟨rfl, rfl⟩
  · rw [hoff] at c2
    go_enter Try.func54, Try.ntmps54
    go_wp2_with (go_at_call 43; refine NO.out.mono ?_; rintro e w' ⟨rfl, rfl⟩)
    go_ret
    exact ⟨rfl, rfl⟩
set_option maxRecDepth 100000 in
theorem dkReady_none {w : World} {v : Value} (h : Dk.None w v) :
    Calls Try.prog 54 #[v] w fun e w' => e = .returned (.int .i64 2) ∧ w = w' := by
  have NO := Lib.hid (dkNone_is h)
  clear h
  go_enter Try.func54, Try.ntmps54
  go_wp2_with (go_at_call 43; refine NO.out.mono ?_; rintro e w' ⟨rfl, rfl⟩)
  go_ret
  exact ⟨rfl, rfl⟩
set_option maxRecDepth 100000 in
theorem dkHas_any {w : World} {r m b c : Nat} {g : Nat → Nat} {F : Nat → Option Value} {M : Dk.Md} (h : Dk.Parts w r m b c g F M) (i : Int) :
    Calls Try.prog 55 #[.pointer (some ⟨r, 0, none⟩), .int .i64 i] w fun e w' => e = .returned (.bool (Dk.there M i)) ∧ w = w' := by
  have c0 := h.c0
  have hn := h.ok.n
  clear h
  by_cases hi : 0 ≤ i
  · by_cases hl : i < (M.lasts.length : Int)
    · have e : Dk.there M i = true := Dk.there_iff.2 ⟨hi, hl⟩
      rw [e]; clear e
      go_enter Try.func55, Try.ntmps55
      go_wp2
      go_ret
      exact ⟨by simp, rfl⟩
    · have e : Dk.there M i = false := by simp [Dk.there, hl]
      rw [e]; clear e
      go_enter Try.func55, Try.ntmps55
      go_wp2
      go_ret
      exact ⟨by simp, rfl⟩
  · have e : Dk.there M i = false := by simp [Dk.there, hi]
    rw [e]; clear e
    go_enter Try.func55, Try.ntmps55
    go_wp2
    go_ret
    exact ⟨rfl, rfl⟩
set_option maxRecDepth 100000 in
theorem dkSectors_any {w : World} {r m b c : Nat} {g : Nat → Nat} {F : Nat → Option Value} {M : Dk.Md} (h : Dk.Parts w r m b c g F M) :
    Calls Try.prog 30 #[.pointer (some ⟨r, 0, none⟩)] w fun e w' => e = .returned (.int .i64 (M.lasts.length : Nat)) ∧ w = w' := by
  have NO := Lib.hid (dkNone_not h.c1)
  have c0 := h.c0
  have hn := h.ok.n
  clear h
  go_enter Try.func30, Try.ntmps30
  go_wp2_with (go_at_call 43; refine NO.out.mono ?_; rintro e w' ⟨rfl, rfl⟩)
  go_ret
  exact ⟨rfl, rfl⟩
set_option maxRecDepth 100000 in
theorem dkSectors_none {w : World} {v : Value} (h : Dk.None w v) :
    Calls Try.prog 30 #[v] w fun e w' => e = .returned (.int .i64 0) ∧ w = w' := by
  have NO := Lib.hid (dkNone_is h)
  clear h
  go_enter Try.func30, Try.ntmps30
  go_wp2_with (go_at_call 43; refine NO.out.mono ?_; rintro e w' ⟨rfl, rfl⟩)
  go_ret
  exact ⟨rfl, rfl⟩
set_option maxRecDepth 100000 in
theorem dkFuse_parts {w : World} {r m b c : Nat} {g : Nat → Nat} {F : Nat → Option Value} {M : Dk.Md} (h : Dk.Parts w r m b c g F M) (n : Int) (hn : -9223372036854775808 ≤ n ∧ n ≤ 9223372036854775807) :
    Calls Try.prog 15 #[.pointer (some ⟨r, 0, none⟩), .int .i64 n] w fun e w' => e = .returned (.tuple #[]) ∧ Dk.Parts w' r m b c g F { M with fuse := n } ∧ w.grownBy w' (some r) := by
  have NO := Lib.hid (dkNone_not h.c1)
  have c3 := h.c3
  have f3 := h.free 3
  have P := Lib.hid (h.fuse hn)
  clear h
  go_enter Try.func15, Try.ntmps15
  go_wp2_with (go_at_call 43; refine NO.out.mono ?_; rintro e w' ⟨rfl, rfl⟩)
  go_end0
  exact ⟨rfl, P.out, Sm.grown_set (Sm.grown_refl w (some r)) 3 _⟩
set_option maxRecDepth 100000 in
theorem dkFuse_none {w : World} {v : Value} (h : Dk.None w v) (n : Int) :
    Calls Try.prog 15 #[v, .int .i64 n] w fun e w' => e = .returned (.tuple #[]) ∧ w = w' := by
  have NO := Lib.hid (dkNone_is h)
  clear h
  go_enter Try.func15, Try.ntmps15
  go_wp2_with (go_at_call 43; refine NO.out.mono ?_; rintro e w' ⟨rfl, rfl⟩)
  go_end0
  exact ⟨rfl, rfl⟩
set_option maxRecDepth 100000 in
theorem dkAct_any {w : World} {r m b c : Nat} {g : Nat → Nat} {F : Nat → Option Value} {M : Dk.Md} (h : Dk.Parts w r m b c g F M) :
    Calls Try.prog 56 #[.pointer (some ⟨r, 0, none⟩)] w fun e w' => e = .returned (.int .i64 (if (Dk.act M).2 then 0 else 14)) ∧ Dk.Parts w' r m b c g F (Dk.act M).1 ∧ w.grownBy w' (some r) ∧ w'.heap.size = w.heap.size := by
  have c2 := h.c2
  have c3 := h.c3
  have f2 := h.free 2
  have f3 := h.free 3
  have hf := h.ok.fuse
  by_cases h0 : M.fuse = 0
  · have e : Dk.act M = ({ M with off := true }, false) := by simp [Dk.act, h0]
    rw [e]; clear e
    have P := Lib.hid (h.power true)
    clear h
    rw [h0] at c3
    go_enter Try.func56, Try.ntmps56
    go_wp2
    go_ret
    exact ⟨rfl, by have := P.out; rw [h0] at this; exact this, Sm.grown_set (Sm.grown_refl w (some r)) 2 _, by simp⟩
  · by_cases hp : M.fuse > 0
    · have e : Dk.act M = ({ M with fuse := M.fuse - 1 }, true) := by simp [Dk.act, h0, hp]
      rw [e]; clear e
      have P := Lib.hid (h.fuse (f := M.fuse - 1) (by omega))
      clear h
      generalize M.fuse = x at *
      have hx : IntKind.i64.wrap (x - 1) = x - 1 := by simp [IntKind.wrap, IntKind.bits, IntKind.signed]; omega
      go_enter Try.func56, Try.ntmps56
      go_wp2
      go_ret
      exact ⟨rfl, P.out, Sm.grown_set (Sm.grown_refl w (some r)) 3 _, by simp⟩
    · have e : Dk.act M = (M, true) := by simp [Dk.act, h0, hp]
      rw [e]; clear e
      have P := Lib.hid h
      clear h
      generalize M.fuse = x at *
      go_enter Try.func56, Try.ntmps56
      go_wp2
      go_ret
      exact ⟨rfl, P.out, Sm.grown_refl _ _, rfl⟩
end Go.Proofs.Ytipfjccmceaclaa
