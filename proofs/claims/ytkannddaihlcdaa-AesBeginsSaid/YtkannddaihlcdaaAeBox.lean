/-
  What of and column do, where S lies in a row; and newBox, that makes it.
-/
import Derived.Test.YtkannddaihlcdaaMem
import Derived.Test.YtkannddaihlcdaaAeWords
namespace Go.Proofs.Ytkannddaihlcdaa
open Go.RowKit
namespace Ae
/-- S lies at the head of block b. -/
def BoxAt (w : World) (b : Nat) : Prop := ∀ i, i < 256 → w.cell? ⟨b, i, none⟩ = some (.int .u8 (sub1 i : Nat))
/-- Four words lie at the head of block b. -/
def FourAt (w : World) (b : Nat) (l : List Nat) : Prop := ∀ i, i < 4 → w.cell? ⟨b, i, none⟩ = some (.int .u32 (l.getD i 0 : Nat))
end Ae

set_option maxHeartbeats 1000000 in
theorem of_any {w : World} {b : Nat} (hS : Ae.BoxAt w b) (x : Nat) (hx : x < 4294967296) :
    Calls Try.prog 35 #[.pointer (some ⟨b, 0, none⟩), .int .u32 x] w fun e w' => e = .returned (.int .u32 (Ae.subW x : Nat)) ∧ ∃ n, w' = w.drewN n := by
  have B0 : Hid (∀ wx : World, Calls Try.prog 29 #[.int .u32 x, .int .i64 0] wx fun e w' => e = .returned (.int .u8 (Ae.byteAt x 0 : Nat)) ∧ wx = w') := fun wx => byteAt_any x 0 hx (by decide) wx
  have B1 : Hid (∀ wx : World, Calls Try.prog 29 #[.int .u32 x, .int .i64 1] wx fun e w' => e = .returned (.int .u8 (Ae.byteAt x 1 : Nat)) ∧ wx = w') := fun wx => byteAt_any x 1 hx (by decide) wx
  have B2 : Hid (∀ wx : World, Calls Try.prog 29 #[.int .u32 x, .int .i64 2] wx fun e w' => e = .returned (.int .u8 (Ae.byteAt x 2 : Nat)) ∧ wx = w') := fun wx => byteAt_any x 2 hx (by decide) wx
  have B3 : Hid (∀ wx : World, Calls Try.prog 29 #[.int .u32 x, .int .i64 3] wx fun e w' => e = .returned (.int .u8 (Ae.byteAt x 3 : Nat)) ∧ wx = w') := fun wx => byteAt_any x 3 hx (by decide) wx
  have s0 := hS (Ae.byteAt x 0) (Ae.byteAt_lt _ _)
  have s1 := hS (Ae.byteAt x 1) (Ae.byteAt_lt _ _)
  have s2 := hS (Ae.byteAt x 2) (Ae.byteAt_lt _ _)
  have s3 := hS (Ae.byteAt x 3) (Ae.byteAt_lt _ _)
  have l0 := Ae.byteAt_lt x 0
  have l1 := Ae.byteAt_lt x 1
  have l2 := Ae.byteAt_lt x 2
  have l3 := Ae.byteAt_lt x 3
  have W := Lib.hid (word_any (Ae.sub1 (Ae.byteAt x 0)) (Ae.sub1 (Ae.byteAt x 1)) (Ae.sub1 (Ae.byteAt x 2)) (Ae.sub1 (Ae.byteAt x 3)) (Ae.sub1_lt _) (Ae.sub1_lt _) (Ae.sub1_lt _) (Ae.sub1_lt _))
  have HO : Hid (Ae.subW x = Sm.be4 (Ae.sub1 (Ae.byteAt x 0)) (Ae.sub1 (Ae.byteAt x 1)) (Ae.sub1 (Ae.byteAt x 2)) (Ae.sub1 (Ae.byteAt x 3))) := rfl
  generalize Ae.sub1 (Ae.byteAt x 0) = y0 at *
  generalize Ae.sub1 (Ae.byteAt x 1) = y1 at *
  generalize Ae.sub1 (Ae.byteAt x 2) = y2 at *
  generalize Ae.sub1 (Ae.byteAt x 3) = y3 at *
  generalize Ae.byteAt x 0 = x0 at *
  generalize Ae.byteAt x 1 = x1 at *
  generalize Ae.byteAt x 2 = x2 at *
  generalize Ae.byteAt x 3 = x3 at *
  have i0 : (x0 : Int) < 256 := by omega
  have i1 : (x1 : Int) < 256 := by omega
  have i2 : (x2 : Int) < 256 := by omega
  have i3 : (x3 : Int) < 256 := by omega
  clear hS l0 l1 l2 l3
  go_enter Try.func35, Try.ntmps35
  go_wp2_with fail
  go_quiet ((first
    | (go_at_call 29; with_reducible exact Sm.q_one (B0.out _))
    | (go_at_call 29; with_reducible exact Sm.q_more (B0.out _))
    | (go_at_call 29; with_reducible exact Sm.q_one (B1.out _))
    | (go_at_call 29; with_reducible exact Sm.q_more (B1.out _))
    | (go_at_call 29; with_reducible exact Sm.q_one (B2.out _))
    | (go_at_call 29; with_reducible exact Sm.q_more (B2.out _))
    | (go_at_call 29; with_reducible exact Sm.q_one (B3.out _))
    | (go_at_call 29; with_reducible exact Sm.q_more (B3.out _))
    | (go_at_call 28; with_reducible exact Sm.q_one (W.out _))
    | (go_at_call 28; with_reducible exact Sm.q_more (W.out _))))
  go_wp2
  go_ret
  exact ⟨by rw [HO.out]; rfl, _, rfl⟩

set_option maxHeartbeats 2000000 in
theorem column_any {w : World} {b N : Nat} {l : List Nat} (hS : Ae.BoxAt w b) (h4 : Ae.FourAt w N l) (hl : ∀ x ∈ l, x < 4294967296) (i : Nat) (hi : i < 4) :
    Calls Try.prog 27 #[.pointer (some ⟨b, 0, none⟩), .pointer (some ⟨N, 0, none⟩), .int .i64 i] w fun e w' => e = .returned (.int .u32 (Ae.col l i : Nat)) ∧ ∃ n, w' = w.drewN n := by
  have c0 := h4 i hi
  have c1 := h4 ((i + 1) % 4) (Nat.mod_lt _ (by decide))
  have c2 := h4 ((i + 2) % 4) (Nat.mod_lt _ (by decide))
  have c3 := h4 ((i + 3) % 4) (Nat.mod_lt _ (by decide))
  have HO : Hid (Ae.col l i = Ae.subW (Sm.be4 (Ae.byteAt (l.getD i 0) 0) (Ae.byteAt (l.getD ((i + 1) % 4) 0) 1) (Ae.byteAt (l.getD ((i + 2) % 4) 0) 2) (Ae.byteAt (l.getD ((i + 3) % 4) 0) 3))) := rfl
  have l0 := Sm.getD_lt hl i
  have l1 := Sm.getD_lt hl ((i + 1) % 4)
  have l2 := Sm.getD_lt hl ((i + 2) % 4)
  have l3 := Sm.getD_lt hl ((i + 3) % 4)
  generalize l.getD i 0 = x0 at *
  generalize l.getD ((i + 1) % 4) 0 = x1 at *
  generalize l.getD ((i + 2) % 4) 0 = x2 at *
  generalize l.getD ((i + 3) % 4) 0 = x3 at *
  have B := Lib.hid (fun (x : Nat) (hx : x < 4294967296) (i : Nat) (hi : i < 4) (wx : World) => byteAt_any x i hx hi wx)
  have W := Lib.hid (word_any (Ae.byteAt x0 0) (Ae.byteAt x1 1) (Ae.byteAt x2 2) (Ae.byteAt x3 3) (Ae.byteAt_lt _ _) (Ae.byteAt_lt _ _) (Ae.byteAt_lt _ _) (Ae.byteAt_lt _ _))
  have OF : Hid (∀ n, Calls Try.prog 35 #[.pointer (some ⟨b, 0, none⟩), .int .u32 (Sm.be4 (Ae.byteAt x0 0) (Ae.byteAt x1 1) (Ae.byteAt x2 2) (Ae.byteAt x3 3) : Nat)] (w.drewN n) fun e w' => e = .returned (.int .u32 (Ae.col l i : Nat)) ∧ ∃ m, w' = w.drewN m) := fun n => by
    rw [HO.out]
    exact (of_any (w := w.drewN n) hS _ (Sm.be4_lt (Ae.byteAt_lt _ _) (Ae.byteAt_lt _ _) (Ae.byteAt_lt _ _) (Ae.byteAt_lt _ _))).mono fun e w' ⟨h1, m, h2⟩ => ⟨h1, n + m, by rw [h2, World.drewN_drewN]⟩
  clear hS h4 hl HO
  generalize Ae.col l i = r at *
  obtain rfl | rfl | rfl | rfl : i = 0 ∨ i = 1 ∨ i = 2 ∨ i = 3 := by omega
  all_goals
    simp only [Nat.reduceAdd, Nat.reduceMod] at c1 c2 c3
    go_enter Try.func27, Try.ntmps27
    go_wp2_with fail
    go_quiet (fail)
    go_wp2_with fail
    refine (B.out _ l0 0 (by decide) _).mono ?_
    rintro e w' ⟨rfl, rfl⟩
    go_wp2_with fail
    refine (B.out _ l1 1 (by decide) _).mono ?_
    rintro e w' ⟨rfl, rfl⟩
    go_wp2_with fail
    refine (B.out _ l2 2 (by decide) _).mono ?_
    rintro e w' ⟨rfl, rfl⟩
    go_wp2_with fail
    refine (B.out _ l3 3 (by decide) _).mono ?_
    rintro e w' ⟨rfl, rfl⟩
    go_wp2_with fail
    refine (W.out _).mono ?_
    rintro e w' ⟨rfl, rfl⟩
    go_wp2_with fail
    refine (OF.out _).mono ?_
    rintro e w' ⟨rfl, m, rfl⟩
    go_wp2
    go_ret
    exact ⟨rfl, m, rfl⟩
end Go.Proofs.Ytkannddaihlcdaa
