/-
  net's New; Parted, Len, Part; and what each function of none does.
-/
import Derived.Test.YtimbcmcmidnlfaaNtOwn
namespace Go.Proofs.Ytimbcmcmidnlfaa
open Go.RowKit
namespace Nt
theorem Own.cell0 {B : Nat} {w0 w : World} {r : Nat} {L : Nat → Prop} {M : Md} (h : Own B w0 w r L M) : w.cell? ⟨r, 0, none⟩ = some (.bool true) := by
  obtain ⟨A, c, hn, _⟩ := h.netBlock
  exact Sm.cells_of hn 0 _ rfl
end Nt
set_option maxRecDepth 100000 in
theorem ntNew_any {B : Nat} {w0 w : World} (hb : Below B w0 w) (hB : B ≤ w0.heap.size) : Calls Try.prog 10 #[] w fun e w' => e = .returned (.pointer (some ⟨w.heap.size, 0, none⟩)) ∧ Nt.Own B w0 w' w.heap.size Nt.Non Nt.new ∧ Below w.heap.size w w' := by
  have b1 : Below w.heap.size w (w.alloc (.cells #[.bool true, .bool false, .slice none 0 0, .int .i64 0, .int .i64 0] 46)) := (Below.refl _ w).alloc (Nat.le_refl _) _
  have g1 := heap_alloc_new w (.cells #[.bool true, .bool false, .slice none 0 0, .int .i64 0, .int .i64 0] 46)
  have H : Hid (Nt.Own B w0 (w.alloc (.cells #[.bool true, .bool false, .slice none 0 0, .int .i64 0, .int .i64 0] 46)) w.heap.size Nt.Non Nt.new) :=
    ⟨⟨Nt.ok_new, ⟨_, g1, World.ownsRow_nil _ _ _ _, fun g hg => by cases hg⟩, Nat.le_trans hB hb.size⟩, hB, hb.trans (b1.mono (Nat.le_trans hB hb.size)), fun k hk => hk.elim⟩
  have B1 := Lib.hid b1
  clear b1 g1 hb hB
  go_enter Try.func10, Try.ntmps10
  go_wp2
  go_ret
  exact ⟨rfl, H.out, B1.out⟩
section
variable {B : Nat} {w0 w : World} {r : Nat} {L : Nat → Prop} {M : Nt.Md}
set_option maxRecDepth 100000 in
theorem ntLen_any (h : Nt.Own B w0 w r L M) : Calls Try.prog 14 #[.pointer (some ⟨r, 0, none⟩)] w fun e w' => e = .returned (.int .i64 (M.row.length : Nat)) ∧ w = w' := by
  have NO := Lib.hid (ntNone_not h.cell0)
  obtain ⟨A, c, hn, -⟩ := h.netBlock
  have c2 := Sm.cells_of hn 2 _ rfl
  clear h hn
  go_enter Try.func14, Try.ntmps14
  go_wp2_with (go_at_call 31; refine NO.out.mono ?_; rintro e w' ⟨rfl, rfl⟩)
  go_ret
  exact ⟨rfl, rfl⟩
set_option maxRecDepth 100000 in
theorem ntParted_any (h : Nt.Own B w0 w r L M) : Calls Try.prog 20 #[.pointer (some ⟨r, 0, none⟩)] w fun e w' => e = .returned (.bool M.parted) ∧ w = w' := by
  have NO := Lib.hid (ntNone_not h.cell0)
  obtain ⟨A, c, hn, -⟩ := h.netBlock
  have c1 := Sm.cells_of hn 1 _ rfl
  clear h hn
  go_enter Try.func20, Try.ntmps20
  go_wp2_with (go_at_call 31; refine NO.out.mono ?_; rintro e w' ⟨rfl, rfl⟩)
  go_ret
  exact ⟨rfl, rfl⟩
theorem Nt.Own.set (h : Nt.Own B w0 w r L M) {M' : Nt.Md} (hok : M'.Ok) {v : Value} (hv : Nt.PksAt w B v M'.row) (hL : ∀ g, v.ownBlock = some g → ¬ L g) {w' : World} (hg : w'.heap[r]? = some (.cells (Nt.cells M' v) 46 (0, 0))) (k : w.grownBy w' (some r)) : Nt.Step B w0 w w' r L M' := by
  have hr : ∀ g, v.ownBlock = some g → w'.heap[g]? = w.heap[g]? := fun g e => by
    obtain ⟨_, cs, e2⟩ := Nt.own_blk hv e
    refine k.block g (Sm.lt_of e2) fun e3 => ?_
    have e3 := Option.some.inj e3
    subst e3
    obtain ⟨v0, h1, _⟩ := h.net.net
    exact Nt.type_ne e2 h1 Nt.net_packet rfl
  refine ⟨⟨⟨hok, ⟨v, hg, ⟨hv.1, hv.2.imp id fun ⟨g, cap, cur, e, hb, e2, rest⟩ => ⟨g, cap, cur, e, hb, (hr g (by rw [e]; rfl)).trans e2, rest⟩⟩, hL⟩, h.net.high⟩, h.base, ?_, fun q hq => Nat.lt_of_lt_of_le (h.old q hq) k.size⟩, k⟩
  have hh := h.net.high
  exact h.below.trans ⟨k.os, k.tape, k.output, k.size, fun i hi => k.block i (by have := h.size; omega) (fun e => by have := Option.some.inj e; omega)⟩
theorem Nt.Own.remade (h : Nt.Own B w0 w r L M) {M' : Nt.Md} (hok : M'.Ok) {v : Value} {w' : World} (hP8 : Nt.PksAt w' B v M'.row) (hL : ∀ g, v.ownBlock = some g → ¬ L g) (hg : w'.heap[r]? = some (.cells (Nt.cells M' v) 46 (0, 0))) (k : w.grownBy w' (some r)) : Nt.Step B w0 w w' r L M' := by
  refine ⟨⟨⟨hok, ⟨v, hg, hP8, hL⟩, h.net.high⟩, h.base, ?_, fun q hq => Nat.lt_of_lt_of_le (h.old q hq) k.size⟩, k⟩
  have hh := h.net.high
  exact h.below.trans ⟨k.os, k.tape, k.output, k.size, fun i hi => k.block i (by have := h.size; omega) (fun e => by have := Option.some.inj e; omega)⟩
set_option maxRecDepth 100000 in
theorem ntPart_any (h : Nt.Own B w0 w r L M) (on : Bool) : Calls Try.prog 16 #[.pointer (some ⟨r, 0, none⟩), .bool on] w fun e w' => e = .returned (.tuple #[]) ∧ Nt.Step B w0 w w' r L { M with parted := on } := by
  have NO := Lib.hid (ntNone_not h.cell0)
  obtain ⟨A, c, hn, hp, hL, -⟩ := h.netBlock
  have c1 := Sm.cells_of hn 1 _ rfl
  have f1 := Sm.free_of hn 1
  have ST := Lib.hid (h.set (M' := { M with parted := on }) (h.net.ok.part on) hp hL (Sm.heap_set hn 1 (.bool on)) (Sm.grown_set (Sm.grown_refl w (some r)) 1 (.bool on)))
  clear h hn hp hL
  go_enter Try.func16, Try.ntmps16
  go_wp2_with (go_at_call 31; refine NO.out.mono ?_; rintro e w' ⟨rfl, rfl⟩)
  go_end0
  exact ⟨rfl, ST.out⟩
end
section
variable {w : World} {v : Value}
set_option maxRecDepth 100000 in
theorem ntLen_none (h : Nt.None w v) : Calls Try.prog 14 #[v] w fun e w' => e = .returned (.int .i64 0) ∧ w = w' := by
  have NO := Lib.hid (ntNone_is h)
  clear h
  go_enter Try.func14, Try.ntmps14
  go_wp2_with (go_at_call 31; refine NO.out.mono ?_; rintro e w' ⟨rfl, rfl⟩)
  go_ret
  exact ⟨rfl, rfl⟩
set_option maxRecDepth 100000 in
theorem ntParted_none (h : Nt.None w v) : Calls Try.prog 20 #[v] w fun e w' => e = .returned (.bool false) ∧ w = w' := by
  have NO := Lib.hid (ntNone_is h)
  clear h
  go_enter Try.func20, Try.ntmps20
  go_wp2_with (go_at_call 31; refine NO.out.mono ?_; rintro e w' ⟨rfl, rfl⟩)
  go_ret
  exact ⟨rfl, rfl⟩
set_option maxRecDepth 100000 in
theorem ntPart_none (h : Nt.None w v) (on : Bool) : Calls Try.prog 16 #[v, .bool on] w fun e w' => e = .returned (.tuple #[]) ∧ w = w' := by
  have NO := Lib.hid (ntNone_is h)
  clear h
  go_enter Try.func16, Try.ntmps16
  go_wp2_with (go_at_call 31; refine NO.out.mono ?_; rintro e w' ⟨rfl, rfl⟩)
  go_end0
  exact ⟨rfl, rfl⟩
set_option maxRecDepth 100000 in
theorem ntAll_none (h : Nt.None w v) : Calls Try.prog 19 #[v] w fun e w' => e = .returned (.slice none 0 0) ∧ w = w' := by
  have NO := Lib.hid (ntNone_is h)
  clear h
  go_enter Try.func19, Try.ntmps19
  go_wp2_with (go_at_call 31; refine NO.out.mono ?_; rintro e w' ⟨rfl, rfl⟩)
  go_ret
  exact ⟨rfl, rfl⟩
set_option maxRecDepth 100000 in
theorem ntLose_none (h : Nt.None w v) (i : Int) : Calls Try.prog 15 #[v, .int .i64 i] w fun e w' => e = .returned (.int .i64 2) ∧ w = w' := by
  have NO := Lib.hid (ntFind_none h i)
  clear h
  go_enter Try.func15, Try.ntmps15
  go_wp2_with (go_at_call 34; refine NO.out.mono ?_; rintro e w' ⟨rfl, rfl⟩)
  go_ret
  exact ⟨rfl, rfl⟩
set_option maxRecDepth 100000 in
theorem ntDup_none (h : Nt.None w v) (i : Int) : Calls Try.prog 12 #[v, .int .i64 i] w fun e w' => e = .returned (.int .i64 2) ∧ w = w' := by
  have NO := Lib.hid (ntFind_none h i)
  clear h
  go_enter Try.func12, Try.ntmps12
  go_wp2_with (go_at_call 34; refine NO.out.mono ?_; rintro e w' ⟨rfl, rfl⟩)
  go_ret
  exact ⟨rfl, rfl⟩
end
end Go.Proofs.Ytimbcmcmidnlfaa
