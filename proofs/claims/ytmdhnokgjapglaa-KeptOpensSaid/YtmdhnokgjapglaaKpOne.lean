/-
  Texts that belong together, laid into one.
-/
import Derived.Test.YtmdhnokgjapglaaPtOne
import Derived.Test.YtmdhnokgjapglaaKpMix
import Derived.Test.YtmdhnokgjapglaaPtRead
import Derived.Test.YtmdhnokgjapglaaPtWrite
import Derived.Test.YtmdhnokgjapglaaPtSave
import Derived.Laws.ResultCell
/-
  What kept's held tells of a slot.
-/
namespace Go.Proofs.Ytmdhnokgjapglaa
open Go.RowKit
namespace Kp
theorem info_record : (Try.prog.info? 68).map (fun i => (i.zero, i.size)) = some (some (.agg #[.string ⟨#[]⟩, .int .u64 0]), 2) := by kernel_rfl
theorem two_heap {w : World} {N : Nat} {x y : Value} {T : TypeId} (h : w.heap[N]? = some (.cells #[x, y] T (0, 0))) (a b : Value) : ((w.setCell ⟨N, 0, none⟩ a).setCell ⟨N, 1, none⟩ b).heap[N]? = some (.cells #[a, b] T (0, 0)) := by
  rw [Sm.heap_set (Sm.heap_set h 0 a) 1 b]; rfl
theorem two_below {B N : Nat} {w w' : World} (h : Below B w w') (hN : B ≤ N) (a b : Value) : Below B w ((w'.setCell ⟨N, 0, none⟩ a).setCell ⟨N, 1, none⟩ b) :=
  (h.setCell (p := ⟨N, 0, none⟩) hN a).setCell (p := ⟨N, 1, none⟩) hN b
theorem two_other {N k : Nat} (w : World) (a b : Value) (h : k ≠ N) : ((w.setCell ⟨N, 0, none⟩ a).setCell ⟨N, 1, none⟩ b).heap[k]? = w.heap[k]? :=
  (Below.heap_setCell _ ⟨N, 1, none⟩ b k h).trans (Below.heap_setCell _ ⟨N, 0, none⟩ a k h)
theorem held_0 {l : List (List UInt8)} (h : gen (l.getD 0 []) = 0) : held l = ([], 0) := by rw [held, if_pos h]
theorem held_some {l : List (List UInt8)} {t : List UInt8} (h0 : gen (l.getD 0 []) ≠ 0) (h : Pt.text 1 48 400 l = some t) : held l = (t, gen (l.getD 0 [])) := by
  rw [Pt.kp_held, if_neg h0, h]
theorem held_bad {l : List (List UInt8)} (h : Pt.text 1 48 400 l = none) : held l = ([], 0) := by
  rw [Pt.kp_held, h]
  split <;> rfl
end Kp
set_option maxRecDepth 100000 in
set_option maxHeartbeats 500000 in
theorem kpHeld_any (w : World) (A : Option Addr) (c : Nat) (l : List (List UInt8)) (h : Kp.StrsAt w A l) (hl : l.length = 10) (hc10 : 10 ≤ c) (hb : ∀ b ∈ l, Kp.Bod b) :
    Calls Try.prog 59 #[.slice A 10 c] w fun e w' => e = .returned (.agg #[.string ⟨(Kp.held l).1.toArray⟩, .int .u64 ((Kp.held l).2 : Nat)]) ∧ Below w.heap.size w w' := by
  obtain ⟨g, o, rfl, hg, hc⟩ := h
  have H0 : Hid (Kp.StrsAt w (some ⟨g, o, none⟩) l) := ⟨g, o, rfl, hg, hc⟩
  have c0 := hc 0 (by omega)
  have hz1 := (zero_of_info Kp.info_record).1
  have b1 : Below w.heap.size w (w.alloc (.cells #[.string ⟨#[]⟩, .int .u64 0] 68)) := (Below.refl _ w).alloc (Nat.le_refl _) _
  have g1 := heap_alloc_new w (.cells #[.string ⟨#[]⟩, .int .u64 0] 68)
  have c0' := (b1.cell (p := ⟨g, o + 0, none⟩) hg).trans c0
  rw [Nat.add_zero] at c0'
  have GE : Hid (∀ wx : World, Calls Try.prog 58 #[.string ⟨(l.getD 0 []).toArray⟩, .int .i64 0] wx fun e w' => e = .returned (.int .u64 (Pt.number 0 (l.getD 0 []) : Nat)) ∧ wx = w') := fun wx => ptNumber_any wx ⟨(l.getD 0 []).toArray⟩ 0 (by decide) (Kp.bod_size (Kp.bod_get hb 0))
  have TX : Hid (∀ wx, Below w.heap.size w wx → Calls Try.prog 66 #[.slice (some ⟨g, o, none⟩) 10 c, .int .i64 1, .int .i64 400] wx fun e w' => e = .returned (Pt.says (Pt.text 1 48 400 l)) ∧ Below wx.heap.size wx w') := fun wx hwx => by
    have := ptText_any (k := 1) (n := 48) wx (some ⟨g, o, none⟩) c l 400 (by decide) (by decide) (by decide) (H0.out.below hwx (Nat.le_refl _)) (by omega) (by omega) (by omega) hb
    rw [hl] at this
    exact this
  obtain ⟨x, hx⟩ : ∃ x, x = Pt.number 0 (l.getD 0 []) := ⟨_, rfl⟩
  have hx64 := Pt.number_lt 0 (l.getD 0 [])
  obtain ⟨t0, ht0⟩ : ∃ b : ByteArray, b = ⟨(l.getD 0 []).toArray⟩ := ⟨_, rfl⟩
  rw [← ht0, ← hx] at GE
  rw [← ht0] at c0'
  rw [← hx] at hx64
  have HX : Hid (x = Kp.gen (l.getD 0 [])) := hx
  obtain ⟨T, hT⟩ : ∃ T, T = Pt.text 1 48 400 l := ⟨_, rfl⟩
  rw [← hT] at TX
  have HT := Lib.hid hT
  clear hc c0 hx ht0 hT
  go_enter Try.func59, Try.ntmps59
  go_upto_region 1 with (fail)
  generalize w.alloc (.cells #[.string ⟨#[]⟩, .int .u64 0] 68) = w1 at *
  obtain ⟨N, hNN⟩ : ∃ N, N = w.heap.size := ⟨_, rfl⟩
  rw [← hNN] at b1 g1 TX ⊢
  have HNN := Lib.hid hNN
  clear hNN
  have G1 := Lib.hid g1
  have hlt1 := Sm.lt_of g1
  have B1 := Lib.hid b1
  clear g1
  go_upto_region 2 with (go_at_call 58; refine (GE.out _).mono ?_; rintro e w2 ⟨rfl, rfl⟩)
  by_cases hx0 : x = 0
  · have E := Lib.hid (Kp.held_0 (HX.out.symm.trans hx0))
    subst hx0
    obtain ⟨z, b, TX2⟩ : ∃ z b, Hid (∀ wx, Below N w wx → Calls Try.prog 66 #[.slice (some ⟨g, o, none⟩) 10 c, .int .i64 1, .int .i64 400] wx fun e w' => e = .returned (.tuple #[.string z, .bool b]) ∧ Below wx.heap.size wx w') := ⟨_, _, TX⟩
    clear TX
    go_upto_region 4 with (go_at_call 66; refine (TX2.out _ B1.out).mono ?_; rintro e w3 ⟨rfl, k3⟩)
    have g3 := (k3.block N hlt1).trans G1.out
    have b3 : Below N w w3 := B1.out.trans (k3.mono (Nat.le_of_lt hlt1))
    have d0 := Sm.cells_of g3 0 _ rfl
    have d1 := Sm.cells_of g3 1 _ rfl
    have f0 := Sm.free_of g3 0
    have f1 := Sm.free_of g3 1
    go_wp2_with fail
    exact bodyPost_ret (v := .agg #[.string ⟨#[]⟩, .int .u64 0]) (results_cell_row rfl _ _ N 68 _ (0, 0) _ rfl (Kp.two_heap g3 _ _) Try.underlying68 rfl (by kernel_rfl)) rfl ⟨by rw [E.out]; rfl, by rw [← HNN.out]; exact Kp.two_below b3 (Nat.le_refl _) _ _⟩
  · have hxi : ¬ (x : Int) = 0 := by omega
    have hxb : ((x : Int) == 0) = false := beq_eq_false_iff_ne.2 hxi
    have HX0 : Hid (Kp.gen (l.getD 0 []) ≠ 0) := by show ¬ _; rw [← HX.out]; exact hx0
    cases T with
    | none =>
      have E := Lib.hid (Kp.held_bad HT.out.symm)
      have TX2 : Hid (∀ wx, Below N w wx → Calls Try.prog 66 #[.slice (some ⟨g, o, none⟩) 10 c, .int .i64 1, .int .i64 400] wx fun e w' => e = .returned (.tuple #[.string ⟨#[]⟩, .bool false]) ∧ Below wx.heap.size wx w') := TX
      clear TX
      go_upto_region 4 with (go_at_call 66; refine (TX2.out _ B1.out).mono ?_; rintro e w3 ⟨rfl, k3⟩)
      have g3 := (k3.block N hlt1).trans G1.out
      have b3 : Below N w w3 := B1.out.trans (k3.mono (Nat.le_of_lt hlt1))
      have d0 := Sm.cells_of g3 0 _ rfl
      have d1 := Sm.cells_of g3 1 _ rfl
      have f0 := Sm.free_of g3 0
      have f1 := Sm.free_of g3 1
      go_wp2_with fail
      exact bodyPost_ret (v := .agg #[.string ⟨#[]⟩, .int .u64 0]) (results_cell_row rfl _ _ N 68 _ (0, 0) _ rfl (Kp.two_heap g3 _ _) Try.underlying68 rfl (by kernel_rfl)) rfl ⟨by rw [E.out]; rfl, by rw [← HNN.out]; exact Kp.two_below b3 (Nat.le_refl _) _ _⟩
    | some t =>
      have E := Lib.hid (Kp.held_some HX0.out HT.out.symm)
      obtain ⟨jt, hjt⟩ : ∃ b : ByteArray, b = ⟨t.toArray⟩ := ⟨_, rfl⟩
      have TX2 : Hid (∀ wx, Below N w wx → Calls Try.prog 66 #[.slice (some ⟨g, o, none⟩) 10 c, .int .i64 1, .int .i64 400] wx fun e w' => e = .returned (.tuple #[.string jt, .bool true]) ∧ Below wx.heap.size wx w') := by rw [hjt]; exact TX
      have HJ := Lib.hid hjt
      clear TX hjt
      go_upto_region 5 with (go_at_call 66; refine (TX2.out _ B1.out).mono ?_; rintro e w3 ⟨rfl, k3⟩)
      have g3 := (k3.block N hlt1).trans G1.out
      have b3 : Below N w w3 := B1.out.trans (k3.mono (Nat.le_of_lt hlt1))
      have d0 := Sm.cells_of g3 0 _ rfl
      have d1 := Sm.cells_of g3 1 _ rfl
      have f0 := Sm.free_of g3 0
      have f1 := Sm.free_of g3 1
      go_wp2_with fail
      exact bodyPost_ret (v := .agg #[.string jt, .int .u64 (x : Int)]) (results_cell_row rfl _ _ N 68 _ (0, 0) _ rfl (Kp.two_heap g3 _ _) Try.underlying68 rfl (by kernel_rfl)) rfl ⟨by rw [E.out, HJ.out, HX.out], by rw [← HNN.out]; exact Kp.two_below b3 (Nat.le_refl _) _ _⟩
end Go.Proofs.Ytmdhnokgjapglaa

/-
  What kept's read takes from a disk.
-/
namespace Go.Proofs.Ytmdhnokgjapglaa
open Go.RowKit
namespace Kp
open Dk (lookOf)
def readErr (M : Dk.Md) (a : Int) : Int := if M.off then 14 else if bad (sees M a) then 9 else 0
theorem place_length (f : Nat → List UInt8) : (place f).length = 20 := by simp [place]
theorem place_next (f : Nat → List UInt8) {k : Nat} (h : k < 20) : (place f).take (k + 1) = (place f).take k ++ [(lookOf (f k)).1] := by
  rw [List.take_succ_eq_append_getElem (by rw [place_length]; exact h)]
  simp [place]
theorem bad_at {f : Nat → List UInt8} {k : Nat} (h : k < 20) (h2 : (lookOf (f k)).2 = 2) : bad f = true := by
  rw [bad, List.any_eq_true]
  exact ⟨k, by simpa using h, by simpa using h2⟩
theorem bad_none {f : Nat → List UInt8} (h : ∀ j, j < 20 → (lookOf (f j)).2 ≠ 2) : bad f = false := by
  rw [bad, List.any_eq_false]
  intro j hj
  simpa using h j (by simpa using hj)
theorem place_bod (f : Nat → List UInt8) : ∀ b ∈ place f, Bod b := by
  intro b hb
  simp only [place, List.mem_map, List.mem_range] at hb
  obtain ⟨j, _, rfl⟩ := hb
  exact look_bod _
end Kp
theorem kpRead_any {B : Nat} {w0 w : World} {r : Nat} {fp : Nat → Prop} {M : Dk.Md} (h : Dk.Own B w0 w r fp M) (a : Int) (ha : 0 ≤ a) (hn : a + 20 ≤ M.lasts.length) :
    Calls Try.prog 35 #[.pointer (some ⟨r, 0, none⟩), .int .i64 a, .int .i64 20] w fun e w' => Below w.heap.size w w' ∧ ∃ v, e = .returned (.tuple #[v, .int .i64 (Kp.readErr M a)]) ∧
      (Kp.readErr M a = 0 → ∃ A c, v = .slice A 20 c ∧ 20 ≤ c ∧ Kp.StrsAt w' A (Kp.place (Kp.sees M a))) := ptRead_any h a 20 (by decide) ha hn
end Go.Proofs.Ytmdhnokgjapglaa

/-
  A Kept in a block; what its none and Get tell.
-/
namespace Go.Proofs.Ytmdhnokgjapglaa
open Go.RowKit
namespace Kp
def cells (r : Nat) (K : Md) : Array Value := #[.pointer (some ⟨r, 0, none⟩), .int .i64 K.from_, .string ⟨K.text.toArray⟩, .int .u64 K.gen, .int .i64 K.next, .int .u64 K.seen, .bool K.broken]
/-- A Kept in block k that works on the disk in block r. -/
def At (w : World) (k r : Nat) (K : Md) : Prop := w.heap[k]? = some (.cells (cells r K) 70 (0, 0))
/-- What is no Kept: nil, or one that Open did not make. -/
def None (w : World) (v : Value) : Prop := v = .pointer none ∨ ∃ b, v = .pointer (some ⟨b, 0, none⟩) ∧ w.heap[b]? = some (.cells #[.pointer none, .int .i64 0, .string ⟨#[]⟩, .int .u64 0, .int .i64 0, .int .u64 0, .bool false] 70 (0, 0))
end Kp
set_option maxRecDepth 100000 in
theorem kpNone_at {w : World} {k r : Nat} {K : Kp.Md} (h : Kp.At w k r K) :
    Calls Try.prog 18 #[.pointer (some ⟨k, 0, none⟩)] w fun e w' => e = .returned (.bool false) ∧ w = w' := by
  have c0 := Sm.cells_of h 0 (.pointer (some ⟨r, 0, none⟩)) rfl
  clear h
  go_enter Try.func18, Try.ntmps18
  go_wp2
  go_ret
  exact ⟨rfl, rfl⟩
set_option maxRecDepth 100000 in
theorem kpNone_nil (w : World) : Calls Try.prog 18 #[.pointer none] w fun e w' => e = .returned (.bool true) ∧ w = w' := by
  go_enter Try.func18, Try.ntmps18
  go_wp2
  go_ret
  exact ⟨rfl, rfl⟩
set_option maxRecDepth 100000 in
theorem kpGet_nil (w : World) : Calls Try.prog 12 #[.pointer none] w fun e w' => e = .returned (.tuple #[.string ⟨#[]⟩, .bool false]) ∧ w = w' := by
  have NO := Lib.hid (kpNone_nil w)
  go_enter Try.func12, Try.ntmps12
  go_wp2_with (go_at_call 18; refine NO.out.mono ?_; rintro e w2 ⟨rfl, rfl⟩)
  go_ret2
  exact ⟨rfl, rfl⟩
set_option maxRecDepth 100000 in
theorem kpGet_at {w : World} {k r : Nat} {K : Kp.Md} (h : Kp.At w k r K) (hz : K.gen = 0 → K.text = []) (hl : K.text.length ≤ 400) (hg : K.gen < 18446744073709551616) :
    Calls Try.prog 12 #[.pointer (some ⟨k, 0, none⟩)] w fun e w' => e = .returned (.tuple #[.string ⟨K.text.toArray⟩, .bool (decide (0 < K.gen))]) ∧ Below w.heap.size w w' := by
  have NO := Lib.hid (kpNone_at h)
  have c2 := Sm.cells_of h 2 (.string ⟨K.text.toArray⟩) rfl
  have c3 := Sm.cells_of h 3 (.int .u64 K.gen) rfl
  have hsz : (ByteArray.mk K.text.toArray).size = K.text.length := by simp [ByteArray.size]
  have CL : Hid (∀ wx : World, Calls Try.prog 19 #[.string ⟨K.text.toArray⟩] wx fun e w' => e = .returned (.string ⟨K.text.toArray⟩) ∧ Below wx.heap.size wx w') := fun wx => strings_Clone_any wx _ (by omega)
  obtain ⟨t, ht⟩ : ∃ t : ByteArray, t = ⟨K.text.toArray⟩ := ⟨_, rfl⟩
  rw [← ht] at c2 CL ⊢
  obtain ⟨g, hgg⟩ : ∃ g, g = K.gen := ⟨_, rfl⟩
  have HT := Lib.hid ht
  have HG := Lib.hid hgg
  rw [← hgg] at c3 hg ⊢
  clear h ht hgg hsz
  by_cases h0 : g = 0
  · subst h0
    have htn : t = ⟨#[]⟩ := by rw [HT.out, hz HG.out.symm]
    go_enter Try.func12, Try.ntmps12
    go_wp2_with (go_at_call 18; refine NO.out.mono ?_; rintro e w2 ⟨rfl, rfl⟩)
    go_ret2
    exact ⟨by rw [htn]; rfl, Below.refl _ _⟩
  · have hgi : ¬ (g : Int) = 0 := by omega
    have hgb : ((g : Int) == 0) = false := beq_eq_false_iff_ne.2 hgi
    have hd : decide (0 < g) = true := decide_eq_true (by omega)
    rw [hd]
    go_enter Try.func12, Try.ntmps12
    go_wp2_with (first
      | (go_at_call 18; refine NO.out.mono ?_; rintro e w2 ⟨rfl, rfl⟩)
      | (go_at_call 19; refine (CL.out _).mono ?_; rintro e w3 ⟨rfl, k3⟩))
    go_ret2
    exact ⟨rfl, k3⟩
end Go.Proofs.Ytmdhnokgjapglaa

/-
  What kept's find tells of a place.
-/
namespace Go.Proofs.Ytmdhnokgjapglaa
open Go.RowKit
namespace Kp
theorem size_record {n : Nat} (h : n = 2) : (Try.prog.info? 68).map (·.size) = some n := by subst h; kernel_rfl
/-- What a region that allots records has made so far. -/
structure Fi (w1 wx : World) (o : List Nat) : Prop where
  low : Below w1.heap.size w1 wx
  at_ : ∀ n ∈ o, w1.heap.size ≤ n ∧ wx.heap[n]? = some (.cells #[.string ⟨#[]⟩, .int .u64 0] 68 (0, 0))
  nd : o.Nodup
theorem Fi.start (w1 : World) : Fi w1 w1.drew [] := ⟨Sm.below_drewN (Below.refl _ w1) 1, fun n h => by simp at h, List.nodup_nil⟩
theorem Fi.call {w1 wx w' : World} {o : List Nat} (h : Fi w1 wx o) (k : Below wx.heap.size wx w') : Fi w1 w' o :=
  ⟨h.low.trans (k.mono h.low.size), fun n hn => ⟨(h.at_ n hn).1, (k.block n (Sm.lt_of (h.at_ n hn).2)).trans (h.at_ n hn).2⟩, h.nd⟩
theorem Fi.alloc {w1 wx : World} {o : List Nat} (h : Fi w1 wx o) : Fi w1 (wx.alloc (.cells #[.string ⟨#[]⟩, .int .u64 0] 68)) (wx.heap.size :: o) :=
  ⟨h.low.alloc h.low.size _, fun n hn => by
    rcases List.mem_cons.1 hn with rfl | hn
    · exact ⟨h.low.size, heap_alloc_new wx _⟩
    · exact ⟨(h.at_ n hn).1, (Below.heap_alloc _ _ _ (Sm.lt_of (h.at_ n hn).2)).trans (h.at_ n hn).2⟩, List.nodup_cons.2 ⟨fun hm => by have := Sm.lt_of (h.at_ _ hm).2; omega, h.nd⟩⟩
theorem Fi.done {w1 wx : World} {o : List Nat} (h : Fi w1 wx o) {n4 n5 : Nat} (h4 : n4 ∈ o) (h5 : n5 ∈ o) (hne : n4 ≠ n5) {ca cb : List Value} (ha : ca.length = 2) (hb : cb.length = 2) :
    Below w1.heap.size w1 ((wx.setCells n4 0 ca).setCells n5 0 cb) ∧ ((wx.setCells n4 0 ca).setCells n5 0 cb).heap[n4]? = some (.cells ca.toArray 68 (0, 0)) ∧ ((wx.setCells n4 0 ca).setCells n5 0 cb).heap[n5]? = some (.cells cb.toArray 68 (0, 0)) ∧
      (wx.setCells n4 0 ca).heap[n5]? = some (.cells #[.string ⟨#[]⟩, .int .u64 0] 68 (0, 0)) := by
  have g4 := Sm.heap_setAll (vs := ca) (h.at_ n4 h4).2 (by rw [ha]; rfl)
  have g5 : (wx.setCells n4 0 ca).heap[n5]? = some (.cells #[.string ⟨#[]⟩, .int .u64 0] 68 (0, 0)) := Sm.other_setCells (fun e => hne e.symm) (h.at_ n5 h5).2
  exact ⟨Sm.below_setCells (h.at_ n5 h5).1 cb 0 (Sm.below_setCells (h.at_ n4 h4).1 ca 0 h.low), Sm.other_setCells hne g4, Sm.heap_setAll g5 (by rw [hb]; rfl), g5⟩
theorem StrsAt.cut {w : World} {g o : Nat} {l : List (List UInt8)} (h : StrsAt w (some ⟨g, o, none⟩) l) {n : Nat} (hn : n ≤ l.length) : StrsAt w (some ⟨g, o, none⟩) (l.take n) ∧ StrsAt w (some ⟨g, o + n, none⟩) (l.drop n) := by
  obtain ⟨g', o', e, hg, hc⟩ := h
  simp only [Option.some.injEq, Addr.mk.injEq, and_true] at e
  obtain ⟨rfl, rfl⟩ := e
  refine ⟨⟨g, o, rfl, hg, fun i hi => ?_⟩, ⟨g, o + n, rfl, hg, fun i hi => ?_⟩⟩
  · rw [List.length_take] at hi
    rw [hc i (by omega), List.getD_eq_getElem?_getD, List.getD_eq_getElem?_getD, List.getElem?_take, if_pos (by omega)]
  · rw [List.length_drop] at hi
    rw [show o + n + i = o + (n + i) by omega, hc (n + i) (by omega), List.getD_eq_getElem?_getD, List.getD_eq_getElem?_getD, List.getElem?_drop]
end Kp
set_option maxRecDepth 100000 in
set_option maxHeartbeats 1500000 in
theorem kpFind_any (w : World) (A : Option Addr) (c : Nat) (l : List (List UInt8)) (h : Kp.StrsAt w A l) (hl : l.length = 20) (hc : 20 ≤ c) (hb : ∀ b ∈ l, Kp.Bod b) :
    Calls Try.prog 37 #[.slice A 20 c] w fun e w' => e = .returned (.tuple #[.agg #[.string ⟨(Kp.find l).1.1.toArray⟩, .int .u64 ((Kp.find l).1.2 : Nat)], .int .i64 ((Kp.find l).2 : Nat)]) ∧ Below w.heap.size w w' := by
  have hz1 := (zero_of_info Kp.info_record).1
  have b1 : Below w.heap.size w (w.alloc (.cells #[.string ⟨#[]⟩, .int .u64 0] 68)) := (Below.refl _ w).alloc (Nat.le_refl _) _
  have g1 := heap_alloc_new w (.cells #[.string ⟨#[]⟩, .int .u64 0] 68)
  obtain ⟨g, o, rfl, -⟩ := h.at
  obtain ⟨s0, s1⟩ := h.cut (n := 10) (by omega)
  obtain ⟨X0, hX0⟩ : ∃ X, X = Kp.held (l.take 10) := ⟨_, rfl⟩
  obtain ⟨X1, hX1⟩ : ∃ X, X = Kp.held (l.drop 10) := ⟨_, rfl⟩
  obtain ⟨a0, ha0⟩ : ∃ a : ByteArray, a = ⟨X0.1.toArray⟩ := ⟨_, rfl⟩
  obtain ⟨a1, ha1⟩ : ∃ a : ByteArray, a = ⟨X1.1.toArray⟩ := ⟨_, rfl⟩
  obtain ⟨x0, hx0⟩ : ∃ x, x = X0.2 := ⟨_, rfl⟩
  obtain ⟨x1, hx1⟩ : ∃ x, x = X1.2 := ⟨_, rfl⟩
  have hx0l : x0 < 18446744073709551616 := by rw [hx0, hX0]; exact Kp.held_lt _
  have hx1l : x1 < 18446744073709551616 := by rw [hx1, hX1]; exact Kp.held_lt _
  have FD : Hid (Kp.find l = if 0 < x0 ∧ x1 ≤ x0 then (X0, 1) else (X1, 0)) := by show _ = _; rw [hx0, hx1, hX0, hX1]; rfl
  obtain ⟨ca, hca⟩ : ∃ c : List Value, c = [.string a0, .int .u64 (x0 : Int)] := ⟨_, rfl⟩
  obtain ⟨cb, hcb⟩ : ∃ c : List Value, c = [.string a1, .int .u64 (x1 : Int)] := ⟨_, rfl⟩
  have HCA : Hid (ca.length = 2) := by show _ = _; rw [hca]; rfl
  have HCB : Hid (cb.length = 2) := by show _ = _; rw [hcb]; rfl
  have HAO : Hid (ca.toArray.all (·.oneCell') = true) := by show _ = _; rw [hca]; simp [Value.oneCell']
  have HBO : Hid (cb.toArray.all (·.oneCell') = true) := by show _ = _; rw [hcb]; simp [Value.oneCell']
  have bx : ∀ wx, Below (w.alloc (.cells #[.string ⟨#[]⟩, .int .u64 0] 68)).heap.size (w.alloc (.cells #[.string ⟨#[]⟩, .int .u64 0] 68)) wx → Below w.heap.size w wx := fun wx k => b1.trans (k.mono b1.size)
  have HE0 : Hid (∀ wx, Below (w.alloc (.cells #[.string ⟨#[]⟩, .int .u64 0] 68)).heap.size (w.alloc (.cells #[.string ⟨#[]⟩, .int .u64 0] 68)) wx → Calls Try.prog 59 #[.slice (some ⟨g, o, none⟩) 10 c] wx fun e w' => e = .returned (.agg ca.toArray) ∧ Below wx.heap.size wx w') := fun wx k => by
    have h := kpHeld_any wx (some ⟨g, o, none⟩) c (l.take 10) (s0.low (bx wx k)) (by rw [List.length_take]; omega) (by omega) (fun b hb' => hb b (List.mem_of_mem_take hb'))
    rw [← hX0, ← ha0, ← hx0] at h
    rw [hca]; exact h
  have HE1 : Hid (∀ wx, Below (w.alloc (.cells #[.string ⟨#[]⟩, .int .u64 0] 68)).heap.size (w.alloc (.cells #[.string ⟨#[]⟩, .int .u64 0] 68)) wx → Calls Try.prog 59 #[.slice (some ⟨g, o + 10, none⟩) 10 (c - 10)] wx fun e w' => e = .returned (.agg cb.toArray) ∧ Below wx.heap.size wx w') := fun wx k => by
    have h := kpHeld_any wx (some ⟨g, o + 10, none⟩) (c - 10) (l.drop 10) (s1.low (bx wx k)) (by rw [List.length_drop]; omega) (by omega) (fun b hb' => hb b (List.mem_of_mem_drop hb'))
    rw [← hX1, ← ha1, ← hx1] at h
    rw [hcb]; exact h
  have HX0 := Lib.hid hX0
  have HX1 := Lib.hid hX1
  have HA0 := Lib.hid ha0
  have HA1 := Lib.hid ha1
  have Hx0 := Lib.hid hx0
  have Hx1 := Lib.hid hx1
  have HCA2 := Lib.hid hca
  have HCB2 := Lib.hid hcb
  clear s0 s1 hX0 hX1 ha0 ha1 hx0 hx1 hca hcb bx h hb hl
  have hci : (10 : Int) ≤ c := by omega
  have hcn : 10 ≤ c := by omega
  have hc0 : ¬ c = 10 := by omega
  go_enter Try.func37, Try.ntmps37
  go_upto_region 1 with (fail)
  generalize w.alloc (.cells #[.string ⟨#[]⟩, .int .u64 0] 68) = w1 at *
  obtain ⟨N, hNN⟩ : ∃ N, N = w.heap.size := ⟨_, rfl⟩
  rw [← hNN] at b1 g1 ⊢
  have HNN := Lib.hid hNN
  have G1 := Lib.hid g1
  have B1 := Lib.hid b1
  clear hNN g1 b1
  go_cut [4, 5] from 6 (fun s4 s5 wx => ∃ n4 n5 : Nat, s4 = .pointer (some ⟨n4, 0, none⟩) ∧ s5 = .pointer (some ⟨n5, 0, none⟩) ∧ Below w1.heap.size w1 wx ∧ wx.heap[n4]? = some (.cells ca.toArray 68 (0, 0)) ∧ wx.heap[n5]? = some (.cells cb.toArray 68 (0, 0)))
  case first =>
    refine wp_region_held_drew (S := fun _ => True) (by kernel_rfl) trivial (fun hHeld => ?_)
    generalize hW0 : w1.drew = W0 at *
    have F0 : Kp.Fi w1 W0 [] := by rw [← hW0]; exact Kp.Fi.start w1
    clear hW0
    refine wpAnyH_take (i := 0) (oi := ⟨some 6, _, _, _, _, _⟩) (v := .slice (some ⟨g, o, none⟩) 20 c) rfl (by kernel_rfl) (by kernel_rfl) (by kernel_rfl) (fun _ _ _ h => h) (Or.inl ⟨by rfl, ?_⟩) (by assumption) ?_
    · intro w hSw; (try dsimp only at hSw); go_simp
    simp only [Act.put, List.setIfInBounds_toArray, List.set_cons_zero, List.set_cons_succ]
    refine wpAnyH_take (i := 1) (oi := ⟨some 7, _, _, _, _, _⟩) (v := .slice (some ⟨g, o, none⟩) 10 c) rfl (by kernel_rfl) (by kernel_rfl) (by kernel_rfl) (fun _ _ _ h => h) (Or.inl ⟨by rfl, ?_⟩) (by assumption) ?_
    · intro w hSw; (try dsimp only at hSw); go_simp
    simp only [Act.put, List.setIfInBounds_toArray, List.set_cons_zero, List.set_cons_succ]
    refine wpAnyH_take (i := 3) (oi := ⟨some 9, _, _, _, _, _⟩) (v := .slice (some ⟨g, o, none⟩) 20 c) rfl (by kernel_rfl) (by kernel_rfl) (by kernel_rfl) (fun _ _ _ h => h) (Or.inl ⟨by rfl, ?_⟩) (by assumption) ?_
    · intro w hSw; (try dsimp only at hSw); go_simp
    simp only [Act.put, List.setIfInBounds_toArray, List.set_cons_zero, List.set_cons_succ]
    refine wpAnyH_take (i := 4) (oi := ⟨some 10, _, _, _, _, _⟩) (v := .slice (some ⟨g, o + 10, none⟩) 10 (c - 10)) rfl (by kernel_rfl) (by kernel_rfl) (by kernel_rfl) (fun _ _ _ h => h) (Or.inl ⟨by rfl, ?_⟩) (by assumption) ?_
    · intro w hSw; (try dsimp only at hSw); go_simp
    simp only [Act.put, List.setIfInBounds_toArray, List.set_cons_zero, List.set_cons_succ]
    refine wpAnyH_ready (rs := [2, 6, 7]) (by kernel_rfl) (by simp) ?_
    refine (AllReadyH.cons (o := ⟨some 8, _, _, _, _, _⟩) rfl (fun K hK => ?_) (AllReadyH.cons (o := ⟨some 4, _, _, _, _, _⟩) rfl (fun K hK => ?_) (AllReadyH.cons (o := ⟨some 5, _, _, _, _, _⟩) rfl (fun K hK => ?_) AllReadyH.nil)))
    · go_simp
      refine (HE0.out _ F0.low).mono ?_
      rintro e w1 ⟨rfl, kk⟩
      have F2 := F0.call kk
      clear kk
      refine hK.out _ _ trivial (fun hHeld => ?_)
      clear hK K
      refine wpAnyH_ready (rs := [5, 6, 7]) (by kernel_rfl) (by simp) ?_
      refine (AllReadyH.cons (o := ⟨some 11, _, _, _, _, _⟩) rfl (fun K hK => ?_) (AllReadyH.cons (o := ⟨some 4, _, _, _, _, _⟩) rfl (fun K hK => ?_) (AllReadyH.cons (o := ⟨some 5, _, _, _, _, _⟩) rfl (fun K hK => ?_) AllReadyH.nil)))
      · go_simp
        refine (HE1.out _ F2.low).mono ?_
        rintro e w3 ⟨rfl, kk⟩
        have F4 := F2.call kk
        clear kk
        refine hK.out _ _ trivial (fun hHeld => ?_)
        clear hK K
        refine wpAnyH_ready (rs := [6, 7]) (by kernel_rfl) (by simp) ?_
        refine (AllReadyH.cons (o := ⟨some 4, _, _, _, _, _⟩) rfl (fun K hK => ?_) (AllReadyH.cons (o := ⟨some 5, _, _, _, _, _⟩) rfl (fun K hK => ?_) AllReadyH.nil))
        · go_simp
          have F6 := F4.alloc
          obtain ⟨n7, hnn⟩ : ∃ n, n = w3.heap.size := ⟨_, rfl⟩
          rw [← hnn] at F6 ⊢
          clear hnn
          generalize w3.alloc (.cells #[.string ⟨#[]⟩, .int .u64 0] 68) = w5 at *
          refine hK.out _ _ trivial (fun hHeld => ?_)
          clear hK K
          refine wpAnyH_ready (rs := [7]) (by kernel_rfl) (by simp) ?_
          refine (AllReadyH.cons (o := ⟨some 5, _, _, _, _, _⟩) rfl (fun K hK => ?_) AllReadyH.nil)
          · go_simp
            have F9 := F6.alloc
            obtain ⟨n10, hnn⟩ : ∃ n, n = w5.heap.size := ⟨_, rfl⟩
            rw [← hnn] at F9 ⊢
            clear hnn
            generalize w5.alloc (.cells #[.string ⟨#[]⟩, .int .u64 0] 68) = w8 at *
            refine hK.out _ _ trivial (fun hHeld => ?_)
            clear hK K
            refine wpAnyH_ready (rs := [8]) (by kernel_rfl) (by simp) ?_
            refine (AllReadyH.cons (o := ⟨none, _, _, _, _, _⟩) rfl (fun K hK => ?_) AllReadyH.nil)
            rw [if_pos (by simp [Region.wanted])]
            refine wp_store_mid 68 (.tmp 4) (.tmp 8) rfl n7 0 ca.toArray rfl rfl (Sm.there_row (F9.at_ n7 (by simp)).2 (by show 2 = _; rw [List.size_toArray, HCA.out])) (Kp.size_record (by rw [List.size_toArray, HCA.out])) HAO.out ?_
            refine hK.out _ _ trivial (fun hHeld => ?_)
            clear hK K
            refine wpAnyH_ready (rs := [9]) (by kernel_rfl) (by simp) ?_
            refine (AllReadyH.cons (o := ⟨none, _, _, _, _, _⟩) rfl (fun K hK => ?_) AllReadyH.nil)
            rw [if_pos (by simp [Region.wanted])]
            obtain ⟨q1, q2, q3, q4⟩ := Kp.Fi.done F9 (n4 := n7) (n5 := n10) (by simp) (by simp) (by have := F9.nd; simp at this; omega) HCA.out HCB.out
            refine wp_store_mid 68 (.tmp 5) (.tmp 11) rfl n10 0 cb.toArray rfl rfl (Sm.there_row q4 (by show 2 = _; rw [List.size_toArray, HCB.out])) (Kp.size_record (by rw [List.size_toArray, HCB.out])) HBO.out ?_
            refine hK.out _ _ trivial (fun hHeld => ?_)
            clear hK K
            refine wpAnyH_done (by kernel_rfl) ?_ _
            go_wp2_with fail
            go_meet
            exact ⟨n7, n10, rfl, rfl, q1, q2, q3⟩
        · go_simp
          have F12 := F4.alloc
          obtain ⟨n13, hnn⟩ : ∃ n, n = w3.heap.size := ⟨_, rfl⟩
          rw [← hnn] at F12 ⊢
          clear hnn
          generalize w3.alloc (.cells #[.string ⟨#[]⟩, .int .u64 0] 68) = w11 at *
          refine hK.out _ _ trivial (fun hHeld => ?_)
          clear hK K
          refine wpAnyH_ready (rs := [6]) (by kernel_rfl) (by simp) ?_
          refine (AllReadyH.cons (o := ⟨some 4, _, _, _, _, _⟩) rfl (fun K hK => ?_) AllReadyH.nil)
          · go_simp
            have F15 := F12.alloc
            obtain ⟨n16, hnn⟩ : ∃ n, n = w11.heap.size := ⟨_, rfl⟩
            rw [← hnn] at F15 ⊢
            clear hnn
            generalize w11.alloc (.cells #[.string ⟨#[]⟩, .int .u64 0] 68) = w14 at *
            refine hK.out _ _ trivial (fun hHeld => ?_)
            clear hK K
            refine wpAnyH_ready (rs := [8]) (by kernel_rfl) (by simp) ?_
            refine (AllReadyH.cons (o := ⟨none, _, _, _, _, _⟩) rfl (fun K hK => ?_) AllReadyH.nil)
            rw [if_pos (by simp [Region.wanted])]
            refine wp_store_mid 68 (.tmp 4) (.tmp 8) rfl n16 0 ca.toArray rfl rfl (Sm.there_row (F15.at_ n16 (by simp)).2 (by show 2 = _; rw [List.size_toArray, HCA.out])) (Kp.size_record (by rw [List.size_toArray, HCA.out])) HAO.out ?_
            refine hK.out _ _ trivial (fun hHeld => ?_)
            clear hK K
            refine wpAnyH_ready (rs := [9]) (by kernel_rfl) (by simp) ?_
            refine (AllReadyH.cons (o := ⟨none, _, _, _, _, _⟩) rfl (fun K hK => ?_) AllReadyH.nil)
            rw [if_pos (by simp [Region.wanted])]
            obtain ⟨q1, q2, q3, q4⟩ := Kp.Fi.done F15 (n4 := n16) (n5 := n13) (by simp) (by simp) (by have := F15.nd; simp at this; omega) HCA.out HCB.out
            refine wp_store_mid 68 (.tmp 5) (.tmp 11) rfl n13 0 cb.toArray rfl rfl (Sm.there_row q4 (by show 2 = _; rw [List.size_toArray, HCB.out])) (Kp.size_record (by rw [List.size_toArray, HCB.out])) HBO.out ?_
            refine hK.out _ _ trivial (fun hHeld => ?_)
            clear hK K
            refine wpAnyH_done (by kernel_rfl) ?_ _
            go_wp2_with fail
            go_meet
            exact ⟨n16, n13, rfl, rfl, q1, q2, q3⟩
      · go_simp
        have F18 := F2.alloc
        obtain ⟨n19, hnn⟩ : ∃ n, n = w1.heap.size := ⟨_, rfl⟩
        rw [← hnn] at F18 ⊢
        clear hnn
        generalize w1.alloc (.cells #[.string ⟨#[]⟩, .int .u64 0] 68) = w17 at *
        refine hK.out _ _ trivial (fun hHeld => ?_)
        clear hK K
        refine wpAnyH_ready (rs := [5, 7]) (by kernel_rfl) (by simp) ?_
        refine (AllReadyH.cons (o := ⟨some 11, _, _, _, _, _⟩) rfl (fun K hK => ?_) (AllReadyH.cons (o := ⟨some 5, _, _, _, _, _⟩) rfl (fun K hK => ?_) AllReadyH.nil))
        · go_simp
          refine (HE1.out _ F18.low).mono ?_
          rintro e w20 ⟨rfl, kk⟩
          have F21 := F18.call kk
          clear kk
          refine hK.out _ _ trivial (fun hHeld => ?_)
          clear hK K
          refine wpAnyH_ready (rs := [7]) (by kernel_rfl) (by simp) ?_
          refine (AllReadyH.cons (o := ⟨some 5, _, _, _, _, _⟩) rfl (fun K hK => ?_) AllReadyH.nil)
          · go_simp
            have F23 := F21.alloc
            obtain ⟨n24, hnn⟩ : ∃ n, n = w20.heap.size := ⟨_, rfl⟩
            rw [← hnn] at F23 ⊢
            clear hnn
            generalize w20.alloc (.cells #[.string ⟨#[]⟩, .int .u64 0] 68) = w22 at *
            refine hK.out _ _ trivial (fun hHeld => ?_)
            clear hK K
            refine wpAnyH_ready (rs := [8]) (by kernel_rfl) (by simp) ?_
            refine (AllReadyH.cons (o := ⟨none, _, _, _, _, _⟩) rfl (fun K hK => ?_) AllReadyH.nil)
            rw [if_pos (by simp [Region.wanted])]
            refine wp_store_mid 68 (.tmp 4) (.tmp 8) rfl n19 0 ca.toArray rfl rfl (Sm.there_row (F23.at_ n19 (by simp)).2 (by show 2 = _; rw [List.size_toArray, HCA.out])) (Kp.size_record (by rw [List.size_toArray, HCA.out])) HAO.out ?_
            refine hK.out _ _ trivial (fun hHeld => ?_)
            clear hK K
            refine wpAnyH_ready (rs := [9]) (by kernel_rfl) (by simp) ?_
            refine (AllReadyH.cons (o := ⟨none, _, _, _, _, _⟩) rfl (fun K hK => ?_) AllReadyH.nil)
            rw [if_pos (by simp [Region.wanted])]
            obtain ⟨q1, q2, q3, q4⟩ := Kp.Fi.done F23 (n4 := n19) (n5 := n24) (by simp) (by simp) (by have := F23.nd; simp at this; omega) HCA.out HCB.out
            refine wp_store_mid 68 (.tmp 5) (.tmp 11) rfl n24 0 cb.toArray rfl rfl (Sm.there_row q4 (by show 2 = _; rw [List.size_toArray, HCB.out])) (Kp.size_record (by rw [List.size_toArray, HCB.out])) HBO.out ?_
            refine hK.out _ _ trivial (fun hHeld => ?_)
            clear hK K
            refine wpAnyH_done (by kernel_rfl) ?_ _
            go_wp2_with fail
            go_meet
            exact ⟨n19, n24, rfl, rfl, q1, q2, q3⟩
        · go_simp
          have F26 := F18.alloc
          obtain ⟨n27, hnn⟩ : ∃ n, n = w17.heap.size := ⟨_, rfl⟩
          rw [← hnn] at F26 ⊢
          clear hnn
          generalize w17.alloc (.cells #[.string ⟨#[]⟩, .int .u64 0] 68) = w25 at *
          refine hK.out _ _ trivial (fun hHeld => ?_)
          clear hK K
          refine wpAnyH_ready (rs := [5]) (by kernel_rfl) (by simp) ?_
          refine (AllReadyH.cons (o := ⟨some 11, _, _, _, _, _⟩) rfl (fun K hK => ?_) AllReadyH.nil)
          · go_simp
            refine (HE1.out _ F26.low).mono ?_
            rintro e w28 ⟨rfl, kk⟩
            have F29 := F26.call kk
            clear kk
            refine hK.out _ _ trivial (fun hHeld => ?_)
            clear hK K
            refine wpAnyH_ready (rs := [8]) (by kernel_rfl) (by simp) ?_
            refine (AllReadyH.cons (o := ⟨none, _, _, _, _, _⟩) rfl (fun K hK => ?_) AllReadyH.nil)
            rw [if_pos (by simp [Region.wanted])]
            refine wp_store_mid 68 (.tmp 4) (.tmp 8) rfl n19 0 ca.toArray rfl rfl (Sm.there_row (F29.at_ n19 (by simp)).2 (by show 2 = _; rw [List.size_toArray, HCA.out])) (Kp.size_record (by rw [List.size_toArray, HCA.out])) HAO.out ?_
            refine hK.out _ _ trivial (fun hHeld => ?_)
            clear hK K
            refine wpAnyH_ready (rs := [9]) (by kernel_rfl) (by simp) ?_
            refine (AllReadyH.cons (o := ⟨none, _, _, _, _, _⟩) rfl (fun K hK => ?_) AllReadyH.nil)
            rw [if_pos (by simp [Region.wanted])]
            obtain ⟨q1, q2, q3, q4⟩ := Kp.Fi.done F29 (n4 := n19) (n5 := n27) (by simp) (by simp) (by have := F29.nd; simp at this; omega) HCA.out HCB.out
            refine wp_store_mid 68 (.tmp 5) (.tmp 11) rfl n27 0 cb.toArray rfl rfl (Sm.there_row q4 (by show 2 = _; rw [List.size_toArray, HCB.out])) (Kp.size_record (by rw [List.size_toArray, HCB.out])) HBO.out ?_
            refine hK.out _ _ trivial (fun hHeld => ?_)
            clear hK K
            refine wpAnyH_done (by kernel_rfl) ?_ _
            go_wp2_with fail
            go_meet
            exact ⟨n19, n27, rfl, rfl, q1, q2, q3⟩
      · go_simp
        have F31 := F2.alloc
        obtain ⟨n32, hnn⟩ : ∃ n, n = w1.heap.size := ⟨_, rfl⟩
        rw [← hnn] at F31 ⊢
        clear hnn
        generalize w1.alloc (.cells #[.string ⟨#[]⟩, .int .u64 0] 68) = w30 at *
        refine hK.out _ _ trivial (fun hHeld => ?_)
        clear hK K
        refine wpAnyH_ready (rs := [5, 6]) (by kernel_rfl) (by simp) ?_
        refine (AllReadyH.cons (o := ⟨some 11, _, _, _, _, _⟩) rfl (fun K hK => ?_) (AllReadyH.cons (o := ⟨some 4, _, _, _, _, _⟩) rfl (fun K hK => ?_) AllReadyH.nil))
        · go_simp
          refine (HE1.out _ F31.low).mono ?_
          rintro e w33 ⟨rfl, kk⟩
          have F34 := F31.call kk
          clear kk
          refine hK.out _ _ trivial (fun hHeld => ?_)
          clear hK K
          refine wpAnyH_ready (rs := [6]) (by kernel_rfl) (by simp) ?_
          refine (AllReadyH.cons (o := ⟨some 4, _, _, _, _, _⟩) rfl (fun K hK => ?_) AllReadyH.nil)
          · go_simp
            have F36 := F34.alloc
            obtain ⟨n37, hnn⟩ : ∃ n, n = w33.heap.size := ⟨_, rfl⟩
            rw [← hnn] at F36 ⊢
            clear hnn
            generalize w33.alloc (.cells #[.string ⟨#[]⟩, .int .u64 0] 68) = w35 at *
            refine hK.out _ _ trivial (fun hHeld => ?_)
            clear hK K
            refine wpAnyH_ready (rs := [8]) (by kernel_rfl) (by simp) ?_
            refine (AllReadyH.cons (o := ⟨none, _, _, _, _, _⟩) rfl (fun K hK => ?_) AllReadyH.nil)
            rw [if_pos (by simp [Region.wanted])]
            refine wp_store_mid 68 (.tmp 4) (.tmp 8) rfl n37 0 ca.toArray rfl rfl (Sm.there_row (F36.at_ n37 (by simp)).2 (by show 2 = _; rw [List.size_toArray, HCA.out])) (Kp.size_record (by rw [List.size_toArray, HCA.out])) HAO.out ?_
            refine hK.out _ _ trivial (fun hHeld => ?_)
            clear hK K
            refine wpAnyH_ready (rs := [9]) (by kernel_rfl) (by simp) ?_
            refine (AllReadyH.cons (o := ⟨none, _, _, _, _, _⟩) rfl (fun K hK => ?_) AllReadyH.nil)
            rw [if_pos (by simp [Region.wanted])]
            obtain ⟨q1, q2, q3, q4⟩ := Kp.Fi.done F36 (n4 := n37) (n5 := n32) (by simp) (by simp) (by have := F36.nd; simp at this; omega) HCA.out HCB.out
            refine wp_store_mid 68 (.tmp 5) (.tmp 11) rfl n32 0 cb.toArray rfl rfl (Sm.there_row q4 (by show 2 = _; rw [List.size_toArray, HCB.out])) (Kp.size_record (by rw [List.size_toArray, HCB.out])) HBO.out ?_
            refine hK.out _ _ trivial (fun hHeld => ?_)
            clear hK K
            refine wpAnyH_done (by kernel_rfl) ?_ _
            go_wp2_with fail
            go_meet
            exact ⟨n37, n32, rfl, rfl, q1, q2, q3⟩
        · go_simp
          have F39 := F31.alloc
          obtain ⟨n40, hnn⟩ : ∃ n, n = w30.heap.size := ⟨_, rfl⟩
          rw [← hnn] at F39 ⊢
          clear hnn
          generalize w30.alloc (.cells #[.string ⟨#[]⟩, .int .u64 0] 68) = w38 at *
          refine hK.out _ _ trivial (fun hHeld => ?_)
          clear hK K
          refine wpAnyH_ready (rs := [5]) (by kernel_rfl) (by simp) ?_
          refine (AllReadyH.cons (o := ⟨some 11, _, _, _, _, _⟩) rfl (fun K hK => ?_) AllReadyH.nil)
          · go_simp
            refine (HE1.out _ F39.low).mono ?_
            rintro e w41 ⟨rfl, kk⟩
            have F42 := F39.call kk
            clear kk
            refine hK.out _ _ trivial (fun hHeld => ?_)
            clear hK K
            refine wpAnyH_ready (rs := [8]) (by kernel_rfl) (by simp) ?_
            refine (AllReadyH.cons (o := ⟨none, _, _, _, _, _⟩) rfl (fun K hK => ?_) AllReadyH.nil)
            rw [if_pos (by simp [Region.wanted])]
            refine wp_store_mid 68 (.tmp 4) (.tmp 8) rfl n40 0 ca.toArray rfl rfl (Sm.there_row (F42.at_ n40 (by simp)).2 (by show 2 = _; rw [List.size_toArray, HCA.out])) (Kp.size_record (by rw [List.size_toArray, HCA.out])) HAO.out ?_
            refine hK.out _ _ trivial (fun hHeld => ?_)
            clear hK K
            refine wpAnyH_ready (rs := [9]) (by kernel_rfl) (by simp) ?_
            refine (AllReadyH.cons (o := ⟨none, _, _, _, _, _⟩) rfl (fun K hK => ?_) AllReadyH.nil)
            rw [if_pos (by simp [Region.wanted])]
            obtain ⟨q1, q2, q3, q4⟩ := Kp.Fi.done F42 (n4 := n40) (n5 := n32) (by simp) (by simp) (by have := F42.nd; simp at this; omega) HCA.out HCB.out
            refine wp_store_mid 68 (.tmp 5) (.tmp 11) rfl n32 0 cb.toArray rfl rfl (Sm.there_row q4 (by show 2 = _; rw [List.size_toArray, HCB.out])) (Kp.size_record (by rw [List.size_toArray, HCB.out])) HBO.out ?_
            refine hK.out _ _ trivial (fun hHeld => ?_)
            clear hK K
            refine wpAnyH_done (by kernel_rfl) ?_ _
            go_wp2_with fail
            go_meet
            exact ⟨n40, n32, rfl, rfl, q1, q2, q3⟩
    · go_simp
      have F44 := F0.alloc
      obtain ⟨n45, hnn⟩ : ∃ n, n = W0.heap.size := ⟨_, rfl⟩
      rw [← hnn] at F44 ⊢
      clear hnn
      generalize W0.alloc (.cells #[.string ⟨#[]⟩, .int .u64 0] 68) = w43 at *
      refine hK.out _ _ trivial (fun hHeld => ?_)
      clear hK K
      refine wpAnyH_ready (rs := [2, 7]) (by kernel_rfl) (by simp) ?_
      refine (AllReadyH.cons (o := ⟨some 8, _, _, _, _, _⟩) rfl (fun K hK => ?_) (AllReadyH.cons (o := ⟨some 5, _, _, _, _, _⟩) rfl (fun K hK => ?_) AllReadyH.nil))
      · go_simp
        refine (HE0.out _ F44.low).mono ?_
        rintro e w46 ⟨rfl, kk⟩
        have F47 := F44.call kk
        clear kk
        refine hK.out _ _ trivial (fun hHeld => ?_)
        clear hK K
        refine wpAnyH_ready (rs := [5, 7]) (by kernel_rfl) (by simp) ?_
        refine (AllReadyH.cons (o := ⟨some 11, _, _, _, _, _⟩) rfl (fun K hK => ?_) (AllReadyH.cons (o := ⟨some 5, _, _, _, _, _⟩) rfl (fun K hK => ?_) AllReadyH.nil))
        · go_simp
          refine (HE1.out _ F47.low).mono ?_
          rintro e w48 ⟨rfl, kk⟩
          have F49 := F47.call kk
          clear kk
          refine hK.out _ _ trivial (fun hHeld => ?_)
          clear hK K
          refine wpAnyH_ready (rs := [7]) (by kernel_rfl) (by simp) ?_
          refine (AllReadyH.cons (o := ⟨some 5, _, _, _, _, _⟩) rfl (fun K hK => ?_) AllReadyH.nil)
          · go_simp
            have F51 := F49.alloc
            obtain ⟨n52, hnn⟩ : ∃ n, n = w48.heap.size := ⟨_, rfl⟩
            rw [← hnn] at F51 ⊢
            clear hnn
            generalize w48.alloc (.cells #[.string ⟨#[]⟩, .int .u64 0] 68) = w50 at *
            refine hK.out _ _ trivial (fun hHeld => ?_)
            clear hK K
            refine wpAnyH_ready (rs := [8]) (by kernel_rfl) (by simp) ?_
            refine (AllReadyH.cons (o := ⟨none, _, _, _, _, _⟩) rfl (fun K hK => ?_) AllReadyH.nil)
            rw [if_pos (by simp [Region.wanted])]
            refine wp_store_mid 68 (.tmp 4) (.tmp 8) rfl n45 0 ca.toArray rfl rfl (Sm.there_row (F51.at_ n45 (by simp)).2 (by show 2 = _; rw [List.size_toArray, HCA.out])) (Kp.size_record (by rw [List.size_toArray, HCA.out])) HAO.out ?_
            refine hK.out _ _ trivial (fun hHeld => ?_)
            clear hK K
            refine wpAnyH_ready (rs := [9]) (by kernel_rfl) (by simp) ?_
            refine (AllReadyH.cons (o := ⟨none, _, _, _, _, _⟩) rfl (fun K hK => ?_) AllReadyH.nil)
            rw [if_pos (by simp [Region.wanted])]
            obtain ⟨q1, q2, q3, q4⟩ := Kp.Fi.done F51 (n4 := n45) (n5 := n52) (by simp) (by simp) (by have := F51.nd; simp at this; omega) HCA.out HCB.out
            refine wp_store_mid 68 (.tmp 5) (.tmp 11) rfl n52 0 cb.toArray rfl rfl (Sm.there_row q4 (by show 2 = _; rw [List.size_toArray, HCB.out])) (Kp.size_record (by rw [List.size_toArray, HCB.out])) HBO.out ?_
            refine hK.out _ _ trivial (fun hHeld => ?_)
            clear hK K
            refine wpAnyH_done (by kernel_rfl) ?_ _
            go_wp2_with fail
            go_meet
            exact ⟨n45, n52, rfl, rfl, q1, q2, q3⟩
        · go_simp
          have F54 := F47.alloc
          obtain ⟨n55, hnn⟩ : ∃ n, n = w46.heap.size := ⟨_, rfl⟩
          rw [← hnn] at F54 ⊢
          clear hnn
          generalize w46.alloc (.cells #[.string ⟨#[]⟩, .int .u64 0] 68) = w53 at *
          refine hK.out _ _ trivial (fun hHeld => ?_)
          clear hK K
          refine wpAnyH_ready (rs := [5]) (by kernel_rfl) (by simp) ?_
          refine (AllReadyH.cons (o := ⟨some 11, _, _, _, _, _⟩) rfl (fun K hK => ?_) AllReadyH.nil)
          · go_simp
            refine (HE1.out _ F54.low).mono ?_
            rintro e w56 ⟨rfl, kk⟩
            have F57 := F54.call kk
            clear kk
            refine hK.out _ _ trivial (fun hHeld => ?_)
            clear hK K
            refine wpAnyH_ready (rs := [8]) (by kernel_rfl) (by simp) ?_
            refine (AllReadyH.cons (o := ⟨none, _, _, _, _, _⟩) rfl (fun K hK => ?_) AllReadyH.nil)
            rw [if_pos (by simp [Region.wanted])]
            refine wp_store_mid 68 (.tmp 4) (.tmp 8) rfl n45 0 ca.toArray rfl rfl (Sm.there_row (F57.at_ n45 (by simp)).2 (by show 2 = _; rw [List.size_toArray, HCA.out])) (Kp.size_record (by rw [List.size_toArray, HCA.out])) HAO.out ?_
            refine hK.out _ _ trivial (fun hHeld => ?_)
            clear hK K
            refine wpAnyH_ready (rs := [9]) (by kernel_rfl) (by simp) ?_
            refine (AllReadyH.cons (o := ⟨none, _, _, _, _, _⟩) rfl (fun K hK => ?_) AllReadyH.nil)
            rw [if_pos (by simp [Region.wanted])]
            obtain ⟨q1, q2, q3, q4⟩ := Kp.Fi.done F57 (n4 := n45) (n5 := n55) (by simp) (by simp) (by have := F57.nd; simp at this; omega) HCA.out HCB.out
            refine wp_store_mid 68 (.tmp 5) (.tmp 11) rfl n55 0 cb.toArray rfl rfl (Sm.there_row q4 (by show 2 = _; rw [List.size_toArray, HCB.out])) (Kp.size_record (by rw [List.size_toArray, HCB.out])) HBO.out ?_
            refine hK.out _ _ trivial (fun hHeld => ?_)
            clear hK K
            refine wpAnyH_done (by kernel_rfl) ?_ _
            go_wp2_with fail
            go_meet
            exact ⟨n45, n55, rfl, rfl, q1, q2, q3⟩
      · go_simp
        have F59 := F44.alloc
        obtain ⟨n60, hnn⟩ : ∃ n, n = w43.heap.size := ⟨_, rfl⟩
        rw [← hnn] at F59 ⊢
        clear hnn
        generalize w43.alloc (.cells #[.string ⟨#[]⟩, .int .u64 0] 68) = w58 at *
        refine hK.out _ _ trivial (fun hHeld => ?_)
        clear hK K
        refine wpAnyH_ready (rs := [2]) (by kernel_rfl) (by simp) ?_
        refine (AllReadyH.cons (o := ⟨some 8, _, _, _, _, _⟩) rfl (fun K hK => ?_) AllReadyH.nil)
        · go_simp
          refine (HE0.out _ F59.low).mono ?_
          rintro e w61 ⟨rfl, kk⟩
          have F62 := F59.call kk
          clear kk
          refine hK.out _ _ trivial (fun hHeld => ?_)
          clear hK K
          refine wpAnyH_ready (rs := [5]) (by kernel_rfl) (by simp) ?_
          refine (AllReadyH.cons (o := ⟨some 11, _, _, _, _, _⟩) rfl (fun K hK => ?_) AllReadyH.nil)
          · go_simp
            refine (HE1.out _ F62.low).mono ?_
            rintro e w63 ⟨rfl, kk⟩
            have F64 := F62.call kk
            clear kk
            refine hK.out _ _ trivial (fun hHeld => ?_)
            clear hK K
            refine wpAnyH_ready (rs := [8]) (by kernel_rfl) (by simp) ?_
            refine (AllReadyH.cons (o := ⟨none, _, _, _, _, _⟩) rfl (fun K hK => ?_) AllReadyH.nil)
            rw [if_pos (by simp [Region.wanted])]
            refine wp_store_mid 68 (.tmp 4) (.tmp 8) rfl n45 0 ca.toArray rfl rfl (Sm.there_row (F64.at_ n45 (by simp)).2 (by show 2 = _; rw [List.size_toArray, HCA.out])) (Kp.size_record (by rw [List.size_toArray, HCA.out])) HAO.out ?_
            refine hK.out _ _ trivial (fun hHeld => ?_)
            clear hK K
            refine wpAnyH_ready (rs := [9]) (by kernel_rfl) (by simp) ?_
            refine (AllReadyH.cons (o := ⟨none, _, _, _, _, _⟩) rfl (fun K hK => ?_) AllReadyH.nil)
            rw [if_pos (by simp [Region.wanted])]
            obtain ⟨q1, q2, q3, q4⟩ := Kp.Fi.done F64 (n4 := n45) (n5 := n60) (by simp) (by simp) (by have := F64.nd; simp at this; omega) HCA.out HCB.out
            refine wp_store_mid 68 (.tmp 5) (.tmp 11) rfl n60 0 cb.toArray rfl rfl (Sm.there_row q4 (by show 2 = _; rw [List.size_toArray, HCB.out])) (Kp.size_record (by rw [List.size_toArray, HCB.out])) HBO.out ?_
            refine hK.out _ _ trivial (fun hHeld => ?_)
            clear hK K
            refine wpAnyH_done (by kernel_rfl) ?_ _
            go_wp2_with fail
            go_meet
            exact ⟨n45, n60, rfl, rfl, q1, q2, q3⟩
    · go_simp
      have F66 := F0.alloc
      obtain ⟨n67, hnn⟩ : ∃ n, n = W0.heap.size := ⟨_, rfl⟩
      rw [← hnn] at F66 ⊢
      clear hnn
      generalize W0.alloc (.cells #[.string ⟨#[]⟩, .int .u64 0] 68) = w65 at *
      refine hK.out _ _ trivial (fun hHeld => ?_)
      clear hK K
      refine wpAnyH_ready (rs := [2, 6]) (by kernel_rfl) (by simp) ?_
      refine (AllReadyH.cons (o := ⟨some 8, _, _, _, _, _⟩) rfl (fun K hK => ?_) (AllReadyH.cons (o := ⟨some 4, _, _, _, _, _⟩) rfl (fun K hK => ?_) AllReadyH.nil))
      · go_simp
        refine (HE0.out _ F66.low).mono ?_
        rintro e w68 ⟨rfl, kk⟩
        have F69 := F66.call kk
        clear kk
        refine hK.out _ _ trivial (fun hHeld => ?_)
        clear hK K
        refine wpAnyH_ready (rs := [5, 6]) (by kernel_rfl) (by simp) ?_
        refine (AllReadyH.cons (o := ⟨some 11, _, _, _, _, _⟩) rfl (fun K hK => ?_) (AllReadyH.cons (o := ⟨some 4, _, _, _, _, _⟩) rfl (fun K hK => ?_) AllReadyH.nil))
        · go_simp
          refine (HE1.out _ F69.low).mono ?_
          rintro e w70 ⟨rfl, kk⟩
          have F71 := F69.call kk
          clear kk
          refine hK.out _ _ trivial (fun hHeld => ?_)
          clear hK K
          refine wpAnyH_ready (rs := [6]) (by kernel_rfl) (by simp) ?_
          refine (AllReadyH.cons (o := ⟨some 4, _, _, _, _, _⟩) rfl (fun K hK => ?_) AllReadyH.nil)
          · go_simp
            have F73 := F71.alloc
            obtain ⟨n74, hnn⟩ : ∃ n, n = w70.heap.size := ⟨_, rfl⟩
            rw [← hnn] at F73 ⊢
            clear hnn
            generalize w70.alloc (.cells #[.string ⟨#[]⟩, .int .u64 0] 68) = w72 at *
            refine hK.out _ _ trivial (fun hHeld => ?_)
            clear hK K
            refine wpAnyH_ready (rs := [8]) (by kernel_rfl) (by simp) ?_
            refine (AllReadyH.cons (o := ⟨none, _, _, _, _, _⟩) rfl (fun K hK => ?_) AllReadyH.nil)
            rw [if_pos (by simp [Region.wanted])]
            refine wp_store_mid 68 (.tmp 4) (.tmp 8) rfl n74 0 ca.toArray rfl rfl (Sm.there_row (F73.at_ n74 (by simp)).2 (by show 2 = _; rw [List.size_toArray, HCA.out])) (Kp.size_record (by rw [List.size_toArray, HCA.out])) HAO.out ?_
            refine hK.out _ _ trivial (fun hHeld => ?_)
            clear hK K
            refine wpAnyH_ready (rs := [9]) (by kernel_rfl) (by simp) ?_
            refine (AllReadyH.cons (o := ⟨none, _, _, _, _, _⟩) rfl (fun K hK => ?_) AllReadyH.nil)
            rw [if_pos (by simp [Region.wanted])]
            obtain ⟨q1, q2, q3, q4⟩ := Kp.Fi.done F73 (n4 := n74) (n5 := n67) (by simp) (by simp) (by have := F73.nd; simp at this; omega) HCA.out HCB.out
            refine wp_store_mid 68 (.tmp 5) (.tmp 11) rfl n67 0 cb.toArray rfl rfl (Sm.there_row q4 (by show 2 = _; rw [List.size_toArray, HCB.out])) (Kp.size_record (by rw [List.size_toArray, HCB.out])) HBO.out ?_
            refine hK.out _ _ trivial (fun hHeld => ?_)
            clear hK K
            refine wpAnyH_done (by kernel_rfl) ?_ _
            go_wp2_with fail
            go_meet
            exact ⟨n74, n67, rfl, rfl, q1, q2, q3⟩
        · go_simp
          have F76 := F69.alloc
          obtain ⟨n77, hnn⟩ : ∃ n, n = w68.heap.size := ⟨_, rfl⟩
          rw [← hnn] at F76 ⊢
          clear hnn
          generalize w68.alloc (.cells #[.string ⟨#[]⟩, .int .u64 0] 68) = w75 at *
          refine hK.out _ _ trivial (fun hHeld => ?_)
          clear hK K
          refine wpAnyH_ready (rs := [5]) (by kernel_rfl) (by simp) ?_
          refine (AllReadyH.cons (o := ⟨some 11, _, _, _, _, _⟩) rfl (fun K hK => ?_) AllReadyH.nil)
          · go_simp
            refine (HE1.out _ F76.low).mono ?_
            rintro e w78 ⟨rfl, kk⟩
            have F79 := F76.call kk
            clear kk
            refine hK.out _ _ trivial (fun hHeld => ?_)
            clear hK K
            refine wpAnyH_ready (rs := [8]) (by kernel_rfl) (by simp) ?_
            refine (AllReadyH.cons (o := ⟨none, _, _, _, _, _⟩) rfl (fun K hK => ?_) AllReadyH.nil)
            rw [if_pos (by simp [Region.wanted])]
            refine wp_store_mid 68 (.tmp 4) (.tmp 8) rfl n77 0 ca.toArray rfl rfl (Sm.there_row (F79.at_ n77 (by simp)).2 (by show 2 = _; rw [List.size_toArray, HCA.out])) (Kp.size_record (by rw [List.size_toArray, HCA.out])) HAO.out ?_
            refine hK.out _ _ trivial (fun hHeld => ?_)
            clear hK K
            refine wpAnyH_ready (rs := [9]) (by kernel_rfl) (by simp) ?_
            refine (AllReadyH.cons (o := ⟨none, _, _, _, _, _⟩) rfl (fun K hK => ?_) AllReadyH.nil)
            rw [if_pos (by simp [Region.wanted])]
            obtain ⟨q1, q2, q3, q4⟩ := Kp.Fi.done F79 (n4 := n77) (n5 := n67) (by simp) (by simp) (by have := F79.nd; simp at this; omega) HCA.out HCB.out
            refine wp_store_mid 68 (.tmp 5) (.tmp 11) rfl n67 0 cb.toArray rfl rfl (Sm.there_row q4 (by show 2 = _; rw [List.size_toArray, HCB.out])) (Kp.size_record (by rw [List.size_toArray, HCB.out])) HBO.out ?_
            refine hK.out _ _ trivial (fun hHeld => ?_)
            clear hK K
            refine wpAnyH_done (by kernel_rfl) ?_ _
            go_wp2_with fail
            go_meet
            exact ⟨n77, n67, rfl, rfl, q1, q2, q3⟩
      · go_simp
        have F81 := F66.alloc
        obtain ⟨n82, hnn⟩ : ∃ n, n = w65.heap.size := ⟨_, rfl⟩
        rw [← hnn] at F81 ⊢
        clear hnn
        generalize w65.alloc (.cells #[.string ⟨#[]⟩, .int .u64 0] 68) = w80 at *
        refine hK.out _ _ trivial (fun hHeld => ?_)
        clear hK K
        refine wpAnyH_ready (rs := [2]) (by kernel_rfl) (by simp) ?_
        refine (AllReadyH.cons (o := ⟨some 8, _, _, _, _, _⟩) rfl (fun K hK => ?_) AllReadyH.nil)
        · go_simp
          refine (HE0.out _ F81.low).mono ?_
          rintro e w83 ⟨rfl, kk⟩
          have F84 := F81.call kk
          clear kk
          refine hK.out _ _ trivial (fun hHeld => ?_)
          clear hK K
          refine wpAnyH_ready (rs := [5]) (by kernel_rfl) (by simp) ?_
          refine (AllReadyH.cons (o := ⟨some 11, _, _, _, _, _⟩) rfl (fun K hK => ?_) AllReadyH.nil)
          · go_simp
            refine (HE1.out _ F84.low).mono ?_
            rintro e w85 ⟨rfl, kk⟩
            have F86 := F84.call kk
            clear kk
            refine hK.out _ _ trivial (fun hHeld => ?_)
            clear hK K
            refine wpAnyH_ready (rs := [8]) (by kernel_rfl) (by simp) ?_
            refine (AllReadyH.cons (o := ⟨none, _, _, _, _, _⟩) rfl (fun K hK => ?_) AllReadyH.nil)
            rw [if_pos (by simp [Region.wanted])]
            refine wp_store_mid 68 (.tmp 4) (.tmp 8) rfl n82 0 ca.toArray rfl rfl (Sm.there_row (F86.at_ n82 (by simp)).2 (by show 2 = _; rw [List.size_toArray, HCA.out])) (Kp.size_record (by rw [List.size_toArray, HCA.out])) HAO.out ?_
            refine hK.out _ _ trivial (fun hHeld => ?_)
            clear hK K
            refine wpAnyH_ready (rs := [9]) (by kernel_rfl) (by simp) ?_
            refine (AllReadyH.cons (o := ⟨none, _, _, _, _, _⟩) rfl (fun K hK => ?_) AllReadyH.nil)
            rw [if_pos (by simp [Region.wanted])]
            obtain ⟨q1, q2, q3, q4⟩ := Kp.Fi.done F86 (n4 := n82) (n5 := n67) (by simp) (by simp) (by have := F86.nd; simp at this; omega) HCA.out HCB.out
            refine wp_store_mid 68 (.tmp 5) (.tmp 11) rfl n67 0 cb.toArray rfl rfl (Sm.there_row q4 (by show 2 = _; rw [List.size_toArray, HCB.out])) (Kp.size_record (by rw [List.size_toArray, HCB.out])) HBO.out ?_
            refine hK.out _ _ trivial (fun hHeld => ?_)
            clear hK K
            refine wpAnyH_done (by kernel_rfl) ?_ _
            go_wp2_with fail
            go_meet
            exact ⟨n82, n67, rfl, rfl, q1, q2, q3⟩
  case rest =>
    obtain ⟨n4, n5, rfl, rfl, q1, q2, q3⟩ := hcut
    rw [HCA2.out] at q2
    rw [HCB2.out] at q3
    have hltN := Sm.lt_of G1.out
    have g2 := (q1.block N hltN).trans G1.out
    have b2 : Below N w wc := B1.out.trans (q1.mono (Nat.le_of_lt hltN))
    have G2 := Lib.hid g2
    have B2 := Lib.hid b2
    have e0 := Sm.cells_of q2 0 _ rfl
    have e1 := Sm.cells_of q2 1 _ rfl
    have p0 := Sm.cells_of q3 0 _ rfl
    have p1 := Sm.cells_of q3 1 _ rfl
    have d0 := Sm.cells_of g2 0 _ rfl
    have d1 := Sm.cells_of g2 1 _ rfl
    have f0 := Sm.free_of g2 0
    have f1 := Sm.free_of g2 1
    clear q1 q2 q3 g2 b2 hltN HE0 HE1
    by_cases hp : 0 < x0
    · have hpi : (0 : Int) < x0 := by omega
      by_cases hle : x1 ≤ x0
      · have hli : (x1 : Int) ≤ x0 := by omega
        have R := FD.out
        rw [if_pos ⟨hp, hle⟩] at R
        have HR := Lib.hid R
        clear R
        go_wp2_with fail
        have g5 := Kp.two_heap G2.out (.string a0) (.int .u64 (x0 : Int))
        have b5 := Kp.two_below B2.out (Nat.le_refl _) (.string a0) (.int .u64 (x0 : Int))
        have r0 := Sm.cells_of g5 0 _ rfl
        have r1 := Sm.cells_of g5 1 _ rfl
        refine bodyPost_ret (v := .tuple #[.agg #[.string a0, .int .u64 (x0 : Int)], .int .i64 1]) ((results_cell_tmp rfl _ _ _).trans ?_) rfl ⟨?_, ?_⟩
        · go_simp
        · rw [HR.out, HA0.out, Hx0.out]; rfl
        · rw [← HNN.out]; exact b5
      · have hli : ¬ (x1 : Int) ≤ x0 := by omega
        have R := FD.out
        rw [if_neg (fun h => hle h.2)] at R
        have HR := Lib.hid R
        clear R
        go_wp2_with fail
        have g5 := Kp.two_heap G2.out (.string a1) (.int .u64 (x1 : Int))
        have b5 := Kp.two_below B2.out (Nat.le_refl _) (.string a1) (.int .u64 (x1 : Int))
        have r0 := Sm.cells_of g5 0 _ rfl
        have r1 := Sm.cells_of g5 1 _ rfl
        refine bodyPost_ret (v := .tuple #[.agg #[.string a1, .int .u64 (x1 : Int)], .int .i64 0]) ((results_cell_tmp rfl _ _ _).trans ?_) rfl ⟨?_, ?_⟩
        · go_simp
        · rw [HR.out, HA1.out, Hx1.out]; rfl
        · rw [← HNN.out]; exact b5
    · have hpi : ¬ (0 : Int) < x0 := by omega
      have R := FD.out
      rw [if_neg (fun h => hp h.1)] at R
      have HR := Lib.hid R
      clear R
      go_wp2_with fail
      have g5 := Kp.two_heap G2.out (.string a1) (.int .u64 (x1 : Int))
      have b5 := Kp.two_below B2.out (Nat.le_refl _) (.string a1) (.int .u64 (x1 : Int))
      have r0 := Sm.cells_of g5 0 _ rfl
      have r1 := Sm.cells_of g5 1 _ rfl
      refine bodyPost_ret (v := .tuple #[.agg #[.string a1, .int .u64 (x1 : Int)], .int .i64 0]) ((results_cell_tmp rfl _ _ _).trans ?_) rfl ⟨?_, ?_⟩
      · go_simp
      · rw [HR.out, HA1.out, Hx1.out]; rfl
      · rw [← HNN.out]; exact b5
end Go.Proofs.Ytmdhnokgjapglaa

/-
  What kept's Open makes.
-/
namespace Go.Proofs.Ytmdhnokgjapglaa
open Go.RowKit
set_option maxRecDepth 100000 in
set_option maxHeartbeats 500000 in
theorem kpOpen_nil (w : World) (a : Int) : Calls Try.prog 16 #[.pointer none, .int .i64 a] w fun e w' => e = .returned (.tuple #[.pointer none, .int .i64 2]) ∧ w = w' := by
  have SE := Lib.hid (dkSectors_none (w := w) (.inl rfl))
  go_enter Try.func16, Try.ntmps16
  go_wp2_with (go_at_call 34; refine SE.out.mono ?_; rintro e w2 ⟨rfl, rfl⟩)
  go_ret2
  exact ⟨rfl, rfl⟩
set_option maxRecDepth 100000 in
set_option maxHeartbeats 500000 in
theorem kpOpen_arg {B : Nat} {w0 w : World} {r : Nat} {fp : Nat → Prop} {M : Dk.Md} (h : Dk.Own B w0 w r fp M) (a : Int) (ha : a < 0 ∨ (M.lasts.length : Int) - 20 < a) :
    Calls Try.prog 16 #[.pointer (some ⟨r, 0, none⟩), .int .i64 a] w fun e w' => e = .returned (.tuple #[.pointer none, .int .i64 1]) ∧ w = w' := by
  have SE := Lib.hid (Dk.sectors_in h)
  have hn := h.disk.ok.n
  obtain ⟨n, hnn⟩ : ∃ n, n = M.lasts.length := ⟨_, rfl⟩
  rw [← hnn] at SE hn ha
  have hn0 : ¬ (n : Int) = 0 := by omega
  have hnb : ((n : Int) == 0) = false := beq_eq_false_iff_ne.2 hn0
  have hw : IntKind.i64.wrap ((n : Int) - 20) = (n : Int) - 20 := IntWalk.i64_in _ (by omega)
  clear h hnn
  by_cases h0 : a < 0
  · go_enter Try.func16, Try.ntmps16
    go_wp2_with (go_at_call 34; refine SE.out.mono ?_; rintro e w2 ⟨rfl, rfl⟩)
    go_ret2
    exact ⟨rfl, rfl⟩
  · have h1 : (n : Int) - 20 < a := by omega
    go_enter Try.func16, Try.ntmps16
    go_wp2_with (go_at_call 34; refine SE.out.mono ?_; rintro e w2 ⟨rfl, rfl⟩)
    go_ret2
    exact ⟨rfl, rfl⟩
set_option maxRecDepth 100000 in
set_option maxHeartbeats 500000 in
theorem kpOpen_err {B : Nat} {w0 w : World} {r : Nat} {fp : Nat → Prop} {M : Dk.Md} (h : Dk.Own B w0 w r fp M) (a : Int) (ha : 0 ≤ a ∧ a + 20 ≤ (M.lasts.length : Int)) (he : Kp.readErr M a ≠ 0) :
    Calls Try.prog 16 #[.pointer (some ⟨r, 0, none⟩), .int .i64 a] w fun e w' => e = .returned (.tuple #[.pointer none, .int .i64 (Kp.readErr M a)]) ∧ Below w.heap.size w w' := by
  have SE := Lib.hid (Dk.sectors_in h)
  have RD := Lib.hid (kpRead_any h a ha.1 ha.2)
  have hn := h.disk.ok.n
  obtain ⟨n, hnn⟩ : ∃ n, n = M.lasts.length := ⟨_, rfl⟩
  rw [← hnn] at SE hn ha
  obtain ⟨E, hE⟩ : ∃ E, E = Kp.readErr M a := ⟨_, rfl⟩
  rw [← hE] at RD he ⊢
  have hn0 : ¬ (n : Int) = 0 := by omega
  have hnb : ((n : Int) == 0) = false := beq_eq_false_iff_ne.2 hn0
  have hw : IntKind.i64.wrap ((n : Int) - 20) = (n : Int) - 20 := IntWalk.i64_in _ (by omega)
  have h0 : ¬ a < 0 := by omega
  have h1 : ¬ (n : Int) - 20 < a := by omega
  clear h hnn hE
  go_enter Try.func16, Try.ntmps16
  go_wp2_with (first
    | (go_at_call 34; refine SE.out.mono ?_; rintro e w2 ⟨rfl, rfl⟩)
    | (go_at_call 35; refine RD.out.mono ?_; rintro e w3 ⟨k3, v, rfl, -⟩))
  go_ret2
  exact ⟨rfl, k3⟩
set_option maxRecDepth 100000 in
set_option maxHeartbeats 1000000 in
theorem kpOpen_ok {B : Nat} {w0 w : World} {r : Nat} {fp : Nat → Prop} {M : Dk.Md} (h : Dk.Own B w0 w r fp M) (a : Int) (ha : 0 ≤ a ∧ a + 20 ≤ (M.lasts.length : Int)) (he : Kp.readErr M a = 0) :
    Calls Try.prog 16 #[.pointer (some ⟨r, 0, none⟩), .int .i64 a] w fun e w' => ∃ k, e = .returned (.tuple #[.pointer (some ⟨k, 0, none⟩), .int .i64 0]) ∧ Kp.At w' k r (Kp.opened (Kp.sees M a) a) ∧ w.heap.size ≤ k ∧ Below w.heap.size w w' := by
  have SE := Lib.hid (Dk.sectors_in h)
  have RD := Lib.hid (kpRead_any h a ha.1 ha.2)
  have hn := h.disk.ok.n
  obtain ⟨n, hnn⟩ : ∃ n, n = M.lasts.length := ⟨_, rfl⟩
  rw [← hnn] at SE hn ha
  rw [he] at RD
  obtain ⟨L, hL⟩ : ∃ L, L = Kp.place (Kp.sees M a) := ⟨_, rfl⟩
  have LL : Hid (L.length = 20) := by show L.length = 20; rw [hL]; exact Kp.place_length _
  have LB : Hid (∀ b ∈ L, Kp.Bod b) := by rw [hL]; exact Kp.place_bod _
  have OP : Hid (Kp.opened (Kp.sees M a) a = ⟨a, (Kp.find L).1.1, (Kp.find L).1.2, (Kp.find L).2, Kp.greatest L, false⟩) := by show _ = _; rw [hL]; rfl
  rw [← hL] at RD
  have hn0 : ¬ (n : Int) = 0 := by omega
  have hnb : ((n : Int) == 0) = false := beq_eq_false_iff_ne.2 hn0
  have hw : IntKind.i64.wrap ((n : Int) - 20) = (n : Int) - 20 := IntWalk.i64_in _ (by omega)
  have h0 : ¬ a < 0 := by omega
  have h1 : ¬ (n : Int) - 20 < a := by omega
  obtain ⟨gr, hgr⟩ : ∃ g, g = Kp.greatest L := ⟨_, rfl⟩
  obtain ⟨ft, hft⟩ : ∃ t : ByteArray, t = ⟨(Kp.find L).1.1.toArray⟩ := ⟨_, rfl⟩
  obtain ⟨fg, hfg⟩ : ∃ g, g = (Kp.find L).1.2 := ⟨_, rfl⟩
  obtain ⟨fn, hfn⟩ : ∃ g, g = (Kp.find L).2 := ⟨_, rfl⟩
  have GR : Hid (∀ wx A c, Kp.StrsAt wx A L → Calls Try.prog 36 #[.slice A 20 c, .int .i64 0] wx fun e w' => e = .returned (.int .u64 (gr : Int)) ∧ wx = w') := fun wx A c hs => by
    have h1 := ptGreatest_any wx A c L 0 (by decide) hs (by rw [LL.out]; decide) LB.out
    rw [LL.out] at h1
    rw [hgr, Pt.kp_greatest]
    exact h1
  have FN : Hid (∀ wx A c, 20 ≤ c → Kp.StrsAt wx A L → Calls Try.prog 37 #[.slice A 20 c] wx fun e w' => e = .returned (.tuple #[.agg #[.string ft, .int .u64 (fg : Int)], .int .i64 (fn : Int)]) ∧ Below wx.heap.size wx w') := fun wx A c hc hs => by rw [hft, hfg, hfn]; exact kpFind_any wx A c L hs LL.out hc LB.out
  rw [← hgr, ← hfg, ← hfn] at OP
  have HFT := Lib.hid hft
  clear h hnn hL he hgr hft hfg hfn
  go_enter Try.func16, Try.ntmps16
  go_upto_region 8 with (first
    | (go_at_call 34; refine SE.out.mono ?_; rintro e w2 ⟨rfl, rfl⟩)
    | (go_at_call 35; refine RD.out.mono ?_; rintro e w3 ⟨k3, v, rfl, hv⟩))
  obtain ⟨A, c, rfl, hc, hs⟩ := hv trivial
  have HS := Lib.hid hs
  have HC := Lib.hid hc
  clear hs hc hv
  go_upto_region 9 with (go_at_call 36; refine (GR.out _ _ _ HS.out).mono ?_; rintro e w4 ⟨rfl, rfl⟩)
  have b4 : Below w.heap.size w (w3.alloc (.cells #[.pointer (some ⟨r, 0, none⟩), .int .i64 a, .string ⟨#[]⟩, .int .u64 0, .int .i64 0, .int .u64 (gr : Int), .bool false] 70)) := k3.alloc k3.size _
  have g4 := heap_alloc_new w3 (.cells #[.pointer (some ⟨r, 0, none⟩), .int .i64 a, .string ⟨#[]⟩, .int .u64 0, .int .i64 0, .int .u64 (gr : Int), .bool false] 70)
  have s4 := HS.out.low ((Below.refl w3.heap.size w3).alloc (Nat.le_refl _) (.cells #[.pointer (some ⟨r, 0, none⟩), .int .i64 a, .string ⟨#[]⟩, .int .u64 0, .int .i64 0, .int .u64 (gr : Int), .bool false] 70))
  generalize w3.alloc (.cells #[.pointer (some ⟨r, 0, none⟩), .int .i64 a, .string ⟨#[]⟩, .int .u64 0, .int .i64 0, .int .u64 (gr : Int), .bool false] 70) = w4 at *
  have hkw := k3.size
  obtain ⟨k, hk⟩ : ∃ k, k = w3.heap.size := ⟨_, rfl⟩
  rw [← hk] at g4 hkw ⊢
  have hk4 := Sm.lt_of g4
  have S4 := Lib.hid s4
  clear hk s4 HS
  go_upto_region 10 with (go_at_call 37; refine (FN.out _ _ _ HC.out S4.out).mono ?_; rintro e w5 ⟨rfl, k5⟩; have g5 := (k5.block k hk4).trans g4; have c2 := Sm.cells_of g5 2 _ rfl; have c3 := Sm.cells_of g5 3 _ rfl; have c4 := Sm.cells_of g5 4 _ rfl; have f2 := Sm.free_of g5 2; have f3 := Sm.free_of g5 3; have f4 := Sm.free_of g5 4)
  have b5 : Below w.heap.size w w5 := b4.trans (k5.mono (by have := b4.size; omega))
  have g6 : (((w5.setCell ⟨k, 2, none⟩ (.string ft)).setCell ⟨k, 3, none⟩ (.int .u64 (fg : Int))).setCell ⟨k, 4, none⟩ (.int .i64 (fn : Int))).heap[k]? = some (.cells #[.pointer (some ⟨r, 0, none⟩), .int .i64 a, .string ft, .int .u64 (fg : Int), .int .i64 (fn : Int), .int .u64 (gr : Int), .bool false] 70 (0, 0)) := by
    rw [Sm.heap_set (Sm.heap_set (Sm.heap_set g5 2 _) 3 _) 4 _]; rfl
  have b6 : Below w.heap.size w (((w5.setCell ⟨k, 2, none⟩ (.string ft)).setCell ⟨k, 3, none⟩ (.int .u64 (fg : Int))).setCell ⟨k, 4, none⟩ (.int .i64 (fn : Int))) :=
    ((b5.setCell (p := ⟨k, 2, none⟩) hkw _).setCell (p := ⟨k, 3, none⟩) hkw _).setCell (p := ⟨k, 4, none⟩) hkw _
  generalize (((w5.setCell ⟨k, 2, none⟩ (.string ft)).setCell ⟨k, 3, none⟩ (.int .u64 (fg : Int))).setCell ⟨k, 4, none⟩ (.int .i64 (fn : Int))) = w6 at *
  have AT : Hid (Kp.At w6 k r (Kp.opened (Kp.sees M a) a)) := by
    show Kp.At w6 k r _
    rw [OP.out]
    unfold Kp.At Kp.cells
    rw [g6, HFT.out]
  have B6 := Lib.hid b6
  clear g6 b6 b5 g5 c2 c3 c4 f2 f3 f4 b4 g4 k5 k3
  go_wp2_with fail
  go_ret2
  exact ⟨k, rfl, AT.out, hkw, B6.out⟩
/-- Open of a disk that is there. -/
theorem kpOpen_any {B : Nat} {w0 w : World} {r : Nat} {fp : Nat → Prop} {M : Dk.Md} (h : Dk.Own B w0 w r fp M) (a : Int) :
    Calls Try.prog 16 #[.pointer (some ⟨r, 0, none⟩), .int .i64 a] w fun e w' => Below w.heap.size w w' ∧
      ((Kp.openErr M a ≠ 0 ∧ e = .returned (.tuple #[.pointer none, .int .i64 (Kp.openErr M a)])) ∨
        (Kp.openErr M a = 0 ∧ ∃ k, e = .returned (.tuple #[.pointer (some ⟨k, 0, none⟩), .int .i64 0]) ∧ Kp.At w' k r (Kp.opened (Kp.sees M a) a) ∧ w.heap.size ≤ k)) := by
  by_cases ha : a < 0 ∨ (M.lasts.length : Int) - 20 < a
  · have e : Kp.openErr M a = 1 := by rw [Kp.openErr, if_pos ha]
    refine (kpOpen_arg h a ha).mono ?_
    rintro e' w' ⟨rfl, rfl⟩
    exact ⟨Below.refl _ _, .inl ⟨by rw [e]; decide, by rw [e]⟩⟩
  · have e : Kp.openErr M a = Kp.readErr M a := by rw [Kp.openErr, if_neg ha]; rfl
    rw [e]
    by_cases he : Kp.readErr M a = 0
    · refine (kpOpen_ok h a ⟨by omega, by omega⟩ he).mono ?_
      rintro e' w' ⟨k, rfl, h1, h2, h3⟩
      exact ⟨h3, .inr ⟨he, k, rfl, h1, h2⟩⟩
    · refine (kpOpen_err h a ⟨by omega, by omega⟩ he).mono ?_
      rintro e' w' ⟨rfl, h3⟩
      exact ⟨h3, .inl ⟨he, rfl⟩⟩
end Go.Proofs.Ytmdhnokgjapglaa

/-
  What kept's Put does.
-/
namespace Go.Proofs.Ytmdhnokgjapglaa
open Go.RowKit
namespace Kp
theorem At.cells {w : World} {k r : Nat} {K : Md} (h : At w k r K) : w.cell? ⟨k, 0, none⟩ = some (.pointer (some ⟨r, 0, none⟩)) ∧ w.cell? ⟨k, 1, none⟩ = some (.int .i64 K.from_) ∧ w.cell? ⟨k, 4, none⟩ = some (.int .i64 (K.next : Int)) :=
  ⟨Sm.cells_of h 0 _ rfl, Sm.cells_of h 1 _ rfl, Sm.cells_of h 4 _ rfl⟩
theorem At.turned {w w' : World} {k r : Nat} {K : Md} (h : At w k r K) {fp : Nat → Prop} (t : Dk.Turned fp w w') (hk : ¬ fp k) : At w' k r K := (t.block k (Sm.lt_of h) hk).trans h
theorem At.low {w w' : World} {k r : Nat} {K : Md} (h : At w k r K) (b : Below w.heap.size w w') : At w' k r K := (b.block k (Sm.lt_of h)).trans h
/-- A Kept in block k of the call's own, on a disk of the call's own. -/
structure Own (B : Nat) (w0 w : World) (r : Nat) (fp : Nat → Prop) (M : Dk.Md) (k : Nat) (K : Md) : Prop where
  disk : Dk.Own B w0 w r fp M
  at_ : At w k r K
  off : ¬ fp k
  low : B ≤ k
/-- What an act upon it leaves. -/
structure Step (B : Nat) (w0 w w' : World) (r : Nat) (fp fp' : Nat → Prop) (M' : Dk.Md) (k : Nat) (K' : Md) : Prop where
  own : Own B w0 w' r fp' M' k K'
  grown : ∀ q, fp' q → fp q ∨ w.heap.size ≤ q
  turned : Dk.Turned (fun q => fp q ∨ q = k) w w'
section
variable {B : Nat} {w0 w w' : World} {r : Nat} {fp fp' : Nat → Prop} {M M' : Dk.Md} {k : Nat} {K K' : Md}
theorem Own.below (h : Own B w0 w r fp M k K) (b : Below w.heap.size w w') : Own B w0 w' r fp M k K := ⟨h.disk.low b, h.at_.low b, h.off, h.low⟩
theorem Own.lt (h : Own B w0 w r fp M k K) : k < w.heap.size := Sm.lt_of h.at_
theorem turned_set (w : World) (k o : Nat) (v : Value) : Dk.Turned (fun q => q = k) w (w.setCell ⟨k, o, none⟩ v) :=
  ⟨rfl, rfl, rfl, by simp, fun i _ hn => Below.heap_setCell _ ⟨k, o, none⟩ v i hn⟩
/-- Another Kept in its block. -/
theorem Own.set (h : Own B w0 w r fp M k K) (t : Dk.Turned (fun q => q = k) w w') (ha : At w' k r K') : Own B w0 w' r fp M k K' :=
  ⟨⟨h.disk.disk.keep t (fun _ h1 h2 => h.off (h2 ▸ h1)), h.disk.high, h.disk.base, h.disk.below.trans (t.below (fun _ e => e ▸ h.low) h.disk.size)⟩, ha, h.off, h.low⟩
theorem Step.refl (h : Own B w0 w r fp M k K) : Step B w0 w w r fp fp M k K := ⟨h, fun _ hq => .inl hq, Dk.Turned.refl _ _⟩
theorem turned_more {f g : Nat → Prop} (h : Dk.Turned f w w') (hfg : ∀ q, f q → g q) : Dk.Turned g w w' := ⟨h.os, h.tape, h.output, h.size, fun i hi hn => h.block i hi (fun e => hn (hfg i e))⟩
/-- An act upon the disk. -/
theorem Own.act (h : Own B w0 w r fp M k K) (s : Dk.Step B w0 w w' r fp fp' M') : Step B w0 w w' r fp fp' M' k K :=
  ⟨⟨s.own, h.at_.turned s.turned h.off, fun e => by
    rcases s.grown k e with h1 | h1
    · exact h.off h1
    · have := h.lt; omega, h.low⟩, s.grown, turned_more s.turned fun _ => .inl⟩
theorem Step.set {w1 : World} (s : Step B w0 w w' r fp fp' M' k K) (t : Dk.Turned (fun q => q = k) w' w1) (ha : At w1 k r K') : Step B w0 w w1 r fp fp' M' k K' :=
  ⟨s.own.set t ha, s.grown, s.turned.trans (turned_more t fun _ => .inr)⟩
theorem Step.low {w1 : World} (s : Step B w0 w w' r fp fp' M' k K) (b : Below w'.heap.size w' w1) : Step B w0 w w1 r fp fp' M' k K :=
  ⟨s.own.below b, s.grown, s.turned.trans (Dk.Turned.of_below b (Nat.le_refl _))⟩
theorem Step.trans {w1 : World} {fp1 : Nat → Prop} {M1 : Dk.Md} {K1 : Md} (s : Step B w0 w w1 r fp fp1 M1 k K1) (s2 : Step B w0 w1 w' r fp1 fp' M' k K') : Step B w0 w w' r fp fp' M' k K' := by
  have hs := s.turned.size
  refine ⟨s2.own, fun i hi => ?_, ?_⟩
  · rcases s2.grown i hi with e | e
    · exact s.grown i e
    · exact .inr (by omega)
  · exact ⟨s2.turned.os.trans s.turned.os, s2.turned.tape.trans s.turned.tape, s2.turned.output.trans s.turned.output, Nat.le_trans hs s2.turned.size, fun i hi hn =>
      (s2.turned.block i (by omega) (fun e => by
        rcases e with e | e
        · rcases s.grown i e with e | e
          · exact hn (.inl e)
          · omega
        · exact hn (.inr e))).trans (s.turned.block i hi hn)⟩
theorem Step.below (h : Own B w0 w r fp M k K) (b : Below w.heap.size w w') : Step B w0 w w' r fp fp M k K := (Step.refl h).low b
end
/-- What a Kept that Open made is bound by. -/
structure Fit (K : Md) (M : Dk.Md) : Prop where
  at_ : 0 ≤ K.from_ ∧ K.from_ + 20 ≤ M.lasts.length
  next : K.next < 2
  seen : K.seen < 18446744073709551616
  gen : K.gen < 18446744073709551616
  text : K.text.length ≤ 400
  none : K.gen = 0 → K.text = []
theorem Fit.put {K : Md} {M : Dk.Md} (h : Fit K M) (t : List UInt8) : Fit (put K M t).1 (put K M t).2.1 := by
  have hl := len_put K M t
  have h1 := h.at_
  have h2 := h.seen
  unfold Kp.put at hl ⊢
  split
  · exact h
  · split
    · exact h
    · split
      · exact h
      · rename_i h3 h4 h5
        rw [if_neg h3, if_neg h4, if_neg h5] at hl
        split
        · rename_i h6
          rw [if_pos h6] at hl
          exact ⟨⟨h1.1, by simp only at hl ⊢; omega⟩, by simp only; omega, by simp only; omega, by simp only; omega, by simp only; omega, fun e => by simp at e⟩
        · rename_i h6
          rw [if_neg h6] at hl
          exact ⟨⟨h1.1, by simp only at hl ⊢; omega⟩, h.next, h.seen, h.gen, h.text, h.none⟩
theorem At.more {w : World} {k r : Nat} {K : Md} (h : At w k r K) : w.cell? ⟨k, 5, none⟩ = some (.int .u64 (K.seen : Int)) ∧ w.cell? ⟨k, 6, none⟩ = some (.bool K.broken) := ⟨Sm.cells_of h 5 _ rfl, Sm.cells_of h 6 _ rfl⟩
theorem At.broke {w : World} {k r : Nat} {K : Md} (h : At w k r K) : At (w.setCell ⟨k, 6, none⟩ (.bool true)) k r { K with broken := true } := by
  unfold At at h ⊢
  rw [Sm.heap_set h]; rfl
theorem At.done {w : World} {k r : Nat} {K : Md} (h : At w k r K) (hb : K.broken = false) (t : ByteArray) (m : Nat) :
    At ((((w.setCell ⟨k, 2, none⟩ (.string t)).setCell ⟨k, 3, none⟩ (.int .u64 ((K.seen : Int) + 1))).setCell ⟨k, 4, none⟩ (.int .i64 (m : Int))).setCell ⟨k, 5, none⟩ (.int .u64 ((K.seen : Int) + 1))) k r ⟨K.from_, t.data.toList, K.seen + 1, m, K.seen + 1, false⟩ := by
  unfold At at h ⊢
  rw [Sm.heap_set (Sm.heap_set (Sm.heap_set (Sm.heap_set h 2 _) 3 _) 4 _) 5 _]
  unfold Kp.cells
  rw [hb]
  simp
theorem turned_four (w : World) (k : Nat) (a b c d : Value) : Dk.Turned (fun q => q = k) w ((((w.setCell ⟨k, 2, none⟩ a).setCell ⟨k, 3, none⟩ b).setCell ⟨k, 4, none⟩ c).setCell ⟨k, 5, none⟩ d) :=
  (((turned_set w k 2 a).trans (turned_set _ k 3 b)).trans (turned_set _ k 4 c)).trans (turned_set _ k 5 d)
end Kp
set_option maxRecDepth 100000 in
theorem kpPut_nil (w : World) (t : ByteArray) : Calls Try.prog 10 #[.pointer none, .string t] w fun e w' => e = .returned (.int .i64 2) ∧ w = w' := by
  have NO := Lib.hid (kpNone_nil w)
  go_enter Try.func10, Try.ntmps10
  go_wp2_with (go_at_call 18; refine NO.out.mono ?_; rintro e w2 ⟨rfl, rfl⟩)
  go_ret
  exact ⟨rfl, rfl⟩
set_option maxRecDepth 100000 in
set_option maxHeartbeats 2000000 in
theorem kpPut_any {B : Nat} {w0 w : World} {r : Nat} {fp : Nat → Prop} {M : Dk.Md} {k : Nat} {K : Kp.Md} (h : Kp.Own B w0 w r fp M k K) (hf : Kp.Fit K M) (hr : Dk.waits M + 9 ≤ 1099511627776) (t : ByteArray) (htz : t.size ≤ 9223372036854775807) :
    Calls Try.prog 10 #[.pointer (some ⟨k, 0, none⟩), .string t] w fun e w' => ∃ fp', e = .returned (.int .i64 (Kp.put K M t.data.toList).2.2) ∧ Kp.Step B w0 w w' r fp fp' (Kp.put K M t.data.toList).2.1 k (Kp.put K M t.data.toList).1 := by
  have NO := Lib.hid (kpNone_at h.at_)
  obtain ⟨c5, c6⟩ := h.at_.more
  have htl : t.data.toList.length = t.size := by simp
  have H := Lib.hid h
  have hn4 := h.disk.disk.ok.n
  clear h
  by_cases hb : K.broken = true
  · have e : Kp.put K M t.data.toList = (K, M, 11) := by rw [Kp.put, if_pos hb]
    rw [e]
    rw [hb] at c6
    clear hb e
    go_enter Try.func10, Try.ntmps10
    go_wp2_with (go_at_call 18; refine NO.out.mono ?_; rintro e w2 ⟨rfl, rfl⟩)
    go_ret
    exact ⟨fp, rfl, Kp.Step.refl H.out⟩
  have hbf : K.broken = false := by simpa using hb
  rw [hbf] at c6
  by_cases h4 : 400 < t.size
  · have e : Kp.put K M t.data.toList = (K, M, 3) := by rw [Kp.put, if_neg hb, if_pos (by rw [htl]; exact h4)]
    rw [e]
    have hi : (400 : Int) < t.size := by omega
    clear hb e htl
    go_enter Try.func10, Try.ntmps10
    go_wp2_with (go_at_call 18; refine NO.out.mono ?_; rintro e w2 ⟨rfl, rfl⟩)
    go_ret
    exact ⟨fp, rfl, Kp.Step.refl H.out⟩
  have hi : ¬ (400 : Int) < t.size := by omega
  have hs64 := hf.seen
  by_cases h5 : K.seen = 18446744073709551615
  · have e : Kp.put K M t.data.toList = (K, M, 6) := by rw [Kp.put, if_neg hb, if_neg (by rw [htl]; exact h4), if_pos h5]
    rw [e]
    rw [h5] at c5
    clear hb e htl h5
    go_enter Try.func10, Try.ntmps10
    go_wp2_with (go_at_call 18; refine NO.out.mono ?_; rintro e w2 ⟨rfl, rfl⟩)
    go_ret
    exact ⟨fp, rfl, Kp.Step.refl H.out⟩
  obtain ⟨tl, htl2⟩ : ∃ l, l = t.data.toList := ⟨_, rfl⟩
  obtain ⟨Z, hZ⟩ : ∃ Z, Z = Kp.save M (K.from_ + (K.next : Int) * 10) (Kp.bodies tl (K.seen + 1)) := ⟨_, rfl⟩
  have PU : Hid (Kp.put K M tl = if Z.2 = 0 then (⟨K.from_, tl, K.seen + 1, 1 - K.next, K.seen + 1, false⟩, Z.1, 0) else ({ K with broken := true }, Z.1, Z.2)) := by
    show _ = _
    rw [Kp.put, if_neg hb, if_neg (by rw [htl2, htl]; exact h4), if_neg h5, ← hZ]
  obtain ⟨sn, hsn⟩ : ∃ s, s = K.seen := ⟨_, rfl⟩
  obtain ⟨P, hP⟩ : ∃ P, P = Kp.parts tl := ⟨_, rfl⟩
  have hP9 := Kp.parts_le (t := tl) (by rw [htl2, htl]; omega)
  rw [← hP] at hP9
  obtain ⟨a0, ha0⟩ : ∃ a, a = K.from_ + (K.next : Int) * 10 := ⟨_, rfl⟩
  have hn2 := hf.next
  have hf1 := hf.at_
  have BO : Hid (∀ (wx : World) (A : Option Addr) (c : Nat), Pt.NumsAt wx A [sn + 1] → Calls Try.prog 21 #[.string t, .slice A 1 c] wx fun e w' => ∃ A' c', e = .returned (.slice A' P c') ∧ Kp.StrsAt w' A' (Kp.bodies tl (K.seen + 1)) ∧ (∀ q o, A' = some ⟨q, o, none⟩ → wx.heap.size ≤ q) ∧ Below wx.heap.size wx w') := fun wx A c hA => by
    have h := ptBodies_new wx t A c [sn + 1] (n := 48) (by rfl) (by simp) (by simp) hA (by omega)
    rw [← htl2, ← Pt.kp_bodies, ← Pt.kp_parts, ← hP, hsn] at h
    exact h
  have WR : Hid (∀ (wx : World), Below w.heap.size w wx → ∀ (A : Option Addr) (c : Nat), Kp.StrsAt wx A (Kp.bodies tl (K.seen + 1)) → (∀ q o, A = some ⟨q, o, none⟩ → w.heap.size ≤ q) → Calls Try.prog 20 #[.pointer (some ⟨r, 0, none⟩), .int .i64 a0, .slice A P c] wx fun e w' => ∃ fp', e = .returned (.int .i64 Z.2) ∧ Dk.Step B w0 wx w' r fp fp' Z.1) := fun wx hx A c hs hq => by
    have hll : (Kp.bodies tl (K.seen + 1)).length = P := by rw [Kp.bodies_length, hP]
    have h := ptWrite_any (H.out.disk.low hx) A c (Kp.bodies tl (K.seen + 1)) hs (fun q o e hf => by have h1 := hq q o e; have h2 := H.out.disk.lt q hf; omega) (by rw [Pt.kp_bodies]; exact Pt.bodies_all (by rfl) _) (by omega) (by omega) a0 (by omega)
    rw [hll, ha0, ← hZ] at h
    rw [ha0]
    exact h
  obtain ⟨fv, hfv⟩ : ∃ f, f = K.from_ := ⟨_, rfl⟩
  obtain ⟨nv, hnv⟩ : ∃ n, n = K.next := ⟨_, rfl⟩
  have FV := Lib.hid hfv
  have NV := Lib.hid hnv
  have V1 : Hid (IntKind.i64.wrap ((nv : Int) * 10) = (nv : Int) * 10) := IntWalk.i64_in _ (by omega)
  have V2 : Hid (IntKind.i64.wrap (fv + (nv : Int) * 10) = a0) := by show _ = _; rw [ha0, hfv, hnv]; exact IntWalk.i64_in _ (by omega)
  have CL : Hid (∀ wx : World, Calls Try.prog 19 #[.string t] wx fun e w' => e = .returned (.string t) ∧ Below wx.heap.size wx w') := fun wx => strings_Clone_any wx t (by omega)
  rw [← htl2]
  rw [← hsn] at c5 h5 hs64
  have hsi : ¬ (sn : Int) = 18446744073709551615 := by omega
  have hsb : ((sn : Int) == 18446744073709551615) = false := beq_eq_false_iff_ne.2 hsi
  have hsw : IntKind.u64.wrap ((sn : Int) + 1) = (sn : Int) + 1 := by rw [IntKind.wrap_u64]; omega
  have hz1 := (zero_of_info Kp.info_record).1
  have HTL := Lib.hid htl2
  have HBF := Lib.hid hbf
  have HSN := Lib.hid hsn
  have HNX := Lib.hid hf.next
  have hkl := H.out.lt
  obtain ⟨ca, hca⟩ : ∃ c : List Value, c = [.string t, .int .u64 ((sn : Int) + 1)] := ⟨_, rfl⟩
  have HCA : Hid (ca.length = 2) := by show _ = _; rw [hca]; rfl
  have HAO : Hid (ca.toArray.all (·.oneCell') = true) := by show _ = _; rw [hca]; simp [Value.oneCell']
  have HCA2 := Lib.hid hca
  clear hb h4 h5 htl htl2 hsn hf hZ hbf hca hP hP9 ha0 hn2 hf1 hfv hnv
  go_enter Try.func10, Try.ntmps10
  go_upto_region 9 with (go_at_call 18; refine NO.out.mono ?_; rintro e w2 ⟨rfl, rfl⟩)
  go_cut [5] from 21 (fun s5 wx => ∃ n : Nat, s5 = .pointer (some ⟨n, 0, none⟩) ∧ Below w.heap.size w wx ∧ wx.heap[n]? = some (.cells ca.toArray 68 (0, 0)) ∧ w.heap.size ≤ n)
  case first =>
    refine wp_region_held_drew (S := fun wx => wx.cell? ⟨k, 5, none⟩ = some (.int .u64 (sn : Int))) (by kernel_rfl) c5 (fun hHeld => ?_)
    have b0 : Below w.heap.size w w.drew := Sm.below_drewN (Below.refl _ w) 1
    generalize w.drew = W0 at *
    refine wpAnyH_take (i := 0) (oi := ⟨some 21, _, _, _, _, _⟩) (v := .string t) rfl (by kernel_rfl) (by kernel_rfl) (by kernel_rfl) (fun _ _ _ h => h) (Or.inl ⟨by rfl, ?_⟩) (by assumption) ?_
    · intro w hSw; (try dsimp only at hSw); go_simp
    simp only [Act.put, List.setIfInBounds_toArray, List.set_cons_zero, List.set_cons_succ]
    refine wpAnyH_take (i := 2) (oi := ⟨some 23, _, _, _, _, _⟩) (v := .pointer (some ⟨k, 0, none⟩)) rfl (by kernel_rfl) (by kernel_rfl) (by kernel_rfl) (fun _ _ _ h => h) (Or.inl ⟨by rfl, ?_⟩) (by assumption) ?_
    · intro w hSw; (try dsimp only at hSw); go_simp
    simp only [Act.put, List.setIfInBounds_toArray, List.set_cons_zero, List.set_cons_succ]
    refine wpAnyH_take (i := 3) (oi := ⟨some 24, _, _, _, _, _⟩) (v := .pointer (some ⟨k, 0, none⟩)) rfl (by kernel_rfl) (by kernel_rfl) (by kernel_rfl) (fun _ _ _ h => h) (Or.inl ⟨by rfl, ?_⟩) (by assumption) ?_
    · intro w hSw; (try dsimp only at hSw); go_simp
    simp only [Act.put, List.setIfInBounds_toArray, List.set_cons_zero, List.set_cons_succ]
    refine wpAnyH_take (i := 4) (oi := ⟨some 25, _, _, _, _, _⟩) (v := .pointer (some ⟨k, 5, none⟩)) rfl (by kernel_rfl) (by kernel_rfl) (by kernel_rfl) (fun _ _ _ h => h) (Or.inl ⟨by rfl, ?_⟩) (by assumption) ?_
    · intro w hSw; (try dsimp only at hSw); go_simp
    simp only [Act.put, List.setIfInBounds_toArray, List.set_cons_zero, List.set_cons_succ]
    refine wpAnyH_take (i := 5) (oi := ⟨some 26, _, _, _, _, _⟩) (v := .int .u64 (sn : Int)) rfl (by kernel_rfl) (by kernel_rfl) (by kernel_rfl) (fun _ _ _ h => h) (Or.inl ⟨by rfl, ?_⟩) (by assumption) ?_
    · intro w hSw; (try dsimp only at hSw); go_simp
    simp only [Act.put, List.setIfInBounds_toArray, List.set_cons_zero, List.set_cons_succ]
    refine wpAnyH_take (i := 6) (oi := ⟨some 27, _, _, _, _, _⟩) (v := .int .u64 ((sn : Int) + 1)) rfl (by kernel_rfl) (by kernel_rfl) (by kernel_rfl) (fun _ _ _ h => h) (Or.inl ⟨by rfl, ?_⟩) (by assumption) ?_
    · intro w hSw; (try dsimp only at hSw); go_simp
    simp only [Act.put, List.setIfInBounds_toArray, List.set_cons_zero, List.set_cons_succ]
    refine wpAnyH_ready (rs := [1, 8]) (by kernel_rfl) (by simp) ?_
    refine (AllReadyH.cons (o := ⟨some 22, _, _, _, _, _⟩) rfl (fun K hK => ?_) (AllReadyH.cons (o := ⟨some 5, _, _, _, _, _⟩) rfl (fun K hK => ?_) AllReadyH.nil))
    · go_simp
      refine (CL.out _).mono ?_
      rintro e w1 ⟨rfl, kk⟩
      have b2 := b0.trans (kk.mono b0.size)
      clear kk
      refine hK.out _ _ ((b2.cell (p := ⟨k, 5, none⟩) hkl).trans c5) (fun hHeld => ?_)
      clear hK K
      refine wpAnyH_take (i := 7) (oi := ⟨some 28, _, _, _, _, _⟩) (v := .agg ca.toArray) rfl (by kernel_rfl) (by kernel_rfl) (by kernel_rfl) (fun _ _ _ h => h) (Or.inl ⟨by rfl, ?_⟩) (by assumption) ?_
      · intro w hSw; (try dsimp only at hSw); have hq := HCA2.out; go_simp
      simp only [Act.put, List.setIfInBounds_toArray, List.set_cons_zero, List.set_cons_succ]
      refine wpAnyH_ready (rs := [8]) (by kernel_rfl) (by simp) ?_
      refine (AllReadyH.cons (o := ⟨some 5, _, _, _, _, _⟩) rfl (fun K hK => ?_) AllReadyH.nil)
      · go_simp
        have b4 := b2.alloc b2.size (.cells #[.string ⟨#[]⟩, .int .u64 0] 68)
        have hp6 := heap_alloc_new w1 (.cells #[.string ⟨#[]⟩, .int .u64 0] 68)
        have len5 := b2.size
        obtain ⟨n5, hnn⟩ : ∃ n, n = w1.heap.size := ⟨_, rfl⟩
        rw [← hnn] at hp6 len5 ⊢
        clear hnn
        generalize w1.alloc (.cells #[.string ⟨#[]⟩, .int .u64 0] 68) = w3 at *
        refine hK.out _ _ ((b4.cell (p := ⟨k, 5, none⟩) hkl).trans c5) (fun hHeld => ?_)
        clear hK K
        refine wpAnyH_ready (rs := [9]) (by kernel_rfl) (by simp) ?_
        refine (AllReadyH.cons (o := ⟨none, _, _, _, _, _⟩) rfl (fun K hK => ?_) AllReadyH.nil)
        rw [if_pos (by simp [Region.wanted])]
        refine wp_store_mid 68 (.tmp 5) (.tmp 28) rfl n5 0 ca.toArray rfl rfl (Sm.there_row hp6 (by show 2 = _; rw [List.size_toArray, HCA.out])) (Kp.size_record (by rw [List.size_toArray, HCA.out])) HAO.out ?_
        refine hK.out _ _ ((Sm.below_setCells (len5) _ 0 b4).cell (p := ⟨k, 5, none⟩) hkl |>.trans c5) (fun hHeld => ?_)
        clear hK K
        refine wpAnyH_done (by kernel_rfl) ?_ _
        go_wp2_with fail
        go_meet
        exact ⟨n5, rfl, Sm.below_setCells len5 _ 0 b4, Sm.heap_setAll hp6 (by rw [HCA.out]; rfl), len5⟩
    · go_simp
      have b8 := b0.alloc b0.size (.cells #[.string ⟨#[]⟩, .int .u64 0] 68)
      have hp10 := heap_alloc_new W0 (.cells #[.string ⟨#[]⟩, .int .u64 0] 68)
      have len9 := b0.size
      obtain ⟨n9, hnn⟩ : ∃ n, n = W0.heap.size := ⟨_, rfl⟩
      rw [← hnn] at hp10 len9 ⊢
      clear hnn
      generalize W0.alloc (.cells #[.string ⟨#[]⟩, .int .u64 0] 68) = w7 at *
      refine hK.out _ _ ((b8.cell (p := ⟨k, 5, none⟩) hkl).trans c5) (fun hHeld => ?_)
      clear hK K
      refine wpAnyH_ready (rs := [1]) (by kernel_rfl) (by simp) ?_
      refine (AllReadyH.cons (o := ⟨some 22, _, _, _, _, _⟩) rfl (fun K hK => ?_) AllReadyH.nil)
      · go_simp
        refine (CL.out _).mono ?_
        rintro e w11 ⟨rfl, kk⟩
        have b12 := b8.trans (kk.mono b8.size)
        have hp13 := (kk.block n9 (Sm.lt_of hp10)).trans hp10
        clear kk
        refine hK.out _ _ ((b12.cell (p := ⟨k, 5, none⟩) hkl).trans c5) (fun hHeld => ?_)
        clear hK K
        refine wpAnyH_take (i := 7) (oi := ⟨some 28, _, _, _, _, _⟩) (v := .agg ca.toArray) rfl (by kernel_rfl) (by kernel_rfl) (by kernel_rfl) (fun _ _ _ h => h) (Or.inl ⟨by rfl, ?_⟩) (by assumption) ?_
        · intro w hSw; (try dsimp only at hSw); have hq := HCA2.out; go_simp
        simp only [Act.put, List.setIfInBounds_toArray, List.set_cons_zero, List.set_cons_succ]
        refine wpAnyH_ready (rs := [9]) (by kernel_rfl) (by simp) ?_
        refine (AllReadyH.cons (o := ⟨none, _, _, _, _, _⟩) rfl (fun K hK => ?_) AllReadyH.nil)
        rw [if_pos (by simp [Region.wanted])]
        refine wp_store_mid 68 (.tmp 5) (.tmp 28) rfl n9 0 ca.toArray rfl rfl (Sm.there_row hp13 (by show 2 = _; rw [List.size_toArray, HCA.out])) (Kp.size_record (by rw [List.size_toArray, HCA.out])) HAO.out ?_
        refine hK.out _ _ ((Sm.below_setCells (len9) _ 0 b12).cell (p := ⟨k, 5, none⟩) hkl |>.trans c5) (fun hHeld => ?_)
        clear hK K
        refine wpAnyH_done (by kernel_rfl) ?_ _
        go_wp2_with fail
        go_meet
        exact ⟨n9, rfl, Sm.below_setCells len9 _ 0 b12, Sm.heap_setAll hp13 (by rw [HCA.out]; rfl), len9⟩
  case rest =>
    obtain ⟨n, rfl, q1, q2, q3⟩ := hcut
    rw [HCA2.out] at q2
    have e0 := Sm.cells_of q2 0 _ rfl
    have e1 := Sm.cells_of q2 1 _ rfl
    have Q1 := Lib.hid q1
    have Q2 := Lib.hid q2
    have hnl := Sm.lt_of q2
    clear q1 q2 c5 c6
    rename World => wc
    have GN : Hid (∀ wx, Below wc.heap.size wc wx → wx.heap[n]? = some (.cells #[.string t, .int .u64 ((sn : Int) + 1)] 68 (0, 0))) := fun wx hx => (hx.block n hnl).trans Q2.out
    have CS : Hid (∀ wx, Kp.At wx k r K → wx.heap[n]? = some (.cells #[.string t, .int .u64 ((sn : Int) + 1)] 68 (0, 0)) → wx.cell? ⟨k, 0, none⟩ = some (.pointer (some ⟨r, 0, none⟩)) ∧ wx.cell? ⟨k, 1, none⟩ = some (.int .i64 fv) ∧ wx.cell? ⟨k, 4, none⟩ = some (.int .i64 (nv : Int)) ∧ wx.cell? ⟨n, 0, none⟩ = some (.string t) ∧ wx.cell? ⟨n, 1, none⟩ = some (.int .u64 ((sn : Int) + 1))) := fun wx h1 h2 => by
      obtain ⟨p0, p1, p4⟩ := h1.cells
      rw [FV.out, NV.out]
      exact ⟨p0, p1, p4, Sm.cells_of h2 0 _ rfl, Sm.cells_of h2 1 _ rfl⟩
    have CW : Hid (∀ wx, Below wc.heap.size wc wx → wx.cell? ⟨k, 0, none⟩ = some (.pointer (some ⟨r, 0, none⟩)) ∧ wx.cell? ⟨k, 1, none⟩ = some (.int .i64 fv) ∧ wx.cell? ⟨k, 4, none⟩ = some (.int .i64 (nv : Int)) ∧ wx.cell? ⟨n, 0, none⟩ = some (.string t) ∧ wx.cell? ⟨n, 1, none⟩ = some (.int .u64 ((sn : Int) + 1))) := fun wx hx => CS.out wx ((H.out.below Q1.out).below hx).at_ (GN.out wx hx)
    have v1 := V1.out
    have v2 := V2.out
    clear e0 e1
    go_upto_region 10 with (fail)
    have b2 : Below wc.heap.size wc wc.drew := Sm.below_drewN (Below.refl _ wc) 1
    refine wp_region_held_drew (S := fun wx => wx.cell? ⟨k, 0, none⟩ = some (.pointer (some ⟨r, 0, none⟩)) ∧ wx.cell? ⟨k, 1, none⟩ = some (.int .i64 fv) ∧ wx.cell? ⟨k, 4, none⟩ = some (.int .i64 (nv : Int)) ∧ wx.cell? ⟨n, 0, none⟩ = some (.string t) ∧ wx.cell? ⟨n, 1, none⟩ = some (.int .u64 ((sn : Int) + 1))) (by kernel_rfl) (CW.out _ b2) (fun hHeld => ?_)
    generalize wc.drew = W2 at *
    refine wpAnyH_take (i := 0) (oi := ⟨some 29, _, _, _, _, _⟩) (v := .pointer (some ⟨k, 0, none⟩)) rfl (by kernel_rfl) (by kernel_rfl) (by kernel_rfl) (fun _ _ _ h => h) (Or.inl ⟨by rfl, ?_⟩) (by assumption) ?_
    · intro w hSw; (try dsimp only at hSw); go_simp
    simp only [Act.put, List.setIfInBounds_toArray, List.set_cons_zero, List.set_cons_succ]
    refine wpAnyH_take (i := 1) (oi := ⟨some 30, _, _, _, _, _⟩) (v := .pointer (some ⟨k, 0, none⟩)) rfl (by kernel_rfl) (by kernel_rfl) (by kernel_rfl) (fun _ _ _ h => h) (Or.inl ⟨by rfl, ?_⟩) (by assumption) ?_
    · intro w hSw; (try dsimp only at hSw); obtain ⟨y0, y1, y4, z0, z1⟩ := hSw; go_simp
    simp only [Act.put, List.setIfInBounds_toArray, List.set_cons_zero, List.set_cons_succ]
    refine wpAnyH_take (i := 2) (oi := ⟨some 31, _, _, _, _, _⟩) (v := .pointer (some ⟨k, 0, none⟩)) rfl (by kernel_rfl) (by kernel_rfl) (by kernel_rfl) (fun _ _ _ h => h) (Or.inl ⟨by rfl, ?_⟩) (by assumption) ?_
    · intro w hSw; (try dsimp only at hSw); go_simp
    simp only [Act.put, List.setIfInBounds_toArray, List.set_cons_zero, List.set_cons_succ]
    refine wpAnyH_take (i := 3) (oi := ⟨some 32, _, _, _, _, _⟩) (v := .pointer (some ⟨r, 0, none⟩)) rfl (by kernel_rfl) (by kernel_rfl) (by kernel_rfl) (fun _ _ _ h => h) (Or.inl ⟨by rfl, ?_⟩) (by assumption) ?_
    · intro w hSw; (try dsimp only at hSw); obtain ⟨y0, y1, y4, z0, z1⟩ := hSw; go_simp
    simp only [Act.put, List.setIfInBounds_toArray, List.set_cons_zero, List.set_cons_succ]
    refine wpAnyH_take (i := 4) (oi := ⟨some 33, _, _, _, _, _⟩) (v := .pointer (some ⟨k, 0, none⟩)) rfl (by kernel_rfl) (by kernel_rfl) (by kernel_rfl) (fun _ _ _ h => h) (Or.inl ⟨by rfl, ?_⟩) (by assumption) ?_
    · intro w hSw; (try dsimp only at hSw); go_simp
    simp only [Act.put, List.setIfInBounds_toArray, List.set_cons_zero, List.set_cons_succ]
    refine wpAnyH_take (i := 5) (oi := ⟨some 34, _, _, _, _, _⟩) (v := .pointer (some ⟨k, 0, none⟩)) rfl (by kernel_rfl) (by kernel_rfl) (by kernel_rfl) (fun _ _ _ h => h) (Or.inl ⟨by rfl, ?_⟩) (by assumption) ?_
    · intro w hSw; (try dsimp only at hSw); obtain ⟨y0, y1, y4, z0, z1⟩ := hSw; go_simp
    simp only [Act.put, List.setIfInBounds_toArray, List.set_cons_zero, List.set_cons_succ]
    refine wpAnyH_take (i := 6) (oi := ⟨some 35, _, _, _, _, _⟩) (v := .pointer (some ⟨k, 1, none⟩)) rfl (by kernel_rfl) (by kernel_rfl) (by kernel_rfl) (fun _ _ _ h => h) (Or.inl ⟨by rfl, ?_⟩) (by assumption) ?_
    · intro w hSw; (try dsimp only at hSw); go_simp
    simp only [Act.put, List.setIfInBounds_toArray, List.set_cons_zero, List.set_cons_succ]
    refine wpAnyH_take (i := 7) (oi := ⟨some 36, _, _, _, _, _⟩) (v := .int .i64 fv) rfl (by kernel_rfl) (by kernel_rfl) (by kernel_rfl) (fun _ _ _ h => h) (Or.inl ⟨by rfl, ?_⟩) (by assumption) ?_
    · intro w hSw; (try dsimp only at hSw); obtain ⟨y0, y1, y4, z0, z1⟩ := hSw; go_simp
    simp only [Act.put, List.setIfInBounds_toArray, List.set_cons_zero, List.set_cons_succ]
    refine wpAnyH_take (i := 8) (oi := ⟨some 37, _, _, _, _, _⟩) (v := .pointer (some ⟨k, 0, none⟩)) rfl (by kernel_rfl) (by kernel_rfl) (by kernel_rfl) (fun _ _ _ h => h) (Or.inl ⟨by rfl, ?_⟩) (by assumption) ?_
    · intro w hSw; (try dsimp only at hSw); go_simp
    simp only [Act.put, List.setIfInBounds_toArray, List.set_cons_zero, List.set_cons_succ]
    refine wpAnyH_take (i := 9) (oi := ⟨some 38, _, _, _, _, _⟩) (v := .pointer (some ⟨k, 0, none⟩)) rfl (by kernel_rfl) (by kernel_rfl) (by kernel_rfl) (fun _ _ _ h => h) (Or.inl ⟨by rfl, ?_⟩) (by assumption) ?_
    · intro w hSw; (try dsimp only at hSw); obtain ⟨y0, y1, y4, z0, z1⟩ := hSw; go_simp
    simp only [Act.put, List.setIfInBounds_toArray, List.set_cons_zero, List.set_cons_succ]
    refine wpAnyH_take (i := 10) (oi := ⟨some 39, _, _, _, _, _⟩) (v := .pointer (some ⟨k, 4, none⟩)) rfl (by kernel_rfl) (by kernel_rfl) (by kernel_rfl) (fun _ _ _ h => h) (Or.inl ⟨by rfl, ?_⟩) (by assumption) ?_
    · intro w hSw; (try dsimp only at hSw); go_simp
    simp only [Act.put, List.setIfInBounds_toArray, List.set_cons_zero, List.set_cons_succ]
    refine wpAnyH_take (i := 11) (oi := ⟨some 40, _, _, _, _, _⟩) (v := .int .i64 (nv : Int)) rfl (by kernel_rfl) (by kernel_rfl) (by kernel_rfl) (fun _ _ _ h => h) (Or.inl ⟨by rfl, ?_⟩) (by assumption) ?_
    · intro w hSw; (try dsimp only at hSw); obtain ⟨y0, y1, y4, z0, z1⟩ := hSw; go_simp
    simp only [Act.put, List.setIfInBounds_toArray, List.set_cons_zero, List.set_cons_succ]
    refine wpAnyH_take (i := 12) (oi := ⟨some 41, _, _, _, _, _⟩) (v := .int .i64 ((nv : Int) * 10)) rfl (by kernel_rfl) (by kernel_rfl) (by kernel_rfl) (fun _ _ _ h => h) (Or.inl ⟨by rfl, ?_⟩) (by assumption) ?_
    · intro w hSw; (try dsimp only at hSw); go_simp
    simp only [Act.put, List.setIfInBounds_toArray, List.set_cons_zero, List.set_cons_succ]
    refine wpAnyH_take (i := 13) (oi := ⟨some 42, _, _, _, _, _⟩) (v := .int .i64 a0) rfl (by kernel_rfl) (by kernel_rfl) (by kernel_rfl) (fun _ _ _ h => h) (Or.inl ⟨by rfl, ?_⟩) (by assumption) ?_
    · intro w hSw; (try dsimp only at hSw); go_simp
    simp only [Act.put, List.setIfInBounds_toArray, List.set_cons_zero, List.set_cons_succ]
    refine wpAnyH_take (i := 14) (oi := ⟨some 43, _, _, _, _, _⟩) (v := .pointer (some ⟨n, 0, none⟩)) rfl (by kernel_rfl) (by kernel_rfl) (by kernel_rfl) (fun _ _ _ h => h) (Or.inl ⟨by rfl, ?_⟩) (by assumption) ?_
    · intro w hSw; (try dsimp only at hSw); obtain ⟨y0, y1, y4, z0, z1⟩ := hSw; go_simp
    simp only [Act.put, List.setIfInBounds_toArray, List.set_cons_zero, List.set_cons_succ]
    refine wpAnyH_take (i := 15) (oi := ⟨some 44, _, _, _, _, _⟩) (v := .string t) rfl (by kernel_rfl) (by kernel_rfl) (by kernel_rfl) (fun _ _ _ h => h) (Or.inl ⟨by rfl, ?_⟩) (by assumption) ?_
    · intro w hSw; (try dsimp only at hSw); obtain ⟨y0, y1, y4, z0, z1⟩ := hSw; go_simp
    simp only [Act.put, List.setIfInBounds_toArray, List.set_cons_zero, List.set_cons_succ]
    refine wpAnyH_take (i := 16) (oi := ⟨some 45, _, _, _, _, _⟩) (v := .pointer (some ⟨n, 1, none⟩)) rfl (by kernel_rfl) (by kernel_rfl) (by kernel_rfl) (fun _ _ _ h => h) (Or.inl ⟨by rfl, ?_⟩) (by assumption) ?_
    · intro w hSw; (try dsimp only at hSw); obtain ⟨y0, y1, y4, z0, z1⟩ := hSw; go_simp
    simp only [Act.put, List.setIfInBounds_toArray, List.set_cons_zero, List.set_cons_succ]
    refine wpAnyH_take (i := 17) (oi := ⟨some 46, _, _, _, _, _⟩) (v := .int .u64 ((sn : Int) + 1)) rfl (by kernel_rfl) (by kernel_rfl) (by kernel_rfl) (fun _ _ _ h => h) (Or.inl ⟨by rfl, ?_⟩) (by assumption) ?_
    · intro w hSw; (try dsimp only at hSw); obtain ⟨y0, y1, y4, z0, z1⟩ := hSw; go_simp
    simp only [Act.put, List.setIfInBounds_toArray, List.set_cons_zero, List.set_cons_succ]
    refine wpAnyH_ready (rs := [18]) (by kernel_rfl) (by simp) ?_
    refine (AllReadyH.cons (o := ⟨some 47, _, _, _, _, _⟩) rfl (fun KK hK => ?_) AllReadyH.nil)
    go_simp
    have b3 := b2.alloc b2.size (.cells #[.int .u64 ((sn : Int) + 1)] 37)
    have g3 := heap_alloc_new W2 (.cells #[.int .u64 ((sn : Int) + 1)] 37)
    obtain ⟨nn, hnn⟩ : ∃ n, n = W2.heap.size := ⟨_, rfl⟩
    rw [← hnn] at g3 ⊢
    clear hnn
    generalize W2.alloc (.cells #[.int .u64 ((sn : Int) + 1)] 37) = W3 at *
    have HN3 : Pt.NumsAt W3 (some ⟨nn, 0, none⟩) [sn + 1] := ⟨nn, 0, rfl, Sm.lt_of g3, fun i hi => by
      match i, hi with
      | 0, _ => exact Sm.cells_of g3 0 _ rfl
      | n + 1, h => simp at h⟩
    have BO3 := Lib.hid (BO.out W3 _ 1 HN3)
    have B3 := Lib.hid b3
    clear b3 g3 HN3
    refine hK.out _ _ (CW.out _ B3.out) (fun hHeld => ?_)
    clear hK KK
    refine wpAnyH_ready (rs := [19]) (by kernel_rfl) (by simp) ?_
    refine (AllReadyH.cons (o := ⟨some 48, _, _, _, _, _⟩) rfl (fun KK hK => ?_) AllReadyH.nil)
    go_simp
    refine (BO3.out).mono ?_
    rintro e W4 ⟨Ab, cb, rfl, sb, nq, k4⟩
    have d4 : Below wc.heap.size wc W4 := B3.out.trans (k4.mono B3.out.size)
    have b4 : Below w.heap.size w W4 := Q1.out.trans (d4.mono Q1.out.size)
    have WR4 := Lib.hid (WR.out W4 b4 Ab cb sb (fun q o e => Nat.le_trans (Nat.le_trans Q1.out.size B3.out.size) (nq q o e)))
    have B4 := Lib.hid b4
    have D4 := Lib.hid d4
    clear b4 d4 k4 sb nq
    refine hK.out _ _ (CW.out _ D4.out) (fun hHeld => ?_)
    clear hK KK
    refine wpAnyH_ready (rs := [20]) (by kernel_rfl) (by simp) ?_
    refine (AllReadyH.cons (o := ⟨some 49, _, _, _, _, _⟩) rfl (fun KK hK => ?_) AllReadyH.nil)
    go_simp
    refine (WR4.out).mono ?_
    rintro e w3 ⟨fp3, rfl, st3⟩
    have hnfp : ¬ fp n := fun e => by have := H.out.disk.lt n e; omega
    have g3 := (st3.turned.block n (by have := D4.out.size; omega) hnfp).trans (GN.out _ D4.out)
    have ST3 := Lib.hid (((Kp.Step.below H.out B4.out)).trans ((H.out.below B4.out).act st3))
    have G3 := Lib.hid g3
    clear st3 g3
    refine hK.out _ _ (CS.out _ ST3.out.own.at_ G3.out) (fun hHeld => ?_)
    clear hK KK
    refine wpAnyH_take (i := 21) (oi := ⟨some 6, _, _, _, _, _⟩) (v := .int .i64 Z.2) rfl (by kernel_rfl) (by kernel_rfl) (by kernel_rfl) (fun _ _ _ h => h) (Or.inl ⟨by rfl, ?_⟩) (by assumption) ?_
    · intro w hSw; (try dsimp only at hSw); go_simp
    simp only [Act.put, List.setIfInBounds_toArray, List.set_cons_zero, List.set_cons_succ]
    refine wpAnyH_done (by kernel_rfl) ?_ _
    clear v1 v2 CW CS
    by_cases hz : Z.2 = 0
    · have PU2 : Hid (Kp.put K M tl = (⟨K.from_, tl, K.seen + 1, 1 - K.next, K.seen + 1, false⟩, Z.1, 0)) := by
        show _ = _
        rw [PU.out, if_pos hz]
      rw [hz]
      have ST3d := Lib.hid (ST3.out.low (Sm.below_drewN (Below.refl _ _) 1))
      have at3 := ST3d.out.own.at_
      have g3d : (w3.drewN 1).heap[n]? = some (.cells #[.string t, .int .u64 ((sn : Int) + 1)] 68 (0, 0)) := G3.out
      change Kp.At w3.drew k r K at at3
      change w3.drew.heap[n]? = _ at g3d
      have d2 := Sm.cells_of at3 2 (.string ⟨K.text.toArray⟩) rfl
      have d3 := Sm.cells_of at3 3 (.int .u64 (K.gen : Int)) rfl
      have d4 := Sm.cells_of at3 4 (.int .i64 (K.next : Int)) rfl
      have d5 := Sm.cells_of at3 5 (.int .u64 (K.seen : Int)) rfl
      have f2 := Sm.free_of at3 2
      have f3 := Sm.free_of at3 3
      have f4 := Sm.free_of at3 4
      have f5 := Sm.free_of at3 5
      have e0 := Sm.cells_of g3d 0 _ rfl
      have e1 := Sm.cells_of g3d 1 _ rfl
      have at3w := ST3.out.own.at_
      have d2w := Sm.cells_of at3w 2 (.string ⟨K.text.toArray⟩) rfl
      have d3w := Sm.cells_of at3w 3 (.int .u64 (K.gen : Int)) rfl
      have d4w := Sm.cells_of at3w 4 (.int .i64 (K.next : Int)) rfl
      have d5w := Sm.cells_of at3w 5 (.int .u64 (K.seen : Int)) rfl
      have f2w := Sm.free_of at3w 2
      have f3w := Sm.free_of at3w 3
      have f4w := Sm.free_of at3w 4
      have f5w := Sm.free_of at3w 5
      have e0w := Sm.cells_of G3.out 0 _ rfl
      have e1w := Sm.cells_of G3.out 1 _ rfl
      have hnx := HNX.out
      obtain ⟨m, hm⟩ : ∃ m, m = 1 - K.next := ⟨_, rfl⟩
      have hw1 : IntKind.i64.wrap (1 - (K.next : Int)) = (m : Int) := by rw [IntWalk.i64_in _ (by omega)]; omega
      have HM := Lib.hid hm
      obtain ⟨nx, hnxe⟩ : ∃ x, x = K.next := ⟨_, rfl⟩
      have HNXE := Lib.hid hnxe
      rw [← hnxe] at hw1 d4 d4w hnx
      have AT3 := Lib.hid at3
      clear hm hnxe at3 g3d at3w
      go_upto_region 14 with (fail)
      go_region
      have stf := ST3.out.set (Kp.turned_four w3 k (.string t) (.int .u64 ((K.seen : Int) + 1)) (.int .i64 (m : Int)) (.int .u64 ((K.seen : Int) + 1))) (ST3.out.own.at_.done HBF.out t m)
      rw [← HSN.out, ← HTL.out, HM.out] at stf
      have STF := Lib.hid (stf.low (Sm.below_drewN (Below.refl _ _) 1))
      rw [← HM.out] at STF
      clear stf d2 d3 d4 d5 f2 f3 f4 f5 e0 e1 d2w d3w d4w d5w f2w f3w f4w f5w e0w e1w
      go_wp2_with fail
      go_ret
      rw [PU2.out]
      refine ⟨fp3, rfl, ?_⟩
      rw [← HSN.out, ← HM.out]
      exact STF.out
    · have PU2 : Hid (Kp.put K M tl = ({ K with broken := true }, Z.1, Z.2)) := by
        show _ = _
        rw [PU.out, if_neg hz]
      have at3 := ST3.out.own.at_
      have d6 := Sm.cells_of at3 6 (.bool K.broken) rfl
      have f6 := Sm.free_of at3 6
      have ST4 := Lib.hid (ST3.out.set (Kp.turned_set w3 k 6 (.bool true)) at3.broke)
      obtain ⟨y, hy⟩ : ∃ y, y = Z.2 := ⟨_, rfl⟩
      have HYY := Lib.hid hy
      rw [← hy] at hz ⊢
      clear hy at3
      go_wp2_with fail
      go_ret
      rw [PU2.out]
      exact ⟨fp3, by rw [← HYY.out]; rfl, ST4.out⟩
end Go.Proofs.Ytmdhnokgjapglaa

/-
  A Kept beside its disk: what Put and a crash leave.
-/
namespace Go.Proofs.Ytmdhnokgjapglaa
namespace Kp
open Dk (lookOf)
theorem opened_from (f : Nat → List UInt8) (a : Int) : (opened f a).from_ = a := rfl
/-- A Kept that says what lasts on its disk. -/
structure Fits (M : Dk.Md) (K : Md) : Prop where
  ok : M.Ok
  at_ : 0 ≤ K.from_ ∧ K.from_ + 20 ≤ M.lasts.length
  on : M.off = false
  idle : ∀ i, M.W i = []
  good : bad (lastly M K.from_) = false
  same : K = opened (lastly M K.from_) K.from_
theorem opened_fit {f : Nat → List UInt8} {a : Int} {M : Dk.Md} (h : 0 ≤ a ∧ a + 20 ≤ M.lasts.length) : Fit (opened f a) M :=
  ⟨h, next_lt f, greatest_lt _, Nat.lt_of_le_of_lt (find_le f) (greatest_lt _), find_len f, find_none⟩
theorem Fits.fit {M : Dk.Md} {K : Md} (h : Fits M K) : Fit K M := by rw [h.same]; exact opened_fit h.at_
theorem Fits.live {M : Dk.Md} {K : Md} (h : Fits M K) : K.broken = false := by rw [h.same]; rfl
theorem Fits.err {M : Dk.Md} {K : Md} (h : Fits M K) : openErr M K.from_ = 0 := by
  rw [openErr, if_neg (by have := h.at_; omega), h.on, sees_lastly h.idle, h.good]; rfl
theorem Fits.again {M : Dk.Md} {K : Md} (h : Fits M K) : opened (sees M K.from_) K.from_ = K := by rw [sees_lastly h.idle]; exact h.same.symm
/-- A Put was broken off. -/
structure Torn (M : Dk.Md) (K : Md) (t : List UInt8) : Prop where
  ok : M.Ok
  at_ : 0 ≤ K.from_ ∧ K.from_ + 20 ≤ M.lasts.length
  off : M.off = true
  good : bad (lastly M K.from_) = false
  same : K = { opened (lastly M K.from_) K.from_ with broken := true }
  le : t.length ≤ 400
  seen : K.seen + 1 < 18446744073709551616
  wait : ∀ i, M.W i = [] ∨ ∃ j, j < parts t ∧ i = K.from_.toNat + (K.next * 10 + j) ∧ M.W i = [Dk.closed (body t (K.seen + 1) j)]
theorem bodies_all (t : List UInt8) (g : Nat) : ∀ b ∈ bodies t g, b.length = 60 := by
  intro b hb
  simp only [bodies, List.mem_map] at hb
  obtain ⟨i, _, rfl⟩ := hb
  exact body_length _ _ _
theorem getD_bodies {t : List UInt8} {g j : Nat} (h : j < parts t) : (bodies t g).getD j [] = body t g j := by rw [List.getD_eq_getElem?_getD, bodies_get h]; rfl
/-- What Put leaves: the new record, or one that was broken off. -/
theorem Fits.save {M : Dk.Md} {K : Md} (h : Fits M K) {t : List UInt8} (ht : t.length ≤ 400) (hs : K.seen + 1 < 18446744073709551616) :
    ((save M (K.from_ + K.next * 10) (bodies t (K.seen + 1))).2 = 0 ∧ (save M (K.from_ + K.next * 10) (bodies t (K.seen + 1))).1.off = false ∧ (∀ i, (save M (K.from_ + K.next * 10) (bodies t (K.seen + 1))).1.W i = []) ∧
      (M.fuse < 0 → (save M (K.from_ + K.next * 10) (bodies t (K.seen + 1))).1.fuse = M.fuse) ∧
      ∀ i, i < M.lasts.length → Dk.last (save M (K.from_ + K.next * 10) (bodies t (K.seen + 1))).1 i = if K.from_.toNat + K.next * 10 ≤ i ∧ i < K.from_.toNat + K.next * 10 + parts t then Dk.closed (body t (K.seen + 1) (i - (K.from_.toNat + K.next * 10))) else Dk.last M i) ∨
    ((save M (K.from_ + K.next * 10) (bodies t (K.seen + 1))).2 = 14 ∧ 0 ≤ M.fuse ∧ Torn (save M (K.from_ + K.next * 10) (bodies t (K.seen + 1))).1 { K with broken := true } t) := by
  have hf := h.fit
  have hp9 := parts_le ht
  have hat := h.at_
  have hn := hf.next
  obtain ⟨l, hl⟩ : ∃ l, l = bodies t (K.seen + 1) := ⟨_, rfl⟩
  have hll : l.length = parts t := by rw [hl, bodies_length]
  obtain ⟨a, ha⟩ : ∃ a : Int, a = K.from_ + K.next * 10 := ⟨_, rfl⟩
  have hat2 : a.toNat = K.from_.toNat + K.next * 10 := by omega
  obtain ⟨c, hc, h1, h2, h3⟩ := puts_form l M a h.on (by rw [hl]; exact bodies_all _ _) (by omega) (by omega)
  have hok := save_ok l M a h.ok
  rw [← hl, ← ha, ← hat2]
  have hW : ∀ q, (puts M a l).1.W q = if a.toNat ≤ q ∧ q < a.toNat + c then [Dk.closed (body t (K.seen + 1) (q - a.toNat))] else [] := fun q => by
    rw [h2 q, h.idle q]
    by_cases hq : a.toNat ≤ q ∧ q < a.toNat + c
    · rw [if_pos hq, if_pos hq, hl, getD_bodies (by omega), List.nil_append]
    · rw [if_neg hq, if_neg hq]
  have torn : ∀ M', M'.Ok → M'.off = true → M'.lasts = M.lasts → (∀ q, M'.W q = (puts M a l).1.W q) → Torn M' { K with broken := true } t := fun M' k1 k2 k3 k4 => by
    have e : lastly M' K.from_ = lastly M K.from_ := by funext j; simp only [lastly, Dk.last, k3]
    refine ⟨k1, by rw [k3]; exact hat, k2, by show bad (lastly M' K.from_) = false; rw [e]; exact h.good, ?_, ht, hs, fun i => ?_⟩
    · show _ = { opened (lastly M' K.from_) K.from_ with broken := true }
      rw [e, ← h.same]
    · rw [k4 i, hW i]
      by_cases hq : a.toNat ≤ i ∧ i < a.toNat + c
      · right
        refine ⟨i - a.toNat, by omega, ?_, by rw [if_pos hq]⟩
        show i = K.from_.toNat + (K.next * 10 + (i - a.toNat))
        omega
      · left; rw [if_neg hq]
  rcases h3 with ⟨g1, g2, g3, g4⟩ | ⟨g1, g2, g3⟩
  · have es : Kp.save M a l = Dk.sync (puts M a l).1 := by rw [Kp.save, if_pos g1]
    rw [es] at hok ⊢
    by_cases ha2 : (Dk.act (puts M a l).1).2 = true
    · left
      have e2 : Dk.sync (puts M a l).1 = (Dk.synced (Dk.act (puts M a l).1).1, 0) := by rw [Dk.sync, g3]; simp [ha2]
      rw [e2]
      refine ⟨rfl, (act_off ha2).trans g3, fun _ => rfl, fun hfu => ?_, fun i hi => ?_⟩
      · exact ((act_fuse ha2).1 (by rw [g4 hfu]; exact hfu)).trans (g4 hfu)
      · have e3 : Dk.last (Dk.synced (Dk.act (puts M a l).1).1) i = Dk.seen (Dk.act (puts M a l).1).1 i := by
          rw [Dk.last, Dk.synced, List.getD_eq_getElem?_getD, List.getElem?_map, List.getElem?_range (by rw [Dk.act_lasts, h1]; exact hi)]; rfl
        show Dk.last (Dk.synced (Dk.act (puts M a l).1).1) i = _
        rw [e3, Dk.seen, Dk.act_W, hW i]
        by_cases hq : a.toNat ≤ i ∧ i < a.toNat + parts t
        · rw [if_pos hq, if_pos (by omega)]; rfl
        · rw [if_neg hq, if_neg (by omega)]
          show Dk.last (Dk.act (puts M a l).1).1 i = Dk.last M i
          rw [Dk.last, Dk.act_lasts, h1]; rfl
    · right
      obtain ⟨k1, k2⟩ := act_down ha2
      have e2 : Dk.sync (puts M a l).1 = ((Dk.act (puts M a l).1).1, 14) := by
        have : (Dk.act (puts M a l).1).2 = false := by simpa using ha2
        rw [Dk.sync, g3, this]; simp
      rw [e2] at hok ⊢
      refine ⟨rfl, ?_, torn _ hok (by rw [k1]) (by rw [k1]; exact h1) (fun q => by rw [k1])⟩
      by_cases hfu : M.fuse < 0
      · rw [g4 hfu] at k2; omega
      · omega
  · right
    have es : Kp.save M a l = puts M a l := by rw [Kp.save, if_neg (by rw [g1]; decide)]
    rw [es] at hok ⊢
    exact ⟨g1, g3, torn _ hok g2 h1 (fun _ => rfl)⟩
end Kp
end Go.Proofs.Ytmdhnokgjapglaa

/-
  A Kept beside its disk: a whole Put, a crash, what is opened behind them.
-/
namespace Go.Proofs.Ytmdhnokgjapglaa
namespace Kp
open Dk (lookOf)
theorem place_congr {f g : Nat → List UInt8} (h : ∀ j, j < 20 → f j = g j) : place f = place g := List.map_congr_left fun j hj => by rw [h j (by simpa using hj)]
theorem opened_congr {f g : Nat → List UInt8} (h : ∀ j, j < 20 → f j = g j) (a : Int) : opened f a = opened g a := by rw [opened, opened, place_congr h]
theorem bad_congr {f g : Nat → List UInt8} (h : ∀ j, j < 20 → f j = g j) : bad f = bad g := by
  rw [Bool.eq_iff_iff]
  simp only [bad, List.any_eq_true]
  constructor
  · rintro ⟨j, hj, e⟩; exact ⟨j, hj, by rw [← h j (by simpa using hj)]; exact e⟩
  · rintro ⟨j, hj, e⟩; exact ⟨j, hj, by rw [h j (by simpa using hj)]; exact e⟩
theorem opened_next (f : Nat → List UInt8) (a : Int) : (opened f a).next = (find (place f)).2 := rfl
theorem opened_seen (f : Nat → List UInt8) (a : Int) : (opened f a).seen = greatest (place f) := rfl
theorem opened_text (f : Nat → List UInt8) (a : Int) : (opened f a).text = (find (place f)).1.1 := rfl
theorem opened_gen (f : Nat → List UInt8) (a : Int) : (opened f a).gen = (find (place f)).1.2 := rfl
theorem Fits.from_next {M : Dk.Md} {K : Md} (h : Fits M K) : K.next = (find (place (lastly M K.from_))).2 := by
  have := congrArg Md.next h.same
  rwa [opened_next] at this
theorem Fits.from_seen {M : Dk.Md} {K : Md} (h : Fits M K) : K.seen = greatest (place (lastly M K.from_)) := by
  have := congrArg Md.seen h.same
  rwa [opened_seen] at this
theorem Torn.from_next {M : Dk.Md} {K : Md} {t : List UInt8} (h : Torn M K t) : K.next = (find (place (lastly M K.from_))).2 := by
  have := congrArg Md.next h.same
  simp only at this
  rwa [opened_next] at this
theorem Torn.from_seen {M : Dk.Md} {K : Md} {t : List UInt8} (h : Torn M K t) : K.seen = greatest (place (lastly M K.from_)) := by
  have := congrArg Md.seen h.same
  simp only at this
  rwa [opened_seen] at this
theorem Torn.from_text {M : Dk.Md} {K : Md} {t : List UInt8} (h : Torn M K t) : K.text = (find (place (lastly M K.from_))).1.1 := by
  have := congrArg Md.text h.same
  simp only at this
  rwa [opened_text] at this
theorem Torn.from_gen {M : Dk.Md} {K : Md} {t : List UInt8} (h : Torn M K t) : K.gen = (find (place (lastly M K.from_))).1.2 := by
  have := congrArg Md.gen h.same
  simp only at this
  rwa [opened_gen] at this
/-- The new one. -/
def made (K : Md) (t : List UInt8) : Md := ⟨K.from_, t, K.seen + 1, 1 - K.next, K.seen + 1, false⟩
theorem Fits.made {M M' : Dk.Md} {K : Md} (h : Fits M K) {t : List UInt8} (ht : t.length ≤ 400) (hs : K.seen + 1 < 18446744073709551616) (h1 : M'.Ok) (h2 : M'.lasts.length = M.lasts.length) (h3 : M'.off = false) (h4 : ∀ i, M'.W i = [])
    (h5 : ∀ i, i < M.lasts.length → Dk.last M' i = if K.from_.toNat + K.next * 10 ≤ i ∧ i < K.from_.toNat + K.next * 10 + parts t then Dk.closed (body t (K.seen + 1) (i - (K.from_.toNat + K.next * 10))) else Dk.last M i) : Fits M' (made K t) := by
  have hat := h.at_
  have hn := h.fit.next
  have hp := parts_le ht
  have e : ∀ j, j < 20 → lastly M' K.from_ j = mixed (lastly M K.from_) K.next t (K.seen + 1) (fun _ => true) j := fun j hj => by
    rw [lastly, h5 _ (by omega), mixed]
    by_cases hc : K.next * 10 ≤ j ∧ j < K.next * 10 + parts t
    · rw [if_pos (by omega), if_pos ⟨hc.1, hc.2, rfl⟩, show K.from_.toNat + j - (K.from_.toNat + K.next * 10) = j - K.next * 10 by omega]
    · rw [if_neg (by omega), if_neg (fun q => hc ⟨q.1, q.2.1⟩)]; rfl
  have k1 := h.from_next
  have k2 := h.from_seen
  refine ⟨h1, by rw [h2]; exact hat, h3, h4, ?_, ?_⟩
  · show bad (lastly M' K.from_) = false
    rw [bad_congr e]
    exact mixed_bad h.good
  · show Kp.made K t = opened (lastly M' K.from_) K.from_
    rw [opened_congr e]
    have := mixed_new (f := lastly M K.from_) (t := t) (c := fun _ => true) (a := K.from_) ht (by rw [← k2]; exact hs) (fun _ _ => rfl)
    rw [← k1, ← k2] at this
    rw [this]; rfl
theorem Fits.crash {M : Dk.Md} {K : Md} (h : Fits M K) (keep : List Int) : Fits (Dk.crash M keep) K := by
  have hat := h.at_
  have e : ∀ j, j < 20 → lastly (Dk.crash M keep) K.from_ j = lastly M K.from_ j := fun j hj => by
    rw [lastly, last_crash (by omega), Dk.kept_idle (h.idle _)]; rfl
  exact ⟨h.ok.crash keep, by rw [len_crash]; exact hat, rfl, fun _ => rfl, by rw [bad_congr e]; exact h.good, by rw [opened_congr e]; exact h.same⟩
theorem Torn.crash {M : Dk.Md} {K : Md} {t : List UInt8} (h : Torn M K t) (keep : List Int) :
    ∃ K', Fits (Dk.crash M keep) K' ∧ K'.from_ = K.from_ ∧ K'.seen ≤ K.seen + 1 ∧ ((K'.text = K.text ∧ K'.gen = K.gen) ∨ (K'.text = t ∧ K'.gen = K.seen + 1)) := by
  have hat := h.at_
  have hs := h.seen
  have hp := parts_le h.le
  have k1 := h.from_next
  have k2 := h.from_seen
  have k3 := h.from_text
  have k4 := h.from_gen
  have hn : K.next < 2 := by rw [k1]; exact next_lt _
  obtain ⟨c, hc⟩ : ∃ c : Nat → Bool, ∀ j, c j = decide (lastly (Dk.crash M keep) K.from_ (K.next * 10 + j) ≠ lastly M K.from_ (K.next * 10 + j)) := ⟨_, fun _ => rfl⟩
  have e : ∀ j, j < 20 → lastly (Dk.crash M keep) K.from_ j = mixed (lastly M K.from_) K.next t (K.seen + 1) c j := fun j hj => by
    have hk := Dk.kept_mem M keep (K.from_.toNat + j)
    have hl : lastly (Dk.crash M keep) K.from_ j = Dk.kept M keep (K.from_.toNat + j) := by rw [lastly, last_crash (by omega)]
    rw [mixed]
    by_cases hq : K.next * 10 ≤ j ∧ j < K.next * 10 + parts t ∧ c (j - K.next * 10) = true
    · rw [if_pos hq]
      have hd := hq.2.2
      rw [hc, show K.next * 10 + (j - K.next * 10) = j by omega, decide_eq_true_eq] at hd
      rw [hl] at hd ⊢
      rcases hk with hk | hk
      · exact absurd hk hd
      · rcases h.wait (K.from_.toNat + j) with hw | ⟨j', hj', e1, hw⟩
        · rw [hw] at hk; cases hk
        · rw [hw] at hk
          rw [List.mem_singleton.1 hk, show j' = j - K.next * 10 by omega]
    · rw [if_neg hq, hl]
      rcases hk with hk | hk
      · exact hk
      · rcases h.wait (K.from_.toNat + j) with hw | ⟨j', hj', e1, hw⟩
        · rw [hw] at hk; cases hk
        · have hcn : c (j - K.next * 10) ≠ true := fun hx => hq ⟨by omega, by omega, hx⟩
          rw [hc, show K.next * 10 + (j - K.next * 10) = j by omega, Ne, decide_eq_true_eq] at hcn
          rw [← hl]
          exact Decidable.byContradiction hcn
  have base : ∀ K', K' = opened (mixed (lastly M K.from_) K.next t (K.seen + 1) c) K.from_ → Fits (Dk.crash M keep) K' := fun K' hK => by
    have hfr : K'.from_ = K.from_ := by rw [hK]; rfl
    refine ⟨h.ok.crash keep, by rw [len_crash, hfr]; exact hat, rfl, fun _ => rfl, ?_, ?_⟩
    · rw [hfr, bad_congr e]; exact mixed_bad h.good
    · rw [hfr, opened_congr e]; exact hK
  by_cases hall : ∀ j, j < parts t → c j = true
  · have := mixed_new (f := lastly M K.from_) (t := t) (c := c) (a := K.from_) h.le (by rw [← k2]; exact hs) hall
    rw [← k1, ← k2] at this
    refine ⟨_, base _ rfl, rfl, ?_, .inr ⟨?_, ?_⟩⟩
    · rw [this]; exact Nat.le_refl _
    · rw [this]
    · rw [this]
  · have hex : ∃ j, j < parts t ∧ c j = false := by
      refine Classical.byContradiction fun hno => hall fun j hj => ?_
      cases hcj : c j
      · exact absurd ⟨j, hj, hcj⟩ hno
      · rfl
    obtain ⟨s, hs1, hs2⟩ := mixed_old (f := lastly M K.from_) (t := t) (c := c) (a := K.from_) h.le (by rw [← k2]; exact hs) hex
    rw [← k1, ← k2] at hs2
    rw [← k2] at hs1
    refine ⟨_, base _ rfl, rfl, ?_, .inl ⟨?_, ?_⟩⟩
    · rw [hs2]; exact hs1
    · rw [hs2, k3]
    · rw [hs2, k4]
/-- What Put does to a Kept that says what lasts. -/
theorem Fits.put {M : Dk.Md} {K : Md} (h : Fits M K) (t : List UInt8) (hs : K.seen + 1 < 18446744073709551616) :
    (400 < t.length ∧ Kp.put K M t = (K, M, 3)) ∨
    (t.length ≤ 400 ∧ ∃ M', Kp.put K M t = (Kp.made K t, M', 0) ∧ Fits M' (Kp.made K t) ∧ (M.fuse < 0 → M'.fuse = M.fuse) ∧ M'.lasts.length = M.lasts.length ∧
      ∀ i, i < M.lasts.length → Dk.last M' i = if K.from_.toNat + K.next * 10 ≤ i ∧ i < K.from_.toNat + K.next * 10 + parts t then Dk.closed (body t (K.seen + 1) (i - (K.from_.toNat + K.next * 10))) else Dk.last M i) ∨
    (t.length ≤ 400 ∧ 0 ≤ M.fuse ∧ ∃ M', Kp.put K M t = ({ K with broken := true }, M', 14) ∧ Torn M' { K with broken := true } t) := by
  by_cases h4 : 400 < t.length
  · exact .inl ⟨h4, by rw [Kp.put, h.live, if_neg (by decide), if_pos h4]⟩
  · right
    have hle : t.length ≤ 400 := by omega
    have hp : Kp.put K M t = if (Kp.save M (K.from_ + K.next * 10) (bodies t (K.seen + 1))).2 = 0 then (Kp.made K t, (Kp.save M (K.from_ + K.next * 10) (bodies t (K.seen + 1))).1, 0) else ({ K with broken := true }, (Kp.save M (K.from_ + K.next * 10) (bodies t (K.seen + 1))).1, (Kp.save M (K.from_ + K.next * 10) (bodies t (K.seen + 1))).2) := by
      rw [Kp.put, h.live, if_neg (by decide), if_neg h4, if_neg (by omega)]; rfl
    have hlen := len_save M (K.from_ + K.next * 10) (bodies t (K.seen + 1))
    rcases h.save hle hs with ⟨e0, e1, e2, e3, e4⟩ | ⟨e0, e1, e2⟩
    · left
      rw [if_pos e0] at hp
      exact ⟨hle, _, hp, h.made hle hs (save_ok _ _ _ h.ok) hlen e1 e2 e4, e3, hlen, e4⟩
    · right
      rw [if_neg (by rw [e0]; decide), e0] at hp
      exact ⟨hle, e1, _, hp, e2⟩
theorem Torn.put {M : Dk.Md} {K : Md} {t : List UInt8} (h : Torn M K t) (t' : List UInt8) : Kp.put K M t' = (K, M, 11) := by
  rw [Kp.put, if_pos (by rw [h.same])]
theorem Fits.waits {M : Dk.Md} {K : Md} (h : Fits M K) : Dk.waits M = 0 := Dk.waits_empty _ (funext h.idle)
/-- An empty disk keeps nothing. -/
theorem fits_new {n : Nat} (hn : 1 ≤ n ∧ n ≤ 4096) {a : Int} (ha : 0 ≤ a ∧ a + 20 ≤ (n : Int)) : Fits (Dk.new n) ⟨a, [], 0, 0, 0, false⟩ := by
  have e : ∀ j, j < 20 → lastly (Dk.new n) a j = Dk.blank := fun j hj => by
    rw [lastly, Dk.last, Dk.new, List.getD_eq_getElem?_getD, List.getElem?_replicate, if_pos (by omega)]; rfl
  have hl : lookOf Dk.blank = ([], 0) := by unfold lookOf; exact if_pos rfl
  refine ⟨Dk.Md.Ok.new hn, by simpa [Dk.new] using ha, rfl, fun _ => rfl, ?_, ?_⟩
  · rw [bad_congr e, bad, List.any_eq_false]
    intro j _
    rw [hl]; decide
  · show (⟨a, [], 0, 0, 0, false⟩ : Md) = opened (lastly (Dk.new n) a) a
    rw [opened_congr (g := fun _ => Dk.blank) e]
    have hp : place (fun _ => Dk.blank) = List.replicate 20 [] := by rw [place, hl]; rfl
    have h1 : find (List.replicate 20 []) = (([], 0), 0) := by decide +kernel
    have h2 : greatest (List.replicate 20 []) = 0 := by decide +kernel
    rw [opened, hp, h1, h2]
end Kp
end Go.Proofs.Ytmdhnokgjapglaa

/-
  What kept's functions do, in words of a Kept that says what lasts; the wake that each statement asks is met.
-/
namespace Go.Proofs.Ytmdhnokgjapglaa
open Go.RowKit
namespace Kp
section
variable {B : Nat} {w0 w w' : World} {r : Nat} {fp fp' : Nat → Prop} {M M' : Dk.Md} {k : Nat} {K K' : Md}
theorem open_in (h : Dk.Own B w0 w r fp M) (hF : Fits M K) {a : Int} (ha : K.from_ = a) :
    Calls Try.prog 16 #[.pointer (some ⟨r, 0, none⟩), .int .i64 a] w fun e w' => ∃ k, e = .returned (.tuple #[.pointer (some ⟨k, 0, none⟩), .int .i64 0]) ∧ Own B w0 w' r fp M k K ∧ w.heap.size ≤ k ∧ Below w.heap.size w w' := by
  subst ha
  refine (kpOpen_any h K.from_).mono ?_
  rintro e w' ⟨hb, ⟨he, _⟩ | ⟨_, k, rfl, hat, hk⟩⟩
  · exact absurd hF.err he
  · rw [hF.again] at hat
    exact ⟨k, rfl, ⟨h.low hb, hat, fun e => by have := h.lt k e; omega, Nat.le_trans h.size hk⟩, hk, hb⟩
theorem get_in (h : Own B w0 w r fp M k K) (hf : Fit K M) :
    Calls Try.prog 12 #[.pointer (some ⟨k, 0, none⟩)] w fun e w' => e = .returned (.tuple #[.string ⟨K.text.toArray⟩, .bool (decide (0 < K.gen))]) ∧ Own B w0 w' r fp M k K ∧ Below w.heap.size w w' := by
  refine (kpGet_at h.at_ hf.none hf.text hf.gen).mono ?_
  rintro e w' ⟨rfl, hb⟩
  exact ⟨rfl, h.below hb, hb⟩
/-- A Put that nothing breaks off. -/
theorem put_in (h : Own B w0 w r fp M k K) (hF : Fits M K) (hs : K.seen + 1 < 18446744073709551616) (hfu : M.fuse < 0) (t : ByteArray) (ht : t.size ≤ 400) :
    Calls Try.prog 10 #[.pointer (some ⟨k, 0, none⟩), .string t] w fun e w' => ∃ fp' M', e = .returned (.int .i64 0) ∧ Step B w0 w w' r fp fp' M' k (made K t.data.toList) ∧ Fits M' (made K t.data.toList) ∧ M'.fuse < 0 ∧ M'.lasts.length = M.lasts.length ∧
      ∀ i, i < M.lasts.length → Dk.last M' i = if K.from_.toNat + K.next * 10 ≤ i ∧ i < K.from_.toNat + K.next * 10 + parts t.data.toList then Dk.closed (body t.data.toList (K.seen + 1) (i - (K.from_.toNat + K.next * 10))) else Dk.last M i := by
  have htl : t.data.toList.length = t.size := by simp
  refine (kpPut_any h hF.fit (by rw [hF.waits]; omega) t (by omega)).mono ?_
  rintro e w' ⟨fp', rfl, st⟩
  rcases hF.put t.data.toList hs with ⟨h1, _⟩ | ⟨_, M', e1, h2, h3, h4, h5⟩ | ⟨_, h1, _⟩
  · omega
  · rw [e1] at st ⊢
    exact ⟨fp', M', rfl, st, h2, by rw [h3 hfu]; exact hfu, h4, h5⟩
  · omega
/-- A Put of a text that is too long. -/
theorem put_long (h : Own B w0 w r fp M k K) (hF : Fits M K) (hs : K.seen + 1 < 18446744073709551616) (t : ByteArray) (ht : 400 < t.size) (ht2 : t.size ≤ 9223372036854775807) :
    Calls Try.prog 10 #[.pointer (some ⟨k, 0, none⟩), .string t] w fun e w' => ∃ fp', e = .returned (.int .i64 3) ∧ Step B w0 w w' r fp fp' M k K := by
  have htl : t.data.toList.length = t.size := by simp
  refine (kpPut_any h hF.fit (by rw [hF.waits]; omega) t ht2).mono ?_
  rintro e w' ⟨fp', rfl, st⟩
  rcases hF.put t.data.toList hs with ⟨_, e1⟩ | ⟨h1, _⟩ | ⟨h1, _⟩
  · rw [e1] at st ⊢
    exact ⟨fp', rfl, st⟩
  · omega
  · omega
theorem get_to (h : Own B w0 w r fp M k K) (hf : Fit K M) {s : ByteArray} {b : Bool} (hs : K.text = s.data.toList) (hb : decide (0 < K.gen) = b) :
    Calls Try.prog 12 #[.pointer (some ⟨k, 0, none⟩)] w fun e w' => e = .returned (.tuple #[.string s, .bool b]) ∧ Own B w0 w' r fp M k K ∧ Below w.heap.size w w' := by
  refine (get_in h hf).mono ?_
  rw [hs, hb]
  exact fun e w' h => h
/-- The same, with what it makes under a name. -/
theorem put_to (h : Own B w0 w r fp M k K) (hF : Fits M K) (hs : K.seen + 1 < 18446744073709551616) (hfu : M.fuse < 0) (t : ByteArray) (ht : t.size ≤ 400) {l : List UInt8} (hl : t.data.toList = l) {K' : Md} (hK : made K l = K') :
    Calls Try.prog 10 #[.pointer (some ⟨k, 0, none⟩), .string t] w fun e w' => ∃ fp' M', e = .returned (.int .i64 0) ∧ Step B w0 w w' r fp fp' M' k K' ∧ Fits M' K' ∧ M'.fuse < 0 ∧ M'.lasts.length = M.lasts.length := by
  subst hl; subst hK
  refine (put_in h hF hs hfu t ht).mono ?_
  rintro e w' ⟨fp', M', h1, h2, h3, h4, h5, _⟩
  exact ⟨fp', M', h1, h2, h3, h4, h5⟩
end
def zero (a : Int) : Md := ⟨a, [], 0, 0, 0, false⟩
theorem new_fits {n : Nat} (hn : 1 ≤ n ∧ n ≤ 4096) {a : Int} (ha : 0 ≤ a ∧ a + 20 ≤ (n : Int)) : Fits (Dk.new n) (zero a) := fits_new hn ha
end Kp
set_option maxRecDepth 100000 in
set_option maxHeartbeats 1000000 in
theorem awake9_any (w : World) : Calls Try.prog 5 #[] w fun e w' => e = .returned (.bool true) ∧ Below w.heap.size w w' := by
  obtain ⟨K0, hK0⟩ : ∃ K, K = Kp.zero 0 := ⟨_, rfl⟩
  obtain ⟨K1, hK1⟩ : ∃ K, K = Kp.made K0 [97] := ⟨_, rfl⟩
  obtain ⟨K2, hK2⟩ : ∃ K, K = Kp.made K1 [98] := ⟨_, rfl⟩
  have hF0 : Kp.Fits (Dk.new 20) K0 := by rw [hK0]; exact Kp.new_fits (n := 20) (by omega) (a := 0) (by omega)
  have A0 : Hid (K0.from_ = 0 ∧ K0.seen = 0 ∧ K0.text = [] ∧ decide (0 < K0.gen) = false) := by rw [hK0]; exact ⟨rfl, rfl, rfl, rfl⟩
  have A1 : Hid (K1.seen = 1) := by rw [hK1, hK0]; rfl
  have A2 : Hid (K2.from_ = 0 ∧ K2.text = [98] ∧ decide (0 < K2.gen) = true) := by rw [hK2, hK1, hK0]; exact ⟨rfl, rfl, rfl⟩
  have F0 := Lib.hid hF0
  have HK1 : Hid (Kp.made K0 [97] = K1) := hK1.symm
  have HK2 : Hid (Kp.made K1 [98] = K2) := hK2.symm
  clear hK0 hK1 hK2 hF0
  go_enter Try.func5, Try.ntmps5
  go_upto_region 2 with (go_at_call 7; refine (Dk.new_in (Below.refl w.heap.size w) (Nat.le_refl _) 20 (by omega)).mono ?_; rintro e w1 ⟨r, fp, rfl, o1, -, -⟩)
  go_upto_region 3 with (go_at_call 16; refine (Kp.open_in o1 F0.out A0.out.1).mono ?_; rintro e w2 ⟨k, rfl, o2, -, -⟩)
  clear o1
  go_upto_region 4 with (go_at_call 12; refine (Kp.get_to (s := ⟨#[]⟩) o2 F0.out.fit A0.out.2.2.1 A0.out.2.2.2).mono ?_; rintro e w3 ⟨rfl, o3, -⟩)
  clear o2
  have PA := Lib.hid (Kp.put_to o3 F0.out (by rw [A0.out.2.1]; omega) (by show (-1 : Int) < 0; omega) ⟨#[97]⟩ (by decide) rfl HK1.out)
  go_upto_region 5 with (go_at_call 10; refine PA.out.mono ?_; rintro e w4 ⟨fp4, M4, rfl, s4, f4, u4, -⟩)
  have o4 := s4.own
  clear o3 s4
  have PB := Lib.hid (Kp.put_to o4 f4 (by rw [A1.out]; omega) u4 ⟨#[98]⟩ (by decide) rfl HK2.out)
  go_upto_region 6 with (go_at_call 10; refine PB.out.mono ?_; rintro e w5 ⟨fp5, M5, rfl, s5, f5, u5, -⟩)
  have o5 := s5.own
  clear o4 s5 f4 u4
  go_upto_region 7 with (go_at_call 16; refine (Kp.open_in o5.disk f5 A2.out.1).mono ?_; rintro e w6 ⟨k6, rfl, o6, -, -⟩)
  clear o5
  go_upto_region 8 with (go_at_call 12; refine (Kp.get_to (s := ⟨#[98]⟩) o6 f5.fit A2.out.2.1 A2.out.2.2).mono ?_; rintro e w7 ⟨rfl, o7, -⟩)
  have b7 := Lib.hid o7.disk.below
  clear o6 o7 f5 u5
  go_wp2_with fail
  go_ret
  exact ⟨rfl, b7.out⟩
end Go.Proofs.Ytmdhnokgjapglaa
