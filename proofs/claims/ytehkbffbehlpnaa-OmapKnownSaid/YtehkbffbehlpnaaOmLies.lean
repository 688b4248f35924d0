/-
  omap's contracts once more, of a map that lies somewhere.
-/
import Derived.Test.YtehkbffbehlpnaaOmDo
import Derived.Test.YtehkbffbehlpnaaOmTells
import Derived.Test.YtehkbffbehlpnaaOmFilter
import Derived.Test.YtehkbffbehlpnaaOmEq
namespace Go.Proofs.Ytehkbffbehlpnaa
open Go.RowKit Go.Maps
namespace Om
/-- In block r lies a map of these pairs. -/
def Lies (w : World) (r : Nat) (l : List Pr) : Prop := (∃ mb, At w r mb l) ∧ Good l
theorem Lies.good {w : World} {r : Nat} {l : List Pr} (h : Lies w r l) : Good l := h.2
theorem Lies.lt {w : World} {r : Nat} {l : List Pr} (h : Lies w r l) : r < w.heap.size := by obtain ⟨⟨mb, h⟩, _⟩ := h; exact h.lt
theorem Lies.cells {w : World} {r : Nat} {l : List Pr} (h : Lies w r l) : ∃ cs, w.heap[r]? = some (.cells cs 74 (0, 0)) := by obtain ⟨⟨mb, h⟩, _⟩ := h; exact ⟨_, h.cell⟩
theorem Lies.upto {w w' : World} {B r : Nat} {l : List Pr} (h : Lies w r l) (k : Below B w w') (hB : w.heap.size ≤ B) : Lies w' r l := by obtain ⟨⟨mb, h1⟩, h2⟩ := h; exact ⟨⟨mb, h1.below k hB⟩, h2⟩
theorem Lies.below {w w' : World} {r : Nat} {l : List Pr} (h : Lies w r l) (k : Below w.heap.size w w') : Lies w' r l := h.upto k (Nat.le_refl _)
theorem Lies.other {w w' : World} {q r : Nat} {l : List Pr} (h : Lies w r l) (hg : w.grownBy w' (some q)) (hq : r ≠ q) {cs : Array Value} {t : TypeId} {f : Nat × Nat} (hc : w.heap[q]? = some (.cells cs t f)) : Lies w' r l := by
  obtain ⟨⟨mb, h1⟩, h2⟩ := h; exact ⟨⟨mb, h1.other hg hq hc⟩, h2⟩
/-- A row of one's own grows: the map stays. -/
theorem Lies.own {w w' : World} {r : Nat} {l : List Pr} (h : Lies w r l) {q : Option Nat} (hg : w.grownBy w' q) (hc : ∀ b, q = some b → ∃ cs t f, w.heap[b]? = some (.cells cs t f) ∧ t ≠ 74) : Lies w' r l := by
  obtain ⟨⟨mb, h1⟩, h2⟩ := h
  refine ⟨⟨mb, h1.kept (hg.block r h1.lt fun e => ?_) fun b hb => hg.block b (h1.has.lt hb) fun e => ?_⟩, h2⟩
  · obtain ⟨cs, t, f, h3, h4⟩ := hc r e.symm
    rw [h1.cell] at h3
    simp only [Option.some.injEq, Obj.cells.injEq] at h3
    exact h4 h3.2.1.symm
  · obtain ⟨cs, t, f, h3, _⟩ := hc b e.symm
    obtain ⟨es, c, h5⟩ := h1.has.kind hb
    rw [h5] at h3; cases h3
theorem Lies.made (w : World) : Lies (w.alloc (.cells #[.map none] 74)) w.heap.size [] := ⟨⟨none, At.made w⟩, Good.nil⟩
end Om
theorem omNew_lies (w : World) : Calls Try.prog 16 #[] w fun e w' => e = .returned (.pointer (some ⟨w.heap.size, 0, none⟩)) ∧ Om.Lies w' w.heap.size [] ∧ Below w.heap.size w w' :=
  (omNew_any w).mono fun e w' ⟨h1, h2⟩ => ⟨h1, by rw [h2]; exact Om.Lies.made w, by rw [h2]; exact (Below.refl _ w).alloc (Nat.le_refl _) _⟩
theorem omDo_lies {w : World} {r : Nat} {l : List Om.Pr} (h : Om.Lies w r l) {A : Option Addr} (c : Nat) {ops : List Ba.Op} (hit : Ba.listAt w A ops) (hn : ops.length ≤ 9223372036854775807) (hok : ∀ o ∈ ops, o.Ok) (hs : ∀ o ∈ ops, o.p.size ≤ 281474976710656) :
    Calls Try.prog 17 #[.pointer (some ⟨r, 0, none⟩), .slice A ops.length c] w fun e w' => e = .returned (.int .i64 ((Om.doE l ops).2 : Nat)) ∧ Om.Lies w' r (Om.doE l ops).1 ∧ w.grownBy w' (some r) := by
  obtain ⟨⟨mb, h1⟩, h2⟩ := h
  exact (omDo_any h1 h2 c hit hn hok hs).mono fun e w' ⟨k1, k2, k3⟩ => ⟨k1, ⟨k2, Om.doE_good h2 ops⟩, k3⟩
theorem omLen_lies {w : World} {r : Nat} {l : List Om.Pr} (h : Om.Lies w r l) : Calls Try.prog 21 #[.pointer (some ⟨r, 0, none⟩)] w fun e w' => e = .returned (.int .i64 (l.length : Nat)) ∧ w = w' := by
  obtain ⟨⟨mb, h1⟩, h2⟩ := h
  exact omLen_any h1.ptr
theorem omGet_lies {w : World} {r : Nat} {l : List Om.Pr} (h : Om.Lies w r l) (p : ByteArray) (hp : p.size ≤ 281474976710656) :
    Calls Try.prog 19 #[.pointer (some ⟨r, 0, none⟩), .string p] w fun e w' => e = .returned (.tuple #[.string (Om.getV l p), .bool (Om.get p l).isSome]) ∧ Below w.heap.size w w' := by
  obtain ⟨⟨mb, h1⟩, h2⟩ := h
  exact omGet_any h1.ptr h2 p hp
theorem omList_lies {w : World} {r : Nat} {l : List Om.Pr} (h : Om.Lies w r l) (t : ByteArray) :
    Calls Try.prog 25 #[.pointer (some ⟨r, 0, none⟩), .string t] w fun e w' => ∃ A c, e = .returned (.slice A (Om.list t l).length c) ∧ Om.SRow w' w.heap.size A c (Om.list t l) ∧ Below w.heap.size w w' := by
  obtain ⟨⟨mb, h1⟩, h2⟩ := h
  exact omList_any h1.ptr h2 t
theorem omAll_lies {w : World} {r : Nat} {l : List Om.Pr} (h : Om.Lies w r l) :
    Calls Try.prog 23 #[.pointer (some ⟨r, 0, none⟩)] w fun e w' => ∃ A c, e = .returned (.slice A l.length c) ∧ Om.Row w' w.heap.size A c l ∧ Below w.heap.size w w' := by
  obtain ⟨⟨mb, h1⟩, h2⟩ := h
  exact omAll_any h1.ptr h2
theorem omTwin_lies {w : World} {r : Nat} {l : List Om.Pr} (h : Om.Lies w r l) :
    Calls Try.prog 31 #[.pointer (some ⟨r, 0, none⟩)] w fun e w' => e = .returned (.pointer (some ⟨w.heap.size, 0, none⟩)) ∧ Om.Lies w' w.heap.size l ∧ Below w.heap.size w w' := by
  obtain ⟨⟨mb, h1⟩, h2⟩ := h
  exact (omTwin_any h1).mono fun e w' ⟨k1, k2, k3⟩ => ⟨k1, ⟨⟨mb, k2⟩, h2⟩, k3⟩
theorem omFilter_lies {w : World} {r : Nat} {l : List Om.Pr} (h : Om.Lies w r l) {A : Option Addr} {L : List Pa.Mo} (c : Nat) (hit : Pa.listAt w A L) (hL : L.length ≤ 9223372036854775807) :
    Calls Try.prog 28 #[.pointer (some ⟨r, 0, none⟩), .slice A L.length c] w fun e w' => ∃ q, e = .returned (.pointer (some ⟨q, 0, none⟩)) ∧ w.heap.size ≤ q ∧ Om.Lies w' q (Om.filt (Om.ships L) l) ∧ Below w.heap.size w w' := by
  obtain ⟨⟨mb, h1⟩, h2⟩ := h
  exact (omFilter_any h1.ptr h2 c hit hL).mono fun e w' ⟨⟨q, mb', k1, k2, k3⟩, k4⟩ => ⟨q, k1, k2, ⟨⟨mb', k3⟩, h2.filt _⟩, k4⟩
theorem omSame_lies {w : World} {r1 r2 : Nat} {l1 l2 : List Om.Pr} (h1 : Om.Lies w r1 l1) (h2 : Om.Lies w r2 l2) (g : Bool) (hg : g = true ↔ l1 = l2) :
    Calls Try.prog 33 #[.pointer (some ⟨r1, 0, none⟩), .pointer (some ⟨r2, 0, none⟩)] w fun e w' => e = .returned (.bool g) ∧ Below w.heap.size w w' := by
  obtain ⟨⟨mb, h1⟩, h3⟩ := h1
  obtain ⟨⟨mc, h2⟩, h4⟩ := h2
  exact omSame_any h1.ptr h2.ptr (by have := h3.len; omega) g hg
namespace Om
/-- What Of told: a map, or none. -/
theorem OfPost.lies {w w' : World} {e : Ending} {l : List Pr} (h : OfPost w w' e (ofE l)) : ∃ v, e = .returned (.tuple #[v, .int .i64 ((ofE l).2 : Nat)]) ∧ ((ofE l).2 ≠ 0 → v = .pointer none) ∧ ((ofE l).2 = 0 → ∃ r, v = .pointer (some ⟨r, 0, none⟩) ∧ w.heap.size ≤ r ∧ Lies w' r (ofE l).1) ∧ Below w.heap.size w w' := by
  obtain ⟨v, mb, h1, h2, h3, h4⟩ := h
  refine ⟨v, h1, h2, fun h => ?_, h4⟩
  obtain ⟨r, k1, k2, k3⟩ := h3 h
  exact ⟨r, k1, k2, ⟨⟨mb, k3⟩, ofE_good h⟩⟩
end Om
theorem omOf_lies {w : World} {A : Option Addr} {l : List Om.Pr} (c : Nat) (hit : Om.listAt w A l) (hn : l.length ≤ 9223372036854775807) (hs : ∀ x ∈ l, x.p.size ≤ 281474976710656) :
    Calls Try.prog 14 #[.slice A l.length c] w fun e w' => ∃ v, e = .returned (.tuple #[v, .int .i64 ((Om.ofE l).2 : Nat)]) ∧ ((Om.ofE l).2 ≠ 0 → v = .pointer none) ∧ ((Om.ofE l).2 = 0 → ∃ r, v = .pointer (some ⟨r, 0, none⟩) ∧ w.heap.size ≤ r ∧ Om.Lies w' r (Om.ofE l).1) ∧ Below w.heap.size w w' :=
  (omOf_any c hit hn hs).mono fun _ _ h => h.lies
end Go.Proofs.Ytehkbffbehlpnaa
