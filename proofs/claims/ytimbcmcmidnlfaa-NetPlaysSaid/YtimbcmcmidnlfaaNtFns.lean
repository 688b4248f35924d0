/-
  What net's none, linked, find do; what slices.Clip and slices.Grow make of a row of packets.
-/
import Derived.Test.YtimbcmcmidnlfaaNtAt
import Derived.WalkSpells
import Derived.Lib.AppendZeros
namespace Go.Proofs.Ytimbcmcmidnlfaa
open Go.RowKit
set_option maxRecDepth 100000 in
theorem ntNone_not {w : World} {r : Nat} (h : w.cell? ⟨r, 0, none⟩ = some (.bool true)) :
    Calls Try.prog 31 #[.pointer (some ⟨r, 0, none⟩)] w fun e w' => e = .returned (.bool false) ∧ w = w' := by
  go_enter Try.func31, Try.ntmps31
  go_wp2
  go_ret
  exact ⟨rfl, rfl⟩
set_option maxRecDepth 100000 in
theorem ntNone_is {w : World} {v : Value} (h : Nt.None w v) :
    Calls Try.prog 31 #[v] w fun e w' => e = .returned (.bool true) ∧ w = w' := by
  rcases h with rfl | ⟨b, rfl, h⟩
  · go_enter Try.func31, Try.ntmps31
    go_wp2
    go_ret
    exact ⟨rfl, rfl⟩
  · have c0 := Sm.cells_of h 0 _ (show Nt.bareCells[0]? = some (.bool false) from rfl)
    clear h
    go_enter Try.func31, Try.ntmps31
    go_wp2
    go_ret
    exact ⟨rfl, rfl⟩
set_option maxRecDepth 100000 in
theorem ntLinked_any (w : World) (p : Nt.Pk) (hf : -9223372036854775808 ≤ p.f ∧ p.f ≤ 9223372036854775807) :
    Calls Try.prog 32 #[.agg p.cells.toArray] w fun e w' => e = .returned (.bool (decide (Nt.linked p))) ∧ Below w.heap.size w w' := by
  obtain ⟨f, t, d⟩ := p
  simp only at hf
  have b1 : Below w.heap.size w (w.alloc (.cells (Nt.Pk.cells ⟨f, t, d⟩).toArray 25)) := (Below.refl _ w).alloc (Nat.le_refl _) _
  have B1 := Lib.hid b1
  clear b1
  unfold Nt.Pk.cells at *
  simp only at *
  by_cases h0 : 0 ≤ f
  · by_cases h2 : f < 2
    · have hx : IntKind.i64.wrap (1 - f) = 1 - f := by simp [IntKind.wrap, IntKind.bits, IntKind.signed]; omega
      by_cases h3 : t = 1 - f
      · have e : decide (Nt.linked ⟨f, t, d⟩) = true := decide_eq_true (p := Nt.linked ⟨f, t, d⟩) (show (f = 0 ∧ t = 1) ∨ (f = 1 ∧ t = 0) by omega)
        rw [e]; clear e
        subst h3
        go_enter Try.func32, Try.ntmps32
        go_wp2
        go_ret
        exact ⟨by simp, B1.out⟩
      · have e : decide (Nt.linked ⟨f, t, d⟩) = false := decide_eq_false (p := Nt.linked ⟨f, t, d⟩) (show ¬ ((f = 0 ∧ t = 1) ∨ (f = 1 ∧ t = 0)) by omega)
        rw [e]; clear e
        have hb : (t == 1 - f) = false := beq_eq_false_iff_ne.2 h3
        go_enter Try.func32, Try.ntmps32
        go_wp2
        go_ret
        exact ⟨by simp, B1.out⟩
    · have e : decide (Nt.linked ⟨f, t, d⟩) = false := decide_eq_false (p := Nt.linked ⟨f, t, d⟩) (show ¬ ((f = 0 ∧ t = 1) ∨ (f = 1 ∧ t = 0)) by omega)
      rw [e]; clear e
      go_enter Try.func32, Try.ntmps32
      go_wp2
      go_ret
      exact ⟨rfl, B1.out⟩
  · have e : decide (Nt.linked ⟨f, t, d⟩) = false := decide_eq_false (p := Nt.linked ⟨f, t, d⟩) (show ¬ ((f = 0 ∧ t = 1) ∨ (f = 1 ∧ t = 0)) by omega)
    rw [e]; clear e
    go_enter Try.func32, Try.ntmps32
    go_wp2
    go_ret
    exact ⟨rfl, B1.out⟩
set_option maxRecDepth 100000 in
theorem ntFind_any {B : Nat} {w0 w : World} {r : Nat} {L : Nat → Prop} {M : Nt.Md} (h : Nt.Own B w0 w r L M) (i : Int) :
    Calls Try.prog 34 #[.pointer (some ⟨r, 0, none⟩), .int .i64 i] w fun e w' => e = .returned (.int .i64 (if Nt.there M i then 0 else 4)) ∧ w = w' := by
  obtain ⟨A, c, hn, -, -, -, -⟩ := h.netBlock
  have hlen := h.net.ok.len
  have c0 := Sm.cells_of hn 0 _ rfl
  have c2 := Sm.cells_of hn 2 _ rfl
  have NO := Lib.hid (ntNone_not c0)
  clear h hn
  by_cases hi : i < 0
  · have e : Nt.there M i = false := Nt.there_not.2 (by omega)
    rw [e]; clear e
    go_enter Try.func34, Try.ntmps34
    go_wp2_with (go_at_call 31; refine NO.out.mono ?_; rintro e w' ⟨rfl, rfl⟩)
    go_ret
    exact ⟨rfl, rfl⟩
  · by_cases hl : i < (M.row.length : Int)
    · have e : Nt.there M i = true := Nt.there_iff.2 (by omega)
      rw [e]; clear e
      have hl2 : ¬ (M.row.length : Int) ≤ i := by omega
      go_enter Try.func34, Try.ntmps34
      go_wp2_with (go_at_call 31; refine NO.out.mono ?_; rintro e w' ⟨rfl, rfl⟩)
      go_ret
      exact ⟨rfl, rfl⟩
    · have e : Nt.there M i = false := Nt.there_not.2 (by omega)
      rw [e]; clear e
      have hl2 : (M.row.length : Int) ≤ i := by omega
      go_enter Try.func34, Try.ntmps34
      go_wp2_with (go_at_call 31; refine NO.out.mono ?_; rintro e w' ⟨rfl, rfl⟩)
      go_ret
      exact ⟨rfl, rfl⟩
set_option maxRecDepth 100000 in
theorem ntFind_none {w : World} {v : Value} (h : Nt.None w v) (i : Int) :
    Calls Try.prog 34 #[v, .int .i64 i] w fun e w' => e = .returned (.int .i64 2) ∧ w = w' := by
  have NO := Lib.hid (ntNone_is h)
  clear h
  go_enter Try.func34, Try.ntmps34
  go_wp2_with (go_at_call 31; refine NO.out.mono ?_; rintro e w' ⟨rfl, rfl⟩)
  go_ret
  exact ⟨rfl, rfl⟩
set_option maxRecDepth 100000 in
theorem clipPk_any (w : World) (A : Option Addr) (n c : Nat) (hn : n ≤ c) (hm : n ≤ 1099511627776) (hA : A ≠ none ∨ n = 0 ∧ c = 0) :
    Calls Try.prog 58 #[.slice A n c] w fun e w' => e = .returned (.slice A n n) ∧ w = w' := by
  rcases hA with hA | ⟨rfl, rfl⟩
  · cases A with
    | none => exact absurd rfl hA
    | some a =>
      go_enter Try.func58, Try.ntmps58
      go_wp2
      go_ret
      exact ⟨rfl, rfl⟩
  · cases A with
    | none =>
      go_enter Try.func58, Try.ntmps58
      go_wp2
      go_ret
      exact ⟨rfl, rfl⟩
    | some a =>
      go_enter Try.func58, Try.ntmps58
      go_wp2
      go_ret
      exact ⟨rfl, rfl⟩
end Go.Proofs.Ytimbcmcmidnlfaa
