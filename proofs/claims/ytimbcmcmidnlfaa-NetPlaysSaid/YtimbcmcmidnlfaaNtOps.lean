/-
  net's Post, Dup, Lose, Take.
-/
import Derived.Test.YtimbcmcmidnlfaaNtDrop
namespace Go.Proofs.Ytimbcmcmidnlfaa
open Go.RowKit
section
variable {B : Nat} {w0 w : World} {r : Nat} {L : Nat → Prop} {M : Nt.Md}
theorem ntPut_any (h : Nt.Own B w0 w r L M) (p : Nt.Pk) (hl : Nt.linked p) (hd : p.d.size ≤ 1099511627776) :
    Calls Try.prog 33 #[.pointer (some ⟨r, 0, none⟩), .agg p.cells.toArray] w fun e w' => e = .returned (.int .i64 (Nt.put M p).2) ∧ Nt.Step B w0 w w' r L (Nt.put M p).1 := by
  by_cases hc : Nt.count M.row p.f = 64
  · have e : Nt.put M p = (M, 6) := by simp [Nt.put, hc]
    rw [e]
    refine (ntPut_full h p hl hc).mono ?_
    rintro e w' ⟨rfl, hb⟩
    exact ⟨rfl, Nt.Step.ofLow h hb⟩
  · have e : Nt.put M p = ({ M with row := M.row ++ [p] }, 0) := by simp [Nt.put, hc]
    rw [e]
    exact ntPut_room h p hl hd hc
set_option maxRecDepth 100000 in
theorem ntPost_any (h : Nt.Own B w0 w r L M) (p : Nt.Pk) (hf : -9223372036854775808 ≤ p.f ∧ p.f ≤ 9223372036854775807) (hd : p.d.size ≤ 1099511627776) :
    Calls Try.prog 11 #[.pointer (some ⟨r, 0, none⟩), .agg p.cells.toArray] w fun e w' => e = .returned (.int .i64 (Nt.post M p).2) ∧ Nt.Step B w0 w w' r L (Nt.post M p).1 := by
  obtain ⟨cs, hcs⟩ : ∃ cs, cs = p.cells := ⟨_, rfl⟩
  have hlt := h.lt
  have b1 : Below w.heap.size w (w.alloc (.cells cs.toArray 25)) := (Below.refl _ w).alloc (Nat.le_refl _) _
  have H1 := Lib.hid (h.low b1)
  have ST1 := Lib.hid (Nt.Step.ofLow h b1)
  have NO := Lib.hid (ntNone_not (h.low b1).cell0)
  have g1 := heap_alloc_new w (.cells cs.toArray 25)
  obtain ⟨c0, c1, c2, hc⟩ : ∃ a b c, cs = [a, b, c] := ⟨_, _, _, hcs⟩
  have HCS := Lib.hid hcs
  by_cases hl : Nt.linked p
  · have LI : Hid (∀ wx : World, Calls Try.prog 32 #[.agg p.cells.toArray] wx fun e w' => e = .returned (.bool true) ∧ Below wx.heap.size wx w') := fun wx => by
      have := ntLinked_any wx p hf
      rw [decide_eq_true hl] at this; exact this
    have e : Nt.post M p = Nt.put M p := by simp [Nt.post, hl]
    rw [e]
    have PU : Hid (∀ (wx : World), Nt.Own B w0 wx r L M → Calls Try.prog 33 #[.pointer (some ⟨r, 0, none⟩), .agg p.cells.toArray] wx fun e w' => e = .returned (.int .i64 (Nt.put M p).2) ∧ Nt.Step B w0 wx w' r L (Nt.put M p).1) := fun wx hx => ntPut_any hx p hl hd
    rw [← hcs] at LI PU ⊢
    clear h hcs e b1
    generalize (Nt.put M p) = MP at *
    subst hc
    go_enter Try.func11, Try.ntmps11
    go_wp2_with fail
    refine NO.out.mono ?_
    rintro e w1 ⟨rfl, rfl⟩
    have x0 := Sm.cells_of g1 0 _ rfl
    have x1 := Sm.cells_of g1 1 _ rfl
    have x2 := Sm.cells_of g1 2 _ rfl
    go_wp2_with fail
    refine (LI.out _).mono ?_
    rintro e w2 ⟨rfl, k2⟩
    have ST2 := ST1.out.low k2
    have g2 := (k2.block w.heap.size (Sm.lt_of g1)).trans g1
    clear x0 x1 x2 g1 k2 LI NO
    have x0 := Sm.cells_of g2 0 _ rfl
    have x1 := Sm.cells_of g2 1 _ rfl
    have x2 := Sm.cells_of g2 2 _ rfl
    go_wp2_with fail
    refine (PU.out _ ST2.own).mono ?_
    rintro e w3 ⟨rfl, st3⟩
    have ST3 := Lib.hid (ST2.trans st3)
    clear x0 x1 x2 g2 st3 ST2
    go_wp2
    go_ret
    exact ⟨rfl, ST3.out⟩
  · have LI : Hid (∀ wx : World, Calls Try.prog 32 #[.agg p.cells.toArray] wx fun e w' => e = .returned (.bool false) ∧ Below wx.heap.size wx w') := fun wx => by
      have := ntLinked_any wx p hf
      rw [decide_eq_false hl] at this; exact this
    have e : Nt.post M p = (M, 1) := by simp [Nt.post, hl]
    rw [e]
    rw [← hcs] at LI ⊢
    clear h hcs e b1
    subst hc
    go_enter Try.func11, Try.ntmps11
    go_wp2_with fail
    refine NO.out.mono ?_
    rintro e w1 ⟨rfl, rfl⟩
    have x0 := Sm.cells_of g1 0 _ rfl
    have x1 := Sm.cells_of g1 1 _ rfl
    have x2 := Sm.cells_of g1 2 _ rfl
    go_wp2_with fail
    refine (LI.out _).mono ?_
    rintro e w2 ⟨rfl, k2⟩
    have ST2 := Lib.hid (ST1.out.low k2)
    clear x0 x1 x2 g1 k2 LI NO
    go_wp2
    go_ret
    exact ⟨rfl, ST2.out⟩
set_option maxRecDepth 100000 in
theorem ntLose_any (h : Nt.Own B w0 w r L M) (i : Int) :
    Calls Try.prog 15 #[.pointer (some ⟨r, 0, none⟩), .int .i64 i] w fun e w' => e = .returned (.int .i64 (Nt.lose M i).2) ∧ Nt.Step B w0 w w' r L (Nt.lose M i).1 := by
  have FI := Lib.hid (ntFind_any h i)
  have ST1 := Lib.hid (Nt.Step.refl h)
  by_cases ht : Nt.there M i = true
  · have e : Nt.lose M i = (Nt.drop M i.toNat, 0) := by simp [Nt.lose, ht]
    rw [e]
    obtain ⟨k, rfl⟩ : ∃ k : Nat, i = (k : Int) := ⟨i.toNat, by have := Nt.there_iff.1 ht; omega⟩
    rw [if_pos ht] at FI
    have DR := Lib.hid (ntDrop_any h k (by have := Nt.there_iff.1 ht; omega))
    rw [Int.toNat_natCast]
    clear h e
    go_enter Try.func15, Try.ntmps15
    go_wp2_with fail
    refine FI.out.mono ?_
    rintro e w1 ⟨rfl, rfl⟩
    go_wp2_with fail
    refine DR.out.mono ?_
    rintro e w2 ⟨rfl, st⟩
    have ST := Lib.hid st
    clear st
    go_wp2
    go_ret
    exact ⟨rfl, ST.out⟩
  · have e : Nt.lose M i = (M, 4) := by simp [Nt.lose, ht]
    rw [e]
    rw [if_neg ht] at FI
    clear h e
    go_enter Try.func15, Try.ntmps15
    go_wp2_with fail
    refine FI.out.mono ?_
    rintro e w1 ⟨rfl, rfl⟩
    go_wp2
    go_ret
    exact ⟨rfl, ST1.out⟩
set_option maxRecDepth 100000 in
theorem ntDup_any (h : Nt.Own B w0 w r L M) (i : Int) :
    Calls Try.prog 12 #[.pointer (some ⟨r, 0, none⟩), .int .i64 i] w fun e w' => e = .returned (.int .i64 (Nt.dup M i).2) ∧ Nt.Step B w0 w w' r L (Nt.dup M i).1 := by
  have FI := Lib.hid (ntFind_any h i)
  have ST1 := Lib.hid (Nt.Step.refl h)
  by_cases ht : Nt.there M i = true
  · obtain ⟨k, rfl⟩ : ∃ k : Nat, i = (k : Int) := ⟨i.toNat, by have := Nt.there_iff.1 ht; omega⟩
    have hk : k < M.row.length := by have := Nt.there_iff.1 ht; omega
    have e : Nt.dup M k = Nt.put M M.row[k] := by simp only [Nt.dup, ht, if_true, Nt.at_get hk]
    rw [e]
    rw [if_pos ht] at FI
    obtain ⟨A, c, hn, hP, -, -, -⟩ := h.netBlock
    have hlen := h.net.ok.len
    have c2 := Sm.cells_of hn 2 _ rfl
    obtain ⟨g, rfl, hgl, x0, x1, x2⟩ := hP.get hk
    obtain ⟨p, hp⟩ : ∃ p, p = M.row[k] := ⟨_, rfl⟩
    rw [← hp] at x0 x1 x2 ⊢
    have PU := Lib.hid (ntPut_any h p (by rw [hp]; exact h.net.ok.links _ (List.getElem_mem hk)) (by rw [hp]; exact h.net.ok.data _ (List.getElem_mem hk)))
    have hki : (k : Int) < (M.row.length : Int) := by omega
    clear h e hn hP hp
    generalize Nt.put M p = MP at *
    obtain ⟨f, t, d⟩ := p
    unfold Nt.Pk.cells at PU
    simp only at x0 x1 x2 PU
    go_enter Try.func12, Try.ntmps12
    go_wp2_with fail
    refine FI.out.mono ?_
    rintro e w1 ⟨rfl, rfl⟩
    go_wp2_with fail
    refine PU.out.mono ?_
    rintro e w2 ⟨rfl, st⟩
    have ST := Lib.hid st
    clear st c2 x0 x1 x2
    go_wp2
    go_ret
    exact ⟨rfl, ST.out⟩
  · have e : Nt.dup M i = (M, 4) := by simp [Nt.dup, ht]
    rw [e]
    rw [if_neg ht] at FI
    clear h e
    go_enter Try.func12, Try.ntmps12
    go_wp2_with fail
    refine FI.out.mono ?_
    rintro e w1 ⟨rfl, rfl⟩
    go_wp2
    go_ret
    exact ⟨rfl, ST1.out⟩
end
end Go.Proofs.Ytimbcmcmidnlfaa
