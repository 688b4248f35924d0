/-
  batch's Right.
-/
import Derived.Test.YtehkbffbehlpnaaBaMay
namespace Go.Proofs.Ytehkbffbehlpnaa
open Go.RowKit Pk
set_option maxRecDepth 100000 in
set_option maxHeartbeats 2000000 in
theorem baRight_any {w : World} (b : Ba.Bt) {A : Option Addr} (c : Nat) (hit : Ba.listAt w A b.ops) (hok : b.Ok) (hs : ∀ o ∈ b.ops, o.p.size ≤ 281474976710656) :
    Calls Try.prog 42 #[.agg #[.int .i64 b.ix, .int .i64 b.ep, .slice A b.ops.length c]] w fun e w' => e = .returned (.int .i64 (Ba.right b : Nat)) ∧ Below w.heap.size w w' := by
  obtain ⟨ix, ep, l⟩ := b
  simp only at hit hs ⊢
  have hl := hok.len
  simp only at hl
  have gn := heap_alloc_new w (.cells #[.int .i64 ix, .int .i64 ep, .slice A l.length c] 80)
  have b1 : Below w.heap.size w (w.alloc (.cells #[.int .i64 ix, .int .i64 ep, .slice A l.length c] 80)) := (Below.refl _ w).alloc (Nat.le_refl _) _
  have x0 := Sm.cells_of gn 0 _ rfl
  have x1 := Sm.cells_of gn 1 _ rfl
  have x2 := Sm.cells_of gn 2 _ rfl
  unfold Ba.right
  simp only
  by_cases h1 : ix < 1
  · rw [if_pos (.inl h1)]
    have B1 := Lib.hid b1
    clear b1 gn hit hs hok
    go_enter Try.func42, Try.ntmps42
    go_wp2
    go_ret
    exact ⟨rfl, B1.out⟩
  by_cases h2 : 4611686018427387904 < ix
  · rw [if_pos (.inr (.inl h2))]
    have B1 := Lib.hid b1
    clear b1 gn hit hs hok
    go_enter Try.func42, Try.ntmps42
    go_wp2
    go_ret
    exact ⟨rfl, B1.out⟩
  by_cases h3 : ep < 1
  · rw [if_pos (.inr (.inr h3))]
    have B1 := Lib.hid b1
    clear b1 gn hit hs hok
    go_enter Try.func42, Try.ntmps42
    go_wp2
    go_ret
    exact ⟨rfl, B1.out⟩
  rw [if_neg (by omega)]
  have hit1 := (hit.below b1).below (Below.drew (Below.refl _ _))
  obtain ⟨W1, hW⟩ : ∃ x, x = (w.alloc (.cells #[.int .i64 ix, .int .i64 ep, .slice A l.length c] 80)).drew := ⟨_, rfl⟩
  have b1d : Below w.heap.size w W1 := by rw [hW]; exact b1.drew
  rw [← hW] at hit1
  have b2 : Below W1.heap.size W1 (W1.alloc (.cells #[.func (.func 62) #[] #[]] 97)) := (Below.refl _ _).alloc (Nat.le_refl _) _
  have g2 := heap_alloc_new W1 (.cells #[.func (.func 62) #[] #[]] 97)
  have hit2 := hit1.below b2
  have hsg := Sm.lt_of g2
  have FI := baFirst_any (w := W1.alloc (.cells #[.func (.func 62) #[] #[]] 97)) c hit2 hl (fun o => Ba.why o (Ba.cutE o.p)) W1.heap.size (fun wx o hb ho => baWhyR_any wx o (hs o ho) W1.heap.size ((hb.cell (p := ⟨W1.heap.size, 0, none⟩) hsg).trans (Sm.cells_of g2 0 _ rfl)) (Nat.lt_of_lt_of_le hsg hb.size))
  have e : Ba.firstE (fun o => Ba.why o (Ba.cutE o.p)) l = if 4 < l.length then 3 else Ba.bar l := by unfold Ba.firstE; rw [Ba.whys_bar]
  rw [e] at FI
  obtain ⟨E, hE⟩ : ∃ E : Nat, E = if 4 < l.length then 3 else Ba.bar l := ⟨_, rfl⟩
  rw [← hE] at FI ⊢
  have HF := Lib.hid FI
  have B2 := Lib.hid (b1d.trans (b2.mono b1d.size))
  have HZ := Lib.hid (Nat.le_trans b1d.size (Nat.le_of_lt hsg))
  have WN := Lib.hid (baWhyNot_any W1 62 #[])
  have y2 : (W1.alloc (.cells #[.func (.func 62) #[] #[]] 97)).cell? ⟨w.heap.size, 2, none⟩ = some (.slice A l.length c) := by
    have := (b2.block w.heap.size (by rw [hW]; exact Sm.lt_of gn))
    refine Sm.cells_of (this.trans (by rw [hW]; exact gn)) 2 _ rfl
  have hlt2 : w.heap.size < (W1.alloc (.cells #[.func (.func 62) #[] #[]] 97)).heap.size := World.block_lt_of_cell? _ _ y2
  have HY : Hid (∀ w4, Below (W1.alloc (.cells #[.func (.func 62) #[] #[]] 97)).heap.size (W1.alloc (.cells #[.func (.func 62) #[] #[]] 97)) w4 → w4.cell? ⟨w.heap.size, 2, none⟩ = some (.slice A l.length c)) := fun w4 h => (h.cell (p := ⟨w.heap.size, 2, none⟩) hlt2).trans y2
  have Y2 := Lib.hid y2
  have X2 : Hid (W1.cell? ⟨w.heap.size, 2, none⟩ = some (.slice A l.length c)) := by show _ = _; rw [hW]; exact x2
  rw [hW] at HF B2 HZ WN Y2 X2 HY
  obtain ⟨W2, hW2⟩ : ∃ x, x = ((w.alloc (.cells #[.int .i64 ix, .int .i64 ep, .slice A l.length c] 80)).alloc (.cells #[.func (.func 62) #[] #[]] 97)).drew := ⟨_, rfl⟩
  have hW3 : ((w.alloc (.cells #[.int .i64 ix, .int .i64 ep, .slice A l.length c] 80)).drew.alloc (.cells #[.func (.func 62) #[] #[]] 97)) = W2 := by rw [hW2]; rfl
  have hsz : (w.alloc (.cells #[.int .i64 ix, .int .i64 ep, .slice A l.length c] 80)).drew.heap.size = w.heap.size + 1 := by simp
  rw [hW3, hsz] at HF WN
  rw [hW3] at B2 HZ Y2 HY
  rw [hW2] at HF B2 HZ WN Y2 HY
  clear hit hok hs gn b1 hit1 hW b1d b2 g2 hit2 hsg FI e hE y2 hlt2 hsz hW2 hW3 W2
  go_enter Try.func42, Try.ntmps42
  go_upto_region 3 with (fail)
  go_region_held3 (fun w' => w'.cell? ⟨w.heap.size, 2, none⟩ = some (.slice A l.length c))
    (first | (with_reducible exact X2.out) | (with_reducible exact Y2.out) | (with_reducible exact Z2.out))
    ((first
      | (go_at_call 61; refine (WN.out).mono ?_; rintro e w3 ⟨rfl, rfl⟩)
      | (go_at_call 60; refine (HF.out).mono ?_; rintro e w4 ⟨rfl, b4⟩; have Z2 := Lib.hid (HY.out _ b4))))
  go_wp2
  go_ret
  exact ⟨rfl, B2.out.trans (b4.mono HZ.out)⟩
end Go.Proofs.Ytehkbffbehlpnaa
