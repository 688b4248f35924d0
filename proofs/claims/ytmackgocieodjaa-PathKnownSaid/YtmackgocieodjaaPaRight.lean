/-
  path's Right.
-/
import Derived.Test.YtmackgocieodjaaPaOf
namespace Go.Proofs.Ytmackgocieodjaa
open Go.RowKit
namespace Pa
/-- The first i of the mounts are right. -/
def RightTo (l : List Mo) (i : Nat) : Prop := ∀ j (h : j < l.length), j < i → named l[j].n.data.toList = true ∧ ∀ k (hk : k < l.length), k < j → same l[k].n l[j].n = false
/-- Mounts are right. -/
def Rightly (l : List Mo) : Prop := (1 ≤ l.length ∧ l.length ≤ 4) ∧ RightTo l l.length
theorem RightTo.next {l : List Mo} {i : Nat} (h : RightTo l i) (hi : i < l.length) (hn : named l[i].n.data.toList = true) (hs : ∀ k (hk : k < l.length), k < i → same l[k].n l[i].n = false) : RightTo l (i + 1) := fun j hj hji => by
  by_cases e : j = i
  · subst e; exact ⟨hn, hs⟩
  · exact h j hj (by omega)
/-- The name of the i-th is none of those ahead: there is none of it among them. -/
theorem pos_take {l : List Mo} {i : Nat} (hi : i < l.length) : (pos l[i].n (l.take i) = -1 ∧ ∀ k (hk : k < l.length), k < i → same l[k].n l[i].n = false) ∨ (∃ n : Nat, pos l[i].n (l.take i) = n ∧ n < i ∧ ∃ k, ∃ hk : k < l.length, k < i ∧ same l[k].n l[i].n = true) := by
  have hlen : (l.take i).length = i := by rw [List.length_take]; omega
  rcases pos_cases l[i].n (l.take i) with ⟨h1, -, h2⟩ | ⟨n, hn, h1, -, h2, -⟩
  · refine .inl ⟨h1, fun k hk hki => ?_⟩
    have := h2 k (by omega)
    rwa [List.getElem_take] at this
  · refine .inr ⟨n, h1, by omega, n, by omega, by omega, ?_⟩
    rwa [List.getElem_take] at h2
theorem mosAt.take {w : World} {b off : Nat} {l : List Mo} (h : mosAt w b off l) (i : Nat) : mosAt w b off (l.take i) := fun k hk => by
  have := h k (by rw [List.length_take] at hk; omega)
  rwa [← List.getElem_take] at this
end Pa
set_option maxRecDepth 100000 in
set_option maxHeartbeats 2000000 in
theorem paRight_some (w : World) (b off c : Nat) (l : List Pa.Mo) (hb : b < w.heap.size) (hit : Pa.mosAt w b off l) (hl : l.length ≤ c) (hc : c ≤ 9223372036854775807) (g : Bool) (hg : g = true ↔ Pa.Rightly l) :
    Calls Try.prog 18 #[.slice (some ⟨b, off, none⟩) l.length c] w fun e w' => e = .returned (.bool g) ∧ Below w.heap.size w w' := by
  have HIT := Lib.hid hit
  have HG := Lib.hid hg
  clear hit hg
  go_enter Try.func18, Try.ntmps18
  by_cases h1 : l.length < 1
  · have h1i : (l.length : Int) < 1 := by omega
    have hgf : g = false := by
      cases hgc : g
      · rfl
      · have := (HG.out.1 hgc).1; omega
    subst hgf
    go_wp2
    go_ret
    exact ⟨by rfl, Below.refl _ w⟩
  · have h1i : ¬ (l.length : Int) < 1 := by omega
    by_cases h4 : 4 < l.length
    · have h4i : (4 : Int) < l.length := by omega
      have hgf : g = false := by
        cases hgc : g
        · rfl
        · have := (HG.out.1 hgc).1; omega
      subst hgf
      go_wp2
      go_ret
      exact ⟨by rfl, Below.refl _ w⟩
    · have h4i : ¬ (4 : Int) < l.length := by omega
      go_wp2
      go_loopw [15] (fun s15 wr => ∃ i : Nat, s15 = .int .i64 i ∧ i ≤ l.length ∧ Pa.RightTo l i ∧ Below w.heap.size w wr) (fun s15 _ => l.length - (intOf s15).toNat)
      case atStart => exact ⟨0, rfl, Nat.zero_le _, fun j _ h => absurd h (Nat.not_lt_zero _), Below.refl _ w⟩
      case round =>
        obtain ⟨i, rfl, hi, hall, bw⟩ := hrel
        have HA := Lib.hid hall
        clear hall
        by_cases hil : i < l.length
        · have hii : (i : Int) < l.length := by omega
          have hsuc : IntKind.i64.wrap ((i : Int) + 1) = ((i + 1 : Nat) : Int) := by simp [IntKind.wrap, IntKind.bits, IntKind.signed]; omega
          have k1 : (0 : Int) ≤ (i : Int) := by omega
          have k2 : (i : Int) ≤ (c : Int) := by omega
          have k3 : (i : Int) ≤ (l.length : Int) := by omega
          have HM := Lib.hid (HIT.out.below bw hb)
          have hbr : b < wr.heap.size := Nat.lt_of_lt_of_le hb bw.size
          obtain ⟨c0, c1⟩ := HM.out i hil
          obtain ⟨xn, hxn⟩ : ∃ x, x = l[i].n := ⟨_, rfl⟩
          obtain ⟨xs, hxs⟩ : ∃ x, x = l[i].s := ⟨_, rfl⟩
          rw [← hxn] at c0
          rw [← hxs] at c1
          have g5 := heap_alloc_new wr (.cells #[.string xn, .bool xs] 32)
          have y0 := Sm.cells_of g5 0 _ rfl
          have y1 : (wr.alloc (.cells #[.string xn, .bool xs] 32)).drew.cell? ⟨wr.heap.size, 0, none⟩ = some (.string xn) := y0
          have b5 : Below wr.heap.size wr (wr.alloc (.cells #[.string xn, .bool xs] 32)) := (Below.refl _ wr).alloc (Nat.le_refl _) _
          have IN := Lib.hid (fun wx => paIsName_any wx xn)
          have FI : Hid (∀ wx, Below wr.heap.size wr wx → Calls Try.prog 28 #[.slice (some ⟨b, off, none⟩) i c, .string xn] wx fun e w' => e = .returned (.int .i64 (Pa.pos xn (l.take i))) ∧ Below wx.heap.size wx w') := fun wx hx => by
            have hlen : (l.take i).length = i := by rw [List.length_take]; omega
            have := paFind_any (w := wx) (l := l.take i) c (.inr ⟨b, off, rfl, Nat.lt_of_lt_of_le hbr hx.size, (HM.out.take i).below hx hbr⟩) (by omega) xn
            rwa [hlen] at this
          have HX := Lib.hid hxn
          have G5 := Lib.hid g5
          clear hxn hxs g5
          have B5 := Lib.hid b5
          have BW := Lib.hid bw
          clear b5 bw
          cases hnm : Pa.named xn.data.toList
          · rw [hnm] at IN
            have hgf : g = false := by
              cases hgc : g
              · rfl
              · have := (HG.out.1 hgc).2 i hil hil
                rw [← HX.out, hnm] at this
                exact absurd this.1 (by decide)
            subst hgf
            clear hnm
            go_upto_region 6 with (fail)
            refine wp_region_held_drew (S := fun w' => w'.cell? ⟨wr.heap.size, 0, none⟩ = some (.string xn)) (by kernel_rfl) y1 (fun hHeld => ?_)
            refine wpAnyH_take (i := 0) (oi := ⟨some 20, _, _, _, _, _⟩) (v := .pointer (some ⟨wr.heap.size, 0, none⟩)) rfl (by kernel_rfl) (by kernel_rfl) (by kernel_rfl) (fun _ _ _ h => h) (Or.inl ⟨by rfl, ?_⟩) (by assumption) ?_
            · intro w hSw; (try dsimp only at hSw); go_simp
            simp only [Act.put, List.setIfInBounds_toArray, List.set_cons_zero, List.set_cons_succ]
            refine wpAnyH_take (i := 1) (oi := ⟨some 21, _, _, _, _, _⟩) (v := .string xn) rfl (by kernel_rfl) (by kernel_rfl) (by kernel_rfl) (fun _ _ _ h => h) (Or.inl ⟨by rfl, ?_⟩) (by assumption) ?_
            · intro w hSw; (try dsimp only at hSw); go_simp
            simp only [Act.put, List.setIfInBounds_toArray, List.set_cons_zero, List.set_cons_succ]
            refine wpAnyH_ready (rs := [2]) (by kernel_rfl) (by simp) ?_
            refine (AllReadyH.cons (o := ⟨some 22, _, _, _, _, _⟩) rfl (fun K hK => ?_) AllReadyH.nil)
            go_simp
            refine (IN.out _).mono ?_
            rintro e w2 ⟨rfl, rfl⟩
            refine hK.out _ _ y1 (fun hHeld => ?_)
            clear hK K
            refine wpAnyH_take (i := 3) (oi := ⟨some 23, _, _, _, _, _⟩) (v := .bool true) rfl (by kernel_rfl) (by kernel_rfl) (by kernel_rfl) (fun _ _ _ h => h) (Or.inl ⟨by rfl, ?_⟩) (by assumption) ?_
            · intro w hSw; (try dsimp only at hSw); go_simp
            simp only [Act.put, List.setIfInBounds_toArray, List.set_cons_zero, List.set_cons_succ]
            refine wpAnyH_take (i := 4) (oi := ⟨some 24, _, _, _, _, _⟩) (v := .bool true) rfl (by kernel_rfl) (by kernel_rfl) (by kernel_rfl) (fun _ _ _ h => h) (Or.inl ⟨by rfl, ?_⟩) (by assumption) ?_
            · intro w hSw; (try dsimp only at hSw); go_simp
            simp only [Act.put, List.setIfInBounds_toArray, List.set_cons_zero, List.set_cons_succ]
            refine wpAnyH_take (i := 5) (oi := ⟨some 25, _, _, _, _, _⟩) (v := undef) rfl (by kernel_rfl) (by kernel_rfl) (by kernel_rfl) (fun _ _ _ h => h) (Or.inr ⟨by rfl, rfl⟩) (by assumption) ?_
            simp only [Act.put, List.setIfInBounds_toArray, List.set_cons_zero, List.set_cons_succ]
            refine wpAnyH_take (i := 6) (oi := ⟨some 26, _, _, _, _, _⟩) (v := undef) rfl (by kernel_rfl) (by kernel_rfl) (by kernel_rfl) (fun _ _ _ h => h) (Or.inr ⟨by rfl, rfl⟩) (by assumption) ?_
            simp only [Act.put, List.setIfInBounds_toArray, List.set_cons_zero, List.set_cons_succ]
            refine wpAnyH_take (i := 7) (oi := ⟨some 27, _, _, _, _, _⟩) (v := undef) rfl (by kernel_rfl) (by kernel_rfl) (by kernel_rfl) (fun _ _ _ h => h) (Or.inr ⟨by rfl, rfl⟩) (by assumption) ?_
            simp only [Act.put, List.setIfInBounds_toArray, List.set_cons_zero, List.set_cons_succ]
            refine wpAnyH_take (i := 8) (oi := ⟨some 28, _, _, _, _, _⟩) (v := undef) rfl (by kernel_rfl) (by kernel_rfl) (by kernel_rfl) (fun _ _ _ h => h) (Or.inr ⟨by rfl, rfl⟩) (by assumption) ?_
            simp only [Act.put, List.setIfInBounds_toArray, List.set_cons_zero, List.set_cons_succ]
            refine wpAnyH_take (i := 9) (oi := ⟨some 29, _, _, _, _, _⟩) (v := undef) rfl (by kernel_rfl) (by kernel_rfl) (by kernel_rfl) (fun _ _ _ h => h) (Or.inr ⟨by rfl, rfl⟩) (by assumption) ?_
            simp only [Act.put, List.setIfInBounds_toArray, List.set_cons_zero, List.set_cons_succ]
            refine wpAnyH_take (i := 10) (oi := ⟨some 30, _, _, _, _, _⟩) (v := undef) rfl (by kernel_rfl) (by kernel_rfl) (by kernel_rfl) (fun _ _ _ h => h) (Or.inr ⟨by rfl, rfl⟩) (by assumption) ?_
            simp only [Act.put, List.setIfInBounds_toArray, List.set_cons_zero, List.set_cons_succ]
            refine wpAnyH_take (i := 11) (oi := ⟨some 31, _, _, _, _, _⟩) (v := undef) rfl (by kernel_rfl) (by kernel_rfl) (by kernel_rfl) (fun _ _ _ h => h) (Or.inr ⟨by rfl, rfl⟩) (by assumption) ?_
            simp only [Act.put, List.setIfInBounds_toArray, List.set_cons_zero, List.set_cons_succ]
            refine wpAnyH_take (i := 12) (oi := ⟨some 32, _, _, _, _, _⟩) (v := .bool true) rfl (by kernel_rfl) (by kernel_rfl) (by kernel_rfl) (fun _ _ _ h => h) (Or.inl ⟨by rfl, ?_⟩) (by assumption) ?_
            · intro w hSw; (try dsimp only at hSw); go_simp
            simp only [Act.put, List.setIfInBounds_toArray, List.set_cons_zero, List.set_cons_succ]
            refine wpAnyH_done (by kernel_rfl) ?_ _
            go_wp2_with fail
            go_ret
            exact ⟨by rfl, BW.out.trans (B5.out.drew.mono BW.out.size)⟩
          · rw [hnm] at IN
            go_upto_region 6 with (fail)
            rcases Pa.pos_take hil with ⟨hp, hs⟩ | ⟨n, hp, hn, k, hk, hki, hs⟩
            · rw [← HX.out] at hp hs
              rw [hp] at FI
              have HN := Lib.hid (HA.out.next hil (by rw [← HX.out]; exact hnm) (by rw [← HX.out]; exact hs))
              clear hp hs hnm
              refine wp_region_held_drew (S := fun w' => w'.cell? ⟨wr.heap.size, 0, none⟩ = some (.string xn)) (by kernel_rfl) y1 (fun hHeld => ?_)
              refine wpAnyH_take (i := 0) (oi := ⟨some 20, _, _, _, _, _⟩) (v := .pointer (some ⟨wr.heap.size, 0, none⟩)) rfl (by kernel_rfl) (by kernel_rfl) (by kernel_rfl) (fun _ _ _ h => h) (Or.inl ⟨by rfl, ?_⟩) (by assumption) ?_
              · intro w hSw; (try dsimp only at hSw); go_simp
              simp only [Act.put, List.setIfInBounds_toArray, List.set_cons_zero, List.set_cons_succ]
              refine wpAnyH_take (i := 1) (oi := ⟨some 21, _, _, _, _, _⟩) (v := .string xn) rfl (by kernel_rfl) (by kernel_rfl) (by kernel_rfl) (fun _ _ _ h => h) (Or.inl ⟨by rfl, ?_⟩) (by assumption) ?_
              · intro w hSw; (try dsimp only at hSw); go_simp
              simp only [Act.put, List.setIfInBounds_toArray, List.set_cons_zero, List.set_cons_succ]
              refine wpAnyH_ready (rs := [2]) (by kernel_rfl) (by simp) ?_
              refine (AllReadyH.cons (o := ⟨some 22, _, _, _, _, _⟩) rfl (fun K hK => ?_) AllReadyH.nil)
              go_simp
              refine (IN.out _).mono ?_
              rintro e w2 ⟨rfl, rfl⟩
              refine hK.out _ _ y1 (fun hHeld => ?_)
              clear hK K
              refine wpAnyH_take (i := 3) (oi := ⟨some 23, _, _, _, _, _⟩) (v := .bool false) rfl (by kernel_rfl) (by kernel_rfl) (by kernel_rfl) (fun _ _ _ h => h) (Or.inl ⟨by rfl, ?_⟩) (by assumption) ?_
              · intro w hSw; (try dsimp only at hSw); go_simp
              simp only [Act.put, List.setIfInBounds_toArray, List.set_cons_zero, List.set_cons_succ]
              refine wpAnyH_take (i := 4) (oi := ⟨some 24, _, _, _, _, _⟩) (v := .bool false) rfl (by kernel_rfl) (by kernel_rfl) (by kernel_rfl) (fun _ _ _ h => h) (Or.inl ⟨by rfl, ?_⟩) (by assumption) ?_
              · intro w hSw; (try dsimp only at hSw); go_simp
              simp only [Act.put, List.setIfInBounds_toArray, List.set_cons_zero, List.set_cons_succ]
              refine wpAnyH_take (i := 5) (oi := ⟨some 25, _, _, _, _, _⟩) (v := .slice (some ⟨b, off, none⟩) l.length c) rfl (by kernel_rfl) (by kernel_rfl) (by kernel_rfl) (fun _ _ _ h => h) (Or.inl ⟨by rfl, ?_⟩) (by assumption) ?_
              · intro w hSw; (try dsimp only at hSw); go_simp
              simp only [Act.put, List.setIfInBounds_toArray, List.set_cons_zero, List.set_cons_succ]
              refine wpAnyH_take (i := 6) (oi := ⟨some 26, _, _, _, _, _⟩) (v := .int .i64 (i : Int)) rfl (by kernel_rfl) (by kernel_rfl) (by kernel_rfl) (fun _ _ _ h => h) (Or.inl ⟨by rfl, ?_⟩) (by assumption) ?_
              · intro w hSw; (try dsimp only at hSw); go_simp
              simp only [Act.put, List.setIfInBounds_toArray, List.set_cons_zero, List.set_cons_succ]
              refine wpAnyH_take (i := 7) (oi := ⟨some 27, _, _, _, _, _⟩) (v := .slice (some ⟨b, off, none⟩) i c) rfl (by kernel_rfl) (by kernel_rfl) (by kernel_rfl) (fun _ _ _ h => h) (Or.inl ⟨by rfl, ?_⟩) (by assumption) ?_
              · intro w hSw; (try dsimp only at hSw); go_simp
              simp only [Act.put, List.setIfInBounds_toArray, List.set_cons_zero, List.set_cons_succ]
              refine wpAnyH_take (i := 8) (oi := ⟨some 28, _, _, _, _, _⟩) (v := .pointer (some ⟨wr.heap.size, 0, none⟩)) rfl (by kernel_rfl) (by kernel_rfl) (by kernel_rfl) (fun _ _ _ h => h) (Or.inl ⟨by rfl, ?_⟩) (by assumption) ?_
              · intro w hSw; (try dsimp only at hSw); go_simp
              simp only [Act.put, List.setIfInBounds_toArray, List.set_cons_zero, List.set_cons_succ]
              refine wpAnyH_take (i := 9) (oi := ⟨some 29, _, _, _, _, _⟩) (v := .string xn) rfl (by kernel_rfl) (by kernel_rfl) (by kernel_rfl) (fun _ _ _ h => h) (Or.inl ⟨by rfl, ?_⟩) (by assumption) ?_
              · intro w hSw; (try dsimp only at hSw); go_simp
              simp only [Act.put, List.setIfInBounds_toArray, List.set_cons_zero, List.set_cons_succ]
              refine wpAnyH_ready (rs := [10]) (by kernel_rfl) (by simp) ?_
              refine (AllReadyH.cons (o := ⟨some 30, _, _, _, _, _⟩) rfl (fun K hK => ?_) AllReadyH.nil)
              go_simp
              refine (FI.out _ B5.out.drew).mono ?_
              rintro e w3 ⟨rfl, b3⟩
              refine hK.out _ _ ((b3.cell (p := ⟨wr.heap.size, 0, none⟩) (Sm.lt_of G5.out)).trans y1) (fun hHeld => ?_)
              clear hK K
              refine wpAnyH_take (i := 11) (oi := ⟨some 31, _, _, _, _, _⟩) (v := .bool false) rfl (by kernel_rfl) (by kernel_rfl) (by kernel_rfl) (fun _ _ _ h => h) (Or.inl ⟨by rfl, ?_⟩) (by assumption) ?_
              · intro w hSw; (try dsimp only at hSw); go_simp
              simp only [Act.put, List.setIfInBounds_toArray, List.set_cons_zero, List.set_cons_succ]
              refine wpAnyH_take (i := 12) (oi := ⟨some 32, _, _, _, _, _⟩) (v := .bool false) rfl (by kernel_rfl) (by kernel_rfl) (by kernel_rfl) (fun _ _ _ h => h) (Or.inl ⟨by rfl, ?_⟩) (by assumption) ?_
              · intro w hSw; (try dsimp only at hSw); go_simp
              simp only [Act.put, List.setIfInBounds_toArray, List.set_cons_zero, List.set_cons_succ]
              refine wpAnyH_done (by kernel_rfl) ?_ _
              go_wp2_with fail
              go_roundw
              case rel => exact ⟨i + 1, rfl, by omega, HN.out, BW.out.trans ((B5.out.drew.trans (b3.mono B5.out.drew.size)).mono BW.out.size)⟩
              case measure => simp only [intOf]; omega
            · rw [← HX.out] at hp hs
              rw [hp] at FI
              have hgf : g = false := by
                cases hgc : g
                · rfl
                · have := ((HG.out.1 hgc).2 i hil hil).2 k hk hki
                  rw [← HX.out, hs] at this
                  exact absurd this (by decide)
              subst hgf
              have hn0 : (0 : Int) ≤ (n : Int) := by omega
              clear hp hs hnm
              refine wp_region_held_drew (S := fun w' => w'.cell? ⟨wr.heap.size, 0, none⟩ = some (.string xn)) (by kernel_rfl) y1 (fun hHeld => ?_)
              refine wpAnyH_take (i := 0) (oi := ⟨some 20, _, _, _, _, _⟩) (v := .pointer (some ⟨wr.heap.size, 0, none⟩)) rfl (by kernel_rfl) (by kernel_rfl) (by kernel_rfl) (fun _ _ _ h => h) (Or.inl ⟨by rfl, ?_⟩) (by assumption) ?_
              · intro w hSw; (try dsimp only at hSw); go_simp
              simp only [Act.put, List.setIfInBounds_toArray, List.set_cons_zero, List.set_cons_succ]
              refine wpAnyH_take (i := 1) (oi := ⟨some 21, _, _, _, _, _⟩) (v := .string xn) rfl (by kernel_rfl) (by kernel_rfl) (by kernel_rfl) (fun _ _ _ h => h) (Or.inl ⟨by rfl, ?_⟩) (by assumption) ?_
              · intro w hSw; (try dsimp only at hSw); go_simp
              simp only [Act.put, List.setIfInBounds_toArray, List.set_cons_zero, List.set_cons_succ]
              refine wpAnyH_ready (rs := [2]) (by kernel_rfl) (by simp) ?_
              refine (AllReadyH.cons (o := ⟨some 22, _, _, _, _, _⟩) rfl (fun K hK => ?_) AllReadyH.nil)
              go_simp
              refine (IN.out _).mono ?_
              rintro e w2 ⟨rfl, rfl⟩
              refine hK.out _ _ y1 (fun hHeld => ?_)
              clear hK K
              refine wpAnyH_take (i := 3) (oi := ⟨some 23, _, _, _, _, _⟩) (v := .bool false) rfl (by kernel_rfl) (by kernel_rfl) (by kernel_rfl) (fun _ _ _ h => h) (Or.inl ⟨by rfl, ?_⟩) (by assumption) ?_
              · intro w hSw; (try dsimp only at hSw); go_simp
              simp only [Act.put, List.setIfInBounds_toArray, List.set_cons_zero, List.set_cons_succ]
              refine wpAnyH_take (i := 4) (oi := ⟨some 24, _, _, _, _, _⟩) (v := .bool false) rfl (by kernel_rfl) (by kernel_rfl) (by kernel_rfl) (fun _ _ _ h => h) (Or.inl ⟨by rfl, ?_⟩) (by assumption) ?_
              · intro w hSw; (try dsimp only at hSw); go_simp
              simp only [Act.put, List.setIfInBounds_toArray, List.set_cons_zero, List.set_cons_succ]
              refine wpAnyH_take (i := 5) (oi := ⟨some 25, _, _, _, _, _⟩) (v := .slice (some ⟨b, off, none⟩) l.length c) rfl (by kernel_rfl) (by kernel_rfl) (by kernel_rfl) (fun _ _ _ h => h) (Or.inl ⟨by rfl, ?_⟩) (by assumption) ?_
              · intro w hSw; (try dsimp only at hSw); go_simp
              simp only [Act.put, List.setIfInBounds_toArray, List.set_cons_zero, List.set_cons_succ]
              refine wpAnyH_take (i := 6) (oi := ⟨some 26, _, _, _, _, _⟩) (v := .int .i64 (i : Int)) rfl (by kernel_rfl) (by kernel_rfl) (by kernel_rfl) (fun _ _ _ h => h) (Or.inl ⟨by rfl, ?_⟩) (by assumption) ?_
              · intro w hSw; (try dsimp only at hSw); go_simp
              simp only [Act.put, List.setIfInBounds_toArray, List.set_cons_zero, List.set_cons_succ]
              refine wpAnyH_take (i := 7) (oi := ⟨some 27, _, _, _, _, _⟩) (v := .slice (some ⟨b, off, none⟩) i c) rfl (by kernel_rfl) (by kernel_rfl) (by kernel_rfl) (fun _ _ _ h => h) (Or.inl ⟨by rfl, ?_⟩) (by assumption) ?_
              · intro w hSw; (try dsimp only at hSw); go_simp
              simp only [Act.put, List.setIfInBounds_toArray, List.set_cons_zero, List.set_cons_succ]
              refine wpAnyH_take (i := 8) (oi := ⟨some 28, _, _, _, _, _⟩) (v := .pointer (some ⟨wr.heap.size, 0, none⟩)) rfl (by kernel_rfl) (by kernel_rfl) (by kernel_rfl) (fun _ _ _ h => h) (Or.inl ⟨by rfl, ?_⟩) (by assumption) ?_
              · intro w hSw; (try dsimp only at hSw); go_simp
              simp only [Act.put, List.setIfInBounds_toArray, List.set_cons_zero, List.set_cons_succ]
              refine wpAnyH_take (i := 9) (oi := ⟨some 29, _, _, _, _, _⟩) (v := .string xn) rfl (by kernel_rfl) (by kernel_rfl) (by kernel_rfl) (fun _ _ _ h => h) (Or.inl ⟨by rfl, ?_⟩) (by assumption) ?_
              · intro w hSw; (try dsimp only at hSw); go_simp
              simp only [Act.put, List.setIfInBounds_toArray, List.set_cons_zero, List.set_cons_succ]
              refine wpAnyH_ready (rs := [10]) (by kernel_rfl) (by simp) ?_
              refine (AllReadyH.cons (o := ⟨some 30, _, _, _, _, _⟩) rfl (fun K hK => ?_) AllReadyH.nil)
              go_simp
              refine (FI.out _ B5.out.drew).mono ?_
              rintro e w3 ⟨rfl, b3⟩
              refine hK.out _ _ ((b3.cell (p := ⟨wr.heap.size, 0, none⟩) (Sm.lt_of G5.out)).trans y1) (fun hHeld => ?_)
              clear hK K
              refine wpAnyH_take (i := 11) (oi := ⟨some 31, _, _, _, _, _⟩) (v := .bool true) rfl (by kernel_rfl) (by kernel_rfl) (by kernel_rfl) (fun _ _ _ h => h) (Or.inl ⟨by rfl, ?_⟩) (by assumption) ?_
              · intro w hSw; (try dsimp only at hSw); go_simp
              simp only [Act.put, List.setIfInBounds_toArray, List.set_cons_zero, List.set_cons_succ]
              refine wpAnyH_take (i := 12) (oi := ⟨some 32, _, _, _, _, _⟩) (v := .bool true) rfl (by kernel_rfl) (by kernel_rfl) (by kernel_rfl) (fun _ _ _ h => h) (Or.inl ⟨by rfl, ?_⟩) (by assumption) ?_
              · intro w hSw; (try dsimp only at hSw); go_simp
              simp only [Act.put, List.setIfInBounds_toArray, List.set_cons_zero, List.set_cons_succ]
              refine wpAnyH_done (by kernel_rfl) ?_ _
              go_wp2_with fail
              go_ret
              exact ⟨by rfl, BW.out.trans ((B5.out.drew.trans (b3.mono B5.out.drew.size)).mono BW.out.size)⟩
        · have hii : ¬ (i : Int) < l.length := by omega
          have hgt : g = true := HG.out.2 ⟨by omega, fun j hj _ => HA.out j hj (by omega)⟩
          subst hgt
          go_wp2
          go_ret
          exact ⟨by rfl, bw⟩
set_option maxRecDepth 100000 in
theorem paRight_none (w : World) (A : Option Addr) (c : Nat) : Calls Try.prog 18 #[.slice A 0 c] w fun e w' => e = .returned (.bool false) ∧ Below w.heap.size w w' := by
  go_enter Try.func18, Try.ntmps18
  go_wp2
  go_ret
  exact ⟨rfl, Below.refl _ w⟩
theorem not_rightly {g : Bool} (hg : g = true ↔ Pa.Rightly []) : g = false := by
  cases hgc : g
  · rfl
  · have := (hg.1 hgc).1.1; simp at this
theorem paRight_any {w : World} {A : Option Addr} {c : Nat} {l : List Pa.Mo} (hit : Pa.listAt w A l) (hl : l.length ≤ c) (hc : c ≤ 9223372036854775807) (g : Bool) (hg : g = true ↔ Pa.Rightly l) :
    Calls Try.prog 18 #[.slice A l.length c] w fun e w' => e = .returned (.bool g) ∧ Below w.heap.size w w' := by
  rcases hit with rfl | ⟨b, off, rfl, hb, hm⟩
  · rw [not_rightly hg]
    exact paRight_none w A c
  · exact paRight_some w b off c l hb hm hl hc g hg
end Go.Proofs.Ytmackgocieodjaa
