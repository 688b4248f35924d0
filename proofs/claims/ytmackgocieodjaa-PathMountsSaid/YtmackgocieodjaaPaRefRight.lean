/-
  The document's Right.
-/
import Derived.Test.YtmackgocieodjaaPaRight
import Derived.Test.YtmackgocieodjaaPaRefCut
namespace Go.Proofs.Ytmackgocieodjaa
open Go.RowKit
set_option maxRecDepth 100000 in
set_option maxHeartbeats 2000000 in
theorem r11Right_some (w : World) (b off c : Nat) (l : List Pa.Mo) (hb : b < w.heap.size) (hit : Pa.mosAt w b off l) (g : Bool) (hg : g = true ↔ Pa.Rightly l) :
    Calls Try.prog 19 #[.slice (some ⟨b, off, none⟩) l.length c] w fun e w' => e = .returned (.bool g) ∧ Below w.heap.size w w' := by
  have HIT := Lib.hid hit
  have HG := Lib.hid hg
  clear hit hg
  go_enter Try.func19, Try.ntmps19
  by_cases h1 : l.length < 1
  · have h1i : (l.length : Int) < 1 := by omega
    have hgf : g = false := by
      cases hgc : g
      · rfl
      · have := (HG.out.1 hgc).1; omega
    subst hgf
    go_wp2
    go_ret
    exact ⟨by rfl, Below.refl _ w⟩
  · have h1i : ¬ (l.length : Int) < 1 := by omega
    by_cases h4 : 4 < l.length
    · have h4i : (4 : Int) < l.length := by omega
      have hgf : g = false := by
        cases hgc : g
        · rfl
        · have := (HG.out.1 hgc).1; omega
      subst hgf
      go_wp2
      go_ret
      exact ⟨by rfl, Below.refl _ w⟩
    · have h4i : ¬ (4 : Int) < l.length := by omega
      go_wp2
      go_loopw [3] (fun s3 wr => ∃ i : Nat, s3 = .int .i64 i ∧ i ≤ l.length ∧ Pa.RightTo l i ∧ Below w.heap.size w wr) (fun s3 _ => l.length - (intOf s3).toNat)
      case atStart => exact ⟨0, rfl, Nat.zero_le _, fun j _ h => absurd h (Nat.not_lt_zero _), Below.refl _ w⟩
      case round =>
        obtain ⟨i, rfl, hi, hall, bw⟩ := hrel
        have HA := Lib.hid hall
        clear hall
        by_cases hil : i < l.length
        · have hii : (i : Int) < l.length := by omega
          have hsuc : IntKind.i64.wrap ((i : Int) + 1) = ((i + 1 : Nat) : Int) := by simp [IntKind.wrap, IntKind.bits, IntKind.signed]; omega
          have HM := Lib.hid (HIT.out.below bw hb)
          obtain ⟨c0, -⟩ := HM.out i hil
          obtain ⟨xn, hxn⟩ : ∃ x, x = l[i].n := ⟨_, rfl⟩
          rw [← hxn] at c0
          have IN := Lib.hid (r11Named_any wr xn)
          have HX := Lib.hid hxn
          have BW := Lib.hid bw
          clear hxn bw
          cases hnm : Pa.named xn.data.toList
          · rw [hnm] at IN
            have hgf : g = false := by
              cases hgc : g
              · rfl
              · have := (HG.out.1 hgc).2 i hil hil
                rw [← HX.out, hnm] at this
                exact absurd this.1 (by decide)
            subst hgf
            clear hnm
            go_wp2_with (go_at_call 13; refine (IN.out).mono ?_; rintro e w2 ⟨rfl, rfl⟩)
            go_ret
            exact ⟨by rfl, BW.out⟩
          · rw [hnm] at IN
            have HNM := Lib.hid hnm
            clear hnm
            go_wp2_with (go_at_call 13; refine (IN.out).mono ?_; rintro e w2 ⟨rfl, rfl⟩)
            clear IN c0
            generalize wr = W1 at *
            go_loopw [4] (fun s4 wq => ∃ k : Nat, s4 = .int .i64 k ∧ k ≤ i ∧ (∀ j (h : j < l.length), j < k → Pa.same l[j].n xn = false) ∧ Below w.heap.size w wq) (fun s4 _ => i - (intOf s4).toNat)
            case atStart => exact ⟨0, rfl, Nat.zero_le _, fun j _ h => absurd h (Nat.not_lt_zero _), BW.out⟩
            case round =>
              obtain ⟨k, rfl, hk, hk2, bq⟩ := hrel
              have HK := Lib.hid hk2
              have BQ := Lib.hid bq
              clear hk2
              by_cases hki : k < i
              · have hkii : (k : Int) < (i : Int) := by omega
                have hkl : k < l.length := by omega
                have hkll : (k : Int) < (l.length : Int) := by omega
                have hsuk : IntKind.i64.wrap ((k : Int) + 1) = ((k + 1 : Nat) : Int) := by simp [IntKind.wrap, IntKind.bits, IntKind.signed]; omega
                have hmq := HIT.out.below bq hb
                obtain ⟨d0, -⟩ := hmq k hkl
                obtain ⟨d1, -⟩ := hmq i hil
                obtain ⟨xk, hxk⟩ : ∃ x, x = l[k].n := ⟨_, rfl⟩
                rw [← hxk] at d0
                rw [← HX.out] at d1
                have HXK := Lib.hid hxk
                have e0 : wr.drew.cell? ⟨b, off + k * 2, none⟩ = some (.string xk) := d0
                have e1 : wr.drew.cell? ⟨b, off + i * 2, none⟩ = some (.string xn) := d1
                clear hxk hmq bq
                by_cases hs : Pa.same xk xn = true
                · have hgf : g = false := by
                    cases hgc : g
                    · rfl
                    · have := ((HG.out.1 hgc).2 i hil hil).2 k hkl hki
                      rw [← HX.out, ← HXK.out, hs] at this
                      exact absurd this (by decide)
                  subst hgf
                  have hq2 : (xk.toList == xn.toList) = true := hs
                  clear hs
                  go_wp2
                  go_region
                  go_wp2
                  go_ret
                  exact ⟨by rfl, BQ.out.drew⟩
                · have hs0 : Pa.same xk xn = false := by simpa using hs
                  have hq2 : (xk.toList == xn.toList) = false := hs0
                  have hnext : ∀ j (h : j < l.length), j < k + 1 → Pa.same l[j].n xn = false := fun j h hj => by
                    by_cases e : j = k
                    · subst e; rw [← HXK.out]; exact hs0
                    · exact HK.out j h (by omega)
                  have HN2 := Lib.hid hnext
                  clear hnext hs hs0
                  go_wp2
                  go_region
                  go_wp2
                  go_roundw
                  case rel => exact ⟨k + 1, rfl, by omega, HN2.out, BQ.out.drew⟩
                  case measure => simp only [intOf]; omega
              · have hkii : ¬ (k : Int) < (i : Int) := by omega
                have HN := Lib.hid (HA.out.next hil (by rw [← HX.out]; exact HNM.out) (by rw [← HX.out]; exact fun j h hj => HK.out j h (by omega)))
                clear bq
                go_wp2
                go_roundw
                case rel => exact ⟨i + 1, rfl, by omega, HN.out, BQ.out⟩
                case measure => simp only [intOf]; omega
        · have hii : ¬ (i : Int) < l.length := by omega
          have hgt : g = true := HG.out.2 ⟨by omega, fun j hj _ => HA.out j hj (by omega)⟩
          subst hgt
          go_wp2
          go_ret
          exact ⟨by rfl, bw⟩
set_option maxRecDepth 100000 in
theorem r11Right_none (w : World) (A : Option Addr) (c : Nat) : Calls Try.prog 19 #[.slice A 0 c] w fun e w' => e = .returned (.bool false) ∧ Below w.heap.size w w' := by
  go_enter Try.func19, Try.ntmps19
  go_wp2
  go_ret
  exact ⟨rfl, Below.refl _ w⟩
theorem r11Right_any {w : World} {A : Option Addr} {c : Nat} {l : List Pa.Mo} (hit : Pa.listAt w A l) (g : Bool) (hg : g = true ↔ Pa.Rightly l) :
    Calls Try.prog 19 #[.slice A l.length c] w fun e w' => e = .returned (.bool g) ∧ Below w.heap.size w w' := by
  rcases hit with rfl | ⟨b, off, rfl, hb, hm⟩
  · rw [not_rightly hg]
    exact r11Right_none w A c
  · exact r11Right_some w b off c l hb hm g hg
end Go.Proofs.Ytmackgocieodjaa
