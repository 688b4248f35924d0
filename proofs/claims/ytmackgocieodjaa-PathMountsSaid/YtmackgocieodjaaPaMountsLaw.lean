/-
  PathMounts.
-/
import Derived.Test.YtmackgocieodjaaPaAwake
import Derived.Test.YtmackgocieodjaaPaEq
import Derived.Test.YtmackgocieodjaaPaRefOf
import Derived.Test.YtmackgocieodjaaPaRefRight
namespace Go.Proofs.Ytmackgocieodjaa
open Go.RowKit
set_option maxRecDepth 100000 in
set_option maxHeartbeats 2000000 in
theorem pathmounts_any (w : World) (A : Option Addr) (c : Nat) (l : List Pa.Mo) (hlc : l.length ≤ c) (hc : c ≤ 9223372036854775807) (hit : Pa.listAt w A l) (p : ByteArray) :
    Calls Try.prog 4 #[.slice A l.length c, .string p] w fun e w' => e = .returned (.bool true) ∧ Below w.heap.size w w' := by
  have AW := Lib.hid (fun wx => awake11_any wx)
  obtain ⟨gr, hgr⟩ : ∃ g : Bool, g = true ↔ ¬ Pa.Fair l := by
    by_cases h : Pa.Fair l
    · exact ⟨false, by simp [h]⟩
    · exact ⟨true, by simp [h]⟩
  have GR := Lib.hid (great11_any (c := c) hit gr hgr)
  cases gr
  · by_cases hp : 3000 < p.size
    · have hpi : (3000 : Int) < p.size := by omega
      clear hit
      go_enter Try.func4, Try.ntmps4
      go_wp2_with fail
      refine GR.out.mono ?_
      rintro e w1 ⟨rfl, rfl⟩
      go_wp2_with fail
      refine (AW.out _).mono ?_
      rintro e w2 ⟨rfl, b2⟩
      go_wp2_with fail
      go_ret
      exact ⟨rfl, b2⟩
    · have hpi : ¬ (3000 : Int) < p.size := by omega
      obtain ⟨g, hg⟩ : ∃ g : Bool, g = true ↔ Pa.Rightly l := by
        by_cases h : Pa.Rightly l
        · exact ⟨true, by simp [h]⟩
        · exact ⟨false, by simp [h]⟩
      obtain ⟨sh, hsh⟩ : ∃ b, b = Pa.ships l p.data.toList := ⟨_, rfl⟩
      obtain ⟨n, s, er, hx⟩ : ∃ n s e, Pa.of3 l p.data.toList = (n, s, e) := ⟨_, _, _, rfl⟩
      have hv : Pa.ofV (Pa.of3 l p.data.toList) = .tuple #[.agg #[.string n, .bool s], .int .i64 er] := by rw [hx]; rfl
      have O1 : Hid (∀ wx, Pa.listAt wx A l → Calls Try.prog 16 #[.slice A l.length c, .string p] wx fun e w' => e = .returned (.tuple #[.agg #[.string n, .bool s], .int .i64 er]) ∧ Below wx.heap.size wx w') := fun wx h => by
        have := paOf_any c h (by omega) p (by omega)
        rwa [hv] at this
      have O2 : Hid (∀ wx, Pa.listAt wx A l → Calls Try.prog 17 #[.slice A l.length c, .string p] wx fun e w' => e = .returned (.tuple #[.agg #[.string n, .bool s], .int .i64 er]) ∧ Below wx.heap.size wx w') := fun wx h => by
        have := r11Of_any c h (by omega) p (by omega)
        rwa [hv] at this
      have R1 : Hid (∀ wx, Pa.listAt wx A l → Calls Try.prog 18 #[.slice A l.length c] wx fun e w' => e = .returned (.bool g) ∧ Below wx.heap.size wx w') := fun wx h => paRight_any h hlc hc g hg
      have R2 : Hid (∀ wx, Pa.listAt wx A l → Calls Try.prog 19 #[.slice A l.length c] wx fun e w' => e = .returned (.bool g) ∧ Below wx.heap.size wx w') := fun wx h => r11Right_any h g hg
      have S1 : Hid (∀ wx, Pa.listAt wx A l → Calls Try.prog 20 #[.slice A l.length c, .string p] wx fun e w' => e = .returned (.bool sh) ∧ Below wx.heap.size wx w') := fun wx h => by
        have := paShips_any c h (by omega) p (by omega)
        rwa [← hsh] at this
      have S2 : Hid (∀ wx, Pa.listAt wx A l → Calls Try.prog 21 #[.slice A l.length c, .string p] wx fun e w' => e = .returned (.bool sh) ∧ Below wx.heap.size wx w') := fun wx h => by
        have := r11Ships_any c h (by omega) p (by omega)
        rwa [← hsh] at this
      have HIT := Lib.hid hit
      have qg : (g == g) = true := by simp
      have qs : (sh == sh) = true := by simp
      have qe : (er == er) = true := by simp
      have qm : Pa.eqb ⟨n, s⟩ ⟨n, s⟩ = true := Pa.eqb_iff.2 rfl
      clear hit hx hv hg hsh
      go_enter Try.func4, Try.ntmps4
      go_wp2_with fail
      refine GR.out.mono ?_
      rintro e w1 ⟨rfl, rfl⟩
      go_wp2_with fail
      refine (O1.out _ HIT.out).mono ?_
      rintro e w2 ⟨rfl, b2⟩
      have z0 : (w2.alloc (.cells #[.string ⟨#[]⟩, .bool false] 32)).frozen? ⟨w2.heap.size, 0, none⟩ = false := Sm.free_of (heap_alloc_new w2 _) 0
      have z1 : (w2.alloc (.cells #[.string ⟨#[]⟩, .bool false] 32)).frozen? ⟨w2.heap.size, 1, none⟩ = false := Sm.free_of (heap_alloc_new w2 _) 1
      go_wp2_with fail
      · exact absurd (z0.symm.trans (by assumption)) (by decide)
      have b3' : Below w2.heap.size w2 (w2.alloc (.cells #[.string n, .bool s] 32)) := (Below.refl _ w2).alloc (Nat.le_refl _) _
      have b3 := b2.trans (b3'.mono b2.size)
      have g3 := heap_alloc_new w2 (.cells #[.string n, .bool s] 32)
      have H3 := Lib.hid (HIT.out.below b3)
      obtain ⟨N, hN⟩ : ∃ n, n = w2.heap.size := ⟨_, rfl⟩
      rw [← hN] at g3 ⊢
      clear hN
      generalize w2.alloc (.cells #[.string n, .bool s] 32) = w3 at *
      refine (O2.out _ H3.out).mono ?_
      rintro e w4 ⟨rfl, b4⟩
      have g4 := (b4.block N (Sm.lt_of g3)).trans g3
      have H4 := Lib.hid (H3.out.below b4)
      have b5 := b3.trans (b4.mono b3.size)
      have c50 := (heap_alloc_new w4 (.cells #[.string n, .bool s] 32))
      have b6' : Below w4.heap.size w4 (w4.alloc (.cells #[.string n, .bool s] 32)) := (Below.refl _ w4).alloc (Nat.le_refl _) _
      have b6 := b5.trans (b6'.mono b5.size)
      have g6 := (b6'.block N (Sm.lt_of g4)).trans g4
      have x0 := Sm.cells_of g6 0 _ rfl
      have x1 := Sm.cells_of g6 1 _ rfl
      have y0 := Sm.cells_of c50 0 _ rfl
      have y1 := Sm.cells_of c50 1 _ rfl
      have z2 : (w4.alloc (.cells #[.string ⟨#[]⟩, .bool false] 32)).frozen? ⟨w4.heap.size, 0, none⟩ = false := Sm.free_of (heap_alloc_new w4 _) 0
      clear b4 b6' z0 z1
      go_wp2_with fail
      · exact absurd (z2.symm.trans (by assumption)) (by decide)
      have H6 := Lib.hid (HIT.out.below b6)
      refine (R1.out _ H6.out).mono ?_
      rintro e w7 ⟨rfl, b7⟩
      have H7 := Lib.hid (H6.out.below b7)
      have b8 := b6.trans (b7.mono b6.size)
      clear b7
      go_wp2_with fail
      refine (R2.out _ H7.out).mono ?_
      rintro e w9 ⟨rfl, b9⟩
      have H9 := Lib.hid (H7.out.below b9)
      have b10 := b8.trans (b9.mono b8.size)
      clear b9
      go_wp2_with fail
      refine (S1.out _ H9.out).mono ?_
      rintro e w11 ⟨rfl, b11⟩
      have H11 := Lib.hid (H9.out.below b11)
      have b12 := b10.trans (b11.mono b10.size)
      clear b11
      go_wp2_with fail
      refine (S2.out _ H11.out).mono ?_
      rintro e w13 ⟨rfl, b13⟩
      have b14 := b12.trans (b13.mono b12.size)
      clear b13
      go_wp2_with fail
      refine (AW.out _).mono ?_
      rintro e w15 ⟨rfl, b15⟩
      go_wp2_with fail
      go_ret
      exact ⟨rfl, b14.trans (b15.mono b14.size)⟩
  · clear hit
    go_enter Try.func4, Try.ntmps4
    go_wp2_with fail
    refine GR.out.mono ?_
    rintro e w1 ⟨rfl, rfl⟩
    go_wp2_with fail
    refine (AW.out _).mono ?_
    rintro e w2 ⟨rfl, b2⟩
    go_wp2_with fail
    go_ret
    exact ⟨rfl, b2⟩
end Go.Proofs.Ytmackgocieodjaa
