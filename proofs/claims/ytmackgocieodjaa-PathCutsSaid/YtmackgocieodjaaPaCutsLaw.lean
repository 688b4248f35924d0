/-
  PathCuts.
-/
import Derived.Test.YtmackgocieodjaaPaAwake
import Derived.Test.YtmackgocieodjaaPaRefCut
namespace Go.Proofs.Ytmackgocieodjaa
open Go.RowKit
set_option maxRecDepth 100000 in
set_option maxHeartbeats 2000000 in
theorem pathcuts_any (w : World) (p k : ByteArray) : Calls Try.prog 3 #[.string p, .string k] w fun e w' => e = .returned (.bool true) ∧ Below w.heap.size w w' := by
  have AW := Lib.hid (fun wx => awake11_any wx)
  by_cases hp : 3000 < p.size
  · have hpi : (3000 : Int) < p.size := by omega
    go_enter Try.func3, Try.ntmps3
    go_wp2_with (go_at_call 9; refine (AW.out _).mono ?_; rintro e w1 ⟨rfl, b1⟩)
    go_ret
    exact ⟨rfl, b1⟩
  · have hpi : ¬ (3000 : Int) < p.size := by omega
    by_cases hk : 3000 < k.size
    · have hki : (3000 : Int) < k.size := by omega
      go_enter Try.func3, Try.ntmps3
      go_wp2_with (go_at_call 9; refine (AW.out _).mono ?_; rintro e w1 ⟨rfl, b1⟩)
      go_ret
      exact ⟨rfl, b1⟩
    · have hki : ¬ (3000 : Int) < k.size := by omega
      have C1 := Lib.hid (fun wx => paCut_any wx p (by omega))
      have C2 := Lib.hid (fun wx => r11Cut_any wx p (by omega))
      have JO := Lib.hid (fun wx => paJoin_any wx p k)
      have IN := Lib.hid (fun wx => r11Named_any wx p)
      have IK := Lib.hid (fun wx => r11Key_any wx k)
      obtain ⟨A, B, o, hcut⟩ : ∃ A B o, Pa.cutV p.data.toList = .tuple #[.string A, .string B, .bool o] := ⟨_, _, _, rfl⟩
      rw [hcut] at C1 C2
      have z1 : p.size + (⟨#[47]⟩ : ByteArray).size ≤ 9223372036854775807 := by show p.size + 1 ≤ _; omega
      have z2 : (p ++ ⟨#[47]⟩ : ByteArray).size + k.size ≤ 9223372036854775807 := by rw [ByteArray.size_append]; show p.size + 1 + k.size ≤ _; omega
      have qA : (A.toList == A.toList) = true := by simp
      have qB : (B.toList == B.toList) = true := by simp
      have qo : (o == o) = true := by simp
      have hJ : Pa.join p k = if Pa.named p.data.toList && Pa.keyed k.data.toList then p ++ ⟨#[47]⟩ ++ k else ⟨#[]⟩ := rfl
      have hB : Pa.both p k = (Pa.named p.data.toList && Pa.keyed k.data.toList) := rfl
      rw [hJ, hB] at JO
      clear hcut hJ hB
      cases hn : Pa.named p.data.toList
      · rw [hn] at IN JO
        clear hn
        simp only [Bool.false_and, Bool.false_eq_true, if_false] at JO
        go_enter Try.func3, Try.ntmps3
        go_wp2_with fail
        refine (C1.out _).mono ?_
        rintro e w1 ⟨rfl, b1⟩
        go_wp2_with fail
        refine (C2.out _).mono ?_
        rintro e w2 ⟨rfl, b2⟩
        go_wp2_with fail
        refine (JO.out _).mono ?_
        rintro e w3 ⟨rfl, rfl⟩
        go_wp2_with fail
        refine (IN.out _).mono ?_
        rintro e w4 ⟨rfl, rfl⟩
        go_wp2_with fail
        refine (AW.out _).mono ?_
        rintro e w5 ⟨rfl, b5⟩
        go_wp2_with fail
        go_ret
        exact ⟨rfl, Sm.low_low (Sm.low_low b1 (Nat.le_refl _) b2) (Nat.le_refl _) b5⟩
      · cases hk2 : Pa.keyed k.data.toList
        · rw [hn] at IN
          rw [hn, hk2] at JO
          rw [hk2] at IK
          clear hn hk2
          simp only [Bool.and_false, Bool.false_eq_true, if_false] at JO
          go_enter Try.func3, Try.ntmps3
          go_wp2_with fail
          refine (C1.out _).mono ?_
          rintro e w1 ⟨rfl, b1⟩
          go_wp2_with fail
          refine (C2.out _).mono ?_
          rintro e w2 ⟨rfl, b2⟩
          go_wp2_with fail
          refine (JO.out _).mono ?_
          rintro e w3 ⟨rfl, rfl⟩
          go_wp2_with fail
          refine (IN.out _).mono ?_
          rintro e w4 ⟨rfl, rfl⟩
          go_wp2_with fail
          refine (IK.out _).mono ?_
          rintro e w6 ⟨rfl, rfl⟩
          go_wp2_with fail
          refine (AW.out _).mono ?_
          rintro e w5 ⟨rfl, b5⟩
          go_wp2_with fail
          go_ret
          exact ⟨rfl, Sm.low_low (Sm.low_low b1 (Nat.le_refl _) b2) (Nat.le_refl _) b5⟩
        · rw [hn] at IN
          rw [hn, hk2] at JO
          rw [hk2] at IK
          clear hn hk2
          simp only [Bool.and_true, if_true] at JO
          have qj : ((p ++ ⟨#[47]⟩ ++ k : ByteArray).toList == (p ++ ⟨#[47]⟩ ++ k : ByteArray).toList) = true := by simp
          go_enter Try.func3, Try.ntmps3
          go_wp2_with fail
          refine (C1.out _).mono ?_
          rintro e w1 ⟨rfl, b1⟩
          go_wp2_with fail
          refine (C2.out _).mono ?_
          rintro e w2 ⟨rfl, b2⟩
          go_wp2_with fail
          refine (JO.out _).mono ?_
          rintro e w3 ⟨rfl, rfl⟩
          go_wp2_with fail
          refine (IN.out _).mono ?_
          rintro e w4 ⟨rfl, rfl⟩
          go_wp2_with fail
          refine (IK.out _).mono ?_
          rintro e w6 ⟨rfl, rfl⟩
          go_wp2_with fail
          refine (AW.out _).mono ?_
          rintro e w5 ⟨rfl, b5⟩
          go_wp2_with fail
          go_ret
          exact ⟨rfl, Sm.low_low (Sm.low_low b1 (Nat.le_refl _) b2) (Nat.le_refl _) b5⟩
end Go.Proofs.Ytmackgocieodjaa
