/-
  PathBack.
-/
import Derived.Test.YtmackgocieodjaaPaAwake
namespace Go.Proofs.Ytmackgocieodjaa
open Go.RowKit
namespace Pa
theorem list_join (m k : ByteArray) : (m ++ ⟨#[47]⟩ ++ k : ByteArray).data.toList = m.data.toList ++ 47 :: k.data.toList := by simp
theorem join_yes {m k : ByteArray} (h : both m k = true) : join m k = m ++ ⟨#[47]⟩ ++ k := by unfold join; rw [h, if_pos rfl]
theorem join_no {m k : ByteArray} (h : both m k = false) : join m k = ⟨#[]⟩ := by unfold join; rw [h]; rfl
/-- Join of what Cut tells is the path. -/
theorem join_cut {p : ByteArray} (h : ok p.data.toList = true) : both ⟨(cutA p.data.toList).toArray⟩ ⟨(cutB p.data.toList).toArray⟩ = true ∧ join ⟨(cutA p.data.toList).toArray⟩ ⟨(cutB p.data.toList).toArray⟩ = p := by
  obtain ⟨h1, h2, h3⟩ := ok_parts h
  have hb : both ⟨(cutA p.data.toList).toArray⟩ ⟨(cutB p.data.toList).toArray⟩ = true := by unfold both; simp [h1, h2]
  refine ⟨hb, ?_⟩
  rw [join_yes hb]
  apply ByteArray.ext
  apply Array.ext'
  rw [list_join]
  exact h3.symm
/-- Cut of what Join tells are both. -/
theorem cut_of_join {m k : ByteArray} (h : both m k = true) : cutV (join m k).data.toList = .tuple #[.string m, .string k, .bool true] := by
  have h' := h
  unfold both at h'
  rw [Bool.and_eq_true] at h'
  obtain ⟨h1, h2, h3⟩ := cut_join h'.1 h'.2
  rw [join_yes h, list_join]
  unfold cutV
  rw [h1, h2, h3]
theorem join_size {m k : ByteArray} (h : both m k = true) : (join m k).size ≤ 281474976710656 := by
  have h' := h
  unfold both at h'
  rw [Bool.and_eq_true] at h'
  have h1 := named_len h'.1
  have h2 := keyed_len h'.2
  rw [len_size] at h1 h2
  rw [join_yes h, ByteArray.size_append, ByteArray.size_append]
  show m.size + 1 + k.size ≤ _
  omega
end Pa
set_option maxRecDepth 100000 in
set_option maxHeartbeats 2000000 in
theorem pathback_any (w : World) (p k : ByteArray) : Calls Try.prog 5 #[.string p, .string k] w fun e w' => e = .returned (.bool true) ∧ Below w.heap.size w w' := by
  have AW := Lib.hid (fun wx => awake11_any wx)
  by_cases hp : 3000 < p.size
  · have hpi : (3000 : Int) < p.size := by omega
    go_enter Try.func5, Try.ntmps5
    go_wp2_with (go_at_call 9; refine (AW.out _).mono ?_; rintro e w1 ⟨rfl, b1⟩)
    go_ret
    exact ⟨rfl, b1⟩
  · have hpi : ¬ (3000 : Int) < p.size := by omega
    by_cases hk : 3000 < k.size
    · have hki : (3000 : Int) < k.size := by omega
      go_enter Try.func5, Try.ntmps5
      go_wp2_with (go_at_call 9; refine (AW.out _).mono ?_; rintro e w1 ⟨rfl, b1⟩)
      go_ret
      exact ⟨rfl, b1⟩
    · have hki : ¬ (3000 : Int) < k.size := by omega
      have C1 := Lib.hid (fun wx => paCut_any wx p (by omega))
      have JO := Lib.hid (fun wx => paJoin_any wx p k)
      have qp : (p.toList == p.toList) = true := by simp
      have qk : (k.toList == k.toList) = true := by simp
      cases ho : Pa.ok p.data.toList
      · rw [Pa.cut_no ho] at C1
        clear ho
        cases hb : Pa.both p k
        · rw [hb, Pa.join_no hb] at JO
          clear hb
          go_enter Try.func5, Try.ntmps5
          go_wp2_with fail
          refine (C1.out _).mono ?_
          rintro e w1 ⟨rfl, b1⟩
          go_wp2_with fail
          refine (JO.out _).mono ?_
          rintro e w3 ⟨rfl, rfl⟩
          go_wp2_with fail
          refine (AW.out _).mono ?_
          rintro e w4 ⟨rfl, b4⟩
          go_wp2_with fail
          go_ret
          exact ⟨rfl, Sm.low_low b1 (Nat.le_refl _) b4⟩
        · have CJ := Lib.hid (fun wx => paCut_any wx (Pa.join p k) (Pa.join_size hb))
          rw [Pa.cut_of_join hb] at CJ
          rw [hb] at JO
          clear hb
          obtain ⟨q, hq⟩ : ∃ q, q = Pa.join p k := ⟨_, rfl⟩
          rw [← hq] at CJ JO
          clear hq
          go_enter Try.func5, Try.ntmps5
          go_wp2_with fail
          refine (C1.out _).mono ?_
          rintro e w1 ⟨rfl, b1⟩
          go_wp2_with fail
          refine (JO.out _).mono ?_
          rintro e w3 ⟨rfl, rfl⟩
          go_wp2_with fail
          refine (CJ.out _).mono ?_
          rintro e w5 ⟨rfl, b5⟩
          go_wp2_with fail
          refine (AW.out _).mono ?_
          rintro e w4 ⟨rfl, b4⟩
          go_wp2_with fail
          go_ret
          exact ⟨rfl, Sm.low_low (Sm.low_low b1 (Nat.le_refl _) b5) (Nat.le_refl _) b4⟩
      · obtain ⟨j1, j2⟩ := Pa.join_cut ho
        have hlen := Pa.ok_len ho
        rw [Pa.len_size] at hlen
        have h33 : ¬ (33 : Int) < p.size := by omega
        obtain ⟨A, hA⟩ : ∃ A : ByteArray, A = ⟨(Pa.cutA p.data.toList).toArray⟩ := ⟨_, rfl⟩
        obtain ⟨B, hB⟩ : ∃ B : ByteArray, B = ⟨(Pa.cutB p.data.toList).toArray⟩ := ⟨_, rfl⟩
        have hcv : Pa.cutV p.data.toList = .tuple #[.string A, .string B, .bool true] := by rw [hA, hB]; unfold Pa.cutV; rw [ho]
        rw [← hA, ← hB] at j1 j2
        have JB := Lib.hid (fun wx => paJoin_any wx A B)
        rw [j1, j2] at JB
        rw [hcv] at C1
        clear ho hA hB hcv j1 j2
        cases hb : Pa.both p k
        · rw [hb, Pa.join_no hb] at JO
          clear hb
          go_enter Try.func5, Try.ntmps5
          go_wp2_with fail
          refine (C1.out _).mono ?_
          rintro e w1 ⟨rfl, b1⟩
          go_wp2_with fail
          refine (JB.out _).mono ?_
          rintro e w2 ⟨rfl, rfl⟩
          go_wp2_with fail
          refine (JO.out _).mono ?_
          rintro e w3 ⟨rfl, rfl⟩
          go_wp2_with fail
          refine (AW.out _).mono ?_
          rintro e w4 ⟨rfl, b4⟩
          go_wp2_with fail
          go_ret
          exact ⟨rfl, Sm.low_low b1 (Nat.le_refl _) b4⟩
        · have CJ := Lib.hid (fun wx => paCut_any wx (Pa.join p k) (Pa.join_size hb))
          rw [Pa.cut_of_join hb] at CJ
          rw [hb] at JO
          clear hb
          obtain ⟨q, hq⟩ : ∃ q, q = Pa.join p k := ⟨_, rfl⟩
          rw [← hq] at CJ JO
          clear hq
          go_enter Try.func5, Try.ntmps5
          go_wp2_with fail
          refine (C1.out _).mono ?_
          rintro e w1 ⟨rfl, b1⟩
          go_wp2_with fail
          refine (JB.out _).mono ?_
          rintro e w2 ⟨rfl, rfl⟩
          go_wp2_with fail
          refine (JO.out _).mono ?_
          rintro e w3 ⟨rfl, rfl⟩
          go_wp2_with fail
          refine (CJ.out _).mono ?_
          rintro e w5 ⟨rfl, b5⟩
          go_wp2_with fail
          refine (AW.out _).mono ?_
          rintro e w4 ⟨rfl, b4⟩
          go_wp2_with fail
          go_ret
          exact ⟨rfl, Sm.low_low (Sm.low_low b1 (Nat.le_refl _) b5) (Nat.le_refl _) b4⟩
end Go.Proofs.Ytmackgocieodjaa
