/-
  PathSides.
-/
import Derived.Test.YtmackgocieodjaaPaAwake
namespace Go.Proofs.Ytmackgocieodjaa
open Go.RowKit
namespace Pa
/-- Is a text, bytewise, at most another one? -/
def le (x y : List UInt8) : Bool := Op.bytesLess x y || x == y
theorem le_cons (a b : UInt8) (x y : List UInt8) : le (a :: x) (b :: y) = (decide (a < b) || (a == b && le x y)) := by
  unfold le
  rw [Op.bytesLess]
  have h : ((a :: x) == (b :: y)) = (a == b && x == y) := rfl
  rw [h]
  cases decide (a < b) <;> cases (a == b) <;> cases Op.bytesLess x y <;> cases (x == y) <;> rfl
theorem low_big {c : UInt8} (h : low c = true) : 97 ≤ c.toNat := by
  simp only [low, Bool.and_eq_true, decide_eq_true_eq] at h; exact h.1
theorem le_slash {c : UInt8} {x y : List UInt8} (h : low c = true) : le (c :: x) (47 :: y) = false := by
  have hb := low_big h
  rw [le_cons]
  have h1 : ¬ c < 47 := fun hl => by
    have : c.toNat < 47 := hl
    omega
  have h2 : (c == 47) = false := by
    rw [Bool.eq_false_iff]
    intro e
    have e' : c = 47 := by simpa using e
    rw [e'] at hb
    exact absurd hb (by decide)
  simp [h1, h2]
/-- What lies between two paths of one mount, and is a path, is of that mount. -/
theorem between : ∀ (m o : List UInt8) {x y z : List UInt8}, m.all low = true → o.all low = true → le (m ++ 47 :: x) (o ++ 47 :: z) = true → le (o ++ 47 :: z) (m ++ 47 :: y) = true → o = m
  | [], [], _, _, _, _, _, _, _ => rfl
  | [], c :: o, x, y, z, _, ho, _, h2 => by
    simp only [List.all_cons, Bool.and_eq_true] at ho
    rw [List.cons_append, List.nil_append, le_slash ho.1] at h2
    exact absurd h2 (by decide)
  | d :: m, [], x, y, z, hm, _, h1, _ => by
    simp only [List.all_cons, Bool.and_eq_true] at hm
    rw [List.cons_append, List.nil_append, le_slash hm.1] at h1
    exact absurd h1 (by decide)
  | d :: m, c :: o, x, y, z, hm, ho, h1, h2 => by
    simp only [List.all_cons, Bool.and_eq_true] at hm ho
    rw [List.cons_append, List.cons_append, le_cons] at h1 h2
    simp only [Bool.or_eq_true, Bool.and_eq_true, decide_eq_true_eq, beq_iff_eq] at h1 h2
    have hdc : d = c := by
      rcases h1 with h1 | h1
      · rcases h2 with h2 | h2
        · have a : d.toNat < c.toNat := h1
          have b : c.toNat < d.toNat := h2
          omega
        · exact h2.1.symm
      · exact h1.1
    subst hdc
    have hn : ¬ d < d := fun h => by
      have : d.toNat < d.toNat := h
      omega
    have r1 := (h1.resolve_left hn).2
    have r2 := (h2.resolve_left hn).2
    rw [between m o hm.2 ho.2 r1 r2]
theorem sides {a b c : List UInt8} (ha : ok a = true) (hb : ok b = true) (hc : ok c = true) (hm : cutA a = cutA b) (h1 : le a c = true) (h2 : le c b = true) : cutA c = cutA a := by
  obtain ⟨a1, -, a3⟩ := ok_parts ha
  obtain ⟨-, -, b3⟩ := ok_parts hb
  obtain ⟨c1, -, c3⟩ := ok_parts hc
  rw [← hm] at b3
  rw [a3, c3] at h1
  rw [b3, c3] at h2
  have e := between (cutA a) (cutA c) (named_low a1) (named_low c1) (x := cutB a) (z := cutB c) (y := cutB b)
  exact e (by rwa [← c3, ← a3] at h1 ⊢) (by rwa [← c3, ← b3] at h2 ⊢)
end Pa
set_option maxRecDepth 100000 in
set_option maxHeartbeats 4000000 in
theorem pathsides_any (w : World) (a b c : ByteArray) : Calls Try.prog 6 #[.string a, .string b, .string c] w fun e w' => e = .returned (.bool true) ∧ Below w.heap.size w w' := by
  have AW := Lib.hid (fun wx => awake11_any wx)
  by_cases ha : 100 < a.size
  · have hai : (100 : Int) < a.size := by omega
    go_enter Try.func6, Try.ntmps6
    go_wp2_with (go_at_call 9; refine (AW.out _).mono ?_; rintro e w1 ⟨rfl, b1⟩)
    go_ret
    exact ⟨rfl, b1⟩
  · have hai : ¬ (100 : Int) < a.size := by omega
    by_cases hb : 100 < b.size
    · have hbi : (100 : Int) < b.size := by omega
      go_enter Try.func6, Try.ntmps6
      go_wp2_with (go_at_call 9; refine (AW.out _).mono ?_; rintro e w1 ⟨rfl, b1⟩)
      go_ret
      exact ⟨rfl, b1⟩
    · have hbi : ¬ (100 : Int) < b.size := by omega
      by_cases hc : 100 < c.size
      · have hci : (100 : Int) < c.size := by omega
        go_enter Try.func6, Try.ntmps6
        go_wp2_with (go_at_call 9; refine (AW.out _).mono ?_; rintro e w1 ⟨rfl, b1⟩)
        go_ret
        exact ⟨rfl, b1⟩
      · have hci : ¬ (100 : Int) < c.size := by omega
        have C1 := Lib.hid (fun wx => paCut_any wx a (by omega))
        have C2 := Lib.hid (fun wx => paCut_any wx b (by omega))
        have C3 := Lib.hid (fun wx => paCut_any wx c (by omega))
        obtain ⟨A, A2, hcA, hA⟩ : ∃ A A2, Pa.cutV a.data.toList = .tuple #[.string A, .string A2, .bool (Pa.ok a.data.toList)] ∧ A = ⟨(Pa.cutA a.data.toList).toArray⟩ := ⟨_, _, rfl, rfl⟩
        obtain ⟨B, B2, hcB, hB⟩ : ∃ A A2, Pa.cutV b.data.toList = .tuple #[.string A, .string A2, .bool (Pa.ok b.data.toList)] ∧ A = ⟨(Pa.cutA b.data.toList).toArray⟩ := ⟨_, _, rfl, rfl⟩
        obtain ⟨C, C4, hcC, hC⟩ : ∃ A A2, Pa.cutV c.data.toList = .tuple #[.string A, .string A2, .bool (Pa.ok c.data.toList)] ∧ A = ⟨(Pa.cutA c.data.toList).toArray⟩ := ⟨_, _, rfl, rfl⟩
        rw [hcA] at C1
        rw [hcB] at C2
        rw [hcC] at C3
        clear hcA hcB hcC ha hb hc
        have HA := Lib.hid hA
        have HB := Lib.hid hB
        have HC := Lib.hid hC
        clear hA hB hC
        cases oa : Pa.ok a.data.toList
        · rw [oa] at C1
          clear oa
          go_enter Try.func6, Try.ntmps6
          go_wp2_with fail
          refine (C1.out _).mono ?_
          rintro e w1 ⟨rfl, b1⟩
          go_wp2_with fail
          refine (C2.out _).mono ?_
          rintro e w2 ⟨rfl, b2⟩
          go_wp2_with fail
          refine (C3.out _).mono ?_
          rintro e w3 ⟨rfl, b3⟩
          go_wp2_with fail
          refine (AW.out _).mono ?_
          rintro e w4 ⟨rfl, b4⟩
          go_wp2_with fail
          go_ret
          exact ⟨rfl, Sm.low_low (Sm.low_low (Sm.low_low b1 (Nat.le_refl _) b2) (Nat.le_refl _) b3) (Nat.le_refl _) b4⟩
        · cases ob : Pa.ok b.data.toList
          · rw [oa] at C1
            rw [ob] at C2
            clear oa ob
            go_enter Try.func6, Try.ntmps6
            go_wp2_with fail
            refine (C1.out _).mono ?_
            rintro e w1 ⟨rfl, b1⟩
            go_wp2_with fail
            refine (C2.out _).mono ?_
            rintro e w2 ⟨rfl, b2⟩
            go_wp2_with fail
            refine (C3.out _).mono ?_
            rintro e w3 ⟨rfl, b3⟩
            go_wp2_with fail
            refine (AW.out _).mono ?_
            rintro e w4 ⟨rfl, b4⟩
            go_wp2_with fail
            go_ret
            exact ⟨rfl, Sm.low_low (Sm.low_low (Sm.low_low b1 (Nat.le_refl _) b2) (Nat.le_refl _) b3) (Nat.le_refl _) b4⟩
          · cases oc : Pa.ok c.data.toList
            · rw [oa] at C1
              rw [ob] at C2
              rw [oc] at C3
              clear oa ob oc
              go_enter Try.func6, Try.ntmps6
              go_wp2_with fail
              refine (C1.out _).mono ?_
              rintro e w1 ⟨rfl, b1⟩
              go_wp2_with fail
              refine (C2.out _).mono ?_
              rintro e w2 ⟨rfl, b2⟩
              go_wp2_with fail
              refine (C3.out _).mono ?_
              rintro e w3 ⟨rfl, b3⟩
              go_wp2_with fail
              refine (AW.out _).mono ?_
              rintro e w4 ⟨rfl, b4⟩
              go_wp2_with fail
              go_ret
              exact ⟨rfl, Sm.low_low (Sm.low_low (Sm.low_low b1 (Nat.le_refl _) b2) (Nat.le_refl _) b3) (Nat.le_refl _) b4⟩
            · have HO := Lib.hid (And.intro oa (And.intro ob oc))
              rw [oa] at C1
              rw [ob] at C2
              rw [oc] at C3
              clear oa ob oc
              by_cases hm : A = B
              · have HM0 : Pa.cutA a.data.toList = Pa.cutA b.data.toList := by
                  have := HA.out.symm.trans (hm.trans HB.out)
                  have := congrArg (fun x : ByteArray => x.data.toList) this
                  simpa using this
                have HM := Lib.hid HM0
                clear HM0
                subst hm
                have q0 : (A.toList == A.toList) = true := by simp
                have T : ∀ x : ByteArray, x.toList = x.data.toList := Lib.toList_data
                cases l1 : (Op.bytesLess a.toList c.toList || a.toList == c.toList)
                · cases l3 : (Op.bytesLess b.toList c.toList || b.toList == c.toList)
                  · clear T
                    go_enter Try.func6, Try.ntmps6
                    go_wp2_with fail
                    refine (C1.out _).mono ?_
                    rintro e w1 ⟨rfl, b1⟩
                    go_wp2_with fail
                    refine (C2.out _).mono ?_
                    rintro e w2 ⟨rfl, b2⟩
                    go_wp2_with fail
                    refine (C3.out _).mono ?_
                    rintro e w3 ⟨rfl, b3⟩
                    go_wp2_with fail
                    refine (AW.out _).mono ?_
                    rintro e w4 ⟨rfl, b4⟩
                    go_wp2_with fail
                    go_ret
                    exact ⟨rfl, Sm.low_low (Sm.low_low (Sm.low_low b1 (Nat.le_refl _) b2) (Nat.le_refl _) b3) (Nat.le_refl _) b4⟩
                  · cases l4 : (Op.bytesLess c.toList a.toList || c.toList == a.toList)
                    · clear T
                      go_enter Try.func6, Try.ntmps6
                      go_wp2_with fail
                      refine (C1.out _).mono ?_
                      rintro e w1 ⟨rfl, b1⟩
                      go_wp2_with fail
                      refine (C2.out _).mono ?_
                      rintro e w2 ⟨rfl, b2⟩
                      go_wp2_with fail
                      refine (C3.out _).mono ?_
                      rintro e w3 ⟨rfl, b3⟩
                      go_wp2_with fail
                      refine (AW.out _).mono ?_
                      rintro e w4 ⟨rfl, b4⟩
                      go_wp2_with fail
                      go_ret
                      exact ⟨rfl, Sm.low_low (Sm.low_low (Sm.low_low b1 (Nat.le_refl _) b2) (Nat.le_refl _) b3) (Nat.le_refl _) b4⟩
                    · have P3 : Pa.le b.data.toList c.data.toList = true := by rw [← T, ← T]; exact l3
                      have P4 : Pa.le c.data.toList a.data.toList = true := by rw [← T, ← T]; exact l4
                      have hs : C = A := by rw [HC.out, HA.out]; exact congrArg (fun l : List UInt8 => (⟨l.toArray⟩ : ByteArray)) ((Pa.sides HO.out.2.1 HO.out.1 HO.out.2.2 HM.out.symm P3 P4).trans HM.out.symm)
                      clear P3 P4 T
                      subst hs
                      go_enter Try.func6, Try.ntmps6
                      go_wp2_with fail
                      refine (C1.out _).mono ?_
                      rintro e w1 ⟨rfl, b1⟩
                      go_wp2_with fail
                      refine (C2.out _).mono ?_
                      rintro e w2 ⟨rfl, b2⟩
                      go_wp2_with fail
                      refine (C3.out _).mono ?_
                      rintro e w3 ⟨rfl, b3⟩
                      go_wp2_with fail
                      refine (AW.out _).mono ?_
                      rintro e w4 ⟨rfl, b4⟩
                      go_wp2_with fail
                      go_ret
                      exact ⟨rfl, Sm.low_low (Sm.low_low (Sm.low_low b1 (Nat.le_refl _) b2) (Nat.le_refl _) b3) (Nat.le_refl _) b4⟩
                · cases l2 : (Op.bytesLess c.toList b.toList || c.toList == b.toList)
                  · cases l3 : (Op.bytesLess b.toList c.toList || b.toList == c.toList)
                    · clear T
                      go_enter Try.func6, Try.ntmps6
                      go_wp2_with fail
                      refine (C1.out _).mono ?_
                      rintro e w1 ⟨rfl, b1⟩
                      go_wp2_with fail
                      refine (C2.out _).mono ?_
                      rintro e w2 ⟨rfl, b2⟩
                      go_wp2_with fail
                      refine (C3.out _).mono ?_
                      rintro e w3 ⟨rfl, b3⟩
                      go_wp2_with fail
                      refine (AW.out _).mono ?_
                      rintro e w4 ⟨rfl, b4⟩
                      go_wp2_with fail
                      go_ret
                      exact ⟨rfl, Sm.low_low (Sm.low_low (Sm.low_low b1 (Nat.le_refl _) b2) (Nat.le_refl _) b3) (Nat.le_refl _) b4⟩
                    · cases l4 : (Op.bytesLess c.toList a.toList || c.toList == a.toList)
                      · clear T
                        go_enter Try.func6, Try.ntmps6
                        go_wp2_with fail
                        refine (C1.out _).mono ?_
                        rintro e w1 ⟨rfl, b1⟩
                        go_wp2_with fail
                        refine (C2.out _).mono ?_
                        rintro e w2 ⟨rfl, b2⟩
                        go_wp2_with fail
                        refine (C3.out _).mono ?_
                        rintro e w3 ⟨rfl, b3⟩
                        go_wp2_with fail
                        refine (AW.out _).mono ?_
                        rintro e w4 ⟨rfl, b4⟩
                        go_wp2_with fail
                        go_ret
                        exact ⟨rfl, Sm.low_low (Sm.low_low (Sm.low_low b1 (Nat.le_refl _) b2) (Nat.le_refl _) b3) (Nat.le_refl _) b4⟩
                      · have P3 : Pa.le b.data.toList c.data.toList = true := by rw [← T, ← T]; exact l3
                        have P4 : Pa.le c.data.toList a.data.toList = true := by rw [← T, ← T]; exact l4
                        have hs : C = A := by rw [HC.out, HA.out]; exact congrArg (fun l : List UInt8 => (⟨l.toArray⟩ : ByteArray)) ((Pa.sides HO.out.2.1 HO.out.1 HO.out.2.2 HM.out.symm P3 P4).trans HM.out.symm)
                        clear P3 P4 T
                        subst hs
                        go_enter Try.func6, Try.ntmps6
                        go_wp2_with fail
                        refine (C1.out _).mono ?_
                        rintro e w1 ⟨rfl, b1⟩
                        go_wp2_with fail
                        refine (C2.out _).mono ?_
                        rintro e w2 ⟨rfl, b2⟩
                        go_wp2_with fail
                        refine (C3.out _).mono ?_
                        rintro e w3 ⟨rfl, b3⟩
                        go_wp2_with fail
                        refine (AW.out _).mono ?_
                        rintro e w4 ⟨rfl, b4⟩
                        go_wp2_with fail
                        go_ret
                        exact ⟨rfl, Sm.low_low (Sm.low_low (Sm.low_low b1 (Nat.le_refl _) b2) (Nat.le_refl _) b3) (Nat.le_refl _) b4⟩
                  · have P1 : Pa.le a.data.toList c.data.toList = true := by rw [← T, ← T]; exact l1
                    have P2 : Pa.le c.data.toList b.data.toList = true := by rw [← T, ← T]; exact l2
                    have hs : C = A := by rw [HC.out, HA.out]; exact congrArg (fun l : List UInt8 => (⟨l.toArray⟩ : ByteArray)) (Pa.sides HO.out.1 HO.out.2.1 HO.out.2.2 HM.out P1 P2)
                    clear P1 P2 T
                    subst hs
                    go_enter Try.func6, Try.ntmps6
                    go_wp2_with fail
                    refine (C1.out _).mono ?_
                    rintro e w1 ⟨rfl, b1⟩
                    go_wp2_with fail
                    refine (C2.out _).mono ?_
                    rintro e w2 ⟨rfl, b2⟩
                    go_wp2_with fail
                    refine (C3.out _).mono ?_
                    rintro e w3 ⟨rfl, b3⟩
                    go_wp2_with fail
                    refine (AW.out _).mono ?_
                    rintro e w4 ⟨rfl, b4⟩
                    go_wp2_with fail
                    go_ret
                    exact ⟨rfl, Sm.low_low (Sm.low_low (Sm.low_low b1 (Nat.le_refl _) b2) (Nat.le_refl _) b3) (Nat.le_refl _) b4⟩
              · have q0 : (A.toList == B.toList) = false := by
                  rw [Bool.eq_false_iff]
                  intro e
                  exact hm (by
                    have e' : A.toList = B.toList := by simpa using e
                    rw [Lib.toList_data, Lib.toList_data] at e'
                    exact ByteArray.ext (Array.ext' e'))
                clear hm
                go_enter Try.func6, Try.ntmps6
                go_wp2_with fail
                refine (C1.out _).mono ?_
                rintro e w1 ⟨rfl, b1⟩
                go_wp2_with fail
                refine (C2.out _).mono ?_
                rintro e w2 ⟨rfl, b2⟩
                go_wp2_with fail
                refine (C3.out _).mono ?_
                rintro e w3 ⟨rfl, b3⟩
                go_wp2_with fail
                refine (AW.out _).mono ?_
                rintro e w4 ⟨rfl, b4⟩
                go_wp2_with fail
                go_ret
                exact ⟨rfl, Sm.low_low (Sm.low_low (Sm.low_low b1 (Nat.le_refl _) b2) (Nat.le_refl _) b3) (Nat.le_refl _) b4⟩
end Go.Proofs.Ytmackgocieodjaa
