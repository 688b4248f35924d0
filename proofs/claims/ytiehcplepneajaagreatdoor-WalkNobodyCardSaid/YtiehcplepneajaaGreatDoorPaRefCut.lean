/-
  The document's Cut.
-/
import Derived.Test.YtiehcplepneajaaGreatDoorPaPath
namespace Go.Proofs.YtiehcplepneajaaGreatDoor
open Go.RowKit
namespace Pa
theorem first_slash : ∀ {l : List UInt8} {i : Nat} (h : i < l.length), l[i] = 47 → (∀ j (h : j < l.length), j < i → ¬ l[j] = 47) → head l = l.take i ∧ tail l = l.drop (i + 1)
  | [], _, h, _, _ => absurd h (Nat.not_lt_zero _)
  | b :: r, 0, _, h, _ => by
    simp only [List.getElem_cons_zero] at h
    subst h
    simp [head, tail]
  | b :: r, i + 1, hi, h, hn => by
    have hb : (b == 47) = false := by
      have := hn 0 (by simp) (by omega)
      simpa using this
    have ih := first_slash (l := r) (i := i) (by simpa using hi) (by simpa using h) (fun j h1 h2 => by
      have := hn (j + 1) (by simp; omega) (by omega)
      simpa using this)
    simp [head, tail, hb, ih]
theorem no_slash {l : List UInt8} (h : ∀ j (h : j < l.length), ¬ l[j] = 47) : head l = l ∧ tail l = [] := by
  induction l with
  | nil => exact ⟨rfl, rfl⟩
  | cons b r ih =>
    have hb : (b == 47) = false := by
      have := h 0 (by simp)
      simpa using this
    have ih := ih fun j hj => by
      have := h (j + 1) (by simp; omega)
      simpa using this
    simp [head, tail, hb, ih]
theorem no_ok {l : List UInt8} (h : tail l = []) : ok l = false := by
  unfold ok
  rw [h, Bool.and_eq_false_iff]
  exact .inr rfl
theorem ext_list0 (s : ByteArray) (n : Nat) : (s.extract 0 n).data.toList = s.data.toList.take n := by rw [ext_take]
theorem ext_list1 (s : ByteArray) (n : Nat) : (s.extract n s.size).data.toList = s.data.toList.drop n := by rw [ext_drop]
end Pa
set_option maxRecDepth 100000 in
set_option maxHeartbeats 1000000 in
theorem r11Cut_any (w : World) (s : ByteArray) (hs : s.size ≤ 281474976710656) : Calls Tryz.prog 43 #[.string s] w fun e w' => e = .returned (Pa.cutV s.data.toList) ∧ Below w.heap.size w w' := by
  have hz := Pa.len_size s
  go_enter Tryz.func43, Tryz.ntmps43
  go_wp2
  go_loopw [5] (fun s5 wr => ∃ i : Nat, s5 = .int .i64 i ∧ i ≤ s.size ∧ (∀ j (h : j < s.data.toList.length), j < i → ¬ s.data.toList[j] = 47) ∧ w = wr) (fun s5 _ => s.size - (intOf s5).toNat)
  case atStart => exact ⟨0, rfl, Nat.zero_le _, fun j _ h => absurd h (Nat.not_lt_zero _), rfl⟩
  case round =>
    obtain ⟨i, rfl, hi, hall, rfl⟩ := hrel
    by_cases hil : i < s.size
    · have hii : (i : Int) < s.size := by omega
      have hil2 : i < s.data.toList.length := by omega
      have hsuc : IntKind.i64.wrap ((i : Int) + 1) = ((i + 1 : Nat) : Int) := by simp [IntKind.wrap, IntKind.bits, IntKind.signed]; omega
      have hget : s.data.toList[i] = s[i] := by simp [ByteArray.getElem_eq_getElem_data]
      by_cases c1 : s[i].toNat = 47
      · have h47 : s.data.toList[i] = 47 := by rw [hget]; exact UInt8.toNat_inj.1 c1
        obtain ⟨f1, f2⟩ := Pa.first_slash hil2 h47 hall
        have IN := Lib.hid (fun wx => r11Named_any wx (s.extract 0 i))
        have IK := Lib.hid (fun wx => r11Key_any wx (s.extract (i + 1) s.size))
        rw [Pa.ext_list0, ← f1] at IN
        rw [Pa.ext_list1, ← f2] at IK
        have c1i : (s[i].toNat : Int) = 47 := by omega
        have c1j : ((s[i].toNat : Int) == 47) = true := by rw [c1i]; rfl
        have k1 : (0 : Int) ≤ (i : Int) := by omega
        have k2 : (i : Int) ≤ s.size := by omega
        have k3 : (0 : Int) ≤ ((i + 1 : Nat) : Int) := by omega
        have k4 : ((i + 1 : Nat) : Int) ≤ s.size := by omega
        have e1 : (⟨(Pa.head s.data.toList).toArray⟩ : ByteArray) = s.extract 0 i := by rw [f1, Pa.ext_take]
        have e2 : (⟨(Pa.tail s.data.toList).toArray⟩ : ByteArray) = s.extract (i + 1) s.size := by rw [f2, Pa.ext_drop]
        clear hall f1 f2 hget
        cases hn : Pa.named (Pa.head s.data.toList)
        · have hno : Pa.ok s.data.toList = false := by unfold Pa.ok; rw [hn]; rfl
          rw [hn] at IN
          have HE := Lib.hid (Pa.cut_no hno)
          clear hn hno e1 e2
          go_wp2_with (go_at_call 81; refine (IN.out _).mono ?_; rintro e w2 ⟨rfl, rfl⟩)
          go_ret3
          exact ⟨by rw [HE.out]; rfl, Below.refl _ _⟩
        · cases hk : Pa.keyed (Pa.tail s.data.toList)
          · have hno : Pa.ok s.data.toList = false := by unfold Pa.ok; rw [hn, hk]; rfl
            rw [hn] at IN
            rw [hk] at IK
            have HE := Lib.hid (Pa.cut_no hno)
            clear hn hno hk e1 e2
            go_wp2_with first | (go_at_call 81; refine (IN.out _).mono ?_; rintro e w2 ⟨rfl, rfl⟩) | (go_at_call 82; refine (IK.out _).mono ?_; rintro e w2 ⟨rfl, rfl⟩)
            go_ret3
            exact ⟨by rw [HE.out]; rfl, Below.refl _ _⟩
          · have HE := Lib.hid (Pa.cut_yes hn hk)
            rw [e1, e2] at HE
            rw [hn] at IN
            rw [hk] at IK
            clear hn hk e1 e2
            go_wp2_with first | (go_at_call 81; refine (IN.out _).mono ?_; rintro e w2 ⟨rfl, rfl⟩) | (go_at_call 82; refine (IK.out _).mono ?_; rintro e w2 ⟨rfl, rfl⟩)
            go_region
            go_wp2
            go_ret3
            exact ⟨by rw [HE.out]; rfl, (Below.refl _ _).drew⟩
      · have c1i : ¬ (s[i].toNat : Int) = 47 := by omega
        have c1j : ((s[i].toNat : Int) == 47) = false := by rw [beq_eq_false_iff_ne]; exact c1i
        have hnext : ∀ j (h : j < s.data.toList.length), j < i + 1 → ¬ s.data.toList[j] = 47 := fun j h hj => by
          by_cases e : j = i
          · subst e; rw [hget]; intro e2; exact c1 (by rw [e2]; rfl)
          · exact hall j h (by omega)
        have HN := Lib.hid hnext
        clear hnext hget hall
        go_wp2
        go_roundw
        case rel => exact ⟨i + 1, rfl, by omega, HN.out, by trivial⟩
        case measure => simp only [intOf]; omega
    · have hii : ¬ (i : Int) < s.size := by omega
      have HE := Lib.hid (Pa.cut_no (Pa.no_ok (Pa.no_slash fun j h => hall j h (by omega)).2))
      clear hall
      go_wp2
      go_ret3
      exact ⟨by rw [HE.out]; rfl, Below.refl _ _⟩
end Go.Proofs.YtiehcplepneajaaGreatDoor
