/-
  What path's isName tells, and the document's Named and Key.
-/
import Derived.Test.YtiehcplepneajaaGreatDoorMBase
import Derived.Test.YtiehcplepneajaaGreatDoorPaMath
namespace Go.Proofs.YtiehcplepneajaaGreatDoor
open Go.RowKit
namespace Pa
theorem len_size (s : ByteArray) : s.data.toList.length = s.size := by simp
/-- The bytes before the i-th are all from a to z, the i-th isn't: no name. -/
theorem not_named {l : List UInt8} {i : Nat} (h : i < l.length) (hb : low l[i] = false) : named l = false := by
  unfold named
  rw [Bool.and_eq_false_iff]
  right
  rw [List.all_eq_false]
  exact ⟨l[i], List.getElem_mem h, by simp [hb]⟩
theorem is_named {l : List UInt8} (h1 : 1 ≤ l.length) (h8 : l.length ≤ 8) (h : ∀ i (h : i < l.length), low l[i] = true) : named l = true := by
  unfold named
  simp only [h1, h8, decide_true, Bool.and_self, Bool.true_and]
  rw [List.all_eq_true]
  intro x hx
  obtain ⟨i, hi, rfl⟩ := List.getElem_of_mem hx
  exact h i hi
theorem not_keyed {l : List UInt8} {i : Nat} (h : i < l.length) (hb : fair l[i] = false) : keyed l = false := by
  unfold keyed
  rw [Bool.and_eq_false_iff]
  right
  rw [List.all_eq_false]
  exact ⟨l[i], List.getElem_mem h, by simp [hb]⟩
theorem is_keyed {l : List UInt8} (h1 : 1 ≤ l.length) (h24 : l.length ≤ 24) (h : ∀ i (h : i < l.length), fair l[i] = true) : keyed l = true := by
  unfold keyed
  simp only [h1, h24, decide_true, Bool.and_self, Bool.true_and]
  rw [List.all_eq_true]
  intro x hx
  obtain ⟨i, hi, rfl⟩ := List.getElem_of_mem hx
  exact h i hi
theorem short_named {l : List UInt8} (h : l.length < 1 ∨ 8 < l.length) : named l = false := by
  unfold named
  simp only [Bool.and_eq_false_iff, decide_eq_false_iff_not]
  left
  rcases h with h | h
  · left; omega
  · right; omega
theorem short_keyed {l : List UInt8} (h : l.length < 1 ∨ 24 < l.length) : keyed l = false := by
  unfold keyed
  simp only [Bool.and_eq_false_iff, decide_eq_false_iff_not]
  left
  rcases h with h | h
  · left; omega
  · right; omega
end Pa
set_option maxRecDepth 100000 in
set_option maxHeartbeats 1000000 in
theorem paIsName_any (w : World) (s : ByteArray) : Calls Tryz.prog 115 #[.string s] w fun e w' => e = .returned (.bool (Pa.named s.data.toList)) ∧ w = w' := by
  have hz := Pa.len_size s
  go_enter Tryz.func115, Tryz.ntmps115
  by_cases h1 : s.size < 1
  · have h1i : (s.size : Int) < 1 := by omega
    go_wp2
    go_ret
    exact ⟨by rw [Pa.short_named (.inl (by omega))]; rfl, rfl⟩
  · have h1i : ¬ (s.size : Int) < 1 := by omega
    by_cases h8 : 8 < s.size
    · have h8i : (8 : Int) < s.size := by omega
      go_wp2
      go_ret
      exact ⟨by rw [Pa.short_named (.inr (by omega))]; rfl, rfl⟩
    · have h8i : ¬ (8 : Int) < s.size := by omega
      go_wp2
      go_loopw [14] (fun s14 wr => ∃ i : Nat, s14 = .int .i64 i ∧ i ≤ s.size ∧ (∀ j (h : j < s.data.toList.length), j < i → Pa.low s.data.toList[j] = true) ∧ w = wr) (fun s14 _ => s.size - (intOf s14).toNat)
      case atStart => exact ⟨0, rfl, Nat.zero_le _, fun j _ h => absurd h (Nat.not_lt_zero _), rfl⟩
      case round =>
        obtain ⟨i, rfl, hi, hall, rfl⟩ := hrel
        have HA := Lib.hid hall
        clear hall
        by_cases hil : i < s.size
        · have hii : (i : Int) < s.size := by omega
          have hil2 : i < s.data.toList.length := by omega
          have hsuc : IntKind.i64.wrap ((i : Int) + 1) = ((i + 1 : Nat) : Int) := by simp [IntKind.wrap, IntKind.bits, IntKind.signed]; omega
          have hget : s.data.toList[i] = s[i] := by simp [ByteArray.getElem_eq_getElem_data]
          by_cases c1 : s[i].toNat < 97
          · have c1i : (s[i].toNat : Int) < 97 := by omega
            go_wp2
            go_ret
            refine ⟨?_, rfl⟩
            rw [Pa.not_named hil2 (by rw [hget, Pa.low]; simp; omega)]
            rfl
          · have c1i : ¬ (s[i].toNat : Int) < 97 := by omega
            by_cases c2 : 122 < s[i].toNat
            · have c2i : (122 : Int) < (s[i].toNat : Int) := by omega
              go_wp2
              go_ret
              refine ⟨?_, rfl⟩
              rw [Pa.not_named hil2 (by rw [hget, Pa.low]; simp; omega)]
              rfl
            · have c2i : ¬ (122 : Int) < (s[i].toNat : Int) := by omega
              have hnext : ∀ j (h : j < s.data.toList.length), j < i + 1 → Pa.low s.data.toList[j] = true := fun j h hj => by
                by_cases e : j = i
                · subst e; rw [hget, Pa.low]; simp; omega
                · exact HA.out j h (by omega)
              have HN := Lib.hid hnext
              clear hnext hget
              go_wp2
              go_roundw
              case rel => exact ⟨i + 1, rfl, by omega, HN.out, by trivial⟩
              case measure => simp only [intOf]; omega
        · have hii : ¬ (i : Int) < s.size := by omega
          go_wp2
          go_ret
          refine ⟨?_, rfl⟩
          rw [Pa.is_named (by omega) (by omega) fun j h => HA.out j h (by omega)]
          rfl
set_option maxRecDepth 100000 in
set_option maxHeartbeats 1000000 in
theorem r11Named_any (w : World) (s : ByteArray) : Calls Tryz.prog 81 #[.string s] w fun e w' => e = .returned (.bool (Pa.named s.data.toList)) ∧ w = w' := by
  have hz := Pa.len_size s
  go_enter Tryz.func81, Tryz.ntmps81
  by_cases h1 : s.size < 1
  · have h1i : (s.size : Int) < 1 := by omega
    go_wp2
    go_ret
    exact ⟨by rw [Pa.short_named (.inl (by omega))]; rfl, rfl⟩
  · have h1i : ¬ (s.size : Int) < 1 := by omega
    by_cases h8 : 8 < s.size
    · have h8i : (8 : Int) < s.size := by omega
      go_wp2
      go_ret
      exact ⟨by rw [Pa.short_named (.inr (by omega))]; rfl, rfl⟩
    · have h8i : ¬ (8 : Int) < s.size := by omega
      go_wp2
      go_loopw [3] (fun s3 wr => ∃ i : Nat, s3 = .int .i64 i ∧ i ≤ s.size ∧ (∀ j (h : j < s.data.toList.length), j < i → Pa.low s.data.toList[j] = true) ∧ w = wr) (fun s3 _ => s.size - (intOf s3).toNat)
      case atStart => exact ⟨0, rfl, Nat.zero_le _, fun j _ h => absurd h (Nat.not_lt_zero _), rfl⟩
      case round =>
        obtain ⟨i, rfl, hi, hall, rfl⟩ := hrel
        have HA := Lib.hid hall
        clear hall
        by_cases hil : i < s.size
        · have hii : (i : Int) < s.size := by omega
          have hil2 : i < s.data.toList.length := by omega
          have hsuc : IntKind.i64.wrap ((i : Int) + 1) = ((i + 1 : Nat) : Int) := by simp [IntKind.wrap, IntKind.bits, IntKind.signed]; omega
          have hget : s.data.toList[i] = s[i] := by simp [ByteArray.getElem_eq_getElem_data]
          by_cases c1 : s[i].toNat < 97
          · have c1i : (s[i].toNat : Int) < 97 := by omega
            go_wp2
            go_ret
            refine ⟨?_, rfl⟩
            rw [Pa.not_named hil2 (by rw [hget, Pa.low]; simp; omega)]
            rfl
          · have c1i : ¬ (s[i].toNat : Int) < 97 := by omega
            by_cases c2 : 122 < s[i].toNat
            · have c2i : (122 : Int) < (s[i].toNat : Int) := by omega
              go_wp2
              go_ret
              refine ⟨?_, rfl⟩
              rw [Pa.not_named hil2 (by rw [hget, Pa.low]; simp; omega)]
              rfl
            · have c2i : ¬ (122 : Int) < (s[i].toNat : Int) := by omega
              have hnext : ∀ j (h : j < s.data.toList.length), j < i + 1 → Pa.low s.data.toList[j] = true := fun j h hj => by
                by_cases e : j = i
                · subst e; rw [hget, Pa.low]; simp; omega
                · exact HA.out j h (by omega)
              have HN := Lib.hid hnext
              clear hnext hget
              go_wp2
              go_roundw
              case rel => exact ⟨i + 1, rfl, by omega, HN.out, by trivial⟩
              case measure => simp only [intOf]; omega
        · have hii : ¬ (i : Int) < s.size := by omega
          go_wp2
          go_ret
          refine ⟨?_, rfl⟩
          rw [Pa.is_named (by omega) (by omega) fun j h => HA.out j h (by omega)]
          rfl
set_option maxRecDepth 100000 in
set_option maxHeartbeats 1000000 in
theorem r11Key_any (w : World) (s : ByteArray) : Calls Tryz.prog 82 #[.string s] w fun e w' => e = .returned (.bool (Pa.keyed s.data.toList)) ∧ w = w' := by
  have hz := Pa.len_size s
  go_enter Tryz.func82, Tryz.ntmps82
  by_cases h1 : s.size < 1
  · have h1i : (s.size : Int) < 1 := by omega
    go_wp2
    go_ret
    exact ⟨by rw [Pa.short_keyed (.inl (by omega))]; rfl, rfl⟩
  · have h1i : ¬ (s.size : Int) < 1 := by omega
    by_cases h24 : 24 < s.size
    · have h24i : (24 : Int) < s.size := by omega
      go_wp2
      go_ret
      exact ⟨by rw [Pa.short_keyed (.inr (by omega))]; rfl, rfl⟩
    · have h24i : ¬ (24 : Int) < s.size := by omega
      go_wp2
      go_loopw [3] (fun s3 wr => ∃ i : Nat, s3 = .int .i64 i ∧ i ≤ s.size ∧ (∀ j (h : j < s.data.toList.length), j < i → Pa.fair s.data.toList[j] = true) ∧ w = wr) (fun s3 _ => s.size - (intOf s3).toNat)
      case atStart => exact ⟨0, rfl, Nat.zero_le _, fun j _ h => absurd h (Nat.not_lt_zero _), rfl⟩
      case round =>
        obtain ⟨i, rfl, hi, hall, rfl⟩ := hrel
        have HA := Lib.hid hall
        clear hall
        by_cases hil : i < s.size
        · have hii : (i : Int) < s.size := by omega
          have hil2 : i < s.data.toList.length := by omega
          have hsuc : IntKind.i64.wrap ((i : Int) + 1) = ((i + 1 : Nat) : Int) := by simp [IntKind.wrap, IntKind.bits, IntKind.signed]; omega
          have hget : s.data.toList[i] = s[i] := by simp [ByteArray.getElem_eq_getElem_data]
          by_cases c1 : s[i].toNat = 0
          · have c1i : (s[i].toNat : Int) = 0 := by omega
            have c1j : ((s[i].toNat : Int) == 0) = true := by rw [c1i]; rfl
            go_wp2
            go_ret
            refine ⟨?_, rfl⟩
            rw [Pa.not_keyed hil2 (by rw [hget, Pa.fair]; simp [c1])]
            rfl
          · have c1i : ¬ (s[i].toNat : Int) = 0 := by omega
            have c1j : ((s[i].toNat : Int) == 0) = false := by simpa using c1
            by_cases c2 : s[i].toNat = 47
            · have c2i : (s[i].toNat : Int) = 47 := by omega
              have c2j : ((s[i].toNat : Int) == 47) = true := by rw [c2i]; rfl
              go_wp2
              go_ret
              refine ⟨?_, rfl⟩
              rw [Pa.not_keyed hil2 (by rw [hget, Pa.fair]; simp [c2])]
              rfl
            · have c2i : ¬ (s[i].toNat : Int) = 47 := by omega
              have c2j : ((s[i].toNat : Int) == 47) = false := by rw [beq_eq_false_iff_ne]; exact c2i
              have hnext : ∀ j (h : j < s.data.toList.length), j < i + 1 → Pa.fair s.data.toList[j] = true := fun j h hj => by
                by_cases e : j = i
                · subst e; rw [hget, Pa.fair]; simp [c1, c2]
                · exact HA.out j h (by omega)
              have HN := Lib.hid hnext
              clear hnext hget
              go_wp2
              go_roundw
              case rel => exact ⟨i + 1, rfl, by omega, HN.out, by trivial⟩
              case measure => simp only [intOf]; omega
        · have hii : ¬ (i : Int) < s.size := by omega
          go_wp2
          go_ret
          refine ⟨?_, rfl⟩
          rw [Pa.is_keyed (by omega) (by omega) fun j h => HA.out j h (by omega)]
          rfl
end Go.Proofs.YtiehcplepneajaaGreatDoor
