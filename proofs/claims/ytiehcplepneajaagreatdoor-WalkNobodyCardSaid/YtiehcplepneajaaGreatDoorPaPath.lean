/-
  path's Cut and Join: their contracts.
-/
import Derived.Test.YtiehcplepneajaaGreatDoorPaCut
namespace Go.Proofs.YtiehcplepneajaaGreatDoor
open Go.RowKit
namespace Pa
/-- What Cut answers. -/
def cutV (l : List UInt8) : Value := .tuple #[.string ⟨(cutA l).toArray⟩, .string ⟨(cutB l).toArray⟩, .bool (ok l)]
/-- Both a name and a key. -/
def both (m k : ByteArray) : Bool := named m.data.toList && keyed k.data.toList
/-- The path of both, or no text. -/
def join (m k : ByteArray) : ByteArray := if both m k then m ++ ⟨#[47]⟩ ++ k else ⟨#[]⟩
theorem head_len (l : List UInt8) : (head l).length ≤ l.length := by
  induction l with
  | nil => exact Nat.le_refl _
  | cons b r ih => rw [head]; split <;> simp <;> omega
theorem tail_len (l : List UInt8) : (tail l).length ≤ l.length := by
  induction l with
  | nil => exact Nat.le_refl _
  | cons b r ih => rw [tail]; split <;> simp <;> omega
theorem below_drew {w w1 : World} {n : Nat} (h : w1 = w.drewN n) : Below w.heap.size w w1 := by subst h; exact Sm.below_drewN (Below.refl _ w) n
theorem cut_yes {l : List UInt8} (h1 : named (head l) = true) (h2 : keyed (tail l) = true) : cutV l = .tuple #[.string ⟨(head l).toArray⟩, .string ⟨(tail l).toArray⟩, .bool true] := by
  have : ok l = true := by unfold ok; rw [h1, h2]; rfl
  unfold cutV cutA cutB
  rw [this, if_pos rfl, if_pos rfl]
theorem cut_no {l : List UInt8} (h : ok l = false) : cutV l = .tuple #[.string ⟨#[]⟩, .string ⟨#[]⟩, .bool false] := by
  unfold cutV cutA cutB
  rw [h]
  rfl
end Pa
set_option maxRecDepth 100000 in
set_option maxHeartbeats 1000000 in
theorem paCut_any (w : World) (s : ByteArray) (hs : s.size ≤ 281474976710656) : Calls Tryz.prog 83 #[.string s] w fun e w' => e = .returned (Pa.cutV s.data.toList) ∧ Below w.heap.size w w' := by
  have C := Lib.hid (strCut_one s (by omega) w)
  have h1 := Pa.head_len s.data.toList
  have h2 := Pa.tail_len s.data.toList
  rw [Pa.len_size] at h1 h2
  obtain ⟨H, hH⟩ : ∃ H : ByteArray, H = ⟨(Pa.head s.data.toList).toArray⟩ := ⟨_, rfl⟩
  obtain ⟨T, hT⟩ : ∃ T : ByteArray, T = ⟨(Pa.tail s.data.toList).toArray⟩ := ⟨_, rfl⟩
  have lH : H.data.toList = Pa.head s.data.toList := by rw [hH]
  have lT : T.data.toList = Pa.tail s.data.toList := by rw [hT]
  have zH : H.size ≤ 281474976710656 := by rw [← Pa.len_size, lH]; omega
  have zT : T.size ≤ 281474976710656 := by rw [← Pa.len_size, lT]; omega
  rw [← hH, ← hT] at C
  have IN := Lib.hid (fun wx => paIsName_any wx H)
  have IK := Lib.hid (fun wx => paIsKey_any wx T)
  have CH := Lib.hid (fun wx => strClone_any H wx zH)
  have CT := Lib.hid (fun wx => strClone_any T wx zT)
  rw [lH] at IN
  rw [lT] at IK
  have HH := Lib.hid hH
  have HT := Lib.hid hT
  clear hH hT h1 h2 lH lT
  cases hn : Pa.named (Pa.head s.data.toList)
  · have hno : Pa.ok s.data.toList = false := by unfold Pa.ok; rw [hn]; rfl
    rw [hn] at IN
    rw [Pa.cut_no hno]
    clear hn hno
    go_enter Tryz.func83, Tryz.ntmps83
    go_wp2_with first | (go_at_call 114; refine (C.out).mono ?_; rintro e w1 ⟨⟨b, rfl⟩, n, hw1⟩; have b1 := Pa.below_drew hw1; clear hw1) | (go_at_call 115; refine (IN.out _).mono ?_; rintro e w2 ⟨rfl, rfl⟩)
    go_ret3
    exact ⟨rfl, b1⟩
  · cases hk : Pa.keyed (Pa.tail s.data.toList)
    · have hno : Pa.ok s.data.toList = false := by unfold Pa.ok; rw [hn, hk]; rfl
      rw [hn] at IN
      rw [hk] at IK
      rw [Pa.cut_no hno]
      clear hn hno hk
      go_enter Tryz.func83, Tryz.ntmps83
      go_wp2_with first | (go_at_call 114; refine (C.out).mono ?_; rintro e w1 ⟨⟨b, rfl⟩, n, hw1⟩; have b1 := Pa.below_drew hw1; clear hw1) | (go_at_call 115; refine (IN.out _).mono ?_; rintro e w2 ⟨rfl, rfl⟩) | (go_at_call 116; refine (IK.out _).mono ?_; rintro e w2 ⟨rfl, rfl⟩)
      go_ret3
      exact ⟨rfl, b1⟩
    · rw [Pa.cut_yes hn hk, ← HH.out, ← HT.out]
      rw [hn] at IN
      rw [hk] at IK
      clear hn hk
      go_enter Tryz.func83, Tryz.ntmps83
      go_wp2_with first | (go_at_call 114; refine (C.out).mono ?_; rintro e w1 ⟨⟨b, rfl⟩, n, hw1⟩; have b1 := Pa.below_drew hw1; clear hw1) | (go_at_call 115; refine (IN.out _).mono ?_; rintro e w2 ⟨rfl, rfl⟩) | (go_at_call 116; refine (IK.out _).mono ?_; rintro e w2 ⟨rfl, rfl⟩) | (go_at_call 70; with_reducible refine (CH.out _).mono ?_; rintro e w3 ⟨rfl, hb3⟩) | (go_at_call 70; with_reducible refine (CT.out _).mono ?_; rintro e w4 ⟨rfl, hb4⟩)
      go_ret3
      exact ⟨rfl, Sm.low_low (Sm.low_low b1 (Nat.le_refl _) hb3) (Nat.le_refl _) hb4⟩
end Go.Proofs.YtiehcplepneajaaGreatDoor
