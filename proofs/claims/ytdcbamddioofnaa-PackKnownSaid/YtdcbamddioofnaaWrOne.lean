/-
  What the statements' helper writes does to one item that may lie anywhere.
-/
import Derived.Test.YtdcbamddioofnaaWr
namespace Go.Proofs.Ytdcbamddioofnaa
open Go.RowKit Pk

set_option maxHeartbeats 4000000 in
theorem writes_one {w : World} {B o : Nat} {bs : List UInt8} (b c : Nat) (a : It) (hout : outAt w B o bs) (hB : B ≤ w.heap.size) (hoka : a.Ok) (hit : itemAt w b 0 a)
    (hroom : bs.length + 10 + a.s.size ≤ 140737488355328) :
    Calls Try.prog 4 #[.pointer (some ⟨o, 0, none⟩), .slice (some ⟨b, 0, none⟩) 1 c] w fun e w' => e = .returned (.tuple #[]) ∧ outAt w' B o (bs ++ encI a) ∧ Below B w w' := by
  obtain ⟨c0, c1, c2, c3, c4, c5⟩ := hit
  obtain ⟨ho1, ho2, ho3, ho4, ho5, ho6⟩ := hoka
  obtain ⟨E, hE⟩ : ∃ E, E = encI a := ⟨_, rfl⟩
  rw [← hE]
  unfold encI at hE
  go_enter Try.func4, Try.ntmps4
  go_wp2
  go_loopw [4] (fun i wr => ∃ k : Nat, k ≤ 1 ∧ i = .int .i64 k ∧ (k = 0 → wr = w) ∧ (k = 1 → outAt wr B o (bs ++ E) ∧ Below B w wr)) (fun i _ => 1 - (intOf i).toNat)
  case atStart => exact ⟨0, Nat.zero_le _, rfl, fun _ => rfl, fun h => by cases h⟩
  case round =>
    obtain ⟨k, hk, rfl, hz, ho⟩ := hrel
    by_cases hlt : k = 0
    · obtain rfl := hz hlt
      subst hlt
      clear hz ho hk
      by_cases d0 : a.d = 0
      · rw [d0] at c0
        rw [if_pos d0] at hE
        have HEN := Lib.hid hE
        clear hE d0
        go_wp2_with fail
        refine (oNum_any a.n ho2 hout hB (by omega)).mono ?_
        rintro e w1 ⟨rfl, h1, h2⟩
        go_wp2
        go_roundw
        case rel => exact ⟨1, by omega, by go_num, (fun h => absurd h (by decide)), fun _ => ⟨by rw [HEN.out]; exact h1, h2⟩⟩
        case measure => simp [intOf]
      · have e0 : ((a.d : Int) == 0) = false := by rw [beq_eq_false_iff_ne]; omega
        rw [if_neg d0] at hE
        by_cases d1 : a.d = 1
        · rw [d1] at c0
          rw [if_pos d1] at hE
          have HEN := Lib.hid hE
          clear hE d0 d1 e0
          go_wp2_with fail
          refine (oInt_any a.i ho3 hout hB (by omega)).mono ?_
          rintro e w1 ⟨rfl, h1, h2⟩
          go_wp2
          go_roundw
          case rel => exact ⟨1, by omega, by go_num, (fun h => absurd h (by decide)), fun _ => ⟨by rw [HEN.out]; exact h1, h2⟩⟩
          case measure => simp [intOf]
        · have e1 : ((a.d : Int) == 1) = false := by rw [beq_eq_false_iff_ne]; omega
          rw [if_neg d1] at hE
          by_cases d2 : a.d = 2
          · rw [d2] at c0
            rw [if_pos d2] at hE
            have HEN := Lib.hid hE
            clear hE d0 d1 e0 e1 d2
            go_wp2_with fail
            refine (oText_any a.s hout hB (by omega)).mono ?_
            rintro e w1 ⟨rfl, h1, h2⟩
            go_wp2
            go_roundw
            case rel => exact ⟨1, by omega, by go_num, (fun h => absurd h (by decide)), fun _ => ⟨by rw [HEN.out]; exact h1, h2⟩⟩
            case measure => simp [intOf]
          · have e2 : ((a.d : Int) == 2) = false := by rw [beq_eq_false_iff_ne]; omega
            rw [if_neg d2] at hE
            by_cases d3 : a.d = 3
            · rw [d3] at c0
              rw [if_pos d3] at hE
              have HEN := Lib.hid hE
              clear hE d0 d1 e0 e1 d2 e2 d3
              go_wp2_with fail
              refine (oByte_any _ (UInt8.ofNat a.b) (by rw [ofNat_toNat ho5]) hout hB (by omega)).mono ?_
              rintro e w1 ⟨rfl, h1, h2⟩
              go_wp2
              go_roundw
              case rel => exact ⟨1, by omega, by go_num, (fun h => absurd h (by decide)), fun _ => ⟨by rw [HEN.out]; exact h1, h2⟩⟩
              case measure => simp [intOf]
            · have e3 : ((a.d : Int) == 3) = false := by rw [beq_eq_false_iff_ne]; omega
              rw [if_neg d3] at hE
              have HEN := Lib.hid hE
              have HH := Lib.hid hout
              clear hE d0 d1 d2 d3
              go_wp2
              go_roundw
              case rel => exact ⟨1, by omega, by go_num, (fun h => absurd h (by decide)), fun _ => ⟨by rw [HEN.out, List.append_nil]; exact HH.out, Below.refl _ _⟩⟩
              case measure => simp [intOf]
    · obtain rfl : k = 1 := by omega
      obtain ⟨h1, h2⟩ := ho rfl
      have HH := Lib.hid h1
      clear h1 hz ho hE
      go_wp2
      go_end0
      exact ⟨rfl, HH.out, h2⟩
end Go.Proofs.Ytdcbamddioofnaa
