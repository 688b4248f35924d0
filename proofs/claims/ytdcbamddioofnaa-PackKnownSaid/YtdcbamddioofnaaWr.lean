/-
  Items that lie in a block; what the statements' helper writes does.
-/
import Derived.Test.YtdcbamddioofnaaWakes
namespace Go.Proofs.Ytdcbamddioofnaa
open Go.RowKit Pk

/-- Items lie in block b, from off on. -/
def itemAt (w : World) (b o : Nat) (a : It) : Prop :=
  w.cell? ⟨b, o, none⟩ = some (.int .u8 a.d) ∧ w.cell? ⟨b, o + 1, none⟩ = some (.int .u64 a.n) ∧ w.cell? ⟨b, o + 2, none⟩ = some (.int .i64 a.i) ∧
  w.cell? ⟨b, o + 3, none⟩ = some (.string a.s) ∧ w.cell? ⟨b, o + 4, none⟩ = some (.int .u8 a.b) ∧ w.cell? ⟨b, o + 5, none⟩ = some (.int .i64 a.m)
def itemsAt (w : World) (b off : Nat) (l : List It) : Prop := ∀ k (hk : k < l.length), itemAt w b (off + k * 6) l[k]

theorem ret_bool {a b : Bool} (h : a = b) : Ending.returned (.bool a) = .returned (.bool b) := by rw [h]

theorem itemAt.below {w w' : World} {b o B : Nat} {a : It} (h : itemAt w b o a) (k : Below B w w') (hb : b < B) : itemAt w' b o a := by
  have e : ∀ x, w'.cell? ⟨b, x, none⟩ = w.cell? ⟨b, x, none⟩ := fun x => k.cell (p := ⟨b, x, none⟩) hb
  unfold itemAt
  simp only [e]
  exact h
theorem itemsAt.below {w w' : World} {b off B : Nat} {l : List It} (h : itemsAt w b off l) (k : Below B w w') (hb : b < B) : itemsAt w' b off l := fun j hj => (h j hj).below k hb

set_option maxHeartbeats 4000000 in
theorem writes_some {w : World} {B o : Nat} {bs : List UInt8} (b off c : Nat) (l : List It) (hout : outAt w B o bs) (hB : B ≤ w.heap.size) (hb : b < B) (hok : ∀ a ∈ l, a.Ok) (hit : itemsAt w b off l)
    (hroom : bs.length + (10 * l.length + total l) ≤ 140737488355328) :
    Calls Try.prog 4 #[.pointer (some ⟨o, 0, none⟩), .slice (some ⟨b, off, none⟩) l.length c] w fun e w' => e = .returned (.tuple #[]) ∧ outAt w' B o (bs ++ encs l) ∧ Below B w w' := by
  have HIT := Lib.hid hit
  have HOK := Lib.hid hok
  clear hit hok
  go_enter Try.func4, Try.ntmps4
  go_wp2
  go_loopw [4] (fun i wr => ∃ k : Nat, k ≤ l.length ∧ i = .int .i64 k ∧ outAt wr B o (bs ++ encs (l.take k)) ∧ Below B w wr ∧ B ≤ wr.heap.size) (fun i _ => l.length - (intOf i).toNat)
  case atStart => exact ⟨0, Nat.zero_le _, rfl, by simpa [encs] using hout, Below.refl _ _, hB⟩
  case round =>
    obtain ⟨k, hk, rfl, hout', hbe, hB'⟩ := hrel
    by_cases hlt : k < l.length
    · have hkk := (HIT.out k hlt).below hbe hb
      have hoka := HOK.out _ (List.getElem_mem hlt)
      have hlt1 : (k : Int) < l.length := by omega
      have hen := encs_take hlt
      have hlen : (bs ++ encs (l.take k)).length + 10 + l[k].s.size ≤ 140737488355328 := by
        have h1 := encs_len (l := l.take k) (fun a ha => HOK.out a (List.mem_of_mem_take ha))
        have h2 := total_take hlt
        have h3 := total_take_le l (k + 1)
        rw [List.length_append]
        rw [List.length_take, Nat.min_eq_left hk] at h1
        omega
      generalize l[k] = a at *
      have HEN := Lib.hid hen
      clear hen
      obtain ⟨c0, c1, c2, c3, c4, c5⟩ := hkk
      obtain ⟨ho1, ho2, ho3, ho4, ho5, ho6⟩ := hoka
      have HH := Lib.hid hout'
      unfold encI at HEN
      by_cases d0 : a.d = 0
      · rw [d0] at c0
        rw [if_pos d0] at HEN
        clear d0
        go_wp2_with fail
        refine (oNum_any a.n ho2 hout' hB' (by omega)).mono ?_
        rintro e w1 ⟨rfl, h1, h2⟩
        go_wp2
        go_roundw
        case rel => exact ⟨k + 1, by omega, by go_num, by rw [HEN.out, ← List.append_assoc]; exact h1, hbe.trans h2, Nat.le_trans hB' h2.size⟩
        case measure => simp [intOf]; omega
      · have e0 : ((a.d : Int) == 0) = false := by rw [beq_eq_false_iff_ne]; omega
        rw [if_neg d0] at HEN
        by_cases d1 : a.d = 1
        · rw [d1] at c0
          rw [if_pos d1] at HEN
          clear d0 d1 e0
          go_wp2_with fail
          refine (oInt_any a.i ho3 hout' hB' (by omega)).mono ?_
          rintro e w1 ⟨rfl, h1, h2⟩
          go_wp2
          go_roundw
          case rel => exact ⟨k + 1, by omega, by go_num, by rw [HEN.out, ← List.append_assoc]; exact h1, hbe.trans h2, Nat.le_trans hB' h2.size⟩
          case measure => simp [intOf]; omega
        · have e1 : ((a.d : Int) == 1) = false := by rw [beq_eq_false_iff_ne]; omega
          rw [if_neg d1] at HEN
          by_cases d2 : a.d = 2
          · rw [d2] at c0
            rw [if_pos d2] at HEN
            clear d0 d1 e0 e1 d2
            go_wp2_with fail
            refine (oText_any a.s hout' hB' (by omega)).mono ?_
            rintro e w1 ⟨rfl, h1, h2⟩
            go_wp2
            go_roundw
            case rel => exact ⟨k + 1, by omega, by go_num, by rw [HEN.out, ← List.append_assoc]; exact h1, hbe.trans h2, Nat.le_trans hB' h2.size⟩
            case measure => simp [intOf]; omega
          · have e2 : ((a.d : Int) == 2) = false := by rw [beq_eq_false_iff_ne]; omega
            rw [if_neg d2] at HEN
            by_cases d3 : a.d = 3
            · rw [d3] at c0
              rw [if_pos d3] at HEN
              clear d0 d1 e0 e1 d2 e2 d3
              go_wp2_with fail
              refine (oByte_any _ (UInt8.ofNat a.b) (by rw [ofNat_toNat ho5]) hout' hB' (by omega)).mono ?_
              rintro e w1 ⟨rfl, h1, h2⟩
              go_wp2
              go_roundw
              case rel => exact ⟨k + 1, by omega, by go_num, by rw [HEN.out, ← List.append_assoc]; exact h1, hbe.trans h2, Nat.le_trans hB' h2.size⟩
              case measure => simp [intOf]; omega
            · have e3 : ((a.d : Int) == 3) = false := by rw [beq_eq_false_iff_ne]; omega
              rw [if_neg d3] at HEN
              clear d0 d1 d2 d3
              go_wp2
              go_roundw
              case rel => exact ⟨k + 1, by omega, by go_num, by rw [HEN.out, List.append_nil]; exact HH.out, hbe, hB'⟩
              case measure => simp [intOf]; omega
    · obtain rfl : k = l.length := by omega
      rw [List.take_length] at hout'
      have HH := Lib.hid hout'
      clear hout'
      go_wp2
      go_end0
      exact ⟨rfl, HH.out, hbe⟩

set_option maxHeartbeats 1000000 in
theorem writes_none (w : World) (p : Option Addr) (A : Option Addr) (c : Nat) :
    Calls Try.prog 4 #[.pointer p, .slice A 0 c] w fun e w' => e = .returned (.tuple #[]) ∧ w = w' := by
  go_enter Try.func4, Try.ntmps4
  go_wp2
  refine wp_loop_rounds 1 ?_
  rw [rounds_succ]
  go_wp2
  go_end0
  exact ⟨rfl, rfl⟩

theorem writes_any {w : World} {B o : Nat} {bs : List UInt8} (A : Option Addr) (c : Nat) (l : List It) (hout : outAt w B o bs) (hB : B ≤ w.heap.size) (hok : ∀ a ∈ l, a.Ok)
    (hit : l = [] ∨ ∃ b off, A = some ⟨b, off, none⟩ ∧ b < B ∧ itemsAt w b off l) (hroom : bs.length + (10 * l.length + total l) ≤ 140737488355328) :
    Calls Try.prog 4 #[.pointer (some ⟨o, 0, none⟩), .slice A l.length c] w fun e w' => e = .returned (.tuple #[]) ∧ outAt w' B o (bs ++ encs l) ∧ Below B w w' := by
  rcases hit with rfl | ⟨b, off, rfl, hb, hit⟩
  · refine (writes_none w _ A c).mono ?_
    rintro e w' ⟨rfl, rfl⟩
    exact ⟨rfl, by simpa [encs] using hout, Below.refl _ _⟩
  · exact writes_some b off c l hout hB hb hok hit hroom
end Go.Proofs.Ytdcbamddioofnaa
