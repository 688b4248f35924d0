/-
  What the statements' helpers do: Great, writes, bytes.
-/
import Derived.Test.YtpecpcedcjdbhaaWakes
namespace Go.Proofs.Ytpecpcedcjdbhaa
open Go.RowKit Pk

/-- Items lie in block b, from off on. -/
def itemAt (w : World) (b o : Nat) (a : It) : Prop :=
  w.cell? ⟨b, o, none⟩ = some (.int .u8 a.d) ∧ w.cell? ⟨b, o + 1, none⟩ = some (.int .u64 a.n) ∧ w.cell? ⟨b, o + 2, none⟩ = some (.int .i64 a.i) ∧
  w.cell? ⟨b, o + 3, none⟩ = some (.string a.s) ∧ w.cell? ⟨b, o + 4, none⟩ = some (.int .u8 a.b) ∧ w.cell? ⟨b, o + 5, none⟩ = some (.int .i64 a.m)
def itemsAt (w : World) (b off : Nat) (l : List It) : Prop := ∀ k (hk : k < l.length), itemAt w b (off + k * 6) l[k]

theorem ret_bool {a b : Bool} (h : a = b) : Ending.returned (.bool a) = .returned (.bool b) := by rw [h]

theorem itemAt.below {w w' : World} {b o B : Nat} {a : It} (h : itemAt w b o a) (k : Below B w w') (hb : b < B) : itemAt w' b o a := by
  have e : ∀ x, w'.cell? ⟨b, x, none⟩ = w.cell? ⟨b, x, none⟩ := fun x => k.cell (p := ⟨b, x, none⟩) hb
  unfold itemAt
  simp only [e]
  exact h
theorem itemsAt.below {w w' : World} {b off B : Nat} {l : List It} (h : itemsAt w b off l) (k : Below B w w') (hb : b < B) : itemsAt w' b off l := fun j hj => (h j hj).below k hb

set_option maxHeartbeats 1000000 in
theorem great_some (w : World) (b off c : Nat) (l : List It) (hl : l.length ≤ 9223372036854775807) (hs : ∀ a ∈ l, a.s.size ≤ 9223372036854775807) (hit : itemsAt w b off l) :
    Calls Try.prog 24 #[.slice (some ⟨b, off, none⟩) l.length c] w fun e w' => e = .returned (.bool (great l)) ∧ w = w' := by
  by_cases hlen : 200 < l.length
  · have h1 : (200 : Int) < l.length := by omega
    rw [great_len hlen]
    go_enter Try.func24, Try.ntmps24
    go_wp2
    go_ret
    exact ⟨rfl, rfl⟩
  · have h1 : ¬ (200 : Int) < l.length := by omega
    have HIT := Lib.hid hit
    clear hit
    go_enter Try.func24, Try.ntmps24
    go_wp2
    go_loop [3, 4] (fun n i => ∃ k : Nat, k ≤ l.length ∧ i = .int .i64 k ∧ n = .int .i64 (total (l.take k)) ∧ total (l.take k) ≤ 30000 * k ∧ ∀ j (hj : j < k) (hl : j < l.length), l[j].s.size ≤ 30000) (fun _ i => l.length - (intOf i).toNat)
    case atStart => exact ⟨0, Nat.zero_le _, rfl, rfl, by simp [total], by intro j hj; omega⟩
    case round =>
      obtain ⟨k, hk, rfl, rfl, htot, hall⟩ := hrel
      have HA := Lib.hid hall
      clear hall
      by_cases hlt : k < l.length
      · have hkk := HIT.out k hlt
        obtain ⟨-, -, -, c3, -, -⟩ := hkk
        have hlt1 : (k : Int) < l.length := by omega
        have hsz := hs _ (List.getElem_mem hlt)
        clear hs
        by_cases hbig : 30000 < l[k].s.size
        · have hb1 : (30000 : Int) < l[k].s.size := by omega
          have hg := Lib.hid (great_one hlt hbig)
          go_wp2
          go_ret
          rw [hg.out]
          exact ⟨rfl, rfl⟩
        · have hb1 : ¬ (30000 : Int) < l[k].s.size := by omega
          have ht := Lib.hid (total_take hlt)
          go_wp2
          go_round
          case rel =>
            refine ⟨k + 1, by omega, by go_num, by rw [ht.out]; go_num, by rw [ht.out]; omega, ?_⟩
            intro j hj hjl
            by_cases hjk : j = k
            · subst hjk; omega
            · exact HA.out j (by omega) hjl
          case measure => simp [intOf]; omega
      · obtain rfl : k = l.length := by omega
        have e : l.take l.length = l := List.take_length
        by_cases hbig : 30000 < total l
        · have hb1 : (30000 : Int) < total (l.take l.length) := by rw [e]; omega
          have hg := Lib.hid (great_sum hbig)
          clear e
          go_wp2
          go_ret
          rw [hg.out]
          exact ⟨ret_bool (by simp; omega), rfl⟩
        · have hb1 : ¬ (30000 : Int) < total (l.take l.length) := by rw [e]; omega
          have hg := Lib.hid (great_false (by omega) (fun j hj => HA.out j hj hj) (by omega))
          clear e
          go_wp2
          go_ret
          rw [hg.out]
          exact ⟨ret_bool (by simp; omega), rfl⟩

set_option maxHeartbeats 1000000 in
theorem great_none (w : World) (A : Option Addr) (c : Nat) :
    Calls Try.prog 24 #[.slice A 0 c] w fun e w' => e = .returned (.bool false) ∧ w = w' := by
  go_enter Try.func24, Try.ntmps24
  go_wp2
  refine wp_loop_rounds 1 ?_
  rw [rounds_succ]
  go_wp2
  go_ret
  exact ⟨rfl, rfl⟩

/-- Items lie where a slice says. -/
def listAt (w : World) (A : Option Addr) (l : List It) : Prop := l = [] ∨ ∃ b off, A = some ⟨b, off, none⟩ ∧ b < w.heap.size ∧ itemsAt w b off l

theorem great_any (w : World) (A : Option Addr) (c : Nat) (l : List It) (hl : l.length ≤ 9223372036854775807) (hs : ∀ a ∈ l, a.s.size ≤ 9223372036854775807) (hit : listAt w A l) :
    Calls Try.prog 24 #[.slice A l.length c] w fun e w' => e = .returned (.bool (great l)) ∧ w = w' := by
  rcases hit with rfl | ⟨b, off, rfl, _, hit⟩
  · exact great_none w A c
  · exact great_some w b off c l hl hs hit

set_option maxHeartbeats 4000000 in
theorem writes_some {w : World} {B o : Nat} {bs : List UInt8} (b off c : Nat) (l : List It) (hout : outAt w B o bs) (hB : B ≤ w.heap.size) (hb : b < B) (hok : ∀ a ∈ l, a.Ok) (hit : itemsAt w b off l)
    (hroom : bs.length + (10 * l.length + total l) ≤ 140737488355328) :
    Calls Try.prog 11 #[.pointer (some ⟨o, 0, none⟩), .slice (some ⟨b, off, none⟩) l.length c] w fun e w' => e = .returned (.tuple #[]) ∧ outAt w' B o (bs ++ encs l) ∧ Below B w w' := by
  have HIT := Lib.hid hit
  have HOK := Lib.hid hok
  clear hit hok
  go_enter Try.func11, Try.ntmps11
  go_wp2
  go_loopw [4] (fun i wr => ∃ k : Nat, k ≤ l.length ∧ i = .int .i64 k ∧ outAt wr B o (bs ++ encs (l.take k)) ∧ Below B w wr ∧ B ≤ wr.heap.size) (fun i _ => l.length - (intOf i).toNat)
  case atStart => exact ⟨0, Nat.zero_le _, rfl, by simpa [encs] using hout, Below.refl _ _, hB⟩
  case round =>
    obtain ⟨k, hk, rfl, hout', hbe, hB'⟩ := hrel
    by_cases hlt : k < l.length
    · have hkk := (HIT.out k hlt).below hbe hb
      have hoka := HOK.out _ (List.getElem_mem hlt)
      have hlt1 : (k : Int) < l.length := by omega
      have hen := encs_take hlt
      have hlen : (bs ++ encs (l.take k)).length + 10 + l[k].s.size ≤ 140737488355328 := by
        have h1 := encs_len (l := l.take k) (fun a ha => HOK.out a (List.mem_of_mem_take ha))
        have h2 := total_take hlt
        have h3 := total_take_le l (k + 1)
        rw [List.length_append]
        rw [List.length_take, Nat.min_eq_left hk] at h1
        omega
      generalize l[k] = a at *
      have HEN := Lib.hid hen
      clear hen
      obtain ⟨c0, c1, c2, c3, c4, c5⟩ := hkk
      obtain ⟨ho1, ho2, ho3, ho4, ho5, ho6⟩ := hoka
      have HH := Lib.hid hout'
      unfold encI at HEN
      by_cases d0 : a.d = 0
      · rw [d0] at c0
        rw [if_pos d0] at HEN
        clear d0
        go_wp2_with fail
        refine (oNum_any a.n ho2 hout' hB' (by omega)).mono ?_
        rintro e w1 ⟨rfl, h1, h2⟩
        go_wp2
        go_roundw
        case rel => exact ⟨k + 1, by omega, by go_num, by rw [HEN.out, ← List.append_assoc]; exact h1, hbe.trans h2, Nat.le_trans hB' h2.size⟩
        case measure => simp [intOf]; omega
      · have e0 : ((a.d : Int) == 0) = false := by rw [beq_eq_false_iff_ne]; omega
        rw [if_neg d0] at HEN
        by_cases d1 : a.d = 1
        · rw [d1] at c0
          rw [if_pos d1] at HEN
          clear d0 d1 e0
          go_wp2_with fail
          refine (oInt_any a.i ho3 hout' hB' (by omega)).mono ?_
          rintro e w1 ⟨rfl, h1, h2⟩
          go_wp2
          go_roundw
          case rel => exact ⟨k + 1, by omega, by go_num, by rw [HEN.out, ← List.append_assoc]; exact h1, hbe.trans h2, Nat.le_trans hB' h2.size⟩
          case measure => simp [intOf]; omega
        · have e1 : ((a.d : Int) == 1) = false := by rw [beq_eq_false_iff_ne]; omega
          rw [if_neg d1] at HEN
          by_cases d2 : a.d = 2
          · rw [d2] at c0
            rw [if_pos d2] at HEN
            clear d0 d1 e0 e1 d2
            go_wp2_with fail
            refine (oText_any a.s hout' hB' (by omega)).mono ?_
            rintro e w1 ⟨rfl, h1, h2⟩
            go_wp2
            go_roundw
            case rel => exact ⟨k + 1, by omega, by go_num, by rw [HEN.out, ← List.append_assoc]; exact h1, hbe.trans h2, Nat.le_trans hB' h2.size⟩
            case measure => simp [intOf]; omega
          · have e2 : ((a.d : Int) == 2) = false := by rw [beq_eq_false_iff_ne]; omega
            rw [if_neg d2] at HEN
            by_cases d3 : a.d = 3
            · rw [d3] at c0
              rw [if_pos d3] at HEN
              clear d0 d1 e0 e1 d2 e2 d3
              go_wp2_with fail
              refine (oByte_any _ (UInt8.ofNat a.b) (by rw [ofNat_toNat ho5]) hout' hB' (by omega)).mono ?_
              rintro e w1 ⟨rfl, h1, h2⟩
              go_wp2
              go_roundw
              case rel => exact ⟨k + 1, by omega, by go_num, by rw [HEN.out, ← List.append_assoc]; exact h1, hbe.trans h2, Nat.le_trans hB' h2.size⟩
              case measure => simp [intOf]; omega
            · have e3 : ((a.d : Int) == 3) = false := by rw [beq_eq_false_iff_ne]; omega
              rw [if_neg d3] at HEN
              clear d0 d1 d2 d3
              go_wp2
              go_roundw
              case rel => exact ⟨k + 1, by omega, by go_num, by rw [HEN.out, List.append_nil]; exact HH.out, hbe, hB'⟩
              case measure => simp [intOf]; omega
    · obtain rfl : k = l.length := by omega
      rw [List.take_length] at hout'
      have HH := Lib.hid hout'
      clear hout'
      go_wp2
      go_end0
      exact ⟨rfl, HH.out, hbe⟩

set_option maxHeartbeats 1000000 in
theorem writes_none (w : World) (p : Option Addr) (A : Option Addr) (c : Nat) :
    Calls Try.prog 11 #[.pointer p, .slice A 0 c] w fun e w' => e = .returned (.tuple #[]) ∧ w = w' := by
  go_enter Try.func11, Try.ntmps11
  go_wp2
  refine wp_loop_rounds 1 ?_
  rw [rounds_succ]
  go_wp2
  go_end0
  exact ⟨rfl, rfl⟩

theorem writes_any {w : World} {B o : Nat} {bs : List UInt8} (A : Option Addr) (c : Nat) (l : List It) (hout : outAt w B o bs) (hB : B ≤ w.heap.size) (hok : ∀ a ∈ l, a.Ok)
    (hit : l = [] ∨ ∃ b off, A = some ⟨b, off, none⟩ ∧ b < B ∧ itemsAt w b off l) (hroom : bs.length + (10 * l.length + total l) ≤ 140737488355328) :
    Calls Try.prog 11 #[.pointer (some ⟨o, 0, none⟩), .slice A l.length c] w fun e w' => e = .returned (.tuple #[]) ∧ outAt w' B o (bs ++ encs l) ∧ Below B w w' := by
  rcases hit with rfl | ⟨b, off, rfl, hb, hit⟩
  · refine (writes_none w _ A c).mono ?_
    rintro e w' ⟨rfl, rfl⟩
    exact ⟨rfl, by simpa [encs] using hout, Below.refl _ _⟩
  · exact writes_some b off c l hout hB hb hok hit hroom

set_option maxHeartbeats 1000000 in
theorem bytes_any {w : World} (A : Option Addr) (c : Nat) (l : List It) (hok : ∀ a ∈ l, a.Ok) (hit : listAt w A l) (hroom : 10 * l.length + total l ≤ 140737488355328) :
    Calls Try.prog 30 #[.slice A l.length c] w fun e w' => e = .returned (.string ⟨(encs l).toArray⟩) ∧ Below w.heap.size w w' := by
  have hb0 : Below w.heap.size w (w.alloc (.cells #[.pointer none, .int .i64 0] 29)) := (Below.refl _ w).alloc (Nat.le_refl _) _
  have ho0 : outAt (w.alloc (.cells #[.pointer none, .int .i64 0] 29)) w.heap.size w.heap.size [] := ⟨Nat.le_refl _, .inl ⟨heap_alloc_new w _, rfl⟩⟩
  have hit' : l = [] ∨ ∃ b off, A = some ⟨b, off, none⟩ ∧ b < w.heap.size ∧ itemsAt (w.alloc (.cells #[.pointer none, .int .i64 0] 29)) b off l := by
    rcases hit with h | ⟨b, off, h, hb, hi⟩
    · exact .inl h
    · exact .inr ⟨b, off, h, hb, hi.below hb0 hb⟩
  have hlim := encs_len hok
  have HW := Lib.hid (writes_any A c l ho0 hb0.size hok hit' (by simpa using hroom))
  clear hit hit'
  go_enter Try.func30, Try.ntmps30
  go_wp2_with fail
  refine (HW.out).mono ?_
  rintro e w1 ⟨rfl, ho1, hb1⟩
  rw [List.nil_append] at ho1
  go_wp2_with fail
  refine (oString_any ho1 (by omega)).mono ?_
  rintro e w2 ⟨rfl, n, rfl⟩
  go_wp2
  go_ret
  exact ⟨rfl, below_drewN (hb0.trans hb1) n⟩
end Go.Proofs.Ytpecpcedcjdbhaa
