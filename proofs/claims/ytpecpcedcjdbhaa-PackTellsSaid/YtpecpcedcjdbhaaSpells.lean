/-
  PackSpells answers true for every list of items, and turns nothing of what was there.
-/
import Derived.Test.YtpecpcedcjdbhaaRef
namespace Go.Proofs.Ytpecpcedcjdbhaa
open Go.RowKit Pk

set_option maxHeartbeats 4000000 in
theorem writes_nil {w : World} (b off c : Nat) (l : List It) (hb : b < w.heap.size) (hok : ∀ a ∈ l, a.Ok) (hit : itemsAt w b off l) (hl : l.length ≤ 9223372036854775807) :
    Calls Try.prog 11 #[.pointer none, .slice (some ⟨b, off, none⟩) l.length c] w fun e w' => e = .returned (.tuple #[]) ∧ Below w.heap.size w w' := by
  have HIT := Lib.hid hit
  have HOK := Lib.hid hok
  clear hit hok
  go_enter Try.func11, Try.ntmps11
  go_wp2
  go_loopw [4] (fun i wr => ∃ k : Nat, k ≤ l.length ∧ i = .int .i64 k ∧ Below w.heap.size w wr) (fun i _ => l.length - (intOf i).toNat)
  case atStart => exact ⟨0, Nat.zero_le _, rfl, Below.refl _ _⟩
  case round =>
    obtain ⟨k, hk, rfl, hbe⟩ := hrel
    by_cases hlt : k < l.length
    · have hkk := (HIT.out k hlt).below hbe hb
      have hoka := HOK.out _ (List.getElem_mem hlt)
      have hlt1 : (k : Int) < l.length := by omega
      generalize l[k] = a at *
      obtain ⟨c0, c1, c2, c3, c4, c5⟩ := hkk
      obtain ⟨ho1, ho2, ho3, ho4, ho5, ho6⟩ := hoka
      by_cases d0 : a.d = 0
      · rw [d0] at c0
        clear d0
        go_wp2_with fail
        refine (oNum_nil a.n _).mono ?_
        rintro e w1 ⟨rfl, h1⟩
        go_wp2
        go_roundw
        case rel => exact ⟨k + 1, by omega, by go_num, hbe.trans (h1.mono hbe.size)⟩
        case measure => simp [intOf]; omega
      · have e0 : ((a.d : Int) == 0) = false := by rw [beq_eq_false_iff_ne]; omega
        by_cases d1 : a.d = 1
        · rw [d1] at c0
          clear d0 d1 e0
          go_wp2_with fail
          refine (oInt_nil a.i ho3 _).mono ?_
          rintro e w1 ⟨rfl, h1⟩
          go_wp2
          go_roundw
          case rel => exact ⟨k + 1, by omega, by go_num, hbe.trans (h1.mono hbe.size)⟩
          case measure => simp [intOf]; omega
        · have e1 : ((a.d : Int) == 1) = false := by rw [beq_eq_false_iff_ne]; omega
          by_cases d2 : a.d = 2
          · rw [d2] at c0
            clear d0 d1 e0 e1 d2
            go_wp2_with fail
            refine (oText_nil a.s (by omega) _).mono ?_
            rintro e w1 ⟨rfl, h1⟩
            go_wp2
            go_roundw
            case rel => exact ⟨k + 1, by omega, by go_num, hbe.trans (h1.mono hbe.size)⟩
            case measure => simp [intOf]; omega
          · have e2 : ((a.d : Int) == 2) = false := by rw [beq_eq_false_iff_ne]; omega
            by_cases d3 : a.d = 3
            · rw [d3] at c0
              clear d0 d1 e0 e1 d2 e2 d3
              go_wp2_with fail
              refine (oByte_nil _ _).mono ?_
              rintro e w1 ⟨rfl, h1⟩
              go_wp2
              go_roundw
              case rel => exact ⟨k + 1, by omega, by go_num, hbe.trans (h1.mono hbe.size)⟩
              case measure => simp [intOf]; omega
            · have e3 : ((a.d : Int) == 3) = false := by rw [beq_eq_false_iff_ne]; omega
              clear d0 d1 d2 d3
              go_wp2
              go_roundw
              case rel => exact ⟨k + 1, by omega, by go_num, hbe⟩
              case measure => simp [intOf]; omega
    · obtain rfl : k = l.length := by omega
      go_wp2
      go_end0
      exact ⟨rfl, hbe⟩

theorem itemAt.single {w : World} {b o : Nat} {a : It} (h : itemAt w b o a) : itemsAt w b o [a] := by
  intro j hj
  have hj0 : j = 0 := by simpa using hj
  subst hj0
  simpa using h

theorem spells_great (w : World) (A : Option Addr) (c : Nat) (l : List It) (hl : l.length ≤ 9223372036854775807) (hs : ∀ a ∈ l, a.s.size ≤ 9223372036854775807) (hit : listAt w A l) (hg : great l = true) :
    Calls Try.prog 4 #[.slice A l.length c] w fun e w' => e = .returned (.bool true) ∧ Below w.heap.size w w' := by
  have H := great_any w A c l hl hs hit
  rw [hg] at H
  have HG := Lib.hid H
  clear H hg
  go_enter Try.func4, Try.ntmps4
  go_wp2_with fail
  refine (HG.out).mono ?_
  rintro e w1 ⟨rfl, rfl⟩
  go_wp2_with fail
  refine (wakes_any _).mono ?_
  rintro e w2 ⟨rfl, hb⟩
  go_wp2
  go_ret
  exact ⟨rfl, hb⟩

set_option maxHeartbeats 4000000 in
theorem spells_some (w : World) (b off c : Nat) (l : List It) (hc : l.length ≤ c) (hb : b < w.heap.size) (hok : ∀ a ∈ l, a.Ok) (hit : itemsAt w b off l) (hg : great l = false) :
    Calls Try.prog 4 #[.slice (some ⟨b, off, none⟩) l.length c] w fun e w' => e = .returned (.bool true) ∧ Below w.heap.size w w' := by
  obtain ⟨hl1, hl2⟩ := not_great hg
  have H := great_any w (some ⟨b, off, none⟩) c l (by omega) (fun a ha => by have := (hok a ha).s; omega) (.inr ⟨b, off, rfl, hb, hit⟩)
  rw [hg] at H
  have HG := Lib.hid H
  have HIT := Lib.hid hit
  have HOK := Lib.hid hok
  clear H hg hit hok
  have hb0 : Below w.heap.size w (w.alloc (.cells #[.pointer none, .int .i64 0] 29)) := (Below.refl _ w).alloc (Nat.le_refl _) _
  have ho0 : outAt (w.alloc (.cells #[.pointer none, .int .i64 0] 29)) w.heap.size w.heap.size [] := ⟨Nat.le_refl _, .inl ⟨heap_alloc_new w _, rfl⟩⟩
  go_enter Try.func4, Try.ntmps4
  go_wp2_with fail
  refine (HG.out).mono ?_
  rintro e w1 ⟨rfl, rfl⟩
  go_wp2_with fail
  go_loopw [5, 6] (fun s i wr => ∃ k : Nat, k ≤ l.length ∧ i = .int .i64 k ∧ s = .string ⟨(encs (l.take k)).toArray⟩ ∧ outAt wr w.heap.size w.heap.size (encs (l.take k)) ∧ Below w.heap.size w wr) (fun _ i _ => l.length - (intOf i).toNat)
  case atStart => exact ⟨0, Nat.zero_le _, rfl, rfl, ho0, hb0⟩
  case round =>
    obtain ⟨k, hk, rfl, rfl, hout, hbe⟩ := hrel
    have HOUT := Lib.hid hout
    clear hout ho0 hb0
    by_cases hlt : k < l.length
    · have hlt1 : (k : Int) < l.length := by omega
      have s0 : (0 : Int) ≤ k := by omega
      have s1 : (k : Int) ≤ k + 1 := by omega
      have s2 : (k : Int) + 1 ≤ c := by omega
      have hkk0 := (HIT.out k hlt).below hbe hb
      have hoka := HOK.out _ (List.getElem_mem hlt)
      have hen := encs_take hlt
      have hlen := encs_len (l := l.take (k + 1)) (fun a ha => HOK.out a (List.mem_of_mem_take ha))
      have htt := total_take hlt
      have htl := total_take_le l (k + 1)
      have hlen0 := encs_len (l := l.take k) (fun a ha => HOK.out a (List.mem_of_mem_take ha))
      have htl0 := total_take_le l k
      rw [List.length_take, Nat.min_eq_left hk] at hlen0
      rw [List.length_take, Nat.min_eq_left (by omega)] at hlen
      generalize l[k] = a at *
      have hen2 : (encs (l.take k) ++ encI a).length ≤ 40000 := by rw [← hen]; omega
      have has : a.s.size ≤ 30000 := by omega
      have HEN := Lib.hid hen
      have HLEN := Lib.hid hen2
      have HK0 := Lib.hid hkk0
      clear hen htt hlen hen2 hkk0
      generalize encs (l.take k) = bs at *
      go_wp2_with fail
      refine (writes_some b (off + k * 6) (c - k) [a] HOUT.out hbe.size hb (by simpa using hoka) HK0.out.single (by have := hoka.s; simp [total]; omega)).mono ?_
      rintro e w2 ⟨rfl, ho2, hb2⟩
      have HO2 := Lib.hid ho2
      go_wp2_with fail
      refine (writes_nil b (off + k * 6) (c - k) [a] (Nat.lt_of_lt_of_le hb (Nat.le_trans hbe.size hb2.size)) (by simpa using hoka) ((HK0.out.below hb2 hb).single) (by simp)).mono ?_
      rintro e w3 ⟨rfl, hb3⟩
      have hbx := chainO (hbe.trans hb2) (Nat.le_refl _) hb3
      have hkk := (HK0.out.below hb2 hb).below hb3 (Nat.lt_of_lt_of_le hb (Nat.le_trans hbe.size hb2.size))
      have ho3 : outAt w3 w.heap.size w.heap.size (bs ++ encI a) := by
        have := HO2.out.kept hb3
        rw [show encs [a] = encI a from by simp [encs]] at this
        exact this
      have hb4 := HLEN.out
      obtain ⟨c0, c1, c2, c3, c4, c5⟩ := hkk
      obtain ⟨p1, p2, p3, p4, p5, p6⟩ := hoka
      unfold encI at ho3 HEN hb4
      clear HLEN
      by_cases d0 : a.d = 0
      · rw [d0] at c0
        rw [if_pos d0] at ho3 HEN hb4
        clear d0
        have hcat : ¬ 9223372036854775807 < bs.length + (enc a.n).length := by rw [List.length_append] at hb4; omega
        have hcat2 := ba_cat bs (enc a.n)
        have hb5 : (bs ++ enc a.n).length ≤ 140737488355328 := by omega
        go_wp2_with fail
        refine (rNum_any a.n p2 _).mono ?_
        rintro e w4 ⟨rfl, hb4'⟩
        have ho4 := ho3.kept hb4'
        have hby := chainO hbx (Nat.le_refl _) hb4'
        clear ho3 hbx
        go_wp2_with fail
        refine (oString_any ho4 hb5).mono ?_
        rintro e w5 ⟨rfl, n5, rfl⟩
        go_wp2
        go_roundw
        case rel => exact ⟨k + 1, by omega, by go_num, by rw [HEN.out], by rw [HEN.out]; exact ho4, below_drewN hby n5⟩
        case measure => simp [intOf]; omega
      · have e0 : ((a.d : Int) == 0) = false := by rw [beq_eq_false_iff_ne]; omega
        rw [if_neg d0] at ho3 HEN hb4
        by_cases d1 : a.d = 1
        · rw [d1] at c0
          rw [if_pos d1] at ho3 HEN hb4
          clear d0 d1 e0
          have hcat : ¬ 9223372036854775807 < bs.length + (enc (zig a.i)).length := by rw [List.length_append] at hb4; omega
          have hcat2 := ba_cat bs (enc (zig a.i))
          have hb5 : (bs ++ enc (zig a.i)).length ≤ 140737488355328 := by omega
          go_wp2_with fail
          refine (zig_any a.i p3 _).mono ?_
          rintro e w4 ⟨rfl, rfl⟩
          go_wp2_with fail
          refine (rNum_any (zig a.i) (zig_lt p3) _).mono ?_
          rintro e w4 ⟨rfl, hb4'⟩
          have ho4 := ho3.kept hb4'
          have hby := chainO hbx (Nat.le_refl _) hb4'
          clear ho3 hbx
          go_wp2_with fail
          refine (oString_any ho4 hb5).mono ?_
          rintro e w5 ⟨rfl, n5, rfl⟩
          go_wp2
          go_roundw
          case rel => exact ⟨k + 1, by omega, by go_num, by rw [HEN.out], by rw [HEN.out]; exact ho4, below_drewN hby n5⟩
          case measure => simp [intOf]; omega
        · have e1 : ((a.d : Int) == 1) = false := by rw [beq_eq_false_iff_ne]; omega
          rw [if_neg d1] at ho3 HEN hb4
          by_cases d2 : a.d = 2
          · rw [d2] at c0
            rw [if_pos d2] at ho3 HEN hb4
            clear d0 d1 e0 e1 d2
            have hcat : ¬ 9223372036854775807 < bs.length + ((enc a.s.size).length + a.s.size) := by rw [List.length_append, List.length_append] at hb4; simp at hb4; omega
            have hcat2 := ba_cat bs (enc a.s.size ++ a.s.data.toList)
            have hb5 : (bs ++ (enc a.s.size ++ a.s.data.toList)).length ≤ 140737488355328 := by omega
            go_wp2_with fail
            refine (rText_any a.s p4 _).mono ?_
            rintro e w4 ⟨rfl, hb4'⟩
            have ho4 := ho3.kept hb4'
            have hby := chainO hbx (Nat.le_refl _) hb4'
            clear ho3 hbx
            go_wp2_with fail
            refine (oString_any ho4 hb5).mono ?_
            rintro e w5 ⟨rfl, n5, rfl⟩
            go_wp2
            go_roundw
            case rel => exact ⟨k + 1, by omega, by go_num, by rw [HEN.out], by rw [HEN.out]; exact ho4, below_drewN hby n5⟩
            case measure => simp [intOf]; omega
          · have e2 : ((a.d : Int) == 2) = false := by rw [beq_eq_false_iff_ne]; omega
            rw [if_neg d2] at ho3 HEN hb4
            by_cases d3 : a.d = 3
            · rw [d3] at c0
              rw [if_pos d3] at ho3 HEN hb4
              clear d0 d1 e0 e1 d2 e2 d3
              obtain ⟨x, hx⟩ : ∃ x, x = UInt8.ofNat a.b := ⟨_, rfl⟩
              rw [← hx] at ho3 HEN hb4
              have HX := Lib.hid hx
              clear hx
              have hcat : ¬ 9223372036854775807 < bs.length + 1 := by rw [List.length_append] at hb4; omega
              have hcat2 := ba_cat bs ([x])
              have hb5 : (bs ++ [x]).length ≤ 140737488355328 := by omega
              have hcv := conv_one w3 x (a.b : Int) (by rw [HX.out, ofNat_toNat p5])
              go_wp2_with fail
              have hb4' : Below w3.heap.size w3 (w3.alloc (.cells #[.int .u8 (a.b : Int)] 5)) := (Below.refl _ w3).alloc (Nat.le_refl _) _
              have ho4 := ho3.kept hb4'
              have hby := chainO hbx (Nat.le_refl _) hb4'
              clear ho3 hbx
              refine (oString_any ho4 hb5).mono ?_
              rintro e w5 ⟨rfl, n5, rfl⟩
              go_wp2
              go_roundw
              case rel => exact ⟨k + 1, by omega, by go_num, by rw [HEN.out], by rw [HEN.out]; exact ho4, below_drewN hby n5⟩
              case measure => simp [intOf]; omega
            · have e3 : ((a.d : Int) == 3) = false := by rw [beq_eq_false_iff_ne]; omega
              rw [if_neg d3] at ho3 HEN hb4
              clear d0 d1 d2 d3
              rw [List.append_nil] at ho3 hb4
              have hen3 := HEN.out
              rw [List.append_nil] at hen3
              have HEN := Lib.hid hen3
              clear hen3
              have hb5 : bs.length ≤ 140737488355328 := by omega
              go_wp2_with fail
              refine (oString_any ho3 hb5).mono ?_
              rintro e w5 ⟨rfl, n5, rfl⟩
              go_wp2
              go_roundw
              case rel => exact ⟨k + 1, by omega, by go_num, by rw [HEN.out], by rw [HEN.out]; exact ho3, below_drewN hbx n5⟩
              case measure => simp [intOf]; omega
    · obtain rfl : k = l.length := by omega
      have hon := Lib.hid (oString_nil wr)
      go_wp2_with fail
      refine (hon.out).mono ?_
      rintro e w5 ⟨rfl, rfl⟩
      go_wp2_with fail
      refine (wakes_any _).mono ?_
      rintro e w6 ⟨rfl, hb6⟩
      go_wp2
      go_ret
      exact ⟨rfl, chainO hbe (Nat.le_refl _) hb6⟩
end Go.Proofs.Ytpecpcedcjdbhaa
