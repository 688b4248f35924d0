/-
  The document's own batch: its reader's calls, said of the plain reader.
-/
import Derived.Test.YthhmnbpabncdnaaDoorR12Right
import Derived.Test.YthhmnbpabncdnaaDoorMPackB
namespace Go.Proofs.YthhmnbpabncdnaaDoor
open Go.RowKit Pk
namespace R12
/-- What a reader has not read, as a text. -/
def left (r : Rd) : ByteArray := r.s.extract r.pos r.s.size
theorem left_rest (r : Rd) : (left r).data.toList = r.rest := extract_rest r
theorem left_size (r : Rd) : (left r).size = r.rest.length := by rw [← left_rest, Ba.ba_size]
theorem left_cut (r : Rd) (k f : Nat) : left ⟨r.s, r.pos + k, f⟩ = (left r).extract k (left r).size := by
  apply ByteArray.ext
  apply Array.ext'
  have e : (left ⟨r.s, r.pos + k, f⟩).data.toList = r.rest.drop k := by rw [left_rest]; exact Rm.rest_go r k f
  rw [e]
  have e2 : ((left r).extract k (left r).size).data.toList = ((left r).data.toList.drop k).take ((left r).size - k) := by simp
  rw [e2, left_rest, List.take_of_length_le (by rw [List.length_drop, left_size]; exact Nat.le_refl _)]
/-- The document's reader lies in block b. -/
def inAt (w : World) (b : Nat) (r : Rd) : Prop := w.heap[b]? = some (.cells #[.string (left r), .int .i64 (r.f : Int)] 65 (0, 0))
structure Stp (w w' : World) (b : Nat) (r : Rd) : Prop where
  grown : w.grownBy w' (some b)
  inAt : R12.inAt w' b r
theorem Stp.refl {w : World} {b : Nat} {r : Rd} (h : R12.inAt w b r) : Stp w w b r := ⟨grown_refl _ _, h⟩
theorem Stp.set {w : World} {b : Nat} {r r' : Rd} (h : R12.inAt w b r) (i : Nat) (v : Value) (hx : (#[.string (left r), .int .i64 (r.f : Int)] : Array Value).setIfInBounds i v = #[.string (left r'), .int .i64 (r'.f : Int)]) : Stp w (w.setCell ⟨b, i, none⟩ v) b r' :=
  ⟨grown_set (grown_refl _ _) _ _, by
    have e := Sm.heap_set h i v
    rw [hx] at e
    exact e⟩
theorem Stp.fail {w : World} {b : Nat} {r : Rd} (h : R12.inAt w b r) (hf : r.f = 0) (k e : Nat) (he : e ≠ 0) : Stp w (w.setCell ⟨b, 1, none⟩ (.int .i64 (e : Int))) b (r.go k e) := by
  have e1 : r.go k e = ⟨r.s, r.pos, e⟩ := by unfold Rd.go; rw [if_pos hf, if_neg he]
  rw [e1]
  exact Stp.set h 1 _ rfl
theorem Stp.pass {w : World} {b : Nat} {r : Rd} (h : R12.inAt w b r) (hf : r.f = 0) (k : Nat) : Stp w (w.setCell ⟨b, 0, none⟩ (.string ((left r).extract k (left r).size))) b (r.go k 0) := by
  rw [go_ok hf, ← left_cut r k r.f]
  exact Stp.set h 0 _ rfl
theorem digit12 (c X k : Nat) (hX64 : X < 2 ^ 64) (hX : X < 2 ^ (7 * k)) (h : c % 128 * 2 ^ (7 * k) < 2 ^ 64) :
    bits .or .u64 (X : Int) (IntKind.u64.wrap ((c : Int) % 128 * 2 ^ (7 * k))) = ((X + c % 128 * 2 ^ (7 * k) : Nat) : Int) := by
  rw [IntKind.wrap_u64]
  have e2 : (c : Int) % 128 * 2 ^ (7 * k) % 18446744073709551616 = ((c % 128 * 2 ^ (7 * k) % 2 ^ 64 : Nat) : Int) := by
    simp [Int.natCast_mul, Int.natCast_pow]
  rw [e2, bits_or_u64_nat X _ (by omega) (by omega), Pk.sum_of X _ k hX h]
theorem or_room {c X k : Nat} (hX : X < 2 ^ (7 * k)) (h : c % 128 * 2 ^ (7 * k) < 2 ^ 64) (hk : k ≤ 9) (h9 : k = 9 → c ≤ 1) : X + c % 128 * 2 ^ (7 * k) < 2 ^ 64 := by
  by_cases h8 : k ≤ 8
  · have h1 := Pk.pow_le (k := 8) (m := k) h8
    have h2 : c % 128 * 2 ^ (7 * k) ≤ 127 * 2 ^ (7 * k) := Nat.mul_le_mul_right _ (by omega)
    omega
  · obtain rfl : k = 9 := by omega
    have hc := h9 rfl
    have : c % 128 * 2 ^ (7 * 9) ≤ 1 * 2 ^ (7 * 9) := Nat.mul_le_mul_right _ (by omega)
    omega
theorem zero_or {c k : Nat} (h : ¬ (c = 0 ∧ 0 < k)) : ((c : Int) == 0) = false ∨ (((c : Int) == 0) = true ∧ ¬ (0 : Int) < (k : Int)) := by
  by_cases h0 : c = 0
  · right; exact ⟨by rw [h0]; rfl, by omega⟩
  · left; rw [beq_eq_false_iff_ne]; omega
theorem head_of {S : ByteArray} {l : List UInt8} (h : S.data.toList = l) (h0 : 0 < S.size) : S[0] = l.headD 0 := by
  have e := Pk.drop_at (s := S) (k := 0) h0
  rw [List.drop_zero, h] at e
  rw [e]
  rfl
theorem cut_form (S : ByteArray) (k : Nat) : S.extract k S.size = ⟨(S.data.toList.drop k).toArray⟩ := by
  apply ByteArray.ext
  apply Array.ext'
  have e2 : (S.extract k S.size).data.toList = (S.data.toList.drop k).take (S.size - k) := by simp
  rw [e2, List.take_of_length_le (by rw [List.length_drop, Ba.ba_size]; exact Nat.le_refl _)]
end R12
set_option maxRecDepth 100000 in
set_option maxHeartbeats 4000000 in
theorem r12InNum_any {w : World} {b : Nat} {r : Rd} (hin : R12.inAt w b r) (hr : r.Ok) (m : Nat) (hm : m < 2 ^ 64) (hf0 : r.f = 0) :
    Calls Tryd.prog 39 #[.pointer (some ⟨b, 0, none⟩), .int .u64 (m : Int)] w fun e w' => e = .returned (.int .u64 (r.most m).1) ∧ R12.Stp w w' b (r.most m).2 := by
  have c0 := Sm.cells_of hin 0 _ rfl
  have c1 := Sm.cells_of hin 1 _ rfl
  have f0 := Sm.free_of hin 0
  have f1 := Sm.free_of hin 1
  have HIN := Lib.hid hin
  have hsz := R12.left_size r
  have hrl := r.rest_length
  have hlim := hr.lim
  have hpos := hr.pos
  by_cases hf : r.f = 0
  · have HPA := Lib.hid (fun k => R12.Stp.pass hin hf k)
    have HFA := Lib.hid (fun k e he => R12.Stp.fail hin hf k e he)
    have HM1 : Hid ((r.most m).1 = if (cnt r.rest m).2.2 = 0 then (cnt r.rest m).1 else 0) := by
      show _ = _
      unfold Rd.most
      by_cases h : (cnt r.rest m).2.2 = 0
      · rw [if_pos h]; simp only [h, pass_true hf rfl, if_true]
      · simp only [pass_false (.inr h), if_neg h]; rfl
    have HM2 : Hid ((r.most m).2 = r.go (cnt r.rest m).2.1 (cnt r.rest m).2.2) := rfl
    obtain ⟨S, hS⟩ : ∃ S, S = R12.left r := ⟨_, rfl⟩
    have hSl : S.data.toList = r.rest := by rw [hS]; exact R12.left_rest r
    rw [← hS] at c0 HPA hsz
    have hSs : S.size ≤ 281474976710656 := by omega
    rw [← hSl] at HM1 HM2
    rw [hf] at c1
    have HFR : Hid (r.f = 0) := hf
    clear hin hS hf hsz hrl hlim hpos hSl hr
    go_enter Tryd.func39, Tryd.ntmps39
    go_upto_region 5 with (fail)
    go_loopw [5, 6] (fun n i wr => ∃ k X : Nat, k ≤ S.size ∧ k ≤ 9 ∧ X < 2 ^ (7 * k) ∧ i = .int .i64 k ∧ n = .int .u64 X ∧ Hid (Pk.dec 0 0 S.data.toList = Pk.dec X k (S.data.toList.drop k)) ∧ w = wr) (fun _ i _ => 10 - (intOf i).toNat)
    case atStart => exact ⟨0, 0, by omega, by omega, by decide, rfl, rfl, rfl, rfl⟩
    case round =>
      obtain ⟨k, X, hk, hk9, hX, rfl, rfl, hd, rfl⟩ := hrel
      have hk10 : (k : Int) < 10 := by omega
      by_cases hlt : k < S.size
      · have hne : ((k : Int) == (S.size : Int)) = false := by rw [beq_eq_false_iff_ne]; omega
        have hb := S[k].toNat_lt
        obtain ⟨c, hc⟩ : ∃ c, S[k].toNat = c := ⟨_, rfl⟩
        rw [hc] at hb
        by_cases hnine : k = 9 ∧ 1 < c
        · have hg : ((k : Int) == 9) = true := by rw [hnine.1]; rfl
          have hg2 : (1 : Int) < (c : Int) := by omega
          have hd8 : Pk.dec 0 0 S.data.toList = (0, 0, 8) := by
            rw [hd.out, Pk.drop_at hlt, Pk.dec, if_pos (by omega), hc]
            by_cases h127 : 127 < c
            · rw [if_pos h127]
              obtain ⟨h9, -⟩ := hnine
              subst h9
              exact Pk.dec_ten _ _
            · rw [if_neg h127, if_pos (.inr hnine)]
          have hc8 : cnt S.data.toList m = (0, 0, 8) := by unfold cnt; rw [hd8]; simp
          have HC := Lib.hid hc
          clear hd8 hc hnine
          go_upto_region 11 with (fail)
          rw [HC.out]
          have e1 : (r.most m).1 = 0 := by rw [HM1.out, hc8]; rfl
          have e2 : (r.most m).2 = r.go 0 8 := by rw [HM2.out, hc8]
          have E1 := Lib.hid e1
          have E2 := Lib.hid e2
          clear hd hc8 e1 e2
          go_wp2_with fail
          go_ret
          exact ⟨by rw [E1.out]; rfl, by rw [E2.out]; exact HFA.out 0 8 (by decide)⟩
        · have hd64 : c % 128 * 2 ^ (7 * k) < 2 ^ 64 := by
            by_cases h8 : k ≤ 8
            · exact Pk.low_room _ k h8 (by omega)
            · obtain rfl : k = 9 := by omega
              have : c % 128 * 2 ^ (7 * 9) ≤ 1 * 2 ^ (7 * 9) := Nat.mul_le_mul_right _ (by omega)
              omega
          have hXX : X < 2 ^ 64 := Pk.lt_of X k hk9 (fun _ => hX)
          have HOR : Hid (bits .or .u64 (X : Int) (IntKind.u64.wrap ((c : Int) % 128 * 2 ^ (7 * k))) = ((X + c % 128 * 2 ^ (7 * k) : Nat) : Int)) := R12.digit12 c X k hXX hX hd64
          have hX64 : X + c % 128 * 2 ^ (7 * k) < 2 ^ 64 := R12.or_room hX hd64 hk9 (by omega)
          have HC := Lib.hid hc
          clear hXX hd64 hc
          by_cases h : k = 9
          · have hg : ((k : Int) == 9) = true := by rw [h]; rfl
            have hg2 : ¬ (1 : Int) < (c : Int) := by omega
            clear h
            go_upto_region 11 with (fail)
            rw [HC.out]
            go_upto_region 15 with (fail)
            rw [HOR.out]
            by_cases hbig : 128 ≤ c
            · have hbi : ¬ (c : Int) < 128 := by omega
              have hX2 : X + c % 128 * 2 ^ (7 * k) < 2 ^ (7 * (k + 1)) := by
                rw [Pk.pow_step]
                have h2 : c % 128 * 2 ^ (7 * k) ≤ 127 * 2 ^ (7 * k) := Nat.mul_le_mul_right _ (by omega)
                omega
              have hk8 : k ≤ 8 := by omega
              have hdn : Pk.dec 0 0 S.data.toList = Pk.dec (X + c % 128 * 2 ^ (7 * k)) (k + 1) (S.data.toList.drop (k + 1)) := by
                rw [hd.out, Pk.drop_at hlt, Pk.dec, if_pos (by omega), if_pos (by rw [HC.out]; omega), HC.out]
              have HDN := Lib.hid hdn
              have hsuc : IntKind.i64.wrap ((k : Int) + 1) = ((k + 1 : Nat) : Int) := by simp [IntKind.wrap, IntKind.bits, IntKind.signed]; omega
              obtain ⟨Y, hY⟩ : ∃ Y, Y = X + c % 128 * 2 ^ (7 * k) := ⟨_, rfl⟩
              rw [← hY] at hX2 HDN ⊢
              clear hd hdn hY hX HOR
              go_wp2_with fail
              go_roundw
              case rel => exact ⟨k + 1, Y, hlt, by omega, hX2, rfl, rfl, HDN.out, by trivial⟩
              case measure => simp [intOf]; omega
            · have hbi : (c : Int) < 128 := by omega
              have hdd : Pk.dec 0 0 S.data.toList = if (0 < k ∧ c = 0) ∨ (k = 9 ∧ 1 < c) then (0, 0, 8) else (X + c * 2 ^ (7 * k), k + 1, 0) := by
                rw [hd.out, Pk.drop_at hlt, Pk.dec, if_pos (by omega), if_neg (by rw [HC.out]; omega), HC.out]
              rw [show c % 128 = c by omega] at hX64 ⊢
              obtain ⟨Y, hY⟩ : ∃ Y, Y = X + c * 2 ^ (7 * k) := ⟨_, rfl⟩
              rw [← hY] at hdd hX64 ⊢
              clear HOR hY hX hd
              by_cases hz : c = 0 ∧ 0 < k
              · have hci : ((c : Int) == 0) = true := by rw [hz.1]; rfl
                have hki : (0 : Int) < (k : Int) := by omega
                have hc8 : cnt S.data.toList m = (0, 0, 8) := by
                  have hd8 : Pk.dec 0 0 S.data.toList = (0, 0, 8) := by rw [hdd, if_pos (.inl ⟨hz.2, hz.1⟩)]
                  unfold cnt; rw [hd8]; simp
                clear hdd
                have e1 : (r.most m).1 = 0 := by rw [HM1.out, hc8]; rfl
                have e2 : (r.most m).2 = r.go 0 8 := by rw [HM2.out, hc8]
                have E1 := Lib.hid e1
                have E2 := Lib.hid e2
                clear hc8 e1 e2
                go_wp2_with fail
                go_ret
                exact ⟨by rw [E1.out]; rfl, by rw [E2.out]; exact HFA.out 0 8 (by decide)⟩
              · by_cases hgt : (m : Int) < (Y : Int)
                · have hc8 : cnt S.data.toList m = (0, 0, 8) := by
                    have hdg : Pk.dec 0 0 S.data.toList = (Y, k + 1, 0) := by rw [hdd, if_neg (by omega)]
                    unfold cnt
                    rw [hdg, if_pos ⟨rfl, .inr hgt⟩]
                  clear hdd
                  rcases R12.zero_or hz with hci | ⟨hci, hki⟩
                  · have e1 : (r.most m).1 = 0 := by rw [HM1.out, hc8]; rfl
                    have e2 : (r.most m).2 = r.go 0 8 := by rw [HM2.out, hc8]
                    have E1 := Lib.hid e1
                    have E2 := Lib.hid e2
                    clear hc8 e1 e2
                    go_wp2_with fail
                    go_ret
                    exact ⟨by rw [E1.out]; rfl, by rw [E2.out]; exact HFA.out 0 8 (by decide)⟩
                  · have e1 : (r.most m).1 = 0 := by rw [HM1.out, hc8]; rfl
                    have e2 : (r.most m).2 = r.go 0 8 := by rw [HM2.out, hc8]
                    have E1 := Lib.hid e1
                    have E2 := Lib.hid e2
                    clear hc8 e1 e2
                    go_wp2_with fail
                    go_ret
                    exact ⟨by rw [E1.out]; rfl, by rw [E2.out]; exact HFA.out 0 8 (by decide)⟩
                · have hc0 : cnt S.data.toList m = (Y, k + 1, 0) := by
                    have hdg : Pk.dec 0 0 S.data.toList = (Y, k + 1, 0) := by rw [hdd, if_neg (by omega)]
                    unfold cnt
                    rw [hdg, if_neg (by simp only; omega)]
                  have e1 : (r.most m).1 = Y := by rw [HM1.out, hc0]; rfl
                  have e2 : (r.most m).2 = r.go (k + 1) 0 := by rw [HM2.out, hc0]
                  have E1 := Lib.hid e1
                  have E2 := Lib.hid e2
                  have hk1 : (k : Int) + 1 ≤ (S.size : Int) := by omega
                  have hk2 : ¬ (S.size : Int) < (k : Int) + 1 := by omega
                  have hsuc : IntKind.i64.wrap ((k : Int) + 1) = (k : Int) + 1 := IntWalk.i64_in _ (by omega)
                  clear hc0 e1 e2 hdd
                  rcases R12.zero_or hz with hci | ⟨hci, hki⟩
                  · go_wp2_with fail
                    go_ret
                    exact ⟨by rw [E1.out]; rfl, by rw [E2.out]; exact HPA.out (k + 1)⟩
                  · have hk0 : k = 0 := by omega
                    subst hk0
                    have HP1 : Hid (R12.Stp w (w.setCell ⟨b, 0, none⟩ (.string (S.extract 1 S.size))) b (r.go 1 0)) := HPA.out 1
                    have E3 : Hid ((r.most m).2 = r.go 1 0) := E2.out
                    clear HPA E2
                    go_wp2_with fail
                    go_ret
                    exact ⟨by rw [E1.out]; rfl, by rw [E3.out]; exact HP1.out⟩
          · have hg : ((k : Int) == 9) = false := by rw [beq_eq_false_iff_ne]; omega
            go_upto_region 11 with (fail)
            rw [HC.out]
            go_upto_region 15 with (fail)
            rw [HOR.out]
            by_cases hbig : 128 ≤ c
            · have hbi : ¬ (c : Int) < 128 := by omega
              have hX2 : X + c % 128 * 2 ^ (7 * k) < 2 ^ (7 * (k + 1)) := by
                rw [Pk.pow_step]
                have h2 : c % 128 * 2 ^ (7 * k) ≤ 127 * 2 ^ (7 * k) := Nat.mul_le_mul_right _ (by omega)
                omega
              have hk8 : k ≤ 8 := by omega
              have hdn : Pk.dec 0 0 S.data.toList = Pk.dec (X + c % 128 * 2 ^ (7 * k)) (k + 1) (S.data.toList.drop (k + 1)) := by
                rw [hd.out, Pk.drop_at hlt, Pk.dec, if_pos (by omega), if_pos (by rw [HC.out]; omega), HC.out]
              have HDN := Lib.hid hdn
              have hsuc : IntKind.i64.wrap ((k : Int) + 1) = ((k + 1 : Nat) : Int) := by simp [IntKind.wrap, IntKind.bits, IntKind.signed]; omega
              obtain ⟨Y, hY⟩ : ∃ Y, Y = X + c % 128 * 2 ^ (7 * k) := ⟨_, rfl⟩
              rw [← hY] at hX2 HDN ⊢
              clear hd hdn hY hX HOR
              go_wp2_with fail
              go_roundw
              case rel => exact ⟨k + 1, Y, hlt, by omega, hX2, rfl, rfl, HDN.out, by trivial⟩
              case measure => simp [intOf]; omega
            · have hbi : (c : Int) < 128 := by omega
              have hdd : Pk.dec 0 0 S.data.toList = if (0 < k ∧ c = 0) ∨ (k = 9 ∧ 1 < c) then (0, 0, 8) else (X + c * 2 ^ (7 * k), k + 1, 0) := by
                rw [hd.out, Pk.drop_at hlt, Pk.dec, if_pos (by omega), if_neg (by rw [HC.out]; omega), HC.out]
              rw [show c % 128 = c by omega] at hX64 ⊢
              obtain ⟨Y, hY⟩ : ∃ Y, Y = X + c * 2 ^ (7 * k) := ⟨_, rfl⟩
              rw [← hY] at hdd hX64 ⊢
              clear HOR hY hX hd
              by_cases hz : c = 0 ∧ 0 < k
              · have hci : ((c : Int) == 0) = true := by rw [hz.1]; rfl
                have hki : (0 : Int) < (k : Int) := by omega
                have hc8 : cnt S.data.toList m = (0, 0, 8) := by
                  have hd8 : Pk.dec 0 0 S.data.toList = (0, 0, 8) := by rw [hdd, if_pos (.inl ⟨hz.2, hz.1⟩)]
                  unfold cnt; rw [hd8]; simp
                clear hdd
                have e1 : (r.most m).1 = 0 := by rw [HM1.out, hc8]; rfl
                have e2 : (r.most m).2 = r.go 0 8 := by rw [HM2.out, hc8]
                have E1 := Lib.hid e1
                have E2 := Lib.hid e2
                clear hc8 e1 e2
                go_wp2_with fail
                go_ret
                exact ⟨by rw [E1.out]; rfl, by rw [E2.out]; exact HFA.out 0 8 (by decide)⟩
              · by_cases hgt : (m : Int) < (Y : Int)
                · have hc8 : cnt S.data.toList m = (0, 0, 8) := by
                    have hdg : Pk.dec 0 0 S.data.toList = (Y, k + 1, 0) := by rw [hdd, if_neg (by omega)]
                    unfold cnt
                    rw [hdg, if_pos ⟨rfl, .inr hgt⟩]
                  clear hdd
                  rcases R12.zero_or hz with hci | ⟨hci, hki⟩
                  · have e1 : (r.most m).1 = 0 := by rw [HM1.out, hc8]; rfl
                    have e2 : (r.most m).2 = r.go 0 8 := by rw [HM2.out, hc8]
                    have E1 := Lib.hid e1
                    have E2 := Lib.hid e2
                    clear hc8 e1 e2
                    go_wp2_with fail
                    go_ret
                    exact ⟨by rw [E1.out]; rfl, by rw [E2.out]; exact HFA.out 0 8 (by decide)⟩
                  · have e1 : (r.most m).1 = 0 := by rw [HM1.out, hc8]; rfl
                    have e2 : (r.most m).2 = r.go 0 8 := by rw [HM2.out, hc8]
                    have E1 := Lib.hid e1
                    have E2 := Lib.hid e2
                    clear hc8 e1 e2
                    go_wp2_with fail
                    go_ret
                    exact ⟨by rw [E1.out]; rfl, by rw [E2.out]; exact HFA.out 0 8 (by decide)⟩
                · have hc0 : cnt S.data.toList m = (Y, k + 1, 0) := by
                    have hdg : Pk.dec 0 0 S.data.toList = (Y, k + 1, 0) := by rw [hdd, if_neg (by omega)]
                    unfold cnt
                    rw [hdg, if_neg (by simp only; omega)]
                  have e1 : (r.most m).1 = Y := by rw [HM1.out, hc0]; rfl
                  have e2 : (r.most m).2 = r.go (k + 1) 0 := by rw [HM2.out, hc0]
                  have E1 := Lib.hid e1
                  have E2 := Lib.hid e2
                  have hk1 : (k : Int) + 1 ≤ (S.size : Int) := by omega
                  have hk2 : ¬ (S.size : Int) < (k : Int) + 1 := by omega
                  have hsuc : IntKind.i64.wrap ((k : Int) + 1) = (k : Int) + 1 := IntWalk.i64_in _ (by omega)
                  clear hc0 e1 e2 hdd
                  rcases R12.zero_or hz with hci | ⟨hci, hki⟩
                  · go_wp2_with fail
                    go_ret
                    exact ⟨by rw [E1.out]; rfl, by rw [E2.out]; exact HPA.out (k + 1)⟩
                  · have hk0 : k = 0 := by omega
                    subst hk0
                    have HP1 : Hid (R12.Stp w (w.setCell ⟨b, 0, none⟩ (.string (S.extract 1 S.size))) b (r.go 1 0)) := HPA.out 1
                    have E3 : Hid ((r.most m).2 = r.go 1 0) := E2.out
                    clear HPA E2
                    go_wp2_with fail
                    go_ret
                    exact ⟨by rw [E1.out]; rfl, by rw [E3.out]; exact HP1.out⟩
      · have hks : k = S.size := by omega
        have hne : ((k : Int) == (S.size : Int)) = true := by rw [hks]; simp
        have hd7 : Pk.dec 0 0 S.data.toList = (0, 0, 7) := by
          rw [hd.out, List.drop_of_length_le (by rw [Ba.ba_size]; omega), Pk.dec, if_pos (by omega)]
        have hc7 : cnt S.data.toList m = (0, 0, 7) := by unfold cnt; rw [hd7]; simp
        have e1 : (r.most m).1 = 0 := by rw [HM1.out, hc7]; rfl
        have e2 : (r.most m).2 = r.go 0 7 := by rw [HM2.out, hc7]
        have E1 := Lib.hid e1
        have E2 := Lib.hid e2
        clear hd hd7 hc7 e1 e2 hks
        go_wp2_with fail
        go_ret
        exact ⟨by rw [E1.out]; rfl, by rw [E2.out]; exact HFA.out 0 7 (by decide)⟩
  · exact absurd hf0 hf
namespace R12
/-- The document's reader, of which what is left is known only while nothing failed. -/
def inW (w : World) (b : Nat) (r : Rd) : Prop := ∃ S : ByteArray, w.heap[b]? = some (.cells #[.string S, .int .i64 (r.f : Int)] 65 (0, 0)) ∧ (r.f = 0 → S = left r)
structure StW (w w' : World) (b : Nat) (r : Rd) : Prop where
  grown : w.grownBy w' (some b)
  inW : R12.inW w' b r
theorem inW.strict {w : World} {b : Nat} {r : Rd} (h : R12.inW w b r) (hf : r.f = 0) : R12.inAt w b r := by
  obtain ⟨S, h1, h2⟩ := h
  unfold R12.inAt
  rw [← h2 hf]
  exact h1
theorem inW.lt {w : World} {b : Nat} {r : Rd} (h : R12.inW w b r) : b < w.heap.size := by
  obtain ⟨S, h1, -⟩ := h
  exact Sm.lt_of h1
theorem Stp.weak {w w' : World} {b : Nat} {r : Rd} (h : Stp w w' b r) : StW w w' b r := ⟨h.grown, _, h.inAt, fun _ => rfl⟩
theorem StW.after {a w w' : World} {b : Nat} {r : Rd} (h : StW w w' b r) (k : a.grownBy w (some b)) : StW a w' b r := ⟨grown_trans k h.grown, h.inW⟩
theorem StW.fail {w : World} {b : Nat} {r' : Rd} {S : ByteArray} {f : Value} (h : w.heap[b]? = some (.cells #[.string S, f] 65 (0, 0))) (e : Nat) (he : e ≠ 0) (hr : r'.f = e) : StW w (w.setCell ⟨b, 1, none⟩ (.int .i64 (e : Int))) b r' :=
  ⟨grown_set (grown_refl _ _) _ _, S, by
    have q := Sm.heap_set h 1 (.int .i64 (e : Int))
    rw [hr]
    exact q, fun h0 => by omega⟩
end R12
set_option maxRecDepth 100000 in
theorem r12InNum_stuck {w : World} {b : Nat} {S : ByteArray} {f : Nat} (hin : w.heap[b]? = some (.cells #[.string S, .int .i64 (f : Int)] 65 (0, 0))) (hf : f ≠ 0) (m : Nat) :
    Calls Tryd.prog 39 #[.pointer (some ⟨b, 0, none⟩), .int .u64 (m : Int)] w fun e w' => e = .returned (.int .u64 0) ∧ w = w' := by
  have c1 := Sm.cells_of hin 1 _ rfl
  have hfi : ((f : Int) != 0) = true := by rw [bne_iff_ne]; omega
  clear hf hin
  go_enter Tryd.func39, Tryd.ntmps39
  go_wp2_with fail
  go_ret
  exact ⟨rfl, rfl⟩
theorem r12InNum_w {w : World} {b : Nat} {r : Rd} (hin : R12.inW w b r) (hr : r.Ok) (m : Nat) (hm : m < 2 ^ 64) :
    Calls Tryd.prog 39 #[.pointer (some ⟨b, 0, none⟩), .int .u64 (m : Int)] w fun e w' => e = .returned (.int .u64 (r.most m).1) ∧ R12.StW w w' b (r.most m).2 := by
  by_cases hf : r.f = 0
  · exact (r12InNum_any (hin.strict hf) hr m hm hf).mono fun _ _ ⟨h1, h2⟩ => ⟨h1, h2.weak⟩
  · have e1 : (r.most m).1 = 0 := by unfold Rd.most; simp only [pass_false (.inl hf)]; rfl
    have e2 : (r.most m).2 = r := by unfold Rd.most Rd.go; rw [if_neg hf]
    rw [e1, e2]
    obtain ⟨S, h1, h2⟩ := hin
    refine (r12InNum_stuck h1 hf m).mono ?_
    rintro e w' ⟨rfl, rfl⟩
    exact ⟨rfl, grown_refl _ _, S, h1, h2⟩
namespace R12
theorem StW.same {w w' : World} {b : Nat} {r r' : Rd} (h : StW w w' b r) (hf : r.f ≠ 0) (e : r'.f = r.f) : StW w w' b r' := by
  obtain ⟨g, S, h1, -⟩ := h
  exact ⟨g, S, by rw [e]; exact h1, fun h0 => absurd (e ▸ h0) hf⟩
theorem most_form {r : Rd} {m : Int} (h : (r.most m).2.f = 0) : r.f = 0 ∧ (cnt r.rest m).2.2 = 0 ∧ (r.most m).1 = (cnt r.rest m).1 ∧ (r.most m).2 = ⟨r.s, r.pos + (cnt r.rest m).2.1, 0⟩ := by
  obtain ⟨h1, h2, h3⟩ := Rm.go_fine h
  refine ⟨h1, h2, ?_, h3⟩
  unfold Rd.most
  simp only [pass_true h1 h2, if_true]
theorem most_rest {r : Rd} {m : Int} (h : (r.most m).2.f = 0) : (r.most m).2.rest = r.rest.drop (cnt r.rest m).2.1 := by
  rw [(most_form h).2.2.2, Rm.rest_go]
theorem text_bad {r : Rd} {m : Int} (h : (r.most m).2.f ≠ 0) : (r.text m).1 = [] ∧ (r.text m).2.f = (r.most m).2.f := by
  have hm : (r.most m).2 = r.go (cnt r.rest m).2.1 (cnt r.rest m).2.2 := rfl
  by_cases hf : r.f = 0
  · have hc : (cnt r.rest m).2.2 ≠ 0 := by
      intro e
      apply h
      rw [hm, e, go_ok hf]
      exact hf
    have ht : terr r.rest m = (cnt r.rest m).2.2 := by unfold terr; rw [if_neg (fun x => hc x.1)]
    constructor
    · unfold Rd.text; simp only [ht, pass_false (.inr hc)]; rfl
    · show (r.go _ (terr r.rest m)).f = _
      rw [ht, hm]
      unfold Rd.go
      rw [if_pos hf, if_neg hc, if_pos hf, if_neg hc]
  · constructor
    · unfold Rd.text; simp only [pass_false (.inl hf)]; rfl
    · rw [hm]
      show (r.go _ _).f = _
      unfold Rd.go
      rw [if_neg hf, if_neg hf]
theorem text_short {r : Rd} {m : Int} (h : (r.most m).2.f = 0) (hs : (r.most m).2.rest.length < (r.most m).1) : (r.text m).1 = [] ∧ (r.text m).2.f = 7 := by
  obtain ⟨h1, h2, h3, -⟩ := most_form h
  rw [most_rest h, h3, List.length_drop] at hs
  have ht : terr r.rest m = 7 := by unfold terr; rw [if_pos ⟨h2, hs⟩]
  constructor
  · unfold Rd.text; simp only [ht, pass_false (.inr (show (7 : Nat) ≠ 0 by decide))]; rfl
  · show (r.go _ (terr r.rest m)).f = _
    rw [ht]
    unfold Rd.go
    rw [if_pos h1, if_neg (by decide)]
theorem text_good {r : Rd} {m : Int} (h : (r.most m).2.f = 0) (hs : ¬ (r.most m).2.rest.length < (r.most m).1) : (r.text m).1 = (r.most m).2.rest.take (r.most m).1 ∧ (r.text m).2 = (r.most m).2.go (r.most m).1 0 := by
  obtain ⟨h1, h2, h3, h4⟩ := most_form h
  have hr := most_rest h
  rw [go_ok h, hr, h3, h4]
  rw [hr, h3, List.length_drop] at hs
  have ht : terr r.rest m = 0 := by unfold terr; rw [if_neg (fun x => hs x.2), h2]
  constructor
  · unfold Rd.text; simp only [ht, pass_true h1 rfl, if_true]
  · show r.go _ (terr r.rest m) = _
    rw [ht, go_ok h1, h1, Nat.add_assoc]
theorem cut0 (S : ByteArray) (l : List UInt8) (h : S.data.toList = l) (n : Nat) : S.extract 0 n = ⟨(l.take n).toArray⟩ := by
  subst h
  have e : (S.extract 0 n).data.toList = S.data.toList.take n := by simp
  rw [← Ba.ba_eq (S.extract 0 n), e]
end R12
set_option maxRecDepth 100000 in
set_option maxHeartbeats 2000000 in
theorem r12InText_w {w : World} {b : Nat} {r : Rd} (hin : R12.inW w b r) (hr : r.Ok) (m : Nat) (hm : m < 2 ^ 63) :
    Calls Tryd.prog 40 #[.pointer (some ⟨b, 0, none⟩), .int .u64 (m : Int)] w fun e w' => e = .returned (.string ⟨(r.text m).1.toArray⟩) ∧ R12.StW w w' b (r.text m).2 := by
  have NU := Lib.hid (r12InNum_w hin hr m (by omega))
  have hok := hr.most (m : Int)
  have hle := Rm.most_le r (m : Int) (by omega)
  have TB := Lib.hid (fun h => R12.text_bad (r := r) (m := (m : Int)) h)
  have TS := Lib.hid (fun h hs => R12.text_short (r := r) (m := (m : Int)) h hs)
  have TG := Lib.hid (fun h hs => R12.text_good (r := r) (m := (m : Int)) h hs)
  obtain ⟨n, hn⟩ : ∃ n, n = (r.most m).1 := ⟨_, rfl⟩
  obtain ⟨r1, hr1⟩ : ∃ n, n = (r.most m).2 := ⟨_, rfl⟩
  rw [← hn, ← hr1] at NU TS TG
  rw [← hr1] at TB hok
  rw [← hn] at hle
  have hsz := R12.left_size r1
  have hrl := r1.rest_length
  have hlim := hok.lim
  clear hin hn hr1 hr
  by_cases hf : r1.f = 0
  · by_cases hs : r1.rest.length < n
    · obtain ⟨e1, e2⟩ := TS.out hf hs
      have hsi : IntKind.u64.wrap ((R12.left r1).size : Int) = ((R12.left r1).size : Int) := by rw [IntKind.wrap_u64]; omega
      have hlt : ((R12.left r1).size : Int) < (n : Int) := by omega
      have E1 := Lib.hid e1
      have E2 := Lib.hid e2
      have HF := Lib.hid hf
      clear e1 e2 hs hsz hrl TB TS TG hok hlim hf
      go_enter Tryd.func40, Tryd.ntmps40
      go_wp2_with fail
      refine NU.out.mono ?_
      rintro e w1 ⟨rfl, st⟩
      have s1 := st.inW.strict HF.out
      have c0 := Sm.cells_of s1 0 _ rfl
      have c1 := Sm.cells_of s1 1 _ rfl
      rw [HF.out] at c1
      have f1 := Sm.free_of s1 1
      have ST := Lib.hid ((R12.StW.fail (r' := (r.text m).2) s1 7 (by decide) E2.out).after st.grown)
      clear s1 st
      go_wp2_with fail
      go_ret
      exact ⟨by rw [E1.out]; rfl, ST.out⟩
    · obtain ⟨e1, e2⟩ := TG.out hf hs
      have hsi : IntKind.u64.wrap ((R12.left r1).size : Int) = ((R12.left r1).size : Int) := by rw [IntKind.wrap_u64]; omega
      have hlt : ¬ ((R12.left r1).size : Int) < (n : Int) := by omega
      have hlt2 : (n : Int) ≤ ((R12.left r1).size : Int) := by omega
      have E1 := Lib.hid e1
      have E2 := Lib.hid e2
      have HF := Lib.hid hf
      have CU := Lib.hid (R12.cut0 (R12.left r1) r1.rest (R12.left_rest r1) n)
      clear e1 e2 hs hsz hrl TB TS TG hok hlim hf
      go_enter Tryd.func40, Tryd.ntmps40
      go_wp2_with fail
      refine NU.out.mono ?_
      rintro e w1 ⟨rfl, st⟩
      have s1 := st.inW.strict HF.out
      have c0 := Sm.cells_of s1 0 _ rfl
      have c1 := Sm.cells_of s1 1 _ rfl
      rw [HF.out] at c1
      have f0 := Sm.free_of s1 0
      have ST := Lib.hid ((R12.Stp.pass s1 HF.out n).weak.after st.grown)
      clear s1 st
      go_wp2_with fail
      go_ret
      exact ⟨by rw [E1.out, ← CU.out]; rfl, by rw [E2.out]; exact ST.out⟩
  · obtain ⟨e1, e2⟩ := TB.out hf
    have hfi : ((r1.f : Int) != 0) = true := by rw [bne_iff_ne]; omega
    have E1 := Lib.hid e1
    have E2 := Lib.hid e2
    have HF := Lib.hid hf
    clear e1 e2 hsz hrl TB TS TG hok hlim hf
    go_enter Tryd.func40, Tryd.ntmps40
    go_wp2_with fail
    refine NU.out.mono ?_
    rintro e w1 ⟨rfl, st⟩
    obtain ⟨S, h1, -⟩ := st.inW
    have c1 := Sm.cells_of h1 1 _ rfl
    have ST := Lib.hid (st.same HF.out E2.out)
    clear h1 st
    go_wp2_with fail
    go_ret
    exact ⟨by rw [E1.out]; rfl, ST.out⟩
end Go.Proofs.YthhmnbpabncdnaaDoor
