/-
  What the document's primes does: the first 64.
-/
import Derived.Test.YtkijdpgdniaagaaDoorRsRoot
import Derived.Test.YtkijdpgdniaagaaDoorShDig2
namespace Go.Proofs.YtkijdpgdniaagaaDoor
open Go.RowKit
namespace Sm
/-- Numbers of 64 bits as cells. -/
def u64s (l : List Nat) : List Value := l.map fun n : Nat => Value.int .u64 (n : Int)
theorem u64s_get {l : List Nat} {i : Nat} (h : i < l.length) : (u64s l)[i]? = some (.int .u64 (l.getD i 0 : Nat)) := by
  simp [u64s, h]
theorem u64s_length (l : List Nat) : (u64s l).length = l.length := by simp [u64s]
theorem info_u64 : (Tryd.prog.info? 56).map (fun i => (i.zero, i.size, i.bytes)) = some (some (.int .u64 0), 1, 8) := by kernel_rfl
/-- Is none of these a divisor? -/
def free (q : Nat) (l : List Nat) : Bool := !l.any fun x => q % x == 0
theorem free_nil (q : Nat) : free q [] = true := rfl
theorem free_snoc (q : Nat) (l : List Nat) (x : Nat) : free q (l ++ [x]) = (free q l && !(q % x == 0)) := by
  simp [free, List.any_append]
theorem take_snoc (l : List Nat) (i : Nat) (h : i < l.length) : l.take (i + 1) = l.take i ++ [l.getD i 0] := by
  rw [List.take_succ_eq_append_getElem h, List.getD_eq_getElem?_getD, List.getElem?_eq_getElem h]; rfl
theorem upTo_next (m : Nat) : upTo (m + 1) = if free (2 + m) (upTo m) then upTo m ++ [2 + m] else upTo m := by
  rw [upTo, free]
  cases (upTo m).any fun q => (2 + m) % q == 0 <;> rfl
theorem own_cell {w : World} {B : Nat} {A : Option Addr} {n c : Nat} {l : List Nat} (h : w.ownsRow B 56 1 (.slice A n c) n (u64s l)) (hn : l.length = n) (i : Nat) (hi : i < n) :
    ∃ g, A = some ⟨g, 0, none⟩ ∧ w.cell? ⟨g, i, none⟩ = some (.int .u64 (l.getD i 0 : Nat)) := by
  rcases h.2 with ⟨hv, hn0⟩ | ⟨g, cap, cur, hv, _⟩
  · omega
  · simp only [Value.slice.injEq] at hv
    obtain ⟨rfl, _, rfl⟩ := hv
    refine ⟨g, rfl, ?_⟩
    have := h.cells (g := g) rfl i _ (u64s_get (by omega))
    rw [Addr.add_mid, Nat.zero_add] at this
    exact this
end Sm

set_option maxHeartbeats 2000000 in
theorem primes_any (w : World) :
    Calls Tryd.prog 30 #[.int .i64 64] w fun e w' => ∃ A c, e = .returned (.slice A 64 c) ∧ w'.ownsRow w.heap.size 56 1 (.slice A 64 c) 64 (Sm.u64s Sm.ps) ∧ Below w.heap.size w w' := by
  obtain ⟨i0, hi, hz0, hz1, hz2⟩ := info_parts Sm.info_u64
  obtain ⟨N, hN⟩ : ∃ N, N = w.heap.size := ⟨_, rfl⟩
  have g1 : w.ownsRow N 56 1 (.slice none 0 0) 0 (Sm.u64s (Sm.upTo 0)) := ⟨rfl, .inl ⟨rfl, rfl⟩⟩
  rw [← hN]
  have HN := Lib.hid hN
  clear hN
  go_enter Tryd.func30, Tryd.ntmps30
  go_wp2
  go_loopw [3, 4] (fun v q wr => ∃ (m n : Nat) (A : Option Addr) (c : Nat), m ≤ 310 ∧ q = .int .u64 ((2 + m : Nat) : Int) ∧ n = (Sm.upTo m).length ∧ v = .slice A n c ∧ wr.ownsRow N 56 1 (.slice A n c) n (Sm.u64s (Sm.upTo m)) ∧ Below N w wr) (fun _ q _ => 312 - (intOf q).toNat)
  case atStart => exact ⟨0, 0, none, 0, by omega, rfl, rfl, rfl, g1, by rw [HN.out]; exact Below.refl _ _⟩
  case round =>
    clear g1
    obtain ⟨m, n, A, c, hm, rfl, hn, rfl, hown, hbk⟩ := hrel
    have HO := Lib.hid hown
    clear hown
    by_cases hlt : m < 310
    · have hsh := Sm.upTo_short hlt
      have hok := Sm.upTo_ok m
      have hn64 : n < 64 := by omega
      have hnx := Sm.upTo_next m
      have hcell := fun i hi => Sm.own_cell HO.out hn.symm i hi
      have HC := Lib.hid hcell
      have HOK := Lib.hid hok
      have HNX := Lib.hid hnx
      have HNL := Lib.hid hn
      have hn1 : n ≤ (Sm.upTo m).length := by omega
      have hn2 : (Sm.upTo m).length ≤ n := by omega
      clear hcell hok hnx hn hsh
      obtain ⟨q, hq⟩ : ∃ q, q = 2 + m := ⟨_, rfl⟩
      rw [← hq] at HNX ⊢
      have hqm : 2 ≤ q ∧ q < 312 := by omega
      have HQ := Lib.hid hq
      clear hq
      obtain ⟨l, hl⟩ : ∃ l, l = Sm.upTo m := ⟨_, rfl⟩
      rw [← hl] at HC HNX HOK HNL HO hn1 hn2
      have HL := Lib.hid hl
      clear hl
      go_wp2
      obtain ⟨wo, hwo⟩ : ∃ wo : World, wo = wr := ⟨_, rfl⟩
      rw [← hwo] at hbk HO HC ⊢
      clear hwo
      go_loop [5, 6] (fun b i => ∃ k : Nat, k ≤ n ∧ i = .int .i64 k ∧ b = .bool (Sm.free q (l.take k))) (fun _ i => n - (intOf i).toNat)
      case atStart => exact ⟨0, by omega, rfl, rfl⟩
      case round =>
        obtain ⟨k, hk, rfl, rfl⟩ := hrel
        by_cases hkn : k < n
        · obtain ⟨g, rfl, hc⟩ := HC.out k hkn
          have hsn := Sm.take_snoc l k (by omega)
          have hx2 : 2 ≤ l.getD k 0 ∧ l.getD k 0 < 2 + m := HOK.out _ (by
            rw [List.getD_eq_getElem?_getD, List.getElem?_eq_getElem (by omega)]; exact List.getElem_mem _)
          have hfs := Sm.free_snoc q (l.take k) (l.getD k 0)
          rw [← hsn] at hfs
          clear hsn
          generalize l.getD k 0 = x at *
          have hmod : (q : Int) % (x : Int) = ((q % x : Nat) : Int) := by omega
          generalize q % x = r at *
          have hx0 : (0 : Int) < x := by omega
          generalize Sm.free q (l.take k) = fr at *
          by_cases hr : r = 0
          · subst hr
            have HF : Hid (Sm.free q (l.take (k + 1)) = false) := by show _ = _; rw [hfs]; simp
            clear hfs
            go_wp2
            go_round
            case rel => exact ⟨k + 1, by omega, by go_num, by rw [HF.out]⟩
            case measure => simp [intOf]; omega
          · have HF : Hid (Sm.free q (l.take (k + 1)) = fr) := by show _ = _; rw [hfs]; simp [hr]
            have hri : ((r : Int) == 0) = false := by rw [beq_eq_false_iff_ne]; omega
            clear hfs hr
            go_wp2
            go_round
            case rel => exact ⟨k + 1, by omega, by go_num, by rw [HF.out]⟩
            case measure => simp [intOf]; omega
        · obtain rfl : k = n := by omega
          rw [List.take_of_length_le (by omega)]
          have hrr : Hid (Sm.upTo (m + 1) = if Sm.free q l then l ++ [q] else l) := HNX.out
          generalize Sm.free q l = fr at *
          cases fr
          case false =>
            go_wp2
            go_roundw
            case rel =>
              have e : Sm.upTo (m + 1) = l := hrr.out
              exact ⟨m + 1, k, A, c, by omega, by have := HQ.out; go_num, by rw [e]; exact HNL.out, rfl, by rw [e]; exact HO.out, hbk⟩
            case measure => have := HQ.out; simp [intOf]; omega
          case true =>
            have hone : ∀ u ∈ [Value.int .u64 (q : Int)], u.oneCell' = true := by intro u hu; simp at hu; subst hu; rfl
            have hbs := hbk.size
            have hNs : N ≤ wo.heap.size := by have := HN.out; omega
            go_wp2_with (at_builtin; refine wpList_append_own _ rfl (.tmp 27) (.tmp 29) 50 rfl N 56 i0 (.int .u64 0) 1 8 Tryd.underlying50 hi hz0 hz1 hz2 rfl (by decide) (.slice A k c) k _ rfl (HO.out.alloc _) ⟨wo.heap.size, 0, none⟩ 1 1 [.int .u64 (q : Int)] rfl rfl ?c1 hone ?c3 ?c4 ?c5 ?_)
            case c3 => unfold maxLen; omega
            case c4 => omega
            case c5 => first | omega | (simp; omega)
            · intro v' w1 hown' hgrow _
              obtain ⟨A', c', rfl⟩ := Sm.own_shape hown'
              have HO2 := Lib.hid hown'
              have hb0 : Below N wo (wo.alloc (.cells #[.int .u64 (q : Int)] 56)) := (Below.refl N wo).alloc hNs _
              have hb1 : Below N (wo.alloc (.cells #[.int .u64 (q : Int)] 56)) w1 := (Below.refl N _).grown hgrow (by simp; omega) (fun j hj => (HO.out.lt j hj).1)
              have hb2 : Below N w w1 := (hbk.trans hb0).trans hb1
              clear hown' hgrow hb0 hb1
              go_wp2
              go_roundw
              case rel =>
                have e : Sm.upTo (m + 1) = l ++ [q] := hrr.out
                refine ⟨m + 1, k + 1, A', c', by omega, by have := HQ.out; go_num, by rw [e, List.length_append]; simp; omega, rfl, ?_, hb2⟩
                rw [e]
                have h := HO2.out
                rw [show Sm.u64s l ++ [Value.int .u64 (q : Int)] = Sm.u64s (l ++ [q]) by simp [Sm.u64s]] at h
                exact h
              case measure => have := HQ.out; simp [intOf]; omega
    · obtain rfl : m = 310 := by omega
      rw [Sm.upTo_310] at HO hn
      rw [Sm.ps_length] at hn
      subst hn
      go_wp2
      go_ret
      exact ⟨A, c, rfl, HO.out, hbk⟩
end Go.Proofs.YtkijdpgdniaagaaDoor
