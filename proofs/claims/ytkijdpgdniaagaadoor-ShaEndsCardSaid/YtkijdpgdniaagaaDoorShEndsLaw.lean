/-
  ShaEnds answers true for every byte and number of blocks, and turns nothing of what was there.
-/
import Derived.Test.YtkijdpgdniaagaaDoorRsSum
import Derived.Test.YtkijdpgdniaagaaDoorShelf
namespace Go.Proofs.YtkijdpgdniaagaaDoor
open Go.RowKit
namespace Sm
theorem conv_one {w : World} {N : Nat} {x : UInt8} {t : TypeId} (h : w.heap[N]? = some (.cells #[.int .u8 x.toNat] t (0, 0))) :
    (convert 31 9 (.slice (some ⟨N, 0, none⟩) 1 1)).run Tryd.prog w = .ok (.string ⟨#[x]⟩) w := by
  have e := run_convert_bytes_back (P := Tryd.prog) w 31 9 5 ⟨N, 0, none⟩ 1 [x] Tryd.underlying31 Tryd.underlying5 Tryd.underlying9 (fun j hj => by
    have : j = 0 := by simpa using hj
    subst this
    rw [Addr.add_mid]
    exact cells_of h 0 _ rfl)
  exact e
end Sm

set_option maxRecDepth 100000 in
set_option maxHeartbeats 4000000 in
theorem ends_any (x p : UInt8) {w : World} (hH : Sm.HAt w) (hK : Sm.KAt w) (hsz : 1 < w.heap.size) :
    Calls Tryd.prog 4 #[.int .u8 x.toNat, .int .u8 p.toNat] w fun e w' => e = .returned (.bool true) ∧ Below w.heap.size w w' := by
  have hxb := byte_fits x
  have hpb := byte_fits p
  generalize p.toNat = pn at *
  obtain ⟨n, hn⟩ : ∃ n, n = 64 * (pn % 4) := ⟨_, rfl⟩
  have hni : 64 * ((pn : Int) % 4) = (n : Int) := by omega
  have hn192 : n ≤ 192 := by omega
  have HH := Lib.hid hH
  have HK := Lib.hid hK
  clear hH hK hn
  go_enter Tryd.func4, Tryd.ntmps4
  go_wp2_with fail
  refine (awake_any HH.out HK.out hsz).mono ?_
  rintro e w1 ⟨rfl, b1⟩
  go_wp2_with fail
  clear hni
  go_loopw [6] (fun d wr => ∃ (j : Nat) (dv : Int), j ≤ 19 ∧ dv = (j : Int) - 9 ∧ d = .int .i64 dv ∧ Below w.heap.size w wr) (fun d _ => (10 - intOf d).toNat)
  case atStart => exact ⟨0, -9, by omega, by omega, rfl, b1⟩
  case round =>
    clear b1
    obtain ⟨j, dv, hj, hdv, rfl, hbk⟩ := hrel
    have hs1 := hbk.size
    by_cases hlt : j < 19
    · have h9 : dv ≤ 9 := by omega
      have h9b : -9 ≤ dv := by omega
      have HDV : Hid (dv + 1 = ((j + 1 : Nat) : Int) - 9) := by show _ = _; omega
      have HJ : Hid (j + 1 ≤ 19) := hlt
      clear hdv
      by_cases hneg : (n : Int) + dv < 0
      · go_wp2
        go_roundw
        case rel => exact ⟨j + 1, dv + 1, HJ.out, HDV.out, rfl, hbk⟩
        case measure => simp [intOf]; omega
      · obtain ⟨m, hm⟩ : ∃ m : Nat, (n : Int) + dv = (m : Int) := ⟨((n : Int) + dv).toNat, by omega⟩
        have hm300 : m ≤ 300 := by omega
        have hml : ¬ (m : Int) < 0 := by omega
        obtain ⟨S, hS⟩ : ∃ S, S = ByteArray.mk (Lib.repeatL [x] m).toArray := ⟨_, rfl⟩
        have hSs : S.size ≤ 300 := by
          have e : (ByteArray.mk (Lib.repeatL [x] m).toArray).size = (Lib.repeatL [x] m).length := rfl
          rw [hS, e, Lib.repeatL_length]; simp; omega
        have REP : Hid (∀ wx : World, Calls Tryd.prog 19 #[.string ⟨#[x]⟩, .int .i64 (m : Int)] wx fun e w' => e = .returned (.string S) ∧ Below wx.heap.size wx w') := fun wx => by
          rw [hS]; exact strings_Repeat ⟨#[x]⟩ m wx (by omega) (by show 1 * m ≤ _; omega)
        have hcv := Sm.conv_one (heap_alloc_new wr (.cells #[.int .u8 (x.toNat : Int)] 5))
        have b2 : Below w.heap.size w (wr.alloc (.cells #[.int .u8 (x.toNat : Int)] 5)) := hbk.alloc hs1 _
        have heq := fun w' => Sm.eq_hash (Sm.sum S.data.toList) (Sm.sum S.data.toList) (Sm.sum_length _) (Sm.sum_length _) w'
        rw [beq_self_eq_true] at heq
        clear hS
        go_wp2_with fail
        generalize wr.alloc (.cells #[.int .u8 (x.toNat : Int)] 5) = w2 at *
        refine (REP.out _).mono ?_
        rintro e w3 ⟨rfl, k3⟩
        have b3 := Sm.low_low b2 (Nat.le_refl _) k3
        clear k3 hcv
        go_wp2_with fail
        refine (sum_any S (HH.out.low b3 (by omega)) (HK.out.low b3 hsz) (Nat.lt_of_lt_of_le hsz b3.size) (by omega)).mono ?_
        rintro e w4 ⟨rfl, k4⟩
        have b4 := Sm.low_low b3 (Nat.le_refl _) k4
        clear k4
        go_wp2_with fail
        refine (rssum_any S (by omega) _).mono ?_
        rintro e w5 ⟨rfl, k5⟩
        have b5 := Sm.low_low b4 (Nat.le_refl _) k5
        have heq5 := heq w5
        clear k5 heq
        go_wp2
        go_roundw
        case rel => exact ⟨j + 1, dv + 1, HJ.out, HDV.out, rfl, b5⟩
        case measure => simp [intOf]; omega
    · obtain rfl : j = 19 := by omega
      obtain rfl : dv = 10 := by omega
      go_wp2
      go_ret
      exact ⟨rfl, hbk⟩
end Go.Proofs.YtkijdpgdniaagaaDoor
