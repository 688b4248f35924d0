/-
  RingKeys: a ring's keys are the document's.
-/
import Derived.Test.YtapogiihkbjppaaGreatDoorR6Key
import Derived.Test.YtapogiihkbjppaaGreatDoorRiAwake
import Derived.Test.YtapogiihkbjppaaGreatDoorMBase
namespace Go.Proofs.YtapogiihkbjppaaGreatDoor
open Go.RowKit

set_option maxRecDepth 100000 in
set_option maxHeartbeats 1000000 in
theorem ringKeys_any {w : World} (hH : Sm.HAt w) (hK : Sm.KAt w) (hsz : 1 < w.heap.size) (s : ByteArray) (hs : s.size ≤ 9223372036854775807) (i : Int) :
    Calls Tryz.prog 5 #[.string s, .int .i64 i] w fun e w' => e = .returned (.bool true) ∧ Below w.heap.size w w' := by
  have AW := Lib.hid (awake6_any hH hK hsz)
  have HH := Lib.hid hH
  have HK := Lib.hid hK
  obtain ⟨N, hN⟩ : ∃ N, N = w.heap.size := ⟨_, rfl⟩
  have hN1 : 1 < N := by omega
  rw [← hN] at AW ⊢
  have HN := Lib.hid hN
  by_cases h3 : s.size ≤ 3000
  · have g3 : ¬ (3000 : Int) < s.size := by omega
    have hE1 := fun wx => Sm.eq_row 32 Tryz.underlying50 (Ri.key s.data.toList i) (Ri.key s.data.toList i) (Ri.key_length _ _) (Ri.key_length _ _) wx
    rw [show (Ri.key s.data.toList i == Ri.key s.data.toList i) = true by rw [beq_iff_eq]] at hE1
    obtain ⟨x, hx⟩ : ∃ c, c = (Lib.byteCells (Ri.key s.data.toList i)).toArray := ⟨_, rfl⟩
    have K1 : Hid (∀ wx : World, Sm.HAt wx → Sm.KAt wx → 1 < wx.heap.size → Calls Tryz.prog 21 #[.string s, .int .i64 i] wx fun e w' => e = .returned (.agg x) ∧ Below wx.heap.size wx w') := fun wx a b c => by
      rw [hx]; exact rgKey_any a b c s (by omega) i
    have K2 : Hid (∀ wx : World, Calls Tryz.prog 22 #[.string s, .int .i64 i] wx fun e w' => e = .returned (.agg x) ∧ Below wx.heap.size wx w') := fun wx => by
      rw [hx]; exact r6Key_any wx s (by omega) i
    rw [← hx] at hE1
    clear hx hN hH hK hsz
    go_enter Tryz.func5, Tryz.ntmps5
    go_wp2_with fail
    refine (AW.out).mono ?_
    rintro e w1 ⟨rfl, b1⟩
    have B1 := Lib.hid b1
    have s1 := b1.size
    clear b1 AW
    go_wp2_with fail
    refine (K1.out _ (HH.out.low B1.out (by omega)) (HK.out.low B1.out hN1) (by have := HN.out; omega)).mono ?_
    rintro e w2 ⟨rfl, b2⟩
    have B2 := Lib.hid (B1.out.trans (b2.mono (by have := HN.out; omega)))
    have s2 := b2.size
    clear b2 K1 B1
    go_wp2_with fail
    refine (K2.out _).mono ?_
    rintro e w3 ⟨rfl, b3⟩
    have B3 := Lib.hid (B2.out.trans (b3.mono (by have := HN.out; omega)))
    clear b3 K2 B2
    go_wp2_with fail
    refine bodyPost_ret (results_tmp rfl _ _ _) rfl ?_
    exact ⟨rfl, B3.out⟩
  · have g3 : (3000 : Int) < s.size := by omega
    clear hN hH hK hsz
    go_enter Tryz.func5, Tryz.ntmps5
    go_wp2_with fail
    refine (AW.out).mono ?_
    rintro e w1 ⟨rfl, b1⟩
    go_wp2_with fail
    refine bodyPost_ret (results_tmp rfl _ _ _) rfl ?_
    exact ⟨rfl, b1⟩
end Go.Proofs.YtapogiihkbjppaaGreatDoor
