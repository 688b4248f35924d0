/-
  The wake that each statement on paths asks is met.
-/
import Derived.Test.YtmackgocieodjaaPaShips
namespace Go.Proofs.Ytmackgocieodjaa
open Go.RowKit
namespace Pa
def tApp : ByteArray := ⟨#[97, 112, 112]⟩
def tOps : ByteArray := ⟨#[111, 112, 115]⟩
def tDb : ByteArray := ⟨#[100, 98]⟩
def tPath : ByteArray := ⟨#[97, 112, 112, 47, 100, 98]⟩
/-- The chapter's mounts. -/
def twoL : List Mo := [⟨tApp, true⟩, ⟨tOps, false⟩]
theorem wake_cut : cutV tPath.data.toList = .tuple #[.string tApp, .string tDb, .bool true] := by kernel_rfl
theorem wake_join : join tApp tDb = tPath := by
  have h : both tApp tDb = true := by kernel_rfl
  unfold join
  rw [h, if_pos rfl]
  apply ByteArray.ext
  apply Array.ext'
  simp [tApp, tDb, tPath]
theorem wake_both : both tApp tDb = true := by kernel_rfl
theorem same_no {a b : ByteArray} (h : ¬ a.data.toList = b.data.toList) : same a b = false := by
  rw [Bool.eq_false_iff]
  intro e
  rw [same_iff] at e
  exact h (by rw [e])
theorem wake_app : ships twoL tPath.data.toList = true := by
  have h1 : ok tPath.data.toList = true := by kernel_rfl
  have h2 : nameOf tPath.data.toList = tApp := by kernel_rfl
  have h3 : first tApp twoL = some ⟨tApp, true⟩ := by unfold twoL; rw [first, same_iff.2 rfl, if_pos rfl]
  unfold ships
  rw [of_some h1 (by rw [h2]; exact h3)]
  rfl
theorem wake_ops : ships twoL [111, 112, 115, 47, 107] = false := by
  have h1 : ok [111, 112, 115, 47, 107] = true := by kernel_rfl
  have h2 : nameOf [111, 112, 115, 47, 107] = tOps := by kernel_rfl
  have h3 : first tOps twoL = some ⟨tOps, false⟩ := by
    unfold twoL
    rw [first, same_no (by decide), first, same_iff.2 rfl]
    rfl
  unfold ships
  rw [of_some h1 (by rw [h2]; exact h3)]
  rfl
end Pa
set_option maxRecDepth 100000 in
theorem two11_any (w : World) : Calls Try.prog 23 #[] w fun e w' => (∃ A, e = .returned (.slice A 2 2) ∧ Pa.listAt w' A Pa.twoL) ∧ Below w.heap.size w w' := by
  have g := heap_alloc_new w (.cells #[.string ⟨#[97, 112, 112]⟩, .bool true, .string ⟨#[111, 112, 115]⟩, .bool false] 32)
  go_enter Try.func23, Try.ntmps23
  go_wp2
  go_ret
  refine ⟨⟨_, rfl, .inr ⟨w.heap.size, 0, rfl, Sm.lt_of g, fun k hk => ?_⟩⟩, (Below.refl _ w).alloc (Nat.le_refl _) _⟩
  have hk2 : k < 2 := hk
  obtain rfl | rfl : k = 0 ∨ k = 1 := by omega
  · exact ⟨Sm.cells_of g 0 _ rfl, Sm.cells_of g 1 _ rfl⟩
  · exact ⟨Sm.cells_of g 2 _ rfl, Sm.cells_of g 3 _ rfl⟩
set_option maxRecDepth 100000 in
set_option maxHeartbeats 1000000 in
theorem awake11_any (w : World) : Calls Try.prog 9 #[] w fun e w' => e = .returned (.bool true) ∧ Below w.heap.size w w' := by
  have CU := Lib.hid (paCut_any w Pa.tPath (by decide))
  rw [Pa.wake_cut] at CU
  have JO := Lib.hid (fun wx => paJoin_any wx Pa.tApp Pa.tDb)
  rw [Pa.wake_join, Pa.wake_both] at JO
  have SA : Hid (∀ wx A, Pa.listAt wx A Pa.twoL → Calls Try.prog 20 #[.slice A 2 2, .string ⟨#[97, 112, 112, 47, 100, 98]⟩] wx fun e w' => e = .returned (.bool true) ∧ Below wx.heap.size wx w') := fun wx A h => by
    have := paShips_any 2 h (by decide) Pa.tPath (by decide)
    rwa [Pa.wake_app] at this
  have SO : Hid (∀ wx A, Pa.listAt wx A Pa.twoL → Calls Try.prog 20 #[.slice A 2 2, .string ⟨#[111, 112, 115, 47, 107]⟩] wx fun e w' => e = .returned (.bool false) ∧ Below wx.heap.size wx w') := fun wx A h => by
    have := paShips_any 2 h (by decide) ⟨#[111, 112, 115, 47, 107]⟩ (by decide)
    rwa [Pa.wake_ops] at this
  have TW := Lib.hid (fun wx => two11_any wx)
  unfold Pa.tApp Pa.tDb Pa.tPath at *
  go_enter Try.func9, Try.ntmps9
  go_wp2_with fail
  refine CU.out.mono ?_
  rintro e w1 ⟨rfl, b1⟩
  go_wp2_with fail
  refine (JO.out _).mono ?_
  rintro e w2 ⟨rfl, rfl⟩
  go_wp2_with fail
  refine (TW.out _).mono ?_
  rintro e w3 ⟨⟨A, rfl, h3⟩, b3⟩
  go_wp2_with fail
  refine (SA.out _ _ h3).mono ?_
  rintro e w4 ⟨rfl, b4⟩
  go_wp2_with fail
  refine (TW.out _).mono ?_
  rintro e w5 ⟨⟨A2, rfl, h5⟩, b5⟩
  go_wp2_with fail
  refine (SO.out _ _ h5).mono ?_
  rintro e w6 ⟨rfl, b6⟩
  go_wp2_with fail
  go_ret
  have c3 := b1.trans (b3.mono b1.size)
  have c4 := c3.trans (b4.mono c3.size)
  have c5 := c4.trans (b5.mono c4.size)
  exact ⟨rfl, c5.trans (b6.mono c5.size)⟩
end Go.Proofs.Ytmackgocieodjaa
