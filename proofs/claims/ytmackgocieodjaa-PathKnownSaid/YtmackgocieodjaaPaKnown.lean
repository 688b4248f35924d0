/-
  PathKnown.
-/
import Derived.Test.YtmackgocieodjaaPaBackLaw
import Derived.Test.YtmackgocieodjaaPaTurned
namespace Go.Proofs.Ytmackgocieodjaa
open Go.RowKit
namespace Pa
def badL : List ByteArray := [⟨#[97, 112, 112, 47]⟩, ⟨#[47, 100, 98]⟩, ⟨#[97, 112, 112, 47, 97, 47, 98]⟩, ⟨#[65, 112, 112, 47, 120]⟩, ⟨#[97, 112, 112]⟩, ⟨#[]⟩, ⟨#[47]⟩, ⟨#[97, 98, 99, 100, 101, 102, 103, 104, 105, 47, 120]⟩, ⟨#[97, 112, 112, 47, 48, 49, 50, 51, 52, 53, 54, 55, 56, 57, 48, 49, 50, 51, 52, 53, 54, 55, 56, 57, 48, 49, 50, 51, 52]⟩, ⟨#[97, 112, 112, 47, 97, 0]⟩]
theorem bad_all : ∀ k < 10, ok (badL.getD k ByteArray.empty).data.toList = false ∧ (badL.getD k ByteArray.empty).size ≤ 281474976710656 := by decide +kernel
theorem bad_cells : (badL.map Value.string).toArray = #[.string ⟨#[97, 112, 112, 47]⟩, .string ⟨#[47, 100, 98]⟩, .string ⟨#[97, 112, 112, 47, 97, 47, 98]⟩, .string ⟨#[65, 112, 112, 47, 120]⟩, .string ⟨#[97, 112, 112]⟩, .string ⟨#[]⟩, .string ⟨#[47]⟩, .string ⟨#[97, 98, 99, 100, 101, 102, 103, 104, 105, 47, 120]⟩, .string ⟨#[97, 112, 112, 47, 48, 49, 50, 51, 52, 53, 54, 55, 56, 57, 48, 49, 50, 51, 52, 53, 54, 55, 56, 57, 48, 49, 50, 51, 52]⟩, .string ⟨#[97, 112, 112, 47, 97, 0]⟩] := by rfl
def longT : ByteArray := ⟨#[97, 98, 99, 100, 101, 102, 103, 104, 47, 48, 49, 50, 51, 52, 53, 54, 55, 56, 57, 48, 49, 50, 51, 52, 53, 54, 55, 56, 57, 48, 49, 50, 51]⟩
theorem long_ok : ok longT.data.toList = true := by decide +kernel
theorem cut_long : ∃ x y, cutV longT.data.toList = .tuple #[.string x, .string y, .bool true] := ⟨⟨(cutA longT.data.toList).toArray⟩, ⟨(cutB longT.data.toList).toArray⟩, by unfold cutV; rw [long_ok]⟩
theorem rightly_of {l : List Mo} (h1 : 1 ≤ l.length ∧ l.length ≤ 4) (h2 : l.all (fun m => named m.n.data.toList) = true) (h3 : (l.map (fun m => m.n.data.toList)).Nodup) : Rightly l := by
  rw [rightly_iff]
  refine ⟨h1, fun j h => ?_, fun j k hj hk hne e => ?_⟩
  · rw [List.all_eq_true] at h2
    exact h2 _ (List.getElem_mem h)
  · have hp := List.pairwise_iff_getElem.1 h3
    by_cases hlt : j < k
    · exact hp j k (by simpa using hj) (by simpa using hk) hlt (by simp [e])
    · exact hp k j (by simpa using hk) (by simpa using hj) (by omega) (by simp [e])
def fiveL : List Mo := [⟨⟨#[97]⟩, false⟩, ⟨⟨#[98]⟩, false⟩, ⟨⟨#[99]⟩, false⟩, ⟨⟨#[100]⟩, false⟩, ⟨⟨#[101]⟩, false⟩]
def fourL : List Mo := [⟨⟨#[97]⟩, false⟩, ⟨⟨#[98]⟩, false⟩, ⟨⟨#[99]⟩, false⟩, ⟨⟨#[100]⟩, false⟩]
def dupL : List Mo := [⟨tApp, false⟩, ⟨tApp, true⟩]
def voidL : List Mo := [⟨⟨#[]⟩, false⟩]
theorem right_two : Rightly twoL := rightly_of (by decide) (by decide +kernel) (by decide +kernel)
theorem right_four : Rightly fourL := rightly_of (by decide) (by decide +kernel) (by decide +kernel)
theorem right_five : ¬ Rightly fiveL := fun h => absurd h.1.2 (by decide)
theorem right_dup : ¬ Rightly dupL := fun h => (rightly_iff.1 h).2.2 0 1 (by decide) (by decide) (by decide) rfl
theorem right_void : ¬ Rightly voidL := fun h => absurd ((rightly_iff.1 h).2.1 0 (by decide)) (by decide +kernel)
theorem right_nil : ¬ Rightly [] := fun h => absurd h.1.1 (by decide)
theorem of_app : ofV (of3 twoL [97, 112, 112, 47, 100, 98]) = .tuple #[.agg #[.string ⟨#[97, 112, 112]⟩, .bool true], .int .i64 0] := by
  have h1 : ok [97, 112, 112, 47, 100, 98] = true := by decide +kernel
  have h2 : nameOf [97, 112, 112, 47, 100, 98] = tApp := by kernel_rfl
  have h3 : first tApp twoL = some ⟨tApp, true⟩ := by unfold twoL; rw [first, same_iff.2 rfl, if_pos rfl]
  rw [of_some h1 (by rw [h2]; exact h3), h2]
  rfl
theorem of_web : ofV (of3 twoL [119, 101, 98, 47, 120]) = .tuple #[.agg #[.string ⟨#[]⟩, .bool false], .int .i64 21] := by
  have h1 : ok [119, 101, 98, 47, 120] = true := by decide +kernel
  have h2 : nameOf [119, 101, 98, 47, 120] = ⟨#[119, 101, 98]⟩ := by kernel_rfl
  have h3 : first ⟨#[119, 101, 98]⟩ twoL = none := by unfold twoL; rw [first, same_no (by decide), first, same_no (by decide)]; rfl
  rw [of_none h1 (by rw [h2]; exact h3)]
  rfl
theorem of_key : ofV (of3 twoL [97, 112, 112]) = .tuple #[.agg #[.string ⟨#[]⟩, .bool false], .int .i64 20] := by
  rw [of_bad (by decide +kernel)]
  rfl
theorem both_no1 : both ⟨#[97, 112, 112]⟩ ⟨#[97, 47, 98]⟩ = false := by decide +kernel
theorem both_no2 : both ⟨#[110, 105, 110, 101, 99, 104, 97, 114, 115]⟩ ⟨#[120]⟩ = false := by decide +kernel
theorem two_take : twoL.take 1 = [⟨tApp, true⟩] := rfl
theorem two_ne : twoL ≠ [⟨tApp, true⟩] := fun h => by have := congrArg List.length h; exact absurd this (by decide)
/-- A slice of mounts laid anew. -/
theorem list_new {w : World} {l : List Mo} {cs : Array Value} (hc : cs.toList = flat l) : listAt (w.alloc (.cells cs 32)) (some ⟨w.heap.size, 0, none⟩) l := by
  have g := heap_alloc_new w (.cells cs 32)
  refine .inr ⟨w.heap.size, 0, rfl, Sm.lt_of g, fun k hk => ?_⟩
  obtain ⟨f0, f1⟩ := flat_get hk
  rw [← hc] at f0 f1
  rw [Nat.zero_add]
  exact ⟨Sm.cells_of g _ _ (by rw [← f0, Array.getElem?_toList]), Sm.cells_of g _ _ (by rw [← f1, Array.getElem?_toList])⟩
theorem listAt.take {w : World} {A : Option Addr} {l : List Mo} (h : listAt w A l) (n : Nat) : listAt w A (l.take n) := by
  rcases h with rfl | ⟨b, off, h1, h2, h3⟩
  · exact .inl (by simp)
  · exact .inr ⟨b, off, h1, h2, h3.take n⟩
theorem four_of {w : World} {A : Option Addr} (h : listAt w A fiveL) : listAt w A fourL := h.take 4
theorem one_of {w : World} {A : Option Addr} (h : listAt w A twoL) : listAt w A [⟨tApp, true⟩] := h.take 1
end Pa
set_option maxRecDepth 100000 in
theorem two11_at (w : World) : Calls Try.prog 23 #[] w fun e w' => (∃ b, e = .returned (.slice (some ⟨b, 0, none⟩) 2 2) ∧ Pa.listAt w' (some ⟨b, 0, none⟩) Pa.twoL) ∧ Below w.heap.size w w' := by
  go_enter Try.func23, Try.ntmps23
  go_wp2
  go_ret
  exact ⟨⟨_, rfl, Pa.list_new rfl⟩, (Below.refl _ w).alloc (Nat.le_refl _) _⟩
set_option maxRecDepth 100000 in
set_option maxHeartbeats 4000000 in
theorem pathknown_any (w : World) : Calls Try.prog 8 #[] w fun e w' => e = .returned (.bool true) ∧ Below w.heap.size w w' := by
  have AW := Lib.hid (fun wx => awake11_any wx)
  have TW := Lib.hid (fun wx => two11_at wx)
  have CB : Hid (∀ wx k, k < 10 → Calls Try.prog 10 #[.string (Pa.badL.getD k ByteArray.empty)] wx fun e w' => e = .returned (.tuple #[.string ⟨#[]⟩, .string ⟨#[]⟩, .bool false]) ∧ Below wx.heap.size wx w') := fun wx k hk => by
    have := paCut_any wx (Pa.badL.getD k ByteArray.empty) (Pa.bad_all k hk).2
    rwa [Pa.cut_no (Pa.bad_all k hk).1] at this
  have CL : Hid (∀ wx, Calls Try.prog 10 #[.string ⟨#[97, 98, 99, 100, 101, 102, 103, 104, 47, 48, 49, 50, 51, 52, 53, 54, 55, 56, 57, 48, 49, 50, 51, 52, 53, 54, 55, 56, 57, 48, 49, 50, 51]⟩] wx fun e w' => (∃ x y, e = .returned (.tuple #[.string x, .string y, .bool true])) ∧ Below wx.heap.size wx w') := fun wx => by
    obtain ⟨x, y, h⟩ := Pa.cut_long
    refine (paCut_any wx Pa.longT (by decide)).mono ?_
    rintro e w' ⟨he, hb⟩
    rw [h] at he
    exact ⟨⟨x, y, he⟩, hb⟩
  have J1 : Hid (∀ wx, Calls Try.prog 12 #[.string ⟨#[97, 112, 112]⟩, .string ⟨#[97, 47, 98]⟩] wx fun e w' => e = .returned (.tuple #[.string ⟨#[]⟩, .bool false]) ∧ wx = w') := fun wx => by
    have := paJoin_any wx ⟨#[97, 112, 112]⟩ ⟨#[97, 47, 98]⟩
    rwa [Pa.join_no Pa.both_no1, Pa.both_no1] at this
  have J2 : Hid (∀ wx, Calls Try.prog 12 #[.string ⟨#[110, 105, 110, 101, 99, 104, 97, 114, 115]⟩, .string ⟨#[120]⟩] wx fun e w' => e = .returned (.tuple #[.string ⟨#[]⟩, .bool false]) ∧ wx = w') := fun wx => by
    have := paJoin_any wx ⟨#[110, 105, 110, 101, 99, 104, 97, 114, 115]⟩ ⟨#[120]⟩
    rwa [Pa.join_no Pa.both_no2, Pa.both_no2] at this
  have OA : Hid (∀ wx b, Pa.listAt wx (some ⟨b, 0, none⟩) Pa.twoL → Calls Try.prog 16 #[.slice (some ⟨b, 0, none⟩) 2 2, .string ⟨#[97, 112, 112, 47, 100, 98]⟩] wx fun e w' => e = .returned (.tuple #[.agg #[.string ⟨#[97, 112, 112]⟩, .bool true], .int .i64 0]) ∧ Below wx.heap.size wx w') := fun wx b h => by
    have := paOf_any 2 h (by decide) ⟨#[97, 112, 112, 47, 100, 98]⟩ (by decide)
    rwa [Pa.of_app] at this
  have OW : Hid (∀ wx b, Pa.listAt wx (some ⟨b, 0, none⟩) Pa.twoL → Calls Try.prog 16 #[.slice (some ⟨b, 0, none⟩) 2 2, .string ⟨#[119, 101, 98, 47, 120]⟩] wx fun e w' => e = .returned (.tuple #[.agg #[.string ⟨#[]⟩, .bool false], .int .i64 21]) ∧ Below wx.heap.size wx w') := fun wx b h => by
    have := paOf_any 2 h (by decide) ⟨#[119, 101, 98, 47, 120]⟩ (by decide)
    rwa [Pa.of_web] at this
  have OK : Hid (∀ wx b, Pa.listAt wx (some ⟨b, 0, none⟩) Pa.twoL → Calls Try.prog 16 #[.slice (some ⟨b, 0, none⟩) 2 2, .string ⟨#[97, 112, 112]⟩] wx fun e w' => e = .returned (.tuple #[.agg #[.string ⟨#[]⟩, .bool false], .int .i64 20]) ∧ Below wx.heap.size wx w') := fun wx b h => by
    have := paOf_any 2 h (by decide) ⟨#[97, 112, 112]⟩ (by decide)
    rwa [Pa.of_key] at this
  have RI : Hid (∀ wx A c l (g : Bool), Pa.listAt wx A l → l.length ≤ c → c ≤ 9223372036854775807 → (g = true ↔ Pa.Rightly l) → Calls Try.prog 18 #[.slice A l.length c] wx fun e w' => e = .returned (.bool g) ∧ Below wx.heap.size wx w') := fun wx A c l g h1 h2 h3 h4 => paRight_any h1 h2 h3 g h4
  have SM : Hid (∀ wx A C l m c d (g : Bool), Pa.listAt wx A l → Pa.listAt wx C m → l.length ≤ 9223372036854775807 → (g = true ↔ l = m) → Calls Try.prog 22 #[.slice A l.length c, .slice C m.length d] wx fun e w' => e = .returned (.bool g) ∧ Below wx.heap.size wx w') := fun wx A C l m c d g h1 h2 h3 h4 => paSame_any c d h1 h2 h3 g h4
  obtain ⟨W, hW⟩ : ∃ W, W = w.alloc (.cells #[.string ⟨#[97, 112, 112, 47]⟩, .string ⟨#[47, 100, 98]⟩, .string ⟨#[97, 112, 112, 47, 97, 47, 98]⟩, .string ⟨#[65, 112, 112, 47, 120]⟩, .string ⟨#[97, 112, 112]⟩, .string ⟨#[]⟩, .string ⟨#[47]⟩, .string ⟨#[97, 98, 99, 100, 101, 102, 103, 104, 105, 47, 120]⟩, .string ⟨#[97, 112, 112, 47, 48, 49, 50, 51, 52, 53, 54, 55, 56, 57, 48, 49, 50, 51, 52, 53, 54, 55, 56, 57, 48, 49, 50, 51, 52]⟩, .string ⟨#[97, 112, 112, 47, 97, 0]⟩] 9) := ⟨_, rfl⟩
  obtain ⟨N, hN⟩ : ∃ N, N = w.heap.size := ⟨_, rfl⟩
  have bW : Below w.heap.size w W := by rw [hW]; exact (Below.refl _ w).alloc (Nat.le_refl _) _
  have gW : ∀ k < 10, W.cell? ⟨N, k, none⟩ = some (.string (Pa.badL.getD k ByteArray.empty)) := fun k hk => by
    have g := heap_alloc_new w (.cells #[.string ⟨#[97, 112, 112, 47]⟩, .string ⟨#[47, 100, 98]⟩, .string ⟨#[97, 112, 112, 47, 97, 47, 98]⟩, .string ⟨#[65, 112, 112, 47, 120]⟩, .string ⟨#[97, 112, 112]⟩, .string ⟨#[]⟩, .string ⟨#[47]⟩, .string ⟨#[97, 98, 99, 100, 101, 102, 103, 104, 105, 47, 120]⟩, .string ⟨#[97, 112, 112, 47, 48, 49, 50, 51, 52, 53, 54, 55, 56, 57, 48, 49, 50, 51, 52, 53, 54, 55, 56, 57, 48, 49, 50, 51, 52]⟩, .string ⟨#[97, 112, 112, 47, 97, 0]⟩] 9)
    rw [← hW, ← hN] at g
    refine Sm.cells_of g k _ ?_
    rw [← Pa.bad_cells, List.getElem?_toArray, List.getElem?_map]
    have : k < Pa.badL.length := hk
    simp [this]
  have hNW : N < W.heap.size := by rw [hW, hN]; simp
  have HW := Lib.hid hW
  have HN := Lib.hid hN
  have GW := Lib.hid gW
  have BW := Lib.hid bW
  clear hW hN gW bW
  go_enter Try.func8, Try.ntmps8
  go_wp2
  rw [← HW.out, ← HN.out]
  go_loopw [23] (fun s23 wr => ∃ k : Nat, s23 = .int .i64 k ∧ k ≤ 10 ∧ Below W.heap.size W wr) (fun s23 _ => 10 - (intOf s23).toNat)
  case atStart => exact ⟨0, rfl, by omega, Below.refl _ W⟩
  case round =>
    obtain ⟨k, rfl, hk, hb⟩ := hrel
    by_cases hlt : k < 10
    · have hki : (k : Int) < 10 := by omega
      have hsuc : IntKind.i64.wrap ((k : Int) + 1) = ((k + 1 : Nat) : Int) := by simp [IntKind.wrap, IntKind.bits, IntKind.signed]; omega
      have c0 := (hb.cell (p := ⟨N, k, none⟩) hNW).trans (GW.out k hlt)
      have CK := Lib.hid (CB.out wr k hlt)
      obtain ⟨s, hs⟩ : ∃ s, s = Pa.badL.getD k ByteArray.empty := ⟨_, rfl⟩
      rw [← hs] at c0 CK
      clear hs
      go_wp2_with fail
      refine CK.out.mono ?_
      rintro e w2 ⟨rfl, b2⟩
      go_wp2_with fail
      go_roundw
      case rel => exact ⟨k + 1, rfl, by omega, hb.trans (b2.mono hb.size)⟩
      case measure => simp only [intOf]; omega
    · have hki : ¬ (k : Int) < 10 := by omega
      have BR := Lib.hid (BW.out.trans (hb.mono BW.out.size))
      clear hb CB
      go_wp2_with fail
      refine (CL.out _).mono ?_
      rintro e w2 ⟨⟨x, y, rfl⟩, b2⟩
      have B2 := Lib.hid (BR.out.trans (b2.mono BR.out.size))
      clear b2
      go_wp2_with fail
      refine (J1.out _).mono ?_
      rintro e w3 ⟨rfl, rfl⟩
      go_wp2_with fail
      refine (J2.out _).mono ?_
      rintro e w3 ⟨rfl, rfl⟩
      go_wp2_with fail

      refine (TW.out _).mono ?_
      rintro e w3 ⟨⟨b3, rfl, l3⟩, k3⟩
      have B3 := Lib.hid (B2.out.trans (k3.mono B2.out.size))
      clear k3
      go_wp2_with fail
      refine (OA.out _ _ l3).mono ?_
      rintro e w4 ⟨rfl, k4⟩
      have B4 := Lib.hid (B3.out.trans (k4.mono B3.out.size))
      clear k4 l3
      have j5 : Below w4.heap.size w4 (w4.alloc (.cells #[.string ⟨#[97, 112, 112]⟩, .bool true] 32)) := (Below.refl _ w4).alloc (Nat.le_refl _) _
      have B5 := Lib.hid (B4.out.trans (j5.mono B4.out.size))
      have g5 := heap_alloc_new w4 (.cells #[.string ⟨#[97, 112, 112]⟩, .bool true] 32)
      go_wp2_with fail
      obtain ⟨N1, hN1⟩ : ∃ n, n = w4.heap.size := ⟨_, rfl⟩
      rw [← hN1] at g5 ⊢
      clear hN1
      generalize w4.alloc (.cells #[.string ⟨#[97, 112, 112]⟩, .bool true] 32) = w5 at *
      clear j5
      refine (TW.out _).mono ?_
      rintro e w6 ⟨⟨b6, rfl, l6⟩, k6⟩
      have B6 := Lib.hid (B5.out.trans (k6.mono B5.out.size))
      have g6 := (k6.block N1 (Sm.lt_of g5)).trans g5
      clear k6
      go_wp2_with fail
      refine (OW.out _ _ l6).mono ?_
      rintro e w7 ⟨rfl, k7⟩
      have B7 := Lib.hid (B6.out.trans (k7.mono B6.out.size))
      have g7 := (k7.block N1 (Sm.lt_of g6)).trans g6
      clear k7 l6
      have j8 : Below w7.heap.size w7 (w7.alloc (.cells #[.string ⟨#[]⟩, .bool false] 32)) := (Below.refl _ w7).alloc (Nat.le_refl _) _
      have B8 := Lib.hid (B7.out.trans (j8.mono B7.out.size))
      have g8 := (j8.block N1 (Sm.lt_of g7)).trans g7
      go_wp2_with fail
      generalize w7.alloc (.cells #[.string ⟨#[]⟩, .bool false] 32) = w8 at *
      clear j8
      refine (TW.out _).mono ?_
      rintro e w9 ⟨⟨b9, rfl, l9⟩, k9⟩
      have B9 := Lib.hid (B8.out.trans (k9.mono B8.out.size))
      have g9 := (k9.block N1 (Sm.lt_of g8)).trans g8
      clear k9
      go_wp2_with fail
      refine (OK.out _ _ l9).mono ?_
      rintro e w10 ⟨rfl, k10⟩
      have B10 := Lib.hid (B9.out.trans (k10.mono B9.out.size))
      have g10 := (k10.block N1 (Sm.lt_of g9)).trans g9
      clear k10 l9
      have j11 : Below w10.heap.size w10 (w10.alloc (.cells #[.string ⟨#[]⟩, .bool false] 32)) := (Below.refl _ w10).alloc (Nat.le_refl _) _
      have B11 := Lib.hid (B10.out.trans (j11.mono B10.out.size))
      have g11 := (j11.block N1 (Sm.lt_of g10)).trans g10
      go_wp2_with fail
      clear j11
      have hsz : w10.heap.size + 1 = (w10.alloc (.cells #[.string ⟨#[]⟩, .bool false] 32)).heap.size := by simp
      rw [hsz]
      clear hsz
      generalize w10.alloc (.cells #[.string ⟨#[]⟩, .bool false] 32) = w11 at *
      have k12 : Below w11.heap.size w11 (w11.alloc (.cells #[.string ⟨#[97]⟩, .bool false, .string ⟨#[98]⟩, .bool false, .string ⟨#[99]⟩, .bool false, .string ⟨#[100]⟩, .bool false, .string ⟨#[101]⟩, .bool false] 32)) := (Below.refl _ w11).alloc (Nat.le_refl _) _
      have L12 := Lib.hid (Pa.list_new (w := w11) (l := Pa.fiveL) (cs := #[.string ⟨#[97]⟩, .bool false, .string ⟨#[98]⟩, .bool false, .string ⟨#[99]⟩, .bool false, .string ⟨#[100]⟩, .bool false, .string ⟨#[101]⟩, .bool false]) rfl)
      have g12 := (k12.block N1 (Sm.lt_of g11)).trans g11
      have B12 := Lib.hid (B11.out.trans (k12.mono B11.out.size))
      obtain ⟨N5, hN5⟩ : ∃ n, n = w11.heap.size := ⟨_, rfl⟩
      rw [← hN5] at L12 ⊢
      clear hN5 k12 g11
      generalize w11.alloc (.cells #[.string ⟨#[97]⟩, .bool false, .string ⟨#[98]⟩, .bool false, .string ⟨#[99]⟩, .bool false, .string ⟨#[100]⟩, .bool false, .string ⟨#[101]⟩, .bool false] 32) = w12 at *
      refine (TW.out _).mono ?_
      rintro e w13 ⟨⟨b13, rfl, l13⟩, k13⟩
      have B13 := Lib.hid (B12.out.trans (k13.mono B12.out.size))
      have g13 := (k13.block N1 (Sm.lt_of g12)).trans g12
      have L13 := Lib.hid (L12.out.below k13)
      clear k13 g12 L12 B12
      go_wp2_with fail
      refine (RI.out _ _ 2 Pa.twoL true l13 (by decide) (by decide) (by simp [Pa.right_two])).mono ?_
      rintro e w14 ⟨rfl, k14⟩
      have B14 := Lib.hid (B13.out.trans (k14.mono B13.out.size))
      have g14 := (k14.block N1 (Sm.lt_of g13)).trans g13
      have L14 := Lib.hid (L13.out.below k14)
      clear k14 g13 L13 B13
      clear l13
      go_wp2_with fail
      refine (RI.out _ none 0 [] false (.inl rfl) (by decide) (by decide) (by simp [Pa.right_nil])).mono ?_
      rintro e w15 ⟨rfl, k15⟩
      have B15 := Lib.hid (B14.out.trans (k15.mono B14.out.size))
      have g15 := (k15.block N1 (Sm.lt_of g14)).trans g14
      have L15 := Lib.hid (L14.out.below k15)
      clear k15 g14 L14 B14
      go_wp2_with fail
      have k16 : Below w15.heap.size w15 (w15.alloc (.cells #[.string ⟨#[97, 112, 112]⟩, .bool false, .string ⟨#[97, 112, 112]⟩, .bool true] 32)) := (Below.refl _ w15).alloc (Nat.le_refl _) _
      have x16 := Pa.list_new (w := w15) (l := Pa.dupL) (cs := #[.string ⟨#[97, 112, 112]⟩, .bool false, .string ⟨#[97, 112, 112]⟩, .bool true]) rfl
      have B16 := Lib.hid (B15.out.trans (k16.mono B15.out.size))
      have g16 := (k16.block N1 (Sm.lt_of g15)).trans g15
      have L16 := Lib.hid (L15.out.below k16)
      clear k16 g15 L15 B15
      generalize w15.alloc (.cells #[.string ⟨#[97, 112, 112]⟩, .bool false, .string ⟨#[97, 112, 112]⟩, .bool true] 32) = w16 at *
      refine (RI.out _ _ 2 Pa.dupL false x16 (by decide) (by decide) (by simp [Pa.right_dup])).mono ?_
      rintro e w17 ⟨rfl, k17⟩
      have B17 := Lib.hid (B16.out.trans (k17.mono B16.out.size))
      have g17 := (k17.block N1 (Sm.lt_of g16)).trans g16
      have L17 := Lib.hid (L16.out.below k17)
      clear k17 g16 L16 B16
      go_wp2_with fail
      refine (RI.out _ _ 5 Pa.fiveL false L17.out (by decide) (by decide) (by simp [Pa.right_five])).mono ?_
      rintro e w18 ⟨rfl, k18⟩
      have B18 := Lib.hid (B17.out.trans (k18.mono B17.out.size))
      have g18 := (k18.block N1 (Sm.lt_of g17)).trans g17
      have L18 := Lib.hid (L17.out.below k18)
      clear k18 g17 L17 B17
      go_wp2_with fail
      refine (RI.out _ _ 5 Pa.fourL true (Pa.four_of L18.out) (by decide) (by decide) (by simp [Pa.right_four])).mono ?_
      rintro e w19 ⟨rfl, k19⟩
      have B19 := Lib.hid (B18.out.trans (k19.mono B18.out.size))
      have g19 := (k19.block N1 (Sm.lt_of g18)).trans g18
      have L19 := Lib.hid (L18.out.below k19)
      clear k19 g18 L18 B18
      go_wp2_with fail
      have k20 : Below w19.heap.size w19 (w19.alloc (.cells #[.string ⟨#[]⟩, .bool false] 32)) := (Below.refl _ w19).alloc (Nat.le_refl _) _
      have x20 := Pa.list_new (w := w19) (l := Pa.voidL) (cs := #[.string ⟨#[]⟩, .bool false]) rfl
      have B20 := Lib.hid (B19.out.trans (k20.mono B19.out.size))
      have g20 := (k20.block N1 (Sm.lt_of g19)).trans g19
      have L20 := Lib.hid (L19.out.below k20)
      clear k20 g19 L19 B19
      generalize w19.alloc (.cells #[.string ⟨#[]⟩, .bool false] 32) = w20 at *
      refine (RI.out _ _ 1 Pa.voidL false x20 (by decide) (by decide) (by simp [Pa.right_void])).mono ?_
      rintro e w21 ⟨rfl, k21⟩
      have B21 := Lib.hid (B20.out.trans (k21.mono B20.out.size))
      have g21 := (k21.block N1 (Sm.lt_of g20)).trans g20
      have L21 := Lib.hid (L20.out.below k21)
      clear k21 g20 L20 B20
      have c0 := Sm.cells_of g21 0 _ rfl
      go_wp2_with fail
      refine (SM.out _ none none [] [] 0 0 true (.inl rfl) (.inl rfl) (by decide) (by simp)).mono ?_
      rintro e w22 ⟨rfl, k22⟩
      have B22 := Lib.hid (B21.out.trans (k22.mono B21.out.size))
      have g22 := (k22.block N1 (Sm.lt_of g21)).trans g21
      have L22 := Lib.hid (L21.out.below k22)
      clear k22 g21 L21 B21
      clear c0
      go_wp2_with fail
      refine (TW.out _).mono ?_
      rintro e w23 ⟨⟨ba, rfl, la⟩, k23⟩
      have B23 := Lib.hid (B22.out.trans (k23.mono B22.out.size))
      have g23 := (k23.block N1 (Sm.lt_of g22)).trans g22
      have L23 := Lib.hid (L22.out.below k23)
      clear k23 g22 L22 B22
      go_wp2_with fail
      refine (TW.out _).mono ?_
      rintro e w24 ⟨⟨bb, rfl, lb⟩, k24⟩
      have B24 := Lib.hid (B23.out.trans (k24.mono B23.out.size))
      have g24 := (k24.block N1 (Sm.lt_of g23)).trans g23
      have L24 := Lib.hid (L23.out.below k24)
      have la := la.below k24
      clear k24 g23 L23 B23
      go_wp2_with fail
      refine (SM.out _ _ _ Pa.twoL [⟨Pa.tApp, true⟩] 2 2 false la (Pa.one_of lb) (by decide) (by simp [Pa.two_ne])).mono ?_
      rintro e w25 ⟨rfl, k25⟩
      have B25 := Lib.hid (B24.out.trans (k25.mono B24.out.size))
      have g25 := (k25.block N1 (Sm.lt_of g24)).trans g24
      have L25 := Lib.hid (L24.out.below k25)
      clear k25 g24 L24 B24
      go_wp2_with fail
      refine (AW.out _).mono ?_
      rintro e w26 ⟨rfl, k26⟩
      have B26 := Lib.hid (B25.out.trans (k26.mono B25.out.size))
      have g26 := (k26.block N1 (Sm.lt_of g25)).trans g25
      have L26 := Lib.hid (L25.out.below k26)
      clear k26 g25 L25 B25
      go_wp2_with fail
      go_ret
      exact ⟨rfl, B26.out⟩
end Go.Proofs.Ytmackgocieodjaa
