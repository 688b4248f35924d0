/-
  The statements' own example about buckets.
-/
import Derived.Test.YthhmnbpabncdnaaDoorBuRead
namespace Go.Proofs.YthhmnbpabncdnaaDoor
open Go.RowKit
namespace Bu
theorem pageOneV : page 3 one = (sOne, 0) := by rw [page_good pageOne, bytesOne, Ba.ba_eq]
theorem one_at {w : World} {b : Nat} (h : w.heap[b]? = some (.cells #[.string tA, .string t1] 37 (0, 0))) : Om.listAt w (some ⟨b, 0, none⟩) one := .inr ⟨b, 0, rfl, Sm.lt_of h, fun k hk => by
  obtain rfl : k = 0 := by
    have : k < 1 := hk
    omega
  exact ⟨Sm.cells_of h 0 _ rfl, Sm.cells_of h 1 _ rfl⟩⟩
theorem one_small : ∀ x ∈ one, x.p.size ≤ 281474976710656 := by
  intro x hx
  simp only [one, List.mem_cons, List.not_mem_nil, or_false] at hx
  subst hx
  decide
end Bu
set_option maxRecDepth 100000 in
set_option maxHeartbeats 2000000 in
theorem awake14_any {w : World} (hH : Sm.HAt w) (hK : Sm.KAt w) (hsz : 1 < w.heap.size) :
    Calls Tryd.prog 12 #[] w fun e w' => e = .returned (.bool true) ∧ Below w.heap.size w w' := by
  have OF : Hid (Calls Tryd.prog 13 #[.string ⟨#[97, 112, 112, 47, 97]⟩] w fun e w' => e = .returned (.int .i64 3) ∧ Below w.heap.size w w') := by
    have := buOf_any hH hK hsz Bu.tA (by decide)
    rw [Bu.bkA] at this
    exact this
  have PG : Hid (∀ (wx : World) (b : Nat), Below w.heap.size w wx → wx.heap[b]? = some (.cells #[.string Bu.tA, .string Bu.t1] 37 (0, 0)) → Calls Tryd.prog 20 #[.int .i64 3, .slice (some ⟨b, 0, none⟩) 1 1] wx fun e w' => e = .returned (.tuple #[.string ⟨#[1, 5, 97, 112, 112, 47, 97, 1, 49]⟩, .int .i64 0]) ∧ Below wx.heap.size wx w') := fun wx b hb h => by
    have := buPage_any (hH.low hb (by omega)) (hK.low hb hsz) (Nat.lt_of_lt_of_le hsz hb.size) 3 1 (Bu.one_at h) (by decide) Bu.one_small
    rw [Bu.pageOneV] at this
    exact this
  have RD : Hid (∀ (wx : World), Below w.heap.size w wx → Calls Tryd.prog 22 #[.int .i64 3, .string ⟨#[1, 5, 97, 112, 112, 47, 97, 1, 49]⟩] wx fun e w' => ∃ A c, e = .returned (.tuple #[.slice A 1 c, .int .i64 0]) ∧ Om.Row w' wx.heap.size A c Bu.one ∧ Below wx.heap.size wx w') := fun wx hb => by
    have := buRead_any (hH.low hb (by omega)) (hK.low hb hsz) (Nat.lt_of_lt_of_le hsz hb.size) 3 Bu.sOne (by decide)
    rw [Bu.readOne] at this
    exact this
  clear hH hK hsz
  go_enter Tryd.func12, Tryd.ntmps12
  go_upto_region 2 with (go_at_call 13; refine OF.out.mono ?_; rintro e w1 ⟨rfl, k1⟩)
  have g2 := heap_alloc_new w1 (.cells #[.string Bu.tA, .string Bu.t1] 37)
  have B2 : Hid (Below w.heap.size w (w1.alloc (.cells #[.string Bu.tA, .string Bu.t1] 37))) := k1.alloc k1.size _
  have PG2 := Lib.hid (PG.out _ _ B2.out g2)
  clear g2
  go_upto_region 4 with first
    | (go_at_call 20; refine PG2.out.mono ?_; rintro e w3 ⟨rfl, k3⟩; have B3 : Hid (Below w.heap.size w w3) := B2.out.trans (k3.mono B2.out.size); clear k3)
    | (go_at_call 22; refine (RD.out _ B3.out).mono ?_; rintro e w4 ⟨A, c, rfl, hrow, k4⟩; have B4 : Hid (Below w.heap.size w w4) := B3.out.trans (k4.mono B3.out.size); clear k4)
  obtain ⟨b, off, rfl, -, x0, x1⟩ := hrow.listAt.get (Below.refl _ _) 0 (by decide)
  change w4.cell? ⟨b, off + 0 * 2 + 1, none⟩ = some (.string ⟨#[49]⟩) at x1
  rw [Nat.zero_mul, Nat.add_zero] at x1
  clear x0 hrow
  go_wp2
  go_ret
  exact ⟨rfl, B4.out⟩
end Go.Proofs.YthhmnbpabncdnaaDoor
