/-
  BucketHash answers true for every text, and turns nothing of what was there.
-/
import Derived.Test.YthhmnbpabncdnaaDoorBuAwake
import Derived.IntWalk
namespace Go.Proofs.YthhmnbpabncdnaaDoor
open Go.RowKit
namespace Bu
theorem w_and240 {n i : Nat} (h : n < 256) (e : n &&& 240 = i * 16) : bits .and .u8 (n : Int) 240 = ((i * 16 : Nat) : Int) := by
  have q := u8_and_nat n 240 h (by decide)
  rw [e] at q
  exact q
end Bu
set_option maxRecDepth 100000 in
set_option maxHeartbeats 2000000 in
theorem bucketHash_any {w : World} (hH : Sm.HAt w) (hK : Sm.KAt w) (hsz : 1 < w.heap.size) (p : ByteArray) (hp : p.size ≤ 9223372036854775807) :
    Calls Tryd.prog 8 #[.string p] w fun e w' => e = .returned (.bool true) ∧ Below w.heap.size w w' := by
  have AW : Hid (∀ wx : World, Below w.heap.size w wx → Calls Tryd.prog 12 #[] wx fun e w' => e = .returned (.bool true) ∧ Below wx.heap.size wx w') := fun wx hb => awake14_any (hH.low hb (by omega)) (hK.low hb hsz) (Nat.lt_of_lt_of_le hsz hb.size)
  by_cases hg : 1000 < p.size
  · have hgi : (1000 : Int) < (p.size : Int) := by omega
    clear hH hK hsz
    go_enter Tryd.func8, Tryd.ntmps8
    go_wp2_with (go_at_call 12; refine (AW.out _ (Below.refl _ _)).mono ?_; rintro e w1 ⟨rfl, k1⟩)
    go_ret
    exact ⟨rfl, k1⟩
  have hgi : ¬ (1000 : Int) < (p.size : Int) := by omega
  have HS := Lib.hid (sum_any p hH hK hsz (by omega))
  have OF : Hid (∀ wx : World, Below w.heap.size w wx → Calls Tryd.prog 13 #[.string p] wx fun e w' => e = .returned (.int .i64 (Bu.bk p : Nat)) ∧ Below wx.heap.size wx w') := fun wx hb => buOf_any (hH.low hb (by omega)) (hK.low hb hsz) (Nat.lt_of_lt_of_le hsz hb.size) p (by omega)
  have hbk := Bu.bk_getD p
  have hl := Sm.sum_length p.data.toList
  obtain ⟨L, hL⟩ : ∃ L, L = Sm.sum p.data.toList := ⟨_, rfl⟩
  rw [← hL] at HS hbk hl
  obtain ⟨b, hb⟩ : ∃ b, b = L.getD 0 0 := ⟨_, rfl⟩
  rw [← hb] at hbk
  obtain ⟨i, hi⟩ : ∃ i, i = Bu.bk p := ⟨_, rfl⟩
  rw [← hi] at hbk OF
  have hsz32 : (Lib.byteCells L).toArray.size = 32 := by rw [Sm.bytes_size, hl]
  have hone := Sm.bytes_one L
  obtain ⟨cs, hcs⟩ : ∃ c, c = (Lib.byteCells L).toArray := ⟨_, rfl⟩
  have HC : Hid (∀ {w : World} {N : Nat}, w.heap[N]? = some (.cells cs 39 (0, 0)) → w.cell? ⟨N, 0, none⟩ = some (.int .u8 (b.toNat : Int))) := by
    intro w N h
    rw [hcs] at h
    rw [hb]
    exact Sm.row_cell h 0 (by omega)
  rw [← hcs] at hsz32 hone HS
  have hb256 := b.toNat_lt
  obtain ⟨n, hn⟩ : ∃ n, n = b.toNat := ⟨_, rfl⟩
  rw [← hn] at hbk HC hb256
  obtain ⟨hm1, -, hm3⟩ := Bu.mask_four hb256
  rw [← hbk] at hm1 hm3
  have hi16 : i < 16 := by omega
  have hi16i : (i : Int) < 16 := by omega
  have hi0 : (0 : Int) ≤ (i : Int) := by omega
  have hw8 : IntKind.u8.wrap (i : Int) = (i : Int) := by rw [IntKind.wrap_u8]; omega
  have hw240 : bits .and .u8 (n : Int) 240 = (i : Int) * 16 := (Bu.w_and240 hb256 hm1).trans (by omega)
  have hw16 : IntKind.u8.wrap ((i : Int) * 16) = (i : Int) * 16 := by rw [IntKind.wrap_u8]; omega
  clear hL hb hcs hn hi hl hH hK hbk
  go_enter Tryd.func8, Tryd.ntmps8
  go_wp2_with fail
  refine HS.out.mono ?_
  rintro e w1 ⟨rfl, b1⟩
  have hst : ∀ (c : Array Value), c.size = 32 → (storeCells ⟨w1.heap.size, 0, none⟩ cs.toList).run Tryd.prog (w1.alloc (.cells c 39)) = .ok () (w1.alloc (.cells cs 39)) := fun c hc =>
    run_storeCells_new (P := Tryd.prog) w1 39 c cs (Sm.infoHash hsz32) (by rw [hsz32]; exact hc) hone
  have B2 := Lib.hid (b1.alloc b1.size (.cells cs 39))
  have g2 := heap_alloc_new w1 (.cells cs 39)
  have OF2 := Lib.hid (OF.out _ B2.out)
  go_upto_region 5 with (go_at_call 13; refine OF2.out.mono ?_; rintro e w3 ⟨rfl, k3⟩)
  have B3 : Hid (Below w.heap.size w w3) := B2.out.trans (k3.mono B2.out.size)
  have c0 := HC.out ((k3.block _ (Sm.lt_of g2)).trans g2)
  have AW3 := Lib.hid (AW.out _ B3.out)
  clear hst hone hsz32 g2 k3 OF OF2 AW HS b1
  go_wp2_with (go_at_call 12; refine AW3.out.mono ?_; rintro e w4 ⟨rfl, k4⟩)
  go_ret
  exact ⟨rfl, B3.out.trans (k4.mono B3.out.size)⟩
end Go.Proofs.YthhmnbpabncdnaaDoor
