/-
  bucket's Of, isBucket and isPair.
-/
import Derived.Test.YtiehcplepneajaaGreatDoorMSha
import Derived.Test.YtiehcplepneajaaGreatDoorBuMore
import Derived.Test.YtiehcplepneajaaGreatDoorPaPath
import Derived.Test.YtiehcplepneajaaGreatDoorOmActs
namespace Go.Proofs.YtiehcplepneajaaGreatDoor
open Go.RowKit
namespace Bu
theorem first_getD (l : List UInt8) : l.headD 0 = l.getD 0 0 := by cases l <;> rfl
theorem bk_getD (p : ByteArray) : bk p = ((Sm.sum p.data.toList).getD 0 0).toNat / 16 := by unfold bk; rw [first_getD]
theorem row_hash {w : World} : (w.alloc (.cells (Sm.rowB 32 []) 36)).heap[w.heap.size]? = some (.cells (Sm.rowB 32 []) 36 (0, 0)) := heap_alloc_new w _
end Bu
set_option maxRecDepth 100000 in
set_option maxHeartbeats 2000000 in
theorem buOf_any {w : World} (hH : Sm.HAt w) (hK : Sm.KAt w) (hsz : 1 < w.heap.size) (p : ByteArray) (hp : p.size ≤ 1152921504606846976) :
    Calls Tryz.prog 39 #[.string p] w fun e w' => e = .returned (.int .i64 (Bu.bk p : Nat)) ∧ Below w.heap.size w w' := by
  have HS := Lib.hid (sum_any p hH hK hsz hp)
  have hbk := Bu.bk_getD p
  have hl := Sm.sum_length p.data.toList
  obtain ⟨L, hL⟩ : ∃ L, L = Sm.sum p.data.toList := ⟨_, rfl⟩
  rw [← hL] at HS hbk hl
  obtain ⟨b, hb⟩ : ∃ b, b = L.getD 0 0 := ⟨_, rfl⟩
  rw [← hb] at hbk
  obtain ⟨i, hi⟩ : ∃ i, i = Bu.bk p := ⟨_, rfl⟩
  rw [← hi] at hbk ⊢
  have hsz32 : (Lib.byteCells L).toArray.size = 32 := by rw [Sm.bytes_size, hl]
  have hone := Sm.bytes_one L
  obtain ⟨cs, hcs⟩ : ∃ c, c = (Lib.byteCells L).toArray := ⟨_, rfl⟩
  have HC : Hid (∀ {w : World} {N : Nat}, w.heap[N]? = some (.cells cs 36 (0, 0)) → w.cell? ⟨N, 0, none⟩ = some (.int .u8 (b.toNat : Int))) := by
    intro w N h
    rw [hcs] at h
    rw [hb]
    exact Sm.row_cell h 0 (by omega)
  rw [← hcs] at hsz32 hone HS
  have hb256 := b.toNat_lt
  obtain ⟨n, hn⟩ : ∃ n, n = b.toNat := ⟨_, rfl⟩
  rw [← hn] at hbk HC hb256
  obtain ⟨-, hsh, -⟩ := Bu.mask_four hb256
  rw [← hbk] at hsh
  have hi16 : i < 16 := by omega
  have HI : Hid ((n : Int) / 16 = (i : Int)) := by show _ = _; omega
  clear hH hK hL hb hcs hn hi hbk hl
  go_enter Tryz.func39, Tryz.ntmps39
  go_wp2_with fail
  refine HS.out.mono ?_
  rintro e w1 ⟨rfl, b1⟩
  have hst : ∀ (c : Array Value), c.size = 32 → (storeCells ⟨w1.heap.size, 0, none⟩ cs.toList).run Tryz.prog (w1.alloc (.cells c 36)) = .ok () (w1.alloc (.cells cs 36)) := fun c hc =>
    run_storeCells_new (P := Tryz.prog) w1 36 c cs (Sm.infoHash hsz32) (by rw [hsz32]; exact hc) hone
  have b2 := b1.alloc b1.size (.cells cs 36)
  have c0 := HC.out (heap_alloc_new w1 (.cells cs 36))
  clear hone
  go_wp2_with fail
  go_ret
  exact ⟨by rw [← HI.out]; rfl, b2⟩
set_option maxRecDepth 100000 in
theorem buIsBucket_any (w : World) (i : Int) : Calls Tryz.prog 105 #[.int .i64 i] w fun e w' => e = .returned (.bool (decide (0 ≤ i ∧ i ≤ 15))) ∧ w = w' := by
  by_cases h0 : 0 ≤ i
  · by_cases h1 : i < 16
    · have e : decide (0 ≤ i ∧ i ≤ 15) = true := decide_eq_true ⟨h0, by omega⟩
      rw [e]
      clear e
      go_enter Tryz.func105, Tryz.ntmps105
      go_wp2
      go_ret
      exact ⟨rfl, rfl⟩
    · have e : decide (0 ≤ i ∧ i ≤ 15) = false := decide_eq_false (by omega)
      rw [e]
      clear e
      go_enter Tryz.func105, Tryz.ntmps105
      go_wp2
      go_ret
      exact ⟨rfl, rfl⟩
  · have e : decide (0 ≤ i ∧ i ≤ 15) = false := decide_eq_false (by omega)
    rw [e]
    clear e
    go_enter Tryz.func105, Tryz.ntmps105
    go_wp2
    go_ret
    exact ⟨rfl, rfl⟩
set_option maxRecDepth 100000 in
set_option maxHeartbeats 1000000 in
theorem buIsPair_any (w : World) (x : Om.Pr) (hp : x.p.size ≤ 281474976710656) :
    Calls Tryz.prog 89 #[.agg #[.string x.p, .string x.v]] w fun e w' => e = .returned (.bool (Bu.fairB x)) ∧ Below w.heap.size w w' := by
  have gn := heap_alloc_new w (.cells #[.string x.p, .string x.v] 79)
  have b0 : Below w.heap.size w (w.alloc (.cells #[.string x.p, .string x.v] 79)) := (Below.refl _ w).alloc (Nat.le_refl _) _
  have CU := Lib.hid (fun wx => paCut_any wx x.p hp)
  unfold Pa.cutV at CU
  unfold Bu.fairB
  have x0 := Sm.cells_of gn 0 _ rfl
  have hlt := Sm.lt_of gn
  cases ho : Pa.ok x.p.data.toList
  · rw [ho] at CU
    rw [Bool.false_and]
    go_enter Tryz.func89, Tryz.ntmps89
    go_upto_region 1 with (fail)
    generalize w.alloc (.cells #[.string x.p, .string x.v] 79) = W1 at *
    go_wp2_with fail
    refine (CU.out _).mono ?_
    rintro e w2 ⟨rfl, b2⟩
    go_wp2
    go_ret
    exact ⟨rfl, b0.trans (b2.mono (Nat.le_of_lt hlt))⟩
  · rw [ho] at CU
    rw [Bool.true_and]
    obtain ⟨g, hg⟩ : ∃ g, g = decide (x.v.size ≤ 32) := ⟨_, rfl⟩
    rw [← hg]
    have hg2 : decide ((x.v.size : Int) ≤ 32) = g := by rw [hg]; congr 1; exact propext (by omega)
    clear hg
    go_enter Tryz.func89, Tryz.ntmps89
    go_upto_region 1 with (fail)
    generalize w.alloc (.cells #[.string x.p, .string x.v] 79) = W1 at *
    go_wp2_with fail
    refine (CU.out _).mono ?_
    rintro e w2 ⟨rfl, b2⟩
    have g2 := (b2.block _ hlt).trans gn
    have x1 := Sm.cells_of g2 1 _ rfl
    clear x0 gn g2
    go_wp2
    go_ret
    exact ⟨rfl, b0.trans (b2.mono (Nat.le_of_lt hlt))⟩
end Go.Proofs.YtiehcplepneajaaGreatDoor
