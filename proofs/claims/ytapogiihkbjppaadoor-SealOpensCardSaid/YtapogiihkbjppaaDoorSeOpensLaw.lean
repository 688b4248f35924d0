/-
  SealOpens: what an envelope is opened to, and what bars it, is the document's.
-/
import Derived.Test.YtapogiihkbjppaaDoorR5Open
import Derived.Test.YtapogiihkbjppaaDoorSeAwake
namespace Go.Proofs.YtapogiihkbjppaaDoor
open Go.RowKit Pk

set_option maxRecDepth 100000 in
set_option maxHeartbeats 2000000 in
theorem sealOpens_any {w : World} (hH : Sm.HAt w) (hK : Sm.KAt w) (hsz : 1 < w.heap.size) (k : List UInt8) (hk : k.length = 32) (x : Se.Env) (ok : x.Ok) (about : ByteArray) :
    Calls Tryd.prog 5 #[.agg (Lib.byteCells k).toArray, .agg x.cells.toArray, .string about] w fun e w' => e = .returned (.bool true) ∧ Below w.heap.size w w' := by
  have HH := Lib.hid hH
  have HK := Lib.hid hK
  obtain ⟨ck, hck⟩ : ∃ c, c = Lib.byteCells k := ⟨_, rfl⟩
  have hckl : ck.length = 32 := by rw [hck, Lib.byteCells_length, hk]
  obtain ⟨cs, hcs⟩ : ∃ c, c = x.cells := ⟨_, rfl⟩
  have hcsl : cs.length = 36 := by rw [hcs]; exact Se.cells_length _ ok.tag
  have hcd : cs[3]? = some (.string x.data) := by rw [hcs]; rfl
  obtain ⟨N, hN⟩ : ∃ N, N = w.heap.size := ⟨_, rfl⟩
  have hN1 : 1 < N := by omega
  obtain ⟨W2, hW2⟩ : ∃ W, W = (w.alloc (.cells ck.toArray 23)).alloc (.cells cs.toArray 28) := ⟨_, rfl⟩
  have g0 : W2.heap[N]? = some (.cells ck.toArray 23 (0, 0)) := by
    rw [hW2, Below.heap_alloc _ _ _ (by simp; omega), hN]; exact heap_alloc_new w _
  have g1 : W2.heap[N + 1]? = some (.cells cs.toArray 28 (0, 0)) := by
    rw [hW2, hN]
    simpa using heap_alloc_new (w.alloc (.cells ck.toArray 23)) (.cells cs.toArray 28)
  have b2 : Below N w W2 := by
    rw [hW2, hN]; exact ((Below.refl _ w).alloc (Nat.le_refl _) _).alloc (by simp) _
  have s2 : W2.heap.size = N + 2 := by rw [hW2, hN]; simp
  have hicl : (Tryd.prog.info? 23).map (·.size) = some ck.toArray.size := by rw [List.size_toArray, hckl]; kernel_rfl
  have hics := Se.infoEnv (c := cs.toArray) (by rw [List.size_toArray, hcsl])
  have AW : Hid (∀ wx : World, Sm.HAt wx → Sm.KAt wx → 1 < wx.heap.size → Calls Tryd.prog 12 #[] wx fun e w' => e = .returned (.bool true) ∧ Below wx.heap.size wx w') := fun wx h1 h2 h3 => awake5_any h1 h2 h3
  obtain ⟨os, hos⟩ : ∃ b : ByteArray, b = ⟨(Se.opened k x about.data.toList).1.toArray⟩ := ⟨_, rfl⟩
  obtain ⟨oe, hoe⟩ : ∃ n : Nat, n = (Se.opened k x about.data.toList).2 := ⟨_, rfl⟩
  have OP : Hid (about.size ≤ 300 → ∀ wx : World, Sm.HAt wx → Sm.KAt wx → 1 < wx.heap.size → Calls Tryd.prog 9 #[.agg ck.toArray, .agg cs.toArray, .string about] wx fun e w' => e = .returned (.tuple #[.string os, .int .i64 oe]) ∧ Below wx.heap.size wx w') := fun h wx a b c => by
    rw [hck, hcs, hos, hoe]; exact open_any a b c k hk x ok about (by omega)
  have OR : Hid (about.size ≤ 300 → ∀ wx : World, Calls Tryd.prog 14 #[.agg ck.toArray, .agg cs.toArray, .string about] wx fun e w' => e = .returned (.tuple #[.string os, .int .i64 oe]) ∧ Below wx.heap.size wx w') := fun h wx => by
    rw [hck, hcs, hos, hoe]; exact r5Open_any wx k hk x ok about (by omega)
  rw [← hck, ← hcs, ← hN]
  have G0 := Lib.hid g0
  have G1 := Lib.hid g1
  have B2 := Lib.hid b2
  have HN := Lib.hid hN
  have HW := Lib.hid hW2
  have HCD := Lib.hid hcd
  clear g0 g1 b2 hN hW2 hck hcs hos hoe hH hK hcd
  by_cases h1 : about.size ≤ 300
  · have g1 : ¬ (300 : Int) < about.size := by omega
    have OP := Lib.hid (OP.out h1)
    have OR := Lib.hid (OR.out h1)
    by_cases h2 : x.data.size ≤ 300
    · have g2 : ¬ (300 : Int) < x.data.size := by omega
      have g4 : ¬ (20000 : Int) < x.data.size := by omega
      go_enter Tryd.func5, Tryd.ntmps5
      go_upto_region 1 with (fail)
      rw [← HW.out, ← HN.out]
      go_wp2_with fail
      refine (AW.out _ (HH.out.low B2.out (by omega)) (HK.out.low B2.out hN1) (by omega)).mono ?_
      rintro e w3 ⟨rfl, k3⟩
      have R3 := Lib.hid ((k3.block N (by omega)).trans G0.out)
      have Q3 := Lib.hid ((k3.block (N + 1) (by omega)).trans G1.out)
      have B3 := Lib.hid (B2.out.trans (k3.mono (by omega)))
      have s3 := k3.size
      have c3 : w3.cell? ⟨N + 1, 3, none⟩ = some (.string x.data) := Sm.cells_of Q3.out 3 _ (by rw [List.getElem?_toArray]; exact HCD.out)
      clear k3 G0 G1 B2 AW
      go_wp2_with (first | (with_reducible refine wpList_load_row rfl 23 (.tmp 3) rfl N rfl 23 ck.toArray (0, 0) _ (by exact R3.out) Tryd.underlying23 rfl hicl ?_) | (with_reducible refine wpList_load_row rfl 28 (.tmp 4) rfl (N + 1) rfl 28 cs.toArray (0, 0) _ (by exact Q3.out) Tryd.underlying28 rfl hics ?_))
      refine (OP.out _ (HH.out.low B3.out (by omega)) (HK.out.low B3.out hN1) (by omega)).mono ?_
      rintro e w4 ⟨rfl, k4⟩
      have R4 := Lib.hid ((k4.block N (by omega)).trans R3.out)
      have Q4 := Lib.hid ((k4.block (N + 1) (by omega)).trans Q3.out)
      have B4 := Lib.hid (B3.out.trans (k4.mono (by omega)))
      have s4 := k4.size
      clear k4 R3 Q3 B3 OP c3
      go_wp2_with (first | (with_reducible refine wpList_load_row rfl 23 (.tmp 3) rfl N rfl 23 ck.toArray (0, 0) _ (by exact R4.out) Tryd.underlying23 rfl hicl ?_) | (with_reducible refine wpList_load_row rfl 28 (.tmp 4) rfl (N + 1) rfl 28 cs.toArray (0, 0) _ (by exact Q4.out) Tryd.underlying28 rfl hics ?_))
      refine (OR.out _).mono ?_
      rintro e w5 ⟨rfl, k5⟩
      have B5 := Lib.hid (B4.out.trans (k5.mono (by omega)))
      clear k5 R4 Q4 B4 OR
      go_wp2
      go_ret
      exact ⟨rfl, B5.out⟩
    · have g2 : (300 : Int) < x.data.size := by omega
      by_cases h3 : x.data.size ≤ 8192
      · have g3 : (x.data.size : Int) ≤ 8192 := by omega
        go_enter Tryd.func5, Tryd.ntmps5
        go_upto_region 1 with (fail)
        rw [← HW.out, ← HN.out]
        go_wp2_with fail
        refine (AW.out _ (HH.out.low B2.out (by omega)) (HK.out.low B2.out hN1) (by omega)).mono ?_
        rintro e w3 ⟨rfl, k3⟩
        have R3 := Lib.hid ((k3.block N (by omega)).trans G0.out)
        have Q3 := Lib.hid ((k3.block (N + 1) (by omega)).trans G1.out)
        have B3 := Lib.hid (B2.out.trans (k3.mono (by omega)))
        have s3 := k3.size
        have c3 : w3.cell? ⟨N + 1, 3, none⟩ = some (.string x.data) := Sm.cells_of Q3.out 3 _ (by rw [List.getElem?_toArray]; exact HCD.out)
        clear k3 G0 G1 B2 AW
        go_wp2
        go_ret
        exact ⟨rfl, B3.out⟩
      · have g3 : ¬ (x.data.size : Int) ≤ 8192 := by omega
        by_cases h4 : x.data.size ≤ 20000
        · have g4 : ¬ (20000 : Int) < x.data.size := by omega
          go_enter Tryd.func5, Tryd.ntmps5
          go_upto_region 1 with (fail)
          rw [← HW.out, ← HN.out]
          go_wp2_with fail
          refine (AW.out _ (HH.out.low B2.out (by omega)) (HK.out.low B2.out hN1) (by omega)).mono ?_
          rintro e w3 ⟨rfl, k3⟩
          have R3 := Lib.hid ((k3.block N (by omega)).trans G0.out)
          have Q3 := Lib.hid ((k3.block (N + 1) (by omega)).trans G1.out)
          have B3 := Lib.hid (B2.out.trans (k3.mono (by omega)))
          have s3 := k3.size
          have c3 : w3.cell? ⟨N + 1, 3, none⟩ = some (.string x.data) := Sm.cells_of Q3.out 3 _ (by rw [List.getElem?_toArray]; exact HCD.out)
          clear k3 G0 G1 B2 AW
          go_wp2_with (first | (with_reducible refine wpList_load_row rfl 23 (.tmp 3) rfl N rfl 23 ck.toArray (0, 0) _ (by exact R3.out) Tryd.underlying23 rfl hicl ?_) | (with_reducible refine wpList_load_row rfl 28 (.tmp 4) rfl (N + 1) rfl 28 cs.toArray (0, 0) _ (by exact Q3.out) Tryd.underlying28 rfl hics ?_))
          refine (OP.out _ (HH.out.low B3.out (by omega)) (HK.out.low B3.out hN1) (by omega)).mono ?_
          rintro e w4 ⟨rfl, k4⟩
          have R4 := Lib.hid ((k4.block N (by omega)).trans R3.out)
          have Q4 := Lib.hid ((k4.block (N + 1) (by omega)).trans Q3.out)
          have B4 := Lib.hid (B3.out.trans (k4.mono (by omega)))
          have s4 := k4.size
          clear k4 R3 Q3 B3 OP c3
          go_wp2_with (first | (with_reducible refine wpList_load_row rfl 23 (.tmp 3) rfl N rfl 23 ck.toArray (0, 0) _ (by exact R4.out) Tryd.underlying23 rfl hicl ?_) | (with_reducible refine wpList_load_row rfl 28 (.tmp 4) rfl (N + 1) rfl 28 cs.toArray (0, 0) _ (by exact Q4.out) Tryd.underlying28 rfl hics ?_))
          refine (OR.out _).mono ?_
          rintro e w5 ⟨rfl, k5⟩
          have B5 := Lib.hid (B4.out.trans (k5.mono (by omega)))
          clear k5 R4 Q4 B4 OR
          go_wp2
          go_ret
          exact ⟨rfl, B5.out⟩
        · have g4 : (20000 : Int) < x.data.size := by omega
          go_enter Tryd.func5, Tryd.ntmps5
          go_upto_region 1 with (fail)
          rw [← HW.out, ← HN.out]
          go_wp2_with fail
          refine (AW.out _ (HH.out.low B2.out (by omega)) (HK.out.low B2.out hN1) (by omega)).mono ?_
          rintro e w3 ⟨rfl, k3⟩
          have R3 := Lib.hid ((k3.block N (by omega)).trans G0.out)
          have Q3 := Lib.hid ((k3.block (N + 1) (by omega)).trans G1.out)
          have B3 := Lib.hid (B2.out.trans (k3.mono (by omega)))
          have s3 := k3.size
          have c3 : w3.cell? ⟨N + 1, 3, none⟩ = some (.string x.data) := Sm.cells_of Q3.out 3 _ (by rw [List.getElem?_toArray]; exact HCD.out)
          clear k3 G0 G1 B2 AW
          go_wp2
          go_ret
          exact ⟨rfl, B3.out⟩
  · have g1 : (300 : Int) < about.size := by omega
    go_enter Tryd.func5, Tryd.ntmps5
    go_upto_region 1 with (fail)
    rw [← HW.out, ← HN.out]
    go_wp2_with fail
    refine (AW.out _ (HH.out.low B2.out (by omega)) (HK.out.low B2.out hN1) (by omega)).mono ?_
    rintro e w3 ⟨rfl, k3⟩
    have R3 := Lib.hid ((k3.block N (by omega)).trans G0.out)
    have Q3 := Lib.hid ((k3.block (N + 1) (by omega)).trans G1.out)
    have B3 := Lib.hid (B2.out.trans (k3.mono (by omega)))
    have s3 := k3.size
    have c3 : w3.cell? ⟨N + 1, 3, none⟩ = some (.string x.data) := Sm.cells_of Q3.out 3 _ (by rw [List.getElem?_toArray]; exact HCD.out)
    clear k3 G0 G1 B2 AW
    go_wp2
    go_ret
    exact ⟨rfl, B3.out⟩
end Go.Proofs.YtapogiihkbjppaaDoor
