/-
  SealReads: what an envelope is spelled to, and what bytes are read to, is the document's.
-/
import Derived.Test.YtapogiihkbjppaaDoorR5Bytes
import Derived.Test.YtapogiihkbjppaaDoorR5Read
import Derived.Test.YtapogiihkbjppaaDoorSeOnlyLaw
import Derived.Test.YtapogiihkbjppaaDoorSeEq
namespace Go.Proofs.YtapogiihkbjppaaDoor
open Go.RowKit Pk

set_option maxRecDepth 100000 in
set_option maxHeartbeats 4000000 in
theorem sealReads_any {w : World} (hH : Sm.HAt w) (hK : Sm.KAt w) (hsz : 1 < w.heap.size) (x : Se.Env) (ok : x.Ok) (s : ByteArray) (_hs : s.size ≤ 9223372036854775807) :
    Calls Tryd.prog 6 #[.agg x.cells.toArray, .string s] w fun e w' => e = .returned (.bool true) ∧ Below w.heap.size w w' := by
  have hz1 := (zero_of_info Se.zeroEnv).1
  have hzs : Se.zero.cells.toArray.size = 36 := Se.cells_length _ (by rfl)
  obtain ⟨z0, hz0⟩ : ∃ z, z = Se.zero.cells.toArray := ⟨_, rfl⟩
  rw [← hz0] at hz1 hzs
  have HH := Lib.hid hH
  have HK := Lib.hid hK
  obtain ⟨cs, hcs⟩ : ∃ c, c = x.cells := ⟨_, rfl⟩
  have hcsl : cs.length = 36 := by rw [hcs]; exact Se.cells_length x ok.tag
  have hcss : cs.toArray.size = 36 := by rw [List.size_toArray, hcsl]
  have hicl := Se.infoEnv hcss
  obtain ⟨N, hN⟩ : ∃ N, N = w.heap.size := ⟨_, rfl⟩
  have r1 : (w.alloc (.cells cs.toArray 28)).heap[N]? = some (.cells cs.toArray 28 (0, 0)) := by rw [hN]; exact heap_alloc_new w _
  have b1 : Below N w (w.alloc (.cells cs.toArray 28)) := by rw [hN]; exact Se.below_new w _
  have s1 : (w.alloc (.cells cs.toArray 28)).heap.size = N + 1 := by rw [hN]; simp
  have hN1 : 1 < N := by omega
  have CELL : Hid (∀ wx : World, wx.heap[N]? = some (.cells cs.toArray 28 (0, 0)) → wx.cell? ⟨N, 3, none⟩ = some (.string x.data)) := fun wx h => by
    rw [hcs] at h
    exact (Se.EnvAt.cell h).2.2.2
  obtain ⟨sb, hsb⟩ : ∃ b : ByteArray, b = ⟨(Se.spelled x).1.toArray⟩ := ⟨_, rfl⟩
  obtain ⟨er, her⟩ : ∃ b, b = (Se.spelled x).2 := ⟨_, rfl⟩
  have XB : Hid (∀ wx : World, Calls Tryd.prog 10 #[.agg cs.toArray] wx fun e w' => e = .returned (.tuple #[.string sb, .int .i64 er]) ∧ Below wx.heap.size wx w') := fun wx => by
    rw [hcs, hsb, her]; exact bytes5_any wx x ok
  have XR : Hid (∀ wx : World, Calls Tryd.prog 15 #[.agg cs.toArray] wx fun e w' => e = .returned (.tuple #[.string sb, .int .i64 er]) ∧ Below wx.heap.size wx w') := fun wx => by
    rw [hcs, hsb, her]; exact r5Bytes_any wx x ok
  have hyt := Se.read_tag s
  obtain ⟨y, hy⟩ : ∃ y, y = (Se.read s).1 := ⟨_, rfl⟩
  obtain ⟨ef, hef⟩ : ∃ y, y = (Se.read s).2 := ⟨_, rfl⟩
  rw [← hy] at hyt
  obtain ⟨cy, hcy⟩ : ∃ c, c = y.cells := ⟨_, rfl⟩
  have hcyl : cy.length = 36 := by rw [hcy]; exact Se.cells_length _ hyt
  have hcys : cy.toArray.size = 36 := by rw [List.size_toArray, hcyl]
  have hcyo : cy.toArray.all (·.oneCell') = true := by rw [hcy]; exact Se.cells_one _
  have RD : Hid (s.size ≤ 20000 → ∀ wx : World, Calls Tryd.prog 11 #[.string s] wx fun e w' => e = .returned (.tuple #[.agg cy.toArray, .int .i64 ef]) ∧ Below wx.heap.size wx w') := fun h wx => by
    rw [hcy, hy, hef]; exact read5_any wx s (by omega)
  have RR : Hid (s.size ≤ 20000 → ∀ wx : World, Calls Tryd.prog 16 #[.string s] wx fun e w' => e = .returned (.tuple #[.agg cy.toArray, .int .i64 ef]) ∧ Below wx.heap.size wx w') := fun h wx => by
    rw [hcy, hy, hef]; exact r5Read_any wx s (by omega)
  have hst : Hid (∀ wx : World, (storeCells ⟨wx.heap.size, 0, none⟩ cy).run Tryd.prog (wx.alloc (.cells z0 28)) = .ok () (wx.alloc (.cells cy.toArray 28))) := fun wx =>
    run_storeCells_new (P := Tryd.prog) wx 28 z0 _ (Se.infoEnv hcys) (by rw [hcys]; exact hzs) hcyo
  have hicy := Se.infoEnv hcys
  have AW : Hid (∀ wx : World, Sm.HAt wx → Sm.KAt wx → 1 < wx.heap.size → Calls Tryd.prog 12 #[] wx fun e w' => e = .returned (.bool true) ∧ Below wx.heap.size wx w') := fun wx h1 h2 h3 => awake5_any h1 h2 h3
  rw [← hcs, ← hN]
  have HCY := Lib.hid hcy
  have HYT := Lib.hid hyt
  have HN := Lib.hid hN
  have R1 := Lib.hid r1
  have B1 := Lib.hid b1
  have hxd := ok.data
  clear hz0 hH hK hcs hcsl hcss hN r1 b1 hsb her hy hef hcy hyt hcyl
  by_cases hd : x.data.size ≤ 20000
  · have g1 : ¬ (20000 : Int) < x.data.size := by omega
    by_cases hb : s.size ≤ 20000
    · have g2 : ¬ (20000 : Int) < s.size := by omega
      go_enter Tryd.func6, Tryd.ntmps6
      go_upto_region 1 with (fail)
      rw [← HN.out]
      generalize w.alloc (.cells cs.toArray 28) = W1 at *
      go_wp2_with fail
      refine (AW.out _ (HH.out.low B1.out (by have := HN.out; omega)) (HK.out.low B1.out hN1) (by omega)).mono ?_
      rintro e w2 ⟨rfl, k2⟩
      have R2 := Lib.hid ((k2.block N (by omega)).trans R1.out)
      have B2 := Lib.hid (B1.out.trans (k2.mono (by omega)))
      have s2 := k2.size
      clear k2 R1 B1 AW
      have c3 := CELL.out _ R2.out
      go_wp2_with (with_reducible refine wpList_load_row rfl 28 (.tmp 2) rfl N rfl 28 cs.toArray (0, 0) _ (by exact R2.out) Tryd.underlying28 rfl hicl ?_)
      refine (XB.out _).mono ?_
      rintro e w3 ⟨rfl, k3⟩
      have R3 := Lib.hid ((k3.block N (by omega)).trans R2.out)
      have B3 := Lib.hid (B2.out.trans (k3.mono (by omega)))
      have s3 := k3.size
      clear k3 R2 B2 c3 XB
      go_wp2_with (with_reducible refine wpList_load_row rfl 28 (.tmp 2) rfl N rfl 28 cs.toArray (0, 0) _ (by exact R3.out) Tryd.underlying28 rfl hicl ?_)
      refine (XR.out _).mono ?_
      rintro e w4 ⟨rfl, k4⟩
      have B4 := Lib.hid (B3.out.trans (k4.mono (by omega)))
      have s4 := k4.size
      clear k4 R3 B3 XR
      go_wp2_with fail
      refine (RD.out hb _).mono ?_
      rintro e w5 ⟨rfl, k5⟩
      have B5 := Lib.hid (B4.out.trans (k5.mono (by omega)))
      have s5 := k5.size
      have hst5 := hst.out w5
      clear k5 B4 RD
      go_upto_region 8 with (fail)
      have P6 := Lib.hid (heap_alloc_new w5 (.cells cy.toArray 28))
      have B6 := Lib.hid (B5.out.alloc (by omega) (.cells cy.toArray 28))
      have s6 : (w5.alloc (.cells cy.toArray 28)).heap.size = w5.heap.size + 1 := by simp
      clear hst5 B5
      generalize w5.alloc (.cells cy.toArray 28) = w6 at *
      obtain ⟨M, hM⟩ : ∃ M, M = w5.heap.size := ⟨_, rfl⟩
      rw [← hM] at P6 s6 ⊢
      have hNM : N < M := by omega
      clear hM s5
      go_wp2_with fail
      refine (RR.out hb _).mono ?_
      rintro e w7 ⟨rfl, k7⟩
      have P7 := Lib.hid ((k7.block M (by omega)).trans P6.out)
      have B7 := Lib.hid (B6.out.trans (k7.mono (by omega)))
      have s7 := k7.size
      have hst7 := hst.out w7
      clear k7 P6 B6 RR hst
      go_upto_region 9 with (fail)
      have Q8 := Lib.hid (heap_alloc_new w7 (.cells cy.toArray 28))
      have P8 := Lib.hid ((Below.heap_alloc w7 (.cells cy.toArray 28) M (by omega)).trans P7.out)
      have B8 := Lib.hid (B7.out.alloc (by omega) (.cells cy.toArray 28))
      clear hst7 P7 B7 hz1
      generalize w7.alloc (.cells cy.toArray 28) = w8 at *
      obtain ⟨M2, hM2⟩ : ∃ M, M = w7.heap.size := ⟨_, rfl⟩
      rw [← hM2] at Q8 ⊢
      clear hM2
      go_wp2_with (first | (with_reducible refine Sm.wpList_load_row_g 28 (.tmp 9) rfl M rfl 28 cy.toArray (0, 0) _ (by exact P8.out) Tryd.underlying28 rfl hicy ?_ rfl) | (with_reducible refine Sm.wpList_load_row_g 28 (.tmp 11) rfl M2 rfl 28 cy.toArray (0, 0) _ (by exact Q8.out) Tryd.underlying28 rfl hicy ?_ rfl) | (refine Se.wpList_eql_env 28 (.tmp 53) (.tmp 54) rfl y y (by show Value.agg cy.toArray = _; rw [HCY.out]) (by show Value.agg cy.toArray = _; rw [HCY.out]) HYT.out HYT.out ?_ (by rfl); rw [Se.eqb_self]))
      go_ret
      exact ⟨rfl, B8.out⟩
    · have g2 : (20000 : Int) < s.size := by omega
      go_enter Tryd.func6, Tryd.ntmps6
      go_upto_region 1 with (fail)
      rw [← HN.out]
      generalize w.alloc (.cells cs.toArray 28) = W1 at *
      go_wp2_with fail
      refine (AW.out _ (HH.out.low B1.out (by have := HN.out; omega)) (HK.out.low B1.out hN1) (by omega)).mono ?_
      rintro e w2 ⟨rfl, k2⟩
      have c3 := CELL.out _ ((k2.block N (by omega)).trans R1.out)
      go_wp2
      go_ret
      exact ⟨rfl, B1.out.trans (k2.mono (by omega))⟩
  · have g1 : (20000 : Int) < x.data.size := by omega
    go_enter Tryd.func6, Tryd.ntmps6
    go_upto_region 1 with (fail)
    rw [← HN.out]
    generalize w.alloc (.cells cs.toArray 28) = W1 at *
    go_wp2_with fail
    refine (AW.out _ (HH.out.low B1.out (by have := HN.out; omega)) (HK.out.low B1.out hN1) (by omega)).mono ?_
    rintro e w2 ⟨rfl, k2⟩
    have c3 := CELL.out _ ((k2.block N (by omega)).trans R1.out)
    go_wp2
    go_ret
    exact ⟨rfl, B1.out.trans (k2.mono (by omega))⟩
end Go.Proofs.YtapogiihkbjppaaDoor
