/-
  DiskNobody: what is none does nothing.
-/
import Derived.Test.YtleknlkbaeognaaDkTwinLaw
import Derived.Test.YtleknlkbaeognaaDkTwin
import Derived.Test.YtleknlkbaeognaaDkSpoil
namespace Go.Proofs.Ytleknlkbaeognaa
open Go.ChangeShapes Go.WideShapes Go.ChangeAt Go.RowKit
namespace Dk
set_option maxRecDepth 100000 in
theorem open_act {H : Type} {enc : TypeId × Value → H} {W : World} {sp : Nat → Bool} {held : Bool} {b0 : Nat} {r : Reach} {v : Value} {d : DataW H} {ps : List MemPlace}
    (hval : Value.okWide Try.prog W r b0 50 v) (h : DataW.Trod enc Try.prog W 0 sp held 50 v d ps) :
    ∃ a : Ac, a.Ok W ∧ v = .agg a.cells.toArray := by
  obtain ⟨fs, hund, _, _⟩ := act_shape
  obtain ⟨cs, rfl, _⟩ := okWide_struct hund hval
  obtain ⟨fuel, hf⟩ := h
  obtain ⟨a, h1, h2⟩ := act_open hf
  refine ⟨a, h1, ?_⟩
  have h3 : cs.toList = a.cells := by simpa [Value.cells] using h2
  rw [← h3]
end Dk
set_option maxRecDepth 100000 in
set_option maxHeartbeats 1500000 in
theorem disknobody_any (W : World) (a : Dk.Ac) (ok : a.Ok W) : Calls Try.prog 5 #[.agg a.cells.toArray] W fun e w' => e = .returned (.bool true) ∧ Below W.heap.size W w' := by
  obtain ⟨kA, kc, hkv, -⟩ := ok.keep
  obtain ⟨d, i, n, b, x, y, kv, keep⟩ := a
  simp only at hkv
  subst hkv
  have hok := Lib.hid ok
  obtain ⟨g, hg⟩ := Dk.gr_of [(⟨d, i, n, b, x, y, .slice kA keep.length kc, keep⟩ : Dk.Ac)]
  have HG := Lib.hid hg
  clear ok hg
  have hgen : Try.prog.cellsOf 50 = 7 := Dk.act_cells
  unfold Dk.Ac.cells
  simp only
  have m1 := heap_alloc_new W (.cells #[.int .i64 d, .int .i64 i, .int .i64 n, .string b, .string x, .int .u8 y.toNat, .slice kA keep.length kc] 50)
  have k1 : Below W.heap.size W (W.alloc (.cells #[.int .i64 d, .int .i64 i, .int .i64 n, .string b, .string x, .int .u8 y.toNat, .slice kA keep.length kc] 50)) := (Below.refl _ W).alloc (Nat.le_refl _) _
  go_enter Try.func5, Try.ntmps5
  go_wp2_with fail
  generalize W.alloc (.cells #[.int .i64 d, .int .i64 i, .int .i64 n, .string b, .string x, .int .u8 y.toNat, .slice kA keep.length kc] 50) = w1 at *
  obtain ⟨P, hP⟩ : ∃ P, P = W.heap.size := ⟨_, rfl⟩
  rw [← hP] at m1 ⊢
  refine (awake7_any _).mono ?_
  rintro e w2 ⟨rfl, k2⟩
  have m2 := (k2.block P (Sm.lt_of m1)).trans m1
  have b2 : Below P W w2 := by rw [← hP] at k1; exact k1.trans (k2.mono (Nat.le_of_lt (Sm.lt_of m1)))
  have HP := Lib.hid hP
  clear k1 k2 m1 hP
  have x0 := Sm.cells_of m2 0 _ rfl
  have x1 := Sm.cells_of m2 1 _ rfl
  have x2 := Sm.cells_of m2 2 _ rfl
  have x3 := Sm.cells_of m2 3 _ rfl
  have x4 := Sm.cells_of m2 4 _ rfl
  have x5 := Sm.cells_of m2 5 _ rfl
  have x6 := Sm.cells_of m2 6 _ rfl
  go_wp2_with fail
  have m3 := heap_alloc_new w2 (.cells #[.int .i64 d, .int .i64 i, .int .i64 n, .string b, .string x, .int .u8 y.toNat, .slice kA keep.length kc] 50)
  have hat : Dk.actsAt (w2.alloc (.cells #[.int .i64 d, .int .i64 i, .int .i64 n, .string b, .string x, .int .u8 y.toNat, .slice kA keep.length kc] 50)) w2.heap.size 0 [⟨d, i, n, b, x, y, .slice kA keep.length kc, keep⟩] := by
    intro k hk
    have : k = 0 := by simpa using hk
    subst this
    exact ⟨Sm.cells_of m3 0 _ rfl, Sm.cells_of m3 1 _ rfl, Sm.cells_of m3 2 _ rfl, Sm.cells_of m3 3 _ rfl, Sm.cells_of m3 4 _ rfl, Sm.cells_of m3 5 _ rfl, Sm.cells_of m3 6 _ rfl⟩
  have b3 : Below w2.heap.size w2 (w2.alloc (.cells #[.int .i64 d, .int .i64 i, .int .i64 n, .string b, .string x, .int .u8 y.toNat, .slice kA keep.length kc] 50)) := (Below.refl _ w2).alloc (Nat.le_refl _) _
  refine (great7_some _ _ 0 1 [⟨d, i, n, b, x, y, .slice kA keep.length kc, keep⟩] (by simp) W (fun a ha => by rw [List.mem_singleton.1 ha]; exact hok.out) hat g HG.out).mono ?_
  rintro e w' ⟨rfl, rfl⟩
  have m4 := (b3.block P (Sm.lt_of m2)).trans m2
  have b4 := b2.trans (b3.mono (Nat.le_of_lt (Sm.lt_of m2)))
  clear m3 hat b3 x0 x1 x2 x3 x4 x5 x6 m2 b2
  generalize w2.alloc (.cells #[.int .i64 d, .int .i64 i, .int .i64 n, .string b, .string x, .int .u8 y.toNat, .slice kA keep.length kc] 50) = w4 at *
  cases g with
  | true =>
    go_wp2
    go_ret
    rw [← HP.out]
    exact ⟨rfl, b4⟩
  | false =>
    clear HG
    obtain ⟨s, hs⟩ : ∃ s : ByteArray, s = ⟨(Dk.data ⟨d, i, n, b, x, y, .slice kA keep.length kc, keep⟩).toArray⟩ := ⟨_, rfl⟩
    have DA : Hid (∀ wx, Calls Try.prog 28 #[.agg #[.int .i64 d, .int .i64 i, .int .i64 n, .string b, .string x, .int .u8 y.toNat, .slice kA keep.length kc]] wx fun e w' => e = .returned (.string s) ∧ Below wx.heap.size wx w') := fun wx => by rw [hs]; exact data7_any wx ⟨d, i, n, b, x, y, .slice kA keep.length kc, keep⟩
    clear hs
    have k5 : Below w4.heap.size w4 (w4.alloc (.cells #[.slice none 0 0, .map none, .bool false, .int .i64 0] 56)) := (Below.refl _ w4).alloc (Nat.le_refl _) _
    have m5 := (k5.block P (Sm.lt_of m4)).trans m4
    have n5 : Dk.None (w4.alloc (.cells #[.slice none 0 0, .map none, .bool false, .int .i64 0] 56)) (.pointer (some ⟨w4.heap.size, 0, none⟩)) := .inr ⟨_, rfl, heap_alloc_new w4 _⟩
    have b5 : Below P W (w4.alloc (.cells #[.slice none 0 0, .map none, .bool false, .int .i64 0] 56)) := b4.trans (k5.mono (Nat.le_of_lt (Sm.lt_of m4)))
    have NN : Hid (∀ wx, Dk.None wx (.pointer none)) := fun wx => .inl rfl
    have N5 := Lib.hid n5
    clear k5 n5 m4 b4
    have x0 := Sm.cells_of m5 0 _ rfl
    have x1 := Sm.cells_of m5 1 _ rfl
    have x2 := Sm.cells_of m5 2 _ rfl
    have x3 := Sm.cells_of m5 3 _ rfl
    have x4 := Sm.cells_of m5 4 _ rfl
    have x5 := Sm.cells_of m5 5 _ rfl
    have x6 := Sm.cells_of m5 6 _ rfl
    have M5 := Lib.hid m5
    clear m5
    go_wp2_with fail
    refine (dkFuse_none (NN.out _) _).mono ?_
    rintro e w' ⟨rfl, rfl⟩
    generalize w4.alloc (.cells #[.slice none 0 0, .map none, .bool false, .int .i64 0] 56) = w5 at *
    generalize w4.heap.size = Q at *
    go_wp2_with fail
    refine (dkCrash_none (NN.out _) _).mono ?_
    rintro e w' ⟨rfl, rfl⟩
    go_wp2_with fail
    refine (dkCrash_none N5.out _).mono ?_
    rintro e w' ⟨rfl, rfl⟩
    go_wp2_with fail
    refine (dkRead_none (NN.out _) _).mono ?_
    rintro e w' ⟨rfl, rfl⟩
    go_wp2_with fail
    refine (dkRead_none N5.out _).mono ?_
    rintro e w' ⟨rfl, rfl⟩
    go_wp2_with fail
    have b6 : Below P W w5.drew := b5.trans ((Below.refl P w5).drew)
    have G6 : w5.drew.heap[P]? = some (.cells #[.int .i64 d, .int .i64 i, .int .i64 n, .string b, .string x, .int .u8 y.toNat, .slice kA keep.length kc] 50) ∧ Dk.None w5.drew (.pointer (some ⟨Q, 0, none⟩)) := ⟨M5.out, N5.out.keep fun _ _ => rfl⟩
    clear x0 x1 x2 x3 x4 x5 x6
    refine wp_region_held_drew (S := (fun w' => w'.heap[P]? = some (.cells #[.int .i64 d, .int .i64 i, .int .i64 n, .string b, .string x, .int .u8 y.toNat, .slice kA keep.length kc] 50) ∧ Dk.None w' (.pointer (some ⟨Q, 0, none⟩)))) (by kernel_rfl) (by exact ⟨M5.out, N5.out⟩) (fun hHeld => ?_)
    clear M5 N5 b5
    refine wpAnyH_take (i := 0) (oi := ⟨some 42, _, _, _, _, _⟩) (v := .int .i64 2) rfl (by kernel_rfl) (by kernel_rfl) (by kernel_rfl) (fun _ _ _ h => h) (Or.inl ⟨by rfl, ?_⟩) (by assumption) ?_
    · intro w hSw; (try dsimp only at hSw); go_simp
    simp only [Act.put, List.setIfInBounds_toArray, List.set_cons_zero, List.set_cons_succ]
    refine wpAnyH_take (i := 1) (oi := ⟨some 43, _, _, _, _, _⟩) (v := .bool true) rfl (by kernel_rfl) (by kernel_rfl) (by kernel_rfl) (fun _ _ _ h => h) (Or.inl ⟨by rfl, ?_⟩) (by assumption) ?_
    · intro w hSw; (try dsimp only at hSw); go_simp
    simp only [Act.put, List.setIfInBounds_toArray, List.set_cons_zero, List.set_cons_succ]
    refine wpAnyH_take (i := 2) (oi := ⟨some 44, _, _, _, _, _⟩) (v := .bool true) rfl (by kernel_rfl) (by kernel_rfl) (by kernel_rfl) (fun _ _ _ h => h) (Or.inl ⟨by rfl, ?_⟩) (by assumption) ?_
    · intro w hSw; (try dsimp only at hSw); go_simp
    simp only [Act.put, List.setIfInBounds_toArray, List.set_cons_zero, List.set_cons_succ]
    refine wpAnyH_take (i := 3) (oi := ⟨some 45, _, _, _, _, _⟩) (v := .int .i64 2) rfl (by kernel_rfl) (by kernel_rfl) (by kernel_rfl) (fun _ _ _ h => h) (Or.inl ⟨by rfl, ?_⟩) (by assumption) ?_
    · intro w hSw; (try dsimp only at hSw); go_simp
    simp only [Act.put, List.setIfInBounds_toArray, List.set_cons_zero, List.set_cons_succ]
    refine wpAnyH_take (i := 4) (oi := ⟨some 46, _, _, _, _, _⟩) (v := .bool true) rfl (by kernel_rfl) (by kernel_rfl) (by kernel_rfl) (fun _ _ _ h => h) (Or.inl ⟨by rfl, ?_⟩) (by assumption) ?_
    · intro w hSw; (try dsimp only at hSw); go_simp
    simp only [Act.put, List.setIfInBounds_toArray, List.set_cons_zero, List.set_cons_succ]
    refine wpAnyH_take (i := 5) (oi := ⟨some 47, _, _, _, _, _⟩) (v := .bool true) rfl (by kernel_rfl) (by kernel_rfl) (by kernel_rfl) (fun _ _ _ h => h) (Or.inl ⟨by rfl, ?_⟩) (by assumption) ?_
    · intro w hSw; (try dsimp only at hSw); go_simp
    simp only [Act.put, List.setIfInBounds_toArray, List.set_cons_zero, List.set_cons_succ]
    refine wpAnyH_take (i := 6) (oi := ⟨some 48, _, _, _, _, _⟩) (v := .bool true) rfl (by kernel_rfl) (by kernel_rfl) (by kernel_rfl) (fun _ _ _ h => h) (Or.inl ⟨by rfl, ?_⟩) (by assumption) ?_
    · intro w hSw; (try dsimp only at hSw); go_simp
    simp only [Act.put, List.setIfInBounds_toArray, List.set_cons_zero, List.set_cons_succ]
    refine wpAnyH_take (i := 7) (oi := ⟨some 49, _, _, _, _, _⟩) (v := .pointer none) rfl (by kernel_rfl) (by kernel_rfl) (by kernel_rfl) (fun _ _ _ h => h) (Or.inl ⟨by rfl, ?_⟩) (by assumption) ?_
    · intro w hSw; (try dsimp only at hSw); go_simp
    simp only [Act.put, List.setIfInBounds_toArray, List.set_cons_zero, List.set_cons_succ]
    refine wpAnyH_take (i := 8) (oi := ⟨some 50, _, _, _, _, _⟩) (v := .pointer (some ⟨P, 1, none⟩)) rfl (by kernel_rfl) (by kernel_rfl) (by kernel_rfl) (fun _ _ _ h => h) (Or.inl ⟨by rfl, ?_⟩) (by assumption) ?_
    · intro w hSw; (try dsimp only at hSw); go_simp
    simp only [Act.put, List.setIfInBounds_toArray, List.set_cons_zero, List.set_cons_succ]
    refine wpAnyH_take (i := 9) (oi := ⟨some 51, _, _, _, _, _⟩) (v := .int .i64 i) rfl (by kernel_rfl) (by kernel_rfl) (by kernel_rfl) (fun _ _ _ h => h) (Or.inl ⟨by rfl, ?_⟩) (by assumption) ?_
    · intro w hSw; (try dsimp only at hSw); have hm := hSw.1; have x1 := Sm.cells_of hm 1 _ rfl; go_simp
    simp only [Act.put, List.setIfInBounds_toArray, List.set_cons_zero, List.set_cons_succ]
    refine wpAnyH_take (i := 10) (oi := ⟨some 52, _, _, _, _, _⟩) (v := .agg #[.int .i64 d, .int .i64 i, .int .i64 n, .string b, .string x, .int .u8 y.toNat, .slice kA keep.length kc]) rfl (by kernel_rfl) (by kernel_rfl) (by kernel_rfl) (fun _ _ _ h => h) (Or.inl ⟨by rfl, ?_⟩) (by assumption) ?_
    · intro w hSw; (try dsimp only at hSw); have hm := hSw.1; have x0 := Sm.cells_of hm 0 _ rfl; have x1 := Sm.cells_of hm 1 _ rfl; have x2 := Sm.cells_of hm 2 _ rfl; have x3 := Sm.cells_of hm 3 _ rfl; have x4 := Sm.cells_of hm 4 _ rfl; have x5 := Sm.cells_of hm 5 _ rfl; have x6 := Sm.cells_of hm 6 _ rfl; go_simp
    simp only [Act.put, List.setIfInBounds_toArray, List.set_cons_zero, List.set_cons_succ]
    refine wpAnyH_ready (rs := [11]) (by kernel_rfl) (by simp) ?_
    refine (AllReadyH.cons (o := ⟨some 53, _, _, _, _, _⟩) rfl (fun K hK => ?_) AllReadyH.nil)
    go_simp
    refine (DA.out _).mono ?_
    rintro e w7 ⟨rfl, k⟩
    have G7 : w7.heap[P]? = some (.cells #[.int .i64 d, .int .i64 i, .int .i64 n, .string b, .string x, .int .u8 y.toNat, .slice kA keep.length kc] 50) ∧ Dk.None w7 (.pointer (some ⟨Q, 0, none⟩)) := ⟨(k.block P (Sm.lt_of G6.1)).trans G6.1, G6.2.keep fun q hq => k.block q hq⟩
    have b7 : Below P W w7 := b6.trans (k.mono (Nat.le_of_lt (Sm.lt_of G6.1)))
    refine hK.out _ _ G7 (fun hHeld => ?_)
    clear k b6 G6 hK K
    refine wpAnyH_ready (rs := [12]) (by kernel_rfl) (by simp) ?_
    refine (AllReadyH.cons (o := ⟨some 54, _, _, _, _, _⟩) rfl (fun K hK => ?_) AllReadyH.nil)
    go_simp
    refine (dkWrite_none (NN.out _) _ _).mono ?_
    rintro e w' ⟨rfl, rfl⟩
    refine hK.out _ _ G7 (fun hHeld => ?_)
    clear hK K
    refine wpAnyH_take (i := 13) (oi := ⟨some 55, _, _, _, _, _⟩) (v := .bool true) rfl (by kernel_rfl) (by kernel_rfl) (by kernel_rfl) (fun _ _ _ h => h) (Or.inl ⟨by rfl, ?_⟩) (by assumption) ?_
    · intro w hSw; (try dsimp only at hSw); go_simp
    simp only [Act.put, List.setIfInBounds_toArray, List.set_cons_zero, List.set_cons_succ]
    refine wpAnyH_take (i := 14) (oi := ⟨some 56, _, _, _, _, _⟩) (v := .bool true) rfl (by kernel_rfl) (by kernel_rfl) (by kernel_rfl) (fun _ _ _ h => h) (Or.inl ⟨by rfl, ?_⟩) (by assumption) ?_
    · intro w hSw; (try dsimp only at hSw); go_simp
    simp only [Act.put, List.setIfInBounds_toArray, List.set_cons_zero, List.set_cons_succ]
    refine wpAnyH_take (i := 15) (oi := ⟨some 57, _, _, _, _, _⟩) (v := .bool true) rfl (by kernel_rfl) (by kernel_rfl) (by kernel_rfl) (fun _ _ _ h => h) (Or.inl ⟨by rfl, ?_⟩) (by assumption) ?_
    · intro w hSw; (try dsimp only at hSw); go_simp
    simp only [Act.put, List.setIfInBounds_toArray, List.set_cons_zero, List.set_cons_succ]
    refine wpAnyH_take (i := 16) (oi := ⟨some 58, _, _, _, _, _⟩) (v := .pointer (some ⟨Q, 0, none⟩)) rfl (by kernel_rfl) (by kernel_rfl) (by kernel_rfl) (fun _ _ _ h => h) (Or.inl ⟨by rfl, ?_⟩) (by assumption) ?_
    · intro w hSw; (try dsimp only at hSw); go_simp
    simp only [Act.put, List.setIfInBounds_toArray, List.set_cons_zero, List.set_cons_succ]
    refine wpAnyH_take (i := 17) (oi := ⟨some 59, _, _, _, _, _⟩) (v := .pointer (some ⟨P, 1, none⟩)) rfl (by kernel_rfl) (by kernel_rfl) (by kernel_rfl) (fun _ _ _ h => h) (Or.inl ⟨by rfl, ?_⟩) (by assumption) ?_
    · intro w hSw; (try dsimp only at hSw); go_simp
    simp only [Act.put, List.setIfInBounds_toArray, List.set_cons_zero, List.set_cons_succ]
    refine wpAnyH_take (i := 18) (oi := ⟨some 60, _, _, _, _, _⟩) (v := .int .i64 i) rfl (by kernel_rfl) (by kernel_rfl) (by kernel_rfl) (fun _ _ _ h => h) (Or.inl ⟨by rfl, ?_⟩) (by assumption) ?_
    · intro w hSw; (try dsimp only at hSw); have hm := hSw.1; have x1 := Sm.cells_of hm 1 _ rfl; go_simp
    simp only [Act.put, List.setIfInBounds_toArray, List.set_cons_zero, List.set_cons_succ]
    refine wpAnyH_take (i := 19) (oi := ⟨some 61, _, _, _, _, _⟩) (v := .agg #[.int .i64 d, .int .i64 i, .int .i64 n, .string b, .string x, .int .u8 y.toNat, .slice kA keep.length kc]) rfl (by kernel_rfl) (by kernel_rfl) (by kernel_rfl) (fun _ _ _ h => h) (Or.inl ⟨by rfl, ?_⟩) (by assumption) ?_
    · intro w hSw; (try dsimp only at hSw); have hm := hSw.1; have x0 := Sm.cells_of hm 0 _ rfl; have x1 := Sm.cells_of hm 1 _ rfl; have x2 := Sm.cells_of hm 2 _ rfl; have x3 := Sm.cells_of hm 3 _ rfl; have x4 := Sm.cells_of hm 4 _ rfl; have x5 := Sm.cells_of hm 5 _ rfl; have x6 := Sm.cells_of hm 6 _ rfl; go_simp
    simp only [Act.put, List.setIfInBounds_toArray, List.set_cons_zero, List.set_cons_succ]
    refine wpAnyH_ready (rs := [20]) (by kernel_rfl) (by simp) ?_
    refine (AllReadyH.cons (o := ⟨some 62, _, _, _, _, _⟩) rfl (fun K hK => ?_) AllReadyH.nil)
    go_simp
    refine (DA.out _).mono ?_
    rintro e w8 ⟨rfl, k⟩
    have G8 : w8.heap[P]? = some (.cells #[.int .i64 d, .int .i64 i, .int .i64 n, .string b, .string x, .int .u8 y.toNat, .slice kA keep.length kc] 50) ∧ Dk.None w8 (.pointer (some ⟨Q, 0, none⟩)) := ⟨(k.block P (Sm.lt_of G7.1)).trans G7.1, G7.2.keep fun q hq => k.block q hq⟩
    have b8 : Below P W w8 := b7.trans (k.mono (Nat.le_of_lt (Sm.lt_of G7.1)))
    refine hK.out _ _ G8 (fun hHeld => ?_)
    clear k b7 G7 hK K
    refine wpAnyH_ready (rs := [21]) (by kernel_rfl) (by simp) ?_
    refine (AllReadyH.cons (o := ⟨some 63, _, _, _, _, _⟩) rfl (fun K hK => ?_) AllReadyH.nil)
    go_simp
    refine (dkWrite_none G8.2 _ _).mono ?_
    rintro e w' ⟨rfl, rfl⟩
    refine hK.out _ _ G8 (fun hHeld => ?_)
    clear hK K
    refine wpAnyH_take (i := 22) (oi := ⟨some 64, _, _, _, _, _⟩) (v := .bool true) rfl (by kernel_rfl) (by kernel_rfl) (by kernel_rfl) (fun _ _ _ h => h) (Or.inl ⟨by rfl, ?_⟩) (by assumption) ?_
    · intro w hSw; (try dsimp only at hSw); go_simp
    simp only [Act.put, List.setIfInBounds_toArray, List.set_cons_zero, List.set_cons_succ]
    refine wpAnyH_take (i := 23) (oi := ⟨some 65, _, _, _, _, _⟩) (v := .bool true) rfl (by kernel_rfl) (by kernel_rfl) (by kernel_rfl) (fun _ _ _ h => h) (Or.inl ⟨by rfl, ?_⟩) (by assumption) ?_
    · intro w hSw; (try dsimp only at hSw); go_simp
    simp only [Act.put, List.setIfInBounds_toArray, List.set_cons_zero, List.set_cons_succ]
    refine wpAnyH_take (i := 24) (oi := ⟨some 66, _, _, _, _, _⟩) (v := .bool true) rfl (by kernel_rfl) (by kernel_rfl) (by kernel_rfl) (fun _ _ _ h => h) (Or.inl ⟨by rfl, ?_⟩) (by assumption) ?_
    · intro w hSw; (try dsimp only at hSw); go_simp
    simp only [Act.put, List.setIfInBounds_toArray, List.set_cons_zero, List.set_cons_succ]
    refine wpAnyH_take (i := 25) (oi := ⟨some 67, _, _, _, _, _⟩) (v := .pointer none) rfl (by kernel_rfl) (by kernel_rfl) (by kernel_rfl) (fun _ _ _ h => h) (Or.inl ⟨by rfl, ?_⟩) (by assumption) ?_
    · intro w hSw; (try dsimp only at hSw); go_simp
    simp only [Act.put, List.setIfInBounds_toArray, List.set_cons_zero, List.set_cons_succ]
    refine wpAnyH_ready (rs := [26]) (by kernel_rfl) (by simp) ?_
    refine (AllReadyH.cons (o := ⟨some 68, _, _, _, _, _⟩) rfl (fun K hK => ?_) AllReadyH.nil)
    go_simp
    refine (dkSync_none (NN.out _)).mono ?_
    rintro e w' ⟨rfl, rfl⟩
    refine hK.out _ _ G8 (fun hHeld => ?_)
    clear hK K
    refine wpAnyH_take (i := 27) (oi := ⟨some 69, _, _, _, _, _⟩) (v := .bool true) rfl (by kernel_rfl) (by kernel_rfl) (by kernel_rfl) (fun _ _ _ h => h) (Or.inl ⟨by rfl, ?_⟩) (by assumption) ?_
    · intro w hSw; (try dsimp only at hSw); go_simp
    simp only [Act.put, List.setIfInBounds_toArray, List.set_cons_zero, List.set_cons_succ]
    refine wpAnyH_take (i := 28) (oi := ⟨some 70, _, _, _, _, _⟩) (v := .bool true) rfl (by kernel_rfl) (by kernel_rfl) (by kernel_rfl) (fun _ _ _ h => h) (Or.inl ⟨by rfl, ?_⟩) (by assumption) ?_
    · intro w hSw; (try dsimp only at hSw); go_simp
    simp only [Act.put, List.setIfInBounds_toArray, List.set_cons_zero, List.set_cons_succ]
    refine wpAnyH_take (i := 29) (oi := ⟨some 71, _, _, _, _, _⟩) (v := .bool true) rfl (by kernel_rfl) (by kernel_rfl) (by kernel_rfl) (fun _ _ _ h => h) (Or.inl ⟨by rfl, ?_⟩) (by assumption) ?_
    · intro w hSw; (try dsimp only at hSw); go_simp
    simp only [Act.put, List.setIfInBounds_toArray, List.set_cons_zero, List.set_cons_succ]
    refine wpAnyH_take (i := 30) (oi := ⟨some 72, _, _, _, _, _⟩) (v := .pointer none) rfl (by kernel_rfl) (by kernel_rfl) (by kernel_rfl) (fun _ _ _ h => h) (Or.inl ⟨by rfl, ?_⟩) (by assumption) ?_
    · intro w hSw; (try dsimp only at hSw); go_simp
    simp only [Act.put, List.setIfInBounds_toArray, List.set_cons_zero, List.set_cons_succ]
    refine wpAnyH_take (i := 31) (oi := ⟨some 73, _, _, _, _, _⟩) (v := .pointer (some ⟨P, 1, none⟩)) rfl (by kernel_rfl) (by kernel_rfl) (by kernel_rfl) (fun _ _ _ h => h) (Or.inl ⟨by rfl, ?_⟩) (by assumption) ?_
    · intro w hSw; (try dsimp only at hSw); go_simp
    simp only [Act.put, List.setIfInBounds_toArray, List.set_cons_zero, List.set_cons_succ]
    refine wpAnyH_take (i := 32) (oi := ⟨some 74, _, _, _, _, _⟩) (v := .int .i64 i) rfl (by kernel_rfl) (by kernel_rfl) (by kernel_rfl) (fun _ _ _ h => h) (Or.inl ⟨by rfl, ?_⟩) (by assumption) ?_
    · intro w hSw; (try dsimp only at hSw); have hm := hSw.1; have x1 := Sm.cells_of hm 1 _ rfl; go_simp
    simp only [Act.put, List.setIfInBounds_toArray, List.set_cons_zero, List.set_cons_succ]
    refine wpAnyH_take (i := 33) (oi := ⟨some 75, _, _, _, _, _⟩) (v := .pointer (some ⟨P, 2, none⟩)) rfl (by kernel_rfl) (by kernel_rfl) (by kernel_rfl) (fun _ _ _ h => h) (Or.inl ⟨by rfl, ?_⟩) (by assumption) ?_
    · intro w hSw; (try dsimp only at hSw); go_simp
    simp only [Act.put, List.setIfInBounds_toArray, List.set_cons_zero, List.set_cons_succ]
    refine wpAnyH_take (i := 34) (oi := ⟨some 76, _, _, _, _, _⟩) (v := .int .i64 n) rfl (by kernel_rfl) (by kernel_rfl) (by kernel_rfl) (fun _ _ _ h => h) (Or.inl ⟨by rfl, ?_⟩) (by assumption) ?_
    · intro w hSw; (try dsimp only at hSw); have hm := hSw.1; have x2 := Sm.cells_of hm 2 _ rfl; go_simp
    simp only [Act.put, List.setIfInBounds_toArray, List.set_cons_zero, List.set_cons_succ]
    refine wpAnyH_take (i := 35) (oi := ⟨some 77, _, _, _, _, _⟩) (v := .pointer (some ⟨P, 4, none⟩)) rfl (by kernel_rfl) (by kernel_rfl) (by kernel_rfl) (fun _ _ _ h => h) (Or.inl ⟨by rfl, ?_⟩) (by assumption) ?_
    · intro w hSw; (try dsimp only at hSw); go_simp
    simp only [Act.put, List.setIfInBounds_toArray, List.set_cons_zero, List.set_cons_succ]
    refine wpAnyH_take (i := 36) (oi := ⟨some 78, _, _, _, _, _⟩) (v := .string x) rfl (by kernel_rfl) (by kernel_rfl) (by kernel_rfl) (fun _ _ _ h => h) (Or.inl ⟨by rfl, ?_⟩) (by assumption) ?_
    · intro w hSw; (try dsimp only at hSw); have hm := hSw.1; have x4 := Sm.cells_of hm 4 _ rfl; go_simp
    simp only [Act.put, List.setIfInBounds_toArray, List.set_cons_zero, List.set_cons_succ]
    refine wpAnyH_ready (rs := [37]) (by kernel_rfl) (by simp) ?_
    refine (AllReadyH.cons (o := ⟨some 79, _, _, _, _, _⟩) rfl (fun K hK => ?_) AllReadyH.nil)
    go_simp
    refine (dkSpoil_none (NN.out _) _ _ _).mono ?_
    rintro e w' ⟨rfl, rfl⟩
    refine hK.out _ _ G8 (fun hHeld => ?_)
    clear hK K
    refine wpAnyH_take (i := 38) (oi := ⟨some 80, _, _, _, _, _⟩) (v := .bool true) rfl (by kernel_rfl) (by kernel_rfl) (by kernel_rfl) (fun _ _ _ h => h) (Or.inl ⟨by rfl, ?_⟩) (by assumption) ?_
    · intro w hSw; (try dsimp only at hSw); go_simp
    simp only [Act.put, List.setIfInBounds_toArray, List.set_cons_zero, List.set_cons_succ]
    refine wpAnyH_take (i := 39) (oi := ⟨some 81, _, _, _, _, _⟩) (v := .bool true) rfl (by kernel_rfl) (by kernel_rfl) (by kernel_rfl) (fun _ _ _ h => h) (Or.inl ⟨by rfl, ?_⟩) (by assumption) ?_
    · intro w hSw; (try dsimp only at hSw); go_simp
    simp only [Act.put, List.setIfInBounds_toArray, List.set_cons_zero, List.set_cons_succ]
    refine wpAnyH_take (i := 40) (oi := ⟨some 82, _, _, _, _, _⟩) (v := .bool true) rfl (by kernel_rfl) (by kernel_rfl) (by kernel_rfl) (fun _ _ _ h => h) (Or.inl ⟨by rfl, ?_⟩) (by assumption) ?_
    · intro w hSw; (try dsimp only at hSw); go_simp
    simp only [Act.put, List.setIfInBounds_toArray, List.set_cons_zero, List.set_cons_succ]
    refine wpAnyH_take (i := 41) (oi := ⟨some 83, _, _, _, _, _⟩) (v := .pointer none) rfl (by kernel_rfl) (by kernel_rfl) (by kernel_rfl) (fun _ _ _ h => h) (Or.inl ⟨by rfl, ?_⟩) (by assumption) ?_
    · intro w hSw; (try dsimp only at hSw); go_simp
    simp only [Act.put, List.setIfInBounds_toArray, List.set_cons_zero, List.set_cons_succ]
    refine wpAnyH_ready (rs := [42]) (by kernel_rfl) (by simp) ?_
    refine (AllReadyH.cons (o := ⟨some 84, _, _, _, _, _⟩) rfl (fun K hK => ?_) AllReadyH.nil)
    go_simp
    refine (dkSectors_none (NN.out _)).mono ?_
    rintro e w' ⟨rfl, rfl⟩
    refine hK.out _ _ G8 (fun hHeld => ?_)
    clear hK K
    refine wpAnyH_take (i := 43) (oi := ⟨some 85, _, _, _, _, _⟩) (v := .bool true) rfl (by kernel_rfl) (by kernel_rfl) (by kernel_rfl) (fun _ _ _ h => h) (Or.inl ⟨by rfl, ?_⟩) (by assumption) ?_
    · intro w hSw; (try dsimp only at hSw); go_simp
    simp only [Act.put, List.setIfInBounds_toArray, List.set_cons_zero, List.set_cons_succ]
    refine wpAnyH_take (i := 44) (oi := ⟨some 86, _, _, _, _, _⟩) (v := .bool true) rfl (by kernel_rfl) (by kernel_rfl) (by kernel_rfl) (fun _ _ _ h => h) (Or.inl ⟨by rfl, ?_⟩) (by assumption) ?_
    · intro w hSw; (try dsimp only at hSw); go_simp
    simp only [Act.put, List.setIfInBounds_toArray, List.set_cons_zero, List.set_cons_succ]
    refine wpAnyH_take (i := 45) (oi := ⟨some 87, _, _, _, _, _⟩) (v := .bool true) rfl (by kernel_rfl) (by kernel_rfl) (by kernel_rfl) (fun _ _ _ h => h) (Or.inl ⟨by rfl, ?_⟩) (by assumption) ?_
    · intro w hSw; (try dsimp only at hSw); go_simp
    simp only [Act.put, List.setIfInBounds_toArray, List.set_cons_zero, List.set_cons_succ]
    refine wpAnyH_take (i := 46) (oi := ⟨some 88, _, _, _, _, _⟩) (v := .pointer none) rfl (by kernel_rfl) (by kernel_rfl) (by kernel_rfl) (fun _ _ _ h => h) (Or.inl ⟨by rfl, ?_⟩) (by assumption) ?_
    · intro w hSw; (try dsimp only at hSw); go_simp
    simp only [Act.put, List.setIfInBounds_toArray, List.set_cons_zero, List.set_cons_succ]
    refine wpAnyH_ready (rs := [47]) (by kernel_rfl) (by simp) ?_
    refine (AllReadyH.cons (o := ⟨some 89, _, _, _, _, _⟩) rfl (fun K hK => ?_) AllReadyH.nil)
    go_simp
    refine (dkWaits_none (NN.out _)).mono ?_
    rintro e w' ⟨rfl, rfl⟩
    refine hK.out _ _ G8 (fun hHeld => ?_)
    clear hK K
    refine wpAnyH_take (i := 48) (oi := ⟨some 90, _, _, _, _, _⟩) (v := .bool true) rfl (by kernel_rfl) (by kernel_rfl) (by kernel_rfl) (fun _ _ _ h => h) (Or.inl ⟨by rfl, ?_⟩) (by assumption) ?_
    · intro w hSw; (try dsimp only at hSw); go_simp
    simp only [Act.put, List.setIfInBounds_toArray, List.set_cons_zero, List.set_cons_succ]
    refine wpAnyH_take (i := 49) (oi := ⟨some 91, _, _, _, _, _⟩) (v := .bool true) rfl (by kernel_rfl) (by kernel_rfl) (by kernel_rfl) (fun _ _ _ h => h) (Or.inl ⟨by rfl, ?_⟩) (by assumption) ?_
    · intro w hSw; (try dsimp only at hSw); go_simp
    simp only [Act.put, List.setIfInBounds_toArray, List.set_cons_zero, List.set_cons_succ]
    refine wpAnyH_take (i := 50) (oi := ⟨some 92, _, _, _, _, _⟩) (v := .bool true) rfl (by kernel_rfl) (by kernel_rfl) (by kernel_rfl) (fun _ _ _ h => h) (Or.inl ⟨by rfl, ?_⟩) (by assumption) ?_
    · intro w hSw; (try dsimp only at hSw); go_simp
    simp only [Act.put, List.setIfInBounds_toArray, List.set_cons_zero, List.set_cons_succ]
    refine wpAnyH_take (i := 51) (oi := ⟨some 93, _, _, _, _, _⟩) (v := .pointer none) rfl (by kernel_rfl) (by kernel_rfl) (by kernel_rfl) (fun _ _ _ h => h) (Or.inl ⟨by rfl, ?_⟩) (by assumption) ?_
    · intro w hSw; (try dsimp only at hSw); go_simp
    simp only [Act.put, List.setIfInBounds_toArray, List.set_cons_zero, List.set_cons_succ]
    refine wpAnyH_ready (rs := [52]) (by kernel_rfl) (by simp) ?_
    refine (AllReadyH.cons (o := ⟨some 94, _, _, _, _, _⟩) rfl (fun K hK => ?_) AllReadyH.nil)
    go_simp
    refine (dkDown_none (NN.out _)).mono ?_
    rintro e w' ⟨rfl, rfl⟩
    refine hK.out _ _ G8 (fun hHeld => ?_)
    clear hK K
    refine wpAnyH_take (i := 53) (oi := ⟨some 95, _, _, _, _, _⟩) (v := .bool true) rfl (by kernel_rfl) (by kernel_rfl) (by kernel_rfl) (fun _ _ _ h => h) (Or.inl ⟨by rfl, ?_⟩) (by assumption) ?_
    · intro w hSw; (try dsimp only at hSw); go_simp
    simp only [Act.put, List.setIfInBounds_toArray, List.set_cons_zero, List.set_cons_succ]
    refine wpAnyH_take (i := 54) (oi := ⟨some 96, _, _, _, _, _⟩) (v := .bool true) rfl (by kernel_rfl) (by kernel_rfl) (by kernel_rfl) (fun _ _ _ h => h) (Or.inl ⟨by rfl, ?_⟩) (by assumption) ?_
    · intro w hSw; (try dsimp only at hSw); go_simp
    simp only [Act.put, List.setIfInBounds_toArray, List.set_cons_zero, List.set_cons_succ]
    refine wpAnyH_take (i := 55) (oi := ⟨some 97, _, _, _, _, _⟩) (v := .bool true) rfl (by kernel_rfl) (by kernel_rfl) (by kernel_rfl) (fun _ _ _ h => h) (Or.inl ⟨by rfl, ?_⟩) (by assumption) ?_
    · intro w hSw; (try dsimp only at hSw); go_simp
    simp only [Act.put, List.setIfInBounds_toArray, List.set_cons_zero, List.set_cons_succ]
    refine wpAnyH_take (i := 56) (oi := ⟨some 98, _, _, _, _, _⟩) (v := .pointer none) rfl (by kernel_rfl) (by kernel_rfl) (by kernel_rfl) (fun _ _ _ h => h) (Or.inl ⟨by rfl, ?_⟩) (by assumption) ?_
    · intro w hSw; (try dsimp only at hSw); go_simp
    simp only [Act.put, List.setIfInBounds_toArray, List.set_cons_zero, List.set_cons_succ]
    refine wpAnyH_ready (rs := [57]) (by kernel_rfl) (by simp) ?_
    refine (AllReadyH.cons (o := ⟨some 99, _, _, _, _, _⟩) rfl (fun K hK => ?_) AllReadyH.nil)
    go_simp
    refine (dkTwin_none (NN.out _)).mono ?_
    rintro e w' ⟨rfl, rfl⟩
    refine hK.out _ _ G8 (fun hHeld => ?_)
    clear hK K
    refine wpAnyH_take (i := 58) (oi := ⟨some 100, _, _, _, _, _⟩) (v := .bool true) rfl (by kernel_rfl) (by kernel_rfl) (by kernel_rfl) (fun _ _ _ h => h) (Or.inl ⟨by rfl, ?_⟩) (by assumption) ?_
    · intro w hSw; (try dsimp only at hSw); go_simp
    simp only [Act.put, List.setIfInBounds_toArray, List.set_cons_zero, List.set_cons_succ]
    refine wpAnyH_take (i := 59) (oi := ⟨some 101, _, _, _, _, _⟩) (v := .bool true) rfl (by kernel_rfl) (by kernel_rfl) (by kernel_rfl) (fun _ _ _ h => h) (Or.inl ⟨by rfl, ?_⟩) (by assumption) ?_
    · intro w hSw; (try dsimp only at hSw); go_simp
    simp only [Act.put, List.setIfInBounds_toArray, List.set_cons_zero, List.set_cons_succ]
    refine wpAnyH_take (i := 60) (oi := ⟨some 102, _, _, _, _, _⟩) (v := .bool true) rfl (by kernel_rfl) (by kernel_rfl) (by kernel_rfl) (fun _ _ _ h => h) (Or.inl ⟨by rfl, ?_⟩) (by assumption) ?_
    · intro w hSw; (try dsimp only at hSw); go_simp
    simp only [Act.put, List.setIfInBounds_toArray, List.set_cons_zero, List.set_cons_succ]
    refine wpAnyH_take (i := 61) (oi := ⟨some 103, _, _, _, _, _⟩) (v := .pointer (some ⟨Q, 0, none⟩)) rfl (by kernel_rfl) (by kernel_rfl) (by kernel_rfl) (fun _ _ _ h => h) (Or.inl ⟨by rfl, ?_⟩) (by assumption) ?_
    · intro w hSw; (try dsimp only at hSw); go_simp
    simp only [Act.put, List.setIfInBounds_toArray, List.set_cons_zero, List.set_cons_succ]
    refine wpAnyH_ready (rs := [62]) (by kernel_rfl) (by simp) ?_
    refine (AllReadyH.cons (o := ⟨some 104, _, _, _, _, _⟩) rfl (fun K hK => ?_) AllReadyH.nil)
    go_simp
    refine (dkTwin_none G8.2).mono ?_
    rintro e w' ⟨rfl, rfl⟩
    refine hK.out _ _ G8 (fun hHeld => ?_)
    clear hK K
    refine wpAnyH_take (i := 63) (oi := ⟨some 105, _, _, _, _, _⟩) (v := .bool true) rfl (by kernel_rfl) (by kernel_rfl) (by kernel_rfl) (fun _ _ _ h => h) (Or.inl ⟨by rfl, ?_⟩) (by assumption) ?_
    · intro w hSw; (try dsimp only at hSw); go_simp
    simp only [Act.put, List.setIfInBounds_toArray, List.set_cons_zero, List.set_cons_succ]
    refine wpAnyH_take (i := 64) (oi := ⟨some 106, _, _, _, _, _⟩) (v := .bool true) rfl (by kernel_rfl) (by kernel_rfl) (by kernel_rfl) (fun _ _ _ h => h) (Or.inl ⟨by rfl, ?_⟩) (by assumption) ?_
    · intro w hSw; (try dsimp only at hSw); go_simp
    simp only [Act.put, List.setIfInBounds_toArray, List.set_cons_zero, List.set_cons_succ]
    refine wpAnyH_take (i := 65) (oi := ⟨some 2, _, _, _, _, _⟩) (v := .bool true) rfl (by kernel_rfl) (by kernel_rfl) (by kernel_rfl) (fun _ _ _ h => h) (Or.inl ⟨by rfl, ?_⟩) (by assumption) ?_
    · intro w hSw; (try dsimp only at hSw); go_simp
    simp only [Act.put, List.setIfInBounds_toArray, List.set_cons_zero, List.set_cons_succ]
    refine wpAnyH_done (by kernel_rfl) ?_ _
    go_wp2
    go_ret
    rw [← HP.out]
    exact ⟨rfl, b8⟩
end Go.Proofs.Ytleknlkbaeognaa
