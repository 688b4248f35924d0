/-
  What the document's schedule makes: a key's words, each a slice of four bytes.
-/
import Derived.Test.YtibpgmcpcelmpaaGreatDoorMRa
import Derived.Deep.CutRange
namespace Go.Proofs.YtibpgmcpcelmpaaGreatDoor
open Go.RowKit
namespace Ae
theorem own_keep {w w' : World} {base n size B : Nat} {e : TypeId} {v : Value} {ys : List Value} (ho : w.ownsRow base e size v n ys) (hB : w.heap.size ≤ B) (k : Below B w w') : w'.ownsRow base e size v n ys := by
  rcases ho with ⟨h0, h | ⟨g, cap, cur, h1, h2, h3, h4⟩⟩
  · exact ⟨h0, .inl h⟩
  · exact ⟨h0, .inr ⟨g, cap, cur, h1, h2, (k.block g (Nat.lt_of_lt_of_le (Sm.lt_of h3) hB)).trans h3, h4⟩⟩
end Ae

set_option maxRecDepth 100000 in
set_option maxHeartbeats 8000000 in
theorem refSched_any {w : World} {gs : Nat} (cs : Nat) (hs8 : Ae.BytesAt w gs (Ae.s8 256)) (key : List UInt8) (hkey : key.length = 32) :
    Calls Tryz.prog 92 #[.agg (Lib.byteCells key).toArray, .slice (some ⟨gs, 0, none⟩) 256 cs] w fun e w' => ∃ G C, e = .returned (.slice (some ⟨G, 0, none⟩) 60 C) ∧ Ae.WsAt w' G (Ae.ks key) 60 ∧ Below w.heap.size w w' := by
  obtain ⟨i0, hi, hz0, hz1, hz2⟩ := info_parts Ae.info_bytes
  obtain ⟨b0, hbi, hbz0, hbz1, hbz2⟩ := info_parts info3_u8
  obtain ⟨ck, hck⟩ : ∃ c, c = (Lib.byteCells key).toArray := ⟨_, rfl⟩
  obtain ⟨N, hN⟩ : ∃ N, N = w.heap.size := ⟨_, rfl⟩
  have g1 : (w.alloc (.cells ck 63)).heap[N]? = some (.cells (Lib.byteCells key).toArray 63 (0, 0)) := by rw [hN, ← hck]; exact heap_alloc_new w _
  have b1 : Below N w (w.alloc (.cells ck 63)) := by rw [hN]; exact (Below.refl _ w).alloc (Nat.le_refl _) _
  have HS8 := Lib.hid hs8
  have hgs : gs < N := by rw [hN]; exact Ae.cell_lt (hs8 0 (by rw [Ae.s8_length]; decide))
  have HKL := Lib.hid hkey
  rw [← hck]
  clear hck hs8 hkey
  go_enter Tryz.func92, Tryz.ntmps92
  go_wp2_with fail
  generalize w.alloc (.cells ck 63) = W1 at *
  rw [← hN]
  have HN := Lib.hid hN
  have hN1 : N < W1.heap.size := Sm.lt_of g1
  clear hN
  go_loopw [5, 6] (fun v i wr => ∃ (k : Nat) (A : Option Addr) (c : Nat) (xs : List Value), k ≤ 8 ∧ i = .int .i64 k ∧ v = .slice A k c ∧ wr.ownsRow N 85 1 (.slice A k c) k xs ∧ Ae.Words wr N xs ((List.range k).map (Sm.word key)) ∧ wr.heap[N]? = some (.cells (Lib.byteCells key).toArray 63 (0, 0)) ∧ Below N w wr) (fun _ i _ => 8 - (intOf i).toNat)
  case atStart => exact ⟨0, none, 0, [], by omega, rfl, rfl, ⟨rfl, .inl ⟨rfl, rfl⟩⟩, ⟨rfl, fun j hj => absurd hj (by simp)⟩, g1, b1⟩
  case round =>
    clear g1 b1 hN1
    obtain ⟨k, A, c, xs, hk, rfl, rfl, hown, hwo, hkr, hbw⟩ := hrel
    have HO := Lib.hid hown
    have HWO := Lib.hid hwo
    have HKR := Lib.hid hkr
    clear hown hwo hkr
    by_cases hlt : k < 8
    · have q1 : (k : Int) < 8 := by omega
      have lN := Sm.lt_of HKR.out
      have C0 : Hid (wr.drew.cell? ⟨N, 4 * k, none⟩ = some (.int .u8 ((key.getD (4 * k) 0).toNat : Int))) := Sm.row_cell HKR.out _ (by rw [HKL.out]; omega)
      have C1 : Hid (wr.drew.cell? ⟨N, 4 * k + 1, none⟩ = some (.int .u8 ((key.getD (4 * k + 1) 0).toNat : Int))) := Sm.row_cell HKR.out _ (by rw [HKL.out]; omega)
      have C2 : Hid (wr.drew.cell? ⟨N, 4 * k + 2, none⟩ = some (.int .u8 ((key.getD (4 * k + 2) 0).toNat : Int))) := Sm.row_cell HKR.out _ (by rw [HKL.out]; omega)
      have C3 : Hid (wr.drew.cell? ⟨N, 4 * k + 3, none⟩ = some (.int .u8 ((key.getD (4 * k + 3) 0).toNat : Int))) := Sm.row_cell HKR.out _ (by rw [HKL.out]; omega)
      have HBY := Lib.hid (fun m hm => Ae.byte_word key k m hm)
      have b0' := byte_fits (key.getD (4 * k) 0)
      have b1' := byte_fits (key.getD (4 * k + 1) 0)
      have b2' := byte_fits (key.getD (4 * k + 2) 0)
      have b3' := byte_fits (key.getD (4 * k + 3) 0)
      have B0 : Hid (Ae.byteAt (Sm.word key k) 0 = (key.getD (4 * k) 0).toNat) := HBY.out 0 (by decide)
      have B1 : Hid (Ae.byteAt (Sm.word key k) 1 = (key.getD (4 * k + 1) 0).toNat) := HBY.out 1 (by decide)
      have B2 : Hid (Ae.byteAt (Sm.word key k) 2 = (key.getD (4 * k + 2) 0).toNat) := HBY.out 2 (by decide)
      have B3 : Hid (Ae.byteAt (Sm.word key k) 3 = (key.getD (4 * k + 3) 0).toNat) := HBY.out 3 (by decide)
      clear HBY
      generalize (key.getD (4 * k) 0).toNat = x0 at *
      generalize (key.getD (4 * k + 1) 0).toNat = x1 at *
      generalize (key.getD (4 * k + 2) 0).toNat = x2 at *
      generalize (key.getD (4 * k + 3) 0).toNat = x3 at *
      have e0 : (4 * (k : Int)).toNat = 4 * k := by omega
      have e1 : (4 * (k : Int) + 1).toNat = 4 * k + 1 := by omega
      have e2 : (4 * (k : Int) + 2).toNat = 4 * k + 2 := by omega
      have e3 : (4 * (k : Int) + 3).toNat = 4 * k + 3 := by omega
      have v0 : IntKind.i64.wrap (4 * (k : Int)) = 4 * (k : Int) := IntWalk.i64_in _ (by omega)
      have v1 : IntKind.i64.wrap (4 * (k : Int) + 1) = 4 * (k : Int) + 1 := IntWalk.i64_in _ (by omega)
      have v2 : IntKind.i64.wrap (4 * (k : Int) + 2) = 4 * (k : Int) + 2 := IntWalk.i64_in _ (by omega)
      have v3 : IntKind.i64.wrap (4 * (k : Int) + 3) = 4 * (k : Int) + 3 := IntWalk.i64_in _ (by omega)
      have u0 : 4 * (k : Int) < 32 := by omega
      have u1 : 4 * (k : Int) + 1 < 32 := by omega
      have u2 : 4 * (k : Int) + 2 < 32 := by omega
      have u3 : 4 * (k : Int) + 3 < 32 := by omega
      have p0 : 0 ≤ 4 * (k : Int) := by omega
      have p1 : 0 ≤ 4 * (k : Int) + 1 := by omega
      have p2 : 0 ≤ 4 * (k : Int) + 2 := by omega
      have p3 : 0 ≤ 4 * (k : Int) + 3 := by omega
      go_wp2_with fail
      refine wp_region_noPanic ?_
      refine wp_region_held_drew (S := fun w' => w'.cell? ⟨N, 4 * k, none⟩ = some (.int .u8 (x0 : Int)) ∧ w'.cell? ⟨N, 4 * k + 1, none⟩ = some (.int .u8 (x1 : Int)) ∧ w'.cell? ⟨N, 4 * k + 2, none⟩ = some (.int .u8 (x2 : Int)) ∧ w'.cell? ⟨N, 4 * k + 3, none⟩ = some (.int .u8 (x3 : Int))) (by kernel_rfl) ⟨C0.out, C1.out, C2.out, C3.out⟩ (fun hHeld => ?_)
      refine wpAnyH_take (i := 0) (oi := ⟨some 17, _, _, _, _, _⟩) (v := .slice A k c) rfl (by kernel_rfl) (by kernel_rfl) (by kernel_rfl) (fun _ _ _ h => h) (Or.inl ⟨by rfl, ?_⟩) (by assumption) ?_
      · intro w hSw; (try dsimp only at hSw); go_simp
      simp only [Act.put, List.setIfInBounds_toArray, List.set_cons_zero, List.set_cons_succ]
      refine wpAnyH_take (i := 1) (oi := ⟨some 18, _, _, _, _, _⟩) (v := .int .i64 ((k : Int))) rfl (by kernel_rfl) (by kernel_rfl) (by kernel_rfl) (fun _ _ _ h => h) (Or.inl ⟨by rfl, ?_⟩) (by assumption) ?_
      · intro w hSw; (try dsimp only at hSw); go_simp
      simp only [Act.put, List.setIfInBounds_toArray, List.set_cons_zero, List.set_cons_succ]
      refine wpAnyH_take (i := 2) (oi := ⟨some 19, _, _, _, _, _⟩) (v := .int .i64 (4 * (k : Int))) rfl (by kernel_rfl) (by kernel_rfl) (by kernel_rfl) (fun _ _ _ h => h) (Or.inl ⟨by rfl, ?_⟩) (by assumption) ?_
      · intro w hSw; (try dsimp only at hSw); go_simp
      simp only [Act.put, List.setIfInBounds_toArray, List.set_cons_zero, List.set_cons_succ]
      refine wpAnyH_take (i := 3) (oi := ⟨some 20, _, _, _, _, _⟩) (v := .pointer (some ⟨N, 4 * k, none⟩)) rfl (by kernel_rfl) (by kernel_rfl) (by kernel_rfl) (fun _ _ _ h => h) (Or.inl ⟨by rfl, ?_⟩) (by assumption) ?_
      · intro w hSw; (try dsimp only at hSw); go_simp
      simp only [Act.put, List.setIfInBounds_toArray, List.set_cons_zero, List.set_cons_succ]
      refine wpAnyH_take (i := 4) (oi := ⟨some 21, _, _, _, _, _⟩) (v := .int .u8 (x0 : Int)) rfl (by kernel_rfl) (by kernel_rfl) (by kernel_rfl) (fun _ _ _ h => h) (Or.inl ⟨by rfl, ?_⟩) (by assumption) ?_
      · intro w hSw; (try dsimp only at hSw); go_simp
      simp only [Act.put, List.setIfInBounds_toArray, List.set_cons_zero, List.set_cons_succ]
      refine wpAnyH_take (i := 5) (oi := ⟨some 22, _, _, _, _, _⟩) (v := .int .i64 ((k : Int))) rfl (by kernel_rfl) (by kernel_rfl) (by kernel_rfl) (fun _ _ _ h => h) (Or.inl ⟨by rfl, ?_⟩) (by assumption) ?_
      · intro w hSw; (try dsimp only at hSw); go_simp
      simp only [Act.put, List.setIfInBounds_toArray, List.set_cons_zero, List.set_cons_succ]
      refine wpAnyH_take (i := 6) (oi := ⟨some 23, _, _, _, _, _⟩) (v := .int .i64 (4 * (k : Int))) rfl (by kernel_rfl) (by kernel_rfl) (by kernel_rfl) (fun _ _ _ h => h) (Or.inl ⟨by rfl, ?_⟩) (by assumption) ?_
      · intro w hSw; (try dsimp only at hSw); go_simp
      simp only [Act.put, List.setIfInBounds_toArray, List.set_cons_zero, List.set_cons_succ]
      refine wpAnyH_take (i := 7) (oi := ⟨some 24, _, _, _, _, _⟩) (v := .int .i64 (4 * (k : Int) + 1)) rfl (by kernel_rfl) (by kernel_rfl) (by kernel_rfl) (fun _ _ _ h => h) (Or.inl ⟨by rfl, ?_⟩) (by assumption) ?_
      · intro w hSw; (try dsimp only at hSw); go_simp
      simp only [Act.put, List.setIfInBounds_toArray, List.set_cons_zero, List.set_cons_succ]
      refine wpAnyH_take (i := 8) (oi := ⟨some 25, _, _, _, _, _⟩) (v := .pointer (some ⟨N, 4 * k + 1, none⟩)) rfl (by kernel_rfl) (by kernel_rfl) (by kernel_rfl) (fun _ _ _ h => h) (Or.inl ⟨by rfl, ?_⟩) (by assumption) ?_
      · intro w hSw; (try dsimp only at hSw); go_simp
      simp only [Act.put, List.setIfInBounds_toArray, List.set_cons_zero, List.set_cons_succ]
      refine wpAnyH_take (i := 9) (oi := ⟨some 26, _, _, _, _, _⟩) (v := .int .u8 (x1 : Int)) rfl (by kernel_rfl) (by kernel_rfl) (by kernel_rfl) (fun _ _ _ h => h) (Or.inl ⟨by rfl, ?_⟩) (by assumption) ?_
      · intro w hSw; (try dsimp only at hSw); go_simp
      simp only [Act.put, List.setIfInBounds_toArray, List.set_cons_zero, List.set_cons_succ]
      refine wpAnyH_take (i := 10) (oi := ⟨some 27, _, _, _, _, _⟩) (v := .int .i64 ((k : Int))) rfl (by kernel_rfl) (by kernel_rfl) (by kernel_rfl) (fun _ _ _ h => h) (Or.inl ⟨by rfl, ?_⟩) (by assumption) ?_
      · intro w hSw; (try dsimp only at hSw); go_simp
      simp only [Act.put, List.setIfInBounds_toArray, List.set_cons_zero, List.set_cons_succ]
      refine wpAnyH_take (i := 11) (oi := ⟨some 28, _, _, _, _, _⟩) (v := .int .i64 (4 * (k : Int))) rfl (by kernel_rfl) (by kernel_rfl) (by kernel_rfl) (fun _ _ _ h => h) (Or.inl ⟨by rfl, ?_⟩) (by assumption) ?_
      · intro w hSw; (try dsimp only at hSw); go_simp
      simp only [Act.put, List.setIfInBounds_toArray, List.set_cons_zero, List.set_cons_succ]
      refine wpAnyH_take (i := 12) (oi := ⟨some 29, _, _, _, _, _⟩) (v := .int .i64 (4 * (k : Int) + 2)) rfl (by kernel_rfl) (by kernel_rfl) (by kernel_rfl) (fun _ _ _ h => h) (Or.inl ⟨by rfl, ?_⟩) (by assumption) ?_
      · intro w hSw; (try dsimp only at hSw); go_simp
      simp only [Act.put, List.setIfInBounds_toArray, List.set_cons_zero, List.set_cons_succ]
      refine wpAnyH_take (i := 13) (oi := ⟨some 30, _, _, _, _, _⟩) (v := .pointer (some ⟨N, 4 * k + 2, none⟩)) rfl (by kernel_rfl) (by kernel_rfl) (by kernel_rfl) (fun _ _ _ h => h) (Or.inl ⟨by rfl, ?_⟩) (by assumption) ?_
      · intro w hSw; (try dsimp only at hSw); go_simp
      simp only [Act.put, List.setIfInBounds_toArray, List.set_cons_zero, List.set_cons_succ]
      refine wpAnyH_take (i := 14) (oi := ⟨some 31, _, _, _, _, _⟩) (v := .int .u8 (x2 : Int)) rfl (by kernel_rfl) (by kernel_rfl) (by kernel_rfl) (fun _ _ _ h => h) (Or.inl ⟨by rfl, ?_⟩) (by assumption) ?_
      · intro w hSw; (try dsimp only at hSw); go_simp
      simp only [Act.put, List.setIfInBounds_toArray, List.set_cons_zero, List.set_cons_succ]
      refine wpAnyH_take (i := 15) (oi := ⟨some 32, _, _, _, _, _⟩) (v := .int .i64 ((k : Int))) rfl (by kernel_rfl) (by kernel_rfl) (by kernel_rfl) (fun _ _ _ h => h) (Or.inl ⟨by rfl, ?_⟩) (by assumption) ?_
      · intro w hSw; (try dsimp only at hSw); go_simp
      simp only [Act.put, List.setIfInBounds_toArray, List.set_cons_zero, List.set_cons_succ]
      refine wpAnyH_take (i := 16) (oi := ⟨some 33, _, _, _, _, _⟩) (v := .int .i64 (4 * (k : Int))) rfl (by kernel_rfl) (by kernel_rfl) (by kernel_rfl) (fun _ _ _ h => h) (Or.inl ⟨by rfl, ?_⟩) (by assumption) ?_
      · intro w hSw; (try dsimp only at hSw); go_simp
      simp only [Act.put, List.setIfInBounds_toArray, List.set_cons_zero, List.set_cons_succ]
      refine wpAnyH_take (i := 17) (oi := ⟨some 34, _, _, _, _, _⟩) (v := .int .i64 (4 * (k : Int) + 3)) rfl (by kernel_rfl) (by kernel_rfl) (by kernel_rfl) (fun _ _ _ h => h) (Or.inl ⟨by rfl, ?_⟩) (by assumption) ?_
      · intro w hSw; (try dsimp only at hSw); go_simp
      simp only [Act.put, List.setIfInBounds_toArray, List.set_cons_zero, List.set_cons_succ]
      refine wpAnyH_take (i := 18) (oi := ⟨some 35, _, _, _, _, _⟩) (v := .pointer (some ⟨N, 4 * k + 3, none⟩)) rfl (by kernel_rfl) (by kernel_rfl) (by kernel_rfl) (fun _ _ _ h => h) (Or.inl ⟨by rfl, ?_⟩) (by assumption) ?_
      · intro w hSw; (try dsimp only at hSw); go_simp
      simp only [Act.put, List.setIfInBounds_toArray, List.set_cons_zero, List.set_cons_succ]
      refine wpAnyH_take (i := 19) (oi := ⟨some 36, _, _, _, _, _⟩) (v := .int .u8 (x3 : Int)) rfl (by kernel_rfl) (by kernel_rfl) (by kernel_rfl) (fun _ _ _ h => h) (Or.inl ⟨by rfl, ?_⟩) (by assumption) ?_
      · intro w hSw; (try dsimp only at hSw); go_simp
      simp only [Act.put, List.setIfInBounds_toArray, List.set_cons_zero, List.set_cons_succ]
      refine wpAnyH_ready (rs := [20]) (by kernel_rfl) (by simp) ?_
      refine AllReadyH.cons (o := ⟨some 37, _, _, _, _, _⟩) rfl (fun K hK => ?_) AllReadyH.nil
      go_simp
      have k4 : Below wr.heap.size wr (wr.alloc (.cells #[.int .u8 (x0 : Int), .int .u8 (x1 : Int), .int .u8 (x2 : Int), .int .u8 (x3 : Int)] 5)).drew := ((Below.refl _ wr).alloc (Nat.le_refl _) _).drew
      have hNw : N < wr.heap.size := lN
      have D0 : Hid ((wr.alloc (.cells #[.int .u8 (x0 : Int), .int .u8 (x1 : Int), .int .u8 (x2 : Int), .int .u8 (x3 : Int)] 5)).drew.cell? ⟨N, 4 * k, none⟩ = some (.int .u8 (x0 : Int))) := (k4.cell (p := ⟨N, 4 * k, none⟩) hNw).trans C0.out
      have D1 : Hid ((wr.alloc (.cells #[.int .u8 (x0 : Int), .int .u8 (x1 : Int), .int .u8 (x2 : Int), .int .u8 (x3 : Int)] 5)).drew.cell? ⟨N, 4 * k + 1, none⟩ = some (.int .u8 (x1 : Int))) := (k4.cell (p := ⟨N, 4 * k + 1, none⟩) hNw).trans C1.out
      have D2 : Hid ((wr.alloc (.cells #[.int .u8 (x0 : Int), .int .u8 (x1 : Int), .int .u8 (x2 : Int), .int .u8 (x3 : Int)] 5)).drew.cell? ⟨N, 4 * k + 2, none⟩ = some (.int .u8 (x2 : Int))) := (k4.cell (p := ⟨N, 4 * k + 2, none⟩) hNw).trans C2.out
      have D3 : Hid ((wr.alloc (.cells #[.int .u8 (x0 : Int), .int .u8 (x1 : Int), .int .u8 (x2 : Int), .int .u8 (x3 : Int)] 5)).drew.cell? ⟨N, 4 * k + 3, none⟩ = some (.int .u8 (x3 : Int))) := (k4.cell (p := ⟨N, 4 * k + 3, none⟩) hNw).trans C3.out
      have hF : Ae.FAt (wr.alloc (.cells #[.int .u8 (x0 : Int), .int .u8 (x1 : Int), .int .u8 (x2 : Int), .int .u8 (x3 : Int)] 5)).drew wr.heap.size (Ae.byteAt (Sm.word key k)) := ⟨_, heap_alloc_new wr _, fun m hm => by
        obtain rfl | rfl | rfl | rfl : m = 0 ∨ m = 1 ∨ m = 2 ∨ m = 3 := by omega
        · rw [B0.out]; rfl
        · rw [B1.out]; rfl
        · rw [B2.out]; rfl
        · rw [B3.out]; rfl⟩
      have ho4 : (wr.alloc (.cells #[.int .u8 (x0 : Int), .int .u8 (x1 : Int), .int .u8 (x2 : Int), .int .u8 (x3 : Int)] 5)).drew.ownsRow N 85 1 (.slice A k c) k xs := HO.out.alloc _
      have hw4 := HWO.out.keep (Nat.le_refl _) k4
      have hk4 := (k4.block N hNw).trans HKR.out
      have hb4 : Below N w (wr.alloc (.cells #[.int .u8 (x0 : Int), .int .u8 (x1 : Int), .int .u8 (x2 : Int), .int .u8 (x3 : Int)] 5)).drew := (hbw.alloc (Nat.le_of_lt hNw) _).drew
      have hs4 : (wr.alloc (.cells #[.int .u8 (x0 : Int), .int .u8 (x1 : Int), .int .u8 (x2 : Int), .int .u8 (x3 : Int)] 5)).drew.heap.size = wr.heap.size + 1 := by show (wr.alloc (.cells #[.int .u8 (x0 : Int), .int .u8 (x1 : Int), .int .u8 (x2 : Int), .int .u8 (x3 : Int)] 5)).heap.size = _; simp
      refine hK.out _ _ ⟨D0.out, D1.out, D2.out, D3.out⟩ (fun hHeld => ?_)
      clear hK K k4
      generalize (wr.alloc (.cells #[.int .u8 (x0 : Int), .int .u8 (x1 : Int), .int .u8 (x2 : Int), .int .u8 (x3 : Int)] 5)).drew = W4 at *
      obtain ⟨M, hM⟩ : ∃ M, M = wr.heap.size := ⟨_, rfl⟩
      rw [← hM] at hF hs4 ⊢
      have hNM : N < M := by omega
      have HF := Lib.hid hF
      have HO4 := Lib.hid ho4
      have HW4 := Lib.hid hw4
      have HK4 := Lib.hid hk4
      have hlt4 : M < W4.heap.size := by omega
      clear hF ho4 hw4 hk4 hM hs4
      refine wpAnyH_ready (rs := [21]) (by kernel_rfl) (by simp) ?_
      refine AllReadyH.cons (o := ⟨some 38, _, _, _, _, _⟩) rfl (fun K hK => ?_) AllReadyH.nil
      go_simp
      have k5 : Below W4.heap.size W4 (W4.alloc (.cells #[.slice (some ⟨M, 0, none⟩) 4 4] 85)) := (Below.refl _ W4).alloc (Nat.le_refl _) _
      have hNw4 : N < W4.heap.size := by omega
      have E0 := Lib.hid ((k5.cell (p := ⟨N, 4 * k, none⟩) hNw4).trans D0.out)
      have E1 := Lib.hid ((k5.cell (p := ⟨N, 4 * k + 1, none⟩) hNw4).trans D1.out)
      have E2 := Lib.hid ((k5.cell (p := ⟨N, 4 * k + 2, none⟩) hNw4).trans D2.out)
      have E3 := Lib.hid ((k5.cell (p := ⟨N, 4 * k + 3, none⟩) hNw4).trans D3.out)
      have hF5 := HF.out.block (k5.block M HF.out.lt)
      have ho5 : (W4.alloc (.cells #[.slice (some ⟨M, 0, none⟩) 4 4] 85)).ownsRow N 85 1 (.slice A k c) k xs := HO4.out.alloc _
      have hw5 := HW4.out.keep (Nat.le_refl _) k5
      have hk5 := (k5.block N hNw4).trans HK4.out
      have hb5 : Below N w (W4.alloc (.cells #[.slice (some ⟨M, 0, none⟩) 4 4] 85)) := hb4.alloc (Nat.le_of_lt hNw4) _
      have hnew : ∀ j u, [Value.slice (some ⟨M, 0, none⟩) 4 4][j]? = some u → (W4.alloc (.cells #[.slice (some ⟨M, 0, none⟩) 4 4] 85)).cell? ((⟨W4.heap.size, 0, none⟩ : Addr).add j) = some u := by
        intro j u hj
        match j, hj with
        | 0, hj => simp at hj; subst hj; simp [Addr.add]
      have hone : ∀ u ∈ [Value.slice (some ⟨M, 0, none⟩) 4 4], u.oneCell' = true := by intro u hu; simp at hu; subst hu; rfl
      have hs5 : N ≤ (W4.alloc (.cells #[.slice (some ⟨M, 0, none⟩) 4 4] 85)).heap.size := Nat.le_trans (Nat.le_of_lt hNw4) k5.size
      refine hK.out _ _ ⟨E0.out, E1.out, E2.out, E3.out⟩ (fun hHeld => ?_)
      clear hK K k5
      have HF5 := Lib.hid hF5
      have HO5 := Lib.hid ho5
      have HW5 := Lib.hid hw5
      have HK5 := Lib.hid hk5
      have HNEW := Lib.hid hnew
      clear hF5 ho5 hw5 hk5 hnew
      refine wpAnyH_ready (rs := [22]) (by kernel_rfl) (by simp) ?_
      refine AllReadyH.cons (o := ⟨some 39, _, _, _, _, _⟩) rfl (fun K hK => ?_) AllReadyH.nil
      refine Sm.step_append_own rfl (.tmp 17) (.tmp 38) 157 rfl N 85 i0 (.slice none 0 0) 1 24 Tryz.underlying157 hi hz0 hz1 hz2 rfl (by decide) (.slice A k c) k _ rfl HO5.out ⟨W4.heap.size, 0, none⟩ 1 1 [.slice (some ⟨M, 0, none⟩) 4 4] rfl rfl HNEW.out hone (by unfold maxLen; omega) (by omega) hs5 ?_
      intro A' c' w1 hown' hgrow
      have hNe := Ae.own_ne HO5.out HK5.out (by decide)
      have hMe : some M ≠ (Value.slice A k c).ownBlock := by
        obtain ⟨cur, h1, _⟩ := HF5.out
        exact Ae.own_ne HO5.out h1 (by decide)
      have hbN := hgrow.block N (Sm.lt_of HK5.out) hNe
      have G0 := Lib.hid ((World.cell?_of_block (a := ⟨N, 4 * k, none⟩) hbN).trans E0.out)
      have G1 := Lib.hid ((World.cell?_of_block (a := ⟨N, 4 * k + 1, none⟩) hbN).trans E1.out)
      have G2 := Lib.hid ((World.cell?_of_block (a := ⟨N, 4 * k + 2, none⟩) hbN).trans E2.out)
      have G3 := Lib.hid ((World.cell?_of_block (a := ⟨N, 4 * k + 3, none⟩) hbN).trans E3.out)
      have HK6 := Lib.hid (hbN.trans HK5.out)
      have HF6 := Lib.hid (HF5.out.block (hgrow.block M HF5.out.lt hMe))
      have HW6 := Lib.hid ((HW5.out.grown HO5.out hgrow).snoc (c := 4) (Nat.le_of_lt hNM) HF6.out)
      have HO6 := Lib.hid hown'
      have hb6 : Below N w w1 := hb5.trans ((Below.refl N _).grown hgrow hs5 (fun j hj => (HO5.out.lt j hj).1))
      refine hK.out _ _ ⟨G0.out, G1.out, G2.out, G3.out⟩ (fun hHeld => ?_)
      clear hK K hown' hgrow hbN hNe hMe
      simp only [Act.put, List.setIfInBounds_toArray, List.set_cons_zero, List.set_cons_succ]
      refine wpAnyH_take (i := 23) (oi := ⟨some 5, _, _, _, _, _⟩) (v := .slice A' (k + 1) c') rfl (by kernel_rfl) (by kernel_rfl) (by kernel_rfl) (fun _ _ _ h => h) (Or.inl ⟨by rfl, ?_⟩) (by assumption) ?_
      · intro w hSw; (try dsimp only at hSw); go_simp
      simp only [Act.put, List.setIfInBounds_toArray, List.set_cons_zero, List.set_cons_succ]
      refine wpAnyH_done (by kernel_rfl) ?_ _
      refine NoPanic.normal ?_
      clear v0 v1 v2 v3 e0 e1 e2 e3 u0 u1 u2 u3 p0 p1 p2 p3 hHeld
      go_wp2
      go_roundw
      case rel =>
        refine ⟨k + 1, A', c', _, by omega, by go_num, rfl, HO6.out, ?_, HK6.out, hb6⟩
        rw [List.range_succ, List.map_append]
        exact HW6.out
      case measure => simp [intOf]; omega
    · obtain rfl : k = 8 := by omega
      have q1 : ¬ ((8 : Nat) : Int) < 8 := by omega
      clear hlt hk
      go_wp2_with fail
      have hW8 : Ae.Words wr N xs (Ae.sched key 0) := HWO.out
      have HW8 := Lib.hid hW8
      clear hW8 HWO HKR
      obtain ⟨w1, hw1⟩ : ∃ w1, w1 = wr := ⟨_, rfl⟩
      rw [← hw1] at HO HW8 hbw ⊢
      clear hw1
      go_loopw [5, 7] (fun v i wr => ∃ (j : Nat) (A : Option Addr) (c : Nat) (xs : List Value), 8 ≤ j ∧ j ≤ 60 ∧ i = .int .i64 j ∧ v = .slice A j c ∧ wr.ownsRow N 85 1 (.slice A j c) j xs ∧ Ae.Words wr N xs (Ae.sched key (j - 8)) ∧ Below N w wr) (fun _ i _ => 60 - (intOf i).toNat)
      case atStart => exact ⟨8, A, c, xs, by omega, by omega, rfl, rfl, HO.out, HW8.out, hbw⟩
      case round =>
        clear HO HW8 hbw
        obtain ⟨j, A, c, xs, hj8, hj60, rfl, rfl, hown, hwo, hbw⟩ := hrel
        by_cases hlt : j < 60
        · have q1 : (j : Int) < 60 := by omega
          have hLl : (Ae.sched key (j - 8)).length = j := by rw [Ae.sched_length]; omega
          obtain ⟨g1, c1, hx1, hN1, hF1⟩ := hwo.2 (j - 1) (by omega)
          obtain ⟨g8, cp8, hx8, hN8, hF8⟩ := hwo.2 (j - 8) (by omega)
          rcases hown.2 with ⟨hv, hn0⟩ | ⟨Go, cap, cur, hv, hBg, hh, hn2, hc2, hs2, ht2⟩
          · omega
          · simp only [Value.slice.injEq] at hv
            obtain ⟨rfl, -, rfl⟩ := hv
            have o1 := hown.cells (g := Go) rfl (j - 1) _ hx1
            have o8 := hown.cells (g := Go) rfl (j - 8) _ hx8
            rw [Addr.add_mid, Nat.zero_add] at o1 o8
            have HO := Lib.hid hown
            have HWO := Lib.hid hwo
            have HF1 := Lib.hid hF1
            have HF8 := Lib.hid hF8
            have O8 := Lib.hid o8
            have HLL := Lib.hid hLl
            have lGo := Ae.cell_lt o1
            have lg1 := hF1.lt
            have lg8 := hF8.lt
            clear hown hwo hF1 hF8 o8 hx1 hx8 hh ht2 hs2 hn2 hc2 hLl
            have hall := Ae.sched_lt key (j - 8)
            have hl1 := Sm.getD_lt hall (j - 1)
            have hl8 := Sm.getD_lt hall (j - 8)
            have hnx : Ae.next (Ae.sched key (j - 8)) = (Ae.sched key (j - 8)).getD (j - 8) 0 ^^^ (if j % 8 = 0 then Ae.subW (Ae.rotl ((Ae.sched key (j - 8)).getD (j - 1) 0) 8) ^^^ Ae.pow2 (j / 8 - 1) * 2 ^ 24 % 4294967296
              else if j % 8 = 4 then Ae.subW ((Ae.sched key (j - 8)).getD (j - 1) 0) else (Ae.sched key (j - 8)).getD (j - 1) 0) := by unfold Ae.next; rw [HLL.out]
            have HNX := Lib.hid hnx
            clear hall hnx
            generalize (Ae.sched key (j - 8)).getD (j - 1) 0 = x1 at *
            generalize (Ae.sched key (j - 8)).getD (j - 8) 0 = x8 at *
            obtain ⟨B0, hB0⟩ : ∃ B, B = wr.heap.size := ⟨_, rfl⟩
            have k1 : Below B0 wr (wr.alloc (.cells #[] 5)) := by rw [hB0]; exact (Below.refl _ wr).alloc (Nat.le_refl _) _
            have ho1 : (wr.alloc (.cells #[] 5)).ownsRow B0 5 1 (.slice (some ⟨B0, 0, none⟩) 0 0) 0 [] := ⟨rfl, .inr ⟨B0, 0, #[], rfl, Nat.le_refl _, by rw [hB0]; exact heap_alloc_new wr _, Nat.le_refl _, by unfold maxLen; omega, rfl, rfl⟩⟩
            have o1' : (wr.alloc (.cells #[] 5)).cell? ⟨Go, j - 1, none⟩ = some (.slice (some ⟨g1, 0, none⟩) 4 c1) := (World.cell?_alloc_lt wr _ ⟨Go, j - 1, none⟩ lGo).trans o1
            have hF1' := HF1.out.block (k1.block g1 (by omega))
            have e1 : ((j : Int) - 1).toNat = j - 1 := by omega
            have v1 : IntKind.i64.wrap ((j : Int) - 1) = (j : Int) - 1 := IntWalk.i64_in _ (by omega)
            have p1 : 1 ≤ (j : Int) := by omega
            have p2 : 0 ≤ (j : Int) - 1 := by omega
            have p3 : (j : Int) - 1 < j := by omega
            have HO1 := Lib.hid ho1
            have HF1' := Lib.hid hF1'
            have hcells : ∀ m u, ((List.range 4).map fun m => Value.int .u8 (Ae.byteAt x1 m : Nat))[m]? = some u → (wr.alloc (.cells #[] 5)).cell? ((⟨g1, 0, none⟩ : Addr).add m) = some u := by
              intro m u hm
              have hm4 : m < 4 := by have := (List.getElem?_eq_some_iff.1 hm).1; simpa using this
              rw [Addr.add_mid, Nat.zero_add, HF1'.out.cell m hm4]
              simp [hm4] at hm
              rw [← hm]
            have HCE := Lib.hid hcells
            clear ho1 hF1' hcells o1
            go_wp2_with (at_builtin; refine wpList_append_own _ rfl (.tmp 44) (.tmp 49) 85 rfl B0 5 b0 (.int .u8 0) 1 1 Tryz.underlying85 hbi hbz0 hbz1 hbz2 rfl (by decide) (.slice (some ⟨wr.heap.size, 0, none⟩) 0 0) 0 [] rfl (by rw [← hB0]; exact HO1.out) ⟨g1, 0, none⟩ 4 c1 _ rfl (by simp) HCE.out ?c1 ?c3 ?c4 ?c5 ?_)
            case c1 => intro u hu; obtain ⟨m, _, rfl⟩ := List.mem_map.1 hu; rfl
            case c3 => unfold maxLen; omega
            case c4 => omega
            case c5 => rw [hB0]; simp
            · intro v' w2 hown' hgrow _
              rw [← hB0] at hown'
              have k2 : Below B0 (wr.alloc (.cells #[] 5)) w2 := (Below.refl B0 _).grown hgrow (by rw [hB0]; simp) (fun g hg => by rw [hB0]; simp [Value.ownBlock] at hg; omega)
              have hb2 := k1.trans k2
              rcases hown'.2 with ⟨_, hn0⟩ | ⟨gt, ct, cur2, rfl, hBt, hh2, _, _, _, ht2⟩
              · omega
              · have hF2 : Ae.FAt w2 gt (Ae.byteAt x1) := ⟨cur2, hh2, fun m hm => by
                  have e := congrArg (fun l => l[m]?) ht2
                  simp only [List.getElem?_take] at e
                  rw [if_pos (by omega)] at e
                  rw [← Array.getElem?_toList, e]
                  obtain rfl | rfl | rfl | rfl : m = 0 ∨ m = 1 ∨ m = 2 ∨ m = 3 := by omega
                  all_goals rfl⟩
                have HF2 := Lib.hid hF2
                have HB0 := Lib.hid hB0
                clear hown' hgrow hh2 ht2 hF2 HCE HO1 HF1' k2 e1 v1 p1 p2 p3 o1' k1 hB0
                have hB0x : B0 ≤ gt := hBt
                go_upto_if 53 with (fail)
                go_cut [8] from 44 to 130 (fun s8 wx => ∃ (gt ct : Nat), s8 = .slice (some ⟨gt, 0, none⟩) 4 ct ∧ B0 ≤ gt ∧ Ae.FAt wx gt (Ae.byteAt (if j % 8 = 0 then Ae.rotl x1 8 else x1)) ∧ Below B0 wr wx)
                case first =>
                  by_cases hj : j % 8 = 0
                  · have q2 : ((j : Int).tmod 8) = 0 := by rw [Int.tmod_eq_emod_of_nonneg (by omega)]; omega
                    have q3 : ((j : Int) % 8) = 0 := by omega
                    have G0 : w2.drew.cell? ⟨gt, 0, none⟩ = some (.int .u8 (Ae.byteAt x1 0 : Nat)) := HF2.out.cell 0 (by omega)
                    have G1 : w2.drew.cell? ⟨gt, 1, none⟩ = some (.int .u8 (Ae.byteAt x1 1 : Nat)) := HF2.out.cell 1 (by omega)
                    have G2 : w2.drew.cell? ⟨gt, 2, none⟩ = some (.int .u8 (Ae.byteAt x1 2 : Nat)) := HF2.out.cell 2 (by omega)
                    have G3 : w2.drew.cell? ⟨gt, 3, none⟩ = some (.int .u8 (Ae.byteAt x1 3 : Nat)) := HF2.out.cell 3 (by omega)
                    go_wp2_with fail
                    go_still_tail 12, (by kernel_rfl)
                    repeat still_step
                    go_wp2_with fail
                    go_meet
                    refine ⟨w2.heap.size, 4, rfl, ?_, ?_, ?_⟩
                    · have h1 := hb2.size
                      have h2 := HB0.out
                      omega
                    · rw [if_pos hj]
                      refine ⟨_, heap_alloc_new w2.drew _, fun m hm => ?_⟩
                      rw [Ae.byte_rotl hl1 m hm]
                      obtain rfl | rfl | rfl | rfl : m = 0 ∨ m = 1 ∨ m = 2 ∨ m = 3 := by omega
                      all_goals rfl
                    · have h1 := hb2.size
                      have h2 := HB0.out
                      exact hb2.drew.alloc (by show B0 ≤ w2.heap.size; omega) _
                  · have q2 : ¬ ((j : Int).tmod 8) = 0 := by rw [Int.tmod_eq_emod_of_nonneg (by omega)]; omega
                    go_wp2_with fail
                    go_meet
                    exact ⟨gt, ct, rfl, hB0x, by rw [if_neg hj]; exact HF2.out, hb2⟩
                case rest =>
                  obtain ⟨gt', ct', rfl, hBt', hF3, hb3⟩ := hcut
                  obtain ⟨x2, hx2⟩ : ∃ x2, x2 = (if j % 8 = 0 then Ae.rotl x1 8 else x1) := ⟨_, rfl⟩
                  rw [← hx2] at hF3
                  have HX2 := Lib.hid hx2
                  have HF3 := Lib.hid hF3
                  clear hx2 hF3 HF2 hb2 hB0x hBt
                  generalize wc = w3 at *
                  go_upto_region 12 with (fail)
                  go_cut [74] from 44 to 130 (fun s74 wx => s74 = .bool (decide (j % 8 = 0 ∨ j % 8 = 4)) ∧ w3 = wx)
                  case first =>
                    by_cases hj : j % 8 = 0
                    · have q2 : ((j : Int).tmod 8) = 0 := by rw [Int.tmod_eq_emod_of_nonneg (by omega)]; omega
                      go_wp2_with fail
                      go_meet
                      exact ⟨by rw [decide_eq_true (Or.inl hj)], rfl⟩
                    · have q2 : ¬ ((j : Int).tmod 8) = 0 := by rw [Int.tmod_eq_emod_of_nonneg (by omega)]; omega
                      by_cases hj4 : j % 8 = 4
                      · have q3 : ((j : Int).tmod 8) = 4 := by rw [Int.tmod_eq_emod_of_nonneg (by omega)]; omega
                        go_wp2_with fail
                        go_meet
                        exact ⟨by rw [decide_eq_true (Or.inr hj4)], rfl⟩
                      · have q3 : ¬ ((j : Int).tmod 8) = 4 := by rw [Int.tmod_eq_emod_of_nonneg (by omega)]; omega
                        go_wp2_with fail
                        go_meet
                        have e5 : ((j : Int) % 8 == 0) = false := by rw [beq_eq_false_iff_ne]; omega
                        have e6 : ((j : Int) % 8 == 4) = false := by rw [beq_eq_false_iff_ne]; omega
                        exact ⟨by rw [decide_eq_false (by omega), e5, e6]; rfl, rfl⟩
                  obtain ⟨rfl, rfl⟩ := hcut
                  go_upto_if 74 with (fail)
                  go_cut [8] from 44 to 130 (fun s8 wx => ∃ (gt ct : Nat), s8 = .slice (some ⟨gt, 0, none⟩) 4 ct ∧ B0 ≤ gt ∧ Ae.FAt wx gt (Ae.byteAt (if j % 8 = 0 ∨ j % 8 = 4 then Ae.subW x2 else x2)) ∧ Below B0 wr wx)
                  case first =>
                    by_cases hj : j % 8 = 0 ∨ j % 8 = 4
                    · generalize wr = w0 at *
                      go_wp2_with fail
                      go_loopw [9] (fun i wr => ∃ m : Nat, m ≤ 4 ∧ i = .int .i64 m ∧ Ae.FAt wr gt' (fun i => if i < m then Ae.sub1 (Ae.byteAt x2 i) else Ae.byteAt x2 i) ∧ Below B0 w0 wr) (fun i _ => 4 - (intOf i).toNat)
                      case atStart => exact ⟨0, by omega, rfl, HF3.out.ext (fun m _ => by simp), hb3⟩
                      case round =>
                        obtain ⟨m, hm, rfl, hf, hbm⟩ := hrel
                        by_cases hlt4 : m < 4
                        · have q4 : (m : Int) < 4 := by omega
                          have c1 := hf.cell m hlt4
                          have fz := hf.free m
                          rw [if_neg (by omega)] at c1
                          have hy := Ae.byteAt_lt x2 m
                          have hgB : gs < B0 := by have h1 := hbw.size; have h2 := HN.out; have h3 := HB0.out; omega
                          have c2 := ((HS8.out.keep hgs hbw).keep hgB hbm) (Ae.byteAt x2 m) (by rw [Ae.s8_length]; exact hy)
                          rw [Ae.s8_get _ hy] at c2
                          have HF := Lib.hid hf
                          clear hf
                          obtain ⟨y, hy0⟩ : ∃ y, y = Ae.byteAt x2 m := ⟨_, rfl⟩
                          rw [← hy0] at c1 c2 hy
                          have HY := Lib.hid hy0
                          clear hy0
                          have yi : (y : Int) < 256 := by omega
                          go_wp2_with fail
                          go_roundw
                          case rel =>
                            refine ⟨m + 1, by omega, by go_num, ?_, hbm.setCell (p := ⟨gt', m, none⟩) hBt' _⟩
                            have h := HF.out.set (f' := fun i => if i < m + 1 then Ae.sub1 (Ae.byteAt x2 i) else Ae.byteAt x2 i) m hlt4 (fun i hi hne => by
                              by_cases h1 : i < m
                              · rw [if_pos h1, if_pos (by omega)]
                              · rw [if_neg h1, if_neg (by omega)])
                            rw [show (if m < m + 1 then Ae.sub1 (Ae.byteAt x2 m) else Ae.byteAt x2 m) = Ae.sub1 y by rw [if_pos (by omega), HY.out]] at h
                            exact h
                          case measure => simp [intOf]; omega
                        · obtain rfl : m = 4 := by omega
                          have q4 : ¬ ((4 : Nat) : Int) < 4 := by omega
                          have HF := Lib.hid hf
                          clear hf
                          go_wp2_with fail
                          go_meet
                          refine ⟨gt', ct', rfl, hBt', HF.out.ext (fun m hm => ?_), hbm⟩
                          rw [if_pos hj, if_pos hm, Ae.byte_sub _ _ hm]
                    · go_wp2_with fail
                      go_meet
                      exact ⟨gt', ct', rfl, hBt', by rw [if_neg hj]; exact HF3.out, hb3⟩
                  case rest =>
                    obtain ⟨gt4, ct4, rfl, hBt4, hF4, hb4⟩ := hcut
                    obtain ⟨x3, hx3⟩ : ∃ x3, x3 = (if j % 8 = 0 ∨ j % 8 = 4 then Ae.subW x2 else x2) := ⟨_, rfl⟩
                    rw [← hx3] at hF4
                    have hl2 : x2 < 4294967296 := by
                      rw [HX2.out]
                      split
                      · exact Ae.rotl_lt hl1
                      · exact hl1
                    have hl3 : x3 < 4294967296 := by
                      rw [hx3]
                      split
                      · exact Ae.subW_lt _
                      · exact hl2
                    have HX3 := Lib.hid hx3
                    have HF4 := Lib.hid hF4
                    clear hx3 hF4 HF3 hb3 hBt'
                    generalize wc = w4 at *
                    go_upto_if 91 with (fail)
                    go_cut [8] from 44 to 130 (fun s8 wx => s8 = .slice (some ⟨gt4, 0, none⟩) 4 ct4 ∧ Ae.FAt wx gt4 (Ae.byteAt (if j % 8 = 0 then x3 ^^^ (Ae.pow2 (j / 8 - 1) * 2 ^ 24 % 4294967296) else x3)) ∧ Below B0 wr wx)
                    case first =>
                      by_cases hj : j % 8 = 0
                      · have q2 : ((j : Int).tmod 8) = 0 := by rw [Int.tmod_eq_emod_of_nonneg (by omega)]; omega
                        generalize wr = w0 at *
                        have TM := Lib.hid (fun (a : Nat) (ha : a < 256) (wx : World) => times_any a 2 ha (by decide) wx)
                        go_wp2_with fail
                        rw [show ((j : Int) % 8 == 0) = true by rw [beq_iff_eq]; omega]
                        go_loopw [10, 11] (fun p k wx => ∃ m : Nat, 1 ≤ m ∧ m ≤ j / 8 ∧ k = .int .i64 m ∧ p = .int .u8 (Ae.xtN 1 (m - 1) : Nat) ∧ Hid (w4 = wx)) (fun _ k _ => 60 - (intOf k).toNat)
                        case atStart => exact ⟨1, by omega, by omega, rfl, rfl, Lib.hid rfl⟩
                        case round =>
                          obtain ⟨m, hm1, hm8, rfl, rfl, hww⟩ := hrel
                          have hww2 := hww.out
                          clear hww
                          subst hww2
                          have hd : (j : Int).tdiv 8 = (j / 8 : Nat) := by rw [Int.tdiv_eq_ediv_of_nonneg (by omega)]; omega
                          by_cases hltm : m < j / 8
                          · have q4 : (m : Int) < (j / 8 : Nat) := by omega
                            have q5 : (m : Int) < (j : Int) / 8 := by omega
                            have hT := fun wx => TM.out (Ae.xtN 1 (m - 1)) (Ae.xtN_lt (by decide) _) wx
                            have hX : Ae.tm (Ae.xtN 1 (m - 1)) 2 = Ae.xtN 1 (m + 1 - 1) := by
                              rw [Ae.tm_2, show m + 1 - 1 = (m - 1) + 1 by omega]
                              rfl
                            rw [hX] at hT
                            have HT := Lib.hid hT
                            clear hT hX
                            go_wp2_with fail
                            refine (HT.out _).mono ?_
                            rintro e w' ⟨rfl, rfl⟩
                            go_wp2
                            go_roundw
                            case rel => exact ⟨m + 1, by omega, by omega, by go_num, rfl, Lib.hid trivial⟩
                            case measure => simp [intOf]; omega
                          · obtain rfl : m = j / 8 := by omega
                            have q4 : ¬ (((j / 8 : Nat) : Int) < (j / 8 : Nat)) := by omega
                            have q5 : ¬ (((j / 8 : Nat) : Int) < (j : Int) / 8) := by omega
                            have hn : j / 8 - 1 < 7 := by omega
                            have hp := fun m hm => Ae.byte_pow (j / 8 - 1) m hn hm
                            have hx4 := fun m hm => Ae.byteAt_xor (y := Ae.pow2 (j / 8 - 1) * 2 ^ 24 % 4294967296) hl3 (Nat.mod_lt _ (by decide)) m hm
                            have HP := Lib.hid hp
                            have HX4 := Lib.hid hx4
                            have c0 := HF4.out.cell 0 (by omega)
                            have fz := HF4.out.free 0
                            have hy1 := Ae.byteAt_lt x3 0
                            have hy2 : Ae.xtN 1 (j / 8 - 1) < 256 := Ae.xtN_lt (by decide) _
                            have hxo := Ae.w_xor8 hy1 hy2
                            have HF6 := HF4.out.set (f' := Ae.byteAt (x3 ^^^ (Ae.pow2 (j / 8 - 1) * 2 ^ 24 % 4294967296))) 0 (by omega) (fun i hi hne => by rw [HX4.out i hi, HP.out i hi, if_neg hne, Nat.xor_zero])
                            rw [HX4.out 0 (by omega), HP.out 0 (by omega), if_pos rfl] at HF6
                            have HF7 := Lib.hid HF6
                            clear hp hx4 HF6
                            go_wp2_with fail
                            go_meet
                            exact ⟨rfl, by rw [if_pos hj]; exact HF7.out, hb4.setCell (p := ⟨gt4, 0, none⟩) hBt4 _⟩
                      · have q2 : ¬ ((j : Int).tmod 8) = 0 := by rw [Int.tmod_eq_emod_of_nonneg (by omega)]; omega
                        go_wp2_with fail
                        go_meet
                        exact ⟨rfl, by rw [if_neg hj]; exact HF4.out, hb4⟩
                    case rest =>
                      obtain ⟨rfl, hF5, hb5⟩ := hcut
                      obtain ⟨x4, hx4⟩ : ∃ x4, x4 = (if j % 8 = 0 then x3 ^^^ (Ae.pow2 (j / 8 - 1) * 2 ^ 24 % 4294967296) else x3) := ⟨_, rfl⟩
                      rw [← hx4] at hF5
                      have hl4 : x4 < 4294967296 := by
                        rw [hx4]
                        split
                        · exact Nat.xor_lt_two_pow (n := 32) hl3 (Nat.mod_lt _ (by decide))
                        · exact hl3
                      have HX4 := Lib.hid hx4
                      have HF5 := Lib.hid hF5
                      clear hx4 hF5 HF4 hb4
                      generalize wc = w5 at *
                      generalize wr = w0 at *
                      have hgB : g8 < B0 := by have h3 := HB0.out; omega
                      have hGB : Go < B0 := by have h3 := HB0.out; omega
                      go_wp2_with fail
                      go_loopw [12] (fun i wr => ∃ m : Nat, m ≤ 4 ∧ i = .int .i64 m ∧ Ae.FAt wr gt4 (fun i => if i < m then Ae.byteAt x4 i ^^^ Ae.byteAt x8 i else Ae.byteAt x4 i) ∧ Below B0 w0 wr) (fun i _ => 4 - (intOf i).toNat)
                      case atStart => exact ⟨0, by omega, rfl, HF5.out.ext (fun m _ => by simp), hb5⟩
                      case round =>
                        obtain ⟨m, hm, rfl, hf, hbm⟩ := hrel
                        by_cases hlt4 : m < 4
                        · have q4 : (m : Int) < 4 := by omega
                          have c1 := hf.cell m hlt4
                          have fz := hf.free m
                          rw [if_neg (by omega)] at c1
                          have c8 := (hbm.cell (p := ⟨Go, j - 8, none⟩) hGB).trans O8.out
                          have d8 := (HF8.out.block (hbm.block g8 hgB)).cell m hlt4
                          have hy1 := Ae.byteAt_lt x4 m
                          have hy2 := Ae.byteAt_lt x8 m
                          have HF := Lib.hid hf
                          clear hf
                          obtain ⟨y1, hy10⟩ : ∃ y, y = Ae.byteAt x4 m := ⟨_, rfl⟩
                          obtain ⟨y2, hy20⟩ : ∃ y, y = Ae.byteAt x8 m := ⟨_, rfl⟩
                          rw [← hy10] at c1 hy1
                          rw [← hy20] at d8 hy2
                          have HXO := Lib.hid (Ae.w_xor8 hy1 hy2)
                          have HY1 := Lib.hid hy10
                          have HY2 := Lib.hid hy20
                          clear hy10 hy20
                          have e8 : ((j : Int) - 8).toNat = j - 8 := by omega
                          have v8 : IntKind.i64.wrap ((j : Int) - 8) = (j : Int) - 8 := IntWalk.i64_in _ (by omega)
                          have p8 : 8 ≤ (j : Int) := by omega
                          have p9 : 0 ≤ (j : Int) - 8 := by omega
                          have p10 : (j : Int) - 8 < j := by omega
                          have c1' : wr.drew.cell? ⟨gt4, m, none⟩ = some (.int .u8 (y1 : Nat)) := c1
                          have c8' : wr.drew.cell? ⟨Go, j - 8, none⟩ = some (.slice (some ⟨g8, 0, none⟩) 4 cp8) := c8
                          have d8' : wr.drew.cell? ⟨g8, m, none⟩ = some (.int .u8 (y2 : Nat)) := d8
                          have fz' : wr.drew.frozen? ⟨gt4, m, none⟩ = false := fz
                          clear c1 c8 d8 fz
                          go_wp2_with fail
                          go_still_tail 16, (by kernel_rfl)
                          repeat still_step
                          go_wp2
                          go_roundw
                          case rel =>
                            refine ⟨m + 1, by omega, by go_num, ?_, hbm.drew.setCell (p := ⟨gt4, m, none⟩) hBt4 _⟩
                            have h := Ae.FAt.set (w := wr.drew) HF.out (f' := fun i => if i < m + 1 then Ae.byteAt x4 i ^^^ Ae.byteAt x8 i else Ae.byteAt x4 i) m hlt4 (fun i hi hne => by
                              by_cases h1 : i < m
                              · rw [if_pos h1, if_pos (by omega)]
                              · rw [if_neg h1, if_neg (by omega)])
                            rw [show (if m < m + 1 then Ae.byteAt x4 m ^^^ Ae.byteAt x8 m else Ae.byteAt x4 m) = y1 ^^^ y2 by rw [if_pos (by omega), HY1.out, HY2.out]] at h
                            rw [HXO.out]
                            exact h
                          case measure => simp [intOf]; omega
                        · obtain rfl : m = 4 := by omega
                          have q4 : ¬ ((4 : Nat) : Int) < 4 := by omega
                          have HF := Lib.hid hf
                          clear hf
                          have hB0w : w0.heap.size ≤ B0 := by have h := HB0.out; omega
                          have HO2 := Lib.hid (Ae.own_keep HO.out hB0w hbm)
                          have HW2 := Lib.hid (HWO.out.keep hB0w hbm)
                          have hNr : N ≤ wr.heap.size := by have h1 := hbm.size; have h2 := hbw.size; have h3 := HN.out; omega
                          have k5 : Below wr.heap.size wr (wr.alloc (.cells #[.slice (some ⟨gt4, 0, none⟩) 4 ct4] 85)) := (Below.refl _ wr).alloc (Nat.le_refl _) _
                          have hone : ∀ u ∈ [Value.slice (some ⟨gt4, 0, none⟩) 4 ct4], u.oneCell' = true := by intro u hu; simp at hu; subst hu; rfl
                          go_wp2_with (at_builtin; refine wpList_append_own _ rfl (.tmp 127) (.tmp 129) 157 rfl N 85 i0 (.slice none 0 0) 1 24 Tryz.underlying157 hi hz0 hz1 hz2 rfl (by decide) (.slice (some ⟨Go, 0, none⟩) j c) j xs rfl (HO2.out.alloc _) ⟨wr.heap.size, 0, none⟩ 1 1 [.slice (some ⟨gt4, 0, none⟩) 4 ct4] rfl rfl ?c1 hone ?c3 ?c4 ?c5 ?_)
                          case c3 => unfold maxLen; omega
                          case c4 => omega
                          case c5 => first | omega | (simp; omega)
                          · intro v' w7 hown' hgrow _
                            obtain ⟨A', c', rfl⟩ := Sm.own_shape hown'
                            have HO7 := Lib.hid hown'
                            have hF6 := HF.out.block (k5.block gt4 HF.out.lt)
                            have ho6 : (wr.alloc (.cells #[.slice (some ⟨gt4, 0, none⟩) 4 ct4] 85)).ownsRow N 85 1 (.slice (some ⟨Go, 0, none⟩) j c) j xs := HO2.out.alloc _
                            have hMe : some gt4 ≠ (Value.slice (some ⟨Go, 0, none⟩) j c).ownBlock := by
                              obtain ⟨cur, h1, _⟩ := hF6
                              exact Ae.own_ne ho6 h1 (by decide)
                            have hF7 := hF6.block (hgrow.block gt4 hF6.lt hMe)
                            have hNg : N ≤ gt4 := by have h1 := hbw.size; have h2 := HN.out; have h3 := HB0.out; omega
                            have hnx : Ae.next (Ae.sched key (j - 8)) = x8 ^^^ x4 := by
                              rw [HNX.out, HX4.out, HX3.out, HX2.out]
                              by_cases h0 : j % 8 = 0
                              · simp [h0]
                              · by_cases h4 : j % 8 = 4
                                · simp [h4]
                                · simp [h0, h4]
                            have hF8 : Ae.FAt w7 gt4 (Ae.byteAt (Ae.next (Ae.sched key (j - 8)))) := hF7.ext (fun m hm => by
                              rw [if_pos hm, hnx, Ae.byteAt_xor hl8 hl4 m hm, Nat.xor_comm])
                            have HW7 := Lib.hid (((HW2.out.keep (Nat.le_refl _) k5).grown ho6 hgrow).snoc (c := ct4) hNg hF8)
                            have hb7 : Below N w w7 := (hbw.trans ((hbm.mono (by have h1 := hbw.size; have h2 := HN.out; have h3 := HB0.out; omega)).trans (k5.mono hNr))).trans ((Below.refl N _).grown hgrow (by simp; omega) (fun j hj => (HO2.out.lt j hj).1))
                            clear hown' hgrow hF6 ho6 hF7 hF8 k5
                            go_wp2
                            go_roundw
                            case rel =>
                              refine ⟨j + 1, A', c', _, by omega, by omega, by go_num, rfl, HO7.out, ?_, hb7⟩
                              rw [show j + 1 - 8 = (j - 8) + 1 by omega]
                              exact HW7.out
                            case measure => simp [intOf]; omega
        · obtain rfl : j = 60 := by omega
          have q1 : ¬ ((60 : Nat) : Int) < 60 := by omega
          rcases hown.2 with ⟨hv, hn0⟩ | ⟨Go, cap, cur, hv, hBg, hh, hn2, hc2, hs2, ht2⟩
          · omega
          · simp only [Value.slice.injEq] at hv
            obtain ⟨rfl, -, rfl⟩ := hv
            have hWS : Ae.WsAt wr Go (Ae.ks key) 60 := fun j hj => by
              have hLl : (Ae.sched key 52).length = 60 := by rw [Ae.sched_length]
              obtain ⟨g1, c1, hx1, hN1, hF1⟩ := hwo.2 j (by rw [hLl]; exact hj)
              have o1 := hown.cells (g := Go) rfl j _ hx1
              rw [Addr.add_mid, Nat.zero_add] at o1
              exact ⟨g1, c1, o1, fun m hm => hF1.cell m hm⟩
            have HWS := Lib.hid hWS
            clear hWS hown hwo hh hs2 ht2
            go_wp2
            go_ret
            exact ⟨Go, ⟨c, rfl⟩, HWS.out, by rw [← HN.out]; exact hbw⟩
end Go.Proofs.YtibpgmcpcelmpaaGreatDoor
