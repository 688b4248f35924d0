/-
  The document's tree: Collides tells each collision.
-/
import Derived.Test.YtiehcplepneajaaGreatDoorHmMap
import Derived.Test.YtiehcplepneajaaGreatDoorTrA
import Derived.Test.YtiehcplepneajaaGreatDoorOmGreat
import Derived.Test.YtiehcplepneajaaGreatDoorOmText
import Derived.Test.YtiehcplepneajaaGreatDoorTrB
import Derived.Deep.RegionHeld3
namespace Go.Proofs.YtiehcplepneajaaGreatDoor
open Go.RowKit
namespace Tr
def FK (T : List (List UInt8)) (k : Nat) : List UInt8 → Option Value := fun h => if lastOf T h k = 0 then none else some (.int .i64 ((lastOf T h k : Nat) : Int))
theorem FK_zero (T : List (List UInt8)) : FK T 0 = fun _ => none := by
  funext h
  exact if_pos rfl
theorem FK_next (T : List (List UInt8)) (k : Nat) : (fun j => if j = Sm.sum (T.getD k []) then some (.int .i64 ((k + 1 : Nat) : Int)) else FK T k j) = FK T (k + 1) := by
  funext h
  unfold FK
  show _ = if lastOf T h (k + 1) = 0 then none else _
  by_cases e : Sm.sum (T.getD k []) = h
  · have e2 : lastOf T h (k + 1) = k + 1 := by unfold lastOf; rw [if_pos e]
    rw [e2, if_pos e.symm, if_neg (by omega)]
  · have e2 : lastOf T h (k + 1) = lastOf T h k := by rw [lastOf, if_neg e]
    rw [e2, if_neg (fun h' => e h'.symm)]
theorem FK_get (T : List (List UInt8)) (k : Nat) (h : List UInt8) : (FK T k h).getD (.int .i64 0) = .int .i64 ((lastOf T h k : Nat) : Int) := by
  unfold FK
  by_cases e : lastOf T h k = 0
  · rw [if_pos e, e]; rfl
  · rw [if_neg e]; rfl
theorem info45 {c : Array Value} (h : c.size = 32) : (Tryz.prog.info? 35).map (·.size) = some c.size := by rw [h]; kernel_rfl
theorem zeroInt (w : World) : (zeroValue 3).run Tryz.prog w = .ok (.int .i64 0) w := by kernel_rfl
end Tr
set_option maxRecDepth 100000 in
set_option maxHeartbeats 4000000 in
theorem r15Collides_any {w : World} (SUM : ∀ (wx : World) (s : ByteArray), s.size ≤ 100000 → Calls Tryz.prog 87 #[.string s] wx fun e w' => e = .returned (.agg (Lib.byteCells (Sm.sum s.data.toList)).toArray) ∧ Below wx.heap.size wx w')
    {A : Option Addr} (c : Nat) {l : List ByteArray} (hit : Om.txtsAt w A l) (hn : l.length ≤ 1000) (hs : ∀ x ∈ l, x.size ≤ 100000) :
    Calls Tryz.prog 50 #[.slice A l.length c] w fun e w' => (e = .returned (.bool true) ∨ e = .returned (.bool false) ∧ Tr.Calm (l.map (·.data.toList)) l.length) ∧ Below w.heap.size w w' := by
  obtain ⟨T, hT⟩ : ∃ T, T = l.map (·.data.toList) := ⟨_, rfl⟩
  have HTG : Hid (∀ k (h : k < l.length), T.getD k [] = l[k].data.toList) := fun k h => by rw [hT, List.getD_eq_getElem?_getD, List.getElem?_map, List.getElem?_eq_getElem h]; rfl
  rw [← hT]
  have HN := Lib.hid hn
  have HS := Lib.hid hs
  have SU := Lib.hid SUM
  obtain ⟨N, hN⟩ : ∃ N, N = w.heap.size := ⟨_, rfl⟩
  have HNW := Lib.hid hN
  have HT : Hid (∀ wx : World, Below N w wx → ∀ j (h : j < l.length), ∃ b0 o, A = some ⟨b0, o, none⟩ ∧ wx.cell? ⟨b0, o + j, none⟩ = some (.string l[j])) := by
    rw [hN]
    exact fun wx hb j h => hit.get hb h
  have MM := Lib.hid (Hm.MapAt.made w)
  have hmm := @run_makeMap Tryz.prog
  rw [← Tr.FK_zero T] at MM
  have BB : Hid (Below N w (w.alloc (.map #[] 0))) := by rw [hN]; exact (Below.refl _ w).alloc (Nat.le_refl _) _
  clear hT hit hn hs SUM hN
  go_enter Tryz.func50, Tryz.ntmps50
  go_upto_region 2 with (fail)
  clear hmm
  generalize w.alloc (.map #[] 0) = w1 at *
  obtain ⟨b, hbw⟩ : ∃ b, b = w.heap.size := ⟨_, rfl⟩
  have HNB : Hid (N ≤ b) := by show _ ≤ _; rw [HNW.out, hbw]; exact Nat.le_refl _
  rw [← hbw] at MM ⊢
  clear hbw
  go_wp2
  go_loopw [4] (fun s4 wr => ∃ k : Nat, s4 = .int .i64 k ∧ k ≤ l.length ∧ Hm.MapAt wr b k (Tr.FK T k) ∧ Tr.Calm T k ∧ Below N w wr) (fun s4 _ => l.length - (intOf s4).toNat)
  case atStart => exact ⟨0, rfl, Nat.zero_le _, MM.out, Tr.Calm.zero T, BB.out⟩
  case round =>
    clear MM BB
    obtain ⟨k, rfl, hk, hm, hc, hb⟩ := hrel
    have HM := Lib.hid hm
    have HC := Lib.hid hc
    have HB := Lib.hid hb
    clear hm hc hb
    by_cases hlt : k < l.length
    · have hki : (k : Int) < (l.length : Int) := by omega
      have HLT := Lib.hid hlt
      have hsuc : IntKind.i64.wrap ((k : Int) + 1) = ((k + 1 : Nat) : Int) := by have := HN.out; simp [IntKind.wrap, IntKind.bits, IntKind.signed]; omega
      have HSUC := Lib.hid hsuc
      obtain ⟨b0, o, rfl, x00⟩ := HT.out wr HB.out k hlt
      have HT2 : Hid (∀ wx : World, Below N w wx → ∀ j (h : j < l.length), wx.cell? ⟨b0, o + j, none⟩ = some (.string l[j])) := fun wx hb j h => by
        obtain ⟨b1, o1, e, h1⟩ := HT.out wx hb j h
        cases e
        exact h1
      have SK : Hid (Calls Tryz.prog 87 #[.string l[k]] wr fun e w' => e = .returned (.agg (Lib.byteCells (Sm.sum (T.getD k []))).toArray) ∧ Below wr.heap.size wr w') := by
        rw [HTG.out k hlt]
        exact SU.out wr l[k] (HS.out _ (List.getElem_mem hlt))
      obtain ⟨x, hx⟩ : ∃ x, x = Sm.sum (T.getD k []) := ⟨_, rfl⟩
      rw [← hx] at SK
      have HX := Lib.hid hx
      have hxl : x.length = 32 := by rw [hx]; exact Sm.sum_length _
      have HXL := Lib.hid hxl
      obtain ⟨c1, hc1⟩ : ∃ c, c = (Lib.byteCells x).toArray := ⟨_, rfl⟩
      have hz1 : c1.size = 32 := by rw [hc1]; exact Tr.size32 hxl
      have HZ1 := Lib.hid hz1
      have hone1 : Hid (c1.all (·.oneCell') = true) := by show _ = _; rw [hc1]; exact Sm.bytes_one _
      have HC1 := Lib.hid hc1
      rw [← hc1] at SK
      obtain ⟨sk, hsk⟩ : ∃ s, s = l[k] := ⟨_, rfl⟩
      have HSK := Lib.hid hsk
      rw [← hsk] at SK
      have x0 : wr.cell? ⟨b0, o + k, none⟩ = some (.string sk) := by rw [hsk]; exact x00
      clear hx hxl hc1 hsk x00
      go_wp2_with fail
      refine SK.out.mono ?_
      rintro e w2 ⟨rfl, k2⟩
      have M2 := Lib.hid (HM.out.block (k2.block b HM.out.lt))
      have hst : ∀ (c : Array Value), c.size = 32 → (storeCells ⟨w2.heap.size, 0, none⟩ c1.toList).run Tryz.prog (w2.alloc (.cells c 35)) = .ok () (w2.alloc (.cells c1 35)) := fun c hc =>
        run_storeCells_new (P := Tryz.prog) w2 35 c c1 (Tr.info45 HZ1.out) (by rw [HZ1.out]; exact hc) hone1.out
      have k3 : Below w2.heap.size w2 (w2.alloc (.cells c1 35)) := (Below.refl _ w2).alloc (Nat.le_refl _) _
      have M3 := Lib.hid (M2.out.block (k3.block b M2.out.lt))
      have G3 := Lib.hid (heap_alloc_new w2 (.cells c1 35))
      have B3 : Hid (Below N w (w2.alloc (.cells c1 35))) := (HB.out.trans (k2.mono (Nat.le_trans HNB.out (Nat.le_of_lt HM.out.lt)))).trans (k3.mono (Nat.le_trans HNB.out (Nat.le_of_lt M2.out.lt)))
      clear k2 k3 x0 M2 SK
      go_upto_region 6 with (fail)
      clear hst
      have LK := Lib.hid (M3.out.look (t := 140) (by kernel_rfl) (Tr.zeroInt _) HXL.out)
      rw [Tr.FK_get] at LK
      have HLK : Hid ((Instr.lookup 140 (.map (some b)) (.agg c1) false).run Tryz.prog (w2.alloc (.cells c1 35)) = .ok (.int .i64 ((Tr.lastOf T x k : Nat) : Int)) (w2.alloc (.cells c1 35))) := by have q := LK.out; unfold Hm.hash at q; rw [← HC1.out] at q; exact q
      have HQK := Lib.hid (Tr.lastOf_le T x k)
      have HQS : Hid (0 < Tr.lastOf T x k → Sm.sum (T.getD (Tr.lastOf T x k - 1) []) = x) := fun h => Tr.lastOf_sum h
      have HCN : Hid ((0 < Tr.lastOf T x k → T.getD (Tr.lastOf T x k - 1) [] = T.getD k []) → Tr.Calm T (k + 1)) := fun h => HC.out.next (by rw [← HX.out]; exact h)
      generalize w2.alloc (.cells c1 35) = w3 at *
      generalize w2.heap.size = M at *
      have hlk := HLK.out
      clear LK
      go_upto_region 7 with (refine Sm.wpList_load_row_g 35 (.tmp 5) rfl M rfl 35 c1 (0, 0) _ (by exact G3.out) Tryz.underlying35 rfl (Tr.info45 HZ1.out) ?_ ?_; rotate_left; rfl)
      clear hlk HLK
      have FKN := Lib.hid (Tr.FK_next T k)
      rw [← HX.out] at FKN
      generalize Tr.lastOf T x k = q at *
      have UP : Hid (∃ w4, (Instr.mapUpdate 140 (.map (some b)) (.agg c1) (.int .i64 ((k + 1 : Nat) : Int))).run Tryz.prog w3.drew = .ok () w4 ∧ Hm.MapAt w4 b (k + 1) (Tr.FK T (k + 1)) ∧ w3.drew.mapTurned w4 b) := by
        obtain ⟨w4, h1, h2, h3⟩ := (M3.out.block (w' := w3.drew) rfl).store (t := 140) (e := 3) (by kernel_rfl) HXL.out (by have := HLT.out; have := HN.out; omega) (.int .i64 ((k + 1 : Nat) : Int))
        refine ⟨w4, ?_, ?_, h3⟩
        · unfold Hm.hash at h1; rw [← HC1.out] at h1; exact h1
        · rw [← FKN.out]; exact h2
      have G4 : Hid (w3.drew.heap[M]? = some (.cells c1 35 (0, 0))) := G3.out
      have B4 : Hid (Below N w w3.drew) := B3.out.drew
      have hsuc := HSUC.out
      rcases q with _ | q0
      · have HCK := Lib.hid (HCN.out (fun h => absurd h (Nat.lt_irrefl _)))
        have h00 : ¬ ((0 : Nat) : Int) > 0 := by omega
        have h01 : ¬ (0 : Int) < ((0 : Nat) : Int) := by omega
        clear HCN HQS
        go_region
        obtain ⟨w4, hup0, hm4, ht4⟩ := UP.out
        have hup : (Instr.mapUpdate 140 (.map (some b)) (.agg c1) (.int .i64 ((k : Int) + 1))).run Tryz.prog w3.drew = .ok () w4 := hup0
        have M5 := Lib.hid hm4
        have B5 : Hid (Below N w w4) := B4.out.trans (Sm.grown_from ht4.grown HNB.out (Nat.le_trans HNB.out (Nat.le_of_lt M3.out.lt)))
        clear hm4 ht4 hup0
        go_upto_region 4 with (first | (refine Sm.wpList_load_row_g 35 (.tmp 5) rfl M rfl 35 c1 (0, 0) _ (by exact G4.out) Tryz.underlying35 rfl (Tr.info45 HZ1.out) ?_ ?_; rotate_left; rfl))
        go_wp2
        go_roundw
        case rel => exact ⟨k + 1, rfl, HLT.out, M5.out, HCK.out, B5.out⟩
        case measure => simp only [intOf]; have := HLT.out; omega
      · have hq0 : q0 < l.length := by have := HQK.out; have := HLT.out; omega
        have hk0 := HLT.out
        have e1 : T.getD q0 [] = l[q0].data.toList := HTG.out q0 hq0
        have e2 : T.getD k [] = l[k].data.toList := HTG.out k hk0
        have y1 : w3.drew.cell? ⟨b0, o + q0, none⟩ = some (.string l[q0]) := HT2.out w3 B3.out q0 hq0
        have y2 : w3.drew.cell? ⟨b0, o + k, none⟩ = some (.string l[k]) := HT2.out w3 B3.out k hk0
        obtain ⟨sq, hsq⟩ : ∃ s, s = l[q0] := ⟨_, rfl⟩
        obtain ⟨st, hst⟩ : ∃ s, s = l[k] := ⟨_, rfl⟩
        rw [← hsq] at y1 e1
        rw [← hst] at y2 e2
        have h01 : ((q0 + 1 : Nat) : Int) > 0 := by omega
        have hwr : IntKind.i64.wrap (q0 : Int) = (q0 : Int) := by have := HN.out; simp [IntKind.wrap, IntKind.bits, IntKind.signed]; omega
        have hq1 : (q0 : Int) < (l.length : Int) := by omega
        have HE1 := Lib.hid e1
        have HE2 := Lib.hid e2
        clear hsq hst e1 e2 hq0 hk0
        by_cases hab : sq = st
        · have hne : (sq.toList == st.toList) = true := Om.ba_same.2 hab
          have hne2 : (sq.toList != st.toList) = false := by rw [bne, hne]; rfl
          have HCK := Lib.hid (HCN.out (fun _ => by show T.getD q0 [] = _; rw [HE1.out, HE2.out, hab]))
          clear HCN HQS hab
          refine wp_region_held_drew (S := fun w' => w'.cell? ⟨b0, o + q0, none⟩ = some (.string sq) ∧ w'.cell? ⟨b0, o + k, none⟩ = some (.string st)) (by kernel_rfl) ⟨y1, y2⟩ (fun hHeld => ?_)
          refine wpAnyH_take (i := 0) (oi := ⟨some 22, _, _, _, _, _⟩) (v := .int .i64 ((q0 + 1 : Nat) : Int)) rfl (by kernel_rfl) (by kernel_rfl) (by kernel_rfl) (fun _ _ _ h => h) (Or.inl ⟨by rfl, ?_⟩) (by assumption) ?_
          · intro w hSw; (try dsimp only at hSw); go_simp
          simp only [Act.put, List.setIfInBounds_toArray, List.set_cons_zero, List.set_cons_succ]
          refine wpAnyH_take (i := 1) (oi := ⟨some 23, _, _, _, _, _⟩) (v := .bool true) rfl (by kernel_rfl) (by kernel_rfl) (by kernel_rfl) (fun _ _ _ h => h) (Or.inl ⟨by rfl, ?_⟩) (by assumption) ?_
          · intro w hSw; (try dsimp only at hSw); go_simp
          simp only [Act.put, List.setIfInBounds_toArray, List.set_cons_zero, List.set_cons_succ]
          refine wpAnyH_take (i := 2) (oi := ⟨some 24, _, _, _, _, _⟩) (v := .bool true) rfl (by kernel_rfl) (by kernel_rfl) (by kernel_rfl) (fun _ _ _ h => h) (Or.inl ⟨by rfl, ?_⟩) (by assumption) ?_
          · intro w hSw; (try dsimp only at hSw); go_simp
          simp only [Act.put, List.setIfInBounds_toArray, List.set_cons_zero, List.set_cons_succ]
          refine wpAnyH_take (i := 3) (oi := ⟨some 25, _, _, _, _, _⟩) (v := .slice (some ⟨b0, o, none⟩) l.length c) rfl (by kernel_rfl) (by kernel_rfl) (by kernel_rfl) (fun _ _ _ h => h) (Or.inl ⟨by rfl, ?_⟩) (by assumption) ?_
          · intro w hSw; (try dsimp only at hSw); go_simp
          simp only [Act.put, List.setIfInBounds_toArray, List.set_cons_zero, List.set_cons_succ]
          refine wpAnyH_take (i := 4) (oi := ⟨some 26, _, _, _, _, _⟩) (v := .int .i64 ((q0 + 1 : Nat) : Int)) rfl (by kernel_rfl) (by kernel_rfl) (by kernel_rfl) (fun _ _ _ h => h) (Or.inl ⟨by rfl, ?_⟩) (by assumption) ?_
          · intro w hSw; (try dsimp only at hSw); go_simp
          simp only [Act.put, List.setIfInBounds_toArray, List.set_cons_zero, List.set_cons_succ]
          refine wpAnyH_take (i := 5) (oi := ⟨some 27, _, _, _, _, _⟩) (v := .int .i64 (q0 : Int)) rfl (by kernel_rfl) (by kernel_rfl) (by kernel_rfl) (fun _ _ _ h => h) (Or.inl ⟨by rfl, ?_⟩) (by assumption) ?_
          · intro w hSw; (try dsimp only at hSw); go_simp
          simp only [Act.put, List.setIfInBounds_toArray, List.set_cons_zero, List.set_cons_succ]
          refine wpAnyH_take (i := 6) (oi := ⟨some 28, _, _, _, _, _⟩) (v := .pointer (some ⟨b0, o + q0, none⟩)) rfl (by kernel_rfl) (by kernel_rfl) (by kernel_rfl) (fun _ _ _ h => h) (Or.inl ⟨by rfl, ?_⟩) (by assumption) ?_
          · intro w hSw; (try dsimp only at hSw); go_simp
          simp only [Act.put, List.setIfInBounds_toArray, List.set_cons_zero, List.set_cons_succ]
          refine wpAnyH_take (i := 7) (oi := ⟨some 29, _, _, _, _, _⟩) (v := .string sq) rfl (by kernel_rfl) (by kernel_rfl) (by kernel_rfl) (fun _ _ _ h => h) (Or.inl ⟨by rfl, ?_⟩) (by assumption) ?_
          · intro w hSw; (try dsimp only at hSw); go_simp
          simp only [Act.put, List.setIfInBounds_toArray, List.set_cons_zero, List.set_cons_succ]
          refine wpAnyH_take (i := 8) (oi := ⟨some 30, _, _, _, _, _⟩) (v := .slice (some ⟨b0, o, none⟩) l.length c) rfl (by kernel_rfl) (by kernel_rfl) (by kernel_rfl) (fun _ _ _ h => h) (Or.inl ⟨by rfl, ?_⟩) (by assumption) ?_
          · intro w hSw; (try dsimp only at hSw); go_simp
          simp only [Act.put, List.setIfInBounds_toArray, List.set_cons_zero, List.set_cons_succ]
          refine wpAnyH_take (i := 9) (oi := ⟨some 31, _, _, _, _, _⟩) (v := .int .i64 (k : Int)) rfl (by kernel_rfl) (by kernel_rfl) (by kernel_rfl) (fun _ _ _ h => h) (Or.inl ⟨by rfl, ?_⟩) (by assumption) ?_
          · intro w hSw; (try dsimp only at hSw); go_simp
          simp only [Act.put, List.setIfInBounds_toArray, List.set_cons_zero, List.set_cons_succ]
          refine wpAnyH_take (i := 10) (oi := ⟨some 32, _, _, _, _, _⟩) (v := .pointer (some ⟨b0, o + k, none⟩)) rfl (by kernel_rfl) (by kernel_rfl) (by kernel_rfl) (fun _ _ _ h => h) (Or.inl ⟨by rfl, ?_⟩) (by assumption) ?_
          · intro w hSw; (try dsimp only at hSw); go_simp
          simp only [Act.put, List.setIfInBounds_toArray, List.set_cons_zero, List.set_cons_succ]
          refine wpAnyH_take (i := 11) (oi := ⟨some 33, _, _, _, _, _⟩) (v := .string st) rfl (by kernel_rfl) (by kernel_rfl) (by kernel_rfl) (fun _ _ _ h => h) (Or.inl ⟨by rfl, ?_⟩) (by assumption) ?_
          · intro w hSw; (try dsimp only at hSw); go_simp
          simp only [Act.put, List.setIfInBounds_toArray, List.set_cons_zero, List.set_cons_succ]
          refine wpAnyH_take (i := 12) (oi := ⟨some 34, _, _, _, _, _⟩) (v := .bool false) rfl (by kernel_rfl) (by kernel_rfl) (by kernel_rfl) (fun _ _ _ h => h) (Or.inl ⟨by rfl, ?_⟩) (by assumption) ?_
          · intro w hSw; (try dsimp only at hSw); go_simp
          simp only [Act.put, List.setIfInBounds_toArray, List.set_cons_zero, List.set_cons_succ]
          refine wpAnyH_take (i := 13) (oi := ⟨some 35, _, _, _, _, _⟩) (v := .bool false) rfl (by kernel_rfl) (by kernel_rfl) (by kernel_rfl) (fun _ _ _ h => h) (Or.inl ⟨by rfl, ?_⟩) (by assumption) ?_
          · intro w hSw; (try dsimp only at hSw); go_simp
          simp only [Act.put, List.setIfInBounds_toArray, List.set_cons_zero, List.set_cons_succ]
          refine wpAnyH_done (by kernel_rfl) ?_ _
          obtain ⟨w4, hup0, hm4, ht4⟩ := UP.out
          have hup : (Instr.mapUpdate 140 (.map (some b)) (.agg c1) (.int .i64 ((k : Int) + 1))).run Tryz.prog w3.drew = .ok () w4 := hup0
          have M5 := Lib.hid hm4
          have B5 : Hid (Below N w w4) := B4.out.trans (Sm.grown_from ht4.grown HNB.out (Nat.le_trans HNB.out (Nat.le_of_lt M3.out.lt)))
          clear hm4 ht4 hup0
          go_upto_region 4 with (first | (refine Sm.wpList_load_row_g 35 (.tmp 5) rfl M rfl 35 c1 (0, 0) _ (by exact G4.out) Tryz.underlying35 rfl (Tr.info45 HZ1.out) ?_ ?_; rotate_left; rfl))
          go_wp2
          go_roundw
          case rel => exact ⟨k + 1, rfl, HLT.out, M5.out, HCK.out, B5.out⟩
          case measure => simp only [intOf]; have := HLT.out; omega
        · have hne : (sq.toList == st.toList) = false := by
            cases h : sq.toList == st.toList with
            | false => rfl
            | true => exact absurd (Om.ba_same.1 h) hab
          have hne2 : (sq.toList != st.toList) = true := by rw [bne, hne]; rfl
          clear HCN HQS hab
          refine wp_region_held_drew (S := fun w' => w'.cell? ⟨b0, o + q0, none⟩ = some (.string sq) ∧ w'.cell? ⟨b0, o + k, none⟩ = some (.string st)) (by kernel_rfl) ⟨y1, y2⟩ (fun hHeld => ?_)
          refine wpAnyH_take (i := 0) (oi := ⟨some 22, _, _, _, _, _⟩) (v := .int .i64 ((q0 + 1 : Nat) : Int)) rfl (by kernel_rfl) (by kernel_rfl) (by kernel_rfl) (fun _ _ _ h => h) (Or.inl ⟨by rfl, ?_⟩) (by assumption) ?_
          · intro w hSw; (try dsimp only at hSw); go_simp
          simp only [Act.put, List.setIfInBounds_toArray, List.set_cons_zero, List.set_cons_succ]
          refine wpAnyH_take (i := 1) (oi := ⟨some 23, _, _, _, _, _⟩) (v := .bool true) rfl (by kernel_rfl) (by kernel_rfl) (by kernel_rfl) (fun _ _ _ h => h) (Or.inl ⟨by rfl, ?_⟩) (by assumption) ?_
          · intro w hSw; (try dsimp only at hSw); go_simp
          simp only [Act.put, List.setIfInBounds_toArray, List.set_cons_zero, List.set_cons_succ]
          refine wpAnyH_take (i := 2) (oi := ⟨some 24, _, _, _, _, _⟩) (v := .bool true) rfl (by kernel_rfl) (by kernel_rfl) (by kernel_rfl) (fun _ _ _ h => h) (Or.inl ⟨by rfl, ?_⟩) (by assumption) ?_
          · intro w hSw; (try dsimp only at hSw); go_simp
          simp only [Act.put, List.setIfInBounds_toArray, List.set_cons_zero, List.set_cons_succ]
          refine wpAnyH_take (i := 3) (oi := ⟨some 25, _, _, _, _, _⟩) (v := .slice (some ⟨b0, o, none⟩) l.length c) rfl (by kernel_rfl) (by kernel_rfl) (by kernel_rfl) (fun _ _ _ h => h) (Or.inl ⟨by rfl, ?_⟩) (by assumption) ?_
          · intro w hSw; (try dsimp only at hSw); go_simp
          simp only [Act.put, List.setIfInBounds_toArray, List.set_cons_zero, List.set_cons_succ]
          refine wpAnyH_take (i := 4) (oi := ⟨some 26, _, _, _, _, _⟩) (v := .int .i64 ((q0 + 1 : Nat) : Int)) rfl (by kernel_rfl) (by kernel_rfl) (by kernel_rfl) (fun _ _ _ h => h) (Or.inl ⟨by rfl, ?_⟩) (by assumption) ?_
          · intro w hSw; (try dsimp only at hSw); go_simp
          simp only [Act.put, List.setIfInBounds_toArray, List.set_cons_zero, List.set_cons_succ]
          refine wpAnyH_take (i := 5) (oi := ⟨some 27, _, _, _, _, _⟩) (v := .int .i64 (q0 : Int)) rfl (by kernel_rfl) (by kernel_rfl) (by kernel_rfl) (fun _ _ _ h => h) (Or.inl ⟨by rfl, ?_⟩) (by assumption) ?_
          · intro w hSw; (try dsimp only at hSw); go_simp
          simp only [Act.put, List.setIfInBounds_toArray, List.set_cons_zero, List.set_cons_succ]
          refine wpAnyH_take (i := 6) (oi := ⟨some 28, _, _, _, _, _⟩) (v := .pointer (some ⟨b0, o + q0, none⟩)) rfl (by kernel_rfl) (by kernel_rfl) (by kernel_rfl) (fun _ _ _ h => h) (Or.inl ⟨by rfl, ?_⟩) (by assumption) ?_
          · intro w hSw; (try dsimp only at hSw); go_simp
          simp only [Act.put, List.setIfInBounds_toArray, List.set_cons_zero, List.set_cons_succ]
          refine wpAnyH_take (i := 7) (oi := ⟨some 29, _, _, _, _, _⟩) (v := .string sq) rfl (by kernel_rfl) (by kernel_rfl) (by kernel_rfl) (fun _ _ _ h => h) (Or.inl ⟨by rfl, ?_⟩) (by assumption) ?_
          · intro w hSw; (try dsimp only at hSw); go_simp
          simp only [Act.put, List.setIfInBounds_toArray, List.set_cons_zero, List.set_cons_succ]
          refine wpAnyH_take (i := 8) (oi := ⟨some 30, _, _, _, _, _⟩) (v := .slice (some ⟨b0, o, none⟩) l.length c) rfl (by kernel_rfl) (by kernel_rfl) (by kernel_rfl) (fun _ _ _ h => h) (Or.inl ⟨by rfl, ?_⟩) (by assumption) ?_
          · intro w hSw; (try dsimp only at hSw); go_simp
          simp only [Act.put, List.setIfInBounds_toArray, List.set_cons_zero, List.set_cons_succ]
          refine wpAnyH_take (i := 9) (oi := ⟨some 31, _, _, _, _, _⟩) (v := .int .i64 (k : Int)) rfl (by kernel_rfl) (by kernel_rfl) (by kernel_rfl) (fun _ _ _ h => h) (Or.inl ⟨by rfl, ?_⟩) (by assumption) ?_
          · intro w hSw; (try dsimp only at hSw); go_simp
          simp only [Act.put, List.setIfInBounds_toArray, List.set_cons_zero, List.set_cons_succ]
          refine wpAnyH_take (i := 10) (oi := ⟨some 32, _, _, _, _, _⟩) (v := .pointer (some ⟨b0, o + k, none⟩)) rfl (by kernel_rfl) (by kernel_rfl) (by kernel_rfl) (fun _ _ _ h => h) (Or.inl ⟨by rfl, ?_⟩) (by assumption) ?_
          · intro w hSw; (try dsimp only at hSw); go_simp
          simp only [Act.put, List.setIfInBounds_toArray, List.set_cons_zero, List.set_cons_succ]
          refine wpAnyH_take (i := 11) (oi := ⟨some 33, _, _, _, _, _⟩) (v := .string st) rfl (by kernel_rfl) (by kernel_rfl) (by kernel_rfl) (fun _ _ _ h => h) (Or.inl ⟨by rfl, ?_⟩) (by assumption) ?_
          · intro w hSw; (try dsimp only at hSw); go_simp
          simp only [Act.put, List.setIfInBounds_toArray, List.set_cons_zero, List.set_cons_succ]
          refine wpAnyH_take (i := 12) (oi := ⟨some 34, _, _, _, _, _⟩) (v := .bool true) rfl (by kernel_rfl) (by kernel_rfl) (by kernel_rfl) (fun _ _ _ h => h) (Or.inl ⟨by rfl, ?_⟩) (by assumption) ?_
          · intro w hSw; (try dsimp only at hSw); go_simp
          simp only [Act.put, List.setIfInBounds_toArray, List.set_cons_zero, List.set_cons_succ]
          refine wpAnyH_take (i := 13) (oi := ⟨some 35, _, _, _, _, _⟩) (v := .bool true) rfl (by kernel_rfl) (by kernel_rfl) (by kernel_rfl) (fun _ _ _ h => h) (Or.inl ⟨by rfl, ?_⟩) (by assumption) ?_
          · intro w hSw; (try dsimp only at hSw); go_simp
          simp only [Act.put, List.setIfInBounds_toArray, List.set_cons_zero, List.set_cons_succ]
          refine wpAnyH_done (by kernel_rfl) ?_ _
          go_wp2
          go_ret
          exact ⟨.inl rfl, by rw [← HNW.out]; exact B4.out⟩
    · have hki : ¬ (k : Int) < (l.length : Int) := by omega
      obtain rfl : k = l.length := by omega
      go_wp2
      go_ret
      exact ⟨.inr ⟨rfl, HC.out⟩, by rw [← HNW.out]; exact HB.out⟩
end Go.Proofs.YtiehcplepneajaaGreatDoor
