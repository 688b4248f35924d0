/-
  The document's Of, May and Part of buckets.
-/
import Derived.Test.YthhmnbpabncdnaaDoorMRs
import Derived.Test.YthhmnbpabncdnaaDoorBuMay
import Derived.Test.YthhmnbpabncdnaaDoorBuPart
import Derived.Test.YthhmnbpabncdnaaDoorPaRefCut
import Derived.Test.YthhmnbpabncdnaaDoorR13Find
namespace Go.Proofs.YthhmnbpabncdnaaDoor
open Go.RowKit
namespace Bu
theorem info32 {c : Array Value} (h : c.size = 32) : (Tryd.prog.info? 38).map (·.size) = some c.size := by rw [h]; kernel_rfl
end Bu
set_option maxRecDepth 100000 in
set_option maxHeartbeats 2000000 in
theorem r14Of_any (w : World) (p : ByteArray) (hp : p.size ≤ 35184372088832) :
    Calls Tryd.prog 14 #[.string p] w fun e w' => e = .returned (.int .i64 (Bu.bk p : Nat)) ∧ Below w.heap.size w w' := by
  have HS := Lib.hid (rssum_any p hp w)
  have hbk := Bu.bk_getD p
  have hl := Sm.sum_length p.data.toList
  obtain ⟨L, hL⟩ : ∃ L, L = Sm.sum p.data.toList := ⟨_, rfl⟩
  rw [← hL] at HS hbk hl
  obtain ⟨b, hb⟩ : ∃ b, b = L.getD 0 0 := ⟨_, rfl⟩
  rw [← hb] at hbk
  obtain ⟨i, hi⟩ : ∃ i, i = Bu.bk p := ⟨_, rfl⟩
  rw [← hi] at hbk ⊢
  have hsz32 : (Lib.byteCells L).toArray.size = 32 := by rw [Sm.bytes_size, hl]
  have hone := Sm.bytes_one L
  obtain ⟨cs, hcs⟩ : ∃ c, c = (Lib.byteCells L).toArray := ⟨_, rfl⟩
  have HC : Hid (∀ {w : World} {N : Nat}, w.heap[N]? = some (.cells cs 38 (0, 0)) → w.cell? ⟨N, 0, none⟩ = some (.int .u8 (b.toNat : Int))) := by
    intro w N h
    rw [hcs] at h
    rw [hb]
    exact Sm.row_cell h 0 (by omega)
  rw [← hcs] at hsz32 hone HS
  have hb256 := b.toNat_lt
  obtain ⟨n, hn⟩ : ∃ n, n = b.toNat := ⟨_, rfl⟩
  rw [← hn] at hbk HC hb256
  have hi16 : i < 16 := by omega
  have HI : Hid ((n : Int) / 16 = (i : Int)) := by show _ = _; omega
  have HW : wrap64 ((n : Int) / 16) = (i : Int) := by rw [HI.out]; simp only [wrap64]; omega
  have HT : (n : Int).tdiv 16 = (i : Int) := by rw [Int.tdiv_eq_ediv_of_nonneg (by omega)]; exact HI.out
  clear hL hb hcs hn hi hbk hl
  go_enter Tryd.func14, Tryd.ntmps14
  go_wp2_with fail
  refine HS.out.mono ?_
  rintro e w1 ⟨rfl, b1⟩
  have hst : ∀ (c : Array Value), c.size = 32 → (storeCells ⟨w1.heap.size, 0, none⟩ cs.toList).run Tryd.prog (w1.alloc (.cells c 38)) = .ok () (w1.alloc (.cells cs 38)) := fun c hc =>
    run_storeCells_new (P := Tryd.prog) w1 38 c cs (Bu.info32 hsz32) (by rw [hsz32]; exact hc) hone
  have b2 := b1.alloc b1.size (.cells cs 38)
  have c0 := HC.out (heap_alloc_new w1 (.cells cs 38))
  clear hone
  go_wp2_with fail
  go_ret
  exact ⟨rfl, b2⟩
set_option maxRecDepth 100000 in
set_option maxHeartbeats 4000000 in
theorem r14May_any {w : World} {A : Option Addr} {l : List Om.Pr} (c : Nat) (hit : Om.listAt w A l) (hn : l.length ≤ 1000000) (hs : ∀ x ∈ l, x.p.size ≤ 1000000) :
    Calls Tryd.prog 16 #[.slice A l.length c] w fun e w' => e = .returned (.bool (Bu.may l)) ∧ Below w.heap.size w w' := by
  have HIT := Lib.hid hit
  have HS := Lib.hid hs
  clear hit hs
  go_enter Tryd.func16, Tryd.ntmps16
  go_wp2
  go_loopw [3] (fun i wr => ∃ k : Nat, i = .int .i64 k ∧ k ≤ l.length ∧ Bu.Upto l k ∧ Below w.heap.size w wr) (fun i _ => l.length - (intOf i).toNat)
  case atStart => exact ⟨0, rfl, Nat.zero_le _, Bu.Upto.zero l, Below.refl _ _⟩
  case round =>
    obtain ⟨k, rfl, hk, hu, hb⟩ := hrel
    have HU := Lib.hid hu
    have HB := Lib.hid hb
    clear hu hb
    by_cases hlt : k < l.length
    · have hki : (k : Int) < (l.length : Int) := by omega
      have hsuc : IntKind.i64.wrap ((k : Int) + 1) = ((k + 1 : Nat) : Int) := by simp [IntKind.wrap, IntKind.bits, IntKind.signed]; omega
      obtain ⟨b, off, rfl, hbl, x0, x1⟩ := HIT.out.get HB.out k hlt
      have hxp := HS.out _ (List.getElem_mem hlt)
      have HPREV : Hid (∀ (h0 : 0 < k), wr.cell? ⟨b, off + (k - 1) * 2, none⟩ = some (.string (l[k - 1]).p)) := fun h0 => by
        obtain ⟨b', off', e', -, z0, -⟩ := HIT.out.get HB.out (k - 1) (by omega)
        simp only [Option.some.injEq, Addr.mk.injEq] at e'
        obtain ⟨rfl, rfl, -⟩ := e'
        exact z0
      have HPS : Hid (∀ (h0 : 0 < k), (l[k - 1]).p.size ≤ 1000000) := fun h0 => HS.out _ (List.getElem_mem (by omega))
      have hblr : Hid (b < wr.heap.size) := Nat.lt_of_lt_of_le hbl HB.out.size
      obtain ⟨x, hx⟩ : ∃ x, x = l[k] := ⟨_, rfl⟩
      rw [← hx] at x0 x1 hxp
      have HX := Lib.hid hx
      have CU := Lib.hid (fun wx => r11Cut_any wx x.p (by omega))
      unfold Pa.cutV at CU
      clear hx
      cases ho : Pa.ok x.p.data.toList
      · rw [ho] at CU
        have HF := Lib.hid (Bu.may_not hlt (fun h => by rw [← HX.out] at h; have h1 := h.1; rw [ho] at h1; cases h1))
        clear ho
        go_wp2_with (go_at_call 27; refine (CU.out _).mono ?_; rintro e w3 ⟨rfl, k3⟩)
        go_ret
        exact ⟨by rw [HF.out]; rfl, HB.out.trans (k3.mono HB.out.size)⟩
      · rw [ho] at CU
        by_cases hv : x.v.size ≤ 32
        · have hvi : ¬ (32 : Int) < (x.v.size : Int) := by omega
          have HF : Hid (Om.Fair l[k]) := by show Om.Fair _; rw [← HX.out]; exact ⟨ho, hv⟩
          clear ho hv
          go_upto_region 5 with (go_at_call 27; refine (CU.out _).mono ?_; rintro e w3 ⟨rfl, k3⟩)
          have HB3 : Hid (Below w.heap.size w w3) := HB.out.trans (k3.mono HB.out.size)
          have x2 := (k3.cell (p := ⟨b, off + k * 2, none⟩) hblr.out).trans x0
          have x3 := (k3.cell (p := ⟨b, off + k * 2 + 1, none⟩) hblr.out).trans x1
          have HP3 : Hid (∀ (h0 : 0 < k), w3.cell? ⟨b, off + (k - 1) * 2, none⟩ = some (.string (l[k - 1]).p)) := fun h0 => (k3.cell (p := ⟨b, off + (k - 1) * 2, none⟩) hblr.out).trans (HPREV.out h0)
          have HBL : Hid (b < w3.drew.heap.size) := Nat.lt_of_lt_of_le hblr.out k3.size
          clear x0 x1 k3 HPREV
          go_upto_region 7 with (fail)
          have HBD : Hid (Below w.heap.size w w3.drew) := HB3.out.drew
          by_cases h0 : k = 0
          · subst h0
            have HN := Lib.hid (HU.out.next hlt HF.out (fun h => absurd h (Nat.lt_irrefl _)))
            clear x2 x3
            refine wp_region_held_drew (S := fun _ => True) (by kernel_rfl) trivial (fun hHeld => ?_)
            refine wpAnyH_take (i := 0) (oi := ⟨some 34, _, _, _, _, _⟩) (v := .int .i64 0) rfl (by kernel_rfl) (by kernel_rfl) (by kernel_rfl) (fun _ _ _ h => h) (Or.inl ⟨by rfl, ?_⟩) (by assumption) ?_
            · intro w hSw; (try dsimp only at hSw); go_simp
            simp only [Act.put, List.setIfInBounds_toArray, List.set_cons_zero, List.set_cons_succ]
            refine wpAnyH_take (i := 1) (oi := ⟨some 35, _, _, _, _, _⟩) (v := .bool false) rfl (by kernel_rfl) (by kernel_rfl) (by kernel_rfl) (fun _ _ _ h => h) (Or.inl ⟨by rfl, ?_⟩) (by assumption) ?_
            · intro w hSw; (try dsimp only at hSw); go_simp
            simp only [Act.put, List.setIfInBounds_toArray, List.set_cons_zero, List.set_cons_succ]
            refine wpAnyH_take (i := 2) (oi := ⟨some 36, _, _, _, _, _⟩) (v := .bool false) rfl (by kernel_rfl) (by kernel_rfl) (by kernel_rfl) (fun _ _ _ h => h) (Or.inl ⟨by rfl, ?_⟩) (by assumption) ?_
            · intro w hSw; (try dsimp only at hSw); go_simp
            simp only [Act.put, List.setIfInBounds_toArray, List.set_cons_zero, List.set_cons_succ]
            refine wpAnyH_take (i := 3) (oi := ⟨some 37, _, _, _, _, _⟩) (v := undef) rfl (by kernel_rfl) (by kernel_rfl) (by kernel_rfl) (fun _ _ _ h => h) (Or.inr ⟨by rfl, rfl⟩) (by assumption) ?_
            simp only [Act.put, List.setIfInBounds_toArray, List.set_cons_zero, List.set_cons_succ]
            refine wpAnyH_take (i := 4) (oi := ⟨some 38, _, _, _, _, _⟩) (v := undef) rfl (by kernel_rfl) (by kernel_rfl) (by kernel_rfl) (fun _ _ _ h => h) (Or.inr ⟨by rfl, rfl⟩) (by assumption) ?_
            simp only [Act.put, List.setIfInBounds_toArray, List.set_cons_zero, List.set_cons_succ]
            refine wpAnyH_take (i := 5) (oi := ⟨some 39, _, _, _, _, _⟩) (v := undef) rfl (by kernel_rfl) (by kernel_rfl) (by kernel_rfl) (fun _ _ _ h => h) (Or.inr ⟨by rfl, rfl⟩) (by assumption) ?_
            simp only [Act.put, List.setIfInBounds_toArray, List.set_cons_zero, List.set_cons_succ]
            refine wpAnyH_take (i := 6) (oi := ⟨some 40, _, _, _, _, _⟩) (v := undef) rfl (by kernel_rfl) (by kernel_rfl) (by kernel_rfl) (fun _ _ _ h => h) (Or.inr ⟨by rfl, rfl⟩) (by assumption) ?_
            simp only [Act.put, List.setIfInBounds_toArray, List.set_cons_zero, List.set_cons_succ]
            refine wpAnyH_take (i := 7) (oi := ⟨some 41, _, _, _, _, _⟩) (v := undef) rfl (by kernel_rfl) (by kernel_rfl) (by kernel_rfl) (fun _ _ _ h => h) (Or.inr ⟨by rfl, rfl⟩) (by assumption) ?_
            simp only [Act.put, List.setIfInBounds_toArray, List.set_cons_zero, List.set_cons_succ]
            refine wpAnyH_take (i := 8) (oi := ⟨some 42, _, _, _, _, _⟩) (v := undef) rfl (by kernel_rfl) (by kernel_rfl) (by kernel_rfl) (fun _ _ _ h => h) (Or.inr ⟨by rfl, rfl⟩) (by assumption) ?_
            simp only [Act.put, List.setIfInBounds_toArray, List.set_cons_zero, List.set_cons_succ]
            refine wpAnyH_take (i := 9) (oi := ⟨some 43, _, _, _, _, _⟩) (v := undef) rfl (by kernel_rfl) (by kernel_rfl) (by kernel_rfl) (fun _ _ _ h => h) (Or.inr ⟨by rfl, rfl⟩) (by assumption) ?_
            simp only [Act.put, List.setIfInBounds_toArray, List.set_cons_zero, List.set_cons_succ]
            refine wpAnyH_take (i := 10) (oi := ⟨some 44, _, _, _, _, _⟩) (v := undef) rfl (by kernel_rfl) (by kernel_rfl) (by kernel_rfl) (fun _ _ _ h => h) (Or.inr ⟨by rfl, rfl⟩) (by assumption) ?_
            simp only [Act.put, List.setIfInBounds_toArray, List.set_cons_zero, List.set_cons_succ]
            refine wpAnyH_take (i := 11) (oi := ⟨some 45, _, _, _, _, _⟩) (v := undef) rfl (by kernel_rfl) (by kernel_rfl) (by kernel_rfl) (fun _ _ _ h => h) (Or.inr ⟨by rfl, rfl⟩) (by assumption) ?_
            simp only [Act.put, List.setIfInBounds_toArray, List.set_cons_zero, List.set_cons_succ]
            refine wpAnyH_take (i := 12) (oi := ⟨some 46, _, _, _, _, _⟩) (v := undef) rfl (by kernel_rfl) (by kernel_rfl) (by kernel_rfl) (fun _ _ _ h => h) (Or.inr ⟨by rfl, rfl⟩) (by assumption) ?_
            simp only [Act.put, List.setIfInBounds_toArray, List.set_cons_zero, List.set_cons_succ]
            refine wpAnyH_take (i := 13) (oi := ⟨some 47, _, _, _, _, _⟩) (v := undef) rfl (by kernel_rfl) (by kernel_rfl) (by kernel_rfl) (fun _ _ _ h => h) (Or.inr ⟨by rfl, rfl⟩) (by assumption) ?_
            simp only [Act.put, List.setIfInBounds_toArray, List.set_cons_zero, List.set_cons_succ]
            refine wpAnyH_take (i := 14) (oi := ⟨some 48, _, _, _, _, _⟩) (v := undef) rfl (by kernel_rfl) (by kernel_rfl) (by kernel_rfl) (fun _ _ _ h => h) (Or.inr ⟨by rfl, rfl⟩) (by assumption) ?_
            simp only [Act.put, List.setIfInBounds_toArray, List.set_cons_zero, List.set_cons_succ]
            refine wpAnyH_take (i := 15) (oi := ⟨some 49, _, _, _, _, _⟩) (v := undef) rfl (by kernel_rfl) (by kernel_rfl) (by kernel_rfl) (fun _ _ _ h => h) (Or.inr ⟨by rfl, rfl⟩) (by assumption) ?_
            simp only [Act.put, List.setIfInBounds_toArray, List.set_cons_zero, List.set_cons_succ]
            refine wpAnyH_take (i := 16) (oi := ⟨some 50, _, _, _, _, _⟩) (v := .bool false) rfl (by kernel_rfl) (by kernel_rfl) (by kernel_rfl) (fun _ _ _ h => h) (Or.inl ⟨by rfl, ?_⟩) (by assumption) ?_
            · intro w hSw; (try dsimp only at hSw); go_simp
            simp only [Act.put, List.setIfInBounds_toArray, List.set_cons_zero, List.set_cons_succ]
            refine wpAnyH_done (by kernel_rfl) ?_ _
            go_wp2_with fail
            go_roundw
            case rel => exact ⟨1, rfl, hlt, HN.out, HBD.out⟩
            case measure => simp [intOf]; omega
          · have h0' : 0 < k := by omega
            have hk0 : (0 : Int) < (k : Int) := by omega
            have z1 : w3.drew.cell? ⟨b, off + (k - 1) * 2, none⟩ = some (.string (l[k - 1]).p) := HP3.out h0'
            have z2 : w3.drew.cell? ⟨b, off + k * 2, none⟩ = some (.string x.p) := x2
            have hys := HPS.out h0'
            have HSUB : Hid (IntKind.i64.wrap ((k : Int) - 1) = ((k - 1 : Nat) : Int)) := by show _ = _; simp [IntKind.wrap, IntKind.bits, IntKind.signed]; omega
            obtain ⟨y, hy⟩ : ∃ y, y = l[k - 1] := ⟨_, rfl⟩
            rw [← hy] at z1 hys
            have LE := Lib.hid (fun wx => r11Less_any wx y.p x.p hys)
            have hkl1 : (((k - 1 : Nat) : Int)) < (l.length : Int) := by omega
            have hk10 : (0 : Int) ≤ ((k - 1 : Nat) : Int) := by omega
            cases hl : Om.lt y.p x.p
            · rw [hl] at LE
              have HF2 := Lib.hid (Bu.may_fall hlt h0' (by rw [← HX.out, ← hy]; exact hl))
              clear hl hy
              refine wp_region_held_drew (S := fun w' => w'.cell? ⟨b, off + (k - 1) * 2, none⟩ = some (.string y.p) ∧ w'.cell? ⟨b, off + k * 2, none⟩ = some (.string x.p)) (by kernel_rfl) ⟨z1, z2⟩ (fun hHeld => ?_)
              refine wpAnyH_take (i := 0) (oi := ⟨some 34, _, _, _, _, _⟩) (v := .int .i64 (k : Int)) rfl (by kernel_rfl) (by kernel_rfl) (by kernel_rfl) (fun _ _ _ h => h) (Or.inl ⟨by rfl, ?_⟩) (by assumption) ?_
              · intro w hSw; (try dsimp only at hSw); go_simp
              simp only [Act.put, List.setIfInBounds_toArray, List.set_cons_zero, List.set_cons_succ]
              refine wpAnyH_take (i := 1) (oi := ⟨some 35, _, _, _, _, _⟩) (v := .bool true) rfl (by kernel_rfl) (by kernel_rfl) (by kernel_rfl) (fun _ _ _ h => h) (Or.inl ⟨by rfl, ?_⟩) (by assumption) ?_
              · intro w hSw; (try dsimp only at hSw); go_simp
              simp only [Act.put, List.setIfInBounds_toArray, List.set_cons_zero, List.set_cons_succ]
              refine wpAnyH_take (i := 2) (oi := ⟨some 36, _, _, _, _, _⟩) (v := .bool true) rfl (by kernel_rfl) (by kernel_rfl) (by kernel_rfl) (fun _ _ _ h => h) (Or.inl ⟨by rfl, ?_⟩) (by assumption) ?_
              · intro w hSw; (try dsimp only at hSw); go_simp
              simp only [Act.put, List.setIfInBounds_toArray, List.set_cons_zero, List.set_cons_succ]
              refine wpAnyH_take (i := 3) (oi := ⟨some 37, _, _, _, _, _⟩) (v := .slice (some ⟨b, off, none⟩) l.length c) rfl (by kernel_rfl) (by kernel_rfl) (by kernel_rfl) (fun _ _ _ h => h) (Or.inl ⟨by rfl, ?_⟩) (by assumption) ?_
              · intro w hSw; (try dsimp only at hSw); go_simp
              simp only [Act.put, List.setIfInBounds_toArray, List.set_cons_zero, List.set_cons_succ]
              refine wpAnyH_take (i := 4) (oi := ⟨some 38, _, _, _, _, _⟩) (v := .int .i64 (k : Int)) rfl (by kernel_rfl) (by kernel_rfl) (by kernel_rfl) (fun _ _ _ h => h) (Or.inl ⟨by rfl, ?_⟩) (by assumption) ?_
              · intro w hSw; (try dsimp only at hSw); go_simp
              simp only [Act.put, List.setIfInBounds_toArray, List.set_cons_zero, List.set_cons_succ]
              refine wpAnyH_take (i := 5) (oi := ⟨some 39, _, _, _, _, _⟩) (v := .int .i64 ((k - 1 : Nat) : Int)) rfl (by kernel_rfl) (by kernel_rfl) (by kernel_rfl) (fun _ _ _ h => h) (Or.inl ⟨by rfl, ?_⟩) (by assumption) ?_
              · intro w hSw; (try dsimp only at hSw); have q := HSUB.out; go_simp
              simp only [Act.put, List.setIfInBounds_toArray, List.set_cons_zero, List.set_cons_succ]
              refine wpAnyH_take (i := 6) (oi := ⟨some 40, _, _, _, _, _⟩) (v := .pointer (some ⟨b, off + (k - 1) * 2, none⟩)) rfl (by kernel_rfl) (by kernel_rfl) (by kernel_rfl) (fun _ _ _ h => h) (Or.inl ⟨by rfl, ?_⟩) (by assumption) ?_
              · intro w hSw; (try dsimp only at hSw); go_simp
              simp only [Act.put, List.setIfInBounds_toArray, List.set_cons_zero, List.set_cons_succ]
              refine wpAnyH_take (i := 7) (oi := ⟨some 41, _, _, _, _, _⟩) (v := .pointer (some ⟨b, off + (k - 1) * 2, none⟩)) rfl (by kernel_rfl) (by kernel_rfl) (by kernel_rfl) (fun _ _ _ h => h) (Or.inl ⟨by rfl, ?_⟩) (by assumption) ?_
              · intro w hSw; (try dsimp only at hSw); go_simp
              simp only [Act.put, List.setIfInBounds_toArray, List.set_cons_zero, List.set_cons_succ]
              refine wpAnyH_take (i := 8) (oi := ⟨some 42, _, _, _, _, _⟩) (v := .string y.p) rfl (by kernel_rfl) (by kernel_rfl) (by kernel_rfl) (fun _ _ _ h => h) (Or.inl ⟨by rfl, ?_⟩) (by assumption) ?_
              · intro w hSw; (try dsimp only at hSw); go_simp
              simp only [Act.put, List.setIfInBounds_toArray, List.set_cons_zero, List.set_cons_succ]
              refine wpAnyH_take (i := 9) (oi := ⟨some 43, _, _, _, _, _⟩) (v := .slice (some ⟨b, off, none⟩) l.length c) rfl (by kernel_rfl) (by kernel_rfl) (by kernel_rfl) (fun _ _ _ h => h) (Or.inl ⟨by rfl, ?_⟩) (by assumption) ?_
              · intro w hSw; (try dsimp only at hSw); go_simp
              simp only [Act.put, List.setIfInBounds_toArray, List.set_cons_zero, List.set_cons_succ]
              refine wpAnyH_take (i := 10) (oi := ⟨some 44, _, _, _, _, _⟩) (v := .int .i64 (k : Int)) rfl (by kernel_rfl) (by kernel_rfl) (by kernel_rfl) (fun _ _ _ h => h) (Or.inl ⟨by rfl, ?_⟩) (by assumption) ?_
              · intro w hSw; (try dsimp only at hSw); go_simp
              simp only [Act.put, List.setIfInBounds_toArray, List.set_cons_zero, List.set_cons_succ]
              refine wpAnyH_take (i := 11) (oi := ⟨some 45, _, _, _, _, _⟩) (v := .pointer (some ⟨b, off + k * 2, none⟩)) rfl (by kernel_rfl) (by kernel_rfl) (by kernel_rfl) (fun _ _ _ h => h) (Or.inl ⟨by rfl, ?_⟩) (by assumption) ?_
              · intro w hSw; (try dsimp only at hSw); go_simp
              simp only [Act.put, List.setIfInBounds_toArray, List.set_cons_zero, List.set_cons_succ]
              refine wpAnyH_take (i := 12) (oi := ⟨some 46, _, _, _, _, _⟩) (v := .pointer (some ⟨b, off + k * 2, none⟩)) rfl (by kernel_rfl) (by kernel_rfl) (by kernel_rfl) (fun _ _ _ h => h) (Or.inl ⟨by rfl, ?_⟩) (by assumption) ?_
              · intro w hSw; (try dsimp only at hSw); go_simp
              simp only [Act.put, List.setIfInBounds_toArray, List.set_cons_zero, List.set_cons_succ]
              refine wpAnyH_take (i := 13) (oi := ⟨some 47, _, _, _, _, _⟩) (v := .string x.p) rfl (by kernel_rfl) (by kernel_rfl) (by kernel_rfl) (fun _ _ _ h => h) (Or.inl ⟨by rfl, ?_⟩) (by assumption) ?_
              · intro w hSw; (try dsimp only at hSw); go_simp
              simp only [Act.put, List.setIfInBounds_toArray, List.set_cons_zero, List.set_cons_succ]
              refine wpAnyH_ready (rs := [14]) (by kernel_rfl) (by simp) ?_
              refine (AllReadyH.cons (o := ⟨some 48, _, _, _, _, _⟩) rfl (fun K hK => ?_) AllReadyH.nil)
              go_simp
              refine (LE.out _).mono ?_
              rintro e w4 ⟨rfl, k4⟩
              refine hK.out _ _ ⟨(k4.cell (p := ⟨b, off + (k - 1) * 2, none⟩) HBL.out).trans z1, (k4.cell (p := ⟨b, off + k * 2, none⟩) HBL.out).trans z2⟩ (fun hHeld => ?_)
              clear hK K
              refine wpAnyH_take (i := 15) (oi := ⟨some 49, _, _, _, _, _⟩) (v := .bool true) rfl (by kernel_rfl) (by kernel_rfl) (by kernel_rfl) (fun _ _ _ h => h) (Or.inl ⟨by rfl, ?_⟩) (by assumption) ?_
              · intro w hSw; (try dsimp only at hSw); go_simp
              simp only [Act.put, List.setIfInBounds_toArray, List.set_cons_zero, List.set_cons_succ]
              refine wpAnyH_take (i := 16) (oi := ⟨some 50, _, _, _, _, _⟩) (v := .bool true) rfl (by kernel_rfl) (by kernel_rfl) (by kernel_rfl) (fun _ _ _ h => h) (Or.inl ⟨by rfl, ?_⟩) (by assumption) ?_
              · intro w hSw; (try dsimp only at hSw); go_simp
              simp only [Act.put, List.setIfInBounds_toArray, List.set_cons_zero, List.set_cons_succ]
              refine wpAnyH_done (by kernel_rfl) ?_ _
              go_wp2_with fail
              go_ret
              exact ⟨by rw [HF2.out]; rfl, HBD.out.trans (k4.mono HBD.out.size)⟩
            · rw [hl] at LE
              have HN := Lib.hid (HU.out.next hlt HF.out (fun _ => by rw [← HX.out, ← hy]; exact hl))
              clear hl hy
              refine wp_region_held_drew (S := fun w' => w'.cell? ⟨b, off + (k - 1) * 2, none⟩ = some (.string y.p) ∧ w'.cell? ⟨b, off + k * 2, none⟩ = some (.string x.p)) (by kernel_rfl) ⟨z1, z2⟩ (fun hHeld => ?_)
              refine wpAnyH_take (i := 0) (oi := ⟨some 34, _, _, _, _, _⟩) (v := .int .i64 (k : Int)) rfl (by kernel_rfl) (by kernel_rfl) (by kernel_rfl) (fun _ _ _ h => h) (Or.inl ⟨by rfl, ?_⟩) (by assumption) ?_
              · intro w hSw; (try dsimp only at hSw); go_simp
              simp only [Act.put, List.setIfInBounds_toArray, List.set_cons_zero, List.set_cons_succ]
              refine wpAnyH_take (i := 1) (oi := ⟨some 35, _, _, _, _, _⟩) (v := .bool true) rfl (by kernel_rfl) (by kernel_rfl) (by kernel_rfl) (fun _ _ _ h => h) (Or.inl ⟨by rfl, ?_⟩) (by assumption) ?_
              · intro w hSw; (try dsimp only at hSw); go_simp
              simp only [Act.put, List.setIfInBounds_toArray, List.set_cons_zero, List.set_cons_succ]
              refine wpAnyH_take (i := 2) (oi := ⟨some 36, _, _, _, _, _⟩) (v := .bool true) rfl (by kernel_rfl) (by kernel_rfl) (by kernel_rfl) (fun _ _ _ h => h) (Or.inl ⟨by rfl, ?_⟩) (by assumption) ?_
              · intro w hSw; (try dsimp only at hSw); go_simp
              simp only [Act.put, List.setIfInBounds_toArray, List.set_cons_zero, List.set_cons_succ]
              refine wpAnyH_take (i := 3) (oi := ⟨some 37, _, _, _, _, _⟩) (v := .slice (some ⟨b, off, none⟩) l.length c) rfl (by kernel_rfl) (by kernel_rfl) (by kernel_rfl) (fun _ _ _ h => h) (Or.inl ⟨by rfl, ?_⟩) (by assumption) ?_
              · intro w hSw; (try dsimp only at hSw); go_simp
              simp only [Act.put, List.setIfInBounds_toArray, List.set_cons_zero, List.set_cons_succ]
              refine wpAnyH_take (i := 4) (oi := ⟨some 38, _, _, _, _, _⟩) (v := .int .i64 (k : Int)) rfl (by kernel_rfl) (by kernel_rfl) (by kernel_rfl) (fun _ _ _ h => h) (Or.inl ⟨by rfl, ?_⟩) (by assumption) ?_
              · intro w hSw; (try dsimp only at hSw); go_simp
              simp only [Act.put, List.setIfInBounds_toArray, List.set_cons_zero, List.set_cons_succ]
              refine wpAnyH_take (i := 5) (oi := ⟨some 39, _, _, _, _, _⟩) (v := .int .i64 ((k - 1 : Nat) : Int)) rfl (by kernel_rfl) (by kernel_rfl) (by kernel_rfl) (fun _ _ _ h => h) (Or.inl ⟨by rfl, ?_⟩) (by assumption) ?_
              · intro w hSw; (try dsimp only at hSw); have q := HSUB.out; go_simp
              simp only [Act.put, List.setIfInBounds_toArray, List.set_cons_zero, List.set_cons_succ]
              refine wpAnyH_take (i := 6) (oi := ⟨some 40, _, _, _, _, _⟩) (v := .pointer (some ⟨b, off + (k - 1) * 2, none⟩)) rfl (by kernel_rfl) (by kernel_rfl) (by kernel_rfl) (fun _ _ _ h => h) (Or.inl ⟨by rfl, ?_⟩) (by assumption) ?_
              · intro w hSw; (try dsimp only at hSw); go_simp
              simp only [Act.put, List.setIfInBounds_toArray, List.set_cons_zero, List.set_cons_succ]
              refine wpAnyH_take (i := 7) (oi := ⟨some 41, _, _, _, _, _⟩) (v := .pointer (some ⟨b, off + (k - 1) * 2, none⟩)) rfl (by kernel_rfl) (by kernel_rfl) (by kernel_rfl) (fun _ _ _ h => h) (Or.inl ⟨by rfl, ?_⟩) (by assumption) ?_
              · intro w hSw; (try dsimp only at hSw); go_simp
              simp only [Act.put, List.setIfInBounds_toArray, List.set_cons_zero, List.set_cons_succ]
              refine wpAnyH_take (i := 8) (oi := ⟨some 42, _, _, _, _, _⟩) (v := .string y.p) rfl (by kernel_rfl) (by kernel_rfl) (by kernel_rfl) (fun _ _ _ h => h) (Or.inl ⟨by rfl, ?_⟩) (by assumption) ?_
              · intro w hSw; (try dsimp only at hSw); go_simp
              simp only [Act.put, List.setIfInBounds_toArray, List.set_cons_zero, List.set_cons_succ]
              refine wpAnyH_take (i := 9) (oi := ⟨some 43, _, _, _, _, _⟩) (v := .slice (some ⟨b, off, none⟩) l.length c) rfl (by kernel_rfl) (by kernel_rfl) (by kernel_rfl) (fun _ _ _ h => h) (Or.inl ⟨by rfl, ?_⟩) (by assumption) ?_
              · intro w hSw; (try dsimp only at hSw); go_simp
              simp only [Act.put, List.setIfInBounds_toArray, List.set_cons_zero, List.set_cons_succ]
              refine wpAnyH_take (i := 10) (oi := ⟨some 44, _, _, _, _, _⟩) (v := .int .i64 (k : Int)) rfl (by kernel_rfl) (by kernel_rfl) (by kernel_rfl) (fun _ _ _ h => h) (Or.inl ⟨by rfl, ?_⟩) (by assumption) ?_
              · intro w hSw; (try dsimp only at hSw); go_simp
              simp only [Act.put, List.setIfInBounds_toArray, List.set_cons_zero, List.set_cons_succ]
              refine wpAnyH_take (i := 11) (oi := ⟨some 45, _, _, _, _, _⟩) (v := .pointer (some ⟨b, off + k * 2, none⟩)) rfl (by kernel_rfl) (by kernel_rfl) (by kernel_rfl) (fun _ _ _ h => h) (Or.inl ⟨by rfl, ?_⟩) (by assumption) ?_
              · intro w hSw; (try dsimp only at hSw); go_simp
              simp only [Act.put, List.setIfInBounds_toArray, List.set_cons_zero, List.set_cons_succ]
              refine wpAnyH_take (i := 12) (oi := ⟨some 46, _, _, _, _, _⟩) (v := .pointer (some ⟨b, off + k * 2, none⟩)) rfl (by kernel_rfl) (by kernel_rfl) (by kernel_rfl) (fun _ _ _ h => h) (Or.inl ⟨by rfl, ?_⟩) (by assumption) ?_
              · intro w hSw; (try dsimp only at hSw); go_simp
              simp only [Act.put, List.setIfInBounds_toArray, List.set_cons_zero, List.set_cons_succ]
              refine wpAnyH_take (i := 13) (oi := ⟨some 47, _, _, _, _, _⟩) (v := .string x.p) rfl (by kernel_rfl) (by kernel_rfl) (by kernel_rfl) (fun _ _ _ h => h) (Or.inl ⟨by rfl, ?_⟩) (by assumption) ?_
              · intro w hSw; (try dsimp only at hSw); go_simp
              simp only [Act.put, List.setIfInBounds_toArray, List.set_cons_zero, List.set_cons_succ]
              refine wpAnyH_ready (rs := [14]) (by kernel_rfl) (by simp) ?_
              refine (AllReadyH.cons (o := ⟨some 48, _, _, _, _, _⟩) rfl (fun K hK => ?_) AllReadyH.nil)
              go_simp
              refine (LE.out _).mono ?_
              rintro e w4 ⟨rfl, k4⟩
              refine hK.out _ _ ⟨(k4.cell (p := ⟨b, off + (k - 1) * 2, none⟩) HBL.out).trans z1, (k4.cell (p := ⟨b, off + k * 2, none⟩) HBL.out).trans z2⟩ (fun hHeld => ?_)
              clear hK K
              refine wpAnyH_take (i := 15) (oi := ⟨some 49, _, _, _, _, _⟩) (v := .bool false) rfl (by kernel_rfl) (by kernel_rfl) (by kernel_rfl) (fun _ _ _ h => h) (Or.inl ⟨by rfl, ?_⟩) (by assumption) ?_
              · intro w hSw; (try dsimp only at hSw); go_simp
              simp only [Act.put, List.setIfInBounds_toArray, List.set_cons_zero, List.set_cons_succ]
              refine wpAnyH_take (i := 16) (oi := ⟨some 50, _, _, _, _, _⟩) (v := .bool false) rfl (by kernel_rfl) (by kernel_rfl) (by kernel_rfl) (fun _ _ _ h => h) (Or.inl ⟨by rfl, ?_⟩) (by assumption) ?_
              · intro w hSw; (try dsimp only at hSw); go_simp
              simp only [Act.put, List.setIfInBounds_toArray, List.set_cons_zero, List.set_cons_succ]
              refine wpAnyH_done (by kernel_rfl) ?_ _
              go_wp2_with fail
              go_roundw
              case rel => exact ⟨k + 1, rfl, hlt, HN.out, HBD.out.trans (k4.mono HBD.out.size)⟩
              case measure => simp [intOf]; omega
        · have hvi : (32 : Int) < (x.v.size : Int) := by omega
          have HF := Lib.hid (Bu.may_not hlt (fun h => by rw [← HX.out] at h; exact hv h.2))
          clear ho hv
          go_upto_region 5 with (go_at_call 27; refine (CU.out _).mono ?_; rintro e w3 ⟨rfl, k3⟩)
          have HB3 : Hid (Below w.heap.size w w3) := HB.out.trans (k3.mono HB.out.size)
          have x2 := (k3.cell (p := ⟨b, off + k * 2, none⟩) hblr.out).trans x0
          have x3 := (k3.cell (p := ⟨b, off + k * 2 + 1, none⟩) hblr.out).trans x1
          clear x0 x1 k3 HPREV
          go_wp2
          go_ret
          exact ⟨by rw [HF.out]; rfl, HB3.out⟩
    · have hki : ¬ (k : Int) < (l.length : Int) := by omega
      have hm := HU.out.all (by omega)
      have HM := Lib.hid hm
      clear hm
      go_wp2
      go_ret
      exact ⟨by rw [HM.out]; rfl, HB.out⟩
set_option maxRecDepth 100000 in
set_option maxHeartbeats 4000000 in
theorem r14Part_any {w : World} {A : Option Addr} {l : List Om.Pr} (c : Nat) (hit : Om.listAt w A l) (hn : l.length ≤ 1000000) (hs : ∀ x ∈ l, x.p.size ≤ 1000000) (i : Int) :
    Calls Tryd.prog 19 #[.slice A l.length c, .int .i64 i] w fun e w' => ∃ B q, e = .returned (.slice B (Bu.part l i).length q) ∧ Om.Row w' w.heap.size B q (Bu.part l i) ∧ Below w.heap.size w w' := by
  have HIT := Lib.hid hit
  have HS := Lib.hid hs
  clear hit hs
  go_enter Tryd.func19, Tryd.ntmps19
  go_wp2
  go_loopw [5, 6] (fun s5 s10 wr => ∃ (k : Nat) (B : Option Addr) (q : Nat) (m : List Om.Pr), s10 = .int .i64 k ∧ s5 = .slice B m.length q ∧ k ≤ l.length ∧ Bu.Pt w wr B q m ∧ Hid (m = Bu.part (l.take k) i)) (fun _ s10 _ => l.length - (intOf s10).toNat)
  case atStart => exact ⟨0, none, 0, [], rfl, rfl, Nat.zero_le _, Bu.Pt.nil w, rfl⟩
  case round =>
    obtain ⟨k, B, q, m, rfl, rfl, hk, hpt, hm⟩ := hrel
    have HPT := Lib.hid hpt
    clear hpt
    by_cases hlt : k < l.length
    · have hki : (k : Int) < (l.length : Int) := by omega
      have hsuc : IntKind.i64.wrap ((k : Int) + 1) = ((k + 1 : Nat) : Int) := by simp [IntKind.wrap, IntKind.bits, IntKind.signed]; omega
      obtain ⟨b, off, rfl, hbl, x0, x1⟩ := HIT.out.get HPT.out.bel k hlt
      have hxp := HS.out _ (List.getElem_mem hlt)
      have hst := Bu.part_take hlt i
      rw [← hm.out] at hst
      have HML : Hid (m.length ≤ 1000000) := by
        have := Bu.part_le l k i
        rw [← hm.out] at this
        show _ ≤ _
        omega
      obtain ⟨x, hx⟩ : ∃ x, x = l[k] := ⟨_, rfl⟩
      rw [← hx] at x0 x1 hxp hst
      have HST := Lib.hid hst
      have HLT := Lib.hid hlt
      have ISO := Bu.isOf_eq i x
      have OF := Lib.hid (fun wx => r14Of_any wx x.p (by omega))
      have hblr : Hid (b < wr.heap.size) := Nat.lt_of_lt_of_le hbl HPT.out.bel.size
      clear hx hst
      clear hlt
      cases hsx : Bu.isOf i x with
      | false =>
        rw [hsx] at ISO HST
        go_wp2_with (go_at_call 14; refine (OF.out _).mono ?_; rintro e w3 ⟨rfl, k3⟩)
        have S3 := Lib.hid (HPT.out.step k3)
        clear k3
        go_roundw
        case rel =>
          refine ⟨k + 1, B, q, m, rfl, rfl, HLT.out, S3.out, ?_⟩
          show _ = _
          rw [HST.out]; simp
        case measure => simp only [intOf]; have := HLT.out; omega
      | true =>
        rw [hsx] at ISO HST
        go_upto_region 6 with (go_at_call 14; refine (OF.out _).mono ?_; rintro e w3 ⟨rfl, k3⟩)
        have S3 := Lib.hid (HPT.out.step k3)
        have x2 := (k3.cell (p := ⟨b, off + k * 2, none⟩) hblr.out).trans x0
        have x3 := (k3.cell (p := ⟨b, off + k * 2 + 1, none⟩) hblr.out).trans x1
        have S6 := Lib.hid (S3.out.step ((Below.refl _ w3).alloc (Nat.le_refl _) (.cells #[.string x.p, .string x.v] 37)))
        have G6 := Lib.hid (heap_alloc_new w3 (.cells #[.string x.p, .string x.v] 37))
        clear x0 x1 k3
        go_wp2_with (at_builtin; refine Om.wp_push rfl _ _ rfl rfl S6.out.row x rfl G6.out (by have := HML.out; omega) S6.out.bel.size ?_; intro B7 q7 w7 hr7 hg7; have S7 := Lib.hid (S6.out.push hr7 hg7); clear hr7 hg7)
        go_roundw
        case rel =>
          refine ⟨k + 1, B7, q7, m ++ [x], rfl, by simp, HLT.out, S7.out, ?_⟩
          show _ = _
          rw [HST.out]; simp
        case measure => simp only [intOf]; have := HLT.out; omega
    · have hki : ¬ (k : Int) < (l.length : Int) := by omega
      have hke : k = l.length := by omega
      have hm' := hm.out
      rw [hke, List.take_length] at hm'
      have HMM := Lib.hid hm'
      clear hm hk hm'
      go_wp2
      go_ret
      exact ⟨B, q, by rw [← HMM.out]; rfl, by rw [← HMM.out]; exact HPT.out.row, HPT.out.bel⟩
end Go.Proofs.YthhmnbpabncdnaaDoor
