/-
  Texts that belong together, laid into one.
-/
import Derived.Test.YtiehcplepneajaaGreatDoorMRs
import Derived.Test.YtiehcplepneajaaGreatDoorBuMay
import Derived.Test.YtiehcplepneajaaGreatDoorBuPart
import Derived.Test.YtiehcplepneajaaGreatDoorPaRefCut
import Derived.Test.YtiehcplepneajaaGreatDoorR13Find
import Derived.Test.YtiehcplepneajaaGreatDoorBuPage
import Derived.Test.YtiehcplepneajaaGreatDoorTrB
import Derived.Test.YtiehcplepneajaaGreatDoorR12Ops
import Derived.Test.YtiehcplepneajaaGreatDoorBuMore
import Derived.Test.YtiehcplepneajaaGreatDoorTrA
/-
  The document's Of, May and Part of buckets.
-/
namespace Go.Proofs.YtiehcplepneajaaGreatDoor
open Go.RowKit
namespace Bu
theorem info32 {c : Array Value} (h : c.size = 32) : (Tryz.prog.info? 35).map (·.size) = some c.size := by rw [h]; kernel_rfl
end Bu
set_option maxRecDepth 100000 in
set_option maxHeartbeats 2000000 in
theorem r14Of_any (w : World) (p : ByteArray) (hp : p.size ≤ 35184372088832) :
    Calls Tryz.prog 102 #[.string p] w fun e w' => e = .returned (.int .i64 (Bu.bk p : Nat)) ∧ Below w.heap.size w w' := by
  have HS := Lib.hid (rssum_any p hp w)
  have hbk := Bu.bk_getD p
  have hl := Sm.sum_length p.data.toList
  obtain ⟨L, hL⟩ : ∃ L, L = Sm.sum p.data.toList := ⟨_, rfl⟩
  rw [← hL] at HS hbk hl
  obtain ⟨b, hb⟩ : ∃ b, b = L.getD 0 0 := ⟨_, rfl⟩
  rw [← hb] at hbk
  obtain ⟨i, hi⟩ : ∃ i, i = Bu.bk p := ⟨_, rfl⟩
  rw [← hi] at hbk ⊢
  have hsz32 : (Lib.byteCells L).toArray.size = 32 := by rw [Sm.bytes_size, hl]
  have hone := Sm.bytes_one L
  obtain ⟨cs, hcs⟩ : ∃ c, c = (Lib.byteCells L).toArray := ⟨_, rfl⟩
  have HC : Hid (∀ {w : World} {N : Nat}, w.heap[N]? = some (.cells cs 35 (0, 0)) → w.cell? ⟨N, 0, none⟩ = some (.int .u8 (b.toNat : Int))) := by
    intro w N h
    rw [hcs] at h
    rw [hb]
    exact Sm.row_cell h 0 (by omega)
  rw [← hcs] at hsz32 hone HS
  have hb256 := b.toNat_lt
  obtain ⟨n, hn⟩ : ∃ n, n = b.toNat := ⟨_, rfl⟩
  rw [← hn] at hbk HC hb256
  have hi16 : i < 16 := by omega
  have HI : Hid ((n : Int) / 16 = (i : Int)) := by show _ = _; omega
  have HW : wrap64 ((n : Int) / 16) = (i : Int) := by rw [HI.out]; simp only [wrap64]; omega
  have HT : (n : Int).tdiv 16 = (i : Int) := by rw [Int.tdiv_eq_ediv_of_nonneg (by omega)]; exact HI.out
  clear hL hb hcs hn hi hbk hl
  go_enter Tryz.func102, Tryz.ntmps102
  go_wp2_with fail
  refine HS.out.mono ?_
  rintro e w1 ⟨rfl, b1⟩
  have hst : ∀ (c : Array Value), c.size = 32 → (storeCells ⟨w1.heap.size, 0, none⟩ cs.toList).run Tryz.prog (w1.alloc (.cells c 35)) = .ok () (w1.alloc (.cells cs 35)) := fun c hc =>
    run_storeCells_new (P := Tryz.prog) w1 35 c cs (Bu.info32 hsz32) (by rw [hsz32]; exact hc) hone
  have b2 := b1.alloc b1.size (.cells cs 35)
  have c0 := HC.out (heap_alloc_new w1 (.cells cs 35))
  clear hone
  go_wp2_with fail
  go_ret
  exact ⟨rfl, b2⟩
set_option maxRecDepth 100000 in
set_option maxHeartbeats 4000000 in
theorem r14May_any {w : World} {A : Option Addr} {l : List Om.Pr} (c : Nat) (hit : Om.listAt w A l) (hn : l.length ≤ 1000000) (hs : ∀ x ∈ l, x.p.size ≤ 1000000) :
    Calls Tryz.prog 20 #[.slice A l.length c] w fun e w' => e = .returned (.bool (Bu.may l)) ∧ Below w.heap.size w w' := by
  have HIT := Lib.hid hit
  have HS := Lib.hid hs
  clear hit hs
  go_enter Tryz.func20, Tryz.ntmps20
  go_wp2
  go_loopw [3] (fun i wr => ∃ k : Nat, i = .int .i64 k ∧ k ≤ l.length ∧ Bu.Upto l k ∧ Below w.heap.size w wr) (fun i _ => l.length - (intOf i).toNat)
  case atStart => exact ⟨0, rfl, Nat.zero_le _, Bu.Upto.zero l, Below.refl _ _⟩
  case round =>
    obtain ⟨k, rfl, hk, hu, hb⟩ := hrel
    have HU := Lib.hid hu
    have HB := Lib.hid hb
    clear hu hb
    by_cases hlt : k < l.length
    · have hki : (k : Int) < (l.length : Int) := by omega
      have hsuc : IntKind.i64.wrap ((k : Int) + 1) = ((k + 1 : Nat) : Int) := by simp [IntKind.wrap, IntKind.bits, IntKind.signed]; omega
      obtain ⟨b, off, rfl, hbl, x0, x1⟩ := HIT.out.get HB.out k hlt
      have hxp := HS.out _ (List.getElem_mem hlt)
      have HPREV : Hid (∀ (h0 : 0 < k), wr.cell? ⟨b, off + (k - 1) * 2, none⟩ = some (.string (l[k - 1]).p)) := fun h0 => by
        obtain ⟨b', off', e', -, z0, -⟩ := HIT.out.get HB.out (k - 1) (by omega)
        simp only [Option.some.injEq, Addr.mk.injEq] at e'
        obtain ⟨rfl, rfl, -⟩ := e'
        exact z0
      have HPS : Hid (∀ (h0 : 0 < k), (l[k - 1]).p.size ≤ 1000000) := fun h0 => HS.out _ (List.getElem_mem (by omega))
      have hblr : Hid (b < wr.heap.size) := Nat.lt_of_lt_of_le hbl HB.out.size
      obtain ⟨x, hx⟩ : ∃ x, x = l[k] := ⟨_, rfl⟩
      rw [← hx] at x0 x1 hxp
      have HX := Lib.hid hx
      have CU := Lib.hid (fun wx => r11Cut_any wx x.p (by omega))
      unfold Pa.cutV at CU
      clear hx
      cases ho : Pa.ok x.p.data.toList
      · rw [ho] at CU
        have HF := Lib.hid (Bu.may_not hlt (fun h => by rw [← HX.out] at h; have h1 := h.1; rw [ho] at h1; cases h1))
        clear ho
        go_wp2_with (go_at_call 43; refine (CU.out _).mono ?_; rintro e w3 ⟨rfl, k3⟩)
        go_ret
        exact ⟨by rw [HF.out]; rfl, HB.out.trans (k3.mono HB.out.size)⟩
      · rw [ho] at CU
        by_cases hv : x.v.size ≤ 32
        · have hvi : ¬ (32 : Int) < (x.v.size : Int) := by omega
          have HF : Hid (Om.Fair l[k]) := by show Om.Fair _; rw [← HX.out]; exact ⟨ho, hv⟩
          clear ho hv
          go_upto_region 5 with (go_at_call 43; refine (CU.out _).mono ?_; rintro e w3 ⟨rfl, k3⟩)
          have HB3 : Hid (Below w.heap.size w w3) := HB.out.trans (k3.mono HB.out.size)
          have x2 := (k3.cell (p := ⟨b, off + k * 2, none⟩) hblr.out).trans x0
          have x3 := (k3.cell (p := ⟨b, off + k * 2 + 1, none⟩) hblr.out).trans x1
          have HP3 : Hid (∀ (h0 : 0 < k), w3.cell? ⟨b, off + (k - 1) * 2, none⟩ = some (.string (l[k - 1]).p)) := fun h0 => (k3.cell (p := ⟨b, off + (k - 1) * 2, none⟩) hblr.out).trans (HPREV.out h0)
          have HBL : Hid (b < w3.drew.heap.size) := Nat.lt_of_lt_of_le hblr.out k3.size
          clear x0 x1 k3 HPREV
          go_upto_region 7 with (fail)
          have HBD : Hid (Below w.heap.size w w3.drew) := HB3.out.drew
          by_cases h0 : k = 0
          · subst h0
            have HN := Lib.hid (HU.out.next hlt HF.out (fun h => absurd h (Nat.lt_irrefl _)))
            clear x2 x3
            refine wp_region_held_drew (S := fun _ => True) (by kernel_rfl) trivial (fun hHeld => ?_)
            refine wpAnyH_take (i := 0) (oi := ⟨some 34, _, _, _, _, _⟩) (v := .int .i64 0) rfl (by kernel_rfl) (by kernel_rfl) (by kernel_rfl) (fun _ _ _ h => h) (Or.inl ⟨by rfl, ?_⟩) (by assumption) ?_
            · intro w hSw; (try dsimp only at hSw); go_simp
            simp only [Act.put, List.setIfInBounds_toArray, List.set_cons_zero, List.set_cons_succ]
            refine wpAnyH_take (i := 1) (oi := ⟨some 35, _, _, _, _, _⟩) (v := .bool false) rfl (by kernel_rfl) (by kernel_rfl) (by kernel_rfl) (fun _ _ _ h => h) (Or.inl ⟨by rfl, ?_⟩) (by assumption) ?_
            · intro w hSw; (try dsimp only at hSw); go_simp
            simp only [Act.put, List.setIfInBounds_toArray, List.set_cons_zero, List.set_cons_succ]
            refine wpAnyH_take (i := 2) (oi := ⟨some 36, _, _, _, _, _⟩) (v := .bool false) rfl (by kernel_rfl) (by kernel_rfl) (by kernel_rfl) (fun _ _ _ h => h) (Or.inl ⟨by rfl, ?_⟩) (by assumption) ?_
            · intro w hSw; (try dsimp only at hSw); go_simp
            simp only [Act.put, List.setIfInBounds_toArray, List.set_cons_zero, List.set_cons_succ]
            refine wpAnyH_take (i := 3) (oi := ⟨some 37, _, _, _, _, _⟩) (v := undef) rfl (by kernel_rfl) (by kernel_rfl) (by kernel_rfl) (fun _ _ _ h => h) (Or.inr ⟨by rfl, rfl⟩) (by assumption) ?_
            simp only [Act.put, List.setIfInBounds_toArray, List.set_cons_zero, List.set_cons_succ]
            refine wpAnyH_take (i := 4) (oi := ⟨some 38, _, _, _, _, _⟩) (v := undef) rfl (by kernel_rfl) (by kernel_rfl) (by kernel_rfl) (fun _ _ _ h => h) (Or.inr ⟨by rfl, rfl⟩) (by assumption) ?_
            simp only [Act.put, List.setIfInBounds_toArray, List.set_cons_zero, List.set_cons_succ]
            refine wpAnyH_take (i := 5) (oi := ⟨some 39, _, _, _, _, _⟩) (v := undef) rfl (by kernel_rfl) (by kernel_rfl) (by kernel_rfl) (fun _ _ _ h => h) (Or.inr ⟨by rfl, rfl⟩) (by assumption) ?_
            simp only [Act.put, List.setIfInBounds_toArray, List.set_cons_zero, List.set_cons_succ]
            refine wpAnyH_take (i := 6) (oi := ⟨some 40, _, _, _, _, _⟩) (v := undef) rfl (by kernel_rfl) (by kernel_rfl) (by kernel_rfl) (fun _ _ _ h => h) (Or.inr ⟨by rfl, rfl⟩) (by assumption) ?_
            simp only [Act.put, List.setIfInBounds_toArray, List.set_cons_zero, List.set_cons_succ]
            refine wpAnyH_take (i := 7) (oi := ⟨some 41, _, _, _, _, _⟩) (v := undef) rfl (by kernel_rfl) (by kernel_rfl) (by kernel_rfl) (fun _ _ _ h => h) (Or.inr ⟨by rfl, rfl⟩) (by assumption) ?_
            simp only [Act.put, List.setIfInBounds_toArray, List.set_cons_zero, List.set_cons_succ]
            refine wpAnyH_take (i := 8) (oi := ⟨some 42, _, _, _, _, _⟩) (v := undef) rfl (by kernel_rfl) (by kernel_rfl) (by kernel_rfl) (fun _ _ _ h => h) (Or.inr ⟨by rfl, rfl⟩) (by assumption) ?_
            simp only [Act.put, List.setIfInBounds_toArray, List.set_cons_zero, List.set_cons_succ]
            refine wpAnyH_take (i := 9) (oi := ⟨some 43, _, _, _, _, _⟩) (v := undef) rfl (by kernel_rfl) (by kernel_rfl) (by kernel_rfl) (fun _ _ _ h => h) (Or.inr ⟨by rfl, rfl⟩) (by assumption) ?_
            simp only [Act.put, List.setIfInBounds_toArray, List.set_cons_zero, List.set_cons_succ]
            refine wpAnyH_take (i := 10) (oi := ⟨some 44, _, _, _, _, _⟩) (v := undef) rfl (by kernel_rfl) (by kernel_rfl) (by kernel_rfl) (fun _ _ _ h => h) (Or.inr ⟨by rfl, rfl⟩) (by assumption) ?_
            simp only [Act.put, List.setIfInBounds_toArray, List.set_cons_zero, List.set_cons_succ]
            refine wpAnyH_take (i := 11) (oi := ⟨some 45, _, _, _, _, _⟩) (v := undef) rfl (by kernel_rfl) (by kernel_rfl) (by kernel_rfl) (fun _ _ _ h => h) (Or.inr ⟨by rfl, rfl⟩) (by assumption) ?_
            simp only [Act.put, List.setIfInBounds_toArray, List.set_cons_zero, List.set_cons_succ]
            refine wpAnyH_take (i := 12) (oi := ⟨some 46, _, _, _, _, _⟩) (v := undef) rfl (by kernel_rfl) (by kernel_rfl) (by kernel_rfl) (fun _ _ _ h => h) (Or.inr ⟨by rfl, rfl⟩) (by assumption) ?_
            simp only [Act.put, List.setIfInBounds_toArray, List.set_cons_zero, List.set_cons_succ]
            refine wpAnyH_take (i := 13) (oi := ⟨some 47, _, _, _, _, _⟩) (v := undef) rfl (by kernel_rfl) (by kernel_rfl) (by kernel_rfl) (fun _ _ _ h => h) (Or.inr ⟨by rfl, rfl⟩) (by assumption) ?_
            simp only [Act.put, List.setIfInBounds_toArray, List.set_cons_zero, List.set_cons_succ]
            refine wpAnyH_take (i := 14) (oi := ⟨some 48, _, _, _, _, _⟩) (v := undef) rfl (by kernel_rfl) (by kernel_rfl) (by kernel_rfl) (fun _ _ _ h => h) (Or.inr ⟨by rfl, rfl⟩) (by assumption) ?_
            simp only [Act.put, List.setIfInBounds_toArray, List.set_cons_zero, List.set_cons_succ]
            refine wpAnyH_take (i := 15) (oi := ⟨some 49, _, _, _, _, _⟩) (v := undef) rfl (by kernel_rfl) (by kernel_rfl) (by kernel_rfl) (fun _ _ _ h => h) (Or.inr ⟨by rfl, rfl⟩) (by assumption) ?_
            simp only [Act.put, List.setIfInBounds_toArray, List.set_cons_zero, List.set_cons_succ]
            refine wpAnyH_take (i := 16) (oi := ⟨some 50, _, _, _, _, _⟩) (v := .bool false) rfl (by kernel_rfl) (by kernel_rfl) (by kernel_rfl) (fun _ _ _ h => h) (Or.inl ⟨by rfl, ?_⟩) (by assumption) ?_
            · intro w hSw; (try dsimp only at hSw); go_simp
            simp only [Act.put, List.setIfInBounds_toArray, List.set_cons_zero, List.set_cons_succ]
            refine wpAnyH_done (by kernel_rfl) ?_ _
            go_wp2_with fail
            go_roundw
            case rel => exact ⟨1, rfl, hlt, HN.out, HBD.out⟩
            case measure => simp [intOf]; omega
          · have h0' : 0 < k := by omega
            have hk0 : (0 : Int) < (k : Int) := by omega
            have z1 : w3.drew.cell? ⟨b, off + (k - 1) * 2, none⟩ = some (.string (l[k - 1]).p) := HP3.out h0'
            have z2 : w3.drew.cell? ⟨b, off + k * 2, none⟩ = some (.string x.p) := x2
            have hys := HPS.out h0'
            have HSUB : Hid (IntKind.i64.wrap ((k : Int) - 1) = ((k - 1 : Nat) : Int)) := by show _ = _; simp [IntKind.wrap, IntKind.bits, IntKind.signed]; omega
            obtain ⟨y, hy⟩ : ∃ y, y = l[k - 1] := ⟨_, rfl⟩
            rw [← hy] at z1 hys
            have LE := Lib.hid (fun wx => r11Less_any wx y.p x.p hys)
            have hkl1 : (((k - 1 : Nat) : Int)) < (l.length : Int) := by omega
            have hk10 : (0 : Int) ≤ ((k - 1 : Nat) : Int) := by omega
            cases hl : Om.lt y.p x.p
            · rw [hl] at LE
              have HF2 := Lib.hid (Bu.may_fall hlt h0' (by rw [← HX.out, ← hy]; exact hl))
              clear hl hy
              refine wp_region_held_drew (S := fun w' => w'.cell? ⟨b, off + (k - 1) * 2, none⟩ = some (.string y.p) ∧ w'.cell? ⟨b, off + k * 2, none⟩ = some (.string x.p)) (by kernel_rfl) ⟨z1, z2⟩ (fun hHeld => ?_)
              refine wpAnyH_take (i := 0) (oi := ⟨some 34, _, _, _, _, _⟩) (v := .int .i64 (k : Int)) rfl (by kernel_rfl) (by kernel_rfl) (by kernel_rfl) (fun _ _ _ h => h) (Or.inl ⟨by rfl, ?_⟩) (by assumption) ?_
              · intro w hSw; (try dsimp only at hSw); go_simp
              simp only [Act.put, List.setIfInBounds_toArray, List.set_cons_zero, List.set_cons_succ]
              refine wpAnyH_take (i := 1) (oi := ⟨some 35, _, _, _, _, _⟩) (v := .bool true) rfl (by kernel_rfl) (by kernel_rfl) (by kernel_rfl) (fun _ _ _ h => h) (Or.inl ⟨by rfl, ?_⟩) (by assumption) ?_
              · intro w hSw; (try dsimp only at hSw); go_simp
              simp only [Act.put, List.setIfInBounds_toArray, List.set_cons_zero, List.set_cons_succ]
              refine wpAnyH_take (i := 2) (oi := ⟨some 36, _, _, _, _, _⟩) (v := .bool true) rfl (by kernel_rfl) (by kernel_rfl) (by kernel_rfl) (fun _ _ _ h => h) (Or.inl ⟨by rfl, ?_⟩) (by assumption) ?_
              · intro w hSw; (try dsimp only at hSw); go_simp
              simp only [Act.put, List.setIfInBounds_toArray, List.set_cons_zero, List.set_cons_succ]
              refine wpAnyH_take (i := 3) (oi := ⟨some 37, _, _, _, _, _⟩) (v := .slice (some ⟨b, off, none⟩) l.length c) rfl (by kernel_rfl) (by kernel_rfl) (by kernel_rfl) (fun _ _ _ h => h) (Or.inl ⟨by rfl, ?_⟩) (by assumption) ?_
              · intro w hSw; (try dsimp only at hSw); go_simp
              simp only [Act.put, List.setIfInBounds_toArray, List.set_cons_zero, List.set_cons_succ]
              refine wpAnyH_take (i := 4) (oi := ⟨some 38, _, _, _, _, _⟩) (v := .int .i64 (k : Int)) rfl (by kernel_rfl) (by kernel_rfl) (by kernel_rfl) (fun _ _ _ h => h) (Or.inl ⟨by rfl, ?_⟩) (by assumption) ?_
              · intro w hSw; (try dsimp only at hSw); go_simp
              simp only [Act.put, List.setIfInBounds_toArray, List.set_cons_zero, List.set_cons_succ]
              refine wpAnyH_take (i := 5) (oi := ⟨some 39, _, _, _, _, _⟩) (v := .int .i64 ((k - 1 : Nat) : Int)) rfl (by kernel_rfl) (by kernel_rfl) (by kernel_rfl) (fun _ _ _ h => h) (Or.inl ⟨by rfl, ?_⟩) (by assumption) ?_
              · intro w hSw; (try dsimp only at hSw); have q := HSUB.out; go_simp
              simp only [Act.put, List.setIfInBounds_toArray, List.set_cons_zero, List.set_cons_succ]
              refine wpAnyH_take (i := 6) (oi := ⟨some 40, _, _, _, _, _⟩) (v := .pointer (some ⟨b, off + (k - 1) * 2, none⟩)) rfl (by kernel_rfl) (by kernel_rfl) (by kernel_rfl) (fun _ _ _ h => h) (Or.inl ⟨by rfl, ?_⟩) (by assumption) ?_
              · intro w hSw; (try dsimp only at hSw); go_simp
              simp only [Act.put, List.setIfInBounds_toArray, List.set_cons_zero, List.set_cons_succ]
              refine wpAnyH_take (i := 7) (oi := ⟨some 41, _, _, _, _, _⟩) (v := .pointer (some ⟨b, off + (k - 1) * 2, none⟩)) rfl (by kernel_rfl) (by kernel_rfl) (by kernel_rfl) (fun _ _ _ h => h) (Or.inl ⟨by rfl, ?_⟩) (by assumption) ?_
              · intro w hSw; (try dsimp only at hSw); go_simp
              simp only [Act.put, List.setIfInBounds_toArray, List.set_cons_zero, List.set_cons_succ]
              refine wpAnyH_take (i := 8) (oi := ⟨some 42, _, _, _, _, _⟩) (v := .string y.p) rfl (by kernel_rfl) (by kernel_rfl) (by kernel_rfl) (fun _ _ _ h => h) (Or.inl ⟨by rfl, ?_⟩) (by assumption) ?_
              · intro w hSw; (try dsimp only at hSw); go_simp
              simp only [Act.put, List.setIfInBounds_toArray, List.set_cons_zero, List.set_cons_succ]
              refine wpAnyH_take (i := 9) (oi := ⟨some 43, _, _, _, _, _⟩) (v := .slice (some ⟨b, off, none⟩) l.length c) rfl (by kernel_rfl) (by kernel_rfl) (by kernel_rfl) (fun _ _ _ h => h) (Or.inl ⟨by rfl, ?_⟩) (by assumption) ?_
              · intro w hSw; (try dsimp only at hSw); go_simp
              simp only [Act.put, List.setIfInBounds_toArray, List.set_cons_zero, List.set_cons_succ]
              refine wpAnyH_take (i := 10) (oi := ⟨some 44, _, _, _, _, _⟩) (v := .int .i64 (k : Int)) rfl (by kernel_rfl) (by kernel_rfl) (by kernel_rfl) (fun _ _ _ h => h) (Or.inl ⟨by rfl, ?_⟩) (by assumption) ?_
              · intro w hSw; (try dsimp only at hSw); go_simp
              simp only [Act.put, List.setIfInBounds_toArray, List.set_cons_zero, List.set_cons_succ]
              refine wpAnyH_take (i := 11) (oi := ⟨some 45, _, _, _, _, _⟩) (v := .pointer (some ⟨b, off + k * 2, none⟩)) rfl (by kernel_rfl) (by kernel_rfl) (by kernel_rfl) (fun _ _ _ h => h) (Or.inl ⟨by rfl, ?_⟩) (by assumption) ?_
              · intro w hSw; (try dsimp only at hSw); go_simp
              simp only [Act.put, List.setIfInBounds_toArray, List.set_cons_zero, List.set_cons_succ]
              refine wpAnyH_take (i := 12) (oi := ⟨some 46, _, _, _, _, _⟩) (v := .pointer (some ⟨b, off + k * 2, none⟩)) rfl (by kernel_rfl) (by kernel_rfl) (by kernel_rfl) (fun _ _ _ h => h) (Or.inl ⟨by rfl, ?_⟩) (by assumption) ?_
              · intro w hSw; (try dsimp only at hSw); go_simp
              simp only [Act.put, List.setIfInBounds_toArray, List.set_cons_zero, List.set_cons_succ]
              refine wpAnyH_take (i := 13) (oi := ⟨some 47, _, _, _, _, _⟩) (v := .string x.p) rfl (by kernel_rfl) (by kernel_rfl) (by kernel_rfl) (fun _ _ _ h => h) (Or.inl ⟨by rfl, ?_⟩) (by assumption) ?_
              · intro w hSw; (try dsimp only at hSw); go_simp
              simp only [Act.put, List.setIfInBounds_toArray, List.set_cons_zero, List.set_cons_succ]
              refine wpAnyH_ready (rs := [14]) (by kernel_rfl) (by simp) ?_
              refine (AllReadyH.cons (o := ⟨some 48, _, _, _, _, _⟩) rfl (fun K hK => ?_) AllReadyH.nil)
              go_simp
              refine (LE.out _).mono ?_
              rintro e w4 ⟨rfl, k4⟩
              refine hK.out _ _ ⟨(k4.cell (p := ⟨b, off + (k - 1) * 2, none⟩) HBL.out).trans z1, (k4.cell (p := ⟨b, off + k * 2, none⟩) HBL.out).trans z2⟩ (fun hHeld => ?_)
              clear hK K
              refine wpAnyH_take (i := 15) (oi := ⟨some 49, _, _, _, _, _⟩) (v := .bool true) rfl (by kernel_rfl) (by kernel_rfl) (by kernel_rfl) (fun _ _ _ h => h) (Or.inl ⟨by rfl, ?_⟩) (by assumption) ?_
              · intro w hSw; (try dsimp only at hSw); go_simp
              simp only [Act.put, List.setIfInBounds_toArray, List.set_cons_zero, List.set_cons_succ]
              refine wpAnyH_take (i := 16) (oi := ⟨some 50, _, _, _, _, _⟩) (v := .bool true) rfl (by kernel_rfl) (by kernel_rfl) (by kernel_rfl) (fun _ _ _ h => h) (Or.inl ⟨by rfl, ?_⟩) (by assumption) ?_
              · intro w hSw; (try dsimp only at hSw); go_simp
              simp only [Act.put, List.setIfInBounds_toArray, List.set_cons_zero, List.set_cons_succ]
              refine wpAnyH_done (by kernel_rfl) ?_ _
              go_wp2_with fail
              go_ret
              exact ⟨by rw [HF2.out]; rfl, HBD.out.trans (k4.mono HBD.out.size)⟩
            · rw [hl] at LE
              have HN := Lib.hid (HU.out.next hlt HF.out (fun _ => by rw [← HX.out, ← hy]; exact hl))
              clear hl hy
              refine wp_region_held_drew (S := fun w' => w'.cell? ⟨b, off + (k - 1) * 2, none⟩ = some (.string y.p) ∧ w'.cell? ⟨b, off + k * 2, none⟩ = some (.string x.p)) (by kernel_rfl) ⟨z1, z2⟩ (fun hHeld => ?_)
              refine wpAnyH_take (i := 0) (oi := ⟨some 34, _, _, _, _, _⟩) (v := .int .i64 (k : Int)) rfl (by kernel_rfl) (by kernel_rfl) (by kernel_rfl) (fun _ _ _ h => h) (Or.inl ⟨by rfl, ?_⟩) (by assumption) ?_
              · intro w hSw; (try dsimp only at hSw); go_simp
              simp only [Act.put, List.setIfInBounds_toArray, List.set_cons_zero, List.set_cons_succ]
              refine wpAnyH_take (i := 1) (oi := ⟨some 35, _, _, _, _, _⟩) (v := .bool true) rfl (by kernel_rfl) (by kernel_rfl) (by kernel_rfl) (fun _ _ _ h => h) (Or.inl ⟨by rfl, ?_⟩) (by assumption) ?_
              · intro w hSw; (try dsimp only at hSw); go_simp
              simp only [Act.put, List.setIfInBounds_toArray, List.set_cons_zero, List.set_cons_succ]
              refine wpAnyH_take (i := 2) (oi := ⟨some 36, _, _, _, _, _⟩) (v := .bool true) rfl (by kernel_rfl) (by kernel_rfl) (by kernel_rfl) (fun _ _ _ h => h) (Or.inl ⟨by rfl, ?_⟩) (by assumption) ?_
              · intro w hSw; (try dsimp only at hSw); go_simp
              simp only [Act.put, List.setIfInBounds_toArray, List.set_cons_zero, List.set_cons_succ]
              refine wpAnyH_take (i := 3) (oi := ⟨some 37, _, _, _, _, _⟩) (v := .slice (some ⟨b, off, none⟩) l.length c) rfl (by kernel_rfl) (by kernel_rfl) (by kernel_rfl) (fun _ _ _ h => h) (Or.inl ⟨by rfl, ?_⟩) (by assumption) ?_
              · intro w hSw; (try dsimp only at hSw); go_simp
              simp only [Act.put, List.setIfInBounds_toArray, List.set_cons_zero, List.set_cons_succ]
              refine wpAnyH_take (i := 4) (oi := ⟨some 38, _, _, _, _, _⟩) (v := .int .i64 (k : Int)) rfl (by kernel_rfl) (by kernel_rfl) (by kernel_rfl) (fun _ _ _ h => h) (Or.inl ⟨by rfl, ?_⟩) (by assumption) ?_
              · intro w hSw; (try dsimp only at hSw); go_simp
              simp only [Act.put, List.setIfInBounds_toArray, List.set_cons_zero, List.set_cons_succ]
              refine wpAnyH_take (i := 5) (oi := ⟨some 39, _, _, _, _, _⟩) (v := .int .i64 ((k - 1 : Nat) : Int)) rfl (by kernel_rfl) (by kernel_rfl) (by kernel_rfl) (fun _ _ _ h => h) (Or.inl ⟨by rfl, ?_⟩) (by assumption) ?_
              · intro w hSw; (try dsimp only at hSw); have q := HSUB.out; go_simp
              simp only [Act.put, List.setIfInBounds_toArray, List.set_cons_zero, List.set_cons_succ]
              refine wpAnyH_take (i := 6) (oi := ⟨some 40, _, _, _, _, _⟩) (v := .pointer (some ⟨b, off + (k - 1) * 2, none⟩)) rfl (by kernel_rfl) (by kernel_rfl) (by kernel_rfl) (fun _ _ _ h => h) (Or.inl ⟨by rfl, ?_⟩) (by assumption) ?_
              · intro w hSw; (try dsimp only at hSw); go_simp
              simp only [Act.put, List.setIfInBounds_toArray, List.set_cons_zero, List.set_cons_succ]
              refine wpAnyH_take (i := 7) (oi := ⟨some 41, _, _, _, _, _⟩) (v := .pointer (some ⟨b, off + (k - 1) * 2, none⟩)) rfl (by kernel_rfl) (by kernel_rfl) (by kernel_rfl) (fun _ _ _ h => h) (Or.inl ⟨by rfl, ?_⟩) (by assumption) ?_
              · intro w hSw; (try dsimp only at hSw); go_simp
              simp only [Act.put, List.setIfInBounds_toArray, List.set_cons_zero, List.set_cons_succ]
              refine wpAnyH_take (i := 8) (oi := ⟨some 42, _, _, _, _, _⟩) (v := .string y.p) rfl (by kernel_rfl) (by kernel_rfl) (by kernel_rfl) (fun _ _ _ h => h) (Or.inl ⟨by rfl, ?_⟩) (by assumption) ?_
              · intro w hSw; (try dsimp only at hSw); go_simp
              simp only [Act.put, List.setIfInBounds_toArray, List.set_cons_zero, List.set_cons_succ]
              refine wpAnyH_take (i := 9) (oi := ⟨some 43, _, _, _, _, _⟩) (v := .slice (some ⟨b, off, none⟩) l.length c) rfl (by kernel_rfl) (by kernel_rfl) (by kernel_rfl) (fun _ _ _ h => h) (Or.inl ⟨by rfl, ?_⟩) (by assumption) ?_
              · intro w hSw; (try dsimp only at hSw); go_simp
              simp only [Act.put, List.setIfInBounds_toArray, List.set_cons_zero, List.set_cons_succ]
              refine wpAnyH_take (i := 10) (oi := ⟨some 44, _, _, _, _, _⟩) (v := .int .i64 (k : Int)) rfl (by kernel_rfl) (by kernel_rfl) (by kernel_rfl) (fun _ _ _ h => h) (Or.inl ⟨by rfl, ?_⟩) (by assumption) ?_
              · intro w hSw; (try dsimp only at hSw); go_simp
              simp only [Act.put, List.setIfInBounds_toArray, List.set_cons_zero, List.set_cons_succ]
              refine wpAnyH_take (i := 11) (oi := ⟨some 45, _, _, _, _, _⟩) (v := .pointer (some ⟨b, off + k * 2, none⟩)) rfl (by kernel_rfl) (by kernel_rfl) (by kernel_rfl) (fun _ _ _ h => h) (Or.inl ⟨by rfl, ?_⟩) (by assumption) ?_
              · intro w hSw; (try dsimp only at hSw); go_simp
              simp only [Act.put, List.setIfInBounds_toArray, List.set_cons_zero, List.set_cons_succ]
              refine wpAnyH_take (i := 12) (oi := ⟨some 46, _, _, _, _, _⟩) (v := .pointer (some ⟨b, off + k * 2, none⟩)) rfl (by kernel_rfl) (by kernel_rfl) (by kernel_rfl) (fun _ _ _ h => h) (Or.inl ⟨by rfl, ?_⟩) (by assumption) ?_
              · intro w hSw; (try dsimp only at hSw); go_simp
              simp only [Act.put, List.setIfInBounds_toArray, List.set_cons_zero, List.set_cons_succ]
              refine wpAnyH_take (i := 13) (oi := ⟨some 47, _, _, _, _, _⟩) (v := .string x.p) rfl (by kernel_rfl) (by kernel_rfl) (by kernel_rfl) (fun _ _ _ h => h) (Or.inl ⟨by rfl, ?_⟩) (by assumption) ?_
              · intro w hSw; (try dsimp only at hSw); go_simp
              simp only [Act.put, List.setIfInBounds_toArray, List.set_cons_zero, List.set_cons_succ]
              refine wpAnyH_ready (rs := [14]) (by kernel_rfl) (by simp) ?_
              refine (AllReadyH.cons (o := ⟨some 48, _, _, _, _, _⟩) rfl (fun K hK => ?_) AllReadyH.nil)
              go_simp
              refine (LE.out _).mono ?_
              rintro e w4 ⟨rfl, k4⟩
              refine hK.out _ _ ⟨(k4.cell (p := ⟨b, off + (k - 1) * 2, none⟩) HBL.out).trans z1, (k4.cell (p := ⟨b, off + k * 2, none⟩) HBL.out).trans z2⟩ (fun hHeld => ?_)
              clear hK K
              refine wpAnyH_take (i := 15) (oi := ⟨some 49, _, _, _, _, _⟩) (v := .bool false) rfl (by kernel_rfl) (by kernel_rfl) (by kernel_rfl) (fun _ _ _ h => h) (Or.inl ⟨by rfl, ?_⟩) (by assumption) ?_
              · intro w hSw; (try dsimp only at hSw); go_simp
              simp only [Act.put, List.setIfInBounds_toArray, List.set_cons_zero, List.set_cons_succ]
              refine wpAnyH_take (i := 16) (oi := ⟨some 50, _, _, _, _, _⟩) (v := .bool false) rfl (by kernel_rfl) (by kernel_rfl) (by kernel_rfl) (fun _ _ _ h => h) (Or.inl ⟨by rfl, ?_⟩) (by assumption) ?_
              · intro w hSw; (try dsimp only at hSw); go_simp
              simp only [Act.put, List.setIfInBounds_toArray, List.set_cons_zero, List.set_cons_succ]
              refine wpAnyH_done (by kernel_rfl) ?_ _
              go_wp2_with fail
              go_roundw
              case rel => exact ⟨k + 1, rfl, hlt, HN.out, HBD.out.trans (k4.mono HBD.out.size)⟩
              case measure => simp [intOf]; omega
        · have hvi : (32 : Int) < (x.v.size : Int) := by omega
          have HF := Lib.hid (Bu.may_not hlt (fun h => by rw [← HX.out] at h; exact hv h.2))
          clear ho hv
          go_upto_region 5 with (go_at_call 43; refine (CU.out _).mono ?_; rintro e w3 ⟨rfl, k3⟩)
          have HB3 : Hid (Below w.heap.size w w3) := HB.out.trans (k3.mono HB.out.size)
          have x2 := (k3.cell (p := ⟨b, off + k * 2, none⟩) hblr.out).trans x0
          have x3 := (k3.cell (p := ⟨b, off + k * 2 + 1, none⟩) hblr.out).trans x1
          clear x0 x1 k3 HPREV
          go_wp2
          go_ret
          exact ⟨by rw [HF.out]; rfl, HB3.out⟩
    · have hki : ¬ (k : Int) < (l.length : Int) := by omega
      have hm := HU.out.all (by omega)
      have HM := Lib.hid hm
      clear hm
      go_wp2
      go_ret
      exact ⟨by rw [HM.out]; rfl, HB.out⟩
set_option maxRecDepth 100000 in
set_option maxHeartbeats 4000000 in
theorem r14Part_any {w : World} {A : Option Addr} {l : List Om.Pr} (c : Nat) (hit : Om.listAt w A l) (hn : l.length ≤ 1000000) (hs : ∀ x ∈ l, x.p.size ≤ 1000000) (i : Int) :
    Calls Tryz.prog 69 #[.slice A l.length c, .int .i64 i] w fun e w' => ∃ B q, e = .returned (.slice B (Bu.part l i).length q) ∧ Om.Row w' w.heap.size B q (Bu.part l i) ∧ Below w.heap.size w w' := by
  have HIT := Lib.hid hit
  have HS := Lib.hid hs
  clear hit hs
  go_enter Tryz.func69, Tryz.ntmps69
  go_wp2
  go_loopw [5, 6] (fun s5 s10 wr => ∃ (k : Nat) (B : Option Addr) (q : Nat) (m : List Om.Pr), s10 = .int .i64 k ∧ s5 = .slice B m.length q ∧ k ≤ l.length ∧ Bu.Pt w wr B q m ∧ Hid (m = Bu.part (l.take k) i)) (fun _ s10 _ => l.length - (intOf s10).toNat)
  case atStart => exact ⟨0, none, 0, [], rfl, rfl, Nat.zero_le _, Bu.Pt.nil w, rfl⟩
  case round =>
    obtain ⟨k, B, q, m, rfl, rfl, hk, hpt, hm⟩ := hrel
    have HPT := Lib.hid hpt
    clear hpt
    by_cases hlt : k < l.length
    · have hki : (k : Int) < (l.length : Int) := by omega
      have hsuc : IntKind.i64.wrap ((k : Int) + 1) = ((k + 1 : Nat) : Int) := by simp [IntKind.wrap, IntKind.bits, IntKind.signed]; omega
      obtain ⟨b, off, rfl, hbl, x0, x1⟩ := HIT.out.get HPT.out.bel k hlt
      have hxp := HS.out _ (List.getElem_mem hlt)
      have hst := Bu.part_take hlt i
      rw [← hm.out] at hst
      have HML : Hid (m.length ≤ 1000000) := by
        have := Bu.part_le l k i
        rw [← hm.out] at this
        show _ ≤ _
        omega
      obtain ⟨x, hx⟩ : ∃ x, x = l[k] := ⟨_, rfl⟩
      rw [← hx] at x0 x1 hxp hst
      have HST := Lib.hid hst
      have HLT := Lib.hid hlt
      have ISO := Bu.isOf_eq i x
      have OF := Lib.hid (fun wx => r14Of_any wx x.p (by omega))
      have hblr : Hid (b < wr.heap.size) := Nat.lt_of_lt_of_le hbl HPT.out.bel.size
      clear hx hst
      clear hlt
      cases hsx : Bu.isOf i x with
      | false =>
        rw [hsx] at ISO HST
        go_wp2_with (go_at_call 102; refine (OF.out _).mono ?_; rintro e w3 ⟨rfl, k3⟩)
        have S3 := Lib.hid (HPT.out.step k3)
        clear k3
        go_roundw
        case rel =>
          refine ⟨k + 1, B, q, m, rfl, rfl, HLT.out, S3.out, ?_⟩
          show _ = _
          rw [HST.out]; simp
        case measure => simp only [intOf]; have := HLT.out; omega
      | true =>
        rw [hsx] at ISO HST
        go_upto_region 6 with (go_at_call 102; refine (OF.out _).mono ?_; rintro e w3 ⟨rfl, k3⟩)
        have S3 := Lib.hid (HPT.out.step k3)
        have x2 := (k3.cell (p := ⟨b, off + k * 2, none⟩) hblr.out).trans x0
        have x3 := (k3.cell (p := ⟨b, off + k * 2 + 1, none⟩) hblr.out).trans x1
        have S6 := Lib.hid (S3.out.step ((Below.refl _ w3).alloc (Nat.le_refl _) (.cells #[.string x.p, .string x.v] 79)))
        have G6 := Lib.hid (heap_alloc_new w3 (.cells #[.string x.p, .string x.v] 79))
        clear x0 x1 k3
        go_wp2_with (at_builtin; refine Om.wp_push rfl _ _ rfl rfl S6.out.row x rfl G6.out (by have := HML.out; omega) S6.out.bel.size ?_; intro B7 q7 w7 hr7 hg7; have S7 := Lib.hid (S6.out.push hr7 hg7); clear hr7 hg7)
        go_roundw
        case rel =>
          refine ⟨k + 1, B7, q7, m ++ [x], rfl, by simp, HLT.out, S7.out, ?_⟩
          show _ = _
          rw [HST.out]; simp
        case measure => simp only [intOf]; have := HLT.out; omega
    · have hki : ¬ (k : Int) < (l.length : Int) := by omega
      have hke : k = l.length := by omega
      have hm' := hm.out
      rw [hke, List.take_length] at hm'
      have HMM := Lib.hid hm'
      clear hm hk hm'
      go_wp2
      go_ret
      exact ⟨B, q, by rw [← HMM.out]; rfl, by rw [← HMM.out]; exact HPT.out.row, HPT.out.bel⟩
end Go.Proofs.YtiehcplepneajaaGreatDoor

/-
  The document's Page of buckets.
-/
namespace Go.Proofs.YtiehcplepneajaaGreatDoor
open Go.RowKit Pk
namespace Bu
theorem cat3 (P a b : List UInt8) : (⟨P.toArray⟩ : ByteArray) ++ ⟨a.toArray⟩ ++ ⟨b.toArray⟩ = ⟨(P ++ (a ++ b)).toArray⟩ := by
  rw [R12.ba_cat, R12.ba_cat, List.append_assoc]
theorem ba_len (P : List UInt8) : (⟨P.toArray⟩ : ByteArray).size = P.length := by rw [← Ba.ba_size, Ba.ba_mk]
end Bu
set_option maxRecDepth 100000 in
set_option maxHeartbeats 4000000 in
theorem r14Page_any {w : World} (i : Int) {A : Option Addr} {l : List Om.Pr} (c : Nat) (hit : Om.listAt w A l) (hn : l.length ≤ 1000) (hs : ∀ x ∈ l, x.p.size ≤ 1000000) :
    Calls Tryz.prog 92 #[.int .i64 i, .slice A l.length c] w fun e w' => e = .returned (.tuple #[.string (Bu.page i l).1, .int .i64 ((Bu.page i l).2 : Nat)]) ∧ Below w.heap.size w w' := by
  have MA := Lib.hid (r14May_any c hit (by omega) (fun x hx => hs x hx))
  have HIT := Lib.hid hit
  clear hit
  by_cases h1 : i < 0
  · rw [Bu.page_bad (Bu.pageE_out (decide_eq_false (by omega))) (by decide)]
    go_enter Tryz.func92, Tryz.ntmps92
    go_wp2
    go_ret2
    exact ⟨rfl, Below.refl _ _⟩
  by_cases h15 : 15 < i
  · rw [Bu.page_bad (Bu.pageE_out (decide_eq_false (by omega))) (by decide)]
    go_enter Tryz.func92, Tryz.ntmps92
    go_wp2
    go_ret2
    exact ⟨rfl, Below.refl _ _⟩
  cases h2 : Bu.may l
  · rw [h2] at MA
    rw [Bu.page_bad (Bu.pageE_may h2) (by decide)]
    clear h2
    go_enter Tryz.func92, Tryz.ntmps92
    go_wp2_with (go_at_call 20; refine MA.out.mono ?_; rintro e w1 ⟨rfl, k1⟩)
    go_ret2
    exact ⟨rfl, k1⟩
  rw [h2] at MA
  have HRG : Hid (0 ≤ i ∧ i ≤ 15) := ⟨by omega, by omega⟩
  have H2 := Lib.hid h2
  have HFA := Lib.hid (Bu.may_iff.1 h2).1
  have wl : IntKind.u64.wrap (l.length : Int) = (l.length : Int) := by rw [IntKind.wrap_u64]; omega
  have HBB : Hid (Bu.bytes l = enc l.length ++ Bu.prsB l) := rfl
  have HEL := Lib.hid (R12.enc_len (n := l.length) (by omega))
  have NU := Lib.hid (fun wx => r12Num_any l.length (by omega) wx)
  obtain ⟨HD, hHD⟩ : ∃ x, x = enc l.length := ⟨_, rfl⟩
  rw [← hHD] at HBB HEL NU
  have HS := Lib.hid hs
  clear h2 hHD hs
  go_enter Tryz.func92, Tryz.ntmps92
  go_upto_region 4 with first
    | (go_at_call 20; refine MA.out.mono ?_; rintro e w1 ⟨rfl, k1⟩)
    | (go_at_call 124; refine (NU.out _).mono ?_; rintro e w2 ⟨rfl, k2⟩)
  have B2 : Hid (Below w.heap.size w w2) := k1.trans (k2.mono k1.size)
  clear k1 k2 MA NU h1 h15
  go_wp2
  go_loopw [6, 7] (fun s6 s7 wr => ∃ (k : Nat) (P : List UInt8), s7 = .int .i64 k ∧ s6 = .string ⟨P.toArray⟩ ∧ k ≤ l.length ∧ Hid (P = HD ++ Bu.prsB (l.take k)) ∧ Hid (∀ j (hj : j < l.length), j < k → Bu.isOf i l[j] = true) ∧ Below w.heap.size w wr) (fun _ s7 _ => l.length - (intOf s7).toNat)
  case atStart => exact ⟨0, HD, rfl, rfl, Nat.zero_le _, by show _ = _; simp [Bu.prsB], fun _ _ h => absurd h (Nat.not_lt_zero _), B2.out⟩
  case round =>
    clear B2
    obtain ⟨k, P, rfl, rfl, hk, hP, hall, hb⟩ := hrel
    have HB := Lib.hid hb
    clear hb
    by_cases hlt : k < l.length
    · have hki : (k : Int) < (l.length : Int) := by omega
      have hsuc : IntKind.i64.wrap ((k : Int) + 1) = ((k + 1 : Nat) : Int) := by simp [IntKind.wrap, IntKind.bits, IntKind.signed]; omega
      obtain ⟨b, off, rfl, hbl, x0, x1⟩ := HIT.out.get HB.out k hlt
      have hblr : Hid (b < wr.heap.size) := Nat.lt_of_lt_of_le hbl HB.out.size
      have hxp := HS.out _ (List.getElem_mem hlt)
      have hfx := HFA.out _ (List.getElem_mem hlt)
      have htk := Bu.prsB_take hlt
      have hpl := Bu.prsB_part HFA.out k
      have hPl : P.length ≤ 100000 := by
        have h1 := HEL.out
        rw [hP.out, List.length_append]
        omega
      obtain ⟨x, hx⟩ : ∃ x, x = l[k] := ⟨_, rfl⟩
      rw [← hx] at x0 x1 hxp hfx htk
      have HX := Lib.hid hx
      have ISO := Bu.neq_isOf i x
      have OF := Lib.hid (fun wx => r14Of_any wx x.p (by omega))
      clear hx
      cases hsx : Bu.isOf i x
      · rw [hsx] at ISO
        have hpe : Hid (Bu.page i l = (⟨#[]⟩, 1)) := Bu.page_bad (Bu.pageE_all (Bu.all_not hlt (by rw [← HX.out]; exact hsx))) (by decide)
        clear hsx htk hpl
        go_wp2_with (go_at_call 102; refine (OF.out _).mono ?_; rintro e w3 ⟨rfl, k3⟩)
        go_ret2
        exact ⟨by rw [hpe.out]; rfl, HB.out.trans (k3.mono HB.out.size)⟩
      · rw [hsx] at ISO
        have hnext : ∀ j (hj : j < l.length), j < k + 1 → Bu.isOf i l[j] = true := fun j hj hjk => by
          by_cases e : j = k
          · subst e; rw [← HX.out]; exact hsx
          · exact hall.out j hj (by omega)
        have HNX := Lib.hid hnext
        have hfl := Bu.fair_len hfx
        rw [Ba.ba_size, Ba.ba_size] at hfl
        obtain ⟨hfp, hfv⟩ := hfl
        have T1 := Lib.hid (fun wx => r12Text_any x.p (by omega) wx)
        have T2 := Lib.hid (fun wx => r12Text_any x.v (by omega) wx)
        have hp85 := Bu.prB_len hfx
        have hcat := Bu.cat3 P (Rm.txt x.p.data.toList) (Rm.txt x.v.data.toList)
        have hsz1 : (⟨(Rm.txt x.p.data.toList).toArray⟩ : ByteArray).size ≤ 85 := by
          rw [Bu.ba_len]
          unfold Bu.prB at hp85
          rw [List.length_append] at hp85
          omega
        have hsz2 : (⟨(Rm.txt x.v.data.toList).toArray⟩ : ByteArray).size ≤ 85 := by
          rw [Bu.ba_len]
          unfold Bu.prB at hp85
          rw [List.length_append] at hp85
          omega
        have hszP : (⟨P.toArray⟩ : ByteArray).size ≤ 100000 := by rw [Bu.ba_len]; exact hPl
        have HTK : Hid (HD ++ Bu.prsB (l.take (k + 1)) = P ++ (Rm.txt x.p.data.toList ++ Rm.txt x.v.data.toList)) := by
          show _ = _
          rw [htk, ← List.append_assoc, ← hP.out]
          rfl
        obtain ⟨Q, hQ⟩ : ∃ Q, Q = P ++ (Rm.txt x.p.data.toList ++ Rm.txt x.v.data.toList) := ⟨_, rfl⟩
        rw [← hQ] at HTK hcat
        obtain ⟨TP, hTP⟩ : ∃ t : ByteArray, t = ⟨(Rm.txt x.p.data.toList).toArray⟩ := ⟨_, rfl⟩
        obtain ⟨TV, hTV⟩ : ∃ t : ByteArray, t = ⟨(Rm.txt x.v.data.toList).toArray⟩ := ⟨_, rfl⟩
        obtain ⟨SB, hSB⟩ : ∃ t : ByteArray, t = ⟨P.toArray⟩ := ⟨_, rfl⟩
        rw [← hTP] at T1 hcat hsz1
        rw [← hTV] at T2 hcat hsz2
        rw [← hSB] at hcat hszP ⊢
        have HCAT := Lib.hid hcat
        have hsz3 : (SB ++ TP).size ≤ 100085 := by rw [ByteArray.size_append]; omega
        clear hsx htk hpl hnext hfx hp85 hcat hQ hTP hTV hSB hP hPl
        go_upto_region 9 with (go_at_call 102; refine (OF.out _).mono ?_; rintro e w3 ⟨rfl, k3⟩)
        have HBD : Hid (Below w.heap.size w w3.drew) := (HB.out.trans (k3.mono HB.out.size)).drew
        have HBL : Hid (b < w3.drew.heap.size) := Nat.lt_of_lt_of_le hblr.out k3.size
        have z0 : w3.drew.cell? ⟨b, off + k * 2, none⟩ = some (.string x.p) := (k3.cell (p := ⟨b, off + k * 2, none⟩) hblr.out).trans x0
        have z1 : w3.drew.cell? ⟨b, off + k * 2 + 1, none⟩ = some (.string x.v) := (k3.cell (p := ⟨b, off + k * 2 + 1, none⟩) hblr.out).trans x1
        clear x0 x1 k3
        refine wp_region_held_drew (S := fun w' => w'.cell? ⟨b, off + k * 2, none⟩ = some (.string x.p) ∧ w'.cell? ⟨b, off + k * 2 + 1, none⟩ = some (.string x.v)) (by kernel_rfl) ⟨z0, z1⟩ (fun hHeld => ?_)
        refine wpAnyH_take (i := 0) (oi := ⟨some 37, _, _, _, _, _⟩) (v := .string SB) rfl (by kernel_rfl) (by kernel_rfl) (by kernel_rfl) (fun _ _ _ h => h) (Or.inl ⟨by rfl, ?_⟩) (by assumption) ?_
        · intro w hSw; (try dsimp only at hSw); go_simp
        simp only [Act.put, List.setIfInBounds_toArray, List.set_cons_zero, List.set_cons_succ]
        refine wpAnyH_take (i := 1) (oi := ⟨some 38, _, _, _, _, _⟩) (v := .slice (some ⟨b, off, none⟩) l.length c) rfl (by kernel_rfl) (by kernel_rfl) (by kernel_rfl) (fun _ _ _ h => h) (Or.inl ⟨by rfl, ?_⟩) (by assumption) ?_
        · intro w hSw; (try dsimp only at hSw); go_simp
        simp only [Act.put, List.setIfInBounds_toArray, List.set_cons_zero, List.set_cons_succ]
        refine wpAnyH_take (i := 2) (oi := ⟨some 39, _, _, _, _, _⟩) (v := .int .i64 (k : Int)) rfl (by kernel_rfl) (by kernel_rfl) (by kernel_rfl) (fun _ _ _ h => h) (Or.inl ⟨by rfl, ?_⟩) (by assumption) ?_
        · intro w hSw; (try dsimp only at hSw); go_simp
        simp only [Act.put, List.setIfInBounds_toArray, List.set_cons_zero, List.set_cons_succ]
        refine wpAnyH_take (i := 3) (oi := ⟨some 40, _, _, _, _, _⟩) (v := .pointer (some ⟨b, off + k * 2, none⟩)) rfl (by kernel_rfl) (by kernel_rfl) (by kernel_rfl) (fun _ _ _ h => h) (Or.inl ⟨by rfl, ?_⟩) (by assumption) ?_
        · intro w hSw; (try dsimp only at hSw); go_simp
        simp only [Act.put, List.setIfInBounds_toArray, List.set_cons_zero, List.set_cons_succ]
        refine wpAnyH_take (i := 4) (oi := ⟨some 41, _, _, _, _, _⟩) (v := .pointer (some ⟨b, off + k * 2, none⟩)) rfl (by kernel_rfl) (by kernel_rfl) (by kernel_rfl) (fun _ _ _ h => h) (Or.inl ⟨by rfl, ?_⟩) (by assumption) ?_
        · intro w hSw; (try dsimp only at hSw); go_simp
        simp only [Act.put, List.setIfInBounds_toArray, List.set_cons_zero, List.set_cons_succ]
        refine wpAnyH_take (i := 5) (oi := ⟨some 42, _, _, _, _, _⟩) (v := .string x.p) rfl (by kernel_rfl) (by kernel_rfl) (by kernel_rfl) (fun _ _ _ h => h) (Or.inl ⟨by rfl, ?_⟩) (by assumption) ?_
        · intro w hSw; (try dsimp only at hSw); go_simp
        simp only [Act.put, List.setIfInBounds_toArray, List.set_cons_zero, List.set_cons_succ]
        refine wpAnyH_take (i := 8) (oi := ⟨some 45, _, _, _, _, _⟩) (v := .slice (some ⟨b, off, none⟩) l.length c) rfl (by kernel_rfl) (by kernel_rfl) (by kernel_rfl) (fun _ _ _ h => h) (Or.inl ⟨by rfl, ?_⟩) (by assumption) ?_
        · intro w hSw; (try dsimp only at hSw); go_simp
        simp only [Act.put, List.setIfInBounds_toArray, List.set_cons_zero, List.set_cons_succ]
        refine wpAnyH_take (i := 9) (oi := ⟨some 46, _, _, _, _, _⟩) (v := .int .i64 (k : Int)) rfl (by kernel_rfl) (by kernel_rfl) (by kernel_rfl) (fun _ _ _ h => h) (Or.inl ⟨by rfl, ?_⟩) (by assumption) ?_
        · intro w hSw; (try dsimp only at hSw); go_simp
        simp only [Act.put, List.setIfInBounds_toArray, List.set_cons_zero, List.set_cons_succ]
        refine wpAnyH_take (i := 10) (oi := ⟨some 47, _, _, _, _, _⟩) (v := .pointer (some ⟨b, off + k * 2, none⟩)) rfl (by kernel_rfl) (by kernel_rfl) (by kernel_rfl) (fun _ _ _ h => h) (Or.inl ⟨by rfl, ?_⟩) (by assumption) ?_
        · intro w hSw; (try dsimp only at hSw); go_simp
        simp only [Act.put, List.setIfInBounds_toArray, List.set_cons_zero, List.set_cons_succ]
        refine wpAnyH_take (i := 11) (oi := ⟨some 48, _, _, _, _, _⟩) (v := .pointer (some ⟨b, off + k * 2 + 1, none⟩)) rfl (by kernel_rfl) (by kernel_rfl) (by kernel_rfl) (fun _ _ _ h => h) (Or.inl ⟨by rfl, ?_⟩) (by assumption) ?_
        · intro w hSw; (try dsimp only at hSw); go_simp
        simp only [Act.put, List.setIfInBounds_toArray, List.set_cons_zero, List.set_cons_succ]
        refine wpAnyH_take (i := 12) (oi := ⟨some 49, _, _, _, _, _⟩) (v := .string x.v) rfl (by kernel_rfl) (by kernel_rfl) (by kernel_rfl) (fun _ _ _ h => h) (Or.inl ⟨by rfl, ?_⟩) (by assumption) ?_
        · intro w hSw; (try dsimp only at hSw); go_simp
        simp only [Act.put, List.setIfInBounds_toArray, List.set_cons_zero, List.set_cons_succ]
        refine wpAnyH_ready (rs := [6]) (by kernel_rfl) (by simp) ?_
        refine (AllReadyH.cons (o := ⟨some 43, _, _, _, _, _⟩) rfl (fun K hK => ?_) AllReadyH.nil)
        go_simp
        refine (T1.out _).mono ?_
        rintro e w4 ⟨rfl, k4⟩
        have z2 := (k4.cell (p := ⟨b, off + k * 2, none⟩) HBL.out).trans z0
        have z3 := (k4.cell (p := ⟨b, off + k * 2 + 1, none⟩) HBL.out).trans z1
        have HBL4 : Hid (b < w4.heap.size) := Nat.lt_of_lt_of_le HBL.out k4.size
        have B4 : Hid (Below w.heap.size w w4) := HBD.out.trans (k4.mono HBD.out.size)
        clear z0 z1 k4
        refine hK.out _ _ ⟨z2, z3⟩ (fun hHeld => ?_)
        clear hK K
        refine wpAnyH_take (i := 7) (oi := ⟨some 44, _, _, _, _, _⟩) (v := .string (SB ++ TP)) rfl (by kernel_rfl) (by kernel_rfl) (by kernel_rfl) (fun _ _ _ h => h) (Or.inl ⟨by rfl, ?_⟩) (by assumption) ?_
        · intro w hSw; (try dsimp only at hSw); go_simp <;> omega
        simp only [Act.put, List.setIfInBounds_toArray, List.set_cons_zero, List.set_cons_succ]
        refine wpAnyH_ready (rs := [13]) (by kernel_rfl) (by simp) ?_
        refine (AllReadyH.cons (o := ⟨some 50, _, _, _, _, _⟩) rfl (fun K hK => ?_) AllReadyH.nil)
        go_simp
        refine (T2.out _).mono ?_
        rintro e w5 ⟨rfl, k5⟩
        have z4 := (k5.cell (p := ⟨b, off + k * 2, none⟩) HBL4.out).trans z2
        have z5 := (k5.cell (p := ⟨b, off + k * 2 + 1, none⟩) HBL4.out).trans z3
        have B5 : Hid (Below w.heap.size w w5) := B4.out.trans (k5.mono B4.out.size)
        clear z2 z3 k5
        refine hK.out _ _ ⟨z4, z5⟩ (fun hHeld => ?_)
        clear hK K
        refine wpAnyH_take (i := 14) (oi := ⟨some 51, _, _, _, _, _⟩) (v := .string (SB ++ TP ++ TV)) rfl (by kernel_rfl) (by kernel_rfl) (by kernel_rfl) (fun _ _ _ h => h) (Or.inl ⟨by rfl, ?_⟩) (by assumption) ?_
        · intro w hSw; (try dsimp only at hSw); go_simp <;> omega
        simp only [Act.put, List.setIfInBounds_toArray, List.set_cons_zero, List.set_cons_succ]
        refine wpAnyH_take (i := 15) (oi := ⟨some 6, _, _, _, _, _⟩) (v := .string (SB ++ TP ++ TV)) rfl (by kernel_rfl) (by kernel_rfl) (by kernel_rfl) (fun _ _ _ h => h) (Or.inl ⟨by rfl, ?_⟩) (by assumption) ?_
        · intro w hSw; (try dsimp only at hSw); go_simp
        simp only [Act.put, List.setIfInBounds_toArray, List.set_cons_zero, List.set_cons_succ]
        refine wpAnyH_done (by kernel_rfl) ?_ _
        go_wp2_with fail
        rw [HCAT.out]
        go_roundw
        case rel => exact ⟨k + 1, Q, rfl, rfl, hlt, HTK.out.symm, HNX.out, B5.out⟩
        case measure => simp only [intOf]; omega
    · have hki : ¬ (k : Int) < (l.length : Int) := by omega
      have hke : k = l.length := by omega
      have hP' := hP.out
      rw [hke, List.take_length] at hP'
      have HALL := Lib.hid (Bu.all_upto (l := l) (i := i) fun j hj => hall.out j hj (by omega))
      have HP := Lib.hid hP'
      clear hP hP' hall hke
      by_cases h48 : 48 < l.length
      · have h48i : (48 : Int) < (l.length : Int) := by omega
        have hpe : Hid (Bu.page i l = (⟨#[]⟩, 3)) := Bu.page_bad (Bu.pageE_long HRG.out H2.out HALL.out h48) (by decide)
        clear h48
        go_wp2
        go_ret2
        exact ⟨by rw [hpe.out]; rfl, HB.out⟩
      · have h48i : ¬ (48 : Int) < (l.length : Int) := by omega
        have hpe : Hid (Bu.page i l = (⟨(Bu.bytes l).toArray⟩, 0)) := Bu.page_good (Bu.pageE_of HRG.out H2.out HALL.out (by omega))
        clear h48
        go_wp2
        go_ret2
        exact ⟨by rw [hpe.out, HBB.out, ← HP.out]; rfl, HB.out⟩
end Go.Proofs.YtiehcplepneajaaGreatDoor

/-
  The document's text of an inner node.
-/
namespace Go.Proofs.YtiehcplepneajaaGreatDoor
open Go.RowKit
set_option maxRecDepth 100000 in
set_option maxHeartbeats 4000000 in
theorem r15InnerText_any (w : World) (a b : List UInt8) (ha : a.length = 32) (hb : b.length = 32) :
    Calls Tryz.prog 91 #[.agg (Lib.byteCells a).toArray, .agg (Lib.byteCells b).toArray] w fun e w' => e = .returned (.string (Tr.tx (Tr.innerT a b))) ∧ Below w.heap.size w w' := by
  obtain ⟨N, hN⟩ : ∃ N, N = w.heap.size := ⟨_, rfl⟩
  obtain ⟨w2, hw2⟩ : ∃ w2, w2 = (w.alloc (.cells (Lib.byteCells a).toArray 36)).alloc (.cells (Lib.byteCells b).toArray 36) := ⟨_, rfl⟩
  have b2 : Below w.heap.size w w2 := by rw [hw2]; exact ((Below.refl _ w).alloc (Nat.le_refl _) _).alloc (by simp) _
  have g0 : w2.heap[N]? = some (.cells (Lib.byteCells a).toArray 36 (0, 0)) := by rw [hw2, hN, Below.heap_alloc _ _ _ (by simp)]; exact heap_alloc_new _ _
  have g1 : w2.heap[N + 1]? = some (.cells (Lib.byteCells b).toArray 36 (0, 0)) := by
    have := heap_alloc_new (w.alloc (.cells (Lib.byteCells a).toArray 36)) (.cells (Lib.byteCells b).toArray 36)
    rw [hw2, hN]
    simpa using this
  have hN1 : (w.alloc (.cells (Lib.byteCells a).toArray 36)).heap.size = N + 1 := by rw [hN]; simp
  have C0 : Hid (∀ (wx : World) (k : Nat), Below w2.heap.size w2 wx → k < 32 → wx.cell? ⟨N, k, none⟩ = some (.int .u8 ((a.getD k 0).toNat : Int))) := fun wx k hb hk => (hb.cell (p := ⟨N, k, none⟩) (Sm.lt_of g0)).trans (Sm.row_cell g0 k (by omega))
  have C1 : Hid (∀ (wx : World) (k : Nat), Below w2.heap.size w2 wx → k < 32 → wx.cell? ⟨N + 1, k, none⟩ = some (.int .u8 ((b.getD k 0).toNat : Int))) := fun wx k hb hk => (hb.cell (p := ⟨N + 1, k, none⟩) (Sm.lt_of g1)).trans (Sm.row_cell g1 k (by omega))
  have TA : Hid (∀ k, k < 32 → a.take (k + 1) = a.take k ++ [a.getD k 0]) := fun k hk => by rw [← List.take_append_getElem (show k < a.length by omega), List.getD_eq_getElem?_getD, List.getElem?_eq_getElem (by omega)]; rfl
  have TB : Hid (∀ k, k < 32 → b.take (k + 1) = b.take k ++ [b.getD k 0]) := fun k hk => by rw [← List.take_append_getElem (show k < b.length by omega), List.getD_eq_getElem?_getD, List.getElem?_eq_getElem (by omega)]; rfl
  have HA := Lib.hid ha
  have HBL := Lib.hid hb
  have HB2 := Lib.hid b2
  clear g0 g1 b2 ha hb
  go_enter Tryz.func91, Tryz.ntmps91
  go_upto_region 1 with (fail)
  rw [← hw2, ← hN]
  clear hw2 hN hN1
  go_wp2
  go_loopw [5, 6] (fun s5 s6 wr => ∃ (k : Nat) (t : ByteArray), s6 = .int .i64 k ∧ k ≤ 32 ∧ s5 = .string t ∧ Hid (t = Tr.tx (78 :: a.take k)) ∧ Below w2.heap.size w2 wr) (fun _ s6 _ => 32 - (intOf s6).toNat)
  case atStart => exact ⟨0, _, rfl, by omega, rfl, rfl, Below.refl _ _⟩
  case round =>
    obtain ⟨k, t, rfl, hk, rfl, ht, hb⟩ := hrel
    have HB := Lib.hid hb
    clear hb
    by_cases hlt : k < 32
    · have hki : (k : Int) < 32 := by omega
      have hsuc : IntKind.i64.wrap ((k : Int) + 1) = ((k + 1 : Nat) : Int) := by simp [IntKind.wrap, IntKind.bits, IntKind.signed]; omega
      have x0 := C0.out wr k HB.out hlt
      have hta := TA.out k hlt
      obtain ⟨x, hx⟩ : ∃ x, x = a.getD k 0 := ⟨_, rfl⟩
      rw [← hx] at x0 hta
      have hcv := R12.conv_one wr x ((x.toNat : Nat) : Int) rfl
      have hsz : t.size ≤ 33 := by rw [ht.out, Tr.tx_size, List.length_cons, List.length_take]; omega
      have hsm : t.size + 1 ≤ 9223372036854775807 := by omega
      have HN : Hid (t ++ ⟨#[x]⟩ = Tr.tx (78 :: a.take (k + 1))) := by
        show _ = _
        rw [ht.out, hta]
        exact Tr.tx_tx _ [x]
      have HLT := Lib.hid hlt
      clear hx hta hlt ht hsz
      go_wp2
      go_roundw
      case rel => exact ⟨k + 1, _, rfl, HLT.out, rfl, HN.out, HB.out.alloc HB.out.size _⟩
      case measure => simp only [intOf]; have := HLT.out; omega
    · have hki : ¬ (k : Int) < 32 := by omega
      have hke : k = 32 := by omega
      have HT : Hid (t = Tr.tx (78 :: a)) := by
        have := ht.out
        rw [hke, List.take_of_length_le (by rw [HA.out]; omega)] at this
        exact this
      have HBO := Lib.hid HB.out
      clear ht hk HB
      generalize wr = WL at *
      go_wp2
      go_loopw [5, 7] (fun s5 s7 wr => ∃ (k : Nat) (t : ByteArray), s7 = .int .i64 k ∧ k ≤ 32 ∧ s5 = .string t ∧ Hid (t = Tr.tx (78 :: (a ++ b.take k))) ∧ Below w2.heap.size w2 wr) (fun _ s7 _ => 32 - (intOf s7).toNat)
      case atStart => exact ⟨0, t, rfl, by omega, rfl, by show _ = _; rw [HT.out]; simp, HBO.out⟩
      case round =>
        clear HT HBO
        obtain ⟨k, t, rfl, hk, rfl, ht, hb⟩ := hrel
        have HB := Lib.hid hb
        clear hb
        by_cases hlt : k < 32
        · have hki : (k : Int) < 32 := by omega
          have hsuc : IntKind.i64.wrap ((k : Int) + 1) = ((k + 1 : Nat) : Int) := by simp [IntKind.wrap, IntKind.bits, IntKind.signed]; omega
          have x0 := C1.out wr k HB.out hlt
          have hta := TB.out k hlt
          obtain ⟨x, hx⟩ : ∃ x, x = b.getD k 0 := ⟨_, rfl⟩
          rw [← hx] at x0 hta
          have hcv := R12.conv_one wr x ((x.toNat : Nat) : Int) rfl
          have hsz : t.size ≤ 66 := by rw [ht.out, Tr.tx_size, List.length_cons, List.length_append, List.length_take, HA.out]; omega
          have hsm : t.size + 1 ≤ 9223372036854775807 := by omega
          have HN : Hid (t ++ ⟨#[x]⟩ = Tr.tx (78 :: (a ++ b.take (k + 1)))) := by
            show _ = _
            rw [ht.out, hta]
            have := Tr.tx_tx (78 :: (a ++ b.take k)) [x]
            rw [List.cons_append, List.append_assoc] at this
            exact this
          have HLT := Lib.hid hlt
          clear hx hta hlt ht hsz
          go_wp2
          go_roundw
          case rel => exact ⟨k + 1, _, rfl, HLT.out, rfl, HN.out, HB.out.alloc HB.out.size _⟩
          case measure => simp only [intOf]; have := HLT.out; omega
        · have hki : ¬ (k : Int) < 32 := by omega
          have hke : k = 32 := by omega
          have HT : Hid (t = Tr.tx (Tr.innerT a b)) := by
            have := ht.out
            rw [hke, List.take_of_length_le (by rw [HBL.out]; omega)] at this
            exact this
          clear ht hk
          go_wp2
          go_ret
          exact ⟨by rw [← HT.out]; rfl, HB2.out.trans (HB.out.mono HB2.out.size)⟩
end Go.Proofs.YtiehcplepneajaaGreatDoor

/-
  The document's tree: the text of a leaf.
-/
namespace Go.Proofs.YtiehcplepneajaaGreatDoor
open Go.RowKit
set_option maxRecDepth 100000 in
set_option maxHeartbeats 2000000 in
theorem r15LeafText_any {w : World} {A : Option Addr} {l : List Om.Pr} (c : Nat) (hit : Om.listAt w A l) (hf : Tr.Fit l) {k : Nat} (hk : k < 16) :
    Calls Tryz.prog 90 #[.slice A l.length c, .int .i64 (k : Int)] w fun e w' => e = .returned (.string (Tr.tx (Tr.leafT l k))) ∧ Below w.heap.size w w' := by
  have hsm : ∀ x ∈ l, x.p.size ≤ 1000000 := fun x hx => by
    have := Bu.fair_len (hf.fair x hx)
    rw [Ba.ba_size, Ba.ba_size] at this
    omega
  have PT := Lib.hid (r14Part_any c hit (by have := hf.len; omega) hsm (k : Int))
  have hpe : Bu.pageE (k : Int) (Bu.part l k) = 0 := Bu.page_part hf.may hf.len ⟨by omega, by omega⟩
  have PG : Hid (∀ (wx : World) (B : Option Addr) (q : Nat), Om.listAt wx B (Bu.part l k) → Calls Tryz.prog 92 #[.int .i64 (k : Int), .slice B (Bu.part l k).length q] wx fun e w' => e = .returned (.tuple #[.string (Tr.tx (Bu.bytes (Bu.part l k))), .int .i64 0]) ∧ Below wx.heap.size wx w') := fun wx B q h => by
    have := r14Page_any (k : Int) q h (by have := Bu.part_length l k; have := hf.len; omega) (fun x hx => hsm x (List.mem_filter.1 hx).1)
    rw [Bu.page_good hpe] at this
    exact this
  have HT : Hid ((⟨#[76]⟩ ++ Tr.tx (Bu.bytes (Bu.part l k)) : ByteArray) = Tr.tx (Tr.leafT l k)) := by
    have := Tr.tx_cat [76] (Tr.tx (Bu.bytes (Bu.part l k)))
    rw [Tr.tx_list] at this
    exact this
  have hlen : (Tr.tx (Bu.bytes (Bu.part l k))).size ≤ 1152921504606846000 := by
    obtain ⟨h1, h2, h3, h4⟩ := Bu.pageE_ok hpe
    have q1 := Bu.prsB_len (Bu.may_iff.1 h2).1
    have q2 := R12.enc_len (n := (Bu.part l k).length) (by omega)
    rw [Tr.tx_size]
    unfold Bu.bytes
    rw [List.length_append]
    omega
  have HLN : Hid (1 + (Tr.tx (Bu.bytes (Bu.part l k))).size ≤ 9223372036854775807) := by show _ ≤ _; omega
  generalize Tr.tx (Tr.leafT l k) = T at *
  generalize Tr.tx (Bu.bytes (Bu.part l k)) = P at *
  clear hit hf hsm hpe hlen
  go_enter Tryz.func90, Tryz.ntmps90
  go_upto_region 2 with first
    | (go_at_call 69; refine PT.out.mono ?_; rintro e w1 ⟨B1, q1, rfl, r1, k1⟩; have B1' := Lib.hid k1; have R1 := Lib.hid r1; clear k1 r1)
    | (go_at_call 92; refine (PG.out _ _ _ R1.out.listAt).mono ?_; rintro e w2 ⟨rfl, k2⟩; have B2 : Hid (Below w.heap.size w w2) := B1'.out.trans (k2.mono B1'.out.size); clear k2)
  have q := HT.out
  have q2 := HLN.out
  go_wp2
  go_ret
  exact ⟨rfl, B2.out⟩
end Go.Proofs.YtiehcplepneajaaGreatDoor
