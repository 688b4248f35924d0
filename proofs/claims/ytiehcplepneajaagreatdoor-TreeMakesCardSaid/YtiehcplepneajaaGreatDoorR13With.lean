/-
  The document's With and Without.
-/
import Derived.Test.YtiehcplepneajaaGreatDoorR13Way
namespace Go.Proofs.YtiehcplepneajaaGreatDoor
open Go.RowKit
theorem Om.results_own15 {fn : Func} {p : Tmp} {ty : TypeId} (h : fn.results = #[.cell p ty]) (tmps : Array Value) (P : Program) (w : World) :
    (results fn tmps).run P w = ((asAddr (tmps.getD p undef)).run P w).andThen fun a w₁ => (loadVar ty a).run P w₁ := by
  simp only [results, h]
  simp [Sem.run_bind, Result.andThen]
/-- What was made lies in new memory, or is what was handed in. -/
def Om.Fresh (w : World) (A : Option Addr) (l : List Om.Pr) (B : Option Addr) (m : List Om.Pr) : Prop := ∀ b off, B = some ⟨b, off, none⟩ → m ≠ [] → w.heap.size ≤ b ∨ (A = some ⟨b, off, none⟩ ∧ l ≠ [])
theorem Om.Row.fresh {w w' : World} {B : Option Addr} {k : Nat} {m : List Om.Pr} (h : Om.Row w' w.heap.size B k m) (A : Option Addr) (l : List Om.Pr) : Om.Fresh w A l B m := fun b off e _ => .inl (by
  have : (Value.slice B m.length k).ownBlock = some b := by rw [e]; rfl
  exact (h.blk this).1)
theorem Om.pos_lt {p : ByteArray} {l : List Om.Pr} (h : (Om.get p l).isSome = true) : Om.pos p l + 1 ≤ l.length := by
  rw [Om.get_pos p l] at h
  cases hx : l[Om.pos p l]? with
  | none => rw [hx] at h; cases h
  | some x => exact (List.getElem?_eq_some_iff.1 hx).1
set_option maxRecDepth 100000 in
set_option maxHeartbeats 4000000 in
theorem r13With_any {w : World} {A : Option Addr} {c : Nat} {l : List Om.Pr} (h : Om.Ref w A c l) (hl : l.length ≤ 900) (hs : ∀ x ∈ l, x.p.size ≤ 1000000) (p v : ByteArray) :
    Calls Tryz.prog 44 #[.agg #[.slice A l.length c], .string p, .string v] w fun e w' => ∃ B k, e = .returned (.agg #[.slice B (Om.put p v l).length k]) ∧ Om.Row w' w.heap.size B k (Om.put p v l) ∧ Below w.heap.size w w' := by
  obtain ⟨w2, hw2⟩ : ∃ w2, w2 = (w.alloc (.cells #[.slice A l.length c] 85)).alloc (.cells #[.slice none 0 0] 85) := ⟨_, rfl⟩
  have b2 : Below w.heap.size w w2 := by rw [hw2]; exact ((Below.refl _ w).alloc (Nat.le_refl _) _).alloc (by simp) _
  have FI := Lib.hid (r13find_any (w := w2) c (h.below b2).1 (by omega) hs p)
  have c2 : w2.cell? ⟨w.heap.size, 0, none⟩ = some (.slice A l.length c) := by
    rw [hw2]
    exact Sm.cells_of ((Below.heap_alloc _ _ _ (by simp)).trans (heap_alloc_new w (.cells #[.slice A l.length c] 85))) 0 _ rfl
  have MK := Lib.hid (fun (W : World) (hW : Below w2.heap.size w2 W) => Om.Way.made h (by rw [← hw2]; exact hW))
  have HSRC : Hid (∀ b off, A = some ⟨b, off, none⟩ → l ≠ [] → b < w.heap.size) := fun b off e h0 => by
    rcases h.1 with e1 | ⟨b', o', e1, e2, _⟩
    · exact absurd e1 h0
    · rw [e] at e1
      simp only [Option.some.injEq, Addr.mk.injEq] at e1
      omega
  have HR := Lib.hid h
  have hcap := h.2
  obtain ⟨g, hg⟩ : ∃ g, g = (Om.get p l).isSome := ⟨_, rfl⟩
  rw [← hg] at FI
  obtain ⟨i, hi⟩ : ∃ i, i = Om.pos p l := ⟨_, rfl⟩
  rw [← hi] at FI
  have hil : i ≤ l.length := by rw [hi]; exact Om.pos_le p l
  have HPUT : Hid (Om.put p v l = l.take i ++ ⟨p, v⟩ :: l.drop (i + if g then 1 else 0)) := by show _ = _; rw [hi, hg]; exact Om.put_pos p v l
  have HIL := Lib.hid hil
  have HCAP := Lib.hid hcap
  have HLL := Lib.hid hl
  have HJ : Hid (g = true → i + 1 ≤ l.length) := fun e => by rw [hi]; exact Om.pos_lt (by rw [← hg]; exact e)
  clear h hs b2 hi hg
  go_enter Tryz.func44, Tryz.ntmps44
  go_upto_region 1 with (fail)
  rw [← hw2]
  clear hw2
  go_upto_region 3 with (go_at_call 80; refine FI.out.mono ?_; rintro e w3 ⟨rfl, k3⟩)
  have WY0 := Lib.hid (MK.out w3 k3).1
  have OUT0 := Lib.hid (MK.out w3 k3).2
  obtain ⟨N, hN⟩ : ∃ N, N = w.heap.size := ⟨_, rfl⟩
  obtain ⟨K, hK⟩ : ∃ K, K = w3.heap.size := ⟨_, rfl⟩
  obtain ⟨W0, hW0⟩ : ∃ W0, W0 = w3.alloc (.cells #[.slice none 0 0] 85) := ⟨_, rfl⟩
  have HN := Lib.hid hN
  rw [← hN, ← hK, ← hW0] at WY0
  rw [← hK, ← hW0] at OUT0
  rw [← hN] at HSRC
  rw [← hN, ← hK, ← hW0]
  obtain ⟨B0, k0, m, hm, WY0, OUT0⟩ : ∃ (B : Option Addr) (k : Nat) (m : List Om.Pr), m = [] ∧ Hid (Om.Way w W0 N K A c l B k m) ∧ Hid (W0.heap[K]? = some (.cells #[.slice B m.length k] 85 (0, 0))) := ⟨none, 0, [], rfl, WY0, OUT0⟩
  have HM0 := Lib.hid hm
  have ML0 : Hid (m.length = m.length) := rfl
  have LT : Hid ((l.take i).length = i) := by show _ = _; rw [List.length_take]; omega
  have MB : m.length = 0 := by rw [hm]; rfl
  have HMB := Lib.hid MB
  have SLT : Hid (∀ wx : World, (Instr.sliceAt 22 (.slice A l.length c) none (some (.int .i64 (i : Int))) none).run Tryz.prog wx = .ok (.slice A i c) wx) := fun wx => Om.run_to wx hil hcap
  clear hN hK hW0 MK FI k3 c2 hm MB
  have WD := Lib.hid (WY0.out.step (Below.refl _ _).drew)
  refine wp_region_held_drew (S := fun w' => w'.cell? ⟨N, 0, none⟩ = some (.slice A l.length c)) (by kernel_rfl) (by exact Sm.cells_of WD.out.box 0 _ rfl) (fun hHeld => ?_)
  refine wpAnyH_take (i := 0) (oi := ⟨some 16, _, _, _, _, _⟩) (v := .pointer (some ⟨K, 0, none⟩)) rfl (by kernel_rfl) (by kernel_rfl) (by kernel_rfl) (fun _ _ _ h => h) (Or.inl ⟨by rfl, ?_⟩) (by assumption) ?_
  · intro w hSw; (try dsimp only at hSw); go_simp
  simp only [Act.put, List.setIfInBounds_toArray, List.set_cons_zero, List.set_cons_succ]
  refine wpAnyH_take (i := 2) (oi := ⟨some 18, _, _, _, _, _⟩) (v := .pointer (some ⟨N, 0, none⟩)) rfl (by kernel_rfl) (by kernel_rfl) (by kernel_rfl) (fun _ _ _ h => h) (Or.inl ⟨by rfl, ?_⟩) (by assumption) ?_
  · intro w hSw; (try dsimp only at hSw); go_simp
  simp only [Act.put, List.setIfInBounds_toArray, List.set_cons_zero, List.set_cons_succ]
  refine wpAnyH_take (i := 3) (oi := ⟨some 19, _, _, _, _, _⟩) (v := .slice A l.length c) rfl (by kernel_rfl) (by kernel_rfl) (by kernel_rfl) (fun _ _ _ h => h) (Or.inl ⟨by rfl, ?_⟩) (by assumption) ?_
  · intro w hSw; (try dsimp only at hSw); go_simp
  simp only [Act.put, List.setIfInBounds_toArray, List.set_cons_zero, List.set_cons_succ]
  refine wpAnyH_take (i := 4) (oi := ⟨some 20, _, _, _, _, _⟩) (v := .int .i64 (i : Int)) rfl (by kernel_rfl) (by kernel_rfl) (by kernel_rfl) (fun _ _ _ h => h) (Or.inl ⟨by rfl, ?_⟩) (by assumption) ?_
  · intro w hSw; (try dsimp only at hSw); go_simp
  simp only [Act.put, List.setIfInBounds_toArray, List.set_cons_zero, List.set_cons_succ]
  refine wpAnyH_take (i := 5) (oi := ⟨some 21, _, _, _, _, _⟩) (v := .slice A i c) rfl (by kernel_rfl) (by kernel_rfl) (by kernel_rfl) (fun _ _ _ h => h) (Or.inl ⟨by rfl, ?_⟩) (by assumption) ?_
  · intro w hSw; (try dsimp only at hSw); (have q := SLT.out; go_simp)
  simp only [Act.put, List.setIfInBounds_toArray, List.set_cons_zero, List.set_cons_succ]
  refine wpAnyH_ready (rs := [1]) (by kernel_rfl) (by simp) ?_
  refine AllReadyH.cons (o := ⟨some 17, _, _, _, _, _⟩) rfl (fun K0 hK => ?_) AllReadyH.nil
  have y := Sm.cells_of (show _ = _ from OUT0.out) 0 _ rfl
  have yd : (W0.drew).cell? ⟨K, 0, none⟩ = some (.slice B0 m.length k0) := y
  go_simp
  refine hK.out _ _ (Sm.cells_of WD.out.box 0 _ rfl) (fun hHeld => ?_)
  clear hK K0 y yd
  refine wpAnyH_ready (rs := [6]) (by kernel_rfl) (by simp) ?_
  refine AllReadyH.cons (o := ⟨some 22, _, _, _, _, _⟩) rfl (fun K0 hK => ?_) AllReadyH.nil
  rw [if_pos (by simp [Region.wanted])]
  refine Om.wp_cat0 (.tmp 17) (.tmp 21) rfl (l := m) (by show Value.slice _ _ _ = _; rw [ML0.out]) WD.out.row (C := A) (d := c) (m := (l.take i)) (by show Value.slice _ _ _ = _; rw [LT.out]) (WD.out.src.1.take i) (by have h1 := ML0.out; have h2 := LT.out; have h3 := HMB.out; rw [h1, h2]; omega) WD.out.low ?_
  intro B1 k1 w5 hr5 hg5
  have W5 := Lib.hid (WD.out.push HSRC.out hr5 hg5)
  clear hr5 hg5
  rw [ML0.out, LT.out]
  refine hK.out _ _ (Sm.cells_of W5.out.box 0 _ rfl) (fun hHeld => ?_)
  clear hK K0
  simp only [Act.put, List.setIfInBounds_toArray, List.set_cons_zero, List.set_cons_succ]
  refine wpAnyH_take (i := 7) (oi := ⟨some 23, _, _, _, _, _⟩) (v := .pointer (some ⟨K, 0, none⟩)) rfl (by kernel_rfl) (by kernel_rfl) (by kernel_rfl) (fun _ _ _ h => h) (Or.inl ⟨by rfl, ?_⟩) (by assumption) ?_
  · intro w hSw; (try dsimp only at hSw); go_simp
  simp only [Act.put, List.setIfInBounds_toArray, List.set_cons_zero, List.set_cons_succ]
  refine wpAnyH_ready (rs := [8]) (by kernel_rfl) (by simp) ?_
  refine AllReadyH.cons (o := ⟨none, _, _, _, _, _⟩) rfl (fun K0 hK => ?_) AllReadyH.nil
  obtain ⟨v5, hv5⟩ := W5.out.out
  have y := Sm.cells_of hv5 0 _ rfl
  have f := Sm.free_of hv5 0
  go_simp
  have ML1 : Hid ((m ++ (l.take i)).length = (m.length + i)) := by show _ = _; rw [List.length_append, ML0.out, LT.out]
  have WY1 : Hid (Om.Way w (w5.setCell ⟨K, 0, none⟩ (.slice B1 (m.length + i) k1)) N K A c l B1 k1 (m ++ (l.take i))) := (W5.out.set HSRC.out _).1
  have OUT1 : Hid ((w5.setCell ⟨K, 0, none⟩ (.slice B1 (m.length + i) k1)).heap[K]? = some (.cells #[.slice B1 (m.length + i) k1] 85 (0, 0))) := (W5.out.set HSRC.out _).2
  refine hK.out _ _ (Sm.cells_of WY1.out.box 0 _ rfl) (fun hHeld => ?_)
  clear hK K0 y f hv5 W5 WD hHeld
  generalize (w5.setCell ⟨K, 0, none⟩ (.slice B1 (m.length + i) k1)) = W1 at WY1 OUT1 ⊢
  refine wpAnyH_done (by kernel_rfl) ?_ _
  have y := Sm.cells_of (show _ = _ from OUT1.out) 0 _ rfl
  have WD := Lib.hid (WY1.out.step ((Below.refl W1.heap.size W1).alloc (Nat.le_refl _) (.cells #[.string p, .string v] 79)))
  have HML := ML1.out
  go_upto_region 5 with (at_builtin; refine Om.wp_push rfl _ _ rfl (l := (m ++ (l.take i))) (by show Value.slice _ _ _ = _; rw [ML1.out]) WD.out.row ⟨p, v⟩ rfl (heap_alloc_new _ _) (by have := ML1.out; have := HMB.out; have := LT.out; omega) WD.out.low ?_; intro B2 k2 w5 hr5 hg5; have W5 := Lib.hid (WD.out.push HSRC.out hr5 hg5); clear hr5 hg5; obtain ⟨v5, hv5⟩ := W5.out.out; have y5 := Sm.cells_of hv5 0 _ rfl; have f5 := Sm.free_of hv5 0)
  have ML2 : Hid (((m ++ (l.take i)) ++ [(⟨p, v⟩ : Om.Pr)]).length = ((m.length + i) + 1)) := by show _ = _; rw [List.length_append, ML1.out]; rfl
  have WY2 : Hid (Om.Way w (w5.setCell ⟨K, 0, none⟩ (.slice B2 ((m.length + i) + 1) k2)) N K A c l B2 k2 ((m ++ (l.take i)) ++ [(⟨p, v⟩ : Om.Pr)])) := (W5.out.set HSRC.out _).1
  have OUT2 : Hid ((w5.setCell ⟨K, 0, none⟩ (.slice B2 ((m.length + i) + 1) k2)).heap[K]? = some (.cells #[.slice B2 ((m.length + i) + 1) k2] 85 (0, 0))) := (W5.out.set HSRC.out _).2
  clear y y5 f5 hv5 W5 WD HML
  generalize (w5.setCell ⟨K, 0, none⟩ (.slice B2 ((m.length + i) + 1) k2)) = W2 at WY2 OUT2 ⊢
  cases g with
  | false =>
    clear SLT LT
    have SLT : Hid (∀ wx : World, (Instr.sliceAt 22 (.slice A l.length c) (some (.int .i64 (i : Int))) none none).run Tryz.prog wx = .ok (.slice (Om.placeFrom A c i) (l.length - i) (c - i)) wx) := fun wx => Om.run_from wx HIL.out
    have LT : Hid ((l.drop i).length = (l.length - i)) := by show _ = _; rw [List.length_drop]
    go_upto_region 7 with (fail)
    have WD := Lib.hid (WY2.out.step (Below.refl _ _).drew)
    refine wp_region_held_drew (S := fun w' => w'.cell? ⟨N, 0, none⟩ = some (.slice A l.length c)) (by kernel_rfl) (by exact Sm.cells_of WD.out.box 0 _ rfl) (fun hHeld => ?_)
    refine wpAnyH_take (i := 0) (oi := ⟨some 35, _, _, _, _, _⟩) (v := .pointer (some ⟨K, 0, none⟩)) rfl (by kernel_rfl) (by kernel_rfl) (by kernel_rfl) (fun _ _ _ h => h) (Or.inl ⟨by rfl, ?_⟩) (by assumption) ?_
    · intro w hSw; (try dsimp only at hSw); go_simp
    simp only [Act.put, List.setIfInBounds_toArray, List.set_cons_zero, List.set_cons_succ]
    refine wpAnyH_take (i := 2) (oi := ⟨some 37, _, _, _, _, _⟩) (v := .pointer (some ⟨N, 0, none⟩)) rfl (by kernel_rfl) (by kernel_rfl) (by kernel_rfl) (fun _ _ _ h => h) (Or.inl ⟨by rfl, ?_⟩) (by assumption) ?_
    · intro w hSw; (try dsimp only at hSw); go_simp
    simp only [Act.put, List.setIfInBounds_toArray, List.set_cons_zero, List.set_cons_succ]
    refine wpAnyH_take (i := 3) (oi := ⟨some 38, _, _, _, _, _⟩) (v := .slice A l.length c) rfl (by kernel_rfl) (by kernel_rfl) (by kernel_rfl) (fun _ _ _ h => h) (Or.inl ⟨by rfl, ?_⟩) (by assumption) ?_
    · intro w hSw; (try dsimp only at hSw); go_simp
    simp only [Act.put, List.setIfInBounds_toArray, List.set_cons_zero, List.set_cons_succ]
    refine wpAnyH_take (i := 4) (oi := ⟨some 39, _, _, _, _, _⟩) (v := .int .i64 (i : Int)) rfl (by kernel_rfl) (by kernel_rfl) (by kernel_rfl) (fun _ _ _ h => h) (Or.inl ⟨by rfl, ?_⟩) (by assumption) ?_
    · intro w hSw; (try dsimp only at hSw); go_simp
    simp only [Act.put, List.setIfInBounds_toArray, List.set_cons_zero, List.set_cons_succ]
    refine wpAnyH_take (i := 5) (oi := ⟨some 40, _, _, _, _, _⟩) (v := .slice (Om.placeFrom A c i) (l.length - i) (c - i)) rfl (by kernel_rfl) (by kernel_rfl) (by kernel_rfl) (fun _ _ _ h => h) (Or.inl ⟨by rfl, ?_⟩) (by assumption) ?_
    · intro w hSw; (try dsimp only at hSw); (have q := SLT.out; go_simp)
    simp only [Act.put, List.setIfInBounds_toArray, List.set_cons_zero, List.set_cons_succ]
    refine wpAnyH_ready (rs := [1]) (by kernel_rfl) (by simp) ?_
    refine AllReadyH.cons (o := ⟨some 36, _, _, _, _, _⟩) rfl (fun K0 hK => ?_) AllReadyH.nil
    have y := Sm.cells_of (show _ = _ from OUT2.out) 0 _ rfl
    have yd : (W2.drew).cell? ⟨K, 0, none⟩ = some (.slice B2 ((m.length + i) + 1) k2) := y
    go_simp
    refine hK.out _ _ (Sm.cells_of WD.out.box 0 _ rfl) (fun hHeld => ?_)
    clear hK K0 y yd
    refine wpAnyH_ready (rs := [6]) (by kernel_rfl) (by simp) ?_
    refine AllReadyH.cons (o := ⟨some 41, _, _, _, _, _⟩) rfl (fun K0 hK => ?_) AllReadyH.nil
    rw [if_pos (by simp [Region.wanted])]
    refine Om.wp_cat0 (.tmp 36) (.tmp 40) rfl (l := ((m ++ (l.take i)) ++ [(⟨p, v⟩ : Om.Pr)])) (by show Value.slice _ _ _ = _; rw [ML2.out]) WD.out.row (C := (Om.placeFrom A c i)) (d := (c - i)) (m := (l.drop i)) (by show Value.slice _ _ _ = _; rw [LT.out]) (WD.out.src.1.drop HCAP.out i) (by have h1 := ML2.out; have h2 := LT.out; have h3 := HMB.out; rw [h1, h2]; omega) WD.out.low ?_
    intro B3 k3 w5 hr5 hg5
    have W5 := Lib.hid (WD.out.push HSRC.out hr5 hg5)
    clear hr5 hg5
    rw [ML2.out, LT.out]
    refine hK.out _ _ (Sm.cells_of W5.out.box 0 _ rfl) (fun hHeld => ?_)
    clear hK K0
    simp only [Act.put, List.setIfInBounds_toArray, List.set_cons_zero, List.set_cons_succ]
    refine wpAnyH_take (i := 7) (oi := ⟨some 42, _, _, _, _, _⟩) (v := .pointer (some ⟨K, 0, none⟩)) rfl (by kernel_rfl) (by kernel_rfl) (by kernel_rfl) (fun _ _ _ h => h) (Or.inl ⟨by rfl, ?_⟩) (by assumption) ?_
    · intro w hSw; (try dsimp only at hSw); go_simp
    simp only [Act.put, List.setIfInBounds_toArray, List.set_cons_zero, List.set_cons_succ]
    refine wpAnyH_ready (rs := [8]) (by kernel_rfl) (by simp) ?_
    refine AllReadyH.cons (o := ⟨none, _, _, _, _, _⟩) rfl (fun K0 hK => ?_) AllReadyH.nil
    obtain ⟨v5, hv5⟩ := W5.out.out
    have y := Sm.cells_of hv5 0 _ rfl
    have f := Sm.free_of hv5 0
    go_simp
    have ML3 : Hid ((((m ++ (l.take i)) ++ [(⟨p, v⟩ : Om.Pr)]) ++ (l.drop i)).length = (((m.length + i) + 1) + (l.length - i))) := by show _ = _; rw [List.length_append, ML2.out, LT.out]
    have WY3 : Hid (Om.Way w (w5.setCell ⟨K, 0, none⟩ (.slice B3 (((m.length + i) + 1) + (l.length - i)) k3)) N K A c l B3 k3 (((m ++ (l.take i)) ++ [(⟨p, v⟩ : Om.Pr)]) ++ (l.drop i))) := (W5.out.set HSRC.out _).1
    have OUT3 : Hid ((w5.setCell ⟨K, 0, none⟩ (.slice B3 (((m.length + i) + 1) + (l.length - i)) k3)).heap[K]? = some (.cells #[.slice B3 (((m.length + i) + 1) + (l.length - i)) k3] 85 (0, 0))) := (W5.out.set HSRC.out _).2
    refine hK.out _ _ (Sm.cells_of WY3.out.box 0 _ rfl) (fun hHeld => ?_)
    clear hK K0 y f hv5 W5 WD hHeld
    generalize (w5.setCell ⟨K, 0, none⟩ (.slice B3 (((m.length + i) + 1) + (l.length - i)) k3)) = W3 at WY3 OUT3 ⊢
    refine wpAnyH_done (by kernel_rfl) ?_ _
    have z := Sm.cells_of OUT3.out 0 _ rfl
    have r0 := Sm.cells_of WY3.out.res 0 _ rfl
    have f0 := Sm.free_of WY3.out.res 0
    have LA := Lib.hid (WY3.out.last (.slice B3 (((m.length + i) + 1) + (l.length - i)) k3))
    have rz := Sm.cells_of LA.out.2.2 0 _ rfl
    have HEQ : Hid ((((m ++ (l.take i)) ++ [(⟨p, v⟩ : Om.Pr)]) ++ (l.drop i)) = Om.put p v l) := by
      show _ = _
      rw [HPUT.out, HM0.out]
      simp
    have HML := ML3.out
    clear HML
    go_wp2_with fail
    refine bodyPost_ret (v := .agg #[.slice B3 (((m.length + i) + 1) + (l.length - i)) k3]) ((Om.results_own15 rfl _ _ _).trans (by go_simp)) rfl ⟨B3, k3, ?_, ?_, ?_⟩
    · rw [← HEQ.out, ML3.out]
    · rw [← HEQ.out, ← HN.out]
      have := LA.out.1
      exact this
    · rw [← HN.out]
      exact LA.out.2.1
  | true =>
    clear SLT LT
    obtain ⟨j, hj⟩ : ∃ j, j = i + 1 := ⟨_, rfl⟩
    have HJL : Hid (j ≤ l.length) := by show j ≤ _; rw [hj]; exact HJ.out rfl
    have hsuc : IntKind.i64.wrap ((i : Int) + 1) = (j : Int) := by have := HJL.out; have := HLL.out; rw [hj]; simp [IntKind.wrap, IntKind.bits, IntKind.signed]; omega
    have HJE := Lib.hid hj
    clear hj
    have SLT : Hid (∀ wx : World, (Instr.sliceAt 22 (.slice A l.length c) (some (.int .i64 (j : Int))) none none).run Tryz.prog wx = .ok (.slice (Om.placeFrom A c j) (l.length - j) (c - j)) wx) := fun wx => Om.run_from wx HJL.out
    have LT : Hid ((l.drop j).length = (l.length - j)) := by show _ = _; rw [List.length_drop]
    go_upto_region 7 with (fail)
    have WD := Lib.hid (WY2.out.step (Below.refl _ _).drew)
    refine wp_region_held_drew (S := fun w' => w'.cell? ⟨N, 0, none⟩ = some (.slice A l.length c)) (by kernel_rfl) (by exact Sm.cells_of WD.out.box 0 _ rfl) (fun hHeld => ?_)
    refine wpAnyH_take (i := 0) (oi := ⟨some 35, _, _, _, _, _⟩) (v := .pointer (some ⟨K, 0, none⟩)) rfl (by kernel_rfl) (by kernel_rfl) (by kernel_rfl) (fun _ _ _ h => h) (Or.inl ⟨by rfl, ?_⟩) (by assumption) ?_
    · intro w hSw; (try dsimp only at hSw); go_simp
    simp only [Act.put, List.setIfInBounds_toArray, List.set_cons_zero, List.set_cons_succ]
    refine wpAnyH_take (i := 2) (oi := ⟨some 37, _, _, _, _, _⟩) (v := .pointer (some ⟨N, 0, none⟩)) rfl (by kernel_rfl) (by kernel_rfl) (by kernel_rfl) (fun _ _ _ h => h) (Or.inl ⟨by rfl, ?_⟩) (by assumption) ?_
    · intro w hSw; (try dsimp only at hSw); go_simp
    simp only [Act.put, List.setIfInBounds_toArray, List.set_cons_zero, List.set_cons_succ]
    refine wpAnyH_take (i := 3) (oi := ⟨some 38, _, _, _, _, _⟩) (v := .slice A l.length c) rfl (by kernel_rfl) (by kernel_rfl) (by kernel_rfl) (fun _ _ _ h => h) (Or.inl ⟨by rfl, ?_⟩) (by assumption) ?_
    · intro w hSw; (try dsimp only at hSw); go_simp
    simp only [Act.put, List.setIfInBounds_toArray, List.set_cons_zero, List.set_cons_succ]
    refine wpAnyH_take (i := 4) (oi := ⟨some 39, _, _, _, _, _⟩) (v := .int .i64 (j : Int)) rfl (by kernel_rfl) (by kernel_rfl) (by kernel_rfl) (fun _ _ _ h => h) (Or.inl ⟨by rfl, ?_⟩) (by assumption) ?_
    · intro w hSw; (try dsimp only at hSw); go_simp
    simp only [Act.put, List.setIfInBounds_toArray, List.set_cons_zero, List.set_cons_succ]
    refine wpAnyH_take (i := 5) (oi := ⟨some 40, _, _, _, _, _⟩) (v := .slice (Om.placeFrom A c j) (l.length - j) (c - j)) rfl (by kernel_rfl) (by kernel_rfl) (by kernel_rfl) (fun _ _ _ h => h) (Or.inl ⟨by rfl, ?_⟩) (by assumption) ?_
    · intro w hSw; (try dsimp only at hSw); (have q := SLT.out; go_simp)
    simp only [Act.put, List.setIfInBounds_toArray, List.set_cons_zero, List.set_cons_succ]
    refine wpAnyH_ready (rs := [1]) (by kernel_rfl) (by simp) ?_
    refine AllReadyH.cons (o := ⟨some 36, _, _, _, _, _⟩) rfl (fun K0 hK => ?_) AllReadyH.nil
    have y := Sm.cells_of (show _ = _ from OUT2.out) 0 _ rfl
    have yd : (W2.drew).cell? ⟨K, 0, none⟩ = some (.slice B2 ((m.length + i) + 1) k2) := y
    go_simp
    refine hK.out _ _ (Sm.cells_of WD.out.box 0 _ rfl) (fun hHeld => ?_)
    clear hK K0 y yd
    refine wpAnyH_ready (rs := [6]) (by kernel_rfl) (by simp) ?_
    refine AllReadyH.cons (o := ⟨some 41, _, _, _, _, _⟩) rfl (fun K0 hK => ?_) AllReadyH.nil
    rw [if_pos (by simp [Region.wanted])]
    refine Om.wp_cat0 (.tmp 36) (.tmp 40) rfl (l := ((m ++ (l.take i)) ++ [(⟨p, v⟩ : Om.Pr)])) (by show Value.slice _ _ _ = _; rw [ML2.out]) WD.out.row (C := (Om.placeFrom A c j)) (d := (c - j)) (m := (l.drop j)) (by show Value.slice _ _ _ = _; rw [LT.out]) (WD.out.src.1.drop HCAP.out j) (by have h1 := ML2.out; have h2 := LT.out; have h3 := HMB.out; rw [h1, h2]; omega) WD.out.low ?_
    intro B3 k3 w5 hr5 hg5
    have W5 := Lib.hid (WD.out.push HSRC.out hr5 hg5)
    clear hr5 hg5
    rw [ML2.out, LT.out]
    refine hK.out _ _ (Sm.cells_of W5.out.box 0 _ rfl) (fun hHeld => ?_)
    clear hK K0
    simp only [Act.put, List.setIfInBounds_toArray, List.set_cons_zero, List.set_cons_succ]
    refine wpAnyH_take (i := 7) (oi := ⟨some 42, _, _, _, _, _⟩) (v := .pointer (some ⟨K, 0, none⟩)) rfl (by kernel_rfl) (by kernel_rfl) (by kernel_rfl) (fun _ _ _ h => h) (Or.inl ⟨by rfl, ?_⟩) (by assumption) ?_
    · intro w hSw; (try dsimp only at hSw); go_simp
    simp only [Act.put, List.setIfInBounds_toArray, List.set_cons_zero, List.set_cons_succ]
    refine wpAnyH_ready (rs := [8]) (by kernel_rfl) (by simp) ?_
    refine AllReadyH.cons (o := ⟨none, _, _, _, _, _⟩) rfl (fun K0 hK => ?_) AllReadyH.nil
    obtain ⟨v5, hv5⟩ := W5.out.out
    have y := Sm.cells_of hv5 0 _ rfl
    have f := Sm.free_of hv5 0
    go_simp
    have ML3 : Hid ((((m ++ (l.take i)) ++ [(⟨p, v⟩ : Om.Pr)]) ++ (l.drop j)).length = (((m.length + i) + 1) + (l.length - j))) := by show _ = _; rw [List.length_append, ML2.out, LT.out]
    have WY3 : Hid (Om.Way w (w5.setCell ⟨K, 0, none⟩ (.slice B3 (((m.length + i) + 1) + (l.length - j)) k3)) N K A c l B3 k3 (((m ++ (l.take i)) ++ [(⟨p, v⟩ : Om.Pr)]) ++ (l.drop j))) := (W5.out.set HSRC.out _).1
    have OUT3 : Hid ((w5.setCell ⟨K, 0, none⟩ (.slice B3 (((m.length + i) + 1) + (l.length - j)) k3)).heap[K]? = some (.cells #[.slice B3 (((m.length + i) + 1) + (l.length - j)) k3] 85 (0, 0))) := (W5.out.set HSRC.out _).2
    refine hK.out _ _ (Sm.cells_of WY3.out.box 0 _ rfl) (fun hHeld => ?_)
    clear hK K0 y f hv5 W5 WD hHeld
    generalize (w5.setCell ⟨K, 0, none⟩ (.slice B3 (((m.length + i) + 1) + (l.length - j)) k3)) = W3 at WY3 OUT3 ⊢
    refine wpAnyH_done (by kernel_rfl) ?_ _
    have z := Sm.cells_of OUT3.out 0 _ rfl
    have r0 := Sm.cells_of WY3.out.res 0 _ rfl
    have f0 := Sm.free_of WY3.out.res 0
    have LA := Lib.hid (WY3.out.last (.slice B3 (((m.length + i) + 1) + (l.length - j)) k3))
    have rz := Sm.cells_of LA.out.2.2 0 _ rfl
    have HEQ : Hid ((((m ++ (l.take i)) ++ [(⟨p, v⟩ : Om.Pr)]) ++ (l.drop j)) = Om.put p v l) := by
      show _ = _
      rw [HPUT.out, HM0.out]
      simp [HJE.out]
    have HML := ML3.out
    clear HML
    go_wp2_with fail
    refine bodyPost_ret (v := .agg #[.slice B3 (((m.length + i) + 1) + (l.length - j)) k3]) ((Om.results_own15 rfl _ _ _).trans (by go_simp)) rfl ⟨B3, k3, ?_, ?_, ?_⟩
    · rw [← HEQ.out, ML3.out]
    · rw [← HEQ.out, ← HN.out]
      have := LA.out.1
      exact this
    · rw [← HN.out]
      exact LA.out.2.1
set_option maxRecDepth 100000 in
set_option maxHeartbeats 4000000 in
theorem r13Without_any {w : World} {A : Option Addr} {c : Nat} {l : List Om.Pr} (h : Om.Ref w A c l) (hl : l.length ≤ 900) (hs : ∀ x ∈ l, x.p.size ≤ 1000000) (p : ByteArray) :
    Calls Tryz.prog 47 #[.agg #[.slice A l.length c], .string p] w fun e w' => ∃ B k, e = .returned (.agg #[.slice B (Om.del p l).length k]) ∧ Om.Ref w' B k (Om.del p l) ∧ Om.Fresh w A l B (Om.del p l) ∧ Below w.heap.size w w' := by
  obtain ⟨w2, hw2⟩ : ∃ w2, w2 = (w.alloc (.cells #[.slice A l.length c] 85)).alloc (.cells #[.slice none 0 0] 85) := ⟨_, rfl⟩
  have b2 : Below w.heap.size w w2 := by rw [hw2]; exact ((Below.refl _ w).alloc (Nat.le_refl _) _).alloc (by simp) _
  have FI := Lib.hid (r13find_any (w := w2) c (h.below b2).1 (by omega) hs p)
  have c2 : w2.cell? ⟨w.heap.size, 0, none⟩ = some (.slice A l.length c) := by
    rw [hw2]
    exact Sm.cells_of ((Below.heap_alloc _ _ _ (by simp)).trans (heap_alloc_new w (.cells #[.slice A l.length c] 85))) 0 _ rfl
  have MK := Lib.hid (fun (W : World) (hW : Below w2.heap.size w2 W) => Om.Way.made h (by rw [← hw2]; exact hW))
  have HSRC : Hid (∀ b off, A = some ⟨b, off, none⟩ → l ≠ [] → b < w.heap.size) := fun b off e h0 => by
    rcases h.1 with e1 | ⟨b', o', e1, e2, _⟩
    · exact absurd e1 h0
    · rw [e] at e1
      simp only [Option.some.injEq, Addr.mk.injEq] at e1
      omega
  have HR := Lib.hid h
  have hcap := h.2
  obtain ⟨g, hg⟩ : ∃ g, g = (Om.get p l).isSome := ⟨_, rfl⟩
  rw [← hg] at FI
  obtain ⟨i, hi⟩ : ∃ i, i = Om.pos p l := ⟨_, rfl⟩
  rw [← hi] at FI
  have hil : i ≤ l.length := by rw [hi]; exact Om.pos_le p l
  have HDEL : Hid (Om.del p l = if g = true then l.take i ++ l.drop (i + 1) else l) := by show _ = _; rw [hi, hg]; exact Om.del_pos p l
  have HIL := Lib.hid hil
  have HCAP := Lib.hid hcap
  have HLL := Lib.hid hl
  have HJ : Hid (g = true → i + 1 ≤ l.length) := fun e => by rw [hi]; exact Om.pos_lt (by rw [← hg]; exact e)
  have r2 : w2.heap[w.heap.size + 1]? = some (.cells #[.slice none 0 0] 85 (0, 0)) := by
    rw [hw2]
    have := heap_alloc_new (w.alloc (.cells #[.slice A l.length c] 85)) (.cells #[.slice none 0 0] 85)
    simpa using this
  have HR2 := Lib.hid r2
  have HB2 := Lib.hid b2
  have HC2 : Hid (w2.heap[w.heap.size]? = some (.cells #[.slice A l.length c] 85 (0, 0))) := by
    show _ = _
    rw [hw2]
    exact (Below.heap_alloc _ _ _ (by simp)).trans (heap_alloc_new w (.cells #[.slice A l.length c] 85))
  clear h hs b2 hi hg r2
  go_enter Tryz.func47, Tryz.ntmps47
  go_upto_region 1 with (fail)
  rw [← hw2]
  clear hw2
  cases g with
  | false =>
    go_wp2_with (go_at_call 80; refine FI.out.mono ?_; rintro e w3 ⟨rfl, k3⟩; have G3 := Lib.hid ((k3.block (w.heap.size + 1) (Sm.lt_of HR2.out)).trans HR2.out); have C3 := Lib.hid ((k3.block w.heap.size (Sm.lt_of HC2.out)).trans HC2.out); have z0 := Sm.cells_of C3.out 0 _ rfl; have r0 := Sm.cells_of G3.out 0 _ rfl; have f0 := Sm.free_of G3.out 0)
    have rz := Sm.cells_of (Sm.heap_set G3.out 0 (.slice A l.length c)) 0 _ rfl
    have b3 : Below w.heap.size w (w3.setCell ⟨w.heap.size + 1, 0, none⟩ (.slice A l.length c)) := (HB2.out.trans (k3.mono HB2.out.size)).setCell (p := ⟨w.heap.size + 1, 0, none⟩) (by show w.heap.size ≤ w.heap.size + 1; omega) _
    have HB3 := Lib.hid b3
    have e : Om.del p l = l := by rw [HDEL.out]; rfl
    have HE := Lib.hid e
    clear b3 e k3
    refine bodyPost_ret (v := .agg #[.slice A l.length c]) ((Om.results_own15 rfl _ _ _).trans (by go_simp)) rfl ⟨A, c, ?_, ?_, ?_, HB3.out⟩
    · rw [HE.out]
    · rw [HE.out]
      exact HR.out.below HB3.out
    · rw [HE.out]
      exact fun b off e1 e2 => .inr ⟨e1, e2⟩
  | true =>
    clear HR2 HC2 HB2
    go_upto_region 5 with (go_at_call 80; refine FI.out.mono ?_; rintro e w3 ⟨rfl, k3⟩)
    have WY0 := Lib.hid (MK.out w3 k3).1
    have OUT0 := Lib.hid (MK.out w3 k3).2
    obtain ⟨N, hN⟩ : ∃ N, N = w.heap.size := ⟨_, rfl⟩
    obtain ⟨K, hK⟩ : ∃ K, K = w3.heap.size := ⟨_, rfl⟩
    obtain ⟨W0, hW0⟩ : ∃ W0, W0 = w3.alloc (.cells #[.slice none 0 0] 85) := ⟨_, rfl⟩
    have HN := Lib.hid hN
    rw [← hN, ← hK, ← hW0] at WY0
    rw [← hK, ← hW0] at OUT0
    rw [← hN] at HSRC
    rw [← hN, ← hK, ← hW0]
    obtain ⟨B0, k0, m, hm, WY0, OUT0⟩ : ∃ (B : Option Addr) (k : Nat) (m : List Om.Pr), m = [] ∧ Hid (Om.Way w W0 N K A c l B k m) ∧ Hid (W0.heap[K]? = some (.cells #[.slice B m.length k] 85 (0, 0))) := ⟨none, 0, [], rfl, WY0, OUT0⟩
    have HM0 := Lib.hid hm
    have ML0 : Hid (m.length = m.length) := rfl
    have LT : Hid ((l.take i).length = i) := by show _ = _; rw [List.length_take]; omega
    have MB : m.length = 0 := by rw [hm]; rfl
    have HMB := Lib.hid MB
    have SLT : Hid (∀ wx : World, (Instr.sliceAt 22 (.slice A l.length c) none (some (.int .i64 (i : Int))) none).run Tryz.prog wx = .ok (.slice A i c) wx) := fun wx => Om.run_to wx hil hcap
    clear hN hK hW0 MK FI k3 c2 hm MB
    have WD := Lib.hid (WY0.out.step (Below.refl _ _).drew)
    refine wp_region_held_drew (S := fun w' => w'.cell? ⟨N, 0, none⟩ = some (.slice A l.length c)) (by kernel_rfl) (by exact Sm.cells_of WD.out.box 0 _ rfl) (fun hHeld => ?_)
    refine wpAnyH_take (i := 0) (oi := ⟨some 17, _, _, _, _, _⟩) (v := .pointer (some ⟨K, 0, none⟩)) rfl (by kernel_rfl) (by kernel_rfl) (by kernel_rfl) (fun _ _ _ h => h) (Or.inl ⟨by rfl, ?_⟩) (by assumption) ?_
    · intro w hSw; (try dsimp only at hSw); go_simp
    simp only [Act.put, List.setIfInBounds_toArray, List.set_cons_zero, List.set_cons_succ]
    refine wpAnyH_take (i := 2) (oi := ⟨some 19, _, _, _, _, _⟩) (v := .pointer (some ⟨N, 0, none⟩)) rfl (by kernel_rfl) (by kernel_rfl) (by kernel_rfl) (fun _ _ _ h => h) (Or.inl ⟨by rfl, ?_⟩) (by assumption) ?_
    · intro w hSw; (try dsimp only at hSw); go_simp
    simp only [Act.put, List.setIfInBounds_toArray, List.set_cons_zero, List.set_cons_succ]
    refine wpAnyH_take (i := 3) (oi := ⟨some 20, _, _, _, _, _⟩) (v := .slice A l.length c) rfl (by kernel_rfl) (by kernel_rfl) (by kernel_rfl) (fun _ _ _ h => h) (Or.inl ⟨by rfl, ?_⟩) (by assumption) ?_
    · intro w hSw; (try dsimp only at hSw); go_simp
    simp only [Act.put, List.setIfInBounds_toArray, List.set_cons_zero, List.set_cons_succ]
    refine wpAnyH_take (i := 4) (oi := ⟨some 21, _, _, _, _, _⟩) (v := .int .i64 (i : Int)) rfl (by kernel_rfl) (by kernel_rfl) (by kernel_rfl) (fun _ _ _ h => h) (Or.inl ⟨by rfl, ?_⟩) (by assumption) ?_
    · intro w hSw; (try dsimp only at hSw); go_simp
    simp only [Act.put, List.setIfInBounds_toArray, List.set_cons_zero, List.set_cons_succ]
    refine wpAnyH_take (i := 5) (oi := ⟨some 22, _, _, _, _, _⟩) (v := .slice A i c) rfl (by kernel_rfl) (by kernel_rfl) (by kernel_rfl) (fun _ _ _ h => h) (Or.inl ⟨by rfl, ?_⟩) (by assumption) ?_
    · intro w hSw; (try dsimp only at hSw); (have q := SLT.out; go_simp)
    simp only [Act.put, List.setIfInBounds_toArray, List.set_cons_zero, List.set_cons_succ]
    refine wpAnyH_ready (rs := [1]) (by kernel_rfl) (by simp) ?_
    refine AllReadyH.cons (o := ⟨some 18, _, _, _, _, _⟩) rfl (fun K0 hK => ?_) AllReadyH.nil
    have y := Sm.cells_of (show _ = _ from OUT0.out) 0 _ rfl
    have yd : (W0.drew).cell? ⟨K, 0, none⟩ = some (.slice B0 m.length k0) := y
    go_simp
    refine hK.out _ _ (Sm.cells_of WD.out.box 0 _ rfl) (fun hHeld => ?_)
    clear hK K0 y yd
    refine wpAnyH_ready (rs := [6]) (by kernel_rfl) (by simp) ?_
    refine AllReadyH.cons (o := ⟨some 23, _, _, _, _, _⟩) rfl (fun K0 hK => ?_) AllReadyH.nil
    rw [if_pos (by simp [Region.wanted])]
    refine Om.wp_cat0 (.tmp 18) (.tmp 22) rfl (l := m) (by show Value.slice _ _ _ = _; rw [ML0.out]) WD.out.row (C := A) (d := c) (m := (l.take i)) (by show Value.slice _ _ _ = _; rw [LT.out]) (WD.out.src.1.take i) (by have h1 := ML0.out; have h2 := LT.out; have h3 := HMB.out; rw [h1, h2]; omega) WD.out.low ?_
    intro B1 k1 w5 hr5 hg5
    have W5 := Lib.hid (WD.out.push HSRC.out hr5 hg5)
    clear hr5 hg5
    rw [ML0.out, LT.out]
    refine hK.out _ _ (Sm.cells_of W5.out.box 0 _ rfl) (fun hHeld => ?_)
    clear hK K0
    simp only [Act.put, List.setIfInBounds_toArray, List.set_cons_zero, List.set_cons_succ]
    refine wpAnyH_take (i := 7) (oi := ⟨some 24, _, _, _, _, _⟩) (v := .pointer (some ⟨K, 0, none⟩)) rfl (by kernel_rfl) (by kernel_rfl) (by kernel_rfl) (fun _ _ _ h => h) (Or.inl ⟨by rfl, ?_⟩) (by assumption) ?_
    · intro w hSw; (try dsimp only at hSw); go_simp
    simp only [Act.put, List.setIfInBounds_toArray, List.set_cons_zero, List.set_cons_succ]
    refine wpAnyH_ready (rs := [8]) (by kernel_rfl) (by simp) ?_
    refine AllReadyH.cons (o := ⟨none, _, _, _, _, _⟩) rfl (fun K0 hK => ?_) AllReadyH.nil
    obtain ⟨v5, hv5⟩ := W5.out.out
    have y := Sm.cells_of hv5 0 _ rfl
    have f := Sm.free_of hv5 0
    go_simp
    have ML1 : Hid ((m ++ (l.take i)).length = (m.length + i)) := by show _ = _; rw [List.length_append, ML0.out, LT.out]
    have WY1 : Hid (Om.Way w (w5.setCell ⟨K, 0, none⟩ (.slice B1 (m.length + i) k1)) N K A c l B1 k1 (m ++ (l.take i))) := (W5.out.set HSRC.out _).1
    have OUT1 : Hid ((w5.setCell ⟨K, 0, none⟩ (.slice B1 (m.length + i) k1)).heap[K]? = some (.cells #[.slice B1 (m.length + i) k1] 85 (0, 0))) := (W5.out.set HSRC.out _).2
    refine hK.out _ _ (Sm.cells_of WY1.out.box 0 _ rfl) (fun hHeld => ?_)
    clear hK K0 y f hv5 W5 WD hHeld
    generalize (w5.setCell ⟨K, 0, none⟩ (.slice B1 (m.length + i) k1)) = W1 at WY1 OUT1 ⊢
    refine wpAnyH_done (by kernel_rfl) ?_ _
    clear SLT LT
    obtain ⟨j, hj⟩ : ∃ j, j = i + 1 := ⟨_, rfl⟩
    have HJL : Hid (j ≤ l.length) := by show j ≤ _; rw [hj]; exact HJ.out (by trivial)
    have hsuc : IntKind.i64.wrap ((i : Int) + 1) = (j : Int) := by have := HJL.out; have := HLL.out; rw [hj]; simp [IntKind.wrap, IntKind.bits, IntKind.signed]; omega
    have HJE := Lib.hid hj
    clear hj
    have SLT : Hid (∀ wx : World, (Instr.sliceAt 22 (.slice A l.length c) (some (.int .i64 (j : Int))) none none).run Tryz.prog wx = .ok (.slice (Om.placeFrom A c j) (l.length - j) (c - j)) wx) := fun wx => Om.run_from wx HJL.out
    have LT : Hid ((l.drop j).length = (l.length - j)) := by show _ = _; rw [List.length_drop]
    go_upto_region 6 with (fail)
    have WD := Lib.hid (WY1.out.step (Below.refl _ _).drew)
    refine wp_region_held_drew (S := fun w' => w'.cell? ⟨N, 0, none⟩ = some (.slice A l.length c)) (by kernel_rfl) (by exact Sm.cells_of WD.out.box 0 _ rfl) (fun hHeld => ?_)
    refine wpAnyH_take (i := 0) (oi := ⟨some 25, _, _, _, _, _⟩) (v := .pointer (some ⟨K, 0, none⟩)) rfl (by kernel_rfl) (by kernel_rfl) (by kernel_rfl) (fun _ _ _ h => h) (Or.inl ⟨by rfl, ?_⟩) (by assumption) ?_
    · intro w hSw; (try dsimp only at hSw); go_simp
    simp only [Act.put, List.setIfInBounds_toArray, List.set_cons_zero, List.set_cons_succ]
    refine wpAnyH_take (i := 2) (oi := ⟨some 27, _, _, _, _, _⟩) (v := .pointer (some ⟨N, 0, none⟩)) rfl (by kernel_rfl) (by kernel_rfl) (by kernel_rfl) (fun _ _ _ h => h) (Or.inl ⟨by rfl, ?_⟩) (by assumption) ?_
    · intro w hSw; (try dsimp only at hSw); go_simp
    simp only [Act.put, List.setIfInBounds_toArray, List.set_cons_zero, List.set_cons_succ]
    refine wpAnyH_take (i := 3) (oi := ⟨some 28, _, _, _, _, _⟩) (v := .slice A l.length c) rfl (by kernel_rfl) (by kernel_rfl) (by kernel_rfl) (fun _ _ _ h => h) (Or.inl ⟨by rfl, ?_⟩) (by assumption) ?_
    · intro w hSw; (try dsimp only at hSw); go_simp
    simp only [Act.put, List.setIfInBounds_toArray, List.set_cons_zero, List.set_cons_succ]
    refine wpAnyH_take (i := 4) (oi := ⟨some 29, _, _, _, _, _⟩) (v := .int .i64 (i : Int)) rfl (by kernel_rfl) (by kernel_rfl) (by kernel_rfl) (fun _ _ _ h => h) (Or.inl ⟨by rfl, ?_⟩) (by assumption) ?_
    · intro w hSw; (try dsimp only at hSw); go_simp
    simp only [Act.put, List.setIfInBounds_toArray, List.set_cons_zero, List.set_cons_succ]
    refine wpAnyH_take (i := 5) (oi := ⟨some 30, _, _, _, _, _⟩) (v := .int .i64 (j : Int)) rfl (by kernel_rfl) (by kernel_rfl) (by kernel_rfl) (fun _ _ _ h => h) (Or.inl ⟨by rfl, ?_⟩) (by assumption) ?_
    · intro w hSw; (try dsimp only at hSw); go_simp
    simp only [Act.put, List.setIfInBounds_toArray, List.set_cons_zero, List.set_cons_succ]
    refine wpAnyH_take (i := 6) (oi := ⟨some 31, _, _, _, _, _⟩) (v := .slice (Om.placeFrom A c j) (l.length - j) (c - j)) rfl (by kernel_rfl) (by kernel_rfl) (by kernel_rfl) (fun _ _ _ h => h) (Or.inl ⟨by rfl, ?_⟩) (by assumption) ?_
    · intro w hSw; (try dsimp only at hSw); (have q := SLT.out; go_simp)
    simp only [Act.put, List.setIfInBounds_toArray, List.set_cons_zero, List.set_cons_succ]
    refine wpAnyH_ready (rs := [1]) (by kernel_rfl) (by simp) ?_
    refine AllReadyH.cons (o := ⟨some 26, _, _, _, _, _⟩) rfl (fun K0 hK => ?_) AllReadyH.nil
    have y := Sm.cells_of (show _ = _ from OUT1.out) 0 _ rfl
    have yd : (W1.drew).cell? ⟨K, 0, none⟩ = some (.slice B1 (m.length + i) k1) := y
    go_simp
    refine hK.out _ _ (Sm.cells_of WD.out.box 0 _ rfl) (fun hHeld => ?_)
    clear hK K0 y yd
    refine wpAnyH_ready (rs := [7]) (by kernel_rfl) (by simp) ?_
    refine AllReadyH.cons (o := ⟨some 32, _, _, _, _, _⟩) rfl (fun K0 hK => ?_) AllReadyH.nil
    rw [if_pos (by simp [Region.wanted])]
    refine Om.wp_cat0 (.tmp 26) (.tmp 31) rfl (l := (m ++ (l.take i))) (by show Value.slice _ _ _ = _; rw [ML1.out]) WD.out.row (C := (Om.placeFrom A c j)) (d := (c - j)) (m := (l.drop j)) (by show Value.slice _ _ _ = _; rw [LT.out]) (WD.out.src.1.drop HCAP.out j) (by have h1 := ML1.out; have h2 := LT.out; have h3 := HMB.out; rw [h1, h2]; omega) WD.out.low ?_
    intro B3 k3 w5 hr5 hg5
    have W5 := Lib.hid (WD.out.push HSRC.out hr5 hg5)
    clear hr5 hg5
    rw [ML1.out, LT.out]
    refine hK.out _ _ (Sm.cells_of W5.out.box 0 _ rfl) (fun hHeld => ?_)
    clear hK K0
    simp only [Act.put, List.setIfInBounds_toArray, List.set_cons_zero, List.set_cons_succ]
    refine wpAnyH_take (i := 8) (oi := ⟨some 33, _, _, _, _, _⟩) (v := .pointer (some ⟨K, 0, none⟩)) rfl (by kernel_rfl) (by kernel_rfl) (by kernel_rfl) (fun _ _ _ h => h) (Or.inl ⟨by rfl, ?_⟩) (by assumption) ?_
    · intro w hSw; (try dsimp only at hSw); go_simp
    simp only [Act.put, List.setIfInBounds_toArray, List.set_cons_zero, List.set_cons_succ]
    refine wpAnyH_ready (rs := [9]) (by kernel_rfl) (by simp) ?_
    refine AllReadyH.cons (o := ⟨none, _, _, _, _, _⟩) rfl (fun K0 hK => ?_) AllReadyH.nil
    obtain ⟨v5, hv5⟩ := W5.out.out
    have y := Sm.cells_of hv5 0 _ rfl
    have f := Sm.free_of hv5 0
    go_simp
    have ML3 : Hid (((m ++ (l.take i)) ++ (l.drop j)).length = ((m.length + i) + (l.length - j))) := by show _ = _; rw [List.length_append, ML1.out, LT.out]
    have WY3 : Hid (Om.Way w (w5.setCell ⟨K, 0, none⟩ (.slice B3 ((m.length + i) + (l.length - j)) k3)) N K A c l B3 k3 ((m ++ (l.take i)) ++ (l.drop j))) := (W5.out.set HSRC.out _).1
    have OUT3 : Hid ((w5.setCell ⟨K, 0, none⟩ (.slice B3 ((m.length + i) + (l.length - j)) k3)).heap[K]? = some (.cells #[.slice B3 ((m.length + i) + (l.length - j)) k3] 85 (0, 0))) := (W5.out.set HSRC.out _).2
    refine hK.out _ _ (Sm.cells_of WY3.out.box 0 _ rfl) (fun hHeld => ?_)
    clear hK K0 y f hv5 W5 WD hHeld
    generalize (w5.setCell ⟨K, 0, none⟩ (.slice B3 ((m.length + i) + (l.length - j)) k3)) = W3 at WY3 OUT3 ⊢
    refine wpAnyH_done (by kernel_rfl) ?_ _
    have z := Sm.cells_of OUT3.out 0 _ rfl
    have r0 := Sm.cells_of WY3.out.res 0 _ rfl
    have f0 := Sm.free_of WY3.out.res 0
    have LA := Lib.hid (WY3.out.last (.slice B3 ((m.length + i) + (l.length - j)) k3))
    have rz := Sm.cells_of LA.out.2.2 0 _ rfl
    have HEQ : Hid (((m ++ (l.take i)) ++ (l.drop j)) = Om.del p l) := by
      show _ = _
      rw [HDEL.out, HM0.out]
      simp [HJE.out]
    have HML := ML3.out
    clear HML
    go_wp2_with fail
    refine bodyPost_ret (v := .agg #[.slice B3 ((m.length + i) + (l.length - j)) k3]) ((Om.results_own15 rfl _ _ _).trans (by go_simp)) rfl ⟨B3, k3, ?_, ?_, ?_, ?_⟩
    · rw [← HEQ.out, ML3.out]
    · rw [← HEQ.out]
      exact LA.out.1.ref
    · rw [← HEQ.out]
      exact (HN.out ▸ LA.out.1).fresh A l
    · rw [← HN.out]
      exact LA.out.2.1
theorem r13With_ref {w : World} {A : Option Addr} {c : Nat} {l : List Om.Pr} (h : Om.Ref w A c l) (hl : l.length ≤ 900) (hs : ∀ x ∈ l, x.p.size ≤ 1000000) (p v : ByteArray) :
    Calls Tryz.prog 44 #[.agg #[.slice A l.length c], .string p, .string v] w fun e w' => ∃ B k, e = .returned (.agg #[.slice B (Om.put p v l).length k]) ∧ Om.Ref w' B k (Om.put p v l) ∧ Om.Fresh w A l B (Om.put p v l) ∧ Below w.heap.size w w' :=
  (r13With_any h hl hs p v).mono fun _ _ ⟨B, k, h1, h2, h3⟩ => ⟨B, k, h1, h2.ref, h2.fresh A l, h3⟩
end Go.Proofs.YtiehcplepneajaaGreatDoor
