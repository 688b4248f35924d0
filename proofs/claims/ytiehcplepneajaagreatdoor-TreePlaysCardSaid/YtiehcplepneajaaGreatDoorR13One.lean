/-
  Texts that belong together, laid into one.
-/
import Derived.Test.YtiehcplepneajaaGreatDoorR13Way
import Derived.Test.YtiehcplepneajaaGreatDoorPaRefCut
import Derived.Test.YtiehcplepneajaaGreatDoorOmPut
import Derived.Test.YtiehcplepneajaaGreatDoorR12Right
import Derived.Test.YtiehcplepneajaaGreatDoorPaMounts
import Derived.Test.YtiehcplepneajaaGreatDoorBaActs
import Derived.Test.YtiehcplepneajaaGreatDoorOmMath
import Derived.Test.YtiehcplepneajaaGreatDoorMBase
import Derived.Test.YtiehcplepneajaaGreatDoorOmOwn
import Derived.Test.YtiehcplepneajaaGreatDoorOmGreat
import Derived.Test.YtiehcplepneajaaGreatDoorOmText
import Derived.Test.YtiehcplepneajaaGreatDoorR13Find
import Derived.Test.YtiehcplepneajaaGreatDoorTrD
/-
  The document's With and Without.
-/
namespace Go.Proofs.YtiehcplepneajaaGreatDoor
open Go.RowKit
theorem Om.results_own15 {fn : Func} {p : Tmp} {ty : TypeId} (h : fn.results = #[.cell p ty]) (tmps : Array Value) (P : Program) (w : World) :
    (results fn tmps).run P w = ((asAddr (tmps.getD p undef)).run P w).andThen fun a w₁ => (loadVar ty a).run P w₁ := by
  simp only [results, h]
  simp [Sem.run_bind, Result.andThen]
/-- What was made lies in new memory, or is what was handed in. -/
def Om.Fresh (w : World) (A : Option Addr) (l : List Om.Pr) (B : Option Addr) (m : List Om.Pr) : Prop := ∀ b off, B = some ⟨b, off, none⟩ → m ≠ [] → w.heap.size ≤ b ∨ (A = some ⟨b, off, none⟩ ∧ l ≠ [])
theorem Om.Row.fresh {w w' : World} {B : Option Addr} {k : Nat} {m : List Om.Pr} (h : Om.Row w' w.heap.size B k m) (A : Option Addr) (l : List Om.Pr) : Om.Fresh w A l B m := fun b off e _ => .inl (by
  have : (Value.slice B m.length k).ownBlock = some b := by rw [e]; rfl
  exact (h.blk this).1)
theorem Om.pos_lt {p : ByteArray} {l : List Om.Pr} (h : (Om.get p l).isSome = true) : Om.pos p l + 1 ≤ l.length := by
  rw [Om.get_pos p l] at h
  cases hx : l[Om.pos p l]? with
  | none => rw [hx] at h; cases h
  | some x => exact (List.getElem?_eq_some_iff.1 hx).1
set_option maxRecDepth 100000 in
set_option maxHeartbeats 4000000 in
theorem r13With_any {w : World} {A : Option Addr} {c : Nat} {l : List Om.Pr} (h : Om.Ref w A c l) (hl : l.length ≤ 900) (hs : ∀ x ∈ l, x.p.size ≤ 1000000) (p v : ByteArray) :
    Calls Tryz.prog 44 #[.agg #[.slice A l.length c], .string p, .string v] w fun e w' => ∃ B k, e = .returned (.agg #[.slice B (Om.put p v l).length k]) ∧ Om.Row w' w.heap.size B k (Om.put p v l) ∧ Below w.heap.size w w' := by
  obtain ⟨w2, hw2⟩ : ∃ w2, w2 = (w.alloc (.cells #[.slice A l.length c] 85)).alloc (.cells #[.slice none 0 0] 85) := ⟨_, rfl⟩
  have b2 : Below w.heap.size w w2 := by rw [hw2]; exact ((Below.refl _ w).alloc (Nat.le_refl _) _).alloc (by simp) _
  have FI := Lib.hid (r13find_any (w := w2) c (h.below b2).1 (by omega) hs p)
  have c2 : w2.cell? ⟨w.heap.size, 0, none⟩ = some (.slice A l.length c) := by
    rw [hw2]
    exact Sm.cells_of ((Below.heap_alloc _ _ _ (by simp)).trans (heap_alloc_new w (.cells #[.slice A l.length c] 85))) 0 _ rfl
  have MK := Lib.hid (fun (W : World) (hW : Below w2.heap.size w2 W) => Om.Way.made h (by rw [← hw2]; exact hW))
  have HSRC : Hid (∀ b off, A = some ⟨b, off, none⟩ → l ≠ [] → b < w.heap.size) := fun b off e h0 => by
    rcases h.1 with e1 | ⟨b', o', e1, e2, _⟩
    · exact absurd e1 h0
    · rw [e] at e1
      simp only [Option.some.injEq, Addr.mk.injEq] at e1
      omega
  have HR := Lib.hid h
  have hcap := h.2
  obtain ⟨g, hg⟩ : ∃ g, g = (Om.get p l).isSome := ⟨_, rfl⟩
  rw [← hg] at FI
  obtain ⟨i, hi⟩ : ∃ i, i = Om.pos p l := ⟨_, rfl⟩
  rw [← hi] at FI
  have hil : i ≤ l.length := by rw [hi]; exact Om.pos_le p l
  have HPUT : Hid (Om.put p v l = l.take i ++ ⟨p, v⟩ :: l.drop (i + if g then 1 else 0)) := by show _ = _; rw [hi, hg]; exact Om.put_pos p v l
  have HIL := Lib.hid hil
  have HCAP := Lib.hid hcap
  have HLL := Lib.hid hl
  have HJ : Hid (g = true → i + 1 ≤ l.length) := fun e => by rw [hi]; exact Om.pos_lt (by rw [← hg]; exact e)
  clear h hs b2 hi hg
  go_enter Tryz.func44, Tryz.ntmps44
  go_upto_region 1 with (fail)
  rw [← hw2]
  clear hw2
  go_upto_region 3 with (go_at_call 80; refine FI.out.mono ?_; rintro e w3 ⟨rfl, k3⟩)
  have WY0 := Lib.hid (MK.out w3 k3).1
  have OUT0 := Lib.hid (MK.out w3 k3).2
  obtain ⟨N, hN⟩ : ∃ N, N = w.heap.size := ⟨_, rfl⟩
  obtain ⟨K, hK⟩ : ∃ K, K = w3.heap.size := ⟨_, rfl⟩
  obtain ⟨W0, hW0⟩ : ∃ W0, W0 = w3.alloc (.cells #[.slice none 0 0] 85) := ⟨_, rfl⟩
  have HN := Lib.hid hN
  rw [← hN, ← hK, ← hW0] at WY0
  rw [← hK, ← hW0] at OUT0
  rw [← hN] at HSRC
  rw [← hN, ← hK, ← hW0]
  obtain ⟨B0, k0, m, hm, WY0, OUT0⟩ : ∃ (B : Option Addr) (k : Nat) (m : List Om.Pr), m = [] ∧ Hid (Om.Way w W0 N K A c l B k m) ∧ Hid (W0.heap[K]? = some (.cells #[.slice B m.length k] 85 (0, 0))) := ⟨none, 0, [], rfl, WY0, OUT0⟩
  have HM0 := Lib.hid hm
  have ML0 : Hid (m.length = m.length) := rfl
  have LT : Hid ((l.take i).length = i) := by show _ = _; rw [List.length_take]; omega
  have MB : m.length = 0 := by rw [hm]; rfl
  have HMB := Lib.hid MB
  have SLT : Hid (∀ wx : World, (Instr.sliceAt 22 (.slice A l.length c) none (some (.int .i64 (i : Int))) none).run Tryz.prog wx = .ok (.slice A i c) wx) := fun wx => Om.run_to wx hil hcap
  clear hN hK hW0 MK FI k3 c2 hm MB
  have WD := Lib.hid (WY0.out.step (Below.refl _ _).drew)
  refine wp_region_held_drew (S := fun w' => w'.cell? ⟨N, 0, none⟩ = some (.slice A l.length c)) (by kernel_rfl) (by exact Sm.cells_of WD.out.box 0 _ rfl) (fun hHeld => ?_)
  refine wpAnyH_take (i := 0) (oi := ⟨some 16, _, _, _, _, _⟩) (v := .pointer (some ⟨K, 0, none⟩)) rfl (by kernel_rfl) (by kernel_rfl) (by kernel_rfl) (fun _ _ _ h => h) (Or.inl ⟨by rfl, ?_⟩) (by assumption) ?_
  · intro w hSw; (try dsimp only at hSw); go_simp
  simp only [Act.put, List.setIfInBounds_toArray, List.set_cons_zero, List.set_cons_succ]
  refine wpAnyH_take (i := 2) (oi := ⟨some 18, _, _, _, _, _⟩) (v := .pointer (some ⟨N, 0, none⟩)) rfl (by kernel_rfl) (by kernel_rfl) (by kernel_rfl) (fun _ _ _ h => h) (Or.inl ⟨by rfl, ?_⟩) (by assumption) ?_
  · intro w hSw; (try dsimp only at hSw); go_simp
  simp only [Act.put, List.setIfInBounds_toArray, List.set_cons_zero, List.set_cons_succ]
  refine wpAnyH_take (i := 3) (oi := ⟨some 19, _, _, _, _, _⟩) (v := .slice A l.length c) rfl (by kernel_rfl) (by kernel_rfl) (by kernel_rfl) (fun _ _ _ h => h) (Or.inl ⟨by rfl, ?_⟩) (by assumption) ?_
  · intro w hSw; (try dsimp only at hSw); go_simp
  simp only [Act.put, List.setIfInBounds_toArray, List.set_cons_zero, List.set_cons_succ]
  refine wpAnyH_take (i := 4) (oi := ⟨some 20, _, _, _, _, _⟩) (v := .int .i64 (i : Int)) rfl (by kernel_rfl) (by kernel_rfl) (by kernel_rfl) (fun _ _ _ h => h) (Or.inl ⟨by rfl, ?_⟩) (by assumption) ?_
  · intro w hSw; (try dsimp only at hSw); go_simp
  simp only [Act.put, List.setIfInBounds_toArray, List.set_cons_zero, List.set_cons_succ]
  refine wpAnyH_take (i := 5) (oi := ⟨some 21, _, _, _, _, _⟩) (v := .slice A i c) rfl (by kernel_rfl) (by kernel_rfl) (by kernel_rfl) (fun _ _ _ h => h) (Or.inl ⟨by rfl, ?_⟩) (by assumption) ?_
  · intro w hSw; (try dsimp only at hSw); (have q := SLT.out; go_simp)
  simp only [Act.put, List.setIfInBounds_toArray, List.set_cons_zero, List.set_cons_succ]
  refine wpAnyH_ready (rs := [1]) (by kernel_rfl) (by simp) ?_
  refine AllReadyH.cons (o := ⟨some 17, _, _, _, _, _⟩) rfl (fun K0 hK => ?_) AllReadyH.nil
  have y := Sm.cells_of (show _ = _ from OUT0.out) 0 _ rfl
  have yd : (W0.drew).cell? ⟨K, 0, none⟩ = some (.slice B0 m.length k0) := y
  go_simp
  refine hK.out _ _ (Sm.cells_of WD.out.box 0 _ rfl) (fun hHeld => ?_)
  clear hK K0 y yd
  refine wpAnyH_ready (rs := [6]) (by kernel_rfl) (by simp) ?_
  refine AllReadyH.cons (o := ⟨some 22, _, _, _, _, _⟩) rfl (fun K0 hK => ?_) AllReadyH.nil
  rw [if_pos (by simp [Region.wanted])]
  refine Om.wp_cat0 (.tmp 17) (.tmp 21) rfl (l := m) (by show Value.slice _ _ _ = _; rw [ML0.out]) WD.out.row (C := A) (d := c) (m := (l.take i)) (by show Value.slice _ _ _ = _; rw [LT.out]) (WD.out.src.1.take i) (by have h1 := ML0.out; have h2 := LT.out; have h3 := HMB.out; rw [h1, h2]; omega) WD.out.low ?_
  intro B1 k1 w5 hr5 hg5
  have W5 := Lib.hid (WD.out.push HSRC.out hr5 hg5)
  clear hr5 hg5
  rw [ML0.out, LT.out]
  refine hK.out _ _ (Sm.cells_of W5.out.box 0 _ rfl) (fun hHeld => ?_)
  clear hK K0
  simp only [Act.put, List.setIfInBounds_toArray, List.set_cons_zero, List.set_cons_succ]
  refine wpAnyH_take (i := 7) (oi := ⟨some 23, _, _, _, _, _⟩) (v := .pointer (some ⟨K, 0, none⟩)) rfl (by kernel_rfl) (by kernel_rfl) (by kernel_rfl) (fun _ _ _ h => h) (Or.inl ⟨by rfl, ?_⟩) (by assumption) ?_
  · intro w hSw; (try dsimp only at hSw); go_simp
  simp only [Act.put, List.setIfInBounds_toArray, List.set_cons_zero, List.set_cons_succ]
  refine wpAnyH_ready (rs := [8]) (by kernel_rfl) (by simp) ?_
  refine AllReadyH.cons (o := ⟨none, _, _, _, _, _⟩) rfl (fun K0 hK => ?_) AllReadyH.nil
  obtain ⟨v5, hv5⟩ := W5.out.out
  have y := Sm.cells_of hv5 0 _ rfl
  have f := Sm.free_of hv5 0
  go_simp
  have ML1 : Hid ((m ++ (l.take i)).length = (m.length + i)) := by show _ = _; rw [List.length_append, ML0.out, LT.out]
  have WY1 : Hid (Om.Way w (w5.setCell ⟨K, 0, none⟩ (.slice B1 (m.length + i) k1)) N K A c l B1 k1 (m ++ (l.take i))) := (W5.out.set HSRC.out _).1
  have OUT1 : Hid ((w5.setCell ⟨K, 0, none⟩ (.slice B1 (m.length + i) k1)).heap[K]? = some (.cells #[.slice B1 (m.length + i) k1] 85 (0, 0))) := (W5.out.set HSRC.out _).2
  refine hK.out _ _ (Sm.cells_of WY1.out.box 0 _ rfl) (fun hHeld => ?_)
  clear hK K0 y f hv5 W5 WD hHeld
  generalize (w5.setCell ⟨K, 0, none⟩ (.slice B1 (m.length + i) k1)) = W1 at WY1 OUT1 ⊢
  refine wpAnyH_done (by kernel_rfl) ?_ _
  have y := Sm.cells_of (show _ = _ from OUT1.out) 0 _ rfl
  have WD := Lib.hid (WY1.out.step ((Below.refl W1.heap.size W1).alloc (Nat.le_refl _) (.cells #[.string p, .string v] 79)))
  have HML := ML1.out
  go_upto_region 5 with (at_builtin; refine Om.wp_push rfl _ _ rfl (l := (m ++ (l.take i))) (by show Value.slice _ _ _ = _; rw [ML1.out]) WD.out.row ⟨p, v⟩ rfl (heap_alloc_new _ _) (by have := ML1.out; have := HMB.out; have := LT.out; omega) WD.out.low ?_; intro B2 k2 w5 hr5 hg5; have W5 := Lib.hid (WD.out.push HSRC.out hr5 hg5); clear hr5 hg5; obtain ⟨v5, hv5⟩ := W5.out.out; have y5 := Sm.cells_of hv5 0 _ rfl; have f5 := Sm.free_of hv5 0)
  have ML2 : Hid (((m ++ (l.take i)) ++ [(⟨p, v⟩ : Om.Pr)]).length = ((m.length + i) + 1)) := by show _ = _; rw [List.length_append, ML1.out]; rfl
  have WY2 : Hid (Om.Way w (w5.setCell ⟨K, 0, none⟩ (.slice B2 ((m.length + i) + 1) k2)) N K A c l B2 k2 ((m ++ (l.take i)) ++ [(⟨p, v⟩ : Om.Pr)])) := (W5.out.set HSRC.out _).1
  have OUT2 : Hid ((w5.setCell ⟨K, 0, none⟩ (.slice B2 ((m.length + i) + 1) k2)).heap[K]? = some (.cells #[.slice B2 ((m.length + i) + 1) k2] 85 (0, 0))) := (W5.out.set HSRC.out _).2
  clear y y5 f5 hv5 W5 WD HML
  generalize (w5.setCell ⟨K, 0, none⟩ (.slice B2 ((m.length + i) + 1) k2)) = W2 at WY2 OUT2 ⊢
  cases g with
  | false =>
    clear SLT LT
    have SLT : Hid (∀ wx : World, (Instr.sliceAt 22 (.slice A l.length c) (some (.int .i64 (i : Int))) none none).run Tryz.prog wx = .ok (.slice (Om.placeFrom A c i) (l.length - i) (c - i)) wx) := fun wx => Om.run_from wx HIL.out
    have LT : Hid ((l.drop i).length = (l.length - i)) := by show _ = _; rw [List.length_drop]
    go_upto_region 7 with (fail)
    have WD := Lib.hid (WY2.out.step (Below.refl _ _).drew)
    refine wp_region_held_drew (S := fun w' => w'.cell? ⟨N, 0, none⟩ = some (.slice A l.length c)) (by kernel_rfl) (by exact Sm.cells_of WD.out.box 0 _ rfl) (fun hHeld => ?_)
    refine wpAnyH_take (i := 0) (oi := ⟨some 35, _, _, _, _, _⟩) (v := .pointer (some ⟨K, 0, none⟩)) rfl (by kernel_rfl) (by kernel_rfl) (by kernel_rfl) (fun _ _ _ h => h) (Or.inl ⟨by rfl, ?_⟩) (by assumption) ?_
    · intro w hSw; (try dsimp only at hSw); go_simp
    simp only [Act.put, List.setIfInBounds_toArray, List.set_cons_zero, List.set_cons_succ]
    refine wpAnyH_take (i := 2) (oi := ⟨some 37, _, _, _, _, _⟩) (v := .pointer (some ⟨N, 0, none⟩)) rfl (by kernel_rfl) (by kernel_rfl) (by kernel_rfl) (fun _ _ _ h => h) (Or.inl ⟨by rfl, ?_⟩) (by assumption) ?_
    · intro w hSw; (try dsimp only at hSw); go_simp
    simp only [Act.put, List.setIfInBounds_toArray, List.set_cons_zero, List.set_cons_succ]
    refine wpAnyH_take (i := 3) (oi := ⟨some 38, _, _, _, _, _⟩) (v := .slice A l.length c) rfl (by kernel_rfl) (by kernel_rfl) (by kernel_rfl) (fun _ _ _ h => h) (Or.inl ⟨by rfl, ?_⟩) (by assumption) ?_
    · intro w hSw; (try dsimp only at hSw); go_simp
    simp only [Act.put, List.setIfInBounds_toArray, List.set_cons_zero, List.set_cons_succ]
    refine wpAnyH_take (i := 4) (oi := ⟨some 39, _, _, _, _, _⟩) (v := .int .i64 (i : Int)) rfl (by kernel_rfl) (by kernel_rfl) (by kernel_rfl) (fun _ _ _ h => h) (Or.inl ⟨by rfl, ?_⟩) (by assumption) ?_
    · intro w hSw; (try dsimp only at hSw); go_simp
    simp only [Act.put, List.setIfInBounds_toArray, List.set_cons_zero, List.set_cons_succ]
    refine wpAnyH_take (i := 5) (oi := ⟨some 40, _, _, _, _, _⟩) (v := .slice (Om.placeFrom A c i) (l.length - i) (c - i)) rfl (by kernel_rfl) (by kernel_rfl) (by kernel_rfl) (fun _ _ _ h => h) (Or.inl ⟨by rfl, ?_⟩) (by assumption) ?_
    · intro w hSw; (try dsimp only at hSw); (have q := SLT.out; go_simp)
    simp only [Act.put, List.setIfInBounds_toArray, List.set_cons_zero, List.set_cons_succ]
    refine wpAnyH_ready (rs := [1]) (by kernel_rfl) (by simp) ?_
    refine AllReadyH.cons (o := ⟨some 36, _, _, _, _, _⟩) rfl (fun K0 hK => ?_) AllReadyH.nil
    have y := Sm.cells_of (show _ = _ from OUT2.out) 0 _ rfl
    have yd : (W2.drew).cell? ⟨K, 0, none⟩ = some (.slice B2 ((m.length + i) + 1) k2) := y
    go_simp
    refine hK.out _ _ (Sm.cells_of WD.out.box 0 _ rfl) (fun hHeld => ?_)
    clear hK K0 y yd
    refine wpAnyH_ready (rs := [6]) (by kernel_rfl) (by simp) ?_
    refine AllReadyH.cons (o := ⟨some 41, _, _, _, _, _⟩) rfl (fun K0 hK => ?_) AllReadyH.nil
    rw [if_pos (by simp [Region.wanted])]
    refine Om.wp_cat0 (.tmp 36) (.tmp 40) rfl (l := ((m ++ (l.take i)) ++ [(⟨p, v⟩ : Om.Pr)])) (by show Value.slice _ _ _ = _; rw [ML2.out]) WD.out.row (C := (Om.placeFrom A c i)) (d := (c - i)) (m := (l.drop i)) (by show Value.slice _ _ _ = _; rw [LT.out]) (WD.out.src.1.drop HCAP.out i) (by have h1 := ML2.out; have h2 := LT.out; have h3 := HMB.out; rw [h1, h2]; omega) WD.out.low ?_
    intro B3 k3 w5 hr5 hg5
    have W5 := Lib.hid (WD.out.push HSRC.out hr5 hg5)
    clear hr5 hg5
    rw [ML2.out, LT.out]
    refine hK.out _ _ (Sm.cells_of W5.out.box 0 _ rfl) (fun hHeld => ?_)
    clear hK K0
    simp only [Act.put, List.setIfInBounds_toArray, List.set_cons_zero, List.set_cons_succ]
    refine wpAnyH_take (i := 7) (oi := ⟨some 42, _, _, _, _, _⟩) (v := .pointer (some ⟨K, 0, none⟩)) rfl (by kernel_rfl) (by kernel_rfl) (by kernel_rfl) (fun _ _ _ h => h) (Or.inl ⟨by rfl, ?_⟩) (by assumption) ?_
    · intro w hSw; (try dsimp only at hSw); go_simp
    simp only [Act.put, List.setIfInBounds_toArray, List.set_cons_zero, List.set_cons_succ]
    refine wpAnyH_ready (rs := [8]) (by kernel_rfl) (by simp) ?_
    refine AllReadyH.cons (o := ⟨none, _, _, _, _, _⟩) rfl (fun K0 hK => ?_) AllReadyH.nil
    obtain ⟨v5, hv5⟩ := W5.out.out
    have y := Sm.cells_of hv5 0 _ rfl
    have f := Sm.free_of hv5 0
    go_simp
    have ML3 : Hid ((((m ++ (l.take i)) ++ [(⟨p, v⟩ : Om.Pr)]) ++ (l.drop i)).length = (((m.length + i) + 1) + (l.length - i))) := by show _ = _; rw [List.length_append, ML2.out, LT.out]
    have WY3 : Hid (Om.Way w (w5.setCell ⟨K, 0, none⟩ (.slice B3 (((m.length + i) + 1) + (l.length - i)) k3)) N K A c l B3 k3 (((m ++ (l.take i)) ++ [(⟨p, v⟩ : Om.Pr)]) ++ (l.drop i))) := (W5.out.set HSRC.out _).1
    have OUT3 : Hid ((w5.setCell ⟨K, 0, none⟩ (.slice B3 (((m.length + i) + 1) + (l.length - i)) k3)).heap[K]? = some (.cells #[.slice B3 (((m.length + i) + 1) + (l.length - i)) k3] 85 (0, 0))) := (W5.out.set HSRC.out _).2
    refine hK.out _ _ (Sm.cells_of WY3.out.box 0 _ rfl) (fun hHeld => ?_)
    clear hK K0 y f hv5 W5 WD hHeld
    generalize (w5.setCell ⟨K, 0, none⟩ (.slice B3 (((m.length + i) + 1) + (l.length - i)) k3)) = W3 at WY3 OUT3 ⊢
    refine wpAnyH_done (by kernel_rfl) ?_ _
    have z := Sm.cells_of OUT3.out 0 _ rfl
    have r0 := Sm.cells_of WY3.out.res 0 _ rfl
    have f0 := Sm.free_of WY3.out.res 0
    have LA := Lib.hid (WY3.out.last (.slice B3 (((m.length + i) + 1) + (l.length - i)) k3))
    have rz := Sm.cells_of LA.out.2.2 0 _ rfl
    have HEQ : Hid ((((m ++ (l.take i)) ++ [(⟨p, v⟩ : Om.Pr)]) ++ (l.drop i)) = Om.put p v l) := by
      show _ = _
      rw [HPUT.out, HM0.out]
      simp
    have HML := ML3.out
    clear HML
    go_wp2_with fail
    refine bodyPost_ret (v := .agg #[.slice B3 (((m.length + i) + 1) + (l.length - i)) k3]) ((Om.results_own15 rfl _ _ _).trans (by go_simp)) rfl ⟨B3, k3, ?_, ?_, ?_⟩
    · rw [← HEQ.out, ML3.out]
    · rw [← HEQ.out, ← HN.out]
      have := LA.out.1
      exact this
    · rw [← HN.out]
      exact LA.out.2.1
  | true =>
    clear SLT LT
    obtain ⟨j, hj⟩ : ∃ j, j = i + 1 := ⟨_, rfl⟩
    have HJL : Hid (j ≤ l.length) := by show j ≤ _; rw [hj]; exact HJ.out rfl
    have hsuc : IntKind.i64.wrap ((i : Int) + 1) = (j : Int) := by have := HJL.out; have := HLL.out; rw [hj]; simp [IntKind.wrap, IntKind.bits, IntKind.signed]; omega
    have HJE := Lib.hid hj
    clear hj
    have SLT : Hid (∀ wx : World, (Instr.sliceAt 22 (.slice A l.length c) (some (.int .i64 (j : Int))) none none).run Tryz.prog wx = .ok (.slice (Om.placeFrom A c j) (l.length - j) (c - j)) wx) := fun wx => Om.run_from wx HJL.out
    have LT : Hid ((l.drop j).length = (l.length - j)) := by show _ = _; rw [List.length_drop]
    go_upto_region 7 with (fail)
    have WD := Lib.hid (WY2.out.step (Below.refl _ _).drew)
    refine wp_region_held_drew (S := fun w' => w'.cell? ⟨N, 0, none⟩ = some (.slice A l.length c)) (by kernel_rfl) (by exact Sm.cells_of WD.out.box 0 _ rfl) (fun hHeld => ?_)
    refine wpAnyH_take (i := 0) (oi := ⟨some 35, _, _, _, _, _⟩) (v := .pointer (some ⟨K, 0, none⟩)) rfl (by kernel_rfl) (by kernel_rfl) (by kernel_rfl) (fun _ _ _ h => h) (Or.inl ⟨by rfl, ?_⟩) (by assumption) ?_
    · intro w hSw; (try dsimp only at hSw); go_simp
    simp only [Act.put, List.setIfInBounds_toArray, List.set_cons_zero, List.set_cons_succ]
    refine wpAnyH_take (i := 2) (oi := ⟨some 37, _, _, _, _, _⟩) (v := .pointer (some ⟨N, 0, none⟩)) rfl (by kernel_rfl) (by kernel_rfl) (by kernel_rfl) (fun _ _ _ h => h) (Or.inl ⟨by rfl, ?_⟩) (by assumption) ?_
    · intro w hSw; (try dsimp only at hSw); go_simp
    simp only [Act.put, List.setIfInBounds_toArray, List.set_cons_zero, List.set_cons_succ]
    refine wpAnyH_take (i := 3) (oi := ⟨some 38, _, _, _, _, _⟩) (v := .slice A l.length c) rfl (by kernel_rfl) (by kernel_rfl) (by kernel_rfl) (fun _ _ _ h => h) (Or.inl ⟨by rfl, ?_⟩) (by assumption) ?_
    · intro w hSw; (try dsimp only at hSw); go_simp
    simp only [Act.put, List.setIfInBounds_toArray, List.set_cons_zero, List.set_cons_succ]
    refine wpAnyH_take (i := 4) (oi := ⟨some 39, _, _, _, _, _⟩) (v := .int .i64 (j : Int)) rfl (by kernel_rfl) (by kernel_rfl) (by kernel_rfl) (fun _ _ _ h => h) (Or.inl ⟨by rfl, ?_⟩) (by assumption) ?_
    · intro w hSw; (try dsimp only at hSw); go_simp
    simp only [Act.put, List.setIfInBounds_toArray, List.set_cons_zero, List.set_cons_succ]
    refine wpAnyH_take (i := 5) (oi := ⟨some 40, _, _, _, _, _⟩) (v := .slice (Om.placeFrom A c j) (l.length - j) (c - j)) rfl (by kernel_rfl) (by kernel_rfl) (by kernel_rfl) (fun _ _ _ h => h) (Or.inl ⟨by rfl, ?_⟩) (by assumption) ?_
    · intro w hSw; (try dsimp only at hSw); (have q := SLT.out; go_simp)
    simp only [Act.put, List.setIfInBounds_toArray, List.set_cons_zero, List.set_cons_succ]
    refine wpAnyH_ready (rs := [1]) (by kernel_rfl) (by simp) ?_
    refine AllReadyH.cons (o := ⟨some 36, _, _, _, _, _⟩) rfl (fun K0 hK => ?_) AllReadyH.nil
    have y := Sm.cells_of (show _ = _ from OUT2.out) 0 _ rfl
    have yd : (W2.drew).cell? ⟨K, 0, none⟩ = some (.slice B2 ((m.length + i) + 1) k2) := y
    go_simp
    refine hK.out _ _ (Sm.cells_of WD.out.box 0 _ rfl) (fun hHeld => ?_)
    clear hK K0 y yd
    refine wpAnyH_ready (rs := [6]) (by kernel_rfl) (by simp) ?_
    refine AllReadyH.cons (o := ⟨some 41, _, _, _, _, _⟩) rfl (fun K0 hK => ?_) AllReadyH.nil
    rw [if_pos (by simp [Region.wanted])]
    refine Om.wp_cat0 (.tmp 36) (.tmp 40) rfl (l := ((m ++ (l.take i)) ++ [(⟨p, v⟩ : Om.Pr)])) (by show Value.slice _ _ _ = _; rw [ML2.out]) WD.out.row (C := (Om.placeFrom A c j)) (d := (c - j)) (m := (l.drop j)) (by show Value.slice _ _ _ = _; rw [LT.out]) (WD.out.src.1.drop HCAP.out j) (by have h1 := ML2.out; have h2 := LT.out; have h3 := HMB.out; rw [h1, h2]; omega) WD.out.low ?_
    intro B3 k3 w5 hr5 hg5
    have W5 := Lib.hid (WD.out.push HSRC.out hr5 hg5)
    clear hr5 hg5
    rw [ML2.out, LT.out]
    refine hK.out _ _ (Sm.cells_of W5.out.box 0 _ rfl) (fun hHeld => ?_)
    clear hK K0
    simp only [Act.put, List.setIfInBounds_toArray, List.set_cons_zero, List.set_cons_succ]
    refine wpAnyH_take (i := 7) (oi := ⟨some 42, _, _, _, _, _⟩) (v := .pointer (some ⟨K, 0, none⟩)) rfl (by kernel_rfl) (by kernel_rfl) (by kernel_rfl) (fun _ _ _ h => h) (Or.inl ⟨by rfl, ?_⟩) (by assumption) ?_
    · intro w hSw; (try dsimp only at hSw); go_simp
    simp only [Act.put, List.setIfInBounds_toArray, List.set_cons_zero, List.set_cons_succ]
    refine wpAnyH_ready (rs := [8]) (by kernel_rfl) (by simp) ?_
    refine AllReadyH.cons (o := ⟨none, _, _, _, _, _⟩) rfl (fun K0 hK => ?_) AllReadyH.nil
    obtain ⟨v5, hv5⟩ := W5.out.out
    have y := Sm.cells_of hv5 0 _ rfl
    have f := Sm.free_of hv5 0
    go_simp
    have ML3 : Hid ((((m ++ (l.take i)) ++ [(⟨p, v⟩ : Om.Pr)]) ++ (l.drop j)).length = (((m.length + i) + 1) + (l.length - j))) := by show _ = _; rw [List.length_append, ML2.out, LT.out]
    have WY3 : Hid (Om.Way w (w5.setCell ⟨K, 0, none⟩ (.slice B3 (((m.length + i) + 1) + (l.length - j)) k3)) N K A c l B3 k3 (((m ++ (l.take i)) ++ [(⟨p, v⟩ : Om.Pr)]) ++ (l.drop j))) := (W5.out.set HSRC.out _).1
    have OUT3 : Hid ((w5.setCell ⟨K, 0, none⟩ (.slice B3 (((m.length + i) + 1) + (l.length - j)) k3)).heap[K]? = some (.cells #[.slice B3 (((m.length + i) + 1) + (l.length - j)) k3] 85 (0, 0))) := (W5.out.set HSRC.out _).2
    refine hK.out _ _ (Sm.cells_of WY3.out.box 0 _ rfl) (fun hHeld => ?_)
    clear hK K0 y f hv5 W5 WD hHeld
    generalize (w5.setCell ⟨K, 0, none⟩ (.slice B3 (((m.length + i) + 1) + (l.length - j)) k3)) = W3 at WY3 OUT3 ⊢
    refine wpAnyH_done (by kernel_rfl) ?_ _
    have z := Sm.cells_of OUT3.out 0 _ rfl
    have r0 := Sm.cells_of WY3.out.res 0 _ rfl
    have f0 := Sm.free_of WY3.out.res 0
    have LA := Lib.hid (WY3.out.last (.slice B3 (((m.length + i) + 1) + (l.length - j)) k3))
    have rz := Sm.cells_of LA.out.2.2 0 _ rfl
    have HEQ : Hid ((((m ++ (l.take i)) ++ [(⟨p, v⟩ : Om.Pr)]) ++ (l.drop j)) = Om.put p v l) := by
      show _ = _
      rw [HPUT.out, HM0.out]
      simp [HJE.out]
    have HML := ML3.out
    clear HML
    go_wp2_with fail
    refine bodyPost_ret (v := .agg #[.slice B3 (((m.length + i) + 1) + (l.length - j)) k3]) ((Om.results_own15 rfl _ _ _).trans (by go_simp)) rfl ⟨B3, k3, ?_, ?_, ?_⟩
    · rw [← HEQ.out, ML3.out]
    · rw [← HEQ.out, ← HN.out]
      have := LA.out.1
      exact this
    · rw [← HN.out]
      exact LA.out.2.1
set_option maxRecDepth 100000 in
set_option maxHeartbeats 4000000 in
theorem r13Without_any {w : World} {A : Option Addr} {c : Nat} {l : List Om.Pr} (h : Om.Ref w A c l) (hl : l.length ≤ 900) (hs : ∀ x ∈ l, x.p.size ≤ 1000000) (p : ByteArray) :
    Calls Tryz.prog 47 #[.agg #[.slice A l.length c], .string p] w fun e w' => ∃ B k, e = .returned (.agg #[.slice B (Om.del p l).length k]) ∧ Om.Ref w' B k (Om.del p l) ∧ Om.Fresh w A l B (Om.del p l) ∧ Below w.heap.size w w' := by
  obtain ⟨w2, hw2⟩ : ∃ w2, w2 = (w.alloc (.cells #[.slice A l.length c] 85)).alloc (.cells #[.slice none 0 0] 85) := ⟨_, rfl⟩
  have b2 : Below w.heap.size w w2 := by rw [hw2]; exact ((Below.refl _ w).alloc (Nat.le_refl _) _).alloc (by simp) _
  have FI := Lib.hid (r13find_any (w := w2) c (h.below b2).1 (by omega) hs p)
  have c2 : w2.cell? ⟨w.heap.size, 0, none⟩ = some (.slice A l.length c) := by
    rw [hw2]
    exact Sm.cells_of ((Below.heap_alloc _ _ _ (by simp)).trans (heap_alloc_new w (.cells #[.slice A l.length c] 85))) 0 _ rfl
  have MK := Lib.hid (fun (W : World) (hW : Below w2.heap.size w2 W) => Om.Way.made h (by rw [← hw2]; exact hW))
  have HSRC : Hid (∀ b off, A = some ⟨b, off, none⟩ → l ≠ [] → b < w.heap.size) := fun b off e h0 => by
    rcases h.1 with e1 | ⟨b', o', e1, e2, _⟩
    · exact absurd e1 h0
    · rw [e] at e1
      simp only [Option.some.injEq, Addr.mk.injEq] at e1
      omega
  have HR := Lib.hid h
  have hcap := h.2
  obtain ⟨g, hg⟩ : ∃ g, g = (Om.get p l).isSome := ⟨_, rfl⟩
  rw [← hg] at FI
  obtain ⟨i, hi⟩ : ∃ i, i = Om.pos p l := ⟨_, rfl⟩
  rw [← hi] at FI
  have hil : i ≤ l.length := by rw [hi]; exact Om.pos_le p l
  have HDEL : Hid (Om.del p l = if g = true then l.take i ++ l.drop (i + 1) else l) := by show _ = _; rw [hi, hg]; exact Om.del_pos p l
  have HIL := Lib.hid hil
  have HCAP := Lib.hid hcap
  have HLL := Lib.hid hl
  have HJ : Hid (g = true → i + 1 ≤ l.length) := fun e => by rw [hi]; exact Om.pos_lt (by rw [← hg]; exact e)
  have r2 : w2.heap[w.heap.size + 1]? = some (.cells #[.slice none 0 0] 85 (0, 0)) := by
    rw [hw2]
    have := heap_alloc_new (w.alloc (.cells #[.slice A l.length c] 85)) (.cells #[.slice none 0 0] 85)
    simpa using this
  have HR2 := Lib.hid r2
  have HB2 := Lib.hid b2
  have HC2 : Hid (w2.heap[w.heap.size]? = some (.cells #[.slice A l.length c] 85 (0, 0))) := by
    show _ = _
    rw [hw2]
    exact (Below.heap_alloc _ _ _ (by simp)).trans (heap_alloc_new w (.cells #[.slice A l.length c] 85))
  clear h hs b2 hi hg r2
  go_enter Tryz.func47, Tryz.ntmps47
  go_upto_region 1 with (fail)
  rw [← hw2]
  clear hw2
  cases g with
  | false =>
    go_wp2_with (go_at_call 80; refine FI.out.mono ?_; rintro e w3 ⟨rfl, k3⟩; have G3 := Lib.hid ((k3.block (w.heap.size + 1) (Sm.lt_of HR2.out)).trans HR2.out); have C3 := Lib.hid ((k3.block w.heap.size (Sm.lt_of HC2.out)).trans HC2.out); have z0 := Sm.cells_of C3.out 0 _ rfl; have r0 := Sm.cells_of G3.out 0 _ rfl; have f0 := Sm.free_of G3.out 0)
    have rz := Sm.cells_of (Sm.heap_set G3.out 0 (.slice A l.length c)) 0 _ rfl
    have b3 : Below w.heap.size w (w3.setCell ⟨w.heap.size + 1, 0, none⟩ (.slice A l.length c)) := (HB2.out.trans (k3.mono HB2.out.size)).setCell (p := ⟨w.heap.size + 1, 0, none⟩) (by show w.heap.size ≤ w.heap.size + 1; omega) _
    have HB3 := Lib.hid b3
    have e : Om.del p l = l := by rw [HDEL.out]; rfl
    have HE := Lib.hid e
    clear b3 e k3
    refine bodyPost_ret (v := .agg #[.slice A l.length c]) ((Om.results_own15 rfl _ _ _).trans (by go_simp)) rfl ⟨A, c, ?_, ?_, ?_, HB3.out⟩
    · rw [HE.out]
    · rw [HE.out]
      exact HR.out.below HB3.out
    · rw [HE.out]
      exact fun b off e1 e2 => .inr ⟨e1, e2⟩
  | true =>
    clear HR2 HC2 HB2
    go_upto_region 5 with (go_at_call 80; refine FI.out.mono ?_; rintro e w3 ⟨rfl, k3⟩)
    have WY0 := Lib.hid (MK.out w3 k3).1
    have OUT0 := Lib.hid (MK.out w3 k3).2
    obtain ⟨N, hN⟩ : ∃ N, N = w.heap.size := ⟨_, rfl⟩
    obtain ⟨K, hK⟩ : ∃ K, K = w3.heap.size := ⟨_, rfl⟩
    obtain ⟨W0, hW0⟩ : ∃ W0, W0 = w3.alloc (.cells #[.slice none 0 0] 85) := ⟨_, rfl⟩
    have HN := Lib.hid hN
    rw [← hN, ← hK, ← hW0] at WY0
    rw [← hK, ← hW0] at OUT0
    rw [← hN] at HSRC
    rw [← hN, ← hK, ← hW0]
    obtain ⟨B0, k0, m, hm, WY0, OUT0⟩ : ∃ (B : Option Addr) (k : Nat) (m : List Om.Pr), m = [] ∧ Hid (Om.Way w W0 N K A c l B k m) ∧ Hid (W0.heap[K]? = some (.cells #[.slice B m.length k] 85 (0, 0))) := ⟨none, 0, [], rfl, WY0, OUT0⟩
    have HM0 := Lib.hid hm
    have ML0 : Hid (m.length = m.length) := rfl
    have LT : Hid ((l.take i).length = i) := by show _ = _; rw [List.length_take]; omega
    have MB : m.length = 0 := by rw [hm]; rfl
    have HMB := Lib.hid MB
    have SLT : Hid (∀ wx : World, (Instr.sliceAt 22 (.slice A l.length c) none (some (.int .i64 (i : Int))) none).run Tryz.prog wx = .ok (.slice A i c) wx) := fun wx => Om.run_to wx hil hcap
    clear hN hK hW0 MK FI k3 c2 hm MB
    have WD := Lib.hid (WY0.out.step (Below.refl _ _).drew)
    refine wp_region_held_drew (S := fun w' => w'.cell? ⟨N, 0, none⟩ = some (.slice A l.length c)) (by kernel_rfl) (by exact Sm.cells_of WD.out.box 0 _ rfl) (fun hHeld => ?_)
    refine wpAnyH_take (i := 0) (oi := ⟨some 17, _, _, _, _, _⟩) (v := .pointer (some ⟨K, 0, none⟩)) rfl (by kernel_rfl) (by kernel_rfl) (by kernel_rfl) (fun _ _ _ h => h) (Or.inl ⟨by rfl, ?_⟩) (by assumption) ?_
    · intro w hSw; (try dsimp only at hSw); go_simp
    simp only [Act.put, List.setIfInBounds_toArray, List.set_cons_zero, List.set_cons_succ]
    refine wpAnyH_take (i := 2) (oi := ⟨some 19, _, _, _, _, _⟩) (v := .pointer (some ⟨N, 0, none⟩)) rfl (by kernel_rfl) (by kernel_rfl) (by kernel_rfl) (fun _ _ _ h => h) (Or.inl ⟨by rfl, ?_⟩) (by assumption) ?_
    · intro w hSw; (try dsimp only at hSw); go_simp
    simp only [Act.put, List.setIfInBounds_toArray, List.set_cons_zero, List.set_cons_succ]
    refine wpAnyH_take (i := 3) (oi := ⟨some 20, _, _, _, _, _⟩) (v := .slice A l.length c) rfl (by kernel_rfl) (by kernel_rfl) (by kernel_rfl) (fun _ _ _ h => h) (Or.inl ⟨by rfl, ?_⟩) (by assumption) ?_
    · intro w hSw; (try dsimp only at hSw); go_simp
    simp only [Act.put, List.setIfInBounds_toArray, List.set_cons_zero, List.set_cons_succ]
    refine wpAnyH_take (i := 4) (oi := ⟨some 21, _, _, _, _, _⟩) (v := .int .i64 (i : Int)) rfl (by kernel_rfl) (by kernel_rfl) (by kernel_rfl) (fun _ _ _ h => h) (Or.inl ⟨by rfl, ?_⟩) (by assumption) ?_
    · intro w hSw; (try dsimp only at hSw); go_simp
    simp only [Act.put, List.setIfInBounds_toArray, List.set_cons_zero, List.set_cons_succ]
    refine wpAnyH_take (i := 5) (oi := ⟨some 22, _, _, _, _, _⟩) (v := .slice A i c) rfl (by kernel_rfl) (by kernel_rfl) (by kernel_rfl) (fun _ _ _ h => h) (Or.inl ⟨by rfl, ?_⟩) (by assumption) ?_
    · intro w hSw; (try dsimp only at hSw); (have q := SLT.out; go_simp)
    simp only [Act.put, List.setIfInBounds_toArray, List.set_cons_zero, List.set_cons_succ]
    refine wpAnyH_ready (rs := [1]) (by kernel_rfl) (by simp) ?_
    refine AllReadyH.cons (o := ⟨some 18, _, _, _, _, _⟩) rfl (fun K0 hK => ?_) AllReadyH.nil
    have y := Sm.cells_of (show _ = _ from OUT0.out) 0 _ rfl
    have yd : (W0.drew).cell? ⟨K, 0, none⟩ = some (.slice B0 m.length k0) := y
    go_simp
    refine hK.out _ _ (Sm.cells_of WD.out.box 0 _ rfl) (fun hHeld => ?_)
    clear hK K0 y yd
    refine wpAnyH_ready (rs := [6]) (by kernel_rfl) (by simp) ?_
    refine AllReadyH.cons (o := ⟨some 23, _, _, _, _, _⟩) rfl (fun K0 hK => ?_) AllReadyH.nil
    rw [if_pos (by simp [Region.wanted])]
    refine Om.wp_cat0 (.tmp 18) (.tmp 22) rfl (l := m) (by show Value.slice _ _ _ = _; rw [ML0.out]) WD.out.row (C := A) (d := c) (m := (l.take i)) (by show Value.slice _ _ _ = _; rw [LT.out]) (WD.out.src.1.take i) (by have h1 := ML0.out; have h2 := LT.out; have h3 := HMB.out; rw [h1, h2]; omega) WD.out.low ?_
    intro B1 k1 w5 hr5 hg5
    have W5 := Lib.hid (WD.out.push HSRC.out hr5 hg5)
    clear hr5 hg5
    rw [ML0.out, LT.out]
    refine hK.out _ _ (Sm.cells_of W5.out.box 0 _ rfl) (fun hHeld => ?_)
    clear hK K0
    simp only [Act.put, List.setIfInBounds_toArray, List.set_cons_zero, List.set_cons_succ]
    refine wpAnyH_take (i := 7) (oi := ⟨some 24, _, _, _, _, _⟩) (v := .pointer (some ⟨K, 0, none⟩)) rfl (by kernel_rfl) (by kernel_rfl) (by kernel_rfl) (fun _ _ _ h => h) (Or.inl ⟨by rfl, ?_⟩) (by assumption) ?_
    · intro w hSw; (try dsimp only at hSw); go_simp
    simp only [Act.put, List.setIfInBounds_toArray, List.set_cons_zero, List.set_cons_succ]
    refine wpAnyH_ready (rs := [8]) (by kernel_rfl) (by simp) ?_
    refine AllReadyH.cons (o := ⟨none, _, _, _, _, _⟩) rfl (fun K0 hK => ?_) AllReadyH.nil
    obtain ⟨v5, hv5⟩ := W5.out.out
    have y := Sm.cells_of hv5 0 _ rfl
    have f := Sm.free_of hv5 0
    go_simp
    have ML1 : Hid ((m ++ (l.take i)).length = (m.length + i)) := by show _ = _; rw [List.length_append, ML0.out, LT.out]
    have WY1 : Hid (Om.Way w (w5.setCell ⟨K, 0, none⟩ (.slice B1 (m.length + i) k1)) N K A c l B1 k1 (m ++ (l.take i))) := (W5.out.set HSRC.out _).1
    have OUT1 : Hid ((w5.setCell ⟨K, 0, none⟩ (.slice B1 (m.length + i) k1)).heap[K]? = some (.cells #[.slice B1 (m.length + i) k1] 85 (0, 0))) := (W5.out.set HSRC.out _).2
    refine hK.out _ _ (Sm.cells_of WY1.out.box 0 _ rfl) (fun hHeld => ?_)
    clear hK K0 y f hv5 W5 WD hHeld
    generalize (w5.setCell ⟨K, 0, none⟩ (.slice B1 (m.length + i) k1)) = W1 at WY1 OUT1 ⊢
    refine wpAnyH_done (by kernel_rfl) ?_ _
    clear SLT LT
    obtain ⟨j, hj⟩ : ∃ j, j = i + 1 := ⟨_, rfl⟩
    have HJL : Hid (j ≤ l.length) := by show j ≤ _; rw [hj]; exact HJ.out (by trivial)
    have hsuc : IntKind.i64.wrap ((i : Int) + 1) = (j : Int) := by have := HJL.out; have := HLL.out; rw [hj]; simp [IntKind.wrap, IntKind.bits, IntKind.signed]; omega
    have HJE := Lib.hid hj
    clear hj
    have SLT : Hid (∀ wx : World, (Instr.sliceAt 22 (.slice A l.length c) (some (.int .i64 (j : Int))) none none).run Tryz.prog wx = .ok (.slice (Om.placeFrom A c j) (l.length - j) (c - j)) wx) := fun wx => Om.run_from wx HJL.out
    have LT : Hid ((l.drop j).length = (l.length - j)) := by show _ = _; rw [List.length_drop]
    go_upto_region 6 with (fail)
    have WD := Lib.hid (WY1.out.step (Below.refl _ _).drew)
    refine wp_region_held_drew (S := fun w' => w'.cell? ⟨N, 0, none⟩ = some (.slice A l.length c)) (by kernel_rfl) (by exact Sm.cells_of WD.out.box 0 _ rfl) (fun hHeld => ?_)
    refine wpAnyH_take (i := 0) (oi := ⟨some 25, _, _, _, _, _⟩) (v := .pointer (some ⟨K, 0, none⟩)) rfl (by kernel_rfl) (by kernel_rfl) (by kernel_rfl) (fun _ _ _ h => h) (Or.inl ⟨by rfl, ?_⟩) (by assumption) ?_
    · intro w hSw; (try dsimp only at hSw); go_simp
    simp only [Act.put, List.setIfInBounds_toArray, List.set_cons_zero, List.set_cons_succ]
    refine wpAnyH_take (i := 2) (oi := ⟨some 27, _, _, _, _, _⟩) (v := .pointer (some ⟨N, 0, none⟩)) rfl (by kernel_rfl) (by kernel_rfl) (by kernel_rfl) (fun _ _ _ h => h) (Or.inl ⟨by rfl, ?_⟩) (by assumption) ?_
    · intro w hSw; (try dsimp only at hSw); go_simp
    simp only [Act.put, List.setIfInBounds_toArray, List.set_cons_zero, List.set_cons_succ]
    refine wpAnyH_take (i := 3) (oi := ⟨some 28, _, _, _, _, _⟩) (v := .slice A l.length c) rfl (by kernel_rfl) (by kernel_rfl) (by kernel_rfl) (fun _ _ _ h => h) (Or.inl ⟨by rfl, ?_⟩) (by assumption) ?_
    · intro w hSw; (try dsimp only at hSw); go_simp
    simp only [Act.put, List.setIfInBounds_toArray, List.set_cons_zero, List.set_cons_succ]
    refine wpAnyH_take (i := 4) (oi := ⟨some 29, _, _, _, _, _⟩) (v := .int .i64 (i : Int)) rfl (by kernel_rfl) (by kernel_rfl) (by kernel_rfl) (fun _ _ _ h => h) (Or.inl ⟨by rfl, ?_⟩) (by assumption) ?_
    · intro w hSw; (try dsimp only at hSw); go_simp
    simp only [Act.put, List.setIfInBounds_toArray, List.set_cons_zero, List.set_cons_succ]
    refine wpAnyH_take (i := 5) (oi := ⟨some 30, _, _, _, _, _⟩) (v := .int .i64 (j : Int)) rfl (by kernel_rfl) (by kernel_rfl) (by kernel_rfl) (fun _ _ _ h => h) (Or.inl ⟨by rfl, ?_⟩) (by assumption) ?_
    · intro w hSw; (try dsimp only at hSw); go_simp
    simp only [Act.put, List.setIfInBounds_toArray, List.set_cons_zero, List.set_cons_succ]
    refine wpAnyH_take (i := 6) (oi := ⟨some 31, _, _, _, _, _⟩) (v := .slice (Om.placeFrom A c j) (l.length - j) (c - j)) rfl (by kernel_rfl) (by kernel_rfl) (by kernel_rfl) (fun _ _ _ h => h) (Or.inl ⟨by rfl, ?_⟩) (by assumption) ?_
    · intro w hSw; (try dsimp only at hSw); (have q := SLT.out; go_simp)
    simp only [Act.put, List.setIfInBounds_toArray, List.set_cons_zero, List.set_cons_succ]
    refine wpAnyH_ready (rs := [1]) (by kernel_rfl) (by simp) ?_
    refine AllReadyH.cons (o := ⟨some 26, _, _, _, _, _⟩) rfl (fun K0 hK => ?_) AllReadyH.nil
    have y := Sm.cells_of (show _ = _ from OUT1.out) 0 _ rfl
    have yd : (W1.drew).cell? ⟨K, 0, none⟩ = some (.slice B1 (m.length + i) k1) := y
    go_simp
    refine hK.out _ _ (Sm.cells_of WD.out.box 0 _ rfl) (fun hHeld => ?_)
    clear hK K0 y yd
    refine wpAnyH_ready (rs := [7]) (by kernel_rfl) (by simp) ?_
    refine AllReadyH.cons (o := ⟨some 32, _, _, _, _, _⟩) rfl (fun K0 hK => ?_) AllReadyH.nil
    rw [if_pos (by simp [Region.wanted])]
    refine Om.wp_cat0 (.tmp 26) (.tmp 31) rfl (l := (m ++ (l.take i))) (by show Value.slice _ _ _ = _; rw [ML1.out]) WD.out.row (C := (Om.placeFrom A c j)) (d := (c - j)) (m := (l.drop j)) (by show Value.slice _ _ _ = _; rw [LT.out]) (WD.out.src.1.drop HCAP.out j) (by have h1 := ML1.out; have h2 := LT.out; have h3 := HMB.out; rw [h1, h2]; omega) WD.out.low ?_
    intro B3 k3 w5 hr5 hg5
    have W5 := Lib.hid (WD.out.push HSRC.out hr5 hg5)
    clear hr5 hg5
    rw [ML1.out, LT.out]
    refine hK.out _ _ (Sm.cells_of W5.out.box 0 _ rfl) (fun hHeld => ?_)
    clear hK K0
    simp only [Act.put, List.setIfInBounds_toArray, List.set_cons_zero, List.set_cons_succ]
    refine wpAnyH_take (i := 8) (oi := ⟨some 33, _, _, _, _, _⟩) (v := .pointer (some ⟨K, 0, none⟩)) rfl (by kernel_rfl) (by kernel_rfl) (by kernel_rfl) (fun _ _ _ h => h) (Or.inl ⟨by rfl, ?_⟩) (by assumption) ?_
    · intro w hSw; (try dsimp only at hSw); go_simp
    simp only [Act.put, List.setIfInBounds_toArray, List.set_cons_zero, List.set_cons_succ]
    refine wpAnyH_ready (rs := [9]) (by kernel_rfl) (by simp) ?_
    refine AllReadyH.cons (o := ⟨none, _, _, _, _, _⟩) rfl (fun K0 hK => ?_) AllReadyH.nil
    obtain ⟨v5, hv5⟩ := W5.out.out
    have y := Sm.cells_of hv5 0 _ rfl
    have f := Sm.free_of hv5 0
    go_simp
    have ML3 : Hid (((m ++ (l.take i)) ++ (l.drop j)).length = ((m.length + i) + (l.length - j))) := by show _ = _; rw [List.length_append, ML1.out, LT.out]
    have WY3 : Hid (Om.Way w (w5.setCell ⟨K, 0, none⟩ (.slice B3 ((m.length + i) + (l.length - j)) k3)) N K A c l B3 k3 ((m ++ (l.take i)) ++ (l.drop j))) := (W5.out.set HSRC.out _).1
    have OUT3 : Hid ((w5.setCell ⟨K, 0, none⟩ (.slice B3 ((m.length + i) + (l.length - j)) k3)).heap[K]? = some (.cells #[.slice B3 ((m.length + i) + (l.length - j)) k3] 85 (0, 0))) := (W5.out.set HSRC.out _).2
    refine hK.out _ _ (Sm.cells_of WY3.out.box 0 _ rfl) (fun hHeld => ?_)
    clear hK K0 y f hv5 W5 WD hHeld
    generalize (w5.setCell ⟨K, 0, none⟩ (.slice B3 ((m.length + i) + (l.length - j)) k3)) = W3 at WY3 OUT3 ⊢
    refine wpAnyH_done (by kernel_rfl) ?_ _
    have z := Sm.cells_of OUT3.out 0 _ rfl
    have r0 := Sm.cells_of WY3.out.res 0 _ rfl
    have f0 := Sm.free_of WY3.out.res 0
    have LA := Lib.hid (WY3.out.last (.slice B3 ((m.length + i) + (l.length - j)) k3))
    have rz := Sm.cells_of LA.out.2.2 0 _ rfl
    have HEQ : Hid (((m ++ (l.take i)) ++ (l.drop j)) = Om.del p l) := by
      show _ = _
      rw [HDEL.out, HM0.out]
      simp [HJE.out]
    have HML := ML3.out
    clear HML
    go_wp2_with fail
    refine bodyPost_ret (v := .agg #[.slice B3 ((m.length + i) + (l.length - j)) k3]) ((Om.results_own15 rfl _ _ _).trans (by go_simp)) rfl ⟨B3, k3, ?_, ?_, ?_, ?_⟩
    · rw [← HEQ.out, ML3.out]
    · rw [← HEQ.out]
      exact LA.out.1.ref
    · rw [← HEQ.out]
      exact (HN.out ▸ LA.out.1).fresh A l
    · rw [← HN.out]
      exact LA.out.2.1
theorem r13With_ref {w : World} {A : Option Addr} {c : Nat} {l : List Om.Pr} (h : Om.Ref w A c l) (hl : l.length ≤ 900) (hs : ∀ x ∈ l, x.p.size ≤ 1000000) (p v : ByteArray) :
    Calls Tryz.prog 44 #[.agg #[.slice A l.length c], .string p, .string v] w fun e w' => ∃ B k, e = .returned (.agg #[.slice B (Om.put p v l).length k]) ∧ Om.Ref w' B k (Om.put p v l) ∧ Om.Fresh w A l B (Om.put p v l) ∧ Below w.heap.size w w' :=
  (r13With_any h hl hs p v).mono fun _ _ ⟨B, k, h1, h2, h3⟩ => ⟨B, k, h1, h2.ref, h2.fresh A l, h3⟩
end Go.Proofs.YtiehcplepneajaaGreatDoor

/-
  The document's Does and Of.
-/
namespace Go.Proofs.YtiehcplepneajaaGreatDoor
open Go.RowKit
namespace Om
/-- A map in the variable's block M, the result's block R. -/
structure Box (w W : World) (N M R : Nat) (B : Option Addr) (k : Nat) (m : List Pr) : Prop where
  box : W.heap[M]? = some (.cells #[.slice B m.length k] 85 (0, 0))
  res : W.heap[R]? = some (.cells #[.slice none 0 0] 85 (0, 0))
  ref : Ref W B k m
  bel : Below N w W
  nm : N ≤ M
  nr : N ≤ R
  ne : M ≠ R
  apart : ∀ b off, B = some ⟨b, off, none⟩ → m ≠ [] → b ≠ M ∧ b ≠ R
section
variable {w W W' : World} {N M R : Nat} {B B' : Option Addr} {k k' : Nat} {m m' : List Pr}
theorem Box.step (h : Box w W N M R B k m) (g : Below W.heap.size W W') : Box w W' N M R B k m :=
  ⟨(g.block M (Sm.lt_of h.box)).trans h.box, (g.block R (Sm.lt_of h.res)).trans h.res, h.ref.below g, h.bel.trans (g.mono (Nat.le_trans h.nm (Nat.le_of_lt (Sm.lt_of h.box)))), h.nm, h.nr, h.ne, h.apart⟩
theorem Ref.set {W : World} {B : Option Addr} {k : Nat} {m : List Pr} (h : Ref W B k m) {q : Nat} (hq : ∀ b off, B = some ⟨b, off, none⟩ → m ≠ [] → b ≠ q) (v : Value) : Ref (W.setCell ⟨q, 0, none⟩ v) B k m := by
  refine ⟨?_, h.2⟩
  rcases h.1 with e | ⟨b, o, e1, e2, e3⟩
  · exact .inl e
  · by_cases h0 : m = []
    · exact .inl h0
    · have hb := hq b o e1 h0
      refine .inr ⟨b, o, e1, by simpa using e2, fun j hj => ?_⟩
      have ec : ∀ i, (W.setCell ⟨q, 0, none⟩ v).cell? ⟨b, i, none⟩ = W.cell? ⟨b, i, none⟩ := fun i => World.cell?_of_block (w := W) (a := ⟨b, i, none⟩) (Below.heap_setCell _ _ _ _ (by show b ≠ q; exact hb))
      have := e3 j hj
      unfold prAt at this ⊢
      rw [ec, ec]
      exact this
/-- The variable is given what a call made of it. -/
theorem Box.put (h : Box w W N M R B k m) (g : Below W.heap.size W W') (hr : Ref W' B' k' m') (hf : Fresh W B m B' m') : Box w (W'.setCell ⟨M, 0, none⟩ (.slice B' m'.length k')) N M R B' k' m' := by
  have h' := h.step g
  have hap : ∀ b off, B' = some ⟨b, off, none⟩ → m' ≠ [] → b ≠ M ∧ b ≠ R := fun b off e h0 => by
    rcases hf b off e h0 with h1 | ⟨h1, h2⟩
    · have := Sm.lt_of h.box
      have := Sm.lt_of h.res
      omega
    · exact h.apart b off h1 h2
  exact ⟨Sm.heap_set h'.box 0 _, (Below.heap_setCell _ _ _ _ (by show R ≠ M; exact fun e => h.ne e.symm)).trans h'.res, hr.set (fun b off e h0 => (hap b off e h0).1) _, h'.bel.setCell (p := ⟨M, 0, none⟩) h.nm _, h.nm, h.nr, h.ne, hap⟩
/-- The result is written. -/
theorem Box.last (h : Box w W N M R B k m) (v : Value) : Ref (W.setCell ⟨R, 0, none⟩ v) B k m ∧ Below N w (W.setCell ⟨R, 0, none⟩ v) ∧ (W.setCell ⟨R, 0, none⟩ v).heap[R]? = some (.cells #[v] 85 (0, 0)) :=
  ⟨h.ref.set (fun b off e h0 => (h.apart b off e h0).2) v, h.bel.setCell (p := ⟨R, 0, none⟩) h.nr _, Sm.heap_set h.res 0 v⟩
theorem Box.load (h : Box w W N M R B k m) : W.cell? ⟨M, 0, none⟩ = some (.slice B m.length k) := Sm.cells_of h.box 0 _ rfl
end
theorem Fresh.trans {w wr : World} {A B B' : Option Addr} {l m m' : List Pr} (h : Fresh w A l B m) (hs : w.heap.size ≤ wr.heap.size) (k : Fresh wr B m B' m') : Fresh w A l B' m' := fun b off e h0 => by
  rcases k b off e h0 with h1 | ⟨h1, h2⟩
  · exact .inl (Nat.le_trans hs h1)
  · exact h b off h1 h2
theorem Fresh.same (w : World) (A : Option Addr) (l : List Pr) : Fresh w A l A l := fun _ _ e h0 => .inr ⟨e, h0⟩
/-- Short paths. -/
def Small (l : List Pr) : Prop := ∀ x ∈ l, x.p.size ≤ 1000000
theorem Small.step {m : List Pr} (h : Small m) {o : Ba.Op} (ho : o.p.size ≤ 1000000) : Small (step m o) := fun x hx => by
  unfold Om.step at hx
  split at hx
  · exact h x ((del_sub _ _).subset hx)
  · rcases mem_put hx with rfl | hx
    · exact ho
    · exact h x hx
theorem Small.put {m : List Pr} (h : Small m) {p v : ByteArray} (hp : p.size ≤ 1000000) : Small (put p v m) := fun x hx => by
  rcases mem_put hx with rfl | hx
  · exact hp
  · exact h x hx
end Om
end Go.Proofs.YtiehcplepneajaaGreatDoor

/-
  The document's List and Same.
-/
namespace Go.Proofs.YtiehcplepneajaaGreatDoor
open Go.RowKit
set_option maxRecDepth 100000 in
set_option maxHeartbeats 4000000 in
/-- Two rows of pairs compared. -/
theorem r13Same_any {w : World} {A C : Option Addr} (c d : Nat) {l m : List Om.Pr} (h1 : Om.listAt w A l) (h2 : Om.listAt w C m) (hll : l.length ≤ 1000000) (g : Bool) (hg : g = true ↔ l = m) :
    Calls Tryz.prog 25 #[.slice A l.length c, .slice C m.length d] w fun e w' => e = .returned (.bool g) ∧ Below w.heap.size w w' := by
  have HG := Lib.hid hg
  by_cases hlm : l.length = m.length
  · have hi : (l.length : Int) = (m.length : Int) := by omega
    have H1 := Lib.hid h1
    have H2 := Lib.hid h2
    have HL := Lib.hid hll
    have HLM := Lib.hid hlm
    clear h1 h2 hg hll hlm
    go_enter Tryz.func25, Tryz.ntmps25
    go_wp2
    go_loopw [5] (fun i wr => ∃ k : Nat, i = .int .i64 k ∧ k ≤ l.length ∧ Hid (∀ j (_ : j < k) (h1 : j < l.length) (h2 : j < m.length), l[j] = m[j]) ∧ Below w.heap.size w wr) (fun i _ => l.length - (intOf i).toNat)
    case atStart => exact ⟨0, rfl, Nat.zero_le _, fun j h => absurd h (Nat.not_lt_zero _), Below.refl _ _⟩
    case round =>
      obtain ⟨k, rfl, hk, hall, hb⟩ := hrel
      have HB := Lib.hid hb
      clear hb
      by_cases hlt : k < l.length
      · have hki : (k : Int) < (l.length : Int) := by omega
        have hki2 : (k : Int) < (m.length : Int) := by omega
        have hkm : k < m.length := by have := HLM.out; omega
        have hsuc : IntKind.i64.wrap ((k : Int) + 1) = ((k + 1 : Nat) : Int) := by have := HL.out; simp [IntKind.wrap, IntKind.bits, IntKind.signed]; omega
        obtain ⟨b1, o1, rfl, -, x0, x1⟩ := H1.out.get HB.out k hlt
        obtain ⟨b2, o2, rfl, -, y0, y1⟩ := H2.out.get HB.out k hkm
        obtain ⟨x, hx⟩ : ∃ x, x = l[k] := ⟨_, rfl⟩
        obtain ⟨y, hy⟩ : ∃ y, y = m[k] := ⟨_, rfl⟩
        rw [← hx] at x0 x1
        rw [← hy] at y0 y1
        have HAB : Hid (∀ (h1 : k < l.length) (h2 : k < m.length), x = l[k] ∧ y = m[k]) := fun _ _ => ⟨hx, hy⟩
        have HLT := Lib.hid hlt
        have HKM := Lib.hid hkm
        have HALL := Lib.hid hall
        have HBD : Hid (Below w.heap.size w wr.drew) := HB.out.drew
        obtain ⟨eb, heb⟩ : ∃ eb, eb = Om.eqb x y := ⟨_, rfl⟩
        have HEB := Lib.hid heb
        have hS : (fun wx : World => (wx.cell? ⟨b1, o1 + k * 2, none⟩ = some (.string x.p) ∧ wx.cell? ⟨b1, o1 + k * 2 + 1, none⟩ = some (.string x.v)) ∧ (wx.cell? ⟨b2, o2 + k * 2, none⟩ = some (.string y.p) ∧ wx.cell? ⟨b2, o2 + k * 2 + 1, none⟩ = some (.string y.v))) wr.drew := ⟨⟨x0, x1⟩, ⟨y0, y1⟩⟩
        have HSS := Lib.hid hS
        clear hx hy hlt hkm hall heb hS x0 x1 y0 y1
        go_upto_region 6 with (fail)
        refine wp_region_held_drew (S := fun wx : World => (wx.cell? ⟨b1, o1 + k * 2, none⟩ = some (.string x.p) ∧ wx.cell? ⟨b1, o1 + k * 2 + 1, none⟩ = some (.string x.v)) ∧ (wx.cell? ⟨b2, o2 + k * 2, none⟩ = some (.string y.p) ∧ wx.cell? ⟨b2, o2 + k * 2 + 1, none⟩ = some (.string y.v))) (by kernel_rfl) (by exact HSS.out) (fun hHeld => ?_)
        refine wpAnyH_take (i := 0) (oi := ⟨some 17, _, _, _, _, _⟩) (v := .slice (some ⟨b1, o1, none⟩) l.length c) rfl (by kernel_rfl) (by kernel_rfl) (by kernel_rfl) (fun _ _ _ h => h) (Or.inl ⟨by rfl, ?_⟩) (by assumption) ?_
        · intro w hSw; (try dsimp only at hSw); go_simp
        simp only [Act.put, List.setIfInBounds_toArray, List.set_cons_zero, List.set_cons_succ]
        refine wpAnyH_take (i := 1) (oi := ⟨some 18, _, _, _, _, _⟩) (v := .int .i64 (k : Int)) rfl (by kernel_rfl) (by kernel_rfl) (by kernel_rfl) (fun _ _ _ h => h) (Or.inl ⟨by rfl, ?_⟩) (by assumption) ?_
        · intro w hSw; (try dsimp only at hSw); go_simp
        simp only [Act.put, List.setIfInBounds_toArray, List.set_cons_zero, List.set_cons_succ]
        refine wpAnyH_take (i := 2) (oi := ⟨some 19, _, _, _, _, _⟩) (v := .pointer (some ⟨b1, o1 + k * 2, none⟩)) rfl (by kernel_rfl) (by kernel_rfl) (by kernel_rfl) (fun _ _ _ h => h) (Or.inl ⟨by rfl, ?_⟩) (by assumption) ?_
        · intro w hSw; (try dsimp only at hSw); go_simp
        simp only [Act.put, List.setIfInBounds_toArray, List.set_cons_zero, List.set_cons_succ]
        refine wpAnyH_take (i := 3) (oi := ⟨some 20, _, _, _, _, _⟩) (v := .agg #[.string x.p, .string x.v]) rfl (by kernel_rfl) (by kernel_rfl) (by kernel_rfl) (fun _ _ _ h => h) (Or.inl ⟨by rfl, ?_⟩) (by assumption) ?_
        · intro w hSw; (try dsimp only at hSw); go_simp
        simp only [Act.put, List.setIfInBounds_toArray, List.set_cons_zero, List.set_cons_succ]
        refine wpAnyH_take (i := 4) (oi := ⟨some 21, _, _, _, _, _⟩) (v := .slice (some ⟨b2, o2, none⟩) m.length d) rfl (by kernel_rfl) (by kernel_rfl) (by kernel_rfl) (fun _ _ _ h => h) (Or.inl ⟨by rfl, ?_⟩) (by assumption) ?_
        · intro w hSw; (try dsimp only at hSw); go_simp
        simp only [Act.put, List.setIfInBounds_toArray, List.set_cons_zero, List.set_cons_succ]
        refine wpAnyH_take (i := 5) (oi := ⟨some 22, _, _, _, _, _⟩) (v := .int .i64 (k : Int)) rfl (by kernel_rfl) (by kernel_rfl) (by kernel_rfl) (fun _ _ _ h => h) (Or.inl ⟨by rfl, ?_⟩) (by assumption) ?_
        · intro w hSw; (try dsimp only at hSw); go_simp
        simp only [Act.put, List.setIfInBounds_toArray, List.set_cons_zero, List.set_cons_succ]
        refine wpAnyH_take (i := 6) (oi := ⟨some 23, _, _, _, _, _⟩) (v := .pointer (some ⟨b2, o2 + k * 2, none⟩)) rfl (by kernel_rfl) (by kernel_rfl) (by kernel_rfl) (fun _ _ _ h => h) (Or.inl ⟨by rfl, ?_⟩) (by assumption) ?_
        · intro w hSw; (try dsimp only at hSw); go_simp
        simp only [Act.put, List.setIfInBounds_toArray, List.set_cons_zero, List.set_cons_succ]
        refine wpAnyH_take (i := 7) (oi := ⟨some 24, _, _, _, _, _⟩) (v := .agg #[.string y.p, .string y.v]) rfl (by kernel_rfl) (by kernel_rfl) (by kernel_rfl) (fun _ _ _ h => h) (Or.inl ⟨by rfl, ?_⟩) (by assumption) ?_
        · intro w hSw; (try dsimp only at hSw); go_simp
        simp only [Act.put, List.setIfInBounds_toArray, List.set_cons_zero, List.set_cons_succ]
        refine wpAnyH_take (i := 8) (oi := ⟨some 25, _, _, _, _, _⟩) (v := .bool (!eb)) rfl (by kernel_rfl) (by kernel_rfl) (by kernel_rfl) (fun _ _ _ h => h) (by rw [HEB.out]; exact Om.yields_neq (by rfl) _ _ _ rfl x y rfl rfl) (by assumption) ?_
        simp only [Act.put, List.setIfInBounds_toArray, List.set_cons_zero, List.set_cons_succ]
        refine wpAnyH_done (by kernel_rfl) ?_ _
        cases eb with
        | true =>
          have HEQ : Hid (x = y) := Om.eqb_iff.1 HEB.out.symm
          go_wp2
          go_roundw
          case rel =>
            refine ⟨k + 1, rfl, HLT.out, fun j hj h1 h2 => ?_, HBD.out⟩
            by_cases e : j = k
            · subst e; rw [← (HAB.out h1 h2).1, ← (HAB.out h1 h2).2]; exact HEQ.out
            · exact HALL.out.out j (by omega) h1 h2
          case measure => simp only [intOf]; have := HLT.out; omega
        | false =>
          have hgf : g = false := by
            cases hgg : g with
            | false => rfl
            | true =>
              exfalso
              have e := HG.out.1 hgg
              have hxy : x = y := by
                rw [(HAB.out HLT.out HKM.out).1, (HAB.out HLT.out HKM.out).2]
                congr 1
              have := Om.eqb_iff.2 hxy
              rw [← HEB.out] at this
              cases this
          subst hgf
          go_wp2
          go_ret
          exact ⟨rfl, HBD.out⟩
      · have hke : k = l.length := by omega
        have hgt : g = true := HG.out.2 (List.ext_getElem HLM.out fun j h1 h2 => hall.out j (by omega) h1 h2)
        have hki : ¬ (k : Int) < (m.length : Int) := by omega
        subst hgt
        clear hk hall
        subst hke
        go_wp2
        go_ret
        exact ⟨rfl, HB.out⟩
  · have hi : ¬ (l.length : Int) = (m.length : Int) := by omega
    have hgf : g = false := by
      cases hgg : g with
      | false => rfl
      | true => exact absurd (by rw [HG.out.1 hgg]) hlm
    subst hgf
    clear h1 h2 hg
    go_enter Tryz.func25, Tryz.ntmps25
    go_wp2
    go_ret
    exact ⟨rfl, Below.refl _ _⟩
end Go.Proofs.YtiehcplepneajaaGreatDoor

/-
  The document's Get, of pairs that a tree may have.
-/
namespace Go.Proofs.YtiehcplepneajaaGreatDoor
open Go.RowKit
set_option maxRecDepth 100000 in
set_option maxHeartbeats 2000000 in
theorem r13GetF_any {w : World} {A : Option Addr} {c : Nat} {l : List Om.Pr} (h : Om.Ref w A c l) (hG : Tr.Fit l) (p : ByteArray) :
    Calls Tryz.prog 42 #[.agg #[.slice A l.length c], .string p] w fun e w' => (∃ s, e = .returned (.tuple #[.string s, .bool (Om.get p l).isSome])) ∧ Below w.heap.size w w' := by
  obtain ⟨w2, hw2⟩ : ∃ w2, w2 = w.alloc (.cells #[.slice A l.length c] 85) := ⟨_, rfl⟩
  have g2 : w2.heap[w.heap.size]? = some (.cells #[.slice A l.length c] 85 (0, 0)) := by rw [hw2]; exact heap_alloc_new _ _
  have b2 : Below w.heap.size w w2 := by rw [hw2]; exact (Below.refl _ w).alloc (Nat.le_refl _) _
  obtain ⟨N, hN⟩ : ∃ N, N = w.heap.size := ⟨_, rfl⟩
  have HN := Lib.hid hN
  have FI := Lib.hid (r13find_any (w := w2) c (h.below b2).1 (by have := hG.len; omega) (fun x hx => by have := Tr.fair_small hG hx; omega) p)
  have HR : Hid (∀ wx : World, Below w2.heap.size w2 wx → Om.Ref wx A c l) := fun wx k => (h.below b2).below k
  rw [← hN] at g2 b2 ⊢
  have HG2 := Lib.hid g2
  have HB2 := Lib.hid b2
  have z0 := Sm.cells_of g2 0 _ rfl
  cases hg : Om.get p l with
  | none =>
    rw [hg] at FI
    clear h hG hg b2 g2
    go_enter Tryz.func42, Tryz.ntmps42
    go_upto_region 1 with (fail)
    rw [← hw2, ← hN]
    clear hw2 hN
    go_wp2_with (go_at_call 80; refine FI.out.mono ?_; rintro e w3 ⟨rfl, k3⟩)
    go_ret2
    exact ⟨⟨_, rfl⟩, HB2.out.trans (k3.mono (Nat.le_of_lt (Sm.lt_of HG2.out)))⟩
  | some v =>
    have hps := Om.get_pos p l
    rw [hg] at hps
    obtain ⟨i, hi⟩ : ∃ i, i = Om.pos p l := ⟨_, rfl⟩
    rw [← hi] at FI hps
    rw [hg] at FI
    cases hx : l[i]? with
    | none => rw [hx] at hps; cases hps
    | some x =>
      rw [hx] at hps
      obtain ⟨hil, hxe⟩ := List.getElem?_eq_some_iff.1 hx
      have hxv : x.v = v := by
        by_cases e : x.p = p
        · simp only [e, if_true, Option.some.injEq] at hps; exact hps.symm
        · simp only [e, if_false] at hps; cases hps
      have hii : (i : Int) < (l.length : Int) := by omega
      have HC : Hid (∀ wx : World, Below w2.heap.size w2 wx → ∃ b o, A = some ⟨b, o, none⟩ ∧ wx.cell? ⟨b, o + i * 2 + 1, none⟩ = some (.string v)) := fun wx k => by
        obtain ⟨b, o, e, _, _, q1⟩ := (HR.out wx k).1.get (Below.refl _ _) i hil
        rw [hxe, hxv] at q1
        exact ⟨b, o, e, q1⟩
      clear h hG hg b2 g2 hps hx hxe hxv hi hil
      go_enter Tryz.func42, Tryz.ntmps42
      go_upto_region 1 with (fail)
      rw [← hw2, ← hN]
      clear hw2 hN
      go_upto_region 4 with (go_at_call 80; refine FI.out.mono ?_; rintro e w3 ⟨rfl, k3⟩)
      have HK := Lib.hid k3
      have g3 := (k3.block N (Sm.lt_of HG2.out)).trans HG2.out
      have z3 := Sm.cells_of g3 0 _ rfl
      obtain ⟨b, o, rfl, q1⟩ := HC.out w3 k3
      clear k3 g3
      go_wp2
      go_ret2
      exact ⟨⟨_, rfl⟩, HB2.out.trans (HK.out.mono (Nat.le_of_lt (Sm.lt_of HG2.out)))⟩
end Go.Proofs.YtiehcplepneajaaGreatDoor
