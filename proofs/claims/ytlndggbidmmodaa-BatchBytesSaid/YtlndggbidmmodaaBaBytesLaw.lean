/-
  BatchBytes.
-/
import Derived.Test.YtlndggbidmmodaaR12Bytes
import Derived.Test.YtlndggbidmmodaaR12Filter
import Derived.Test.YtlndggbidmmodaaBaAwake
import Derived.Test.YtlndggbidmmodaaBaGreat
import Derived.Test.YtlndggbidmmodaaBaBackLaw
import Derived.Deep.Upon
namespace Go.Proofs.Ytlndggbidmmodaa
open Go.RowKit Pk
namespace Ba
theorem cellsAt {w : World} {b off : Nat} {l : List Op} (h : opsAt w b off l) : ∀ j u, (flat l)[j]? = some u → w.cell? ((⟨b, off, none⟩ : Addr).add j) = some u := by
  intro j u hu
  rw [Addr.add_mid]
  have hj : j < (flat l).length := (List.getElem?_eq_some_iff.1 hu).1
  rw [flat_length] at hj
  have hk : j / 3 < l.length := by omega
  have e : j = j / 3 * 3 + j % 3 := by omega
  have h3 : j % 3 < 3 := Nat.mod_lt _ (by decide)
  rw [e, flat_at hk h3] at hu
  obtain ⟨q0, q1, q2⟩ := h (j / 3) hk
  have e2 : off + j = off + j / 3 * 3 + j % 3 := by omega
  rw [e2]
  match hm : j % 3, h3 with
  | 0, _ => rw [hm] at hu; rw [Nat.add_zero]; rw [q0]; exact hu
  | 1, _ => rw [hm] at hu; rw [q1]; exact hu
  | 2, _ => rw [hm] at hu; rw [q2]; exact hu
theorem flat_one' (l : List Op) : ∀ u ∈ flat l, u.oneCell' = true := by
  intro u hu
  obtain ⟨o, _, ho⟩ := List.mem_flatMap.1 hu
  exact cells_one' o u ho
/-- A row of operations, copied behind an empty one. -/
theorem wp_copy {w : World} {K0 : Act → World → Prop} {o : Oper} {a : Act} {Q : Exit → Act → World → Prop} (s y : Operand)
    (ho : o.op = .call { callee := .builtin .append, args := #[s, y], argTypes := #[23, 23] }) {B N : Nat} (hN : w.heap[N]? = some (.cells #[] 37 (0, 0))) (hB : B ≤ N) (hs : a.eval s = .slice (some ⟨N, 0, none⟩) 0 0) {C : Option Addr} {d : Nat} {l : List Op} (hy : a.eval y = .slice C l.length d) (hit : listAt w C l) (hl : l.length ≤ 1000000)
    (K : ∀ A' c' w', Row w' B A' c' l → w.grownBy w' (some N) → K0 (a.put o.dst (.slice A' l.length c')) w') : o.wp Try.prog a w K0 Q := by
  obtain ⟨i0, hi, hz0, hz1, hz2⟩ := info_parts op_info
  have hown : w.ownsRow B 37 3 (.slice (some ⟨N, 0, none⟩) 0 0) 0 [] := ⟨by simp, .inr ⟨N, 0, #[], rfl, hB, hN, Nat.le_refl _, Nat.zero_le _, rfl, by simp⟩⟩
  have hNlt := Sm.lt_of hN
  by_cases h0 : l = []
  · subst h0
    have hsrc : Src Try.prog i0.size 23 (.slice C 0 d) 0 [] w := by
      cases C with
      | none => exact Src.ofNil w Try.underlying23 d
      | some ad => exact Src.ofSlice w Try.underlying23 ad 0 d [] (by simp) (by simp) (by simp)
    have hr := run_append_nothing (P := Try.prog) w 23 23 o.type 37 i0 Try.underlying23 hi (some ⟨N, 0, none⟩) 0 0 (Nat.le_refl _) _ hsrc
    have hy' : a.eval y = .slice C 0 d := hy
    unfold Oper.wp execOp
    simp only [ho, resolve, invoke, builtin, Sem.run_bind, Sem.run_pure, Result.andThen_ok, List.map_toArray, List.map_cons, List.map_nil, hs, hy', hr]
    exact K (some ⟨N, 0, none⟩) 0 w hown ⟨rfl, rfl, rfl, Nat.le_refl _, fun _ _ _ => rfl⟩
  · rcases hit with hit | ⟨b, off, rfl, -, hops⟩
    · exact absurd hit h0
    · refine wp_append_own w s y 23 ho B 37 i0 (.agg #[.int .u8 0, .string ⟨#[]⟩, .string ⟨#[]⟩]) 3 40 Try.underlying23 hi hz0 hz1 hz2 rfl (by decide) _ _ _ hs hown ⟨b, off, none⟩ l.length d (flat l) hy (flat_length l) (cellsAt hops) (flat_one' l) (by unfold maxLen; omega) (by omega) (by omega) ?_
      intro v' w' h1 h2 _
      obtain ⟨A', c', rfl⟩ := Sm.own_shape h1
      rw [Nat.zero_add] at h1 ⊢
      rw [List.nil_append] at h1
      exact K A' c' w' h1 h2
theorem Row.upto {w w' : World} {B0 B : Nat} {A : Option Addr} {c : Nat} {l : List Op} (h : Row w B0 A c l) (k : Below B w w') (hB : w.heap.size ≤ B) : Row w' B0 A c l := h.keep fun i _ hi => k.block i (Nat.lt_of_lt_of_le (Sm.lt_of hi) hB)
/-- A batch in block N, a copy of it in block P. -/
structure Cp (w W : World) (N P : Nat) (ix ep : Int) (C : Option Addr) (d : Nat) (l : List Op) (A1 : Option Addr) (c1 : Nat) : Prop where
  bx : W.heap[N]? = some (.cells #[.int .i64 ix, .int .i64 ep, .slice C l.length d] 31 (0, 0))
  wx : W.heap[P]? = some (.cells #[.int .i64 ix, .int .i64 ep, .slice A1 l.length c1] 31 (0, 0))
  row : Row W N A1 c1 l
  bel : Below N w W
  low : N ≤ W.heap.size
theorem Cp.upto {w W W' : World} {N P B : Nat} {ix ep : Int} {C : Option Addr} {d : Nat} {l : List Op} {A1 : Option Addr} {c1 : Nat} (h : Cp w W N P ix ep C d l A1 c1) (k : Below B W W') (hB : W.heap.size ≤ B) : Cp w W' N P ix ep C d l A1 c1 :=
  ⟨(k.block N (Nat.lt_of_lt_of_le (Sm.lt_of h.bx) hB)).trans h.bx, (k.block P (Nat.lt_of_lt_of_le (Sm.lt_of h.wx) hB)).trans h.wx, h.row.upto k hB, h.bel.trans (k.mono (Nat.le_trans h.low hB)), Nat.le_trans h.low k.size⟩
theorem Cp.step {w W W' : World} {N P : Nat} {ix ep : Int} {C : Option Addr} {d : Nat} {l : List Op} {A1 : Option Addr} {c1 : Nat} (h : Cp w W N P ix ep C d l A1 c1) (k : Below W.heap.size W W') : Cp w W' N P ix ep C d l A1 c1 := h.upto k (Nat.le_refl _)
/-- Two batches in one block each, told apart by their types from rows of operations. -/
theorem batch_ne {w : World} {N M : Nat} {a b : Array Value} (h : w.heap[N]? = some (.cells a 31 (0, 0))) (k : w.heap[M]? = some (.cells b 37 (0, 0))) : N ≠ M := fun e => by
  subst e
  rw [h] at k
  simp only [Option.some.injEq, Obj.cells.injEq] at k
  exact absurd k.2.1 (by decide)
end Ba
namespace Ba
theorem cp_made {w W : World} {N Q : Nat} {ix ep : Int} {C : Option Addr} {d : Nat} {l : List Op} {A1 : Option Addr} {c1 : Nat} (hN : W.heap[N]? = some (.cells #[.int .i64 ix, .int .i64 ep, .slice C l.length d] 31 (0, 0))) (hb : Below N w W) (hlow : N ≤ W.heap.size) (hQ : W.heap[Q]? = some (.cells #[.int .i64 0, .int .i64 0, .slice none 0 0] 31 (0, 0))) (hne : N ≠ Q) (hNQ : N ≤ Q) (hr : Row W N A1 c1 l) :
    Cp w (((W.setCell ⟨Q, 0, none⟩ (.int .i64 ix)).setCell ⟨Q, 1, none⟩ (.int .i64 ep)).setCell ⟨Q, 2, none⟩ (.slice A1 l.length c1)) N Q ix ep C d l A1 c1 := by
  refine ⟨?_, ?_, hr.keep fun j cs hj => ?_, ?_, by simpa using hlow⟩
  · rw [Below.heap_setCell _ _ _ _ hne, Below.heap_setCell _ _ _ _ hne, Below.heap_setCell _ _ _ _ hne]; exact hN
  · rw [Sm.heap_set (Sm.heap_set (Sm.heap_set hQ 0 (.int .i64 ix)) 1 (.int .i64 ep)) 2 (.slice A1 l.length c1)]; simp
  · have hjq : j ≠ Q := Ne.symm (batch_ne hQ hj)
    rw [Below.heap_setCell _ _ _ _ hjq, Below.heap_setCell _ _ _ _ hjq, Below.heap_setCell _ _ _ _ hjq]
  · exact ((hb.setCell (p := ⟨Q, 0, none⟩) hNQ _).setCell (p := ⟨Q, 1, none⟩) hNQ _).setCell (p := ⟨Q, 2, none⟩) hNQ _
end Ba
namespace Ba
theorem own_some {w : World} {B : Nat} {A : Option Addr} {n c : Nat} {xs : List Value} (h : w.ownsRow B 37 3 (.slice A n c) n xs) (hn : 0 < n) : ∃ g, A = some ⟨g, 0, none⟩ := by
  rcases h.2 with ⟨h', h0⟩ | ⟨g, cap, cur, h', _⟩
  · omega
  · injection h' with h1
    exact ⟨g, h1⟩
end Ba
set_option maxRecDepth 100000 in
set_option maxHeartbeats 16000000 in
theorem batchbytes_any (w : World) {A0 : Option Addr} (c0 : Nat) {m : List Pa.Mo} (hml : m.length ≤ 9223372036854775807) (hm : Pa.listAt w A0 m) (b : Ba.Bt) {C : Option Addr} (d : Nat) (hit : Ba.listAt w C b.ops) (hok : b.Ok) :
    Calls Try.prog 4 #[.slice A0 m.length c0, .agg #[.int .i64 b.ix, .int .i64 b.ep, .slice C b.ops.length d]] w fun e w' => e = .returned (.bool true) ∧ Below w.heap.size w w' := by
  have AW := Lib.hid (fun wx => awake12_any wx)
  obtain ⟨ix, ep, l⟩ := b
  simp only at hit ⊢
  have hll := hok.len
  have hix := hok.ix
  have hep := hok.ep
  have hoo := hok.ops
  simp only at hll hix hep hoo
  have gn := heap_alloc_new w (.cells #[.int .i64 ix, .int .i64 ep, .slice C l.length d] 31)
  have b0 : Below w.heap.size w (w.alloc (.cells #[.int .i64 ix, .int .i64 ep, .slice C l.length d] 31)) := (Below.refl _ w).alloc (Nat.le_refl _) _
  have hit1 := hit.below b0
  have hm1 := hm.below b0
  obtain ⟨gm, hgm⟩ := Pa.fair_or m
  have GM := Lib.hid (great11_any (c := c0) hm1 gm hgm)
  obtain ⟨gr, hgr⟩ := Ba.fair_or l
  have GO := Lib.hid (greatOps_any (c := d) hit1 gr hgr)
  obtain ⟨N, hN⟩ : ∃ N, N = w.heap.size := ⟨_, rfl⟩
  have HM : Hid (∀ wx : World, Below N w wx → Pa.listAt wx A0 m) := fun wx k => by rw [hN] at k; exact hm.below k
  have HIT : Hid (∀ wx : World, Below N w wx → Ba.listAt wx C l) := fun wx k => by rw [hN] at k; exact hit.below k
  rw [← hN] at gn b0 ⊢
  have HN := Lib.hid hN
  have x0 := Sm.cells_of gn 0 _ rfl
  have x1 := Sm.cells_of gn 1 _ rfl
  have x2 := Sm.cells_of gn 2 _ rfl
  have hlt1 : N < (w.alloc (.cells #[.int .i64 ix, .int .i64 ep, .slice C l.length d] 31)).heap.size := Sm.lt_of gn
  have B1 := Lib.hid b0
  have T1 : Hid ((w.alloc (.cells #[.int .i64 ix, .int .i64 ep, .slice C l.length d] 31)).heap[N]? = some (.cells #[.int .i64 ix, .int .i64 ep, .slice C l.length d] 31 (0, 0)) ∧ Below N w (w.alloc (.cells #[.int .i64 ix, .int .i64 ep, .slice C l.length d] 31)) ∧ N ≤ (w.alloc (.cells #[.int .i64 ix, .int .i64 ep, .slice C l.length d] 31)).heap.size) := ⟨gn, b0, Nat.le_of_lt hlt1⟩
  clear hit hok hN gn b0 hit1 hm hm1
  cases gm
  · cases gr
    · have hfair : Ba.Fair l := by
        by_cases h : Ba.Fair l
        · exact h
        · exact absurd (hgr.2 h) (by decide)
      have hmem := hfair.mem
      have hl1m : l.length ≤ 1000000 := by have := hfair.1; omega
      have hl1k : l.length ≤ 1000 := by have := hfair.1; omega
      have hsm := hfair.smalls hoo
      obtain ⟨F, hF⟩ : ∃ F, F = Ba.filt m l := ⟨_, rfl⟩
      have hFl : F.length ≤ l.length := by rw [hF]; exact Ba.filt_le m l
      have BOK : Ba.Bt.Ok ⟨ix, ep, l⟩ := ⟨hix, hep, hoo, hll⟩
      have BY : Hid (∀ (wx : World) (A : Option Addr) (c : Nat), Ba.listAt wx A l → Calls Try.prog 16 #[.agg #[.int .i64 ix, .int .i64 ep, .slice A l.length c]] wx fun e w' => e = .returned (.tuple #[.string ⟨(Ba.spelled ⟨ix, ep, l⟩).1.toArray⟩, .int .i64 ((Ba.spelled ⟨ix, ep, l⟩).2 : Nat)]) ∧ Below wx.heap.size wx w') := fun wx A c h => baBytes_any ⟨ix, ep, l⟩ c h BOK hsm
      have RY : Hid (∀ (wx : World) (A : Option Addr) (c : Nat), Ba.listAt wx A l → Calls Try.prog 17 #[.agg #[.int .i64 ix, .int .i64 ep, .slice A l.length c]] wx fun e w' => e = .returned (.tuple #[.string ⟨(Ba.spelled ⟨ix, ep, l⟩).1.toArray⟩, .int .i64 ((Ba.spelled ⟨ix, ep, l⟩).2 : Nat)]) ∧ Below wx.heap.size wx w') := fun wx A c h => r12Bytes_any ⟨ix, ep, l⟩ c h BOK hsm
      have RT : Hid (∀ (wx : World) (A : Option Addr) (c : Nat), Ba.listAt wx A l → Calls Try.prog 22 #[.agg #[.int .i64 ix, .int .i64 ep, .slice A l.length c]] wx fun e w' => e = .returned (.int .i64 ((Ba.spelled ⟨ix, ep, l⟩).2 : Nat)) ∧ Below wx.heap.size wx w') := fun wx A c h => baRight_any ⟨ix, ep, l⟩ c h BOK (fun o ho => by have := (hmem o ho).1; omega)
      have FI : Hid (∀ (wx : World) (A : Option Addr) (c : Nat), Pa.listAt wx A0 m → Ba.listAt wx A l → Calls Try.prog 18 #[.slice A0 m.length c0, .agg #[.int .i64 ix, .int .i64 ep, .slice A l.length c]] wx fun e w' => ∃ A c, e = .returned (.agg #[.int .i64 ix, .int .i64 ep, .slice A F.length c]) ∧ Ba.Row w' wx.heap.size A c F ∧ Below wx.heap.size wx w') := fun wx A c h1 h2 => by
        have := baFilter_any c0 h1 hml ⟨ix, ep, l⟩ c h2 hl1k (fun o ho => by have := hmem o ho; omega)
        simp only at this
        rw [← hF] at this
        exact this
      have RF : Hid (∀ (wx : World) (A : Option Addr) (c : Nat), Pa.listAt wx A0 m → Ba.listAt wx A l → Calls Try.prog 19 #[.slice A0 m.length c0, .agg #[.int .i64 ix, .int .i64 ep, .slice A l.length c]] wx fun e w' => ∃ A c, e = .returned (.agg #[.int .i64 ix, .int .i64 ep, .slice A F.length c]) ∧ Ba.listAt w' A F ∧ Below wx.heap.size wx w') := fun wx A c h1 h2 => by
        have := r12Filter_any c0 h1 hml ⟨ix, ep, l⟩ c h2 hl1k (fun o ho => by have := (hmem o ho).1; omega)
        simp only at this
        rw [← hF] at this
        exact this.mono fun _ _ ⟨A, c, h1, h2, h3⟩ => ⟨A, c, h1, h2.listAt, h3⟩
      have SR : Hid (∀ (wx : World) (A A' : Option Addr) (c c' : Nat), Ba.listAt wx A F → Ba.listAt wx A' F → Calls Try.prog 20 #[.agg #[.int .i64 ix, .int .i64 ep, .slice A F.length c], .agg #[.int .i64 ix, .int .i64 ep, .slice A' F.length c']] wx fun e w' => e = .returned (.bool true) ∧ Below wx.heap.size wx w') := fun wx A A' c c' h1 h2 => r12Same_any ⟨ix, ep, F⟩ ⟨ix, ep, F⟩ c c' h1 h2 (by show F.length ≤ _; omega) true (by simp)
      have SB : Hid (∀ (wx : World) (A A' : Option Addr) (c c' : Nat), Ba.listAt wx A F → Ba.listAt wx A' F → Calls Try.prog 21 #[.agg #[.int .i64 ix, .int .i64 ep, .slice A F.length c], .agg #[.int .i64 ix, .int .i64 ep, .slice A' F.length c']] wx fun e w' => e = .returned (.bool true) ∧ Below wx.heap.size wx w') := fun wx A A' c c' h1 h2 => baSame_any ⟨ix, ep, F⟩ ⟨ix, ep, F⟩ c c' h1 h2 (by show F.length ≤ _; omega) true (by simp)
      have SL : Hid (∀ (wx : World) (A A' : Option Addr) (c c' : Nat), Ba.listAt wx A l → Ba.listAt wx A' l → Calls Try.prog 20 #[.agg #[.int .i64 ix, .int .i64 ep, .slice A l.length c], .agg #[.int .i64 ix, .int .i64 ep, .slice A' l.length c']] wx fun e w' => e = .returned (.bool true) ∧ Below wx.heap.size wx w') := fun wx A A' c c' h1 h2 => r12Same_any ⟨ix, ep, l⟩ ⟨ix, ep, l⟩ c c' h1 h2 hll true (by simp)
      obtain ⟨t, ht⟩ : ∃ t : ByteArray, t = ⟨(Ba.spelled ⟨ix, ep, l⟩).1.toArray⟩ := ⟨_, rfl⟩
      obtain ⟨R, hR⟩ : ∃ R, R = (Ba.spelled ⟨ix, ep, l⟩).2 := ⟨_, rfl⟩
      rw [← ht, ← hR] at BY RY
      rw [← hR] at RT
      have htt : (t.toList == t.toList) = true := by simp
      have hRR : ((R : Int) == (R : Int)) = true := by simp
      clear hgm hgr hfair hmem hsm hF BOK ht hR hoo hl1k
      go_enter Try.func4, Try.ntmps4
      go_upto_region 1 with (fail)
      rw [← HN.out]
      generalize w.alloc (.cells #[.int .i64 ix, .int .i64 ep, .slice C l.length d] 31) = W1 at *
      go_wp2_with fail
      refine GM.out.mono ?_
      rintro e w1 ⟨rfl, rfl⟩
      go_wp2_with fail
      refine GO.out.mono ?_
      rintro e w1 ⟨rfl, rfl⟩
      go_upto_region 3 with (fail)
      clear x0 x1 x2 GM GO
      go_cut [5] from 22 (fun s5 wx => ∃ (Q : Nat) (A1 : Option Addr) (c1 : Nat), s5 = .pointer (some ⟨Q, 0, none⟩) ∧ Ba.Cp w wx N Q ix ep C d l A1 c1)
      case first =>
        refine wp_region_held_drew (S := (fun w' => w'.heap[N]? = some (.cells #[.int .i64 ix, .int .i64 ep, .slice C l.length d] 31 (0, 0)))) (by kernel_rfl) (by exact T1.out.1) (fun hHeld => ?_)
        have T2 : Hid (W1.drew.heap[N]? = some (.cells #[.int .i64 ix, .int .i64 ep, .slice C l.length d] 31 (0, 0)) ∧ Below N w W1.drew ∧ N ≤ W1.drew.heap.size) := ⟨T1.out.1, T1.out.2.1.drew, T1.out.2.2⟩
        clear T1
        generalize W1.drew = w2 at *
        refine wpAnyH_take (i := 0) (oi := ⟨some 22, _, _, _, _, _⟩) (v := .pointer (some ⟨N, 0, none⟩)) rfl (by kernel_rfl) (by kernel_rfl) (by kernel_rfl) (fun _ _ _ h => h) (Or.inl ⟨by rfl, ?_⟩) (by assumption) ?_
        · intro w hSw; (try dsimp only at hSw); go_simp
        simp only [Act.put, List.setIfInBounds_toArray, List.set_cons_zero, List.set_cons_succ]
        refine wpAnyH_take (i := 1) (oi := ⟨some 23, _, _, _, _, _⟩) (v := .int .i64 ix) rfl (by kernel_rfl) (by kernel_rfl) (by kernel_rfl) (fun _ _ _ h => h) (Or.inl ⟨by rfl, ?_⟩) (by assumption) ?_
        · intro w hSw; (try dsimp only at hSw); have s1 := Sm.cells_of hSw 0 _ rfl; go_simp
        simp only [Act.put, List.setIfInBounds_toArray, List.set_cons_zero, List.set_cons_succ]
        refine wpAnyH_take (i := 2) (oi := ⟨some 24, _, _, _, _, _⟩) (v := .pointer (some ⟨N, 1, none⟩)) rfl (by kernel_rfl) (by kernel_rfl) (by kernel_rfl) (fun _ _ _ h => h) (Or.inl ⟨by rfl, ?_⟩) (by assumption) ?_
        · intro w hSw; (try dsimp only at hSw); go_simp
        simp only [Act.put, List.setIfInBounds_toArray, List.set_cons_zero, List.set_cons_succ]
        refine wpAnyH_take (i := 3) (oi := ⟨some 25, _, _, _, _, _⟩) (v := .int .i64 ep) rfl (by kernel_rfl) (by kernel_rfl) (by kernel_rfl) (fun _ _ _ h => h) (Or.inl ⟨by rfl, ?_⟩) (by assumption) ?_
        · intro w hSw; (try dsimp only at hSw); have s1 := Sm.cells_of hSw 1 _ rfl; go_simp
        simp only [Act.put, List.setIfInBounds_toArray, List.set_cons_zero, List.set_cons_succ]
        refine wpAnyH_take (i := 5) (oi := ⟨some 27, _, _, _, _, _⟩) (v := .pointer (some ⟨N, 2, none⟩)) rfl (by kernel_rfl) (by kernel_rfl) (by kernel_rfl) (fun _ _ _ h => h) (Or.inl ⟨by rfl, ?_⟩) (by assumption) ?_
        · intro w hSw; (try dsimp only at hSw); go_simp
        simp only [Act.put, List.setIfInBounds_toArray, List.set_cons_zero, List.set_cons_succ]
        refine wpAnyH_take (i := 6) (oi := ⟨some 28, _, _, _, _, _⟩) (v := .slice C l.length d) rfl (by kernel_rfl) (by kernel_rfl) (by kernel_rfl) (fun _ _ _ h => h) (Or.inl ⟨by rfl, ?_⟩) (by assumption) ?_
        · intro w hSw; (try dsimp only at hSw); have s1 := Sm.cells_of hSw 2 _ rfl; go_simp
        simp only [Act.put, List.setIfInBounds_toArray, List.set_cons_zero, List.set_cons_succ]
        refine wpAnyH_ready (rs := [4, 9]) (by kernel_rfl) (by simp) ?_
        refine (AllReadyH.cons (o := ⟨some 26, _, _, _, _, _⟩) rfl (fun K hK => ?_) (AllReadyH.cons (o := ⟨some 5, _, _, _, _, _⟩) rfl (fun K hK => ?_) AllReadyH.nil))
        · go_simp
          have hb : Below w2.heap.size w2 (w2.alloc (.cells #[] 37)) := (Below.refl _ w2).alloc (Nat.le_refl _) _
          have M3 := Lib.hid (heap_alloc_new w2 (.cells #[] 37))
          have HM3 := Lib.hid T2.out.2.2
          have T3 := Lib.hid (⟨(hb.block N (Sm.lt_of T2.out.1)).trans T2.out.1, T2.out.2.1.trans (hb.mono T2.out.2.2), Nat.le_trans T2.out.2.2 hb.size⟩ : _ ∧ _ ∧ _)
          obtain ⟨M, hM⟩ : ∃ M, M = w2.heap.size := ⟨_, rfl⟩
          rw [← hM] at M3 HM3 ⊢
          have HMM := Lib.hid HM3.out
          generalize w2.alloc (.cells #[] 37) = w3 at *
          refine hK.out _ _ T3.out.1 (fun hHeld => ?_)
          clear hK K hb hM T2 HM3
          refine wpAnyH_ready (rs := [7, 9]) (by kernel_rfl) (by simp) ?_
          refine (AllReadyH.cons (o := ⟨some 29, _, _, _, _, _⟩) rfl (fun K hK => ?_) (AllReadyH.cons (o := ⟨some 5, _, _, _, _, _⟩) rfl (fun K hK => ?_) AllReadyH.nil))
          · rw [if_pos (by simp [Region.wanted])]
            refine Ba.wp_copy (.tmp 26) (.tmp 28) rfl M3.out HMM.out rfl rfl (HIT.out _ T3.out.2.1) hl1m ?_
            intro A1 c1 w4 hrow hgr
            have R4 := Lib.hid hrow
            have T4 := Lib.hid (⟨(hgr.block N (Sm.lt_of T3.out.1) (fun e => Ba.batch_ne T3.out.1 M3.out (Option.some.inj e))).trans T3.out.1, T3.out.2.1.grown hgr T3.out.2.2 (fun q hq => by rw [← Option.some.inj hq]; exact HMM.out), Nat.le_trans T3.out.2.2 hgr.size⟩ : _ ∧ _ ∧ _)
            refine hK.out _ _ T4.out.1 (fun hHeld => ?_)
            clear hK K hrow hgr T3 M3 HMM
            refine wpAnyH_take (i := 8) (oi := ⟨some 30, _, _, _, _, _⟩) (v := .agg #[.int .i64 ix, .int .i64 ep, .slice A1 l.length c1]) rfl (by kernel_rfl) (by kernel_rfl) (by kernel_rfl) (fun _ _ _ h => h) (Or.inl ⟨by rfl, ?_⟩) (by assumption) ?_
            · intro w hSw; (try dsimp only at hSw); go_simp
            simp only [Act.put, List.setIfInBounds_toArray, List.set_cons_zero, List.set_cons_succ]
            refine wpAnyH_ready (rs := [9]) (by kernel_rfl) (by simp) ?_
            refine (AllReadyH.cons (o := ⟨some 5, _, _, _, _, _⟩) rfl (fun K hK => ?_) AllReadyH.nil)
            go_simp
            have hb : Below w4.heap.size w4 (w4.alloc (.cells #[.int .i64 0, .int .i64 0, .slice none 0 0] 31)) := (Below.refl _ w4).alloc (Nat.le_refl _) _
            have Q5 := Lib.hid (heap_alloc_new w4 (.cells #[.int .i64 0, .int .i64 0, .slice none 0 0] 31))
            have HQ0 := Lib.hid T4.out.2.2
            have NQ0 := Lib.hid (Nat.ne_of_lt (Sm.lt_of T4.out.1))
            have T5 := Lib.hid (⟨(hb.block N (Sm.lt_of T4.out.1)).trans T4.out.1, T4.out.2.1.trans (hb.mono T4.out.2.2), Nat.le_trans T4.out.2.2 hb.size⟩ : _ ∧ _ ∧ _)
            have R5 := Lib.hid (R4.out.low hb)
            clear R4
            obtain ⟨Q, hQ⟩ : ∃ M, M = w4.heap.size := ⟨_, rfl⟩
            rw [← hQ] at Q5 HQ0 NQ0 ⊢
            have HQ := Lib.hid HQ0.out
            have NQ := Lib.hid NQ0.out
            generalize w4.alloc (.cells #[.int .i64 0, .int .i64 0, .slice none 0 0] 31) = w5 at *
            refine hK.out _ _ T5.out.1 (fun hHeld => ?_)
            clear hK K hb hQ T4 HQ0 NQ0
            refine wpAnyH_ready (rs := [10]) (by kernel_rfl) (by simp) ?_
            refine (AllReadyH.cons (o := ⟨none, _, _, _, _, _⟩) rfl (fun K hK => ?_) AllReadyH.nil)
            have c0 := Sm.cells_of Q5.out 0 _ rfl
            have c1' := Sm.cells_of Q5.out 1 _ rfl
            have c2 := Sm.cells_of Q5.out 2 _ rfl
            have f0 := Sm.free_of Q5.out 0
            have f1 := Sm.free_of Q5.out 1
            have f2 := Sm.free_of Q5.out 2
            have CP := Lib.hid (Ba.cp_made T5.out.1 T5.out.2.1 T5.out.2.2 Q5.out NQ.out HQ.out R5.out)
            go_simp
            refine hK.out _ _ CP.out.bx (fun hHeld => ?_)
            clear hK K c0 c1' c2 f0 f1 f2 Q5 R5 T5
            refine wpAnyH_done (by kernel_rfl) ?_ _
            generalize ((w5.setCell ⟨Q, 0, none⟩ (.int .i64 ix)).setCell ⟨Q, 1, none⟩ (.int .i64 ep)).setCell ⟨Q, 2, none⟩ (.slice A1 l.length c1) = w20 at *
            clear NQ HQ
            go_wp2_with fail
            go_meet
            exact ⟨Q, A1, c1, rfl, CP.out⟩
          · go_simp
            have hb : Below w3.heap.size w3 (w3.alloc (.cells #[.int .i64 0, .int .i64 0, .slice none 0 0] 31)) := (Below.refl _ w3).alloc (Nat.le_refl _) _
            have Q4 := Lib.hid (heap_alloc_new w3 (.cells #[.int .i64 0, .int .i64 0, .slice none 0 0] 31))
            have HQ0 := Lib.hid T3.out.2.2
            have NQ0 := Lib.hid (Nat.ne_of_lt (Sm.lt_of T3.out.1))
            have T4 := Lib.hid (⟨(hb.block N (Sm.lt_of T3.out.1)).trans T3.out.1, T3.out.2.1.trans (hb.mono T3.out.2.2), Nat.le_trans T3.out.2.2 hb.size⟩ : _ ∧ _ ∧ _)
            have M4 := Lib.hid ((hb.block M (Sm.lt_of M3.out)).trans M3.out)
            clear M3
            obtain ⟨Q, hQ⟩ : ∃ M, M = w3.heap.size := ⟨_, rfl⟩
            rw [← hQ] at Q4 HQ0 NQ0 ⊢
            have HQ := Lib.hid HQ0.out
            have NQ := Lib.hid NQ0.out
            generalize w3.alloc (.cells #[.int .i64 0, .int .i64 0, .slice none 0 0] 31) = w4 at *
            refine hK.out _ _ T4.out.1 (fun hHeld => ?_)
            clear hK K hb hQ T3 HQ0 NQ0
            refine wpAnyH_ready (rs := [7]) (by kernel_rfl) (by simp) ?_
            refine (AllReadyH.cons (o := ⟨some 29, _, _, _, _, _⟩) rfl (fun K hK => ?_) AllReadyH.nil)
            rw [if_pos (by simp [Region.wanted])]
            refine Ba.wp_copy (.tmp 26) (.tmp 28) rfl M4.out HMM.out rfl rfl (HIT.out _ T4.out.2.1) hl1m ?_
            intro A1 c1 w5 hrow hgr
            have R5 := Lib.hid hrow
            have Q5 := Lib.hid ((hgr.block Q (Sm.lt_of Q4.out) (fun e => Ba.batch_ne Q4.out M4.out (Option.some.inj e))).trans Q4.out)
            clear Q4
            have T5 := Lib.hid (⟨(hgr.block N (Sm.lt_of T4.out.1) (fun e => Ba.batch_ne T4.out.1 M4.out (Option.some.inj e))).trans T4.out.1, T4.out.2.1.grown hgr T4.out.2.2 (fun q hq => by rw [← Option.some.inj hq]; exact HMM.out), Nat.le_trans T4.out.2.2 hgr.size⟩ : _ ∧ _ ∧ _)
            refine hK.out _ _ T5.out.1 (fun hHeld => ?_)
            clear hK K hrow hgr T4 M4 HMM
            refine wpAnyH_take (i := 8) (oi := ⟨some 30, _, _, _, _, _⟩) (v := .agg #[.int .i64 ix, .int .i64 ep, .slice A1 l.length c1]) rfl (by kernel_rfl) (by kernel_rfl) (by kernel_rfl) (fun _ _ _ h => h) (Or.inl ⟨by rfl, ?_⟩) (by assumption) ?_
            · intro w hSw; (try dsimp only at hSw); go_simp
            simp only [Act.put, List.setIfInBounds_toArray, List.set_cons_zero, List.set_cons_succ]
            refine wpAnyH_ready (rs := [10]) (by kernel_rfl) (by simp) ?_
            refine (AllReadyH.cons (o := ⟨none, _, _, _, _, _⟩) rfl (fun K hK => ?_) AllReadyH.nil)
            have c0 := Sm.cells_of Q5.out 0 _ rfl
            have c1' := Sm.cells_of Q5.out 1 _ rfl
            have c2 := Sm.cells_of Q5.out 2 _ rfl
            have f0 := Sm.free_of Q5.out 0
            have f1 := Sm.free_of Q5.out 1
            have f2 := Sm.free_of Q5.out 2
            have CP := Lib.hid (Ba.cp_made T5.out.1 T5.out.2.1 T5.out.2.2 Q5.out NQ.out HQ.out R5.out)
            go_simp
            refine hK.out _ _ CP.out.bx (fun hHeld => ?_)
            clear hK K c0 c1' c2 f0 f1 f2 Q5 R5 T5
            refine wpAnyH_done (by kernel_rfl) ?_ _
            generalize ((w5.setCell ⟨Q, 0, none⟩ (.int .i64 ix)).setCell ⟨Q, 1, none⟩ (.int .i64 ep)).setCell ⟨Q, 2, none⟩ (.slice A1 l.length c1) = w20 at *
            clear NQ HQ
            go_wp2_with fail
            go_meet
            exact ⟨Q, A1, c1, rfl, CP.out⟩
        · go_simp
          have hb : Below w2.heap.size w2 (w2.alloc (.cells #[.int .i64 0, .int .i64 0, .slice none 0 0] 31)) := (Below.refl _ w2).alloc (Nat.le_refl _) _
          have Q3 := Lib.hid (heap_alloc_new w2 (.cells #[.int .i64 0, .int .i64 0, .slice none 0 0] 31))
          have HQ0 := Lib.hid T2.out.2.2
          have NQ0 := Lib.hid (Nat.ne_of_lt (Sm.lt_of T2.out.1))
          have T3 := Lib.hid (⟨(hb.block N (Sm.lt_of T2.out.1)).trans T2.out.1, T2.out.2.1.trans (hb.mono T2.out.2.2), Nat.le_trans T2.out.2.2 hb.size⟩ : _ ∧ _ ∧ _)
          obtain ⟨Q, hQ⟩ : ∃ M, M = w2.heap.size := ⟨_, rfl⟩
          rw [← hQ] at Q3 HQ0 NQ0 ⊢
          have HQ := Lib.hid HQ0.out
          have NQ := Lib.hid NQ0.out
          generalize w2.alloc (.cells #[.int .i64 0, .int .i64 0, .slice none 0 0] 31) = w3 at *
          refine hK.out _ _ T3.out.1 (fun hHeld => ?_)
          clear hK K hb hQ T2 HQ0 NQ0
          refine wpAnyH_ready (rs := [4]) (by kernel_rfl) (by simp) ?_
          refine (AllReadyH.cons (o := ⟨some 26, _, _, _, _, _⟩) rfl (fun K hK => ?_) AllReadyH.nil)
          go_simp
          have hb : Below w3.heap.size w3 (w3.alloc (.cells #[] 37)) := (Below.refl _ w3).alloc (Nat.le_refl _) _
          have M4 := Lib.hid (heap_alloc_new w3 (.cells #[] 37))
          have HM4 := Lib.hid T3.out.2.2
          have T4 := Lib.hid (⟨(hb.block N (Sm.lt_of T3.out.1)).trans T3.out.1, T3.out.2.1.trans (hb.mono T3.out.2.2), Nat.le_trans T3.out.2.2 hb.size⟩ : _ ∧ _ ∧ _)
          have Q4 := Lib.hid ((hb.block Q (Sm.lt_of Q3.out)).trans Q3.out)
          clear Q3
          obtain ⟨M, hM⟩ : ∃ M, M = w3.heap.size := ⟨_, rfl⟩
          rw [← hM] at M4 HM4 ⊢
          have HMM := Lib.hid HM4.out
          generalize w3.alloc (.cells #[] 37) = w4 at *
          refine hK.out _ _ T4.out.1 (fun hHeld => ?_)
          clear hK K hb hM T3 HM4
          refine wpAnyH_ready (rs := [7]) (by kernel_rfl) (by simp) ?_
          refine (AllReadyH.cons (o := ⟨some 29, _, _, _, _, _⟩) rfl (fun K hK => ?_) AllReadyH.nil)
          rw [if_pos (by simp [Region.wanted])]
          refine Ba.wp_copy (.tmp 26) (.tmp 28) rfl M4.out HMM.out rfl rfl (HIT.out _ T4.out.2.1) hl1m ?_
          intro A1 c1 w5 hrow hgr
          have R5 := Lib.hid hrow
          have Q5 := Lib.hid ((hgr.block Q (Sm.lt_of Q4.out) (fun e => Ba.batch_ne Q4.out M4.out (Option.some.inj e))).trans Q4.out)
          clear Q4
          have T5 := Lib.hid (⟨(hgr.block N (Sm.lt_of T4.out.1) (fun e => Ba.batch_ne T4.out.1 M4.out (Option.some.inj e))).trans T4.out.1, T4.out.2.1.grown hgr T4.out.2.2 (fun q hq => by rw [← Option.some.inj hq]; exact HMM.out), Nat.le_trans T4.out.2.2 hgr.size⟩ : _ ∧ _ ∧ _)
          refine hK.out _ _ T5.out.1 (fun hHeld => ?_)
          clear hK K hrow hgr T4 M4 HMM
          refine wpAnyH_take (i := 8) (oi := ⟨some 30, _, _, _, _, _⟩) (v := .agg #[.int .i64 ix, .int .i64 ep, .slice A1 l.length c1]) rfl (by kernel_rfl) (by kernel_rfl) (by kernel_rfl) (fun _ _ _ h => h) (Or.inl ⟨by rfl, ?_⟩) (by assumption) ?_
          · intro w hSw; (try dsimp only at hSw); go_simp
          simp only [Act.put, List.setIfInBounds_toArray, List.set_cons_zero, List.set_cons_succ]
          refine wpAnyH_ready (rs := [10]) (by kernel_rfl) (by simp) ?_
          refine (AllReadyH.cons (o := ⟨none, _, _, _, _, _⟩) rfl (fun K hK => ?_) AllReadyH.nil)
          have c0 := Sm.cells_of Q5.out 0 _ rfl
          have c1' := Sm.cells_of Q5.out 1 _ rfl
          have c2 := Sm.cells_of Q5.out 2 _ rfl
          have f0 := Sm.free_of Q5.out 0
          have f1 := Sm.free_of Q5.out 1
          have f2 := Sm.free_of Q5.out 2
          have CP := Lib.hid (Ba.cp_made T5.out.1 T5.out.2.1 T5.out.2.2 Q5.out NQ.out HQ.out R5.out)
          go_simp
          refine hK.out _ _ CP.out.bx (fun hHeld => ?_)
          clear hK K c0 c1' c2 f0 f1 f2 Q5 R5 T5
          refine wpAnyH_done (by kernel_rfl) ?_ _
          generalize ((w5.setCell ⟨Q, 0, none⟩ (.int .i64 ix)).setCell ⟨Q, 1, none⟩ (.int .i64 ep)).setCell ⟨Q, 2, none⟩ (.slice A1 l.length c1) = w20 at *
          clear NQ HQ
          go_wp2_with fail
          go_meet
          exact ⟨Q, A1, c1, rfl, CP.out⟩
      case rest =>
        clear T1
        obtain ⟨Q, A1, c1, rfl, cp⟩ := hcut
        have C1 := Lib.hid cp
        clear cp
        generalize wc = w3 at *
        have x0 := Sm.cells_of C1.out.bx 0 _ rfl
        have x1 := Sm.cells_of C1.out.bx 1 _ rfl
        have x2 := Sm.cells_of C1.out.bx 2 _ rfl
        go_wp2_with fail
        refine (BY.out _ _ _ (HIT.out _ C1.out.bel)).mono ?_
        rintro e w4 ⟨rfl, k4⟩
        have C4 := Lib.hid (C1.out.step k4)
        clear k4 C1 x0 x1 x2
        have x0 := Sm.cells_of C4.out.bx 0 _ rfl
        have x1 := Sm.cells_of C4.out.bx 1 _ rfl
        have x2 := Sm.cells_of C4.out.bx 2 _ rfl
        go_wp2_with fail
        refine (RY.out _ _ _ (HIT.out _ C4.out.bel)).mono ?_
        rintro e w5 ⟨rfl, k5⟩
        have C5 := Lib.hid (C4.out.step k5)
        clear k5 C4 x0 x1 x2
        have x0 := Sm.cells_of C5.out.bx 0 _ rfl
        have x1 := Sm.cells_of C5.out.bx 1 _ rfl
        have x2 := Sm.cells_of C5.out.bx 2 _ rfl
        go_wp2_with fail
        refine (FI.out _ _ _ (HM.out _ C5.out.bel) (HIT.out _ C5.out.bel)).mono ?_
        rintro e w6 ⟨A, c, rfl, hrow, k6⟩
        have BB6 := Lib.hid k6
        have z0 : (w6.alloc (.cells #[.int .i64 0, .int .i64 0, .slice none 0 0] 31)).frozen? ⟨w6.heap.size, 0, none⟩ = false := Sm.free_of (heap_alloc_new w6 _) 0
        have k7 : Below w6.heap.size w6 (w6.alloc (.cells #[.int .i64 ix, .int .i64 ep, .slice A F.length c] 31)) := (Below.refl _ w6).alloc (Nat.le_refl _) _
        have P7 := heap_alloc_new w6 (.cells #[.int .i64 ix, .int .i64 ep, .slice A F.length c] 31)
        have row7 := hrow.low k7
        have BB7 := Lib.hid (k6.trans (k7.mono k6.size))
        have hP0 := k6.size
        clear x0 x1 x2 hrow k6 BB6 k7
        go_upto_region 7 with (fail)
        obtain ⟨P, hP⟩ : ∃ P, P = w6.heap.size := ⟨_, rfl⟩
        rw [← hP] at P7 ⊢
        have hPB : w5.heap.size ≤ P := by omega
        clear hP hP0 z0
        generalize w6.alloc (.cells #[.int .i64 ix, .int .i64 ep, .slice A F.length c] 31) = w7 at *
        obtain ⟨B0, hB0⟩ : ∃ n, n = w5.heap.size := ⟨_, rfl⟩
        rw [← hB0] at row7 BB7 hPB
        have HB0 := Lib.hid hB0
        have PP := Lib.hid P7
        have RR := Lib.hid row7
        clear hB0 P7 row7
        have HC : Hid (∀ wx, Below B0 w5 wx → Ba.Cp w wx N Q ix ep C d l A1 c1) := fun wx k => C5.out.upto k (Nat.le_of_eq HB0.out.symm)
        clear C5
        have x0 := Sm.cells_of (HC.out _ BB7.out).bx 0 _ rfl
        have x1 := Sm.cells_of (HC.out _ BB7.out).bx 1 _ rfl
        have x2 := Sm.cells_of (HC.out _ BB7.out).bx 2 _ rfl
        go_wp2_with fail
        refine (RF.out _ _ _ (HM.out _ (HC.out _ BB7.out).bel) (HIT.out _ (HC.out _ BB7.out).bel)).mono ?_
        rintro e w8 ⟨A2, c2, rfl, hl8, k8⟩
        have z0 : (w8.alloc (.cells #[.int .i64 0, .int .i64 0, .slice none 0 0] 31)).frozen? ⟨w8.heap.size, 0, none⟩ = false := Sm.free_of (heap_alloc_new w8 _) 0
        have k9 : Below w8.heap.size w8 (w8.alloc (.cells #[.int .i64 ix, .int .i64 ep, .slice A2 F.length c2] 31)) := (Below.refl _ w8).alloc (Nat.le_refl _) _
        have Y9 := heap_alloc_new w8 (.cells #[.int .i64 ix, .int .i64 ep, .slice A2 F.length c2] 31)
        have L9 := Lib.hid (hl8.below k9)
        have P9 := Lib.hid ((k9.block P (Nat.lt_of_lt_of_le (Sm.lt_of PP.out) k8.size)).trans ((k8.block P (Sm.lt_of PP.out)).trans PP.out))
        have R9 := Lib.hid ((RR.out.low k8).low k9)
        have BB9 := Lib.hid (Ba.low_low HB0.out (Ba.low_low HB0.out BB7.out k8) k9)
        clear x0 x1 x2 hl8 k8 k9 PP RR BB7
        go_upto_region 8 with (fail)
        obtain ⟨Y, hY⟩ : ∃ P, P = w8.heap.size := ⟨_, rfl⟩
        rw [← hY] at Y9 ⊢
        clear hY z0
        generalize w8.alloc (.cells #[.int .i64 ix, .int .i64 ep, .slice A2 F.length c2] 31) = w9 at *
        have YY := Lib.hid Y9
        clear Y9
        have p0 := Sm.cells_of P9.out 0 _ rfl
        have p1 := Sm.cells_of P9.out 1 _ rfl
        have p2 := Sm.cells_of P9.out 2 _ rfl
        have y0 := Sm.cells_of YY.out 0 _ rfl
        have y1 := Sm.cells_of YY.out 1 _ rfl
        have y2 := Sm.cells_of YY.out 2 _ rfl
        go_wp2_with fail
        refine (SR.out _ _ _ _ _ R9.out.listAt L9.out).mono ?_
        rintro e w10 ⟨rfl, k10⟩
        have P10 := Lib.hid ((k10.block P (Sm.lt_of P9.out)).trans P9.out)
        have Y10 := Lib.hid ((k10.block Y (Sm.lt_of YY.out)).trans YY.out)
        have R10 := Lib.hid (R9.out.low k10)
        have L10 := Lib.hid (L9.out.below k10)
        have BB10 := Lib.hid (Ba.low_low HB0.out BB9.out k10)
        clear k10 P9 YY R9 L9 BB9 p0 p1 p2 y0 y1 y2
        have p0 := Sm.cells_of P10.out 0 _ rfl
        have p1 := Sm.cells_of P10.out 1 _ rfl
        have p2 := Sm.cells_of P10.out 2 _ rfl
        have y0 := Sm.cells_of Y10.out 0 _ rfl
        have y1 := Sm.cells_of Y10.out 1 _ rfl
        have y2 := Sm.cells_of Y10.out 2 _ rfl
        go_wp2_with fail
        refine (SB.out _ _ _ _ _ R10.out.listAt L10.out).mono ?_
        rintro e w11 ⟨rfl, k11⟩
        have P11 := Lib.hid ((k11.block P (Sm.lt_of P10.out)).trans P10.out)
        have R11 := Lib.hid (R10.out.low k11)
        have BB11 := Lib.hid (Ba.low_low HB0.out BB10.out k11)
        clear k11 P10 Y10 R10 L10 BB10 p0 p1 p2 y0 y1 y2
        go_upto_region 10 with (fail)
        go_loopw [13] (fun iv wr => ∃ (i : Nat) (xs : List Value), iv = .int .i64 i ∧ i ≤ F.length ∧ wr.heap[P]? = some (.cells #[.int .i64 ix, .int .i64 ep, .slice A F.length c] 31 (0, 0)) ∧ wr.ownsRow B0 37 3 (.slice A F.length c) F.length xs ∧ Below B0 w5 wr) (fun iv _ => F.length - (intOf iv).toNat)
        case atStart => exact ⟨0, _, rfl, Nat.zero_le _, P11.out, R11.out, BB11.out⟩
        case round =>
          clear P11 R11 BB11
          obtain ⟨i, xs, rfl, hi, hpx, hown, hbw⟩ := hrel
          have p2 := Sm.cells_of hpx 2 _ rfl
          by_cases hlt : i < F.length
          · have hii : (i : Int) < (F.length : Int) := by omega
            have hsuc : IntKind.i64.wrap ((i : Int) + 1) = ((i + 1 : Nat) : Int) := by simp [IntKind.wrap, IntKind.bits, IntKind.signed]; omega
            obtain ⟨g, rfl⟩ := Ba.own_some hown (by omega)
            have hc := hown.cellAt (i * 3 + 1) (by omega)
            have hf := hown.frozenAt (i * 3 + 1)
            obtain ⟨u, hu⟩ : ∃ u, xs[i * 3 + 1]? = some u := ⟨_, List.getElem?_eq_getElem (by rw [hown.1]; omega)⟩
            rw [hu] at hc
            obtain ⟨hst, hgr⟩ := hown.stored (i * 3 + 1) (.string ⟨#[119, 114, 105, 116, 116, 101, 110, 32, 111, 118, 101, 114]⟩)
            have hgB : B0 ≤ g := (hown.lt g rfl).1
            have hPg : P ≠ g := fun e => by
              rcases hown.2 with ⟨h', _⟩ | ⟨g', cap', cur, h', _, hg, _⟩
              · simp at h'
              · simp only [Value.slice.injEq, Option.some.injEq, Addr.mk.injEq, and_true, true_and] at h'
                obtain ⟨rfl, -⟩ := h'
                exact Ba.batch_ne hpx hg e
            have ST := Lib.hid hst
            have P12 := Lib.hid ((Below.heap_setCell _ ⟨g, i * 3 + 1, none⟩ (.string ⟨#[119, 114, 105, 116, 116, 101, 110, 32, 111, 118, 101, 114]⟩) _ hPg).trans hpx)
            have BB12 := Lib.hid (hbw.setCell (p := ⟨g, i * 3 + 1, none⟩) hgB (.string ⟨#[119, 114, 105, 116, 116, 101, 110, 32, 111, 118, 101, 114]⟩))
            clear hst hgr hown hpx hbw hPg hu hgB
            go_wp2_with fail
            go_roundw
            case rel => exact ⟨i + 1, _, rfl, hlt, P12.out, ST.out, BB12.out⟩
            case measure => simp [intOf]; omega
          · have hii : ¬ (i : Int) < (F.length : Int) := by omega
            have C13 := Lib.hid (HC.out _ hbw)
            clear hpx hown hbw
            have x0 := Sm.cells_of C13.out.bx 0 _ rfl
            have x1 := Sm.cells_of C13.out.bx 1 _ rfl
            have x2 := Sm.cells_of C13.out.bx 2 _ rfl
            go_wp2_with fail
            refine (RT.out _ _ _ (HIT.out _ C13.out.bel)).mono ?_
            rintro e w14 ⟨rfl, k14⟩
            have C14 := Lib.hid (C13.out.step k14)
            clear k14 C13 x0 x1 x2 p2
            have x0 := Sm.cells_of C14.out.bx 0 _ rfl
            have x1 := Sm.cells_of C14.out.bx 1 _ rfl
            have x2 := Sm.cells_of C14.out.bx 2 _ rfl
            have y0 := Sm.cells_of C14.out.wx 0 _ rfl
            have y1 := Sm.cells_of C14.out.wx 1 _ rfl
            have y2 := Sm.cells_of C14.out.wx 2 _ rfl
            go_wp2_with fail
            refine (SL.out _ _ _ _ _ (HIT.out _ C14.out.bel) C14.out.row.listAt).mono ?_
            rintro e w15 ⟨rfl, k15⟩
            have C15 := Lib.hid (C14.out.step k15)
            clear k15 C14 x0 x1 x2 y0 y1 y2
            go_wp2_with fail
            refine (AW.out _).mono ?_
            rintro e w16 ⟨rfl, k16⟩
            go_wp2_with fail
            go_ret
            exact ⟨rfl, (C15.out.step k16).bel⟩
    · clear hgm hgr HIT HM
      go_enter Try.func4, Try.ntmps4
      go_upto_region 1 with (fail)
      rw [← HN.out]
      generalize w.alloc (.cells #[.int .i64 ix, .int .i64 ep, .slice C l.length d] 31) = W1 at *
      go_wp2_with fail
      refine GM.out.mono ?_
      rintro e w1 ⟨rfl, rfl⟩
      go_wp2_with fail
      refine GO.out.mono ?_
      rintro e w1 ⟨rfl, rfl⟩
      go_wp2_with fail
      refine (AW.out _).mono ?_
      rintro e w2 ⟨rfl, b2⟩
      go_wp2_with fail
      go_ret
      exact ⟨rfl, B1.out.trans (b2.mono (Nat.le_of_lt hlt1))⟩
  · clear hgm hgr GO HIT HM
    go_enter Try.func4, Try.ntmps4
    go_upto_region 1 with (fail)
    rw [← HN.out]
    generalize w.alloc (.cells #[.int .i64 ix, .int .i64 ep, .slice C l.length d] 31) = W1 at *
    go_wp2_with fail
    refine GM.out.mono ?_
    rintro e w1 ⟨rfl, rfl⟩
    go_wp2_with fail
    refine (AW.out _).mono ?_
    rintro e w2 ⟨rfl, b2⟩
    go_wp2_with fail
    go_ret
    exact ⟨rfl, B1.out.trans (b2.mono (Nat.le_of_lt hlt1))⟩
end Go.Proofs.Ytlndggbidmmodaa
