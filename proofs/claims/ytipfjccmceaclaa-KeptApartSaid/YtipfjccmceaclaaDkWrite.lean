/-
  What disk's Write does.
-/
import Derived.Test.YtipfjccmceaclaaDkAppend
import Derived.Great.BuildSlice
namespace Go.Proofs.Ytipfjccmceaclaa
open Go.RowKit
namespace Dk
theorem info_u8s : (Try.prog.info? 5).map (·.size) = some 1 := by kernel_rfl
theorem copy_sec {w : World} {N : Nat} {z0 : Array Value} (hz : z0.size = 64) (s : ByteArray) (hs : s.size = 64) (h : w.heap[N]? = some (.cells z0 106 (0, 0))) :
    (Builtin.copy_ #[70, 9] 3 #[.slice (some ⟨N, 0, none⟩) 64 64, .string s]).run Try.prog w = .ok (.int .i64 64) (w.setRow N (Lib.byteCells s.data.toList).toArray) := by
  have hl : (Lib.byteCells s.data.toList).length = 64 := by rw [Lib.byteCells_length]; exact hs
  have r := Lib.run_copy_row_string (P := Try.prog) w 70 9 3 5 N 0 64 64 s z0 106 Try.underlying70 info_u8s h (by omega) (by omega)
  rw [r, hs, List.take_zero, List.nil_append, List.drop_of_length_le (by simp [hz]), List.append_nil]
  rfl
theorem put_same (M : Md) (i : Nat) (l : List UInt8) : (put M i l).W i = M.W i ++ [l] := if_pos rfl
theorem put_other (M : Md) {i j : Nat} (l : List UInt8) (h : j ≠ i) : (put M i l).W j = M.W j := if_neg h
/-- A write more waits for a sector. -/
theorem Parts.put {w w1 : World} {r m b c : Nat} {g : Nat → Nat} {F : Nat → Option Value} {M : Md} (h : Parts w r m b c g F M) {i : Nat} (hi : i < M.lasts.length) {l : List UInt8} (hl : l.length = 64)
    {gi ci : Nat} (hrow : RowAt w1 gi ci (M.W i ++ [l])) (hmap : MapAt Try.prog 3 w1 m M.lasts.length (fun j => if j = i then some (.slice (some ⟨gi, 0, none⟩) (M.W i ++ [l]).length ci) else F j))
    (hnew : (M.W i ≠ [] ∧ gi = g i) ∨ w.heap.size ≤ gi) (hk : ∀ k, own r m b g M k → k ≠ m → k ≠ gi → w1.heap[k]? = w.heap[k]?) :
    Parts w1 r m b c (fun j => if j = i then gi else g j) (fun j => if j = i then some (.slice (some ⟨gi, 0, none⟩) (M.W i ++ [l]).length ci) else F j) (put M i l) := by
  have hlt := h.lt
  have gne : ∀ k, own r m b g M k → (∀ j, j < M.lasts.length → M.W j ≠ [] → k = g j → j ≠ i) → k ≠ gi := by
    rintro k hk1 hk2 rfl
    rcases hnew with ⟨hw, e⟩ | e
    · exact hk2 i hi hw e rfl
    · have := hlt k hk1; omega
  have rne : r ≠ gi := gne r (.inl rfl) fun j hj hw e => absurd e.symm (h.ne_gr hj hw)
  have bne : b ≠ gi := gne b (.inr (.inr (.inl rfl))) fun j hj hw e => absurd e.symm (h.apart j hj hw)
  refine ⟨h.ok.put hi hl, (hk r (.inl rfl) h.ne_rm rne).trans h.disk, h.row.block (hk b (.inr (.inr (.inl rfl))) h.ne_bm bne), hmap, fun j hj hw => ?_, fun j hj hw => ?_, fun j hj hw => ?_, fun j k hj hkk hw1 hw2 e => ?_⟩
  · by_cases e : j = i
    · subst e; rw [put_same] at hw; simp at hw
    · rw [put_other M l e] at hw
      rw [if_neg e]
      exact h.idle j hj hw
  · by_cases e : j = i
    · subst e
      rw [put_same, if_pos rfl, if_pos rfl]
      exact ⟨ci, rfl, hrow⟩
    · rw [put_other M l e] at hw ⊢
      rw [if_neg e, if_neg e]
      obtain ⟨cj, e1, e2⟩ := h.wait j hj hw
      refine ⟨cj, e1, e2.block (hk _ (.inr (.inr (.inr ⟨j, hj, hw, rfl⟩))) (h.ne_gm hj hw) (gne _ (.inr (.inr (.inr ⟨j, hj, hw, rfl⟩))) fun k hk3 hw3 e3 e4 => ?_))⟩
      subst e4
      exact e (h.inj j k hj hk3 hw hw3 e3)
  · by_cases e : j = i
    · subst e; rw [if_pos rfl]; exact bne.symm
    · rw [put_other M l e] at hw
      rw [if_neg e]
      exact h.apart j hj hw
  · have other : ∀ a, a < M.lasts.length → a ≠ i → M.W a ≠ [] → g a ≠ gi := fun a ha hne hwa => gne _ (.inr (.inr (.inr ⟨a, ha, hwa, rfl⟩))) fun k hk3 hw3 e3 e4 => by
      subst e4; exact hne (h.inj a k ha hk3 hwa hw3 e3)
    by_cases e1 : j = i
    · by_cases e2 : k = i
      · rw [e1, e2]
      · subst e1
        rw [put_other M l e2] at hw2
        rw [if_neg e2, if_pos rfl] at e
        exact absurd e.symm (other k hkk e2 hw2)
    · by_cases e2 : k = i
      · subst e2
        rw [put_other M l e1] at hw1
        rw [if_neg e1, if_pos rfl] at e
        exact absurd e (other j hj e1 hw1)
      · rw [put_other M l e1] at hw1
        rw [put_other M l e2] at hw2
        rw [if_neg e1, if_neg e2] at e
        exact h.inj j k hj hkk hw1 hw2 e
theorem size64 (f : Nat → Value) : ((Array.range (1 * 64)).map f).size = 64 := by simp
theorem fold_set : ∀ (cs : List Value) (k : Nat) (A : Array Value), k + cs.length ≤ A.size → ((cs.zipIdx k).foldl (fun A x => A.setIfInBounds (0 + x.2) x.1) A).toList = A.toList.take k ++ (cs ++ A.toList.drop (k + cs.length))
  | [], k, A, _ => by simp
  | c :: cs, k, A, h => by
    simp only [List.length_cons] at h
    rw [List.zipIdx_cons, List.foldl_cons, fold_set cs (k + 1) _ (by simp; omega), Nat.zero_add, Array.toList_setIfInBounds]
    have hl : k < A.toList.length := by simp; omega
    have e1 : (A.toList.set k c).take (k + 1) = A.toList.take k ++ [c] := by
      rw [List.take_succ_eq_append_getElem (by simp; omega), List.take_set_of_le (Nat.le_refl _)]
      simp
    rw [e1, List.drop_set_of_lt (by omega), List.length_cons, show k + 1 + cs.length = k + (cs.length + 1) by omega]
    simp
theorem fill_sec (z : Array Value) {cs : List Value} (h : cs.length = 64) (hz : z.size = 64) : Instr.fill (fun i => some (i * 64, 64)) z [(0, .agg cs.toArray)] = some cs.toArray := by
  have e : (Array.foldl (fun (cs : Array Value) (x : Value × Nat) => cs.setIfInBounds (0 + x.2) x.1) z (cs.toArray.zipIdx)) = cs.toArray := by
    rw [← Array.foldl_toList]
    apply Array.ext'
    have h2 := fold_set cs 0 z (by omega)
    rw [List.take_zero, List.nil_append, List.drop_of_length_le (by simp; omega), List.append_nil] at h2
    simpa using h2
  have hc : (Value.agg cs.toArray).cells = cs.toArray := rfl
  unfold Instr.fill
  simp only [hc, List.size_toArray, h, hz, Nat.zero_mul, ne_eq, not_true_eq_false, decide_false, Nat.zero_add, Nat.lt_irrefl, gt_iff_lt, Bool.or_self, Bool.false_eq_true, if_false]
  simp only [Nat.zero_add] at e
  rw [e]
  rfl
theorem wp_mapUpdate_run {P : Program} {o : Oper} {a : Act} {w w' : World} {K : Act → World → Prop} {Q : Exit → Act → World → Prop} (t : TypeId) (m x v : Operand) (ho : o.op = .mapUpdate t m x v) {mv kv vv : Value} (hm : a.eval m = mv) (hx : a.eval x = kv) (hv : a.eval v = vv)
    (hrun : (Instr.mapUpdate t mv kv vv).run P w = .ok () w') (h : K (a.put o.dst undef) w') : o.wp P a w K Q := by
  unfold Oper.wp
  simp [execOp, ho, hm, hx, hv, hrun, Result.andThen]
  exact h
theorem wp_lookup_run {P : Program} {o : Oper} {a : Act} {w : World} {K : Act → World → Prop} {Q : Exit → Act → World → Prop} (t : TypeId) (m x : Operand) (ho : o.op = .lookup t m x false) {mv kv vv : Value} (hm : a.eval m = mv) (hx : a.eval x = kv)
    (hrun : (Instr.lookup t mv kv false).run P w = .ok vv w) (h : K (a.put o.dst vv) w) : o.wp P a w K Q := by
  unfold Oper.wp
  simp [execOp, ho, hm, hx, hrun, Result.andThen]
  exact h
/-- What a map tells of a sector: the list of its writes. -/
theorem Parts.waitRow {w : World} {r m b c : Nat} {g : Nat → Nat} {F : Nat → Option Value} {M : Md} (h : Parts w r m b c g F M) {i : Nat} (hi : i < M.lasts.length) :
    ∃ v, (F i).getD (.slice none 0 0) = v ∧ SecsAt w v (M.W i) ∧ (v.ownBlock = none ∨ (M.W i ≠ [] ∧ v.ownBlock = some (g i))) := by
  by_cases hw : M.W i = []
  · rw [h.idle i hi hw, hw]
    exact ⟨_, rfl, .inl ⟨rfl, rfl⟩, .inl rfl⟩
  · obtain ⟨ci, h1, h2⟩ := h.wait i hi hw
    rw [h1]
    exact ⟨_, rfl, .inr ⟨_, _, rfl, h2⟩, .inr ⟨hw, rfl⟩⟩
end Dk

set_option maxRecDepth 100000 in
theorem dkWrite_none {w : World} {v : Value} (h : Dk.None w v) (i : Int) (s : ByteArray) :
    Calls Try.prog 24 #[v, .int .i64 i, .string s] w fun e w' => e = .returned (.int .i64 2) ∧ w = w' := by
  have RE := Lib.hid (dkReady_none h)
  clear h
  go_enter Try.func24, Try.ntmps24
  go_wp2_with (go_at_call 54; refine RE.out.mono ?_; rintro e w' ⟨rfl, rfl⟩)
  go_ret
  exact ⟨rfl, rfl⟩
set_option maxRecDepth 100000 in
set_option maxHeartbeats 2000000 in
theorem dkWrite_parts {w : World} {r m b c : Nat} {g : Nat → Nat} {F : Nat → Option Value} {M : Dk.Md} (h : Dk.Parts w r m b c g F M) (i : Int) (s : ByteArray) (hroom : (M.W i.toNat).length ≤ 1099511627776) :
    Calls Try.prog 24 #[.pointer (some ⟨r, 0, none⟩), .int .i64 i, .string s] w fun e w' => e = .returned (.int .i64 (Dk.write M i s.data.toList).2) ∧
      ∃ g' F', Dk.Parts w' r m b c g' F' (Dk.write M i s.data.toList).1 ∧ (∀ k, Dk.own r m b g' (Dk.write M i s.data.toList).1 k → Dk.own r m b g M k ∨ w.heap.size ≤ k) ∧ Dk.Turned (Dk.own r m b g M) w w' := by
  have RE := Lib.hid (dkReady_any h)
  have HA := Lib.hid (dkHas_any h i)
  have AC := Lib.hid (dkAct_any h)
  have H := Lib.hid h
  have hok := h.ok
  have hsl : s.data.toList.length = s.size := by simp
  cases hoff : M.off
  · rw [hoff] at RE
    cases hth : Dk.there M i
    · have e : Dk.write M i s.data.toList = (M, 1) := by simp [Dk.write, hoff, hth]
      rw [e]; clear e
      rw [hth] at HA
      clear h hok
      go_enter Try.func24, Try.ntmps24
      go_wp2_with (first | (go_at_call 54; refine RE.out.mono ?_; rintro e w' ⟨rfl, rfl⟩) | (go_at_call 55; refine HA.out.mono ?_; rintro e w' ⟨rfl, rfl⟩))
      go_ret
      exact ⟨rfl, g, F, H.out, fun k hk => .inl hk, Dk.Turned.refl _ _⟩
    · rw [hth] at HA
      by_cases h64 : s.size = 64
      · cases hact : (Dk.act M).2
        · have e : Dk.write M i s.data.toList = ((Dk.act M).1, 14) := by simp [Dk.write, hoff, hth, hsl, h64, hact]
          have eW := Dk.act_W M
          have eL := Dk.act_lasts M
          rw [e]; clear e
          rw [hact] at AC
          clear h hok
          go_enter Try.func24, Try.ntmps24
          go_wp2_with (first | (go_at_call 54; refine RE.out.mono ?_; rintro e w' ⟨rfl, rfl⟩) | (go_at_call 55; refine HA.out.mono ?_; rintro e w' ⟨rfl, rfl⟩) | (go_at_call 56; refine AC.out.mono ?_; rintro e w1 ⟨rfl, hP1, hg1, hs1⟩))
          go_ret
          exact ⟨rfl, g, F, hP1, fun k hk => .inl (by unfold Dk.own at hk ⊢; rwa [eW, eL] at hk), Dk.Turned.of_grown hg1 (.inl (.inl rfl))⟩
        · obtain ⟨i0, hi0⟩ : ∃ k : Nat, i = (k : Int) := ⟨i.toNat, by have := Dk.there_iff.1 hth; omega⟩
          subst hi0
          have hi : i0 < M.lasts.length := by have := Dk.there_iff.1 hth; omega
          have e : Dk.write M i0 s.data.toList = (Dk.put (Dk.act M).1 i0 s.data.toList, 0) := by simp [Dk.write, hoff, hth, hsl, h64, hact]
          rw [e]; clear e
          rw [hact] at AC
          have hl1 := Dk.act_lasts M
          have hW1 := Dk.act_W M
          have hown1 : Dk.own r m b g (Dk.act M).1 = Dk.own r m b g M := by unfold Dk.own; rw [hl1, hW1]
          rw [Int.toNat_natCast] at hroom
          obtain ⟨M1, hM1⟩ : ∃ M1, M1 = (Dk.act M).1 := ⟨_, rfl⟩
          rw [← hM1] at AC hl1 hW1 hown1 ⊢
          rw [← hW1] at hroom
          have hin1 : i0 < M1.lasts.length := by rw [hl1]; exact hi
          clear hok hM1
          obtain ⟨z0, hz0⟩ : ∃ z, z = Sm.rowB 64 [] := ⟨_, rfl⟩
          have hz1 := (zero_of_info Dk.zeroSec).1
          rw [← hz0] at hz1
          have hzn : z0.size = 64 := by rw [hz0]; exact Sm.rowB_size (by simp)
          obtain ⟨cs, hcs⟩ : ∃ cs, cs = Lib.byteCells s.data.toList := ⟨_, rfl⟩
          have hcl : cs.length = 64 := by rw [hcs, Lib.byteCells_length, hsl, h64]
          have h1 : ∀ v ∈ cs, v.oneCell' = true := by rw [hcs]; exact Lib.byteCells_one _
          have hsz64 : (s.size : Int) = 64 := by omega
          have HZN := Lib.hid hzn
          have HCL := Lib.hid hcl
          have H1 := Lib.hid h1
          have HCS := Lib.hid hcs
          have HIN := Lib.hid hin1
          have HL1 := Lib.hid hl1
          have HW1 := Lib.hid hW1
          have HOWN := Lib.hid hown1
          have HR := Lib.hid hroom
          have HSL := Lib.hid (hsl.trans h64)
          have HI := Lib.hid hi
          clear h hz0 hcs hcl h1 hzn hl1 hW1 hown1 hroom hin1 hsl hi
          go_enter Try.func24, Try.ntmps24
          go_upto_region 9 with (first | (go_at_call 54; refine RE.out.mono ?_; rintro e w' ⟨rfl, rfl⟩) | (go_at_call 55; refine HA.out.mono ?_; rintro e w' ⟨rfl, rfl⟩) | (go_at_call 56; refine AC.out.mono ?_; rintro e w1 ⟨rfl, hP1, hg1, hs1⟩))
          have HP1 := Lib.hid hP1
          have HG1 := Lib.hid hg1
          clear hP1 hg1 hs1
          have g2 := heap_alloc_new w1 (.cells z0 106)
          have hcp := Dk.copy_sec HZN.out s h64 g2
          rw [← HCS.out] at hcp
          clear g2
          go_upto_region 11 with (fail)
          --STOP
          have HN := heap_alloc_new w1 (.cells z0 106)
          have hP3 : Dk.Parts (((w1.alloc (.cells z0 106)).setRow w1.heap.size cs.toArray)) r m b c g F M1 := (HP1.out.alloc _).keep fun k hk => setRow_other _ _ _ _ (by have := HP1.out.lt k hk; omega)
          have hG3 : ((w1.alloc (.cells z0 106)).setRow w1.heap.size cs.toArray).heap[w1.heap.size]? = some (.cells cs.toArray 106 (0, 0)) := setRow_heap _ _ _ _ _ _ HN
          have hT3 : Dk.Turned (Dk.own r m b g M) w ((w1.alloc (.cells z0 106)).setRow w1.heap.size cs.toArray) := (Dk.Turned.of_grown HG1.out (.inl (.inl rfl))).trans (Dk.Turned.of_below (Sm.below_setRow ((Below.refl w1.heap.size w1).alloc (Nat.le_refl _) _) (Nat.le_refl _) _) (Nat.le_refl _))
          clear HN
          generalize ((w1.alloc (.cells z0 106)).setRow w1.heap.size cs.toArray) = w3 at *
          obtain ⟨N, hN⟩ : ∃ N, N = w1.heap.size := ⟨_, rfl⟩
          rw [← hN] at hG3 ⊢
          have HNS : Hid (w.heap.size ≤ N) := by show _ ≤ _; rw [hN]; exact HG1.out.size
          clear hcp hN HG1 HP1 hz1
          have hn := hP3.ok.n
          have hlook := hP3.drew.map.look7 HIN.out hn.2
          obtain ⟨v0, hv0, hrow0, hob⟩ := hP3.waitRow HIN.out
          rw [hv0] at hlook
          obtain ⟨i0', hie, hiz, his, hib⟩ := info_parts Dk.info3_sec
          have c1 := hP3.c1
          have HP3 := Lib.hid hP3
          have HT3 := Lib.hid hT3
          have HG3 := Lib.hid hG3
          have HOB := Lib.hid hob
          have HV0 := Lib.hid hv0
          have hrg := Sm.range_row hG3
          clear hP3 hT3 hG3 hob
          refine wp_region_held_drew (S := (fun w' => w'.cell? ⟨r, 1, none⟩ = some (.map (some m)) ∧ w'.rangeAt N 0 cs)) (by kernel_rfl) ⟨c1, hrg⟩ (fun hHeld => ?_)
          refine wpAnyH_take (i := 0) (oi := ⟨some 32, _, _, _, _, _⟩) (v := .pointer (some ⟨r, 0, none⟩)) rfl (by kernel_rfl) (by kernel_rfl) (by kernel_rfl) (fun _ _ _ h => h) (Or.inl ⟨by rfl, ?_⟩) (by assumption) ?_
          · intro w hSw; (try dsimp only at hSw); go_simp
          simp only [Act.put, List.setIfInBounds_toArray, List.set_cons_zero, List.set_cons_succ]
          refine wpAnyH_take (i := 1) (oi := ⟨some 33, _, _, _, _, _⟩) (v := .pointer (some ⟨r, 0, none⟩)) rfl (by kernel_rfl) (by kernel_rfl) (by kernel_rfl) (fun _ _ _ h => h) (Or.inl ⟨by rfl, ?_⟩) (by assumption) ?_
          · intro w hSw; (try dsimp only at hSw); go_simp
          simp only [Act.put, List.setIfInBounds_toArray, List.set_cons_zero, List.set_cons_succ]
          refine wpAnyH_take (i := 2) (oi := ⟨some 34, _, _, _, _, _⟩) (v := .pointer (some ⟨r, 1, none⟩)) rfl (by kernel_rfl) (by kernel_rfl) (by kernel_rfl) (fun _ _ _ h => h) (Or.inl ⟨by rfl, ?_⟩) (by assumption) ?_
          · intro w hSw; (try dsimp only at hSw); go_simp
          simp only [Act.put, List.setIfInBounds_toArray, List.set_cons_zero, List.set_cons_succ]
          refine wpAnyH_take (i := 3) (oi := ⟨some 35, _, _, _, _, _⟩) (v := .map (some m)) rfl (by kernel_rfl) (by kernel_rfl) (by kernel_rfl) (fun _ _ _ h => h) (Or.inl ⟨by rfl, ?_⟩) (by assumption) ?_
          · intro w hSw; (try dsimp only at hSw); obtain ⟨s1, s2⟩ := hSw; go_simp
          simp only [Act.put, List.setIfInBounds_toArray, List.set_cons_zero, List.set_cons_succ]
          refine wpAnyH_take (i := 4) (oi := ⟨some 36, _, _, _, _, _⟩) (v := .int .i64 (i0 : Int)) rfl (by kernel_rfl) (by kernel_rfl) (by kernel_rfl) (fun _ _ _ h => h) (Or.inl ⟨by rfl, ?_⟩) (by assumption) ?_
          · intro w hSw; (try dsimp only at hSw); go_simp
          simp only [Act.put, List.setIfInBounds_toArray, List.set_cons_zero, List.set_cons_succ]
          refine wpAnyH_take (i := 5) (oi := ⟨some 37, _, _, _, _, _⟩) (v := .pointer (some ⟨r, 0, none⟩)) rfl (by kernel_rfl) (by kernel_rfl) (by kernel_rfl) (fun _ _ _ h => h) (Or.inl ⟨by rfl, ?_⟩) (by assumption) ?_
          · intro w hSw; (try dsimp only at hSw); go_simp
          simp only [Act.put, List.setIfInBounds_toArray, List.set_cons_zero, List.set_cons_succ]
          refine wpAnyH_take (i := 6) (oi := ⟨some 38, _, _, _, _, _⟩) (v := .pointer (some ⟨r, 0, none⟩)) rfl (by kernel_rfl) (by kernel_rfl) (by kernel_rfl) (fun _ _ _ h => h) (Or.inl ⟨by rfl, ?_⟩) (by assumption) ?_
          · intro w hSw; (try dsimp only at hSw); go_simp
          simp only [Act.put, List.setIfInBounds_toArray, List.set_cons_zero, List.set_cons_succ]
          refine wpAnyH_take (i := 7) (oi := ⟨some 39, _, _, _, _, _⟩) (v := .pointer (some ⟨r, 1, none⟩)) rfl (by kernel_rfl) (by kernel_rfl) (by kernel_rfl) (fun _ _ _ h => h) (Or.inl ⟨by rfl, ?_⟩) (by assumption) ?_
          · intro w hSw; (try dsimp only at hSw); go_simp
          simp only [Act.put, List.setIfInBounds_toArray, List.set_cons_zero, List.set_cons_succ]
          refine wpAnyH_take (i := 8) (oi := ⟨some 40, _, _, _, _, _⟩) (v := .map (some m)) rfl (by kernel_rfl) (by kernel_rfl) (by kernel_rfl) (fun _ _ _ h => h) (Or.inl ⟨by rfl, ?_⟩) (by assumption) ?_
          · intro w hSw; (try dsimp only at hSw); obtain ⟨s1, s2⟩ := hSw; go_simp
          simp only [Act.put, List.setIfInBounds_toArray, List.set_cons_zero, List.set_cons_succ]
          refine wpAnyH_take (i := 9) (oi := ⟨some 41, _, _, _, _, _⟩) (v := .int .i64 (i0 : Int)) rfl (by kernel_rfl) (by kernel_rfl) (by kernel_rfl) (fun _ _ _ h => h) (Or.inl ⟨by rfl, ?_⟩) (by assumption) ?_
          · intro w hSw; (try dsimp only at hSw); go_simp
          simp only [Act.put, List.setIfInBounds_toArray, List.set_cons_zero, List.set_cons_succ]
          refine wpAnyH_take (i := 11) (oi := ⟨some 43, _, _, _, _, _⟩) (v := .agg cs.toArray) rfl (by kernel_rfl) (by kernel_rfl) (by kernel_rfl) (fun _ _ _ h => h) (yieldsIf_load_mid (by rfl) _ _ rfl _ _ rfl cs _ (fun w hS => hS.2) Try.underlying106 rfl (Dk.infoSecL HCL.out)) (by assumption) ?_
          simp only [Act.put, List.setIfInBounds_toArray, List.set_cons_zero, List.set_cons_succ]
          refine wpAnyH_ready (rs := [10, 12]) (by kernel_rfl) (by simp) ?_
          refine (AllReadyH.cons (o := ⟨some 42, _, _, _, _, _⟩) rfl (fun K hK => ?_) (AllReadyH.cons (o := ⟨some 44, _, _, _, _, _⟩) rfl (fun K hK => ?_) AllReadyH.nil))
          · rw [if_pos (by simp [Region.wanted])]
            refine Dk.wp_lookup_run 74 (.tmp 40) (.tmp 41) rfl (mv := .map (some m)) (kv := .int .i64 (i0 : Int)) rfl rfl hlook ?_
            refine hK.out _ _ hHeld (fun hHeld => ?_)
            clear hK K
            refine wpAnyH_ready (rs := [12]) (by kernel_rfl) (by simp) ?_
            refine (AllReadyH.cons (o := ⟨some 44, _, _, _, _, _⟩) rfl (fun K hK => ?_) AllReadyH.nil)
            rw [if_pos (by simp [Region.wanted])]
            refine wp_buildSlice 73 106 1 #[(0, .tmp 43)] rfl cs.toArray i0' _ Try.underlying73 hie hiz (by rw [his]; decide) (by rw [his]; decide) (by rw [his]; simp only [List.map_toArray, List.map_cons, List.map_nil]; exact Dk.fill_sec _ HCL.out (Dk.size64 _)) ?_
            have hP4 := (HP3.out.drew).alloc (.cells cs.toArray 106)
            have hT4 : Dk.Turned (Dk.own r m b g M) w (w3.drew.alloc (.cells cs.toArray 106)) := HT3.out.drew.alloc _
            have hG4 := heap_alloc_new w3.drew (.cells cs.toArray 106)
            have hN4 : Hid (w.heap.size ≤ w3.drew.heap.size) := HT3.out.size
            obtain ⟨N4, hN4e⟩ : ∃ n, n = w3.drew.heap.size := ⟨_, rfl⟩
            rw [← hN4e] at hG4 hN4 ⊢
            have hHG : (w3.drew.alloc (.cells cs.toArray 106)).heap[N]? = some (.cells cs.toArray 106 (0, 0)) := by rw [Below.heap_alloc w3.drew _ _ (Sm.lt_of HG3.out)]; exact HG3.out
            generalize w3.drew.alloc (.cells cs.toArray 106) = w4 at *
            refine hK.out _ _ ⟨hP4.c1, Sm.range_row hHG⟩ (fun hHeld => ?_)
            clear hK K
            refine wpAnyH_ready (rs := [13]) (by kernel_rfl) (by simp) ?_
            refine (AllReadyH.cons (o := ⟨some 45, _, _, _, _, _⟩) rfl (fun K hK => ?_) AllReadyH.nil)
            obtain ⟨v0', hv0', hrow4, _⟩ := hP4.waitRow HIN.out
            rw [HV0.out] at hv0'
            subst hv0'
            rw [if_pos (by simp [Region.wanted])]
            refine Dk.wp_append_sec (.tmp 42) (.tmp 44) rfl (v := v0) rfl hrow4 (b := s.data.toList) HSL.out (N := N4) rfl (by rw [← HCS.out]; exact Sm.range_row hG4) HR.out ?_
            intro gi ci w5 hR5 hor
            have hbl : w4.grownBy w5 (some gi) := by
              rcases hor with ⟨_, e⟩ | ⟨_, e⟩
              · exact e
              · exact e.but _
            have hown4 := hP4.lt
            have hnew : (M1.W i0 ≠ [] ∧ gi = g i0) ∨ w4.heap.size ≤ gi := by
              rcases hor with ⟨e, _⟩ | ⟨e, _⟩
              · rcases HOB.out with e2 | ⟨e2, e3⟩
                · rw [e2] at e; cases e
                · rw [e3] at e; exact .inl ⟨e2, (Option.some.inj e).symm⟩
              · exact .inr e
            have hrgi : r ≠ gi := by
              rcases hnew with ⟨e1, e2⟩ | e
              · rw [e2]; exact (hP4.ne_gr HIN.out e1).symm
              · have := hown4 r (.inl rfl); omega
            have hmgi : m ≠ gi := by
              rcases hnew with ⟨e1, e2⟩ | e
              · rw [e2]; exact (hP4.ne_gm HIN.out e1).symm
              · have := hown4 m (.inr (.inl rfl)); omega
            have hm5 := hP4.map.block (hbl.block m hP4.map.lt (fun e => hmgi (Option.some.inj e)))
            have c5 : w5.cell? ⟨r, 1, none⟩ = some (.map (some m)) := by
              rw [World.cell?_of_block (hbl.block r (Sm.lt_of hP4.disk) (fun e => hrgi (Option.some.inj e)))]; exact hP4.c1
            have hN5 : w5.rangeAt N 0 cs := fun j u hj => by
              have hNg : N ≠ gi := by
                rcases hnew with ⟨e1, e2⟩ | e
                · have := H.out.lt (g i0) (.inr (.inr (.inr ⟨i0, HI.out, by rw [← HW1.out]; exact e1, rfl⟩)))
                  have := HNS.out
                  omega
                · have := Sm.lt_of hHG; omega
              rw [World.cell?_of_block (a := ⟨N, 0 + j, none⟩) (hbl.block N (Sm.lt_of hHG) (fun e => hNg (Option.some.inj e)))]
              exact Sm.range_row hHG j u hj
            refine hK.out _ _ ⟨c5, hN5⟩ (fun hHeld => ?_)
            clear hK K
            refine wpAnyH_ready (rs := [14]) (by kernel_rfl) (by simp) ?_
            refine (AllReadyH.cons (o := ⟨none, _, _, _, _, _⟩) rfl (fun K hK => ?_) AllReadyH.nil)
            obtain ⟨w6, hrun6, hm6, ht6⟩ := hm5.store Try.underlying3 Try.underlying74 HIN.out hn.2 (.slice (some ⟨gi, 0, none⟩) (M1.W i0 ++ [s.data.toList]).length ci)
            have hR6 : Dk.RowAt w6 gi ci (M1.W i0 ++ [s.data.toList]) := hR5.block (ht6.grown.block gi hR5.lt (fun e => hmgi (Option.some.inj e).symm))
            have hP6 := hP4.put HIN.out HSL.out hR6 hm6 hnew (fun k hk hk1 hk2 => by
              rw [ht6.grown.block k (Nat.lt_of_lt_of_le (hown4 k hk) hbl.size) (fun e => hk1 (Option.some.inj e))]
              exact hbl.block k (hown4 k hk) (fun e => hk2 (Option.some.inj e)))
            have hT5 : Dk.Turned (Dk.own r m b g M) w w5 := hT4.andThen (Dk.Turned.of_grown hbl (by
              rcases hnew with ⟨e1, e2⟩ | e
              · exact .inl (.inl (.inr (.inr (.inr ⟨i0, HI.out, by rw [← HW1.out]; exact e1, e2⟩))))
              · exact .inr e))
            have hT6 : Dk.Turned (Dk.own r m b g M) w w6 := hT5.trans (Dk.Turned.of_map ht6 (.inl (.inr (.inl rfl))))
            have hown : ∀ k, Dk.own r m b (fun j => if j = i0 then gi else g j) (Dk.put M1 i0 s.data.toList) k → Dk.own r m b g M k ∨ w.heap.size ≤ k := by
              rintro k (e | e | e | ⟨j, hj, hw, rfl⟩)
              · exact .inl (.inl e)
              · exact .inl (.inr (.inl e))
              · exact .inl (.inr (.inr (.inl e)))
              · have hj' : j < M.lasts.length := by rw [← HL1.out]; exact hj
                by_cases hji : j = i0
                · simp only [if_pos hji]
                  rcases hnew with ⟨e1, e2⟩ | e
                  · exact .inl (.inr (.inr (.inr ⟨i0, HI.out, by rw [← HW1.out]; exact e1, e2⟩)))
                  · right; have := hT4.size; omega
                · simp only [if_neg hji]
                  rw [Dk.put_other _ _ hji, HW1.out] at hw
                  exact .inl (.inr (.inr (.inr ⟨j, hj', hw, rfl⟩)))
            have HP6 := Lib.hid hP6
            have HT6 := Lib.hid hT6
            have HO6 := Lib.hid hown
            have hc6 : w6.cell? ⟨r, 1, none⟩ = some (.map (some m)) := hP6.c1
            have hlast : M1.lasts.length = (Dk.put M1 i0 s.data.toList).lasts.length := rfl
            rw [if_pos (by simp [Region.wanted])]
            refine Dk.wp_mapUpdate_run 74 (.tmp 35) (.tmp 36) (.tmp 45) rfl (mv := .map (some m)) (kv := .int .i64 (i0 : Int)) (vv := .slice (some ⟨gi, 0, none⟩) (M1.W i0 ++ [s.data.toList]).length ci) rfl rfl rfl hrun6 ?_
            have hN6 : w6.rangeAt N 0 cs := fun j u hj => by
              have hNm : N ≠ m := by obtain ⟨es, k, hm⟩ := hP4.map.kind; exact Dk.ne_map hHG hm
              rw [World.cell?_of_block (a := ⟨N, 0 + j, none⟩) (ht6.grown.block N (Nat.lt_of_lt_of_le (Sm.lt_of hHG) hbl.size) (fun e => hNm (Option.some.inj e)))]
              exact hN5 j u hj
            refine hK.out _ _ ⟨hc6, hN6⟩ (fun hHeld => ?_)
            clear hK K
            refine wpAnyH_done (by kernel_rfl) ?_ _
            go_wp2
            go_ret
            exact ⟨rfl, _, _, HP6.out, HO6.out, HT6.out⟩
          · rw [if_pos (by simp [Region.wanted])]
            refine wp_buildSlice 73 106 1 #[(0, .tmp 43)] rfl cs.toArray i0' _ Try.underlying73 hie hiz (by rw [his]; decide) (by rw [his]; decide) (by rw [his]; simp only [List.map_toArray, List.map_cons, List.map_nil]; exact Dk.fill_sec _ HCL.out (Dk.size64 _)) ?_
            have hP4 := (HP3.out.drew).alloc (.cells cs.toArray 106)
            have hT4 : Dk.Turned (Dk.own r m b g M) w (w3.drew.alloc (.cells cs.toArray 106)) := HT3.out.drew.alloc _
            have hG4 := heap_alloc_new w3.drew (.cells cs.toArray 106)
            have hN4 : Hid (w.heap.size ≤ w3.drew.heap.size) := HT3.out.size
            obtain ⟨N4, hN4e⟩ : ∃ n, n = w3.drew.heap.size := ⟨_, rfl⟩
            rw [← hN4e] at hG4 hN4 ⊢
            have hHG : (w3.drew.alloc (.cells cs.toArray 106)).heap[N]? = some (.cells cs.toArray 106 (0, 0)) := by rw [Below.heap_alloc w3.drew _ _ (Sm.lt_of HG3.out)]; exact HG3.out
            generalize w3.drew.alloc (.cells cs.toArray 106) = w4 at *
            refine hK.out _ _ ⟨hP4.c1, Sm.range_row hHG⟩ (fun hHeld => ?_)
            clear hK K
            refine wpAnyH_ready (rs := [10]) (by kernel_rfl) (by simp) ?_
            refine (AllReadyH.cons (o := ⟨some 42, _, _, _, _, _⟩) rfl (fun K hK => ?_) AllReadyH.nil)
            rw [if_pos (by simp [Region.wanted])]
            refine Dk.wp_lookup_run 74 (.tmp 40) (.tmp 41) rfl (mv := .map (some m)) (kv := .int .i64 (i0 : Int)) rfl rfl (by have := hP4.map.look7 HIN.out hn.2; rw [HV0.out] at this; exact this) ?_
            refine hK.out _ _ hHeld (fun hHeld => ?_)
            clear hK K
            refine wpAnyH_ready (rs := [13]) (by kernel_rfl) (by simp) ?_
            refine (AllReadyH.cons (o := ⟨some 45, _, _, _, _, _⟩) rfl (fun K hK => ?_) AllReadyH.nil)
            obtain ⟨v0', hv0', hrow4, _⟩ := hP4.waitRow HIN.out
            rw [HV0.out] at hv0'
            subst hv0'
            rw [if_pos (by simp [Region.wanted])]
            refine Dk.wp_append_sec (.tmp 42) (.tmp 44) rfl (v := v0) rfl hrow4 (b := s.data.toList) HSL.out (N := N4) rfl (by rw [← HCS.out]; exact Sm.range_row hG4) HR.out ?_
            intro gi ci w5 hR5 hor
            have hbl : w4.grownBy w5 (some gi) := by
              rcases hor with ⟨_, e⟩ | ⟨_, e⟩
              · exact e
              · exact e.but _
            have hown4 := hP4.lt
            have hnew : (M1.W i0 ≠ [] ∧ gi = g i0) ∨ w4.heap.size ≤ gi := by
              rcases hor with ⟨e, _⟩ | ⟨e, _⟩
              · rcases HOB.out with e2 | ⟨e2, e3⟩
                · rw [e2] at e; cases e
                · rw [e3] at e; exact .inl ⟨e2, (Option.some.inj e).symm⟩
              · exact .inr e
            have hrgi : r ≠ gi := by
              rcases hnew with ⟨e1, e2⟩ | e
              · rw [e2]; exact (hP4.ne_gr HIN.out e1).symm
              · have := hown4 r (.inl rfl); omega
            have hmgi : m ≠ gi := by
              rcases hnew with ⟨e1, e2⟩ | e
              · rw [e2]; exact (hP4.ne_gm HIN.out e1).symm
              · have := hown4 m (.inr (.inl rfl)); omega
            have hm5 := hP4.map.block (hbl.block m hP4.map.lt (fun e => hmgi (Option.some.inj e)))
            have c5 : w5.cell? ⟨r, 1, none⟩ = some (.map (some m)) := by
              rw [World.cell?_of_block (hbl.block r (Sm.lt_of hP4.disk) (fun e => hrgi (Option.some.inj e)))]; exact hP4.c1
            have hN5 : w5.rangeAt N 0 cs := fun j u hj => by
              have hNg : N ≠ gi := by
                rcases hnew with ⟨e1, e2⟩ | e
                · have := H.out.lt (g i0) (.inr (.inr (.inr ⟨i0, HI.out, by rw [← HW1.out]; exact e1, rfl⟩)))
                  have := HNS.out
                  omega
                · have := Sm.lt_of hHG; omega
              rw [World.cell?_of_block (a := ⟨N, 0 + j, none⟩) (hbl.block N (Sm.lt_of hHG) (fun e => hNg (Option.some.inj e)))]
              exact Sm.range_row hHG j u hj
            refine hK.out _ _ ⟨c5, hN5⟩ (fun hHeld => ?_)
            clear hK K
            refine wpAnyH_ready (rs := [14]) (by kernel_rfl) (by simp) ?_
            refine (AllReadyH.cons (o := ⟨none, _, _, _, _, _⟩) rfl (fun K hK => ?_) AllReadyH.nil)
            obtain ⟨w6, hrun6, hm6, ht6⟩ := hm5.store Try.underlying3 Try.underlying74 HIN.out hn.2 (.slice (some ⟨gi, 0, none⟩) (M1.W i0 ++ [s.data.toList]).length ci)
            have hR6 : Dk.RowAt w6 gi ci (M1.W i0 ++ [s.data.toList]) := hR5.block (ht6.grown.block gi hR5.lt (fun e => hmgi (Option.some.inj e).symm))
            have hP6 := hP4.put HIN.out HSL.out hR6 hm6 hnew (fun k hk hk1 hk2 => by
              rw [ht6.grown.block k (Nat.lt_of_lt_of_le (hown4 k hk) hbl.size) (fun e => hk1 (Option.some.inj e))]
              exact hbl.block k (hown4 k hk) (fun e => hk2 (Option.some.inj e)))
            have hT5 : Dk.Turned (Dk.own r m b g M) w w5 := hT4.andThen (Dk.Turned.of_grown hbl (by
              rcases hnew with ⟨e1, e2⟩ | e
              · exact .inl (.inl (.inr (.inr (.inr ⟨i0, HI.out, by rw [← HW1.out]; exact e1, e2⟩))))
              · exact .inr e))
            have hT6 : Dk.Turned (Dk.own r m b g M) w w6 := hT5.trans (Dk.Turned.of_map ht6 (.inl (.inr (.inl rfl))))
            have hown : ∀ k, Dk.own r m b (fun j => if j = i0 then gi else g j) (Dk.put M1 i0 s.data.toList) k → Dk.own r m b g M k ∨ w.heap.size ≤ k := by
              rintro k (e | e | e | ⟨j, hj, hw, rfl⟩)
              · exact .inl (.inl e)
              · exact .inl (.inr (.inl e))
              · exact .inl (.inr (.inr (.inl e)))
              · have hj' : j < M.lasts.length := by rw [← HL1.out]; exact hj
                by_cases hji : j = i0
                · simp only [if_pos hji]
                  rcases hnew with ⟨e1, e2⟩ | e
                  · exact .inl (.inr (.inr (.inr ⟨i0, HI.out, by rw [← HW1.out]; exact e1, e2⟩)))
                  · right; have := hT4.size; omega
                · simp only [if_neg hji]
                  rw [Dk.put_other _ _ hji, HW1.out] at hw
                  exact .inl (.inr (.inr (.inr ⟨j, hj', hw, rfl⟩)))
            have HP6 := Lib.hid hP6
            have HT6 := Lib.hid hT6
            have HO6 := Lib.hid hown
            have hc6 : w6.cell? ⟨r, 1, none⟩ = some (.map (some m)) := hP6.c1
            have hlast : M1.lasts.length = (Dk.put M1 i0 s.data.toList).lasts.length := rfl
            rw [if_pos (by simp [Region.wanted])]
            refine Dk.wp_mapUpdate_run 74 (.tmp 35) (.tmp 36) (.tmp 45) rfl (mv := .map (some m)) (kv := .int .i64 (i0 : Int)) (vv := .slice (some ⟨gi, 0, none⟩) (M1.W i0 ++ [s.data.toList]).length ci) rfl rfl rfl hrun6 ?_
            have hN6 : w6.rangeAt N 0 cs := fun j u hj => by
              have hNm : N ≠ m := by obtain ⟨es, k, hm⟩ := hP4.map.kind; exact Dk.ne_map hHG hm
              rw [World.cell?_of_block (a := ⟨N, 0 + j, none⟩) (ht6.grown.block N (Nat.lt_of_lt_of_le (Sm.lt_of hHG) hbl.size) (fun e => hNm (Option.some.inj e)))]
              exact hN5 j u hj
            refine hK.out _ _ ⟨hc6, hN6⟩ (fun hHeld => ?_)
            clear hK K
            refine wpAnyH_done (by kernel_rfl) ?_ _
            go_wp2
            go_ret
            exact ⟨rfl, _, _, HP6.out, HO6.out, HT6.out⟩
      · have e : Dk.write M i s.data.toList = (M, 1) := by simp [Dk.write, hoff, hth, hsl, h64]
        rw [e]; clear e
        have hne : ¬ (s.size : Int) = 64 := by omega
        clear h hok
        go_enter Try.func24, Try.ntmps24
        go_wp2_with (first | (go_at_call 54; refine RE.out.mono ?_; rintro e w' ⟨rfl, rfl⟩) | (go_at_call 55; refine HA.out.mono ?_; rintro e w' ⟨rfl, rfl⟩))
        go_ret
        exact ⟨rfl, g, F, H.out, fun k hk => .inl hk, Dk.Turned.refl _ _⟩
  · rw [hoff] at RE
    have e : Dk.write M i s.data.toList = (M, 14) := by simp [Dk.write, hoff]
    rw [e]; clear e
    clear h hok
    go_enter Try.func24, Try.ntmps24
    go_wp2_with (first | (go_at_call 54; refine RE.out.mono ?_; rintro e w' ⟨rfl, rfl⟩))
    go_ret
    exact ⟨rfl, g, F, H.out, fun k hk => .inl hk, Dk.Turned.refl _ _⟩
end Go.Proofs.Ytipfjccmceaclaa
