/-
  What disk's Twin makes.
-/
import Derived.Test.YtimbcmcmidnlfaaDkCrash
import Derived.Test.YtimbcmcmidnlfaaDkClone
import Derived.Carry
namespace Go.Proofs.Ytimbcmcmidnlfaa
open Go.RowKit
namespace Dk
/-- A sector for which nothing waits gets a list, in a row that is new. -/
theorem Parts.fill {w w1 : World} {r m b c : Nat} {g : Nat → Nat} {F : Nat → Option Value} {M : Md} (h : Parts w r m b c g F M) {i : Nat} (hi : i < M.lasts.length) {L : List (List UInt8)} (hL : L ≠ [])
    {gi ci : Nat} (hrow : RowAt w1 gi ci L) (hmap : MapAt Try.prog 3 w1 m M.lasts.length (fun j => if j = i then some (.slice (some ⟨gi, 0, none⟩) L.length ci) else F j))
    (hnew : w.heap.size ≤ gi) (hk : ∀ k, k < w.heap.size → k ≠ m → w1.heap[k]? = w.heap[k]?) :
    Parts w1 r m b c (fun j => if j = i then gi else g j) (fun j => if j = i then some (.slice (some ⟨gi, 0, none⟩) L.length ci) else F j) { M with W := fun j => if j = i then L else M.W j } := by
  have hlt := h.lt
  refine ⟨⟨h.ok.n, h.ok.lasts, fun j s hs => ?_, fun j hj => ?_, h.ok.fuse⟩, (hk r (hlt r (.inl rfl)) h.ne_rm).trans h.disk, h.row.block (hk b (hlt b (.inr (.inr (.inl rfl)))) h.ne_bm), hmap, fun j hj hw => ?_, fun j hj hw => ?_, fun j hj hw => ?_, fun j k hj hkk hw1 hw2 e => ?_⟩
  · simp only at hs
    split at hs
    · exact hrow.sec s hs
    · exact h.ok.waits j s hs
  · simp only at hj ⊢
    rw [if_neg (by omega)]; exact h.ok.none j hj
  · by_cases e : j = i
    · subst e; simp only [if_pos] at hw; exact absurd hw hL
    · simp only [if_neg e] at hw ⊢
      exact h.idle j hj hw
  · by_cases e : j = i
    · subst e; simp only [if_pos]; exact ⟨ci, rfl, hrow⟩
    · simp only [if_neg e] at hw ⊢
      obtain ⟨cj, e1, e2⟩ := h.wait j hj hw
      exact ⟨cj, e1, e2.block (hk _ (hlt _ (.inr (.inr (.inr ⟨j, hj, hw, rfl⟩)))) (h.ne_gm hj hw))⟩
  · have hb := hlt b (.inr (.inr (.inl rfl)))
    by_cases e : j = i
    · subst e; simp only [if_pos]; omega
    · simp only [if_neg e] at hw ⊢
      exact h.apart j hj hw
  · have old : ∀ a, a < M.lasts.length → M.W a ≠ [] → g a < w.heap.size := fun a ha hwa => hlt _ (.inr (.inr (.inr ⟨a, ha, hwa, rfl⟩)))
    by_cases e1 : j = i
    · by_cases e2 : k = i
      · rw [e1, e2]
      · simp only [if_pos e1, if_neg e2] at hw2 e
        have := old k hkk hw2; omega
    · by_cases e2 : k = i
      · simp only [if_pos e2, if_neg e1] at hw1 e
        have := old j hj hw1; omega
      · simp only [if_neg e1, if_neg e2] at hw1 hw2 e
        exact h.inj j k hj hkk hw1 hw2 e
theorem MapAt.len {P : Program} {k t e : TypeId} {w : World} {b N : Nat} {F : Nat → Option Value} (h : MapAt P k w b N F) (ht : P.underlying t = some (.map k e)) : ∃ n : Nat, n ≤ N ∧ ∀ ty, (Builtin.len_ #[t] ty #[.map (some b)]).run P w = .ok (.int .i64 (n : Int)) w := by
  obtain ⟨D, h, _⟩ := h
  exact ⟨_, h.size_le, fun ty => h.len ht ty⟩
end Dk
set_option maxRecDepth 100000 in
theorem dkTwin_none {w : World} {v : Value} (h : Dk.None w v) :
    Calls Try.prog 43 #[v] w fun e w' => e = .returned (.pointer none) ∧ w = w' := by
  have NO := Lib.hid (dkNone_is h)
  clear h
  go_enter Try.func43, Try.ntmps43
  go_wp2_with (go_at_call 66; refine NO.out.mono ?_; rintro e w' ⟨rfl, rfl⟩)
  go_ret
  exact ⟨rfl, rfl⟩
set_option maxRecDepth 100000 in
set_option maxHeartbeats 2000000 in
theorem dkTwin_parts {w : World} {r m b c : Nat} {g : Nat → Nat} {F : Nat → Option Value} {M : Dk.Md} (h : Dk.Parts w r m b c g F M) (hroom : ∀ i, (M.W i).length ≤ 1099511627776) :
    Calls Try.prog 43 #[.pointer (some ⟨r, 0, none⟩)] w fun e w' => ∃ r2 m2 b2 c2 g2 F2, e = .returned (.pointer (some ⟨r2, 0, none⟩)) ∧ Dk.Parts w' r2 m2 b2 c2 g2 F2 M ∧ (∀ k, Dk.own r2 m2 b2 g2 M k → w.heap.size ≤ k) ∧ Below w.heap.size w w' := by
  have NO := Lib.hid (dkNone_not h.c1)
  have H := Lib.hid h
  have HRM := Lib.hid hroom
  have hn := h.ok.n
  have c0 := h.c0
  have c1 := h.c1
  have c2 := h.c2
  have c3 := h.c3
  clear h hroom
  go_enter Try.func43, Try.ntmps43
  go_upto_region 4 with (go_at_call 66; refine NO.out.mono ?_; rintro e w' ⟨rfl, rfl⟩)
  have CL : Hid (∀ wx, Dk.RowAt wx b c M.lasts → Calls Try.prog 67 #[.slice (some ⟨b, 0, none⟩) M.lasts.length c] wx fun e w' => ∃ g c', e = .returned (.slice (some ⟨g, 0, none⟩) M.lasts.length c') ∧ Dk.RowAt w' g c' M.lasts ∧ wx.heap.size ≤ g ∧ Below wx.heap.size wx w') :=
    fun wx hx => dkClone_any hx (by intro e; rw [e] at hn; simp at hn) (by omega)
  have hg1 := heap_alloc_new w (.cells #[.slice (some ⟨b, 0, none⟩) M.lasts.length c, .map (some m), .bool M.off, .int .i64 M.fuse] 86)
  have hP1 := H.out.alloc (.cells #[.slice (some ⟨b, 0, none⟩) M.lasts.length c, .map (some m), .bool M.off, .int .i64 M.fuse] 86)
  have hb1 : Below w.heap.size w (w.alloc (.cells #[.slice (some ⟨b, 0, none⟩) M.lasts.length c, .map (some m), .bool M.off, .int .i64 M.fuse] 86)) := (Below.refl _ w).alloc (Nat.le_refl _) _
  obtain ⟨r2, hr2⟩ : ∃ r2, r2 = w.heap.size := ⟨_, rfl⟩
  rw [← hr2] at hg1 hb1 ⊢
  have HR2 := Lib.hid hr2
  clear hr2 c0 c1 c2 c3
  generalize w.alloc (.cells #[.slice (some ⟨b, 0, none⟩) M.lasts.length c, .map (some m), .bool M.off, .int .i64 M.fuse] 86) = w1 at *
  have c0 := hP1.c0
  have HP1 := Lib.hid hP1
  have HG1 := Lib.hid hg1
  have HB1 := Lib.hid hb1
  clear hP1 hg1 hb1
  go_wp2_with fail
  refine (CL.out w1 HP1.out.row).mono ?_
  rintro e w2 ⟨b2, c2, rfl, hR2, hb2, hbl2⟩
  have hlt1 : r2 < w1.heap.size := Sm.lt_of HG1.out
  have hg2 := (hbl2.block r2 hlt1).trans HG1.out
  have hP2 := HP1.out.below hbl2 (Nat.le_refl _)
  have hB2 : Below r2 w w2 := HB1.out.trans (hbl2.mono (Nat.le_of_lt hlt1))
  clear c0
  have x0 := Sm.cells_of hg2 0 _ rfl
  have xf := Sm.free_of hg2 0
  have hg3 := Sm.heap_set hg2 0 (.slice (some ⟨b2, 0, none⟩) M.lasts.length c2)
  have hP3 : Dk.Parts (w2.setCell ⟨r2, 0, none⟩ (.slice (some ⟨b2, 0, none⟩) M.lasts.length c2)) r m b c g F M := hP2.keep fun k hk => Below.heap_setCell _ _ _ _ (show k ≠ r2 by have := H.out.lt k hk; have := HR2.out; omega)
  have hR3 : Dk.RowAt (w2.setCell ⟨r2, 0, none⟩ (.slice (some ⟨b2, 0, none⟩) M.lasts.length c2)) b2 c2 M.lasts := hR2.block (Below.heap_setCell _ _ _ _ (show b2 ≠ r2 by omega))
  have hB3 : Below r2 w (w2.setCell ⟨r2, 0, none⟩ (.slice (some ⟨b2, 0, none⟩) M.lasts.length c2)) := hB2.setCell (p := ⟨r2, 0, none⟩) (Nat.le_refl _) _
  have HP3 := Lib.hid hP3
  have HG3 := Lib.hid hg3
  have HB3 := Lib.hid hB3
  have HR3 := Lib.hid hR3
  have HBB : Hid (r2 < b2) := by show r2 < b2; omega
  clear hg3 hP3 hR3 hB3 hg2 hP2 hB2 hR2 hb2 hbl2
  go_upto_region 5 with (fail)
  clear x0 xf
  generalize w2.setCell ⟨r2, 0, none⟩ (.slice (some ⟨b2, 0, none⟩) M.lasts.length c2) = w3 at *
  have c1 := HP3.out.c1
  obtain ⟨nl, hnl, hlen⟩ := HP3.out.map.len Try.underlying84
  have hmk : ∀ (w : World), (Instr.makeMap 84 (some (.int .i64 (nl : Int)))).run Try.prog w = .ok (.map (some w.heap.size)) (w.alloc (.map #[] 0)) := fun w => by kernel_rfl
  have y1 : (w3.alloc (.map #[] 0)).cell? ⟨r2, 1, none⟩ = some (.map (some m)) := Lib.cell?_alloc_some _ (Sm.cells_of HG3.out 1 _ rfl)
  have yf : (w3.alloc (.map #[] 0)).frozen? ⟨r2, 1, none⟩ = false := by
    have : (w3.alloc (.map #[] 0)).heap[r2]? = _ := (Below.heap_alloc w3 (.map #[] 0) r2 (Sm.lt_of HG3.out)).trans HG3.out
    exact Sm.free_of this 1
  go_upto_region 6 with (fail)
  clear y1 yf hlen hmk hnl
  have hg4 := Sm.heap_set ((Below.heap_alloc w3 (.map #[] 0) r2 (Sm.lt_of HG3.out)).trans HG3.out) 1 (.map (some w3.heap.size))
  have hne3 : w3.heap.size ≠ r2 := by have := Sm.lt_of HG3.out; omega
  have hrm : ∀ k, k < w3.heap.size → k ≠ r2 → ((w3.alloc (.map #[] 0)).setCell ⟨r2, 1, none⟩ (.map (some w3.heap.size))).heap[k]? = w3.heap[k]? := fun k hk h2 => by
    rw [Below.heap_setCell _ _ _ _ (show k ≠ r2 from h2), Below.heap_alloc _ _ _ hk]
  have hP4 : Dk.Parts ((w3.alloc (.map #[] 0)).setCell ⟨r2, 1, none⟩ (.map (some w3.heap.size))) r m b c g F M := HP3.out.keep fun k hk => hrm k (HP3.out.lt k hk) (by have := H.out.lt k hk; have := HR2.out; omega)
  have hR4 : Dk.RowAt ((w3.alloc (.map #[] 0)).setCell ⟨r2, 1, none⟩ (.map (some w3.heap.size))) b2 c2 M.lasts := HR3.out.block (hrm b2 HR3.out.lt (by have := HBB.out; omega))
  have hM4 : Dk.MapAt Try.prog 3 ((w3.alloc (.map #[] 0)).setCell ⟨r2, 1, none⟩ (.map (some w3.heap.size))) w3.heap.size M.lasts.length (fun _ => none) := (Dk.MapAt.made w3).block (Below.heap_setCell _ _ _ _ (show w3.heap.size ≠ r2 from hne3))
  have hB4 : Below r2 w ((w3.alloc (.map #[] 0)).setCell ⟨r2, 1, none⟩ (.map (some w3.heap.size))) := (HB3.out.alloc (by have := Sm.lt_of HG3.out; omega) _).setCell (p := ⟨r2, 1, none⟩) (Nat.le_refl _) _
  have hQ4 : Dk.Parts ((w3.alloc (.map #[] 0)).setCell ⟨r2, 1, none⟩ (.map (some w3.heap.size))) r2 w3.heap.size b2 c2 (fun _ => 0) (fun _ => none) { M with W := fun _ => [] } :=
    Dk.Parts.idleAll (M := { M with W := fun _ => [] }) ⟨H.out.ok.n, H.out.ok.lasts, fun i s hs => (by cases hs), fun _ _ => rfl, H.out.ok.fuse⟩ hg4 hR4 hM4 (fun _ _ => rfl) rfl
  obtain ⟨m2, hm2⟩ : ∃ m2, m2 = w3.heap.size := ⟨_, rfl⟩
  rw [← hm2] at hP4 hB4 hQ4 ⊢
  have HMM : Hid (r2 < m2) := by show r2 < m2; have := Sm.lt_of HG3.out; omega
  clear hg4 hrm hR4 hM4 hm2 hne3 c1
  generalize (w3.alloc (.map #[] 0)).setCell ⟨r2, 1, none⟩ (.map (some m2)) = w4 at *
  have c1 := hP4.c1
  obtain ⟨w5, cnt0, hrun, hrg0, hg5, hs5⟩ := hP4.map.range Try.underlying3 Try.underlying84
  have hle4 : r2 ≤ w4.heap.size := by have := hB4.size; have := HR2.out; omega
  have HP5 := Lib.hid (hP4.grown0 hg5)
  have HQ5 := Lib.hid (hQ4.grown0 hg5)
  have HRG := Lib.hid hrg0
  have HB5 : Hid (Below r2 w w5) := hB4.grown hg5 hle4 (fun k e => by cases e)
  obtain ⟨it, hit⟩ : ∃ it, it = w4.heap.size := ⟨_, rfl⟩
  have HIT : Hid (r2 ≤ it) := by show r2 ≤ it; omega
  have HITM : Hid (m2 < it) := by show m2 < it; rw [hit]; exact hQ4.map.lt
  rw [← hit] at HRG
  clear hP4 hQ4 hrg0 hg5 hs5 hB4 hle4
  go_wp2
  rw [← hit]
  clear hit hrun c1
  go_loopw [4, 5] (fun _ _ wr => ∃ left cnt F2 g2, Dk.RangeAt Try.prog 3 wr m it M.lasts.length F left cnt ∧ Dk.Parts wr r m b c g F M ∧ Dk.Parts wr r2 m2 b2 c2 g2 F2 { M with W := fun i => if Dk.busy M i && !left i then M.W i else [] } ∧ (∀ i, i < M.lasts.length → M.W i ≠ [] → left i = false → r2 ≤ g2 i) ∧ Below r2 w wr) (fun _ _ wr => wr.rangeLeft m it)
  case atStart =>
    refine ⟨_, cnt0, fun _ => none, fun _ => 0, HRG.out, HP5.out, ?_, ?_, HB5.out⟩
    · have e : (fun i => if (Dk.busy M i && !(decide (i < M.lasts.length) && (F i).isSome)) = true then M.W i else []) = fun _ => [] := by
        funext i
        by_cases hi : i < M.lasts.length
        · by_cases hw : M.W i = []
          · simp [Dk.busy, hw]
          · obtain ⟨cj, e1, _⟩ := H.out.wait i hi hw
            simp [hi, e1]
        · simp [Dk.busy, H.out.ok.none i (by omega)]
      rw [e]; exact HQ5.out
    · intro i hi hw hl
      obtain ⟨cj, e1, _⟩ := H.out.wait i hi hw
      simp [hi, e1] at hl
  case round =>
    obtain ⟨left, cnt, F2, g2, hrg, hP, hQ, hge, hB⟩ := hrel
    have HR := Lib.hid hrg
    have HP := Lib.hid hP
    have HQ := Lib.hid hQ
    have HGE := Lib.hid hge
    have HB := Lib.hid hB
    rcases hrg.next Try.underlying3 0 with ⟨hall, hnext⟩ | ⟨i, v, w6, cnt2, hi, hl, hF, hnext, hrg2, hlt, hg2, hs2, hen⟩
    · have HALL := Lib.hid hall
      clear hrg hP hQ hge hB hall
      go_wp2
      go_ret
      have e : (fun i => if (Dk.busy M i && !left i) = true then M.W i else []) = M.W := by
        funext i
        rw [HALL.out i]
        by_cases hw : M.W i = []
        · simp [Dk.busy, hw]
        · simp [Dk.busy, hw]
      have hQ2 := HQ.out
      rw [e] at hQ2
      refine ⟨r2, m2, b2, c2, g2, F2, rfl, hQ2, ?_, ?_⟩
      · have h1 := HR2.out
        have h2 := HMM.out
        have h3 := HBB.out
        rintro k (rfl | rfl | rfl | ⟨j, hj, hw, rfl⟩)
        · omega
        · omega
        · omega
        · have := HGE.out j hj hw (HALL.out j); omega
      · rw [← HR2.out]; exact HB.out
    · have hwi : M.W i ≠ [] := fun e => by rw [hP.idle i hi e] at hF; cases hF
      obtain ⟨ci, hF2, hRi⟩ := hP.wait i hi hwi
      rw [hF] at hF2
      obtain rfl := Option.some.inj hF2
      have hitne : ∀ k, (Dk.own r m b g M k ∨ Dk.own r2 m2 b2 g2 { M with W := fun i => if Dk.busy M i && !left i then M.W i else [] } k) → k ≠ it := by
        obtain ⟨m', s', sn, c', hit⟩ := hrg.iter
        rintro k (hk | hk) rfl
        · have := H.out.lt _ hk; have := HR2.out; have := HIT.out; omega
        · rcases hk with e | e | e | ⟨j, hj, hw, e⟩
          · rw [e, hQ.disk] at hit; cases hit
          · have := HITM.out; omega
          · obtain ⟨cur, q, _⟩ := hQ.row.row; rw [e, q] at hit; cases hit
          · obtain ⟨cj, _, q⟩ := hQ.wait j hj hw; obtain ⟨cur, q, _⟩ := q.row; rw [e, q] at hit; cases hit
      have hP6 := hP.keep fun k hk => hg2.block k (hP.lt k hk) (fun e => hitne k (.inl hk) (Option.some.inj e))
      have hQ6 := hQ.keep fun k hk => hg2.block k (hQ.lt k hk) (fun e => hitne k (.inr hk) (Option.some.inj e))
      have hB6 : Below r2 w w6 := hB.grown hg2 (by have := hB.size; have := HR2.out; omega) (fun k e => by cases e; exact HIT.out)
      have hRi6 := hRi.block (hg2.block (g i) hRi.lt (fun e => hitne _ (.inl (.inr (.inr (.inr ⟨i, hi, hwi, rfl⟩)))) (Option.some.inj e)))
      have CW : Hid (∀ wx, Dk.RowAt wx (g i) ci (M.W i) → Calls Try.prog 67 #[.slice (some ⟨g i, 0, none⟩) (M.W i).length ci] wx fun e w' => ∃ g c', e = .returned (.slice (some ⟨g, 0, none⟩) (M.W i).length c') ∧ Dk.RowAt w' g c' (M.W i) ∧ wx.heap.size ≤ g ∧ Below wx.heap.size wx w') := fun wx hx => dkClone_any hx hwi (HRM.out i)
      have HI := Lib.hid hi
      have HL := Lib.hid hl
      have HWI := Lib.hid hwi
      have HP6 := Lib.hid hP6
      have HQ6 := Lib.hid hQ6
      have HB6 := Lib.hid hB6
      have HRI := Lib.hid hRi6
      have HRG2 := Lib.hid hrg2
      have c1 := hQ6.c1
      have C1 := Lib.hid c1
      obtain ⟨nw, hnw⟩ : ∃ n, n = (M.W i).length := ⟨_, rfl⟩
      rw [← hnw] at CW hen hnext
      have HNW := Lib.hid hnw
      clear hrg hP hQ hge hB hi hwi hP6 hQ6 hB6 hRi hRi6 hrg2 hg2 hs2 hF hF2 hitne hl hnw c1
      go_upto_region 9 with (fail)
      refine wp_region_held_drew (S := (fun w' => w'.cell? ⟨r2, 1, none⟩ = some (.map (some m2)))) (by kernel_rfl) (by exact C1.out) (fun hHeld => ?_)
      refine wpAnyH_take (i := 0) (oi := ⟨some 34, _, _, _, _, _⟩) (v := .pointer (some ⟨r2, 1, none⟩)) rfl (by kernel_rfl) (by kernel_rfl) (by kernel_rfl) (fun _ _ _ h => h) (Or.inl ⟨by rfl, ?_⟩) (by assumption) ?_
      · intro w hSw; (try dsimp only at hSw); go_simp
      simp only [Act.put, List.setIfInBounds_toArray, List.set_cons_zero, List.set_cons_succ]
      refine wpAnyH_take (i := 1) (oi := ⟨some 35, _, _, _, _, _⟩) (v := .map (some m2)) rfl (by kernel_rfl) (by kernel_rfl) (by kernel_rfl) (fun _ _ _ h => h) (Or.inl ⟨by rfl, ?_⟩) (by assumption) ?_
      · intro w hSw; (try dsimp only at hSw); go_simp
      simp only [Act.put, List.setIfInBounds_toArray, List.set_cons_zero, List.set_cons_succ]
      refine wpAnyH_take (i := 2) (oi := ⟨some 36, _, _, _, _, _⟩) (v := .int .i64 (i : Int)) rfl (by kernel_rfl) (by kernel_rfl) (by kernel_rfl) (fun _ _ _ h => h) (Or.inl ⟨by rfl, ?_⟩) (by assumption) ?_
      · intro w hSw; (try dsimp only at hSw); go_simp
      simp only [Act.put, List.setIfInBounds_toArray, List.set_cons_zero, List.set_cons_succ]
      refine wpAnyH_take (i := 3) (oi := ⟨some 37, _, _, _, _, _⟩) (v := .slice (some ⟨g i, 0, none⟩) nw ci) rfl (by kernel_rfl) (by kernel_rfl) (by kernel_rfl) (fun _ _ _ h => h) (Or.inl ⟨by rfl, ?_⟩) (by assumption) ?_
      · intro w hSw; (try dsimp only at hSw); go_simp
      simp only [Act.put, List.setIfInBounds_toArray, List.set_cons_zero, List.set_cons_succ]
      refine wpAnyH_ready (rs := [4]) (by kernel_rfl) (by simp) ?_
      refine (AllReadyH.cons (o := ⟨some 38, _, _, _, _, _⟩) rfl (fun K hK => ?_) AllReadyH.nil)
      go_simp
      refine (CW.out w6.drew (HRI.out.block rfl)).mono ?_
      rintro e w7 ⟨gi, cg, rfl, hR7, hgi, hbl7⟩
      have hP7 := HP6.out.drew.below hbl7 (Nat.le_refl _)
      have hQ7 := HQ6.out.drew.below hbl7 (Nat.le_refl _)
      have hB7 : Below r2 w w7 := (HB6.out.drew).trans (hbl7.mono (by show r2 ≤ w6.heap.size; have := HB6.out.size; have := HR2.out; omega))
      have hrg7 : Dk.RangeAt Try.prog 3 w7 m it M.lasts.length F (fun j => left j && !decide (j = i)) cnt2 := HRG2.out.block (hbl7.block m HRG2.out.map.lt) (hbl7.block it HRG2.out.lt)
      have hgi2 : r2 ≤ gi := by have := HB6.out.size; have := HR2.out; have : w6.heap.size ≤ gi := hgi; omega
      refine hK.out _ _ hQ7.c1 (fun hHeld => ?_)
      clear hK K
      refine wpAnyH_ready (rs := [5]) (by kernel_rfl) (by simp) ?_
      refine (AllReadyH.cons (o := ⟨none, _, _, _, _, _⟩) rfl (fun K hK => ?_) AllReadyH.nil)
      obtain ⟨w8, hrun8, hm8, ht8⟩ := hQ7.map.store Try.underlying3 Try.underlying84 HI.out hn.2 (.slice (some ⟨gi, 0, none⟩) (M.W i).length cg)
      rw [if_pos (by simp [Region.wanted])]
      refine Dk.wp_mapUpdate_run 84 (.tmp 35) (.tmp 36) (.tmp 38) rfl (mv := .map (some m2)) (kv := .int .i64 (i : Int)) (vv := .slice (some ⟨gi, 0, none⟩) (M.W i).length cg) rfl rfl (by rw [← HNW.out]; rfl) hrun8 ?_
      have hm2lt := hQ7.map.lt
      have hkeep : ∀ k, k < w7.heap.size → k ≠ m2 → w8.heap[k]? = w7.heap[k]? := fun k hk h2 => ht8.grown.block k hk (fun e => h2 (Option.some.inj e))
      have hgm : gi ≠ m2 := by have : m2 < w6.heap.size := HQ6.out.map.lt; have : w6.heap.size ≤ gi := hgi; omega
      have hown := H.out.lt
      have hP8 : Dk.Parts w8 r m b c g F M := hP7.keep fun k hk => hkeep k (hP7.lt k hk) (by have := hown k hk; have := HR2.out; have := HMM.out; omega)
      have hQ8 := (HQ6.out.drew).fill (w1 := w8) HI.out HWI.out (gi := gi) (ci := cg) (hR7.block (hkeep gi hR7.lt hgm)) hm8 hgi (fun k hk h2 => by
        rw [hkeep k (Nat.lt_of_lt_of_le hk hbl7.size) h2]
        exact hbl7.block k hk)
      have hB8 : Below r2 w w8 := hB7.grown ht8.grown (by have := hB7.size; have := HR2.out; omega) (fun k e => by cases e; exact Nat.le_of_lt HMM.out)
      have hmm : m ≠ m2 := by have := hown m (.inr (.inl rfl)); have := HR2.out; have := HMM.out; omega
      have hrg8 : Dk.RangeAt Try.prog 3 w8 m it M.lasts.length F (fun j => left j && !decide (j = i)) cnt2 := hrg7.block (hkeep m hrg7.map.lt hmm) (hkeep it hrg7.lt (by have := HITM.out; omega))
      have eW : (fun j => if j = i then M.W i else if (Dk.busy M j && !left j) = true then M.W j else []) = fun j => if (Dk.busy M j && !(left j && !decide (j = i))) = true then M.W j else [] := by
        funext j
        by_cases e : j = i
        · subst e
          have hb : Dk.busy M j = true := by have := HWI.out; simp [Dk.busy, this]
          simp [hb]
        · simp [e]
      simp only at hQ8
      rw [eW] at hQ8
      have HQ8 := Lib.hid hQ8
      have HP8 := Lib.hid hP8
      have HB8 := Lib.hid hB8
      have HRG8 := Lib.hid hrg8
      have HGI2 := Lib.hid hgi2
      have hc8 : w8.cell? ⟨r2, 1, none⟩ = some (.map (some m2)) := hQ8.c1
      clear hP7 hQ7 hB7 hrg7 hbl7 hR7 hgi hgi2 hkeep hQ8 hP8 hB8 hrg8 eW ht8 hrun8 hm8 hown
      refine hK.out _ _ hc8 (fun hHeld => ?_)
      clear hK K hHeld hc8
      refine wpAnyH_done (by kernel_rfl) ?_ _
      go_roundw
      case rel =>
        refine ⟨_, _, _, _, _, _, _, _, _, _, _, _, ⟨_, cnt2, _, _, HRG8.out, HP8.out, HQ8.out, fun j hj hw hl => ?_, HB8.out⟩, rfl⟩
        by_cases e : j = i
        · rw [if_pos e]; exact HGI2.out
        · rw [if_neg e]
          simp [e] at hl
          exact HGE.out j hj hw hl
      case measure => rw [HRG8.out.left_eq, HR.out.left_eq]; exact hlt
end Go.Proofs.Ytimbcmcmidnlfaa
