/-
  net's drop: a packet is not on its way any more.
-/
import Derived.Test.YtimbcmcmidnlfaaNtPut2
namespace Go.Proofs.Ytimbcmcmidnlfaa
open Go.RowKit
namespace Nt
theorem PksAt.block {w : World} {B : Nat} {g n c : Nat} {l : List Pk} (h : PksAt w B (.slice (some ⟨g, 0, none⟩) n c) l) : l.length ≤ c ∧ g < w.heap.size ∧ B ≤ g ∧ ∃ cur, w.heap[g]? = some (.cells cur 25 (0, 0)) := by
  rcases h.2 with ⟨e, _⟩ | ⟨g', cap, cur, e, hb, hg, h1, _, _, _⟩
  · cases e
  · simp only [Value.slice.injEq, Option.some.injEq, Addr.mk.injEq] at e
    obtain ⟨⟨rfl, _⟩, _, rfl⟩ := e
    exact ⟨h1, Sm.lt_of hg, hb, cur, hg⟩
/-- What lies before a packet, and behind it. -/
theorem PksAt.front {w : World} {B : Nat} {a : Addr} {n c : Nat} {l : List Pk} (h : PksAt w B (.slice (some a) n c) l) (k : Nat) : ∀ j u, (flat (l.take k))[j]? = some u → w.cell? (a.add j) = some u := by
  intro j u hj
  rw [flat_take, List.getElem?_take] at hj
  split at hj
  · exact h.cellsAt j u hj
  · cases hj
theorem PksAt.back {w : World} {B : Nat} {g n c : Nat} {l : List Pk} (h : PksAt w B (.slice (some ⟨g, 0, none⟩) n c) l) (k : Nat) : ∀ j u, (flat (l.drop k))[j]? = some u → w.cell? ((⟨g, k * 3, none⟩ : Addr).add j) = some u := by
  intro j u hj
  rw [flat_drop, List.getElem?_drop] at hj
  have := h.cellsAt _ _ hj
  rw [Addr.add_mid] at this ⊢
  rw [Nat.zero_add] at this
  exact this
theorem PksAt.back2 {w : World} {B : Nat} {g n c : Nat} {l : List Pk} (h : PksAt w B (.slice (some ⟨g, 0, none⟩) n c) l) (k : Nat) {a : Addr} (ha : a = if c = k + 1 then ⟨g, 0, none⟩ else ⟨g, (k + 1) * 3, none⟩) : ∀ j u, (flat (l.drop (k + 1)))[j]? = some u → w.cell? (a.add j) = some u := by
  by_cases hc : c = k + 1
  · have hl := h.block.1
    rw [List.drop_of_length_le (by omega)]
    intro j u hj
    cases hj
  · rw [ha, if_neg hc]
    exact h.back (k + 1)
/-- The slices that Concat is handed, built. -/
theorem info3_pkts : (Try.prog.info? 37).map (fun i => (i.zero, i.size, i.bytes)) = some (some (.slice none 0 0), 1, 24) := by kernel_rfl
end Nt
set_option maxRecDepth 100000 in
set_option maxHeartbeats 2000000 in
theorem ntDrop_any {B : Nat} {w0 w : World} {r : Nat} {L : Nat → Prop} {M : Nt.Md} (h : Nt.Own B w0 w r L M) (k : Nat) (hk : k < M.row.length) :
    Calls Try.prog 36 #[.pointer (some ⟨r, 0, none⟩), .int .i64 (k : Int)] w fun e w' => e = .returned (.tuple #[]) ∧ Nt.Step B w0 w w' r L (Nt.drop M k) := by
  obtain ⟨A, c, hn, hP, hL, hA, hlc⟩ := h.netBlock
  have hlt := h.lt
  have hlen := h.net.ok.len
  obtain ⟨g, rfl, hgl, x0, -, -⟩ := hP.get hk
  have hM' := h.net.ok.drop k
  have hroom := h.net.ok.room
  have he0 := Nt.count_erase M.row k hk 0
  have he1 := Nt.count_erase M.row k hk 1
  have hlk := h.net.ok.links _ (List.getElem_mem hk)
  have hrg : r ≠ g := by
    obtain ⟨_, _, _, cur, hg⟩ := hP.block
    exact fun e => Nt.type_ne hg hn Nt.net_packet e.symm
  obtain ⟨p, hp⟩ : ∃ p, p = M.row[k] := ⟨_, rfl⟩
  rw [← hp] at x0 he0 he1 hlk
  have H := Lib.hid h
  have HM := Lib.hid hM'
  have HP := Lib.hid hP
  have HL := Lib.hid hL
  have HN := Lib.hid hn
  have c2 := Sm.cells_of hn 2 _ rfl
  have c3 := Sm.cells_of hn 3 _ rfl
  have c4 := Sm.cells_of hn 4 _ rfl
  have f3 := Sm.free_of hn 3
  have f4 := Sm.free_of hn 4
  have HC := Lib.hid (show k < c by omega)
  clear h hM' hP hL hA hp hn
  obtain ⟨f, t, d⟩ := p
  simp only at x0 he0 he1
  have hki : (k : Int) < (M.row.length : Int) := by omega
  have hk1 : IntKind.i64.wrap ((k : Int) + 1) = ((k + 1 : Nat) : Int) := by simp [IntKind.wrap, IntKind.bits, IntKind.signed]; omega
  have HKL := Lib.hid hk
  rcases hlk with ⟨e1, e2⟩ | ⟨e1, e2⟩
  · simp only at e1 e2
    subst e1 e2
    obtain ⟨n0, hn0⟩ : ∃ n, n = Nt.count M.row 0 := ⟨_, rfl⟩
    have HE0 := Lib.hid he0
    have HE1 := Lib.hid he1
    have hdec : IntKind.i64.wrap ((n0 : Int) - 1) = (n0 : Int) - 1 := by simp [IntKind.wrap, IntKind.bits, IntKind.signed]; omega
    rw [← hn0] at c3
    have HN0 := Lib.hid hn0
    clear hn0 he0 he1 hroom
    go_enter Try.func36, Try.ntmps36
    go_upto_region 0 with (fail)
    go_region
    go_upto_region 1 with (fail)
    have hg1 := Sm.heap_set HN.out 3 (.int .i64 ((n0 : Int) - 1))
    have hk1' := Sm.grown_set (Sm.grown_refl w (some r)) 3 (.int .i64 ((n0 : Int) - 1))
    have hP1 := HP.out.turned HN.out Nt.net_packet hk1'
    generalize w.setCell ⟨r, 3, none⟩ (.int .i64 ((n0 : Int) - 1)) = w1 at *
    have hg2 : w1.drew.heap[r]? = some (.cells (#[.bool true, .bool M.parted, .slice (some ⟨g, 0, none⟩) M.row.length c, .int .i64 (Nt.count M.row 0), .int .i64 (Nt.count M.row 1)] |>.setIfInBounds 3 (.int .i64 ((n0 : Int) - 1))) 46 (0, 0)) := hg1
    have hk2 : w.grownBy w1.drew (some r) := Sm.grown_drewN hk1' 1
    have hP2 : Nt.PksAt w1.drew B (.slice (some ⟨g, 0, none⟩) M.row.length c) M.row := Nt.own_keep hP1 fun _ _ _ => rfl
    generalize w1.drew = w2 at *
    clear hg1 hk1' hP1 c2 c3 c4 f3 f4 hdec x0
    have y2 : w2.drew.cell? ⟨r, 2, none⟩ = some (.slice (some ⟨g, 0, none⟩) M.row.length c) := Sm.cells_of hg2 2 _ rfl
    have hkc : (k : Int) ≤ (c : Int) := by omega
    have hkl : ((k + 1 : Nat) : Int) ≤ (M.row.length : Int) := by omega
    obtain ⟨a2, ha2⟩ : ∃ a : Addr, a = if c = k + 1 then ⟨g, 0, none⟩ else ⟨g, (k + 1) * 3, none⟩ := ⟨_, rfl⟩
    have hab : (if c = k + 1 then some (⟨g, 0, none⟩ : Addr) else some ⟨g, (k + 1) * 3, none⟩) = some a2 := by rw [ha2]; split <;> rfl
    have HA2 := Lib.hid ha2
    have HAB := Lib.hid hab
    have hkb : (0 : Int) ≤ (k : Int) + 1 := by omega
    have hkd : (k : Int) + 1 ≤ (M.row.length : Int) := by omega
    clear ha2 hab
    refine wp_region_held_drew (S := (fun _ => True)) (by kernel_rfl) trivial (fun hHeld => ?_)
    refine wpAnyH_take (i := 0) (oi := ⟨some 21, _, _, _, _, _⟩) (v := .pointer (some ⟨r, 0, none⟩)) rfl (by kernel_rfl) (by kernel_rfl) (by kernel_rfl) (fun _ _ _ h => h) (Or.inl ⟨by rfl, ?_⟩) (by assumption) ?_
    · intro w hSw; (try dsimp only at hSw); go_simp
    simp only [Act.put, List.setIfInBounds_toArray, List.set_cons_zero, List.set_cons_succ]
    refine wpAnyH_take (i := 1) (oi := ⟨some 22, _, _, _, _, _⟩) (v := .pointer (some ⟨r, 0, none⟩)) rfl (by kernel_rfl) (by kernel_rfl) (by kernel_rfl) (fun _ _ _ h => h) (Or.inl ⟨by rfl, ?_⟩) (by assumption) ?_
    · intro w hSw; (try dsimp only at hSw); go_simp
    simp only [Act.put, List.setIfInBounds_toArray, List.set_cons_zero, List.set_cons_succ]
    refine wpAnyH_take (i := 2) (oi := ⟨some 23, _, _, _, _, _⟩) (v := .pointer (some ⟨r, 0, none⟩)) rfl (by kernel_rfl) (by kernel_rfl) (by kernel_rfl) (fun _ _ _ h => h) (Or.inl ⟨by rfl, ?_⟩) (by assumption) ?_
    · intro w hSw; (try dsimp only at hSw); go_simp
    simp only [Act.put, List.setIfInBounds_toArray, List.set_cons_zero, List.set_cons_succ]
    refine wpAnyH_take (i := 3) (oi := ⟨some 24, _, _, _, _, _⟩) (v := .pointer (some ⟨r, 2, none⟩)) rfl (by kernel_rfl) (by kernel_rfl) (by kernel_rfl) (fun _ _ _ h => h) (Or.inl ⟨by rfl, ?_⟩) (by assumption) ?_
    · intro w hSw; (try dsimp only at hSw); go_simp
    simp only [Act.put, List.setIfInBounds_toArray, List.set_cons_zero, List.set_cons_succ]
    refine wpAnyH_take (i := 5) (oi := ⟨some 26, _, _, _, _, _⟩) (v := .int .i64 (k : Int)) rfl (by kernel_rfl) (by kernel_rfl) (by kernel_rfl) (fun _ _ _ h => h) (Or.inl ⟨by rfl, ?_⟩) (by assumption) ?_
    · intro w hSw; (try dsimp only at hSw); go_simp
    simp only [Act.put, List.setIfInBounds_toArray, List.set_cons_zero, List.set_cons_succ]
    refine wpAnyH_take (i := 7) (oi := ⟨some 28, _, _, _, _, _⟩) (v := .pointer (some ⟨r, 0, none⟩)) rfl (by kernel_rfl) (by kernel_rfl) (by kernel_rfl) (fun _ _ _ h => h) (Or.inl ⟨by rfl, ?_⟩) (by assumption) ?_
    · intro w hSw; (try dsimp only at hSw); go_simp
    simp only [Act.put, List.setIfInBounds_toArray, List.set_cons_zero, List.set_cons_succ]
    refine wpAnyH_take (i := 8) (oi := ⟨some 29, _, _, _, _, _⟩) (v := .pointer (some ⟨r, 0, none⟩)) rfl (by kernel_rfl) (by kernel_rfl) (by kernel_rfl) (fun _ _ _ h => h) (Or.inl ⟨by rfl, ?_⟩) (by assumption) ?_
    · intro w hSw; (try dsimp only at hSw); go_simp
    simp only [Act.put, List.setIfInBounds_toArray, List.set_cons_zero, List.set_cons_succ]
    refine wpAnyH_take (i := 9) (oi := ⟨some 30, _, _, _, _, _⟩) (v := .pointer (some ⟨r, 2, none⟩)) rfl (by kernel_rfl) (by kernel_rfl) (by kernel_rfl) (fun _ _ _ h => h) (Or.inl ⟨by rfl, ?_⟩) (by assumption) ?_
    · intro w hSw; (try dsimp only at hSw); go_simp
    simp only [Act.put, List.setIfInBounds_toArray, List.set_cons_zero, List.set_cons_succ]
    refine wpAnyH_take (i := 11) (oi := ⟨some 32, _, _, _, _, _⟩) (v := .int .i64 (k : Int)) rfl (by kernel_rfl) (by kernel_rfl) (by kernel_rfl) (fun _ _ _ h => h) (Or.inl ⟨by rfl, ?_⟩) (by assumption) ?_
    · intro w hSw; (try dsimp only at hSw); go_simp
    simp only [Act.put, List.setIfInBounds_toArray, List.set_cons_zero, List.set_cons_succ]
    refine wpAnyH_take (i := 12) (oi := ⟨some 33, _, _, _, _, _⟩) (v := .int .i64 ((k + 1 : Nat) : Int)) rfl (by kernel_rfl) (by kernel_rfl) (by kernel_rfl) (fun _ _ _ h => h) (Or.inl ⟨by rfl, ?_⟩) (by assumption) ?_
    · intro w hSw; (try dsimp only at hSw); go_simp
    simp only [Act.put, List.setIfInBounds_toArray, List.set_cons_zero, List.set_cons_succ]
    refine wpAnyH_ready (rs := [4, 10]) (by kernel_rfl) (by simp) ?_
    refine (AllReadyH.cons (o := ⟨some 25, _, _, _, _, _⟩) rfl (fun K hK => ?_) (AllReadyH.cons (o := ⟨some 31, _, _, _, _, _⟩) rfl (fun K hK => ?_) AllReadyH.nil))
    · go_simp
      refine hK.out _ _ trivial (fun hHeld => ?_)
      clear hK K
      refine wpAnyH_take (i := 6) (oi := ⟨some 27, _, _, _, _, _⟩) (v := .slice (some ⟨g, 0, none⟩) k c) rfl (by kernel_rfl) (by kernel_rfl) (by kernel_rfl) (fun _ _ _ h => h) (Or.inl ⟨by rfl, ?_⟩) (by assumption) ?_
      · intro w hSw; (try dsimp only at hSw); go_simp
      simp only [Act.put, List.setIfInBounds_toArray, List.set_cons_zero, List.set_cons_succ]
      refine wpAnyH_ready (rs := [10]) (by kernel_rfl) (by simp) ?_
      refine (AllReadyH.cons (o := ⟨some 31, _, _, _, _, _⟩) rfl (fun K hK => ?_) AllReadyH.nil)
      go_simp
      refine hK.out _ _ trivial (fun hHeld => ?_)
      clear hK K
      refine wpAnyH_take (i := 13) (oi := ⟨some 34, _, _, _, _, _⟩) (v := .slice (some a2) (M.row.length - (k + 1)) (c - (k + 1))) rfl (by kernel_rfl) (by kernel_rfl) (by kernel_rfl) (fun _ _ _ h => h) (Or.inl ⟨by rfl, ?_⟩) (by assumption) ?_
      · intro w hSw; (try dsimp only at hSw); have hab := HAB.out; go_simp
      simp only [Act.put, List.setIfInBounds_toArray, List.set_cons_zero, List.set_cons_succ]
      refine wpAnyH_ready (rs := [14]) (by kernel_rfl) (by simp) ?_
      refine (AllReadyH.cons (o := ⟨some 35, _, _, _, _, _⟩) rfl (fun K hK => ?_) AllReadyH.nil)
      go_simp
      refine hK.out _ _ trivial (fun hHeld => ?_)
      clear hK K
      have k3 : Below w2.heap.size w2 (w2.alloc (.cells #[.slice (some ⟨g, 0, none⟩) k c, .slice (some a2) (M.row.length - (k + 1)) (c - (k + 1))] 37)).drew := ((Below.refl _ w2).alloc (Nat.le_refl _) _).drew
      have hg3 := (k3.block r (Sm.lt_of hg2)).trans hg2
      have hP3 := hP2.low k3
      have hk3 := Sm.grown_below hk2 (k3.mono hk2.size)
      have hrow : (w2.alloc (.cells #[.slice (some ⟨g, 0, none⟩) k c, .slice (some a2) (M.row.length - (k + 1)) (c - (k + 1))] 37)).drew.heap[w2.heap.size]? = some (.cells #[.slice (some ⟨g, 0, none⟩) k c, .slice (some a2) (M.row.length - (k + 1)) (c - (k + 1))] 37 (0, 0)) := heap_alloc_new w2 _
      obtain ⟨N3, hN3⟩ : ∃ n, n = w2.heap.size := ⟨_, rfl⟩
      rw [← hN3] at hrow ⊢
      generalize (w2.alloc (.cells #[.slice (some ⟨g, 0, none⟩) k c, .slice (some a2) (M.row.length - (k + 1)) (c - (k + 1))] 37)).drew = w3 at *
      clear k3 hg2 hP2 hk2 hN3 y2
      refine wpAnyH_ready (rs := [15]) (by kernel_rfl) (by simp) ?_
      refine (AllReadyH.cons (o := ⟨some 36, _, _, _, _, _⟩) rfl (fun K hK => ?_) AllReadyH.nil)
      go_simp
      refine (concatPk_any w3 N3 ⟨g, 0, none⟩ a2 k c (M.row.length - (k + 1)) (c - (k + 1)) (M.row.take k) (M.row.drop (k + 1)) hrow (by rw [List.length_take]; omega) (by rw [List.length_drop]) (hP3.front k) (hP3.back2 k HA2.out) (by omega)).mono ?_
      rintro e w4 ⟨v4, rfl, hP4, k4⟩
      have hP4 : Nt.PksAt w4 w3.heap.size v4 (Nt.drop M k).row := by
        show Nt.PksAt _ _ _ (M.row.eraseIdx k)
        rw [List.eraseIdx_eq_take_drop_succ]; exact hP4
      have hg4 := (k4.block r (Sm.lt_of hg3)).trans hg3
      have hk4 := Sm.grown_below hk3 (k4.mono hk3.size)
      obtain ⟨A7, q7, hv7⟩ := Sm.own_shape hP4
      obtain ⟨n7, hn7⟩ : ∃ n, n = (Nt.drop M k).row.length := ⟨_, rfl⟩
      rw [← hn7] at hv7
      subst hv7
      clear hn7
      have hfresh : w.heap.size ≤ w3.heap.size := hk3.size
      have hBw := H.out.size
      have hold := H.out.old
      have hPB := Nt.own_more hP4 (B' := B) (by omega)
      have hLf : ∀ q, (Value.slice A7 n7 q7).ownBlock = some q → ¬ L q := fun q hq hl => by
        have h1 := (Nt.own_blk hP4 hq).1
        have h2 := hold q hl
        omega
      have hset := Sm.heap_set hg4 2 (.slice A7 n7 q7)
      have hkset := Sm.grown_set hk4 2 (.slice A7 n7 q7)
      have ST := Lib.hid (H.out.remade HM.out (hP8 := own_set2 hPB hg4 (.slice A7 n7 q7)) hLf (by
        rw [hset]
        have e0 := HE0.out
        have e1 := HE1.out
        have e2 := HN0.out
        simp only [if_true, show ¬ ((0 : Int) = 1) by decide, if_false, Nat.add_zero] at e0 e1
        have e3 : ((Nt.count (M.row.eraseIdx k) 0 : Nat) : Int) = (n0 : Int) - 1 := by omega
        simp only [Nt.cells, Nt.drop]
        rw [e3, e1]
        simp) hkset)
      have c7 := Sm.cells_of hg4 2 (.slice (some ⟨g, 0, none⟩) M.row.length c) rfl
      have f7 := Sm.free_of hg4 2
      clear hg3 hP3 hk3 hrow hP4 k4 hk4 hfresh hBw hold hPB hLf hset hkset hg4
      refine hK.out _ _ trivial (fun hHeld => ?_)
      clear hK K
      refine wpAnyH_take (i := 16) (oi := ⟨some 37, _, _, _, _, _⟩) (v := .pointer (some ⟨r, 0, none⟩)) rfl (by kernel_rfl) (by kernel_rfl) (by kernel_rfl) (fun _ _ _ h => h) (Or.inl ⟨by rfl, ?_⟩) (by assumption) ?_
      · intro w hSw; (try dsimp only at hSw); go_simp
      simp only [Act.put, List.setIfInBounds_toArray, List.set_cons_zero, List.set_cons_succ]
      refine wpAnyH_take (i := 17) (oi := ⟨some 38, _, _, _, _, _⟩) (v := .pointer (some ⟨r, 2, none⟩)) rfl (by kernel_rfl) (by kernel_rfl) (by kernel_rfl) (fun _ _ _ h => h) (Or.inl ⟨by rfl, ?_⟩) (by assumption) ?_
      · intro w hSw; (try dsimp only at hSw); go_simp
      simp only [Act.put, List.setIfInBounds_toArray, List.set_cons_zero, List.set_cons_succ]
      refine wpAnyH_ready (rs := [18]) (by kernel_rfl) (by simp) ?_
      refine (AllReadyH.cons (o := ⟨none, _, _, _, _, _⟩) rfl (fun K hK => ?_) AllReadyH.nil)
      go_simp
      refine hK.out _ _ trivial (fun hHeld => ?_)
      clear hK K
      refine wpAnyH_done (by kernel_rfl) ?_ _
      go_wp2
      go_end0
      exact ⟨rfl, ST.out⟩
    · go_simp
      refine hK.out _ _ trivial (fun hHeld => ?_)
      clear hK K
      refine wpAnyH_take (i := 13) (oi := ⟨some 34, _, _, _, _, _⟩) (v := .slice (some a2) (M.row.length - (k + 1)) (c - (k + 1))) rfl (by kernel_rfl) (by kernel_rfl) (by kernel_rfl) (fun _ _ _ h => h) (Or.inl ⟨by rfl, ?_⟩) (by assumption) ?_
      · intro w hSw; (try dsimp only at hSw); have hab := HAB.out; go_simp
      simp only [Act.put, List.setIfInBounds_toArray, List.set_cons_zero, List.set_cons_succ]
      refine wpAnyH_ready (rs := [4]) (by kernel_rfl) (by simp) ?_
      refine (AllReadyH.cons (o := ⟨some 25, _, _, _, _, _⟩) rfl (fun K hK => ?_) AllReadyH.nil)
      go_simp
      refine hK.out _ _ trivial (fun hHeld => ?_)
      clear hK K
      refine wpAnyH_take (i := 6) (oi := ⟨some 27, _, _, _, _, _⟩) (v := .slice (some ⟨g, 0, none⟩) k c) rfl (by kernel_rfl) (by kernel_rfl) (by kernel_rfl) (fun _ _ _ h => h) (Or.inl ⟨by rfl, ?_⟩) (by assumption) ?_
      · intro w hSw; (try dsimp only at hSw); go_simp
      simp only [Act.put, List.setIfInBounds_toArray, List.set_cons_zero, List.set_cons_succ]
      refine wpAnyH_ready (rs := [14]) (by kernel_rfl) (by simp) ?_
      refine (AllReadyH.cons (o := ⟨some 35, _, _, _, _, _⟩) rfl (fun K hK => ?_) AllReadyH.nil)
      go_simp
      refine hK.out _ _ trivial (fun hHeld => ?_)
      clear hK K
      have k3 : Below w2.heap.size w2 (w2.alloc (.cells #[.slice (some ⟨g, 0, none⟩) k c, .slice (some a2) (M.row.length - (k + 1)) (c - (k + 1))] 37)).drew := ((Below.refl _ w2).alloc (Nat.le_refl _) _).drew
      have hg3 := (k3.block r (Sm.lt_of hg2)).trans hg2
      have hP3 := hP2.low k3
      have hk3 := Sm.grown_below hk2 (k3.mono hk2.size)
      have hrow : (w2.alloc (.cells #[.slice (some ⟨g, 0, none⟩) k c, .slice (some a2) (M.row.length - (k + 1)) (c - (k + 1))] 37)).drew.heap[w2.heap.size]? = some (.cells #[.slice (some ⟨g, 0, none⟩) k c, .slice (some a2) (M.row.length - (k + 1)) (c - (k + 1))] 37 (0, 0)) := heap_alloc_new w2 _
      obtain ⟨N3, hN3⟩ : ∃ n, n = w2.heap.size := ⟨_, rfl⟩
      rw [← hN3] at hrow ⊢
      generalize (w2.alloc (.cells #[.slice (some ⟨g, 0, none⟩) k c, .slice (some a2) (M.row.length - (k + 1)) (c - (k + 1))] 37)).drew = w3 at *
      clear k3 hg2 hP2 hk2 hN3 y2
      refine wpAnyH_ready (rs := [15]) (by kernel_rfl) (by simp) ?_
      refine (AllReadyH.cons (o := ⟨some 36, _, _, _, _, _⟩) rfl (fun K hK => ?_) AllReadyH.nil)
      go_simp
      refine (concatPk_any w3 N3 ⟨g, 0, none⟩ a2 k c (M.row.length - (k + 1)) (c - (k + 1)) (M.row.take k) (M.row.drop (k + 1)) hrow (by rw [List.length_take]; omega) (by rw [List.length_drop]) (hP3.front k) (hP3.back2 k HA2.out) (by omega)).mono ?_
      rintro e w4 ⟨v4, rfl, hP4, k4⟩
      have hP4 : Nt.PksAt w4 w3.heap.size v4 (Nt.drop M k).row := by
        show Nt.PksAt _ _ _ (M.row.eraseIdx k)
        rw [List.eraseIdx_eq_take_drop_succ]; exact hP4
      have hg4 := (k4.block r (Sm.lt_of hg3)).trans hg3
      have hk4 := Sm.grown_below hk3 (k4.mono hk3.size)
      obtain ⟨A7, q7, hv7⟩ := Sm.own_shape hP4
      obtain ⟨n7, hn7⟩ : ∃ n, n = (Nt.drop M k).row.length := ⟨_, rfl⟩
      rw [← hn7] at hv7
      subst hv7
      clear hn7
      have hfresh : w.heap.size ≤ w3.heap.size := hk3.size
      have hBw := H.out.size
      have hold := H.out.old
      have hPB := Nt.own_more hP4 (B' := B) (by omega)
      have hLf : ∀ q, (Value.slice A7 n7 q7).ownBlock = some q → ¬ L q := fun q hq hl => by
        have h1 := (Nt.own_blk hP4 hq).1
        have h2 := hold q hl
        omega
      have hset := Sm.heap_set hg4 2 (.slice A7 n7 q7)
      have hkset := Sm.grown_set hk4 2 (.slice A7 n7 q7)
      have ST := Lib.hid (H.out.remade HM.out (hP8 := own_set2 hPB hg4 (.slice A7 n7 q7)) hLf (by
        rw [hset]
        have e0 := HE0.out
        have e1 := HE1.out
        have e2 := HN0.out
        simp only [if_true, show ¬ ((0 : Int) = 1) by decide, if_false, Nat.add_zero] at e0 e1
        have e3 : ((Nt.count (M.row.eraseIdx k) 0 : Nat) : Int) = (n0 : Int) - 1 := by omega
        simp only [Nt.cells, Nt.drop]
        rw [e3, e1]
        simp) hkset)
      have c7 := Sm.cells_of hg4 2 (.slice (some ⟨g, 0, none⟩) M.row.length c) rfl
      have f7 := Sm.free_of hg4 2
      clear hg3 hP3 hk3 hrow hP4 k4 hk4 hfresh hBw hold hPB hLf hset hkset hg4
      refine hK.out _ _ trivial (fun hHeld => ?_)
      clear hK K
      refine wpAnyH_take (i := 16) (oi := ⟨some 37, _, _, _, _, _⟩) (v := .pointer (some ⟨r, 0, none⟩)) rfl (by kernel_rfl) (by kernel_rfl) (by kernel_rfl) (fun _ _ _ h => h) (Or.inl ⟨by rfl, ?_⟩) (by assumption) ?_
      · intro w hSw; (try dsimp only at hSw); go_simp
      simp only [Act.put, List.setIfInBounds_toArray, List.set_cons_zero, List.set_cons_succ]
      refine wpAnyH_take (i := 17) (oi := ⟨some 38, _, _, _, _, _⟩) (v := .pointer (some ⟨r, 2, none⟩)) rfl (by kernel_rfl) (by kernel_rfl) (by kernel_rfl) (fun _ _ _ h => h) (Or.inl ⟨by rfl, ?_⟩) (by assumption) ?_
      · intro w hSw; (try dsimp only at hSw); go_simp
      simp only [Act.put, List.setIfInBounds_toArray, List.set_cons_zero, List.set_cons_succ]
      refine wpAnyH_ready (rs := [18]) (by kernel_rfl) (by simp) ?_
      refine (AllReadyH.cons (o := ⟨none, _, _, _, _, _⟩) rfl (fun K hK => ?_) AllReadyH.nil)
      go_simp
      refine hK.out _ _ trivial (fun hHeld => ?_)
      clear hK K
      refine wpAnyH_done (by kernel_rfl) ?_ _
      go_wp2
      go_end0
      exact ⟨rfl, ST.out⟩
  · simp only at e1 e2
    subst e1 e2
    obtain ⟨n0, hn0⟩ : ∃ n, n = Nt.count M.row 1 := ⟨_, rfl⟩
    have HE0 := Lib.hid he0
    have HE1 := Lib.hid he1
    have hdec : IntKind.i64.wrap ((n0 : Int) - 1) = (n0 : Int) - 1 := by simp [IntKind.wrap, IntKind.bits, IntKind.signed]; omega
    rw [← hn0] at c4
    have HN0 := Lib.hid hn0
    clear hn0 he0 he1 hroom
    go_enter Try.func36, Try.ntmps36
    go_upto_region 0 with (fail)
    go_region
    go_upto_region 1 with (fail)
    have hg1 := Sm.heap_set HN.out 4 (.int .i64 ((n0 : Int) - 1))
    have hk1' := Sm.grown_set (Sm.grown_refl w (some r)) 4 (.int .i64 ((n0 : Int) - 1))
    have hP1 := HP.out.turned HN.out Nt.net_packet hk1'
    generalize w.setCell ⟨r, 4, none⟩ (.int .i64 ((n0 : Int) - 1)) = w1 at *
    have hg2 : w1.drew.heap[r]? = some (.cells (#[.bool true, .bool M.parted, .slice (some ⟨g, 0, none⟩) M.row.length c, .int .i64 (Nt.count M.row 0), .int .i64 (Nt.count M.row 1)] |>.setIfInBounds 4 (.int .i64 ((n0 : Int) - 1))) 46 (0, 0)) := hg1
    have hk2 : w.grownBy w1.drew (some r) := Sm.grown_drewN hk1' 1
    have hP2 : Nt.PksAt w1.drew B (.slice (some ⟨g, 0, none⟩) M.row.length c) M.row := Nt.own_keep hP1 fun _ _ _ => rfl
    generalize w1.drew = w2 at *
    clear hg1 hk1' hP1 c2 c3 c4 f3 f4 hdec x0
    have y2 : w2.drew.cell? ⟨r, 2, none⟩ = some (.slice (some ⟨g, 0, none⟩) M.row.length c) := Sm.cells_of hg2 2 _ rfl
    have hkc : (k : Int) ≤ (c : Int) := by omega
    have hkl : ((k + 1 : Nat) : Int) ≤ (M.row.length : Int) := by omega
    obtain ⟨a2, ha2⟩ : ∃ a : Addr, a = if c = k + 1 then ⟨g, 0, none⟩ else ⟨g, (k + 1) * 3, none⟩ := ⟨_, rfl⟩
    have hab : (if c = k + 1 then some (⟨g, 0, none⟩ : Addr) else some ⟨g, (k + 1) * 3, none⟩) = some a2 := by rw [ha2]; split <;> rfl
    have HA2 := Lib.hid ha2
    have HAB := Lib.hid hab
    have hkb : (0 : Int) ≤ (k : Int) + 1 := by omega
    have hkd : (k : Int) + 1 ≤ (M.row.length : Int) := by omega
    clear ha2 hab
    refine wp_region_held_drew (S := (fun _ => True)) (by kernel_rfl) trivial (fun hHeld => ?_)
    refine wpAnyH_take (i := 0) (oi := ⟨some 21, _, _, _, _, _⟩) (v := .pointer (some ⟨r, 0, none⟩)) rfl (by kernel_rfl) (by kernel_rfl) (by kernel_rfl) (fun _ _ _ h => h) (Or.inl ⟨by rfl, ?_⟩) (by assumption) ?_
    · intro w hSw; (try dsimp only at hSw); go_simp
    simp only [Act.put, List.setIfInBounds_toArray, List.set_cons_zero, List.set_cons_succ]
    refine wpAnyH_take (i := 1) (oi := ⟨some 22, _, _, _, _, _⟩) (v := .pointer (some ⟨r, 0, none⟩)) rfl (by kernel_rfl) (by kernel_rfl) (by kernel_rfl) (fun _ _ _ h => h) (Or.inl ⟨by rfl, ?_⟩) (by assumption) ?_
    · intro w hSw; (try dsimp only at hSw); go_simp
    simp only [Act.put, List.setIfInBounds_toArray, List.set_cons_zero, List.set_cons_succ]
    refine wpAnyH_take (i := 2) (oi := ⟨some 23, _, _, _, _, _⟩) (v := .pointer (some ⟨r, 0, none⟩)) rfl (by kernel_rfl) (by kernel_rfl) (by kernel_rfl) (fun _ _ _ h => h) (Or.inl ⟨by rfl, ?_⟩) (by assumption) ?_
    · intro w hSw; (try dsimp only at hSw); go_simp
    simp only [Act.put, List.setIfInBounds_toArray, List.set_cons_zero, List.set_cons_succ]
    refine wpAnyH_take (i := 3) (oi := ⟨some 24, _, _, _, _, _⟩) (v := .pointer (some ⟨r, 2, none⟩)) rfl (by kernel_rfl) (by kernel_rfl) (by kernel_rfl) (fun _ _ _ h => h) (Or.inl ⟨by rfl, ?_⟩) (by assumption) ?_
    · intro w hSw; (try dsimp only at hSw); go_simp
    simp only [Act.put, List.setIfInBounds_toArray, List.set_cons_zero, List.set_cons_succ]
    refine wpAnyH_take (i := 5) (oi := ⟨some 26, _, _, _, _, _⟩) (v := .int .i64 (k : Int)) rfl (by kernel_rfl) (by kernel_rfl) (by kernel_rfl) (fun _ _ _ h => h) (Or.inl ⟨by rfl, ?_⟩) (by assumption) ?_
    · intro w hSw; (try dsimp only at hSw); go_simp
    simp only [Act.put, List.setIfInBounds_toArray, List.set_cons_zero, List.set_cons_succ]
    refine wpAnyH_take (i := 7) (oi := ⟨some 28, _, _, _, _, _⟩) (v := .pointer (some ⟨r, 0, none⟩)) rfl (by kernel_rfl) (by kernel_rfl) (by kernel_rfl) (fun _ _ _ h => h) (Or.inl ⟨by rfl, ?_⟩) (by assumption) ?_
    · intro w hSw; (try dsimp only at hSw); go_simp
    simp only [Act.put, List.setIfInBounds_toArray, List.set_cons_zero, List.set_cons_succ]
    refine wpAnyH_take (i := 8) (oi := ⟨some 29, _, _, _, _, _⟩) (v := .pointer (some ⟨r, 0, none⟩)) rfl (by kernel_rfl) (by kernel_rfl) (by kernel_rfl) (fun _ _ _ h => h) (Or.inl ⟨by rfl, ?_⟩) (by assumption) ?_
    · intro w hSw; (try dsimp only at hSw); go_simp
    simp only [Act.put, List.setIfInBounds_toArray, List.set_cons_zero, List.set_cons_succ]
    refine wpAnyH_take (i := 9) (oi := ⟨some 30, _, _, _, _, _⟩) (v := .pointer (some ⟨r, 2, none⟩)) rfl (by kernel_rfl) (by kernel_rfl) (by kernel_rfl) (fun _ _ _ h => h) (Or.inl ⟨by rfl, ?_⟩) (by assumption) ?_
    · intro w hSw; (try dsimp only at hSw); go_simp
    simp only [Act.put, List.setIfInBounds_toArray, List.set_cons_zero, List.set_cons_succ]
    refine wpAnyH_take (i := 11) (oi := ⟨some 32, _, _, _, _, _⟩) (v := .int .i64 (k : Int)) rfl (by kernel_rfl) (by kernel_rfl) (by kernel_rfl) (fun _ _ _ h => h) (Or.inl ⟨by rfl, ?_⟩) (by assumption) ?_
    · intro w hSw; (try dsimp only at hSw); go_simp
    simp only [Act.put, List.setIfInBounds_toArray, List.set_cons_zero, List.set_cons_succ]
    refine wpAnyH_take (i := 12) (oi := ⟨some 33, _, _, _, _, _⟩) (v := .int .i64 ((k + 1 : Nat) : Int)) rfl (by kernel_rfl) (by kernel_rfl) (by kernel_rfl) (fun _ _ _ h => h) (Or.inl ⟨by rfl, ?_⟩) (by assumption) ?_
    · intro w hSw; (try dsimp only at hSw); go_simp
    simp only [Act.put, List.setIfInBounds_toArray, List.set_cons_zero, List.set_cons_succ]
    refine wpAnyH_ready (rs := [4, 10]) (by kernel_rfl) (by simp) ?_
    refine (AllReadyH.cons (o := ⟨some 25, _, _, _, _, _⟩) rfl (fun K hK => ?_) (AllReadyH.cons (o := ⟨some 31, _, _, _, _, _⟩) rfl (fun K hK => ?_) AllReadyH.nil))
    · go_simp
      refine hK.out _ _ trivial (fun hHeld => ?_)
      clear hK K
      refine wpAnyH_take (i := 6) (oi := ⟨some 27, _, _, _, _, _⟩) (v := .slice (some ⟨g, 0, none⟩) k c) rfl (by kernel_rfl) (by kernel_rfl) (by kernel_rfl) (fun _ _ _ h => h) (Or.inl ⟨by rfl, ?_⟩) (by assumption) ?_
      · intro w hSw; (try dsimp only at hSw); go_simp
      simp only [Act.put, List.setIfInBounds_toArray, List.set_cons_zero, List.set_cons_succ]
      refine wpAnyH_ready (rs := [10]) (by kernel_rfl) (by simp) ?_
      refine (AllReadyH.cons (o := ⟨some 31, _, _, _, _, _⟩) rfl (fun K hK => ?_) AllReadyH.nil)
      go_simp
      refine hK.out _ _ trivial (fun hHeld => ?_)
      clear hK K
      refine wpAnyH_take (i := 13) (oi := ⟨some 34, _, _, _, _, _⟩) (v := .slice (some a2) (M.row.length - (k + 1)) (c - (k + 1))) rfl (by kernel_rfl) (by kernel_rfl) (by kernel_rfl) (fun _ _ _ h => h) (Or.inl ⟨by rfl, ?_⟩) (by assumption) ?_
      · intro w hSw; (try dsimp only at hSw); have hab := HAB.out; go_simp
      simp only [Act.put, List.setIfInBounds_toArray, List.set_cons_zero, List.set_cons_succ]
      refine wpAnyH_ready (rs := [14]) (by kernel_rfl) (by simp) ?_
      refine (AllReadyH.cons (o := ⟨some 35, _, _, _, _, _⟩) rfl (fun K hK => ?_) AllReadyH.nil)
      go_simp
      refine hK.out _ _ trivial (fun hHeld => ?_)
      clear hK K
      have k3 : Below w2.heap.size w2 (w2.alloc (.cells #[.slice (some ⟨g, 0, none⟩) k c, .slice (some a2) (M.row.length - (k + 1)) (c - (k + 1))] 37)).drew := ((Below.refl _ w2).alloc (Nat.le_refl _) _).drew
      have hg3 := (k3.block r (Sm.lt_of hg2)).trans hg2
      have hP3 := hP2.low k3
      have hk3 := Sm.grown_below hk2 (k3.mono hk2.size)
      have hrow : (w2.alloc (.cells #[.slice (some ⟨g, 0, none⟩) k c, .slice (some a2) (M.row.length - (k + 1)) (c - (k + 1))] 37)).drew.heap[w2.heap.size]? = some (.cells #[.slice (some ⟨g, 0, none⟩) k c, .slice (some a2) (M.row.length - (k + 1)) (c - (k + 1))] 37 (0, 0)) := heap_alloc_new w2 _
      obtain ⟨N3, hN3⟩ : ∃ n, n = w2.heap.size := ⟨_, rfl⟩
      rw [← hN3] at hrow ⊢
      generalize (w2.alloc (.cells #[.slice (some ⟨g, 0, none⟩) k c, .slice (some a2) (M.row.length - (k + 1)) (c - (k + 1))] 37)).drew = w3 at *
      clear k3 hg2 hP2 hk2 hN3 y2
      refine wpAnyH_ready (rs := [15]) (by kernel_rfl) (by simp) ?_
      refine (AllReadyH.cons (o := ⟨some 36, _, _, _, _, _⟩) rfl (fun K hK => ?_) AllReadyH.nil)
      go_simp
      refine (concatPk_any w3 N3 ⟨g, 0, none⟩ a2 k c (M.row.length - (k + 1)) (c - (k + 1)) (M.row.take k) (M.row.drop (k + 1)) hrow (by rw [List.length_take]; omega) (by rw [List.length_drop]) (hP3.front k) (hP3.back2 k HA2.out) (by omega)).mono ?_
      rintro e w4 ⟨v4, rfl, hP4, k4⟩
      have hP4 : Nt.PksAt w4 w3.heap.size v4 (Nt.drop M k).row := by
        show Nt.PksAt _ _ _ (M.row.eraseIdx k)
        rw [List.eraseIdx_eq_take_drop_succ]; exact hP4
      have hg4 := (k4.block r (Sm.lt_of hg3)).trans hg3
      have hk4 := Sm.grown_below hk3 (k4.mono hk3.size)
      obtain ⟨A7, q7, hv7⟩ := Sm.own_shape hP4
      obtain ⟨n7, hn7⟩ : ∃ n, n = (Nt.drop M k).row.length := ⟨_, rfl⟩
      rw [← hn7] at hv7
      subst hv7
      clear hn7
      have hfresh : w.heap.size ≤ w3.heap.size := hk3.size
      have hBw := H.out.size
      have hold := H.out.old
      have hPB := Nt.own_more hP4 (B' := B) (by omega)
      have hLf : ∀ q, (Value.slice A7 n7 q7).ownBlock = some q → ¬ L q := fun q hq hl => by
        have h1 := (Nt.own_blk hP4 hq).1
        have h2 := hold q hl
        omega
      have hset := Sm.heap_set hg4 2 (.slice A7 n7 q7)
      have hkset := Sm.grown_set hk4 2 (.slice A7 n7 q7)
      have ST := Lib.hid (H.out.remade HM.out (hP8 := own_set2 hPB hg4 (.slice A7 n7 q7)) hLf (by
        rw [hset]
        have e0 := HE0.out
        have e1 := HE1.out
        have e2 := HN0.out
        simp only [if_true, show ¬ ((1 : Int) = 0) by decide, if_false, Nat.add_zero] at e0 e1
        have e3 : ((Nt.count (M.row.eraseIdx k) 1 : Nat) : Int) = (n0 : Int) - 1 := by omega
        simp only [Nt.cells, Nt.drop]
        rw [e3, e0]
        simp) hkset)
      have c7 := Sm.cells_of hg4 2 (.slice (some ⟨g, 0, none⟩) M.row.length c) rfl
      have f7 := Sm.free_of hg4 2
      clear hg3 hP3 hk3 hrow hP4 k4 hk4 hfresh hBw hold hPB hLf hset hkset hg4
      refine hK.out _ _ trivial (fun hHeld => ?_)
      clear hK K
      refine wpAnyH_take (i := 16) (oi := ⟨some 37, _, _, _, _, _⟩) (v := .pointer (some ⟨r, 0, none⟩)) rfl (by kernel_rfl) (by kernel_rfl) (by kernel_rfl) (fun _ _ _ h => h) (Or.inl ⟨by rfl, ?_⟩) (by assumption) ?_
      · intro w hSw; (try dsimp only at hSw); go_simp
      simp only [Act.put, List.setIfInBounds_toArray, List.set_cons_zero, List.set_cons_succ]
      refine wpAnyH_take (i := 17) (oi := ⟨some 38, _, _, _, _, _⟩) (v := .pointer (some ⟨r, 2, none⟩)) rfl (by kernel_rfl) (by kernel_rfl) (by kernel_rfl) (fun _ _ _ h => h) (Or.inl ⟨by rfl, ?_⟩) (by assumption) ?_
      · intro w hSw; (try dsimp only at hSw); go_simp
      simp only [Act.put, List.setIfInBounds_toArray, List.set_cons_zero, List.set_cons_succ]
      refine wpAnyH_ready (rs := [18]) (by kernel_rfl) (by simp) ?_
      refine (AllReadyH.cons (o := ⟨none, _, _, _, _, _⟩) rfl (fun K hK => ?_) AllReadyH.nil)
      go_simp
      refine hK.out _ _ trivial (fun hHeld => ?_)
      clear hK K
      refine wpAnyH_done (by kernel_rfl) ?_ _
      go_wp2
      go_end0
      exact ⟨rfl, ST.out⟩
    · go_simp
      refine hK.out _ _ trivial (fun hHeld => ?_)
      clear hK K
      refine wpAnyH_take (i := 13) (oi := ⟨some 34, _, _, _, _, _⟩) (v := .slice (some a2) (M.row.length - (k + 1)) (c - (k + 1))) rfl (by kernel_rfl) (by kernel_rfl) (by kernel_rfl) (fun _ _ _ h => h) (Or.inl ⟨by rfl, ?_⟩) (by assumption) ?_
      · intro w hSw; (try dsimp only at hSw); have hab := HAB.out; go_simp
      simp only [Act.put, List.setIfInBounds_toArray, List.set_cons_zero, List.set_cons_succ]
      refine wpAnyH_ready (rs := [4]) (by kernel_rfl) (by simp) ?_
      refine (AllReadyH.cons (o := ⟨some 25, _, _, _, _, _⟩) rfl (fun K hK => ?_) AllReadyH.nil)
      go_simp
      refine hK.out _ _ trivial (fun hHeld => ?_)
      clear hK K
      refine wpAnyH_take (i := 6) (oi := ⟨some 27, _, _, _, _, _⟩) (v := .slice (some ⟨g, 0, none⟩) k c) rfl (by kernel_rfl) (by kernel_rfl) (by kernel_rfl) (fun _ _ _ h => h) (Or.inl ⟨by rfl, ?_⟩) (by assumption) ?_
      · intro w hSw; (try dsimp only at hSw); go_simp
      simp only [Act.put, List.setIfInBounds_toArray, List.set_cons_zero, List.set_cons_succ]
      refine wpAnyH_ready (rs := [14]) (by kernel_rfl) (by simp) ?_
      refine (AllReadyH.cons (o := ⟨some 35, _, _, _, _, _⟩) rfl (fun K hK => ?_) AllReadyH.nil)
      go_simp
      refine hK.out _ _ trivial (fun hHeld => ?_)
      clear hK K
      have k3 : Below w2.heap.size w2 (w2.alloc (.cells #[.slice (some ⟨g, 0, none⟩) k c, .slice (some a2) (M.row.length - (k + 1)) (c - (k + 1))] 37)).drew := ((Below.refl _ w2).alloc (Nat.le_refl _) _).drew
      have hg3 := (k3.block r (Sm.lt_of hg2)).trans hg2
      have hP3 := hP2.low k3
      have hk3 := Sm.grown_below hk2 (k3.mono hk2.size)
      have hrow : (w2.alloc (.cells #[.slice (some ⟨g, 0, none⟩) k c, .slice (some a2) (M.row.length - (k + 1)) (c - (k + 1))] 37)).drew.heap[w2.heap.size]? = some (.cells #[.slice (some ⟨g, 0, none⟩) k c, .slice (some a2) (M.row.length - (k + 1)) (c - (k + 1))] 37 (0, 0)) := heap_alloc_new w2 _
      obtain ⟨N3, hN3⟩ : ∃ n, n = w2.heap.size := ⟨_, rfl⟩
      rw [← hN3] at hrow ⊢
      generalize (w2.alloc (.cells #[.slice (some ⟨g, 0, none⟩) k c, .slice (some a2) (M.row.length - (k + 1)) (c - (k + 1))] 37)).drew = w3 at *
      clear k3 hg2 hP2 hk2 hN3 y2
      refine wpAnyH_ready (rs := [15]) (by kernel_rfl) (by simp) ?_
      refine (AllReadyH.cons (o := ⟨some 36, _, _, _, _, _⟩) rfl (fun K hK => ?_) AllReadyH.nil)
      go_simp
      refine (concatPk_any w3 N3 ⟨g, 0, none⟩ a2 k c (M.row.length - (k + 1)) (c - (k + 1)) (M.row.take k) (M.row.drop (k + 1)) hrow (by rw [List.length_take]; omega) (by rw [List.length_drop]) (hP3.front k) (hP3.back2 k HA2.out) (by omega)).mono ?_
      rintro e w4 ⟨v4, rfl, hP4, k4⟩
      have hP4 : Nt.PksAt w4 w3.heap.size v4 (Nt.drop M k).row := by
        show Nt.PksAt _ _ _ (M.row.eraseIdx k)
        rw [List.eraseIdx_eq_take_drop_succ]; exact hP4
      have hg4 := (k4.block r (Sm.lt_of hg3)).trans hg3
      have hk4 := Sm.grown_below hk3 (k4.mono hk3.size)
      obtain ⟨A7, q7, hv7⟩ := Sm.own_shape hP4
      obtain ⟨n7, hn7⟩ : ∃ n, n = (Nt.drop M k).row.length := ⟨_, rfl⟩
      rw [← hn7] at hv7
      subst hv7
      clear hn7
      have hfresh : w.heap.size ≤ w3.heap.size := hk3.size
      have hBw := H.out.size
      have hold := H.out.old
      have hPB := Nt.own_more hP4 (B' := B) (by omega)
      have hLf : ∀ q, (Value.slice A7 n7 q7).ownBlock = some q → ¬ L q := fun q hq hl => by
        have h1 := (Nt.own_blk hP4 hq).1
        have h2 := hold q hl
        omega
      have hset := Sm.heap_set hg4 2 (.slice A7 n7 q7)
      have hkset := Sm.grown_set hk4 2 (.slice A7 n7 q7)
      have ST := Lib.hid (H.out.remade HM.out (hP8 := own_set2 hPB hg4 (.slice A7 n7 q7)) hLf (by
        rw [hset]
        have e0 := HE0.out
        have e1 := HE1.out
        have e2 := HN0.out
        simp only [if_true, show ¬ ((1 : Int) = 0) by decide, if_false, Nat.add_zero] at e0 e1
        have e3 : ((Nt.count (M.row.eraseIdx k) 1 : Nat) : Int) = (n0 : Int) - 1 := by omega
        simp only [Nt.cells, Nt.drop]
        rw [e3, e0]
        simp) hkset)
      have c7 := Sm.cells_of hg4 2 (.slice (some ⟨g, 0, none⟩) M.row.length c) rfl
      have f7 := Sm.free_of hg4 2
      clear hg3 hP3 hk3 hrow hP4 k4 hk4 hfresh hBw hold hPB hLf hset hkset hg4
      refine hK.out _ _ trivial (fun hHeld => ?_)
      clear hK K
      refine wpAnyH_take (i := 16) (oi := ⟨some 37, _, _, _, _, _⟩) (v := .pointer (some ⟨r, 0, none⟩)) rfl (by kernel_rfl) (by kernel_rfl) (by kernel_rfl) (fun _ _ _ h => h) (Or.inl ⟨by rfl, ?_⟩) (by assumption) ?_
      · intro w hSw; (try dsimp only at hSw); go_simp
      simp only [Act.put, List.setIfInBounds_toArray, List.set_cons_zero, List.set_cons_succ]
      refine wpAnyH_take (i := 17) (oi := ⟨some 38, _, _, _, _, _⟩) (v := .pointer (some ⟨r, 2, none⟩)) rfl (by kernel_rfl) (by kernel_rfl) (by kernel_rfl) (fun _ _ _ h => h) (Or.inl ⟨by rfl, ?_⟩) (by assumption) ?_
      · intro w hSw; (try dsimp only at hSw); go_simp
      simp only [Act.put, List.setIfInBounds_toArray, List.set_cons_zero, List.set_cons_succ]
      refine wpAnyH_ready (rs := [18]) (by kernel_rfl) (by simp) ?_
      refine (AllReadyH.cons (o := ⟨none, _, _, _, _, _⟩) rfl (fun K hK => ?_) AllReadyH.nil)
      go_simp
      refine hK.out _ _ trivial (fun hHeld => ?_)
      clear hK K
      refine wpAnyH_done (by kernel_rfl) ?_ _
      go_wp2
      go_end0
      exact ⟨rfl, ST.out⟩
end Go.Proofs.Ytimbcmcmidnlfaa
