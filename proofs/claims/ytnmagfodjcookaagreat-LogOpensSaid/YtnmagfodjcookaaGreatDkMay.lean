/-
  A map of texts by sectors, of the call's own, beside disks; what waits for a sector is among its texts.
-/
import Derived.Test.YtnmagfodjcookaaGreatDkFuseLaw
import Derived.Test.YtnmagfodjcookaaGreatOwn
import Derived.ArgAppend
import Derived.Deep.DeepAppendRoom
namespace Go.Proofs.YtnmagfodjcookaaGreat
open Go.RowKit
namespace Dk
theorem own_block {w w' : World} {B e size : Nat} {v : Value} {n : Nat} {xs : List Value} (h : w.ownsRow B e size v n xs) (k : ∀ g, v.ownBlock = some g → w'.heap[g]? = w.heap[g]?) : w'.ownsRow B e size v n xs := by
  refine ⟨h.1, ?_⟩
  rcases h.2 with h2 | ⟨g, cap, cur, rfl, h3, h4, h5⟩
  · exact .inl h2
  · exact .inr ⟨g, cap, cur, rfl, h3, (k g rfl).trans h4, h5⟩
theorem own_blk {w : World} {B e size : Nat} {v : Value} {n : Nat} {xs : List Value} (h : w.ownsRow B e size v n xs) {g : Nat} (hg : v.ownBlock = some g) : B ≤ g ∧ g < w.heap.size ∧ ∃ cs f, w.heap[g]? = some (.cells cs e f) := by
  rcases h.2 with ⟨rfl, _⟩ | ⟨g', cap, cur, rfl, h3, h4, h5⟩
  · cases hg
  · obtain rfl : g' = g := by simpa [Value.ownBlock] using hg
    exact ⟨h3, Sm.lt_of h4, cur, _, h4⟩
/-- What was written to a sector since it was synced, by sectors, in a map of the call's own. -/
structure May (w : World) (B mp N : Nat) (F : Nat → Option Value) (H : Nat → List ByteArray) : Prop where
  map : MapAt Tryz.prog 3 w mp N F
  low : B ≤ mp
  idle : ∀ i, i < N → H i = [] → F i = none
  row : ∀ i, i < N → H i ≠ [] → ∃ A c, F i = some (.slice A (H i).length c) ∧ w.ownsRow B 9 1 (.slice A (H i).length c) (H i).length ((H i).map .string)
  apart : ∀ i j v u g, i < N → j < N → F i = some v → F j = some u → v.ownBlock = some g → u.ownBlock = some g → i = j
/-- Its blocks. -/
def mine (mp N : Nat) (F : Nat → Option Value) (k : Nat) : Prop := k = mp ∨ ∃ i v, i < N ∧ F i = some v ∧ v.ownBlock = some k
section
variable {w w' : World} {B mp N : Nat} {F : Nat → Option Value} {H : Nat → List ByteArray}
theorem May.got (h : May w B mp N F H) {i : Nat} (hi : i < N) {v : Value} (hv : F i = some v) : H i ≠ [] ∧ w.ownsRow B 9 1 v (H i).length ((H i).map .string) := by
  have hne : H i ≠ [] := fun e => by rw [h.idle i hi e] at hv; cases hv
  obtain ⟨A, c, e, ho⟩ := h.row i hi hne
  rw [hv] at e
  obtain rfl := Option.some.inj e
  exact ⟨hne, ho⟩
theorem May.lt (h : May w B mp N F H) : ∀ k, mine mp N F k → k < w.heap.size := by
  rintro k (rfl | ⟨i, v, hi, hv, hg⟩)
  · exact h.map.lt
  · exact (own_blk (h.got hi hv).2 hg).2.1
theorem May.high (h : May w B mp N F H) : ∀ k, mine mp N F k → B ≤ k := by
  rintro k (rfl | ⟨i, v, hi, hv, hg⟩)
  · exact h.low
  · exact (own_blk (h.got hi hv).2 hg).1
theorem May.keep (h : May w B mp N F H) (k : ∀ b, mine mp N F b → w'.heap[b]? = w.heap[b]?) : May w' B mp N F H :=
  ⟨h.map.block (k mp (.inl rfl)), h.low, h.idle, fun i hi hne => by
    obtain ⟨A, c, e, ho⟩ := h.row i hi hne
    exact ⟨A, c, e, own_block ho fun g hg => k g (.inr ⟨i, _, hi, e, hg⟩)⟩, h.apart⟩
theorem May.below (h : May w B mp N F H) (k : Below w.heap.size w w') : May w' B mp N F H := h.keep fun b hb => k.block b (h.lt b hb)
theorem May.made (w : World) (hB : B ≤ w.heap.size) : May (w.alloc (.map #[] 0)) B w.heap.size N (fun _ => none) (fun _ => []) :=
  ⟨MapAt.made w, hB, fun _ _ _ => rfl, fun _ _ h => absurd rfl h, fun _ _ _ _ _ _ _ h => by cases h⟩
/-- An act upon a disk beside it. -/
theorem May.step (h : May w B mp N F H) {B2 : Nat} {w0 : World} {r : Nat} {fp fp' : Nat → Prop} {M' : Md} (s : Step B2 w0 w w' r fp fp' M') (hap : ∀ k, fp k → ¬ mine mp N F k) : May w' B mp N F H ∧ ∀ k, fp' k → ¬ mine mp N F k :=
  ⟨h.keep fun b hb => s.turned.block b (h.lt b hb) (fun e => hap b e hb), fun k hk hm => by
    rcases s.grown k hk with e | e
    · exact hap k e hm
    · have := h.lt k hm; omega⟩
/-- A text more. -/
theorem May.put (h : May w B mp N F H) {i : Nat} (hi : i < N) {s : ByteArray} {A : Option Addr} {c : Nat}
    (hmap : MapAt Tryz.prog 3 w' mp N (fun j => if j = i then some (.slice A (H i ++ [s]).length c) else F j))
    (hrow : w'.ownsRow B 9 1 (.slice A (H i ++ [s]).length c) (H i ++ [s]).length ((H i ++ [s]).map .string))
    (hnew : ∀ g, (Value.slice A (H i ++ [s]).length c).ownBlock = some g → (∃ v, F i = some v ∧ v.ownBlock = some g) ∨ w.heap.size ≤ g)
    (hk : ∀ k, mine mp N F k → k ≠ mp → (Value.slice A (H i ++ [s]).length c).ownBlock ≠ some k → w'.heap[k]? = w.heap[k]?) :
    May w' B mp N (fun j => if j = i then some (.slice A (H i ++ [s]).length c) else F j) (fun j => if j = i then H i ++ [s] else H j) := by
  have hone : ∀ j u g, j < N → j ≠ i → F j = some u → u.ownBlock = some g → (Value.slice A (H i ++ [s]).length c).ownBlock ≠ some g := fun j u g hj hji hu hg e => by
    rcases hnew g e with ⟨v, hv, hvg⟩ | hn
    · exact hji (h.apart j i u v g hj hi hu hv hg hvg)
    · have := h.lt g (.inr ⟨j, u, hj, hu, hg⟩); omega
  refine ⟨hmap, h.low, fun j hj he => ?_, fun j hj he => ?_, fun a b v u g ha hb hv hu hg1 hg2 => ?_⟩
  · by_cases e : j = i
    · subst e; simp at he
    · simp only [if_neg e] at he ⊢; exact h.idle j hj he
  · by_cases e : j = i
    · subst e; simp only [if_pos]; exact ⟨A, c, rfl, hrow⟩
    · simp only [if_neg e] at he ⊢
      obtain ⟨A', c', e1, ho⟩ := h.row j hj he
      refine ⟨A', c', e1, own_block ho fun g hg => hk g (.inr ⟨j, _, hj, e1, hg⟩) (fun em => ?_) (hone j _ g hj e e1 hg)⟩
      obtain ⟨_, _, cs, f, hc⟩ := own_blk ho hg
      obtain ⟨es, q, hm⟩ := h.map.kind
      rw [em, hm] at hc; cases hc
  · by_cases ea : a = i
    · by_cases eb : b = i
      · rw [ea, eb]
      · simp only [if_pos ea] at hv
        simp only [if_neg eb] at hu
        rw [← Option.some.inj hv] at hg1
        exact absurd hg1 (hone b u g hb eb hu hg2)
    · by_cases eb : b = i
      · simp only [if_neg ea] at hv
        simp only [if_pos eb] at hu
        rw [← Option.some.inj hu] at hg2
        exact absurd hg2 (hone a v g ha ea hv hg1)
      · simp only [if_neg ea] at hv
        simp only [if_neg eb] at hu
        exact h.apart a b v u g ha hb hv hu hg1 hg2
end
/-- What waits for a sector is among its texts. -/
def Among (M : Md) (H : Nat → List ByteArray) : Prop := ∀ i s, s ∈ M.W i → ∃ t ∈ H i, t.data.toList = s
theorem Among.new (n : Nat) : Among (new n) (fun _ => []) := fun i s h => by cases h
theorem among_kept {M : Md} {H : Nat → List ByteArray} (h : Among M H) (keep : List Int) {i : Nat} : kept M keep i = last M i ∨ ∃ t ∈ H i, t.data.toList = kept M keep i := by
  rcases kept_mem M keep i with e | e
  · exact .inl e
  · exact .inr (h i _ e)
theorem info3_str : (Tryz.prog.info? 9).map (fun i => (i.zero, i.size, i.bytes)) = some (some (.string ⟨#[]⟩), 1, 16) := by kernel_rfl
theorem zeroStrs (w : World) : (zeroValue 30).run Tryz.prog w = .ok (.slice none 0 0) w := by kernel_rfl
theorem own_more {w : World} {B C : Nat} {v : Value} {n : Nat} {xs : List Value} {e size : Nat} (h : w.ownsRow C e size v n xs) (hBC : B ≤ C) : w.ownsRow B e size v n xs := by
  refine ⟨h.1, ?_⟩
  rcases h.2 with h2 | ⟨g, cap, cur, rfl, h3, h4⟩
  · exact .inl h2
  · exact .inr ⟨g, cap, cur, rfl, Nat.le_trans hBC h3, h4⟩
theorem run_append_text {w : World} {B : Nat} {v : Value} {l : List ByteArray} (h : w.ownsRow B 9 1 v l.length (l.map .string)) {s : ByteArray} {N : Nat} (hN : w.cell? ⟨N, 0, none⟩ = some (.string s)) (hroom : l.length ≤ 1099511627776) (hB : B ≤ w.heap.size) (ty : TypeId) :
    ∃ A c w', (Builtin.append_ #[30, 30] ty #[v, .slice (some ⟨N, 0, none⟩) 1 1]).run Tryz.prog w = .ok (.slice A (l ++ [s]).length c) w' ∧ w'.ownsRow B 9 1 (.slice A (l ++ [s]).length c) (l ++ [s]).length ((l ++ [s]).map .string) ∧
      (((∀ g, (Value.slice A (l ++ [s]).length c).ownBlock = some g → v.ownBlock = some g) ∧ w.grownBy w' v.ownBlock) ∨ ((∀ g, (Value.slice A (l ++ [s]).length c).ownBlock = some g → w.heap.size ≤ g) ∧ w.grownBy w' none)) := by
  obtain ⟨i0, hie, hiz, his, hib⟩ := info_parts info3_str
  have hnews : ∀ j u, [Value.string s][j]? = some u → w.cell? ((⟨N, 0, none⟩ : Addr).add j) = some u := by
    intro j u hj
    match j, hj with
    | 0, hj => simp at hj; subst hj; rw [Addr.add_mid]; exact hN
  have hone : ∀ u ∈ [Value.string s], u.oneCell' = true := by intro u hu; simp at hu; subst hu; rfl
  have hl1 : (l ++ [s]).length = l.length + 1 := by simp
  have hm1 : (l ++ [s]).map Value.string = l.map Value.string ++ [.string s] := by simp
  rw [hl1, hm1]
  rcases h.2 with ⟨rfl, h0⟩ | ⟨g, cap, cur, rfl, h3, h4, h5, h6, h7, h8⟩
  · have hl0 : l = [] := List.length_eq_zero_iff.1 h0
    subst hl0
    obtain ⟨v', w', hrun, ho, hg, _⟩ := run_append_own (P := Tryz.prog) w w.heap.size 30 ty 9 i0 _ 1 16 Tryz.underlying30 hie hiz his hib rfl (by decide) (.slice none 0 0) 0 [] (World.ownsRow_nil _ _ _ _) ⟨N, 0, none⟩ 1 1 [.string s] rfl hnews hone (by unfold maxLen; omega) (by omega) (Nat.le_refl _)
    obtain ⟨A, c, rfl⟩ := Sm.own_shape ho
    exact ⟨A, c, w', hrun, own_more ho hB, .inr ⟨fun g hg => (own_blk ho hg).1, hg⟩⟩
  · by_cases hr : l.length + 1 ≤ cap
    · obtain ⟨w', hrun, ho, hg⟩ := run_append_own_spare (P := Tryz.prog) w B 30 ty 9 i0 1 Tryz.underlying30 hie his g l.length cap _ h ⟨N, 0, none⟩ 1 1 [.string s] rfl hnews hone hr
      exact ⟨_, cap, w', hrun, ho, .inl ⟨fun _ h => h, hg⟩⟩
    · obtain ⟨v', w', hrun, ho, hg⟩ := run_append_arg_grows (P := Tryz.prog) w 30 ty 9 i0 _ 1 16 Tryz.underlying30 hie hiz his hib rfl (by decide) ⟨g, 0, none⟩ l.length cap (l.map .string) (by simp)
        (fun j u hj => by
          rw [Addr.add_mid, Nat.zero_add]
          rw [← h8, List.getElem?_take] at hj
          split at hj
          · simp only [World.cell?, h4]; simpa using hj
          · cases hj)
        ⟨N, 0, none⟩ 1 1 [.string s] rfl hnews (by omega) (by unfold maxLen; omega) (by omega)
      obtain ⟨A, c, rfl⟩ := Sm.own_shape ho
      exact ⟨A, c, w', hrun, own_more ho hB, .inr ⟨fun g hg => (own_blk ho hg).1, hg⟩⟩
theorem wp_append_text {o : Oper} {a : Act} {w : World} {K : Act → World → Prop} {Q : Exit → Act → World → Prop} (s x : Operand) (ho : o.op = .call { callee := .builtin .append, args := #[s, x], argTypes := #[30, 30] })
    {B : Nat} {v : Value} {l : List ByteArray} (hs : a.eval s = v) (h : w.ownsRow B 9 1 v l.length (l.map .string)) {b : ByteArray} {N : Nat} (hx : a.eval x = .slice (some ⟨N, 0, none⟩) 1 1) (hN : w.cell? ⟨N, 0, none⟩ = some (.string b)) (hroom : l.length ≤ 1099511627776) (hB : B ≤ w.heap.size)
    (hK : ∀ A c w', w'.ownsRow B 9 1 (.slice A (l ++ [b]).length c) (l ++ [b]).length ((l ++ [b]).map .string) →
      (((∀ g, (Value.slice A (l ++ [b]).length c).ownBlock = some g → v.ownBlock = some g) ∧ w.grownBy w' v.ownBlock) ∨ ((∀ g, (Value.slice A (l ++ [b]).length c).ownBlock = some g → w.heap.size ≤ g) ∧ w.grownBy w' none)) →
      K (a.put o.dst (.slice A (l ++ [b]).length c)) w') : o.wp Tryz.prog a w K Q := by
  obtain ⟨A, c, w', hr, h1, h2⟩ := run_append_text h hN hroom hB o.type
  unfold Oper.wp execOp
  simp only [ho, resolve, invoke, builtin, Sem.run_bind, Sem.run_pure, Result.andThen_ok, List.map_toArray, List.map_cons, List.map_nil, hs, hx, hr]
  exact hK A c w' h1 h2
theorem May.own0 {w : World} {B mp N : Nat} {F : Nat → Option Value} {H : Nat → List ByteArray} (h : May w B mp N F H) {i : Nat} (hi : i < N) : w.ownsRow B 9 1 ((F i).getD (.slice none 0 0)) (H i).length ((H i).map .string) := by
  by_cases e : H i = []
  · rw [h.idle i hi e, e]; exact World.ownsRow_nil _ _ _ _
  · obtain ⟨A, c, e1, ho⟩ := h.row i hi e
    rw [e1]; exact ho
/-- append, and the map's store. -/
theorem May.push {w w1 w2 : World} {B mp N : Nat} {F : Nat → Option Value} {H : Nat → List ByteArray} (h : May w B mp N F H) {i : Nat} (hi : i < N) {s : ByteArray} {A : Option Addr} {c : Nat}
    (hrow : w1.ownsRow B 9 1 (.slice A (H i ++ [s]).length c) (H i ++ [s]).length ((H i ++ [s]).map .string))
    (hor : ((∀ g, (Value.slice A (H i ++ [s]).length c).ownBlock = some g → ((F i).getD (.slice none 0 0)).ownBlock = some g) ∧ w.grownBy w1 ((F i).getD (.slice none 0 0)).ownBlock) ∨ ((∀ g, (Value.slice A (H i ++ [s]).length c).ownBlock = some g → w.heap.size ≤ g) ∧ w.grownBy w1 none))
    (hmap : MapAt Tryz.prog 3 w2 mp N (fun j => if j = i then some (.slice A (H i ++ [s]).length c) else F j)) (ht : w1.mapTurned w2 mp) :
    May w2 B mp N (fun j => if j = i then some (.slice A (H i ++ [s]).length c) else F j) (fun j => if j = i then H i ++ [s] else H j) := by
  have hgot : ∀ g, ((F i).getD (.slice none 0 0)).ownBlock = some g → ∃ v, F i = some v ∧ v.ownBlock = some g := fun g hg => by
    cases e : F i with
    | none => rw [e] at hg; cases hg
    | some v => rw [e] at hg; exact ⟨v, rfl, hg⟩
  have hne : ∀ g, (Value.slice A (H i ++ [s]).length c).ownBlock = some g → g ≠ mp := fun g hg e => by
    subst e
    rcases hor with ⟨h1, _⟩ | ⟨h1, _⟩
    · obtain ⟨v, hv, hvg⟩ := hgot g (h1 g hg)
      obtain ⟨_, _, cs, f, hc⟩ := own_blk (h.got hi hv).2 hvg
      obtain ⟨es, q, hm⟩ := h.map.kind
      rw [hm] at hc; cases hc
    · have := h1 g hg; have := h.map.lt; omega
  refine h.put hi hmap (own_block hrow fun g hg => ht.grown.block g (own_blk hrow hg).2.1 (fun e => hne g hg (Option.some.inj e))) ?_ ?_
  · intro g hg
    rcases hor with ⟨h1, _⟩ | ⟨h1, _⟩
    · exact .inl (hgot g (h1 g hg))
    · exact .inr (h1 g hg)
  · intro k hk hkm hkn
    have hkl := h.lt k hk
    obtain ⟨g0, hg0⟩ : ∃ g0, (Value.slice A (H i ++ [s]).length c).ownBlock = some g0 := by
      rcases hrow.2 with ⟨_, h2⟩ | ⟨g0, cap, cur, e, _⟩
      · simp at h2
      · rw [e]; exact ⟨g0, rfl⟩
    have hgrow : w1.heap[k]? = w.heap[k]? ∧ w.heap.size ≤ w1.heap.size := by
      rcases hor with ⟨h1, h2⟩ | ⟨_, h2⟩
      · exact ⟨h2.block k hkl (fun e => hkn (by rw [hg0]; rw [h1 g0 hg0] at e; exact e.symm)), h2.size⟩
      · exact ⟨h2.block k hkl (fun e => by cases e), h2.size⟩
    exact (ht.grown.block k (Nat.lt_of_lt_of_le hkl hgrow.2) (fun e => hkm (Option.some.inj e))).trans hgrow.1
theorem Own.other {B : Nat} {w0 w w' : World} {r : Nat} {fp q : Nat → Prop} {M : Md} (h : Own B w0 w r fp M) (hT : Turned q w w') (hq : ∀ k, fp k → ¬ q k) (hB : ∀ k, q k → B ≤ k) : Own B w0 w' r fp M :=
  ⟨h.disk.keep hT hq, h.high, h.base, h.below.trans (hT.below hB h.size)⟩
theorem May.after {w w1 : World} {B mp N : Nat} {F : Nat → Option Value} {H : Nat → List ByteArray} (h : May w B mp N F H) {i : Nat} (hi : i < N) {s : ByteArray} {A : Option Addr} {c : Nat}
    (hrow : w1.ownsRow B 9 1 (.slice A (H i ++ [s]).length c) (H i ++ [s]).length ((H i ++ [s]).map .string))
    (hor : ((∀ g, (Value.slice A (H i ++ [s]).length c).ownBlock = some g → ((F i).getD (.slice none 0 0)).ownBlock = some g) ∧ w.grownBy w1 ((F i).getD (.slice none 0 0)).ownBlock) ∨ ((∀ g, (Value.slice A (H i ++ [s]).length c).ownBlock = some g → w.heap.size ≤ g) ∧ w.grownBy w1 none)) :
    ∃ g0, (Value.slice A (H i ++ [s]).length c).ownBlock = some g0 ∧ g0 ≠ mp ∧ B ≤ g0 ∧ w.grownBy w1 (some g0) ∧ (mine mp N F g0 ∨ w.heap.size ≤ g0) := by
  obtain ⟨g0, hg0⟩ : ∃ g0, (Value.slice A (H i ++ [s]).length c).ownBlock = some g0 := by
    rcases hrow.2 with ⟨_, h2⟩ | ⟨g0, cap, cur, e, _⟩
    · simp at h2
    · rw [e]; exact ⟨g0, rfl⟩
  refine ⟨g0, hg0, ?_, (own_blk hrow hg0).1, ?_⟩
  · rintro rfl
    rcases hor with ⟨h1, _⟩ | ⟨h1, _⟩
    · have hg := h1 g0 hg0
      cases e : F i with
      | none => rw [e] at hg; cases hg
      | some v =>
        rw [e] at hg
        obtain ⟨_, _, cs, f, hc⟩ := own_blk (h.got hi e).2 hg
        obtain ⟨es, q, hm⟩ := h.map.kind
        rw [hm] at hc; cases hc
    · have := h1 g0 hg0; have := h.map.lt; omega
  · rcases hor with ⟨h1, h2⟩ | ⟨h1, h2⟩
    · have hg := h1 g0 hg0
      rw [hg] at h2
      refine ⟨h2, .inl (.inr ?_)⟩
      cases e : F i with
      | none => rw [e] at hg; cases hg
      | some v => rw [e] at hg; exact ⟨i, v, hi, e, hg⟩
    · exact ⟨h2.but _, .inr (h1 g0 hg0)⟩
end Dk
end Go.Proofs.YtnmagfodjcookaaGreat
