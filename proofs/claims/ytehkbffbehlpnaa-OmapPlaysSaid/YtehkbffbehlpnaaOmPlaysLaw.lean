/-
  OmapPlays: whatever is done to a map: each answer, and what there is, are the document's.
-/
import Derived.Test.YtehkbffbehlpnaaOmPlay
import Derived.Test.YtehkbffbehlpnaaR13List
namespace Go.Proofs.Ytehkbffbehlpnaa
open Go.RowKit Go.Maps
namespace Om
theorem ofL_none : ∀ {l m : List Pr}, (ofL m l).2 ≠ 0 → (ofL m l).1 = []
  | [], m, h => absurd rfl h
  | x :: r, m, h => by
    by_cases hf : Fair x
    · cases hg : (get x.p m).isSome with
      | true => rw [ofL_there hf hg]
      | false =>
        rw [ofL_more hf hg] at h ⊢
        exact ofL_none h
    · rw [ofL_bad hf]
theorem ofE_none {l : List Pr} (h : (ofE l).2 ≠ 0) : (ofE l).1 = [] := by
  unfold ofE at h ⊢
  split at h
  · rename_i hn; rw [if_pos hn]
  · rename_i hn; rw [if_neg hn]; exact ofL_none h
/-- A row of pairs lies in no block whose one cell is no text. -/
theorem Ref.notIn {W : World} {B : Option Addr} {k : Nat} {m : List Pr} (h : Ref W B k m) {q : Nat} {v : Value} {t : TypeId} {f : Nat × Nat} (hq : W.heap[q]? = some (.cells #[v] t f)) (hv : ∀ s, v ≠ .string s) : ∀ b off, B = some ⟨b, off, none⟩ → m ≠ [] → b ≠ q := by
  intro b off e h0 hb
  subst hb
  obtain ⟨b', o', e', _, q0, _⟩ := h.1.get (Below.refl _ W) 0 (List.length_pos_iff.2 h0)
  rw [e] at e'
  simp only [Option.some.injEq, Addr.mk.injEq] at e'
  obtain ⟨rfl, rfl, _⟩ := e'
  simp only [World.cell?, hq] at q0
  rw [Nat.zero_mul, Nat.add_zero] at q0
  match off with
  | 0 => simp at q0; exact hv _ q0
  | o + 1 => simp at q0
theorem Ref.kept {W W' : World} {B : Option Addr} {k : Nat} {m : List Pr} (h : Ref W B k m) {q : Nat} (hq : ∀ b off, B = some ⟨b, off, none⟩ → m ≠ [] → b ≠ q) (g : W.grownBy W' (some q)) : Ref W' B k m := by
  refine ⟨?_, h.2⟩
  rcases h.1 with e | ⟨b, o, e1, e2, e3⟩
  · exact .inl e
  · by_cases h0 : m = []
    · exact .inl h0
    · have hb := hq b o e1 h0
      refine .inr ⟨b, o, e1, Nat.lt_of_lt_of_le e2 g.size, fun j hj => ?_⟩
      have hkeep : W'.heap[b]? = W.heap[b]? := g.block b e2 (fun e => hb (Option.some.inj e))
      have ec : ∀ i, W'.cell? ⟨b, i, none⟩ = W.cell? ⟨b, i, none⟩ := fun i => World.cell?_of_block (w := W) (a := ⟨b, i, none⟩) hkeep
      have := e3 j hj
      unfold prAt at this ⊢
      rw [ec, ec]
      exact this
/-- A map of a at r, and the document's, of l, in the variable K. -/
structure Pair2 (w W : World) (N r K : Nat) (B : Option Addr) (k : Nat) (a l : List Pr) : Prop where
  m : Lies W r a
  v : W.heap[K]? = some (.cells #[.slice B l.length k] 32 (0, 0))
  ref : Ref W B k l
  bel : Below N w W
  nr : N ≤ r
  nk : N ≤ K
section
variable {w W W' : World} {N r K : Nat} {B B' : Option Addr} {k k' : Nat} {a a' l l' : List Pr}
theorem Pair2.low (h : Pair2 w W N r K B k a l) : N ≤ W.heap.size := Nat.le_trans h.nr (Nat.le_of_lt h.m.lt)
theorem Pair2.step (h : Pair2 w W N r K B k a l) (g : Below W.heap.size W W') : Pair2 w W' N r K B k a l :=
  ⟨h.m.below g, (g.block K (Sm.lt_of h.v)).trans h.v, h.ref.below g, h.bel.trans (g.mono h.low), h.nr, h.nk⟩
theorem Pair2.load (h : Pair2 w W N r K B k a l) : W.cell? ⟨K, 0, none⟩ = some (.slice B l.length k) := Sm.cells_of h.v 0 _ rfl
theorem Pair2.apart (h : Pair2 w W N r K B k a l) : K ≠ r := fun e => by
  subst e
  obtain ⟨cs, hc⟩ := h.m.cells
  rw [h.v] at hc
  simp only [Option.some.injEq, Obj.cells.injEq] at hc
  exact absurd hc.2.1 (by decide)
theorem Lies.one (h : Lies W r a) : ∃ mb, W.heap[r]? = some (.cells #[.map mb] 74 (0, 0)) := by obtain ⟨⟨mb, h⟩, _⟩ := h; exact ⟨mb, h.cell⟩
/-- Something was done to the map. -/
theorem Pair2.done (h : Pair2 w W N r K B k a l) (g : W.grownBy W' (some r)) (hl : Lies W' r a') : Pair2 w W' N r K B k a' l := by
  obtain ⟨mb, hc⟩ := h.m.one
  exact ⟨hl, (g.block K (Sm.lt_of h.v) (fun e => h.apart (Option.some.inj e))).trans h.v, h.ref.kept (h.ref.notIn hc (fun s => by simp)) g, h.bel.grown g h.low (fun q hq => by cases hq; exact h.nr), h.nr, h.nk⟩
/-- The variable is given another one. -/
theorem Pair2.put (h : Pair2 w W N r K B k a l) (hr : Ref W B' k' l') : Pair2 w (W.setCell ⟨K, 0, none⟩ (.slice B' l'.length k')) N r K B' k' a l' := by
  have hne := h.apart
  have hg : W.grownBy (W.setCell ⟨K, 0, none⟩ (.slice B' l'.length k')) (some K) := Sm.grown_set (Sm.grown_refl W (some K)) 0 _
  refine ⟨?_, Sm.heap_set h.v 0 _, hr.set (hr.notIn h.v (fun s => by simp)) _, h.bel.setCell (p := ⟨K, 0, none⟩) h.nk _, h.nr, h.nk⟩
  refine h.m.own hg fun b hb => ?_
  cases hb
  exact ⟨_, _, _, h.v, by decide⟩
end
end Om
set_option maxRecDepth 100000 in
set_option maxHeartbeats 8000000 in
theorem omapPlays_any {w : World} {A : Option Addr} (c : Nat) {l0 : List Om.Pr} (hl0 : l0.length ≤ 9223372036854775807) (hit : Om.listAt w A l0)
    {C : Option Addr} (d : Nat) {L : List Om.Rw} (hrows : Om.rowsAt w C L) (hL : L.length ≤ 9223372036854775807) (hok : ∀ x ∈ L, Om.Rw.Ok x) (p : ByteArray) :
    Calls Try.prog 3 #[.slice A l0.length c, .slice C L.length d, .string p] w fun e w' => e = .returned (.bool true) ∧ Below w.heap.size w w' := by
  obtain ⟨g, hg⟩ := Om.fairL_or l0
  obtain ⟨g2, hg2⟩ := Om.fairR_or L
  have GR := Lib.hid (greatPairs_any (c := c) hit g hg)
  have GO := Lib.hid (great13_any (c := d) hrows g2 hg2)
  have AW := Lib.hid (fun wx => awake13_any wx)
  cases g with
  | true =>
    clear hit hg hrows hg2
    go_enter Try.func3, Try.ntmps3
    go_wp2_with first | (go_at_call 11; refine GR.out.mono ?_; rintro e w' ⟨rfl, rfl⟩) | (go_at_call 13; refine (AW.out _).mono ?_; rintro e w1 ⟨rfl, k1⟩)
    go_ret
    exact ⟨rfl, k1⟩
  | false =>
    cases g2 with
    | true =>
      clear hit hg hrows hg2
      go_enter Try.func3, Try.ntmps3
      go_wp2_with first | (go_at_call 11; refine GR.out.mono ?_; rintro e w' ⟨rfl, rfl⟩) | (go_at_call 12; refine GO.out.mono ?_; rintro e w' ⟨rfl, rfl⟩) | (go_at_call 13; refine (AW.out _).mono ?_; rintro e w1 ⟨rfl, k1⟩)
      go_ret
      exact ⟨rfl, k1⟩
    | false =>
      by_cases hp : 1000 < p.size
      · have hpi : (1000 : Int) < (p.size : Int) := by omega
        clear hit hg hrows hg2 hp
        go_enter Try.func3, Try.ntmps3
        go_wp2_with first | (go_at_call 11; refine GR.out.mono ?_; rintro e w' ⟨rfl, rfl⟩) | (go_at_call 12; refine GO.out.mono ?_; rintro e w' ⟨rfl, rfl⟩) | (go_at_call 13; refine (AW.out _).mono ?_; rintro e w1 ⟨rfl, k1⟩)
        go_ret
        exact ⟨rfl, k1⟩
      have hpi : ¬ (1000 : Int) < (p.size : Int) := by omega
      have HP : Hid (p.size ≤ 1000) := by show p.size ≤ 1000; omega
      have hf : Om.FairL l0 := by
        by_cases h : Om.FairL l0
        · exact h
        · have := hg.2 h; cases this
      have hfr : Om.FairR L := by
        by_cases h : Om.FairR L
        · exact h
        · have := hg2.2 h; cases this
      have HL200 := hfr.1
      obtain ⟨N, hN⟩ : ∃ N, N = w.heap.size := ⟨_, rfl⟩
      have HN := Lib.hid hN
      have OF := Lib.hid (omOf_lies c hit hl0 (fun x hx => by have := (hf.mem x hx).1; omega))
      have RO : Hid (∀ wx : World, Below N w wx → Calls Try.prog 15 #[.slice A l0.length c] wx fun e w' => Om.OfRef wx w' e (Om.ofE l0)) := fun wx k => r13Of_any c (hit.below (by rw [← hN]; exact k)) hl0 (fun x hx => by have := (hf.mem x hx).1; omega)
      have RD : Hid (∀ (wx : World) (j : Nat) (hj : j < L.length), Below N w wx → ∃ b off, C = some ⟨b, off, none⟩ ∧ wx.cell? ⟨b, off + j, none⟩ = some (.slice L[j].A L[j].l.length L[j].c) ∧ Ba.listAt wx L[j].A L[j].l ∧ ∀ (r : Nat) (l : List Om.Pr), Om.Lies wx r l →
          Calls Try.prog 17 #[.pointer (some ⟨r, 0, none⟩), .slice L[j].A L[j].l.length L[j].c] wx fun e w' => e = .returned (.int .i64 ((Om.doE l L[j].l).2 : Nat)) ∧ Om.Lies w' r (Om.doE l L[j].l).1 ∧ wx.grownBy w' (some r)) := by
        intro wx j hj hb
        obtain ⟨b, off, h1, h2, h4, _, h3⟩ := Om.rowDo hrows hok hfr hj (by rw [← hN]; exact hb)
        exact ⟨b, off, h1, h2, h4, fun r l h => h3 wx r l (Below.refl _ _) h⟩
      have R13D : Hid (∀ (wx : World) (j : Nat) (hj : j < L.length) (B : Option Addr) (k : Nat) (l : List Om.Pr), Om.Ref wx B k l → Om.Good l → Ba.listAt wx L[j].A L[j].l → Calls Try.prog 18 #[.agg #[.slice B l.length k], .slice L[j].A L[j].l.length L[j].c] wx fun e w' => Om.OfRef wx w' e (Om.doE l L[j].l)) := by
        intro wx j hj B k l h1 h2 h3
        have h4 := hok _ (List.getElem_mem hj)
        have h5 := hfr.2 j hj
        exact r13Do_any h1 h2 _ h3 h4.len h4.ops (fun o ho => (h5.mem o ho).1)
      obtain ⟨E, hE⟩ : ∃ E, E = (Om.ofE l0).2 := ⟨_, rfl⟩
      obtain ⟨l, hl⟩ : ∃ l, l = (Om.ofE l0).1 := ⟨_, rfl⟩
      rw [← hE, ← hl] at OF
      unfold Om.OfRef at RO R13D
      rw [← hE, ← hl] at RO
      have hEE : ((E : Int) != (E : Int)) = false := by simp
      have HLG : Hid (Om.Good l) := by
        by_cases h : E = 0
        · show Om.Good l; rw [hl]; exact Om.ofE_good (by rw [← hE]; exact h)
        · show Om.Good l; rw [hl, Om.ofE_none (by rw [← hE]; exact h)]; exact Om.Good.nil
      have HLN : Hid (E ≠ 0 → l = []) := fun h => by rw [hl]; exact Om.ofE_none (by rw [← hE]; exact h)
      have NW := Lib.hid (fun wx => omNew_lies wx)
      have AL := Lib.hid (fun (wx : World) (r : Nat) (m : List Om.Pr) (h : Om.Lies wx r m) => omAll_lies h)
      have LE := Lib.hid (fun (wx : World) (r : Nat) (m : List Om.Pr) (h : Om.Lies wx r m) => omLen_lies h)
      have LI := Lib.hid (fun (wx : World) (r : Nat) (m : List Om.Pr) (h : Om.Lies wx r m) => omList_lies h p)
      have GE := Lib.hid (fun (wx : World) (r : Nat) (m : List Om.Pr) (h : Om.Lies wx r m) => omGet_lies h p (by have := HP.out; omega))
      have RG := Lib.hid (fun (wx : World) (B : Option Addr) (k : Nat) (m : List Om.Pr) (h : Om.Ref wx B k m) (hG : Om.Good m) => r13Get_any h hG p)
      have RL := Lib.hid (fun (wx : World) (B : Option Addr) (k : Nat) (m : List Om.Pr) (h : Om.Ref wx B k m) (hG : Om.Good m) => r13List_any h hG p)
      have SA := Lib.hid (fun (wx : World) (A B : Option Addr) (c d : Nat) (m : List Om.Pr) (h1 : Om.listAt wx A m) (h2 : Om.listAt wx B m) (hm : m.length ≤ 1000000) => r13Same_any c d h1 h2 hm true (by simp))
      have ST := Lib.hid (fun (wx : World) (A B : Option Addr) (c d : Nat) (m : List ByteArray) (h1 : Om.txtsAt wx A m) (h2 : Om.txtsAt wx B m) (hm : m.length ≤ 1000000) => sameTexts_any c d h1 h2 hm true (by simp))
      rw [← hN] at OF ⊢
      clear hit hrows hg hg2 hf hfr hE hl hN hok hp
      by_cases h0 : E = 0
      · have hEb : ((E : Int) != 0) = false := by rw [h0]; rfl
        have HE0 : Hid (E = 0) := h0
        clear h0
        go_enter Try.func3, Try.ntmps3
        go_upto_region 4 with first
          | (go_at_call 11; refine GR.out.mono ?_; rintro e w' ⟨rfl, rfl⟩)
          | (go_at_call 12; refine GO.out.mono ?_; rintro e w' ⟨rfl, rfl⟩)
          | (go_at_call 14; refine OF.out.mono ?_; rintro e w1 ⟨v1, rfl, hn1, hz1, kb1⟩)
        obtain ⟨r, rfl, hr, hli⟩ := hz1 HE0.out
        have KB1 := Lib.hid kb1
        have LI1 := Lib.hid hli
        clear hn1 hz1 kb1 hli
        go_upto_region 5 with (go_at_call 15; refine (RO.out w1 KB1.out).mono ?_; rintro e w2 ⟨B, k, rfl, hr2, kb2⟩)
        have PP : Hid (Om.Pair2 w (w2.alloc (.cells #[.slice B l.length k] 32)) N r w2.heap.size B k l l) :=
          ⟨(LI1.out.below kb2).below ((Below.refl _ w2).alloc (Nat.le_refl _) _), heap_alloc_new _ _, hr2.below ((Below.refl _ w2).alloc (Nat.le_refl _) _), (KB1.out.trans (kb2.mono (by rw [HN.out]; exact KB1.out.size))).alloc (by rw [HN.out]; exact Nat.le_trans KB1.out.size kb2.size) _, hr, by rw [HN.out]; exact Nat.le_trans KB1.out.size kb2.size⟩
        generalize hw3 : w2.alloc (.cells #[.slice B l.length k] 32) = w3 at PP ⊢
        clear hw3 hr2 kb2 KB1 LI1 GR GO OF RO hr
        obtain ⟨K, hK⟩ : ∃ K, K = w2.heap.size := ⟨_, rfl⟩
        rw [← hK] at PP ⊢
        clear hK
        go_upto_region 9 with (fail)
        go_wp2
        go_loopw [11] (fun s wr => ∃ (j : Nat) (B : Option Addr) (k : Nat) (l : List Om.Pr), s = .int .i64 j ∧ j ≤ L.length ∧ Om.Pair2 w wr N r K B k l l) (fun s _ => L.length - (intOf s).toNat)
        case atStart => exact ⟨0, B, k, l, rfl, Nat.zero_le _, PP.out⟩
        case round =>
          clear PP
          obtain ⟨j, B1, k1, l1, rfl, hj, hpp⟩ := hrel
          have P1 := Lib.hid hpp
          clear hpp
          by_cases hlt : j < L.length
          · have hji : (j : Int) < (L.length : Int) := by omega
            have hsuc : IntKind.i64.wrap ((j : Int) + 1) = ((j + 1 : Nat) : Int) := by simp [IntKind.wrap, IntKind.bits, IntKind.signed]; omega
            obtain ⟨gb, off, rfl, hc, -, hdo⟩ := RD.out wr j hlt P1.out.bel
            have hd0 := hdo r l1 P1.out.m
            have FACT : Hid (∀ wx : World, Below N w wx → wx.cell? ⟨gb, off + j, none⟩ = some (.slice L[j].A L[j].l.length L[j].c) ∧ Ba.listAt wx L[j].A L[j].l) := fun wx hb => by
              obtain ⟨b', o', e', q1, q2, -⟩ := RD.out wx j hlt hb
              simp only [Option.some.injEq, Addr.mk.injEq] at e'
              obtain ⟨rfl, rfl, _⟩ := e'
              exact ⟨q1, q2⟩
            have RDX := Lib.hid (fun (wx : World) (B : Option Addr) (k : Nat) (l : List Om.Pr) => R13D.out wx j hlt B k l)
            obtain ⟨x, hx⟩ : ∃ x, x = L[j] := ⟨_, rfl⟩
            rw [← hx] at hc hd0 FACT RDX
            obtain ⟨xA, xc, xl⟩ := x
            dsimp only at hc hd0
            have FACT := Lib.hid (fun (wx : World) (hb : Below N w wx) => (show wx.cell? ⟨gb, off + j, none⟩ = some (.slice xA xl.length xc) ∧ Ba.listAt wx xA xl from FACT.out wx hb))
            have RDX := Lib.hid (fun (wx : World) (B : Option Addr) (k : Nat) (l : List Om.Pr) (h1 : Om.Ref wx B k l) (h2 : Om.Good l) (h3 : Ba.listAt wx xA xl) => (show Calls Try.prog 18 #[.agg #[.slice B l.length k], .slice xA xl.length xc] wx fun e w' => ∃ B5 k5, e = .returned (.tuple #[.agg #[.slice B5 (Om.doE l xl).1.length k5], .int .i64 ((Om.doE l xl).2 : Nat)]) ∧ Om.Ref w' B5 k5 (Om.doE l xl).1 ∧ Below wx.heap.size wx w' from RDX.out wx B k l h1 h2 h3))
            have RD1 := Lib.hid (fun (wx : World) (B : Option Addr) (k : Nat) => RDX.out wx B k l1)
            obtain ⟨e1, he1⟩ : ∃ e1, e1 = (Om.doE l1 xl).2 := ⟨_, rfl⟩
            obtain ⟨l2, hl2⟩ : ∃ l2, l2 = (Om.doE l1 xl).1 := ⟨_, rfl⟩
            rw [← he1, ← hl2] at RD1 hd0
            have HD := Lib.hid hd0
            have HLT := Lib.hid hlt
            have hee : ((e1 : Int) != (e1 : Int)) = false := by simp
            have FACT1 : Hid (∀ wx : World, Below N w wx → wx.cell? ⟨gb, off + j, none⟩ = some (.slice xA xl.length xc)) := fun wx hb => (FACT.out wx hb).1
            clear hdo hx he1 hl2 hd0 RDX
            clear hlt
            have HGL1 := Lib.hid P1.out.m.good
            go_upto_region 14 with (go_at_call 17; refine HD.out.mono ?_; rintro e w3 ⟨rfl, ml3, g3⟩)
            have P3 := Lib.hid (P1.out.done g3 ml3)
            clear ml3 g3 hc HD
            have PD := Lib.hid (P3.out.step (Below.refl _ _).drew)
            have HSD := Lib.hid (FACT1.out _ PD.out.bel)
            refine wp_region_held_drew (S := fun wx : World => wx.cell? ⟨gb, off + j, none⟩ = some (.slice xA xl.length xc)) (by kernel_rfl) (by exact HSD.out) (fun hHeld => ?_)
            refine wpAnyH_take (i := 1) (oi := ⟨some 67, _, _, _, _, _⟩) (v := .slice (some ⟨gb, off, none⟩) L.length d) rfl (by kernel_rfl) (by kernel_rfl) (by kernel_rfl) (fun _ _ _ h => h) (Or.inl ⟨by rfl, ?_⟩) (by assumption) ?_
            · intro w hSw; (try dsimp only at hSw); go_simp
            simp only [Act.put, List.setIfInBounds_toArray, List.set_cons_zero, List.set_cons_succ]
            refine wpAnyH_take (i := 2) (oi := ⟨some 68, _, _, _, _, _⟩) (v := .int .i64 (j : Int)) rfl (by kernel_rfl) (by kernel_rfl) (by kernel_rfl) (fun _ _ _ h => h) (Or.inl ⟨by rfl, ?_⟩) (by assumption) ?_
            · intro w hSw; (try dsimp only at hSw); go_simp
            simp only [Act.put, List.setIfInBounds_toArray, List.set_cons_zero, List.set_cons_succ]
            refine wpAnyH_take (i := 3) (oi := ⟨some 69, _, _, _, _, _⟩) (v := .pointer (some ⟨gb, off + j, none⟩)) rfl (by kernel_rfl) (by kernel_rfl) (by kernel_rfl) (fun _ _ _ h => h) (Or.inl ⟨by rfl, ?_⟩) (by assumption) ?_
            · intro w hSw; (try dsimp only at hSw); go_simp
            simp only [Act.put, List.setIfInBounds_toArray, List.set_cons_zero, List.set_cons_succ]
            refine wpAnyH_take (i := 4) (oi := ⟨some 70, _, _, _, _, _⟩) (v := .slice xA xl.length xc) rfl (by kernel_rfl) (by kernel_rfl) (by kernel_rfl) (fun _ _ _ h => h) (Or.inl ⟨by rfl, ?_⟩) (by assumption) ?_
            · intro w hSw; (try dsimp only at hSw); go_simp
            simp only [Act.put, List.setIfInBounds_toArray, List.set_cons_zero, List.set_cons_succ]
            refine wpAnyH_ready (rs := [0]) (by kernel_rfl) (by simp) ?_
            refine AllReadyH.cons (o := ⟨some 66, _, _, _, _, _⟩) rfl (fun K0 hK => ?_) AllReadyH.nil
            have y := PD.out.load
            have HBX := Lib.hid PD.out.v
            go_simp
            refine hK.out _ _ HSD.out (fun hHeld => ?_)
            clear hK K0 y HBX
            refine wpAnyH_ready (rs := [5]) (by kernel_rfl) (by simp) ?_
            refine AllReadyH.cons (o := ⟨some 71, _, _, _, _, _⟩) rfl (fun K0 hK => ?_) AllReadyH.nil
            go_simp
            refine (RD1.out _ _ _ PD.out.ref HGL1.out (FACT.out _ PD.out.bel).2).mono ?_
            rintro e w4 ⟨B5, k5, rfl, r5, b5⟩
            have P4 := Lib.hid (PD.out.step b5)
            have R5 := Lib.hid r5
            have HS4 := Lib.hid (FACT1.out _ P4.out.bel)
            clear r5 b5
            refine hK.out _ _ HS4.out (fun hHeld => ?_)
            clear hK K0
            try simp only [Act.put, List.setIfInBounds_toArray, List.set_cons_zero, List.set_cons_succ]
            refine wpAnyH_take (i := 6) (oi := ⟨some 65, _, _, _, _, _⟩) (v := .tuple #[.agg #[.slice B5 l2.length k5], .int .i64 (e1 : Nat)]) rfl (by kernel_rfl) (by kernel_rfl) (by kernel_rfl) (fun _ _ _ h => h) (Or.inl ⟨by rfl, ?_⟩) (by assumption) ?_
            · intro w hSw; (try dsimp only at hSw); go_simp
            simp only [Act.put, List.setIfInBounds_toArray, List.set_cons_zero, List.set_cons_succ]
            refine wpAnyH_take (i := 7) (oi := ⟨some 72, _, _, _, _, _⟩) (v := .agg #[.slice B5 l2.length k5]) rfl (by kernel_rfl) (by kernel_rfl) (by kernel_rfl) (fun _ _ _ h => h) (Or.inl ⟨by rfl, ?_⟩) (by assumption) ?_
            · intro w hSw; (try dsimp only at hSw); go_simp
            simp only [Act.put, List.setIfInBounds_toArray, List.set_cons_zero, List.set_cons_succ]
            refine wpAnyH_take (i := 8) (oi := ⟨some 73, _, _, _, _, _⟩) (v := .int .i64 (e1 : Nat)) rfl (by kernel_rfl) (by kernel_rfl) (by kernel_rfl) (fun _ _ _ h => h) (Or.inl ⟨by rfl, ?_⟩) (by assumption) ?_
            · intro w hSw; (try dsimp only at hSw); go_simp
            simp only [Act.put, List.setIfInBounds_toArray, List.set_cons_zero, List.set_cons_succ]
            refine wpAnyH_ready (rs := [9]) (by kernel_rfl) (by simp) ?_
            refine AllReadyH.cons (o := ⟨none, _, _, _, _, _⟩) rfl (fun K0 hK => ?_) AllReadyH.nil
            have y := P4.out.load
            have f := Sm.free_of P4.out.v 0
            go_simp
            have P5 := Lib.hid (P4.out.put R5.out)
            have HS5 := Lib.hid (FACT1.out _ P5.out.bel)
            refine hK.out _ _ HS5.out (fun hHeld => ?_)
            clear hK K0 y f
            generalize w4.setCell ⟨K, 0, none⟩ (.slice B5 l2.length k5) = w5 at P5 HS5 hHeld ⊢
            try simp only [Act.put, List.setIfInBounds_toArray, List.set_cons_zero, List.set_cons_succ]
            refine wpAnyH_take (i := 10) (oi := ⟨some 12, _, _, _, _, _⟩) (v := .int .i64 (e1 : Nat)) rfl (by kernel_rfl) (by kernel_rfl) (by kernel_rfl) (fun _ _ _ h => h) (Or.inl ⟨by rfl, ?_⟩) (by assumption) ?_
            · intro w hSw; (try dsimp only at hSw); go_simp
            simp only [Act.put, List.setIfInBounds_toArray, List.set_cons_zero, List.set_cons_succ]
            refine wpAnyH_done (by kernel_rfl) ?_ _
            clear HS5 HS4 P4 R5
            have z5 := P5.out.load
            go_upto_region 17 with first
              | (go_at_call 19; refine (GE.out _ _ _ P5.out.m).mono ?_; rintro e w6 ⟨rfl, k6⟩; have P6 := Lib.hid (P5.out.step k6); have z6 := P6.out.load; clear k6)
              | (go_at_call 20; refine (RG.out _ _ _ _ P6.out.ref P6.out.m.good).mono ?_; rintro e w7 ⟨rfl, k7⟩; have P7 := Lib.hid (P6.out.step k7); clear k7)
            obtain ⟨gv, hgv⟩ : ∃ gv, gv = Om.getV l2 p := ⟨_, rfl⟩
            obtain ⟨gs, hgs⟩ : ∃ gs, gs = (Om.get p l2).isSome := ⟨_, rfl⟩
            rw [← hgv, ← hgs]
            have hvv : (gv.toList == gv.toList) = true := Om.ba_same.2 rfl
            have hvn : (gv.toList != gv.toList) = false := by rw [bne, hvv]; rfl
            have hll : l2.length ≤ 1000000 := by have := P7.out.m.good.len; omega
            have HLL := Lib.hid hll
            obtain ⟨tl, htl⟩ : ∃ tl, tl = Om.list p l2 := ⟨_, rfl⟩
            have htll : tl.length ≤ 1000000 := by
              rw [htl]; unfold Om.list; rw [List.length_map]
              have := List.length_filter_le (fun x : Om.Pr => Om.begins p x.p) l2
              omega
            have HTL := Lib.hid htll
            have LI2 := Lib.hid (fun (wx : World) (h : Om.Lies wx r l2) => LI.out wx r l2 h)
            have RL2 := Lib.hid (fun (wx : World) (B : Option Addr) (k : Nat) (h : Om.Ref wx B k l2) (hG : Om.Good l2) => RL.out wx B k l2 h hG)
            rw [← htl] at LI2 RL2
            have P8 := Lib.hid (P7.out.step (Below.refl _ w7).drew)
            clear hgv hgs z6 hll htl htll P5 P6 P3 PD HSD hHeld
            cases gs with
            | true =>
              go_region_held3 (fun w' => w'.cell? ⟨K, 0, none⟩ = some (.slice B5 l2.length k5))
                (first | (with_reducible exact P8.out.load) | (with_reducible exact P9.out.load) | (with_reducible exact P10.out.load) | (with_reducible exact P11.out.load) | (with_reducible exact P12.out.load) | (with_reducible exact P13.out.load) | (with_reducible exact P14.out.load))
                ((first
                  | (go_at_call 21; refine (LE.out _ _ _ P8.out.m).mono ?_; rintro e w9 ⟨rfl, rfl⟩)
                  | (go_at_call 23; refine (AL.out _ _ _ P8.out.m).mono ?_; rintro e w10 ⟨A10, c10, rfl, r10, k10⟩; have P10 := Lib.hid (P8.out.step k10); have R10 := Lib.hid r10.listAt; clear r10 k10)
                  | (go_at_call 22; refine (SA.out _ _ _ _ _ _ R10.out P10.out.ref.1 HLL.out).mono ?_; rintro e w11 ⟨rfl, k11⟩; have P11 := Lib.hid (P10.out.step k11); clear k11)
                  | (go_at_call 25; refine (LI2.out _ P11.out.m).mono ?_; rintro e w12 ⟨A12, c12, rfl, r12, k12⟩; have P12 := Lib.hid (P11.out.step k12); have R12 := Lib.hid r12.txtsAt; clear r12 k12)
                  | (go_at_call 26; refine (RL2.out _ _ _ P12.out.ref P12.out.m.good).mono ?_; rintro e w13 ⟨A13, c13, rfl, r13, k13⟩; have P13 := Lib.hid (P12.out.step k13); have R13 := Lib.hid r13; have R12' := Lib.hid (R12.out.below k13); clear r13 k13)
                  | (go_at_call 24; refine (ST.out _ _ _ _ _ _ R12'.out R13.out HTL.out).mono ?_; rintro e w14 ⟨rfl, k14⟩; have P14 := Lib.hid (P13.out.step k14); clear k14)))
              go_wp2
              go_roundw
              case rel => exact ⟨j + 1, B5, k5, l2, rfl, HLT.out, P14.out⟩
              case measure => simp only [intOf]; have := HLT.out; omega
            | false =>
              go_region_held3 (fun w' => w'.cell? ⟨K, 0, none⟩ = some (.slice B5 l2.length k5))
                (first | (with_reducible exact P8.out.load) | (with_reducible exact P9.out.load) | (with_reducible exact P10.out.load) | (with_reducible exact P11.out.load) | (with_reducible exact P12.out.load) | (with_reducible exact P13.out.load) | (with_reducible exact P14.out.load))
                ((first
                  | (go_at_call 21; refine (LE.out _ _ _ P8.out.m).mono ?_; rintro e w9 ⟨rfl, rfl⟩)
                  | (go_at_call 23; refine (AL.out _ _ _ P8.out.m).mono ?_; rintro e w10 ⟨A10, c10, rfl, r10, k10⟩; have P10 := Lib.hid (P8.out.step k10); have R10 := Lib.hid r10.listAt; clear r10 k10)
                  | (go_at_call 22; refine (SA.out _ _ _ _ _ _ R10.out P10.out.ref.1 HLL.out).mono ?_; rintro e w11 ⟨rfl, k11⟩; have P11 := Lib.hid (P10.out.step k11); clear k11)
                  | (go_at_call 25; refine (LI2.out _ P11.out.m).mono ?_; rintro e w12 ⟨A12, c12, rfl, r12, k12⟩; have P12 := Lib.hid (P11.out.step k12); have R12 := Lib.hid r12.txtsAt; clear r12 k12)
                  | (go_at_call 26; refine (RL2.out _ _ _ P12.out.ref P12.out.m.good).mono ?_; rintro e w13 ⟨A13, c13, rfl, r13, k13⟩; have P13 := Lib.hid (P12.out.step k13); have R13 := Lib.hid r13; have R12' := Lib.hid (R12.out.below k13); clear r13 k13)
                  | (go_at_call 24; refine (ST.out _ _ _ _ _ _ R12'.out R13.out HTL.out).mono ?_; rintro e w14 ⟨rfl, k14⟩; have P14 := Lib.hid (P13.out.step k14); clear k14)))
              go_wp2
              go_roundw
              case rel => exact ⟨j + 1, B5, k5, l2, rfl, HLT.out, P14.out⟩
              case measure => simp only [intOf]; have := HLT.out; omega
          · have hje : j = L.length := by omega
            clear hj
            subst hje
            have hji : ¬ (L.length : Int) < (L.length : Int) := by omega
            go_wp2_with (go_at_call 13; refine (AW.out _).mono ?_; rintro e w6 ⟨rfl, k6⟩; have P6 := Lib.hid (P1.out.step k6); clear k6)
            go_ret
            exact ⟨rfl, P6.out.bel⟩
      · have hEb : ((E : Int) != 0) = true := by rw [bne_iff_ne]; omega
        have HLE := Lib.hid (HLN.out h0)
        have HE0 : Hid (E ≠ 0) := h0
        clear h0
        go_enter Try.func3, Try.ntmps3
        go_upto_region 4 with first
          | (go_at_call 11; refine GR.out.mono ?_; rintro e w' ⟨rfl, rfl⟩)
          | (go_at_call 12; refine GO.out.mono ?_; rintro e w' ⟨rfl, rfl⟩)
          | (go_at_call 14; refine OF.out.mono ?_; rintro e w1 ⟨v1, rfl, hn1, hz1, kb1⟩)
        have hv1 := hn1 HE0.out
        subst hv1
        have KB1 := Lib.hid kb1
        clear hn1 hz1 kb1
        go_upto_region 5 with (go_at_call 15; refine (RO.out w1 KB1.out).mono ?_; rintro e w2 ⟨B, k, rfl, hr2, kb2⟩)
        have R2 := Lib.hid (hr2.below ((Below.refl _ w2).alloc (Nat.le_refl _) (.cells #[.slice B l.length k] 32)))
        have V2 := Lib.hid (heap_alloc_new w2 (.cells #[.slice B l.length k] 32))
        have KB2 : Hid (Below N w (w2.alloc (.cells #[.slice B l.length k] 32))) := (KB1.out.trans (kb2.mono (by rw [HN.out]; exact KB1.out.size))).alloc (by rw [HN.out]; exact Nat.le_trans KB1.out.size kb2.size) _
        have hN2 : N ≤ w2.heap.size := by rw [HN.out]; exact Nat.le_trans KB1.out.size kb2.size
        have HN2 := Lib.hid hN2
        generalize hw3 : w2.alloc (.cells #[.slice B l.length k] 32) = w3 at R2 V2 KB2 ⊢
        clear hw3 hr2 kb2 KB1 GR GO OF RO hN2
        go_upto_region 9 with (go_at_call 16; refine (NW.out _).mono ?_; rintro e w4 ⟨rfl, ml4, k4⟩)
        obtain ⟨r, hr⟩ : ∃ r, r = w3.heap.size := ⟨_, rfl⟩
        rw [← hr] at ml4 ⊢
        have PP : Hid (Om.Pair2 w w4 N r w2.heap.size B k l l) := by
          rw [show Om.Pair2 w w4 N r w2.heap.size B k l l = Om.Pair2 w w4 N r w2.heap.size B k [] l by rw [HLE.out]]
          exact ⟨ml4, (k4.block _ (Sm.lt_of V2.out)).trans V2.out, R2.out.below k4, KB2.out.trans (k4.mono (by rw [HN.out]; exact KB2.out.size)), by rw [hr, HN.out]; exact KB2.out.size, HN2.out⟩
        clear ml4 k4 hr R2 V2 KB2 HLE
        obtain ⟨K, hK⟩ : ∃ K, K = w2.heap.size := ⟨_, rfl⟩
        rw [← hK] at PP ⊢
        clear hK
        go_wp2
        go_loopw [11] (fun s wr => ∃ (j : Nat) (B : Option Addr) (k : Nat) (l : List Om.Pr), s = .int .i64 j ∧ j ≤ L.length ∧ Om.Pair2 w wr N r K B k l l) (fun s _ => L.length - (intOf s).toNat)
        case atStart => exact ⟨0, B, k, l, rfl, Nat.zero_le _, PP.out⟩
        case round =>
          clear PP
          obtain ⟨j, B1, k1, l1, rfl, hj, hpp⟩ := hrel
          have P1 := Lib.hid hpp
          clear hpp
          by_cases hlt : j < L.length
          · have hji : (j : Int) < (L.length : Int) := by omega
            have hsuc : IntKind.i64.wrap ((j : Int) + 1) = ((j + 1 : Nat) : Int) := by simp [IntKind.wrap, IntKind.bits, IntKind.signed]; omega
            obtain ⟨gb, off, rfl, hc, -, hdo⟩ := RD.out wr j hlt P1.out.bel
            have hd0 := hdo r l1 P1.out.m
            have FACT : Hid (∀ wx : World, Below N w wx → wx.cell? ⟨gb, off + j, none⟩ = some (.slice L[j].A L[j].l.length L[j].c) ∧ Ba.listAt wx L[j].A L[j].l) := fun wx hb => by
              obtain ⟨b', o', e', q1, q2, -⟩ := RD.out wx j hlt hb
              simp only [Option.some.injEq, Addr.mk.injEq] at e'
              obtain ⟨rfl, rfl, _⟩ := e'
              exact ⟨q1, q2⟩
            have RDX := Lib.hid (fun (wx : World) (B : Option Addr) (k : Nat) (l : List Om.Pr) => R13D.out wx j hlt B k l)
            obtain ⟨x, hx⟩ : ∃ x, x = L[j] := ⟨_, rfl⟩
            rw [← hx] at hc hd0 FACT RDX
            obtain ⟨xA, xc, xl⟩ := x
            dsimp only at hc hd0
            have FACT := Lib.hid (fun (wx : World) (hb : Below N w wx) => (show wx.cell? ⟨gb, off + j, none⟩ = some (.slice xA xl.length xc) ∧ Ba.listAt wx xA xl from FACT.out wx hb))
            have RDX := Lib.hid (fun (wx : World) (B : Option Addr) (k : Nat) (l : List Om.Pr) (h1 : Om.Ref wx B k l) (h2 : Om.Good l) (h3 : Ba.listAt wx xA xl) => (show Calls Try.prog 18 #[.agg #[.slice B l.length k], .slice xA xl.length xc] wx fun e w' => ∃ B5 k5, e = .returned (.tuple #[.agg #[.slice B5 (Om.doE l xl).1.length k5], .int .i64 ((Om.doE l xl).2 : Nat)]) ∧ Om.Ref w' B5 k5 (Om.doE l xl).1 ∧ Below wx.heap.size wx w' from RDX.out wx B k l h1 h2 h3))
            have RD1 := Lib.hid (fun (wx : World) (B : Option Addr) (k : Nat) => RDX.out wx B k l1)
            obtain ⟨e1, he1⟩ : ∃ e1, e1 = (Om.doE l1 xl).2 := ⟨_, rfl⟩
            obtain ⟨l2, hl2⟩ : ∃ l2, l2 = (Om.doE l1 xl).1 := ⟨_, rfl⟩
            rw [← he1, ← hl2] at RD1 hd0
            have HD := Lib.hid hd0
            have HLT := Lib.hid hlt
            have hee : ((e1 : Int) != (e1 : Int)) = false := by simp
            have FACT1 : Hid (∀ wx : World, Below N w wx → wx.cell? ⟨gb, off + j, none⟩ = some (.slice xA xl.length xc)) := fun wx hb => (FACT.out wx hb).1
            clear hdo hx he1 hl2 hd0 RDX
            clear hlt
            have HGL1 := Lib.hid P1.out.m.good
            go_upto_region 14 with (go_at_call 17; refine HD.out.mono ?_; rintro e w3 ⟨rfl, ml3, g3⟩)
            have P3 := Lib.hid (P1.out.done g3 ml3)
            clear ml3 g3 hc HD
            have PD := Lib.hid (P3.out.step (Below.refl _ _).drew)
            have HSD := Lib.hid (FACT1.out _ PD.out.bel)
            refine wp_region_held_drew (S := fun wx : World => wx.cell? ⟨gb, off + j, none⟩ = some (.slice xA xl.length xc)) (by kernel_rfl) (by exact HSD.out) (fun hHeld => ?_)
            refine wpAnyH_take (i := 1) (oi := ⟨some 67, _, _, _, _, _⟩) (v := .slice (some ⟨gb, off, none⟩) L.length d) rfl (by kernel_rfl) (by kernel_rfl) (by kernel_rfl) (fun _ _ _ h => h) (Or.inl ⟨by rfl, ?_⟩) (by assumption) ?_
            · intro w hSw; (try dsimp only at hSw); go_simp
            simp only [Act.put, List.setIfInBounds_toArray, List.set_cons_zero, List.set_cons_succ]
            refine wpAnyH_take (i := 2) (oi := ⟨some 68, _, _, _, _, _⟩) (v := .int .i64 (j : Int)) rfl (by kernel_rfl) (by kernel_rfl) (by kernel_rfl) (fun _ _ _ h => h) (Or.inl ⟨by rfl, ?_⟩) (by assumption) ?_
            · intro w hSw; (try dsimp only at hSw); go_simp
            simp only [Act.put, List.setIfInBounds_toArray, List.set_cons_zero, List.set_cons_succ]
            refine wpAnyH_take (i := 3) (oi := ⟨some 69, _, _, _, _, _⟩) (v := .pointer (some ⟨gb, off + j, none⟩)) rfl (by kernel_rfl) (by kernel_rfl) (by kernel_rfl) (fun _ _ _ h => h) (Or.inl ⟨by rfl, ?_⟩) (by assumption) ?_
            · intro w hSw; (try dsimp only at hSw); go_simp
            simp only [Act.put, List.setIfInBounds_toArray, List.set_cons_zero, List.set_cons_succ]
            refine wpAnyH_take (i := 4) (oi := ⟨some 70, _, _, _, _, _⟩) (v := .slice xA xl.length xc) rfl (by kernel_rfl) (by kernel_rfl) (by kernel_rfl) (fun _ _ _ h => h) (Or.inl ⟨by rfl, ?_⟩) (by assumption) ?_
            · intro w hSw; (try dsimp only at hSw); go_simp
            simp only [Act.put, List.setIfInBounds_toArray, List.set_cons_zero, List.set_cons_succ]
            refine wpAnyH_ready (rs := [0]) (by kernel_rfl) (by simp) ?_
            refine AllReadyH.cons (o := ⟨some 66, _, _, _, _, _⟩) rfl (fun K0 hK => ?_) AllReadyH.nil
            have y := PD.out.load
            have HBX := Lib.hid PD.out.v
            go_simp
            refine hK.out _ _ HSD.out (fun hHeld => ?_)
            clear hK K0 y HBX
            refine wpAnyH_ready (rs := [5]) (by kernel_rfl) (by simp) ?_
            refine AllReadyH.cons (o := ⟨some 71, _, _, _, _, _⟩) rfl (fun K0 hK => ?_) AllReadyH.nil
            go_simp
            refine (RD1.out _ _ _ PD.out.ref HGL1.out (FACT.out _ PD.out.bel).2).mono ?_
            rintro e w4 ⟨B5, k5, rfl, r5, b5⟩
            have P4 := Lib.hid (PD.out.step b5)
            have R5 := Lib.hid r5
            have HS4 := Lib.hid (FACT1.out _ P4.out.bel)
            clear r5 b5
            refine hK.out _ _ HS4.out (fun hHeld => ?_)
            clear hK K0
            try simp only [Act.put, List.setIfInBounds_toArray, List.set_cons_zero, List.set_cons_succ]
            refine wpAnyH_take (i := 6) (oi := ⟨some 65, _, _, _, _, _⟩) (v := .tuple #[.agg #[.slice B5 l2.length k5], .int .i64 (e1 : Nat)]) rfl (by kernel_rfl) (by kernel_rfl) (by kernel_rfl) (fun _ _ _ h => h) (Or.inl ⟨by rfl, ?_⟩) (by assumption) ?_
            · intro w hSw; (try dsimp only at hSw); go_simp
            simp only [Act.put, List.setIfInBounds_toArray, List.set_cons_zero, List.set_cons_succ]
            refine wpAnyH_take (i := 7) (oi := ⟨some 72, _, _, _, _, _⟩) (v := .agg #[.slice B5 l2.length k5]) rfl (by kernel_rfl) (by kernel_rfl) (by kernel_rfl) (fun _ _ _ h => h) (Or.inl ⟨by rfl, ?_⟩) (by assumption) ?_
            · intro w hSw; (try dsimp only at hSw); go_simp
            simp only [Act.put, List.setIfInBounds_toArray, List.set_cons_zero, List.set_cons_succ]
            refine wpAnyH_take (i := 8) (oi := ⟨some 73, _, _, _, _, _⟩) (v := .int .i64 (e1 : Nat)) rfl (by kernel_rfl) (by kernel_rfl) (by kernel_rfl) (fun _ _ _ h => h) (Or.inl ⟨by rfl, ?_⟩) (by assumption) ?_
            · intro w hSw; (try dsimp only at hSw); go_simp
            simp only [Act.put, List.setIfInBounds_toArray, List.set_cons_zero, List.set_cons_succ]
            refine wpAnyH_ready (rs := [9]) (by kernel_rfl) (by simp) ?_
            refine AllReadyH.cons (o := ⟨none, _, _, _, _, _⟩) rfl (fun K0 hK => ?_) AllReadyH.nil
            have y := P4.out.load
            have f := Sm.free_of P4.out.v 0
            go_simp
            have P5 := Lib.hid (P4.out.put R5.out)
            have HS5 := Lib.hid (FACT1.out _ P5.out.bel)
            refine hK.out _ _ HS5.out (fun hHeld => ?_)
            clear hK K0 y f
            generalize w4.setCell ⟨K, 0, none⟩ (.slice B5 l2.length k5) = w5 at P5 HS5 hHeld ⊢
            try simp only [Act.put, List.setIfInBounds_toArray, List.set_cons_zero, List.set_cons_succ]
            refine wpAnyH_take (i := 10) (oi := ⟨some 12, _, _, _, _, _⟩) (v := .int .i64 (e1 : Nat)) rfl (by kernel_rfl) (by kernel_rfl) (by kernel_rfl) (fun _ _ _ h => h) (Or.inl ⟨by rfl, ?_⟩) (by assumption) ?_
            · intro w hSw; (try dsimp only at hSw); go_simp
            simp only [Act.put, List.setIfInBounds_toArray, List.set_cons_zero, List.set_cons_succ]
            refine wpAnyH_done (by kernel_rfl) ?_ _
            clear HS5 HS4 P4 R5
            have z5 := P5.out.load
            go_upto_region 17 with first
              | (go_at_call 19; refine (GE.out _ _ _ P5.out.m).mono ?_; rintro e w6 ⟨rfl, k6⟩; have P6 := Lib.hid (P5.out.step k6); have z6 := P6.out.load; clear k6)
              | (go_at_call 20; refine (RG.out _ _ _ _ P6.out.ref P6.out.m.good).mono ?_; rintro e w7 ⟨rfl, k7⟩; have P7 := Lib.hid (P6.out.step k7); clear k7)
            obtain ⟨gv, hgv⟩ : ∃ gv, gv = Om.getV l2 p := ⟨_, rfl⟩
            obtain ⟨gs, hgs⟩ : ∃ gs, gs = (Om.get p l2).isSome := ⟨_, rfl⟩
            rw [← hgv, ← hgs]
            have hvv : (gv.toList == gv.toList) = true := Om.ba_same.2 rfl
            have hvn : (gv.toList != gv.toList) = false := by rw [bne, hvv]; rfl
            have hll : l2.length ≤ 1000000 := by have := P7.out.m.good.len; omega
            have HLL := Lib.hid hll
            obtain ⟨tl, htl⟩ : ∃ tl, tl = Om.list p l2 := ⟨_, rfl⟩
            have htll : tl.length ≤ 1000000 := by
              rw [htl]; unfold Om.list; rw [List.length_map]
              have := List.length_filter_le (fun x : Om.Pr => Om.begins p x.p) l2
              omega
            have HTL := Lib.hid htll
            have LI2 := Lib.hid (fun (wx : World) (h : Om.Lies wx r l2) => LI.out wx r l2 h)
            have RL2 := Lib.hid (fun (wx : World) (B : Option Addr) (k : Nat) (h : Om.Ref wx B k l2) (hG : Om.Good l2) => RL.out wx B k l2 h hG)
            rw [← htl] at LI2 RL2
            have P8 := Lib.hid (P7.out.step (Below.refl _ w7).drew)
            clear hgv hgs z6 hll htl htll P5 P6 P3 PD HSD hHeld
            cases gs with
            | true =>
              go_region_held3 (fun w' => w'.cell? ⟨K, 0, none⟩ = some (.slice B5 l2.length k5))
                (first | (with_reducible exact P8.out.load) | (with_reducible exact P9.out.load) | (with_reducible exact P10.out.load) | (with_reducible exact P11.out.load) | (with_reducible exact P12.out.load) | (with_reducible exact P13.out.load) | (with_reducible exact P14.out.load))
                ((first
                  | (go_at_call 21; refine (LE.out _ _ _ P8.out.m).mono ?_; rintro e w9 ⟨rfl, rfl⟩)
                  | (go_at_call 23; refine (AL.out _ _ _ P8.out.m).mono ?_; rintro e w10 ⟨A10, c10, rfl, r10, k10⟩; have P10 := Lib.hid (P8.out.step k10); have R10 := Lib.hid r10.listAt; clear r10 k10)
                  | (go_at_call 22; refine (SA.out _ _ _ _ _ _ R10.out P10.out.ref.1 HLL.out).mono ?_; rintro e w11 ⟨rfl, k11⟩; have P11 := Lib.hid (P10.out.step k11); clear k11)
                  | (go_at_call 25; refine (LI2.out _ P11.out.m).mono ?_; rintro e w12 ⟨A12, c12, rfl, r12, k12⟩; have P12 := Lib.hid (P11.out.step k12); have R12 := Lib.hid r12.txtsAt; clear r12 k12)
                  | (go_at_call 26; refine (RL2.out _ _ _ P12.out.ref P12.out.m.good).mono ?_; rintro e w13 ⟨A13, c13, rfl, r13, k13⟩; have P13 := Lib.hid (P12.out.step k13); have R13 := Lib.hid r13; have R12' := Lib.hid (R12.out.below k13); clear r13 k13)
                  | (go_at_call 24; refine (ST.out _ _ _ _ _ _ R12'.out R13.out HTL.out).mono ?_; rintro e w14 ⟨rfl, k14⟩; have P14 := Lib.hid (P13.out.step k14); clear k14)))
              go_wp2
              go_roundw
              case rel => exact ⟨j + 1, B5, k5, l2, rfl, HLT.out, P14.out⟩
              case measure => simp only [intOf]; have := HLT.out; omega
            | false =>
              go_region_held3 (fun w' => w'.cell? ⟨K, 0, none⟩ = some (.slice B5 l2.length k5))
                (first | (with_reducible exact P8.out.load) | (with_reducible exact P9.out.load) | (with_reducible exact P10.out.load) | (with_reducible exact P11.out.load) | (with_reducible exact P12.out.load) | (with_reducible exact P13.out.load) | (with_reducible exact P14.out.load))
                ((first
                  | (go_at_call 21; refine (LE.out _ _ _ P8.out.m).mono ?_; rintro e w9 ⟨rfl, rfl⟩)
                  | (go_at_call 23; refine (AL.out _ _ _ P8.out.m).mono ?_; rintro e w10 ⟨A10, c10, rfl, r10, k10⟩; have P10 := Lib.hid (P8.out.step k10); have R10 := Lib.hid r10.listAt; clear r10 k10)
                  | (go_at_call 22; refine (SA.out _ _ _ _ _ _ R10.out P10.out.ref.1 HLL.out).mono ?_; rintro e w11 ⟨rfl, k11⟩; have P11 := Lib.hid (P10.out.step k11); clear k11)
                  | (go_at_call 25; refine (LI2.out _ P11.out.m).mono ?_; rintro e w12 ⟨A12, c12, rfl, r12, k12⟩; have P12 := Lib.hid (P11.out.step k12); have R12 := Lib.hid r12.txtsAt; clear r12 k12)
                  | (go_at_call 26; refine (RL2.out _ _ _ P12.out.ref P12.out.m.good).mono ?_; rintro e w13 ⟨A13, c13, rfl, r13, k13⟩; have P13 := Lib.hid (P12.out.step k13); have R13 := Lib.hid r13; have R12' := Lib.hid (R12.out.below k13); clear r13 k13)
                  | (go_at_call 24; refine (ST.out _ _ _ _ _ _ R12'.out R13.out HTL.out).mono ?_; rintro e w14 ⟨rfl, k14⟩; have P14 := Lib.hid (P13.out.step k14); clear k14)))
              go_wp2
              go_roundw
              case rel => exact ⟨j + 1, B5, k5, l2, rfl, HLT.out, P14.out⟩
              case measure => simp only [intOf]; have := HLT.out; omega
          · have hje : j = L.length := by omega
            clear hj
            subst hje
            have hji : ¬ (L.length : Int) < (L.length : Int) := by omega
            go_wp2_with (go_at_call 13; refine (AW.out _).mono ?_; rintro e w6 ⟨rfl, k6⟩; have P6 := Lib.hid (P1.out.step k6); clear k6)
            go_ret
            exact ⟨rfl, P6.out.bel⟩
end Go.Proofs.Ytehkbffbehlpnaa
