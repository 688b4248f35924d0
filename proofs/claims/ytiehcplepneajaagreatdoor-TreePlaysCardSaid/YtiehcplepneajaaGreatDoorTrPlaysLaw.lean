/-
  TreePlays answers true for every row of acts, and turns nothing of what was there.
-/
import Derived.Test.YtiehcplepneajaaGreatDoorR15One
import Derived.Test.YtiehcplepneajaaGreatDoorR13One
import Derived.Test.YtiehcplepneajaaGreatDoorPaRefCut
namespace Go.Proofs.YtiehcplepneajaaGreatDoor
open Go.RowKit
namespace Om
theorem listAt.turned {w w' : World} {A : Option Addr} {l : List Pr} {q : Nat} (h : listAt w A l) (g : w.grownBy w' (some q)) (hn : ∀ b off, A = some ⟨b, off, none⟩ → l ≠ [] → b ≠ q) : listAt w' A l := by
  by_cases h0 : l = []
  · exact .inl h0
  rcases h with h | ⟨b, off, h1, h2, h3⟩
  · exact .inl h
  · have e : ∀ i, w'.cell? ⟨b, i, none⟩ = w.cell? ⟨b, i, none⟩ := fun i => World.cell?_of_block (g.block b h2 (fun e => hn b off h1 h0 (Option.some.inj e)))
    refine .inr ⟨b, off, h1, Nat.lt_of_lt_of_le h2 g.size, fun j hj => ?_⟩
    have := h3 j hj
    unfold prAt at this ⊢
    rw [e, e]
    exact this
theorem Row.apart {w' : World} {B : Option Addr} {k N : Nat} {m : List Pr} (h : Row w' N B k m) : ∀ b off, B = some ⟨b, off, none⟩ → N ≤ b := fun b off e => by
  have : (Value.slice B m.length k).ownBlock = some b := by rw [e]; rfl
  exact (h.blk this).1
end Om
namespace Tr
open Om (Pr)
/-- A tree of one's own, the document's map in a variable, an act in another one. -/
structure Tm (w W : World) (r M : Nat) (lt : List Pr) (B : Option Addr) (k : Nat) (lm : List Pr) : Prop where
  ow : Ow w W r lt
  box : W.heap[M]? = some (.cells #[.slice B lm.length k] 85 (0, 0))
  ref : Om.Ref W B k lm
  low : w.heap.size ≤ M
  ne : M ≠ r
  apart : ∀ b off, B = some ⟨b, off, none⟩ → lm ≠ [] → b ≠ M ∧ b ≠ r
structure Tq (w W : World) (r M Q : Nat) (lt : List Pr) (B : Option Addr) (k : Nat) (lm : List Pr) (x : Ac) : Prop where
  tm : Tm w W r M lt B k lm
  act : W.heap[Q]? = some (.cells #[.int .u8 (x.d : Int), .string x.p, .string x.v] 87 (0, 0))
  nr : Q ≠ r
  nm : Q ≠ M
section
variable {w W W' : World} {r M Q : Nat} {lt lt' lm lm' : List Pr} {B B' : Option Addr} {k k' : Nat} {x : Ac}
theorem map_pair : 85 ≠ 79 := by decide
theorem Ow.other {cs : Array Value} {t : TypeId} (h : Ow w W r lt) (hq : W.heap[Q]? = some (.cells cs t (0, 0))) (ht : t ≠ 79) (hn : Q ≠ r) (hl : w.heap.size ≤ Q) (g : W.grownBy W' (some Q)) : Ow w W' r lt := by
  obtain ⟨S, h1, h2⟩ := h.tree.blk
  refine ⟨⟨h.tree.fit, S, h1.keep (g.block r h1.lt fun e => hn (Option.some.inj e).symm), h2.keep fun i cs' hi => g.block i (Sm.lt_of hi) fun e => ?_⟩, h.bel.trans (Sm.grown_from g hl h.bel.size), h.low⟩
  have e := Option.some.inj e
  subst e
  rw [hq] at hi
  simp only [Option.some.injEq, Obj.cells.injEq] at hi
  exact ht hi.2.1
theorem Tm.step (h : Tm w W r M lt B k lm) (g : Below W.heap.size W W') : Tm w W' r M lt B k lm :=
  ⟨h.ow.step g, (g.block M (Sm.lt_of h.box)).trans h.box, h.ref.below g, h.low, h.ne, h.apart⟩
theorem Tm.tree (h : Tm w W r M lt B k lm) (t : Ow w W' r lt') (g : W.grownBy W' (some r)) : Tm w W' r M lt' B k lm :=
  ⟨t, (g.block M (Sm.lt_of h.box) (fun e => h.ne (Option.some.inj e))).trans h.box, ⟨h.ref.1.turned g (fun b off e hn => (h.apart b off e hn).2), h.ref.2⟩, h.low, h.ne, h.apart⟩
theorem grown_cell (W : World) (M : Nat) (v : Value) : W.grownBy (W.setCell ⟨M, 0, none⟩ v) (some M) := Sm.grown_set (Sm.grown_refl W (some M)) 0 v
theorem Tm.put (h : Tm w W r M lt B k lm) (hr : Om.Ref W B' k' lm') (ha : ∀ b off, B' = some ⟨b, off, none⟩ → lm' ≠ [] → b ≠ M ∧ b ≠ r) : Tm w (W.setCell ⟨M, 0, none⟩ (.slice B' lm'.length k')) r M lt B' k' lm' := by
  have g := grown_cell W M (.slice B' lm'.length k')
  exact ⟨h.ow.other h.box map_pair h.ne h.low g, Sm.heap_set h.box 0 _, ⟨hr.1.turned g (fun b off e hn => (ha b off e hn).1), hr.2⟩, h.low, h.ne, ha⟩
theorem Tq.step (h : Tq w W r M Q lt B k lm x) (g : Below W.heap.size W W') : Tq w W' r M Q lt B k lm x := ⟨h.tm.step g, (g.block Q (Sm.lt_of h.act)).trans h.act, h.nr, h.nm⟩
theorem Tq.tree (h : Tq w W r M Q lt B k lm x) (t : Ow w W' r lt') (g : W.grownBy W' (some r)) : Tq w W' r M Q lt' B k lm x :=
  ⟨h.tm.tree t g, (g.block Q (Sm.lt_of h.act) (fun e => h.nr (Option.some.inj e))).trans h.act, h.nr, h.nm⟩
theorem Tq.put (h : Tq w W r M Q lt B k lm x) (hr : Om.Ref W B' k' lm') (ha : ∀ b off, B' = some ⟨b, off, none⟩ → lm' ≠ [] → b ≠ M ∧ b ≠ r) : Tq w (W.setCell ⟨M, 0, none⟩ (.slice B' lm'.length k')) r M Q lt B' k' lm' x := by
  have g := grown_cell W M (.slice B' lm'.length k')
  exact ⟨h.tm.put hr ha, (g.block Q (Sm.lt_of h.act) (fun e => h.nm (Option.some.inj e))).trans h.act, h.nr, h.nm⟩
end
end Tr
set_option maxRecDepth 100000 in
set_option maxHeartbeats 8000000 in
theorem treePlays_any {w : World} (G : Tr.Gd w) {A : Option Addr} {a : List Tr.Ac} (c0 : Nat) (hit : Tr.actsAt w A a) :
    Calls Tryz.prog 9 #[.slice A a.length c0] w fun e w' => e = .returned (.bool true) ∧ Below w.heap.size w w' := by
  have AW : Hid (∀ wx : World, Below w.heap.size w wx → Calls Tryz.prog 41 #[] wx fun e w' => e = .returned (.bool true) ∧ Below wx.heap.size wx w') := fun wx hb => awake15_any (G.low hb)
  obtain ⟨g, hg⟩ := Tr.fairA_or a
  have HG := Lib.hid hg
  have HIT := Lib.hid hit
  have GR1 : Hid (Calls Tryz.prog 40 #[.slice A a.length c0] w fun e w' => e = .returned (.bool g) ∧ w = w') := great15_any HIT.out g HG.out
  have NEW : Hid (∀ wx : World, Below w.heap.size w wx → Calls Tryz.prog 16 #[] wx fun e w' => ∃ r, e = .returned (.pointer (some ⟨r, 0, none⟩)) ∧ Tr.Ow w w' r [] ∧ wx.heap.size ≤ r ∧ Below wx.heap.size wx w') := fun wx hb => Tr.newC G hb
  have SETC : Hid (∀ (wx : World) (r : Nat) (l : List Om.Pr) (p v : ByteArray), p.size ≤ 1000 → v.size ≤ 1000 → Tr.Ow w wx r l → Calls Tryz.prog 45 #[.pointer (some ⟨r, 0, none⟩), .string p, .string v] wx fun e w' => e = .returned (.int .i64 (Tr.setE l p v : Nat)) ∧ Tr.Ow w w' r (Tr.setR l p v) ∧ wx.grownBy w' (some r)) := fun wx r l p v hp hv h => h.setC G p v (by omega) (by omega)
  have DROPC : Hid (∀ (wx : World) (r : Nat) (l : List Om.Pr) (p : ByteArray), p.size ≤ 1000 → Tr.Ow w wx r l → Calls Tryz.prog 46 #[.pointer (some ⟨r, 0, none⟩), .string p] wx fun e w' => e = .returned (.bool (Om.get p l).isSome) ∧ Tr.Ow w w' r (Om.del p l) ∧ wx.grownBy w' (some r)) := fun wx r l p hp h => h.dropC G p (by omega)
  have ST : Hid (∀ (wx : World) (r : Nat) (l : List Om.Pr) (A : Option Addr) (c : Nat), Tr.Ow w wx r l → Om.listAt wx A l → Calls Tryz.prog 48 #[.pointer (some ⟨r, 0, none⟩), .slice A l.length c] wx fun e w' => e = .returned (.bool true) ∧ Below wx.heap.size wx w') := fun wx r l A c h hl => stands15_any G h c hl
  have small : ∀ {l : List Om.Pr}, Tr.Fit l → ∀ x ∈ l, x.p.size ≤ 1000000 := fun hf x hx => by have := Tr.fair_small hf hx; omega
  have GET : Hid (∀ (wx : World) (B : Option Addr) (k : Nat) (l : List Om.Pr) (p : ByteArray), Om.Ref wx B k l → Tr.Fit l → Calls Tryz.prog 42 #[.agg #[.slice B l.length k], .string p] wx fun e w' => (∃ s, e = .returned (.tuple #[.string s, .bool (Om.get p l).isSome])) ∧ Below wx.heap.size wx w') := fun wx B k l p h hf => r13GetF_any h hf p
  have WITH : Hid (∀ (wx : World) (B : Option Addr) (k : Nat) (l : List Om.Pr) (p v : ByteArray), Om.Ref wx B k l → Tr.Fit l → Calls Tryz.prog 44 #[.agg #[.slice B l.length k], .string p, .string v] wx fun e w' => ∃ B' k', e = .returned (.agg #[.slice B' (Om.put p v l).length k']) ∧ Om.Row w' wx.heap.size B' k' (Om.put p v l) ∧ Below wx.heap.size wx w') := fun wx B k l p v h hf => r13With_any h (by have := hf.len; omega) (small hf) p v
  have WOUT : Hid (∀ (wx : World) (B : Option Addr) (k : Nat) (l : List Om.Pr) (p : ByteArray), Om.Ref wx B k l → Tr.Fit l → Calls Tryz.prog 47 #[.agg #[.slice B l.length k], .string p] wx fun e w' => ∃ B' k', e = .returned (.agg #[.slice B' (Om.del p l).length k']) ∧ Om.Ref w' B' k' (Om.del p l) ∧ Om.Fresh wx B l B' (Om.del p l) ∧ Below wx.heap.size wx w') := fun wx B k l p h hf => r13Without_any h (by have := hf.len; omega) (small hf) p
  have CUT : Hid (∀ (wx : World) (p : ByteArray), p.size ≤ 1000 → Calls Tryz.prog 43 #[.string p] wx fun e w' => e = .returned (Pa.cutV p.data.toList) ∧ Below wx.heap.size wx w') := fun wx p hp => r11Cut_any wx p (by omega)
  clear hit hg G small
  cases g
  case true =>
    clear HG
    go_enter Tryz.func9, Tryz.ntmps9
    go_wp2_with first
      | (go_at_call 40; refine GR1.out.mono ?_; rintro e w2 ⟨rfl, rfl⟩; clear GR1)
      | (go_at_call 41; refine (AW.out _ (Below.refl _ _)).mono ?_; rintro e w3 ⟨rfl, k3⟩)
    go_ret
    exact ⟨rfl, k3⟩
  case false =>
    have HFA : Hid (Tr.FairA a) := Classical.byContradiction fun h => by have := HG.out.2 h; cases this
    clear HG
    go_enter Tryz.func9, Tryz.ntmps9
    go_upto_region 3 with (go_at_call 40; refine GR1.out.mono ?_; rintro e w2 ⟨rfl, rfl⟩; clear GR1)
    go_upto_region 4 with (go_at_call 16; refine (NEW.out _ (Below.refl _ _)).mono ?_; rintro e w3 ⟨r, rfl, o3, -, k3⟩)
    have O3 := Lib.hid o3
    clear o3 k3 NEW
    go_upto_region 5 with (fail)
    have T0 : Hid (Tr.Tm w (w3.alloc (.cells #[.slice none 0 0] 85)) r w3.heap.size [] none 0 []) := ⟨O3.out.step ((Below.refl _ w3).alloc (Nat.le_refl _) _), heap_alloc_new _ _, Om.Ref.nil _, O3.out.bel.size, Nat.ne_of_gt O3.out.tree.lt, fun b off e _ => by cases e⟩
    generalize w3.alloc (.cells #[.slice none 0 0] 85) = w4 at *
    generalize w3.heap.size = M at *
    clear O3
    go_wp2
    go_loopw [5] (fun s5 wr => ∃ i : Nat, s5 = .int .i64 i ∧ i ≤ a.length ∧ ∃ l B k, l = Tr.play [] (a.take i) ∧ Tr.Tm w wr r M l B k l) (fun s5 _ => a.length - (intOf s5).toNat)
    case atStart => exact ⟨0, rfl, Nat.zero_le _, [], none, 0, by rw [List.take_zero]; rfl, T0.out⟩
    case round =>
      clear T0
      obtain ⟨i, rfl, hi, l, B, k, hl, ht⟩ := hrel
      have hfit : Tr.Fit l := by rw [hl]; exact Tr.play_fit Tr.Fit.nil _
      have TM := Lib.hid ht
      have HL := Lib.hid hl
      have HF := Lib.hid hfit
      clear hl ht hfit
      by_cases hlt : i < a.length
      · have hii : (i : Int) < (a.length : Int) := by omega
        have HLT := Lib.hid hlt
        have hsuc : IntKind.i64.wrap ((i : Int) + 1) = ((i + 1 : Nat) : Int) := by have := HFA.out.1; simp [IntKind.wrap, IntKind.bits, IntKind.signed]; omega
        obtain ⟨ab, ao, rfl, _, x0, x1, x2⟩ := HIT.out.get TM.out.ow.bel i hlt
        obtain ⟨hxp, hxv⟩ := HFA.out.2 i hlt
        have hst : Tr.play [] (a.take (i + 1)) = Tr.act l a[i] := by rw [HL.out]; exact Tr.play_take hlt
        generalize a[i] = x at x0 x1 x2 hxp hxv hst
        have HST := Lib.hid hst
        have HXP := Lib.hid hxp
        have HXV := Lib.hid hxv
        clear hst hi hlt hxp hxv HL
        go_upto_region 9 with (fail)
        have Q7 : Hid (Tr.Tq w (wr.alloc (.cells #[.int .u8 (x.d : Int), .string x.p, .string x.v] 87)) r M wr.heap.size l B k l x) := ⟨TM.out.step ((Below.refl _ wr).alloc (Nat.le_refl _) _), heap_alloc_new _ _, Nat.ne_of_gt TM.out.ow.tree.lt, Nat.ne_of_gt (Sm.lt_of TM.out.box)⟩
        generalize wr.alloc (.cells #[.int .u8 (x.d : Int), .string x.p, .string x.v] 87) = w7 at *
        generalize wr.heap.size = Q at *
        clear x0 x1 x2 TM
        have G7 := Lib.hid (GET.out w7 B k l x.p Q7.out.tm.ref HF.out)
        obtain ⟨th, hth⟩ : ∃ b, b = (Om.get x.p l).isSome := ⟨_, rfl⟩
        rw [← hth] at G7
        have HTH := Lib.hid hth
        clear hth GET
        have y0 := Sm.cells_of Q7.out.act 0 _ rfl
        have y1 := Sm.cells_of Q7.out.act 1 _ rfl
        have y2 := Sm.cells_of Q7.out.act 2 _ rfl
        have z0 := Sm.cells_of Q7.out.tm.box 0 _ rfl
        have zf := Sm.free_of Q7.out.tm.box 0
        go_upto_region 10 with (go_at_call 42; refine G7.out.mono ?_; rintro e w8 ⟨⟨s, rfl⟩, k8⟩)
        have Q8 := Lib.hid (Q7.out.step k8)
        clear y0 y1 y2 z0 zf k8 Q7 G7
        have y0 := Sm.cells_of Q8.out.act 0 _ rfl
        have y1 := Sm.cells_of Q8.out.act 1 _ rfl
        have y2 := Sm.cells_of Q8.out.act 2 _ rfl
        have z0 := Sm.cells_of Q8.out.tm.box 0 _ rfl
        have zf := Sm.free_of Q8.out.tm.box 0
        have HNE8 : Hid (M ≠ r) := Q8.out.tm.ne
        by_cases hd0 : x.d = 0
        · have hd0i : ((x.d : Int) == 0) = true := by rw [hd0]; rfl
          have HD := Lib.hid hd0
          clear hd0 WOUT
          by_cases hok : Pa.ok x.p.data.toList = false
          · have CUT1 : Hid (∀ wx : World, Calls Tryz.prog 43 #[.string x.p] wx fun e w' => e = .returned (.tuple #[.string ⟨(Pa.cutA x.p.data.toList).toArray⟩, .string ⟨(Pa.cutB x.p.data.toList).toArray⟩, .bool false]) ∧ Below wx.heap.size wx w') := fun wx => by
              have := CUT.out wx x.p HXP.out
              unfold Pa.cutV at this
              rw [hok] at this
              exact this
            have hE : Tr.setE l x.p x.v = 20 := by unfold Tr.setE; rw [if_pos hok]
            have HAC : Hid (Tr.act l x = l) := by show _ = _; unfold Tr.act Tr.setR; rw [if_pos HD.out, hE]; rfl
            have SE : Hid (∀ wx : World, Tr.Ow w wx r l → Calls Tryz.prog 45 #[.pointer (some ⟨r, 0, none⟩), .string x.p, .string x.v] wx fun e w' => e = .returned (.int .i64 20) ∧ Tr.Ow w w' r l ∧ wx.grownBy w' (some r)) := fun wx h => by
              have := SETC.out wx r l x.p x.v HXP.out HXV.out h
              unfold Tr.setR at this
              rw [hE] at this
              exact this
            clear hE SETC DROPC
            go_upto_region 14 with (go_at_call 43; refine (CUT1.out _).mono ?_; rintro e w9 ⟨rfl, k9⟩)
            have Q9 := Lib.hid (Q8.out.step k9)
            clear y0 y1 y2 z0 zf k9 Q8
            have y0 := Sm.cells_of Q9.out.act 0 _ rfl
            have y1 := Sm.cells_of Q9.out.act 1 _ rfl
            have y2 := Sm.cells_of Q9.out.act 2 _ rfl
            have z0 := Sm.cells_of Q9.out.tm.box 0 _ rfl
            have zf := Sm.free_of Q9.out.tm.box 0
            go_wp2_with (go_at_call 45; refine (SE.out _ Q9.out.tm.ow).mono ?_; rintro e w12 ⟨rfl, o12, g12⟩; have Q12 := Lib.hid (Q9.out.tree o12 g12))
            go_roundw
            case rel => exact ⟨i + 1, rfl, HLT.out, l, B, k, by rw [HST.out, HAC.out], Q12.out.tm⟩
            case measure => simp only [intOf]; have := HLT.out; omega
          · have hok : Pa.ok x.p.data.toList = true := by simpa using hok
            have CUT1 : Hid (∀ wx : World, Calls Tryz.prog 43 #[.string x.p] wx fun e w' => e = .returned (.tuple #[.string ⟨(Pa.cutA x.p.data.toList).toArray⟩, .string ⟨(Pa.cutB x.p.data.toList).toArray⟩, .bool true]) ∧ Below wx.heap.size wx w') := fun wx => by
              have := CUT.out wx x.p HXP.out
              unfold Pa.cutV at this
              rw [hok] at this
              exact this
            by_cases hlong : 32 < x.v.size
            · have hli : (32 : Int) < (x.v.size : Int) := by omega
              have hli2 : (x.v.size : Int) > 32 := by omega
              have hE : Tr.setE l x.p x.v = 3 := by unfold Tr.setE; rw [if_neg (by rw [hok]; decide), if_pos hlong]
              have HAC : Hid (Tr.act l x = l) := by show _ = _; unfold Tr.act Tr.setR; rw [if_pos HD.out, hE]; rfl
              have SE : Hid (∀ wx : World, Tr.Ow w wx r l → Calls Tryz.prog 45 #[.pointer (some ⟨r, 0, none⟩), .string x.p, .string x.v] wx fun e w' => e = .returned (.int .i64 3) ∧ Tr.Ow w w' r l ∧ wx.grownBy w' (some r)) := fun wx h => by
                have := SETC.out wx r l x.p x.v HXP.out HXV.out h
                unfold Tr.setR at this
                rw [hE] at this
                exact this
              clear hE SETC DROPC
              go_upto_region 14 with (go_at_call 43; refine (CUT1.out _).mono ?_; rintro e w9 ⟨rfl, k9⟩)
              have Q9 := Lib.hid (Q8.out.step k9)
              clear y0 y1 y2 z0 zf k9 Q8
              have y0 := Sm.cells_of Q9.out.act 0 _ rfl
              have y1 := Sm.cells_of Q9.out.act 1 _ rfl
              have y2 := Sm.cells_of Q9.out.act 2 _ rfl
              have z0 := Sm.cells_of Q9.out.tm.box 0 _ rfl
              have zf := Sm.free_of Q9.out.tm.box 0
              go_wp2_with (go_at_call 45; refine (SE.out _ Q9.out.tm.ow).mono ?_; rintro e w12 ⟨rfl, o12, g12⟩; have Q12 := Lib.hid (Q9.out.tree o12 g12))
              go_roundw
              case rel => exact ⟨i + 1, rfl, HLT.out, l, B, k, by rw [HST.out, HAC.out], Q12.out.tm⟩
              case measure => simp only [intOf]; have := HLT.out; omega
            · have hli : ¬ (32 : Int) < (x.v.size : Int) := by omega
              have hli2 : ¬ (x.v.size : Int) > 32 := by omega
              by_cases hfull : th = false ∧ 48 ≤ l.length
              · obtain ⟨hf1, hf2⟩ := id hfull
                have hlen : (48 : Int) ≤ (l.length : Int) := by omega
                have hlen2 : (l.length : Int) ≥ 48 := by omega
                subst hf1
                have hE : Tr.setE l x.p x.v = 6 := by unfold Tr.setE; rw [if_neg (by rw [hok]; decide), if_neg hlong, if_pos ⟨by rw [← HTH.out], hfull.2⟩]
                have HAC : Hid (Tr.act l x = l) := by show _ = _; unfold Tr.act Tr.setR; rw [if_pos HD.out, hE]; rfl
                have SE : Hid (∀ wx : World, Tr.Ow w wx r l → Calls Tryz.prog 45 #[.pointer (some ⟨r, 0, none⟩), .string x.p, .string x.v] wx fun e w' => e = .returned (.int .i64 6) ∧ Tr.Ow w w' r l ∧ wx.grownBy w' (some r)) := fun wx h => by
                  have := SETC.out wx r l x.p x.v HXP.out HXV.out h
                  unfold Tr.setR at this
                  rw [hE] at this
                  exact this
                clear hE SETC DROPC
                go_upto_region 14 with (go_at_call 43; refine (CUT1.out _).mono ?_; rintro e w9 ⟨rfl, k9⟩)
                have Q9 := Lib.hid (Q8.out.step k9)
                clear y0 y1 y2 z0 zf k9 Q8
                have y0 := Sm.cells_of Q9.out.act 0 _ rfl
                have y1 := Sm.cells_of Q9.out.act 1 _ rfl
                have y2 := Sm.cells_of Q9.out.act 2 _ rfl
                have z0 := Sm.cells_of Q9.out.tm.box 0 _ rfl
                have zf := Sm.free_of Q9.out.tm.box 0
                go_wp2_with (go_at_call 45; refine (SE.out _ Q9.out.tm.ow).mono ?_; rintro e w12 ⟨rfl, o12, g12⟩; have Q12 := Lib.hid (Q9.out.tree o12 g12))
                go_roundw
                case rel => exact ⟨i + 1, rfl, HLT.out, l, B, k, by rw [HST.out, HAC.out], Q12.out.tm⟩
                case measure => simp only [intOf]; have := HLT.out; omega
              · cases th with
                | true =>
                  have hE : Tr.setE l x.p x.v = 0 := by unfold Tr.setE; rw [if_neg (by rw [hok]; decide), if_neg hlong, if_neg (by rw [← HTH.out]; exact hfull)]
                  have HAC : Hid (Tr.act l x = Om.put x.p x.v l) := by show _ = _; unfold Tr.act Tr.setR; rw [if_pos HD.out, hE]; rfl
                  have SE : Hid (∀ wx : World, Tr.Ow w wx r l → Calls Tryz.prog 45 #[.pointer (some ⟨r, 0, none⟩), .string x.p, .string x.v] wx fun e w' => e = .returned (.int .i64 0) ∧ Tr.Ow w w' r (Om.put x.p x.v l) ∧ wx.grownBy w' (some r)) := fun wx h => by
                    have := SETC.out wx r l x.p x.v HXP.out HXV.out h
                    unfold Tr.setR at this
                    rw [hE] at this
                    exact this
                  have HFP : Hid (Tr.Fit (Om.put x.p x.v l)) := Tr.put_fit HF.out hE
                  clear hE SETC DROPC
                  go_upto_region 14 with (go_at_call 43; refine (CUT1.out _).mono ?_; rintro e w9 ⟨rfl, k9⟩)
                  have Q9 := Lib.hid (Q8.out.step k9)
                  clear y0 y1 y2 z0 zf k9 Q8
                  have y0 := Sm.cells_of Q9.out.act 0 _ rfl
                  have y1 := Sm.cells_of Q9.out.act 1 _ rfl
                  have y2 := Sm.cells_of Q9.out.act 2 _ rfl
                  have z0 := Sm.cells_of Q9.out.tm.box 0 _ rfl
                  have zf := Sm.free_of Q9.out.tm.box 0
                  have W9 := Lib.hid (WITH.out w9 B k l x.p x.v Q9.out.tm.ref HF.out)
                  go_upto_region 21 with (go_at_call 44; refine W9.out.mono ?_; rintro e w10 ⟨B', k', rfl, r10, k10⟩; have Q10 := Lib.hid (Q9.out.step k10); have z0 := Sm.cells_of Q10.out.tm.box 0 _ rfl; have zf := Sm.free_of Q10.out.tm.box 0)
                  have Q11 : Hid (Tr.Tq w (w10.setCell ⟨M, 0, none⟩ (.slice B' (Om.put x.p x.v l).length k')) r M Q l B' k' (Om.put x.p x.v l) x) := Q10.out.put ⟨r10.listAt, r10.cap⟩ (fun b off e _ => ⟨by have h1 := r10.apart b off e; have h2 := Sm.lt_of Q9.out.tm.box; omega, by have h1 := r10.apart b off e; have h3 := Q9.out.tm.ow.tree.lt; omega⟩)
                  generalize w10.setCell ⟨M, 0, none⟩ (.slice B' (Om.put x.p x.v l).length k') = w11 at *
                  clear k10 r10 Q10 Q9 W9
                  clear y0 y1 y2
                  have y0 := Sm.cells_of Q11.out.act 0 _ rfl
                  have y1 := Sm.cells_of Q11.out.act 1 _ rfl
                  have y2 := Sm.cells_of Q11.out.act 2 _ rfl
                  have z1 := Sm.cells_of Q11.out.tm.box 0 _ rfl
                  have zf1 := Sm.free_of Q11.out.tm.box 0
                  go_wp2_with (go_at_call 45; refine (SE.out _ Q11.out.tm.ow).mono ?_; rintro e w12 ⟨rfl, o12, g12⟩; have Q12 := Lib.hid (Q11.out.tree o12 g12))
                  go_roundw
                  case rel => exact ⟨i + 1, rfl, HLT.out, _, B', k', by rw [HST.out, HAC.out], Q12.out.tm⟩
                  case measure => simp only [intOf]; have := HLT.out; omega
                | false =>
                  have hlen : ¬ (48 : Int) ≤ (l.length : Int) := fun h => hfull ⟨rfl, by omega⟩
                  have hlen2 : ¬ (l.length : Int) ≥ 48 := fun h => hfull ⟨rfl, by omega⟩
                  have hE : Tr.setE l x.p x.v = 0 := by unfold Tr.setE; rw [if_neg (by rw [hok]; decide), if_neg hlong, if_neg (by rw [← HTH.out]; exact hfull)]
                  have HAC : Hid (Tr.act l x = Om.put x.p x.v l) := by show _ = _; unfold Tr.act Tr.setR; rw [if_pos HD.out, hE]; rfl
                  have SE : Hid (∀ wx : World, Tr.Ow w wx r l → Calls Tryz.prog 45 #[.pointer (some ⟨r, 0, none⟩), .string x.p, .string x.v] wx fun e w' => e = .returned (.int .i64 0) ∧ Tr.Ow w w' r (Om.put x.p x.v l) ∧ wx.grownBy w' (some r)) := fun wx h => by
                    have := SETC.out wx r l x.p x.v HXP.out HXV.out h
                    unfold Tr.setR at this
                    rw [hE] at this
                    exact this
                  have HFP : Hid (Tr.Fit (Om.put x.p x.v l)) := Tr.put_fit HF.out hE
                  clear hE SETC DROPC
                  go_upto_region 14 with (go_at_call 43; refine (CUT1.out _).mono ?_; rintro e w9 ⟨rfl, k9⟩)
                  have Q9 := Lib.hid (Q8.out.step k9)
                  clear y0 y1 y2 z0 zf k9 Q8
                  have y0 := Sm.cells_of Q9.out.act 0 _ rfl
                  have y1 := Sm.cells_of Q9.out.act 1 _ rfl
                  have y2 := Sm.cells_of Q9.out.act 2 _ rfl
                  have z0 := Sm.cells_of Q9.out.tm.box 0 _ rfl
                  have zf := Sm.free_of Q9.out.tm.box 0
                  have W9 := Lib.hid (WITH.out w9 B k l x.p x.v Q9.out.tm.ref HF.out)
                  go_upto_region 21 with (go_at_call 44; refine W9.out.mono ?_; rintro e w10 ⟨B', k', rfl, r10, k10⟩; have Q10 := Lib.hid (Q9.out.step k10); have z0 := Sm.cells_of Q10.out.tm.box 0 _ rfl; have zf := Sm.free_of Q10.out.tm.box 0)
                  have Q11 : Hid (Tr.Tq w (w10.setCell ⟨M, 0, none⟩ (.slice B' (Om.put x.p x.v l).length k')) r M Q l B' k' (Om.put x.p x.v l) x) := Q10.out.put ⟨r10.listAt, r10.cap⟩ (fun b off e _ => ⟨by have h1 := r10.apart b off e; have h2 := Sm.lt_of Q9.out.tm.box; omega, by have h1 := r10.apart b off e; have h3 := Q9.out.tm.ow.tree.lt; omega⟩)
                  generalize w10.setCell ⟨M, 0, none⟩ (.slice B' (Om.put x.p x.v l).length k') = w11 at *
                  clear k10 r10 Q10 Q9 W9
                  clear y0 y1 y2
                  have y0 := Sm.cells_of Q11.out.act 0 _ rfl
                  have y1 := Sm.cells_of Q11.out.act 1 _ rfl
                  have y2 := Sm.cells_of Q11.out.act 2 _ rfl
                  have z1 := Sm.cells_of Q11.out.tm.box 0 _ rfl
                  have zf1 := Sm.free_of Q11.out.tm.box 0
                  go_wp2_with (go_at_call 45; refine (SE.out _ Q11.out.tm.ow).mono ?_; rintro e w12 ⟨rfl, o12, g12⟩; have Q12 := Lib.hid (Q11.out.tree o12 g12))
                  go_roundw
                  case rel => exact ⟨i + 1, rfl, HLT.out, _, B', k', by rw [HST.out, HAC.out], Q12.out.tm⟩
                  case measure => simp only [intOf]; have := HLT.out; omega
        · have hd0i : ((x.d : Int) == 0) = false := by
            cases h : ((x.d : Int) == 0) with
            | false => rfl
            | true => exact absurd (by have := beq_iff_eq.1 h; omega) hd0
          clear SETC WITH CUT
          by_cases hd1 : x.d = 1
          · have hd1i : ((x.d : Int) == 1) = true := by rw [hd1]; rfl
            have HAC : Hid (Tr.act l x = Om.del x.p l) := by show _ = _; unfold Tr.act; rw [if_neg hd0, if_pos hd1]
            have DR : Hid (∀ wx : World, Tr.Ow w wx r l → Calls Tryz.prog 46 #[.pointer (some ⟨r, 0, none⟩), .string x.p] wx fun e w' => e = .returned (.bool th) ∧ Tr.Ow w w' r (Om.del x.p l) ∧ wx.grownBy w' (some r)) := fun wx h => by rw [HTH.out]; exact DROPC.out wx r l x.p HXP.out h
            have hxx : (th != th) = false := by cases th <;> rfl
            clear hd0 hd1 DROPC
            go_upto_region 26 with (go_at_call 46; refine (DR.out _ Q8.out.tm.ow).mono ?_; rintro e w9 ⟨rfl, o9, g9⟩)
            have Q9 := Lib.hid (Q8.out.tree o9 g9)
            clear y0 y1 y2 z0 zf o9 g9
            have y0 := Sm.cells_of Q9.out.act 0 _ rfl
            have y1 := Sm.cells_of Q9.out.act 1 _ rfl
            have y2 := Sm.cells_of Q9.out.act 2 _ rfl
            have z0 := Sm.cells_of Q9.out.tm.box 0 _ rfl
            have zf := Sm.free_of Q9.out.tm.box 0
            have W9 := Lib.hid (WOUT.out w9 B k l x.p Q9.out.tm.ref HF.out)
            go_wp2_with (go_at_call 47; refine W9.out.mono ?_; rintro e w10 ⟨B', k', rfl, r10, f10, k10⟩; have Q10 := Lib.hid (Q9.out.step k10); have z1 := Sm.cells_of Q10.out.tm.box 0 _ rfl; have zf1 := Sm.free_of Q10.out.tm.box 0)
            have Q11 : Hid (Tr.Tq w (w10.setCell ⟨M, 0, none⟩ (.slice B' (Om.del x.p l).length k')) r M Q (Om.del x.p l) B' k' (Om.del x.p l) x) := Q10.out.put r10 (fun b off e hn => by
              have h2 := Sm.lt_of Q9.out.tm.box
              have h3 := Q9.out.tm.ow.tree.lt
              rcases f10 b off e hn with h | h
              · exact ⟨by omega, by omega⟩
              · exact Q9.out.tm.apart b off h.1 h.2)
            go_roundw
            case rel => exact ⟨i + 1, rfl, HLT.out, _, B', k', by rw [HST.out, HAC.out], Q11.out.tm⟩
            case measure => simp only [intOf]; have := HLT.out; omega
          · have hd1i : ((x.d : Int) == 1) = false := by
              cases h : ((x.d : Int) == 1) with
              | false => rfl
              | true => exact absurd (by have := beq_iff_eq.1 h; omega) hd1
            have HAC : Hid (Tr.act l x = l) := by show _ = _; unfold Tr.act; rw [if_neg hd0, if_neg hd1]
            clear hd0 hd1 DROPC WOUT
            go_wp2
            go_roundw
            case rel => exact ⟨i + 1, rfl, HLT.out, l, B, k, by rw [HST.out, HAC.out], Q8.out.tm⟩
            case measure => simp only [intOf]; have := HLT.out; omega
      · have hii : ¬ (i : Int) < (a.length : Int) := by omega
        have z0 := Sm.cells_of TM.out.box 0 _ rfl
        have S1 := Lib.hid (ST.out _ r l B k TM.out.ow TM.out.ref.1)
        go_wp2_with first
          | (go_at_call 48; refine S1.out.mono ?_; rintro e w9 ⟨rfl, k9⟩; have O9 := Lib.hid (TM.out.ow.step k9); clear k9)
          | (go_at_call 41; refine (AW.out _ O9.out.bel).mono ?_; rintro e w10 ⟨rfl, k10⟩)
        go_ret
        exact ⟨rfl, O9.out.bel.trans (k10.mono O9.out.bel.size)⟩
end Go.Proofs.YtiehcplepneajaaGreatDoor
