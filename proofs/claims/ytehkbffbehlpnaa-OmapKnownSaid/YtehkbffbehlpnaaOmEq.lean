/-
  Two pairs compared; maps.Equal; omap's Same.
-/
import Derived.Test.YtehkbffbehlpnaaOmFns
import Derived.Test.YtehkbffbehlpnaaOmActs
import Derived.Deep.LoopGhost
namespace Go.Proofs.Ytehkbffbehlpnaa
open Go.RowKit Go.Maps
namespace Om
def eqb (x y : Pr) : Bool := x.p.toList == y.p.toList && x.v.toList == y.v.toList
theorem ba_same {a b : ByteArray} : (a.toList == b.toList) = true ↔ a = b := by
  rw [Lib.toList_data, Lib.toList_data]
  constructor
  · intro h
    have h' : a.data.toList = b.data.toList := by simpa using h
    exact ByteArray.ext (Array.ext' h')
  · intro h; subst h; simp
theorem eqb_iff {x y : Pr} : eqb x y = true ↔ x = y := by
  obtain ⟨p, v⟩ := x
  obtain ⟨p', v'⟩ := y
  unfold eqb
  rw [Bool.and_eq_true]
  constructor
  · rintro ⟨h2, h3⟩
    have e2 : p = p' := ba_same.1 h2
    have e3 : v = v' := ba_same.1 h3
    rw [e2, e3]
  · intro h
    injection h with h2 h3
    subst h2 h3
    exact ⟨ba_same.2 rfl, ba_same.2 rfl⟩
theorem pre_check : (match (Try.prog.fieldsOf 62).toList with
    | [b, c] => decide ((b.name ≠ "_" ∧ c.name ≠ "_") ∧ (b.type = 9 ∧ c.type = 9) ∧ (b.offset = 0 ∧ c.offset = 1))
    | _ => false) = true := by kernel_rfl
theorem pre_und : Try.prog.underlying 62 = some (.struct (Try.prog.fieldsOf 62)) := by kernel_rfl
theorem pre_in : Try.prog.stoodInHeld 62 = false := by kernel_rfl
theorem eq_pair (x y : Pr) (w : World) : (Go.Op.equalIn 10000 62 (.agg #[.string x.p, .string x.v]) (.agg #[.string y.p, .string y.v])).run Try.prog w = .ok (eqb x y) w := by
  rw [run_equalIn_struct w 9999 62 _ _ pre_und pre_in]
  have hc := pre_check
  split at hc
  · rename_i b c hl
    rw [hl]
    simp only [decide_eq_true_eq] at hc
    obtain ⟨⟨n1, n2⟩, ⟨t1, t2⟩, o1, o2⟩ := hc
    have p1 : ∀ z : Pr, (Go.part 9 #[.string z.p, .string z.v] 0).run Try.prog w = .ok (.string z.p) w := fun z => by simp [Go.part]
    have p2 : ∀ z : Pr, (Go.part 9 #[.string z.p, .string z.v] 1).run Try.prog w = .ok (.string z.v) w := fun z => by simp [Go.part]
    have e1 := run_equalIn_string w 9998 9 x.p y.p Try.underlying9
    have e2 := run_equalIn_string w 9998 9 x.v y.v Try.underlying9
    simp only [Go.Op.eqFields, n1, n2, t1, t2, o1, o2, ne_eq, not_false_eq_true, if_true, Sem.run_bind, p1, p2, Result.andThen_ok, Sem.run_ite, Sem.run_pure, e1, e2]
    unfold eqb
    cases x.p.toList == y.p.toList <;> cases x.v.toList == y.v.toList <;> simp
  · exact absurd hc (by decide)
theorem pre_guard : Try.prog.eqGuardType Try.prog.depth 62 = false := by kernel_rfl
theorem yields_neq {ops : Array Oper} {S : World → Prop} {op : Oper} {a : Act} (hw : Region.wanted op (yielded ops a.tmps) = true) (t2 : TypeId) (p q : Operand) (ho : op.op = .binOp .neq 62 p q t2) (x y : Pr)
    (hp : a.eval p = .agg #[.string x.p, .string x.v]) (hq : a.eval q = .agg #[.string y.p, .string y.v]) : YieldsIf Try.prog ops S op (.bool (!eqb x y)) a :=
  .inl ⟨hw, fun w _ => by
    unfold execOp
    simp only [ho, Sem.run_bind, hp, hq, run_eqGuard_agg w .neq 62 p q _ _ pre_guard, run_neq_struct, eq_pair x y w, Result.andThen_ok, Sem.run_pure]⟩
theorem wpList_neq_pair {o : Oper} {a : Act} {w : World} {Q : Exit → Act → World → Prop} {ops : Array Oper} {rest : List Oper} (t2 : TypeId) (p q : Operand) (ho : o.op = .binOp .neq 62 p q t2) (x y : Pr)
    (hp : a.eval p = .agg #[.string x.p, .string x.v]) (hq : a.eval q = .agg #[.string y.p, .string y.v]) (h : wpList Try.prog ops Q rest (a.put o.dst (.bool (!eqb x y))) w) (hgd : Region.wanted o (yielded ops a.tmps) = true) : wpList Try.prog ops Q (o :: rest) a w :=
  wpList_step fun L hL => by
    rw [if_pos hgd]
    unfold Oper.wp execOp
    simp only [ho, Sem.run_bind, hp, hq, run_eqGuard_agg w .neq 62 p q _ _ pre_guard, run_neq_struct, eq_pair x y w, Result.andThen_ok, Sem.run_pure]
    exact hL _ _ h
theorem wpList_eql_pair {o : Oper} {a : Act} {w : World} {Q : Exit → Act → World → Prop} {ops : Array Oper} {rest : List Oper} (t2 : TypeId) (p q : Operand) (ho : o.op = .binOp .eql 62 p q t2) (x y : Pr)
    (hp : a.eval p = .agg #[.string x.p, .string x.v]) (hq : a.eval q = .agg #[.string y.p, .string y.v]) (h : wpList Try.prog ops Q rest (a.put o.dst (.bool (eqb x y))) w) (hgd : Region.wanted o (yielded ops a.tmps) = true) : wpList Try.prog ops Q (o :: rest) a w :=
  wpList_step fun L hL => by
    rw [if_pos hgd]
    unfold Oper.wp execOp
    simp only [ho, Sem.run_bind, hp, hq, run_eqGuard_agg w .eql 62 p q _ _ pre_guard, run_eql_struct, eq_pair x y w, Result.andThen_ok, Sem.run_pure]
    exact hL _ _ h
end Om
set_option maxRecDepth 100000 in
set_option maxHeartbeats 4000000 in
/-- maps.Equal. -/
theorem mapsEqualPair_any {w : World} {m1 m2 : Option Nat} {l1 l2 : List Om.Pr} (h1 : Om.HasP w m1 l1) (h2 : Om.HasP w m2 l2) (hlen : l1.length ≤ 4096) (g : Bool) (hg : g = true ↔ l1 = l2) :
    Calls Try.prog 53 #[.map m1, .map m2] w fun e w' => e = .returned (.bool g) ∧ Below w.heap.size w w' := by
  have n1 := fun ty => h1.len Try.underlying69 ty
  have n2 := fun ty => h2.len Try.underlying69 ty
  by_cases hll : l1.length = l2.length
  · have hi1 : (l1.length : Int) = (l2.length : Int) := by omega
    rcases h1 with ⟨rfl, rfl⟩ | ⟨b, rfl, h1⟩
    · have e2 : l2 = [] := List.eq_nil_of_length_eq_zero hll.symm
      have hg' : g = true := hg.2 e2.symm
      subst hg'
      have hrg := run_range_nilMap (P := Try.prog) w 69 _ _ Try.underlying69
      have hnx : ∀ ty, (Instr.next (.pointer (some ⟨w.heap.size, 0, none⟩)) false ty).run Try.prog (w.alloc (.mapIter none 0 #[] 0)) = _ := fun ty => run_next_nilMap _ ty 0 0 #[]
      clear h2 hg hlen e2
      go_enter Try.func53, Try.ntmps53
      go_wp2
      refine wp_loop_rounds 1 ?_
      rw [rounds_succ]
      go_wp2
      go_ret
      exact ⟨rfl, (Below.refl _ w).alloc (Nat.le_refl _) _⟩
    · have hR1 := h1.rises
      have hR2 := h2.rises
      obtain ⟨w0, hrun, hrg0, hg0, hs0⟩ := h1.range Try.underlying9 Try.underlying69
      have hsub : (∀ x ∈ l1, Om.get x.p l2 = some x.v) → l1 = l2 := Om.sub_eq hR1 hR2 hll
      have HSUB := Lib.hid hsub
      have H2 := Lib.hid h2
      have HG := Lib.hid hg
      have HR0 := Lib.hid hrg0
      have HB0 : Hid (Below w.heap.size w w0) := (Below.refl _ w).grown hg0 (Nat.le_refl _) (fun k hk => by cases hk)
      have HRI := Lib.hid hR1
      have HRJ := Lib.hid hR2
      have hrun' := hrun
      clear hrun
      clear h1 h2 hg0 hrg0 hR1 hR2 hg hlen hll hsub
      go_enter Try.func53, Try.ntmps53
      go_wp2
      obtain ⟨N, hN⟩ : ∃ N, N = w.heap.size := ⟨_, rfl⟩
      rw [← hN] at HR0 HB0 hrun' ⊢
      have HN := Lib.hid hN
      clear hN hs0 hrun' n1 n2 hi1
      go_loopw [16] (fun _ wr => ∃ (left : ByteArray → Bool) (cnt : Nat), Om.RangeAt Try.prog 9 wr b N l1 left cnt ∧ (∀ x ∈ l1, left x.p = false → Om.get x.p l2 = some x.v) ∧ Below N w wr) (fun _ wr => wr.rangeLeft b N)
      case atStart =>
        refine ⟨_, l1.length, HR0.out, fun x hx hl => ?_, HB0.out⟩
        rw [(Om.get_mem HRI.out x.v).2 hx] at hl
        cases hl
      case round =>
        clear HR0 HB0
        obtain ⟨left, cnt, hrg, hget, hb⟩ := hrel
        have HRG := Lib.hid hrg
        have HGET := Lib.hid hget
        have HB := Lib.hid hb
        rcases hrg.next Try.underlying9 0 with ⟨hall, hnext⟩ | ⟨p, v, w2, cnt2, hl, hF, hp, hnext, hrg2, hlt, hg2, hs2, hen⟩
        · have e : l1 = l2 := HSUB.out fun x hx => HGET.out x hx (hall x.p)
          have hg' : g = true := HG.out.2 e
          have HGG := Lib.hid hg'
          clear hrg hget hb hall hg' e
          go_wp2
          go_ret
          rw [HGG.out, ← HN.out]
          exact ⟨rfl, HB.out⟩
        · have hb2 : Below N w w2 := hb.grown hg2 (by rw [HN.out]; exact hb.size) (fun k hk => by cases hk; exact Nat.le_refl _)
          have hB2 : N ≤ w2.heap.size := by rw [HN.out]; exact hb2.size
          have gn := heap_alloc_new w2 (.cells #[.string p, .string v] 62)
          have hrgN := hrg2.lt
          have hrg3 : Om.RangeAt Try.prog 9 (w2.alloc (.cells #[.string p, .string v] 62)) b N l1 (fun q => left q && !decide (q = p)) cnt2 := hrg2.block (Below.heap_alloc _ _ _ hrg2.map.lt) (Below.heap_alloc _ _ _ hrgN)
          have hb3 : Below N w (w2.alloc (.cells #[.string p, .string v] 62)) := hb2.alloc hB2 _
          obtain ⟨w3, hw3⟩ : ∃ w3, w3 = w2.alloc (.cells #[.string p, .string v] 62) := ⟨_, rfl⟩
          rw [← hw3] at gn hrg3 hb3
          have h23 : Om.HasP w3 m2 l2 := H2.out.block fun k hk => hb3.block k (by rw [HN.out]; exact H2.out.lt hk)
          have hlk := h23.look_ok Try.underlying9 Try.underlying69 (Om.zero_pair w3) hp
          have x0 := Sm.cells_of gn 0 _ rfl
          have x1 := Sm.cells_of gn 1 _ rfl
          have gnl := Sm.lt_of gn
          have HW3 := Lib.hid hw3
          have HRG3 := Lib.hid hrg3
          have HB3 := Lib.hid hb3
          have HLT := Lib.hid hlt
          have HLQ := Lib.hid hF
          have HGN := Lib.hid gn
          clear hrg hget hb hl hF hrg2 hlt hg2 hb2 hB2 hrgN hrg3 hb3 h23 gn hs2
          cases hq : Om.get p l2 with
          | none =>
            rw [hq, Om.lookV_none _ hq] at hlk
            have hne : ¬ l1 = l2 := fun e => by have := HLQ.out; rw [e, hq] at this; cases this
            have hg' : g = false := by
              cases hgg : g with
              | false => rfl
              | true => exact absurd (HG.out.1 hgg) hne
            have HGG := Lib.hid hg'
            unfold Om.zeroP at hlk
            clear hne hg' hq
            go_upto_region 6 with (fail)
            rw [← hw3]
            clear hw3
            go_wp2
            go_ret
            rw [HGG.out, ← HN.out]
            exact ⟨rfl, HB3.out.alloc (by rw [HN.out]; exact HB3.out.size) _⟩
          | some u =>
            rw [hq, Om.lookV_some _ hq] at hlk
            unfold Om.val at hlk
            obtain ⟨eb, heb⟩ : ∃ eb, eb = Om.eqb ⟨p, v⟩ ⟨p, u⟩ := ⟨_, rfl⟩
            have HQ := Lib.hid hq
            have gm := heap_alloc_new w3 (.cells #[.string p, .string u] 62)
            have y0 := Sm.cells_of gm 0 _ rfl
            have y1 := Sm.cells_of gm 1 _ rfl
            have x0' := (Below.refl w3.heap.size w3).alloc (Nat.le_refl _) (.cells #[.string p, .string u] 62) |>.cell (p := ⟨w2.heap.size, 0, none⟩) gnl
            have x1' := (Below.refl w3.heap.size w3).alloc (Nat.le_refl _) (.cells #[.string p, .string u] 62) |>.cell (p := ⟨w2.heap.size, 1, none⟩) gnl
            rw [x0] at x0'
            rw [x1] at x1'
            have HRG4 : Hid (Om.RangeAt Try.prog 9 (w3.alloc (.cells #[.string p, .string u] 62)) b N l1 (fun q => left q && !decide (q = p)) cnt2) := HRG3.out.block (Below.heap_alloc _ _ _ HRG3.out.map.lt) (Below.heap_alloc _ _ _ HRG3.out.lt)
            have HB4 : Hid (Below N w (w3.alloc (.cells #[.string p, .string u] 62))) := HB3.out.alloc (by rw [HN.out]; exact HB3.out.size) _
            clear hq gm
            go_upto_region 6 with (fail)
            rw [← hw3]
            clear hw3
            cases eb with
            | false =>
              have hvu : ¬ v = u := fun e => by
                rw [Om.eqb_iff.2 (by rw [e])] at heb; cases heb
              have hne : ¬ l1 = l2 := fun e => by
                have h1 := HLQ.out
                have h2 := HQ.out
                rw [e, h2] at h1
                exact hvu (Option.some.inj h1).symm
              have hg' : g = false := by
                cases hgg : g with
                | false => rfl
                | true => exact absurd (HG.out.1 hgg) hne
              have HGG := Lib.hid hg'
              have HEB := Lib.hid heb
              clear heb hvu hne hg'
              go_wp2_with (refine Om.wpList_neq_pair _ _ _ rfl ⟨p, v⟩ ⟨p, u⟩ rfl rfl ?_ (by kernel_rfl); rw [← HEB.out])
              go_ret
              rw [HGG.out, ← HN.out]
              exact ⟨rfl, HB4.out⟩
            | true =>
              have HVU : Hid (v = u) := by
                have := Om.eqb_iff.1 heb.symm
                injection this with _ e
              have HEB := Lib.hid heb
              clear heb
              go_wp2_with (refine Om.wpList_neq_pair _ _ _ rfl ⟨p, v⟩ ⟨p, u⟩ rfl rfl ?_ (by kernel_rfl); rw [← HEB.out])
              go_roundw
              case rel =>
                refine ⟨_, cnt2, HRG4.out, fun x hx hl => ?_, HB4.out⟩
                by_cases hxp : x.p = p
                · rw [hxp, HQ.out, ← HVU.out]
                  have h1 := HLQ.out
                  rw [← hxp, (Om.get_mem HRI.out x.v).2 hx] at h1
                  exact h1.symm
                · exact HGET.out x hx (by simpa [hxp] using hl)
              case measure => rw [HRG4.out.left_eq, HRG.out.left_eq]; exact HLT.out
  · have hi1 : ¬ (l1.length : Int) = (l2.length : Int) := by omega
    have hg' : g = false := by
      cases hgg : g with
      | false => rfl
      | true => exact absurd (by rw [hg.1 hgg]) hll
    subst hg'
    clear h1 h2 hg hlen hll
    go_enter Try.func53, Try.ntmps53
    go_wp2
    go_ret
    exact ⟨rfl, Below.refl _ _⟩
set_option maxRecDepth 100000 in
theorem omSame_any {w : World} {v1 v2 : Value} {m1 m2 : Option Nat} {l1 l2 : List Om.Pr} (h1 : Om.Ptr w v1 m1 l1) (h2 : Om.Ptr w v2 m2 l2) (hlen : l1.length ≤ 4096) (g : Bool) (hg : g = true ↔ l1 = l2) :
    Calls Try.prog 33 #[v1, v2] w fun e w' => e = .returned (.bool g) ∧ Below w.heap.size w w' := by
  have C1 := Lib.hid (omHas_any h1)
  have C2 := Lib.hid (omHas_any h2)
  have E := Lib.hid (mapsEqualPair_any h1.has h2.has hlen g hg)
  clear h1 h2 hg
  go_enter Try.func33, Try.ntmps33
  go_wp2_with first | (go_at_call 46; with_reducible refine C1.out.mono ?_; rintro e w' ⟨rfl, rfl⟩) | (go_at_call 46; with_reducible refine C2.out.mono ?_; rintro e w' ⟨rfl, rfl⟩) | (go_at_call 53; refine E.out.mono ?_; rintro e w1 ⟨rfl, hb⟩)
  go_ret
  exact ⟨rfl, hb⟩
end Go.Proofs.Ytehkbffbehlpnaa
