/-
  NetPlays: a net tells what the document says.
-/
import Derived.Test.YtimbcmcmidnlfaaNtDoes
import Derived.Deep.CutRange
namespace Go.Proofs.Ytimbcmcmidnlfaa
open Go.RowKit
namespace Nt
theorem flat_put : ∀ {l : List Pk} {j : Nat} (h : j < l.length) (d : ByteArray), flat (l.set j ⟨l[j].f, l[j].t, d⟩) = (flat l).set (j * 3 + 2) (.string d)
  | [], _, h, _ => by simp at h
  | p :: l, 0, _, d => by simp [flat, Pk.cells]
  | p :: l, j + 1, h, d => by
    have ih := flat_put (l := l) (j := j) (by simpa using h) d
    simp only [List.set_cons_succ, List.getElem_cons_succ, flat, List.flatMap_cons] at ih ⊢
    rw [ih, List.set_append_right _ _ (by simp [Pk.cells]; omega), show (j + 1) * 3 + 2 - (Pk.cells p).length = j * 3 + 2 by simp [Pk.cells]; omega]
/-- A packet's bytes are turned, in a row. -/
theorem PksAt.setData {w : World} {B g n c : Nat} {l : List Pk} (h : PksAt w B (.slice (some ⟨g, 0, none⟩) n c) l) {j : Nat} (hj : j < l.length) (d : ByteArray) : PksAt (w.setCell ⟨g, j * 3 + 2, none⟩ (.string d)) B (.slice (some ⟨g, 0, none⟩) n c) (l.set j ⟨l[j].f, l[j].t, d⟩) := by
  rcases h.2 with ⟨e, _⟩ | ⟨g', cap, cur, e, hb, hg, h1, h2, h3, h4⟩
  · cases e
  · simp only [Value.slice.injEq, Option.some.injEq, Addr.mk.injEq] at e
    obtain ⟨⟨rfl, _⟩, rfl, rfl⟩ := e
    refine ⟨by rw [flat_length], .inr ⟨g, c, _, by rw [List.length_set], hb, Sm.heap_set hg _ _, by rw [List.length_set]; exact h1, h2, by simpa using h3, ?_⟩⟩
    rw [List.length_set, flat_put hj, ← h4, Array.toList_setIfInBounds, List.take_set]
end Nt
set_option maxRecDepth 100000 in
set_option maxHeartbeats 16000000 in
theorem netplays_any (W : World) (A : Option Addr) (c : Nat) (l : List Nt.Ac) (hl : l.length ≤ 9223372036854775807) (hit : Nt.listAt W A l) (hs : ∀ a ∈ l, a.Ok) :
    Calls Try.prog 4 #[.slice A l.length c] W fun e w' => e = .returned (.bool true) ∧ Below W.heap.size W w' := by
  have AW := Lib.hid (awake8_any W)
  obtain ⟨g, hg⟩ := Nt.great_fair l
  have GR : Hid (∀ wx : World, Below W.heap.size W wx → Calls Try.prog 18 #[.slice A l.length c] wx fun e w' => e = .returned (.bool g) ∧ wx = w') := fun wx hx => great8_any hl (hit.below hx) hs g hg
  cases g with
  | true =>
    clear hit hs hg
    go_enter Try.func4, Try.ntmps4
    go_wp2_with fail
    refine (AW.out).mono ?_
    rintro e w1 ⟨rfl, b1⟩
    go_wp2_with fail
    refine (GR.out w1 b1).mono ?_
    rintro e w2 ⟨rfl, rfl⟩
    go_wp2
    go_ret
    exact ⟨rfl, b1⟩
  | false =>
    have hf : Nt.Fair l := by
      by_cases h : Nt.Fair l
      · exact h
      · have := hg.2 h; cases this
    have HF := Lib.hid hf
    have HIT := Lib.hid hit
    have HS := Lib.hid hs
    have h300 := hf.1
    clear hit hs hg hf
    go_enter Try.func4, Try.ntmps4
    go_wp2_with fail
    refine (AW.out).mono ?_
    rintro e w1 ⟨rfl, b1⟩
    go_wp2_with fail
    refine (GR.out w1 b1).mono ?_
    rintro e w2 ⟨rfl, rfl⟩
    go_wp2_with fail
    refine (ntNew_any b1 (Nat.le_refl _)).mono ?_
    rintro e w3 ⟨rfl, o3, -⟩
    clear b1 GR AW
    go_upto_region 9 with (fail)
    have b4 : Below w3.heap.size w3 (w3.alloc (.cells #[.slice none 0 0, .bool false] 39)) := (Below.refl _ w3).alloc (Nat.le_refl _) _
    have O4 : Hid (Nt.Both W.heap.size W (w3.alloc (.cells #[.slice none 0 0, .bool false] 39)) w1.heap.size w3.heap.size (.slice none 0 0) Nt.Non Nt.new Nt.new) :=
      ⟨o3.label b4 (fun q hq => by rcases hq with hq | hq; cases hq; exact hq.elim), heap_alloc_new w3 _, World.ownsRow_nil _ _ _ _, Nt.ok_new, o3.size, fun q hq => hq.elim⟩
    obtain ⟨rw_, hrw⟩ : ∃ n, n = w3.heap.size := ⟨_, rfl⟩
    obtain ⟨r, hr⟩ : ∃ n, n = w1.heap.size := ⟨_, rfl⟩
    rw [← hrw, ← hr] at O4 ⊢
    clear o3 b4 hrw hr
    generalize w3.alloc (.cells #[.slice none 0 0, .bool false] 39) = w4 at *
    go_loopw [6, 7, 8, 9, 10] (fun s6 _ _ _ _ wr => ∃ (k : Nat) (v : Value) (M : Nt.Md), s6 = .int .i64 k ∧ k ≤ l.length ∧ Nt.Both W.heap.size W wr r rw_ v Nt.Non M M) (fun s6 _ _ _ _ _ => l.length - (intOf s6).toNat)
    case atStart => exact ⟨0, _, Nt.new, rfl, Nat.zero_le _, O4.out⟩
    case round =>
      clear O4
      obtain ⟨k, v, M, rfl, hk, o⟩ := hrel
      by_cases hlt : k < l.length
      · have hlt1 : (k : Int) < l.length := by omega
        obtain ⟨b, off, rfl, hbl, hia⟩ := HIT.out.resolve_left (by rintro rfl; simp at hlt)
        have hAC : ∀ wx : World, Below W.heap.size W wx → Nt.actAt wx b (off + k * 6) l[k] := fun wx hb => (hia k hlt).below hb hbl
        have hok := HS.out _ (List.getElem_mem hlt)
        have hdl := HF.out.data (List.getElem_mem hlt)
        obtain ⟨x, hx⟩ : ∃ x, x = l[k] := ⟨_, rfl⟩
        rw [← hx] at hAC hok hdl
        have HOK := Lib.hid hok
        have HAC := Lib.hid hAC
        have hsuc : IntKind.i64.wrap ((k : Int) + 1) = ((k + 1 : Nat) : Int) := by simp [IntKind.wrap, IntKind.bits, IntKind.signed]; omega
        clear hx hok hia hAC
        obtain ⟨c0, c1, c2, c3, c4, c5⟩ := HAC.out _ o.own.below
        have hz : Nt.zero.cells.toArray = #[.int .i64 0, .int .i64 0, .string ⟨#[]⟩] := rfl
        go_wp2_with fail
        refine (ntTake_none (v := .pointer none) (.inl rfl) x.i).mono ?_
        rintro e w5 ⟨rfl, k5⟩
        have o5 := o.low k5
        rw [hz]
        clear o k5 c0 c1 c2 c3 c4 c5
        go_upto_region 12 with (fail)
        have b6 : Below w5.heap.size w5 (w5.alloc (.cells #[.int .i64 0, .int .i64 0, .string ⟨#[]⟩] 25)) := (Below.refl _ w5).alloc (Nat.le_refl _) _
        have o6 := o5.low b6
        clear o5 b6
        generalize w5.alloc (.cells #[.int .i64 0, .int .i64 0, .string ⟨#[]⟩] 25) = w6 at *
        go_wp2_with fail
        refine (ntPart_none (v := .pointer none) (.inl rfl) true).mono ?_
        rintro e w7 ⟨rfl, rfl⟩
        obtain ⟨c0, c1, c2, c3, c4, c5⟩ := HAC.out _ o6.own.below
        have PN : Hid (∀ wx : World, Calls Try.prog 11 #[.pointer none, .agg #[.int .i64 x.p.f, .int .i64 x.p.t, .string x.p.d]] wx fun e w' => e = .returned (.int .i64 2) ∧ Below wx.heap.size wx w') := fun wx => ntPost_none (.inl rfl) x.p
        go_wp2_with fail
        refine (PN.out _).mono ?_
        rintro e w7 ⟨rfl, k7⟩
        have o7 := o6.low k7
        clear o6 k7 c0 c1 c2 c3 c4 c5 PN
        obtain ⟨c0, c1, c2, c3, c4, c5⟩ := HAC.out _ o7.own.below
        go_wp2_with fail
        refine (ntLose_none (v := .pointer none) (.inl rfl) x.i).mono ?_
        rintro e w8 ⟨rfl, rfl⟩
        go_wp2_with fail
        refine (ntDup_none (v := .pointer none) (.inl rfl) x.i).mono ?_
        rintro e w8 ⟨rfl, rfl⟩
        go_wp2_with fail
        refine (ntLen_none (v := .pointer none) (.inl rfl)).mono ?_
        rintro e w8 ⟨rfl, rfl⟩
        go_wp2_with fail
        refine (ntAll_none (v := .pointer none) (.inl rfl)).mono ?_
        rintro e w8 ⟨rfl, rfl⟩
        go_wp2_with fail
        refine (ntParted_none (v := .pointer none) (.inl rfl)).mono ?_
        rintro e w8 ⟨rfl, rfl⟩
        clear c0 c1 c2 c3 c4 c5
        go_upto_region 15 with (fail)
        go_cut [109] from 83 to 109 (fun s109 wx => s109 = .bool false ∧ ∃ v', Nt.Both W.heap.size W wx r rw_ v' Nt.Non (Nt.doAct M x) (Nt.doAct M x))
        case first =>
          obtain ⟨xs, hxs⟩ : ∃ xs, xs = x.cells := ⟨_, rfl⟩
          have hxl : xs.length = 6 := by rw [hxs]; rfl
          have hxr : ∀ wx : World, Below W.heap.size W wx → wx.rangeAt b (off + k * 6) xs := fun wx hb j u hu => by
            obtain ⟨c0, c1, c2, c3, c4, c5⟩ := HAC.out wx hb
            have hj : j < 6 := by have := (List.getElem?_eq_some_iff.1 hu).1; omega
            rw [hxs] at hu
            match j, hj with
            | 0, _ => simp [Nt.Ac.cells] at hu; subst hu; exact c0
            | 1, _ => simp [Nt.Ac.cells] at hu; subst hu; exact c1
            | 2, _ => simp [Nt.Ac.cells] at hu; subst hu; exact c2
            | 3, _ => simp [Nt.Ac.cells] at hu; subst hu; exact c3
            | 4, _ => simp [Nt.Ac.cells] at hu; subst hu; exact c4
            | 5, _ => simp [Nt.Ac.cells] at hu; subst hu; exact c5
          have hxi : (Try.prog.info? 41).map (·.size) = some xs.length := by rw [hxl]; kernel_rfl
          have HXS := Lib.hid hxs
          have HXI := Lib.hid hxi
          have HXR := Lib.hid hxr
          clear hxs hxl hxi hxr
          have od := o7.low ((Below.refl _ w7).drew)
          have hS0 := HXR.out _ od.own.below
          clear o7
          refine wp_region_held_drew (S := (fun w' => w'.rangeAt b (off + k * 6) xs)) (by kernel_rfl) hS0 (fun hHeld => ?_)
          refine wpAnyH_take (i := 0) (oi := ⟨some 83, _, _, _, _, _⟩) (v := .pointer (some ⟨r, 0, none⟩)) rfl (by kernel_rfl) (by kernel_rfl) (by kernel_rfl) (fun _ _ _ h => h) (Or.inl ⟨by rfl, ?_⟩) (by assumption) ?_
          · intro w hSw; (try dsimp only at hSw); go_simp
          simp only [Act.put, List.setIfInBounds_toArray, List.set_cons_zero, List.set_cons_succ]
          refine wpAnyH_take (i := 1) (oi := ⟨some 84, _, _, _, _, _⟩) (v := .pointer (some ⟨rw_, 0, none⟩)) rfl (by kernel_rfl) (by kernel_rfl) (by kernel_rfl) (fun _ _ _ h => h) (Or.inl ⟨by rfl, ?_⟩) (by assumption) ?_
          · intro w hSw; (try dsimp only at hSw); go_simp
          simp only [Act.put, List.setIfInBounds_toArray, List.set_cons_zero, List.set_cons_succ]
          refine wpAnyH_take (i := 2) (oi := ⟨some 85, _, _, _, _, _⟩) (v := .slice (some ⟨b, off, none⟩) l.length c) rfl (by kernel_rfl) (by kernel_rfl) (by kernel_rfl) (fun _ _ _ h => h) (Or.inl ⟨by rfl, ?_⟩) (by assumption) ?_
          · intro w hSw; (try dsimp only at hSw); go_simp
          simp only [Act.put, List.setIfInBounds_toArray, List.set_cons_zero, List.set_cons_succ]
          refine wpAnyH_take (i := 3) (oi := ⟨some 86, _, _, _, _, _⟩) (v := .int .i64 (k : Int)) rfl (by kernel_rfl) (by kernel_rfl) (by kernel_rfl) (fun _ _ _ h => h) (Or.inl ⟨by rfl, ?_⟩) (by assumption) ?_
          · intro w hSw; (try dsimp only at hSw); go_simp
          simp only [Act.put, List.setIfInBounds_toArray, List.set_cons_zero, List.set_cons_succ]
          refine wpAnyH_take (i := 4) (oi := ⟨some 87, _, _, _, _, _⟩) (v := .pointer (some ⟨b, off + k * 6, none⟩)) rfl (by kernel_rfl) (by kernel_rfl) (by kernel_rfl) (fun _ _ _ h => h) (Or.inl ⟨by rfl, ?_⟩) (by assumption) ?_
          · intro w hSw; (try dsimp only at hSw); go_simp
          simp only [Act.put, List.setIfInBounds_toArray, List.set_cons_zero, List.set_cons_succ]
          refine wpAnyH_take (i := 5) (oi := ⟨some 88, _, _, _, _, _⟩) (v := .agg xs.toArray) rfl (by kernel_rfl) (by kernel_rfl) (by kernel_rfl) (fun _ _ _ h => h) (yieldsIf_load_mid (by rfl) _ _ rfl _ _ rfl xs _ (fun w hS => hS) Try.underlying41 rfl HXI.out) (by assumption) ?_
          simp only [Act.put, List.setIfInBounds_toArray, List.set_cons_zero, List.set_cons_succ]
          refine wpAnyH_ready (rs := [6]) (by kernel_rfl) (by simp) ?_
          refine (AllReadyH.cons (o := ⟨some 89, _, _, _, _, _⟩) rfl (fun K hK => ?_) AllReadyH.nil)
          go_simp
          rw [HXS.out]
          refine (does8_any od x HOK.out (by omega)).mono ?_
          rintro e w9 ⟨rfl, v9, o9⟩
          obtain ⟨M9, hM9⟩ : ∃ m, m = Nt.doAct M x := ⟨_, rfl⟩
          rw [← hM9] at o9
          have HM9 := Lib.hid hM9
          obtain ⟨A9, q9, hv9⟩ := o9.shape
          subst hv9
          have y0 := Sm.cells_of o9.ref 0 (.slice A9 M9.row.length q9) rfl
          have y1 := Sm.cells_of o9.ref 1 (.bool M9.parted) rfl
          have hS9 := HXR.out _ o9.own.below
          have O9 := Lib.hid o9
          clear od hS0 hHeld o9 hM9
          refine hK.out _ _ hS9 (fun hHeld => ?_)
          clear hK K
          refine wpAnyH_take (i := 7) (oi := ⟨some 90, _, _, _, _, _⟩) (v := .bool false) rfl (by kernel_rfl) (by kernel_rfl) (by kernel_rfl) (fun _ _ _ h => h) (Or.inl ⟨by rfl, ?_⟩) (by assumption) ?_
          · intro w hSw; (try dsimp only at hSw); go_simp
          simp only [Act.put, List.setIfInBounds_toArray, List.set_cons_zero, List.set_cons_succ]
          refine wpAnyH_take (i := 8) (oi := ⟨some 91, _, _, _, _, _⟩) (v := .bool false) rfl (by kernel_rfl) (by kernel_rfl) (by kernel_rfl) (fun _ _ _ h => h) (Or.inl ⟨by rfl, ?_⟩) (by assumption) ?_
          · intro w hSw; (try dsimp only at hSw); go_simp
          simp only [Act.put, List.setIfInBounds_toArray, List.set_cons_zero, List.set_cons_succ]
          refine wpAnyH_take (i := 9) (oi := ⟨some 92, _, _, _, _, _⟩) (v := .pointer (some ⟨r, 0, none⟩)) rfl (by kernel_rfl) (by kernel_rfl) (by kernel_rfl) (fun _ _ _ h => h) (Or.inl ⟨by rfl, ?_⟩) (by assumption) ?_
          · intro w hSw; (try dsimp only at hSw); go_simp
          simp only [Act.put, List.setIfInBounds_toArray, List.set_cons_zero, List.set_cons_succ]
          refine wpAnyH_take (i := 11) (oi := ⟨some 94, _, _, _, _, _⟩) (v := .pointer (some ⟨rw_, 0, none⟩)) rfl (by kernel_rfl) (by kernel_rfl) (by kernel_rfl) (fun _ _ _ h => h) (Or.inl ⟨by rfl, ?_⟩) (by assumption) ?_
          · intro w hSw; (try dsimp only at hSw); go_simp
          simp only [Act.put, List.setIfInBounds_toArray, List.set_cons_zero, List.set_cons_succ]
          refine wpAnyH_take (i := 12) (oi := ⟨some 95, _, _, _, _, _⟩) (v := .pointer (some ⟨rw_, 0, none⟩)) rfl (by kernel_rfl) (by kernel_rfl) (by kernel_rfl) (fun _ _ _ h => h) (Or.inl ⟨by rfl, ?_⟩) (by assumption) ?_
          · intro w hSw; (try dsimp only at hSw); go_simp
          simp only [Act.put, List.setIfInBounds_toArray, List.set_cons_zero, List.set_cons_succ]
          refine wpAnyH_take (i := 13) (oi := ⟨some 96, _, _, _, _, _⟩) (v := .pointer (some ⟨rw_, 0, none⟩)) rfl (by kernel_rfl) (by kernel_rfl) (by kernel_rfl) (fun _ _ _ h => h) (Or.inl ⟨by rfl, ?_⟩) (by assumption) ?_
          · intro w hSw; (try dsimp only at hSw); go_simp
          simp only [Act.put, List.setIfInBounds_toArray, List.set_cons_zero, List.set_cons_succ]
          refine wpAnyH_ready (rs := [10, 14]) (by kernel_rfl) (by simp) ?_
          refine (AllReadyH.cons (o := ⟨some 93, _, _, _, _, _⟩) rfl (fun K hK => ?_) (AllReadyH.cons (o := ⟨some 97, _, _, _, _, _⟩) rfl (fun K hK => ?_) AllReadyH.nil))
          · go_simp
            refine (ntLen_any O9.out.own).mono ?_
            rintro e w10 ⟨rfl, rfl⟩
            refine hK.out _ _ hHeld (fun hHeld => ?_)
            clear hK K
            refine wpAnyH_ready (rs := [14]) (by kernel_rfl) (by simp) ?_
            refine (AllReadyH.cons (o := ⟨some 97, _, _, _, _, _⟩) rfl (fun K hK => ?_) AllReadyH.nil)
            go_simp
            refine hK.out _ _ hHeld (fun hHeld => ?_)
            clear hK K
            refine wpAnyH_take (i := 15) (oi := ⟨some 98, _, _, _, _, _⟩) (v := .int .i64 (M9.row.length : Int)) rfl (by kernel_rfl) (by kernel_rfl) (by kernel_rfl) (fun _ _ _ h => h) (Or.inl ⟨by rfl, ?_⟩) (by assumption) ?_
            · intro w hSw; (try dsimp only at hSw); go_simp
            simp only [Act.put, List.setIfInBounds_toArray, List.set_cons_zero, List.set_cons_succ]
            refine wpAnyH_take (i := 16) (oi := ⟨some 99, _, _, _, _, _⟩) (v := .bool false) rfl (by kernel_rfl) (by kernel_rfl) (by kernel_rfl) (fun _ _ _ h => h) (Or.inl ⟨by rfl, ?_⟩) (by assumption) ?_
            · intro w hSw; (try dsimp only at hSw); go_simp
            simp only [Act.put, List.setIfInBounds_toArray, List.set_cons_zero, List.set_cons_succ]
            refine wpAnyH_take (i := 17) (oi := ⟨some 100, _, _, _, _, _⟩) (v := .bool false) rfl (by kernel_rfl) (by kernel_rfl) (by kernel_rfl) (fun _ _ _ h => h) (Or.inl ⟨by rfl, ?_⟩) (by assumption) ?_
            · intro w hSw; (try dsimp only at hSw); go_simp
            simp only [Act.put, List.setIfInBounds_toArray, List.set_cons_zero, List.set_cons_succ]
            refine wpAnyH_take (i := 18) (oi := ⟨some 101, _, _, _, _, _⟩) (v := .bool false) rfl (by kernel_rfl) (by kernel_rfl) (by kernel_rfl) (fun _ _ _ h => h) (Or.inl ⟨by rfl, ?_⟩) (by assumption) ?_
            · intro w hSw; (try dsimp only at hSw); go_simp
            simp only [Act.put, List.setIfInBounds_toArray, List.set_cons_zero, List.set_cons_succ]
            refine wpAnyH_take (i := 19) (oi := ⟨some 102, _, _, _, _, _⟩) (v := .pointer (some ⟨r, 0, none⟩)) rfl (by kernel_rfl) (by kernel_rfl) (by kernel_rfl) (fun _ _ _ h => h) (Or.inl ⟨by rfl, ?_⟩) (by assumption) ?_
            · intro w hSw; (try dsimp only at hSw); go_simp
            simp only [Act.put, List.setIfInBounds_toArray, List.set_cons_zero, List.set_cons_succ]
            refine wpAnyH_take (i := 21) (oi := ⟨some 104, _, _, _, _, _⟩) (v := .pointer (some ⟨rw_, 0, none⟩)) rfl (by kernel_rfl) (by kernel_rfl) (by kernel_rfl) (fun _ _ _ h => h) (Or.inl ⟨by rfl, ?_⟩) (by assumption) ?_
            · intro w hSw; (try dsimp only at hSw); go_simp
            simp only [Act.put, List.setIfInBounds_toArray, List.set_cons_zero, List.set_cons_succ]
            refine wpAnyH_take (i := 22) (oi := ⟨some 105, _, _, _, _, _⟩) (v := .pointer (some ⟨rw_, 0, none⟩)) rfl (by kernel_rfl) (by kernel_rfl) (by kernel_rfl) (fun _ _ _ h => h) (Or.inl ⟨by rfl, ?_⟩) (by assumption) ?_
            · intro w hSw; (try dsimp only at hSw); go_simp
            simp only [Act.put, List.setIfInBounds_toArray, List.set_cons_zero, List.set_cons_succ]
            refine wpAnyH_take (i := 23) (oi := ⟨some 106, _, _, _, _, _⟩) (v := .pointer (some ⟨rw_, 1, none⟩)) rfl (by kernel_rfl) (by kernel_rfl) (by kernel_rfl) (fun _ _ _ h => h) (Or.inl ⟨by rfl, ?_⟩) (by assumption) ?_
            · intro w hSw; (try dsimp only at hSw); go_simp
            simp only [Act.put, List.setIfInBounds_toArray, List.set_cons_zero, List.set_cons_succ]
            refine wpAnyH_ready (rs := [20, 24]) (by kernel_rfl) (by simp) ?_
            refine (AllReadyH.cons (o := ⟨some 103, _, _, _, _, _⟩) rfl (fun K hK => ?_) (AllReadyH.cons (o := ⟨some 107, _, _, _, _, _⟩) rfl (fun K hK => ?_) AllReadyH.nil))
            · go_simp
              refine (ntParted_any O9.out.own).mono ?_
              rintro e w10 ⟨rfl, rfl⟩
              refine hK.out _ _ hHeld (fun hHeld => ?_)
              clear hK K
              refine wpAnyH_ready (rs := [24]) (by kernel_rfl) (by simp) ?_
              refine (AllReadyH.cons (o := ⟨some 107, _, _, _, _, _⟩) rfl (fun K hK => ?_) AllReadyH.nil)
              go_simp
              refine hK.out _ _ hHeld (fun hHeld => ?_)
              clear hK K
              refine wpAnyH_take (i := 25) (oi := ⟨some 108, _, _, _, _, _⟩) (v := .bool false) rfl (by kernel_rfl) (by kernel_rfl) (by kernel_rfl) (fun _ _ _ h => h) (Or.inl ⟨by rfl, ?_⟩) (by assumption) ?_
              · intro w hSw; (try dsimp only at hSw); go_simp
              simp only [Act.put, List.setIfInBounds_toArray, List.set_cons_zero, List.set_cons_succ]
              refine wpAnyH_take (i := 26) (oi := ⟨some 109, _, _, _, _, _⟩) (v := .bool false) rfl (by kernel_rfl) (by kernel_rfl) (by kernel_rfl) (fun _ _ _ h => h) (Or.inl ⟨by rfl, ?_⟩) (by assumption) ?_
              · intro w hSw; (try dsimp only at hSw); go_simp
              simp only [Act.put, List.setIfInBounds_toArray, List.set_cons_zero, List.set_cons_succ]
              refine wpAnyH_done (by kernel_rfl) ?_ _
              go_wp2_with fail
              go_meet
              exact ⟨rfl, _, by rw [← HM9.out]; exact O9.out⟩
            · go_simp
              refine hK.out _ _ hHeld (fun hHeld => ?_)
              clear hK K
              refine wpAnyH_ready (rs := [20]) (by kernel_rfl) (by simp) ?_
              refine (AllReadyH.cons (o := ⟨some 103, _, _, _, _, _⟩) rfl (fun K hK => ?_) AllReadyH.nil)
              go_simp
              refine (ntParted_any O9.out.own).mono ?_
              rintro e w10 ⟨rfl, rfl⟩
              refine hK.out _ _ hHeld (fun hHeld => ?_)
              clear hK K
              refine wpAnyH_take (i := 25) (oi := ⟨some 108, _, _, _, _, _⟩) (v := .bool false) rfl (by kernel_rfl) (by kernel_rfl) (by kernel_rfl) (fun _ _ _ h => h) (Or.inl ⟨by rfl, ?_⟩) (by assumption) ?_
              · intro w hSw; (try dsimp only at hSw); go_simp
              simp only [Act.put, List.setIfInBounds_toArray, List.set_cons_zero, List.set_cons_succ]
              refine wpAnyH_take (i := 26) (oi := ⟨some 109, _, _, _, _, _⟩) (v := .bool false) rfl (by kernel_rfl) (by kernel_rfl) (by kernel_rfl) (fun _ _ _ h => h) (Or.inl ⟨by rfl, ?_⟩) (by assumption) ?_
              · intro w hSw; (try dsimp only at hSw); go_simp
              simp only [Act.put, List.setIfInBounds_toArray, List.set_cons_zero, List.set_cons_succ]
              refine wpAnyH_done (by kernel_rfl) ?_ _
              go_wp2_with fail
              go_meet
              exact ⟨rfl, _, by rw [← HM9.out]; exact O9.out⟩
          · go_simp
            refine hK.out _ _ hHeld (fun hHeld => ?_)
            clear hK K
            refine wpAnyH_take (i := 15) (oi := ⟨some 98, _, _, _, _, _⟩) (v := .int .i64 (M9.row.length : Int)) rfl (by kernel_rfl) (by kernel_rfl) (by kernel_rfl) (fun _ _ _ h => h) (Or.inl ⟨by rfl, ?_⟩) (by assumption) ?_
            · intro w hSw; (try dsimp only at hSw); go_simp
            simp only [Act.put, List.setIfInBounds_toArray, List.set_cons_zero, List.set_cons_succ]
            refine wpAnyH_ready (rs := [10]) (by kernel_rfl) (by simp) ?_
            refine (AllReadyH.cons (o := ⟨some 93, _, _, _, _, _⟩) rfl (fun K hK => ?_) AllReadyH.nil)
            go_simp
            refine (ntLen_any O9.out.own).mono ?_
            rintro e w10 ⟨rfl, rfl⟩
            refine hK.out _ _ hHeld (fun hHeld => ?_)
            clear hK K
            refine wpAnyH_take (i := 16) (oi := ⟨some 99, _, _, _, _, _⟩) (v := .bool false) rfl (by kernel_rfl) (by kernel_rfl) (by kernel_rfl) (fun _ _ _ h => h) (Or.inl ⟨by rfl, ?_⟩) (by assumption) ?_
            · intro w hSw; (try dsimp only at hSw); go_simp
            simp only [Act.put, List.setIfInBounds_toArray, List.set_cons_zero, List.set_cons_succ]
            refine wpAnyH_take (i := 17) (oi := ⟨some 100, _, _, _, _, _⟩) (v := .bool false) rfl (by kernel_rfl) (by kernel_rfl) (by kernel_rfl) (fun _ _ _ h => h) (Or.inl ⟨by rfl, ?_⟩) (by assumption) ?_
            · intro w hSw; (try dsimp only at hSw); go_simp
            simp only [Act.put, List.setIfInBounds_toArray, List.set_cons_zero, List.set_cons_succ]
            refine wpAnyH_take (i := 18) (oi := ⟨some 101, _, _, _, _, _⟩) (v := .bool false) rfl (by kernel_rfl) (by kernel_rfl) (by kernel_rfl) (fun _ _ _ h => h) (Or.inl ⟨by rfl, ?_⟩) (by assumption) ?_
            · intro w hSw; (try dsimp only at hSw); go_simp
            simp only [Act.put, List.setIfInBounds_toArray, List.set_cons_zero, List.set_cons_succ]
            refine wpAnyH_take (i := 19) (oi := ⟨some 102, _, _, _, _, _⟩) (v := .pointer (some ⟨r, 0, none⟩)) rfl (by kernel_rfl) (by kernel_rfl) (by kernel_rfl) (fun _ _ _ h => h) (Or.inl ⟨by rfl, ?_⟩) (by assumption) ?_
            · intro w hSw; (try dsimp only at hSw); go_simp
            simp only [Act.put, List.setIfInBounds_toArray, List.set_cons_zero, List.set_cons_succ]
            refine wpAnyH_take (i := 21) (oi := ⟨some 104, _, _, _, _, _⟩) (v := .pointer (some ⟨rw_, 0, none⟩)) rfl (by kernel_rfl) (by kernel_rfl) (by kernel_rfl) (fun _ _ _ h => h) (Or.inl ⟨by rfl, ?_⟩) (by assumption) ?_
            · intro w hSw; (try dsimp only at hSw); go_simp
            simp only [Act.put, List.setIfInBounds_toArray, List.set_cons_zero, List.set_cons_succ]
            refine wpAnyH_take (i := 22) (oi := ⟨some 105, _, _, _, _, _⟩) (v := .pointer (some ⟨rw_, 0, none⟩)) rfl (by kernel_rfl) (by kernel_rfl) (by kernel_rfl) (fun _ _ _ h => h) (Or.inl ⟨by rfl, ?_⟩) (by assumption) ?_
            · intro w hSw; (try dsimp only at hSw); go_simp
            simp only [Act.put, List.setIfInBounds_toArray, List.set_cons_zero, List.set_cons_succ]
            refine wpAnyH_take (i := 23) (oi := ⟨some 106, _, _, _, _, _⟩) (v := .pointer (some ⟨rw_, 1, none⟩)) rfl (by kernel_rfl) (by kernel_rfl) (by kernel_rfl) (fun _ _ _ h => h) (Or.inl ⟨by rfl, ?_⟩) (by assumption) ?_
            · intro w hSw; (try dsimp only at hSw); go_simp
            simp only [Act.put, List.setIfInBounds_toArray, List.set_cons_zero, List.set_cons_succ]
            refine wpAnyH_ready (rs := [20, 24]) (by kernel_rfl) (by simp) ?_
            refine (AllReadyH.cons (o := ⟨some 103, _, _, _, _, _⟩) rfl (fun K hK => ?_) (AllReadyH.cons (o := ⟨some 107, _, _, _, _, _⟩) rfl (fun K hK => ?_) AllReadyH.nil))
            · go_simp
              refine (ntParted_any O9.out.own).mono ?_
              rintro e w10 ⟨rfl, rfl⟩
              refine hK.out _ _ hHeld (fun hHeld => ?_)
              clear hK K
              refine wpAnyH_ready (rs := [24]) (by kernel_rfl) (by simp) ?_
              refine (AllReadyH.cons (o := ⟨some 107, _, _, _, _, _⟩) rfl (fun K hK => ?_) AllReadyH.nil)
              go_simp
              refine hK.out _ _ hHeld (fun hHeld => ?_)
              clear hK K
              refine wpAnyH_take (i := 25) (oi := ⟨some 108, _, _, _, _, _⟩) (v := .bool false) rfl (by kernel_rfl) (by kernel_rfl) (by kernel_rfl) (fun _ _ _ h => h) (Or.inl ⟨by rfl, ?_⟩) (by assumption) ?_
              · intro w hSw; (try dsimp only at hSw); go_simp
              simp only [Act.put, List.setIfInBounds_toArray, List.set_cons_zero, List.set_cons_succ]
              refine wpAnyH_take (i := 26) (oi := ⟨some 109, _, _, _, _, _⟩) (v := .bool false) rfl (by kernel_rfl) (by kernel_rfl) (by kernel_rfl) (fun _ _ _ h => h) (Or.inl ⟨by rfl, ?_⟩) (by assumption) ?_
              · intro w hSw; (try dsimp only at hSw); go_simp
              simp only [Act.put, List.setIfInBounds_toArray, List.set_cons_zero, List.set_cons_succ]
              refine wpAnyH_done (by kernel_rfl) ?_ _
              go_wp2_with fail
              go_meet
              exact ⟨rfl, _, by rw [← HM9.out]; exact O9.out⟩
            · go_simp
              refine hK.out _ _ hHeld (fun hHeld => ?_)
              clear hK K
              refine wpAnyH_ready (rs := [20]) (by kernel_rfl) (by simp) ?_
              refine (AllReadyH.cons (o := ⟨some 103, _, _, _, _, _⟩) rfl (fun K hK => ?_) AllReadyH.nil)
              go_simp
              refine (ntParted_any O9.out.own).mono ?_
              rintro e w10 ⟨rfl, rfl⟩
              refine hK.out _ _ hHeld (fun hHeld => ?_)
              clear hK K
              refine wpAnyH_take (i := 25) (oi := ⟨some 108, _, _, _, _, _⟩) (v := .bool false) rfl (by kernel_rfl) (by kernel_rfl) (by kernel_rfl) (fun _ _ _ h => h) (Or.inl ⟨by rfl, ?_⟩) (by assumption) ?_
              · intro w hSw; (try dsimp only at hSw); go_simp
              simp only [Act.put, List.setIfInBounds_toArray, List.set_cons_zero, List.set_cons_succ]
              refine wpAnyH_take (i := 26) (oi := ⟨some 109, _, _, _, _, _⟩) (v := .bool false) rfl (by kernel_rfl) (by kernel_rfl) (by kernel_rfl) (fun _ _ _ h => h) (Or.inl ⟨by rfl, ?_⟩) (by assumption) ?_
              · intro w hSw; (try dsimp only at hSw); go_simp
              simp only [Act.put, List.setIfInBounds_toArray, List.set_cons_zero, List.set_cons_succ]
              refine wpAnyH_done (by kernel_rfl) ?_ _
              go_wp2_with fail
              go_meet
              exact ⟨rfl, _, by rw [← HM9.out]; exact O9.out⟩
        case rest =>
          obtain ⟨rfl, v9, o9⟩ := hcut
          clear o7
          generalize Nt.doAct M x = M9 at *
          go_wp2_with fail
          refine (ntAll_any o9.own).mono ?_
          rintro e w10 ⟨va, rfl, pa, k10⟩
          have o10 := o9.mark k10 (X' := fun q => va.ownBlock = some q) (fun q hq => by
            obtain ⟨h1, cs, h2⟩ := Nt.own_blk pa hq
            exact ⟨Sm.lt_of h2, .inr h1⟩)
          have hlen := o9.rok.len
          obtain ⟨Aa, ca, hva, -, -⟩ := pa.shape
          subst hva
          have HBB := Lib.hid o9.own.size
          clear o9 k10
          generalize wc.heap.size = B1 at *
          obtain ⟨Av, cv, hvv⟩ := o10.shape
          subst hvv
          have y0 := Sm.cells_of o10.ref 0 (.slice Av M9.row.length cv) rfl
          have O10 := Lib.hid o10
          have P10 := Lib.hid pa
          clear o10 pa
          go_wp2
          clear y0
          go_loopw [10] (fun s10 wq => ∃ (j : Nat) (L : List Nt.Pk), s10 = .int .i64 j ∧ j ≤ M9.row.length ∧ Nt.Both W.heap.size W wq r rw_ (.slice Av M9.row.length cv) (fun q => (Value.slice Aa M9.row.length ca).ownBlock = some q) M9 M9 ∧ Nt.PksAt wq B1 (.slice Aa M9.row.length ca) L ∧ L.length = M9.row.length ∧ (∀ i (h1 : i < L.length) (h2 : i < M9.row.length), j ≤ i → L[i] = M9.row[i])) (fun s10 _ => M9.row.length - (intOf s10).toNat)
          case atStart => exact ⟨0, M9.row, rfl, Nat.zero_le _, O10.out, P10.out, rfl, fun i _ _ _ => rfl⟩
          case round =>
            clear O10 P10
            obtain ⟨j, L, rfl, hj, oj, pj, hLl, hLe⟩ := hrel
            have HLE := Lib.hid hLe
            have HLL := Lib.hid hLl
            clear hLe hLl
            by_cases hjl : j < M9.row.length
            · have hji : (j : Int) < (M9.row.length : Int) := by omega
              have hsj : IntKind.i64.wrap ((j : Int) + 1) = ((j + 1 : Nat) : Int) := by simp [IntKind.wrap, IntKind.bits, IntKind.signed]; omega
              have hjL : j < L.length := by have := HLL.out; omega
              obtain ⟨ga, hga, -, x0, x1, x2⟩ := pj.get hjL
              subst hga
              obtain ⟨gv, hgv, -, z0, z1, z2⟩ := oj.row.get hjl
              subst hgv
              have hee := HLE.out j hjL hjl (Nat.le_refl _)
              have hset := pj.setData hjL ⟨#[116, 117, 114, 110, 101, 100]⟩
              have hbk := pj.block
              obtain ⟨-, hgal, hBg, cur, hgc⟩ := hbk
              have fz := Sm.free_of hgc (j * 3 + 2)
              have ONX : Hid (∀ wz : World, Nt.Both W.heap.size W wz r rw_ (.slice (some ⟨gv, 0, none⟩) M9.row.length cv) (fun q => (Value.slice (some ⟨ga, 0, none⟩) M9.row.length ca).ownBlock = some q) M9 M9 → wz.heap[ga]? = some (.cells cur 25 (0, 0)) → Nt.Both W.heap.size W (wz.setCell ⟨ga, j * 3 + 2, none⟩ (.string ⟨#[116, 117, 114, 110, 101, 100]⟩)) r rw_ (.slice (some ⟨gv, 0, none⟩) M9.row.length cv) (fun q => (Value.slice (some ⟨ga, 0, none⟩) M9.row.length ca).ownBlock = some q) M9 M9) := fun wz oz hz => by
                have hnr : ga ≠ r := by
                  obtain ⟨cs, hr⟩ := oz.own.block
                  exact Nt.type_ne hz hr Nt.net_packet
                have hnw : ga ≠ rw_ := Nt.type_ne hz oz.ref Nt.ref_types.2.symm
                exact oz.other (b := ga) rfl hnr hnw (by have := HBB.out; omega) (Sm.grown_set (Sm.grown_refl wz (some ga)) _ _)
              rw [hee] at x0 x1 x2 hset
              generalize M9.row[j] = pk at *
              have OJ := Lib.hid oj
              have PJ := Lib.hid pj
              have HSET := Lib.hid hset
              have GC := Lib.hid hgc
              have y0 := Sm.cells_of oj.ref 0 _ rfl
              clear oj pj hset hgc hgal hBg hee
              obtain ⟨pf, pt, pd⟩ := pk
              simp only at x0 x1 x2 z0 z1 z2 HSET
              go_upto_region 23 with (fail)
              go_region
              have gcd : wr.drew.heap[ga]? = some (.cells cur 25 (0, 0)) := GC.out
              have NX := Lib.hid (ONX.out wr.drew (OJ.out.low ((Below.refl _ wr).drew)) gcd)
              have SX : Hid (Nt.PksAt (wr.drew.setCell ⟨ga, j * 3 + 2, none⟩ (.string ⟨#[116, 117, 114, 110, 101, 100]⟩)) B1 (.slice (some ⟨ga, 0, none⟩) M9.row.length ca) (L.set j ⟨pf, pt, ⟨#[116, 117, 114, 110, 101, 100]⟩⟩)) := HSET.out.low (w' := wr.drew.setCell ⟨ga, j * 3 + 2, none⟩ (.string ⟨#[116, 117, 114, 110, 101, 100]⟩)) ⟨rfl, rfl, rfl, Nat.le_refl _, fun _ _ => rfl⟩
              have x2d : wr.drew.cell? ⟨ga, j * 3 + 2, none⟩ = some (.string pd) := x2
              have fzd : wr.drew.frozen? ⟨ga, j * 3 + 2, none⟩ = false := fz
              clear gcd ONX x0 x1 z0 z1 z2 y0
              go_wp2
              go_roundw
              case rel =>
                refine ⟨j + 1, _, rfl, hjl, NX.out, SX.out, by rw [List.length_set]; exact HLL.out, fun i h1 h2 h3 => ?_⟩
                rw [List.getElem_set_ne (by omega)]
                exact HLE.out i (by rw [List.length_set] at h1; exact h1) h2 (by omega)
              case measure => simp [intOf]; omega
            · have hji : ¬ (j : Int) < (M9.row.length : Int) := by omega
              have ON : Hid (Nt.Both W.heap.size W wr r rw_ (.slice Av M9.row.length cv) Nt.Non M9 M9) := oj.mark (Below.refl _ _) (fun q hq => hq.elim)
              clear oj pj
              go_wp2
              go_roundw
              case rel => exact ⟨k + 1, _, M9, rfl, hlt, ON.out⟩
              case measure => simp [intOf]; omega
      · have hlt1 : ¬ (k : Int) < l.length := by omega
        have b := o.own.below
        have hBs := b.size
        clear o
        have PN : Hid (Calls Try.prog 11 #[.pointer (some ⟨wr.heap.size, 0, none⟩), .agg #[.int .i64 0, .int .i64 1, .string ⟨#[]⟩]] (wr.alloc (.cells Nt.bareCells 46)) fun e w' => e = .returned (.int .i64 2) ∧ Below (wr.alloc (.cells Nt.bareCells 46)).heap.size (wr.alloc (.cells Nt.bareCells 46)) w') := ntPost_none (.inr ⟨_, rfl, heap_alloc_new wr _⟩) ⟨0, 1, ⟨#[]⟩⟩
        have bA : Below W.heap.size W (wr.alloc (.cells Nt.bareCells 46)) := b.alloc hBs _
        unfold Nt.bareCells at PN bA
        go_wp2_with fail
        refine PN.out.mono ?_
        rintro e w20 ⟨rfl, k20⟩
        have b20 := bA.trans (k20.mono bA.size)
        clear PN bA k20
        go_wp2
        go_ret
        exact ⟨rfl, b20⟩
end Go.Proofs.Ytimbcmcmidnlfaa
