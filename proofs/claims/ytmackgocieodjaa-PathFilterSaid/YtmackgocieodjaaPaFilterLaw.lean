/-
  PathFilter.
-/
import Derived.Test.YtmackgocieodjaaPaTurned
namespace Go.Proofs.Ytmackgocieodjaa
open Go.RowKit
set_option maxRecDepth 100000 in
set_option maxHeartbeats 4000000 in
theorem pathfilter_any (w : World) (A : Option Addr) (c : Nat) (l : List Pa.Mo) (hlc : l.length ≤ c) (hc : c ≤ 9223372036854775807) (hit : Pa.listAt w A l) (p q : ByteArray) :
    Calls Try.prog 7 #[.slice A l.length c, .string p, .string q] w fun e w' => e = .returned (.bool true) ∧ Below w.heap.size w w' := by
  have AW := Lib.hid (fun wx => awake11_any wx)
  obtain ⟨gr, hgr⟩ : ∃ g : Bool, g = true ↔ ¬ Pa.Fair l := by
    by_cases h : Pa.Fair l
    · exact ⟨false, by simp [h]⟩
    · exact ⟨true, by simp [h]⟩
  have GR := Lib.hid (great11_any (c := c) hit gr hgr)
  cases gr
  · have hfair : Pa.Fair l := by
      apply Classical.byContradiction
      intro h
      exact absurd (hgr.2 h) (by decide)
    have hl100 : l.length ≤ 100 := hfair.1
    clear hgr hfair
    by_cases hp : 100 < p.size
    · have hpi : (100 : Int) < p.size := by omega
      clear hit
      go_enter Try.func7, Try.ntmps7
      go_wp2_with fail
      refine GR.out.mono ?_
      rintro e w1 ⟨rfl, rfl⟩
      go_wp2_with fail
      all_goals (refine (AW.out _).mono ?_; rintro e w2 ⟨rfl, b2⟩; go_wp2_with fail; go_ret; exact ⟨rfl, b2⟩)
    · have hpi : ¬ (100 : Int) < p.size := by omega
      by_cases hq : 100 < q.size
      · have hqi : (100 : Int) < q.size := by omega
        clear hit
        go_enter Try.func7, Try.ntmps7
        go_wp2_with fail
        refine GR.out.mono ?_
        rintro e w1 ⟨rfl, rfl⟩
        go_wp2_with fail
        all_goals (refine (AW.out _).mono ?_; rintro e w2 ⟨rfl, b2⟩; go_wp2_with fail; go_ret; exact ⟨rfl, b2⟩)
      · have hqi : ¬ (100 : Int) < q.size := by omega
        have C1 := Lib.hid (fun wx => paCut_any wx p (by omega))
        have C2 := Lib.hid (fun wx => paCut_any wx q (by omega))
        obtain ⟨A1, A2, hcA, hA⟩ : ∃ A A2, Pa.cutV p.data.toList = .tuple #[.string A, .string A2, .bool (Pa.ok p.data.toList)] ∧ A = ⟨(Pa.cutA p.data.toList).toArray⟩ := ⟨_, _, rfl, rfl⟩
        obtain ⟨B1, B2, hcB, hB⟩ : ∃ A A2, Pa.cutV q.data.toList = .tuple #[.string A, .string A2, .bool (Pa.ok q.data.toList)] ∧ A = ⟨(Pa.cutA q.data.toList).toArray⟩ := ⟨_, _, rfl, rfl⟩
        rw [hcA] at C1
        rw [hcB] at C2
        obtain ⟨op, hop⟩ : ∃ b, b = Pa.ok p.data.toList := ⟨_, rfl⟩
        obtain ⟨oq, hoq⟩ : ∃ b, b = Pa.ok q.data.toList := ⟨_, rfl⟩
        rw [← hop] at C1
        rw [← hoq] at C2
        have S1 : Hid (∀ wx m A c, Pa.listAt wx A m → m.length ≤ 100 → Calls Try.prog 20 #[.slice A m.length c, .string p] wx fun e w' => e = .returned (.bool (Pa.ships m p.data.toList)) ∧ Below wx.heap.size wx w') := fun wx m A c h hm => paShips_any c h (by omega) p (by omega)
        have S2 : Hid (∀ wx m A c, Pa.listAt wx A m → m.length ≤ 100 → Calls Try.prog 20 #[.slice A m.length c, .string q] wx fun e w' => e = .returned (.bool (Pa.ships m q.data.toList)) ∧ Below wx.heap.size wx w') := fun wx m A c h hm => paShips_any c h (by omega) q (by omega)
        have O1 : Hid (∀ wx m A c, Pa.listAt wx A m → m.length ≤ 100 → Calls Try.prog 16 #[.slice A m.length c, .string p] wx fun e w' => e = .returned (Pa.ofV (Pa.of3 m p.data.toList)) ∧ Below wx.heap.size wx w') := fun wx m A c h hm => paOf_any c h (by omega) p (by omega)
        have HIT := Lib.hid hit
        have HA := Lib.hid hA
        have HB := Lib.hid hB
        have HOP := Lib.hid hop
        have HOQ := Lib.hid hoq
        clear hit hcA hcB hA hB hop hoq hp hq
        go_enter Try.func7, Try.ntmps7
        go_wp2_with fail
        refine GR.out.mono ?_
        rintro e w1 ⟨rfl, rfl⟩
        go_wp2_with fail
        refine (C1.out _).mono ?_
        rintro e w2 ⟨rfl, b2⟩
        go_wp2_with fail
        refine (C2.out _).mono ?_
        rintro e w3 ⟨rfl, b3⟩
        have BB := Lib.hid (b2.trans (b3.mono b2.size))
        clear b2 b3
        go_upto_region 5 with (fail)
        go_cut [70] from 44 (fun s70 wx => s70 = .bool false ∧ Below w.heap.size w wx)
        case first =>
          cases op
          · have SF := Lib.hid (S1.out w3 l A c (HIT.out.below BB.out) hl100)
            rw [Pa.ships_bad HOP.out.symm] at SF
            go_wp2_with fail
            refine SF.out.mono ?_
            rintro e w4 ⟨rfl, b4⟩
            go_wp2_with fail
            go_meet
            exact ⟨rfl, BB.out.trans (b4.mono BB.out.size)⟩
          · cases oq
            · go_wp2_with fail
              go_meet
              exact ⟨rfl, BB.out⟩
            · by_cases hm : A1 = B1
              · have hcc : Pa.cutA p.data.toList = Pa.cutA q.data.toList := by
                  have := HA.out.symm.trans (hm.trans HB.out)
                  have := congrArg (fun x : ByteArray => x.data.toList) this
                  simpa using this
                have SF := Lib.hid (S1.out w3 l A c (HIT.out.below BB.out) hl100)
                have SG : Hid (∀ wx, Pa.listAt wx A l → Calls Try.prog 20 #[.slice A l.length c, .string q] wx fun e w' => e = .returned (.bool (Pa.ships l p.data.toList)) ∧ Below wx.heap.size wx w') := fun wx hx => by
                  have := S2.out wx l A c hx hl100
                  rwa [← Pa.ships_same HOP.out.symm HOQ.out.symm hcc] at this
                obtain ⟨sh, hsh⟩ : ∃ b, b = Pa.ships l p.data.toList := ⟨_, rfl⟩
                rw [← hsh] at SF SG
                subst hm
                have q0 : (A1.toList == A1.toList) = true := by simp
                have q1 : (sh != sh) = false := by simp
                clear hsh hcc
                go_wp2_with fail
                refine SF.out.mono ?_
                rintro e w4 ⟨rfl, b4⟩
                have B4 := Lib.hid (BB.out.trans (b4.mono BB.out.size))
                clear b4
                go_wp2_with fail
                refine (SG.out _ (HIT.out.below B4.out)).mono ?_
                rintro e w5 ⟨rfl, b5⟩
                go_wp2_with fail
                go_meet
                exact ⟨rfl, B4.out.trans (b5.mono B4.out.size)⟩
              · have q0 : (A1.toList == B1.toList) = false := by
                  rw [Bool.eq_false_iff]
                  intro e
                  exact hm (Pa.same_iff.1 e)
                clear hm
                go_wp2_with fail
                go_meet
                exact ⟨rfl, BB.out⟩
        case rest =>
          obtain ⟨rfl, hb70⟩ := hcut
          rename World => w9
          have B9 := Lib.hid hb70
          clear hb70 BB S2 C1 C2 GR HA HB HOP HOQ
          have hsub : IntKind.i64.wrap ((l.length : Int) - 1) = (l.length : Int) - 1 := by simp [IntKind.wrap, IntKind.bits, IntKind.signed]; omega
          obtain ⟨i0, hi, hz0, hz1, hz2⟩ : ∃ i : TypeInfo, Try.prog.info? 32 = some i ∧ i.zero = some (.agg #[.string ⟨#[]⟩, .bool false]) ∧ i.size = 2 ∧ i.bytes = 24 := by
            have h := Pa.mo_info
            cases hq : Try.prog.info? 32 with
            | none => rw [hq] at h; simp at h
            | some i => rw [hq] at h; simp only [Option.map_some, Option.some.injEq, Prod.mk.injEq] at h; exact ⟨i, rfl, h.1, h.2.1, h.2.2⟩
          have HI := Lib.hid hi
          clear hi
          go_wp2
          go_loopw [13, 14] (fun s13 s14 wr => ∃ (j : Nat) (z : Int), s14 = .int .i64 z ∧ z = (l.length : Int) - 1 - (j : Int) ∧ j ≤ l.length ∧ wr.ownsRow w.heap.size 32 2 s13 j (Pa.flat (l.reverse.take j)) ∧ Below w.heap.size w wr) (fun _ s14 _ => (intOf s14 + 1).toNat)
          case atStart => exact ⟨0, _, rfl, by omega, Nat.zero_le _, World.ownsRow_nil _ _ _ _, B9.out⟩
          case round =>
            obtain ⟨j, z, rfl, hz, hj, ho, hb⟩ := hrel
            obtain ⟨Av, cv, hv⟩ := Sm.own_shape ho
            subst hv
            have HO := Lib.hid ho
            clear ho hsub
            by_cases hjl : j < l.length
            · obtain ⟨i, hi⟩ : ∃ i : Nat, z = (i : Int) := ⟨l.length - 1 - j, by omega⟩
              subst hi
              have hil : i < l.length := by omega
              have hii : (i : Int) < (l.length : Int) := by omega
              have hi0 : (0 : Int) ≤ (i : Int) := by omega
              have hdec : IntKind.i64.wrap ((i : Int) - 1) = (i : Int) - 1 := by simp [IntKind.wrap, IntKind.bits, IntKind.signed]; omega
              have hZ := Lib.hid hz
              obtain ⟨b, off, rfl, hbw, hm⟩ : ∃ b off, A = some ⟨b, off, none⟩ ∧ b < w.heap.size ∧ Pa.mosAt w b off l := by
                rcases HIT.out with rfl | ⟨b, off, h1, h2, h3⟩
                · exact absurd hil (Nat.not_lt_zero _)
                · exact ⟨b, off, h1, h2, h3⟩
              obtain ⟨x0, x1⟩ := hm.below hb hbw i hil
              have hie : l.length - 1 - j = i := by omega
              have hnext : l.reverse.take (j + 1) = l.reverse.take j ++ [l[i]] := by
                rw [Pa.take_turned hjl]
                congr 2
                simp only [hie]
              obtain ⟨x, hx⟩ : ∃ x, x = l[i] := ⟨_, rfl⟩
              rw [← hx] at x0 x1 hnext
              obtain ⟨xn, xs⟩ := x
              simp only at x0 x1
              have HNX := Lib.hid hnext
              have O5 := Lib.hid (HO.out)
              have B5 := Lib.hid hb
              have hb5 : w.heap.size ≤ (wr.alloc (.cells #[.string xn, .bool xs] 32)).heap.size := by have := hb.size; simp; omega
              have HB5 := Lib.hid hb5
              have hj63 : j ≤ 100 := by omega
              clear hm hz hx hnext hie hb5 hb HO
              go_wp2_with (at_builtin; refine wpList_append_own _ rfl _ _ 29 rfl w.heap.size 32 i0 _ 2 24 Try.underlying29 HI.out hz0 hz1 hz2 rfl (by decide) _ _ _ rfl (O5.out.alloc _) ⟨wr.heap.size, 0, none⟩ 1 1 [.string xn, .bool xs] rfl rfl (Pa.new_mo wr _ _) (Pa.one_mo xn xs) (by unfold maxLen; omega) (by omega) HB5.out ?_
                           intro v' w6 hown' hgrow _)
              have hb6 : Below w.heap.size w w6 := (B5.out.alloc (by have := B5.out.size; omega) _).grown hgrow HB5.out (fun q hq => (O5.out.lt q hq).1)
              have hown6 : w6.ownsRow w.heap.size 32 2 v' (j + 1) (Pa.flat (l.reverse.take (j + 1))) := by
                rw [HNX.out, Pa.flat_append, Pa.flat_one]; exact hown'
              have HW := Lib.hid hown6
              have HB := Lib.hid hb6
              clear hown' hgrow hown6 hb6 O5 B5 HB5
              go_wp2
              go_roundw
              case rel => exact ⟨j + 1, _, rfl, by have := hZ.out; omega, hjl, HW.out, HB.out⟩
              case measure => simp only [intOf]; omega
            · have hje : j = l.length := by omega
              subst hje
              have hT : l.reverse.take l.length = l.reverse := List.take_of_length_le (by simp)
              rw [hT] at HO
              have hlr : l.reverse.length = l.length := by simp
              obtain ⟨hLT, hcv, hcm⟩ := Pa.list_of_own (l := l.reverse) (c := cv) (A := Av) (w := wr) (B := w.heap.size) (by rw [hlr]; exact HO.out)
              rw [hlr] at hcv
              have hzz : ¬ (0 : Int) ≤ z := by omega
              obtain ⟨g, hg⟩ : ∃ g : Bool, g = true ↔ Pa.Rightly l := by
                by_cases h : Pa.Rightly l
                · exact ⟨true, by simp [h]⟩
                · exact ⟨false, by simp [h]⟩
              have R1 := Lib.hid (paRight_any (c := c) (HIT.out.below hb) hlc hc g hg)
              have HL := Lib.hid (HIT.out.below hb)
              have HT := Lib.hid hLT
              have BW := Lib.hid hb
              clear hT hLT HO hz hb HI
              cases g
              · clear hg
                go_wp2_with fail
                refine R1.out.mono ?_
                rintro e w10 ⟨rfl, b10⟩
                go_wp2_with fail
                refine (AW.out _).mono ?_
                rintro e w11 ⟨rfl, b11⟩
                go_wp2_with fail
                go_ret
                have := BW.out.trans (b10.mono BW.out.size)
                exact ⟨rfl, this.trans (b11.mono this.size)⟩
              · have hr : Pa.Rightly l := hg.1 rfl
                have hgT : true = true ↔ Pa.Rightly l.reverse := by simp [Pa.rightly_turned hr]
                obtain ⟨n, s, er, hx⟩ : ∃ n s e, Pa.of3 l p.data.toList = (n, s, e) := ⟨_, _, _, rfl⟩
                obtain ⟨sh, hsh⟩ : ∃ b, b = Pa.ships l p.data.toList := ⟨_, rfl⟩
                have hv : Pa.ofV (Pa.of3 l p.data.toList) = .tuple #[.agg #[.string n, .bool s], .int .i64 er] := by rw [hx]; rfl
                have OL : Hid (∀ wx, Pa.listAt wx A l → Calls Try.prog 16 #[.slice A l.length c, .string p] wx fun e w' => e = .returned (.tuple #[.agg #[.string n, .bool s], .int .i64 er]) ∧ Below wx.heap.size wx w') := fun wx h => by
                  have := O1.out wx l A c h hl100
                  rwa [hv] at this
                have OT : Hid (∀ wx, Pa.listAt wx Av l.reverse → Calls Try.prog 16 #[.slice Av l.length cv, .string p] wx fun e w' => e = .returned (.tuple #[.agg #[.string n, .bool s], .int .i64 er]) ∧ Below wx.heap.size wx w') := fun wx h => by
                  have := O1.out wx l.reverse Av cv h (by omega)
                  rwa [Pa.of_turned hr, hv, hlr] at this
                have RT : Hid (∀ wx, Pa.listAt wx Av l.reverse → Calls Try.prog 18 #[.slice Av l.length cv] wx fun e w' => e = .returned (.bool true) ∧ Below wx.heap.size wx w') := fun wx h => by
                  have := paRight_any (c := cv) h (by omega) hcm true hgT
                  rwa [hlr] at this
                have SL : Hid (∀ wx, Pa.listAt wx A l → Calls Try.prog 20 #[.slice A l.length c, .string p] wx fun e w' => e = .returned (.bool sh) ∧ Below wx.heap.size wx w') := fun wx h => by
                  have := S1.out wx l A c h hl100
                  rwa [← hsh] at this
                have ST : Hid (∀ wx, Pa.listAt wx Av l.reverse → Calls Try.prog 20 #[.slice Av l.length cv, .string p] wx fun e w' => e = .returned (.bool sh) ∧ Below wx.heap.size wx w') := fun wx h => by
                  have := S1.out wx l.reverse Av cv h (by omega)
                  rwa [Pa.ships_turned hr, ← hsh, hlr] at this
                have EL : Hid (∀ wx, Pa.listAt wx A l → Calls Try.prog 22 #[.slice A l.length c, .slice A l.length c] wx fun e w' => e = .returned (.bool true) ∧ Below wx.heap.size wx w') := fun wx h => paSame_any c c h h (by omega) true (by simp)
                have ET : Hid (2 ≤ l.length → ∀ wx, Pa.listAt wx A l → Pa.listAt wx Av l.reverse → Calls Try.prog 22 #[.slice A l.length c, .slice Av l.length cv] wx fun e w' => e = .returned (.bool false) ∧ Below wx.heap.size wx w') := fun h2 wx h h' => by
                  have := paSame_any c cv h h' (by omega) false (by simp [Pa.turned_ne hr h2])
                  rwa [hlr] at this
                have qs : (sh == sh) = true := by simp
                have qe : (er == er) = true := by simp
                clear hg hr hgT hx hsh hv S1 O1 hlr
                go_wp2_with fail
                refine R1.out.mono ?_
                rintro e w10 ⟨rfl, b10⟩
                have L10 := Lib.hid (HL.out.below b10)
                have T10 := Lib.hid (HT.out.below b10)
                have c10 := BW.out.trans (b10.mono BW.out.size)
                clear b10
                go_wp2_with fail
                refine (OL.out _ L10.out).mono ?_
                rintro e w11 ⟨rfl, b11⟩
                have L11 := L10.out.below b11
                have T11 := T10.out.below b11
                have c11 := c10.trans (b11.mono c10.size)
                have z0 : (w11.alloc (.cells #[.string ⟨#[]⟩, .bool false] 32)).frozen? ⟨w11.heap.size, 0, none⟩ = false := Sm.free_of (heap_alloc_new w11 _) 0
                clear b11 c10
                go_wp2_with fail
                have k12 : Below w11.heap.size w11 (w11.alloc (.cells #[.string n, .bool s] 32)) := (Below.refl _ w11).alloc (Nat.le_refl _) _
                have c12 := c11.trans (k12.mono c11.size)
                have g12 := heap_alloc_new w11 (.cells #[.string n, .bool s] 32)
                have L12 := Lib.hid (L11.below k12)
                have T12 := Lib.hid (T11.below k12)
                obtain ⟨N, hN⟩ : ∃ n, n = w11.heap.size := ⟨_, rfl⟩
                rw [← hN] at g12 ⊢
                clear hN k12 z0 c11 L11 T11
                generalize w11.alloc (.cells #[.string n, .bool s] 32) = w12 at *
                refine (OT.out _ T12.out).mono ?_
                rintro e w13 ⟨rfl, b13⟩
                have g13 := (b13.block N (Sm.lt_of g12)).trans g12
                have L13 := L12.out.below b13
                have T13 := T12.out.below b13
                have c13 := c12.trans (b13.mono c12.size)
                have k14 : Below w13.heap.size w13 (w13.alloc (.cells #[.string n, .bool s] 32)) := (Below.refl _ w13).alloc (Nat.le_refl _) _
                have c14 := c13.trans (k14.mono c13.size)
                have g14 := (k14.block N (Sm.lt_of g13)).trans g13
                have h14 := heap_alloc_new w13 (.cells #[.string n, .bool s] 32)
                have L14 := Lib.hid (L13.below k14)
                have T14 := Lib.hid (T13.below k14)
                have z2 : (w13.alloc (.cells #[.string ⟨#[]⟩, .bool false] 32)).frozen? ⟨w13.heap.size, 0, none⟩ = false := Sm.free_of (heap_alloc_new w13 _) 0
                clear b13 c12 c13 k14 g12 g13 L13 T13
                go_wp2_with fail
                obtain ⟨N2, hN2⟩ : ∃ n, n = w13.heap.size := ⟨_, rfl⟩
                rw [← hN2] at h14 ⊢
                clear hN2 z2
                generalize w13.alloc (.cells #[.string n, .bool s] 32) = w14 at *
                refine (RT.out _ T14.out).mono ?_
                rintro e w15 ⟨rfl, b15⟩
                have g15 := (b15.block N (Sm.lt_of g14)).trans g14
                have h15 := (b15.block N2 (Sm.lt_of h14)).trans h14
                have x0 := Sm.cells_of g15 0 _ rfl
                have x1 := Sm.cells_of g15 1 _ rfl
                have y0 := Sm.cells_of h15 0 _ rfl
                have y1 := Sm.cells_of h15 1 _ rfl
                have L15 := Lib.hid (L14.out.below b15)
                have T15 := Lib.hid (T14.out.below b15)
                have c15 := c14.trans (b15.mono c14.size)
                clear b15 g14 g15 h14 h15 c14
                go_wp2_with fail
                refine (SL.out _ L15.out).mono ?_
                rintro e w16 ⟨rfl, b16⟩
                have L16 := Lib.hid (L15.out.below b16)
                have T16 := Lib.hid (T15.out.below b16)
                have c16 := c15.trans (b16.mono c15.size)
                clear b16 c15 x0 x1 y0 y1
                go_wp2_with fail
                refine (ST.out _ T16.out).mono ?_
                rintro e w17 ⟨rfl, b17⟩
                have L17 := Lib.hid (L16.out.below b17)
                have T17 := Lib.hid (T16.out.below b17)
                have c17 := c16.trans (b17.mono c16.size)
                clear b17 c16
                go_wp2_with fail
                refine (EL.out _ L17.out).mono ?_
                rintro e w18 ⟨rfl, b18⟩
                have L18 := Lib.hid (L17.out.below b18)
                have T18 := Lib.hid (T17.out.below b18)
                have c18 := c17.trans (b18.mono c17.size)
                clear b18 c17
                by_cases h2 : l.length < 2
                · have h2i : (l.length : Int) < 2 := by omega
                  go_wp2_with fail
                  refine (AW.out _).mono ?_
                  rintro e w19 ⟨rfl, b19⟩
                  go_wp2_with fail
                  go_ret
                  exact ⟨rfl, c18.trans (b19.mono c18.size)⟩
                · have h2i : ¬ (l.length : Int) < 2 := by omega
                  go_wp2_with fail
                  refine (ET.out (by omega) _ L18.out T18.out).mono ?_
                  rintro e w19 ⟨rfl, b19⟩
                  have c19 := c18.trans (b19.mono c18.size)
                  go_wp2_with fail
                  refine (AW.out _).mono ?_
                  rintro e w20 ⟨rfl, b20⟩
                  go_wp2_with fail
                  go_ret
                  exact ⟨rfl, c19.trans (b20.mono c19.size)⟩
  · clear hit
    go_enter Try.func7, Try.ntmps7
    go_wp2_with fail
    refine GR.out.mono ?_
    rintro e w1 ⟨rfl, rfl⟩
    go_wp2_with fail
    all_goals (refine (AW.out _).mono ?_; rintro e w2 ⟨rfl, b2⟩; go_wp2_with fail; go_ret; exact ⟨rfl, b2⟩)
end Go.Proofs.Ytmackgocieodjaa
