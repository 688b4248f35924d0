/-
  bucket's areOf: whether all pairs are of a bucket.
-/
import Derived.Test.YtiehcplepneajaaGreatDoorBuPart
import Derived.Shelf.Abstract
namespace Go.Proofs.YtiehcplepneajaaGreatDoor
open Go.RowKit
namespace Bu
theorem neq_isOf (i : Int) (x : Om.Pr) : (((bk x.p : Nat) : Int) != i) = !isOf i x := by rw [← isOf_eq]; rfl
theorem all_none (i : Int) : allOf i [] = true := rfl
theorem all_upto {l : List Om.Pr} {i : Int} (h : ∀ j (hj : j < l.length), isOf i l[j] = true) : allOf i l = true := List.all_eq_true.2 fun x hx => by
  obtain ⟨j, hj, rfl⟩ := List.getElem_of_mem hx
  exact h j hj
theorem all_not {l : List Om.Pr} {i : Int} {j : Nat} (hj : j < l.length) (h : isOf i l[j] = false) : allOf i l = false := Bool.eq_false_iff.2 fun ha => by
  have := List.all_eq_true.1 ha _ (List.getElem_mem hj)
  rw [h] at this
  cases this
end Bu
set_option maxRecDepth 100000 in
set_option maxHeartbeats 2000000 in
theorem buAreOf1_any {w : World} (hH : Sm.HAt w) (hK : Sm.KAt w) (hsz : 1 < w.heap.size) (x : Om.Pr) (hp : x.p.size ≤ 281474976710656) (g : Nat) (i : Int) (hg : w.cell? ⟨g, 0, none⟩ = some (.int .i64 i)) (hl : g < w.heap.size) :
    Calls Tryz.prog 141 #[.agg #[.string x.p, .string x.v], .pointer (some ⟨g, 0, none⟩)] w fun e w' => e = .returned (.bool (!Bu.isOf i x)) ∧ Below w.heap.size w w' := by
  obtain ⟨M, hM⟩ : ∃ M, M = w.heap.size := ⟨_, rfl⟩
  have gn := heap_alloc_new w (.cells #[.string x.p, .string x.v] 79)
  have b1 : Below w.heap.size w (w.alloc (.cells #[.string x.p, .string x.v] 79)) := (Below.refl _ w).alloc (Nat.le_refl _) _
  have hz0 := (b1.cell (p := ⟨g, 0, none⟩) hl).trans hg
  have hgl : g < (w.alloc (.cells #[.string x.p, .string x.v] 79)).heap.size := Nat.lt_of_lt_of_le hl b1.size
  have OF : Hid (Calls Tryz.prog 39 #[.string x.p] (w.alloc (.cells #[.string x.p, .string x.v] 79)).drew fun e w' => e = .returned (.int .i64 (Bu.bk x.p : Nat)) ∧ Below (w.alloc (.cells #[.string x.p, .string x.v] 79)).drew.heap.size (w.alloc (.cells #[.string x.p, .string x.v] 79)).drew w') :=
    buOf_any (hH.low b1.drew (by omega)) (hK.low b1.drew hsz) (Nat.lt_of_lt_of_le hsz b1.size) x.p (by omega)
  have ISO := Lib.hid (Bu.neq_isOf i x)
  have HB1 := Lib.hid b1
  rw [← hM] at gn
  clear hg hl hsz hH hK b1
  go_enter Tryz.func141, Tryz.ntmps141
  go_upto_region 1 with (fail)
  rw [← hM]
  clear hM
  generalize w.alloc (.cells #[.string x.p, .string x.v] 79) = W1 at *
  have y0 : W1.drew.cell? ⟨M, 0, none⟩ = some (.string x.p) := Sm.cells_of gn 0 _ rfl
  have z0 : W1.drew.cell? ⟨g, 0, none⟩ = some (.int .i64 i) := hz0
  have ML : Hid (M < W1.drew.heap.size) := Sm.lt_of gn
  have GL : Hid (g < W1.drew.heap.size) := hgl
  have HBD : Hid (Below w.heap.size w W1.drew) := HB1.out.drew
  clear gn hz0 hgl
  refine wp_region_held_drew (S := fun w' => w'.cell? ⟨M, 0, none⟩ = some (.string x.p) ∧ w'.cell? ⟨g, 0, none⟩ = some (.int .i64 i)) (by kernel_rfl) ⟨y0, z0⟩ (fun hHeld => ?_)
  refine wpAnyH_take (i := 0) (oi := ⟨some 4, _, _, _, _, _⟩) (v := .pointer (some ⟨M, 0, none⟩)) rfl (by kernel_rfl) (by kernel_rfl) (by kernel_rfl) (fun _ _ _ h => h) (Or.inl ⟨by rfl, ?_⟩) (by assumption) ?_
  · intro w hSw; (try dsimp only at hSw); go_simp
  simp only [Act.put, List.setIfInBounds_toArray, List.set_cons_zero, List.set_cons_succ]
  refine wpAnyH_take (i := 1) (oi := ⟨some 5, _, _, _, _, _⟩) (v := .string x.p) rfl (by kernel_rfl) (by kernel_rfl) (by kernel_rfl) (fun _ _ _ h => h) (Or.inl ⟨by rfl, ?_⟩) (by assumption) ?_
  · intro w hSw; (try dsimp only at hSw); go_simp
  simp only [Act.put, List.setIfInBounds_toArray, List.set_cons_zero, List.set_cons_succ]
  refine wpAnyH_take (i := 3) (oi := ⟨some 7, _, _, _, _, _⟩) (v := .int .i64 i) rfl (by kernel_rfl) (by kernel_rfl) (by kernel_rfl) (fun _ _ _ h => h) (Or.inl ⟨by rfl, ?_⟩) (by assumption) ?_
  · intro w hSw; (try dsimp only at hSw); go_simp
  simp only [Act.put, List.setIfInBounds_toArray, List.set_cons_zero, List.set_cons_succ]
  refine wpAnyH_ready (rs := [2]) (by kernel_rfl) (by simp) ?_
  refine (AllReadyH.cons (o := ⟨some 6, _, _, _, _, _⟩) rfl (fun K hK => ?_) AllReadyH.nil)
  go_simp
  refine (OF.out).mono ?_
  rintro e w4 ⟨rfl, k4⟩
  refine hK.out _ _ ⟨(k4.cell (p := ⟨M, 0, none⟩) ML.out).trans y0, (k4.cell (p := ⟨g, 0, none⟩) GL.out).trans z0⟩ (fun hHeld => ?_)
  clear hK K
  refine wpAnyH_take (i := 4) (oi := ⟨some 8, _, _, _, _, _⟩) (v := .bool (!Bu.isOf i x)) rfl (by kernel_rfl) (by kernel_rfl) (by kernel_rfl) (fun _ _ _ h => h) (Or.inl ⟨by rfl, ?_⟩) (by assumption) ?_
  · intro w hSw; (try dsimp only at hSw); have q := ISO.out; go_simp
  simp only [Act.put, List.setIfInBounds_toArray, List.set_cons_zero, List.set_cons_succ]
  refine wpAnyH_take (i := 5) (oi := ⟨some 3, _, _, _, _, _⟩) (v := .bool (!Bu.isOf i x)) rfl (by kernel_rfl) (by kernel_rfl) (by kernel_rfl) (fun _ _ _ h => h) (Or.inl ⟨by rfl, ?_⟩) (by assumption) ?_
  · intro w hSw; (try dsimp only at hSw); go_simp
  simp only [Act.put, List.setIfInBounds_toArray, List.set_cons_zero, List.set_cons_succ]
  refine wpAnyH_done (by kernel_rfl) ?_ _
  go_wp2_with fail
  go_ret
  exact ⟨rfl, HBD.out.trans (k4.mono HBD.out.size)⟩
set_option maxRecDepth 100000 in
set_option maxHeartbeats 2000000 in
theorem buIndexFunc_some {w : World} (hH : Sm.HAt w) (hK : Sm.KAt w) (hsz : 1 < w.heap.size) (b off c : Nat) (l : List Om.Pr) (i : Int) (g : Nat) (hg : w.cell? ⟨g, 0, none⟩ = some (.int .i64 i)) (hgl : g < w.heap.size) (hb : b < w.heap.size) (hit : Om.prsAt w b off l) (hl : l.length ≤ 9223372036854775807) (hs : ∀ x ∈ l, x.p.size ≤ 281474976710656) :
    Calls Tryz.prog 164 #[.slice (some ⟨b, off, none⟩) l.length c, .func (.func 141) #[] #[.pointer (some ⟨g, 0, none⟩)]] w fun e w' => (∃ j : Int, e = .returned (.int .i64 j) ∧ Hid (decide (0 ≤ j) = !Bu.allOf i l)) ∧ Below w.heap.size w w' := by
  have HIT := Lib.hid hit
  have HS := Lib.hid hs
  have CA : Hid (∀ (wx : World) (x : Om.Pr), Below w.heap.size w wx → x.p.size ≤ 281474976710656 → Calls Tryz.prog 141 #[.agg #[.string x.p, .string x.v], .pointer (some ⟨g, 0, none⟩)] wx fun e w' => e = .returned (.bool (!Bu.isOf i x)) ∧ Below wx.heap.size wx w') := fun wx x hbx hx =>
    buAreOf1_any (hH.low hbx (by omega)) (hK.low hbx hsz) (Nat.lt_of_lt_of_le hsz hbx.size) x hx g i ((hbx.cell (p := ⟨g, 0, none⟩) hgl).trans hg) (Nat.lt_of_lt_of_le hgl hbx.size)
  clear hg hit hs hH hK
  have eg : ∀ args w, (callFunc 141 args).run Tryz.prog w = .ok (.enter 141 args) w := Go.Proofs.enters_of Tryz.func141 (by kernel_rfl) rfl
  go_enter Tryz.func164, Tryz.ntmps164
  go_wp2
  go_loopw [8] (fun s8 wr => ∃ k : Nat, s8 = .int .i64 k ∧ k ≤ l.length ∧ (∀ j (h : j < l.length), j < k → Bu.isOf i l[j] = true) ∧ Below w.heap.size w wr) (fun s8 _ => l.length - (intOf s8).toNat)
  case atStart => exact ⟨0, rfl, Nat.zero_le _, fun _ _ h => absurd h (Nat.not_lt_zero _), Below.refl _ w⟩
  case round =>
    obtain ⟨k, rfl, hk, hall, bw⟩ := hrel
    have HA := Lib.hid hall
    clear hall
    by_cases hil : k < l.length
    · have hii : (k : Int) < l.length := by omega
      have hsuc : IntKind.i64.wrap ((k : Int) + 1) = ((k + 1 : Nat) : Int) := by simp [IntKind.wrap, IntKind.bits, IntKind.signed]; omega
      obtain ⟨c0, c1⟩ := (HIT.out.below bw hb) k hil
      have hxp := HS.out _ (List.getElem_mem hil)
      obtain ⟨x, hx⟩ : ∃ x, x = l[k] := ⟨_, rfl⟩
      rw [← hx] at c0 c1 hxp
      have CF := Lib.hid (CA.out wr x bw hxp)
      have HX := Lib.hid hx
      clear hx
      cases hs : Bu.isOf i x
      · rw [hs] at CF
        have hp : Hid (decide (0 ≤ (k : Int)) = !Bu.allOf i l) := by
          show _ = _
          rw [Bu.all_not hil (by rw [← HX.out]; exact hs), decide_eq_true (by omega)]; rfl
        clear hs
        go_wp2_with (go_at_fn 141; refine (CF.out).mono ?_; rintro e w2 ⟨rfl, b2⟩)
        go_ret
        exact ⟨⟨_, rfl, hp⟩, Sm.low_low bw (Nat.le_refl _) b2⟩
      · rw [hs] at CF
        have hnext : ∀ j (h : j < l.length), j < k + 1 → Bu.isOf i l[j] = true := fun j h hj => by
          by_cases e : j = k
          · subst e; rw [← HX.out]; exact hs
          · exact HA.out j h (by omega)
        have HN := Lib.hid hnext
        clear hnext hs
        go_wp2_with (go_at_fn 141; refine (CF.out).mono ?_; rintro e w2 ⟨rfl, b2⟩)
        go_roundw
        case rel => exact ⟨k + 1, rfl, by omega, HN.out, Sm.low_low bw (Nat.le_refl _) b2⟩
        case measure => simp only [intOf]; omega
    · have hii : ¬ (k : Int) < l.length := by omega
      have hp : Hid (decide (0 ≤ (-1 : Int)) = !Bu.allOf i l) := by
        show _ = _
        rw [Bu.all_upto fun j h => HA.out j h (by omega)]; rfl
      go_wp2
      go_ret
      exact ⟨⟨_, rfl, hp⟩, bw⟩
set_option maxRecDepth 100000 in
theorem buIndexFunc_none (w : World) (A : Option Addr) (c : Nat) (i : Int) (F : Value) :
    Calls Tryz.prog 164 #[.slice A 0 c, F] w fun e w' => (∃ j : Int, e = .returned (.int .i64 j) ∧ Hid (decide (0 ≤ j) = !Bu.allOf i [])) ∧ Below w.heap.size w w' := by
  go_enter Tryz.func164, Tryz.ntmps164
  go_wp2
  refine wp_loop_rounds 1 ?_
  rw [rounds_succ]
  go_wp2
  go_ret
  exact ⟨⟨_, rfl, rfl⟩, Below.refl _ w⟩
set_option maxRecDepth 100000 in
set_option maxHeartbeats 1000000 in
theorem buAreOf_any {w : World} (hH : Sm.HAt w) (hK : Sm.KAt w) (hsz : 1 < w.heap.size) {A : Option Addr} {l : List Om.Pr} (c : Nat) (hit : Om.listAt w A l) (hl : l.length ≤ 9223372036854775807) (hs : ∀ x ∈ l, x.p.size ≤ 281474976710656) (i : Int) :
    Calls Tryz.prog 106 #[.int .i64 i, .slice A l.length c] w fun e w' => e = .returned (.bool (Bu.allOf i l)) ∧ Below w.heap.size w w' := by
  have b1 : Below w.heap.size w (w.alloc (.cells #[.int .i64 i] 3)) := (Below.refl _ w).alloc (Nat.le_refl _) _
  have gn := heap_alloc_new w (.cells #[.int .i64 i] 3)
  have hszn : w.heap.size < (w.alloc (.cells #[.int .i64 i] 3)).heap.size := Sm.lt_of gn
  have CI : Hid (Calls Tryz.prog 164 #[.slice A l.length c, .func (.func 141) #[] #[.pointer (some ⟨w.heap.size, 0, none⟩)]] (w.alloc (.cells #[.int .i64 i] 3)) fun e w' => (∃ j : Int, e = .returned (.int .i64 j) ∧ Hid (decide (0 ≤ j) = !Bu.allOf i l)) ∧ Below (w.alloc (.cells #[.int .i64 i] 3)).heap.size (w.alloc (.cells #[.int .i64 i] 3)) w') := by
    rcases hit.below b1 with rfl | ⟨b, off, rfl, hb, hm⟩
    · exact buIndexFunc_none _ A c i _
    · exact buIndexFunc_some (hH.low b1 (by omega)) (hK.low b1 hsz) (Nat.lt_of_lt_of_le hsz b1.size) b off c l i w.heap.size (Sm.cells_of gn 0 _ rfl) hszn hb hm hl hs
  have CC : Hid (Calls Tryz.prog 140 #[.slice A l.length c, .func (.func 141) #[] #[.pointer (some ⟨w.heap.size, 0, none⟩)]] (w.alloc (.cells #[.int .i64 i] 3)) fun e w' => e = .returned (.bool (!Bu.allOf i l)) ∧ Below (w.alloc (.cells #[.int .i64 i] 3)).heap.size (w.alloc (.cells #[.int .i64 i] 3)) w') := by
    clear hit gn hszn hH hK b1
    generalize w.alloc (.cells #[.int .i64 i] 3) = W1 at *
    generalize w.heap.size = G at *
    obtain ⟨q, hq⟩ : ∃ q, q = !Bu.allOf i l := ⟨_, rfl⟩
    rw [← hq] at CI ⊢
    clear hq hs
    go_enter Tryz.func140, Tryz.ntmps140
    go_wp2_with (go_at_call 164; refine (CI.out).mono ?_; rintro e w2 ⟨⟨j, rfl, hj⟩, b2⟩)
    go_ret
    exact ⟨by rw [← hj.out]; rfl, b2⟩
  clear hit gn hszn CI hH hK hs
  go_enter Tryz.func106, Tryz.ntmps106
  go_wp2_with (go_at_call 140; refine (CC.out).mono ?_; rintro e w2 ⟨rfl, b2⟩)
  go_ret
  exact ⟨by simp, Sm.low_low b1 (Nat.le_refl _) b2⟩
end Go.Proofs.YtiehcplepneajaaGreatDoor
