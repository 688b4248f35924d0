/-
  NetKnown: the chapter's examples; the room.
-/
import Derived.Test.YtimbcmcmidnlfaaNtParted
namespace Go.Proofs.Ytimbcmcmidnlfaa
open Go.RowKit
namespace Nt
def pb : Pk := ⟨1, 0, ⟨#[98]⟩⟩
def pc : Pk := ⟨0, 1, ⟨#[99]⟩⟩
def pz : Pk := ⟨0, 1, ⟨#[]⟩⟩
def pu : Pk := ⟨1, 0, ⟨#[]⟩⟩
def k1 : Md := (post new pa).1
def k2 : Md := (post k1 pb).1
def k3 : Md := (dup k2 0).1
def k4 : Md := (take k3 0).1
def k5 : Md := (lose k4 0).1
def k6 : Md := (take k5 0).1
def k7 : Md := (post k6 pc).1
def k8 : Md := { k7 with parted := true }
def k9 : Md := { k8 with parted := false }
theorem kn1 : (post new pa).2 = 0 := by decide +kernel
theorem kn2 : (post k1 pb).2 = 0 := by decide +kernel
theorem kn3 : (dup k2 0).2 = 0 := by decide +kernel
theorem kn4 : (take k3 0).2 = (pa, 0) := by decide +kernel
theorem kn4l : k4.row.length = 2 := by decide +kernel
theorem kn5 : (lose k4 0).2 = 0 := by decide +kernel
theorem kn6 : (take k5 0).2 = (pa, 0) := by decide +kernel
theorem kn7 : (take k6 0).2 = (zero, 4) := by decide +kernel
theorem post_bad {M : Md} {p : Pk} (h : ¬ linked p) : post M p = (M, 1) := by unfold post; rw [if_neg h]
theorem take_none {M : Md} {i : Int} (h : there M i = false) : take M i = (M, zero, 4) := by simp [take, h]
theorem take_down {M : Md} {i : Int} (h : there M i = true) (hp : M.parted = true) : take M i = (M, zero, 14) := by simp [take, h, hp]
theorem kn8 : (post k6 pc).2 = 0 := by decide +kernel
theorem kn9 : take k8 0 = (k8, zero, 14) := take_down (by decide +kernel) rfl
theorem kn10 : take k8 1 = (k8, zero, 4) := take_none (by decide +kernel)
theorem kn11 : (take k9 0).2 = (pc, 0) := by decide +kernel
theorem kn6n : take k6 0 = (k6, zero, 4) := take_none (by decide +kernel)
/-- k packets, one like the other, on one link. -/
def full (k : Nat) : Md := ⟨List.replicate k pz, false⟩
theorem count_full (k : Nat) : count (full k).row 0 = k := by
  unfold full count
  rw [List.filter_eq_self.2 (fun a ha => by rw [List.eq_of_mem_replicate ha]; rfl), List.length_replicate]
theorem full_post {k : Nat} (h : k < 64) : post (full k) pz = (full (k + 1), 0) := by
  have := post_room (M := full k) (p := pz) (.inl ⟨rfl, rfl⟩) (by show count (full k).row 0 < 64; rw [count_full]; exact h)
  rw [this, full, full, List.replicate_succ']
theorem full_new : new = full 0 := rfl
def f1 : Md := (post (full 64) pu).1
def f2 : Md := (lose f1 3).1
theorem kf1 : post (full 64) pz = (full 64, 6) := by
  unfold post put
  rw [if_pos (.inl ⟨rfl, rfl⟩), if_pos (show count (full 64).row pz.f = 64 from count_full 64)]
theorem kf2 : dup (full 64) 0 = (full 64, 6) := by
  have h : there (full 64) 0 = true := by decide +kernel
  have e : at_ (full 64) 0 = pz := by decide +kernel
  unfold dup put
  rw [if_pos h, e, if_pos (show count (full 64).row pz.f = 64 from count_full 64)]
theorem kf3 : (post (full 64) pu).2 = 0 := by decide +kernel
theorem kf4 : (lose f1 3).2 = 0 := by decide +kernel
theorem kf5 : (dup f2 0).2 = 0 := by decide +kernel
end Nt
set_option maxRecDepth 100000 in
set_option maxHeartbeats 8000000 in
theorem netknown_any (W : World) : Calls Try.prog 3 #[] W fun e w' => e = .returned (.bool true) ∧ Below W.heap.size W w' := by
  have POa : Hid (∀ (wx : World) (r : Nat) (L : Nat → Prop) (M : Nt.Md), Nt.Own W.heap.size W wx r L M → Calls Try.prog 11 #[.pointer (some ⟨r, 0, none⟩), .agg #[.int .i64 0, .int .i64 1, .string ⟨#[97]⟩]] wx fun e w' => e = .returned (.int .i64 (Nt.post M Nt.pa).2) ∧ Nt.Step W.heap.size W wx w' r L (Nt.post M Nt.pa).1) := fun wx r L M h => ntPost_any h Nt.pa (by decide) (by decide)
  have POb : Hid (∀ (wx : World) (r : Nat) (L : Nat → Prop) (M : Nt.Md), Nt.Own W.heap.size W wx r L M → Calls Try.prog 11 #[.pointer (some ⟨r, 0, none⟩), .agg #[.int .i64 1, .int .i64 0, .string ⟨#[98]⟩]] wx fun e w' => e = .returned (.int .i64 (Nt.post M Nt.pb).2) ∧ Nt.Step W.heap.size W wx w' r L (Nt.post M Nt.pb).1) := fun wx r L M h => ntPost_any h Nt.pb (by decide) (by decide)
  have POc : Hid (∀ (wx : World) (r : Nat) (L : Nat → Prop) (M : Nt.Md), Nt.Own W.heap.size W wx r L M → Calls Try.prog 11 #[.pointer (some ⟨r, 0, none⟩), .agg #[.int .i64 0, .int .i64 1, .string ⟨#[99]⟩]] wx fun e w' => e = .returned (.int .i64 (Nt.post M Nt.pc).2) ∧ Nt.Step W.heap.size W wx w' r L (Nt.post M Nt.pc).1) := fun wx r L M h => ntPost_any h Nt.pc (by decide) (by decide)
  have POz : Hid (∀ (wx : World) (r : Nat) (L : Nat → Prop) (M : Nt.Md), Nt.Own W.heap.size W wx r L M → Calls Try.prog 11 #[.pointer (some ⟨r, 0, none⟩), .agg #[.int .i64 0, .int .i64 1, .string ⟨#[]⟩]] wx fun e w' => e = .returned (.int .i64 (Nt.post M Nt.pz).2) ∧ Nt.Step W.heap.size W wx w' r L (Nt.post M Nt.pz).1) := fun wx r L M h => ntPost_any h Nt.pz (by decide) (by decide)
  have POu : Hid (∀ (wx : World) (r : Nat) (L : Nat → Prop) (M : Nt.Md), Nt.Own W.heap.size W wx r L M → Calls Try.prog 11 #[.pointer (some ⟨r, 0, none⟩), .agg #[.int .i64 1, .int .i64 0, .string ⟨#[]⟩]] wx fun e w' => e = .returned (.int .i64 (Nt.post M Nt.pu).2) ∧ Nt.Step W.heap.size W wx w' r L (Nt.post M Nt.pu).1) := fun wx r L M h => ntPost_any h Nt.pu (by decide) (by decide)
  have POd : Hid (∀ (wx : World) (r : Nat) (L : Nat → Prop) (M : Nt.Md), Nt.Own W.heap.size W wx r L M → Calls Try.prog 11 #[.pointer (some ⟨r, 0, none⟩), .agg #[.int .i64 2, .int .i64 0, .string ⟨#[]⟩]] wx fun e w' => e = .returned (.int .i64 (Nt.post M ⟨2, 0, ⟨#[]⟩⟩).2) ∧ Nt.Step W.heap.size W wx w' r L (Nt.post M ⟨2, 0, ⟨#[]⟩⟩).1) := fun wx r L M h => ntPost_any h ⟨2, 0, ⟨#[]⟩⟩ (by decide) (by decide)
  have POe : Hid (∀ (wx : World) (r : Nat) (L : Nat → Prop) (M : Nt.Md), Nt.Own W.heap.size W wx r L M → Calls Try.prog 11 #[.pointer (some ⟨r, 0, none⟩), .agg #[.int .i64 0, .int .i64 0, .string ⟨#[]⟩]] wx fun e w' => e = .returned (.int .i64 (Nt.post M ⟨0, 0, ⟨#[]⟩⟩).2) ∧ Nt.Step W.heap.size W wx w' r L (Nt.post M ⟨0, 0, ⟨#[]⟩⟩).1) := fun wx r L M h => ntPost_any h ⟨0, 0, ⟨#[]⟩⟩ (by decide) (by decide)
  have POf : Hid (∀ (wx : World) (r : Nat) (L : Nat → Prop) (M : Nt.Md), Nt.Own W.heap.size W wx r L M → Calls Try.prog 11 #[.pointer (some ⟨r, 0, none⟩), .agg #[.int .i64 0, .int .i64 (-1), .string ⟨#[]⟩]] wx fun e w' => e = .returned (.int .i64 (Nt.post M ⟨0, -1, ⟨#[]⟩⟩).2) ∧ Nt.Step W.heap.size W wx w' r L (Nt.post M ⟨0, -1, ⟨#[]⟩⟩).1) := fun wx r L M h => ntPost_any h ⟨0, -1, ⟨#[]⟩⟩ (by decide) (by decide)
  have AW : Hid (∀ wx : World, Calls Try.prog 17 #[] wx fun e w' => e = .returned (.bool true) ∧ Below wx.heap.size wx w') := fun wx => awake8_any wx
  have hpa : Nt.pa.cells.toArray = #[.int .i64 0, .int .i64 1, .string ⟨#[97]⟩] := rfl
  have hpc : Nt.pc.cells.toArray = #[.int .i64 0, .int .i64 1, .string ⟨#[99]⟩] := rfl
  have hze : Nt.zero.cells.toArray = #[.int .i64 0, .int .i64 0, .string ⟨#[]⟩] := rfl
  obtain ⟨B, hB⟩ : ∃ b, b = W.heap.size := ⟨_, rfl⟩
  have BW := Below.refl B W
  have HBB := Lib.hid hB
  rw [← hB] at POa POb POc POz POu POd POe POf
  go_enter Try.func3, Try.ntmps3
  go_wp2_with fail
  refine (ntNew_any BW (by rw [HBB.out]; exact Nat.le_refl _)).mono ?_
  rintro e w1 ⟨rfl, o1, -⟩
  rw [← hB] at o1 ⊢
  clear BW hB
  go_upto_region 3 with (fail)
  have b2 : Below w1.heap.size w1 (w1.alloc (.cells #[.int .i64 0, .int .i64 1, .string ⟨#[97]⟩] 25)) := (Below.refl _ w1).alloc (Nat.le_refl _) _
  have o2 := o1.low b2
  have g1 := heap_alloc_new w1 (.cells #[.int .i64 0, .int .i64 1, .string ⟨#[97]⟩] 25)
  have hlt1 := o1.lt
  obtain ⟨N1, hN1⟩ : ∃ n, n = w1.heap.size := ⟨_, rfl⟩
  rw [← hN1] at g1 hlt1 ⊢
  generalize w1.alloc (.cells #[.int .i64 0, .int .i64 1, .string ⟨#[97]⟩] 25) = w2 at *
  clear b2 o1 hN1
  have x10 := Sm.cells_of g1 0 _ rfl
  have x11 := Sm.cells_of g1 1 _ rfl
  have x12 := Sm.cells_of g1 2 _ rfl
  go_wp2_with fail
  refine (POa.out _ _ _ _ o2).mono ?_
  rintro e w3 ⟨rfl, s3⟩
  rw [Nt.kn1]
  have o3 := s3.own
  have g1 := (s3.turned.block N1 (Sm.lt_of g1) (fun e => by have := Option.some.inj e; omega)).trans g1
  replace o3 : Nt.Own B W w3 B Nt.Non Nt.k1 := o3
  clear o2 s3
  clear x10 x11 x12
  go_wp2_with fail
  refine (POb.out _ _ _ _ o3).mono ?_
  rintro e w4 ⟨rfl, s4⟩
  rw [Nt.kn2]
  have o4 := s4.own
  have g1 := (s4.turned.block N1 (Sm.lt_of g1) (fun e => by have := Option.some.inj e; omega)).trans g1
  replace o4 : Nt.Own B W w4 B Nt.Non Nt.k2 := o4
  clear o3 s4
  go_wp2_with fail
  refine (ntDup_any o4 0).mono ?_
  rintro e w5 ⟨rfl, s5⟩
  rw [Nt.kn3]
  have o5 := s5.own
  have g1 := (s5.turned.block N1 (Sm.lt_of g1) (fun e => by have := Option.some.inj e; omega)).trans g1
  replace o5 : Nt.Own B W w5 B Nt.Non Nt.k3 := o5
  clear o4 s5
  go_wp2_with fail
  refine (ntTake_any o5 0).mono ?_
  rintro e w6 ⟨rfl, s6⟩
  rw [Nt.kn4]
  have o6 := s6.own
  have g1 := (s6.turned.block N1 (Sm.lt_of g1) (fun e => by have := Option.some.inj e; omega)).trans g1
  replace o6 : Nt.Own B W w6 B Nt.Non Nt.k4 := o6
  clear o5 s6
  rw [hpa]
  go_upto_region 7 with (fail)
  have b7 : Below w6.heap.size w6 (w6.alloc (.cells #[.int .i64 0, .int .i64 1, .string ⟨#[97]⟩] 25)) := (Below.refl _ w6).alloc (Nat.le_refl _) _
  have o7 := o6.low b7
  have g1 := (b7.block N1 (Sm.lt_of g1)).trans g1
  have g2 := heap_alloc_new w6 (.cells #[.int .i64 0, .int .i64 1, .string ⟨#[97]⟩] 25)
  have hlt2 := o6.lt
  obtain ⟨N2, hN2⟩ : ∃ n, n = w6.heap.size := ⟨_, rfl⟩
  rw [← hN2] at g2 hlt2 ⊢
  generalize w6.alloc (.cells #[.int .i64 0, .int .i64 1, .string ⟨#[97]⟩] 25) = w7 at *
  clear b7 o6 hN2
  go_wp2_with fail
  refine (ntLen_any o7).mono ?_
  rintro e w7x ⟨rfl, rfl⟩
  rw [Nt.kn4l]
  go_wp2_with fail
  refine (ntLose_any o7 0).mono ?_
  rintro e w8 ⟨rfl, s8⟩
  rw [Nt.kn5]
  have o8 := s8.own
  have g1 := (s8.turned.block N1 (Sm.lt_of g1) (fun e => by have := Option.some.inj e; omega)).trans g1
  have g2 := (s8.turned.block N2 (Sm.lt_of g2) (fun e => by have := Option.some.inj e; omega)).trans g2
  replace o8 : Nt.Own B W w8 B Nt.Non Nt.k5 := o8
  clear o7 s8
  go_wp2_with fail
  refine (ntTake_any o8 0).mono ?_
  rintro e w9 ⟨rfl, s9⟩
  rw [Nt.kn6]
  have o9 := s9.own
  have g1 := (s9.turned.block N1 (Sm.lt_of g1) (fun e => by have := Option.some.inj e; omega)).trans g1
  have g2 := (s9.turned.block N2 (Sm.lt_of g2) (fun e => by have := Option.some.inj e; omega)).trans g2
  replace o9 : Nt.Own B W w9 B Nt.Non Nt.k6 := o9
  clear o8 s9
  rw [hpa]
  go_upto_region 10 with (fail)
  have b10 : Below w9.heap.size w9 (w9.alloc (.cells #[.int .i64 0, .int .i64 1, .string ⟨#[97]⟩] 25)) := (Below.refl _ w9).alloc (Nat.le_refl _) _
  have o10 := o9.low b10
  have g1 := (b10.block N1 (Sm.lt_of g1)).trans g1
  have g2 := (b10.block N2 (Sm.lt_of g2)).trans g2
  have g3 := heap_alloc_new w9 (.cells #[.int .i64 0, .int .i64 1, .string ⟨#[97]⟩] 25)
  have hlt3 := o9.lt
  obtain ⟨N3, hN3⟩ : ∃ n, n = w9.heap.size := ⟨_, rfl⟩
  rw [← hN3] at g3 hlt3 ⊢
  generalize w9.alloc (.cells #[.int .i64 0, .int .i64 1, .string ⟨#[97]⟩] 25) = w10 at *
  clear b10 o9 hN3
  go_wp2_with fail
  refine (ntTake_any o10 0).mono ?_
  rintro e w11 ⟨rfl, s11⟩
  rw [Nt.kn6n] at s11 ⊢
  have o11 := s11.own
  have g1 := (s11.turned.block N1 (Sm.lt_of g1) (fun e => by have := Option.some.inj e; omega)).trans g1
  have g2 := (s11.turned.block N2 (Sm.lt_of g2) (fun e => by have := Option.some.inj e; omega)).trans g2
  have g3 := (s11.turned.block N3 (Sm.lt_of g3) (fun e => by have := Option.some.inj e; omega)).trans g3
  replace o11 : Nt.Own B W w11 B Nt.Non Nt.k6 := o11
  clear o10 s11
  rw [hze]
  go_upto_region 11 with (fail)
  have b12 : Below w11.heap.size w11 (w11.alloc (.cells #[.int .i64 0, .int .i64 0, .string ⟨#[]⟩] 25)) := (Below.refl _ w11).alloc (Nat.le_refl _) _
  have o12 := o11.low b12
  have g1 := (b12.block N1 (Sm.lt_of g1)).trans g1
  have g2 := (b12.block N2 (Sm.lt_of g2)).trans g2
  have g3 := (b12.block N3 (Sm.lt_of g3)).trans g3
  have g4 := heap_alloc_new w11 (.cells #[.int .i64 0, .int .i64 0, .string ⟨#[]⟩] 25)
  have hlt4 := o11.lt
  obtain ⟨N4, hN4⟩ : ∃ n, n = w11.heap.size := ⟨_, rfl⟩
  rw [← hN4] at g4 hlt4 ⊢
  generalize w11.alloc (.cells #[.int .i64 0, .int .i64 0, .string ⟨#[]⟩] 25) = w12 at *
  clear b12 o11 hN4
  clear g4 hlt4
  have x10 := Sm.cells_of g1 0 _ rfl
  have x11 := Sm.cells_of g1 1 _ rfl
  have x12 := Sm.cells_of g1 2 _ rfl
  have x20 := Sm.cells_of g2 0 _ rfl
  have x21 := Sm.cells_of g2 1 _ rfl
  have x22 := Sm.cells_of g2 2 _ rfl
  have x30 := Sm.cells_of g3 0 _ rfl
  have x31 := Sm.cells_of g3 1 _ rfl
  have x32 := Sm.cells_of g3 2 _ rfl
  go_upto_region 13 with (fail)
  clear x10 x11 x12 x20 x21 x22 x30 x31 x32
  clear g1 g2 g3 hlt1 hlt2 hlt3
  go_wp2_with fail
  refine (POd.out _ _ _ _ o12).mono ?_
  rintro e w13 ⟨rfl, s13⟩
  rw [Nt.post_bad (show ¬ Nt.linked ⟨2, 0, ⟨#[]⟩⟩ by decide)] at s13 ⊢
  have o13 := s13.own
  replace o13 : Nt.Own B W w13 B Nt.Non Nt.k6 := o13
  clear o12 s13
  go_wp2_with fail
  refine (POe.out _ _ _ _ o13).mono ?_
  rintro e w14 ⟨rfl, s14⟩
  rw [Nt.post_bad (show ¬ Nt.linked ⟨0, 0, ⟨#[]⟩⟩ by decide)] at s14 ⊢
  have o14 := s14.own
  replace o14 : Nt.Own B W w14 B Nt.Non Nt.k6 := o14
  clear o13 s14
  go_wp2_with fail
  refine (POf.out _ _ _ _ o14).mono ?_
  rintro e w15 ⟨rfl, s15⟩
  rw [Nt.post_bad (show ¬ Nt.linked ⟨0, -1, ⟨#[]⟩⟩ by decide)] at s15 ⊢
  have o15 := s15.own
  replace o15 : Nt.Own B W w15 B Nt.Non Nt.k6 := o15
  clear o14 s15
  go_wp2_with fail
  refine (POc.out _ _ _ _ o15).mono ?_
  rintro e w16 ⟨rfl, s16⟩
  rw [Nt.kn8]
  have o16 := s16.own
  replace o16 : Nt.Own B W w16 B Nt.Non Nt.k7 := o16
  clear o15 s16
  go_wp2_with fail
  refine (ntPart_any o16 true).mono ?_
  rintro e w17 ⟨rfl, s17⟩
  have o17 := s17.own
  replace o17 : Nt.Own B W w17 B Nt.Non Nt.k8 := o17
  clear o16 s17
  go_wp2_with fail
  refine (ntTake_any o17 0).mono ?_
  rintro e w18 ⟨rfl, s18⟩
  rw [Nt.kn9] at s18 ⊢
  have o18 := s18.own
  replace o18 : Nt.Own B W w18 B Nt.Non Nt.k8 := o18
  clear o17 s18
  rw [hze]
  go_upto_region 17 with (fail)
  have b19 : Below w18.heap.size w18 (w18.alloc (.cells #[.int .i64 0, .int .i64 0, .string ⟨#[]⟩] 25)) := (Below.refl _ w18).alloc (Nat.le_refl _) _
  have o19 := o18.low b19
  have g5 := heap_alloc_new w18 (.cells #[.int .i64 0, .int .i64 0, .string ⟨#[]⟩] 25)
  have hlt5 := o18.lt
  obtain ⟨N5, hN5⟩ : ∃ n, n = w18.heap.size := ⟨_, rfl⟩
  rw [← hN5] at g5 hlt5 ⊢
  generalize w18.alloc (.cells #[.int .i64 0, .int .i64 0, .string ⟨#[]⟩] 25) = w19 at *
  clear b19 o18 hN5
  clear g5 hlt5
  go_wp2_with fail
  refine (ntTake_any o19 1).mono ?_
  rintro e w20 ⟨rfl, s20⟩
  rw [Nt.kn10] at s20 ⊢
  have o20 := s20.own
  replace o20 : Nt.Own B W w20 B Nt.Non Nt.k8 := o20
  clear o19 s20
  rw [hze]
  go_upto_region 18 with (fail)
  have b21 : Below w20.heap.size w20 (w20.alloc (.cells #[.int .i64 0, .int .i64 0, .string ⟨#[]⟩] 25)) := (Below.refl _ w20).alloc (Nat.le_refl _) _
  have o21 := o20.low b21
  have g6 := heap_alloc_new w20 (.cells #[.int .i64 0, .int .i64 0, .string ⟨#[]⟩] 25)
  have hlt6 := o20.lt
  obtain ⟨N6, hN6⟩ : ∃ n, n = w20.heap.size := ⟨_, rfl⟩
  rw [← hN6] at g6 hlt6 ⊢
  generalize w20.alloc (.cells #[.int .i64 0, .int .i64 0, .string ⟨#[]⟩] 25) = w21 at *
  clear b21 o20 hN6
  clear g6 hlt6
  go_wp2_with fail
  refine (ntPart_any o21 false).mono ?_
  rintro e w22 ⟨rfl, s22⟩
  have o22 := s22.own
  replace o22 : Nt.Own B W w22 B Nt.Non Nt.k9 := o22
  clear o21 s22
  go_wp2_with fail
  refine (ntTake_any o22 0).mono ?_
  rintro e w23 ⟨rfl, s23⟩
  rw [Nt.kn11]
  have o23 := s23.own
  clear o22 s23
  rw [hpc]
  go_upto_region 20 with (fail)
  have b24 : Below w23.heap.size w23 (w23.alloc (.cells #[.int .i64 0, .int .i64 1, .string ⟨#[99]⟩] 25)) := (Below.refl _ w23).alloc (Nat.le_refl _) _
  have o24 := o23.low b24
  have g7 := heap_alloc_new w23 (.cells #[.int .i64 0, .int .i64 1, .string ⟨#[99]⟩] 25)
  have hlt7 := o23.lt
  obtain ⟨N7, hN7⟩ : ∃ n, n = w23.heap.size := ⟨_, rfl⟩
  rw [← hN7] at g7 hlt7 ⊢
  generalize w23.alloc (.cells #[.int .i64 0, .int .i64 1, .string ⟨#[99]⟩] 25) = w24 at *
  clear b24 o23 hN7
  go_wp2_with fail
  have hns := Sm.lt_of g7
  have hbl := o24.below
  have hBs := hbl.size
  refine (ntNew_any hbl (by rw [HBB.out]; exact Nat.le_refl _)).mono ?_
  rintro e w25 ⟨rfl, o25, k25⟩
  have g7 := (k25.block N7 (Sm.lt_of g7)).trans g7
  have hNy : N7 ≠ w24.heap.size := by omega
  obtain ⟨ry, hry⟩ : ∃ n, n = w24.heap.size := ⟨_, rfl⟩
  rw [← hry] at o25 hNy ⊢
  rw [Nt.full_new] at o25
  have HO := Lib.hid o25
  have GS := Lib.hid g7
  clear hns k25 hbl hBs hry o25 g7 hlt7
  clear POa POb POc POd POe POf
  go_wp2
  go_loopw [21] (fun s21 wr => ∃ k : Nat, s21 = .int .i64 k ∧ k ≤ 64 ∧ Nt.Own B W wr ry Nt.Non (Nt.full k) ∧ wr.heap[N7]? = some (.cells #[.int .i64 0, .int .i64 1, .string ⟨#[99]⟩] 25 (0, 0))) (fun s21 _ => 64 - (intOf s21).toNat)
  case atStart => exact ⟨0, rfl, Nat.zero_le _, HO.out, GS.out⟩
  case round =>
    clear HO GS
    obtain ⟨k, rfl, hk, o, g⟩ := hrel
    by_cases hkl : k < 64
    · have hki : (k : Int) < 64 := by omega
      have hsuc : IntKind.i64.wrap ((k : Int) + 1) = ((k + 1 : Nat) : Int) := by simp [IntKind.wrap, IntKind.bits, IntKind.signed]; omega
      go_wp2_with fail
      refine (POz.out _ _ _ _ o).mono ?_
      rintro e w30 ⟨rfl, s30⟩
      rw [Nt.full_post hkl] at s30 ⊢
      have O30 := Lib.hid s30.own
      have G30 := Lib.hid ((s30.turned.block N7 (Sm.lt_of g) (fun e => hNy (Option.some.inj e))).trans g)
      clear s30 o g
      go_wp2
      go_roundw
      case rel => exact ⟨k + 1, rfl, hkl, O30.out, G30.out⟩
      case measure => simp [intOf]; omega
    · have hki : ¬ (k : Int) < 64 := by omega
      have hke : k = 64 := by omega
      subst hke
      go_wp2_with fail
      refine (AW.out _).mono ?_
      rintro e w31 ⟨rfl, k31⟩
      have o31 := o.low k31
      have g31 := (k31.block N7 (Sm.lt_of g)).trans g
      clear o g k31 AW
      have x2 := Sm.cells_of g31 2 _ rfl
      go_wp2_with fail
      refine (POz.out _ _ _ _ o31).mono ?_
      rintro e w32 ⟨rfl, s32⟩
      rw [Nt.kf1] at s32 ⊢
      have o32 := s32.own
      clear s32 o31 g31 x2
      go_wp2_with fail
      refine (ntDup_any o32 0).mono ?_
      rintro e w33 ⟨rfl, s33⟩
      rw [Nt.kf2] at s33 ⊢
      have o33 := s33.own
      clear s33 o32
      go_wp2_with fail
      refine (POu.out _ _ _ _ o33).mono ?_
      rintro e w34 ⟨rfl, s34⟩
      rw [Nt.kf3]
      have o34 : Nt.Own B W w34 ry Nt.Non Nt.f1 := s34.own
      clear s34 o33
      go_wp2_with fail
      refine (ntLose_any o34 3).mono ?_
      rintro e w35 ⟨rfl, s35⟩
      rw [Nt.kf4]
      have o35 : Nt.Own B W w35 ry Nt.Non Nt.f2 := s35.own
      clear s35 o34
      go_wp2_with fail
      refine (ntDup_any o35 0).mono ?_
      rintro e w36 ⟨rfl, s36⟩
      rw [Nt.kf5]
      have b36 := s36.own.below
      clear s36 o35
      go_wp2
      go_ret
      exact ⟨rfl, by rw [← HBB.out]; exact b36⟩
end Go.Proofs.Ytimbcmcmidnlfaa
