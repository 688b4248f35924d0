/-
  BucketKnown: the chapter's examples about buckets, and some faults.
-/
import Derived.Test.YthhmnbpabncdnaaDoorBuAwake
import Derived.Test.YthhmnbpabncdnaaDoorBuPart
namespace Go.Proofs.YthhmnbpabncdnaaDoor
open Go.RowKit
namespace Bu
/-- The row of one pair lies in block g. -/
structure Kn (w wx : World) (g : Nat) : Prop where
  bel : Below w.heap.size w wx
  one : Om.listAt wx (some ⟨g, 0, none⟩) Bu.one
theorem Kn.step {w wx wy : World} {g : Nat} (h : Kn w wx g) (k : Below wx.heap.size wx wy) : Kn w wy g := ⟨h.bel.trans (k.mono h.bel.size), h.one.below k⟩
theorem pageNoneV : page 3 [] = (⟨#[0]⟩, 0) := by rw [page_good (pageNone (by decide)), bytesNone]
theorem list_2 {w : World} {b : Nat} {p q : ByteArray} (h : w.heap[b]? = some (.cells #[.string p, .string tNo, .string q, .string tNo] 37 (0, 0))) : Om.listAt w (some ⟨b, 0, none⟩) [⟨p, tNo⟩, ⟨q, tNo⟩] := .inr ⟨b, 0, rfl, Sm.lt_of h, fun k hk => by
  have hk2 : k < 2 := hk
  obtain rfl | rfl : k = 0 ∨ k = 1 := by omega
  · exact ⟨Sm.cells_of h 0 _ rfl, Sm.cells_of h 1 _ rfl⟩
  · exact ⟨Sm.cells_of h 2 _ rfl, Sm.cells_of h 3 _ rfl⟩⟩
theorem list_1 {w : World} {b : Nat} {p : ByteArray} (h : w.heap[b]? = some (.cells #[.string p, .string tNo] 37 (0, 0))) : Om.listAt w (some ⟨b, 0, none⟩) [⟨p, tNo⟩] := .inr ⟨b, 0, rfl, Sm.lt_of h, fun k hk => by
  have hk2 : k < 1 := hk
  obtain rfl : k = 0 := by omega
  exact ⟨Sm.cells_of h 0 _ rfl, Sm.cells_of h 1 _ rfl⟩⟩
end Bu
set_option maxRecDepth 100000 in
set_option maxHeartbeats 4000000 in
theorem bucketKnown_any {w : World} (hH : Sm.HAt w) (hK : Sm.KAt w) (hsz : 1 < w.heap.size) :
    Calls Tryd.prog 10 #[] w fun e w' => e = .returned (.bool true) ∧ Below w.heap.size w w' := by
  have AW : Hid (∀ wx : World, Below w.heap.size w wx → Calls Tryd.prog 12 #[] wx fun e w' => e = .returned (.bool true) ∧ Below wx.heap.size wx w') := fun wx hb => awake14_any (hH.low hb (by omega)) (hK.low hb hsz) (Nat.lt_of_lt_of_le hsz hb.size)
  have OF : Hid (Calls Tryd.prog 13 #[.string ⟨#[97, 112, 112, 47, 97]⟩] w fun e w' => e = .returned (.int .i64 3) ∧ Below w.heap.size w w') := by
    have := buOf_any hH hK hsz Bu.tA (by decide)
    rw [Bu.bkA] at this
    exact this
  have HH := Lib.hid hH
  have HK := Lib.hid hK
  have HS := Lib.hid hsz
  clear hH hK hsz
  go_enter Tryd.func10, Tryd.ntmps10
  go_upto_region 2 with (go_at_call 13; refine OF.out.mono ?_; rintro e w0 ⟨rfl, k0⟩)
  go_upto_region 3 with (fail)
  obtain ⟨g, hg⟩ : ∃ g, g = w0.heap.size := ⟨_, rfl⟩
  have K0 : Hid (Bu.Kn w (w0.alloc (.cells #[.string Bu.tA, .string Bu.t1] 37)) g) := by
    rw [hg]
    exact ⟨k0.alloc k0.size _, Bu.one_at (heap_alloc_new w0 _)⟩
  change Code.wp _ _ _ _ (w0.alloc (.cells #[.string Bu.tA, .string Bu.t1] 37))
  rw [← hg]
  clear hg k0 OF
  generalize w0.alloc (.cells #[.string Bu.tA, .string Bu.t1] 37) = W0 at *
  have hH := HH.out
  have hK := HK.out
  have hsz := HS.out
  have C1 : Hid (∀ wx : World, Bu.Kn w wx g → Calls Tryd.prog 20 #[.int .i64 3, .slice none 0 0] wx fun e w' => e = .returned (.tuple #[.string ⟨#[0]⟩, .int .i64 0]) ∧ Below wx.heap.size wx w') := fun wx h => by
    have := buPage_any (hH.low h.bel (by omega)) (hK.low h.bel hsz) (Nat.lt_of_lt_of_le hsz h.bel.size) 3 0 (l := []) (A := none) (.inl rfl) (by decide) (fun x hx => by cases hx)
    rw [Bu.pageNoneV] at this
    exact this
  have C2 : Hid (∀ wx : World, Bu.Kn w wx g → Calls Tryd.prog 22 #[.int .i64 3, .string ⟨#[0]⟩] wx fun e w' => ∃ A c, e = .returned (.tuple #[.slice A 0 c, .int .i64 0]) ∧ Below wx.heap.size wx w') := fun wx h => by
    have := buRead_any (hH.low h.bel (by omega)) (hK.low h.bel hsz) (Nat.lt_of_lt_of_le hsz h.bel.size) 3 ⟨#[0]⟩ (by decide)
    rw [Bu.readNone] at this
    exact this.mono fun _ _ ⟨A, c, h1, _, h2⟩ => ⟨A, c, h1, h2⟩
  have C3 : Hid (∀ wx : World, Bu.Kn w wx g → Calls Tryd.prog 20 #[.int .i64 4, .slice (some ⟨g, 0, none⟩) 1 1] wx fun e w' => e = .returned (.tuple #[.string ⟨#[]⟩, .int .i64 1]) ∧ Below wx.heap.size wx w') := fun wx h => by
    have := buPage_any (hH.low h.bel (by omega)) (hK.low h.bel hsz) (Nat.lt_of_lt_of_le hsz h.bel.size) 4 1 (l := Bu.one) h.one (by decide) Bu.one_small
    rw [Bu.page_bad (Bu.pageOther (by decide)) (by decide)] at this
    exact this
  have C4 : Hid (∀ wx : World, Bu.Kn w wx g → Calls Tryd.prog 20 #[.int .i64 16, .slice none 0 0] wx fun e w' => e = .returned (.tuple #[.string ⟨#[]⟩, .int .i64 1]) ∧ Below wx.heap.size wx w') := fun wx h => by
    have := buPage_any (hH.low h.bel (by omega)) (hK.low h.bel hsz) (Nat.lt_of_lt_of_le hsz h.bel.size) 16 0 (l := []) (A := none) (.inl rfl) (by decide) (fun x hx => by cases hx)
    rw [Bu.page_bad Bu.pageBeyond (by decide)] at this
    exact this
  have C5 : Hid (∀ wx : World, Bu.Kn w wx g → Calls Tryd.prog 22 #[.int .i64 (-1), .string ⟨#[0]⟩] wx fun e w' => ∃ A c, e = .returned (.tuple #[.slice A 0 c, .int .i64 1]) ∧ Below wx.heap.size wx w') := fun wx h => by
    have := buRead_any (hH.low h.bel (by omega)) (hK.low h.bel hsz) (Nat.lt_of_lt_of_le hsz h.bel.size) (-1) ⟨#[0]⟩ (by decide)
    rw [Bu.readBefore ⟨#[0]⟩] at this
    exact this.mono fun _ _ ⟨A, c, h1, _, h2⟩ => ⟨A, c, h1, h2⟩
  have C6 : Hid (∀ wx : World, Bu.Kn w wx g → Calls Tryd.prog 22 #[.int .i64 0, .string ⟨#[]⟩] wx fun e w' => ∃ A c, e = .returned (.tuple #[.slice A 0 c, .int .i64 7]) ∧ Below wx.heap.size wx w') := fun wx h => by
    have := buRead_any (hH.low h.bel (by omega)) (hK.low h.bel hsz) (Nat.lt_of_lt_of_le hsz h.bel.size) 0 ⟨#[]⟩ (by decide)
    rw [Bu.readShort] at this
    exact this.mono fun _ _ ⟨A, c, h1, _, h2⟩ => ⟨A, c, h1, h2⟩
  have C7 : Hid (∀ wx : World, Bu.Kn w wx g → Calls Tryd.prog 22 #[.int .i64 3, .string ⟨#[1, 5, 97, 112, 112, 47, 97, 1, 49, 120]⟩] wx fun e w' => ∃ A c, e = .returned (.tuple #[.slice A 0 c, .int .i64 8]) ∧ Below wx.heap.size wx w') := fun wx h => by
    have := buRead_any (hH.low h.bel (by omega)) (hK.low h.bel hsz) (Nat.lt_of_lt_of_le hsz h.bel.size) 3 Bu.sMore (by decide)
    rw [Bu.readMore] at this
    exact this.mono fun _ _ ⟨A, c, h1, _, h2⟩ => ⟨A, c, h1, h2⟩
  have C8 : Hid (∀ wx : World, Bu.Kn w wx g → Calls Tryd.prog 22 #[.int .i64 4, .string ⟨#[1, 5, 97, 112, 112, 47, 97, 1, 49]⟩] wx fun e w' => ∃ A c, e = .returned (.tuple #[.slice A 0 c, .int .i64 8]) ∧ Below wx.heap.size wx w') := fun wx h => by
    have := buRead_any (hH.low h.bel (by omega)) (hK.low h.bel hsz) (Nat.lt_of_lt_of_le hsz h.bel.size) 4 Bu.sOne (by decide)
    rw [Bu.readOther (i := 4) (by decide) (by decide)] at this
    exact this.mono fun _ _ ⟨A, c, h1, _, h2⟩ => ⟨A, c, h1, h2⟩
  have C9 : Hid (∀ wx : World, Bu.Kn w wx g → Calls Tryd.prog 22 #[.int .i64 3, .string ⟨#[2, 5, 97, 112, 112, 47, 97, 1, 49, 5, 97, 112, 112, 47, 97, 1, 49]⟩] wx fun e w' => ∃ A c, e = .returned (.tuple #[.slice A 0 c, .int .i64 8]) ∧ Below wx.heap.size wx w') := fun wx h => by
    have := buRead_any (hH.low h.bel (by omega)) (hK.low h.bel hsz) (Nat.lt_of_lt_of_le hsz h.bel.size) 3 Bu.sTwice (by decide)
    rw [Bu.readTwice] at this
    exact this.mono fun _ _ ⟨A, c, h1, _, h2⟩ => ⟨A, c, h1, h2⟩
  have C10 : Hid (∀ wx : World, Bu.Kn w wx g → Calls Tryd.prog 22 #[.int .i64 3, .string ⟨#[49]⟩] wx fun e w' => ∃ A c, e = .returned (.tuple #[.slice A 0 c, .int .i64 8]) ∧ Below wx.heap.size wx w') := fun wx h => by
    have := buRead_any (hH.low h.bel (by omega)) (hK.low h.bel hsz) (Nat.lt_of_lt_of_le hsz h.bel.size) 3 ⟨#[49]⟩ (by decide)
    rw [Bu.readMany] at this
    exact this.mono fun _ _ ⟨A, c, h1, _, h2⟩ => ⟨A, c, h1, h2⟩
  have C11 : Hid (∀ wx : World, Bu.Kn w wx g → Calls Tryd.prog 15 #[.slice none 0 0] wx fun e w' => e = .returned (.bool true) ∧ Below wx.heap.size wx w') := fun wx h => by
    have := buMay_any (w := wx) (A := none) (l := []) 0 (.inl rfl) (by decide) (fun x hx => by cases hx)
    rw [Bu.mayNone] at this
    exact this
  have C12 : Hid (∀ wx : World, Bu.Kn w wx g → Calls Tryd.prog 15 #[.slice (some ⟨g, 0, none⟩) 1 1] wx fun e w' => e = .returned (.bool true) ∧ Below wx.heap.size wx w') := fun wx h => by
    have := buMay_any 1 h.one (by decide) Bu.one_small
    rw [Bu.mayOne] at this
    exact this
  have C13 : Hid (∀ (wx : World) (b : Nat), wx.heap[b]? = some (.cells #[.string Bu.tB, .string Bu.tNo, .string Bu.tA, .string Bu.tNo] 37 (0, 0)) → Calls Tryd.prog 15 #[.slice (some ⟨b, 0, none⟩) 2 2] wx fun e w' => e = .returned (.bool false) ∧ Below wx.heap.size wx w') := fun wx b h => by
    have := buMay_any (w := wx) 2 (Bu.list_2 h) (by decide) (fun x hx => by
      simp only [List.mem_cons, List.not_mem_nil, or_false] at hx
      rcases hx with rfl | rfl <;> decide)
    rw [Bu.mayFall] at this
    exact this
  have C14 : Hid (∀ (wx : World) (b : Nat), wx.heap[b]? = some (.cells #[.string Bu.tA, .string Bu.tNo, .string Bu.tA, .string Bu.tNo] 37 (0, 0)) → Calls Tryd.prog 15 #[.slice (some ⟨b, 0, none⟩) 2 2] wx fun e w' => e = .returned (.bool false) ∧ Below wx.heap.size wx w') := fun wx b h => by
    have := buMay_any (w := wx) 2 (Bu.list_2 h) (by decide) (fun x hx => by
      simp only [List.mem_cons, List.not_mem_nil, or_false] at hx
      rcases hx with rfl | rfl <;> decide)
    rw [Bu.mayTwice] at this
    exact this
  have C15 : Hid (∀ (wx : World) (b : Nat), wx.heap[b]? = some (.cells #[.string Bu.tApp, .string Bu.tNo] 37 (0, 0)) → Calls Tryd.prog 15 #[.slice (some ⟨b, 0, none⟩) 1 1] wx fun e w' => e = .returned (.bool false) ∧ Below wx.heap.size wx w') := fun wx b h => by
    have := buMay_any (w := wx) 1 (Bu.list_1 h) (by decide) (fun x hx => by
      simp only [List.mem_cons, List.not_mem_nil, or_false] at hx
      subst hx; decide)
    rw [Bu.mayApp] at this
    exact this
  have C16 : Hid (∀ wx : World, Bu.Kn w wx g → Calls Tryd.prog 18 #[.slice (some ⟨g, 0, none⟩) 1 1, .int .i64 3] wx fun e w' => ∃ B q, e = .returned (.slice B 1 q) ∧ Below wx.heap.size wx w') := fun wx h => by
    have := buPart_any (hH.low h.bel (by omega)) (hK.low h.bel hsz) (Nat.lt_of_lt_of_le hsz h.bel.size) 1 h.one (by decide) (fun x hx => by
      simp only [Bu.one, List.mem_cons, List.not_mem_nil, or_false] at hx
      subst hx
      decide) 3
    rw [Bu.partOne] at this
    exact this.mono fun _ _ ⟨A, c, h1, _, h2⟩ => ⟨A, c, h1, h2⟩
  have C17 : Hid (∀ wx : World, Bu.Kn w wx g → Calls Tryd.prog 18 #[.slice (some ⟨g, 0, none⟩) 1 1, .int .i64 4] wx fun e w' => ∃ B q, e = .returned (.slice B 0 q) ∧ Below wx.heap.size wx w') := fun wx h => by
    have := buPart_any (hH.low h.bel (by omega)) (hK.low h.bel hsz) (Nat.lt_of_lt_of_le hsz h.bel.size) 1 h.one (by decide) (fun x hx => by
      simp only [Bu.one, List.mem_cons, List.not_mem_nil, or_false] at hx
      subst hx
      decide) 4
    rw [Bu.partOther (by decide)] at this
    exact this.mono fun _ _ ⟨A, c, h1, _, h2⟩ => ⟨A, c, h1, h2⟩
  clear hH hK hsz HH HK HS
  go_upto_region 13 with first
    | (go_at_call 20; refine (C1.out _ K0.out).mono ?_; rintro e w1 ⟨rfl, k1⟩; have K1 := Lib.hid (K0.out.step k1); clear k1 C1)
    | (go_at_call 22; refine (C2.out _ K1.out).mono ?_; rintro e w2 ⟨A2, c2, rfl, k2⟩; have K2 := Lib.hid (K1.out.step k2); clear k2 C2)
    | (go_at_call 20; refine (C3.out _ K2.out).mono ?_; rintro e w3 ⟨rfl, k3⟩; have K3 := Lib.hid (K2.out.step k3); clear k3 C3)
    | (go_at_call 20; refine (C4.out _ K3.out).mono ?_; rintro e w4 ⟨rfl, k4⟩; have K4 := Lib.hid (K3.out.step k4); clear k4 C4)
    | (go_at_call 22; refine (C5.out _ K4.out).mono ?_; rintro e w5 ⟨A5, c5, rfl, k5⟩; have K5 := Lib.hid (K4.out.step k5); clear k5 C5)
    | (go_at_call 22; refine (C6.out _ K5.out).mono ?_; rintro e w6 ⟨A6, c6, rfl, k6⟩; have K6 := Lib.hid (K5.out.step k6); clear k6 C6)
    | (go_at_call 22; refine (C7.out _ K6.out).mono ?_; rintro e w7 ⟨A7, c7, rfl, k7⟩; have K7 := Lib.hid (K6.out.step k7); clear k7 C7)
    | (go_at_call 22; refine (C8.out _ K7.out).mono ?_; rintro e w8 ⟨A8, c8, rfl, k8⟩; have K8 := Lib.hid (K7.out.step k8); clear k8 C8)
    | (go_at_call 22; refine (C9.out _ K8.out).mono ?_; rintro e w9 ⟨A9, c9, rfl, k9⟩; have K9 := Lib.hid (K8.out.step k9); clear k9 C9)
    | (go_at_call 22; refine (C10.out _ K9.out).mono ?_; rintro e w10 ⟨A10, c10, rfl, k10⟩; have K10 := Lib.hid (K9.out.step k10); clear k10 C10)
  clear K0 K1 K2 K3 K4 K5 K6 K7 K8 K9
  go_wp2_with first
    | (go_at_call 15; refine (C11.out _ K10.out).mono ?_; rintro e w11 ⟨rfl, k11⟩; have K11 := Lib.hid (K10.out.step k11); clear k11 C11)
    | (go_at_call 15; refine (C12.out _ K11.out).mono ?_; rintro e w12 ⟨rfl, k12⟩; have K12 := Lib.hid (K11.out.step k12); clear k12 C12)
    | (go_at_call 15; refine (C13.out _ _ (heap_alloc_new _ _)).mono ?_; rintro e w13 ⟨rfl, k13⟩; have K13 := Lib.hid ((K12.out.step ((Below.refl _ _).alloc (Nat.le_refl _) _)).step k13); clear k13 C13)
    | (go_at_call 15; refine (C14.out _ _ (heap_alloc_new _ _)).mono ?_; rintro e w14 ⟨rfl, k14⟩; have K14 := Lib.hid ((K13.out.step ((Below.refl _ _).alloc (Nat.le_refl _) _)).step k14); clear k14 C14)
    | (go_at_call 15; refine (C15.out _ _ (heap_alloc_new _ _)).mono ?_; rintro e w15 ⟨rfl, k15⟩; have K15 := Lib.hid ((K14.out.step ((Below.refl _ _).alloc (Nat.le_refl _) _)).step k15); clear k15 C15)
    | (go_at_call 18; refine (C16.out _ K15.out).mono ?_; rintro e w16 ⟨A16, c16, rfl, k16⟩; have K16 := Lib.hid (K15.out.step k16); clear k16 C16)
    | (go_at_call 18; refine (C17.out _ K16.out).mono ?_; rintro e w17 ⟨A17, c17, rfl, k17⟩; have K17 := Lib.hid (K16.out.step k17); clear k17 C17)
    | (go_at_call 12; refine (AW.out _ K17.out.bel).mono ?_; rintro e w18 ⟨rfl, k18⟩)
  go_ret
  exact ⟨rfl, K17.out.bel.trans (k18.mono K17.out.bel.size)⟩
end Go.Proofs.YthhmnbpabncdnaaDoor
