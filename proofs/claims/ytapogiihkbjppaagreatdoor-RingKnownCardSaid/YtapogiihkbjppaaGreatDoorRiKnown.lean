/-
  RingKnown: the chapter's examples; the last key.
-/
import Derived.Test.YtapogiihkbjppaaGreatDoorRiTags
import Derived.Test.YtapogiihkbjppaaGreatDoorRiRewrap
import Derived.Test.YtapogiihkbjppaaGreatDoorRiAwake
namespace Go.Proofs.YtapogiihkbjppaaGreatDoor
open Go.RowKit
namespace Ri
theorem opens_tag {M : List UInt8} {cur cur' : Int} {boot n : Nat} {about other t : List UInt8} (hc : 0 ≤ cur ∧ cur ≤ 1048576) (hb : boot < 2 ^ 32) (hn : n < 2 ^ 64) (ht : t.length ≤ 8192) (hcc : cur ≤ cur')
    (h : (Se.tagOf (key M cur) (Se.sealed (key M cur) cur boot n about t) other == (Se.sealed (key M cur) cur boot n about t).tag) = false) :
    opens M cur' ⟨(wrap M cur boot n about t).1.toArray⟩ other = ([], 13) := by
  unfold opens
  rw [read_wrap hc hb hn ht]
  have hk : (Se.sealed (key M cur) cur boot n about t).key = cur := rfl
  have hr := (Se.sealed_ok (k := key M cur) (about := about) hc hb hn ht).2
  simp only [if_true, hk]
  rw [if_pos hcc]
  unfold Se.opened
  rw [if_pos hr, if_neg]
  intro e
  rw [← e] at h
  simp at h
theorem wrap_apart {M : List UInt8} {boot n n' : Nat} {about t : List UInt8} (ht : t.length ≤ 8192) : (wrap M 0 boot n about t).1 ≠ (wrap M 1 boot n' about t).1 := by
  rw [wrap_ok ht, wrap_ok ht]
  intro h
  have h0 : (Se.bytes (Se.sealed (key M 0) 0 boot n about t))[0]? = some 0 := by
    simp only [Se.bytes, Se.head, List.append_assoc]
    show (Pk.enc (0 : Int).toNat ++ _)[0]? = _
    rw [show (0 : Int).toNat = 0 from rfl, Pk.enc_small (by decide)]
    rfl
  have h1 : (Se.bytes (Se.sealed (key M 1) 1 boot n' about t))[0]? = some 1 := by
    simp only [Se.bytes, Se.head, List.append_assoc]
    show (Pk.enc (1 : Int).toNat ++ _)[0]? = _
    rw [show (1 : Int).toNat = 1 from rfl, Pk.enc_small (by decide)]
    rfl
  dsimp only at h
  rw [h, h1] at h0
  cases h0
end Ri

set_option maxRecDepth 100000 in
set_option maxHeartbeats 4000000 in
theorem ringKnown_any {w : World} (hH : Sm.HAt w) (hK : Sm.KAt w) (hsz : 1 < w.heap.size) :
    Calls Tryz.prog 3 #[] w fun e w' => e = .returned (.bool true) ∧ Below w.heap.size w w' := by
  have HH := Lib.hid hH
  have HK := Lib.hid hK
  obtain ⟨N, hN⟩ : ∃ N, N = w.heap.size := ⟨_, rfl⟩
  have hN1 : 1 < N := by omega
  obtain ⟨mB, hmB⟩ : ∃ b : ByteArray, b = ⟨#[109]⟩ := ⟨_, rfl⟩
  obtain ⟨aB, haB⟩ : ∃ b : ByteArray, b = ⟨#[97]⟩ := ⟨_, rfl⟩
  obtain ⟨oB, hoB⟩ : ∃ b : ByteArray, b = ⟨#[98]⟩ := ⟨_, rfl⟩
  obtain ⟨xB, hxB⟩ : ∃ b : ByteArray, b = ⟨#[120]⟩ := ⟨_, rfl⟩
  have hms : mB.size = 1 := by rw [hmB]; rfl
  have has : aB.size = 1 := by rw [haB]; rfl
  have hos : oB.size = 1 := by rw [hoB]; rfl
  have hxs : xB.size = 1 := by rw [hxB]; rfl
  have hml : mB.data.toList = [109] := by rw [hmB]
  have hal : aB.data.toList = [97] := by rw [haB]
  have hol : oB.data.toList = [98] := by rw [hoB]
  have hxl : xB.data.toList = [120] := by rw [hxB]
  obtain ⟨bx, hbx⟩ : ∃ b : ByteArray, b = ⟨(Ri.wrap mB.data.toList 0 7 0 aB.data.toList xB.data.toList).1.toArray⟩ := ⟨_, rfl⟩
  obtain ⟨bq, hbq⟩ : ∃ b : ByteArray, b = ⟨(Ri.wrap mB.data.toList 1 7 1 aB.data.toList xB.data.toList).1.toArray⟩ := ⟨_, rfl⟩
  have hbs : bx.size ≤ 9000 := by
    rw [hbx]
    show (Ri.wrap mB.data.toList 0 7 0 aB.data.toList xB.data.toList).1.toArray.size ≤ _
    rw [List.size_toArray]; exact Ri.wrap_length (by decide) (by decide) (by decide)
  have hqs : bq.size ≤ 9000 := by
    rw [hbq]
    show (Ri.wrap mB.data.toList 1 7 1 aB.data.toList xB.data.toList).1.toArray.size ≤ _
    rw [List.size_toArray]; exact Ri.wrap_length (by decide) (by decide) (by decide)
  have hxn : xB.data.toList.length ≤ 8192 := by rw [hxl]; decide
  have hop1 : Ri.opens mB.data.toList 1 bx aB.data.toList = (xB.data.toList, 0) := by rw [hbx]; exact Ri.opens_wrap (by decide) (by decide) (by decide) hxn (by decide)
  have hop2 : Ri.opens mB.data.toList 1 bq aB.data.toList = (xB.data.toList, 0) := by rw [hbq]; exact Ri.opens_wrap (by decide) (by decide) (by decide) hxn (by decide)
  have hop3 : Ri.opens mB.data.toList 0 bq aB.data.toList = ([], 20) := by rw [hbq]; exact Ri.opens_early (by decide) (by decide) (by decide) hxn (by decide)
  have hop4 : Ri.opens mB.data.toList 0 bx oB.data.toList = ([], 13) := by
    rw [hbx]
    refine Ri.opens_tag (by decide) (by decide) (by decide) hxn (by decide) ?_
    rw [hml, hal, hol, hxl]
    exact Ri.tags_apart
  have hne : ¬ bx = bq := by
    rw [hbx, hbq]
    intro h
    have h2 := Ri.wrap_apart (M := mB.data.toList) (boot := 7) (n := 0) (n' := 1) (about := aB.data.toList) hxn
    exact h2 (by simpa using congrArg (fun b : ByteArray => b.data.toList) h)
  have hnl : ¬ bx.toList = bq.toList := by
    rw [Lib.toList_data, Lib.toList_data]
    intro h
    exact hne (by
      obtain ⟨⟨x⟩⟩ := bx
      obtain ⟨⟨y⟩⟩ := bq
      dsimp only at h
      rw [h])
  have hnm : (bx.toList == bq.toList) = false := by rw [beq_eq_false_iff_ne]; exact hnl
  have NB1 : Hid (∀ wx : World, Calls Tryz.prog 10 #[.string mB, .int .i64 (-1), .int .u32 0] wx fun e w' => e = .returned (.tuple #[.pointer none, .int .i64 1]) ∧ wx = w') := fun wx => rgNew_bad wx mB 0 (-1) (by decide)
  have NB2 : Hid (∀ wx : World, Calls Tryz.prog 10 #[.string mB, .int .i64 1048577, .int .u32 0] wx fun e w' => e = .returned (.tuple #[.pointer none, .int .i64 1]) ∧ wx = w') := fun wx => rgNew_bad wx mB 0 1048577 (by decide)
  have NW : Hid (∀ wx : World, Calls Tryz.prog 10 #[.string mB, .int .i64 0, .int .u32 7] wx (Ri.NewPost wx mB 7 0)) := fun wx => rgNew_any wx mB (by omega) 7 0 (by decide)
  have NQ : Hid (∀ wx : World, Calls Tryz.prog 10 #[.string mB, .int .i64 0, .int .u32 8] wx (Ri.NewPost wx mB 8 0)) := fun wx => rgNew_any wx mB (by omega) 8 0 (by decide)
  have NL : Hid (∀ wx : World, Calls Tryz.prog 10 #[.string mB, .int .i64 1048576, .int .u32 0] wx (Ri.NewPost wx mB 0 1048576)) := fun wx => rgNew_any wx mB (by omega) 0 1048576 (by decide)
  have WR : Hid (∀ (wx : World) (r m : Nat), Sm.HAt wx → Sm.KAt wx → Ri.RingAt wx r m mB 7 0 0 → Calls Tryz.prog 11 #[.pointer (some ⟨r, 0, none⟩), .string aB, .string xB] wx fun e w' => e = .returned (.tuple #[.string bx, .int .i64 0]) ∧ Ri.RingAt w' r m mB 7 1 0 ∧ Ri.Turned wx w' r m) := fun wx r m a b c => by
    rw [hbx]
    exact rgWrap_any a b (by omega) c (by decide) (by decide) (by decide) aB xB (by omega) (by omega)
  have WQ : Hid (∀ (wx : World) (r m : Nat), Sm.HAt wx → Sm.KAt wx → Ri.RingAt wx r m mB 7 1 1 → Calls Tryz.prog 11 #[.pointer (some ⟨r, 0, none⟩), .string aB, .string xB] wx fun e w' => e = .returned (.tuple #[.string bq, .int .i64 0]) ∧ Ri.RingAt w' r m mB 7 2 1 ∧ Ri.Turned wx w' r m) := fun wx r m a b c => by
    rw [hbq]
    exact rgWrap_any a b (by omega) c (by decide) (by decide) (by decide) aB xB (by omega) (by omega)
  have RO : Hid (∀ (wx : World) (r m : Nat), Ri.RingAt wx r m mB 7 1 0 → Calls Tryz.prog 12 #[.pointer (some ⟨r, 0, none⟩)] wx fun e w' => e = .returned (.int .i64 0) ∧ Ri.RingAt w' r m mB 7 1 1 ∧ wx.grownBy w' (some r)) := fun wx r m a => rgRotate_any a (by decide)
  have RL : Hid (∀ (wx : World) (r m : Nat), Ri.RingAt wx r m mB 0 0 1048576 → Calls Tryz.prog 12 #[.pointer (some ⟨r, 0, none⟩)] wx fun e w' => e = .returned (.int .i64 6) ∧ wx = w') := fun wx r m a => rgRotate_full a
  have OP : ∀ (boot n : Nat) (cur : Int) (b o s : ByteArray) (f : Nat), b.size ≤ 9000 → o.size = 1 → Ri.opens mB.data.toList cur b o.data.toList = (s.data.toList, f) → Hid (∀ (wx : World) (r m : Nat), Sm.HAt wx → Sm.KAt wx → Ri.RingAt wx r m mB boot n cur → Calls Tryz.prog 14 #[.pointer (some ⟨r, 0, none⟩), .string b, .string o] wx fun e w' => e = .returned (.tuple #[.string s, .int .i64 f]) ∧ Ri.RingAt w' r m mB boot n cur ∧ Ri.Turned wx w' r m) := fun boot n cur b o s f h1 h2 h3 wx r m a b' c => by
    have q := rgOpen_any a b' (by omega) c b o (by omega) (by omega)
    unfold Ri.OpenPost at q
    rw [h3] at q
    exact q
  have O1 := OP 7 2 1 bx aB xB 0 hbs has hop1
  have O2 := OP 7 2 1 bq aB xB 0 hqs has hop2
  have O3 := OP 8 0 0 bq aB ⟨#[]⟩ 20 hqs has hop3
  have O4 := OP 8 0 0 bx oB ⟨#[]⟩ 13 hbs hos hop4
  have CO : Hid (∀ (wx : World) (r m : Nat), Ri.RingAt wx r m mB 7 2 1 → Calls Tryz.prog 13 #[.pointer (some ⟨r, 0, none⟩)] wx fun e w' => e = .returned (.tuple #[.int .u32 7, .int .u64 2]) ∧ ∃ k, w' = wx.drewN k) := fun wx r m a => rgCount_any a
  have CU : Hid (∀ (wx : World) (r m : Nat), Ri.RingAt wx r m mB 0 0 1048576 → Calls Tryz.prog 16 #[.pointer (some ⟨r, 0, none⟩)] wx fun e w' => e = .returned (.int .i64 1048576) ∧ wx = w') := fun wx r m a => rgCurrent_any a
  have AW : Hid (∀ wx : World, Sm.HAt wx → Sm.KAt wx → 1 < wx.heap.size → Calls Tryz.prog 15 #[] wx fun e w' => e = .returned (.bool true) ∧ Below wx.heap.size wx w') := fun wx a b c => awake6_any a b c
  rw [← hN]
  have HN := Lib.hid hN
  subst hmB haB hxB hoB
  clear hN hH hK hbx hbq hop1 hop2 hop3 hop4 hms has hos hxs hml hal hol hxl hbs hqs hxn OP
  go_enter Tryz.func3, Tryz.ntmps3
  go_wp2_with fail
  refine (NB1.out _).mono ?_
  rintro e w0 ⟨rfl, rfl⟩
  go_wp2_with fail
  refine (NB2.out _).mono ?_
  rintro e w0 ⟨rfl, rfl⟩
  go_wp2_with fail
  refine (NW.out _).mono ?_
  rintro e w1 ⟨r, m, rfl, ra1, hr, hm, b1⟩
  have RA1 := Lib.hid ra1
  have B1 : Hid (Below N w w1) := by
    show Below _ _ _
    rw [HN.out]; exact b1
  rw [← HN.out] at hr hm
  clear ra1 b1 NW NB1 NB2
  go_wp2_with fail
  refine (WR.out _ r m (HH.out.low B1.out (by omega)) (HK.out.low B1.out hN1) RA1.out).mono ?_
  rintro e w2 ⟨rfl, ra2, tu2⟩
  have RA2 := Lib.hid ra2
  have B2 := Lib.hid (B1.out.trans (tu2.below hr hm (by have := B1.out.size; have := HN.out; omega)))
  clear ra2 tu2 WR RA1
  go_wp2_with fail
  refine (RO.out _ r m RA2.out).mono ?_
  rintro e w3 ⟨rfl, ra3, tu3⟩
  have RA3 := Lib.hid ra3
  have B3 := Lib.hid (B2.out.trans ((Ri.Turned.of_ring (m := m) tu3).below hr hm (by have := B2.out.size; have := HN.out; omega)))
  clear ra3 tu3 RO RA2 B1
  go_wp2_with fail
  refine (WQ.out _ r m (HH.out.low B3.out (by omega)) (HK.out.low B3.out hN1) RA3.out).mono ?_
  rintro e w4 ⟨rfl, ra4, tu4⟩
  have RA4 := Lib.hid ra4
  have B4 := Lib.hid (B3.out.trans (tu4.below hr hm (by have := B3.out.size; have := HN.out; omega)))
  clear ra4 tu4 WQ RA3 B2
  go_wp2_with fail
  refine (CO.out _ r m RA4.out).mono ?_
  rintro e w5 ⟨rfl, k5, hw5⟩
  have RA5 : Hid (Ri.RingAt w5 r m ⟨#[109]⟩ 7 2 1) := by
    show Ri.RingAt _ _ _ _ _ _ _
    rw [hw5]; exact RA4.out.drewN _
  have B5 : Hid (Below N w w5) := by
    show Below _ _ _
    rw [hw5]; exact Sm.below_drewN B4.out _
  clear hw5 CO RA4 B3 B4
  go_wp2_with fail
  refine (O1.out _ r m (HH.out.low B5.out (by omega)) (HK.out.low B5.out hN1) RA5.out).mono ?_
  rintro e w6 ⟨rfl, ra6, tu6⟩
  have RA6 := Lib.hid ra6
  have B6 := Lib.hid (B5.out.trans (tu6.below hr hm (by have := B5.out.size; have := HN.out; omega)))
  clear ra6 tu6 O1 RA5 B5
  go_wp2_with fail
  refine (O2.out _ r m (HH.out.low B6.out (by omega)) (HK.out.low B6.out hN1) RA6.out).mono ?_
  rintro e w7 ⟨rfl, ra7, tu7⟩
  have B7 := Lib.hid (B6.out.trans (tu7.below hr hm (by have := B6.out.size; have := HN.out; omega)))
  clear ra7 tu7 O2 RA6 B6 hr hm
  go_wp2_with fail
  refine (NQ.out _).mono ?_
  rintro e w8 ⟨q, p, rfl, ra8, hq, hp, b8⟩
  have RA8 := Lib.hid ra8
  have hq2 : N ≤ q := by have := B7.out.size; have := HN.out; omega
  have hp2 : N ≤ p := by have := B7.out.size; have := HN.out; omega
  have B8 := Lib.hid (B7.out.trans (b8.mono (by have := B7.out.size; have := HN.out; omega)))
  clear ra8 b8 NQ B7 hq hp
  go_wp2_with fail
  refine (O3.out _ q p (HH.out.low B8.out (by omega)) (HK.out.low B8.out hN1) RA8.out).mono ?_
  rintro e w9 ⟨rfl, ra9, tu9⟩
  have RA9 := Lib.hid ra9
  have B9 := Lib.hid (B8.out.trans (tu9.below hq2 hp2 (by have := B8.out.size; have := HN.out; omega)))
  clear ra9 tu9 O3 RA8 B8
  go_wp2_with fail
  refine (O4.out _ q p (HH.out.low B9.out (by omega)) (HK.out.low B9.out hN1) RA9.out).mono ?_
  rintro e w10 ⟨rfl, ra10, tu10⟩
  have B10 := Lib.hid (B9.out.trans (tu10.below hq2 hp2 (by have := B9.out.size; have := HN.out; omega)))
  clear ra10 tu10 O4 RA9 B9
  go_wp2_with fail
  refine (NL.out _).mono ?_
  rintro e w11 ⟨l, k, rfl, ra11, hl, hk, b11⟩
  have RA11 := Lib.hid ra11
  have B11 := Lib.hid (B10.out.trans (b11.mono (by have := B10.out.size; have := HN.out; omega)))
  have s11 : N ≤ w11.heap.size := by have := B10.out.size; have := b11.size; have := HN.out; omega
  clear ra11 b11 NL B10 hl hk
  go_wp2_with fail
  refine (AW.out _ (HH.out.low B11.out (by omega)) (HK.out.low B11.out hN1) (by omega)).mono ?_
  rintro e w12 ⟨rfl, b12⟩
  have RA12 := Lib.hid (RA11.out.below b12 (Nat.le_refl _))
  have B12 := Lib.hid (B11.out.trans (b12.mono s11))
  clear b12 AW B11 RA11
  go_wp2_with fail
  refine (RL.out _ l k RA12.out).mono ?_
  rintro e w13 ⟨rfl, rfl⟩
  go_wp2_with fail
  refine (CU.out _ l k RA12.out).mono ?_
  rintro e w13 ⟨rfl, rfl⟩
  go_wp2_with fail
  refine bodyPost_ret (results_tmp rfl _ _ _) rfl ?_
  exact ⟨rfl, B12.out⟩
end Go.Proofs.YtapogiihkbjppaaGreatDoor
