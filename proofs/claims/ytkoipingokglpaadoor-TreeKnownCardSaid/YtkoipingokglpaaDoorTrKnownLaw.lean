/-
  TreeKnown answers true, and turns nothing of what was there.
-/
import Derived.Test.YtkoipingokglpaaDoorTrKnMath
import Derived.Test.YtkoipingokglpaaDoorTrE
import Derived.Deep.RegionHeld3
namespace Go.Proofs.YtkoipingokglpaaDoor
open Go.RowKit
set_option maxRecDepth 100000 in
set_option maxHeartbeats 8000000 in
theorem treeKnown_any {w : World} (G : Tr.Gd w) :
    Calls Tryd.prog 9 #[] w fun e w' => e = .returned (.bool true) ∧ Below w.heap.size w w' := by
  have AW : Hid (∀ wx : World, Below w.heap.size w wx → Calls Tryd.prog 10 #[] wx fun e w' => e = .returned (.bool true) ∧ Below wx.heap.size wx w') := fun wx hb => awake15_any (G.low hb)
  have NEW := Lib.hid (Tr.newC G (Below.refl _ w))
  have SETC : ∀ (wx : World) (r : Nat) (l m : List Om.Pr) (p v : ByteArray) (E : Nat), Tr.setE l p v = E → Tr.setR l p v = m → p.size ≤ 1000 → v.size ≤ 1000 → Tr.Ow w wx r l → Calls Tryd.prog 16 #[.pointer (some ⟨r, 0, none⟩), .string p, .string v] wx fun e w' => e = .returned (.int .i64 (E : Nat)) ∧ Tr.Ow w w' r m ∧ wx.grownBy w' (some r) := fun wx r l m p v E hE hm hp hv h => by
    have := h.setC G p v (by omega) (by omega)
    rw [hE, hm] at this
    exact this
  have DROPC : ∀ (wx : World) (r : Nat) (l m : List Om.Pr) (p : ByteArray) (f : Bool), (Om.get p l).isSome = f → Om.del p l = m → p.size ≤ 1000 → Tr.Ow w wx r l → Calls Tryd.prog 17 #[.pointer (some ⟨r, 0, none⟩), .string p] wx fun e w' => e = .returned (.bool f) ∧ Tr.Ow w w' r m ∧ wx.grownBy w' (some r) := fun wx r l m p f hf hm hp h => by
    have := h.dropC G p (by omega)
    rw [hf, hm] at this
    exact this
  have S1 : Hid (∀ (wx : World) (r : Nat), Tr.Ow w wx r [] → Calls Tryd.prog 16 #[.pointer (some ⟨r, 0, none⟩), .string ⟨#[97, 112, 112, 47, 97]⟩, .string ⟨#[49]⟩] wx fun e w' => e = .returned (.int .i64 0) ∧ Tr.Ow w w' r Bu.one ∧ wx.grownBy w' (some r)) := fun wx r h =>
    SETC wx r [] Bu.one Bu.tA Bu.t1 0 Tr.setOne (by unfold Tr.setR; rw [Tr.setOne, if_pos rfl, Tr.putOne]) (by decide) (by decide) h
  have S2 : Hid (∀ (wx : World) (r : Nat), Tr.Ow w wx r Bu.one → Calls Tryd.prog 16 #[.pointer (some ⟨r, 0, none⟩), .string ⟨#[97, 112, 112]⟩, .string ⟨#[49]⟩] wx fun e w' => e = .returned (.int .i64 20) ∧ Tr.Ow w w' r Bu.one ∧ wx.grownBy w' (some r)) := fun wx r h =>
    SETC wx r Bu.one Bu.one Bu.tApp Bu.t1 20 (Tr.setApp _) (by unfold Tr.setR; rw [Tr.setApp]; exact if_neg (by decide)) (by decide) (by decide) h
  have S3 : Hid (∀ (wx : World) (r : Nat), Tr.Ow w wx r Bu.one → Calls Tryd.prog 16 #[.pointer (some ⟨r, 0, none⟩), .string ⟨#[97, 112, 112, 47, 97]⟩, .string ⟨#[48, 49, 50, 51, 52, 53, 54, 55, 56, 57, 48, 49, 50, 51, 52, 53, 54, 55, 56, 57, 48, 49, 50, 51, 52, 53, 54, 55, 56, 57, 48, 49, 50]⟩] wx fun e w' => e = .returned (.int .i64 3) ∧ Tr.Ow w w' r Bu.one ∧ wx.grownBy w' (some r)) := fun wx r h =>
    SETC wx r Bu.one Bu.one Bu.tA Tr.t33 3 Tr.k3 (by unfold Tr.setR; rw [Tr.k3]; exact if_neg (by decide)) (by decide) (by decide) h
  have D1 : Hid (∀ (wx : World) (r : Nat), Tr.Ow w wx r Bu.one → Calls Tryd.prog 17 #[.pointer (some ⟨r, 0, none⟩), .string ⟨#[97, 112, 112, 47, 97]⟩] wx fun e w' => e = .returned (.bool true) ∧ Tr.Ow w w' r [] ∧ wx.grownBy w' (some r)) := fun wx r h =>
    DROPC wx r Bu.one [] Bu.tA true Tr.getOne Tr.delOne (by decide) h
  have D2 : Hid (∀ (wx : World) (r : Nat), Tr.Ow w wx r [] → Calls Tryd.prog 17 #[.pointer (some ⟨r, 0, none⟩), .string ⟨#[97, 112, 112, 47, 97]⟩] wx fun e w' => e = .returned (.bool false) ∧ Tr.Ow w w' r [] ∧ wx.grownBy w' (some r)) := fun wx r h =>
    DROPC wx r [] [] Bu.tA false rfl rfl (by decide) h
  have SL : Hid (∀ (wx : World) (r k : Nat), k < 48 → Tr.Ow w wx r (Tr.kR k) → Calls Tryd.prog 16 #[.pointer (some ⟨r, 0, none⟩), .string (Tr.key48 k), .string ⟨#[49]⟩] wx fun e w' => e = .returned (.int .i64 0) ∧ Tr.Ow w w' r (Tr.kR (k + 1)) ∧ wx.grownBy w' (some r)) := fun wx r k hk h =>
    SETC wx r _ _ (Tr.key48 k) Bu.t1 0 (Tr.kSet hk) (Tr.kSetR hk) (by show 6 ≤ _; decide) (by decide) h
  have S6 : Hid (∀ (wx : World) (r : Nat), Tr.Ow w wx r (Tr.kR 48) → Calls Tryd.prog 16 #[.pointer (some ⟨r, 0, none⟩), .string ⟨#[97, 112, 112, 47, 122, 122]⟩, .string ⟨#[49]⟩] wx fun e w' => e = .returned (.int .i64 6) ∧ Tr.Ow w w' r (Tr.kR 48) ∧ wx.grownBy w' (some r)) := fun wx r h =>
    SETC wx r _ _ Tr.tZZ Bu.t1 6 (by rw [Tr.kR48]; exact Tr.k6) (by unfold Tr.setR; rw [Tr.kR48, Tr.k6]; exact if_neg (by decide)) (by decide) (by decide) h
  obtain ⟨m2, hm2⟩ : ∃ m, m = Tr.setR Tr.keys48 Tr.tAA Tr.tTwo := ⟨_, rfl⟩
  have S7 : Hid (∀ (wx : World) (r : Nat), Tr.Ow w wx r (Tr.kR 48) → Calls Tryd.prog 16 #[.pointer (some ⟨r, 0, none⟩), .string ⟨#[97, 112, 112, 47, 97, 97]⟩, .string ⟨#[50]⟩] wx fun e w' => e = .returned (.int .i64 0) ∧ Tr.Ow w w' r m2 ∧ wx.grownBy w' (some r)) := fun wx r h =>
    SETC wx r _ _ Tr.tAA Tr.tTwo 0 (by rw [Tr.kR48]; exact Tr.k0) (by rw [Tr.kR48, hm2]) (by decide) (by decide) h
  have ALLC : Hid (∀ (wx : World) (r : Nat), Tr.Ow w wx r m2 → Calls Tryd.prog 20 #[.pointer (some ⟨r, 0, none⟩)] wx fun e w' => ∃ A c, e = .returned (.slice A 48 c) ∧ Below wx.heap.size wx w') := fun wx r h => by
    have := h.allC
    rw [show m2.length = 48 by rw [hm2]; exact Tr.kLen] at this
    exact this.mono fun _ _ ⟨A, c, h1, _, h3⟩ => ⟨A, c, h1, h3⟩
  have RT0 : Hid (∀ (wx : World) (r : Nat), Tr.Ow w wx r [] → Calls Tryd.prog 18 #[.pointer (some ⟨r, 0, none⟩)] wx fun e w' => e = .returned (Tr.hv Tr.e4) ∧ Below wx.heap.size wx w') := fun wx r h => by have := h.rootC; rw [Tr.rootNone] at this; exact this
  have RT1 : Hid (∀ (wx : World) (r : Nat), Tr.Ow w wx r Bu.one → Calls Tryd.prog 18 #[.pointer (some ⟨r, 0, none⟩)] wx fun e w' => e = .returned (Tr.hv Tr.o4) ∧ Below wx.heap.size wx w') := fun wx r h => by have := h.rootC; rw [Tr.rootOne] at this; exact this
  have LEAF : Hid (∀ wx : World, Below w.heap.size w wx → Calls Tryd.prog 11 #[.string ⟨#[0]⟩] wx fun e w' => e = .returned (Tr.hv Tr.e0) ∧ Below wx.heap.size wx w') := fun wx hb => by
    have g := G.low hb
    have := tLeaf_any g.H g.K g.sz ⟨#[0]⟩ (by decide)
    rw [show Sm.sum (76 :: (⟨#[0]⟩ : ByteArray).data.toList) = Tr.e0 from Tr.sum_e0] at this
    exact this
  have N40 : Hid (∀ (wx : World) (r : Nat), Tr.Ow w wx r [] → Calls Tryd.prog 15 #[.pointer (some ⟨r, 0, none⟩), .int .i64 4, .int .i64 0] wx fun e w' => e = .returned (.tuple #[Tr.hv Tr.e0, .bool true]) ∧ Below wx.heap.size wx w') := fun wx r h => by
    have := h.nodeC (level := 4) (i := 0) (by decide) (by decide)
    rw [show Tr.lv [] 4 0 = Tr.e0 from Tr.none0 0] at this
    exact this
  have NX1 : Hid (∀ (wx : World) (r : Nat), Calls Tryd.prog 15 #[.pointer (some ⟨r, 0, none⟩), .int .i64 5, .int .i64 0] wx fun e w' => e = .returned (.tuple #[Tr.hv Tr.zeros, .bool false]) ∧ Below wx.heap.size wx w') := fun wx r => tNode_no wx r (.inr (.inl (by decide)))
  have NX2 : Hid (∀ (wx : World) (r : Nat), Calls Tryd.prog 15 #[.pointer (some ⟨r, 0, none⟩), .int .i64 4, .int .i64 16] wx fun e w' => e = .returned (.tuple #[Tr.hv Tr.zeros, .bool false]) ∧ Below wx.heap.size wx w') := fun wx r => tNode_no wx r (.inr (.inr (.inr (by decide))))
  have NX3 : Hid (∀ (wx : World) (r : Nat), Calls Tryd.prog 15 #[.pointer (some ⟨r, 0, none⟩), .int .i64 0, .int .i64 1] wx fun e w' => e = .returned (.tuple #[Tr.hv Tr.zeros, .bool false]) ∧ Below wx.heap.size wx w') := fun wx r => tNode_no wx r (.inr (.inr (.inr (by decide))))
  have NX4 : Hid (∀ (wx : World) (r : Nat), Calls Tryd.prog 15 #[.pointer (some ⟨r, 0, none⟩), .int .i64 (-1), .int .i64 0] wx fun e w' => e = .returned (.tuple #[Tr.hv Tr.zeros, .bool false]) ∧ Below wx.heap.size wx w') := fun wx r => tNode_no wx r (.inl (by decide))
  have PAIRS : Hid (∀ (wx : World) (r : Nat), Tr.Ow w wx r [] → Calls Tryd.prog 19 #[.pointer (some ⟨r, 0, none⟩), .int .i64 0] wx fun e w' => ∃ B q, e = .returned (.slice B 0 q) ∧ Below wx.heap.size wx w') := fun wx r h =>
    (h.pairsC (i := 0) (by decide)).mono fun _ _ ⟨B, q, h1, _, h3⟩ => ⟨B, q, h1, h3⟩
  have TX : Hid (∀ (wx : World) (r : Nat), Tr.Ow w wx r [] → Calls Tryd.prog 21 #[.pointer (some ⟨r, 0, none⟩)] wx fun e w' => ∃ B q, e = .returned (.slice B 31 q) ∧ Below wx.heap.size wx w') := fun wx r h =>
    (h.textsC G).mono fun _ _ ⟨B, q, h1, _, h3⟩ => ⟨B, q, h1, h3⟩
  have OFB : Hid (∀ (wx : World) (b : Nat), wx.heap[b]? = some (.cells #[.string ⟨#[97, 112, 112, 47, 98]⟩, .string ⟨#[]⟩, .string ⟨#[97, 112, 112, 47, 97]⟩, .string ⟨#[]⟩] 57 (0, 0)) → Calls Tryd.prog 26 #[.slice (some ⟨b, 0, none⟩) 2 2] wx fun e w' => e = .returned (.tuple #[.pointer none, .int .i64 1]) ∧ Below wx.heap.size wx w') := fun wx b h => by
    have base : Om.listAt wx (some ⟨b, 0, none⟩) [⟨Bu.tB, Bu.tNo⟩, ⟨Bu.tA, Bu.tNo⟩] := Tr.list2 (p := Bu.tB) (q := Bu.tA) h
    have := tOf_arg (l := [⟨Bu.tB, Bu.tNo⟩, ⟨Bu.tA, Bu.tNo⟩]) 2 base (by show 2 ≤ _; decide) Tr.small2 Tr.kMay
    exact this
  have IN1 : Hid (∀ wx : World, Below w.heap.size w wx → Calls Tryd.prog 13 #[Tr.hv Tr.e0, Tr.hv Tr.e4] wx fun e w' => e = .returned (Tr.hv Tr.ab) ∧ Below wx.heap.size wx w') := fun wx hb => by
    have g := G.low hb
    have := tInner_any g.H g.K g.sz Tr.e0 Tr.e4 rfl rfl
    rw [Tr.sum_ab] at this
    exact this
  have IN2 : Hid (∀ wx : World, Below w.heap.size w wx → Calls Tryd.prog 13 #[Tr.hv Tr.e4, Tr.hv Tr.e0] wx fun e w' => e = .returned (Tr.hv Tr.ba) ∧ Below wx.heap.size wx w') := fun wx hb => by
    have g := G.low hb
    have := tInner_any g.H g.K g.sz Tr.e4 Tr.e0 rfl rfl
    rw [Tr.sum_ba] at this
    exact this
  have HE2 : Hid ((!(Tr.o4 == Tr.e4)) = true) := by show _ = _; rw [beq_eq_false_iff_ne.2 Tr.roots_ne]; rfl
  have HEX : Hid ((!(Tr.ab == Tr.ba)) = true) := by show _ = _; rw [beq_eq_false_iff_ne.2 Tr.turned_ne]; rfl
  have HL0 : Hid (Tr.e0.length = 32) := rfl
  have HL4 : Hid (Tr.e4.length = 32) := rfl
  have HLO : Hid (Tr.o4.length = 32) := rfl
  have HLA : Hid (Tr.ab.length = 32) := rfl
  have HLB : Hid (Tr.ba.length = 32) := rfl
  clear SETC DROPC G hm2
  generalize Tr.e0 = E0 at *
  generalize Tr.e4 = E4 at *
  generalize Tr.o4 = O4 at *
  generalize Tr.ab = AB at *
  generalize Tr.ba = BA at *
  have HE0 : Hid ((E0 == E0) = true) := by show _ = _; rw [beq_iff_eq]
  have HE4 : Hid ((E4 == E4) = true) := by show _ = _; rw [beq_iff_eq]
  have HLc0 := HL0
  have HLc4 := HL4
  have HLcz : Hid (Tr.zeros.length = 32) := Tr.zeros_length
  obtain ⟨c0, hc0⟩ : ∃ c, c = (Lib.byteCells E0).toArray := ⟨_, rfl⟩
  have hzc0 : c0.size = 32 := by rw [hc0]; exact Tr.size32 HLc0.out
  have HZc0 := Lib.hid hzc0
  have HOc0 : Hid (c0.all (·.oneCell') = true) := by show _ = _; rw [hc0]; exact Sm.bytes_one _
  obtain ⟨c4, hc4⟩ : ∃ c, c = (Lib.byteCells E4).toArray := ⟨_, rfl⟩
  have hzc4 : c4.size = 32 := by rw [hc4]; exact Tr.size32 HLc4.out
  have HZc4 := Lib.hid hzc4
  have HOc4 : Hid (c4.all (·.oneCell') = true) := by show _ = _; rw [hc4]; exact Sm.bytes_one _
  obtain ⟨cz, hcz⟩ : ∃ c, c = (Lib.byteCells Tr.zeros).toArray := ⟨_, rfl⟩
  have hzcz : cz.size = 32 := by rw [hcz]; exact Tr.size32 HLcz.out
  have HZcz := Lib.hid hzcz
  have HOcz : Hid (cz.all (·.oneCell') = true) := by show _ = _; rw [hcz]; exact Sm.bytes_one _
  have HCE0 := Lib.hid hc0
  have HCE4 := Lib.hid hc4
  have A40 : Hid (∀ (wx : World) (r : Nat), Tr.Ow w wx r [] → Calls Tryd.prog 15 #[.pointer (some ⟨r, 0, none⟩), .int .i64 4, .int .i64 0] wx fun e w' => e = .returned (.tuple #[.agg c0, .bool true]) ∧ Below wx.heap.size wx w') := fun wx r h => by rw [hc0]; exact N40.out wx r h
  have A1 : Hid (∀ (wx : World) (r : Nat), Calls Tryd.prog 15 #[.pointer (some ⟨r, 0, none⟩), .int .i64 5, .int .i64 0] wx fun e w' => e = .returned (.tuple #[.agg cz, .bool false]) ∧ Below wx.heap.size wx w') := fun wx r => by rw [hcz]; exact NX1.out wx r
  have A2 : Hid (∀ (wx : World) (r : Nat), Calls Tryd.prog 15 #[.pointer (some ⟨r, 0, none⟩), .int .i64 4, .int .i64 16] wx fun e w' => e = .returned (.tuple #[.agg cz, .bool false]) ∧ Below wx.heap.size wx w') := fun wx r => by rw [hcz]; exact NX2.out wx r
  have A3 : Hid (∀ (wx : World) (r : Nat), Calls Tryd.prog 15 #[.pointer (some ⟨r, 0, none⟩), .int .i64 0, .int .i64 1] wx fun e w' => e = .returned (.tuple #[.agg cz, .bool false]) ∧ Below wx.heap.size wx w') := fun wx r => by rw [hcz]; exact NX3.out wx r
  have A4 : Hid (∀ (wx : World) (r : Nat), Calls Tryd.prog 15 #[.pointer (some ⟨r, 0, none⟩), .int .i64 (-1), .int .i64 0] wx fun e w' => e = .returned (.tuple #[.agg cz, .bool false]) ∧ Below wx.heap.size wx w') := fun wx r => by rw [hcz]; exact NX4.out wx r
  have AR : Hid (∀ (wx : World) (r : Nat), Tr.Ow w wx r [] → Calls Tryd.prog 18 #[.pointer (some ⟨r, 0, none⟩)] wx fun e w' => e = .returned (.agg c4) ∧ Below wx.heap.size wx w') := fun wx r h => by rw [hc4]; exact RT0.out wx r h
  clear N40 NX1 NX2 NX3 NX4 hc0 hc4 hcz
  go_enter Tryd.func9, Tryd.ntmps9
  go_upto_region 2 with (go_at_call 24; refine NEW.out.mono ?_; rintro e w1 ⟨r, rfl, o1, -, k1⟩)
  have O := Lib.hid o1
  clear k1 o1 NEW
  go_wp2_with fail
  refine (A40.out _ _ O.out).mono ?_
  rintro e wa ⟨rfl, ka⟩
  have Oa := Lib.hid (O.out.step ka)
  have hst : ∀ (c : Array Value), c.size = 32 → (storeCells ⟨wa.heap.size, 0, none⟩ c0.toList).run Tryd.prog (wa.alloc (.cells c 23)) = .ok () (wa.alloc (.cells c0 23)) := fun c hc =>
    run_storeCells_new (P := Tryd.prog) wa 23 c c0 (Sm.infoHash HZc0.out) (by rw [HZc0.out]; exact hc) HOc0.out
  have kk : Below wa.heap.size wa (wa.alloc (.cells c0 23)) := (Below.refl _ wa).alloc (Nat.le_refl _) _
  have Ob := Lib.hid (Oa.out.step kk)
  have H := Lib.hid (heap_alloc_new wa (.cells c0 23))
  have HM1R : Hid (some wa.heap.size ≠ some r) := fun e => by have := Oa.out.tree.lt; have := Option.some.inj e; omega
  clear ka kk Oa O 
  go_upto_region 3 with (fail)
  clear hst
  generalize wa.alloc (.cells c0 23) = wb2 at *
  generalize wa.heap.size = M1 at *
  have O := Ob
  clear Ob
  go_wp2_with fail
  refine (A1.out _ _).mono ?_
  rintro e wa ⟨rfl, ka⟩
  have Oa := Lib.hid (O.out.step ka)
  have Ha := Lib.hid ((ka.block _ (Sm.lt_of H.out)).trans H.out)
  have hst : ∀ (c : Array Value), c.size = 32 → (storeCells ⟨wa.heap.size, 0, none⟩ cz.toList).run Tryd.prog (wa.alloc (.cells c 23)) = .ok () (wa.alloc (.cells cz 23)) := fun c hc =>
    run_storeCells_new (P := Tryd.prog) wa 23 c cz (Sm.infoHash HZcz.out) (by rw [HZcz.out]; exact hc) HOcz.out
  have kk : Below wa.heap.size wa (wa.alloc (.cells cz 23)) := (Below.refl _ wa).alloc (Nat.le_refl _) _
  have Ob := Lib.hid (Oa.out.step kk)
  have Hb := Lib.hid ((kk.block _ (Sm.lt_of Ha.out)).trans Ha.out)
  clear ka kk Oa O Ha H
  go_upto_region 4 with (fail)
  clear hst
  generalize wa.alloc (.cells cz 23) = wb3 at *
  generalize wa.heap.size = Z3 at *
  have O := Ob
  clear Ob
  have H := Hb
  clear Hb
  go_wp2_with fail
  refine (A2.out _ _).mono ?_
  rintro e wa ⟨rfl, ka⟩
  have Oa := Lib.hid (O.out.step ka)
  have Ha := Lib.hid ((ka.block _ (Sm.lt_of H.out)).trans H.out)
  have hst : ∀ (c : Array Value), c.size = 32 → (storeCells ⟨wa.heap.size, 0, none⟩ cz.toList).run Tryd.prog (wa.alloc (.cells c 23)) = .ok () (wa.alloc (.cells cz 23)) := fun c hc =>
    run_storeCells_new (P := Tryd.prog) wa 23 c cz (Sm.infoHash HZcz.out) (by rw [HZcz.out]; exact hc) HOcz.out
  have kk : Below wa.heap.size wa (wa.alloc (.cells cz 23)) := (Below.refl _ wa).alloc (Nat.le_refl _) _
  have Ob := Lib.hid (Oa.out.step kk)
  have Hb := Lib.hid ((kk.block _ (Sm.lt_of Ha.out)).trans Ha.out)
  clear ka kk Oa O Ha H
  go_upto_region 5 with (fail)
  clear hst
  generalize wa.alloc (.cells cz 23) = wb4 at *
  generalize wa.heap.size = Z4 at *
  have O := Ob
  clear Ob
  have H := Hb
  clear Hb
  go_wp2_with fail
  refine (A3.out _ _).mono ?_
  rintro e wa ⟨rfl, ka⟩
  have Oa := Lib.hid (O.out.step ka)
  have Ha := Lib.hid ((ka.block _ (Sm.lt_of H.out)).trans H.out)
  have hst : ∀ (c : Array Value), c.size = 32 → (storeCells ⟨wa.heap.size, 0, none⟩ cz.toList).run Tryd.prog (wa.alloc (.cells c 23)) = .ok () (wa.alloc (.cells cz 23)) := fun c hc =>
    run_storeCells_new (P := Tryd.prog) wa 23 c cz (Sm.infoHash HZcz.out) (by rw [HZcz.out]; exact hc) HOcz.out
  have kk : Below wa.heap.size wa (wa.alloc (.cells cz 23)) := (Below.refl _ wa).alloc (Nat.le_refl _) _
  have Ob := Lib.hid (Oa.out.step kk)
  have Hb := Lib.hid ((kk.block _ (Sm.lt_of Ha.out)).trans Ha.out)
  clear ka kk Oa O Ha H
  go_upto_region 6 with (fail)
  clear hst
  generalize wa.alloc (.cells cz 23) = wb5 at *
  generalize wa.heap.size = Z5 at *
  have O := Ob
  clear Ob
  have H := Hb
  clear Hb
  go_wp2_with fail
  refine (A4.out _ _).mono ?_
  rintro e wa ⟨rfl, ka⟩
  have Oa := Lib.hid (O.out.step ka)
  have Ha := Lib.hid ((ka.block _ (Sm.lt_of H.out)).trans H.out)
  have hst : ∀ (c : Array Value), c.size = 32 → (storeCells ⟨wa.heap.size, 0, none⟩ cz.toList).run Tryd.prog (wa.alloc (.cells c 23)) = .ok () (wa.alloc (.cells cz 23)) := fun c hc =>
    run_storeCells_new (P := Tryd.prog) wa 23 c cz (Sm.infoHash HZcz.out) (by rw [HZcz.out]; exact hc) HOcz.out
  have kk : Below wa.heap.size wa (wa.alloc (.cells cz 23)) := (Below.refl _ wa).alloc (Nat.le_refl _) _
  have Ob := Lib.hid (Oa.out.step kk)
  have Hb := Lib.hid ((kk.block _ (Sm.lt_of Ha.out)).trans Ha.out)
  clear ka kk Oa O Ha H
  go_upto_region 7 with (fail)
  clear hst
  generalize wa.alloc (.cells cz 23) = wb6 at *
  generalize wa.heap.size = Z6 at *
  have O := Ob
  clear Ob
  have H := Hb
  clear Hb
  obtain ⟨W, hW⟩ : ∃ W, W = wb6.drew := ⟨_, rfl⟩
  have HDO : Hid (Tr.Ow w W r []) := by rw [hW]; exact O.out.step (Below.refl _ _).drew
  have HD1 : Hid (W.heap[M1]? = some (.cells (Lib.byteCells E0).toArray 23 (0, 0))) := by rw [hW, ← HCE0.out]; exact H.out
  clear O H
  refine wp_region_held_drew (S := fun w' => w'.rangeAt M1 0 (Lib.byteCells E0)) (by kernel_rfl) (hW ▸ Sm.range_row HD1.out) (fun hHeld => ?_)
  rw [← hW] at hHeld ⊢
  clear hW
  refine wpAnyH_take (i := 0) (oi := ⟨some 50, _, _, _, _, _⟩) (v := .bool true) rfl (by kernel_rfl) (by kernel_rfl) (by kernel_rfl) (fun _ _ _ h => h) (Or.inl ⟨by rfl, ?_⟩) (by assumption) ?_
  · intro w hSw; (try dsimp only at hSw); go_simp
  simp only [Act.put, List.setIfInBounds_toArray, List.set_cons_zero, List.set_cons_succ]
  refine wpAnyH_take (i := 1) (oi := ⟨some 51, _, _, _, _, _⟩) (v := .bool true) rfl (by kernel_rfl) (by kernel_rfl) (by kernel_rfl) (fun _ _ _ h => h) (Or.inl ⟨by rfl, ?_⟩) (by assumption) ?_
  · intro w hSw; (try dsimp only at hSw); go_simp
  simp only [Act.put, List.setIfInBounds_toArray, List.set_cons_zero, List.set_cons_succ]
  refine wpAnyH_take (i := 2) (oi := ⟨some 52, _, _, _, _, _⟩) (v := .agg (Lib.byteCells E0).toArray) rfl (by kernel_rfl) (by kernel_rfl) (by kernel_rfl) (fun _ _ _ h => h) (yieldsIf_load_mid (by rfl) _ _ rfl _ _ rfl (Lib.byteCells E0) _ (fun w hS => hS) Tryd.underlying23 rfl (Sm.infoHash (Tr.size32 HL0.out))) (by assumption) ?_
  simp only [Act.put, List.setIfInBounds_toArray, List.set_cons_zero, List.set_cons_succ]
  refine wpAnyH_ready (rs := [3]) (by kernel_rfl) (by simp) ?_
  refine (AllReadyH.cons (o := ⟨some 53, _, _, _, _, _⟩) rfl (fun K hK => ?_) AllReadyH.nil)
  go_simp
  refine ((LEAF.out _ HDO.out.bel)).mono ?_
  rintro e wa ⟨rfl, ka⟩
  have Oa := Lib.hid (HDO.out.step ka)
  have Ha := Lib.hid ((ka.block _ (Sm.lt_of HD1.out)).trans HD1.out)
  clear ka
  refine hK.out _ _ (Sm.range_row Ha.out) (fun hHeld => ?_)
  clear hK K
  refine wpAnyH_take (i := 4) (oi := ⟨some 54, _, _, _, _, _⟩) (v := .bool (E0 == E0)) rfl (by kernel_rfl) (by kernel_rfl) (by kernel_rfl) (fun _ _ _ h => h) (Tr.yields_heq (by rfl) _ _ _ rfl E0 E0 HL0.out HL0.out rfl rfl) (by assumption) ?_
  simp only [Act.put, List.setIfInBounds_toArray, List.set_cons_zero, List.set_cons_succ]
  rw [HE0.out]
  refine wpAnyH_take (i := 5) (oi := ⟨some 55, _, _, _, _, _⟩) (v := .bool true) rfl (by kernel_rfl) (by kernel_rfl) (by kernel_rfl) (fun _ _ _ h => h) (Or.inl ⟨by rfl, ?_⟩) (by assumption) ?_
  · intro w hSw; (try dsimp only at hSw); go_simp
  simp only [Act.put, List.setIfInBounds_toArray, List.set_cons_zero, List.set_cons_succ]
  refine wpAnyH_take (i := 6) (oi := ⟨some 56, _, _, _, _, _⟩) (v := .bool true) rfl (by kernel_rfl) (by kernel_rfl) (by kernel_rfl) (fun _ _ _ h => h) (Or.inl ⟨by rfl, ?_⟩) (by assumption) ?_
  · intro w hSw; (try dsimp only at hSw); go_simp
  simp only [Act.put, List.setIfInBounds_toArray, List.set_cons_zero, List.set_cons_succ]
  refine wpAnyH_take (i := 7) (oi := ⟨some 57, _, _, _, _, _⟩) (v := .bool false) rfl (by kernel_rfl) (by kernel_rfl) (by kernel_rfl) (fun _ _ _ h => h) (Or.inl ⟨by rfl, ?_⟩) (by assumption) ?_
  · intro w hSw; (try dsimp only at hSw); go_simp
  simp only [Act.put, List.setIfInBounds_toArray, List.set_cons_zero, List.set_cons_succ]
  refine wpAnyH_take (i := 8) (oi := ⟨some 58, _, _, _, _, _⟩) (v := .bool true) rfl (by kernel_rfl) (by kernel_rfl) (by kernel_rfl) (fun _ _ _ h => h) (Or.inl ⟨by rfl, ?_⟩) (by assumption) ?_
  · intro w hSw; (try dsimp only at hSw); go_simp
  simp only [Act.put, List.setIfInBounds_toArray, List.set_cons_zero, List.set_cons_succ]
  refine wpAnyH_take (i := 9) (oi := ⟨some 59, _, _, _, _, _⟩) (v := .bool true) rfl (by kernel_rfl) (by kernel_rfl) (by kernel_rfl) (fun _ _ _ h => h) (Or.inl ⟨by rfl, ?_⟩) (by assumption) ?_
  · intro w hSw; (try dsimp only at hSw); go_simp
  simp only [Act.put, List.setIfInBounds_toArray, List.set_cons_zero, List.set_cons_succ]
  refine wpAnyH_take (i := 10) (oi := ⟨some 60, _, _, _, _, _⟩) (v := .bool true) rfl (by kernel_rfl) (by kernel_rfl) (by kernel_rfl) (fun _ _ _ h => h) (Or.inl ⟨by rfl, ?_⟩) (by assumption) ?_
  · intro w hSw; (try dsimp only at hSw); go_simp
  simp only [Act.put, List.setIfInBounds_toArray, List.set_cons_zero, List.set_cons_succ]
  refine wpAnyH_take (i := 11) (oi := ⟨some 61, _, _, _, _, _⟩) (v := .bool false) rfl (by kernel_rfl) (by kernel_rfl) (by kernel_rfl) (fun _ _ _ h => h) (Or.inl ⟨by rfl, ?_⟩) (by assumption) ?_
  · intro w hSw; (try dsimp only at hSw); go_simp
  simp only [Act.put, List.setIfInBounds_toArray, List.set_cons_zero, List.set_cons_succ]
  refine wpAnyH_take (i := 12) (oi := ⟨some 62, _, _, _, _, _⟩) (v := .bool true) rfl (by kernel_rfl) (by kernel_rfl) (by kernel_rfl) (fun _ _ _ h => h) (Or.inl ⟨by rfl, ?_⟩) (by assumption) ?_
  · intro w hSw; (try dsimp only at hSw); go_simp
  simp only [Act.put, List.setIfInBounds_toArray, List.set_cons_zero, List.set_cons_succ]
  refine wpAnyH_take (i := 13) (oi := ⟨some 63, _, _, _, _, _⟩) (v := .bool true) rfl (by kernel_rfl) (by kernel_rfl) (by kernel_rfl) (fun _ _ _ h => h) (Or.inl ⟨by rfl, ?_⟩) (by assumption) ?_
  · intro w hSw; (try dsimp only at hSw); go_simp
  simp only [Act.put, List.setIfInBounds_toArray, List.set_cons_zero, List.set_cons_succ]
  refine wpAnyH_take (i := 14) (oi := ⟨some 64, _, _, _, _, _⟩) (v := .bool true) rfl (by kernel_rfl) (by kernel_rfl) (by kernel_rfl) (fun _ _ _ h => h) (Or.inl ⟨by rfl, ?_⟩) (by assumption) ?_
  · intro w hSw; (try dsimp only at hSw); go_simp
  simp only [Act.put, List.setIfInBounds_toArray, List.set_cons_zero, List.set_cons_succ]
  refine wpAnyH_take (i := 15) (oi := ⟨some 65, _, _, _, _, _⟩) (v := .bool false) rfl (by kernel_rfl) (by kernel_rfl) (by kernel_rfl) (fun _ _ _ h => h) (Or.inl ⟨by rfl, ?_⟩) (by assumption) ?_
  · intro w hSw; (try dsimp only at hSw); go_simp
  simp only [Act.put, List.setIfInBounds_toArray, List.set_cons_zero, List.set_cons_succ]
  refine wpAnyH_take (i := 16) (oi := ⟨some 66, _, _, _, _, _⟩) (v := .bool true) rfl (by kernel_rfl) (by kernel_rfl) (by kernel_rfl) (fun _ _ _ h => h) (Or.inl ⟨by rfl, ?_⟩) (by assumption) ?_
  · intro w hSw; (try dsimp only at hSw); go_simp
  simp only [Act.put, List.setIfInBounds_toArray, List.set_cons_zero, List.set_cons_succ]
  refine wpAnyH_take (i := 17) (oi := ⟨some 67, _, _, _, _, _⟩) (v := .bool true) rfl (by kernel_rfl) (by kernel_rfl) (by kernel_rfl) (fun _ _ _ h => h) (Or.inl ⟨by rfl, ?_⟩) (by assumption) ?_
  · intro w hSw; (try dsimp only at hSw); go_simp
  simp only [Act.put, List.setIfInBounds_toArray, List.set_cons_zero, List.set_cons_succ]
  refine wpAnyH_take (i := 18) (oi := ⟨some 68, _, _, _, _, _⟩) (v := .bool true) rfl (by kernel_rfl) (by kernel_rfl) (by kernel_rfl) (fun _ _ _ h => h) (Or.inl ⟨by rfl, ?_⟩) (by assumption) ?_
  · intro w hSw; (try dsimp only at hSw); go_simp
  simp only [Act.put, List.setIfInBounds_toArray, List.set_cons_zero, List.set_cons_succ]
  refine wpAnyH_take (i := 19) (oi := ⟨some 69, _, _, _, _, _⟩) (v := .bool false) rfl (by kernel_rfl) (by kernel_rfl) (by kernel_rfl) (fun _ _ _ h => h) (Or.inl ⟨by rfl, ?_⟩) (by assumption) ?_
  · intro w hSw; (try dsimp only at hSw); go_simp
  simp only [Act.put, List.setIfInBounds_toArray, List.set_cons_zero, List.set_cons_succ]
  refine wpAnyH_take (i := 20) (oi := ⟨some 70, _, _, _, _, _⟩) (v := .bool true) rfl (by kernel_rfl) (by kernel_rfl) (by kernel_rfl) (fun _ _ _ h => h) (Or.inl ⟨by rfl, ?_⟩) (by assumption) ?_
  · intro w hSw; (try dsimp only at hSw); go_simp
  simp only [Act.put, List.setIfInBounds_toArray, List.set_cons_zero, List.set_cons_succ]
  refine wpAnyH_take (i := 21) (oi := ⟨some 71, _, _, _, _, _⟩) (v := .bool true) rfl (by kernel_rfl) (by kernel_rfl) (by kernel_rfl) (fun _ _ _ h => h) (Or.inl ⟨by rfl, ?_⟩) (by assumption) ?_
  · intro w hSw; (try dsimp only at hSw); go_simp
  simp only [Act.put, List.setIfInBounds_toArray, List.set_cons_zero, List.set_cons_succ]
  refine wpAnyH_take (i := 22) (oi := ⟨some 72, _, _, _, _, _⟩) (v := .bool true) rfl (by kernel_rfl) (by kernel_rfl) (by kernel_rfl) (fun _ _ _ h => h) (Or.inl ⟨by rfl, ?_⟩) (by assumption) ?_
  · intro w hSw; (try dsimp only at hSw); go_simp
  simp only [Act.put, List.setIfInBounds_toArray, List.set_cons_zero, List.set_cons_succ]
  refine wpAnyH_take (i := 23) (oi := ⟨some 73, _, _, _, _, _⟩) (v := .pointer (some ⟨r, 0, none⟩)) rfl (by kernel_rfl) (by kernel_rfl) (by kernel_rfl) (fun _ _ _ h => h) (Or.inl ⟨by rfl, ?_⟩) (by assumption) ?_
  · intro w hSw; (try dsimp only at hSw); go_simp
  simp only [Act.put, List.setIfInBounds_toArray, List.set_cons_zero, List.set_cons_succ]
  refine wpAnyH_ready (rs := [24]) (by kernel_rfl) (by simp) ?_
  refine (AllReadyH.cons (o := ⟨some 74, _, _, _, _, _⟩) rfl (fun K hK => ?_) AllReadyH.nil)
  go_simp
  refine ((PAIRS.out _ _ Oa.out)).mono ?_
  rintro e wb ⟨Bb, qb, rfl, kb⟩
  have Ob := Lib.hid (Oa.out.step kb)
  have Hb := Lib.hid ((kb.block _ (Sm.lt_of Ha.out)).trans Ha.out)
  clear kb
  refine hK.out _ _ (Sm.range_row Hb.out) (fun hHeld => ?_)
  clear hK K
  refine wpAnyH_take (i := 25) (oi := ⟨some 75, _, _, _, _, _⟩) (v := .int .i64 0) rfl (by kernel_rfl) (by kernel_rfl) (by kernel_rfl) (fun _ _ _ h => h) (Or.inl ⟨by rfl, ?_⟩) (by assumption) ?_
  · intro w hSw; (try dsimp only at hSw); go_simp
  simp only [Act.put, List.setIfInBounds_toArray, List.set_cons_zero, List.set_cons_succ]
  refine wpAnyH_take (i := 26) (oi := ⟨some 76, _, _, _, _, _⟩) (v := .bool true) rfl (by kernel_rfl) (by kernel_rfl) (by kernel_rfl) (fun _ _ _ h => h) (Or.inl ⟨by rfl, ?_⟩) (by assumption) ?_
  · intro w hSw; (try dsimp only at hSw); go_simp
  simp only [Act.put, List.setIfInBounds_toArray, List.set_cons_zero, List.set_cons_succ]
  refine wpAnyH_take (i := 27) (oi := ⟨some 77, _, _, _, _, _⟩) (v := .bool true) rfl (by kernel_rfl) (by kernel_rfl) (by kernel_rfl) (fun _ _ _ h => h) (Or.inl ⟨by rfl, ?_⟩) (by assumption) ?_
  · intro w hSw; (try dsimp only at hSw); go_simp
  simp only [Act.put, List.setIfInBounds_toArray, List.set_cons_zero, List.set_cons_succ]
  refine wpAnyH_take (i := 28) (oi := ⟨some 78, _, _, _, _, _⟩) (v := .bool true) rfl (by kernel_rfl) (by kernel_rfl) (by kernel_rfl) (fun _ _ _ h => h) (Or.inl ⟨by rfl, ?_⟩) (by assumption) ?_
  · intro w hSw; (try dsimp only at hSw); go_simp
  simp only [Act.put, List.setIfInBounds_toArray, List.set_cons_zero, List.set_cons_succ]
  refine wpAnyH_take (i := 29) (oi := ⟨some 79, _, _, _, _, _⟩) (v := .pointer (some ⟨r, 0, none⟩)) rfl (by kernel_rfl) (by kernel_rfl) (by kernel_rfl) (fun _ _ _ h => h) (Or.inl ⟨by rfl, ?_⟩) (by assumption) ?_
  · intro w hSw; (try dsimp only at hSw); go_simp
  simp only [Act.put, List.setIfInBounds_toArray, List.set_cons_zero, List.set_cons_succ]
  refine wpAnyH_ready (rs := [30]) (by kernel_rfl) (by simp) ?_
  refine (AllReadyH.cons (o := ⟨some 80, _, _, _, _, _⟩) rfl (fun K hK => ?_) AllReadyH.nil)
  go_simp
  refine ((TX.out _ _ Ob.out)).mono ?_
  rintro e wc ⟨Bc, qc, rfl, kc⟩
  have Oc := Lib.hid (Ob.out.step kc)
  have Hc := Lib.hid ((kc.block _ (Sm.lt_of Hb.out)).trans Hb.out)
  clear kc
  refine hK.out _ _ (Sm.range_row Hc.out) (fun hHeld => ?_)
  clear hK K
  refine wpAnyH_take (i := 31) (oi := ⟨some 81, _, _, _, _, _⟩) (v := .int .i64 31) rfl (by kernel_rfl) (by kernel_rfl) (by kernel_rfl) (fun _ _ _ h => h) (Or.inl ⟨by rfl, ?_⟩) (by assumption) ?_
  · intro w hSw; (try dsimp only at hSw); go_simp
  simp only [Act.put, List.setIfInBounds_toArray, List.set_cons_zero, List.set_cons_succ]
  refine wpAnyH_take (i := 32) (oi := ⟨some 82, _, _, _, _, _⟩) (v := .bool true) rfl (by kernel_rfl) (by kernel_rfl) (by kernel_rfl) (fun _ _ _ h => h) (Or.inl ⟨by rfl, ?_⟩) (by assumption) ?_
  · intro w hSw; (try dsimp only at hSw); go_simp
  simp only [Act.put, List.setIfInBounds_toArray, List.set_cons_zero, List.set_cons_succ]
  refine wpAnyH_take (i := 33) (oi := ⟨some 83, _, _, _, _, _⟩) (v := .bool true) rfl (by kernel_rfl) (by kernel_rfl) (by kernel_rfl) (fun _ _ _ h => h) (Or.inl ⟨by rfl, ?_⟩) (by assumption) ?_
  · intro w hSw; (try dsimp only at hSw); go_simp
  simp only [Act.put, List.setIfInBounds_toArray, List.set_cons_zero, List.set_cons_succ]
  refine wpAnyH_take (i := 34) (oi := ⟨some 12, _, _, _, _, _⟩) (v := .bool true) rfl (by kernel_rfl) (by kernel_rfl) (by kernel_rfl) (fun _ _ _ h => h) (Or.inl ⟨by rfl, ?_⟩) (by assumption) ?_
  · intro w hSw; (try dsimp only at hSw); go_simp
  simp only [Act.put, List.setIfInBounds_toArray, List.set_cons_zero, List.set_cons_succ]
  refine wpAnyH_done (by kernel_rfl) ?_ _
  have O := Oc
  have H := Hc
  clear Oc Hc HDO HD1
  go_wp2_with fail
  refine (AR.out _ _ O.out).mono ?_
  rintro e wa ⟨rfl, ka⟩
  have Oa := Lib.hid (O.out.step ka)
  have Ha := Lib.hid ((ka.block _ (Sm.lt_of H.out)).trans H.out)
  have hst : ∀ (c : Array Value), c.size = 32 → (storeCells ⟨wa.heap.size, 0, none⟩ c4.toList).run Tryd.prog (wa.alloc (.cells c 23)) = .ok () (wa.alloc (.cells c4 23)) := fun c hc =>
    run_storeCells_new (P := Tryd.prog) wa 23 c c4 (Sm.infoHash HZc4.out) (by rw [HZc4.out]; exact hc) HOc4.out
  have kk : Below wa.heap.size wa (wa.alloc (.cells c4 23)) := (Below.refl _ wa).alloc (Nat.le_refl _) _
  have Ob := Lib.hid (Oa.out.step kk)
  have Hb := Lib.hid ((kk.block _ (Sm.lt_of Ha.out)).trans Ha.out)
  have J := Lib.hid (heap_alloc_new wa (.cells c4 23))
  have HM2R : Hid (some wa.heap.size ≠ some r) := fun e => by have := Oa.out.tree.lt; have := Option.some.inj e; omega
  clear ka kk Oa O Ha H
  go_upto_region 9 with (fail)
  clear hst
  generalize wa.alloc (.cells c4 23) = wb8 at *
  generalize wa.heap.size = M2 at *
  have O := Ob
  clear Ob
  have H := Hb
  clear Hb
  go_upto_region 12 with first
    | (go_at_call 16; refine (S1.out _ _ O.out).mono ?_; rintro e x1 ⟨rfl, o1, g1⟩; have P1 := Lib.hid o1; have H1 := Lib.hid ((g1.block _ (Sm.lt_of H.out) HM1R.out).trans H.out); have J1 := Lib.hid ((g1.block _ (Sm.lt_of J.out) HM2R.out).trans J.out); clear o1 g1 O H J)
    | (go_at_call 16; refine (S2.out _ _ P1.out).mono ?_; rintro e x2 ⟨rfl, o1, g1⟩; have P2 := Lib.hid o1; have H2 := Lib.hid ((g1.block _ (Sm.lt_of H1.out) HM1R.out).trans H1.out); have J2 := Lib.hid ((g1.block _ (Sm.lt_of J1.out) HM2R.out).trans J1.out); clear o1 g1 P1 H1 J1)
    | (go_at_call 16; refine (S3.out _ _ P2.out).mono ?_; rintro e x3 ⟨rfl, o1, g1⟩; have P3 := Lib.hid o1; have H3 := Lib.hid ((g1.block _ (Sm.lt_of H2.out) HM1R.out).trans H2.out); have J3 := Lib.hid ((g1.block _ (Sm.lt_of J2.out) HM2R.out).trans J2.out); clear o1 g1 P2 H2 J2)
  obtain ⟨W, hW⟩ : ∃ W, W = x3.drew := ⟨_, rfl⟩
  have HDO : Hid (Tr.Ow w W r Bu.one) := by rw [hW]; exact P3.out.step (Below.refl _ _).drew
  have HD1 : Hid (W.heap[M1]? = some (.cells (Lib.byteCells E0).toArray 23 (0, 0))) := by rw [hW]; exact H3.out
  have HD2 : Hid (W.heap[M2]? = some (.cells (Lib.byteCells E4).toArray 23 (0, 0))) := by rw [hW, ← HCE4.out]; exact J3.out
  clear P3 H3 J3
  refine wp_region_held_drew (S := fun w' => w'.rangeAt M2 0 (Lib.byteCells E4)) (by kernel_rfl) (hW ▸ Sm.range_row HD2.out) (fun hHeld => ?_)
  rw [← hW] at hHeld ⊢
  clear hW
  refine wpAnyH_take (i := 0) (oi := ⟨some 92, _, _, _, _, _⟩) (v := .pointer (some ⟨r, 0, none⟩)) rfl (by kernel_rfl) (by kernel_rfl) (by kernel_rfl) (fun _ _ _ h => h) (Or.inl ⟨by rfl, ?_⟩) (by assumption) ?_
  · intro w hSw; (try dsimp only at hSw); go_simp
  simp only [Act.put, List.setIfInBounds_toArray, List.set_cons_zero, List.set_cons_succ]
  refine wpAnyH_take (i := 2) (oi := ⟨some 94, _, _, _, _, _⟩) (v := .agg (Lib.byteCells E4).toArray) rfl (by kernel_rfl) (by kernel_rfl) (by kernel_rfl) (fun _ _ _ h => h) (yieldsIf_load_mid (by rfl) _ _ rfl _ _ rfl (Lib.byteCells E4) _ (fun w hS => hS) Tryd.underlying23 rfl (Sm.infoHash (Tr.size32 HL4.out))) (by assumption) ?_
  simp only [Act.put, List.setIfInBounds_toArray, List.set_cons_zero, List.set_cons_succ]
  refine wpAnyH_ready (rs := [1]) (by kernel_rfl) (by simp) ?_
  refine (AllReadyH.cons (o := ⟨some 93, _, _, _, _, _⟩) rfl (fun K hK => ?_) AllReadyH.nil)
  go_simp
  refine ((RT1.out _ _ HDO.out)).mono ?_
  rintro e wd ⟨rfl, kd⟩
  have Od := Lib.hid (HDO.out.step kd)
  have Hd := Lib.hid ((kd.block _ (Sm.lt_of HD1.out)).trans HD1.out)
  have Jd := Lib.hid ((kd.block _ (Sm.lt_of HD2.out)).trans HD2.out)
  clear kd
  refine hK.out _ _ (Sm.range_row Jd.out) (fun hHeld => ?_)
  clear hK K
  refine wpAnyH_take (i := 3) (oi := ⟨some 95, _, _, _, _, _⟩) (v := .bool (!(O4 == E4))) rfl (by kernel_rfl) (by kernel_rfl) (by kernel_rfl) (fun _ _ _ h => h) (Tr.yields_hne (by rfl) _ _ _ rfl O4 E4 HLO.out HL4.out rfl rfl) (by assumption) ?_
  simp only [Act.put, List.setIfInBounds_toArray, List.set_cons_zero, List.set_cons_succ]
  rw [HE2.out]
  refine wpAnyH_take (i := 4) (oi := ⟨some 17, _, _, _, _, _⟩) (v := .bool true) rfl (by kernel_rfl) (by kernel_rfl) (by kernel_rfl) (fun _ _ _ h => h) (Or.inl ⟨by rfl, ?_⟩) (by assumption) ?_
  · intro w hSw; (try dsimp only at hSw); go_simp
  simp only [Act.put, List.setIfInBounds_toArray, List.set_cons_zero, List.set_cons_succ]
  refine wpAnyH_done (by kernel_rfl) ?_ _
  clear HDO HD1 HD2
  go_upto_region 13 with (fail)
  have HE0' := HCE0
  obtain ⟨W, hW⟩ : ∃ W, W = wd.drew := ⟨_, rfl⟩
  have HDO : Hid (Tr.Ow w W r Bu.one) := by rw [hW]; exact Od.out.step (Below.refl _ _).drew
  have HD1 : Hid (W.heap[M1]? = some (.cells (Lib.byteCells E0).toArray 23 (0, 0))) := by rw [hW]; exact Hd.out
  have HD2 : Hid (W.heap[M2]? = some (.cells (Lib.byteCells E4).toArray 23 (0, 0))) := by rw [hW]; exact Jd.out
  clear Od Hd Jd HE0'
  refine wp_region_held_drew (S := fun w' => w'.rangeAt M2 0 (Lib.byteCells E4)) (by kernel_rfl) (hW ▸ Sm.range_row HD2.out) (fun hHeld => ?_)
  rw [← hW] at hHeld ⊢
  clear hW
  refine wpAnyH_take (i := 0) (oi := ⟨some 96, _, _, _, _, _⟩) (v := .pointer (some ⟨r, 0, none⟩)) rfl (by kernel_rfl) (by kernel_rfl) (by kernel_rfl) (fun _ _ _ h => h) (Or.inl ⟨by rfl, ?_⟩) (by assumption) ?_
  · intro w hSw; (try dsimp only at hSw); go_simp
  simp only [Act.put, List.setIfInBounds_toArray, List.set_cons_zero, List.set_cons_succ]
  refine wpAnyH_ready (rs := [1]) (by kernel_rfl) (by simp) ?_
  refine (AllReadyH.cons (o := ⟨some 97, _, _, _, _, _⟩) rfl (fun K hK => ?_) AllReadyH.nil)
  go_simp
  refine ((D1.out _ _ HDO.out)).mono ?_
  rintro e we ⟨rfl, oe, ge⟩
  have Oe := Lib.hid oe
  have He := Lib.hid ((ge.block _ (Sm.lt_of HD1.out) HM1R.out).trans HD1.out)
  have Je := Lib.hid ((ge.block _ (Sm.lt_of HD2.out) HM2R.out).trans HD2.out)
  clear oe ge
  refine hK.out _ _ (Sm.range_row Je.out) (fun hHeld => ?_)
  clear hK K
  refine wpAnyH_take (i := 2) (oi := ⟨some 98, _, _, _, _, _⟩) (v := .bool true) rfl (by kernel_rfl) (by kernel_rfl) (by kernel_rfl) (fun _ _ _ h => h) (Or.inl ⟨by rfl, ?_⟩) (by assumption) ?_
  · intro w hSw; (try dsimp only at hSw); go_simp
  simp only [Act.put, List.setIfInBounds_toArray, List.set_cons_zero, List.set_cons_succ]
  refine wpAnyH_take (i := 3) (oi := ⟨some 99, _, _, _, _, _⟩) (v := .pointer (some ⟨r, 0, none⟩)) rfl (by kernel_rfl) (by kernel_rfl) (by kernel_rfl) (fun _ _ _ h => h) (Or.inl ⟨by rfl, ?_⟩) (by assumption) ?_
  · intro w hSw; (try dsimp only at hSw); go_simp
  simp only [Act.put, List.setIfInBounds_toArray, List.set_cons_zero, List.set_cons_succ]
  refine wpAnyH_ready (rs := [4]) (by kernel_rfl) (by simp) ?_
  refine (AllReadyH.cons (o := ⟨some 100, _, _, _, _, _⟩) rfl (fun K hK => ?_) AllReadyH.nil)
  go_simp
  refine ((D2.out _ _ Oe.out)).mono ?_
  rintro e wf ⟨rfl, of, gf⟩
  have Of := Lib.hid of
  have Hf := Lib.hid ((gf.block _ (Sm.lt_of He.out) HM1R.out).trans He.out)
  have Jf := Lib.hid ((gf.block _ (Sm.lt_of Je.out) HM2R.out).trans Je.out)
  clear of gf
  refine hK.out _ _ (Sm.range_row Jf.out) (fun hHeld => ?_)
  clear hK K
  refine wpAnyH_take (i := 5) (oi := ⟨some 101, _, _, _, _, _⟩) (v := .bool true) rfl (by kernel_rfl) (by kernel_rfl) (by kernel_rfl) (fun _ _ _ h => h) (Or.inl ⟨by rfl, ?_⟩) (by assumption) ?_
  · intro w hSw; (try dsimp only at hSw); go_simp
  simp only [Act.put, List.setIfInBounds_toArray, List.set_cons_zero, List.set_cons_succ]
  refine wpAnyH_take (i := 6) (oi := ⟨some 102, _, _, _, _, _⟩) (v := .bool true) rfl (by kernel_rfl) (by kernel_rfl) (by kernel_rfl) (fun _ _ _ h => h) (Or.inl ⟨by rfl, ?_⟩) (by assumption) ?_
  · intro w hSw; (try dsimp only at hSw); go_simp
  simp only [Act.put, List.setIfInBounds_toArray, List.set_cons_zero, List.set_cons_succ]
  refine wpAnyH_take (i := 7) (oi := ⟨some 103, _, _, _, _, _⟩) (v := .bool true) rfl (by kernel_rfl) (by kernel_rfl) (by kernel_rfl) (fun _ _ _ h => h) (Or.inl ⟨by rfl, ?_⟩) (by assumption) ?_
  · intro w hSw; (try dsimp only at hSw); go_simp
  simp only [Act.put, List.setIfInBounds_toArray, List.set_cons_zero, List.set_cons_succ]
  refine wpAnyH_take (i := 8) (oi := ⟨some 104, _, _, _, _, _⟩) (v := .pointer (some ⟨r, 0, none⟩)) rfl (by kernel_rfl) (by kernel_rfl) (by kernel_rfl) (fun _ _ _ h => h) (Or.inl ⟨by rfl, ?_⟩) (by assumption) ?_
  · intro w hSw; (try dsimp only at hSw); go_simp
  simp only [Act.put, List.setIfInBounds_toArray, List.set_cons_zero, List.set_cons_succ]
  refine wpAnyH_take (i := 10) (oi := ⟨some 106, _, _, _, _, _⟩) (v := .agg (Lib.byteCells E4).toArray) rfl (by kernel_rfl) (by kernel_rfl) (by kernel_rfl) (fun _ _ _ h => h) (yieldsIf_load_mid (by rfl) _ _ rfl _ _ rfl (Lib.byteCells E4) _ (fun w hS => hS) Tryd.underlying23 rfl (Sm.infoHash (Tr.size32 HL4.out))) (by assumption) ?_
  simp only [Act.put, List.setIfInBounds_toArray, List.set_cons_zero, List.set_cons_succ]
  refine wpAnyH_ready (rs := [9]) (by kernel_rfl) (by simp) ?_
  refine (AllReadyH.cons (o := ⟨some 105, _, _, _, _, _⟩) rfl (fun K hK => ?_) AllReadyH.nil)
  go_simp
  refine ((RT0.out _ _ Of.out)).mono ?_
  rintro e wg ⟨rfl, kg⟩
  have Og := Lib.hid (Of.out.step kg)
  have Hg := Lib.hid ((kg.block _ (Sm.lt_of Hf.out)).trans Hf.out)
  have Jg := Lib.hid ((kg.block _ (Sm.lt_of Jf.out)).trans Jf.out)
  clear kg
  refine hK.out _ _ (Sm.range_row Jg.out) (fun hHeld => ?_)
  clear hK K
  refine wpAnyH_take (i := 11) (oi := ⟨some 107, _, _, _, _, _⟩) (v := .bool (E4 == E4)) rfl (by kernel_rfl) (by kernel_rfl) (by kernel_rfl) (fun _ _ _ h => h) (Tr.yields_heq (by rfl) _ _ _ rfl E4 E4 HL4.out HL4.out rfl rfl) (by assumption) ?_
  simp only [Act.put, List.setIfInBounds_toArray, List.set_cons_zero, List.set_cons_succ]
  rw [HE4.out]
  refine wpAnyH_take (i := 12) (oi := ⟨some 108, _, _, _, _, _⟩) (v := .bool true) rfl (by kernel_rfl) (by kernel_rfl) (by kernel_rfl) (fun _ _ _ h => h) (Or.inl ⟨by rfl, ?_⟩) (by assumption) ?_
  · intro w hSw; (try dsimp only at hSw); go_simp
  simp only [Act.put, List.setIfInBounds_toArray, List.set_cons_zero, List.set_cons_succ]
  refine wpAnyH_take (i := 13) (oi := ⟨some 18, _, _, _, _, _⟩) (v := .bool true) rfl (by kernel_rfl) (by kernel_rfl) (by kernel_rfl) (fun _ _ _ h => h) (Or.inl ⟨by rfl, ?_⟩) (by assumption) ?_
  · intro w hSw; (try dsimp only at hSw); go_simp
  simp only [Act.put, List.setIfInBounds_toArray, List.set_cons_zero, List.set_cons_succ]
  refine wpAnyH_done (by kernel_rfl) ?_ _
  clear HDO HD1 HD2
  go_upto_region 15 with (go_at_call 26; refine (OFB.out _ _ (heap_alloc_new _ _)).mono ?_; rintro e x4 ⟨rfl, k4⟩)
  have kk := ((Below.refl _ wg).alloc (Nat.le_refl _) (.cells #[.string ⟨#[97, 112, 112, 47, 98]⟩, .string ⟨#[]⟩, .string ⟨#[97, 112, 112, 47, 97]⟩, .string ⟨#[]⟩] 57))
  have O4w := Lib.hid ((Og.out.step kk).step k4)
  have H4 := Lib.hid ((k4.block _ (Sm.lt_of ((kk.block _ (Sm.lt_of Hg.out)).trans Hg.out))).trans ((kk.block _ (Sm.lt_of Hg.out)).trans Hg.out))
  have J4 := Lib.hid ((k4.block _ (Sm.lt_of ((kk.block _ (Sm.lt_of Jg.out)).trans Jg.out))).trans ((kk.block _ (Sm.lt_of Jg.out)).trans Jg.out))
  clear k4 kk Og Hg Jg
  go_wp2
  go_loopw [21] (fun s wr => ∃ j : Nat, s = .int .i64 j ∧ j ≤ 48 ∧ Tr.Ow w wr r (Tr.kR j) ∧ wr.heap[M1]? = some (.cells (Lib.byteCells E0).toArray 23 (0, 0)) ∧ wr.heap[M2]? = some (.cells (Lib.byteCells E4).toArray 23 (0, 0))) (fun s _ => 48 - (intOf s).toNat)
  case atStart => exact ⟨0, rfl, by omega, O4w.out, H4.out, J4.out⟩
  case round =>
    clear O4w H4 J4
    obtain ⟨j, rfl, hj, ho, hh, hjj⟩ := hrel
    have K1 := Lib.hid ho
    have H := Lib.hid hh
    have J := Lib.hid hjj
    clear ho hh hjj
    by_cases hlt : j < 48
    · have hji : (j : Int) < 48 := by omega
      have hsuc : IntKind.i64.wrap ((j : Int) + 1) = ((j + 1 : Nat) : Int) := by simp [IntKind.wrap, IntKind.bits, IntKind.signed]; omega
      obtain ⟨S, hcv, hadd⟩ := Tr.kCv j
      go_wp2_with (go_at_call 16; refine (SL.out _ _ j hlt (K1.out.step ((Below.refl _ wr).alloc (Nat.le_refl _) _))).mono ?_; rintro e x5 ⟨rfl, o5, g5⟩)
      have kk : Below wr.heap.size wr (wr.alloc (.cells #[.int .u8 (97 + (j : Int) % 24), .int .u8 (97 + (j : Int) / 24)] 5)) := (Below.refl _ wr).alloc (Nat.le_refl _) _
      have H1 := Lib.hid ((kk.block _ (Sm.lt_of H.out)).trans H.out)
      have J1 := Lib.hid ((kk.block _ (Sm.lt_of J.out)).trans J.out)
      go_roundw
      case rel => exact ⟨j + 1, rfl, by omega, o5, (g5.block _ (Sm.lt_of H1.out) HM1R.out).trans H1.out, (g5.block _ (Sm.lt_of J1.out) HM2R.out).trans J1.out⟩
      case measure => simp only [intOf]; omega
    · have hje : j = 48 := by omega
      clear hj
      subst hje
      have hji : ¬ (48 : Int) < 48 := by omega
      go_upto_region 22 with first
        | (go_at_call 16; refine (S6.out _ _ K1.out).mono ?_; rintro e x6 ⟨rfl, o6, g6⟩; have P6 := Lib.hid o6; have H6 := Lib.hid ((g6.block _ (Sm.lt_of H.out) HM1R.out).trans H.out); have J6 := Lib.hid ((g6.block _ (Sm.lt_of J.out) HM2R.out).trans J.out); clear o6 g6 K1)
        | (go_at_call 16; refine (S7.out _ _ P6.out).mono ?_; rintro e x7 ⟨rfl, o7, g7⟩; have P7 := Lib.hid o7; have H7 := Lib.hid ((g7.block _ (Sm.lt_of H6.out) HM1R.out).trans H6.out); have J7 := Lib.hid ((g7.block _ (Sm.lt_of J6.out) HM2R.out).trans J6.out); clear o7 g7 P6)
      obtain ⟨W, hW⟩ : ∃ W, W = x7.drew := ⟨_, rfl⟩
      have HDO : Hid (Tr.Ow w W r m2) := by rw [hW]; exact P7.out.step (Below.refl _ _).drew
      have HD1 : Hid (W.heap[M1]? = some (.cells (Lib.byteCells E0).toArray 23 (0, 0))) := by rw [hW]; exact H7.out
      have HD2 : Hid (W.heap[M2]? = some (.cells (Lib.byteCells E4).toArray 23 (0, 0))) := by rw [hW]; exact J7.out
      clear P7 H7 J7
      refine wp_region_held_drew (S := fun w' => w'.rangeAt M1 0 (Lib.byteCells E0) ∧ w'.rangeAt M2 0 (Lib.byteCells E4)) (by kernel_rfl) ⟨hW ▸ Sm.range_row HD1.out, hW ▸ Sm.range_row HD2.out⟩ (fun hHeld => ?_)
      rw [← hW] at hHeld ⊢
      clear hW
      refine wpAnyH_take (i := 0) (oi := ⟨some 138, _, _, _, _, _⟩) (v := .bool true) rfl (by kernel_rfl) (by kernel_rfl) (by kernel_rfl) (fun _ _ _ h => h) (Or.inl ⟨by rfl, ?_⟩) (by assumption) ?_
      · intro w hSw; (try dsimp only at hSw); go_simp
      simp only [Act.put, List.setIfInBounds_toArray, List.set_cons_zero, List.set_cons_succ]
      refine wpAnyH_take (i := 1) (oi := ⟨some 139, _, _, _, _, _⟩) (v := .bool true) rfl (by kernel_rfl) (by kernel_rfl) (by kernel_rfl) (fun _ _ _ h => h) (Or.inl ⟨by rfl, ?_⟩) (by assumption) ?_
      · intro w hSw; (try dsimp only at hSw); go_simp
      simp only [Act.put, List.setIfInBounds_toArray, List.set_cons_zero, List.set_cons_succ]
      refine wpAnyH_take (i := 2) (oi := ⟨some 140, _, _, _, _, _⟩) (v := .int .i64 0) rfl (by kernel_rfl) (by kernel_rfl) (by kernel_rfl) (fun _ _ _ h => h) (Or.inl ⟨by rfl, ?_⟩) (by assumption) ?_
      · intro w hSw; (try dsimp only at hSw); go_simp
      simp only [Act.put, List.setIfInBounds_toArray, List.set_cons_zero, List.set_cons_succ]
      refine wpAnyH_take (i := 3) (oi := ⟨some 141, _, _, _, _, _⟩) (v := .bool true) rfl (by kernel_rfl) (by kernel_rfl) (by kernel_rfl) (fun _ _ _ h => h) (Or.inl ⟨by rfl, ?_⟩) (by assumption) ?_
      · intro w hSw; (try dsimp only at hSw); go_simp
      simp only [Act.put, List.setIfInBounds_toArray, List.set_cons_zero, List.set_cons_succ]
      refine wpAnyH_take (i := 4) (oi := ⟨some 142, _, _, _, _, _⟩) (v := .bool true) rfl (by kernel_rfl) (by kernel_rfl) (by kernel_rfl) (fun _ _ _ h => h) (Or.inl ⟨by rfl, ?_⟩) (by assumption) ?_
      · intro w hSw; (try dsimp only at hSw); go_simp
      simp only [Act.put, List.setIfInBounds_toArray, List.set_cons_zero, List.set_cons_succ]
      refine wpAnyH_take (i := 5) (oi := ⟨some 143, _, _, _, _, _⟩) (v := .bool true) rfl (by kernel_rfl) (by kernel_rfl) (by kernel_rfl) (fun _ _ _ h => h) (Or.inl ⟨by rfl, ?_⟩) (by assumption) ?_
      · intro w hSw; (try dsimp only at hSw); go_simp
      simp only [Act.put, List.setIfInBounds_toArray, List.set_cons_zero, List.set_cons_succ]
      refine wpAnyH_take (i := 6) (oi := ⟨some 144, _, _, _, _, _⟩) (v := .int .i64 20) rfl (by kernel_rfl) (by kernel_rfl) (by kernel_rfl) (fun _ _ _ h => h) (Or.inl ⟨by rfl, ?_⟩) (by assumption) ?_
      · intro w hSw; (try dsimp only at hSw); go_simp
      simp only [Act.put, List.setIfInBounds_toArray, List.set_cons_zero, List.set_cons_succ]
      refine wpAnyH_take (i := 7) (oi := ⟨some 145, _, _, _, _, _⟩) (v := .bool true) rfl (by kernel_rfl) (by kernel_rfl) (by kernel_rfl) (fun _ _ _ h => h) (Or.inl ⟨by rfl, ?_⟩) (by assumption) ?_
      · intro w hSw; (try dsimp only at hSw); go_simp
      simp only [Act.put, List.setIfInBounds_toArray, List.set_cons_zero, List.set_cons_succ]
      refine wpAnyH_take (i := 8) (oi := ⟨some 146, _, _, _, _, _⟩) (v := .bool true) rfl (by kernel_rfl) (by kernel_rfl) (by kernel_rfl) (fun _ _ _ h => h) (Or.inl ⟨by rfl, ?_⟩) (by assumption) ?_
      · intro w hSw; (try dsimp only at hSw); go_simp
      simp only [Act.put, List.setIfInBounds_toArray, List.set_cons_zero, List.set_cons_succ]
      refine wpAnyH_take (i := 9) (oi := ⟨some 147, _, _, _, _, _⟩) (v := .bool true) rfl (by kernel_rfl) (by kernel_rfl) (by kernel_rfl) (fun _ _ _ h => h) (Or.inl ⟨by rfl, ?_⟩) (by assumption) ?_
      · intro w hSw; (try dsimp only at hSw); go_simp
      simp only [Act.put, List.setIfInBounds_toArray, List.set_cons_zero, List.set_cons_succ]
      refine wpAnyH_take (i := 10) (oi := ⟨some 148, _, _, _, _, _⟩) (v := .int .i64 3) rfl (by kernel_rfl) (by kernel_rfl) (by kernel_rfl) (fun _ _ _ h => h) (Or.inl ⟨by rfl, ?_⟩) (by assumption) ?_
      · intro w hSw; (try dsimp only at hSw); go_simp
      simp only [Act.put, List.setIfInBounds_toArray, List.set_cons_zero, List.set_cons_succ]
      refine wpAnyH_take (i := 11) (oi := ⟨some 149, _, _, _, _, _⟩) (v := .bool true) rfl (by kernel_rfl) (by kernel_rfl) (by kernel_rfl) (fun _ _ _ h => h) (Or.inl ⟨by rfl, ?_⟩) (by assumption) ?_
      · intro w hSw; (try dsimp only at hSw); go_simp
      simp only [Act.put, List.setIfInBounds_toArray, List.set_cons_zero, List.set_cons_succ]
      refine wpAnyH_take (i := 12) (oi := ⟨some 150, _, _, _, _, _⟩) (v := .bool true) rfl (by kernel_rfl) (by kernel_rfl) (by kernel_rfl) (fun _ _ _ h => h) (Or.inl ⟨by rfl, ?_⟩) (by assumption) ?_
      · intro w hSw; (try dsimp only at hSw); go_simp
      simp only [Act.put, List.setIfInBounds_toArray, List.set_cons_zero, List.set_cons_succ]
      refine wpAnyH_take (i := 13) (oi := ⟨some 151, _, _, _, _, _⟩) (v := .bool true) rfl (by kernel_rfl) (by kernel_rfl) (by kernel_rfl) (fun _ _ _ h => h) (Or.inl ⟨by rfl, ?_⟩) (by assumption) ?_
      · intro w hSw; (try dsimp only at hSw); go_simp
      simp only [Act.put, List.setIfInBounds_toArray, List.set_cons_zero, List.set_cons_succ]
      refine wpAnyH_take (i := 14) (oi := ⟨some 152, _, _, _, _, _⟩) (v := .bool true) rfl (by kernel_rfl) (by kernel_rfl) (by kernel_rfl) (fun _ _ _ h => h) (Or.inl ⟨by rfl, ?_⟩) (by assumption) ?_
      · intro w hSw; (try dsimp only at hSw); go_simp
      simp only [Act.put, List.setIfInBounds_toArray, List.set_cons_zero, List.set_cons_succ]
      refine wpAnyH_take (i := 15) (oi := ⟨some 153, _, _, _, _, _⟩) (v := .bool true) rfl (by kernel_rfl) (by kernel_rfl) (by kernel_rfl) (fun _ _ _ h => h) (Or.inl ⟨by rfl, ?_⟩) (by assumption) ?_
      · intro w hSw; (try dsimp only at hSw); go_simp
      simp only [Act.put, List.setIfInBounds_toArray, List.set_cons_zero, List.set_cons_succ]
      refine wpAnyH_take (i := 16) (oi := ⟨some 154, _, _, _, _, _⟩) (v := .bool true) rfl (by kernel_rfl) (by kernel_rfl) (by kernel_rfl) (fun _ _ _ h => h) (Or.inl ⟨by rfl, ?_⟩) (by assumption) ?_
      · intro w hSw; (try dsimp only at hSw); go_simp
      simp only [Act.put, List.setIfInBounds_toArray, List.set_cons_zero, List.set_cons_succ]
      refine wpAnyH_take (i := 17) (oi := ⟨some 155, _, _, _, _, _⟩) (v := .bool true) rfl (by kernel_rfl) (by kernel_rfl) (by kernel_rfl) (fun _ _ _ h => h) (Or.inl ⟨by rfl, ?_⟩) (by assumption) ?_
      · intro w hSw; (try dsimp only at hSw); go_simp
      simp only [Act.put, List.setIfInBounds_toArray, List.set_cons_zero, List.set_cons_succ]
      refine wpAnyH_take (i := 18) (oi := ⟨some 156, _, _, _, _, _⟩) (v := .bool true) rfl (by kernel_rfl) (by kernel_rfl) (by kernel_rfl) (fun _ _ _ h => h) (Or.inl ⟨by rfl, ?_⟩) (by assumption) ?_
      · intro w hSw; (try dsimp only at hSw); go_simp
      simp only [Act.put, List.setIfInBounds_toArray, List.set_cons_zero, List.set_cons_succ]
      refine wpAnyH_take (i := 19) (oi := ⟨some 157, _, _, _, _, _⟩) (v := .bool true) rfl (by kernel_rfl) (by kernel_rfl) (by kernel_rfl) (fun _ _ _ h => h) (Or.inl ⟨by rfl, ?_⟩) (by assumption) ?_
      · intro w hSw; (try dsimp only at hSw); go_simp
      simp only [Act.put, List.setIfInBounds_toArray, List.set_cons_zero, List.set_cons_succ]
      refine wpAnyH_take (i := 20) (oi := ⟨some 158, _, _, _, _, _⟩) (v := .int .i64 1) rfl (by kernel_rfl) (by kernel_rfl) (by kernel_rfl) (fun _ _ _ h => h) (Or.inl ⟨by rfl, ?_⟩) (by assumption) ?_
      · intro w hSw; (try dsimp only at hSw); go_simp
      simp only [Act.put, List.setIfInBounds_toArray, List.set_cons_zero, List.set_cons_succ]
      refine wpAnyH_take (i := 21) (oi := ⟨some 159, _, _, _, _, _⟩) (v := .bool true) rfl (by kernel_rfl) (by kernel_rfl) (by kernel_rfl) (fun _ _ _ h => h) (Or.inl ⟨by rfl, ?_⟩) (by assumption) ?_
      · intro w hSw; (try dsimp only at hSw); go_simp
      simp only [Act.put, List.setIfInBounds_toArray, List.set_cons_zero, List.set_cons_succ]
      refine wpAnyH_take (i := 22) (oi := ⟨some 160, _, _, _, _, _⟩) (v := .bool true) rfl (by kernel_rfl) (by kernel_rfl) (by kernel_rfl) (fun _ _ _ h => h) (Or.inl ⟨by rfl, ?_⟩) (by assumption) ?_
      · intro w hSw; (try dsimp only at hSw); go_simp
      simp only [Act.put, List.setIfInBounds_toArray, List.set_cons_zero, List.set_cons_succ]
      refine wpAnyH_take (i := 23) (oi := ⟨some 161, _, _, _, _, _⟩) (v := .bool true) rfl (by kernel_rfl) (by kernel_rfl) (by kernel_rfl) (fun _ _ _ h => h) (Or.inl ⟨by rfl, ?_⟩) (by assumption) ?_
      · intro w hSw; (try dsimp only at hSw); go_simp
      simp only [Act.put, List.setIfInBounds_toArray, List.set_cons_zero, List.set_cons_succ]
      refine wpAnyH_take (i := 24) (oi := ⟨some 162, _, _, _, _, _⟩) (v := .int .i64 6) rfl (by kernel_rfl) (by kernel_rfl) (by kernel_rfl) (fun _ _ _ h => h) (Or.inl ⟨by rfl, ?_⟩) (by assumption) ?_
      · intro w hSw; (try dsimp only at hSw); go_simp
      simp only [Act.put, List.setIfInBounds_toArray, List.set_cons_zero, List.set_cons_succ]
      refine wpAnyH_take (i := 25) (oi := ⟨some 163, _, _, _, _, _⟩) (v := .bool true) rfl (by kernel_rfl) (by kernel_rfl) (by kernel_rfl) (fun _ _ _ h => h) (Or.inl ⟨by rfl, ?_⟩) (by assumption) ?_
      · intro w hSw; (try dsimp only at hSw); go_simp
      simp only [Act.put, List.setIfInBounds_toArray, List.set_cons_zero, List.set_cons_succ]
      refine wpAnyH_take (i := 26) (oi := ⟨some 164, _, _, _, _, _⟩) (v := .bool true) rfl (by kernel_rfl) (by kernel_rfl) (by kernel_rfl) (fun _ _ _ h => h) (Or.inl ⟨by rfl, ?_⟩) (by assumption) ?_
      · intro w hSw; (try dsimp only at hSw); go_simp
      simp only [Act.put, List.setIfInBounds_toArray, List.set_cons_zero, List.set_cons_succ]
      refine wpAnyH_take (i := 27) (oi := ⟨some 165, _, _, _, _, _⟩) (v := .bool true) rfl (by kernel_rfl) (by kernel_rfl) (by kernel_rfl) (fun _ _ _ h => h) (Or.inl ⟨by rfl, ?_⟩) (by assumption) ?_
      · intro w hSw; (try dsimp only at hSw); go_simp
      simp only [Act.put, List.setIfInBounds_toArray, List.set_cons_zero, List.set_cons_succ]
      refine wpAnyH_take (i := 28) (oi := ⟨some 166, _, _, _, _, _⟩) (v := .int .i64 0) rfl (by kernel_rfl) (by kernel_rfl) (by kernel_rfl) (fun _ _ _ h => h) (Or.inl ⟨by rfl, ?_⟩) (by assumption) ?_
      · intro w hSw; (try dsimp only at hSw); go_simp
      simp only [Act.put, List.setIfInBounds_toArray, List.set_cons_zero, List.set_cons_succ]
      refine wpAnyH_take (i := 29) (oi := ⟨some 167, _, _, _, _, _⟩) (v := .bool true) rfl (by kernel_rfl) (by kernel_rfl) (by kernel_rfl) (fun _ _ _ h => h) (Or.inl ⟨by rfl, ?_⟩) (by assumption) ?_
      · intro w hSw; (try dsimp only at hSw); go_simp
      simp only [Act.put, List.setIfInBounds_toArray, List.set_cons_zero, List.set_cons_succ]
      refine wpAnyH_take (i := 30) (oi := ⟨some 168, _, _, _, _, _⟩) (v := .bool true) rfl (by kernel_rfl) (by kernel_rfl) (by kernel_rfl) (fun _ _ _ h => h) (Or.inl ⟨by rfl, ?_⟩) (by assumption) ?_
      · intro w hSw; (try dsimp only at hSw); go_simp
      simp only [Act.put, List.setIfInBounds_toArray, List.set_cons_zero, List.set_cons_succ]
      refine wpAnyH_take (i := 31) (oi := ⟨some 169, _, _, _, _, _⟩) (v := .bool true) rfl (by kernel_rfl) (by kernel_rfl) (by kernel_rfl) (fun _ _ _ h => h) (Or.inl ⟨by rfl, ?_⟩) (by assumption) ?_
      · intro w hSw; (try dsimp only at hSw); go_simp
      simp only [Act.put, List.setIfInBounds_toArray, List.set_cons_zero, List.set_cons_succ]
      refine wpAnyH_take (i := 32) (oi := ⟨some 170, _, _, _, _, _⟩) (v := .pointer (some ⟨r, 0, none⟩)) rfl (by kernel_rfl) (by kernel_rfl) (by kernel_rfl) (fun _ _ _ h => h) (Or.inl ⟨by rfl, ?_⟩) (by assumption) ?_
      · intro w hSw; (try dsimp only at hSw); go_simp
      simp only [Act.put, List.setIfInBounds_toArray, List.set_cons_zero, List.set_cons_succ]
      refine wpAnyH_ready (rs := [33]) (by kernel_rfl) (by simp) ?_
      refine (AllReadyH.cons (o := ⟨some 171, _, _, _, _, _⟩) rfl (fun K hK => ?_) AllReadyH.nil)
      go_simp
      refine ((ALLC.out _ _ HDO.out)).mono ?_
      rintro e wh ⟨Ah, ch, rfl, kh⟩
      have Oh := Lib.hid (HDO.out.step kh)
      have Hh := Lib.hid ((kh.block _ (Sm.lt_of HD1.out)).trans HD1.out)
      have Jh := Lib.hid ((kh.block _ (Sm.lt_of HD2.out)).trans HD2.out)
      clear kh
      refine hK.out _ _ ⟨Sm.range_row Hh.out, Sm.range_row Jh.out⟩ (fun hHeld => ?_)
      clear hK K
      refine wpAnyH_take (i := 34) (oi := ⟨some 172, _, _, _, _, _⟩) (v := .int .i64 48) rfl (by kernel_rfl) (by kernel_rfl) (by kernel_rfl) (fun _ _ _ h => h) (Or.inl ⟨by rfl, ?_⟩) (by assumption) ?_
      · intro w hSw; (try dsimp only at hSw); go_simp
      simp only [Act.put, List.setIfInBounds_toArray, List.set_cons_zero, List.set_cons_succ]
      refine wpAnyH_take (i := 35) (oi := ⟨some 173, _, _, _, _, _⟩) (v := .bool true) rfl (by kernel_rfl) (by kernel_rfl) (by kernel_rfl) (fun _ _ _ h => h) (Or.inl ⟨by rfl, ?_⟩) (by assumption) ?_
      · intro w hSw; (try dsimp only at hSw); go_simp
      simp only [Act.put, List.setIfInBounds_toArray, List.set_cons_zero, List.set_cons_succ]
      refine wpAnyH_take (i := 36) (oi := ⟨some 174, _, _, _, _, _⟩) (v := .bool true) rfl (by kernel_rfl) (by kernel_rfl) (by kernel_rfl) (fun _ _ _ h => h) (Or.inl ⟨by rfl, ?_⟩) (by assumption) ?_
      · intro w hSw; (try dsimp only at hSw); go_simp
      simp only [Act.put, List.setIfInBounds_toArray, List.set_cons_zero, List.set_cons_succ]
      refine wpAnyH_take (i := 37) (oi := ⟨some 175, _, _, _, _, _⟩) (v := .bool true) rfl (by kernel_rfl) (by kernel_rfl) (by kernel_rfl) (fun _ _ _ h => h) (Or.inl ⟨by rfl, ?_⟩) (by assumption) ?_
      · intro w hSw; (try dsimp only at hSw); go_simp
      simp only [Act.put, List.setIfInBounds_toArray, List.set_cons_zero, List.set_cons_succ]
      refine wpAnyH_take (i := 38) (oi := ⟨some 176, _, _, _, _, _⟩) (v := .agg (Lib.byteCells E0).toArray) rfl (by kernel_rfl) (by kernel_rfl) (by kernel_rfl) (fun _ _ _ h => h) (yieldsIf_load_mid (by rfl) _ _ rfl _ _ rfl (Lib.byteCells E0) _ (fun w hS => hS.1) Tryd.underlying23 rfl (Sm.infoHash (Tr.size32 HL0.out))) (by assumption) ?_
      simp only [Act.put, List.setIfInBounds_toArray, List.set_cons_zero, List.set_cons_succ]
      refine wpAnyH_take (i := 39) (oi := ⟨some 177, _, _, _, _, _⟩) (v := .agg (Lib.byteCells E4).toArray) rfl (by kernel_rfl) (by kernel_rfl) (by kernel_rfl) (fun _ _ _ h => h) (yieldsIf_load_mid (by rfl) _ _ rfl _ _ rfl (Lib.byteCells E4) _ (fun w hS => hS.2) Tryd.underlying23 rfl (Sm.infoHash (Tr.size32 HL4.out))) (by assumption) ?_
      simp only [Act.put, List.setIfInBounds_toArray, List.set_cons_zero, List.set_cons_succ]
      refine wpAnyH_take (i := 41) (oi := ⟨some 179, _, _, _, _, _⟩) (v := .agg (Lib.byteCells E4).toArray) rfl (by kernel_rfl) (by kernel_rfl) (by kernel_rfl) (fun _ _ _ h => h) (yieldsIf_load_mid (by rfl) _ _ rfl _ _ rfl (Lib.byteCells E4) _ (fun w hS => hS.2) Tryd.underlying23 rfl (Sm.infoHash (Tr.size32 HL4.out))) (by assumption) ?_
      simp only [Act.put, List.setIfInBounds_toArray, List.set_cons_zero, List.set_cons_succ]
      refine wpAnyH_take (i := 42) (oi := ⟨some 180, _, _, _, _, _⟩) (v := .agg (Lib.byteCells E0).toArray) rfl (by kernel_rfl) (by kernel_rfl) (by kernel_rfl) (fun _ _ _ h => h) (yieldsIf_load_mid (by rfl) _ _ rfl _ _ rfl (Lib.byteCells E0) _ (fun w hS => hS.1) Tryd.underlying23 rfl (Sm.infoHash (Tr.size32 HL0.out))) (by assumption) ?_
      simp only [Act.put, List.setIfInBounds_toArray, List.set_cons_zero, List.set_cons_succ]
      refine wpAnyH_ready (rs := [40]) (by kernel_rfl) (by simp) ?_
      refine (AllReadyH.cons (o := ⟨some 178, _, _, _, _, _⟩) rfl (fun K hK => ?_) AllReadyH.nil)
      go_simp
      refine ((IN1.out _ Oh.out.bel)).mono ?_
      rintro e wi ⟨rfl, ki⟩
      have Oi := Lib.hid (Oh.out.step ki)
      have Hi := Lib.hid ((ki.block _ (Sm.lt_of Hh.out)).trans Hh.out)
      have Ji := Lib.hid ((ki.block _ (Sm.lt_of Jh.out)).trans Jh.out)
      clear ki
      refine hK.out _ _ ⟨Sm.range_row Hi.out, Sm.range_row Ji.out⟩ (fun hHeld => ?_)
      clear hK K
      refine wpAnyH_ready (rs := [43]) (by kernel_rfl) (by simp) ?_
      refine (AllReadyH.cons (o := ⟨some 181, _, _, _, _, _⟩) rfl (fun K hK => ?_) AllReadyH.nil)
      go_simp
      refine ((IN2.out _ Oi.out.bel)).mono ?_
      rintro e wj ⟨rfl, kj⟩
      have Oj := Lib.hid (Oi.out.step kj)
      have Hj := Lib.hid ((kj.block _ (Sm.lt_of Hi.out)).trans Hi.out)
      have Jj := Lib.hid ((kj.block _ (Sm.lt_of Ji.out)).trans Ji.out)
      clear kj
      refine hK.out _ _ ⟨Sm.range_row Hj.out, Sm.range_row Jj.out⟩ (fun hHeld => ?_)
      clear hK K
      refine wpAnyH_take (i := 44) (oi := ⟨some 182, _, _, _, _, _⟩) (v := .bool (!(AB == BA))) rfl (by kernel_rfl) (by kernel_rfl) (by kernel_rfl) (fun _ _ _ h => h) (Tr.yields_hne (by rfl) _ _ _ rfl AB BA HLA.out HLB.out rfl rfl) (by assumption) ?_
      simp only [Act.put, List.setIfInBounds_toArray, List.set_cons_zero, List.set_cons_succ]
      rw [HEX.out]
      refine wpAnyH_take (i := 45) (oi := ⟨some 183, _, _, _, _, _⟩) (v := .bool true) rfl (by kernel_rfl) (by kernel_rfl) (by kernel_rfl) (fun _ _ _ h => h) (Or.inl ⟨by rfl, ?_⟩) (by assumption) ?_
      · intro w hSw; (try dsimp only at hSw); go_simp
      simp only [Act.put, List.setIfInBounds_toArray, List.set_cons_zero, List.set_cons_succ]
      refine wpAnyH_take (i := 46) (oi := ⟨some 184, _, _, _, _, _⟩) (v := .bool true) rfl (by kernel_rfl) (by kernel_rfl) (by kernel_rfl) (fun _ _ _ h => h) (Or.inl ⟨by rfl, ?_⟩) (by assumption) ?_
      · intro w hSw; (try dsimp only at hSw); go_simp
      simp only [Act.put, List.setIfInBounds_toArray, List.set_cons_zero, List.set_cons_succ]
      refine wpAnyH_ready (rs := [47]) (by kernel_rfl) (by simp) ?_
      refine (AllReadyH.cons (o := ⟨some 185, _, _, _, _, _⟩) rfl (fun K hK => ?_) AllReadyH.nil)
      go_simp
      refine ((AW.out _ Oj.out.bel)).mono ?_
      rintro e wk ⟨rfl, kk⟩
      have Ok := Lib.hid (Oj.out.step kk)
      have Hk := Lib.hid ((kk.block _ (Sm.lt_of Hj.out)).trans Hj.out)
      have Jk := Lib.hid ((kk.block _ (Sm.lt_of Jj.out)).trans Jj.out)
      clear kk
      refine hK.out _ _ ⟨Sm.range_row Hk.out, Sm.range_row Jk.out⟩ (fun hHeld => ?_)
      clear hK K
      refine wpAnyH_take (i := 48) (oi := ⟨some 186, _, _, _, _, _⟩) (v := .bool true) rfl (by kernel_rfl) (by kernel_rfl) (by kernel_rfl) (fun _ _ _ h => h) (Or.inl ⟨by rfl, ?_⟩) (by assumption) ?_
      · intro w hSw; (try dsimp only at hSw); go_simp
      simp only [Act.put, List.setIfInBounds_toArray, List.set_cons_zero, List.set_cons_succ]
      refine wpAnyH_take (i := 49) (oi := ⟨some 0, _, _, _, _, _⟩) (v := .bool true) rfl (by kernel_rfl) (by kernel_rfl) (by kernel_rfl) (fun _ _ _ h => h) (Or.inl ⟨by rfl, ?_⟩) (by assumption) ?_
      · intro w hSw; (try dsimp only at hSw); go_simp
      simp only [Act.put, List.setIfInBounds_toArray, List.set_cons_zero]
      refine wpAnyH_done (by kernel_rfl) ?_ _
      go_wp2
      go_ret
      exact ⟨rfl, Ok.out.bel⟩
end Go.Proofs.YtkoipingokglpaaDoor
