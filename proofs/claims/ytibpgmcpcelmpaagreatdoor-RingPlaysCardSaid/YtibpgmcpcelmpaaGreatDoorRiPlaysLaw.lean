/-
  RingPlays: what a ring wraps, opens and counts, rotated between, is the document's.
-/
import Derived.Test.YtibpgmcpcelmpaaGreatDoorR6Ring
import Derived.Test.YtibpgmcpcelmpaaGreatDoorRiCountsLaw
import Derived.Test.YtibpgmcpcelmpaaGreatDoorRiLastsLaw
namespace Go.Proofs.YtibpgmcpcelmpaaGreatDoor
open Go.RowKit
namespace Ri
/-- A ring, the document's beside it in block P, and what was wrapped so far. -/
structure Pl (N : Nat) (w0 w : World) (r m P : Nat) (M : ByteArray) (boot n : Nat) (cur : Int) (nd : Nat) (cd : Int) (A1 : Option Addr) (c1 k1 : Nat) (xs : List ByteArray) : Prop where
  ring : RingAt w r m M boot n cur
  doc : w.heap[P]? = some (.cells #[.string M, .int .i64 cd, .int .u32 (boot : Int), .int .u64 (nd : Int)] 32 (0, 0))
  made : w.ownsRow N 9 1 (.slice A1 k1 c1) k1 (xs.map Value.string)
  len : xs.length = k1
  small : ∀ x ∈ xs, x.size ≤ 9000
  below : Below N w0 w
  base : N = w0.heap.size
  high : N ≤ r ∧ N ≤ m ∧ N ≤ P
theorem doc_types : 32 ≠ 62 ∧ 32 ≠ 102 ∧ 32 ≠ 9 ∧ 35 ≠ 62 := by decide
theorem set4_other (w : World) (N : Nat) (a b c d : Value) (i : Nat) (h : i ≠ N) :
    ((((w.setCell ⟨N, 0, none⟩ a).setCell ⟨N, 1, none⟩ b).setCell ⟨N, 2, none⟩ c).setCell ⟨N, 3, none⟩ d).heap[i]? = w.heap[i]? := by
  rw [Below.heap_setCell _ _ _ _ h, Below.heap_setCell _ _ _ _ h, Below.heap_setCell _ _ _ _ h, Below.heap_setCell _ _ _ _ h]
section
variable {N : Nat} {w0 w w' : World} {r m P : Nat} {M : ByteArray} {boot n : Nat} {cur : Int} {nd : Nat} {cd : Int} {A1 : Option Addr} {c1 k1 : Nat} {xs : List ByteArray}
theorem Pl.size (h : Pl N w0 w r m P M boot n cur nd cd A1 c1 k1 xs) : N ≤ w.heap.size := by rw [h.base]; exact h.below.size
theorem Pl.low (h : Pl N w0 w r m P M boot n cur nd cd A1 c1 k1 xs) (k : Below w.heap.size w w') : Pl N w0 w' r m P M boot n cur nd cd A1 c1 k1 xs :=
  ⟨h.ring.below k (Nat.le_refl _), (k.block P (Sm.lt_of h.doc)).trans h.doc, own_below h.made k, h.len, h.small, h.below.trans (k.mono h.size), h.base, h.high⟩
theorem Pl.turn (h : Pl N w0 w r m P M boot n cur nd cd A1 c1 k1 xs) {n2 : Nat} {cur2 : Int} (t : Turned w w' r m) (ra : RingAt w' r m M boot n2 cur2) : Pl N w0 w' r m P M boot n2 cur2 nd cd A1 c1 k1 xs :=
  ⟨ra, t.cells h.ring h.doc doc_types.1, own_turned h.ring t h.made row_types.1, h.len, h.small, h.below.trans (t.below h.high.1 h.high.2.1 h.size), h.base, h.high⟩
theorem Pl.drewN (h : Pl N w0 w r m P M boot n cur nd cd A1 c1 k1 xs) (k : Nat) : Pl N w0 (w.drewN k) r m P M boot n cur nd cd A1 c1 k1 xs :=
  ⟨h.ring.drewN k, h.doc, own_drewN h.made k, h.len, h.small, below_drewN h.below k, h.base, h.high⟩
theorem Pl.set (h : Pl N w0 w r m P M boot n cur nd cd A1 c1 k1 xs) (n2 : Nat) (cd2 : Int) : Pl N w0 ((((w.setCell ⟨P, 0, none⟩ (.string M)).setCell ⟨P, 1, none⟩ (.int .i64 cd2)).setCell ⟨P, 2, none⟩ (.int .u32 (boot : Int))).setCell ⟨P, 3, none⟩ (.int .u64 (n2 : Int))) r m P M boot n cur n2 cd2 A1 c1 k1 xs :=
  ⟨h.ring.setCells h.doc doc_types.1 doc_types.2.1 0 [.string M, .int .i64 cd2, .int .u32 (boot : Int), .int .u64 (n2 : Int)], set4 h.doc rfl _ _ _ _, own_keep h.made fun _ _ _ hi => set4_other _ _ _ _ _ _ _ (ne_type hi h.doc doc_types.2.2.1.symm), h.len, h.small, set4_below h.below h.high.2.2 _ _ _ _, h.base, h.high⟩
theorem Pl.push (h : Pl N w0 w r m P M boot n cur nd cd A1 c1 k1 xs) {A2 : Option Addr} {c2 : Nat} {b : ByteArray} (ho : w'.ownsRow N 9 1 (.slice A2 (k1 + 1) c2) (k1 + 1) (xs.map Value.string ++ [.string b])) (g : w.grownBy w' (Value.slice A1 k1 c1).ownBlock) (hb : b.size ≤ 9000) : Pl N w0 w' r m P M boot n cur nd cd A2 c2 (k1 + 1) (xs ++ [b]) :=
  ⟨h.ring.grown h.made g row_types.1 row_types.2.1, (g.block P (Sm.lt_of h.doc) (own_ne_cells h.made h.doc doc_types.2.2.1)).trans h.doc, by rw [List.map_append]; exact ho, by rw [List.length_append, h.len]; rfl, fun x hx => by
    rcases List.mem_append.1 hx with e | e
    · exact h.small x e
    · rw [List.mem_singleton.1 e]; exact hb, Below.grown h.below g h.size (fun j hj => (h.made.lt _ hj).1), h.base, h.high⟩
end
end Ri

set_option maxRecDepth 100000 in
set_option maxHeartbeats 8000000 in
theorem ringPlays_some {w : World} (hH : Sm.HAt w) (hK : Sm.KAt w) (hsz : 1 < w.heap.size) (s : ByteArray) (hs : s.size ≤ 300) (cur0 : Int) (hcc : 0 ≤ cur0 ∧ cur0 ≤ 1048576) (boot : Nat) (hb : boot < 2 ^ 32) (A : Option Addr) (c : Nat) (l : List Ri.Ac) (hok : ∀ a ∈ l, a.Ok) (hit : Ri.listAt w A l) (hF : Ri.Fair l) :
    Calls Tryz.prog 3 #[.string s, .int .i64 cur0, .int .u32 boot, .slice A l.length c] w fun e w' => e = .returned (.bool true) ∧ Below w.heap.size w w' := by
  obtain ⟨i0, hi, hz0, hz1, hz2⟩ := info_parts Ri.info_string
  have AW := Lib.hid (awake6_any hH hK hsz)
  have HH := Lib.hid hH
  have HK := Lib.hid hK
  have HIT : Hid (∀ wx : World, Below w.heap.size w wx → ∀ j (hj : j < l.length), ∃ b off, A = some ⟨b, off, none⟩ ∧ b < w.heap.size ∧ Ri.actAt wx b (off + j * 5) l[j]) := fun wx k j hj => hit.get k j hj
  have GR : Hid (∀ wx : World, Below w.heap.size w wx → Calls Tryz.prog 5 #[.slice A l.length c] wx fun e w' => e = .returned (.bool false) ∧ wx = w') := fun wx k => great6_any wx A c l (by have := hF.1; omega) hok (hit.below k) false (by simp [hF])
  have HOK := Lib.hid hok
  obtain ⟨N, hN⟩ : ∃ N, N = w.heap.size := ⟨_, rfl⟩
  have hN1 : 1 < N := by omega
  rw [← hN] at AW HIT GR ⊢
  have HN := Lib.hid hN
  have hlen := hF.1
  have HSM := Lib.hid hF.2
  have NW : Hid (∀ wx : World, Calls Tryz.prog 6 #[.string s, .int .i64 cur0, .int .u32 boot] wx (Ri.NewPost wx s boot cur0)) := fun wx => rgNew_any wx s (by omega) boot cur0 hcc
  have CU : Hid (∀ (wx : World) (r m n : Nat) (cur : Int), Ri.RingAt wx r m s boot n cur → Calls Tryz.prog 14 #[.pointer (some ⟨r, 0, none⟩)] wx fun e w' => e = .returned (.int .i64 cur) ∧ wx = w') := fun wx r m n cur h => rgCurrent_any h
  have CO : Hid (∀ (wx : World) (r m n : Nat) (cur : Int), Ri.RingAt wx r m s boot n cur → Calls Tryz.prog 13 #[.pointer (some ⟨r, 0, none⟩)] wx fun e w' => e = .returned (.tuple #[.int .u32 boot, .int .u64 n]) ∧ ∃ k, w' = wx.drewN k) := fun wx r m n cur h => rgCount_any h
  have g1 : ¬ (300 : Int) < s.size := by omega
  have g2 : ¬ cur0 < 0 := by omega
  have g3 : ¬ (1048576 : Int) < cur0 := by omega
  clear hN hH hK hsz hok hit hF
  go_enter Tryz.func3, Tryz.ntmps3
  go_wp2_with fail
  refine (AW.out).mono ?_
  rintro e w1 ⟨rfl, b1⟩
  have B1 := Lib.hid b1
  have s1 := b1.size
  clear b1 AW
  go_wp2_with fail
  refine (GR.out _ B1.out).mono ?_
  rintro e w1b ⟨rfl, rfl⟩
  go_wp2_with fail
  refine (NW.out _).mono ?_
  rintro e w2 ⟨r, m, rfl, ra2, hr, hm, b2⟩
  have RA2 := Lib.hid ra2
  have B2 := Lib.hid (B1.out.trans (b2.mono (by have := HN.out; omega)))
  have hNr : N ≤ r := by have := HN.out; omega
  have hNm : N ≤ m := by have := HN.out; omega
  clear ra2 b2 NW B1 GR hr hm s1
  go_upto_region 11 with (fail)
  have k3 : Below w2.heap.size w2 (w2.alloc (.cells #[.string s, .int .i64 cur0, .int .u32 (boot : Int), .int .u64 (0 : Int)] 32)) := (Below.refl _ w2).alloc (Nat.le_refl _) _
  have hNP : N ≤ w2.heap.size := by rw [HN.out]; exact B2.out.size
  have p3 : Ri.Pl N w (w2.alloc (.cells #[.string s, .int .i64 cur0, .int .u32 (boot : Int), .int .u64 (0 : Int)] 32)) r m w2.heap.size s boot 0 cur0 0 cur0 none 0 0 [] :=
    ⟨RA2.out.alloc _, heap_alloc_new w2 _, World.ownsRow_nil _ _ _ _, rfl, by simp, B2.out.trans (k3.mono hNP), HN.out, ⟨hNr, hNm, hNP⟩⟩
  obtain ⟨P, hP⟩ : ∃ P, P = w2.heap.size := ⟨_, rfl⟩
  rw [← hP] at p3 ⊢
  have H0 := Lib.hid p3
  clear p3 hP hNP k3 RA2 B2 hNr hNm
  generalize w2.alloc (.cells #[.string s, .int .i64 cur0, .int .u32 (boot : Int), .int .u64 (0 : Int)] 32) = w3 at *
  go_wp2_with fail
  go_loopw [12, 13] (fun v i wr => ∃ (k k1 n : Nat) (cur : Int) (A1 : Option Addr) (c1 : Nat) (xs : List ByteArray), i = .int .i64 k ∧ k ≤ l.length ∧ v = .slice A1 k1 c1 ∧ k1 ≤ k ∧ n ≤ k ∧ 0 ≤ cur ∧ cur ≤ 1048576 ∧ Ri.Pl N w wr r m P s boot n cur n cur A1 c1 k1 xs) (fun _ i _ => l.length - (intOf i).toNat)
  case atStart => exact ⟨0, 0, 0, cur0, none, 0, [], rfl, Nat.zero_le _, rfl, Nat.le_refl _, Nat.le_refl _, hcc.1, hcc.2, H0.out⟩
  case round =>
    clear H0
    obtain ⟨k, k1, n, cur, A1, c1, xs, rfl, hk, rfl, hk1, hnk, hc0, hc1, pl⟩ := hrel
    have PL := Lib.hid pl
    clear pl
    have hk30 : k1 ≤ 30 := by omega
    have hn30 : n ≤ 30 := by omega
    by_cases hlt : k < l.length
    · have hlt1 : (k : Int) < l.length := by omega
      have hsuc : IntKind.i64.wrap ((k : Int) + 1) = ((k + 1 : Nat) : Int) := by simp [IntKind.wrap, IntKind.bits, IntKind.signed]; omega
      obtain ⟨b, off, rfl, hbN, x0, x1, x2, x3, x4⟩ := HIT.out _ PL.out.below k hlt
      obtain ⟨hsa, hst0, hsb⟩ := HSM.out k hlt
      have hxo := HOK.out _ (List.getElem_mem hlt)
      obtain ⟨x, hx⟩ : ∃ x, x = l[k] := ⟨_, rfl⟩
      rw [← hx] at x0 x1 x2 x3 x4 hsa hst0 hsb hxo
      have hxt := hxo.t
      have hxov := hxo.o
      clear hx hbN hxo
      go_upto_region 16 with (fail)
      have k4 : Below wr.heap.size wr (wr.alloc (.cells #[.int .i64 x.d, .string x.a, .string x.t, .string x.b, .int .i64 x.o] 35)) := (Below.refl _ wr).alloc (Nat.le_refl _) _
      have PL4 := Lib.hid (PL.out.low k4)
      have HX4 := Lib.hid (heap_alloc_new wr (.cells #[.int .i64 x.d, .string x.a, .string x.t, .string x.b, .int .i64 x.o] 35))
      obtain ⟨X, hX⟩ : ∃ X, X = wr.heap.size := ⟨_, rfl⟩
      rw [← hX] at HX4 ⊢
      clear hX k4 PL x0 x1 x2 x3 x4
      generalize wr.alloc (.cells #[.int .i64 x.d, .string x.a, .string x.t, .string x.b, .int .i64 x.o] 35) = w4 at *
      have y0 := Sm.cells_of HX4.out 0 _ rfl
      by_cases d0 : x.d = 0
      · have e0 : (x.d == 0) = true := by rw [d0]; rfl
        obtain ⟨bw, er, n', DW, WR, hbw, hn1⟩ : ∃ (bw : ByteArray) (er : Int) (n' : Nat), Hid (∀ wx : World, Calls Tryz.prog 7 #[.agg #[.string s, .int .i64 cur, .int .u32 (boot : Int), .int .u64 (n : Int)], .string x.a, .string x.t] wx fun e w' => e = .returned (.tuple #[.agg #[.string s, .int .i64 cur, .int .u32 (boot : Int), .int .u64 (n' : Int)], .string bw, .int .i64 er]) ∧ Below wx.heap.size wx w') ∧
            Hid (∀ wx : World, Sm.HAt wx → Sm.KAt wx → Ri.RingAt wx r m s boot n cur → Calls Tryz.prog 8 #[.pointer (some ⟨r, 0, none⟩), .string x.a, .string x.t] wx fun e w' => e = .returned (.tuple #[.string bw, .int .i64 er]) ∧ Ri.RingAt w' r m s boot n' cur ∧ Ri.Turned wx w' r m) ∧ bw.size ≤ 9000 ∧ n' ≤ n + 1 := by
          by_cases ht : x.t.size ≤ 8192
          · refine ⟨⟨(Ri.wrap s.data.toList cur boot n x.a.data.toList x.t.data.toList).1.toArray⟩, 0, n + 1, fun wx => r6Wrap_ok wx s (by omega) cur ⟨hc0, hc1⟩ boot n hb (by omega) x.a x.t (by omega) ht, fun wx h1 h2 h3 => rgWrap_any h1 h2 (by omega) h3 ⟨hc0, hc1⟩ hb (by omega) x.a x.t (by omega) ht, ?_, Nat.le_refl _⟩
            show (List.toArray _).size ≤ _
            rw [List.size_toArray]; exact Ri.wrap_length ⟨hc0, hc1⟩ hb (by omega)
          · exact ⟨⟨#[]⟩, 3, n, fun wx => r6Wrap_long wx s (by omega) cur ⟨hc0, hc1⟩ boot n hb (by omega) x.a x.t (by omega) (by omega) hxt, fun wx _ _ h3 => (rgWrap_long h3 x.a x.t (by omega)).mono fun e w' ⟨h1, h2⟩ => ⟨h1, h2 ▸ h3, h2 ▸ Ri.Turned.refl _ _ _⟩, by decide, Nat.le_succ _⟩
        clear d0 hst0 hsb hxov hxt
        have y1 := Sm.cells_of HX4.out 1 _ rfl
        have y2 := Sm.cells_of HX4.out 2 _ rfl
        have q0 := Sm.cells_of PL4.out.doc 0 _ rfl; have q1 := Sm.cells_of PL4.out.doc 1 _ rfl; have q2 := Sm.cells_of PL4.out.doc 2 _ rfl; have q3 := Sm.cells_of PL4.out.doc 3 _ rfl
        go_wp2_with fail
        refine (DW.out _).mono ?_
        rintro e w5 ⟨rfl, k5⟩
        have PL5 := Lib.hid (PL4.out.low k5)
        have HX5 := Lib.hid ((k5.block X (Sm.lt_of HX4.out)).trans HX4.out)
        clear k5 PL4 HX4 y0 y1 y2 q0 q1 q2 q3 DW
        go_upto_region 19 with (fail)
        have ka : Below w5.heap.size w5 (w5.alloc (.cells #[.string s, .int .i64 cur, .int .u32 (boot : Int), .int .u64 (n' : Int)] 32)) := (Below.refl _ w5).alloc (Nat.le_refl _) _
        have PL6 := Lib.hid (PL5.out.low ka)
        have HX6 := Lib.hid ((ka.block X (Sm.lt_of HX5.out)).trans HX5.out)
        have HQ6 := Lib.hid (heap_alloc_new w5 (.cells #[.string s, .int .i64 cur, .int .u32 (boot : Int), .int .u64 (n' : Int)] 32))
        obtain ⟨Q, hQ⟩ : ∃ Q, Q = w5.heap.size := ⟨_, rfl⟩
        rw [← hQ] at HQ6 ⊢
        clear hQ ka PL5 HX5
        generalize w5.alloc (.cells #[.string s, .int .i64 cur, .int .u32 (boot : Int), .int .u64 (n' : Int)] 32) = w6 at *
        have y1 := Sm.cells_of HX6.out 1 _ rfl
        have y2 := Sm.cells_of HX6.out 2 _ rfl
        go_wp2_with fail
        refine (WR.out _ (HH.out.low PL6.out.below (by omega)) (HK.out.low PL6.out.below hN1) PL6.out.ring).mono ?_
        rintro e w7 ⟨rfl, ra7, tu7⟩
        have PL7 := Lib.hid (PL6.out.turn tu7 ra7)
        have HQ7 := Lib.hid (tu7.cells PL6.out.ring HQ6.out Ri.doc_types.1)
        clear ra7 tu7 PL6 HQ6 HX6 y1 y2 WR
        go_upto_region 20 with (fail)
        have z0 := Sm.cells_of HQ7.out 0 _ rfl; have z1 := Sm.cells_of HQ7.out 1 _ rfl; have z2 := Sm.cells_of HQ7.out 2 _ rfl; have z3 := Sm.cells_of HQ7.out 3 _ rfl
        have q0 := Sm.cells_of PL7.out.doc 0 _ rfl; have q1 := Sm.cells_of PL7.out.doc 1 _ rfl; have q2 := Sm.cells_of PL7.out.doc 2 _ rfl; have q3 := Sm.cells_of PL7.out.doc 3 _ rfl
        have yf0 := Sm.free_of PL7.out.doc 0; have yf1 := Sm.free_of PL7.out.doc 1; have yf2 := Sm.free_of PL7.out.doc 2; have yf3 := Sm.free_of PL7.out.doc 3
        have PL8 := Lib.hid (PL7.out.set n' cur)
        clear PL7 HQ7
        go_upto_region 21 with (fail)
        clear z0 z1 z2 z3 q0 q1 q2 q3 yf0 yf1 yf2 yf3
        generalize (((((w7.setCell ⟨P, 0, none⟩ (.string s)).setCell ⟨P, 1, none⟩ (.int .i64 cur)).setCell ⟨P, 2, none⟩ (.int .u32 (boot : Int))).setCell ⟨P, 3, none⟩ (.int .u64 (n' : Int)))) = w8 at *
        have hNs := PL8.out.size
        go_wp2_with (at_builtin; refine wpList_append_own _ rfl _ _ 33 rfl N 9 i0 (.string ⟨#[]⟩) 1 16 Tryz.underlying33 hi hz0 hz1 hz2 rfl (by decide) _ _ _ rfl (PL8.out.made.alloc _) ⟨w8.heap.size, 0, none⟩ 1 1 [.string bw] rfl rfl (Ri.one_new _ _ _) (by intro u hu; simp at hu; subst hu; rfl) (by unfold maxLen; omega) (by omega) (by simp; omega) ?_
                     intro v' w9 hown' hgrow _
                     obtain ⟨A2, c2, rfl⟩ := Sm.own_shape hown')
        have PL9 := Lib.hid (Ri.Pl.push (PL8.out.low ((Below.refl _ w8).alloc (Nat.le_refl _) _)) hown' hgrow hbw)
        clear hown' hgrow PL8
        refine (CO.out _ r m n' cur PL9.out.ring).mono ?_
        rintro e wq ⟨rfl, kk, rfl⟩
        have PLa := Lib.hid (PL9.out.drewN kk)
        clear PL9
        generalize w9.drewN kk = wa at *
        have p1 := Sm.cells_of PLa.out.doc 1 _ rfl
        have p3 := Sm.cells_of PLa.out.doc 3 _ rfl
        have CUD : Hid (∀ j, Calls Tryz.prog 14 #[.pointer (some ⟨r, 0, none⟩)] (wa.drewN j) fun e w' => e = .returned (.int .i64 cur) ∧ wa.drewN j = w') := fun j => CU.out _ r m n' cur (PLa.out.ring.drewN j)
        go_upto_region 38 with (fail)
        go_quiet ((first
          | (go_at_call 14; with_reducible exact Sm.q_one (CUD.out _))
          | (go_at_call 14; with_reducible exact Sm.q_more (CUD.out _))))
        generalize hwb : wa.drewN _ = wb
        have PLb : Hid (Ri.Pl N w wb r m P s boot n' cur n' cur A2 c2 (k1 + 1) (xs ++ [bw])) := by
          show Ri.Pl _ _ _ _ _ _ _ _ _ _ _ _ _ _ _ _
          rw [← hwb]; exact PLa.out.drewN _
        clear hwb PLa p1 p3 CUD
        go_wp2_with fail
        go_roundw
        case rel => exact ⟨k + 1, (k1 + 1), n', cur, A2, c2, (xs ++ [bw]), rfl, hlt, rfl, by omega, by omega, hc0, hc1, PLb.out⟩
        case measure => simp [intOf]; omega
      · by_cases d1 : x.d = 1
        · have e0 : (x.d == 0) = false := by rw [beq_eq_false_iff_ne]; exact d0
          have e1 : (x.d == 1) = true := by rw [d1]; rfl
          clear d0 d1 hst0 hxt
          have y3 := Sm.cells_of HX4.out 3 _ rfl
          have y4 := Sm.cells_of HX4.out 4 _ rfl
          by_cases o0 : 0 < x.o
          · by_cases o1 : x.o ≤ (k1 : Int)
            · obtain ⟨j, hj⟩ : ∃ j : Nat, (k1 : Int) - x.o = (j : Int) := ⟨((k1 : Int) - x.o).toNat, by omega⟩
              have hjk : j < k1 := by omega
              have hjki : (j : Int) < (k1 : Int) := by omega
              have hsub : IntKind.i64.wrap ((k1 : Int) - x.o) = (j : Int) := by rw [IntWalk.i64_in _ (by omega)]; exact hj
              obtain ⟨gg, rfl, hcell⟩ := Ri.own_get PL4.out.made hjk
              rw [Nat.zero_add] at hcell
              obtain ⟨bb, hbb⟩ : ∃ bb, bb = xs.getD j ByteArray.empty := ⟨_, rfl⟩
              have hjl : j < xs.length := by rw [PL4.out.len]; exact hjk
              have hbe : (xs.map Value.string)[j]? = some (.string bb) := by rw [hbb, List.getElem?_map, List.getD_eq_getElem?_getD, List.getElem?_eq_getElem hjl]; rfl
              rw [hbe] at hcell
              have hbs : bb.size ≤ 9000 := by
                rw [hbb, List.getD_eq_getElem?_getD, List.getElem?_eq_getElem hjl]
                exact PL4.out.small _ (List.getElem_mem hjl)
              clear hbe hbb hjl hj
              obtain ⟨os, oe, OP, DO⟩ : ∃ (os : ByteArray) (oe : Int), Hid (∀ wx : World, Sm.HAt wx → Sm.KAt wx → Ri.RingAt wx r m s boot n cur → Calls Tryz.prog 9 #[.pointer (some ⟨r, 0, none⟩), .string bb, .string x.a] wx fun e w' => e = .returned (.tuple #[.string os, .int .i64 oe]) ∧ Ri.RingAt w' r m s boot n cur ∧ Ri.Turned wx w' r m) ∧
                  Hid (∀ wx : World, Calls Tryz.prog 10 #[.agg #[.string s, .int .i64 cur, .int .u32 (boot : Int), .int .u64 (n : Int)], .string bb, .string x.a] wx fun e w' => e = .returned (.tuple #[.string os, .int .i64 oe]) ∧ Below wx.heap.size wx w') :=
                ⟨⟨(Ri.opens s.data.toList cur bb x.a.data.toList).1.toArray⟩, ((Ri.opens s.data.toList cur bb x.a.data.toList).2 : Nat), fun wx h1 h2 h3 => rgOpen_any h1 h2 (by omega) h3 bb x.a (by omega) (by omega), fun wx => r6Open_any wx s (by omega) cur boot n bb x.a (by omega) (by omega)⟩
              go_upto_region 28 with (fail)
              clear y0 y3 y4 hcell hsub hjki hjk
              have y1 := Sm.cells_of HX4.out 1 _ rfl
              go_wp2_with fail
              refine (OP.out _ (HH.out.low PL4.out.below (by omega)) (HK.out.low PL4.out.below hN1) PL4.out.ring).mono ?_
              rintro e w5 ⟨rfl, ra5, tu5⟩
              have PL5 := Lib.hid (PL4.out.turn tu5 ra5)
              have HX5 := Lib.hid (tu5.cells PL4.out.ring HX4.out Ri.doc_types.2.2.2)
              clear ra5 tu5 PL4 HX4 y1 OP
              have y1 := Sm.cells_of HX5.out 1 _ rfl
              have q0 := Sm.cells_of PL5.out.doc 0 _ rfl; have q1 := Sm.cells_of PL5.out.doc 1 _ rfl; have q2 := Sm.cells_of PL5.out.doc 2 _ rfl; have q3 := Sm.cells_of PL5.out.doc 3 _ rfl
              go_wp2_with fail
              refine (DO.out _).mono ?_
              rintro e w6 ⟨rfl, k6⟩
              have PL6 := Lib.hid (PL5.out.low k6)
              clear k6 PL5 HX5 y1 q0 q1 q2 q3 DO
              go_wp2_with fail
              refine (CO.out _ r m n cur PL6.out.ring).mono ?_
              rintro e wq ⟨rfl, kk, rfl⟩
              have PLa := Lib.hid (PL6.out.drewN kk)
              clear PL6
              generalize w6.drewN kk = wa at *
              have p1 := Sm.cells_of PLa.out.doc 1 _ rfl
              have p3 := Sm.cells_of PLa.out.doc 3 _ rfl
              have CUD : Hid (∀ j, Calls Tryz.prog 14 #[.pointer (some ⟨r, 0, none⟩)] (wa.drewN j) fun e w' => e = .returned (.int .i64 cur) ∧ wa.drewN j = w') := fun j => CU.out _ r m n cur (PLa.out.ring.drewN j)
              go_upto_region 38 with (fail)
              go_quiet ((first
                | (go_at_call 14; with_reducible exact Sm.q_one (CUD.out _))
                | (go_at_call 14; with_reducible exact Sm.q_more (CUD.out _))))
              generalize hwb : wa.drewN _ = wb
              have PLb : Hid (Ri.Pl N w wb r m P s boot n cur n cur (some ⟨gg, 0, none⟩) c1 k1 xs) := by
                show Ri.Pl _ _ _ _ _ _ _ _ _ _ _ _ _ _ _ _
                rw [← hwb]; exact PLa.out.drewN _
              clear hwb PLa p1 p3 CUD
              go_wp2_with fail
              go_roundw
              case rel => exact ⟨k + 1, k1, n, cur, some ⟨gg, 0, none⟩, c1, xs, rfl, hlt, rfl, by omega, by omega, hc0, hc1, PLb.out⟩
              case measure => simp [intOf]; omega
            · have o1' : ¬ x.o ≤ (k1 : Int) := o1
              obtain ⟨os, oe, OP, DO⟩ : ∃ (os : ByteArray) (oe : Int), Hid (∀ wx : World, Sm.HAt wx → Sm.KAt wx → Ri.RingAt wx r m s boot n cur → Calls Tryz.prog 9 #[.pointer (some ⟨r, 0, none⟩), .string x.b, .string x.a] wx fun e w' => e = .returned (.tuple #[.string os, .int .i64 oe]) ∧ Ri.RingAt w' r m s boot n cur ∧ Ri.Turned wx w' r m) ∧
                  Hid (∀ wx : World, Calls Tryz.prog 10 #[.agg #[.string s, .int .i64 cur, .int .u32 (boot : Int), .int .u64 (n : Int)], .string x.b, .string x.a] wx fun e w' => e = .returned (.tuple #[.string os, .int .i64 oe]) ∧ Below wx.heap.size wx w') :=
                ⟨⟨(Ri.opens s.data.toList cur x.b x.a.data.toList).1.toArray⟩, ((Ri.opens s.data.toList cur x.b x.a.data.toList).2 : Nat), fun wx h1 h2 h3 => rgOpen_any h1 h2 (by omega) h3 x.b x.a (by omega) (by omega), fun wx => r6Open_any wx s (by omega) cur boot n x.b x.a (by omega) (by omega)⟩
              go_upto_region 28 with (fail)
              clear y0 y3 y4
              have y1 := Sm.cells_of HX4.out 1 _ rfl
              go_wp2_with fail
              refine (OP.out _ (HH.out.low PL4.out.below (by omega)) (HK.out.low PL4.out.below hN1) PL4.out.ring).mono ?_
              rintro e w5 ⟨rfl, ra5, tu5⟩
              have PL5 := Lib.hid (PL4.out.turn tu5 ra5)
              have HX5 := Lib.hid (tu5.cells PL4.out.ring HX4.out Ri.doc_types.2.2.2)
              clear ra5 tu5 PL4 HX4 y1 OP
              have y1 := Sm.cells_of HX5.out 1 _ rfl
              have q0 := Sm.cells_of PL5.out.doc 0 _ rfl; have q1 := Sm.cells_of PL5.out.doc 1 _ rfl; have q2 := Sm.cells_of PL5.out.doc 2 _ rfl; have q3 := Sm.cells_of PL5.out.doc 3 _ rfl
              go_wp2_with fail
              refine (DO.out _).mono ?_
              rintro e w6 ⟨rfl, k6⟩
              have PL6 := Lib.hid (PL5.out.low k6)
              clear k6 PL5 HX5 y1 q0 q1 q2 q3 DO
              go_wp2_with fail
              refine (CO.out _ r m n cur PL6.out.ring).mono ?_
              rintro e wq ⟨rfl, kk, rfl⟩
              have PLa := Lib.hid (PL6.out.drewN kk)
              clear PL6
              generalize w6.drewN kk = wa at *
              have p1 := Sm.cells_of PLa.out.doc 1 _ rfl
              have p3 := Sm.cells_of PLa.out.doc 3 _ rfl
              have CUD : Hid (∀ j, Calls Tryz.prog 14 #[.pointer (some ⟨r, 0, none⟩)] (wa.drewN j) fun e w' => e = .returned (.int .i64 cur) ∧ wa.drewN j = w') := fun j => CU.out _ r m n cur (PLa.out.ring.drewN j)
              go_upto_region 38 with (fail)
              go_quiet ((first
                | (go_at_call 14; with_reducible exact Sm.q_one (CUD.out _))
                | (go_at_call 14; with_reducible exact Sm.q_more (CUD.out _))))
              generalize hwb : wa.drewN _ = wb
              have PLb : Hid (Ri.Pl N w wb r m P s boot n cur n cur A1 c1 k1 xs) := by
                show Ri.Pl _ _ _ _ _ _ _ _ _ _ _ _ _ _ _ _
                rw [← hwb]; exact PLa.out.drewN _
              clear hwb PLa p1 p3 CUD
              go_wp2_with fail
              go_roundw
              case rel => exact ⟨k + 1, k1, n, cur, A1, c1, xs, rfl, hlt, rfl, by omega, by omega, hc0, hc1, PLb.out⟩
              case measure => simp [intOf]; omega
          · have o0' : ¬ 0 < x.o := o0
            obtain ⟨os, oe, OP, DO⟩ : ∃ (os : ByteArray) (oe : Int), Hid (∀ wx : World, Sm.HAt wx → Sm.KAt wx → Ri.RingAt wx r m s boot n cur → Calls Tryz.prog 9 #[.pointer (some ⟨r, 0, none⟩), .string x.b, .string x.a] wx fun e w' => e = .returned (.tuple #[.string os, .int .i64 oe]) ∧ Ri.RingAt w' r m s boot n cur ∧ Ri.Turned wx w' r m) ∧
                Hid (∀ wx : World, Calls Tryz.prog 10 #[.agg #[.string s, .int .i64 cur, .int .u32 (boot : Int), .int .u64 (n : Int)], .string x.b, .string x.a] wx fun e w' => e = .returned (.tuple #[.string os, .int .i64 oe]) ∧ Below wx.heap.size wx w') :=
              ⟨⟨(Ri.opens s.data.toList cur x.b x.a.data.toList).1.toArray⟩, ((Ri.opens s.data.toList cur x.b x.a.data.toList).2 : Nat), fun wx h1 h2 h3 => rgOpen_any h1 h2 (by omega) h3 x.b x.a (by omega) (by omega), fun wx => r6Open_any wx s (by omega) cur boot n x.b x.a (by omega) (by omega)⟩
            go_upto_region 28 with (fail)
            clear y0 y3 y4
            have y1 := Sm.cells_of HX4.out 1 _ rfl
            go_wp2_with fail
            refine (OP.out _ (HH.out.low PL4.out.below (by omega)) (HK.out.low PL4.out.below hN1) PL4.out.ring).mono ?_
            rintro e w5 ⟨rfl, ra5, tu5⟩
            have PL5 := Lib.hid (PL4.out.turn tu5 ra5)
            have HX5 := Lib.hid (tu5.cells PL4.out.ring HX4.out Ri.doc_types.2.2.2)
            clear ra5 tu5 PL4 HX4 y1 OP
            have y1 := Sm.cells_of HX5.out 1 _ rfl
            have q0 := Sm.cells_of PL5.out.doc 0 _ rfl; have q1 := Sm.cells_of PL5.out.doc 1 _ rfl; have q2 := Sm.cells_of PL5.out.doc 2 _ rfl; have q3 := Sm.cells_of PL5.out.doc 3 _ rfl
            go_wp2_with fail
            refine (DO.out _).mono ?_
            rintro e w6 ⟨rfl, k6⟩
            have PL6 := Lib.hid (PL5.out.low k6)
            clear k6 PL5 HX5 y1 q0 q1 q2 q3 DO
            go_wp2_with fail
            refine (CO.out _ r m n cur PL6.out.ring).mono ?_
            rintro e wq ⟨rfl, kk, rfl⟩
            have PLa := Lib.hid (PL6.out.drewN kk)
            clear PL6
            generalize w6.drewN kk = wa at *
            have p1 := Sm.cells_of PLa.out.doc 1 _ rfl
            have p3 := Sm.cells_of PLa.out.doc 3 _ rfl
            have CUD : Hid (∀ j, Calls Tryz.prog 14 #[.pointer (some ⟨r, 0, none⟩)] (wa.drewN j) fun e w' => e = .returned (.int .i64 cur) ∧ wa.drewN j = w') := fun j => CU.out _ r m n cur (PLa.out.ring.drewN j)
            go_upto_region 38 with (fail)
            go_quiet ((first
              | (go_at_call 14; with_reducible exact Sm.q_one (CUD.out _))
              | (go_at_call 14; with_reducible exact Sm.q_more (CUD.out _))))
            generalize hwb : wa.drewN _ = wb
            have PLb : Hid (Ri.Pl N w wb r m P s boot n cur n cur A1 c1 k1 xs) := by
              show Ri.Pl _ _ _ _ _ _ _ _ _ _ _ _ _ _ _ _
              rw [← hwb]; exact PLa.out.drewN _
            clear hwb PLa p1 p3 CUD
            go_wp2_with fail
            go_roundw
            case rel => exact ⟨k + 1, k1, n, cur, A1, c1, xs, rfl, hlt, rfl, by omega, by omega, hc0, hc1, PLb.out⟩
            case measure => simp [intOf]; omega
        · by_cases d2 : x.d = 2
          · have e0 : (x.d == 0) = false := by rw [beq_eq_false_iff_ne]; exact d0
            have e1 : (x.d == 1) = false := by rw [beq_eq_false_iff_ne]; exact d1
            have e2 : (x.d == 2) = true := by rw [d2]; rfl
            clear d0 d1 d2 hst0 hxt hsa hsb hxov
            obtain ⟨cu', er, DR, RO, hd0, hd1⟩ : ∃ (cu' : Int) (er : Int), Hid (∀ wx : World, Calls Tryz.prog 11 #[.agg #[.string s, .int .i64 cur, .int .u32 (boot : Int), .int .u64 (n : Int)]] wx fun e w' => e = .returned (.tuple #[.agg #[.string s, .int .i64 cu', .int .u32 (boot : Int), .int .u64 (n : Int)], .int .i64 er]) ∧ Below wx.heap.size wx w') ∧
                Hid (∀ wx : World, Ri.RingAt wx r m s boot n cur → Calls Tryz.prog 12 #[.pointer (some ⟨r, 0, none⟩)] wx fun e w' => e = .returned (.int .i64 er) ∧ Ri.RingAt w' r m s boot n cu' ∧ Ri.Turned wx w' r m) ∧ 0 ≤ cu' ∧ cu' ≤ 1048576 := by
              by_cases hf : cur = 1048576
              · rw [hf]
                exact ⟨1048576, 6, fun wx => r6Rotate_full wx s boot n, fun wx h => (rgRotate_full h).mono fun e w' ⟨h1, h2⟩ => ⟨h1, h2 ▸ h, h2 ▸ Ri.Turned.refl _ _ _⟩, by decide, by decide⟩
              · exact ⟨cur + 1, 0, fun wx => r6Rotate_any wx s boot n cur (by omega), fun wx h => (rgRotate_any h (by omega)).mono fun e w' ⟨h1, h2, h3⟩ => ⟨h1, h2, Ri.Turned.of_ring h3⟩, by omega, by omega⟩
            have q0 := Sm.cells_of PL4.out.doc 0 _ rfl; have q1 := Sm.cells_of PL4.out.doc 1 _ rfl; have q2 := Sm.cells_of PL4.out.doc 2 _ rfl; have q3 := Sm.cells_of PL4.out.doc 3 _ rfl
            go_wp2_with fail
            refine (DR.out _).mono ?_
            rintro e w5 ⟨rfl, k5⟩
            have PL5 := Lib.hid (PL4.out.low k5)
            clear k5 PL4 HX4 y0 q0 q1 q2 q3 DR
            go_upto_region 34 with (fail)
            have ka : Below w5.heap.size w5 (w5.alloc (.cells #[.string s, .int .i64 cu', .int .u32 (boot : Int), .int .u64 (n : Int)] 32)) := (Below.refl _ w5).alloc (Nat.le_refl _) _
            have PL6 := Lib.hid (PL5.out.low ka)
            have HQ6 := Lib.hid (heap_alloc_new w5 (.cells #[.string s, .int .i64 cu', .int .u32 (boot : Int), .int .u64 (n : Int)] 32))
            obtain ⟨Q, hQ⟩ : ∃ Q, Q = w5.heap.size := ⟨_, rfl⟩
            rw [← hQ] at HQ6 ⊢
            clear hQ ka PL5 
            generalize w5.alloc (.cells #[.string s, .int .i64 cu', .int .u32 (boot : Int), .int .u64 (n : Int)] 32) = w6 at *
            have z0 := Sm.cells_of HQ6.out 0 _ rfl; have z1 := Sm.cells_of HQ6.out 1 _ rfl; have z2 := Sm.cells_of HQ6.out 2 _ rfl; have z3 := Sm.cells_of HQ6.out 3 _ rfl
            have q0 := Sm.cells_of PL6.out.doc 0 _ rfl; have q1 := Sm.cells_of PL6.out.doc 1 _ rfl; have q2 := Sm.cells_of PL6.out.doc 2 _ rfl; have q3 := Sm.cells_of PL6.out.doc 3 _ rfl
            have yf0 := Sm.free_of PL6.out.doc 0; have yf1 := Sm.free_of PL6.out.doc 1; have yf2 := Sm.free_of PL6.out.doc 2; have yf3 := Sm.free_of PL6.out.doc 3
            have PL7 := Lib.hid (PL6.out.set n cu')
            clear PL6 HQ6
            go_upto_region 35 with (fail)
            clear z0 z1 z2 z3 q0 q1 q2 q3 yf0 yf1 yf2 yf3
            generalize (((((w6.setCell ⟨P, 0, none⟩ (.string s)).setCell ⟨P, 1, none⟩ (.int .i64 cu')).setCell ⟨P, 2, none⟩ (.int .u32 (boot : Int))).setCell ⟨P, 3, none⟩ (.int .u64 (n : Int)))) = w7 at *
            go_wp2_with fail
            refine (RO.out _ PL7.out.ring).mono ?_
            rintro e w8 ⟨rfl, ra8, tu8⟩
            have PL8 := Lib.hid (PL7.out.turn tu8 ra8)
            clear ra8 tu8 PL7 RO
            go_wp2_with fail
            refine (CO.out _ r m n cu' PL8.out.ring).mono ?_
            rintro e wq ⟨rfl, kk, rfl⟩
            have PLa := Lib.hid (PL8.out.drewN kk)
            clear PL8
            generalize w8.drewN kk = wa at *
            have p1 := Sm.cells_of PLa.out.doc 1 _ rfl
            have p3 := Sm.cells_of PLa.out.doc 3 _ rfl
            have CUD : Hid (∀ j, Calls Tryz.prog 14 #[.pointer (some ⟨r, 0, none⟩)] (wa.drewN j) fun e w' => e = .returned (.int .i64 cu') ∧ wa.drewN j = w') := fun j => CU.out _ r m n cu' (PLa.out.ring.drewN j)
            go_upto_region 38 with (fail)
            go_quiet ((first
              | (go_at_call 14; with_reducible exact Sm.q_one (CUD.out _))
              | (go_at_call 14; with_reducible exact Sm.q_more (CUD.out _))))
            generalize hwb : wa.drewN _ = wb
            have PLb : Hid (Ri.Pl N w wb r m P s boot n cu' n cu' A1 c1 k1 xs) := by
              show Ri.Pl _ _ _ _ _ _ _ _ _ _ _ _ _ _ _ _
              rw [← hwb]; exact PLa.out.drewN _
            clear hwb PLa p1 p3 CUD
            go_wp2_with fail
            go_roundw
            case rel => exact ⟨k + 1, k1, n, cu', A1, c1, xs, rfl, hlt, rfl, by omega, by omega, hd0, hd1, PLb.out⟩
            case measure => simp [intOf]; omega
          · have e0 : (x.d == 0) = false := by rw [beq_eq_false_iff_ne]; exact d0
            have e1 : (x.d == 1) = false := by rw [beq_eq_false_iff_ne]; exact d1
            have e2 : (x.d == 2) = false := by rw [beq_eq_false_iff_ne]; exact d2
            clear d0 d1 d2 hst0 hxt hsa hsb hxov HX4
            go_wp2_with fail
            refine (CO.out _ r m n cur PL4.out.ring).mono ?_
            rintro e wq ⟨rfl, kk, rfl⟩
            have PLa := Lib.hid (PL4.out.drewN kk)
            clear PL4
            generalize w4.drewN kk = wa at *
            have p1 := Sm.cells_of PLa.out.doc 1 _ rfl
            have p3 := Sm.cells_of PLa.out.doc 3 _ rfl
            have CUD : Hid (∀ j, Calls Tryz.prog 14 #[.pointer (some ⟨r, 0, none⟩)] (wa.drewN j) fun e w' => e = .returned (.int .i64 cur) ∧ wa.drewN j = w') := fun j => CU.out _ r m n cur (PLa.out.ring.drewN j)
            go_upto_region 38 with (fail)
            go_quiet ((first
              | (go_at_call 14; with_reducible exact Sm.q_one (CUD.out _))
              | (go_at_call 14; with_reducible exact Sm.q_more (CUD.out _))))
            generalize hwb : wa.drewN _ = wb
            have PLb : Hid (Ri.Pl N w wb r m P s boot n cur n cur A1 c1 k1 xs) := by
              show Ri.Pl _ _ _ _ _ _ _ _ _ _ _ _ _ _ _ _
              rw [← hwb]; exact PLa.out.drewN _
            clear hwb PLa p1 p3 CUD
            go_wp2_with fail
            go_roundw
            case rel => exact ⟨k + 1, k1, n, cur, A1, c1, xs, rfl, hlt, rfl, by omega, by omega, hc0, hc1, PLb.out⟩
            case measure => simp [intOf]; omega
    · have hlt1 : ¬ (k : Int) < l.length := by omega
      go_wp2
      go_ret
      exact ⟨rfl, PL.out.below⟩

set_option maxRecDepth 100000 in
set_option maxHeartbeats 4000000 in
theorem ringPlays_any {w : World} (hH : Sm.HAt w) (hK : Sm.KAt w) (hsz : 1 < w.heap.size) (s : ByteArray) (cur0 : Int) (boot : Nat) (hb : boot < 2 ^ 32) (A : Option Addr) (c : Nat) (l : List Ri.Ac) (hl : l.length ≤ 9223372036854775807) (hok : ∀ a ∈ l, a.Ok) (hit : Ri.listAt w A l) :
    Calls Tryz.prog 3 #[.string s, .int .i64 cur0, .int .u32 boot, .slice A l.length c] w fun e w' => e = .returned (.bool true) ∧ Below w.heap.size w w' := by
  have AW := Lib.hid (awake6_any hH hK hsz)
  by_cases h1 : s.size ≤ 300
  · have g1 : ¬ (300 : Int) < s.size := by omega
    by_cases hF : Ri.Fair l
    · by_cases hc : 0 ≤ cur0 ∧ cur0 ≤ 1048576
      · exact ringPlays_some hH hK hsz s h1 cur0 hc boot hb A c l hok hit hF
      · have GR : Hid (∀ wx : World, Below w.heap.size w wx → Calls Tryz.prog 5 #[.slice A l.length c] wx fun e w' => e = .returned (.bool false) ∧ wx = w') := fun wx k => great6_any wx A c l hl hok (hit.below k) false (by simp [hF])
        have NW : Hid (∀ wx : World, Calls Tryz.prog 6 #[.string s, .int .i64 cur0, .int .u32 boot] wx fun e w' => e = .returned (.tuple #[.pointer none, .int .i64 1]) ∧ wx = w') := fun wx => rgNew_bad wx s boot cur0 hc
        clear hH hK hok hit hF
        by_cases h0 : cur0 < 0
        · go_enter Tryz.func3, Tryz.ntmps3
          go_wp2_with fail
          refine (AW.out).mono ?_
          rintro e w1 ⟨rfl, b1⟩
          go_wp2_with fail
          refine (GR.out _ b1).mono ?_
          rintro e w1b ⟨rfl, rfl⟩
          go_wp2_with fail
          refine (NW.out _).mono ?_
          rintro e w1c ⟨rfl, rfl⟩
          go_wp2
          go_ret
          exact ⟨rfl, b1⟩
        · have h2 : (1048576 : Int) < cur0 := by omega
          go_enter Tryz.func3, Tryz.ntmps3
          go_wp2_with fail
          refine (AW.out).mono ?_
          rintro e w1 ⟨rfl, b1⟩
          go_wp2_with fail
          refine (GR.out _ b1).mono ?_
          rintro e w1b ⟨rfl, rfl⟩
          go_wp2_with fail
          refine (NW.out _).mono ?_
          rintro e w1c ⟨rfl, rfl⟩
          go_wp2
          go_ret
          exact ⟨rfl, b1⟩
    · have GR : Hid (∀ wx : World, Below w.heap.size w wx → Calls Tryz.prog 5 #[.slice A l.length c] wx fun e w' => e = .returned (.bool true) ∧ wx = w') := fun wx k => great6_any wx A c l hl hok (hit.below k) true (by simp [hF])
      clear hH hK hok hit hF
      go_enter Tryz.func3, Tryz.ntmps3
      go_wp2_with fail
      refine (AW.out).mono ?_
      rintro e w1 ⟨rfl, b1⟩
      go_wp2_with fail
      refine (GR.out _ b1).mono ?_
      rintro e w1b ⟨rfl, rfl⟩
      go_wp2
      go_ret
      exact ⟨rfl, b1⟩
  · have g1 : (300 : Int) < s.size := by omega
    clear hH hK hok hit
    go_enter Tryz.func3, Tryz.ntmps3
    go_wp2_with fail
    refine (AW.out).mono ?_
    rintro e w1 ⟨rfl, b1⟩
    go_wp2
    go_ret
    exact ⟨rfl, b1⟩
end Go.Proofs.YtibpgmcpcelmpaaGreatDoor
