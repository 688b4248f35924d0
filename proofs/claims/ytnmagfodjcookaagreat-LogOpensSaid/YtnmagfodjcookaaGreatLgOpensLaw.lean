/-
  LogOpens: what any sectors tell, and what is added to them, is what the document says.
-/
import Derived.Test.YtnmagfodjcookaaGreatLgPlaysLaw
import Derived.Test.YtnmagfodjcookaaGreatG10Sector
namespace Go.Proofs.YtnmagfodjcookaaGreat
open Go.RowKit
namespace Lg
/-- A disk and the document's, which lies in block P too. -/
structure P10 (B : Nat) (w0 w : World) (r P : Nat) (fp : Nat → Prop) (M : Dk.Md) (sA : Option Addr) (sn sc : Nat) (sB : Option Addr) (sm sd : Nat) (f : Int) (o : Bool) : Prop where
  own : Dk.Own B w0 w r fp M
  ref : Dk.RefAt w (fun q => fp q ∨ q = P) (.agg #[.slice sA sn sc, .slice sB sm sd, .int .i64 f, .bool o]) M
  box : w.heap[P]? = some (.cells #[.slice sA sn sc, .slice sB sm sd, .int .i64 f, .bool o] 33 (0, 0))
  off : ¬ fp P
  low : B ≤ P
section
variable {B : Nat} {w0 w w' : World} {r P : Nat} {fp fp' : Nat → Prop} {M M' : Dk.Md} {sA : Option Addr} {sn sc : Nat} {sB : Option Addr} {sm sd : Nat} {f : Int} {o : Bool}
theorem P10.low' (h : P10 B w0 w r P fp M sA sn sc sB sm sd f o) (k : Below w.heap.size w w') : P10 B w0 w' r P fp M sA sn sc sB sm sd f o :=
  ⟨h.own.low k, h.ref.low k, (k.block P (Sm.lt_of h.box)).trans h.box, h.off, h.low⟩
theorem P10.lt (h : P10 B w0 w r P fp M sA sn sc sB sm sd f o) : ∀ q, (fp q ∨ q = P) → q < w.heap.size := fun q e => by
  rcases e with e | e
  · exact h.own.lt q e
  · rw [e]; exact Sm.lt_of h.box
/-- The document's disk was written, and lies in its block; then the program's. -/
theorem P10.next {w1 w2 : World} {tA : Option Addr} {tn tc : Nat} {tB : Option Addr} {tm td : Nat} {f2 : Int} {o2 : Bool} (h : P10 B w0 w r P fp M sA sn sc sB sm sd f o) (k : Below w.heap.size w w1) (hr : Dk.RefAt w1 (fun q => fp q ∨ q = P) (.agg #[.slice tA tn tc, .slice tB tm td, .int .i64 f2, .bool o2]) M')
    (t : Dk.Turned (fun q => q = P) w1 w2) (hb : w2.heap[P]? = some (.cells #[.slice tA tn tc, .slice tB tm td, .int .i64 f2, .bool o2] 33 (0, 0))) :
    Dk.Own B w0 w2 r fp M ∧ ∀ fp' w3, Dk.Step B w0 w2 w3 r fp fp' M' → P10 B w0 w3 r P fp' M' tA tn tc tB tm td f2 o2 := by
  have o1 := (h.own.low k).other t (fun q h1 h2 => h.off (h2 ▸ h1)) (fun q e => e ▸ h.low)
  refine ⟨o1, fun fp' w3 s => ?_⟩
  have r2 := refTurned hr (f' := fun q => fp q ∨ q = P) (Lg.turned_more t fun i e => .inr e) fun _ => .inl
  refine ⟨s.own, refTurned r2 (Lg.turned_more s.turned fun i e => .inl e) (fun q e => ?_), (s.turned.block P (Sm.lt_of hb) h.off).trans hb, fun e => ?_, h.low⟩
  · rcases e with e | e
    · exact (s.grown q e).imp .inl id
    · exact .inl (.inr e)
  · rcases s.grown P e with e | e
    · exact h.off e
    · have := Sm.lt_of hb; omega
end
theorem add_ac (w : World) (t : ByteArray) (ht : t.size ≤ 9223372036854775807) : Ac.Ok w ⟨0, t, 0, 0, ⟨#[]⟩, .slice none 0 0, []⟩ := by
  have z : -9223372036854775808 ≤ (0 : Int) ∧ (0 : Int) ≤ 9223372036854775807 := by omega
  exact ⟨z, z, z, ht, Nat.zero_le _, ⟨none, 0, rfl, Nat.zero_le _, fun i => by simp, .inl rfl⟩⟩
end Lg
set_option maxRecDepth 100000 in
set_option maxHeartbeats 16000000 in
theorem logopens_any (w : World) (A : Option Addr) (c : Nat) (l : List G10.Ac) (hl : l.length ≤ 9223372036854775807) (hit : G10.listAt w A l) (hs : ∀ x ∈ l, x.Ok) (ep : Nat) (hep : ep < 18446744073709551616) (t : ByteArray) (htz : t.size ≤ 9223372036854775807) :
    Calls Tryz.prog 4 #[.slice A l.length c, .int .u64 (ep : Int), .string t] w fun e w' => e = .returned (.bool true) ∧ Below w.heap.size w w' := by
  have AW := Lib.hid (awake10_any w)
  have HIT := Lib.hid hit
  have HS := Lib.hid hs
  have HEP := Lib.hid hep
  clear hit hs hep
  by_cases b1 : 40 < l.length
  · have b1' : (40 : Int) < (l.length : Int) := by omega
    go_enter Tryz.func4, Tryz.ntmps4
    go_wp2_with (go_at_call 5; refine AW.out.mono ?_; rintro e w1 ⟨rfl, k1⟩)
    go_ret
    exact ⟨rfl, k1⟩
  have b1' : ¬ (40 : Int) < (l.length : Int) := by omega
  by_cases b0 : l.length < 1
  · have b0' : (l.length : Int) < 1 := by omega
    go_enter Tryz.func4, Tryz.ntmps4
    go_wp2_with (go_at_call 5; refine AW.out.mono ?_; rintro e w1 ⟨rfl, k1⟩)
    go_ret
    exact ⟨rfl, k1⟩
  have b0' : ¬ (l.length : Int) < 1 := by omega
  by_cases b2 : 2000 < t.size
  · have b2' : (2000 : Int) < (t.size : Int) := by omega
    go_enter Tryz.func4, Tryz.ntmps4
    go_wp2_with (go_at_call 5; refine AW.out.mono ?_; rintro e w1 ⟨rfl, k1⟩)
    go_ret
    exact ⟨rfl, k1⟩
  have b2' : ¬ (2000 : Int) < (t.size : Int) := by omega
  have hl40 : 1 ≤ l.length ∧ l.length ≤ 40 := by omega
  go_enter Tryz.func4, Tryz.ntmps4
  go_upto_region 5 with (go_at_call 5; refine AW.out.mono ?_; rintro e w1 ⟨rfl, k1⟩)
  have ND := Lib.hid (Dk.new_in k1 (Nat.le_refl _) l.length (by omega))
  go_upto_region 6 with (go_at_call 7; refine ND.out.mono ?_; rintro e w2 ⟨r, fp, rfl, o2, -, -⟩)
  have NR := Lib.hid (r7New_any w2 fp o2.lt l.length (by omega))
  have O2 := Lib.hid o2
  clear o2 k1
  go_wp2_with fail
  refine NR.out.mono ?_
  rintro e w3 ⟨v, rfl, href, k3⟩
  obtain ⟨sA, sn, sc, sB, sm, sd, f, o, rfl⟩ := Lg.quad href
  go_upto_region 7 with (fail)
  have b4 : Below w3.heap.size w3 (w3.alloc (.cells #[.slice sA sn sc, .slice sB sm sd, .int .i64 f, .bool o] 33)) := (Below.refl _ w3).alloc (Nat.le_refl _) _
  have o4 := (O2.out.low k3).low b4
  have g4 := heap_alloc_new w3 (.cells #[.slice sA sn sc, .slice sB sm sd, .int .i64 f, .bool o] 33)
  have hr4 : Dk.RefAt (w3.alloc (.cells #[.slice sA sn sc, .slice sB sm sd, .int .i64 f, .bool o] 33)) (fun q => fp q ∨ q = w3.heap.size) (.agg #[.slice sA sn sc, .slice sB sm sd, .int .i64 f, .bool o]) (Dk.new l.length) := Lg.refTurned href (Dk.Turned.of_below b4 (Nat.le_refl _)) fun q e => e.imp id fun e => Nat.le_of_eq e.symm
  have hPf : ¬ fp w3.heap.size := fun e => by have h1 := (O2.out.low k3).lt _ e; omega
  have hPB : w.heap.size ≤ w3.heap.size := (O2.out.low k3).size
  obtain ⟨P, hP⟩ : ∃ P, P = w3.heap.size := ⟨_, rfl⟩
  rw [← hP] at g4 hr4 hPf hPB ⊢
  clear hP b4 href k3
  generalize w3.alloc (.cells #[.slice sA sn sc, .slice sB sm sd, .int .i64 f, .bool o] 33) = w4 at *
  have H0 : Hid (Lg.P10 w.heap.size w w4 r P fp (Dk.new l.length) sA sn sc sB sm sd f o) := ⟨o4, hr4, g4, hPf, hPB⟩
  clear o4 hr4 g4 hPf hPB O2 NR ND
  go_wp2_with fail
  go_loopw [11] (fun s11 wr => ∃ (i : Nat) (fp : Nat → Prop) (M : Dk.Md) (sA : Option Addr) (sn sc : Nat) (sB : Option Addr) (sm sd : Nat) (f : Int) (o : Bool), s11 = .int .i64 i ∧ i ≤ l.length ∧ Lg.P10 w.heap.size w wr r P fp M sA sn sc sB sm sd f o ∧ Dk.waits M ≤ i ∧ M.lasts.length = l.length) (fun s11 _ => l.length - (intOf s11).toNat)
  case atStart => exact ⟨0, fp, _, sA, sn, sc, sB, sm, sd, f, o, rfl, Nat.zero_le _, H0.out, by rw [Dk.waits_new]; omega, by simp [Dk.new]⟩
  case round =>
    clear H0
    obtain ⟨i, fp, M, sA, sn, sc, sB, sm, sd, f, o, rfl, hi, hp2, hwt, hml⟩ := hrel
    by_cases hlt : i < l.length
    · have hki : (i : Int) < (l.length : Int) := by omega
      have hsuc : IntKind.i64.wrap ((i : Int) + 1) = ((i + 1 : Nat) : Int) := by simp [IntKind.wrap, IntKind.bits, IntKind.signed]; omega
      obtain ⟨gb, ob, hA, hgl, hat⟩ : ∃ gb ob, A = some ⟨gb, ob, none⟩ ∧ gb < w.heap.size ∧ G10.actsAt w gb ob l := by
        rcases HIT.out with h | ⟨gb, ob, h1, h2, h3⟩
        · rw [h] at hlt; simp at hlt
        · exact ⟨gb, ob, h1, h2, h3⟩
      subst hA
      obtain ⟨c0, c1, c2, c3, c4, c5⟩ := (hat i hlt).below hp2.own.below hgl
      obtain ⟨x, hx⟩ : ∃ x, x = l[i] := ⟨_, rfl⟩
      have hok := HS.out _ (List.getElem_mem hlt)
      rw [← hx] at c0 c1 c2 c3 c4 c5 hok
      have HP2 := Lib.hid hp2
      have HWT := Lib.hid hwt
      have HML := Lib.hid hml
      clear hx hat hgl hp2 hwt hml
      by_cases b3 : 2000 < x.t.size
      · have b3' : (2000 : Int) < (x.t.size : Int) := by omega
        have HB := Lib.hid HP2.out.own.below
        go_wp2
        go_ret
        exact ⟨rfl, HB.out⟩
      · have b3' : ¬ (2000 : Int) < (x.t.size : Int) := by omega
        have SE : Hid (∀ wx : World, Calls Tryz.prog 13 #[.agg #[.int .i64 x.d, .string x.t, .int .u64 x.g, .int .u64 x.u, .int .u64 x.v, .int .u8 x.p]] wx fun e w' => ∃ s : ByteArray, e = .returned (.string s) ∧ Below wx.heap.size wx w') := fun wx => sector10_any wx x hok (by omega)
        clear hok
        go_upto_region 15 with (go_at_call 13; refine (SE.out _).mono ?_; rintro e w5 ⟨s, rfl, k5⟩)
        clear c0 c1 c2 c3 c4 c5
        have H5 := Lib.hid (HP2.out.low' k5)
        clear k5
        have y0 := Sm.cells_of H5.out.box 0 _ rfl; have y1 := Sm.cells_of H5.out.box 1 _ rfl; have y2 := Sm.cells_of H5.out.box 2 _ rfl; have y3 := Sm.cells_of H5.out.box 3 _ rfl
        have WR := Lib.hid (r7Write_any w5 _ _ M H5.out.own.disk.ok H5.out.ref H5.out.lt (by have := HWT.out; omega) (i : Int) s)
        obtain ⟨W1, hW1⟩ : ∃ q, q = Dk.write M (i : Int) s.data.toList := ⟨_, rfl⟩
        rw [← hW1] at WR
        have PW : Hid (∀ wx, Dk.Own w.heap.size w wx r fp M → Calls Tryz.prog 15 #[.pointer (some ⟨r, 0, none⟩), .int .i64 (i : Int), .string s] wx fun e w' => ∃ fp', e = .returned (.int .i64 W1.2) ∧ Dk.Step w.heap.size w wx w' r fp fp' W1.1) := fun wx hx => by rw [hW1]; exact Dk.write_in hx (by have := HWT.out; omega) (i : Int) s
        have WL : Hid (Dk.waits W1.1 ≤ i + 1 ∧ W1.1.lasts.length = l.length) := ⟨by have h1 := Dk.waits_write M (i : Int) s.data.toList; have h2 := HWT.out; rw [hW1]; omega, by rw [hW1, Dk.lasts_write]; exact HML.out⟩
        obtain ⟨M1, er⟩ := W1
        clear hW1
        go_wp2_with fail
        refine WR.out.mono ?_
        rintro e w6 ⟨vn, rfl, href, k6⟩
        obtain ⟨tA, tn, tc, tB, tm, td, f2, o2, rfl⟩ := Lg.quad href
        clear y0 y1 y2 y3
        go_upto_region 16 with (fail)
        have a6 : Below w6.heap.size w6 (w6.alloc (.cells #[.slice tA tn tc, .slice tB tm td, .int .i64 f2, .bool o2] 33)) := (Below.refl _ w6).alloc (Nat.le_refl _) _
        have q6 := heap_alloc_new w6 (.cells #[.slice tA tn tc, .slice tB tm td, .int .i64 f2, .bool o2] 33)
        have k7 := k6.trans (a6.mono k6.size)
        have r7 := href.low a6
        obtain ⟨Q, hQ⟩ : ∃ Q, Q = w6.heap.size := ⟨_, rfl⟩
        rw [← hQ] at q6 ⊢
        clear hQ a6 k6 href
        generalize w6.alloc (.cells #[.slice tA tn tc, .slice tB tm td, .int .i64 f2, .bool o2] 33) = w7 at *
        have p7 := (H5.out.low' k7).box
        have z0 := Sm.cells_of q6 0 _ rfl; have z1 := Sm.cells_of q6 1 _ rfl; have z2 := Sm.cells_of q6 2 _ rfl; have z3 := Sm.cells_of q6 3 _ rfl
        have y0 := Sm.cells_of p7 0 _ rfl; have y1 := Sm.cells_of p7 1 _ rfl; have y2 := Sm.cells_of p7 2 _ rfl; have y3 := Sm.cells_of p7 3 _ rfl
        have yf0 := Sm.free_of p7 0; have yf1 := Sm.free_of p7 1; have yf2 := Sm.free_of p7 2; have yf3 := Sm.free_of p7 3
        have t7 := Lg.turned4 w7 P (.slice tA tn tc) (.slice tB tm td) (.int .i64 f2) (.bool o2)
        have s7 := Dk.set4 p7 rfl (.slice tA tn tc) (.slice tB tm td) (.int .i64 f2) (.bool o2)
        have NX := H5.out.next k7 r7 t7 s7
        have HNX := Lib.hid NX
        clear NX t7 s7 r7 k7 p7 q6
        go_upto_region 17 with (fail)
        clear z0 y0 yf0 z1 y1 yf1 z2 y2 yf2 z3 y3 yf3
        generalize ((((w7.setCell ⟨P, 0, none⟩ (.slice tA tn tc)).setCell ⟨P, 1, none⟩ (.slice tB tm td)).setCell ⟨P, 2, none⟩ (.int .i64 f2)).setCell ⟨P, 3, none⟩ (.bool o2)) = w8 at *
        go_wp2_with fail
        refine (PW.out _ HNX.out.1).mono ?_
        rintro e w9 ⟨fp9, rfl, st⟩
        have P9 := Lib.hid (HNX.out.2 _ _ st)
        clear st HNX PW WR SE
        go_wp2
        go_roundw
        case rel => exact ⟨i + 1, fp9, M1, tA, tn, tc, tB, tm, td, f2, o2, rfl, hlt, P9.out, WL.out.1, WL.out.2⟩
        case measure => simp [intOf]; omega
    · have hki : ¬ (i : Int) < (l.length : Int) := by omega
      have HP2 := Lib.hid hp2
      have hw40 : Dk.waits M ≤ 40 := by omega
      have HW40 := Lib.hid hw40
      clear hp2 hwt hml
      have x0 := Sm.cells_of HP2.out.box 0 _ rfl; have x1 := Sm.cells_of HP2.out.box 1 _ rfl; have x2 := Sm.cells_of HP2.out.box 2 _ rfl; have x3 := Sm.cells_of HP2.out.box 3 _ rfl
      go_upto_region 20 with (fail)
      have WN := Lg.W10.new HP2.out.own (Lg.refTurned HP2.out.ref (f' := fp) (Dk.Turned.of_below (Below.refl _ _) (Nat.le_refl _)) fun q e => .inl (.inl e)) 0 (l.length : Int) ep
      obtain ⟨X, hX⟩ : ∃ X, X = wr.heap.size := ⟨_, rfl⟩
      rw [← hX] at WN ⊢
      clear hX x0 x1 x2 x3
      generalize wr.alloc (.cells #[.pointer (some ⟨r, 0, none⟩), .pointer none, .slice sA sn sc, .slice sB sm sd, .int .i64 f, .bool o, .int .i64 0, .int .i64 0, .int .u64 0, .slice none 0 0, .int .i64 0, .int .u64 0, .int .u64 0, .bool false, .int .i64 0, .int .i64 (l.length : Int), .int .u64 (ep : Nat), .int .i64 0] 41) = w5 at *
      have OP1 := Lib.hid (w10open_any WN (by have := HW40.out; omega) (by omega) HEP.out)
      clear WN HP2 hw40
      go_wp2_with fail
      refine OP1.out.mono ?_
      rintro e w6 ⟨rfl, hop, _⟩
      obtain ⟨lo, bl, L, q0, q1, q2, q3, q4, q5, q6, q7, n, W6, iff6⟩ := hop
      have H6 := Lib.hid W6
      have I6 := Lib.hid iff6
      have ST1 := Lib.hid (w10stands_any W6 iff6)
      clear W6 iff6 OP1
      go_wp2_with fail
      refine ST1.out.mono ?_
      rintro e w7 ⟨rfl, k7⟩
      have DO1 := Lib.hid (w10does_any (H6.out.low' k7) I6.out rfl (by have := HW40.out; omega) (by omega) HEP.out ⟨0, t, 0, 0, ⟨#[]⟩, .slice none 0 0, []⟩ (Lg.add_ac w t htz) (by show t.size ≤ 2000; omega))
      clear ST1 k7
      go_wp2_with fail
      refine DO1.out.mono ?_
      rintro e w8 ⟨rfl, hd⟩
      obtain ⟨fp1, M1, e0, e1, e2, e3, lo1, bl1, L1, p0, p1, p2, p3, p4, p5, p6, p7, ep1, n1, W8, iff8, wt8, -, hep8⟩ := hd
      have WT8 : Hid (Dk.waits M1 ≤ 73) := by show _ ≤ _; have := HW40.out; omega
      have H8 := Lib.hid W8
      have I8 := Lib.hid iff8
      have E8 := Lib.hid hep8
      have ST2 := Lib.hid (w10stands_any W8 iff8)
      clear W8 iff8 wt8 hep8 DO1
      go_wp2_with fail
      refine ST2.out.mono ?_
      rintro e w9 ⟨rfl, k9⟩
      have DO2 := Lib.hid (w10does_any (H8.out.low' k9) I8.out rfl (by have := WT8.out; omega) (by omega) E8.out ⟨0, t, 0, 0, ⟨#[]⟩, .slice none 0 0, []⟩ (Lg.add_ac w t htz) (by show t.size ≤ 2000; omega))
      clear ST2 k9
      go_wp2_with fail
      refine DO2.out.mono ?_
      rintro e w10 ⟨rfl, hd⟩
      obtain ⟨fp2, M2, g0, g1, g2, g3, lo2, bl2, L2, u0, u1, u2, u3, u4, u5, u6, u7, ep2, n2, W10', iff10, wt10, -, hep10⟩ := hd
      have OP2 := Lib.hid (w10open_any W10' (by have := WT8.out; omega) (by omega) hep10)
      clear W10' iff10 wt10 hep10 DO2
      go_wp2_with fail
      refine OP2.out.mono ?_
      rintro e w11 ⟨rfl, hop, _⟩
      obtain ⟨lo3, bl3, L3, v0, v1, v2, v3, v4, v5, v6, v7, n3, W11, iff11⟩ := hop
      have HB := Lib.hid W11.disk.below
      have HS11 := Lib.hid W11.disk.size
      have ST3 := Lib.hid (w10stands_any W11 iff11)
      clear W11 iff11 OP2
      go_wp2_with fail
      refine ST3.out.mono ?_
      rintro e w12 ⟨rfl, k12⟩
      go_wp2
      go_ret
      exact ⟨rfl, HB.out.trans (k12.mono HS11.out)⟩
end Go.Proofs.YtnmagfodjcookaaGreat
