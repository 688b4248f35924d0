/-
  KeptOpens: what any sectors keep, and what is put on them, is what the document says.
-/
import Derived.Test.YtmdhnokgjapglaaKpPlaysLaw
import Derived.Test.YtmdhnokgjapglaaGvSector
namespace Go.Proofs.Ytmdhnokgjapglaa
open Go.RowKit
namespace Kp
/-- A disk and the document's, which lies in block P too. -/
structure P2 (B : Nat) (w0 w : World) (r P : Nat) (fp : Nat → Prop) (M : Dk.Md) (sA : Option Addr) (sn sc : Nat) (sB : Option Addr) (sm sd : Nat) (f : Int) (o : Bool) : Prop where
  own : Dk.Own B w0 w r fp M
  ref : Dk.RefAt w (fun q => fp q ∨ q = P) (.agg #[.slice sA sn sc, .slice sB sm sd, .int .i64 f, .bool o]) M
  box : w.heap[P]? = some (.cells #[.slice sA sn sc, .slice sB sm sd, .int .i64 f, .bool o] 32 (0, 0))
  off : ¬ fp P
  low : B ≤ P
section
variable {B : Nat} {w0 w w' : World} {r P : Nat} {fp fp' : Nat → Prop} {M M' : Dk.Md} {sA : Option Addr} {sn sc : Nat} {sB : Option Addr} {sm sd : Nat} {f : Int} {o : Bool}
theorem P2.low' (h : P2 B w0 w r P fp M sA sn sc sB sm sd f o) (k : Below w.heap.size w w') : P2 B w0 w' r P fp M sA sn sc sB sm sd f o :=
  ⟨h.own.low k, h.ref.low k, (k.block P (Sm.lt_of h.box)).trans h.box, h.off, h.low⟩
theorem P2.lt (h : P2 B w0 w r P fp M sA sn sc sB sm sd f o) : ∀ q, (fp q ∨ q = P) → q < w.heap.size := fun q e => by
  rcases e with e | e
  · exact h.own.lt q e
  · rw [e]; exact Sm.lt_of h.box
/-- The document's disk was written, and lies in its block; then the program's. -/
theorem P2.next {w1 w2 : World} {tA : Option Addr} {tn tc : Nat} {tB : Option Addr} {tm td : Nat} {f2 : Int} {o2 : Bool} (h : P2 B w0 w r P fp M sA sn sc sB sm sd f o) (k : Below w.heap.size w w1) (hr : Dk.RefAt w1 (fun q => fp q ∨ q = P) (.agg #[.slice tA tn tc, .slice tB tm td, .int .i64 f2, .bool o2]) M')
    (t : Dk.Turned (fun q => q = P) w1 w2) (hb : w2.heap[P]? = some (.cells #[.slice tA tn tc, .slice tB tm td, .int .i64 f2, .bool o2] 32 (0, 0))) :
    Dk.Own B w0 w2 r fp M ∧ ∀ fp' w3, Dk.Step B w0 w2 w3 r fp fp' M' → P2 B w0 w3 r P fp' M' tA tn tc tB tm td f2 o2 := by
  have o1 := (h.own.low k).other t (fun q h1 h2 => h.off (h2 ▸ h1)) (fun q e => e ▸ h.low)
  refine ⟨o1, fun fp' w3 s => ?_⟩
  have r2 := hr.turned (f' := fun q => fp q ∨ q = P) (t.mono fun i e => .inr e) fun _ => .inl
  refine ⟨s.own, r2.turned (s.turned.mono fun i e => .inl e) (fun q e => ?_), (s.turned.block P (Sm.lt_of hb) h.off).trans hb, fun e => ?_, h.low⟩
  · rcases e with e | e
    · exact (s.grown q e).imp .inl id
    · exact .inl (.inr e)
  · rcases s.grown P e with e | e
    · exact h.off e
    · have := Sm.lt_of hb; omega
end
theorem put_ac (w : World) (t : ByteArray) (ht : t.size ≤ 9223372036854775807) : Ac.Ok w ⟨0, t, 0, 0, ⟨#[]⟩, .slice none 0 0, []⟩ := by
  have z : -9223372036854775808 ≤ (0 : Int) ∧ (0 : Int) ≤ 9223372036854775807 := by omega
  exact ⟨z, z, z, ht, Nat.zero_le _, ⟨none, 0, rfl, Nat.zero_le _, fun i => by simp, .inl rfl⟩⟩
end Kp
set_option maxRecDepth 100000 in
set_option maxHeartbeats 16000000 in
theorem keptopens_any (w : World) (A : Option Addr) (c : Nat) (l : List Gv.Ac) (hl : l.length ≤ 9223372036854775807) (hit : Gv.listAt w A l) (hs : ∀ x ∈ l, x.Ok) (t : ByteArray) (htz : t.size ≤ 9223372036854775807) :
    Calls Try.prog 4 #[.slice A l.length c, .string t] w fun e w' => e = .returned (.bool true) ∧ Below w.heap.size w w' := by
  have AW := Lib.hid (awake9_any w)
  have HIT := Lib.hid hit
  have HS := Lib.hid hs
  clear hit hs
  by_cases b1 : 20 < l.length
  · have b1' : (20 : Int) < (l.length : Int) := by omega
    go_enter Try.func4, Try.ntmps4
    go_wp2_with (go_at_call 5; refine AW.out.mono ?_; rintro e w1 ⟨rfl, k1⟩)
    go_ret
    exact ⟨rfl, k1⟩
  have b1' : ¬ (20 : Int) < (l.length : Int) := by omega
  by_cases b2 : 1000 < t.size
  · have b2' : (1000 : Int) < (t.size : Int) := by omega
    go_enter Try.func4, Try.ntmps4
    go_wp2_with (go_at_call 5; refine AW.out.mono ?_; rintro e w1 ⟨rfl, k1⟩)
    go_ret
    exact ⟨rfl, k1⟩
  have b2' : ¬ (1000 : Int) < (t.size : Int) := by omega
  have OPN : Hid (∀ (wx : World) (X r : Nat) (fpx : Nat → Prop) (Mx : Dk.Md) (sA : Option Addr) (sn sc : Nat) (sB : Option Addr) (sm sd : Nat) (f : Int) (o : Bool) (ko : Option Nat) (K : Kp.Md) (n : Int), Kp.W9 w.heap.size w wx X r fpx Mx sA sn sc sB sm sd f o ko K n → Dk.waits Mx ≤ 100 → Calls Try.prog 9 #[.pointer (some ⟨X, 0, none⟩), .int .i64 0] wx fun e w' => ∃ ko' K' n', e = .returned (.bool true) ∧ Kp.W9 w.heap.size w w' X r fpx Mx sA sn sc sB sm sd f o ko' K' n' ∧ (ko' = none ↔ n' ≠ 0)) := fun wx X r fpx Mx sA sn sc sB sm sd f o ko K n hx hm =>
    (w9open_any hx (by omega) 0).mono fun e w' ⟨ko', K', n', h1, h2, h3, _⟩ => ⟨ko', K', n', h1, h2, h3⟩
  go_enter Try.func4, Try.ntmps4
  go_upto_region 5 with (go_at_call 5; refine AW.out.mono ?_; rintro e w1 ⟨rfl, k1⟩)
  have ND := Lib.hid (Dk.new_in k1 (Nat.le_refl _) 20 (by omega))
  go_upto_region 6 with (go_at_call 7; refine ND.out.mono ?_; rintro e w2 ⟨r, fp, rfl, o2, -, -⟩)
  have NR := Lib.hid (r7New_any w2 fp o2.lt 20 (by omega))
  have O2 := Lib.hid o2
  clear o2 k1
  go_wp2_with fail
  refine NR.out.mono ?_
  rintro e w3 ⟨v, rfl, href, k3⟩
  obtain ⟨sA, sn, sc, sB, sm, sd, f, o, rfl⟩ := href.quad
  go_upto_region 7 with (fail)
  have b4 : Below w3.heap.size w3 (w3.alloc (.cells #[.slice sA sn sc, .slice sB sm sd, .int .i64 f, .bool o] 32)) := (Below.refl _ w3).alloc (Nat.le_refl _) _
  have o4 := (O2.out.low k3).low b4
  have g4 := heap_alloc_new w3 (.cells #[.slice sA sn sc, .slice sB sm sd, .int .i64 f, .bool o] 32)
  have hr4 : Dk.RefAt (w3.alloc (.cells #[.slice sA sn sc, .slice sB sm sd, .int .i64 f, .bool o] 32)) (fun q => fp q ∨ q = w3.heap.size) (.agg #[.slice sA sn sc, .slice sB sm sd, .int .i64 f, .bool o]) (Dk.new 20) := href.turned (Dk.Turned.of_below b4 (Nat.le_refl _)) fun q e => e.imp id fun e => Nat.le_of_eq e.symm
  have hPf : ¬ fp w3.heap.size := fun e => by have h1 := (O2.out.low k3).lt _ e; omega
  have hPB : w.heap.size ≤ w3.heap.size := (O2.out.low k3).size
  obtain ⟨P, hP⟩ : ∃ P, P = w3.heap.size := ⟨_, rfl⟩
  rw [← hP] at g4 hr4 hPf hPB ⊢
  clear hP b4 href k3
  generalize w3.alloc (.cells #[.slice sA sn sc, .slice sB sm sd, .int .i64 f, .bool o] 32) = w4 at *
  have H0 : Hid (Kp.P2 w.heap.size w w4 r P fp (Dk.new 20) sA sn sc sB sm sd f o) := ⟨o4, hr4, g4, hPf, hPB⟩
  clear o4 hr4 g4 hPf hPB O2 NR ND
  go_wp2_with fail
  go_loopw [9] (fun s9 wr => ∃ (i : Nat) (fp : Nat → Prop) (M : Dk.Md) (sA : Option Addr) (sn sc : Nat) (sB : Option Addr) (sm sd : Nat) (f : Int) (o : Bool), s9 = .int .i64 i ∧ i ≤ l.length ∧ Kp.P2 w.heap.size w wr r P fp M sA sn sc sB sm sd f o ∧ Dk.waits M ≤ i ∧ M.lasts.length = 20) (fun s9 _ => l.length - (intOf s9).toNat)
  case atStart => exact ⟨0, fp, _, sA, sn, sc, sB, sm, sd, f, o, rfl, Nat.zero_le _, H0.out, by rw [Dk.waits_new]; omega, by simp [Dk.new]⟩
  case round =>
    clear H0
    obtain ⟨i, fp, M, sA, sn, sc, sB, sm, sd, f, o, rfl, hi, hp2, hwt, hml⟩ := hrel
    by_cases hlt : i < l.length
    · have hki : (i : Int) < (l.length : Int) := by omega
      have hsuc : IntKind.i64.wrap ((i : Int) + 1) = ((i + 1 : Nat) : Int) := by simp [IntKind.wrap, IntKind.bits, IntKind.signed]; omega
      obtain ⟨gb, ob, hA, hgl, hat⟩ : ∃ gb ob, A = some ⟨gb, ob, none⟩ ∧ gb < w.heap.size ∧ Gv.actsAt w gb ob l := by
        rcases HIT.out with h | ⟨gb, ob, h1, h2, h3⟩
        · rw [h] at hlt; simp at hlt
        · exact ⟨gb, ob, h1, h2, h3⟩
      subst hA
      obtain ⟨c0, c1, c2, c3⟩ := (hat i hlt).below hp2.own.below hgl
      obtain ⟨x, hx⟩ : ∃ x, x = l[i] := ⟨_, rfl⟩
      have hok := HS.out _ (List.getElem_mem hlt)
      rw [← hx] at c0 c1 c2 c3 hok
      have HP2 := Lib.hid hp2
      have HWT := Lib.hid hwt
      have HML := Lib.hid hml
      clear hx hat hgl hp2 hwt hml
      by_cases b3 : 1000 < x.t.size
      · have b3' : (1000 : Int) < (x.t.size : Int) := by omega
        have HB := Lib.hid HP2.out.own.below
        go_wp2
        go_ret
        exact ⟨rfl, HB.out⟩
      · have b3' : ¬ (1000 : Int) < (x.t.size : Int) := by omega
        have SE : Hid (∀ wx : World, Calls Try.prog 13 #[.agg #[.int .i64 x.d, .string x.t, .int .u64 x.g, .int .u8 x.p]] wx fun e w' => ∃ s : ByteArray, e = .returned (.string s) ∧ Below wx.heap.size wx w') := fun wx => sector9_any wx x hok (by omega)
        clear hok
        go_upto_region 15 with (go_at_call 13; refine (SE.out _).mono ?_; rintro e w5 ⟨s, rfl, k5⟩)
        clear c0 c1 c2 c3
        have H5 := Lib.hid (HP2.out.low' k5)
        clear k5
        have y0 := Sm.cells_of H5.out.box 0 _ rfl; have y1 := Sm.cells_of H5.out.box 1 _ rfl; have y2 := Sm.cells_of H5.out.box 2 _ rfl; have y3 := Sm.cells_of H5.out.box 3 _ rfl
        have WR := Lib.hid (r7Write_any w5 _ _ M H5.out.own.disk.ok H5.out.ref H5.out.lt (by have := HWT.out; omega) (i : Int) s)
        obtain ⟨W1, hW1⟩ : ∃ q, q = Dk.write M (i : Int) s.data.toList := ⟨_, rfl⟩
        rw [← hW1] at WR
        have PW : Hid (∀ wx, Dk.Own w.heap.size w wx r fp M → Calls Try.prog 15 #[.pointer (some ⟨r, 0, none⟩), .int .i64 (i : Int), .string s] wx fun e w' => ∃ fp', e = .returned (.int .i64 W1.2) ∧ Dk.Step w.heap.size w wx w' r fp fp' W1.1) := fun wx hx => by rw [hW1]; exact Dk.write_in hx (by have := HWT.out; omega) (i : Int) s
        have WL : Hid (Dk.waits W1.1 ≤ i + 1 ∧ W1.1.lasts.length = 20) := ⟨by have h1 := Dk.waits_write M (i : Int) s.data.toList; have h2 := HWT.out; rw [hW1]; omega, by rw [hW1, Dk.lasts_write]; exact HML.out⟩
        obtain ⟨M1, er⟩ := W1
        clear hW1
        go_wp2_with fail
        refine WR.out.mono ?_
        rintro e w6 ⟨vn, rfl, href, k6⟩
        obtain ⟨tA, tn, tc, tB, tm, td, f2, o2, rfl⟩ := href.quad
        clear y0 y1 y2 y3
        go_upto_region 16 with (fail)
        have a6 : Below w6.heap.size w6 (w6.alloc (.cells #[.slice tA tn tc, .slice tB tm td, .int .i64 f2, .bool o2] 32)) := (Below.refl _ w6).alloc (Nat.le_refl _) _
        have q6 := heap_alloc_new w6 (.cells #[.slice tA tn tc, .slice tB tm td, .int .i64 f2, .bool o2] 32)
        have k7 := k6.trans (a6.mono k6.size)
        have r7 := href.low a6
        obtain ⟨Q, hQ⟩ : ∃ Q, Q = w6.heap.size := ⟨_, rfl⟩
        rw [← hQ] at q6 ⊢
        clear hQ a6 k6 href
        generalize w6.alloc (.cells #[.slice tA tn tc, .slice tB tm td, .int .i64 f2, .bool o2] 32) = w7 at *
        have p7 := (H5.out.low' k7).box
        have z0 := Sm.cells_of q6 0 _ rfl; have z1 := Sm.cells_of q6 1 _ rfl; have z2 := Sm.cells_of q6 2 _ rfl; have z3 := Sm.cells_of q6 3 _ rfl
        have y0 := Sm.cells_of p7 0 _ rfl; have y1 := Sm.cells_of p7 1 _ rfl; have y2 := Sm.cells_of p7 2 _ rfl; have y3 := Sm.cells_of p7 3 _ rfl
        have yf0 := Sm.free_of p7 0; have yf1 := Sm.free_of p7 1; have yf2 := Sm.free_of p7 2; have yf3 := Sm.free_of p7 3
        have t7 := Kp.turned4 w7 P (.slice tA tn tc) (.slice tB tm td) (.int .i64 f2) (.bool o2)
        have s7 := Dk.set4 p7 rfl (.slice tA tn tc) (.slice tB tm td) (.int .i64 f2) (.bool o2)
        have NX := H5.out.next k7 r7 t7 s7
        have HNX := Lib.hid NX
        clear NX t7 s7 r7 k7 p7 q6
        go_upto_region 17 with (fail)
        clear z0 y0 yf0 z1 y1 yf1 z2 y2 yf2 z3 y3 yf3
        generalize ((((w7.setCell ⟨P, 0, none⟩ (.slice tA tn tc)).setCell ⟨P, 1, none⟩ (.slice tB tm td)).setCell ⟨P, 2, none⟩ (.int .i64 f2)).setCell ⟨P, 3, none⟩ (.bool o2)) = w8 at *
        go_wp2_with fail
        refine (PW.out _ HNX.out.1).mono ?_
        rintro e w9 ⟨fp9, rfl, st⟩
        have P9 := Lib.hid (HNX.out.2 _ _ st)
        clear st HNX PW WR SE
        go_wp2
        go_roundw
        case rel => exact ⟨i + 1, fp9, M1, tA, tn, tc, tB, tm, td, f2, o2, rfl, hlt, P9.out, WL.out.1, WL.out.2⟩
        case measure => simp [intOf]; omega
    · have hki : ¬ (i : Int) < (l.length : Int) := by omega
      have HP2 := Lib.hid hp2
      have hw20 : Dk.waits M ≤ 20 := by omega
      clear hp2 hwt hml
      have x0 := Sm.cells_of HP2.out.box 0 _ rfl; have x1 := Sm.cells_of HP2.out.box 1 _ rfl; have x2 := Sm.cells_of HP2.out.box 2 _ rfl; have x3 := Sm.cells_of HP2.out.box 3 _ rfl
      go_upto_region 20 with (fail)
      have WN := Kp.W9.new HP2.out.own (HP2.out.ref.off fun q _ e => .inl e)
      have HSZ := Lib.hid WN.box
      obtain ⟨X, hX⟩ : ∃ X, X = wr.heap.size := ⟨_, rfl⟩
      rw [← hX] at WN ⊢
      clear hX x0 x1 x2 x3 HSZ
      generalize wr.alloc (.cells #[.pointer (some ⟨r, 0, none⟩), .pointer none, .slice sA sn sc, .slice sB sm sd, .int .i64 f, .bool o, .int .i64 0, .string ⟨#[]⟩, .int .u64 0, .int .i64 0, .int .u64 0, .bool false, .int .i64 0] 41) = w5 at *
      have OP1 := Lib.hid (OPN.out _ _ _ _ _ _ _ _ _ _ _ _ _ _ _ _ WN (by omega))
      clear WN HP2
      go_upto_region 22 with (go_at_call 9; refine OP1.out.mono ?_; rintro e w6 ⟨ko, K, n, rfl, W6, iff6⟩)
      have H6 := Lib.hid W6
      have I6 := Lib.hid iff6
      have HW20 := Lib.hid hw20
      clear W6 iff6 OP1
      go_wp2_with fail
      go_loopw [14] (fun s14 wr => ∃ (j : Nat) (fp : Nat → Prop) (M : Dk.Md) (sA : Option Addr) (sn sc : Nat) (sB : Option Addr) (sm sd : Nat) (f : Int) (o : Bool) (ko : Option Nat) (K : Kp.Md) (n : Int), s14 = .int .i64 j ∧ j ≤ 2 ∧ Kp.W9 w.heap.size w wr X r fp M sA sn sc sB sm sd f o ko K n ∧ (ko = none ↔ n ≠ 0) ∧ Dk.waits M ≤ 20 + 9 * j) (fun s14 _ => 2 - (intOf s14).toNat)
      case atStart => exact ⟨0, fp, M, sA, sn, sc, sB, sm, sd, f, o, ko, K, n, rfl, by decide, H6.out, I6.out, by have := HW20.out; omega⟩
      case round =>
        clear H6 I6 HW20
        obtain ⟨j, fp, M, sA, sn, sc, sB, sm, sd, f, o, ko, K, n, rfl, hj, hw, hif, hwt⟩ := hrel
        have HWT := Lib.hid hwt
        by_cases hlj : j < 2
        · have hkj : (j : Int) < 2 := by omega
          have hsuc : IntKind.i64.wrap ((j : Int) + 1) = ((j + 1 : Nat) : Int) := by simp [IntKind.wrap, IntKind.bits, IntKind.signed]; omega
          have DOX : Hid (∀ wx : World, Kp.W9 w.heap.size w wx X r fp M sA sn sc sB sm sd f o ko K n → Calls Try.prog 11 #[.pointer (some ⟨X, 0, none⟩), .agg #[.int .i64 0, .string t, .int .i64 0, .int .i64 0, .string ⟨#[]⟩, .slice none 0 0], .int .i64 0] wx fun e w' => e = .returned (.bool true) ∧ Kp.Did9 w.heap.size w w' X r M) := fun wx hx => w9does_any hx hif rfl (by omega) ⟨0, t, 0, 0, ⟨#[]⟩, .slice none 0 0, []⟩ (Kp.put_ac w t htz) (by show t.size ≤ 1000; omega) 0
          cases ko with
          | none =>
            have xl := hw.lit (kp := .pointer none) (q0 := .int .i64 0) (q1 := .string ⟨#[]⟩) (q2 := .int .u64 0) (q3 := .int .i64 0) (q4 := .int .u64 0) (q5 := .bool false) rfl rfl
            have x1 := Sm.cells_of xl 1 _ rfl
            have x7 := Sm.cells_of xl 7 _ rfl
            have x8 := Sm.cells_of xl 8 _ rfl
            have DO := Lib.hid (DOX.out _ hw)
            clear hw hif hwt xl DOX
            go_upto_region 26 with (go_at_call 12; refine (kpGet_nil _).mono ?_; rintro e w8 ⟨rfl, rfl⟩)
            go_upto_region 24 with (go_at_call 11; refine DO.out.mono ?_; rintro e w9 ⟨rfl, hd⟩)
            obtain ⟨fp', M', tA, tn, tc, tB, tm, td, f2, o2, ko', K', n', W9', iff9, wt9⟩ := hd
            have HW9 := Lib.hid W9'
            have I9 := Lib.hid iff9
            have WT9 : Hid (Dk.waits M' ≤ 20 + 9 * (j + 1)) := by show _ ≤ _; have := HWT.out; omega
            clear W9' iff9 wt9 DO
            go_wp2
            go_roundw
            case rel => exact ⟨j + 1, fp', M', tA, tn, tc, tB, tm, td, f2, o2, ko', K', n', rfl, by omega, HW9.out, I9.out, WT9.out⟩
            case measure => simp [intOf]; omega
          | some k =>
            have hn0 : n = 0 := Decidable.not_not.1 fun e => absurd (hif.2 e) (by simp)
            subst hn0
            obtain ⟨at7, -, -, -, fit7⟩ := hw.kept k rfl
            obtain ⟨ts, hts⟩ : ∃ b : ByteArray, b = ⟨K.text.toArray⟩ := ⟨_, rfl⟩
            obtain ⟨gn, hgn⟩ : ∃ g, g = K.gen := ⟨_, rfl⟩
            obtain ⟨gb2, hgb⟩ : ∃ b, b = decide ((0 : Int) < (gn : Int)) := ⟨_, rfl⟩
            have GT := Lib.hid (kpGet_at at7 fit7.none fit7.text fit7.gen)
            have hgd : decide (0 < K.gen) = gb2 := by rw [hgb, ← hgn]; simp
            rw [← hts, hgd] at GT
            have hks : Kp.kks (some k) K = #[.int .i64 K.from_, .string ts, .int .u64 (gn : Nat), .int .i64 (1 - (K.next : Int)), .int .u64 (K.seen : Nat), .bool K.broken] := by rw [hts, hgn]; rfl
            have xl := hw.lit rfl hks
            have x1 := Sm.cells_of xl 1 (.pointer (some ⟨k, 0, none⟩)) rfl
            have hgb' : decide ((0 : Int) < (gn : Int)) = gb2 := hgb.symm
            have H7 := Lib.hid hw
            have HKS := Lib.hid hks
            clear hw hif hwt hks xl at7 fit7 hts hgn hgb hgd
            go_upto_region 26 with (go_at_call 12; refine GT.out.mono ?_; rintro e w8 ⟨rfl, k8⟩)
            have H8 := H7.out.low' k8
            have xl := H8.lit rfl HKS.out
            have DO := Lib.hid (DOX.out _ H8)
            clear x1 k8 DOX
            have x7 := Sm.cells_of xl 7 (.string ts) rfl
            have x8 := Sm.cells_of xl 8 (.int .u64 (gn : Nat)) rfl
            clear xl H8
            cases gb2 with
            | true =>
              have hg0 := of_decide_eq_true hgb'
              clear hgb'
              go_upto_region 24 with (go_at_call 11; refine DO.out.mono ?_; rintro e w9 ⟨rfl, hd⟩)
              obtain ⟨fp', M', tA, tn, tc, tB, tm, td, f2, o2, ko', K', n', W9', iff9, wt9⟩ := hd
              have HW9 := Lib.hid W9'
              have I9 := Lib.hid iff9
              have WT9 : Hid (Dk.waits M' ≤ 20 + 9 * (j + 1)) := by show _ ≤ _; have := HWT.out; omega
              clear W9' iff9 wt9 DO
              go_wp2
              go_roundw
              case rel => exact ⟨j + 1, fp', M', tA, tn, tc, tB, tm, td, f2, o2, ko', K', n', rfl, by omega, HW9.out, I9.out, WT9.out⟩
              case measure => simp [intOf]; omega
            | false =>
              have hg0 := of_decide_eq_false hgb'
              clear hgb'
              go_upto_region 24 with (go_at_call 11; refine DO.out.mono ?_; rintro e w9 ⟨rfl, hd⟩)
              obtain ⟨fp', M', tA, tn, tc, tB, tm, td, f2, o2, ko', K', n', W9', iff9, wt9⟩ := hd
              have HW9 := Lib.hid W9'
              have I9 := Lib.hid iff9
              have WT9 : Hid (Dk.waits M' ≤ 20 + 9 * (j + 1)) := by show _ ≤ _; have := HWT.out; omega
              clear W9' iff9 wt9 DO
              go_wp2
              go_roundw
              case rel => exact ⟨j + 1, fp', M', tA, tn, tc, tB, tm, td, f2, o2, ko', K', n', rfl, by omega, HW9.out, I9.out, WT9.out⟩
              case measure => simp [intOf]; omega
        · have hkj : ¬ (j : Int) < 2 := by omega
          have OP2 := Lib.hid (OPN.out _ _ _ _ _ _ _ _ _ _ _ _ _ _ _ _ hw (by omega))
          clear hw hif hwt
          go_wp2_with (go_at_call 9; refine OP2.out.mono ?_; rintro e w9 ⟨ko', K', n', rfl, W9', -⟩; have HB9 := Lib.hid W9'.disk.below; clear W9')
          go_ret
          exact ⟨rfl, HB9.out⟩
end Go.Proofs.Ytmdhnokgjapglaa
