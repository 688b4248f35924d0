/-
  KeptPlays: a Kept tells what the document's does.
-/
import Derived.Test.YtmdhnokgjapglaaW9Does
import Derived.Test.YtmdhnokgjapglaaDkRefNew
namespace Go.Proofs.Ytmdhnokgjapglaa
open Go.RowKit
namespace Kp
theorem W9.lit {B : Nat} {w0 w : World} {X r : Nat} {fp : Nat → Prop} {M : Dk.Md} {sA : Option Addr} {sn sc : Nat} {sB : Option Addr} {sm sd : Nat} {f : Int} {o : Bool} {ko : Option Nat} {K : Md} {n : Int} (h : W9 B w0 w X r fp M sA sn sc sB sm sd f o ko K n) {kp q0 q1 q2 q3 q4 q5 : Value} (hp : kptr ko = kp) (hk : kks ko K = #[q0, q1, q2, q3, q4, q5]) : w.heap[X]? = some (.cells #[.pointer (some ⟨r, 0, none⟩), kp, .slice sA sn sc, .slice sB sm sd, .int .i64 f, .bool o, q0, q1, q2, q3, q4, q5, .int .i64 n] 41 (0, 0)) := by
  rw [h.box, hp, hk]; rfl
theorem W9.new {w : World} {r : Nat} {fp : Nat → Prop} {M : Dk.Md} {sA : Option Addr} {sn sc : Nat} {sB : Option Addr} {sm sd : Nat} {f : Int} {o : Bool} {B : Nat} {w0 : World} (h : Dk.Own B w0 w r fp M) (hr : Dk.RefAt w fp (.agg #[.slice sA sn sc, .slice sB sm sd, .int .i64 f, .bool o]) M) :
    W9 B w0 (w.alloc (.cells #[.pointer (some ⟨r, 0, none⟩), .pointer none, .slice sA sn sc, .slice sB sm sd, .int .i64 f, .bool o, .int .i64 0, .string ⟨#[]⟩, .int .u64 0, .int .i64 0, .int .u64 0, .bool false, .int .i64 0] 41)) w.heap.size r fp M sA sn sc sB sm sd f o none (zero 0) 0 := by
  have k : Below w.heap.size w (w.alloc (.cells #[.pointer (some ⟨r, 0, none⟩), .pointer none, .slice sA sn sc, .slice sB sm sd, .int .i64 f, .bool o, .int .i64 0, .string ⟨#[]⟩, .int .u64 0, .int .i64 0, .int .u64 0, .bool false, .int .i64 0] 41)) := (Below.refl _ w).alloc (Nat.le_refl _) _
  refine ⟨h.low k, hr.turned (f := fp) (Dk.Turned.of_below k (Nat.le_refl _)) (fun q e => ?_), heap_alloc_new w _, fun e => by have := h.lt _ e; omega, h.size, fun q e => by cases e⟩
  rcases e with e | e | e
  · exact .inl e
  · exact .inr (by omega)
  · cases e
end Kp
set_option maxRecDepth 100000 in
set_option maxHeartbeats 16000000 in
theorem keptplays_any (w : World) (s : Nat) (hs256 : s < 256) (a : Int) (A : Option Addr) (c : Nat) (l : List Kp.Ac) (hl : l.length ≤ 9223372036854775807) (hit : Kp.listAt w A l) (hs : ∀ x ∈ l, x.Ok w) :
    Calls Try.prog 3 #[.int .u8 (s : Int), .int .i64 a, .slice A l.length c] w fun e w' => e = .returned (.bool true) ∧ Below w.heap.size w w' := by
  have AW := Lib.hid (awake9_any w)
  have HIT := Lib.hid hit
  have HS := Lib.hid hs
  by_cases hbad : ¬ Kp.Fair l
  · have GR : Hid (∀ wx, Below w.heap.size w wx → Calls Try.prog 6 #[.slice A l.length c] wx fun e w' => e = .returned (.bool true) ∧ wx = w') := fun wx hwx => great9_any hl (by
      rcases HIT.out with h | ⟨b, o, h1, h2, h3⟩
      · exact .inl h
      · exact .inr ⟨b, o, h1, Nat.lt_of_lt_of_le h2 hwx.size, h3.below hwx h2⟩) HS.out true ⟨fun _ => hbad, fun _ => rfl⟩
    clear hit hs
    go_enter Try.func3, Try.ntmps3
    go_wp2_with (first
      | (go_at_call 5; refine AW.out.mono ?_; rintro e w1 ⟨rfl, k1⟩)
      | (go_at_call 6; refine (GR.out _ k1).mono ?_; rintro e w2 ⟨rfl, rfl⟩))
    go_ret
    exact ⟨rfl, k1⟩
  have hfair := Classical.not_not.1 hbad
  have FA := Lib.hid hfair
  have GR : Hid (∀ wx, Below w.heap.size w wx → Calls Try.prog 6 #[.slice A l.length c] wx fun e w' => e = .returned (.bool false) ∧ wx = w') := fun wx hwx => great9_any hl (by
      rcases HIT.out with h | ⟨b, o, h1, h2, h3⟩
      · exact .inl h
      · exact .inr ⟨b, o, h1, Nat.lt_of_lt_of_le h2 hwx.size, h3.below hwx h2⟩) HS.out false ⟨fun h => (by cases h), fun h => absurd FA.out h⟩
  have h60 := hfair.1
  obtain ⟨m0, hm0⟩ : ∃ m, m = s % 60 := ⟨_, rfl⟩
  obtain ⟨N, hN⟩ : ∃ n, n = 1 + m0 := ⟨_, rfl⟩
  have hn60 : 1 ≤ N ∧ N ≤ 60 := by omega
  have q1 : (s : Int).tmod 60 = (m0 : Int) := by rw [Int.tmod_eq_emod_of_nonneg (by omega), hm0]; omega
  have q2 : IntKind.u8.wrap (m0 : Int) = (m0 : Int) := by rw [IntKind.wrap_u8]; omega
  have q3 : IntKind.i64.wrap (m0 : Int) = (m0 : Int) := IntWalk.i64_in _ (by omega)
  have q4 : IntKind.i64.wrap (1 + (m0 : Int)) = (N : Int) := by rw [IntWalk.i64_in _ (by omega)]; omega
  have OPN : Hid (∀ (wx : World) (X r : Nat) (fpx : Nat → Prop) (Mx : Dk.Md) (sA : Option Addr) (sn sc : Nat) (sB : Option Addr) (sm sd : Nat) (f : Int) (o : Bool) (ko : Option Nat) (K : Kp.Md) (n : Int), Kp.W9 w.heap.size w wx X r fpx Mx sA sn sc sB sm sd f o ko K n → Dk.waits Mx ≤ 100 → Calls Try.prog 9 #[.pointer (some ⟨X, 0, none⟩), .int .i64 a] wx fun e w' => ∃ ko' K' n', e = .returned (.bool true) ∧ Kp.W9 w.heap.size w w' X r fpx Mx sA sn sc sB sm sd f o ko' K' n' ∧ (ko' = none ↔ n' ≠ 0)) := fun wx X r fpx Mx sA sn sc sB sm sd f o ko K n hx hm =>
    (w9open_any hx (by omega) a).mono fun e w' ⟨ko', K', n', h1, h2, h3, _⟩ => ⟨ko', K', n', h1, h2, h3⟩
  clear hit hs hfair hbad hN hm0
  go_enter Try.func3, Try.ntmps3
  go_upto_region 6 with (first
    | (go_at_call 5; refine AW.out.mono ?_; rintro e w1 ⟨rfl, k1⟩)
    | (go_at_call 6; refine (GR.out _ k1).mono ?_; rintro e w2 ⟨rfl, rfl⟩))
  have ND := Lib.hid (Dk.new_in k1 (Nat.le_refl _) N (by omega))
  go_upto_region 7 with (go_at_call 7; refine ND.out.mono ?_; rintro e w2 ⟨r, fp, rfl, o2, -, -⟩)
  have NR := Lib.hid (r7New_any w2 fp o2.lt N (by omega))
  have O2 := Lib.hid o2
  clear o2 k1 q1 q2 q3 q4
  go_wp2_with fail
  refine NR.out.mono ?_
  rintro e w3 ⟨v, rfl, href, k3⟩
  obtain ⟨sA, sn, sc, sB, sm, sd, f, o, rfl⟩ := href.quad
  go_upto_region 8 with (fail)
  have b4 : Below w3.heap.size w3 (w3.alloc (.cells #[.slice sA sn sc, .slice sB sm sd, .int .i64 f, .bool o] 32)) := (Below.refl _ w3).alloc (Nat.le_refl _) _
  have o4 := (O2.out.low k3).low b4
  have r4 := href.low b4
  have g4 := heap_alloc_new w3 (.cells #[.slice sA sn sc, .slice sB sm sd, .int .i64 f, .bool o] 32)
  obtain ⟨P, hP⟩ : ∃ P, P = w3.heap.size := ⟨_, rfl⟩
  rw [← hP] at g4 ⊢
  clear hP b4 href k3
  generalize w3.alloc (.cells #[.slice sA sn sc, .slice sB sm sd, .int .i64 f, .bool o] 32) = w4 at *
  have x0 := Sm.cells_of g4 0 _ rfl; have x1 := Sm.cells_of g4 1 _ rfl; have x2 := Sm.cells_of g4 2 _ rfl; have x3 := Sm.cells_of g4 3 _ rfl
  have HO4 := Lib.hid o4
  have HR4 := Lib.hid r4
  clear o4 r4 g4
  go_upto_region 9 with (fail)
  have WN := Kp.W9.new HO4.out HR4.out
  obtain ⟨X, hX⟩ : ∃ X, X = w4.heap.size := ⟨_, rfl⟩
  rw [← hX] at WN ⊢
  clear hX x0 x1 x2 x3
  generalize w4.alloc (.cells #[.pointer (some ⟨r, 0, none⟩), .pointer none, .slice sA sn sc, .slice sB sm sd, .int .i64 f, .bool o, .int .i64 0, .string ⟨#[]⟩, .int .u64 0, .int .i64 0, .int .u64 0, .bool false, .int .i64 0] 41) = w5 at *
  have OP1 := Lib.hid (OPN.out _ _ _ _ _ _ _ _ _ _ _ _ _ _ _ _ WN (by rw [Dk.waits_new]; omega))
  clear WN
  go_upto_region 11 with (go_at_call 9; refine OP1.out.mono ?_; rintro e w6 ⟨ko, K, n, rfl, W6, iff6⟩)
  cases ko with
  | none =>
    obtain ⟨q0, q1, q2, q3, q4, q5, hks⟩ := Kp.kks_six none K
    have x1 := Sm.cells_of (W6.lit rfl hks) 1 (.pointer none) rfl
    have HB6 := Lib.hid W6.disk.below
    clear W6 iff6 hks
    go_wp2_with (go_at_call 10; refine (kpPut_nil _ _).mono ?_; rintro e w7 ⟨rfl, rfl⟩)
    go_ret
    exact ⟨rfl, HB6.out⟩
  | some k =>
    obtain ⟨q0, q1, q2, q3, q4, q5, hks⟩ := Kp.kks_six (some k) K
    have x1 := Sm.cells_of (W6.lit rfl hks) 1 (.pointer (some ⟨k, 0, none⟩)) rfl
    have H6 := Lib.hid W6
    have I6 := Lib.hid iff6
    clear W6 iff6 hks
    go_upto_region 13 with (fail)
    clear x1
    go_wp2_with fail
    go_loopw [13] (fun s13 wr => ∃ (i : Nat) (fp : Nat → Prop) (M : Dk.Md) (sA : Option Addr) (sn sc : Nat) (sB : Option Addr) (sm sd : Nat) (f : Int) (o : Bool) (ko : Option Nat) (K : Kp.Md) (n : Int), s13 = .int .i64 i ∧ i ≤ l.length ∧ Kp.W9 w.heap.size w wr X r fp M sA sn sc sB sm sd f o ko K n ∧ (ko = none ↔ n ≠ 0) ∧ Dk.waits M ≤ 9 * i) (fun s13 _ => l.length - (intOf s13).toNat)
    case atStart => exact ⟨0, fp, _, sA, sn, sc, sB, sm, sd, f, o, some k, K, n, rfl, Nat.zero_le _, H6.out, I6.out, by rw [Dk.waits_new]; omega⟩
    case round =>
      clear H6 I6
      obtain ⟨i, fp, M, sA, sn, sc, sB, sm, sd, f, o, ko, K, n, rfl, hi, hw, hif, hwt⟩ := hrel
      by_cases hlt : i < l.length
      · have hki : (i : Int) < (l.length : Int) := by omega
        have hsuc : IntKind.i64.wrap ((i : Int) + 1) = ((i + 1 : Nat) : Int) := by simp [IntKind.wrap, IntKind.bits, IntKind.signed]; omega
        obtain ⟨gb, ob, hA, hgl, hat⟩ : ∃ gb ob, A = some ⟨gb, ob, none⟩ ∧ gb < w.heap.size ∧ Kp.actsAt w gb ob l := by
          rcases HIT.out with h | ⟨gb, ob, h1, h2, h3⟩
          · rw [h] at hlt; simp at hlt
          · exact ⟨gb, ob, h1, h2, h3⟩
        subst hA
        obtain ⟨c0, c1, c2, c3, c4, c5⟩ := (hat i hlt).below hw.disk.below hgl
        have hsm := (FA.out.2 i hlt).1
        obtain ⟨x, hx⟩ : ∃ x, x = l[i] := ⟨_, rfl⟩
        have hok := HS.out _ (List.getElem_mem hlt)
        rw [← hx] at c0 c1 c2 c3 c4 c5 hok hsm
        obtain ⟨kA, kc, hkv, -⟩ := id hok.keep
        have DO := Lib.hid (w9does_any hw hif rfl (by omega) x hok hsm a)
        unfold Kp.Ac.cells at DO
        rw [hkv] at DO c5
        have HWT := Lib.hid hwt
        clear hw hif hok hsm hx hat hgl hkv hwt
        go_upto_region 18 with (go_at_call 11; refine DO.out.mono ?_; rintro e w7 ⟨rfl, hd⟩)
        clear c0 c1 c2 c3 c4 c5 DO
        obtain ⟨fp', M', tA, tn, tc, tB, tm, td, f2, o2, ko', K', n', W7, iff7, wt7⟩ := hd
        have WT7 : Hid (Dk.waits M' ≤ 9 * (i + 1)) := by show _ ≤ _; have := HWT.out; omega
        cases ko' with
        | none =>
          have hn0 : n' ≠ 0 := iff7.1 rfl
          have hnb : (n' == 0) = false := beq_eq_false_iff_ne.2 hn0
          have hnc : (n' != 0) = true := by simp [bne, hnb]
          obtain ⟨q0, q1, q2, q3, q4, q5, hks⟩ := Kp.kks_six none K'
          have xl := W7.lit rfl hks
          have x1 := Sm.cells_of xl 1 (.pointer none) rfl
          have x12 := Sm.cells_of xl 12 (.int .i64 n') rfl
          have H7 := Lib.hid W7
          have I7 := Lib.hid iff7
          have HN0 := Lib.hid hn0
          clear W7 iff7 hks xl hn0 wt7
          go_wp2_with (go_at_call 12; refine (kpGet_nil _).mono ?_; rintro e w8 ⟨rfl, rfl⟩)
          go_roundw
          case rel => exact ⟨i + 1, fp', M', tA, tn, tc, tB, tm, td, f2, o2, none, K', n', rfl, hlt, H7.out, ⟨fun _ => HN0.out, fun _ => rfl⟩, WT7.out⟩
          case measure => simp [intOf]; omega
        | some k' =>
          have hn0 : n' = 0 := Decidable.not_not.1 fun e => absurd (iff7.2 e) (by simp)
          subst hn0
          obtain ⟨at7, -, -, -, fit7⟩ := W7.kept k' rfl
          obtain ⟨ts, hts⟩ : ∃ b : ByteArray, b = ⟨K'.text.toArray⟩ := ⟨_, rfl⟩
          obtain ⟨gn, hgn⟩ : ∃ g, g = K'.gen := ⟨_, rfl⟩
          obtain ⟨gb2, hgb⟩ : ∃ b, b = decide ((0 : Int) < (gn : Int)) := ⟨_, rfl⟩
          have GT := Lib.hid (kpGet_at at7 fit7.none fit7.text fit7.gen)
          have hgd : decide (0 < K'.gen) = gb2 := by rw [hgb, ← hgn]; simp
          rw [← hts, hgd] at GT
          have hks : Kp.kks (some k') K' = #[.int .i64 K'.from_, .string ts, .int .u64 (gn : Nat), .int .i64 (1 - (K'.next : Int)), .int .u64 (K'.seen : Nat), .bool K'.broken] := by rw [hts, hgn]; rfl
          have xl := W7.lit rfl hks
          have x1 := Sm.cells_of xl 1 (.pointer (some ⟨k', 0, none⟩)) rfl
          have hgb' : decide ((0 : Int) < (gn : Int)) = gb2 := hgb.symm
          have H7 := Lib.hid W7
          have I7 := Lib.hid iff7
          have HKS := Lib.hid hks
          clear W7 iff7 hks xl at7 fit7 hts hgn hgb hgd wt7
          go_upto_region 19 with (go_at_call 12; refine GT.out.mono ?_; rintro e w8 ⟨rfl, k8⟩)
          have H8 := Lib.hid (H7.out.low' k8)
          have xl := H8.out.lit rfl HKS.out
          clear x1 k8
          have x7 := Sm.cells_of xl 7 (.string ts) rfl
          have x8 := Sm.cells_of xl 8 (.int .u64 (gn : Nat)) rfl
          have x12 := Sm.cells_of xl 12 (.int .i64 0) rfl
          clear xl
          cases gb2 with
          | true =>
            have hg0 := of_decide_eq_true hgb'
            clear hgb'
            go_wp2
            go_roundw
            case rel => exact ⟨i + 1, fp', M', tA, tn, tc, tB, tm, td, f2, o2, some k', K', 0, rfl, hlt, H8.out, I7.out, WT7.out⟩
            case measure => simp [intOf]; omega
          | false =>
            have hg0 := of_decide_eq_false hgb'
            clear hgb'
            go_wp2
            go_roundw
            case rel => exact ⟨i + 1, fp', M', tA, tn, tc, tB, tm, td, f2, o2, some k', K', 0, rfl, hlt, H8.out, I7.out, WT7.out⟩
            case measure => simp [intOf]; omega
      · have hki : ¬ (i : Int) < (l.length : Int) := by omega
        have HB := Lib.hid hw.disk.below
        clear hw hif
        go_wp2
        go_ret
        exact ⟨rfl, HB.out⟩
end Go.Proofs.Ytmdhnokgjapglaa
