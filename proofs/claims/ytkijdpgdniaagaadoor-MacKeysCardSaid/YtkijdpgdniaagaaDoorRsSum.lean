/-
  What the document's Sum does: a text's hash.
-/
import Derived.Test.YtkijdpgdniaagaaDoorRsTurn
import Derived.Test.YtkijdpgdniaagaaDoorRsPrimes
import Derived.Test.YtkijdpgdniaagaaDoorRsRow
import Derived.Deep.RegionHeld3
import Derived.Deep.Cut
namespace Go.Proofs.YtkijdpgdniaagaaDoor
open Go.RowKit
namespace Sm
/-- The padded text, and its blocks. -/
def padded (t : List UInt8) : List UInt8 := t ++ pad t.length
theorem padded_length (t : List UInt8) : (padded t).length = t.length + ((119 - t.length % 64) % 64 + 9) := by
  rw [padded, List.length_append, pad_length]
theorem range_row2 {w : World} {h : Nat} {cs : List Value} {t : TypeId} (hb : w.heap[h]? = some (.cells cs.toArray t (0, 0))) : w.rangeAt h 0 cs := fun j v hv => by
  rw [Nat.zero_add]
  exact cells_of hb j v (by rw [List.getElem?_toArray]; exact hv)
theorem grown_setRow (w : World) (b : Nat) (c : Array Value) : w.grownBy (w.setRow b c) (some b) :=
  ⟨rfl, rfl, rfl, by rw [size_setRow]; exact Nat.le_refl _, fun i _ hn => setRow_other _ _ _ _ (fun e => hn (by rw [e]))⟩
theorem info32 {c : Array Value} (h : c.size = 32) : (Tryd.prog.info? 23).map (·.size) = some c.size := by rw [h]; kernel_rfl
theorem RowB.shape {w : World} {B : Nat} {v : Value} {xs : List UInt8} (h : RowB w B v xs) : ∃ A c, v = .slice A xs.length c := by
  obtain ⟨g, cap, _, _, _, h1, _⟩ := h
  exact ⟨_, cap, h1⟩
def sliceLen : Value → Nat
  | .slice _ n _ => n
  | _ => 0
theorem pad_two (t : List UInt8) : padded t = (t ++ [128]) ++ List.replicate ((119 - t.length % 64) % 64) 0 ++ be8 (t.length * 8) := by
  simp [padded, pad]
theorem rep_snoc (n : Nat) : List.replicate n (0 : UInt8) ++ [0] = List.replicate (n + 1) 0 := by
  rw [List.replicate_succ']
theorem sum_padded (t : List UInt8) : sum t = outN (st (padded t)).l := rfl
theorem h0_of : (⟨h0.l.getD 0 0, h0.l.getD 1 0, h0.l.getD 2 0, h0.l.getD 3 0, h0.l.getD 4 0, h0.l.getD 5 0, h0.l.getD 6 0, h0.l.getD 7 0⟩ : V) = h0 := rfl
end Sm

set_option maxRecDepth 100000 in
set_option maxHeartbeats 8000000 in
theorem rssum_any (s : ByteArray) (hs : s.size ≤ 35184372088832) (w : World) :
    Calls Tryd.prog 16 #[.string s] w fun e w' => e = .returned (.agg (Lib.byteCells (Sm.sum s.data.toList)).toArray) ∧ Below w.heap.size w w' := by
  have b1 : Below w.heap.size w (w.alloc (.cells (Sm.rowB 32 []) 23)) := (Below.refl _ w).alloc (Nat.le_refl _) _
  have r1 : (w.alloc (.cells (Sm.rowB 32 []) 23)).heap[w.heap.size]? = some (.cells (Sm.rowB 32 []) 23 (0, 0)) := heap_alloc_new w _
  have s1 : w.heap.size < (w.alloc (.cells (Sm.rowB 32 []) 23)).heap.size := by simp
  go_enter Tryd.func16, Tryd.ntmps16
  go_wp2_with fail
  change Calls _ _ _ (w.alloc (.cells (Sm.rowB 32 []) 23)) _
  generalize w.alloc (.cells (Sm.rowB 32 []) 23) = W1 at *
  refine (primes_any W1).mono ?_
  rintro e W2 ⟨A, c, rfl, hown, k2⟩
  have b2 := Sm.low_low b1 (Nat.le_refl _) k2
  have r2 := (k2.block _ s1).trans r1
  have s2 := k2.size
  have HO := Lib.hid hown
  clear hown k2 r1 b1
  go_wp2_with fail
  have hA0 := Sm.own_cell HO.out Sm.ps_length 0 (by omega)
  obtain ⟨g, rfl, _⟩ := hA0
  have hp2 : ∀ i, i < 64 → W2.cell? ⟨g, i, none⟩ = some (.int .u64 (Sm.ps.getD i 0 : Nat)) := fun i hi => by
    obtain ⟨g', e, h⟩ := Sm.own_cell HO.out Sm.ps_length i hi
    have e2 : g = g' := by have := Option.some.inj e; injection this
    rw [e2]; exact h
  have hg2 : g < W2.heap.size := World.block_lt_of_cell? W2 _ (hp2 0 (by omega))
  have b3 : Below w.heap.size w ((W2.alloc (.cells (Sm.rowOf 64 []) 53)).alloc (.cells (Sm.rowOf 8 []) 54)) := (b2.alloc b2.size _).alloc (Nat.le_trans b2.size (by simp)) _
  have k3 : Below W2.heap.size W2 ((W2.alloc (.cells (Sm.rowOf 64 []) 53)).alloc (.cells (Sm.rowOf 8 []) 54)) := ((Below.refl _ W2).alloc (Nat.le_refl _) _).alloc (by simp) _
  have q3 : ((W2.alloc (.cells (Sm.rowOf 64 []) 53)).alloc (.cells (Sm.rowOf 8 []) 54)).heap[W2.heap.size]? = some (.cells (Sm.rowOf 64 []) 53 (0, 0)) := by
    rw [Below.heap_alloc _ _ _ (by simp)]; exact heap_alloc_new W2 _
  have p3 : ((W2.alloc (.cells (Sm.rowOf 64 []) 53)).alloc (.cells (Sm.rowOf 8 []) 54)).heap[W2.heap.size + 1]? = some (.cells (Sm.rowOf 8 []) 54 (0, 0)) := by
    have := heap_alloc_new (W2.alloc (.cells (Sm.rowOf 64 []) 53)) (.cells (Sm.rowOf 8 []) 54)
    simpa using this
  change Code.wp _ _ _ _ ((W2.alloc (.cells (Sm.rowOf 64 []) 53)).alloc (.cells (Sm.rowOf 8 []) 54))
  generalize (W2.alloc (.cells (Sm.rowOf 64 []) 53)).alloc (.cells (Sm.rowOf 8 []) 54) = W3 at *
  have r3 := (k3.block w.heap.size (by omega)).trans r2
  have HP := Lib.hid (fun i hi => (k3.cell (p := ⟨g, i, none⟩) hg2).trans (hp2 i hi))
  obtain ⟨N, hN⟩ : ∃ N, N = w.heap.size := ⟨_, rfl⟩
  obtain ⟨M, hM⟩ : ∃ M, M = W2.heap.size := ⟨_, rfl⟩
  rw [← hM] at q3 p3 hg2 ⊢
  rw [← hN] at r3 b3 ⊢
  have hNM : N < M := by omega
  have hNw : N ≤ w.heap.size := by omega
  have HN := Lib.hid hN
  have R3 := Lib.hid r3
  have hs3 : M + 1 < W3.heap.size := Sm.lt_of p3
  have hgne : g ≠ M := by omega
  clear hp2 k3 r3 hN hM r2 b2 s1 s2 HO
  have nf : ∀ x y : Nat, x < y → y ≠ x := fun x y h => by omega
  go_loopw [6] (fun i wr => ∃ k : Nat, k ≤ 64 ∧ i = .int .i64 k ∧ wr.heap[M]? = some (.cells (Sm.rowOf 64 (Sm.ks.take k)) 53 (0, 0)) ∧ wr.heap[M + 1]? = some (.cells (Sm.rowOf 8 (Sm.h0.l.take k)) 54 (0, 0)) ∧ Below M W3 wr) (fun i _ => 64 - (intOf i).toNat)
  case atStart => exact ⟨0, by omega, rfl, q3, p3, Below.refl _ _⟩
  case round =>
    clear q3 p3 nf
    obtain ⟨k, hk, rfl, hr1, hr2, hbk⟩ := hrel
    have HR1 := Lib.hid hr1
    have HR2 := Lib.hid hr2
    clear hr1 hr2
    by_cases hlt : k < 64
    · have hki : (k : Int) < 64 := by omega
      have hpk : wr.cell? ⟨g, k, none⟩ = some (.int .u64 (Sm.ps.getD k 0 : Nat)) := (hbk.cell (p := ⟨g, k, none⟩) hg2).trans (HP.out k hlt)
      have hpok := Sm.ps_ok k hlt
      have hkr := Sm.ks_root k hlt
      have B1 : Hid (∀ wx : World, Calls Tryd.prog 31 #[.int .u64 (Sm.ps.getD k 0 : Nat), .bool true] wx fun e w' => e = .returned (.int .u32 (Sm.ks.getD k 0 : Nat)) ∧ wx = w') := fun wx => by
        rw [hkr]; exact behind_any (Sm.ps.getD k 0) true hpok.2 wx
      have l1 : (Sm.ks.take k).length = k := by rw [List.length_take, Sm.ks_length]; omega
      have e1 := Lib.hid (Sm.rowOf_set (n := 64) (l := Sm.ks.take k) (by omega) (Sm.ks.getD k 0))
      have t1 : Hid (Sm.ks.take (k + 1) = Sm.ks.take k ++ [Sm.ks.getD k 0]) := Sm.take_snoc _ _ (by rw [Sm.ks_length]; exact hlt)
      have L1 := Lib.hid l1
      obtain ⟨o1, ho1⟩ := Sm.rowOf_some (n := 64) (l := Sm.ks.take k) k (by omega) hlt
      have c1 := Sm.cells_of HR1.out k o1 ho1
      have f1 := Sm.free_of HR1.out k
      clear ho1 l1 hkr
      by_cases h8 : k < 8
      · have h8i : (k : Int) < 8 := by omega
        have hhr := Sm.h0_root k h8
        have B2 : Hid (∀ wx : World, Calls Tryd.prog 31 #[.int .u64 (Sm.ps.getD k 0 : Nat), .bool false] wx fun e w' => e = .returned (.int .u32 (Sm.h0.l.getD k 0 : Nat)) ∧ wx = w') := fun wx => by
          rw [hhr]; exact behind_any (Sm.ps.getD k 0) false hpok.2 wx
        have l2 : (Sm.h0.l.take k).length = k := by rw [List.length_take]; show min k 8 = k; omega
        have e2 := Lib.hid (Sm.rowOf_set (n := 8) (l := Sm.h0.l.take k) (by omega) (Sm.h0.l.getD k 0))
        have t2 : Hid (Sm.h0.l.take (k + 1) = Sm.h0.l.take k ++ [Sm.h0.l.getD k 0]) := Sm.take_snoc _ _ h8
        have L2 := Lib.hid l2
        obtain ⟨o2, ho2⟩ := Sm.rowOf_some (n := 8) (l := Sm.h0.l.take k) k (by omega) h8
        have c2 := Sm.cells_of HR2.out k o2 ho2
        have f2 := Sm.free_of HR2.out k
        clear ho2 l2 hhr hpok
        generalize Sm.ps.getD k 0 = pk at *
        generalize Sm.ks.getD k 0 = xk at *
        generalize Sm.h0.l.getD k 0 = xh at *
        go_wp2_with fail
        refine (B1.out _).mono ?_
        rintro e w' ⟨rfl, rfl⟩
        go_wp2_with fail
        refine (B2.out _).mono ?_
        rintro e w' ⟨rfl, rfl⟩
        go_wp2
        go_roundw
        case rel =>
          refine ⟨k + 1, by omega, by go_num, ?_, ?_, (hbk.setCell (p := ⟨M, k, none⟩) (Nat.le_refl _) _).setCell (p := ⟨M + 1, k, none⟩) (by show M ≤ M + 1; omega) _⟩
          · have e := e1.out
            rw [L1.out] at e
            rw [Below.heap_setCell _ _ _ _ (by show M ≠ M + 1; omega), t1.out, ← e]
            exact Sm.heap_set HR1.out k _
          · have e := e2.out
            rw [L2.out] at e
            rw [t2.out, ← e]
            exact Sm.heap_set ((Below.heap_setCell wr ⟨M, k, none⟩ _ (M + 1) (by show M + 1 ≠ M; omega)).trans HR2.out) k _
        case measure => simp [intOf]; omega
      · have h8i : ¬ (k : Int) < 8 := by omega
        have t2 : Hid (Sm.h0.l.take (k + 1) = Sm.h0.l.take k) := by
          show _ = _
          rw [List.take_of_length_le (by show 8 ≤ k + 1; omega), List.take_of_length_le (by show 8 ≤ k; omega)]
        clear hpok
        generalize Sm.ps.getD k 0 = pk at *
        generalize Sm.ks.getD k 0 = xk at *
        go_wp2_with fail
        refine (B1.out _).mono ?_
        rintro e w' ⟨rfl, rfl⟩
        go_wp2
        go_roundw
        case rel =>
          refine ⟨k + 1, by omega, by go_num, ?_, ?_, hbk.setCell (p := ⟨M, k, none⟩) (Nat.le_refl _) _⟩
          · have e := e1.out
            rw [L1.out] at e
            rw [t1.out, ← e]
            exact Sm.heap_set HR1.out k _
          · rw [Below.heap_setCell _ _ _ _ (by show M + 1 ≠ M; omega), t2.out]
            exact HR2.out
        case measure => simp [intOf]; omega
    · obtain rfl : k = 64 := by omega
      have ht1 : Sm.ks.take 64 = Sm.ks := List.take_of_length_le (by rw [Sm.ks_length]; exact Nat.le_refl _)
      have ht2 : Sm.h0.l.take 64 = Sm.h0.l := List.take_of_length_le (by show 8 ≤ 64; omega)
      have q4 := HR1.out
      have p4 := HR2.out
      rw [ht1, Sm.rowOf_full Sm.ks_length] at q4
      rw [ht2, Sm.rowOf_full (by rfl)] at p4
      have r4 := (hbk.block N hNM).trans R3.out
      have b4 : Below N w wr := b3.trans (hbk.mono (by omega))
      have hs4 := hbk.size
      clear HR1 HR2 HP R3 ht1 ht2 hbk b3
      obtain ⟨W4, hW4⟩ : ∃ W, W = wr := ⟨_, rfl⟩
      rw [← hW4] at q4 p4 r4 b4 hs4 ⊢
      clear hW4
      obtain ⟨hcv, hrow5, hb5⟩ := Sm.conv_rowB W4 s
      obtain ⟨W5, hW5⟩ : ∃ W, W = Lib.bytesWorld W4 5 s := ⟨_, rfl⟩
      obtain ⟨cp, hcp⟩ : ∃ c, c = grownCap W4 s.size 0 5 := ⟨_, rfl⟩
      rw [← hW5, ← hcp] at hcv hrow5
      rw [← hW5] at hb5
      have b5 := Sm.low_low b4 (by omega) hb5
      have q5 := (hb5.block M (by omega)).trans q4
      have p5 := (hb5.block (M + 1) (by omega)).trans p4
      have r5 := (hb5.block N (by omega)).trans r4
      have hs5 := hb5.size
      have k6 : Below W5.heap.size W5 (W5.alloc (.cells #[.int .u8 128] 5)) := (Below.refl _ W5).alloc (Nat.le_refl _) _
      have hR6 := hrow5.low k6 (Nat.le_refl _)
      have hx6 : (W5.alloc (.cells #[.int .u8 128] 5)).cell? ⟨W5.heap.size, 0, none⟩ = some (.int .u8 ((128 : UInt8).toNat : Int)) := Sm.cells_of (heap_alloc_new W5 _) 0 _ rfl
      have HR6 := Lib.hid hR6
      have HX6 := Lib.hid hx6
      have K6 := Lib.hid k6
      have Q5 := Lib.hid q5
      have P5 := Lib.hid p5
      have R5 := Lib.hid r5
      have hsl : s.data.toList.length = s.size := rfl
      clear hW5 hcp hrow5 hb5 q4 p4 r4 b4 hR6 hx6 k6 q5 p5 r5
      go_wp2_with (at_builtin; refine Sm.wpList_append_byte rfl (.tmp 35) (.tmp 36) rfl (.slice (some ⟨W4.heap.size, 0, none⟩) s.size cp) s.data.toList rfl HR6.out 128 W5.heap.size rfl HX6.out (by omega) (by simp; omega) ?_; intro v7 W7 hR7 hb7)
      have b7 : Below N w W7 := (b5.trans (K6.out.mono (by omega))).trans (hb7.mono (by omega))
      have kk : Below W4.heap.size W5 W7 := (K6.out.mono (by omega)).trans hb7
      have q7 := (kk.block M (by omega)).trans Q5.out
      have p7 := (kk.block (M + 1) (by omega)).trans P5.out
      have r7 := (kk.block N (by omega)).trans R5.out
      have hs7 := Nat.le_trans hs5 kk.size
      obtain ⟨L, hL⟩ : ∃ L, L = W4.heap.size := ⟨_, rfl⟩
      rw [← hL] at hR7 hs4 hs5 hs7
      have hML : M + 1 < L := by omega
      have HL := Lib.hid hL
      have HR7 := Lib.hid hR7
      have Q7 := Lib.hid q7
      have P7 := Lib.hid p7
      have R7 := Lib.hid r7
      clear hL hR7 q7 p7 r7 kk hb7 HX6 HR6 K6 Q5 P5 R5 hcv
      have hs1 : (s.data.toList ++ [128]).length = s.size + 1 := by rw [List.length_append]; rfl
      obtain ⟨A7, c7, rfl⟩ := HR7.out.shape
      obtain ⟨T0, hT0⟩ : ∃ T, T = s.data.toList ++ [128] := ⟨_, rfl⟩
      rw [← hT0] at HR7 hs1 ⊢
      have HT0 := Lib.hid hT0
      obtain ⟨n0, hn0⟩ : ∃ n, n = T0.length := ⟨_, rfl⟩
      have HR7b : Hid (Sm.RowB W7 L (.slice A7 n0 c7) (T0 ++ List.replicate 0 0)) := by
        show Sm.RowB _ _ _ _
        rw [hn0, List.replicate_zero, List.append_nil]; exact HR7.out
      have hn0s : n0 = s.size + 1 := by omega
      rw [← hn0]
      obtain ⟨Z, hZ⟩ : ∃ Z, Z = (119 - s.size % 64) % 64 := ⟨_, rfl⟩
      have HZ := Lib.hid hZ
      have hZ64 : Z < 64 := by omega
      have hZn : ∀ z, z ≤ Z → ((n0 + z) % 64 = 56 ↔ z = Z) := fun z hz => by omega
      have HZN := Lib.hid hZn
      have HN0 := Lib.hid hn0s
      have HNT := Lib.hid hn0
      clear hT0 hZ hZn hn0s hn0 HR7 hs1
      go_wp2_with fail
      go_loopw [7] (fun v wr => ∃ (z n : Nat) (A : Option Addr) (c : Nat), z ≤ Z ∧ n = n0 + z ∧ v = .slice A n c ∧ Sm.RowB wr L (.slice A n c) (T0 ++ List.replicate z 0) ∧ Below L W7 wr) (fun v _ => (n0 + Z) - Sm.sliceLen v)
      case atStart => exact ⟨0, n0, A7, c7, by omega, rfl, rfl, HR7b.out, Below.refl _ _⟩
      case round =>
        clear HR7b
        obtain ⟨z, n, A, c, hz, hn, rfl, hrow, hbk⟩ := hrel
        have HR := Lib.hid hrow
        have hiff := HZN.out z hz
        have hnl : n ≤ 35184372089000 := by have := HN0.out; omega
        have HNN := Lib.hid hn
        rw [← hn] at hiff
        clear hrow hn
        have hmr : (n : Int) % 64 = ((n % 64 : Nat) : Int) := by omega
        generalize n % 64 = r at *
        by_cases hzz : z = Z
        · have hr56 : r = 56 := hiff.2 hzz
          subst hr56
          go_wp2
          have hRw := HR.out
          rw [hzz] at hRw
          have hlen : (T0 ++ List.replicate Z 0).length = n := by
            rw [List.length_append, List.length_replicate, ← HNT.out]; have := HNN.out; omega
          obtain ⟨T1, hT1⟩ : ∃ T, T = T0 ++ List.replicate Z 0 := ⟨_, rfl⟩
          rw [← hT1] at hRw hlen
          have hPAD : Hid (Sm.padded s.data.toList = T1 ++ Sm.be8 (s.size * 8)) := by
            show _ = _
            rw [Sm.pad_two, hT1, HT0.out, HZ.out]; rfl
          have HRW := Lib.hid hRw
          have HLEN := Lib.hid hlen
          have hsn : s.size ≤ 35184372088832 := hs
          obtain ⟨W8, hW8⟩ : ∃ W, W = wr := ⟨_, rfl⟩
          rw [← hW8] at HRW hbk ⊢
          have b8 : Below N w W8 := b7.trans (hbk.mono (by omega))
          have Q8 := Lib.hid ((hbk.block M (by omega)).trans Q7.out)
          have P8 := Lib.hid ((hbk.block (M + 1) (by omega)).trans P7.out)
          have R8 := Lib.hid ((hbk.block N (by omega)).trans R7.out)
          have hs8 := Nat.le_trans hs7 hbk.size
          clear hW8 hRw hlen hT1 HR hbk b7 Q7 P7 R7 hs7 hiff hmr hzz HZN HZ HT0 HNT HN0
          have hstart : Sm.RowB W8 L (.slice A n c) (T1 ++ (Sm.be8 (s.size * 8)).take 0) := by
            rw [List.take_zero, List.append_nil]; exact HRW.out
          go_loopw [7, 9] (fun v i wr => ∃ (j m : Nat) (kv : Int) (A : Option Addr) (c : Nat), j ≤ 8 ∧ kv = 7 - j ∧ i = .int .i64 kv ∧ m = n + j ∧ v = .slice A m c ∧ Sm.RowB wr L (.slice A m c) (T1 ++ (Sm.be8 (s.size * 8)).take j) ∧ Below L W8 wr) (fun _ i _ => (intOf i + 1).toNat)
          case atStart => exact ⟨0, n, 7, A, c, by omega, by omega, rfl, rfl, rfl, hstart, Below.refl _ _⟩
          case round =>
            clear hstart
            obtain ⟨j, m, kv, A', c', hj, hkv, rfl, hm, rfl, hrow, hbk⟩ := hrel
            have HR := Lib.hid hrow
            have HM := Lib.hid hm
            have hml : m ≤ 35184372089100 := by omega
            clear hrow hm
            by_cases hlt : j < 8
            · obtain ⟨d, hd⟩ : ∃ d : Nat, d = 7 - j := ⟨_, rfl⟩
              obtain rfl : kv = (d : Int) := by omega
              have hd8 : d < 8 := by omega
              have hdi : (0 : Int) ≤ d := by omega
              have hX : ((s.size : Int) * 8 / 2 ^ (8 * d) % 256) = ((UInt8.ofNat (s.size * 8 / 2 ^ (8 * d))).toNat : Int) := by
                rw [UInt8.toNat_ofNat']; push_cast; rfl
              have HX := Lib.hid hX
              have hst : Hid ((Sm.be8 (s.size * 8)).take (j + 1) = (Sm.be8 (s.size * 8)).take j ++ [UInt8.ofNat (s.size * 8 / 2 ^ (8 * d))]) := by
                show _ = _
                rw [Sm.be8_step _ _ hlt, show 56 - 8 * j = 8 * d by omega]
              have hsw := hbk.size
              have HKV := Lib.hid hkv
              have HD := Lib.hid hd
              have k6 : Below wr.heap.size wr (wr.alloc (.cells #[.int .u8 ((s.size : Int) * 8 / 2 ^ (8 * d) % 256)] 5)) := (Below.refl _ wr).alloc (Nat.le_refl _) _
              have HR6 := Lib.hid (HR.out.low k6 (Nat.le_refl _))
              have HX6 : Hid ((wr.alloc (.cells #[.int .u8 ((s.size : Int) * 8 / 2 ^ (8 * d) % 256)] 5)).cell? ⟨wr.heap.size, 0, none⟩ = some (.int .u8 ((UInt8.ofNat (s.size * 8 / 2 ^ (8 * d))).toNat : Int))) := by
                show _ = _
                rw [← HX.out]
                exact Sm.cells_of (heap_alloc_new wr _) 0 _ rfl
              have hxl : (T1 ++ (Sm.be8 (s.size * 8)).take j).length = m := by
                rw [List.length_append, HLEN.out, List.length_take, Sm.be8_length, HM.out]; omega
              have K6 := Lib.hid k6
              have HXL := Lib.hid hxl
              have HJ : Hid ((d : Int) - 1 = 7 - ((j + 1 : Nat) : Int)) := by show _ = _; omega
              clear hX hd hkv k6 hxl
              go_wp2_with (at_builtin; refine Sm.wpList_append_byte rfl (.tmp 53) (.tmp 60) rfl (.slice A' m c') (T1 ++ (Sm.be8 (s.size * 8)).take j) rfl HR6.out (UInt8.ofNat (s.size * 8 / 2 ^ (8 * d))) wr.heap.size rfl HX6.out (by have := HXL.out; omega) (by simp; omega) ?_; intro v9 W9 hR9 hb9)
              rw [List.append_assoc, ← hst.out] at hR9
              have hlen9 : (T1 ++ (Sm.be8 (s.size * 8)).take (j + 1)).length = m + 1 := by
                rw [List.length_append, HLEN.out, List.length_take, Sm.be8_length, HM.out]; omega
              obtain ⟨A9, c9, rfl⟩ := hR9.shape
              rw [hlen9] at hR9 ⊢
              have HR9 := Lib.hid hR9
              have HB9 := Lib.hid ((hbk.trans (K6.out.mono (by omega))).trans hb9)
              clear hR9 hb9 hlen9
              go_wp2
              go_roundw
              case rel => exact ⟨j + 1, m + 1, (d : Int) - 1, A9, c9, by omega, HJ.out, rfl, by have := HM.out; omega, rfl, HR9.out, HB9.out⟩
              case measure => simp [intOf]
            · obtain rfl : j = 8 := by omega
              obtain rfl : kv = -1 := by omega
              have hpl := Sm.padded_length s.data.toList
              have hrw := HR.out
              rw [List.take_of_length_le (by rw [Sm.be8_length]; omega), ← hPAD.out] at hrw
              obtain ⟨PT, hPT⟩ : ∃ P, P = Sm.padded s.data.toList := ⟨_, rfl⟩
              have HSUM : Hid (Sm.sum s.data.toList = Sm.outN (Sm.st PT).l) := by show _ = _; rw [hPT]; exact Sm.sum_padded _
              have hpm : PT.length = m := by rw [hPT, hPAD.out, List.length_append, HLEN.out, Sm.be8_length, HM.out]
              have hm64 : m % 64 = 0 := by
                have e : (Sm.padded s.data.toList).length = m := by rw [← hPT]; exact hpm
                rw [hpl] at e
                have e2 : s.data.toList.length = s.size := rfl
                omega
              rw [← hPT] at hrw
              obtain ⟨W9, hW9⟩ : ∃ W, W = wr := ⟨_, rfl⟩
              rw [← hW9] at hrw hbk ⊢
              have b9 : Below N w W9 := b8.trans (hbk.mono (by omega))
              have q9 := (hbk.block M (by omega)).trans Q8.out
              have p9 := (hbk.block (M + 1) (by omega)).trans P8.out
              have r9 := (hbk.block N (by omega)).trans R8.out
              have hs9 := Nat.le_trans hs8 hbk.size
              obtain ⟨gb, cap, cur, lo, hi, hA', hgb, hrow9, hle9, hcs9, hfr9, hcell9⟩ := hrw
              have hA2 : A' = some ⟨gb, 0, none⟩ := by injection hA'
              have hc2 : c' = cap := by injection hA'
              subst hA2
              subst hc2
              have hgb9 : gb < W9.heap.size := Sm.lt_of hrow9
              have HCELL : Hid (∀ j, j < m → W9.cell? ⟨gb, j, none⟩ = some (.int .u8 (PT.getD j 0).toNat)) := fun j hj => by
                have h := hcell9 j (by omega)
                simp only [World.cell?, hrow9]
                exact h
              have hcapm : m ≤ c' := by omega
              have hgbM : gb ≠ M + 1 := by omega
              have HPM := Lib.hid hpm
              have Q9 := Lib.hid q9
              have P9 := Lib.hid p9
              have R9 := Lib.hid r9
              have hM1 : M + 1 < W9.heap.size := by omega
              have hMM : M < W9.heap.size := by omega
              have hN9 : N < W9.heap.size := by omega
              clear hW9 HR hbk b8 Q8 P8 R8 hs8 hA' hrow9 hle9 hcs9 hfr9 hcell9 hpl q9 r9 hPT HRW hPAD HLEN hpm hkv
              obtain ⟨ck, hck⟩ : ∃ c, c = Sm.nums Sm.ks := ⟨_, rfl⟩
              have HCK := Lib.hid hck
              have HI64 : Hid ((Tryd.prog.info? 53).map (·.size) = some ck.length) := by show _ = _; rw [hck, Sm.nums_length, Sm.ks_length]; kernel_rfl
              have HU64 : Hid (Tryd.prog.underlying 53 = some (.array 64 52)) := Tryd.underlying53
              have HU8 : Hid (Tryd.prog.underlying 54 = some (.array 8 52)) := Tryd.underlying54
              clear hck
              go_wp2_with fail
              go_loopw [10] (fun a wr => ∃ (i at' : Nat), i ≤ m / 64 ∧ at' = 64 * i ∧ a = .int .i64 at' ∧ wr.heap[M + 1]? = some (.cells (Sm.nums (Sm.feed Sm.h0 i PT).l).toArray 54 (0, 0)) ∧ W9.grownBy wr (some (M + 1))) (fun a _ => m - (intOf a).toNat)
              case atStart => exact ⟨0, 0, by omega, rfl, rfl, p9, Sm.grown_refl _ _⟩
              case round =>
                clear p9
                obtain ⟨i, at', hi, hat, rfl, hrv, hgr⟩ := hrel
                have HAT := Lib.hid hat
                by_cases hlt : i < m / 64
                · have h1i : (at' : Int) < m := by omega
                  have h2i : (at' : Int) + 64 ≤ m := by omega
                  have h3i : (0 : Int) ≤ at' := by omega
                  have hamx : at' ≤ 35184372089100 := by omega
                  have haw : IntKind.i64.wrap ((at' : Int) + 64) = (at' : Int) + 64 := by rw [IntKind.wrap_i64]; omega
                  have hsz : at' + 64 ≤ m := by omega
                  have j1 : (0 : Int) ≤ (at' : Int) + 64 := by omega
                  have j2 : (at' : Int) + 64 ≤ c' := by omega
                  have j3 : ((at' : Int) + 64).toNat = at' + 64 := by omega
                  have j4 : ¬ c' = at' := by omega
                  have j5 : at' + 64 - at' = 64 := by omega
                  have hok := Sm.feed_ok Sm.h0_ok i PT
                  have HFD : Hid (Sm.feed Sm.h0 (i + 1) PT = Sm.turn (Sm.feed Sm.h0 i PT) ((PT.drop (64 * i)).take 64)) := Sm.feed_snoc _ _ _
                  have hcw : ∀ j, j < 64 → wr.drew.cell? ⟨gb, at' + j, none⟩ = some (.int .u8 (((PT.drop (64 * i)).take 64).getD j 0).toNat) := fun j hj => by
                    have h := (Sm.grown_cell hgr hgb9 hgbM (o := at' + j)).trans (HCELL.out (at' + j) (by omega))
                    have e : ((PT.drop (64 * i)).take 64).getD j 0 = PT.getD (at' + j) 0 := by
                      rw [List.getD_eq_getElem?_getD, List.getElem?_take, if_pos hj, List.getElem?_drop, ← HAT.out, List.getD_eq_getElem?_getD]
                    rw [e]; exact h
                  have hgw : gb < wr.drew.heap.size := Nat.lt_of_lt_of_le hgb9 hgr.size
                  have hT := rsturn_any wr.drew (Sm.feed Sm.h0 i PT) hok ((PT.drop (64 * i)).take 64) gb at' (c' - at') hgw hcw
                  obtain ⟨cv, hcv⟩ : ∃ c, c = Sm.nums (Sm.feed Sm.h0 i PT).l := ⟨_, rfl⟩
                  rw [← hcv, ← HCK.out] at hT
                  rw [← hcv] at hrv
                  have TURN := Lib.hid hT
                  have HCV : Hid (cv.toArray.size = 8) := by show _ = _; rw [hcv, List.size_toArray, Sm.nums_length]; rfl
                  have HI8 : Hid ((Tryd.prog.info? 54).map (·.size) = some cv.length) := by show _ = _; rw [hcv, Sm.nums_length]; kernel_rfl
                  have HC8 : Hid ((Sm.nums (Sm.turn (Sm.feed Sm.h0 i PT) ((PT.drop (64 * i)).take 64)).l).toArray.size = 8) := by show _ = _; rw [List.size_toArray, Sm.nums_length]; rfl
                  have HO8 := Lib.hid (Sm.nums_one (Sm.turn (Sm.feed Sm.h0 i PT) ((PT.drop (64 * i)).take 64)).l)
                  have RV0 : Hid (wr.drew.heap[M + 1]? = some (.cells cv.toArray 54 (0, 0))) := hrv
                  have RV : Hid (wr.drew.rangeAt (M + 1) 0 cv) := Sm.range_row2 RV0.out
                  have hqk : wr.drew.heap[M]? = some (.cells (Sm.nums Sm.ks).toArray 53 (0, 0)) := (hgr.block M hMM (by intro e; have := Option.some.inj e; omega)).trans Q9.out
                  rw [← HCK.out] at hqk
                  have RK : Hid (wr.drew.rangeAt M 0 ck) := Sm.range_row2 hqk
                  have HM1 : Hid (M + 1 < wr.drew.heap.size) := Sm.lt_of RV0.out
                  have hgr : W9.grownBy wr.drew (some (M + 1)) := grown_drew hgr
                  clear hrv hok hcw hgw hT hcv hqk hat
                  go_upto_region 21 with (fail)
                  refine wp_region_noPanic ?_
                  refine wp_region_held_drew (S := fun _ => True) (by kernel_rfl) trivial (fun hHeld => ?_)
                  refine wpAnyH_take (i := 2) (oi := ⟨some 70, _, _, _, _, _⟩) (v := (.slice (some ⟨gb, 0, none⟩) m c')) rfl (by kernel_rfl) (by kernel_rfl) (by kernel_rfl) (fun _ _ _ h => h) (Or.inl ⟨by rfl, ?_⟩) (by assumption) ?_
                  · intro w hSw; (try dsimp only at hSw); go_simp
                  simp only [Act.put, List.setIfInBounds_toArray, List.set_cons_zero, List.set_cons_succ]
                  refine wpAnyH_take (i := 3) (oi := ⟨some 71, _, _, _, _, _⟩) (v := (.int .i64 at')) rfl (by kernel_rfl) (by kernel_rfl) (by kernel_rfl) (fun _ _ _ h => h) (Or.inl ⟨by rfl, ?_⟩) (by assumption) ?_
                  · intro w hSw; (try dsimp only at hSw); go_simp
                  simp only [Act.put, List.setIfInBounds_toArray, List.set_cons_zero, List.set_cons_succ]
                  refine wpAnyH_take (i := 4) (oi := ⟨some 72, _, _, _, _, _⟩) (v := (.int .i64 at')) rfl (by kernel_rfl) (by kernel_rfl) (by kernel_rfl) (fun _ _ _ h => h) (Or.inl ⟨by rfl, ?_⟩) (by assumption) ?_
                  · intro w hSw; (try dsimp only at hSw); go_simp
                  simp only [Act.put, List.setIfInBounds_toArray, List.set_cons_zero, List.set_cons_succ]
                  refine wpAnyH_take (i := 5) (oi := ⟨some 73, _, _, _, _, _⟩) (v := (.int .i64 ((at' : Int) + 64))) rfl (by kernel_rfl) (by kernel_rfl) (by kernel_rfl) (fun _ _ _ h => h) (Or.inl ⟨by rfl, ?_⟩) (by assumption) ?_
                  · intro w hSw; (try dsimp only at hSw); go_simp
                  simp only [Act.put, List.setIfInBounds_toArray, List.set_cons_zero, List.set_cons_succ]
                  refine wpAnyH_take (i := 6) (oi := ⟨some 74, _, _, _, _, _⟩) (v := (.slice (some ⟨gb, at', none⟩) 64 (c' - at'))) rfl (by kernel_rfl) (by kernel_rfl) (by kernel_rfl) (fun _ _ _ h => h) (Or.inl ⟨by rfl, ?_⟩) (by assumption) ?_
                  · intro w hSw; (try dsimp only at hSw); go_simp
                  simp only [Act.put, List.setIfInBounds_toArray, List.set_cons_zero, List.set_cons_succ]
                  refine wpAnyH_ready (rs := [0, 1]) (by kernel_rfl) (by simp) ?_
                  refine AllReadyH.cons (o := ⟨some 68, _, _, _, _, _⟩) rfl (fun K hK => ?_) (AllReadyH.cons (o := ⟨some 69, _, _, _, _, _⟩) rfl (fun K hK => ?_) AllReadyH.nil)
                  · rw [if_pos (by rfl)]
                    refine wp_load_mid 54 (.tmp 5) rfl (M + 1) 0 rfl cv _ RV.out HU8.out rfl HI8.out ?_
                    simp only [Act.put, List.setIfInBounds_toArray, List.set_cons_zero, List.set_cons_succ]
                    refine hK.out _ _ trivial (fun _ => ?_)
                    clear hK K
                    refine wpAnyH_ready (rs := [1]) (by kernel_rfl) (by simp) ?_
                    refine AllReadyH.cons (o := ⟨some 69, _, _, _, _, _⟩) rfl (fun K hK => ?_) AllReadyH.nil
                    rw [if_pos (by rfl)]
                    refine wp_load_mid 53 (.tmp 4) rfl M 0 rfl ck _ RK.out HU64.out rfl HI64.out ?_
                    simp only [Act.put, List.setIfInBounds_toArray, List.set_cons_zero, List.set_cons_succ]
                    refine hK.out _ _ trivial (fun _ => ?_)
                    clear hK K
                    refine wpAnyH_ready (rs := [7]) (by kernel_rfl) (by simp) ?_
                    refine AllReadyH.cons (o := ⟨some 75, _, _, _, _, _⟩) rfl (fun K hK => ?_) AllReadyH.nil
                    go_simp
                    refine (TURN.out).mono ?_
                    rintro e W11 ⟨rfl, k11⟩
                    have r11 := (k11.block (M + 1) HM1.out).trans RV0.out
                    have HR11 := Lib.hid r11
                    have HG11 := Lib.hid (Sm.grown_below hgr (k11.mono hgr.size))
                    clear r11 k11
                    refine hK.out _ _ trivial (fun _ => ?_)
                    clear hK K
                    refine wpAnyH_ready (rs := [8]) (by kernel_rfl) (by simp) ?_
                    refine AllReadyH.cons (o := ⟨none, _, _, _, _, _⟩) rfl (fun K hK => ?_) AllReadyH.nil
                    rw [if_pos (by rfl)]
                    refine wp_store_row 54 (.tmp 5) (.tmp 75) rfl (M + 1) _ rfl rfl 54 _ HR11.out (Sm.info8 HC8.out) (HCV.out.trans HC8.out.symm) HO8.out ?_
                    simp only [Act.put]
                    refine hK.out _ _ trivial (fun _ => ?_)
                    clear hK K
                    refine wpAnyH_done (by kernel_rfl) ?_ _
                    refine NoPanic.normal ?_
                    have hfin := setRow_heap W11 (M + 1) _ (Sm.nums (Sm.turn (Sm.feed Sm.h0 i PT) ((PT.drop (64 * i)).take 64)).l).toArray _ _ HR11.out
                    have hgf := Sm.grown_trans HG11.out (Sm.grown_setRow W11 (M + 1) (Sm.nums (Sm.turn (Sm.feed Sm.h0 i PT) ((PT.drop (64 * i)).take 64)).l).toArray)
                    rw [← HFD.out] at hfin hgf ⊢
                    generalize W11.setRow (M + 1) (Sm.nums (Sm.feed Sm.h0 (i + 1) PT).l).toArray = W12 at *
                    have HFIN := Lib.hid hfin
                    clear hfin HR11 HG11
                    go_wp2
                    go_roundw
                    case rel => exact ⟨i + 1, at' + 64, by omega, by have := HAT.out; omega, by go_num, HFIN.out, hgf⟩
                    case measure => simp [intOf]; omega
                  · rw [if_pos (by rfl)]
                    refine wp_load_mid 53 (.tmp 4) rfl M 0 rfl ck _ RK.out HU64.out rfl HI64.out ?_
                    simp only [Act.put, List.setIfInBounds_toArray, List.set_cons_zero, List.set_cons_succ]
                    refine hK.out _ _ trivial (fun _ => ?_)
                    clear hK K
                    refine wpAnyH_ready (rs := [0]) (by kernel_rfl) (by simp) ?_
                    refine AllReadyH.cons (o := ⟨some 68, _, _, _, _, _⟩) rfl (fun K hK => ?_) AllReadyH.nil
                    rw [if_pos (by rfl)]
                    refine wp_load_mid 54 (.tmp 5) rfl (M + 1) 0 rfl cv _ RV.out HU8.out rfl HI8.out ?_
                    simp only [Act.put, List.setIfInBounds_toArray, List.set_cons_zero, List.set_cons_succ]
                    refine hK.out _ _ trivial (fun _ => ?_)
                    clear hK K
                    refine wpAnyH_ready (rs := [7]) (by kernel_rfl) (by simp) ?_
                    refine AllReadyH.cons (o := ⟨some 75, _, _, _, _, _⟩) rfl (fun K hK => ?_) AllReadyH.nil
                    go_simp
                    refine (TURN.out).mono ?_
                    rintro e W11 ⟨rfl, k11⟩
                    have r11 := (k11.block (M + 1) HM1.out).trans RV0.out
                    have HR11 := Lib.hid r11
                    have HG11 := Lib.hid (Sm.grown_below hgr (k11.mono hgr.size))
                    clear r11 k11
                    refine hK.out _ _ trivial (fun _ => ?_)
                    clear hK K
                    refine wpAnyH_ready (rs := [8]) (by kernel_rfl) (by simp) ?_
                    refine AllReadyH.cons (o := ⟨none, _, _, _, _, _⟩) rfl (fun K hK => ?_) AllReadyH.nil
                    rw [if_pos (by rfl)]
                    refine wp_store_row 54 (.tmp 5) (.tmp 75) rfl (M + 1) _ rfl rfl 54 _ HR11.out (Sm.info8 HC8.out) (HCV.out.trans HC8.out.symm) HO8.out ?_
                    simp only [Act.put]
                    refine hK.out _ _ trivial (fun _ => ?_)
                    clear hK K
                    refine wpAnyH_done (by kernel_rfl) ?_ _
                    refine NoPanic.normal ?_
                    have hfin := setRow_heap W11 (M + 1) _ (Sm.nums (Sm.turn (Sm.feed Sm.h0 i PT) ((PT.drop (64 * i)).take 64)).l).toArray _ _ HR11.out
                    have hgf := Sm.grown_trans HG11.out (Sm.grown_setRow W11 (M + 1) (Sm.nums (Sm.turn (Sm.feed Sm.h0 i PT) ((PT.drop (64 * i)).take 64)).l).toArray)
                    rw [← HFD.out] at hfin hgf ⊢
                    generalize W11.setRow (M + 1) (Sm.nums (Sm.feed Sm.h0 (i + 1) PT).l).toArray = W12 at *
                    have HFIN := Lib.hid hfin
                    clear hfin HR11 HG11
                    go_wp2
                    go_roundw
                    case rel => exact ⟨i + 1, at' + 64, by omega, by have := HAT.out; omega, by go_num, HFIN.out, hgf⟩
                    case measure => simp [intOf]; omega
                · obtain rfl : i = m / 64 := by omega
                  have hatm : at' = m := by omega
                  have hst : Sm.feed Sm.h0 (m / 64) PT = Sm.st PT := by unfold Sm.st; rw [HPM.out]
                  rw [hst] at hrv
                  have h1i : ¬ (at' : Int) < m := by omega
                  have b10 : Below N w wr := b9.trans (Sm.grown_from hgr (by omega) (by omega))
                  have r10 := (hgr.block N hN9 (by intro e; have := Option.some.inj e; omega)).trans R9.out
                  have hv5 := Sm.st_ok PT
                  obtain ⟨v5, hv5e⟩ : ∃ v, v = Sm.st PT := ⟨_, rfl⟩
                  rw [← hv5e] at hrv hv5
                  have HSM : Hid (Sm.sum s.data.toList = Sm.outN v5.l) := by show _ = _; rw [hv5e]; exact HSUM.out
                  have hs10 := hgr.size
                  clear hst hv5e hgr hat
                  obtain ⟨WA, hWA⟩ : ∃ W, W = wr := ⟨_, rfl⟩
                  rw [← hWA] at hrv b10 r10 hs10 ⊢
                  have g1 : (WA.alloc (.cells (Sm.rowB 32 []) 23)).heap[WA.heap.size]? = some (.cells (Sm.rowB 32 []) 23 (0, 0)) := heap_alloc_new WA _
                  have g2 : Below WA.heap.size WA (WA.alloc (.cells (Sm.rowB 32 []) 23)) := (Below.refl _ WA).alloc (Nat.le_refl _) _
                  have g3 : (WA.alloc (.cells (Sm.rowB 32 []) 23)).heap[M + 1]? = some (.cells (Sm.nums v5.l).toArray 54 (0, 0)) := (g2.block (M + 1) (by omega)).trans hrv
                  have g4 := (g2.block N (by omega)).trans r10
                  have b11 : Below N w (WA.alloc (.cells (Sm.rowB 32 []) 23)) := b10.trans (g2.mono (by omega))
                  clear hWA hrv r10 b10 g2
                  go_wp2_with fail
                  change Code.wp _ _ _ _ (WA.alloc (.cells (Sm.rowB 32 []) 23))
                  generalize WA.alloc (.cells (Sm.rowB 32 []) 23) = WB at *
                  obtain ⟨O, hO⟩ : ∃ O, O = WA.heap.size := ⟨_, rfl⟩
                  rw [← hO] at g1 hs10 ⊢
                  have hMO : M + 1 < O := by omega
                  have G3 := Lib.hid g3
                  have G4 := Lib.hid g4
                  have HO := Lib.hid hO
                  have hs11 : O < WB.heap.size := Sm.lt_of g1
                  clear hO g3 g4
                  go_loopw [12] (fun i wr => ∃ k : Nat, k ≤ 32 ∧ i = .int .i64 k ∧ wr.heap[O]? = some (.cells (Sm.rowB 32 ((List.range k).map (Sm.outB v5.l))) 23 (0, 0)) ∧ Below O WB wr) (fun i _ => 32 - (intOf i).toNat)
                  case atStart => exact ⟨0, by omega, rfl, g1, Below.refl _ _⟩
                  case round =>
                    clear g1
                    obtain ⟨k, hk, rfl, hrow, hbk⟩ := hrel
                    have HR := Lib.hid hrow
                    clear hrow
                    by_cases hlt : k < 32
                    · have hki : (k : Int) < 32 := by omega
                      have cw : wr.cell? ⟨M + 1, k / 4, none⟩ = some (.int .u32 (v5.l.getD (k / 4) 0 : Nat)) := by
                        refine Sm.cells_of ((hbk.block (M + 1) (by omega)).trans G3.out) (k / 4) _ ?_
                        rw [List.getElem?_toArray]
                        exact Sm.nums_get (by show k / 4 < 8; omega)
                      obtain ⟨old, hold⟩ := Sm.rowB_some (n := 32) (l := (List.range k).map (Sm.outB v5.l)) k (by simp; omega) hlt
                      have hold := Sm.cells_of HR.out k old hold
                      have hfz := Sm.free_of HR.out k
                      have hx : Hid (Sm.outB v5.l k = UInt8.ofNat (v5.l.getD (k / 4) 0 / 2 ^ (24 - k % 4 * 8))) := rfl
                      generalize v5.l.getD (k / 4) 0 = x at *
                      have hX : ((x : Int) / 2 ^ (24 - 8 * (k % 4)) % 256) = ((UInt8.ofNat (x / 2 ^ (24 - k % 4 * 8))).toNat : Int) := by
                        rw [UInt8.toNat_ofNat', Nat.mul_comm 8]; push_cast; rfl
                      have HX := Lib.hid hX
                      have hk4 : 0 ≤ 24 - 8 * ((k : Int) % 4) := by omega
                      clear hX
                      go_wp2
                      go_roundw
                      case rel =>
                        refine ⟨k + 1, by omega, by go_num, ?_, ?_⟩
                        · have e := Sm.rowB_set (n := 32) (l := (List.range k).map (Sm.outB v5.l)) (by simp; omega) (Sm.outB v5.l k)
                          rw [List.length_map, List.length_range] at e
                          rw [HX.out, Sm.range_snoc, ← e, hx.out]
                          exact Sm.heap_set HR.out k _
                        · exact hbk.setCell (p := ⟨O, k, none⟩) (Nat.le_refl _) _
                      case measure => simp [intOf]; omega
                    · obtain rfl : k = 32 := by omega
                      have hlen32 : ((List.range 32).map (Sm.outB v5.l)).length = 32 := by simp
                      have hfull := Sm.rowB_full (n := 32) hlen32
                      have hr : wr.heap[O]? = some (.cells (Lib.byteCells (Sm.sum s.data.toList)).toArray 23 (0, 0)) := by rw [HR.out, hfull, HSM.out, Sm.outN_eq]
                      have hsz32 : (Lib.byteCells (Sm.sum s.data.toList)).toArray.size = 32 := by rw [List.size_toArray, Lib.byteCells_length, Sm.sum_length]
                      have hr0 := (hbk.block N (by omega)).trans G4.out
                      have HR8 := Lib.hid hr
                      have HR0 := Lib.hid hr0
                      have hone := Sm.bytes_one (Sm.sum s.data.toList)
                      have hz32 : (Sm.rowB 32 []).size = (Lib.byteCells (Sm.sum s.data.toList)).toArray.size := by rw [hsz32]; exact Sm.rowB_size (by simp)
                      have bfin : Below N w wr := b11.trans (hbk.mono (by omega))
                      clear hr hr0 hfull hlen32 hbk HR
                      obtain ⟨cs2, hcs2⟩ : ∃ c, c = (Lib.byteCells (Sm.sum s.data.toList)).toArray := ⟨_, rfl⟩
                      rw [← hcs2] at HR8 hsz32 hone hz32
                      have HC2 := Lib.hid hcs2
                      clear hcs2
                      go_wp2_with (first | (with_reducible refine wpList_load_row rfl 23 (.tmp 11) rfl O rfl 23 cs2 (0, 0) _ (by exact HR8.out) Tryd.underlying23 rfl (Sm.info32 hsz32) ?_) | (with_reducible refine wpList_store_row rfl 23 (.tmp 2) (.tmp 93) rfl N cs2 rfl rfl 23 _ (by exact HR0.out) (Sm.info32 hsz32) hz32 hone ?_))
                      exact bodyPost_ret (v := .agg cs2) (results_cell_row rfl _ _ N 23 _ (0, 0) _ rfl (setRow_heap _ N _ _ _ _ HR0.out) Tryd.underlying23 rfl (Sm.info32 hsz32)) rfl ⟨by rw [HC2.out], by rw [← HN.out]; exact Sm.below_setRow bfin (Nat.le_refl _) _⟩
        · have hr56 : r ≠ 56 := fun h => hzz (hiff.1 h)
          have hrb : ((r : Int) == 56) = false := by rw [beq_eq_false_iff_ne]; omega
          have hsw := hbk.size
          have k6 : Below wr.heap.size wr (wr.alloc (.cells #[.int .u8 0] 5)) := (Below.refl _ wr).alloc (Nat.le_refl _) _
          have HR6 := Lib.hid (HR.out.low k6 (Nat.le_refl _))
          have HX6 : Hid ((wr.alloc (.cells #[.int .u8 0] 5)).cell? ⟨wr.heap.size, 0, none⟩ = some (.int .u8 ((0 : UInt8).toNat : Int))) := Sm.cells_of (heap_alloc_new wr _) 0 _ rfl
          have hxl : (T0 ++ List.replicate z 0).length = n := by rw [List.length_append, List.length_replicate, ← HNT.out]; exact HNN.out.symm
          have K6 := Lib.hid k6
          have HXL := Lib.hid hxl
          clear hiff hr56 k6 hxl
          go_wp2_with (at_builtin; refine Sm.wpList_append_byte rfl (.tmp 42) (.tmp 43) rfl (.slice A n c) (T0 ++ List.replicate z 0) rfl HR6.out 0 wr.heap.size rfl HX6.out (by have := HXL.out; omega) (by simp; omega) ?_; intro v8 W8 hR8 hb8)
          obtain ⟨A8, c8, rfl⟩ := hR8.shape
          have HR8 := Lib.hid hR8
          have HB8 := Lib.hid ((hbk.trans (K6.out.mono (by omega))).trans hb8)
          clear hR8 hb8
          go_wp2
          go_roundw
          case rel =>
            have e := HNN.out
            have e2 := HXL.out
            refine ⟨z + 1, (T0 ++ List.replicate z 0 ++ [0]).length, A8, c8, by omega, by rw [List.length_append, e2]; simp; omega, rfl, ?_, HB8.out⟩
            have h := HR8.out
            rw [List.append_assoc, Sm.rep_snoc] at h ⊢
            exact h
          case measure =>
            have e := HNN.out
            have e3 : (T0 ++ List.replicate z 0 ++ [0]).length = n + 1 := by rw [List.length_append, HXL.out]; rfl
            show n0 + Z - (T0 ++ List.replicate z 0 ++ [0]).length < n0 + Z - n
            omega
end Go.Proofs.YtkijdpgdniaagaaDoor
