/-
  What slices.Grow makes of none, and slices.Concat of two rows of packets.
-/
import Derived.Test.YtimbcmcmidnlfaaNtFns
namespace Go.Proofs.Ytimbcmcmidnlfaa
open Go.RowKit
namespace Nt
theorem zeros_size (n : Nat) : (Builtin.zeroCells #[Value.int .i64 0, .int .i64 0, .string ⟨#[]⟩] n).size = n * 3 := by rw [size_zeroCells]; rfl
end Nt
set_option maxRecDepth 100000 in
set_option maxHeartbeats 1000000 in
theorem growPk_any (w : World) (n : Nat) (hn : n ≤ 1099511627776) :
    Calls Try.prog 75 #[.slice none 0 0, .int .i64 n] w fun e w' => ∃ v, e = .returned v ∧ w'.ownsRow w.heap.size 25 3 v 0 [] ∧ Below w.heap.size w w' := by
  obtain ⟨i0, hi, hz0, hz1, hz2⟩ := info_parts Nt.info3_packet
  by_cases h0 : n = 0
  · subst h0
    go_enter Try.func75, Try.ntmps75
    go_wp2
    go_ret
    exact ⟨_, rfl, World.ownsRow_nil _ _ _ _, Below.refl _ w⟩
  · have hp : (0 : Int) < n := by omega
    have hr := fun ty => Lib.run_append_nil_zeros (P := Try.prog) w 37 3 ty 25 i0 _ .i64 .i64 Try.underlying37 Try.underlying3 hi hz0 n (by omega) (by omega) (by omega) (by rw [hz2]; omega)
    have hge : n ≤ grownCap w n 0 25 := grownCap_ge w n 0 _
    have hle : grownCap w n 0 25 ≤ maxLen := grownCap_le_maxLen w n 0 _ (by unfold maxLen; omega)
    have HR := Lib.hid hr
    have HGE := Lib.hid hge
    have HLE := Lib.hid hle
    clear hr hge hle
    generalize grownCap w n 0 25 = cap at *
    go_enter Try.func75, Try.ntmps75
    go_wp2_with (at_builtin; refine Lib.wpList_append_run _ rfl _ _ _ _ rfl _ _ rfl rfl _ _ (HR.out _) ?_)
    have hcle : (cap : Int) ≤ 9223372036854775807 := by have := HLE.out; unfold maxLen at this; omega
    have hcn : n ≤ cap := HGE.out
    go_wp2
    go_ret
    refine ⟨_, rfl, ⟨rfl, .inr ⟨w.heap.size, cap, _, rfl, Nat.le_refl _, heap_alloc_new w.drew _, Nat.zero_le _, HLE.out, ?_, by simp⟩⟩, (Below.refl _ w).drew.alloc (by simp) _⟩
    rw [Array.size_append, Nt.zeros_size, Nt.zeros_size]
    omega
set_option maxRecDepth 100000 in
set_option maxHeartbeats 1000000 in
theorem concatPk_any (w : World) (b : Nat) (a1 a2 : Addr) (n1 c1 n2 c2 : Nat) (l1 l2 : List Nt.Pk) (hg : w.heap[b]? = some (.cells #[.slice (some a1) n1 c1, .slice (some a2) n2 c2] 37 (0, 0)))
    (e1 : n1 = l1.length) (e2 : n2 = l2.length) (h1 : ∀ j u, (Nt.flat l1)[j]? = some u → w.cell? (a1.add j) = some u) (h2 : ∀ j u, (Nt.flat l2)[j]? = some u → w.cell? (a2.add j) = some u) (hn : n1 + n2 ≤ 1099511627776) :
    Calls Try.prog 60 #[.slice (some ⟨b, 0, none⟩) 2 2] w fun e w' => ∃ v, e = .returned v ∧ Nt.PksAt w' w.heap.size v (l1 ++ l2) ∧ Below w.heap.size w w' := by
  obtain ⟨i0, hi, hz0, hz1, hz2⟩ := info_parts Nt.info3_packet
  have q0 := Sm.cells_of hg 0 _ rfl
  have q1 := Sm.cells_of hg 1 _ rfl
  have Q0 := Lib.hid q0
  have Q1 := Lib.hid q1
  have H1 := Lib.hid h1
  have H2 := Lib.hid h2
  have E1 := Lib.hid e1
  have E2 := Lib.hid e2
  have HI := Lib.hid hi
  have hbl := Sm.lt_of hg
  clear hg q0 q1 h1 h2 e1 e2 hi
  go_enter Try.func60, Try.ntmps60
  go_wp2
  go_loopw [3, 5, 11] (fun s3 _ s11 wr => ∃ k : Nat, s11 = .int .i64 k ∧ k ≤ 2 ∧ s3 = .int .i64 ((if k = 0 then 0 else if k = 1 then n1 else n1 + n2 : Nat) : Int) ∧ w = wr) (fun _ _ s11 _ => 2 - (intOf s11).toNat)
  case atStart => exact ⟨0, rfl, by omega, rfl, rfl⟩
  case round =>
    obtain ⟨k, rfl, hk, rfl, rfl⟩ := hrel
    match k, hk with
    | 0, _ =>
      have x0 := Q0.out
      go_wp2
      go_roundw
      case rel => exact ⟨1, rfl, by omega, by simp, trivial⟩
      case measure => simp [intOf]
    | 1, _ =>
      have x0 := Q1.out
      have hw2 : IntKind.i64.wrap ((n1 : Int) + (n2 : Int)) = ((n1 + n2 : Nat) : Int) := by simp [IntKind.wrap, IntKind.bits, IntKind.signed]; omega
      go_wp2
      go_roundw
      case rel => exact ⟨2, rfl, by omega, by simp, trivial⟩
      case measure => simp [intOf]
    | 2, _ =>
      have GR : Hid (Calls Try.prog 75 #[.slice none 0 0, .int .i64 ((n1 : Int) + (n2 : Int))] w fun e w' => ∃ v, e = .returned v ∧ w'.ownsRow w.heap.size 25 3 v 0 [] ∧ Below w.heap.size w w') := by
        rw [← Int.natCast_add]; exact growPk_any w (n1 + n2) hn
      go_wp2_with fail
      refine GR.out.mono ?_
      rintro e w2 ⟨v0, rfl, ho, hb⟩
      have HO := Lib.hid ho
      have HB := Lib.hid hb
      clear ho hb GR
      go_wp2
      go_loopw [6, 8, 27] (fun s6 _ s27 wx => ∃ k : Nat, s27 = .int .i64 k ∧ k ≤ 2 ∧ wx.ownsRow w.heap.size 25 3 s6 (if k = 0 then 0 else if k = 1 then n1 else n1 + n2) (if k = 0 then [] else if k = 1 then Nt.flat l1 else Nt.flat (l1 ++ l2)) ∧ Below w.heap.size w wx) (fun _ _ s27 _ => 2 - (intOf s27).toNat)
      case atStart => exact ⟨0, rfl, by omega, by simpa using HO.out, HB.out⟩
      case round =>
        clear HO HB
        obtain ⟨k, rfl, hk, ho, hb⟩ := hrel
        have hbs := hb.size
        match k, hk with
        | 0, _ =>
          simp only [if_true] at ho
          obtain ⟨A', c', rfl⟩ := Sm.own_shape ho
          have x0 := (hb.cell (p := ⟨b, 0, none⟩) hbl).trans Q0.out
          have HO := Lib.hid ho
          clear ho
          go_wp2_with (at_builtin; refine wpList_append_own _ rfl _ _ 37 rfl w.heap.size 25 i0 _ 3 32 Try.underlying37 HI.out hz0 hz1 hz2 rfl (by decide) _ _ _ rfl HO.out a1 n1 c1 (Nt.flat l1) rfl (by rw [Nt.flat_length, E1.out]) (fun j u hj => (hb.cell (p := a1.add j) (by have := World.block_lt_of_cell? w _ (H1.out j u hj); exact this)).trans (H1.out j u hj)) (Nt.flat_single l1) (by unfold maxLen; omega) (by omega) hbs ?_
                       intro v' w4 hown' hgrow _)
          have hb4 := hb.grown hgrow (by omega) (fun q hq => (Nt.own_blk HO.out hq).1)
          simp only [Nat.zero_add, List.nil_append] at hown'
          have HW := Lib.hid hown'
          have HB := Lib.hid hb4
          clear hown' hgrow hb4 hb HO
          go_wp2
          go_roundw
          case rel => exact ⟨1, rfl, by omega, by simpa using HW.out, HB.out⟩
          case measure => simp [intOf]
        | 1, _ =>
          simp only [if_true, show ¬ (1 = 0) by decide, if_false] at ho
          obtain ⟨A', c', rfl⟩ := Sm.own_shape ho
          have x0 := (hb.cell (p := ⟨b, 1, none⟩) hbl).trans Q1.out
          have HO := Lib.hid ho
          clear ho
          go_wp2_with (at_builtin; refine wpList_append_own _ rfl _ _ 37 rfl w.heap.size 25 i0 _ 3 32 Try.underlying37 HI.out hz0 hz1 hz2 rfl (by decide) _ _ _ rfl HO.out a2 n2 c2 (Nt.flat l2) rfl (by rw [Nt.flat_length, E2.out]) (fun j u hj => (hb.cell (p := a2.add j) (by have := World.block_lt_of_cell? w _ (H2.out j u hj); exact this)).trans (H2.out j u hj)) (Nt.flat_single l2) (by unfold maxLen; omega) (by omega) hbs ?_
                       intro v' w4 hown' hgrow _)
          have hb4 := hb.grown hgrow (by omega) (fun q hq => (Nt.own_blk HO.out hq).1)
          have HW := Lib.hid hown'
          have HB := Lib.hid hb4
          clear hown' hgrow hb4 hb HO
          go_wp2
          go_roundw
          case rel => exact ⟨2, rfl, by omega, by rw [Nt.flat_append]; simpa using HW.out, HB.out⟩
          case measure => simp [intOf]
        | 2, _ =>
          have HW := Lib.hid ho
          clear ho
          go_wp2
          go_ret
          exact ⟨_, rfl, by have := HW.out; unfold Nt.PksAt; rw [List.length_append, ← E1.out, ← E2.out]; simpa using this, hb⟩
end Go.Proofs.Ytimbcmcmidnlfaa
