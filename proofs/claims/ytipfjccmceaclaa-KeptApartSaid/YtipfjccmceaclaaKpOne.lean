/-
  Texts that belong together, laid into one.
-/
import Derived.Test.YtipfjccmceaclaaMem
import Derived.Test.YtipfjccmceaclaaShelf
import Derived.Test.YtipfjccmceaclaaShMath
import Derived.Test.YtipfjccmceaclaaKpMath
import Derived.Test.YtipfjccmceaclaaDkIn
import Derived.Test.YtipfjccmceaclaaRowB
import Derived.Test.YtipfjccmceaclaaDkRefOf
import Derived.Deep.CutRange
import Derived.Laws.ResultCell
/-
  strings.Builder's WriteString and String, laid at this translation.
-/
namespace Go.Proofs.Ytipfjccmceaclaa
open Go.Shelf Go.RowKit
theorem lays166 : Go.Proofs.Lays.n166 Try.prog lays105_ren := { lays105 with }
theorem Builder_WriteString (B b : Nat) (bs : List Value) (s : ByteArray) (w : World) (h : Lib.IsBuilder 94 5 B b bs w) (hlen : bs.length + s.size ≤ 140737488355328) (hBw : B ≤ w.heap.size) :
    Calls Try.prog 40 #[.pointer (some ⟨b, 0, none⟩), .string s] w fun e w' => e = .returned (.tuple #[.int .i64 s.size, .nilIface]) ∧ (Lib.BuilderAt 94 5 B b (.pointer (some ⟨b, 0, none⟩)) (bs ++ Lib.strCells s) w' ∧ Below B w w') :=
  Any.Builder_WriteString lays166 Builder_Extra_105 B b bs s w h hlen hBw
end Go.Proofs.Ytipfjccmceaclaa

/-
  What kept's none, partsOf and generation tell.
-/
namespace Go.Proofs.Ytipfjccmceaclaa
open Go.RowKit
namespace Kp
theorem text_ne {s : ByteArray} (h : ¬ s.size = 0) : s.toList.isEmpty = false := by
  rw [Lib.toList_data, Bool.eq_false_iff]
  intro h2
  exact h (by rw [List.isEmpty_iff] at h2; show s.data.toList.length = 0; rw [h2]; rfl)
theorem text_none {s : ByteArray} (h : s.size = 0) : s.toList.isEmpty = true := by
  rw [Lib.toList_data]; exact List.isEmpty_iff.2 (List.eq_nil_of_length_eq_zero h)
theorem num_take {l : List UInt8} {i : Nat} (h : i < l.length) : Dk.num (l.take (i + 1)) = Dk.num (l.take i) + l[i].toNat * 2 ^ (8 * i) := by
  have hl : (l.take i).length = i := by rw [List.length_take]; omega
  have hlt : Dk.num (l.take i) < 2 ^ (8 * i) := by
    have := num_lt (l.take i)
    rw [hl] at this
    rwa [Nat.pow_mul]
  rw [List.take_succ_eq_append_getElem h, Dk.num_append, hl, Dk.num, Dk.num, Nat.zero_mul, Nat.xor_zero]
  apply Nat.eq_of_testBit_eq
  intro k
  have e := Nat.testBit_two_pow_mul_add (i := 8 * i) (b := Dk.num (l.take i)) l[i].toNat hlt k
  rw [Nat.add_comm, Nat.mul_comm] at e
  rw [e, Nat.testBit_xor, Nat.testBit_mul_two_pow]
  by_cases hk : k < 8 * i
  · simp [hk, show ¬ (8 * i ≤ k) by omega]
  · have : (Dk.num (l.take i)).testBit k = false := Nat.testBit_lt_two_pow (Nat.lt_of_lt_of_le hlt (Nat.pow_le_pow_right (n := 2) (by decide) (show 8 * i ≤ k by omega)))
    simp [hk, this, show 8 * i ≤ k by omega]
theorem or_take {l : List UInt8} {i : Nat} (h : i < l.length) : Dk.num (l.take i) ||| l[i].toNat * 2 ^ (8 * i) = Dk.num (l.take (i + 1)) := by
  have hl : (l.take i).length = i := by rw [List.length_take]; omega
  have hlt : Dk.num (l.take i) < 2 ^ (8 * i) := by
    have := num_lt (l.take i)
    rw [hl] at this
    rwa [Nat.pow_mul]
  rw [num_take h, Nat.or_comm, Nat.mul_comm, Nat.add_comm]
  exact (Nat.two_pow_add_eq_or_of_lt hlt _).symm
theorem ofInt64 {a : Nat} (h : a < 18446744073709551616) : (BitVec.ofInt 64 (a : Int)).toNat = a := by
  rw [BitVec.ofInt_natCast, BitVec.toNat_ofNat]; exact Nat.mod_eq_of_lt h
theorem wrap64n {a : Nat} (h : a < 18446744073709551616) : IntKind.u64.wrap (a : Int) = (a : Int) := by rw [IntKind.wrap_u64]; omega
theorem or64 {a b : Nat} (ha : a < 18446744073709551616) (hb : b < 18446744073709551616) : bits .or .u64 (a : Int) (b : Int) = ((a ||| b : Nat) : Int) := by
  show IntKind.u64.wrap ((BitVec.ofInt 64 (a : Int) ||| BitVec.ofInt 64 (b : Int)).toNat : Int) = _
  rw [BitVec.toNat_or, ofInt64 ha, ofInt64 hb]
  exact wrap64n (Nat.or_lt_two_pow (n := 64) ha hb)
theorem gen_step {l : List UInt8} {i : Nat} (h : i < l.length) (h8 : i < 8) :
    bits .or .u64 (Dk.num (l.take i) : Nat) (IntKind.u64.wrap (IntKind.u64.wrap (l[i].toNat : Int) * 2 ^ (8 * i))) = (Dk.num (l.take (i + 1)) : Nat) := by
  have hb := l[i].toNat_lt
  have h1 : IntKind.u64.wrap (l[i].toNat : Int) = (l[i].toNat : Int) := wrap64n (by omega)
  have hlt : ∀ k, k ≤ 8 → Dk.num (l.take k) < 18446744073709551616 := fun k hk => by
    have h2 := num_lt (l.take k)
    have h3 : 256 ^ (l.take k).length ≤ 256 ^ 8 := Nat.pow_le_pow_right (by decide) (by rw [List.length_take]; omega)
    exact Nat.lt_of_lt_of_le h2 h3
  have h4 : l[i].toNat * 2 ^ (8 * i) < 18446744073709551616 := by
    have h5 : l[i].toNat * 2 ^ (8 * i) ≤ 255 * 2 ^ 56 := Nat.mul_le_mul (by omega) (Nat.pow_le_pow_right (by decide) (by omega))
    have h6 : 255 * 2 ^ 56 < 18446744073709551616 := by decide
    omega
  have h7 : (l[i].toNat : Int) * 2 ^ (8 * i) = ((l[i].toNat * 2 ^ (8 * i) : Nat) : Int) := by push_cast; rfl
  rw [h1, h7, wrap64n h4, or64 (hlt i (by omega)) h4, or_take h]
end Kp
set_option maxRecDepth 100000 in
theorem kpPartsOf_any (w : World) (s : ByteArray) (hs : s.size ≤ 1099511627776) : Calls Try.prog 82 #[.string s] w fun e w' => e = .returned (.int .i64 (Kp.parts s.data.toList : Nat)) ∧ w = w' := by
  go_enter Try.func82, Try.ntmps82
  go_wp2
  all_goals
    go_ret
    refine ⟨?_, rfl⟩
    have hl : s.data.toList.length = s.size := by simp
    unfold Kp.parts
    rw [hl]
    refine congrArg (fun x => Ending.returned (Value.int .i64 x)) ?_
    omega
set_option maxRecDepth 100000 in
set_option maxHeartbeats 1000000 in
theorem kpGeneration_any (w : World) (s : ByteArray) (hs : s.size = 60 ∨ s.size = 0) : Calls Try.prog 59 #[.string s] w fun e w' => e = .returned (.int .u64 (Kp.gen s.data.toList : Nat)) ∧ w = w' := by
  by_cases h0 : s.size = 0
  · have he : s = ⟨#[]⟩ := by cases s with | mk a => simp [ByteArray.size] at h0; simp [h0]
    subst he
    go_enter Try.func59, Try.ntmps59
    go_wp2
    go_ret
    exact ⟨rfl, rfl⟩
  · have h60 : s.size = 60 := by omega
    have he := Kp.text_ne h0
    go_enter Try.func59, Try.ntmps59
    go_wp2
    go_loopw [3, 7] (fun s3 s7 wr => ∃ i : Nat, s7 = .int .i64 i ∧ i ≤ 8 ∧ s3 = .int .u64 (Dk.num (s.data.toList.take i) : Nat) ∧ w = wr) (fun _ s7 _ => 8 - (intOf s7).toNat)
    case atStart => exact ⟨0, rfl, Nat.zero_le _, rfl, rfl⟩
    case round =>
      obtain ⟨i, rfl, hi, rfl, rfl⟩ := hrel
      by_cases hil : i < 8
      · have hii : (i : Int) < 8 := by omega
        have his : (i : Int) < (s.size : Int) := by omega
        have hsuc : IntKind.i64.wrap ((i : Int) + 1) = ((i + 1 : Nat) : Int) := by simp [IntKind.wrap, IntKind.bits, IntKind.signed]; omega
        go_wp2
        go_roundw
        case rel =>
          refine ⟨i + 1, rfl, by omega, ?_, by trivial⟩
          exact congrArg (Value.int .u64) (Kp.gen_step (l := s.data.toList) (i := i) (by simpa using his) hil)
        case measure => simp only [intOf]; omega
      · have : ¬ ((i : Int) < 8) := by omega
        have e8 : i = 8 := by omega
        subst e8
        go_wp2
        go_ret
        exact ⟨rfl, rfl⟩
end Go.Proofs.Ytipfjccmceaclaa

/-
  What kept's body makes of a record and a part's number.
-/
namespace Go.Proofs.Ytipfjccmceaclaa
open Go.RowKit
namespace Kp
theorem zero60 : (Try.prog.info? 145).map (fun i => (i.zero, i.size)) = some (some (.agg (Sm.rowB 60 [])), 60) := by kernel_rfl
theorem low_next (k g : Nat) : low (k + 1) g = low k g ++ [UInt8.ofNat (g / 256 ^ k % 256)] := Sm.range_snoc
theorem low_cast (g k : Nat) : IntKind.u8.wrap ((g : Int) / 2 ^ (8 * k)) = ((UInt8.ofNat (g / 256 ^ k % 256)).toNat : Int) := by
  obtain ⟨q, hq⟩ : ∃ q, q = g / 2 ^ (8 * k) := ⟨_, rfl⟩
  have h1 : (g : Int) / 2 ^ (8 * k) = (q : Int) := by rw [hq]; push_cast; rfl
  rw [h1, IntKind.wrap_u8, UInt8.toNat_ofNat', show (256 : Nat) ^ k = 2 ^ (8 * k) by rw [Nat.pow_mul], ← hq]
  omega
theorem set_row {w : World} {N k n : Nat} {l : List UInt8} (h : w.heap[N]? = some (.cells (Sm.rowB 60 l) 145 (0, 0))) (hl : l.length < 60) (hk : l.length = k) (hn : n < 256) :
    (w.setCell ⟨N, k, none⟩ (.int .u8 (n : Int))).heap[N]? = some (.cells (Sm.rowB 60 (l ++ [UInt8.ofNat n])) 145 (0, 0)) := by
  have e : (n : Int) = ((UInt8.ofNat n).toNat : Int) := by rw [UInt8.toNat_ofNat']; omega
  rw [e, Sm.heap_set h, ← hk, Sm.rowB_set hl]
set_option maxRecDepth 100000 in
theorem copy_part {w : World} {N : Nat} {l : List UInt8} (s : ByteArray) (hs : s.size ≤ 48) (hl : l.length = 12) (h : w.heap[N]? = some (.cells (Sm.rowB 60 l) 145 (0, 0))) :
    (Builtin.copy_ #[70, 9] 3 #[.slice (some ⟨N, 12, none⟩) 48 48, .string s]).run Try.prog w = .ok (.int .i64 (s.size : Int)) (w.setRow N (Lib.byteCells (l ++ (s.data.toList ++ List.replicate (48 - s.data.toList.length) 0))).toArray) := by
  have r := Lib.run_copy_row_string (P := Try.prog) w 70 9 3 5 N 12 48 48 s _ 145 Try.underlying70 Dk.info_u8s h hs (by rw [Sm.rowB_size (by omega)]; omega)
  rw [r]
  congr 3
  have hls : s.data.toList.length = s.size := by simp
  have e1 : (Sm.rowB 60 l).toList = Lib.byteCells l ++ List.replicate 48 (.int .u8 0) := by
    simp [Sm.rowB, Lib.byteCells, hl]
  have hbl : (Lib.byteCells l).length = 12 := by rw [Lib.byteCells_length, hl]
  rw [e1, List.take_left' hbl, List.drop_append, hbl, List.drop_of_length_le (by rw [hbl]; omega), List.nil_append, List.drop_replicate, Lib.byteCells_append, Lib.byteCells_append, hls, show 48 - (12 + s.size - 12) = 48 - s.size by omega]
  simp [Lib.byteCells]
end Kp
set_option maxRecDepth 100000 in
set_option maxHeartbeats 1500000 in
theorem kpBody_any (w : World) (t : ByteArray) (g i : Nat) (ht : t.size ≤ 400) (hi : i < Kp.parts t.data.toList) :
    Calls Try.prog 83 #[.agg #[.string t, .int .u64 g], .int .i64 i] w fun e w' => e = .returned (.string ⟨(Kp.body t.data.toList g i).toArray⟩) ∧ Below w.heap.size w w' := by
  have hz1 := (zero_of_info Kp.zero60).1
  obtain ⟨bt, hbt⟩ : ∃ b : ByteArray, b = ⟨(Kp.body t.data.toList g i).toArray⟩ := ⟨_, rfl⟩
  rw [← hbt]
  have HBT := Lib.hid hbt
  clear hbt
  obtain ⟨z0, hz0⟩ : ∃ z, z = Sm.rowB 60 [] := ⟨_, rfl⟩
  rw [← hz0] at hz1
  have PO : Hid (∀ wx : World, Calls Try.prog 82 #[.string t] wx fun e w' => e = .returned (.int .i64 (Kp.parts t.data.toList : Nat)) ∧ wx = w') := fun wx => kpPartsOf_any wx t (by omega)
  have g1 : ∀ wx : World, (wx.alloc (.cells z0 145)).heap[wx.heap.size]? = some (.cells (Sm.rowB 60 (Kp.low 0 g)) 145 (0, 0)) := fun wx => by rw [hz0]; exact heap_alloc_new wx _
  have b0 : Below w.heap.size w (w.alloc (.cells #[.string t, .int .u64 (g : Int)] 81)) := (Below.refl _ w).alloc (Nat.le_refl _) _
  have r0 := heap_alloc_new w (.cells #[.string t, .int .u64 (g : Int)] 81)
  have HZ := Lib.hid hz0
  clear hz0
  go_enter Try.func83, Try.ntmps83
  go_upto_region 1 with (fail)
  generalize w.alloc (.cells #[.string t, .int .u64 (g : Int)] 81) = w1 at *
  have g2 := g1 w1
  have b1 : Below w.heap.size w (w1.alloc (.cells z0 145)) := b0.alloc b0.size _
  have r1 : (w1.alloc (.cells z0 145)).heap[w.heap.size]? = _ := ((Below.refl w1.heap.size w1).alloc (Nat.le_refl _) _).block w.heap.size (Sm.lt_of r0) |>.trans r0
  have hne : w.heap.size < w1.heap.size := Sm.lt_of r0
  clear g1 r0 b0
  go_upto_region 2 with (fail)
  generalize w1.alloc (.cells z0 145) = w2 at *
  obtain ⟨N, hN⟩ : ∃ N, N = w.heap.size := ⟨_, rfl⟩
  obtain ⟨N1, hN1⟩ : ∃ N, N = w1.heap.size := ⟨_, rfl⟩
  rw [← hN] at b1 r1 hne ⊢
  rw [← hN1] at g2 hne ⊢
  have HN := Lib.hid hN
  clear hN hN1 hz1
  go_wp2
  go_loopw [8] (fun s8 wr => ∃ k : Nat, k ≤ 8 ∧ s8 = .int .i64 k ∧ wr.heap[N1]? = some (.cells (Sm.rowB 60 (Kp.low k g)) 145 (0, 0)) ∧ wr.heap[N]? = some (.cells #[.string t, .int .u64 (g : Int)] 81 (0, 0)) ∧ Below N w wr) (fun s8 _ => 8 - (intOf s8).toNat)
  case atStart => exact ⟨0, by omega, rfl, g2, r1, b1⟩
  case round =>
    clear g2 r1 b1
    obtain ⟨k, hk, rfl, hg2, hr1, hb1⟩ := hrel
    have hll := Kp.low_length k g
    by_cases hlt : k < 8
    · have hki : (k : Int) < 8 := by omega
      have c1 := Sm.cells_of hr1 1 _ rfl
      obtain ⟨x, hx⟩ := Sm.rowB_some (n := 60) (l := Kp.low k g) k (by omega) (by omega)
      have c2 := Sm.cells_of hg2 k x hx
      have f2 := Sm.free_of hg2 k
      have v1 : IntKind.i64.wrap (8 * (k : Int)) = 8 * (k : Int) := IntWalk.i64_in _ (by omega)
      have p1 : (0 : Int) ≤ 8 * (k : Int) := by omega
      have p2 : ¬ 8 * (k : Int) < 0 := by omega
      have hlc := Kp.low_cast g k
      have HG := Lib.hid (Sm.rowB_set (n := 60) (l := Kp.low k g) (by omega) (UInt8.ofNat (g / 256 ^ k % 256)))
      rw [hll, ← Kp.low_next] at HG
      have HG2 := Lib.hid hg2
      have HR1 := Lib.hid hr1
      have HB1 := Lib.hid hb1
      obtain ⟨xb, hxb⟩ : ∃ x : UInt8, x = UInt8.ofNat (g / 256 ^ k % 256) := ⟨_, rfl⟩
      rw [← hxb] at hlc HG
      clear hg2 hr1 hb1 hx hxb
      go_wp2
      go_roundw
      case rel =>
        refine ⟨k + 1, by omega, rfl, ?_, ?_, ?_⟩
        · exact (Sm.heap_set HG2.out k _).trans (by rw [HG.out])
        · exact (Below.heap_setCell _ _ _ _ (by simp; omega)).trans HR1.out
        · exact HB1.out.setCell (p := ⟨N1, k, none⟩) (by simp; omega) _
      case measure => simp only [intOf]; omega
    · have hki : ¬ (k : Int) < 8 := by omega
      have hk8 : k = 8 := by omega
      subst hk8
      have HG2 := Lib.hid hg2
      have HR1 := Lib.hid hr1
      have HB1 := Lib.hid hb1
      have c0 := Sm.cells_of hr1 0 _ rfl
      have he8 : Kp.low 8 g = Kp.eight g := rfl
      rw [he8] at HG2 hg2 hll
      have htl : t.data.toList.length = t.size := by simp
      have hip : i * 48 ≤ t.size := by unfold Kp.parts at hi; rw [htl] at hi; omega
      have hi9 : i < 9 := by have := Kp.parts_le (t := t.data.toList) (by omega); omega
      obtain ⟨p, hp⟩ : ∃ p : ByteArray, p = t.extract (i * 48) (min ((i + 1) * 48) t.size) := ⟨_, rfl⟩
      have hpl : p.data.toList = Kp.part t.data.toList i := by
        rw [hp, Kp.part, ByteArray.data_extract, Array.toList_extract, List.extract_eq_take_drop]
        rw [show 48 * i = i * 48 by omega]
        by_cases hc : (i + 1) * 48 ≤ t.size
        · rw [Nat.min_eq_left hc, show (i + 1) * 48 - i * 48 = 48 by omega]
        · rw [Nat.min_eq_right (by omega), List.take_of_length_le (by rw [List.length_drop]; omega), List.take_of_length_le (by rw [List.length_drop]; omega)]
      clear hg2 hr1 hb1
      have v1 : IntKind.i64.wrap ((i : Int) * 48) = (i : Int) * 48 := IntWalk.i64_in _ (by omega)
      have v2 : IntKind.i64.wrap ((i : Int) + 1) = (i : Int) + 1 := IntWalk.i64_in _ (by omega)
      obtain ⟨m, hm⟩ : ∃ m, m = (i + 1) * 48 := ⟨_, rfl⟩
      have v3 : IntKind.i64.wrap (((i : Int) + 1) * 48) = (m : Int) := by rw [hm]; have := IntWalk.i64_in (((i : Int) + 1) * 48) (by omega); rw [this]; push_cast; rfl
      rw [← hm] at hp
      go_upto_region 7 with (fail)
      go_cut [7] from 20 (fun s7 wx => s7 = .string p ∧ wr = wx)
      case first =>
        have q1 : (0 : Int) ≤ (i : Int) * 48 := by omega
        have q2 : ¬ (i : Int) * 48 < 0 := by omega
        by_cases hc : m ≤ t.size
        · have hci : (m : Int) ≤ t.size := by omega
          have q3 : (i : Int) * 48 ≤ (m : Int) := by omega
          have q4 : ¬ (m : Int) < (i : Int) * 48 := by omega
          have q5 : ¬ (t.size : Int) < (m : Int) := by omega
          rw [Nat.min_eq_left hc] at hp
          have HP := Lib.hid hp
          clear hm hp
          go_wp2_with fail
          rw [show (min (m : Int) (t.size : Int)).toNat = m by omega, ← HP.out]
          go_meet
          exact ⟨rfl, rfl⟩
        · have hci : ¬ (m : Int) ≤ t.size := by omega
          have q3 : (i : Int) * 48 ≤ (t.size : Int) := by omega
          have q4 : ¬ (t.size : Int) < (i : Int) * 48 := by omega
          rw [Nat.min_eq_right (by omega)] at hp
          have HP := Lib.hid hp
          clear hm hp
          go_wp2_with fail
          rw [show (min (m : Int) (t.size : Int)).toNat = t.size by omega, ← HP.out]
          go_meet
          exact ⟨rfl, rfl⟩
      case rest =>
        obtain ⟨rfl, rfl⟩ := hcut
        clear hp hm v3
        have hpz : p.size = (Kp.part t.data.toList i).length := by rw [← hpl]; simp
        have hp48 := Kp.part_le t.data.toList i
        obtain ⟨x, hx⟩ := Sm.rowB_some (n := 60) (l := Kp.eight g) 8 (by omega) (by omega)
        have c8 := Sm.cells_of HG2.out 8 x hx
        have f8 := Sm.free_of HG2.out 8
        go_upto_region 9 with (fail)
        have g3 := Kp.set_row (k := 8) (n := i) HG2.out (by omega) hll (by omega)
        have r3 := (Below.heap_setCell wr ⟨N1, 8, none⟩ (.int .u8 (i : Int)) N (by simp; omega)).trans HR1.out
        have b3 := HB1.out.setCell (p := ⟨N1, 8, none⟩) (by simp; omega) (.int .u8 (i : Int))
        generalize wr.setCell ⟨N1, 8, none⟩ (.int .u8 (i : Int)) = w3 at *
        have d0 := Sm.cells_of r3 0 _ rfl
        have hP9 := Kp.parts_le (t := t.data.toList) (by omega)
        obtain ⟨P, hP⟩ : ∃ P, P = Kp.parts t.data.toList := ⟨_, rfl⟩
        rw [← hP] at PO hP9
        have HP := Lib.hid hP
        obtain ⟨x9, hx9⟩ := Sm.rowB_some (n := 60) (l := Kp.eight g ++ [UInt8.ofNat i]) 9 (by simp; omega) (by omega)
        have c9 := Sm.cells_of g3 9 x9 hx9
        have f9 := Sm.free_of g3 9
        have G3 := Lib.hid g3
        have R3 := Lib.hid r3
        have B3 := Lib.hid b3
        clear g3 r3 b3 c8 f8 hx hx9 hP
        go_upto_region 10 with (refine (PO.out _).mono ?_; rintro e w4 ⟨rfl, rfl⟩)
        have g4 := Kp.set_row (k := 9) (n := P) G3.out (by simp; omega) (by simp; omega) (by omega)
        have r4 := (Below.heap_setCell w3 ⟨N1, 9, none⟩ (.int .u8 (P : Int)) N (by simp; omega)).trans R3.out
        have b4 := B3.out.setCell (p := ⟨N1, 9, none⟩) (by simp; omega) (.int .u8 (P : Int))
        generalize w3.setCell ⟨N1, 9, none⟩ (.int .u8 (P : Int)) = w4 at *
        obtain ⟨x10, hx10⟩ := Sm.rowB_some (n := 60) (l := Kp.eight g ++ [UInt8.ofNat i] ++ [UInt8.ofNat P]) 10 (by simp; omega) (by omega)
        have c10 := Sm.cells_of g4 10 x10 hx10
        have f10 := Sm.free_of g4 10
        obtain ⟨L, hL⟩ : ∃ L, L = p.size := ⟨_, rfl⟩
        rw [← hL] at hpz
        have hL48 : L ≤ 48 := by omega
        have HL := Lib.hid hL.symm
        have G4 := Lib.hid g4
        have R4 := Lib.hid r4
        have B4 := Lib.hid b4
        have HPZ := Lib.hid hpz
        have HPL := Lib.hid hpl
        have hLL := hL.symm
        clear g4 r4 b4 c9 f9 d0 hx10 G3 R3 B3 hL hpz hpl hp48
        go_upto_region 11 with (fail)
        have g5 := Kp.set_row (k := 10) (n := L) G4.out (by simp; omega) (by simp; omega) (by omega)
        have b5 := B4.out.setCell (p := ⟨N1, 10, none⟩) (by simp; omega) (.int .u8 (L : Int))
        generalize w4.setCell ⟨N1, 10, none⟩ (.int .u8 (L : Int)) = w5 at *
        have hrow : Sm.rowB 60 (Kp.eight g ++ [UInt8.ofNat i] ++ [UInt8.ofNat P] ++ [UInt8.ofNat L]) = Sm.rowB 60 (Kp.eight g ++ [UInt8.ofNat i] ++ [UInt8.ofNat P] ++ [UInt8.ofNat L] ++ [0]) := by
          have h8 := hll
          unfold Sm.rowB
          congr 2
        rw [hrow] at g5
        have hcp := Kp.copy_part p (by have := HL.out; omega) (by simp [hll]) g5
        have hbody : Kp.eight g ++ [UInt8.ofNat i] ++ [UInt8.ofNat P] ++ [UInt8.ofNat L] ++ [0] ++ (p.data.toList ++ List.replicate (48 - p.data.toList.length) 0) = Kp.body t.data.toList g i := by
          rw [HPL.out, Kp.body, ← HP.out, ← HPZ.out]
          simp
        rw [hbody] at hcp
        have g6 : (w5.setRow N1 (Lib.byteCells (Kp.body t.data.toList g i)).toArray).heap[N1]? = some (.cells (Lib.byteCells (Kp.body t.data.toList g i)).toArray 145 (0, 0)) := setRow_heap w5 N1 _ _ _ _ g5
        have b6 : Below N w (w5.setRow N1 (Lib.byteCells (Kp.body t.data.toList g i)).toArray) := Sm.below_setRow b5 (by omega) _
        have hcv := Sm.conv_row g6 (Kp.body_length _ _ _)
        have B6 := Lib.hid b6
        rw [← HBT.out] at hcv
        generalize w5.setRow N1 (Lib.byteCells (Kp.body t.data.toList g i)).toArray = w6 at *
        clear hbody hrow g5 g6 b5 b6 c10 f10
        go_wp2_with fail
        go_ret
        exact ⟨rfl, by rw [← HN.out]; exact B6.out⟩
end Go.Proofs.Ytipfjccmceaclaa

/-
  What kept's bodies makes of a record.
-/
namespace Go.Proofs.Ytipfjccmceaclaa
open Go.RowKit
namespace Kp
/-- A row of texts. -/
def StrsAt (w : World) (A : Option Addr) (l : List (List UInt8)) : Prop := ∃ g o, A = some ⟨g, o, none⟩ ∧ g < w.heap.size ∧ ∀ i, i < l.length → w.cell? ⟨g, o + i, none⟩ = some (.string ⟨(l.getD i []).toArray⟩)
theorem StrsAt.below {w w' : World} {A : Option Addr} {l : List (List UInt8)} (h : StrsAt w A l) {B : Nat} (k : Below B w w') (hB : w.heap.size ≤ B) : StrsAt w' A l := by
  obtain ⟨g, o, h1, h2, h3⟩ := h
  exact ⟨g, o, h1, Nat.lt_of_lt_of_le h2 k.size, fun i hi => (k.cell (p := ⟨g, o + i, none⟩) (by show g < B; omega)).trans (h3 i hi)⟩
theorem StrsAt.low {w w' : World} {A : Option Addr} {l : List (List UInt8)} (h : StrsAt w A l) (k : Below w.heap.size w w') : StrsAt w' A l := h.below k (Nat.le_refl _)
theorem StrsAt.of_own {w : World} {B : Nat} {v : Value} {l : List (List UInt8)} (h : w.ownsRow B 9 1 v l.length (l.map Dk.txt)) (h0 : l ≠ []) : ∃ A c, v = .slice A l.length c ∧ l.length ≤ c ∧ StrsAt w A l ∧ ∀ q, v.ownBlock = some q → B ≤ q := by
  have hl : 0 < l.length := List.length_pos_iff.2 h0
  rcases h.2 with ⟨_, e⟩ | ⟨b, c, cur, rfl, hb, h1, h2, h3, h4, h5⟩
  · omega
  · refine ⟨some ⟨b, 0, none⟩, c, rfl, h2, ⟨b, 0, rfl, Sm.lt_of h1, fun i hi => ?_⟩, fun q hq => by simp only [Value.ownBlock, Option.some.injEq] at hq; omega⟩
    have e : cur.toList[i]? = (l.map Dk.txt)[i]? := by rw [← h5, List.getElem?_take, if_pos (by omega)]
    rw [Nat.zero_add]
    simp only [World.cell?, h1]
    rw [← Array.getElem?_toList, e, List.getElem?_map, List.getElem?_eq_getElem hi, List.getD_eq_getElem?_getD, List.getElem?_eq_getElem hi]
    rfl
theorem bodies_take {t : List UInt8} {g k : Nat} (h : k < parts t) : (bodies t g).take (k + 1) = (bodies t g).take k ++ [body t g k] := by
  rw [List.take_succ_eq_append_getElem (by rw [bodies_length]; exact h)]
  simp [bodies]
end Kp
set_option maxRecDepth 100000 in
set_option maxHeartbeats 1000000 in
theorem kpBodies_new (w : World) (t : ByteArray) (g : Nat) (ht : t.size ≤ 400) :
    Calls Try.prog 62 #[.agg #[.string t, .int .u64 g]] w fun e w' => ∃ A c, e = .returned (.slice A (Kp.parts t.data.toList) c) ∧ Kp.StrsAt w' A (Kp.bodies t.data.toList g) ∧ (∀ q o, A = some ⟨q, o, none⟩ → w.heap.size ≤ q) ∧ Below w.heap.size w w' := by
  obtain ⟨i0, hie, hz0, hz1, hz2⟩ := info_parts Dk.info3_str
  have PO : Hid (∀ wx : World, Calls Try.prog 82 #[.string t] wx fun e w' => e = .returned (.int .i64 (Kp.parts t.data.toList : Nat)) ∧ wx = w') := fun wx => kpPartsOf_any wx t (by omega)
  have htl : t.data.toList.length = t.size := by simp
  have hP9 := Kp.parts_le (t := t.data.toList) (by omega)
  have hP1 := Kp.parts_pos t.data.toList
  obtain ⟨P, hP⟩ : ∃ P, P = Kp.parts t.data.toList := ⟨_, rfl⟩
  have HL := Lib.hid (Kp.bodies_length t.data.toList g)
  have BO : Hid (∀ (i : Nat) (wx : World), i < P → Calls Try.prog 83 #[.agg #[.string t, .int .u64 g], .int .i64 i] wx fun e w' => e = .returned (.string ⟨(Kp.body t.data.toList g i).toArray⟩) ∧ Below wx.heap.size wx w') := fun i wx hi => kpBody_any wx t g i ht (by rw [← hP]; exact hi)
  rw [← hP] at PO hP9 hP1 HL ⊢
  obtain ⟨l, hl⟩ : ∃ l, l = Kp.bodies t.data.toList g := ⟨_, rfl⟩
  have TK : Hid (∀ k, k < P → l.take (k + 1) = l.take k ++ [Kp.body t.data.toList g k]) := fun k hk => by rw [hl]; exact Kp.bodies_take (by rw [← hP]; exact hk)
  rw [← hl] at HL ⊢
  clear hl hP htl
  have b1 : Below w.heap.size w (w.alloc (.cells #[.string t, .int .u64 (g : Int)] 81)) := (Below.refl _ w).alloc (Nat.le_refl _) _
  have g1 := heap_alloc_new w (.cells #[.string t, .int .u64 (g : Int)] 81)
  go_enter Try.func62, Try.ntmps62
  go_upto_region 2 with (fail)
  generalize w.alloc (.cells #[.string t, .int .u64 (g : Int)] 81) = w1 at *
  obtain ⟨N, hN⟩ : ∃ N, N = w.heap.size := ⟨_, rfl⟩
  rw [← hN] at g1 b1 ⊢
  have HN := Lib.hid hN
  clear hN
  have d0 := Sm.cells_of g1 0 _ rfl
  go_wp2_with (refine (PO.out _).mono ?_; rintro e w2 ⟨rfl, rfl⟩)
  go_loopw [3, 8] (fun s3 s8 wr => ∃ k : Nat, s8 = .int .i64 k ∧ k ≤ P ∧ wr.ownsRow (N + 1) 9 1 s3 (l.take k).length ((l.take k).map Dk.txt) ∧ Below N w wr ∧ wr.heap[N]? = some (.cells #[.string t, .int .u64 (g : Int)] 81 (0, 0))) (fun _ s8 _ => P - (intOf s8).toNat)
  case atStart => exact ⟨0, rfl, Nat.zero_le _, World.ownsRow_nil _ _ _ _, b1, g1⟩
  case round =>
    clear b1 g1 d0
    obtain ⟨k, rfl, hk, hown, hb, hg⟩ := hrel
    obtain ⟨Av, cv, hv⟩ := Sm.own_shape hown
    subst hv
    have HO := Lib.hid hown
    clear hown
    have x0 := Sm.cells_of hg 0 _ rfl
    have x1 := Sm.cells_of hg 1 _ rfl
    by_cases hkl : k < P
    · have hki : (k : Int) < (P : Int) := by omega
      have hsuc : IntKind.i64.wrap ((k : Int) + 1) = ((k + 1 : Nat) : Int) := by simp [IntKind.wrap, IntKind.bits, IntKind.signed]; omega
      have E := Lib.hid (TK.out k hkl)
      have HB := Lib.hid hb
      have HG := Lib.hid hg
      have hln : (l.take k).length = k := by rw [List.length_take, HL.out]; omega
      rw [hln] at HO ⊢
      have BOK := Lib.hid (BO.out k wr hkl)
      obtain ⟨bt, hbt⟩ : ∃ b : ByteArray, b = ⟨(Kp.body t.data.toList g k).toArray⟩ := ⟨_, rfl⟩
      rw [← hbt] at BOK
      have HBT := Lib.hid hbt
      clear hbt
      have hbs := hb.size
      have hgl := Sm.lt_of hg
      clear hb hg
      go_upto_region 5 with (fail)
      go_wp2_with (first
        | (refine BOK.out.mono ?_; rintro e w4 ⟨rfl, k4⟩)
        | (at_builtin
           refine wpList_append_own _ rfl _ _ 38 rfl (N + 1) 9 i0 (.string ⟨#[]⟩) 1 16 Try.underlying38 hie hz0 hz1 hz2 rfl (by decide) _ _ _ rfl ((Dk.own_block HO.out (fun q hq => k4.block q (Dk.own_blk HO.out hq).2.1)).alloc _) ⟨w4.heap.size, 0, none⟩ 1 1 [.string bt] rfl rfl (Dk.new_text _ _) (by intro u hu; simp at hu; subst hu; rfl) (by unfold maxLen; omega) (by omega) (by have := k4.size; simp; omega) ?_
           intro v' w5 hown' hgrow _))
      have hge : ∀ q, (Value.slice Av k cv).ownBlock = some q → N + 1 ≤ q := fun q hq => (Dk.own_blk HO.out hq).1
      have hNw := HN.out
      have b4 : Below N w w4 := HB.out.trans (k4.mono (by omega))
      have hb5 : Below N w w5 := (b4.alloc (by have := b4.size; omega) _).grown hgrow (by have := k4.size; simp; omega) (fun q hq => by have := hge q hq; omega)
      have hg5 : w5.heap[N]? = some (.cells #[.string t, .int .u64 (g : Int)] 81 (0, 0)) := by
        rw [hgrow.block N (by have := k4.size; simp; omega) (fun e => by have := hge N e.symm; omega), Below.heap_alloc _ _ _ (by have := k4.size; omega)]
        exact (k4.block N hgl).trans HG.out
      have hl5 : (l.take (k + 1)).length = k + 1 := by rw [List.length_take, HL.out]; omega
      have ho5 : w5.ownsRow (N + 1) 9 1 v' (l.take (k + 1)).length ((l.take (k + 1)).map Dk.txt) := by
        rw [hl5, E.out, List.map_append, List.map_cons, List.map_nil, show Dk.txt (Kp.body t.data.toList g k) = .string bt from congrArg Value.string HBT.out.symm]
        exact hown'
      exact ⟨⟨k + 1, by push_cast; rfl, by omega, ho5, hb5, hg5⟩, by simp only [intOf]; omega⟩
    · have hki : ¬ (k : Int) < (P : Int) := by omega
      have hkP : k = P := by omega
      have htk : l.take k = l := List.take_of_length_le (by rw [HL.out]; omega)
      rw [htk] at HO ⊢
      have hne : l ≠ [] := fun e => by have := HL.out; rw [e] at this; simp at this; omega
      obtain ⟨A', c', e1, -, hs, hq⟩ := Kp.StrsAt.of_own HO.out hne
      have HS := Lib.hid hs
      have HB := Lib.hid hb
      simp only [Value.slice.injEq] at e1
      obtain ⟨rfl, -, rfl⟩ := e1
      have HQ : Hid (∀ q o, Av = some ⟨q, o, none⟩ → w.heap.size ≤ q) := fun q o e => by have h1 := hq q (by rw [e]; rfl); have h2 := HN.out; omega
      rw [HL.out] at *
      clear hs hb hg x0 x1 hkP hq
      go_wp2
      go_ret
      exact ⟨_, ⟨_, rfl⟩, HS.out, HQ.out, by rw [← HN.out]; exact HB.out⟩
theorem kpBodies_any (w : World) (t : ByteArray) (g : Nat) (ht : t.size ≤ 400) :
    Calls Try.prog 62 #[.agg #[.string t, .int .u64 g]] w fun e w' => ∃ A c, e = .returned (.slice A (Kp.parts t.data.toList) c) ∧ Kp.StrsAt w' A (Kp.bodies t.data.toList g) ∧ Below w.heap.size w w' := by
  refine (kpBodies_new w t g ht).mono ?_
  rintro e w' ⟨A, c, h1, h2, -, h3⟩
  exact ⟨A, c, h1, h2, h3⟩
end Go.Proofs.Ytipfjccmceaclaa

/-
  What kept's greatest tells of a place.
-/
namespace Go.Proofs.Ytipfjccmceaclaa
open Go.RowKit
namespace Kp
/-- A body, or none. -/
def Bod (b : List UInt8) : Prop := b.length = 60 ∨ b.length = 0
theorem StrsAt.at {w : World} {A : Option Addr} {l : List (List UInt8)} (h : StrsAt w A l) : ∃ g o, A = some ⟨g, o, none⟩ ∧ ∀ i, i < l.length → w.cell? ⟨g, o + i, none⟩ = some (.string ⟨(l.getD i []).toArray⟩) := by
  obtain ⟨g, o, h1, _, h3⟩ := h
  exact ⟨g, o, h1, h3⟩
theorem bod_get {l : List (List UInt8)} (h : ∀ b ∈ l, Bod b) (i : Nat) : Bod (l.getD i []) := by
  rw [List.getD_eq_getElem?_getD]
  by_cases hi : i < l.length
  · rw [List.getElem?_eq_getElem hi]; exact h _ (List.getElem_mem hi)
  · rw [List.getElem?_eq_none (by omega)]; exact .inr rfl
theorem bod_size {b : List UInt8} (h : Bod b) : (ByteArray.mk b.toArray).size = 60 ∨ (ByteArray.mk b.toArray).size = 0 := by
  have : (ByteArray.mk b.toArray).size = b.length := by simp [ByteArray.size]
  rw [this]; exact h
theorem great_take {l : List (List UInt8)} {i : Nat} (h : i < l.length) : greatest (l.take (i + 1)) = max (greatest (l.take i)) (gen (l.getD i [])) := by
  rw [List.take_succ_eq_append_getElem h, greatest, List.foldl_append, List.getD_eq_getElem?_getD, List.getElem?_eq_getElem h]
  rfl
end Kp
set_option maxRecDepth 100000 in
set_option maxHeartbeats 1000000 in
theorem kpGreatest_any (w : World) (A : Option Addr) (c : Nat) (l : List (List UInt8)) (h : Kp.StrsAt w A l) (hl : l.length = 20) (hb : ∀ b ∈ l, Kp.Bod b) :
    Calls Try.prog 32 #[.slice A 20 c] w fun e w' => e = .returned (.int .u64 (Kp.greatest l : Nat)) ∧ w = w' := by
  obtain ⟨g, o, rfl, hc⟩ := h.at
  have HC := Lib.hid hc
  have GE : Hid (∀ (i : Nat) (wx : World), Calls Try.prog 59 #[.string ⟨(l.getD i []).toArray⟩] wx fun e w' => e = .returned (.int .u64 (Kp.gen (l.getD i []) : Nat)) ∧ wx = w') := fun i wx => kpGeneration_any wx ⟨(l.getD i []).toArray⟩ (Kp.bod_size (Kp.bod_get hb i))
  clear hc h hb
  go_enter Try.func32, Try.ntmps32
  go_wp2
  go_loopw [3, 8] (fun s3 s8 wr => ∃ i : Nat, s8 = .int .i64 i ∧ i ≤ 20 ∧ s3 = .int .u64 (Kp.greatest (l.take i) : Nat) ∧ w = wr) (fun _ s8 _ => 20 - (intOf s8).toNat)
  case atStart => exact ⟨0, rfl, Nat.zero_le _, rfl, rfl⟩
  case round =>
    obtain ⟨i, rfl, hi, rfl, rfl⟩ := hrel
    by_cases hil : i < 20
    · have hii : (i : Int) < 20 := by omega
      have c1 := HC.out i (by omega)
      have hsuc : IntKind.i64.wrap ((i : Int) + 1) = ((i + 1 : Nat) : Int) := by simp [IntKind.wrap, IntKind.bits, IntKind.signed]; omega
      have GEI := Lib.hid (GE.out i w)
      obtain ⟨b, hbt⟩ : ∃ b : ByteArray, b = ⟨(l.getD i []).toArray⟩ := ⟨_, rfl⟩
      have NX := Lib.hid (Kp.great_take (l := l) (i := i) (by omega))
      have hg1 := Kp.greatest_lt (l.take i)
      have hg2 := Kp.gen_lt (l.getD i [])
      rw [← hbt] at c1 GEI
      obtain ⟨x, hx⟩ : ∃ x, x = Kp.greatest (l.take i) := ⟨_, rfl⟩
      obtain ⟨y, hy⟩ : ∃ x, x = Kp.gen (l.getD i []) := ⟨_, rfl⟩
      rw [← hx, ← hy] at NX
      rw [← hx] at hg1 ⊢
      rw [← hy] at hg2 GEI
      clear hbt hx hy
      by_cases hxy : x ≤ y
      · have hxy1 : (x : Int) ≤ y := by omega
        have hxy2 : max (x : Int) (y : Int) = y := by omega
        go_wp2_with (refine GEI.out.mono ?_; rintro e w2 ⟨rfl, rfl⟩)
        refine ⟨⟨i + 1, by push_cast; rfl, by omega, ?_, trivial⟩, by simp only [intOf]; omega⟩
        rw [NX.out, Nat.max_eq_right hxy]
      · have hxy1 : ¬ (x : Int) ≤ y := by omega
        have hxy2 : max (x : Int) (y : Int) = x := by omega
        go_wp2_with (refine GEI.out.mono ?_; rintro e w2 ⟨rfl, rfl⟩)
        refine ⟨⟨i + 1, by push_cast; rfl, by omega, ?_, trivial⟩, by simp only [intOf]; omega⟩
        rw [NX.out, Nat.max_eq_left (by omega)]
    · have hii : ¬ (i : Int) < 20 := by omega
      have hie : l.take i = l := List.take_of_length_le (by omega)
      rw [hie]
      go_wp2
      go_ret
      exact ⟨rfl, rfl⟩
end Go.Proofs.Ytipfjccmceaclaa

/-
  What kept's joined makes of a slot.
-/
namespace Go.Proofs.Ytipfjccmceaclaa
open Go.RowKit
namespace Kp
theorem builder_new (w : World) : Lib.IsBuilder 94 5 w.heap.size w.heap.size (Lib.byteCells []) (w.alloc (.cells #[.pointer none, .slice none 0 0] 94)) :=
  .inl ⟨Nat.le_refl _, .slice none 0 0, heap_alloc_new w _, World.ownsRow_nil _ _ _ _, by simp [Value.ownBlock]⟩
/-- What stands ahead of the first part that lacks. -/
def some_ (l : List (List UInt8)) : List (List UInt8) := l.takeWhile fun b => decide (b ≠ [])
theorem piece_le (b : List UInt8) : (piece b).length ≤ 48 := by unfold piece; rw [List.length_take]; omega
theorem pieces_le : ∀ (l : List (List UInt8)), (l.flatMap piece).length ≤ 48 * l.length
  | [] => by simp
  | b :: l => by
    have := pieces_le l
    have := piece_le b
    rw [List.flatMap_cons, List.length_append, List.length_cons]
    omega
theorem none_take {l : List (List UInt8)} {n i : Nat} (hi : i < n) (hil : i < l.length) (h : l.getD i [] = []) : [] ∈ l.take n := by
  rw [List.getD_eq_getElem?_getD, List.getElem?_eq_getElem hil] at h
  have h2 : l[i] = [] := h
  rw [← h2]
  exact List.mem_take_iff_getElem.2 ⟨i, by omega, rfl⟩
theorem all_take {l : List (List UInt8)} {n : Nat} (hn : n ≤ l.length) (h : ∀ j, j < n → l.getD j [] ≠ []) : [] ∉ l.take n := by
  intro hm
  obtain ⟨j, hj, e⟩ := List.mem_take_iff_getElem.1 hm
  refine h j (by omega) ?_
  rw [List.getD_eq_getElem?_getD, List.getElem?_eq_getElem (by omega)]
  exact e
theorem piece_text {b : ByteArray} {m : Nat} (hm : m = min (b.data.toList.getD 10 0).toNat 48) : (b.extract 12 (12 + m)).data.toList = piece b.data.toList := by
  rw [piece, ByteArray.data_extract, Array.toList_extract, List.extract_eq_take_drop, hm, show 12 + min (b.data.toList.getD 10 0).toNat 48 - 12 = min (b.data.toList.getD 10 0).toNat 48 by omega]
end Kp
set_option maxRecDepth 100000 in
set_option maxHeartbeats 1000000 in
theorem kpJoined_any (w : World) (A : Option Addr) (c : Nat) (l : List (List UInt8)) (h : Kp.StrsAt w A l) (hl : l.length = 10) (hb : ∀ b ∈ l, Kp.Bod b) (h0 : (l.getD 0 []).length = 60) :
    Calls Try.prog 80 #[.slice A 10 c] w fun e w' => e = .returned (.string ⟨(Kp.joined l).toArray⟩) ∧ Below w.heap.size w w' := by
  obtain ⟨g, o, rfl, hg, hc⟩ := h
  have c0 := hc 0 (by omega)
  obtain ⟨b0, hb0⟩ : ∃ b : ByteArray, b = ⟨(l.getD 0 []).toArray⟩ := ⟨_, rfl⟩
  have hb0s : b0.size = 60 := by rw [hb0]; simpa [ByteArray.size] using h0
  have hb0n : (b0[9]'(by omega)).toNat = ((l.getD 0 []).getD 9 0).toNat := by
    subst hb0
    rw [List.getD_eq_getElem?_getD (l := l.getD 0 []), List.getElem?_eq_getElem (by omega)]
    rfl
  rw [← hb0, Nat.add_zero] at c0
  obtain ⟨n, hn⟩ : ∃ n, n = (b0[9]'(by omega)).toNat := ⟨_, rfl⟩
  have hnl : Hid (Kp.joined l = if [] ∈ l.take n then [] else (l.take n).flatMap Kp.piece) := by show Kp.joined l = _; rw [Kp.joined, ← hb0n, ← hn]
  have hn256 : n < 256 := by rw [hn]; exact (b0[9]'(by omega)).toNat_lt
  have HN := Lib.hid hn
  have HC := Lib.hid hc
  have b1 : Below w.heap.size w (w.alloc (.cells #[.pointer none, .slice none 0 0] 94)) := (Below.refl _ w).alloc (Nat.le_refl _) _
  have g1 := Lib.hid (Kp.builder_new w)
  have c0' := (b1.cell (p := ⟨g, o, none⟩) hg).trans c0
  clear hc hb0n hb0 hn c0
  go_enter Try.func80, Try.ntmps80
  go_upto_region 2 with (fail)
  generalize w.alloc (.cells #[.pointer none, .slice none 0 0] 94) = w1 at *
  obtain ⟨N, hNN⟩ : ∃ N, N = w.heap.size := ⟨_, rfl⟩
  rw [← hNN] at b1 g1 ⊢
  have HNN := Lib.hid hNN
  clear hNN
  have v1 : (9 : Int) < b0.size := by omega
  obtain ⟨m, hm⟩ : ∃ m, m = min n 10 := ⟨_, rfl⟩
  have hw : wrap64 ((b0[9]'(by omega)).toNat : Int) = (n : Int) := by
    have := HN.out
    rw [← this]; simp only [wrap64]; omega
  have hmin : min (n : Int) 10 = (m : Int) := by omega
  have HM := Lib.hid hm
  have hm10 : m ≤ 10 := by omega
  clear hm
  go_wp2_with fail
  go_loopw [14] (fun s14 wr => ∃ k : Nat, s14 = .int .i64 k ∧ k ≤ m ∧ (∀ j, j < k → l.getD j [] ≠ []) ∧ Lib.IsBuilder 94 5 N N (Lib.byteCells ((l.take k).flatMap Kp.piece)) wr ∧ Below N w wr) (fun s14 _ => m - (intOf s14).toNat)
  case atStart => exact ⟨0, rfl, Nat.zero_le _, fun j hj => by omega, g1.out, b1⟩
  case round =>
    clear g1 b1 c0' hw hmin
    obtain ⟨k, rfl, hk, hall, hib, hbl⟩ := hrel
    have HIB := Lib.hid hib
    have HBL := Lib.hid hbl
    have HALL := Lib.hid hall
    clear hib hall
    by_cases hkm : k < m
    · have hki : (k : Int) < (m : Int) := by omega
      have hk10 : (k : Int) < 10 := by omega
      have hsuc : IntKind.i64.wrap ((k : Int) + 1) = ((k + 1 : Nat) : Int) := by simp [IntKind.wrap, IntKind.bits, IntKind.signed]; omega
      have ck := (hbl.cell (p := ⟨g, o + k, none⟩) (by rw [HNN.out]; exact hg)).trans (HC.out k (by omega))
      have hbod := Kp.bod_get hb k
      obtain ⟨b, hbb⟩ : ∃ b : ByteArray, b = ⟨(l.getD k []).toArray⟩ := ⟨_, rfl⟩
      rw [← hbb] at ck
      have hbl2 : b.data.toList = l.getD k [] := by rw [hbb]
      have hbsz : b.size = (l.getD k []).length := by rw [hbb]; simp [ByteArray.size]
      by_cases hz : b.size = 0
      · have he := Kp.text_none hz
        have hj : Kp.joined l = [] := by
          rw [hnl.out, if_pos (Kp.none_take (i := k) (by have := HM.out; omega) (by omega) (List.eq_nil_of_length_eq_zero (by omega)))]
        have HJ := Lib.hid hj
        clear hj hbl2 hbb hbl hbsz
        go_wp2
        go_ret
        exact ⟨by rw [HJ.out]; rfl, by rw [← HNN.out]; exact HBL.out⟩
      · have he := Kp.text_ne hz
        have h60 : b.size = 60 := by rcases hbod with h | h <;> omega
        have v10 : (10 : Int) < b.size := by omega
        have h10 : 10 < b.size := by omega
        have hdl : b.data.toList.length = b.size := by simp
        obtain ⟨y, hy⟩ : ∃ y, y = min (b[10]'h10).toNat 48 := ⟨_, rfl⟩
        have hyw : wrap64 ((b[10]'h10).toNat : Int) = ((b[10]'h10).toNat : Int) := by have := (b[10]'h10).toNat_lt; simp only [wrap64]; omega
        have hmin2 : min ((b[10]'h10).toNat : Int) 48 = (y : Int) := by omega
        have hy48 : y ≤ 48 := by omega
        obtain ⟨z, hzz⟩ : ∃ z, z = 12 + y := ⟨_, rfl⟩
        have hz1 : IntKind.i64.wrap (12 + (y : Int)) = (z : Int) := by rw [IntWalk.i64_in _ (by omega), hzz]; push_cast; rfl
        have hz2 : (z : Int) ≤ b.size := by omega
        have hz3 : (12 : Int) ≤ (z : Int) := by omega
        have hz4 : ¬ (b.size : Int) < (z : Int) := by omega
        have hz5 : ¬ (z : Int) < 12 := by omega
        obtain ⟨s, hs⟩ : ∃ s, s = b.extract 12 z := ⟨_, rfl⟩
        have hsp : s.data.toList = Kp.piece (l.getD k []) := by
          rw [hs, hzz, ← hbl2]
          refine Kp.piece_text ?_
          rw [hy, List.getD_eq_getElem?_getD, List.getElem?_eq_getElem (show 10 < b.data.toList.length by omega)]
          rfl
        have HS := Lib.hid hs
        have HSP := Lib.hid hsp
        have HBB := Lib.hid hbl2
        have hne : l.getD k [] ≠ [] := fun e => by rw [e] at hbsz; exact hz (by simpa using hbsz)
        have HNE := Lib.hid hne
        clear hs hsp hbl2 hbb hy hzz hbl hbsz hne hdl
        have hnw := HBL.out.size
        have hNw := HNN.out
        have hps := Kp.pieces_le (l.take k)
        have htk : (l.take k).length ≤ k := List.length_take_le _ _
        have hss : s.size ≤ 48 := by
          have h1 := congrArg List.length HSP.out
          have h2 := Kp.piece_le (l.getD k [])
          have h3 : s.data.toList.length = s.size := by simp
          omega
        have WS := Lib.hid (Builder_WriteString N N (Lib.byteCells ((l.take k).flatMap Kp.piece)) s wr HIB.out (by rw [Lib.byteCells_length]; omega) (by omega))
        clear hnw hNw hps htk hss
        go_wp2_with (rw [← HS.out]; refine WS.out.mono ?_; rintro e w2 ⟨rfl, hb2, k2⟩)
        have e2 : Lib.byteCells ((l.take k).flatMap Kp.piece) ++ Lib.strCells s = Lib.byteCells ((l.take (k + 1)).flatMap Kp.piece) := by
          rw [show Lib.strCells s = Lib.byteCells s.data.toList from rfl, HSP.out, ← Lib.byteCells_append, List.take_succ_eq_append_getElem (by omega), List.flatMap_append, List.getD_eq_getElem?_getD, List.getElem?_eq_getElem (by omega)]
          simp
        rw [e2] at hb2
        refine ⟨⟨k + 1, by push_cast; rfl, by omega, fun j hj => ?_, .inr hb2, HBL.out.trans k2⟩, by simp only [intOf]; omega⟩
        by_cases hjk : j = k
        · rw [hjk]; exact HNE.out
        · exact HALL.out j (by omega)
    · have hki : ¬ (k : Int) < (m : Int) := by omega
      have hmm := HM.out
      have hkm2 : k = m := by omega
      have e1 : l.take n = l.take k := by
        by_cases h10 : n ≤ 10
        · rw [show k = n by omega]
        · rw [List.take_of_length_le (by omega), List.take_of_length_le (by omega)]
      have hj : Kp.joined l = (l.take k).flatMap Kp.piece := by
        rw [hnl.out, e1, if_neg (Kp.all_take (by omega) HALL.out)]
      rw [← hj] at HIB
      have hNw := HNN.out
      have ST := Lib.hid (Builder_String_any N N (Kp.joined l) wr HIB.out (by have := hbl.size; omega))
      clear hj e1 hmm hkm2 hbl hNw
      obtain ⟨jt, hjt⟩ : ∃ b : ByteArray, b = ⟨(Kp.joined l).toArray⟩ := ⟨_, rfl⟩
      rw [← hjt] at ST
      have HJT := Lib.hid hjt
      clear hjt
      go_wp2_with (refine ST.out.mono ?_; rintro e w2 ⟨rfl, k2⟩)
      go_ret
      exact ⟨by rw [HJT.out]; rfl, by rw [← HNN.out]; exact HBL.out.trans k2⟩
end Go.Proofs.Ytipfjccmceaclaa

/-
  What kept's held tells of a slot.
-/
namespace Go.Proofs.Ytipfjccmceaclaa
open Go.RowKit
namespace Kp
theorem info_record : (Try.prog.info? 81).map (fun i => (i.zero, i.size)) = some (some (.agg #[.string ⟨#[]⟩, .int .u64 0]), 2) := by kernel_rfl
theorem joined_le {l : List (List UInt8)} (h : l.length = 10) : (joined l).length ≤ 480 := by
  unfold joined
  split
  · simp
  · have h1 := pieces_le (l.take ((l.getD 0 []).getD 9 0).toNat)
    have h2 := List.length_take_le ((l.getD 0 []).getD 9 0).toNat l
    rw [List.length_take] at h1
    omega
theorem gen_pos {b : List UInt8} (hb : Bod b) (h : gen b ≠ 0) : b.length = 60 := by
  rcases hb with h1 | h1
  · exact h1
  · rw [List.eq_nil_of_length_eq_zero h1] at h; exact absurd gen_nil h
theorem held_0 {l : List (List UInt8)} (h : gen (l.getD 0 []) = 0) : held l = ([], 0) := by rw [held, if_pos h]
theorem held_long {l : List (List UInt8)} (h : 400 < (joined l).length) : held l = ([], 0) := by
  rw [held, if_pos h]
  split <;> rfl
theorem two_heap {w : World} {N : Nat} {x y : Value} {T : TypeId} (h : w.heap[N]? = some (.cells #[x, y] T (0, 0))) (a b : Value) : ((w.setCell ⟨N, 0, none⟩ a).setCell ⟨N, 1, none⟩ b).heap[N]? = some (.cells #[a, b] T (0, 0)) := by
  rw [Sm.heap_set (Sm.heap_set h 0 a) 1 b]; rfl
theorem two_below {B N : Nat} {w w' : World} (h : Below B w w') (hN : B ≤ N) (a b : Value) : Below B w ((w'.setCell ⟨N, 0, none⟩ a).setCell ⟨N, 1, none⟩ b) :=
  (h.setCell (p := ⟨N, 0, none⟩) hN a).setCell (p := ⟨N, 1, none⟩) hN b
theorem two_other {N k : Nat} (w : World) (a b : Value) (h : k ≠ N) : ((w.setCell ⟨N, 0, none⟩ a).setCell ⟨N, 1, none⟩ b).heap[k]? = w.heap[k]? :=
  (Below.heap_setCell _ ⟨N, 1, none⟩ b k h).trans (Below.heap_setCell _ ⟨N, 0, none⟩ a k h)
theorem held_new {l : List (List UInt8)} (h0 : gen (l.getD 0 []) ≠ 0) (h4 : ¬ 400 < (joined l).length) (h : bodies (joined l) (gen (l.getD 0 [])) = l.take (parts (joined l))) : held l = (joined l, gen (l.getD 0 [])) := by
  rw [held, if_neg h0, if_neg h4, if_pos h]
theorem held_else {l : List (List UInt8)} (h4 : ¬ 400 < (joined l).length) (h : ¬ bodies (joined l) (gen (l.getD 0 [])) = l.take (parts (joined l))) : held l = ([], 0) := by
  rw [held, if_neg h4, if_neg h]
  split <;> rfl
def bts (l : List (List UInt8)) : List ByteArray := l.map fun b => ⟨b.toArray⟩
theorem bts_inj : ∀ {l m : List (List UInt8)}, bts l = bts m → l = m
  | [], [], _ => rfl
  | [], _ :: _, h => by simp [bts] at h
  | _ :: _, [], h => by simp [bts] at h
  | a :: l, b :: m, h => by
    simp only [bts, List.map_cons, List.cons.injEq] at h
    rw [bts_inj (l := l) (m := m) h.2]
    have h1 := congrArg (fun x : ByteArray => x.data.toList) h.1
    simp at h1
    rw [h1]
theorem bts_take (l : List (List UInt8)) (n : Nat) : (bts l).take n = bts (l.take n) := List.map_take.symm
theorem bts_getD {l : List (List UInt8)} {i : Nat} (h : i < l.length) : (bts l).getD i ByteArray.empty = ⟨(l.getD i []).toArray⟩ := by
  rw [bts, List.getD_eq_getElem?_getD, List.getElem?_map, List.getElem?_eq_getElem h, List.getD_eq_getElem?_getD, List.getElem?_eq_getElem h]; rfl
theorem bts_length (l : List (List UInt8)) : (bts l).length = l.length := by simp [bts]
end Kp
theorem kpEqual_any (w : World) (A1 A2 : Option Addr) (c1 c2 n : Nat) (xs ys : List (List UInt8)) (h1 : Kp.StrsAt w A1 xs) (h2 : Kp.StrsAt w A2 ys) (hx : n ≤ xs.length) (hy : n ≤ ys.length) (hn : n ≤ 100) :
    Calls Try.prog 81 #[.slice A1 n c1, .slice A2 n c2] w fun e w' => e = .returned (.bool (decide (xs.take n = ys.take n))) ∧ Below w.heap.size w w' := by
  obtain ⟨g1, o1, rfl, hc1⟩ := h1.at
  obtain ⟨g2, o2, rfl, hc2⟩ := h2.at
  refine (slices_Equal_string g1 o1 n c1 g2 o2 n c2 (Kp.bts xs) (Kp.bts ys) w (by rw [Kp.bts_length]; exact hx) (by rw [Kp.bts_length]; exact hy) (by omega) (by omega) (fun j hj => ?_) (fun j hj => ?_)).mono ?_
  · rw [Kp.bts_length] at hj; rw [Kp.bts_getD hj]; exact hc1 j hj
  · rw [Kp.bts_length] at hj; rw [Kp.bts_getD hj]; exact hc2 j hj
  · rintro e w' ⟨rfl, q, rfl⟩
    refine ⟨?_, Sm.below_drewN (Below.refl _ w) q⟩
    congr 2
    rw [Kp.bts_take, Kp.bts_take, decide_eq_decide]
    exact ⟨Kp.bts_inj, fun e => by rw [e]⟩
set_option maxRecDepth 100000 in
set_option maxHeartbeats 500000 in
theorem kpHeld_any (w : World) (A : Option Addr) (c : Nat) (l : List (List UInt8)) (h : Kp.StrsAt w A l) (hl : l.length = 10) (hc10 : 10 ≤ c) (hb : ∀ b ∈ l, Kp.Bod b) :
    Calls Try.prog 60 #[.slice A 10 c] w fun e w' => e = .returned (.agg #[.string ⟨(Kp.held l).1.toArray⟩, .int .u64 ((Kp.held l).2 : Nat)]) ∧ Below w.heap.size w w' := by
  obtain ⟨g, o, rfl, hg, hc⟩ := h
  have H0 : Hid (Kp.StrsAt w (some ⟨g, o, none⟩) l) := ⟨g, o, rfl, hg, hc⟩
  have HC := Lib.hid hc
  have c0 := hc 0 (by omega)
  have hz1 := (zero_of_info Kp.info_record).1
  have b1 : Below w.heap.size w (w.alloc (.cells #[.string ⟨#[]⟩, .int .u64 0] 81)) := (Below.refl _ w).alloc (Nat.le_refl _) _
  have g1 := heap_alloc_new w (.cells #[.string ⟨#[]⟩, .int .u64 0] 81)
  have c0' := (b1.cell (p := ⟨g, o + 0, none⟩) hg).trans c0
  rw [Nat.add_zero] at c0'
  have GE : Hid (∀ wx : World, Calls Try.prog 59 #[.string ⟨(l.getD 0 []).toArray⟩] wx fun e w' => e = .returned (.int .u64 (Kp.gen (l.getD 0 []) : Nat)) ∧ wx = w') := fun wx => kpGeneration_any wx ⟨(l.getD 0 []).toArray⟩ (Kp.bod_size (Kp.bod_get hb 0))
  obtain ⟨x, hx⟩ : ∃ x, x = Kp.gen (l.getD 0 []) := ⟨_, rfl⟩
  have hx64 := Kp.gen_lt (l.getD 0 [])
  obtain ⟨t0, ht0⟩ : ∃ b : ByteArray, b = ⟨(l.getD 0 []).toArray⟩ := ⟨_, rfl⟩
  rw [← ht0, ← hx] at GE
  rw [← ht0] at c0'
  rw [← hx] at hx64
  have HX := Lib.hid hx
  clear hc c0 hx ht0
  go_enter Try.func60, Try.ntmps60
  go_upto_region 1 with (fail)
  generalize w.alloc (.cells #[.string ⟨#[]⟩, .int .u64 0] 81) = w1 at *
  obtain ⟨N, hNN⟩ : ∃ N, N = w.heap.size := ⟨_, rfl⟩
  rw [← hNN] at b1 g1 ⊢
  have HNN := Lib.hid hNN
  clear hNN
  have G1 := Lib.hid g1
  have d0 := Sm.cells_of g1 0 _ rfl
  have d1 := Sm.cells_of g1 1 _ rfl
  have f0 := Sm.free_of g1 0
  have f1 := Sm.free_of g1 1
  clear g1
  by_cases hx0 : x = 0
  · have E := Lib.hid (Kp.held_0 (HX.out.symm.trans hx0))
    subst hx0
    go_wp2_with (refine (GE.out _).mono ?_; rintro e w2 ⟨rfl, rfl⟩)
    exact bodyPost_ret (v := .agg #[.string ⟨#[]⟩, .int .u64 0]) (results_cell_row rfl _ _ N 81 _ (0, 0) _ rfl (Kp.two_heap G1.out _ _) Try.underlying81 rfl (by kernel_rfl)) rfl ⟨by rw [E.out]; rfl, by rw [← HNN.out]; exact Kp.two_below b1 (Nat.le_refl _) _ _⟩
  · have hxi : ¬ (x : Int) = 0 := by omega
    have h60 := Kp.gen_pos (Kp.bod_get hb 0) (by rw [← HX.out]; exact hx0)
    have JO : Hid (∀ wx, Below N w wx → Calls Try.prog 80 #[.slice (some ⟨g, o, none⟩) 10 c] wx fun e w' => e = .returned (.string ⟨(Kp.joined l).toArray⟩) ∧ Below wx.heap.size wx w') := fun wx hwx => kpJoined_any wx _ c l (H0.out.below hwx (by rw [← HNN.out]; exact Nat.le_refl _)) hl hb h60
    have hj480 := Kp.joined_le hl
    obtain ⟨jt, hjt⟩ : ∃ b : ByteArray, b = ⟨(Kp.joined l).toArray⟩ := ⟨_, rfl⟩
    have hjl : jt.data.toList = Kp.joined l := by rw [hjt]
    have hjs : jt.size = (Kp.joined l).length := by rw [hjt]; simp [ByteArray.size]
    have HJL := Lib.hid hjl
    rw [← hjt] at JO
    rw [← hjs] at hj480
    have HJT := Lib.hid hjt
    have HJS := Lib.hid hjs
    clear hjt hjl hjs h60
    have hlt1 := Sm.lt_of G1.out
    go_upto_region 4 with (go_at_call 59; refine (GE.out _).mono ?_; rintro e w2 ⟨rfl, rfl⟩)
    go_upto_region 5 with (go_at_call 80; refine (JO.out _ b1).mono ?_; rintro e w3 ⟨rfl, k3⟩)
    have g3 := (k3.block N hlt1).trans G1.out
    have b3 : Below N w w3 := b1.trans (k3.mono (Nat.le_of_lt hlt1))
    have h3 := heap_alloc_new w3 (.cells #[.string jt, .int .u64 (x : Int)] 81)
    have b4 : Below N w (w3.alloc (.cells #[.string jt, .int .u64 (x : Int)] 81)) := b3.alloc (by have := b3.size; have := k3.size; omega) _
    have g4 : (w3.alloc (.cells #[.string jt, .int .u64 (x : Int)] 81)).heap[N]? = _ := (Below.heap_alloc _ _ _ (Sm.lt_of g3)).trans g3
    have hN3 := Sm.lt_of g3
    generalize w3.alloc (.cells #[.string jt, .int .u64 (x : Int)] 81) = w4 at *
    obtain ⟨r, hr⟩ : ∃ r, r = w3.heap.size := ⟨_, rfl⟩
    rw [← hr] at h3 hN3 ⊢
    have H3 := Lib.hid h3
    have G4 := Lib.hid g4
    have e0 := Sm.cells_of h3 0 _ rfl
    have e1 := Sm.cells_of h3 1 _ rfl
    have d0 := Sm.cells_of g4 0 _ rfl
    have d1 := Sm.cells_of g4 1 _ rfl
    have f0 := Sm.free_of g4 0
    have f1 := Sm.free_of g4 1
    clear g3 h3 g4 b1 c0' k3 hr hlt1
    by_cases h4 : 400 < jt.size
    · have h4i : (400 : Int) < jt.size := by omega
      have E := Lib.hid (Kp.held_long (by rw [← HJS.out]; exact h4))
      go_wp2_with fail
      exact bodyPost_ret (v := .agg #[.string ⟨#[]⟩, .int .u64 0]) (results_cell_row rfl _ _ N 81 _ (0, 0) _ rfl (Kp.two_heap G4.out _ _) Try.underlying81 rfl (by kernel_rfl)) rfl ⟨by rw [E.out]; rfl, by rw [← HNN.out]; exact Kp.two_below b4 (Nat.le_refl _) _ _⟩
    · have h4i : ¬ (400 : Int) < jt.size := by omega
      have BO := Lib.hid (kpBodies_any w4 jt x (by omega))
      obtain ⟨P, hP⟩ : ∃ P, P = Kp.parts jt.data.toList := ⟨_, rfl⟩
      have hP9 := Kp.parts_le (t := jt.data.toList) (by simp; omega)
      have hP1 := Kp.parts_pos jt.data.toList
      have hPL := Kp.bodies_length jt.data.toList x
      rw [← hP] at BO hP9 hP1 hPL
      have HP := Lib.hid hP
      clear hP
      have hlt4 := Sm.lt_of G4.out
      have hlt5 := Sm.lt_of H3.out
      go_upto_region 8 with (go_at_call 62; refine BO.out.mono ?_; rintro e w5 ⟨Ab, cb, rfl, sb, k5⟩)
      have g5 := (k5.block N hlt4).trans G4.out
      have h5 := (k5.block r hlt5).trans H3.out
      have b5 : Below N w w5 := b4.trans (k5.mono (by have := b4.size; omega))
      have s0 := H0.out.below b5 (by rw [← HNN.out]; exact Nat.le_refl _)
      have EQ := Lib.hid (kpEqual_any w5 Ab (some ⟨g, o, none⟩) cb c P _ l sb s0 (by omega) (by omega) (by omega))
      have htk : (Kp.bodies jt.data.toList x).take P = Kp.bodies jt.data.toList x := List.take_of_length_le (by omega)
      rw [htk] at EQ
      have hc10' : P ≤ c := by omega
      have hci : (P : Int) ≤ c := by omega
      have hlt4 := Sm.lt_of g5
      have hlt5 := Sm.lt_of h5
      have hb5s := b5.size
      have G5 := Lib.hid g5
      have H5 := Lib.hid h5
      have B5 := Lib.hid b5
      clear g5 h5 s0 sb k5 b5 e0 e1 d0 d1 f0 f1 b4 htk
      have HX0 : Hid (Kp.gen (l.getD 0 []) ≠ 0) := by show ¬ _; rw [← HX.out]; exact hx0
      have H40 : Hid (¬ 400 < (Kp.joined l).length) := by show ¬ _; rw [← HJS.out]; exact h4
      by_cases heq : Kp.bodies jt.data.toList x = l.take P
      · have hd : decide (Kp.bodies jt.data.toList x = l.take P) = true := decide_eq_true heq
        rw [hd] at EQ
        have hn : Kp.held l = (Kp.joined l, Kp.gen (l.getD 0 [])) := Kp.held_new HX0.out H40.out (by rw [← HJL.out, ← HX.out, ← HP.out]; exact heq)
        have HE := Lib.hid hn
        clear heq hd hn
        go_upto_region 10 with (go_at_call 81; refine EQ.out.mono ?_; rintro e w6 ⟨rfl, k6⟩)
        have g6 := (k6.block N hlt4).trans G5.out
        have h6 := (k6.block r hlt5).trans H5.out
        have b6 : Below N w w6 := B5.out.trans (k6.mono (by have := HNN.out; omega))
        have e0 := Sm.cells_of h6 0 _ rfl
        have e1 := Sm.cells_of h6 1 _ rfl
        have d0 := Sm.cells_of g6 0 _ rfl
        have d1 := Sm.cells_of g6 1 _ rfl
        have f0 := Sm.free_of g6 0
        have f1 := Sm.free_of g6 1
        go_wp2_with fail
        exact bodyPost_ret (v := .agg #[.string jt, .int .u64 (x : Int)]) (results_cell_row rfl _ _ N 81 _ (0, 0) _ rfl (Kp.two_heap g6 _ _) Try.underlying81 rfl (by kernel_rfl)) rfl ⟨by rw [HE.out, HJT.out, HX.out], by rw [← HNN.out]; exact Kp.two_below b6 (Nat.le_refl _) _ _⟩
      · have hd : decide (Kp.bodies jt.data.toList x = l.take P) = false := decide_eq_false heq
        rw [hd] at EQ
        have hn : Kp.held l = ([], 0) := Kp.held_else H40.out (by rw [← HJL.out, ← HX.out, ← HP.out]; exact heq)
        have HE := Lib.hid hn
        clear heq hd hn
        go_upto_region 9 with (go_at_call 81; refine EQ.out.mono ?_; rintro e w6 ⟨rfl, k6⟩)
        have g6 := (k6.block N hlt4).trans G5.out
        have b6 : Below N w w6 := B5.out.trans (k6.mono (by have := HNN.out; omega))
        have d0 := Sm.cells_of g6 0 _ rfl
        have d1 := Sm.cells_of g6 1 _ rfl
        have f0 := Sm.free_of g6 0
        have f1 := Sm.free_of g6 1
        go_wp2_with fail
        exact bodyPost_ret (v := .agg #[.string ⟨#[]⟩, .int .u64 0]) (results_cell_row rfl _ _ N 81 _ (0, 0) _ rfl (Kp.two_heap g6 _ _) Try.underlying81 rfl (by kernel_rfl)) rfl ⟨by rw [HE.out]; rfl, by rw [← HNN.out]; exact Kp.two_below b6 (Nat.le_refl _) _ _⟩
end Go.Proofs.Ytipfjccmceaclaa
