/-
  Texts that belong together, laid into one.
-/
import Derived.Test.YtnmagfodjcookaaGreatMem
import Derived.Test.YtnmagfodjcookaaGreatShelf
import Derived.Test.YtnmagfodjcookaaGreatShMath
import Derived.Test.YtnmagfodjcookaaGreatKpFns
import Derived.Test.YtnmagfodjcookaaGreatPtMath
import Derived.Test.YtnmagfodjcookaaGreatRowB
import Derived.Test.YtnmagfodjcookaaGreatPtStrs
import Derived.Test.YtnmagfodjcookaaGreatDkMay
import Derived.Test.YtnmagfodjcookaaGreatOwn
import Derived.Test.YtnmagfodjcookaaGreatDkRefOf
import Derived.Deep.CutRange
import Derived.Lib.AppendStr
import Derived.Lib.AppendZeros
import Derived.Lib.AppendZerosOnto
import Derived.Lib.SlBytesRow
import Derived.Lib.SliceRun
/-
  strings.Builder's WriteString and String, laid at this translation.
-/
namespace Go.Proofs.YtnmagfodjcookaaGreat
open Go.Shelf Go.RowKit
theorem lays166 : Go.Proofs.Lays.n166 Tryz.prog lays105_ren := { lays105 with }
theorem Builder_WriteString (B b : Nat) (bs : List Value) (s : ByteArray) (w : World) (h : Lib.IsBuilder 101 5 B b bs w) (hlen : bs.length + s.size ≤ 140737488355328) (hBw : B ≤ w.heap.size) :
    Calls Tryz.prog 47 #[.pointer (some ⟨b, 0, none⟩), .string s] w fun e w' => e = .returned (.tuple #[.int .i64 s.size, .nilIface]) ∧ (Lib.BuilderAt 101 5 B b (.pointer (some ⟨b, 0, none⟩)) (bs ++ Lib.strCells s) w' ∧ Below B w w') :=
  Any.Builder_WriteString lays166 Builder_Extra_105 B b bs s w h hlen hBw
end Go.Proofs.YtnmagfodjcookaaGreat

/-
  What parts' size, Count and Number tell; a row of numbers, and the bytes that head makes of it; a row of bytes, cloned.
-/
namespace Go.Proofs.YtnmagfodjcookaaGreat
open Go.RowKit
set_option maxRecDepth 100000 in
theorem ptSize_any (w : World) (k : Nat) (hk : k ≤ 6) : Calls Tryz.prog 59 #[.int .i64 (k : Int)] w fun e w' => e = .returned (.int .i64 (56 - 8 * (k : Int))) ∧ w = w' := by
  have v1 : IntKind.i64.wrap ((k : Int) * 8) = (k : Int) * 8 := IntWalk.i64_in _ (by omega)
  have v2 : IntKind.i64.wrap (60 - (k : Int) * 8) = 60 - (k : Int) * 8 := IntWalk.i64_in _ (by omega)
  have v3 : IntKind.i64.wrap (60 - (k : Int) * 8 - 4) = 56 - 8 * (k : Int) := by rw [IntWalk.i64_in _ (by omega)]; omega
  go_enter Tryz.func59, Tryz.ntmps59
  go_wp2
  go_ret
  exact ⟨rfl, rfl⟩
theorem Pt.parts_int {n : Nat} (t : List UInt8) {q : Nat} (hq : q = (t.length + n - 1) / n) : (Pt.parts n t : Int) = max 1 (q : Int) := by
  unfold Pt.parts
  rw [← hq]
  omega
set_option maxRecDepth 100000 in
theorem ptCount_any (w : World) (s : ByteArray) {k n : Nat} (hkn : 8 * k + n = 56) (hn : 0 < n) (hs : s.size ≤ 1099511627776) : Calls Tryz.prog 55 #[.string s, .int .i64 (k : Int)] w fun e w' => e = .returned (.int .i64 (Pt.parts n s.data.toList : Nat)) ∧ w = w' := by
  have SZ : Hid (∀ wx : World, Calls Tryz.prog 59 #[.int .i64 (k : Int)] wx fun e w' => e = .returned (.int .i64 (n : Int)) ∧ wx = w') := fun wx => by
    have := ptSize_any wx k (by omega)
    rwa [show (56 : Int) - 8 * (k : Int) = (n : Int) by omega] at this
  have hl : s.data.toList.length = s.size := by simp
  obtain ⟨m, hm⟩ : ∃ m, m = s.size + n - 1 := ⟨_, rfl⟩
  obtain ⟨q, hq⟩ : ∃ q, q = m / n := ⟨_, rfl⟩
  have hqm : q ≤ m := by rw [hq]; exact Nat.div_le_self _ _
  have hP := Pt.parts_int s.data.toList (q := q) (by rw [hl, ← hm]; exact hq)
  have v1 : IntKind.i64.wrap ((s.size : Int) + (n : Int)) = (s.size : Int) + (n : Int) := IntWalk.i64_in _ (by omega)
  have v2 : IntKind.i64.wrap ((s.size : Int) + (n : Int) - 1) = (m : Int) := by rw [IntWalk.i64_in _ (by omega)]; omega
  have v3 : (m : Int).tdiv (n : Int) = (q : Int) := by rw [hq, Int.natCast_ediv, Int.tdiv_eq_ediv_of_nonneg (by omega)]
  have v4 : IntKind.i64.wrap (q : Int) = (q : Int) := IntWalk.i64_in _ (by omega)
  have h0 : ¬ (n : Int) = 0 := by omega
  obtain ⟨P, hPe⟩ : ∃ P, P = Pt.parts n s.data.toList := ⟨_, rfl⟩
  rw [← hPe] at hP ⊢
  have HP := Lib.hid hP
  clear hq hm hP hPe hl
  go_enter Tryz.func55, Tryz.ntmps55
  go_wp2_with (go_at_call 59; refine (SZ.out _).mono ?_; rintro e w2 ⟨rfl, rfl⟩)
  all_goals
    go_ret
    refine ⟨?_, rfl⟩
    rw [HP.out]
    refine congrArg (fun x => Ending.returned (Value.int .i64 x)) ?_
    omega
namespace Pt
/-- A row of numbers. -/
def NumsAt (w : World) (A : Option Addr) (l : List Nat) : Prop := ∃ g o, A = some ⟨g, o, none⟩ ∧ g < w.heap.size ∧ ∀ i, i < l.length → w.cell? ⟨g, o + i, none⟩ = some (.int .u64 (l.getD i 0 : Nat))
theorem NumsAt.below {w w' : World} {A : Option Addr} {l : List Nat} (h : NumsAt w A l) {B : Nat} (k : Below B w w') (hB : w.heap.size ≤ B) : NumsAt w' A l := by
  obtain ⟨g, o, h1, h2, h3⟩ := h
  exact ⟨g, o, h1, Nat.lt_of_lt_of_le h2 k.size, fun i hi => (k.cell (p := ⟨g, o + i, none⟩) (by show g < B; omega)).trans (h3 i hi)⟩
theorem num_step {s : ByteArray} {k i : Nat} (hs : s.size = 60) (hk : k ≤ 6) (hi : i < 8) (h : 8 * k + i < s.size) :
    bits .or .u64 (Dk.num ((s.data.toList.drop (8 * k)).take i) : Nat) (IntKind.u64.wrap (IntKind.u64.wrap ((s[8 * k + i]'h).toNat : Int) * 2 ^ (8 * i))) = (Dk.num ((s.data.toList.drop (8 * k)).take (i + 1)) : Nat) := by
  have hl : s.data.toList.length = s.size := by simp
  have hi2 : i < (s.data.toList.drop (8 * k)).length := by rw [List.length_drop]; omega
  have e : (s.data.toList.drop (8 * k))[i] = s[8 * k + i]'h := by
    rw [List.getElem_drop]; rfl
  have := Kp.gen_step (l := s.data.toList.drop (8 * k)) (i := i) hi2 hi
  rwa [e] at this
end Pt
set_option maxRecDepth 100000 in
set_option maxHeartbeats 1000000 in
theorem ptNumber_any (w : World) (s : ByteArray) (k : Nat) (hk : k ≤ 6) (hs : s.size = 60 ∨ s.size = 0) : Calls Tryz.prog 72 #[.string s, .int .i64 (k : Int)] w fun e w' => e = .returned (.int .u64 (Pt.number k s.data.toList : Nat)) ∧ w = w' := by
  by_cases h0 : s.size = 0
  · have he : s = ⟨#[]⟩ := by cases s with | mk a => simp [ByteArray.size] at h0; simp [h0]
    subst he
    have hz : Pt.number k (ByteArray.mk #[]).data.toList = 0 := Pt.number_nil k
    rw [hz]
    go_enter Tryz.func72, Tryz.ntmps72
    go_wp2
    go_ret
    exact ⟨rfl, rfl⟩
  · have h60 : s.size = 60 := by omega
    have he := Kp.text_ne h0
    have hw1 : IntKind.i64.wrap ((k : Int) * 8) = (k : Int) * 8 := IntWalk.i64_in _ (by omega)
    go_enter Tryz.func72, Tryz.ntmps72
    go_wp2
    go_loopw [5, 9] (fun s5 s9 wr => ∃ i : Nat, s9 = .int .i64 i ∧ i ≤ 8 ∧ s5 = .int .u64 (Dk.num ((s.data.toList.drop (8 * k)).take i) : Nat) ∧ w = wr) (fun _ s9 _ => 8 - (intOf s9).toNat)
    case atStart => exact ⟨0, rfl, Nat.zero_le _, rfl, rfl⟩
    case round =>
      obtain ⟨i, rfl, hi, rfl, rfl⟩ := hrel
      by_cases hil : i < 8
      · have hii : (i : Int) < 8 := by omega
        obtain ⟨j, hj⟩ : ∃ j, j = 8 * k + i := ⟨_, rfl⟩
        have hjw : IntKind.i64.wrap ((k : Int) * 8 + (i : Int)) = (j : Int) := by rw [IntWalk.i64_in _ (by omega)]; omega
        have hjs : (j : Int) < (s.size : Int) := by omega
        have hjn : j < s.size := by omega
        have hb1 : IntKind.i64.wrap (8 * (i : Int)) = 8 * (i : Int) := IntWalk.i64_in _ (by omega)
        have ST : Hid (bits .or .u64 (Dk.num ((s.data.toList.drop (8 * k)).take i) : Nat) (IntKind.u64.wrap (IntKind.u64.wrap ((s[j]'hjn).toNat : Int) * 2 ^ (8 * i))) = (Dk.num ((s.data.toList.drop (8 * k)).take (i + 1)) : Nat)) := by
          subst hj
          exact Pt.num_step h60 hk hil hjn
        have hsuc : IntKind.i64.wrap ((i : Int) + 1) = ((i + 1 : Nat) : Int) := by simp [IntKind.wrap, IntKind.bits, IntKind.signed]; omega
        clear hj
        go_wp2
        go_roundw
        case rel =>
          refine ⟨i + 1, rfl, by omega, ?_, by trivial⟩
          exact congrArg (Value.int .u64) ST.out
        case measure => simp only [intOf]; omega
      · have : ¬ ((i : Int) < 8) := by omega
        have e8 : i = 8 := by omega
        subst e8
        go_wp2
        go_ret
        exact ⟨rfl, rfl⟩
end Go.Proofs.YtnmagfodjcookaaGreat

/-
  What parts' Greatest tells of bodies.
-/
namespace Go.Proofs.YtnmagfodjcookaaGreat
open Go.RowKit
namespace Kp
/-- A body, or none. -/
def Bod (b : List UInt8) : Prop := b.length = 60 ∨ b.length = 0
theorem StrsAt.at {w : World} {A : Option Addr} {l : List (List UInt8)} (h : StrsAt w A l) : ∃ g o, A = some ⟨g, o, none⟩ ∧ ∀ i, i < l.length → w.cell? ⟨g, o + i, none⟩ = some (.string ⟨(l.getD i []).toArray⟩) := by
  obtain ⟨g, o, h1, _, h3⟩ := h
  exact ⟨g, o, h1, h3⟩
theorem bod_get {l : List (List UInt8)} (h : ∀ b ∈ l, Bod b) (i : Nat) : Bod (l.getD i []) := by
  rw [List.getD_eq_getElem?_getD]
  by_cases hi : i < l.length
  · rw [List.getElem?_eq_getElem hi]; exact h _ (List.getElem_mem hi)
  · rw [List.getElem?_eq_none (by omega)]; exact .inr rfl
theorem bod_size {b : List UInt8} (h : Bod b) : (ByteArray.mk b.toArray).size = 60 ∨ (ByteArray.mk b.toArray).size = 0 := by
  have : (ByteArray.mk b.toArray).size = b.length := by simp [ByteArray.size]
  rw [this]; exact h
end Kp
set_option maxRecDepth 100000 in
set_option maxHeartbeats 1000000 in
theorem ptGreatest_any (w : World) (A : Option Addr) (c : Nat) (l : List (List UInt8)) (k : Nat) (hk : k ≤ 6) (h : Kp.StrsAt w A l) (hl : l.length ≤ 1099511627776) (hb : ∀ b ∈ l, Kp.Bod b) :
    Calls Tryz.prog 42 #[.slice A l.length c, .int .i64 (k : Int)] w fun e w' => e = .returned (.int .u64 (Pt.greatest k l : Nat)) ∧ w = w' := by
  obtain ⟨g, o, rfl, hc⟩ := h.at
  have HC := Lib.hid hc
  have GE : Hid (∀ (i : Nat) (wx : World), Calls Tryz.prog 72 #[.string ⟨(l.getD i []).toArray⟩, .int .i64 (k : Int)] wx fun e w' => e = .returned (.int .u64 (Pt.number k (l.getD i []) : Nat)) ∧ wx = w') := fun i wx => ptNumber_any wx ⟨(l.getD i []).toArray⟩ k hk (Kp.bod_size (Kp.bod_get hb i))
  obtain ⟨n, hn⟩ : ∃ n, n = l.length := ⟨_, rfl⟩
  have HN := Lib.hid hn
  rw [← hn] at hl ⊢
  clear hc h hb hn
  go_enter Tryz.func42, Tryz.ntmps42
  go_wp2
  go_loopw [5, 10] (fun s5 s10 wr => ∃ i : Nat, s10 = .int .i64 i ∧ i ≤ n ∧ s5 = .int .u64 (Pt.greatest k (l.take i) : Nat) ∧ w = wr) (fun _ s10 _ => n - (intOf s10).toNat)
  case atStart => exact ⟨0, rfl, Nat.zero_le _, rfl, rfl⟩
  case round =>
    obtain ⟨i, rfl, hi, rfl, rfl⟩ := hrel
    by_cases hil : i < n
    · have hii : (i : Int) < (n : Int) := by omega
      have hil2 : i < l.length := by rw [← HN.out]; exact hil
      have c1 := HC.out i hil2
      have hsuc : IntKind.i64.wrap ((i : Int) + 1) = ((i + 1 : Nat) : Int) := by simp [IntKind.wrap, IntKind.bits, IntKind.signed]; omega
      have GEI := Lib.hid (GE.out i w)
      obtain ⟨b, hbt⟩ : ∃ b : ByteArray, b = ⟨(l.getD i []).toArray⟩ := ⟨_, rfl⟩
      have NX := Lib.hid (Pt.great_take (k := k) (l := l) (i := i) hil2)
      have hg1 := Pt.greatest_lt k (l.take i)
      have hg2 := Pt.number_lt k (l.getD i [])
      rw [← hbt] at c1 GEI
      obtain ⟨x, hx⟩ : ∃ x, x = Pt.greatest k (l.take i) := ⟨_, rfl⟩
      obtain ⟨y, hy⟩ : ∃ x, x = Pt.number k (l.getD i []) := ⟨_, rfl⟩
      rw [← hx, ← hy] at NX
      rw [← hx] at hg1 ⊢
      rw [← hy] at hg2 GEI
      clear hbt hx hy hil2
      by_cases hxy : x ≤ y
      · have hxy1 : (x : Int) ≤ y := by omega
        have hxy2 : max (x : Int) (y : Int) = y := by omega
        go_wp2_with (refine GEI.out.mono ?_; rintro e w2 ⟨rfl, rfl⟩)
        refine ⟨⟨i + 1, by push_cast; rfl, by omega, ?_, trivial⟩, by simp only [intOf]; omega⟩
        rw [NX.out, Nat.max_eq_right hxy]
      · have hxy1 : ¬ (x : Int) ≤ y := by omega
        have hxy2 : max (x : Int) (y : Int) = x := by omega
        go_wp2_with (refine GEI.out.mono ?_; rintro e w2 ⟨rfl, rfl⟩)
        refine ⟨⟨i + 1, by push_cast; rfl, by omega, ?_, trivial⟩, by simp only [intOf]; omega⟩
        rw [NX.out, Nat.max_eq_left (by omega)]
    · have hii : ¬ (i : Int) < (n : Int) := by omega
      have hie : l.take i = l := List.take_of_length_le (by rw [← HN.out]; omega)
      rw [hie]
      go_wp2
      go_ret
      exact ⟨rfl, rfl⟩
end Go.Proofs.YtnmagfodjcookaaGreat

/-
  What parts' joined makes of bodies.
-/
namespace Go.Proofs.YtnmagfodjcookaaGreat
open Go.RowKit
namespace Kp
theorem builder_new (w : World) : Lib.IsBuilder 101 5 w.heap.size w.heap.size (Lib.byteCells []) (w.alloc (.cells #[.pointer none, .slice none 0 0] 101)) :=
  .inl ⟨Nat.le_refl _, .slice none 0 0, heap_alloc_new w _, World.ownsRow_nil _ _ _ _, by simp [Value.ownBlock]⟩
theorem none_take {l : List (List UInt8)} {n i : Nat} (hi : i < n) (hil : i < l.length) (h : l.getD i [] = []) : [] ∈ l.take n := by
  rw [List.getD_eq_getElem?_getD, List.getElem?_eq_getElem hil] at h
  have h2 : l[i] = [] := h
  rw [← h2]
  exact List.mem_take_iff_getElem.2 ⟨i, by omega, rfl⟩
theorem all_take {l : List (List UInt8)} {n : Nat} (hn : n ≤ l.length) (h : ∀ j, j < n → l.getD j [] ≠ []) : [] ∉ l.take n := by
  intro hm
  obtain ⟨j, hj, e⟩ := List.mem_take_iff_getElem.1 hm
  refine h j (by omega) ?_
  rw [List.getD_eq_getElem?_getD, List.getElem?_eq_getElem (by omega)]
  exact e
end Kp
namespace Pt
/-- Some draws behind. -/
def Drew (w w' : World) : Prop := ∃ q, w' = w.drewN q
theorem piece_text {b s : ByteArray} {k n m : Nat} (hm : m = min (len k b.data.toList) n) (hs : s = b.extract (8 * k) b.size) : (s.extract 4 (4 + m)).data.toList = piece k n b.data.toList := by
  have hl : b.data.toList.length = b.size := by simp
  rw [hs, piece, ByteArray.data_extract, ByteArray.data_extract, Array.toList_extract, Array.toList_extract, List.extract_eq_take_drop, List.extract_eq_take_drop, hm, show 4 + min (len k b.data.toList) n - 4 = min (len k b.data.toList) n by omega, List.take_of_length_le (l := b.data.toList.drop (8 * k)) (by rw [List.length_drop]; omega), List.drop_drop]
end Pt
set_option maxRecDepth 100000 in
set_option maxHeartbeats 1000000 in
theorem ptJoined_any (w : World) (A : Option Addr) (c : Nat) (l : List (List UInt8)) {k n : Nat} (hkn : 8 * k + n = 56) (hn0 : 0 < n) (h : Kp.StrsAt w A l) (hl1 : 1 ≤ l.length) (hl : l.length ≤ 1099511627776) (hb : ∀ b ∈ l, Kp.Bod b) (h0 : (l.getD 0 []).length = 60) :
    Calls Tryz.prog 85 #[.slice A l.length c, .int .i64 (k : Int)] w fun e w' => e = .returned (.string ⟨(Pt.joined k n l).toArray⟩) ∧ Below w.heap.size w w' := by
  obtain ⟨g, o, rfl, hg, hc⟩ := h
  have SZ : Hid (∀ wx : World, Calls Tryz.prog 59 #[.int .i64 (k : Int)] wx fun e w' => e = .returned (.int .i64 (n : Int)) ∧ wx = w') := fun wx => by
    have := ptSize_any wx k (by omega)
    rwa [show (56 : Int) - 8 * (k : Int) = (n : Int) by omega] at this
  have c0 := hc 0 (by omega)
  obtain ⟨b0, hb0⟩ : ∃ b : ByteArray, b = ⟨(l.getD 0 []).toArray⟩ := ⟨_, rfl⟩
  have hb0s : b0.size = 60 := by rw [hb0]; simpa [ByteArray.size] using h0
  obtain ⟨i1, hi1⟩ : ∃ i, i = 8 * k + 1 := ⟨_, rfl⟩
  have hi1l : i1 < b0.size := by omega
  have hb0n : (b0[i1]'hi1l).toNat = Pt.count k (l.getD 0 []) := by
    subst hb0
    rw [Pt.count, ← hi1, List.getD_eq_getElem?_getD (l := l.getD 0 []), List.getElem?_eq_getElem (by omega)]
    rfl
  rw [← hb0, Nat.add_zero] at c0
  obtain ⟨q, hq⟩ : ∃ q, q = (b0[i1]'hi1l).toNat := ⟨_, rfl⟩
  have hnl : Hid (Pt.joined k n l = if [] ∈ l.take q then [] else (l.take q).flatMap (Pt.piece k n)) := by show Pt.joined k n l = _; rw [Pt.joined, ← hb0n, ← hq]
  have hn256 : q < 256 := by rw [hq]; exact (b0[i1]'hi1l).toNat_lt
  have HQ := Lib.hid hq
  have HC := Lib.hid hc
  obtain ⟨ln, hln⟩ : ∃ n, n = l.length := ⟨_, rfl⟩
  have HLN := Lib.hid hln
  rw [← hln] at hl1 hl ⊢
  have b1 : Below w.heap.size w (w.alloc (.cells #[.pointer none, .slice none 0 0] 101)) := (Below.refl _ w).alloc (Nat.le_refl _) _
  have g1 := Lib.hid (Kp.builder_new w)
  have c0' := (b1.cell (p := ⟨g, o, none⟩) hg).trans c0
  obtain ⟨at8, hat8⟩ : ∃ a, a = 8 * k := ⟨_, rfl⟩
  have w1' : IntKind.i64.wrap ((k : Int) * 8) = (at8 : Int) := by rw [IntWalk.i64_in _ (by omega)]; omega
  have w2' : IntKind.i64.wrap ((at8 : Int) + 1) = (i1 : Int) := by rw [IntWalk.i64_in _ (by omega)]; omega
  have hc00 : (0 : Int) < (ln : Int) := by omega
  clear hc hb0n hb0 hq c0 hln
  go_enter Tryz.func85, Tryz.ntmps85
  have H8 := Lib.hid hat8
  clear hat8
  go_upto_region 2 with (fail)
  generalize w.alloc (.cells #[.pointer none, .slice none 0 0] 101) = w1 at *
  obtain ⟨N, hNN⟩ : ∃ N, N = w.heap.size := ⟨_, rfl⟩
  rw [← hNN] at b1 g1 ⊢
  have HNN := Lib.hid hNN
  clear hNN
  have v1 : (i1 : Int) < b0.size := by omega
  obtain ⟨m, hm⟩ : ∃ m, m = min q ln := ⟨_, rfl⟩
  have hw : wrap64 ((b0[i1]'hi1l).toNat : Int) = (q : Int) := by
    have := HQ.out
    rw [← this]; simp only [wrap64]; omega
  have HM := Lib.hid hm
  have hmln : m ≤ ln := by rw [hm]; exact Nat.min_le_right _ _
  have hm256 : m < 256 := by rw [hm]; exact Nat.lt_of_le_of_lt (Nat.min_le_left _ _) hn256
  clear hm hi1
  go_upto_region 3 with (fail)
  go_cut [21, 22] from 12 (fun s21 s22 wx => s21 = .int .i64 (m : Int) ∧ s22 = .int .i64 0 ∧ w1 = wx)
  case first =>
    by_cases hql : q ≤ ln
    · have hqli : (q : Int) ≤ (ln : Int) := Int.ofNat_le.2 hql
      have hmq : m = q := by have := HM.out; rw [this]; exact Nat.min_eq_left hql
      subst hmq
      have hmn : min (m : Int) (ln : Int) = (m : Int) := Int.min_eq_left hqli
      go_wp2_with fail
      go_meet
      exact ⟨rfl, rfl, rfl⟩
    · have hqli : ¬ (q : Int) ≤ (ln : Int) := fun h => hql (Int.ofNat_le.1 h)
      have hmq : m = ln := by have := HM.out; rw [this]; exact Nat.min_eq_right (Nat.le_of_not_le hql)
      subst hmq
      have hmn : min (q : Int) (m : Int) = (m : Int) := Int.min_eq_right (Int.le_of_lt (Int.not_le.1 hqli))
      go_wp2_with fail
      go_meet
      exact ⟨rfl, rfl, rfl⟩
  case rest =>
    obtain ⟨rfl, rfl, rfl⟩ := hcut
    clear hw w1' w2'
    go_wp2_with fail
    go_loopw [22] (fun s22 wr => ∃ i : Nat, s22 = .int .i64 i ∧ i ≤ m ∧ (∀ j, j < i → l.getD j [] ≠ []) ∧ Lib.IsBuilder 101 5 N N (Lib.byteCells ((l.take i).flatMap (Pt.piece k n))) wr ∧ Below N w wr) (fun s22 _ => m - (intOf s22).toNat)
    case atStart => exact ⟨0, rfl, Nat.zero_le _, fun j hj => by omega, g1.out, b1⟩
    case round =>
      clear g1 b1 c0'
      obtain ⟨i, rfl, hi, hall, hib, hbl⟩ := hrel
      have HIB := Lib.hid hib
      have HBL := Lib.hid hbl
      have HALL := Lib.hid hall
      clear hib hall
      by_cases him : i < m
      · have hki : (i : Int) < (m : Int) := by omega
        have hil : i < ln := by omega
        have hkl : (i : Int) < (ln : Int) := by omega
        have hsuc : IntKind.i64.wrap ((i : Int) + 1) = ((i + 1 : Nat) : Int) := by simp [IntKind.wrap, IntKind.bits, IntKind.signed]; omega
        have hill : i < l.length := by rw [← HLN.out]; exact hil
        have ck := (hbl.cell (p := ⟨g, o + i, none⟩) (by rw [HNN.out]; exact hg)).trans (HC.out i hill)
        have hbod := Kp.bod_get hb i
        obtain ⟨b, hbb⟩ : ∃ b : ByteArray, b = ⟨(l.getD i []).toArray⟩ := ⟨_, rfl⟩
        rw [← hbb] at ck
        have hbl2 : b.data.toList = l.getD i [] := by rw [hbb]
        have hbsz : b.size = (l.getD i []).length := by rw [hbb]; simp [ByteArray.size]
        by_cases hz0 : b.size = 0
        · have he := Kp.text_none hz0
          have hj : Pt.joined k n l = [] := by
            rw [hnl.out, if_pos (Kp.none_take (i := i) (by have := HM.out; omega) hill (List.eq_nil_of_length_eq_zero (by omega)))]
          have HJ := Lib.hid hj
          clear hj hbl2 hbb hbl hbsz
          go_wp2
          go_ret
          exact ⟨by rw [HJ.out]; rfl, by rw [← HNN.out]; exact HBL.out⟩
        · have he := Kp.text_ne hz0
          have h60 : b.size = 60 := by rcases hbod with h | h <;> omega
          have hdl : b.data.toList.length = b.size := by simp
          have hat8 := H8.out
          have ha1 : (at8 : Int) ≤ (b.size : Int) := by omega
          have ha2 : ¬ (b.size : Int) < (at8 : Int) := by omega
          have ha3 : (0 : Int) ≤ (at8 : Int) := by omega
          have ha4 : ¬ (at8 : Int) < 0 := by omega
          obtain ⟨tl, htl⟩ : ∃ t, t = b.extract at8 b.size := ⟨_, rfl⟩
          have htls : tl.size = 60 - at8 := by rw [htl]; simp [ByteArray.size_extract, h60]
          have h2 : 2 < tl.size := by omega
          have h2i : (2 : Int) < tl.size := by omega
          obtain ⟨z, hz⟩ : ∃ z, z = (tl[2]'h2).toNat := ⟨_, rfl⟩
          have hzl : z = Pt.len k (l.getD i []) := by
            rw [hz, Pt.len, ← hbl2, ← hat8, List.getD_eq_getElem?_getD, List.getElem?_eq_getElem (show at8 + 2 < b.data.toList.length by omega)]
            subst htl
            simp [ByteArray.getElem_extract]
            rfl
          obtain ⟨y, hy⟩ : ∃ y, y = min z n := ⟨_, rfl⟩
          have HTL := Lib.hid htl
          have HZ := Lib.hid hz
          have HZL := Lib.hid hzl
          have HY := Lib.hid hy
          have HBB := Lib.hid hbl2
          have hne : l.getD i [] ≠ [] := fun e => by rw [e] at hbsz; exact hz0 (by simpa using hbsz)
          have HNE := Lib.hid hne
          have hyn : y ≤ n := by rw [hy]; exact Nat.min_le_right _ _
          have hyz : y ≤ z := by rw [hy]; exact Nat.min_le_left _ _
          have hzw : z < 256 := by rw [hz]; exact (tl[2]'h2).toNat_lt
          clear htl hz hzl hy hbl2 hbb hat8 hdl hbsz hne h60
          have HTS := Lib.hid htls
          clear htls
          go_upto_region 9 with (fail)
          rw [← HTL.out]
          go_cut [9] from 36 to 47 (fun s9 wx => s9 = .int .i64 (y : Int) ∧ Pt.Drew wr wx)
          case first =>
            have hzw2 : wrap64 ((tl[2]'h2).toNat : Int) = (z : Int) := by
              have := HZ.out
              rw [← this]; simp only [wrap64]; omega
            by_cases hzn : z ≤ n
            · have hzni : (z : Int) ≤ (n : Int) := Int.ofNat_le.2 hzn
              have hyq : y = z := by have := HY.out; rw [this]; exact Nat.min_eq_left hzn
              subst hyq
              have hmn : min (y : Int) (n : Int) = (y : Int) := Int.min_eq_left hzni
              go_quiet ((go_at_call 59; exact Calls.quiet_of_same ((SZ.out _).mono fun _ _ h => ⟨h.1, h.2.symm⟩)))
              go_wp2_with fail
              go_meet
              exact ⟨rfl, _, rfl⟩
            · have hzni : ¬ (z : Int) ≤ (n : Int) := fun h => hzn (Int.ofNat_le.1 h)
              have hyq : y = n := by have := HY.out; rw [this]; exact Nat.min_eq_right (Nat.le_of_not_le hzn)
              subst hyq
              have hmn : min (z : Int) (y : Int) = (y : Int) := Int.min_eq_right (Int.le_of_lt (Int.not_le.1 hzni))
              go_quiet ((go_at_call 59; exact Calls.quiet_of_same ((SZ.out _).mono fun _ _ h => ⟨h.1, h.2.symm⟩)))
              go_wp2_with fail
              go_meet
              exact ⟨rfl, _, rfl⟩
          case rest =>
            obtain ⟨rfl, q2, rfl⟩ := hcut
            obtain ⟨x, hx⟩ : ∃ x, x = 4 + y := ⟨_, rfl⟩
            have hx1 : IntKind.i64.wrap (4 + (y : Int)) = (x : Int) := by rw [IntWalk.i64_in _ (by omega), hx]; push_cast; rfl
            have hn56 : n ≤ 56 - at8 := by have := H8.out; omega
            have hts := HTS.out
            have hx2 : (x : Int) ≤ tl.size := by omega
            have hx3 : (4 : Int) ≤ (x : Int) := by omega
            have hx4 : ¬ (tl.size : Int) < (x : Int) := by omega
            have hx5 : ¬ (x : Int) < 4 := by omega
            obtain ⟨s, hs⟩ : ∃ s, s = tl.extract 4 x := ⟨_, rfl⟩
            have hsp : s.data.toList = Pt.piece k n (l.getD i []) := by
              rw [hs, hx, ← HBB.out]
              exact Pt.piece_text (by rw [HY.out, HZL.out, HBB.out]) (by rw [HTL.out, H8.out])
            have HS := Lib.hid hs
            have HSP := Lib.hid hsp
            clear hs hsp hx hts
            have HBL2 := Lib.hid (Sm.below_drewN HBL.out q2)
            have hnw := HBL2.out.size
            have hNw := HNN.out
            have hps := Pt.pieces_le k n (l.take i)
            have htk : (l.take i).length ≤ i := List.length_take_le _ _
            have hpn : n * (l.take i).length ≤ 56 * 256 := Nat.mul_le_mul (by omega) (by omega)
            have hss : s.size ≤ 56 := by
              have h1 := congrArg List.length HSP.out
              have h2 := Pt.piece_le k n (l.getD i [])
              have h3 : s.data.toList.length = s.size := by simp
              omega
            have WS := Lib.hid (Builder_WriteString N N (Lib.byteCells ((l.take i).flatMap (Pt.piece k n))) s (wr.drewN q2) HIB.out (by rw [Lib.byteCells_length]; omega) (by omega))
            clear hnw hNw hps htk hss hpn
            go_wp2_with (rw [← HS.out]; refine WS.out.mono ?_; rintro e w2 ⟨rfl, hb2, k2⟩)
            have e2 : Lib.byteCells ((l.take i).flatMap (Pt.piece k n)) ++ Lib.strCells s = Lib.byteCells ((l.take (i + 1)).flatMap (Pt.piece k n)) := by
              rw [show Lib.strCells s = Lib.byteCells s.data.toList from rfl, HSP.out, ← Lib.byteCells_append, List.take_succ_eq_append_getElem hill, List.flatMap_append, List.getD_eq_getElem?_getD, List.getElem?_eq_getElem hill]
              simp
            rw [e2] at hb2
            go_roundw
            case rel =>
              refine ⟨i + 1, rfl, by omega, fun j hj => ?_, .inr hb2, HBL2.out.trans k2⟩
              by_cases hji : j = i
              · rw [hji]; exact HNE.out
              · exact HALL.out j (by omega)
            case measure => simp only [intOf]; omega
      · have hki : ¬ (i : Int) < (m : Int) := by omega
        have him2 : i = m := by omega
        have e1 : l.take q = l.take i := by
          have hmm := HM.out
          by_cases hql : q ≤ ln
          · rw [Nat.min_eq_left hql] at hmm
            rw [him2, hmm]
          · rw [Nat.min_eq_right (Nat.le_of_not_le hql)] at hmm
            rw [List.take_of_length_le (by rw [← HLN.out]; omega), List.take_of_length_le (by rw [← HLN.out]; omega)]
        have hj : Pt.joined k n l = (l.take i).flatMap (Pt.piece k n) := by
          rw [hnl.out, e1, if_neg (Kp.all_take (by rw [← HLN.out]; omega) HALL.out)]
        rw [← hj] at HIB
        have hNw := HNN.out
        have ST := Lib.hid (Builder_String_any N N (Pt.joined k n l) wr HIB.out (by have := hbl.size; omega))
        clear hj e1 him2 hbl hNw
        obtain ⟨jt, hjt⟩ : ∃ b : ByteArray, b = ⟨(Pt.joined k n l).toArray⟩ := ⟨_, rfl⟩
        rw [← hjt] at ST
        have HJT := Lib.hid hjt
        clear hjt
        go_wp2_with (refine ST.out.mono ?_; rintro e w2 ⟨rfl, k2⟩)
        go_ret
        exact ⟨by rw [HJT.out]; rfl, by rw [← HNN.out]; exact HBL.out.trans k2⟩
end Go.Proofs.YtnmagfodjcookaaGreat

/-
  Rows of bytes of the call's own: noughts behind them, a text of them, a clone.
-/
namespace Go.Proofs.YtnmagfodjcookaaGreat
open Go.RowKit
namespace Pt
theorem zeros_cells (m : Nat) : Builtin.zeroCells (Value.int .u8 0).cells m = (List.replicate m (Value.int .u8 0)).toArray := by
  apply Array.ext'
  simp only [Builtin.zeroCells, Value.cells]
  refine List.ext_getElem (by simp) fun i h1 h2 => ?_
  simp [Nat.mod_one]
theorem run_zeros {w : World} {B : Nat} {v : Value} {n : Nat} {xs : List Value} (h : w.ownsRow B 5 1 v n xs) (hn : 0 < n) (m : Nat) (hb : n + m ≤ 1099511627776) (hB : B ≤ w.heap.size) (ty : TypeId) :
    ∃ v' w', (Builtin.append_ #[65, 3] ty #[v, .int .i64 (m : Int)]).run Tryz.prog w = .ok v' w' ∧ w'.ownsRow B 5 1 v' (n + m) (xs ++ List.replicate m (.int .u8 0)) ∧ w.grownBy w' v.ownBlock := by
  obtain ⟨i0, hi, hz, hs1, hby⟩ := info_parts info3_u8
  have ht := Tryz.underlying65
  have htn := Tryz.underlying3
  have hxl : xs.length = n := by simpa using h.1
  have hlen : (xs ++ List.replicate m (Value.int .u8 0)).length = (n + m) * 1 := by simp [hxl]
  have hw : IntKind.i64.wrap (m : Int) = m := by rw [IntKind.wrap_i64]; omega
  have hneg : ¬ ((m : Int) < 0) := by omega
  rcases h.2 with ⟨_, e⟩ | ⟨g, cap, cur, rfl, hbg, hg, hnc, hcm, hcs, htake⟩
  · omega
  by_cases hm0 : m = 0
  · subst hm0
    refine ⟨_, w, ?_, by simpa using h, Sm.grown_refl w _⟩
    have hw0 : IntKind.i64.wrap 0 = 0 := by decide
    have hnc' : n ≤ cap := hnc
    simp [Builtin.append_, run_underlying ht, run_underlying htn, sizeOf, typeInfo, hi, hby, asInt, asIntOf, hw0, hnc', storeCells]
  by_cases hroom : n + m ≤ cap
  · have hcs' : cur.size = cap := by simpa using hcs
    have hst := run_storeCells_at Tryz.prog g n 5 (List.replicate m (Value.int .u8 0)) 0 cur w hg (by simp; omega) (by intro u hu; rw [(List.mem_replicate.1 hu).2]; rfl)
    simp only [Nat.add_zero] at hst
    have h48 : ¬ (281474976710656 < (m : Int)) := by omega
    have hr : (Builtin.append_ #[65, 3] ty #[.slice (some ⟨g, 0, none⟩) n cap, .int .i64 (m : Int)]).run Tryz.prog w = .ok (.slice (some ⟨g, 0, none⟩) (n + m) cap) (w.setRow g (cur.toList.take n ++ List.replicate m (Value.int .u8 0) ++ cur.toList.drop (n + (List.replicate m (Value.int .u8 0)).length)).toArray) := by
      simp [Builtin.append_, run_underlying ht, run_underlying htn, sizeOf, typeInfo, hi, hs1, hby, asInt, asIntOf, hw, hneg, h48, hroom, hm0, zeros_cells, Addr.add_lit, hst]
    refine ⟨_, _, hr, ⟨hlen, .inr ⟨g, cap, _, rfl, hbg, setRow_heap w g cur _ 5 _ hg, hroom, hcm, ?_, ?_⟩⟩, ⟨rfl, rfl, rfl, by simp, fun k _ hk => setRow_other w g k _ (fun e => hk (by simp [Value.ownBlock, e]))⟩⟩
    · simp only [List.size_toArray, List.length_append, List.length_take, List.length_drop, Array.length_toList, List.length_replicate]
      omega
    · have ht' : cur.toList.take n = xs := by simpa using htake
      rw [ht', ← hlen]
      exact List.take_left
  · have holds : ∀ j u, xs[j]? = some u → w.cell? ((⟨g, 0, none⟩ : Addr).add j) = some u := h.cells (g := g) rfl
    have hfo := run_firstCells_some (P := Tryz.prog) w.drew 1 n ⟨g, 0, none⟩ n cap xs h.1 (by simpa using holds)
    have hr := Lib.run_append_grow_zeros (P := Tryz.prog) w 65 3 ty 5 i0 (.int .u8 0) .i64 .i64 ht htn hi hz (some ⟨g, 0, none⟩) n cap xs (by rw [hs1]; exact hfo) m (by omega) (by rw [hs1]; decide) (by omega) (by omega) (by rw [hby]; omega) (growslice_fits (by omega) (by rw [hby]; omega))
    have hge := grownCap_ge w (n + m) cap 5
    have hcm2 : grownCap w (n + m) cap 5 ≤ maxLen := grownCap_le_maxLen w (n + m) cap 5 (by unfold maxLen; omega)
    refine ⟨_, _, hr, ⟨hlen, .inr ⟨w.heap.size, _, _, rfl, hB, heap_alloc_new w.drew _, hge, hcm2, ?_, ?_⟩⟩, ⟨rfl, rfl, rfl, by simp, fun k hk _ => Below.heap_alloc w.drew _ k hk⟩⟩
    · rw [zeros_cells, zeros_cells]
      simp [hxl]; omega
    · rw [zeros_cells, zeros_cells, ← hlen]
      simp only [Array.toList_append, List.append_assoc]
      rw [← List.append_assoc]
      exact List.take_left
theorem run_text {w : World} {B : Nat} {v : Value} {n : Nat} {l : List UInt8} (h : w.ownsRow B 5 1 v n (Lib.byteCells l)) (hn : 0 < n) : (convert 65 9 v).run Tryz.prog w = .ok (.string ⟨l.toArray⟩) w := by
  have hl : l.length = n := by have := h.1; rw [Lib.byteCells_length] at this; omega
  rcases h.2 with ⟨_, e⟩ | ⟨g, cap, cur, rfl, hbg, hg, hnc, hcm, hcs, htake⟩
  · omega
  have hsz : (ByteArray.mk l.toArray).size = n := by simp [ByteArray.size, hl]
  have := Lib.run_convert_whole (P := Tryz.prog) w 65 5 9 Tryz.underlying65 Tryz.underlying5 Tryz.underlying9 g 0 ⟨l.toArray⟩ (fun i hi => ?_) cap
  · rwa [hsz] at this
  · rw [hsz] at hi
    have e := h.cells (g := g) rfl i (.int .u8 ((l.getD i 0).toNat : Int)) (by rw [Sm.byteCells_get (by omega)])
    rw [Addr.add_mid, Nat.zero_add] at e
    rw [Nat.zero_add, e, List.getD_eq_getElem?_getD, List.getElem?_eq_getElem (by omega)]
    rfl
end Pt
set_option maxHeartbeats 1000000 in
set_option maxRecDepth 100000 in
theorem cloneB_any (w : World) (b off c : Nat) (l : List UInt8) (hbig : l.length ≤ 1099511627776) (hc : ∀ j, j < l.length → w.cell? ⟨b, off + j, none⟩ = some (.int .u8 (l.getD j 0).toNat)) :
    Calls Tryz.prog 81 #[.slice (some ⟨b, off, none⟩) l.length c] w fun e w' => ∃ A c', e = .returned (.slice A l.length c') ∧ w'.ownsRow w.heap.size 5 1 (.slice A l.length c') l.length (Lib.byteCells l) ∧ Below w.heap.size w w' := by
  obtain ⟨i0, hi, hz0, hz1, hz2⟩ := info_parts info3_u8
  have q22 : ∀ (w : World) (a : Option Addr) (n c n' c' : Nat), (binOp .eql 65 (.slice a n c) (.slice none n' c')).run Tryz.prog w = .ok (.bool a.isNone) w := fun w a n c n' c' => Lib.run_eql_slice_nil w _ _ a n c n' c' Tryz.underlying65
  have HC := Lib.hid hc
  obtain ⟨n, hn⟩ : ∃ n, n = l.length := ⟨_, rfl⟩
  have HN := Lib.hid hn
  rw [← hn] at hbig ⊢
  clear hc hn
  go_enter Tryz.func81, Tryz.ntmps81
  go_wp2_with (at_builtin; refine wpList_append_own _ rfl _ _ 65 rfl w.heap.size 5 i0 (.int .u8 0) 1 1 Tryz.underlying65 hi hz0 hz1 hz2 rfl (by decide) _ _ _ rfl (World.ownsRow_made w #[] 0 (Nat.le_refl _) (Nat.zero_le _) rfl) ⟨b, off, none⟩ n c (Lib.byteCells l) rfl ?qc1 ?qc2 ?qc3 ?qc4 ?qc5 ?qc6 ?_)
  case qc1 => rw [Lib.byteCells_length, ← HN.out, Nat.mul_one]
  case qc2 =>
    intro j u hj
    have hjn : j < l.length := by
      have := (List.getElem?_eq_some_iff.1 hj).1
      rwa [Lib.byteCells_length] at this
    rw [Sm.byteCells_get hjn] at hj
    rw [Addr.add_lit]
    refine Lib.cell?_alloc_some _ ?_
    rw [HC.out j hjn]
    exact hj
  case qc3 => exact Lib.byteCells_one l
  case qc4 => unfold maxLen; omega
  case qc5 => omega
  case qc6 => simp
  intro v' w1 hown hgrow hnil
  obtain ⟨A', c', rfl⟩ := Sm.own_shape hown
  have HO := Lib.hid hown
  have B1 := Lib.hid (((Below.refl _ w).alloc (Nat.le_refl _) _).grown hgrow (by simp) (by intro k hk; simp [Value.ownBlock] at hk; omega))
  clear hown hnil hgrow
  go_wp2
  go_ret
  exact ⟨_, _, rfl, HO.out, B1.out⟩
end Go.Proofs.YtnmagfodjcookaaGreat

/-
  What parts' head and body make.
-/
namespace Go.Proofs.YtnmagfodjcookaaGreat
open Go.RowKit
namespace Pt
theorem low_next (k g : Nat) : Kp.low (k + 1) g = Kp.low k g ++ [UInt8.ofNat (g / 256 ^ k % 256)] := Sm.range_snoc
theorem low_cast (g k : Nat) : IntKind.u8.wrap ((g : Int) / 2 ^ (8 * k)) = ((UInt8.ofNat (g / 256 ^ k % 256)).toNat : Int) := by
  obtain ⟨q, hq⟩ : ∃ q, q = g / 2 ^ (8 * k) := ⟨_, rfl⟩
  have h1 : (g : Int) / 2 ^ (8 * k) = (q : Int) := by rw [hq]; push_cast; rfl
  rw [h1, IntKind.wrap_u8, UInt8.toNat_ofNat', show (256 : Nat) ^ k = 2 ^ (8 * k) by rw [Nat.pow_mul], ← hq]
  omega
theorem head_take {hs : List Nat} {i : Nat} (h : i < hs.length) : head (hs.take (i + 1)) = head (hs.take i) ++ Kp.eight (hs.getD i 0) := by
  rw [List.take_succ_eq_append_getElem h, head, List.flatMap_append, List.getD_eq_getElem?_getD, List.getElem?_eq_getElem h]
  simp [head]
theorem new_byte {w : World} (x : Nat) : ∀ j u, [Value.int .u8 (x : Int)][j]? = some u → (w.alloc (.cells #[.int .u8 (x : Int)] 5)).cell? ((⟨w.heap.size, 0, none⟩ : Addr).add j) = some u := by
  intro j u hj
  match j, hj with
  | 0, hj => simp at hj; subst hj; exact Sm.cells_of (heap_alloc_new w _) 0 _ rfl
  | j + 1, hj => simp at hj
end Pt
set_option maxRecDepth 100000 in
set_option maxHeartbeats 1000000 in
theorem ptHead_any (w : World) (A : Option Addr) (c : Nat) (hs : List Nat) (h : Pt.NumsAt w A hs) (h6 : hs.length ≤ 6) (h1 : 1 ≤ hs.length) :
    Calls Tryz.prog 58 #[.slice A hs.length c] w fun e w' => ∃ b cb, e = .returned (.slice (some ⟨b, 0, none⟩) (8 * hs.length) cb) ∧ w.heap.size ≤ b ∧ b < w'.heap.size ∧ (∀ j, j < 8 * hs.length → w'.cell? ⟨b, j, none⟩ = some (.int .u8 ((Pt.head hs).getD j 0).toNat)) ∧ Below w.heap.size w w' := by
  obtain ⟨i0, hie, hz0, hz1, hz2⟩ := info_parts info3_u8
  obtain ⟨g, o, rfl, hg, hc⟩ := h
  have HC := Lib.hid hc
  obtain ⟨n, hn⟩ : ∃ n, n = hs.length := ⟨_, rfl⟩
  have HN := Lib.hid hn
  rw [← hn] at h6 h1 ⊢
  clear hc hn
  go_enter Tryz.func58, Tryz.ntmps58
  go_wp2
  go_loopw [3, 9] (fun s3 s9 wr => ∃ i : Nat, s9 = .int .i64 i ∧ i ≤ n ∧ wr.ownsRow w.heap.size 5 1 s3 (8 * i) (Lib.byteCells (Pt.head (hs.take i))) ∧ Below w.heap.size w wr) (fun _ s9 _ => n - (intOf s9).toNat)
  case atStart => exact ⟨0, rfl, Nat.zero_le _, World.ownsRow_nil _ _ _ _, Below.refl _ _⟩
  case round =>
    obtain ⟨i, rfl, hi, hown, hb⟩ := hrel
    obtain ⟨Av, cv, hv⟩ := Sm.own_shape hown
    subst hv
    have HO := Lib.hid hown
    have HB := Lib.hid hb
    clear hown
    by_cases hlt : i < n
    · have hki : (i : Int) < (n : Int) := by omega
      have hsuc : IntKind.i64.wrap ((i : Int) + 1) = ((i + 1 : Nat) : Int) := by simp [IntKind.wrap, IntKind.bits, IntKind.signed]; omega
      have ci := (hb.cell (p := ⟨g, o + i, none⟩) hg).trans (HC.out i (by rw [← HN.out]; exact hlt))
      obtain ⟨x, hx⟩ : ∃ x, x = hs.getD i 0 := ⟨_, rfl⟩
      have HT := Lib.hid (Pt.head_take (hs := hs) (i := i) (by rw [← HN.out]; exact hlt))
      rw [← hx] at ci HT
      clear hx hb
      go_wp2
      go_loopw [3, 13] (fun s3 s13 wr2 => ∃ k : Nat, s13 = .int .i64 k ∧ k ≤ 8 ∧ wr2.ownsRow w.heap.size 5 1 s3 (8 * i + k) (Lib.byteCells (Pt.head (hs.take i) ++ Kp.low k x)) ∧ Below w.heap.size w wr2) (fun _ s13 _ => 8 - (intOf s13).toNat)
      case atStart => exact ⟨0, rfl, Nat.zero_le _, by have := HO.out; simpa [Kp.low] using this, HB.out⟩
      case round =>
        obtain ⟨k, rfl, hk, hown2, hb2⟩ := hrel
        obtain ⟨Av2, cv2, hv2⟩ := Sm.own_shape hown2
        subst hv2
        have HO2 := Lib.hid hown2
        have HB2 := Lib.hid hb2
        clear hown2 ci
        by_cases hlt2 : k < 8
        · have hki2 : (k : Int) < 8 := by omega
          have hsuc2 : IntKind.i64.wrap ((k : Int) + 1) = ((k + 1 : Nat) : Int) := by simp [IntKind.wrap, IntKind.bits, IntKind.signed]; omega
          have v1 : IntKind.i64.wrap (8 * (k : Int)) = 8 * (k : Int) := IntWalk.i64_in _ (by omega)
          have p2 : ¬ 8 * (k : Int) < 0 := by omega
          have hlc := Pt.low_cast x k
          have HL := Lib.hid (Pt.low_next k x)
          obtain ⟨xb, hxb⟩ : ∃ y : UInt8, y = UInt8.ofNat (x / 256 ^ k % 256) := ⟨_, rfl⟩
          rw [← hxb] at hlc HL
          have hxl := xb.toNat_lt
          have hbs := hb2.size
          clear hxb hb2
          go_wp2_with (at_builtin
                       refine wpList_append_own _ rfl _ _ 65 rfl w.heap.size 5 i0 (.int .u8 0) 1 1 Tryz.underlying65 hie hz0 hz1 hz2 rfl (by decide) _ _ _ rfl (HO2.out.alloc _) ⟨_, 0, none⟩ 1 1 [.int .u8 (xb.toNat : Int)] rfl rfl (Pt.new_byte xb.toNat) (by intro u hu; simp at hu; subst hu; rfl) (by unfold maxLen; omega) (by omega) (by simp; omega) ?_
                       intro v' w5 hown' hgrow _)
          go_roundw
          case rel =>
            refine ⟨k + 1, rfl, by omega, ?_, ?_⟩
            · rw [HL.out, ← List.append_assoc, Lib.byteCells_append]
              exact hown'
            · exact (HB2.out.alloc hbs _).grown hgrow (by simp; omega) (fun q hq => (Dk.own_blk HO2.out hq).1)
          case measure => simp only [intOf]; omega
        · have hki2 : ¬ (k : Int) < 8 := by omega
          have hk8 : k = 8 := by omega
          subst hk8
          go_wp2
          go_roundw
          case rel =>
            refine ⟨i + 1, rfl, by omega, ?_, HB2.out⟩
            rw [HT.out]
            exact HO2.out
          case measure => simp only [intOf]; omega
    · have hki : ¬ (i : Int) < (n : Int) := by omega
      have hin : i = n := by omega
      subst hin
      have htk : hs.take i = hs := List.take_of_length_le (by rw [← HN.out]; exact Nat.le_refl _)
      rw [htk] at HO
      have hsh : ∃ b, Av = some ⟨b, 0, none⟩ ∧ w.heap.size ≤ b ∧ b < wr.heap.size ∧ ∀ j, j < 8 * i → wr.cell? ⟨b, j, none⟩ = some (.int .u8 ((Pt.head hs).getD j 0).toNat) := by
        rcases HO.out.2 with ⟨_, e⟩ | ⟨b, cap, cur, e, hbg, hg2, _⟩
        · omega
        · simp only [Value.slice.injEq] at e
          refine ⟨b, e.1, hbg, Sm.lt_of hg2, fun j hj => ?_⟩
          have hl := Pt.head_length hs
          have e2 := HO.out.cells (g := b) (by rw [e.1]; rfl) j (.int .u8 (((Pt.head hs).getD j 0).toNat : Int)) (by rw [Sm.byteCells_get (by rw [hl, ← HN.out]; exact hj)])
          rwa [Addr.add_mid, Nat.zero_add] at e2
      obtain ⟨b, rfl, hb1, hb2, hb3⟩ := hsh
      have HB3 := Lib.hid hb3
      clear hb3 hb htk
      go_wp2
      go_ret
      exact ⟨b, ⟨_, rfl⟩, hb1, hb2, HB3.out, HB.out⟩
end Go.Proofs.YtnmagfodjcookaaGreat

/-
  What parts' body and Bodies make of a text.
-/
namespace Go.Proofs.YtnmagfodjcookaaGreat
open Go.RowKit
namespace Pt
theorem u8_of (i : Nat) : IntKind.u8.wrap (i : Int) = ((UInt8.ofNat i).toNat : Int) := by
  rw [IntKind.wrap_u8, UInt8.toNat_ofNat']; omega
theorem new_four {w : World} (a b c d : Value) : ∀ j u, [a, b, c, d][j]? = some u → (w.alloc (.cells #[a, b, c, d] 5)).cell? ((⟨w.heap.size, 0, none⟩ : Addr).add j) = some u := by
  intro j u hj
  rw [Addr.add_mid, Nat.zero_add]
  exact Sm.cells_of (heap_alloc_new w _) j u (by simpa using hj)
def bytesOf (hs : List Nat) (n i P : Nat) (p : List UInt8) : List UInt8 := head hs ++ ([UInt8.ofNat i, UInt8.ofNat P, UInt8.ofNat p.length, 0] ++ (p ++ List.replicate (n - p.length) 0))
theorem body_bytes (hs : List Nat) (n : Nat) (t : List UInt8) (i : Nat) : body hs n t i = bytesOf hs n i (parts n t) (part n t i) := rfl
end Pt
set_option maxRecDepth 100000 in
set_option maxHeartbeats 1000000 in
theorem ptBody_any (w : World) (b cb : Nat) (hs : List Nat) {n : Nat} (hn : 8 * hs.length + n = 56) (h1 : 1 ≤ hs.length) (hc : ∀ j, j < 8 * hs.length → w.cell? ⟨b, j, none⟩ = some (.int .u8 ((Pt.head hs).getD j 0).toNat)) (i P : Nat) (p : ByteArray) (hp : p.size ≤ n) :
    Calls Tryz.prog 60 #[.slice (some ⟨b, 0, none⟩) (8 * hs.length) cb, .int .i64 (i : Int), .int .i64 (P : Int), .string p] w fun e w' => e = .returned (.string ⟨(Pt.bytesOf hs n i P p.data.toList).toArray⟩) ∧ Below w.heap.size w w' := by
  obtain ⟨i0, hie, hz0, hz1, hz2⟩ := info_parts info3_u8
  have hhl := Pt.head_length hs
  have hpl : p.data.toList.length = p.size := by simp
  have CL : Hid (∀ wx, (∀ j, j < 8 * hs.length → wx.cell? ⟨b, j, none⟩ = some (.int .u8 ((Pt.head hs).getD j 0).toNat)) → Calls Tryz.prog 81 #[.slice (some ⟨b, 0, none⟩) (8 * hs.length) cb] wx fun e w' => ∃ A c', e = .returned (.slice A (8 * hs.length) c') ∧ w'.ownsRow wx.heap.size 5 1 (.slice A (8 * hs.length) c') (8 * hs.length) (Lib.byteCells (Pt.head hs)) ∧ Below wx.heap.size wx w') := fun wx hx => by
    have := cloneB_any wx b 0 cb (Pt.head hs) (by omega) (fun j hj => by rw [Nat.zero_add]; exact hx j (by omega))
    rwa [hhl] at this
  have HC := Lib.hid hc
  obtain ⟨m, hm⟩ : ∃ m, m = 8 * hs.length := ⟨_, rfl⟩
  rw [← hm] at CL ⊢
  rw [← hm] at HC hn
  obtain ⟨H, hH⟩ : ∃ H, H = Pt.head hs := ⟨_, rfl⟩
  rw [← hH] at CL hhl
  rw [← hm] at hhl
  obtain ⟨xi, hxi⟩ : ∃ x, x = UInt8.ofNat i := ⟨_, rfl⟩
  obtain ⟨xP, hxP⟩ : ∃ x, x = UInt8.ofNat P := ⟨_, rfl⟩
  obtain ⟨xl, hxl⟩ : ∃ x, x = UInt8.ofNat p.size := ⟨_, rfl⟩
  have vi := Pt.u8_of i
  have vP := Pt.u8_of P
  have vl := Pt.u8_of p.size
  rw [← hxi] at vi
  rw [← hxP] at vP
  rw [← hxl] at vl
  have RES : Hid (Pt.bytesOf hs n i P p.data.toList = H ++ [xi, xP, xl, 0] ++ p.data.toList ++ List.replicate (n - p.size) 0) := by
    show _ = _
    rw [Pt.bytesOf, ← hxi, ← hxP, hpl, ← hxl, ← hH]
    simp only [List.append_assoc]
  obtain ⟨res, hres⟩ : ∃ r, r = Pt.bytesOf hs n i P p.data.toList := ⟨_, rfl⟩
  rw [← hres] at RES
  rw [← hres]
  have hm8 : 8 ≤ m := by omega
  have HH := Lib.hid hhl
  have HM := Lib.hid hm
  have HHE := Lib.hid hH
  clear hc hm hxi hxP hxl hres hH hhl
  go_enter Tryz.func60, Tryz.ntmps60
  have CLW := Lib.hid (CL.out w (fun j hj => by have := HC.out j hj; rwa [← HHE.out] at this))
  go_upto_region 2 with (first
    | (go_at_call 81; refine CLW.out.mono ?_; rintro e w2 ⟨A2, c2, rfl, ho2, k2⟩)
    | (at_builtin
       refine wpList_append_own _ rfl _ _ 65 rfl w.heap.size 5 i0 (.int .u8 0) 1 1 Tryz.underlying65 hie hz0 hz1 hz2 rfl (by decide) _ _ _ rfl (ho2.alloc _) ⟨_, 0, none⟩ 4 4 [.int .u8 (xi.toNat : Int), .int .u8 (xP.toNat : Int), .int .u8 (xl.toNat : Int), .int .u8 0] rfl rfl (Pt.new_four _ _ _ _) (by intro u hu; simp at hu; rcases hu with rfl | rfl | rfl | rfl <;> rfl) (by unfold maxLen; omega) (by omega) (by have := k2.size; simp; omega) ?_
       intro v3 w3 ho3 hg3 _))
  have b3 : Below w.heap.size w w3 := (k2.alloc k2.size _).grown hg3 (by have := k2.size; simp; omega) (fun q hq => (Dk.own_blk ho2 hq).1)
  have e3 : Lib.byteCells H ++ [.int .u8 (xi.toNat : Int), .int .u8 (xP.toNat : Int), .int .u8 (xl.toNat : Int), .int .u8 0] = Lib.byteCells (H ++ [xi, xP, xl, 0]) := by rw [Lib.byteCells_append]; rfl
  rw [e3] at ho3
  obtain ⟨A3, c3, rfl⟩ := Sm.own_shape ho3
  have HO3 := Lib.hid ho3
  clear ho2 k2 hg3 e3 ho3
  go_upto_region 3 with (at_builtin; refine Lib.wpList_append_own_string _ rfl _ _ 65 9 rfl w.heap.size 5 i0 Tryz.underlying65 Tryz.underlying9 hie hz0 hz1 hz2 _ _ _ rfl HO3.out p rfl (by unfold maxLen; omega) (by omega) b3.size ?_; intro v4 w4 ho4 hg4 _)
  have b4 : Below w.heap.size w w4 := b3.grown hg4 b3.size (fun q hq => (Dk.own_blk HO3.out hq).1)
  have e4 : Lib.byteCells (H ++ [xi, xP, xl, 0]) ++ Lib.strCells p = Lib.byteCells (H ++ [xi, xP, xl, 0] ++ p.data.toList) := by rw [Lib.byteCells_append (H ++ [xi, xP, xl, 0])]; rfl
  rw [e4] at ho4
  obtain ⟨L4, hL4⟩ : ∃ L, L = m + 4 + p.size := ⟨_, rfl⟩
  rw [← hL4] at ho4
  obtain ⟨A4, c4, rfl⟩ := Sm.own_shape ho4
  obtain ⟨z, hz⟩ : ∃ z, z = n - p.size := ⟨_, rfl⟩
  obtain ⟨v5, w5, hr5, ho5, hg5⟩ := Pt.run_zeros ho4 (by omega) z (by omega) b4.size 65
  have b5 : Below w.heap.size w w5 := b4.grown hg5 b4.size (fun q hq => (Dk.own_blk ho4 hq).1)
  have e5 : Lib.byteCells (H ++ [xi, xP, xl, 0] ++ p.data.toList) ++ List.replicate z (Value.int .u8 0) = Lib.byteCells res := by
    rw [RES.out, ← hz, Lib.byteCells_append (H ++ [xi, xP, xl, 0] ++ p.data.toList)]
    simp [Lib.byteCells]
  rw [e5] at ho5
  have hcv := Pt.run_text ho5 (by omega)
  obtain ⟨A5, c5, rfl⟩ := Sm.own_shape ho5
  have B5 := Lib.hid b5
  have hsub : IntKind.i64.wrap (60 - (L4 : Int)) = (z : Int) := by rw [IntWalk.i64_in _ (by omega)]; omega
  obtain ⟨L5, hL5⟩ : ∃ L, L = L4 + z := ⟨_, rfl⟩
  rw [← hL5] at hcv hr5
  clear e4 e5 ho4 hg4 hg5 ho5 b3 b4 b5 hL4 hz hL5
  have HR5 := Lib.hid hr5
  clear hr5
  go_wp2_with (at_builtin; refine Lib.wpList_append_run _ rfl _ _ 65 3 rfl _ _ rfl rfl _ w5 HR5.out ?_)
  go_ret
  exact ⟨rfl, B5.out⟩
end Go.Proofs.YtnmagfodjcookaaGreat

/-
  What parts' Bodies makes of a text.
-/
namespace Go.Proofs.YtnmagfodjcookaaGreat
open Go.RowKit
namespace Pt
theorem part_text {t p : ByteArray} {n i : Nat} (hp : p = t.extract (i * n) (min ((i + 1) * n) t.size)) : p.data.toList = part n t.data.toList i := by
  have hl : t.data.toList.length = t.size := by simp
  rw [hp, part, ByteArray.data_extract, Array.toList_extract, List.extract_eq_take_drop, Nat.mul_comm n i]
  have e : (i + 1) * n = i * n + n := Nat.succ_mul i n
  by_cases hc : (i + 1) * n ≤ t.size
  · rw [Nat.min_eq_left hc, e, Nat.add_sub_cancel_left]
  · rw [Nat.min_eq_right (by omega), List.take_of_length_le (by rw [List.length_drop]; omega), List.take_of_length_le (by rw [List.length_drop]; omega)]
end Pt
set_option maxRecDepth 100000 in
set_option maxHeartbeats 2000000 in
theorem ptBodies_new (w : World) (t : ByteArray) (A : Option Addr) (c : Nat) (hs : List Nat) {n : Nat} (hn : 8 * hs.length + n = 56) (h1 : 1 ≤ hs.length) (h6 : hs.length ≤ 6) (hA : Pt.NumsAt w A hs) (ht : t.size ≤ 1099511627776) :
    Calls Tryz.prog 25 #[.string t, .slice A hs.length c] w fun e w' => ∃ A' c', e = .returned (.slice A' (Pt.parts n t.data.toList) c') ∧ Kp.StrsAt w' A' (Pt.bodies hs n t.data.toList) ∧ (∀ q o, A' = some ⟨q, o, none⟩ → w.heap.size ≤ q) ∧ Below w.heap.size w w' := by
  obtain ⟨i0, hie, hz0, hz1, hz2⟩ := info_parts Dk.info3_str
  have hn0 : 0 < n := by omega
  have hn56 : n ≤ 48 := by omega
  have HD := Lib.hid (ptHead_any w A c hs hA h6 h1)
  have SZ : Hid (∀ wx : World, Calls Tryz.prog 59 #[.int .i64 (hs.length : Int)] wx fun e w' => e = .returned (.int .i64 (n : Int)) ∧ wx = w') := fun wx => by
    have := ptSize_any wx hs.length h6
    rwa [show (56 : Int) - 8 * (hs.length : Int) = (n : Int) by omega] at this
  have CO : Hid (∀ wx : World, Calls Tryz.prog 55 #[.string t, .int .i64 (hs.length : Int)] wx fun e w' => e = .returned (.int .i64 (Pt.parts n t.data.toList : Nat)) ∧ wx = w') := fun wx => ptCount_any wx t hn hn0 ht
  have htl : t.data.toList.length = t.size := by simp
  have hP1 := Pt.parts_pos n t.data.toList
  have hPle : Pt.parts n t.data.toList ≤ 1099511627777 := Pt.parts_le hn0 (by rw [htl]; have := Nat.le_mul_of_pos_left 1099511627777 hn0; omega) (by omega)
  have AT : Hid (∀ i, i < Pt.parts n t.data.toList → n * i ≤ t.size) := fun i hi => by have := Pt.at_parts hn0 hi; rwa [htl] at this
  have HL := Lib.hid (Pt.bodies_length hs n t.data.toList)
  obtain ⟨l, hl⟩ : ∃ l, l = Pt.bodies hs n t.data.toList := ⟨_, rfl⟩
  have TK : Hid (∀ k, k < Pt.parts n t.data.toList → l.take (k + 1) = l.take k ++ [Pt.body hs n t.data.toList k]) := fun k hk => by rw [hl]; exact Pt.bodies_take hk
  have BO : Hid (∀ (b cb : Nat) (wx : World) (i : Nat) (p : ByteArray), (∀ j, j < 8 * hs.length → wx.cell? ⟨b, j, none⟩ = some (.int .u8 ((Pt.head hs).getD j 0).toNat)) → p.data.toList = Pt.part n t.data.toList i →
      Calls Tryz.prog 60 #[.slice (some ⟨b, 0, none⟩) (8 * hs.length) cb, .int .i64 (i : Int), .int .i64 (Pt.parts n t.data.toList : Nat), .string p] wx fun e w' => e = .returned (.string ⟨(Pt.body hs n t.data.toList i).toArray⟩) ∧ Below wx.heap.size wx w') := fun b cb wx i p hx hp => by
    have hps : p.size ≤ n := by
      have := Pt.part_le n t.data.toList i
      rw [← hp] at this
      simpa using this
    have := ptBody_any wx b cb hs hn h1 hx i (Pt.parts n t.data.toList) p hps
    rwa [hp, ← Pt.body_bytes] at this
  obtain ⟨P, hP⟩ : ∃ P, P = Pt.parts n t.data.toList := ⟨_, rfl⟩
  obtain ⟨BY, hBY⟩ : ∃ BY : Nat → List UInt8, BY = Pt.body hs n t.data.toList := ⟨_, rfl⟩
  rw [← hl] at HL ⊢
  rw [← hP] at CO hP1 hPle AT HL TK BO ⊢
  rw [← hBY] at TK BO
  obtain ⟨q, hq⟩ : ∃ q, q = hs.length := ⟨_, rfl⟩
  rw [← hq] at HD SZ CO BO hn h1 ⊢
  obtain ⟨m, hm⟩ : ∃ m, m = 8 * q := ⟨_, rfl⟩
  rw [← hm] at HD BO
  have HBY := Lib.hid hBY
  clear hl hP hBY hq hm htl hA
  go_enter Tryz.func25, Tryz.ntmps25
  go_upto_region 3 with (first
    | (go_at_call 58; refine HD.out.mono ?_; rintro e w2 ⟨b, cb, rfl, hb0, hb1, hb2, k2⟩)
    | (go_at_call 59; refine (SZ.out _).mono ?_; rintro e w3 ⟨rfl, rfl⟩)
    | (go_at_call 55; refine (CO.out _).mono ?_; rintro e w4 ⟨rfl, rfl⟩))
  have HB2 := Lib.hid hb2
  have K2 := Lib.hid k2
  clear hb2 k2
  go_wp2_with fail
  go_loopw [8, 20] (fun s8 s20 wr => ∃ k : Nat, s20 = .int .i64 k ∧ k ≤ P ∧ wr.ownsRow w2.heap.size 9 1 s8 (l.take k).length ((l.take k).map Dk.txt) ∧ Below w2.heap.size w2 wr) (fun _ s20 _ => P - (intOf s20).toNat)
  case atStart => exact ⟨0, rfl, Nat.zero_le _, World.ownsRow_nil _ _ _ _, Below.refl _ _⟩
  case round =>
    obtain ⟨k, rfl, hk, hown, hb⟩ := hrel
    obtain ⟨Av, cv, hv⟩ := Sm.own_shape hown
    subst hv
    have HO := Lib.hid hown
    have HB := Lib.hid hb
    clear hown
    by_cases hkl : k < P
    · have hki : (k : Int) < (P : Int) := by omega
      have hsuc : IntKind.i64.wrap ((k : Int) + 1) = ((k + 1 : Nat) : Int) := by simp [IntKind.wrap, IntKind.bits, IntKind.signed]; omega
      have E := Lib.hid (TK.out k hkl)
      have hln : (l.take k).length = k := by rw [List.length_take, HL.out]; omega
      rw [hln] at HO ⊢
      have hat := AT.out k hkl
      obtain ⟨a, ha⟩ : ∃ a, a = k * n := ⟨_, rfl⟩
      rw [Nat.mul_comm, ← ha] at hat
      obtain ⟨z, hz⟩ : ∃ z, z = (k + 1) * n := ⟨_, rfl⟩
      have hza : z = a + n := by rw [hz, ha]; exact Nat.succ_mul k n
      have v1 : IntKind.i64.wrap ((k : Int) * (n : Int)) = (a : Int) := by
        have e : (k : Int) * (n : Int) = (a : Int) := by rw [ha]; push_cast; rfl
        rw [e]; exact IntWalk.i64_in _ (by omega)
      have v2 : IntKind.i64.wrap ((k : Int) + 1) = (k : Int) + 1 := IntWalk.i64_in _ (by omega)
      have v3 : IntKind.i64.wrap (((k : Int) + 1) * (n : Int)) = (z : Int) := by
        have e : ((k : Int) + 1) * (n : Int) = (z : Int) := by rw [hz]; push_cast; rfl
        rw [e]; exact IntWalk.i64_in _ (by omega)
      obtain ⟨y, hy⟩ : ∃ y, y = min z t.size := ⟨_, rfl⟩
      have hym : min (z : Int) (t.size : Int) = (y : Int) := by omega
      obtain ⟨p, hp⟩ : ∃ p, p = t.extract a y := ⟨_, rfl⟩
      have hpt : p.data.toList = Pt.part n t.data.toList k := Pt.part_text (by rw [hp, hy, ha, hz])
      have BOK := Lib.hid (BO.out b cb wr k p (fun j hj => (hb.cell (p := ⟨b, j, none⟩) hb1).trans (HB2.out j hj)) hpt)
      obtain ⟨bt, hbt⟩ : ∃ b : ByteArray, b = ⟨(BY k).toArray⟩ := ⟨_, rfl⟩
      rw [← hbt] at BOK
      have HBT := Lib.hid hbt
      have HPP := Lib.hid hp
      have q3 : (a : Int) ≤ (y : Int) := by omega
      have q4 : ¬ (y : Int) < (a : Int) := by omega
      have q5 : ¬ (t.size : Int) < (y : Int) := by omega
      have q6 : (y : Int) ≤ (t.size : Int) := by omega
      have hbs := hb.size
      have HZ := Lib.hid hza
      by_cases hzt : z ≤ t.size
      · have hzi : (z : Int) ≤ (t.size : Int) := by omega
        have hyz : y = z := by omega
        subst hyz
        clear hbt hpt hp ha hz hza hb hy hym
        go_upto_region 7 with (first
          | (go_at_call 60; rw [show (min (y : Int) (t.size : Int)).toNat = y by omega, ← HPP.out]; refine BOK.out.mono ?_; rintro e w4 ⟨rfl, k4⟩)
          | (at_builtin
             refine wpList_append_own _ rfl _ _ 30 rfl w2.heap.size 9 i0 (.string ⟨#[]⟩) 1 16 Tryz.underlying30 hie hz0 hz1 hz2 rfl (by decide) _ _ _ rfl ((Dk.own_block HO.out (fun q hq => k4.block q (Dk.own_blk HO.out hq).2.1)).alloc _) ⟨w4.heap.size, 0, none⟩ 1 1 [.string bt] rfl rfl (Dk.new_text _ _) (by intro u hu; simp at hu; subst hu; rfl) (by unfold maxLen; omega) (by omega) (by have := k4.size; simp; omega) ?_
             intro v' w5 hown' hgrow _))
        have hge : ∀ q, (Value.slice Av k cv).ownBlock = some q → w2.heap.size ≤ q := fun q hq => (Dk.own_blk HO.out hq).1
        have b4 : Below w2.heap.size w2 w4 := HB.out.trans (k4.mono hbs)
        have hb5 : Below w2.heap.size w2 w5 := (b4.alloc b4.size _).grown hgrow (by have := b4.size; simp; omega) hge
        have hl5 : (l.take (k + 1)).length = k + 1 := by rw [List.length_take, HL.out]; omega
        have ho5 : w5.ownsRow w2.heap.size 9 1 v' (l.take (k + 1)).length ((l.take (k + 1)).map Dk.txt) := by
          rw [hl5, E.out, List.map_append, List.map_cons, List.map_nil, show Dk.txt (BY k) = .string bt from congrArg Value.string HBT.out.symm]
          exact hown'
        go_wp2
        go_roundw
        case rel => exact ⟨k + 1, rfl, by omega, ho5, hb5⟩
        case measure => simp only [intOf]; omega
      · have hzi : ¬ (z : Int) ≤ (t.size : Int) := by omega
        have hyz : y = t.size := by omega
        subst hyz
        clear hbt hpt hp ha hz hza hb hy hym
        go_upto_region 7 with (first
          | (go_at_call 60; rw [show (min (z : Int) (t.size : Int)).toNat = t.size by omega, ← HPP.out]; refine BOK.out.mono ?_; rintro e w4 ⟨rfl, k4⟩)
          | (at_builtin
             refine wpList_append_own _ rfl _ _ 30 rfl w2.heap.size 9 i0 (.string ⟨#[]⟩) 1 16 Tryz.underlying30 hie hz0 hz1 hz2 rfl (by decide) _ _ _ rfl ((Dk.own_block HO.out (fun q hq => k4.block q (Dk.own_blk HO.out hq).2.1)).alloc _) ⟨w4.heap.size, 0, none⟩ 1 1 [.string bt] rfl rfl (Dk.new_text _ _) (by intro u hu; simp at hu; subst hu; rfl) (by unfold maxLen; omega) (by omega) (by have := k4.size; simp; omega) ?_
             intro v' w5 hown' hgrow _))
        have hge : ∀ q, (Value.slice Av k cv).ownBlock = some q → w2.heap.size ≤ q := fun q hq => (Dk.own_blk HO.out hq).1
        have b4 : Below w2.heap.size w2 w4 := HB.out.trans (k4.mono hbs)
        have hb5 : Below w2.heap.size w2 w5 := (b4.alloc b4.size _).grown hgrow (by have := b4.size; simp; omega) hge
        have hl5 : (l.take (k + 1)).length = k + 1 := by rw [List.length_take, HL.out]; omega
        have ho5 : w5.ownsRow w2.heap.size 9 1 v' (l.take (k + 1)).length ((l.take (k + 1)).map Dk.txt) := by
          rw [hl5, E.out, List.map_append, List.map_cons, List.map_nil, show Dk.txt (BY k) = .string bt from congrArg Value.string HBT.out.symm]
          exact hown'
        go_wp2
        go_roundw
        case rel => exact ⟨k + 1, rfl, by omega, ho5, hb5⟩
        case measure => simp only [intOf]; omega
    · have hki : ¬ (k : Int) < (P : Int) := by omega
      have hkP : k = P := by omega
      have htk : l.take k = l := List.take_of_length_le (by rw [HL.out]; omega)
      rw [htk] at HO ⊢
      have hne : l ≠ [] := fun e => by have := HL.out; rw [e] at this; simp at this; omega
      obtain ⟨A', c', e1, -, hs2, hq⟩ := Kp.StrsAt.of_own HO.out hne
      have HS := Lib.hid hs2
      simp only [Value.slice.injEq] at e1
      obtain ⟨rfl, -, rfl⟩ := e1
      have hk2s := K2.out.size
      have HQ : Hid (∀ q o, Av = some ⟨q, o, none⟩ → w.heap.size ≤ q) := fun q o e => by have h1 := hq q (by rw [e]; rfl); omega
      have HBB := Lib.hid (K2.out.trans (hb.mono hk2s))
      rw [HL.out] at *
      clear hs2 hb hkP hq
      go_wp2
      go_ret
      exact ⟨_, ⟨_, rfl⟩, HS.out, HQ.out, HBB.out⟩
end Go.Proofs.YtnmagfodjcookaaGreat

/-
  What parts' Text tells of bodies.
-/
namespace Go.Proofs.YtnmagfodjcookaaGreat
open Go.RowKit
namespace Kp
def bts (l : List (List UInt8)) : List ByteArray := l.map fun b => ⟨b.toArray⟩
theorem bts_inj : ∀ {l m : List (List UInt8)}, bts l = bts m → l = m
  | [], [], _ => rfl
  | [], _ :: _, h => by simp [bts] at h
  | _ :: _, [], h => by simp [bts] at h
  | a :: l, b :: m, h => by
    simp only [bts, List.map_cons, List.cons.injEq] at h
    rw [bts_inj (l := l) (m := m) h.2]
    have h1 := congrArg (fun x : ByteArray => x.data.toList) h.1
    simp at h1
    rw [h1]
theorem bts_take (l : List (List UInt8)) (n : Nat) : (bts l).take n = bts (l.take n) := List.map_take.symm
theorem bts_getD {l : List (List UInt8)} {i : Nat} (h : i < l.length) : (bts l).getD i ByteArray.empty = ⟨(l.getD i []).toArray⟩ := by
  rw [bts, List.getD_eq_getElem?_getD, List.getElem?_map, List.getElem?_eq_getElem h, List.getD_eq_getElem?_getD, List.getElem?_eq_getElem h]; rfl
theorem bts_length (l : List (List UInt8)) : (bts l).length = l.length := by simp [bts]
end Kp
theorem ptEqual_any (w : World) (A1 A2 : Option Addr) (c1 c2 n : Nat) (xs ys : List (List UInt8)) (h1 : Kp.StrsAt w A1 xs) (h2 : Kp.StrsAt w A2 ys) (hx : n ≤ xs.length) (hy : n ≤ ys.length) (hn : n ≤ 1000000) :
    Calls Tryz.prog 86 #[.slice A1 n c1, .slice A2 n c2] w fun e w' => e = .returned (.bool (decide (xs.take n = ys.take n))) ∧ Below w.heap.size w w' := by
  obtain ⟨g1, o1, rfl, hc1⟩ := h1.at
  obtain ⟨g2, o2, rfl, hc2⟩ := h2.at
  refine (slices_Equal_string g1 o1 n c1 g2 o2 n c2 (Kp.bts xs) (Kp.bts ys) w (by rw [Kp.bts_length]; exact hx) (by rw [Kp.bts_length]; exact hy) (by omega) (by omega) (fun j hj => ?_) (fun j hj => ?_)).mono ?_
  · rw [Kp.bts_length] at hj; rw [Kp.bts_getD hj]; exact hc1 j hj
  · rw [Kp.bts_length] at hj; rw [Kp.bts_getD hj]; exact hc2 j hj
  · rintro e w' ⟨rfl, q, rfl⟩
    refine ⟨?_, Sm.below_drewN (Below.refl _ w) q⟩
    congr 2
    rw [Kp.bts_take, Kp.bts_take, decide_eq_decide]
    exact ⟨Kp.bts_inj, fun e => by rw [e]⟩
namespace Pt
theorem info3_u64 : (Tryz.prog.info? 22).map (fun i => (i.zero, i.size, i.bytes)) = some (some (.int .u64 0), 1, 8) := by kernel_rfl
def u64s (l : List Nat) : List Value := l.map fun n : Nat => Value.int .u64 (n : Int)
theorem NumsAt.of_own {w : World} {B : Nat} {A : Option Addr} {n c : Nat} {l : List Nat} (h : w.ownsRow B 22 1 (.slice A n c) n (u64s l)) (hl : l.length = n) (h0 : 0 < n) : NumsAt w A l := by
  rcases h.2 with ⟨_, e⟩ | ⟨b, c', cur, e, hb, h1, h2, h3, h4, h5⟩
  · omega
  · simp only [Value.slice.injEq] at e
    refine ⟨b, 0, e.1, Sm.lt_of h1, fun i hi => ?_⟩
    have e2 : cur.toList[i]? = (u64s l)[i]? := by rw [← h5, List.getElem?_take, if_pos (by omega)]
    rw [Nat.zero_add]
    simp only [World.cell?, h1]
    rw [← Array.getElem?_toList, e2, u64s, List.getElem?_map, List.getElem?_eq_getElem hi, List.getD_eq_getElem?_getD, List.getElem?_eq_getElem hi]
    rfl
theorem heads_take {k i : Nat} (b : List UInt8) (h : i < k) : (heads k b).take (i + 1) = (heads k b).take i ++ [number i b] := by
  rw [List.take_succ_eq_append_getElem (by rw [heads_length]; exact h)]
  simp [heads]
theorem new_num {w : World} (v : Value) : ∀ j u, [v][j]? = some u → (w.alloc (.cells #[v] 22)).cell? ((⟨w.heap.size, 0, none⟩ : Addr).add j) = some u := by
  intro j u hj
  match j, hj with
  | 0, hj => simp at hj; subst hj; rw [Addr.add_mid]; exact Sm.cells_of (heap_alloc_new w (.cells #[v] 22)) 0 _ rfl
  | j + 1, hj => simp at hj
def says (o : Option (List UInt8)) : Value := .tuple #[.string ⟨(o.getD []).toArray⟩, .bool o.isSome]
theorem text_0 {k n most : Nat} {S : List (List UInt8)} (h : S.getD 0 [] = []) : text k n most S = none := by rw [text, if_pos h]
theorem text_long {k n most : Nat} {S : List (List UInt8)} (h : most < (joined k n S).length) : text k n most S = none := by
  rw [text, if_pos h]; split <;> rfl
theorem text_yes {k n most : Nat} {S : List (List UInt8)} (h0 : S.getD 0 [] ≠ []) (h1 : ¬ most < (joined k n S).length) (h : bodies (heads k (S.getD 0 [])) n (joined k n S) = S.take (parts n (joined k n S))) : text k n most S = some (joined k n S) := by
  rw [text, if_neg h0, if_neg h1, if_pos h]
theorem text_no {k n most : Nat} {S : List (List UInt8)} (h1 : ¬ most < (joined k n S).length) (h : ¬ bodies (heads k (S.getD 0 [])) n (joined k n S) = S.take (parts n (joined k n S))) : text k n most S = none := by
  rw [text, if_neg h1, if_neg h]; split <;> rfl
end Pt
set_option maxRecDepth 100000 in
set_option maxHeartbeats 1000000 in
theorem ptText_any (w : World) (A : Option Addr) (c : Nat) (l : List (List UInt8)) {k n : Nat} (most : Nat) (hk1 : 1 ≤ k) (hkn : 8 * k + n = 56) (hn0 : 0 < n) (h : Kp.StrsAt w A l) (hl1 : 1 ≤ l.length) (hl : l.length ≤ 1099511627776) (hcl : l.length ≤ c) (hb : ∀ b ∈ l, Kp.Bod b) :
    Calls Tryz.prog 73 #[.slice A l.length c, .int .i64 (k : Int), .int .i64 (most : Int)] w fun e w' => e = .returned (Pt.says (Pt.text k n most l)) ∧ Below w.heap.size w w' := by
  obtain ⟨i0, hie, hz0, hz1, hz2⟩ := info_parts Pt.info3_u64
  have H0 := Lib.hid h
  obtain ⟨g, o, rfl, hg, hc⟩ := h
  have c0 := hc 0 (by omega)
  rw [Nat.add_zero] at c0
  obtain ⟨b0, hb0⟩ : ∃ b : ByteArray, b = ⟨(l.getD 0 []).toArray⟩ := ⟨_, rfl⟩
  rw [← hb0] at c0
  have hb0s : b0.size = (l.getD 0 []).length := by rw [hb0]; simp [ByteArray.size]
  have NU : Hid (∀ (i : Nat) (wx : World), i < k → Calls Tryz.prog 72 #[.string b0, .int .i64 (i : Int)] wx fun e w' => e = .returned (.int .u64 (Pt.number i (l.getD 0 []) : Nat)) ∧ wx = w') := fun i wx hi => by
    rw [hb0]; exact ptNumber_any wx ⟨(l.getD 0 []).toArray⟩ i (by omega) (Kp.bod_size (Kp.bod_get hb 0))
  have hbod := Kp.bod_get hb 0
  obtain ⟨ln, hln⟩ : ∃ n, n = l.length := ⟨_, rfl⟩
  have HLN := Lib.hid hln
  rw [← hln] at hl1 hl hcl ⊢
  have hl0 : ¬ (ln : Int) = 0 := by omega
  have hl0b : ((ln : Int) == 0) = false := beq_eq_false_iff_ne.2 hl0
  have hl0i : (0 : Int) < (ln : Int) := by omega
  by_cases hz : b0.size = 0
  · have he := Kp.text_none hz
    have E := Lib.hid (Pt.text_0 (k := k) (n := n) (most := most) (S := l) (List.eq_nil_of_length_eq_zero (by omega)))
    clear hb0 hb0s hc hbod hln hz
    go_enter Tryz.func73, Tryz.ntmps73
    go_wp2
    go_ret2
    exact ⟨by rw [E.out]; rfl, Below.refl _ _⟩
  have he := Kp.text_ne hz
  have h60 : (l.getD 0 []).length = 60 := by rcases hbod with h | h <;> omega
  have hne : l.getD 0 [] ≠ [] := fun e => by rw [e] at h60; simp at h60
  have JO : Hid (∀ wx, Below w.heap.size w wx → Calls Tryz.prog 85 #[.slice (some ⟨g, o, none⟩) ln c, .int .i64 (k : Int)] wx fun e w' => e = .returned (.string ⟨(Pt.joined k n l).toArray⟩) ∧ Below wx.heap.size wx w') := fun wx hwx => by
    rw [hln]; exact ptJoined_any wx _ c l hkn hn0 (H0.out.below hwx (Nat.le_refl _)) (by rw [← hln]; exact hl1) (by rw [← hln]; exact hl) hb h60
  have JL := Pt.joined_le k n l
  rw [← hln] at JL
  have JL2 : (Pt.joined k n l).length ≤ 56 * 255 := Nat.le_trans (Pt.joined_le255 k n l) (Nat.mul_le_mul (by omega) (Nat.le_refl _))
  obtain ⟨jt, hjt⟩ : ∃ b : ByteArray, b = ⟨(Pt.joined k n l).toArray⟩ := ⟨_, rfl⟩
  have hjl : jt.data.toList = Pt.joined k n l := by rw [hjt]
  have hjs : jt.size = (Pt.joined k n l).length := by rw [hjt]; simp [ByteArray.size]
  rw [← hjt] at JO
  rw [← hjs] at JL JL2
  have HJL := Lib.hid hjl
  have HJT := Lib.hid hjt
  have HJS := Lib.hid hjs
  have HNE := Lib.hid hne
  clear hc hb0 hb0s hbod hln hz hjt hjl hjs h60 hne
  go_enter Tryz.func73, Tryz.ntmps73
  go_upto_region 4 with (go_at_call 85; refine (JO.out _ (Below.refl _ _)).mono ?_; rintro e w3 ⟨rfl, k3⟩)
  by_cases h4 : most < jt.size
  · have h4i : (most : Int) < jt.size := by omega
    have E := Lib.hid (Pt.text_long (k := k) (n := n) (most := most) (S := l) (by rw [← HJS.out]; exact h4))
    have K3 := Lib.hid k3
    clear k3
    go_wp2_with fail
    go_ret2
    exact ⟨by rw [E.out]; rfl, K3.out⟩
  have h4i : ¬ (most : Int) < jt.size := by omega
  have K3 := Lib.hid k3
  have c3 := (k3.cell (p := ⟨g, o, none⟩) hg).trans c0
  have hk3s := k3.size
  have HT : Hid (∀ i, i < k → (Pt.heads k (l.getD 0 [])).take (i + 1) = (Pt.heads k (l.getD 0 [])).take i ++ [Pt.number i (l.getD 0 [])]) := fun i hi => Pt.heads_take _ hi
  obtain ⟨HS, hHS⟩ : ∃ H, H = Pt.heads k (l.getD 0 []) := ⟨_, rfl⟩
  have hHl : HS.length = k := by rw [hHS, Pt.heads_length]
  rw [← hHS] at HT
  have HHS := Lib.hid hHS
  clear k3 hHS c0
  go_upto_region 7 with (fail)
  go_wp2_with fail
  go_loopw [9, 29] (fun s9 s29 wr => ∃ i : Nat, s29 = .int .i64 i ∧ i ≤ k ∧ wr.ownsRow w3.heap.size 22 1 s9 i (Pt.u64s (HS.take i)) ∧ Below w3.heap.size w3 wr) (fun _ s29 _ => k - (intOf s29).toNat)
  case atStart => exact ⟨0, rfl, Nat.zero_le _, World.ownsRow_nil _ _ _ _, Below.refl _ _⟩
  case round =>
    obtain ⟨i, rfl, hi, hown, hbl⟩ := hrel
    obtain ⟨Av, cv, hv⟩ := Sm.own_shape hown
    subst hv
    have HO := Lib.hid hown
    have HB := Lib.hid hbl
    clear hown
    by_cases hik : i < k
    · have hki : (i : Int) < (k : Int) := by omega
      have hsuc : IntKind.i64.wrap ((i : Int) + 1) = ((i + 1 : Nat) : Int) := by simp [IntKind.wrap, IntKind.bits, IntKind.signed]; omega
      have ci := (hbl.cell (p := ⟨g, o, none⟩) (by show g < w3.heap.size; omega)).trans c3
      have NUI := Lib.hid (NU.out i wr hik)
      have HTI := Lib.hid (HT.out i hik)
      obtain ⟨x, hx⟩ : ∃ x, x = Pt.number i (l.getD 0 []) := ⟨_, rfl⟩
      rw [← hx] at NUI HTI
      have hbs := hbl.size
      clear hx hbl c3
      go_upto_region 11 with (first
        | (go_at_call 72; refine NUI.out.mono ?_; rintro e w4 ⟨rfl, rfl⟩)
        | (at_builtin
           refine wpList_append_own _ rfl _ _ 116 rfl w3.heap.size 22 i0 (.int .u64 0) 1 8 Tryz.underlying116 hie hz0 hz1 hz2 rfl (by decide) _ _ _ rfl (HO.out.alloc _) ⟨_, 0, none⟩ 1 1 [.int .u64 (x : Int)] rfl rfl (Pt.new_num _) (by intro u hu; simp at hu; subst hu; rfl) (by unfold maxLen; omega) (by omega) (by simp; omega) ?_
           intro v' w5 hown' hgrow _))
      have hb5 : Below w3.heap.size w3 w5 := (HB.out.alloc hbs _).grown hgrow (by simp; omega) (fun q hq => (Dk.own_blk HO.out hq).1)
      have ho5 : w5.ownsRow w3.heap.size 22 1 v' (i + 1) (Pt.u64s (HS.take (i + 1))) := by
        rw [HTI.out]
        have e : Pt.u64s (HS.take i ++ [x]) = Pt.u64s (HS.take i) ++ [.int .u64 (x : Int)] := by simp [Pt.u64s]
        rw [e]
        exact hown'
      go_wp2
      go_roundw
      case rel => exact ⟨i + 1, rfl, by omega, ho5, hb5⟩
      case measure => simp only [intOf]; omega
    · have hki : ¬ (i : Int) < (k : Int) := by omega
      have hik2 : i = k := by omega
      subst hik2
      have htk : HS.take i = HS := List.take_of_length_le (by omega)
      rw [htk] at HO
      have hnums := Pt.NumsAt.of_own HO.out hHl (by omega)
      have BO := Lib.hid (ptBodies_new wr jt Av cv HS (n := n) (by rw [hHl]; exact hkn) (by omega) (by omega) hnums (by omega))
      rw [hHl] at BO
      obtain ⟨P, hP⟩ : ∃ P, P = Pt.parts n jt.data.toList := ⟨_, rfl⟩
      have hP9 : P ≤ ln := by rw [hP]; exact Pt.parts_le hn0 (by simpa using JL) hl1
      have hP255 : P ≤ 56 * 255 := by rw [hP]; exact Pt.parts_le hn0 (by have h1 : jt.data.toList.length = jt.size := by simp
                                                                         have h2 := Nat.le_mul_of_pos_left (56 * 255) hn0
                                                                         omega) (by omega)
      have hP1 : 1 ≤ P := by rw [hP]; exact Pt.parts_pos _ _
      have hPL := Pt.bodies_length HS n jt.data.toList
      rw [← hP] at BO hPL
      have HP := Lib.hid hP
      have hbw := hbl.size
      clear hP hnums htk hHl c3
      go_upto_region 13 with (go_at_call 25; refine BO.out.mono ?_; rintro e w5 ⟨Ab, cb, rfl, sb, -, k5⟩)
      have B5 : Below w.heap.size w w5 := K3.out.trans ((HB.out.trans (k5.mono hbw)).mono hk3s)
      have s0 := H0.out.below B5 (Nat.le_refl _)
      have EQ := Lib.hid (ptEqual_any w5 Ab (some ⟨g, o, none⟩) cb c P _ l sb s0 (by omega) (by rw [← HLN.out]; exact hP9) (by omega))
      have htk : (Pt.bodies HS n jt.data.toList).take P = Pt.bodies HS n jt.data.toList := List.take_of_length_le (by omega)
      rw [htk] at EQ
      have hci : (P : Int) ≤ c := by omega
      have HB5 := Lib.hid B5
      have HX0 := HNE.out
      have H40 : ¬ most < (Pt.joined i n l).length := by rw [← HJS.out]; exact h4
      have HX : Hid (¬ most < (Pt.joined i n l).length) := H40
      clear sb s0 k5 B5 htk H40 HX0
      by_cases heq : Pt.bodies HS n jt.data.toList = l.take P
      · have hd : decide (Pt.bodies HS n jt.data.toList = l.take P) = true := decide_eq_true heq
        rw [hd] at EQ
        have hn : Pt.text i n most l = some (Pt.joined i n l) := Pt.text_yes HNE.out HX.out (by rw [← HJL.out, ← HHS.out, ← HP.out]; exact heq)
        have HE := Lib.hid hn
        clear heq hd hn
        go_wp2_with (go_at_call 86; refine EQ.out.mono ?_; rintro e w6 ⟨rfl, k6⟩)
        go_ret2
        exact ⟨by rw [HE.out, HJT.out]; rfl, HB5.out.trans (k6.mono HB5.out.size)⟩
      · have hd : decide (Pt.bodies HS n jt.data.toList = l.take P) = false := decide_eq_false heq
        rw [hd] at EQ
        have hn : Pt.text i n most l = none := Pt.text_no HX.out (by rw [← HJL.out, ← HHS.out, ← HP.out]; exact heq)
        have HE := Lib.hid hn
        clear heq hd hn
        go_wp2_with (go_at_call 86; refine EQ.out.mono ?_; rintro e w6 ⟨rfl, k6⟩)
        go_ret2
        exact ⟨by rw [HE.out]; rfl, HB5.out.trans (k6.mono HB5.out.size)⟩
end Go.Proofs.YtnmagfodjcookaaGreat

/-
  Lists of texts, or of none; such a one of the call's own, in blocks apart from others, and one text more.
-/
namespace Go.Proofs.YtnmagfodjcookaaGreat
open Go.RowKit
namespace Lg
/-- A slice of texts, or of none. -/
def Rows (w : World) (A : Option Addr) (l : List (List UInt8)) : Prop := l = [] ∨ Kp.StrsAt w A l
theorem Rows.below {w w' : World} {A : Option Addr} {l : List (List UInt8)} (h : Rows w A l) {B : Nat} (k : Below B w w') (hB : w.heap.size ≤ B) : Rows w' A l := by
  rcases h with h | h
  · exact .inl h
  · exact .inr (h.below k hB)
theorem Rows.of_own {w : World} {B : Nat} {A : Option Addr} {c : Nat} {l : List (List UInt8)} (h : w.ownsRow B 9 1 (.slice A l.length c) l.length (l.map Dk.txt)) : Rows w A l := by
  by_cases h0 : l = []
  · exact .inl h0
  · obtain ⟨A', c', e, _, hs, _⟩ := Kp.StrsAt.of_own h h0
    simp only [Value.slice.injEq] at e
    exact .inr (by rw [e.1]; exact hs)
theorem Rows.get {w : World} {A : Option Addr} {l : List (List UInt8)} (h : Rows w A l) {i : Nat} (hi : i < l.length) : ∃ g o, A = some ⟨g, o, none⟩ ∧ w.cell? ⟨g, o + i, none⟩ = some (.string ⟨(l.getD i []).toArray⟩) := by
  rcases h with h | ⟨g, o, h1, _, h3⟩
  · rw [h] at hi; simp at hi
  · exact ⟨g, o, h1, h3 i hi⟩
/-- A list of texts of the call's own, in blocks apart from others. -/
structure Mine (B : Nat) (w : World) (f : Nat → Prop) (v : Value) (l : List (List UInt8)) : Prop where
  row : w.ownsRow B 9 1 v l.length (l.map Dk.txt)
  off : ∀ q, v.ownBlock = some q → ¬ f q
theorem Mine.turned {B : Nat} {w w' : World} {f f' : Nat → Prop} {v : Value} {l : List (List UInt8)} (h : Mine B w f v l) (t : Dk.Turned f w w') (hf : ∀ q, f' q → f q ∨ w.heap.size ≤ q) : Mine B w' f' v l :=
  ⟨Dk.own_block h.row fun q hq => t.block q (Dk.own_blk h.row hq).2.1 (h.off q hq), fun q hq e => by
    rcases hf q e with e | e
    · exact h.off q hq e
    · have := (Dk.own_blk h.row hq).2.1; omega⟩
theorem Mine.low {B : Nat} {w w' : World} {f : Nat → Prop} {v : Value} {l : List (List UInt8)} (h : Mine B w f v l) (t : Below w.heap.size w w') : Mine B w' f v l := h.turned (Dk.Turned.of_below t (Nat.le_refl _)) fun _ => .inl
theorem Mine.nil (B : Nat) (w : World) (f : Nat → Prop) : Mine B w f (.slice none 0 0) [] := ⟨World.ownsRow_nil _ _ _ _, fun q hq => by cases hq⟩
theorem Mine.rows {B : Nat} {w : World} {f : Nat → Prop} {A : Option Addr} {c m : Nat} {l : List (List UInt8)} (h : Mine B w f (.slice A m c) l) (hm : m = l.length) : Rows w A l := by
  subst hm
  exact Rows.of_own h.row
theorem bts_map (l : List (List UInt8)) : l.map Dk.txt = (Kp.bts l).map Value.string := by rw [Kp.bts, List.map_map]; rfl
/-- One text more. -/
theorem wp_more {w : World} {ops : Array Oper} {rest : List Oper} {o : Oper} {a : Act} {Q : Exit → Act → World → Prop} (hgd : o.guard = none) (s x : Operand)
    (ho : o.op = .call { callee := .builtin .append, args := #[s, x], argTypes := #[30, 30] }) {B : Nat} {f : Nat → Prop} {v : Value} {l : List (List UInt8)} (hs : a.eval s = v) (h : Mine B w f v l) {b : ByteArray} {N : Nat}
    (hx : a.eval x = .slice (some ⟨N, 0, none⟩) 1 1) (hN : w.cell? ⟨N, 0, none⟩ = some (.string b)) (hroom : l.length ≤ 1000000) (hB : B ≤ w.heap.size) (hfl : ∀ q, f q → q < w.heap.size)
    (K : ∀ A c w', Mine B w' f (.slice A (l.length + 1) c) (l ++ [b.data.toList]) → Dk.Turned (fun q => v.ownBlock = some q) w w' → wpList Tryz.prog ops Q rest (a.put o.dst (.slice A (l.length + 1) c)) w') : wpList Tryz.prog ops Q (o :: rest) a w := by
  refine wpList_plain hgd fun L hL => ?_
  have hr := h.row
  rw [bts_map, ← Kp.bts_length l] at hr
  have hlen : (Kp.bts l ++ [b]).length = l.length + 1 := by rw [List.length_append, Kp.bts_length]; rfl
  refine Dk.wp_append_text s x ho hs hr hx hN (by rw [Kp.bts_length]; omega) hB fun A c w' h1 h2 => ?_
  rw [hlen] at h1 h2 ⊢
  have ht : Dk.Turned (fun q => v.ownBlock = some q) w w' := by
    rcases h2 with ⟨_, g⟩ | ⟨_, g⟩
    · exact ⟨g.os, g.tape, g.output, g.size, fun i hi hn => g.block i hi (fun e => hn e.symm)⟩
    · exact ⟨g.os, g.tape, g.output, g.size, fun i hi _ => g.block i hi (fun e => by cases e)⟩
  refine hL _ _ (K A c w' ⟨?_, fun q hq hf => ?_⟩ ht)
  · have e1 : (l ++ [b.data.toList]).length = l.length + 1 := by rw [List.length_append]; rfl
    have e2 : (l ++ [b.data.toList]).map Dk.txt = (Kp.bts l ++ [b]).map Value.string := by rw [List.map_append, List.map_append, bts_map]; rfl
    rw [e1, e2]
    exact h1
  · rcases h2 with ⟨g, _⟩ | ⟨g, _⟩
    · exact h.off q (g q hq) hf
    · have := g q hq; have := hfl q hf; omega
end Lg
end Go.Proofs.YtnmagfodjcookaaGreat
