/-
  The document's log: the record that stands first in sectors.
-/
import Derived.Test.YtnmagfodjcookaaGreatR10Sectors
import Derived.Test.YtnmagfodjcookaaGreatKpMix
import Derived.BigQuiet
namespace Go.Proofs.YtnmagfodjcookaaGreat
open Go.RowKit
namespace Lg
open Dk (lookOf)
/-- The bodies in sectors. -/
def bods (R : List (List UInt8)) : List (List UInt8) := R.map fun r => (lookOf r).1
theorem bods_getD {R : List (List UInt8)} {i : Nat} (h : i < R.length) : (Lg.bods R).getD i [] = (lookOf (R.getD i [])).1 := by
  rw [Lg.bods, List.getD_eq_getElem?_getD, List.getElem?_map, List.getElem?_eq_getElem h, List.getD_eq_getElem?_getD, List.getElem?_eq_getElem h]; rfl
theorem look_is {r : List UInt8} (h : (lookOf r).2 = 1) : r = Dk.closed (lookOf r).1 ∧ (lookOf r).1.length = 60 := by
  unfold lookOf at h ⊢
  split at h
  · cases h
  · split at h
    · rename_i h1 h2
      rw [if_neg h1, if_pos h2]
      exact ⟨h2.2, by rw [List.length_take]; omega⟩
    · cases h
theorem look_not {r : List UInt8} (h1 : (lookOf r).2 ≠ 1) : (lookOf r).1 = [] := by
  unfold lookOf at h1 ⊢
  split at h1
  · rename_i h3; rw [if_pos h3]
  · rename_i h3
    split at h1
    · exact absurd rfl h1
    · rename_i h4; rw [if_neg h3, if_neg h4]
/-- What the document's at answers. -/
def atRes (o : Option (List UInt8 × Nat)) : Value := match o with
  | some (t, s) => .tuple #[.string ⟨t.toArray⟩, .int .u64 (s : Nat), .bool true]
  | none => .tuple #[.string ⟨#[]⟩, .int .u64 0, .bool false]
theorem first_not {ep a : Nat} {S : List (List UInt8)} (h : ∀ t s, s < 18446744073709551616 → t.length ≤ 1024 → ¬ Pt.Holds (nums ep s a) 32 t S) : first ep a S = none := by
  cases hf : first ep a S with
  | none => rfl
  | some x =>
    obtain ⟨t, s⟩ := x
    obtain ⟨h1, h2, h3⟩ := first_some hf
    exact absurd h1 (h t s h3 h2)
section
variable {R : List (List UInt8)} {t : List UInt8} {hs : List Nat}
theorem holds_one (h : Pt.Holds hs 32 t (Lg.bods R)) {i : Nat} (hi : i < Pt.parts 32 t) : i < R.length ∧ (lookOf (R.getD i [])).1 = Pt.body hs 32 t i ∧ (lookOf (R.getD i [])).2 = 1 := by
  have h1 := h.get hi
  have hl : i < R.length := by
    have := (List.getElem?_eq_some_iff.1 h1).1
    simpa [Lg.bods] using this
  have h2 : (Lg.bods R).getD i [] = Pt.body hs 32 t i := by rw [List.getD_eq_getElem?_getD, h1]; rfl
  rw [Lg.bods_getD hl] at h2
  refine ⟨hl, h2, Decidable.byContradiction fun hn => ?_⟩
  rw [look_not hn] at h2
  exact Pt.body_ne hs 32 t i h2.symm
theorem holds_count (h : Pt.Holds hs 32 t (Lg.bods R)) (h3 : hs.length = 3) (ht : t.length ≤ 1024) : ((lookOf (R.getD 0 [])).1.getD 25 0).toNat = Pt.parts 32 t := by
  have hp := Pt.parts_pos 32 t
  have h1 := Pt.count_body (hs := hs) (n := 32) (t := t) 0 (by have := parts_33 ht; omega)
  rw [h3] at h1
  rw [(holds_one h (i := 0) (by omega)).2.1]
  exact h1
theorem holds_short (h : Pt.Holds hs 32 t (Lg.bods R)) (h3 : hs.length = 3) {i : Nat} (hi : i < Pt.parts 32 t) : ((lookOf (R.getD i [])).1.getD 26 0).toNat ≤ 32 := by
  have h1 := Pt.len_body (hs := hs) (n := 32) t i (by decide)
  rw [h3] at h1
  rw [(holds_one h hi).2.1]
  exact Nat.le_trans (Nat.le_of_eq h1) (Pt.part_le 32 t i)
theorem holds_no32 (h : Pt.Holds hs 32 t (Lg.bods R)) (h3 : hs.length = 3) {i : Nat} (hi : i < Pt.parts 32 t) {b : ByteArray} (hb : b.data.toList = (lookOf (R.getD i [])).1) {y : Nat} (hy : (b.data.toList.getD 26 0).toNat = y) (h48 : 32 < y) : False := by
  have h1 := holds_short h h3 hi
  rw [← hb, hy] at h1
  omega
theorem cut_at {y z n : Nat} (hy : ¬ 32 < y) (hz : z = 28 + y) (hn : n = 60) : IntKind.i64.wrap (28 + (y : Int)) = (z : Int) ∧ (z : Int) ≤ (n : Int) ∧ (28 : Int) ≤ (z : Int) ∧ ¬ (n : Int) < (z : Int) ∧ ¬ (z : Int) < 28 := by
  refine ⟨?_, by omega, by omega, by omega, by omega⟩
  rw [IntWalk.i64_in _ (by omega), hz]; push_cast; rfl
theorem piece_text {b : ByteArray} {m : Nat} (hm : m = min (b.data.toList.getD 26 0).toNat 32) : (b.extract 28 (28 + m)).data.toList = Pt.piece 3 32 b.data.toList := by
  rw [Pt.piece, ByteArray.data_extract, Array.toList_extract, List.extract_eq_take_drop, hm, show 28 + min (b.data.toList.getD 26 0).toNat 32 - 28 = min (b.data.toList.getD 26 0).toNat 32 by omega]
  rfl
theorem piece_size {s : ByteArray} {l : List UInt8} (h : s.data.toList = Pt.piece 3 32 l) : s.size ≤ 32 := by
  have h1 := congrArg List.length h
  have h2 := Pt.piece_le 3 32 l
  have h3 : s.data.toList.length = s.size := by simp
  omega
theorem cat_small {a b i n : Nat} (ha : a ≤ 32 * i) (hi : i < n) (hn : n < 256) (hb : b ≤ 32) : a + b ≤ 9223372036854775807 := by omega
theorem min32 {x y : Nat} (hx : x = y) (h : ¬ 32 < y) : y = min x 32 := by omega
theorem suc_wrap {j n : Nat} (h : j < n) (hn : n < 256) : IntKind.i64.wrap ((j : Int) + 1) = ((j + 1 : Nat) : Int) := by rw [IntWalk.i64_in _ (by omega)]; omega
theorem closeds_getD {k : Nat} (h : k < Pt.parts 32 t) : (closeds hs t).getD k [] = Dk.closed (Pt.body hs 32 t k) := by
  rw [closeds, List.getD_eq_getElem?_getD, List.getElem?_map, Pt.bodies_get h]; rfl
theorem less {i n : Nat} (h : i < n) : n - ((i : Int) + 1).toNat < n - (i : Int).toNat := by omega
/-- The text of the first sectors. -/
def texts (R : List (List UInt8)) (i : Nat) : List UInt8 := (R.take i).flatMap fun r => Pt.piece 3 32 (lookOf r).1
theorem texts_next {i : Nat} (h : i < R.length) : texts R (i + 1) = texts R i ++ Pt.piece 3 32 (lookOf (R.getD i [])).1 := by
  rw [texts, List.take_succ_eq_append_getElem h, List.flatMap_append, List.getD_eq_getElem?_getD, List.getElem?_eq_getElem h]; simp [texts]
theorem texts_le (R : List (List UInt8)) (i : Nat) : (texts R i).length ≤ 32 * i := by
  have h := Pt.pieces_le 3 32 ((R.take i).map fun r => (lookOf r).1)
  have e : ((R.take i).map fun r => (lookOf r).1).flatMap (Pt.piece 3 32) = texts R i := by rw [List.flatMap_map]; rfl
  rw [e, List.length_map] at h
  have := List.length_take_le i R
  omega
theorem holds_text (h : Pt.Holds hs 32 t (Lg.bods R)) (h3 : hs.length = 3) : texts R (Pt.parts 32 t) = t := by
  have e : texts R (Pt.parts 32 t) = ((Lg.bods R).take (Pt.parts 32 t)).flatMap (Pt.piece 3 32) := by rw [Lg.bods, ← List.map_take, List.flatMap_map]; rfl
  rw [e, h.same, Pt.bodies, List.flatMap_map]
  conv => rhs; rw [← Pt.parts_all (n := 32) (by decide) t]
  congr 1
  funext i
  have := Pt.piece_body (hs := hs) (n := 32) t i (by decide)
  rw [h3] at this
  exact this
/-- All that is asked is met. -/
theorem holds_all {n : Nat} (hR : n ≤ R.length) (h3 : hs.length = 3) (hn : Pt.parts 32 t = n) (hall : ∀ j, j < n → R.getD j [] = Dk.closed (Pt.body hs 32 t j)) : Pt.Holds hs 32 t (Lg.bods R) := by
  refine ⟨List.ext_getElem? fun j => ?_⟩
  rw [hn, List.getElem?_take]
  by_cases hj : j < n
  · rw [if_pos hj, Pt.bodies_get (by omega)]
    have h1 := Lg.bods_getD (R := R) (i := j) (by omega)
    have h2 : (Lg.bods R)[j]? = some ((Lg.bods R).getD j []) := by
      rw [List.getD_eq_getElem?_getD, List.getElem?_eq_getElem (by simp [Lg.bods]; omega)]; rfl
    rw [h2, h1, hall j hj, Kp.look_closed (Pt.body_length (by rw [h3]) _ _)]
  · rw [if_neg hj, List.getElem?_eq_none (by rw [Pt.bodies_length]; omega)]
end
/-- The cells of the document's Log. -/
def lv (fr se : Int) (ep : Nat) (v : Value) (us : Int) (la sa : Nat) (br : Bool) : Array Value := #[.int .i64 fr, .int .i64 se, .int .u64 (ep : Nat), v, .int .i64 us, .int .u64 (la : Nat), .int .u64 (sa : Nat), .bool br]
end Lg
set_option maxRecDepth 100000 in
set_option maxHeartbeats 4000000 in
theorem r10at_any (w : World) (fr se : Int) (ep : Nat) (lA : Option Addr) (ln lc : Nat) (us : Int) (la sa : Nat) (br : Bool) (hep : ep < 18446744073709551616) (hla : la < 18446744073709551616) (A : Option Addr) (c : Nat) (R : List (List UInt8)) (h : Lg.Rows w A R) (hR : R.length ≤ 4096) :
    Calls Tryz.prog 53 #[.agg #[.int .i64 fr, .int .i64 se, .int .u64 (ep : Nat), .slice lA ln lc, .int .i64 us, .int .u64 (la : Nat), .int .u64 (sa : Nat), .bool br], .slice A R.length c] w fun e w' => e = .returned (Lg.atRes (Lg.first ep la (Lg.bods R))) ∧ Below w.heap.size w w' := by
  obtain ⟨H, hH⟩ : ∃ H, H = Lg.first ep la (Lg.bods R) := ⟨_, rfl⟩
  rw [← hH]
  have HH := Lib.hid hH
  have NO : Hid ((∀ t s, s < 18446744073709551616 → t.length ≤ 1024 → ¬ Pt.Holds (Lg.nums ep s la) 32 t (Lg.bods R)) → Lg.atRes H = .tuple #[.string ⟨#[]⟩, .int .u64 0, .bool false]) := fun hn => by rw [hH, Lg.first_not hn]; rfl
  have b1 : Below w.heap.size w (w.alloc (.cells #[.int .i64 fr, .int .i64 se, .int .u64 (ep : Nat), .slice lA ln lc, .int .i64 us, .int .u64 (la : Nat), .int .u64 (sa : Nat), .bool br] 39)) := (Below.refl _ w).alloc (Nat.le_refl _) _
  have g1 := heap_alloc_new w (.cells #[.int .i64 fr, .int .i64 se, .int .u64 (ep : Nat), .slice lA ln lc, .int .i64 us, .int .u64 (la : Nat), .int .u64 (sa : Nat), .bool br] 39)
  clear hH
  by_cases hR0 : R.length = 0
  · have E := Lib.hid (NO.out fun t s hs ht hh => by have := (Lg.holds_one hh (i := 0) (by have := Pt.parts_pos 32 t; omega)).1; omega)
    have hlen : (R.length : Int) = 0 := by omega
    have B1 := Lib.hid b1
    clear b1 g1
    go_enter Tryz.func53, Tryz.ntmps53
    go_wp2_with fail
    go_ret3
    exact ⟨by rw [E.out]; rfl, B1.out⟩
  have hR1 : 0 < R.length := by omega
  obtain ⟨gb, ob, rfl, hgl, hc⟩ := h.resolve_left (fun e => hR0 (by rw [e]; rfl))
  have HC := Lib.hid hc
  obtain ⟨w1, hw1⟩ : ∃ y, y = w.alloc (.cells #[.int .i64 fr, .int .i64 se, .int .u64 (ep : Nat), .slice lA ln lc, .int .i64 us, .int .u64 (la : Nat), .int .u64 (sa : Nat), .bool br] 39) := ⟨_, rfl⟩
  rw [← hw1] at b1 g1
  have HW1 := Lib.hid hw1
  have B1 := Lib.hid b1
  have G1 := Lib.hid g1
  have c0 := (b1.cell (p := ⟨gb, ob + 0, none⟩) hgl).trans (hc 0 hR1)
  rw [Nat.add_zero] at c0
  have hlenb : ((R.length : Int) == 0) = false := beq_eq_false_iff_ne.2 (by omega)
  have hlen0 : (0 : Int) < (R.length : Int) := by omega
  have LO : Hid (∀ (i : Nat) (wx : World), Calls Tryz.prog 51 #[.string ⟨(R.getD i []).toArray⟩] wx fun e w' => e = .returned (.tuple #[.string ⟨(Dk.lookOf (R.getD i [])).1.toArray⟩, .int .i64 (Dk.lookOf (R.getD i [])).2]) ∧ Below wx.heap.size wx w') := fun i wx => r7Look_any wx ⟨(R.getD i []).toArray⟩
  have L0 := Lib.hid (LO.out 0 w1)
  obtain ⟨r0, hr0⟩ : ∃ b : ByteArray, b = ⟨(R.getD 0 []).toArray⟩ := ⟨_, rfl⟩
  obtain ⟨b0, hb0⟩ : ∃ b : ByteArray, b = ⟨(Dk.lookOf (R.getD 0 [])).1.toArray⟩ := ⟨_, rfl⟩
  obtain ⟨z0, hz0⟩ : ∃ z, z = (Dk.lookOf (R.getD 0 [])).2 := ⟨_, rfl⟩
  rw [← hr0] at c0
  rw [← hr0, ← hb0, ← hz0] at L0
  have hb0l : b0.data.toList = (Dk.lookOf (R.getD 0 [])).1 := by rw [hb0]
  have HB0 := Lib.hid hb0l
  have HZ0 := Lib.hid hz0
  clear hc hr0 hb0 hz0 hb0l hw1 b1 g1 h
  go_enter Tryz.func53, Tryz.ntmps53
  go_upto_region 1 with (fail)
  rw [← HW1.out]
  obtain ⟨N, hN⟩ : ∃ N, N = w.heap.size := ⟨_, rfl⟩
  have HN := Lib.hid hN
  rw [← hN]
  clear hN
  go_upto_region 4 with (go_at_call 51; refine L0.out.mono ?_; rintro e w2 ⟨rfl, k2⟩)
  have B2 := Lib.hid (B1.out.trans (k2.mono B1.out.size))
  have G2 : Hid (w2.heap[N]? = some (.cells #[.int .i64 fr, .int .i64 se, .int .u64 (ep : Nat), .slice lA ln lc, .int .i64 us, .int .u64 (la : Nat), .int .u64 (sa : Nat), .bool br] 39 (0, 0))) := by
    show _ = _
    rw [HN.out]
    exact (k2.block _ (Sm.lt_of G1.out)).trans G1.out
  clear c0 k2 L0
  by_cases hz : z0 = 1
  case neg =>
    have E := Lib.hid (NO.out fun t s hs ht hh => hz (by rw [HZ0.out]; exact (Lg.holds_one hh (i := 0) (by have := Pt.parts_pos 32 t; omega)).2.2))
    go_wp2_with fail
    go_ret3
    exact ⟨by rw [E.out]; rfl, B2.out⟩
  obtain ⟨hR00, h60⟩ := Lg.look_is (HZ0.out.symm.trans hz)
  have h60b : b0.size = 60 := by have := congrArg List.length HB0.out; rw [h60] at this; simpa using this
  obtain ⟨x, hx⟩ : ∃ x, x = Dk.num ((b0.data.toList.drop 8).take 8) := ⟨_, rfl⟩
  have GE : Hid (∀ wx, Calls Tryz.prog 52 #[.string b0, .int .i64 8] wx fun e w' => e = .returned (.int .u64 (x : Nat)) ∧ wx = w') := fun wx => by rw [hx]; exact r10number_any wx b0 h60b 8 (by decide)
  have hxl : x < 18446744073709551616 := by rw [hx]; exact Pt.number_lt 1 _
  have NX : Hid (∀ t s, s < 18446744073709551616 → Pt.Holds (Lg.nums ep s la) 32 t (Lg.bods R) → s = x) := fun t s hs hh => by
    have h1 := (Lg.holds_one hh (i := 0) (by have := Pt.parts_pos 32 t; omega)).2.1
    have h2 := Pt.number_body (hs := Lg.nums ep s la) (n := 32) (k := 1) (by simp [Lg.nums]) hs t 0
    rw [← h1, ← HB0.out] at h2
    rw [hx]; exact h2.symm
  have h9 : 25 < b0.size := by omega
  have h9i : (25 : Int) < (b0.size : Int) := by omega
  obtain ⟨n, hn⟩ : ∃ n, n = (b0[25]'h9).toNat := ⟨_, rfl⟩
  have hn255 : n < 256 := by rw [hn]; exact (b0[25]'h9).toNat_lt
  have vn : wrap64 ((b0[25]'h9).toNat : Int) = (n : Int) := by rw [← hn]; simp only [wrap64]; omega
  have NC : Hid (∀ t s, t.length ≤ 1024 → Pt.Holds (Lg.nums ep s la) 32 t (Lg.bods R) → Pt.parts 32 t = n) := fun t s ht hh => by
    rw [← Lg.holds_count hh rfl ht, ← HB0.out, List.getD_eq_getElem?_getD, List.getElem?_eq_getElem (show 25 < b0.data.toList.length by simp; omega), hn]
    rfl
  have HXL := Lib.hid hxl
  clear hR00 h60 h60b hx hn hxl
  go_upto_region 8 with (fail)
  go_wp2_with fail
  have hk2 := B2.out
  go_loopw [10, 11] (fun s7 s8 wr => ∃ (i : Nat) (b : ByteArray), s8 = .int .i64 i ∧ i ≤ n ∧ s7 = .string b ∧ b.data.toList = Lg.texts R i ∧ i ≤ R.length ∧ Below w2.heap.size w2 wr) (fun _ s8 _ => n - (intOf s8).toNat)
  case atStart => exact ⟨0, ⟨#[]⟩, rfl, by omega, rfl, rfl, Nat.zero_le _, Below.refl _ _⟩
  case round =>
    obtain ⟨i, b, rfl, hi, rfl, hb, hiR, hbl⟩ := hrel
    have hbs : b.size = (Lg.texts R i).length := by rw [← hb]; simp
    have hbt := Lg.texts_le R i
    rw [← hbs] at hbt
    have HB := Lib.hid hb
    have HBL := Lib.hid hbl
    have BW : Hid (Below w.heap.size w wr) := B2.out.trans (hbl.mono B2.out.size)
    clear hb hbs hk2 hbl
    by_cases hin : i < n
    · have hii : (i : Int) < (n : Int) := by omega
      by_cases hiL : i < R.length
      case neg =>
        have hiLi : (R.length : Int) ≤ (i : Int) := by omega
        have E := Lib.hid (NO.out fun t s hs ht hh => hiL (Lg.holds_one hh (i := i) (by rw [NC.out t s ht hh]; exact hin)).1)
        go_wp2_with fail
        go_ret3
        exact ⟨by rw [E.out]; rfl, BW.out⟩
      have hiLi : ¬ (R.length : Int) ≤ (i : Int) := by omega
      have hiL2 : (i : Int) < (R.length : Int) := by omega
      have hsuc : IntKind.i64.wrap ((i : Int) + 1) = ((i + 1 : Nat) : Int) := Lg.suc_wrap hin hn255
      have ci := (BW.out.cell (p := ⟨gb, ob + i, none⟩) hgl).trans (HC.out i hiL)
      have LI := Lib.hid (LO.out i wr)
      obtain ⟨ri, hri⟩ : ∃ b : ByteArray, b = ⟨(R.getD i []).toArray⟩ := ⟨_, rfl⟩
      obtain ⟨bi, hbi⟩ : ∃ b : ByteArray, b = ⟨(Dk.lookOf (R.getD i [])).1.toArray⟩ := ⟨_, rfl⟩
      obtain ⟨zi, hzi⟩ : ∃ z, z = (Dk.lookOf (R.getD i [])).2 := ⟨_, rfl⟩
      rw [← hri] at ci
      rw [← hri, ← hbi, ← hzi] at LI
      have hbil : bi.data.toList = (Dk.lookOf (R.getD i [])).1 := by rw [hbi]
      have HBI := Lib.hid hbil
      have HZI := Lib.hid hzi
      clear hri hbi hzi hbil
      go_upto_region 14 with (go_at_call 51; refine LI.out.mono ?_; rintro e w3 ⟨rfl, k3⟩)
      have B3 := Lib.hid (HBL.out.trans (k3.mono HBL.out.size))
      have BW3 := Lib.hid (BW.out.trans (k3.mono BW.out.size))
      clear k3 ci
      by_cases hz2 : zi = 1
      case neg =>
        have E := Lib.hid (NO.out fun t s hs ht hh => hz2 (by rw [HZI.out]; exact (Lg.holds_one hh (i := i) (by rw [NC.out t s ht hh]; exact hin)).2.2))
        go_wp2_with fail
        go_ret3
        exact ⟨by rw [E.out]; rfl, BW3.out⟩
      obtain ⟨-, h60⟩ := Lg.look_is (HZI.out.symm.trans hz2)
      have h60b : bi.size = 60 := by have := congrArg List.length HBI.out; rw [h60] at this; simpa using this
      have H60 := Lib.hid h60b
      have h10 : 26 < bi.size := by omega
      have h10i : (26 : Int) < (bi.size : Int) := by omega
      obtain ⟨y, hy⟩ : ∃ y, y = (bi[26]'h10).toNat := ⟨_, rfl⟩
      have hy255 : y < 256 := by rw [hy]; exact (bi[26]'h10).toNat_lt
      have vy : wrap64 ((bi[26]'h10).toNat : Int) = (y : Int) := by rw [← hy]; simp only [wrap64]; omega
      have hyd : (bi.data.toList.getD 26 0).toNat = y := by
        rw [List.getD_eq_getElem?_getD, List.getElem?_eq_getElem (show 26 < bi.data.toList.length by simp; omega), hy]
        rfl
      have HYD := Lib.hid hyd
      clear h60 hy hyd h60b
      by_cases hy48 : 32 < y
      · have E := Lib.hid (NO.out fun t s hs ht hh => Lg.holds_no32 hh rfl (Nat.lt_of_lt_of_eq hin (NC.out t s ht hh).symm) HBI.out HYD.out hy48)
        have hy48i : (32 : Int) < y := Int.ofNat_lt.2 hy48
        go_wp2_with fail
        go_ret3
        exact ⟨by rw [E.out]; rfl, BW3.out⟩
      have hy48i : ¬ (32 : Int) < y := fun h => hy48 (Int.ofNat_lt.1 h)
      obtain ⟨z, hzz⟩ : ∃ z, z = 28 + y := ⟨_, rfl⟩
      obtain ⟨q1, q2, q3, q4, q5⟩ := Lg.cut_at hy48 hzz H60.out
      obtain ⟨s, hs⟩ : ∃ s, s = bi.extract 28 z := ⟨_, rfl⟩
      have hsp : s.data.toList = Pt.piece 3 32 (Dk.lookOf (R.getD i [])).1 := by
        rw [hs, hzz, ← HBI.out]
        exact Lg.piece_text (Lg.min32 HYD.out hy48)
      have hcat : b.size + s.size ≤ 9223372036854775807 := Lg.cat_small hbt hin hn255 (Lg.piece_size hsp)
      have HS := Lib.hid hs
      have hnx : (b ++ s).data.toList = Lg.texts R (i + 1) := by
        rw [ByteArray.data_append, Array.toList_append, HB.out, hsp, Lg.texts_next hiL]
      have HNX := Lib.hid hnx
      clear hs hsp hnx hzz
      go_wp2_with (rw [← HS.out])
      exact ⟨⟨_, _, _, _, _, ⟨i + 1, by push_cast; rfl, hin, b ++ s, rfl, HNX.out, hiL, B3.out⟩, rfl, rfl, rfl, rfl, rfl⟩, by simp only [intOf]; exact Lg.less hin⟩
    · have hii : ¬ (i : Int) < (n : Int) := fun h => hin (Int.ofNat_lt.1 h)
      obtain rfl : i = n := Nat.le_antisymm hi (Nat.not_lt.1 hin)
      have NT : Hid (∀ t s, t.length ≤ 1024 → Pt.Holds (Lg.nums ep s la) 32 t (Lg.bods R) → b.data.toList = t) := fun t s ht hh => by rw [HB.out, ← NC.out t s ht hh]; exact Lg.holds_text hh rfl
      by_cases hn0 : i = 0
      · have E := Lib.hid (NO.out fun t s hs ht hh => by have := NC.out t s ht hh; have := Pt.parts_pos 32 t; omega)
        have hn0i : ((i : Int) == 0) = true := beq_iff_eq.2 (by omega)
        go_wp2_with fail
        go_ret3
        exact ⟨by rw [E.out]; rfl, BW.out⟩
      have hn0i : ((i : Int) == 0) = false := beq_eq_false_iff_ne.2 (by omega)
      by_cases h400 : 1024 < b.size
      · have E := Lib.hid (NO.out fun t s hs ht hh => by
          have h1 := NT.out t s ht hh
          rw [← h1] at ht
          exact Nat.not_le_of_lt h400 (by simpa using ht))
        have h4i : (1024 : Int) < b.size := Int.ofNat_lt.2 h400
        go_wp2_with fail
        go_ret3
        exact ⟨by rw [E.out]; rfl, BW.out⟩
      have h4i : ¬ (1024 : Int) < b.size := fun h => h400 (Int.ofNat_lt.1 h)
      have h4s : b.size ≤ 1024 := Nat.not_lt.1 h400
      have SE : Hid (∀ wx : World, Calls Tryz.prog 34 #[.string b, .int .u64 (ep : Nat), .int .u64 (x : Nat), .int .u64 (la : Nat)] wx fun e w' => ∃ A c, e = .returned (.slice A (Pt.parts 32 b.data.toList) c) ∧ Pt.parts 32 b.data.toList ≤ c ∧ Kp.StrsAt w' A (Lg.closeds (Lg.nums ep x la) b.data.toList) ∧ (∀ q o, A = some ⟨q, o, none⟩ → wx.heap.size ≤ q) ∧ Below wx.heap.size wx w') := fun wx => r10Sectors_any wx b ep x la (Nat.le_trans h4s (by decide))
      have hbtl : b.data.toList.length ≤ 1024 := by simpa using h4s
      obtain ⟨P, hP⟩ : ∃ P, P = Pt.parts 32 b.data.toList := ⟨_, rfl⟩
      obtain ⟨L, hL⟩ : ∃ L, L = Lg.closeds (Lg.nums ep x la) b.data.toList := ⟨_, rfl⟩
      rw [← hP, ← hL] at SE
      have HP := Lib.hid hP
      have HLL := Lib.hid hL
      have HTL := Lib.hid hbtl
      have gx := (HBL.out.block N (Sm.lt_of G2.out)).trans G2.out
      have x2 := Sm.cells_of gx 2 _ rfl
      have x5 := Sm.cells_of gx 5 _ rfl
      clear hP hL hbtl gx
      go_upto_region 21 with (first
        | (go_at_call 52; refine (GE.out _).mono ?_; rintro e w3 ⟨rfl, rfl⟩)
        | (go_at_call 34; refine (SE.out _).mono ?_; rintro e w4 ⟨A', c', rfl, hcp, hs, -, k4⟩))
      have B3 := Lib.hid (BW.out.trans (k4.mono BW.out.size))
      clear k4 x2 x5
      by_cases hPn : P = i
      case neg =>
        have E := Lib.hid (NO.out fun t s hs ht hh => by
          have h1 := NC.out t s ht hh
          rw [← NT.out t s ht hh, ← HP.out] at h1
          exact hPn h1)
        have hPi : ((P : Int) == (i : Int)) = false := beq_eq_false_iff_ne.2 fun h => hPn (Int.ofNat.inj h)
        clear hs
        go_wp2_with fail
        go_ret3
        exact ⟨by rw [E.out]; rfl, B3.out⟩
      subst hPn
      have LG : Hid (∀ k, k < P → L.getD k [] = Dk.closed (Pt.body (Lg.nums ep x la) 32 b.data.toList k)) := fun k hk => by
        rw [HLL.out]
        exact Lg.closeds_getD (by rw [← HP.out]; exact hk)
      have hLl : L.length = P := by rw [HLL.out, HP.out]; exact Lg.closeds_length _ _
      have HLN := Lib.hid hLl
      obtain ⟨g2, o2, rfl, hg2, hc2⟩ := hs
      have HC2 := Lib.hid hc2
      have hb3s := B3.out.size
      clear hc2 hLl
      go_wp2_with fail
      generalize w4 = W3 at *
      go_loopw [16] (fun s12 wx => ∃ j : Nat, s12 = .int .i64 j ∧ j ≤ P ∧ (∀ k, k < j → R.getD k [] = L.getD k []) ∧ Below W3.heap.size W3 wx) (fun s12 _ => P - (intOf s12).toNat)
      case atStart => exact ⟨0, rfl, Nat.zero_le _, fun k hk => absurd hk (Nat.not_lt_zero k), Below.refl _ _⟩
      case round =>
        obtain ⟨j, rfl, hj, hall, hbj⟩ := hrel
        have HALL := Lib.hid hall
        have HBJ := Lib.hid hbj
        clear hall
        by_cases hjn : j < P
        · have hji : (j : Int) < (P : Int) := Int.ofNat_lt.2 hjn
          have hjR : (j : Int) < (R.length : Int) := Int.ofNat_lt.2 (Nat.lt_of_lt_of_le hjn hiR)
          have hj0 : (0 : Int) ≤ (j : Int) := Int.natCast_nonneg j
          have hsuc : IntKind.i64.wrap ((j : Int) + 1) = ((j + 1 : Nat) : Int) := Lg.suc_wrap hjn hn255
          have hgl2 : gb < W3.heap.size := Nat.lt_of_lt_of_le hgl hb3s
          have ca := (hbj.cell (p := ⟨gb, ob + j, none⟩) hgl2).trans ((B3.out.cell (p := ⟨gb, ob + j, none⟩) hgl).trans (HC.out j (Nat.lt_of_lt_of_le hjn hiR)))
          have cb := (hbj.cell (p := ⟨g2, o2 + j, none⟩) hg2).trans (HC2.out j (by rw [HLN.out]; exact hjn))
          obtain ⟨ra, hra⟩ : ∃ b : ByteArray, b = ⟨(R.getD j []).toArray⟩ := ⟨_, rfl⟩
          obtain ⟨rb, hrb⟩ : ∃ b : ByteArray, b = ⟨(L.getD j []).toArray⟩ := ⟨_, rfl⟩
          rw [← hra] at ca
          rw [← hrb] at cb
          have hral : ra.data.toList = R.getD j [] := by rw [hra]
          have hrbl : rb.data.toList = L.getD j [] := by rw [hrb]
          have HRA := Lib.hid hral
          have HRB := Lib.hid hrbl
          clear hra hrb hral hrbl hbj
          by_cases hs : rb = ra
          · have hce := Dk.str_eq hs
            have hsr : R.getD j [] = L.getD j [] := by rw [← HRA.out, ← HRB.out, hs]
            have HSR := Lib.hid hsr
            clear hs hsr
            go_wp2
            go_quiet (fail)
            go_wp2
            go_roundw
            case rel =>
              refine ⟨j + 1, by push_cast; rfl, hjn, fun k hk => ?_, Sm.below_drewN HBJ.out _⟩
              rcases Nat.lt_succ_iff_lt_or_eq.1 hk with h | h
              · exact HALL.out k h
              · rw [h]; exact HSR.out
            case measure => simp only [intOf]; exact Lg.less hjn
          · have hce := Dk.str_ne hs
            have E := Lib.hid (NO.out fun t s hs2 ht hh => by
              have hp := NC.out t s ht hh
              obtain ⟨-, h1, h2⟩ := Lg.holds_one hh (i := j) (by rw [hp]; exact hjn)
              have h3 := (Lg.look_is h2).1
              rw [h1, NX.out t s hs2 hh, ← NT.out t s ht hh, ← LG.out j hjn, ← HRA.out, ← HRB.out] at h3
              exact hs (by
                have : ra.data = rb.data := Array.toList_inj.1 h3
                cases ra; cases rb; exact congrArg ByteArray.mk this.symm))
            clear hs
            go_wp2
            go_quiet (fail)
            go_wp2
            go_ret3
            exact ⟨by rw [E.out]; rfl, Sm.below_drewN (B3.out.trans (HBJ.out.mono hb3s)) _⟩
        · have hji : ¬ (j : Int) < (P : Int) := fun h => hjn (Int.ofNat_lt.1 h)
          obtain rfl : j = P := Nat.le_antisymm hj (Nat.not_lt.1 hjn)
          have hh : Pt.Holds (Lg.nums ep x la) 32 b.data.toList (Lg.bods R) := Lg.holds_all hiR rfl HP.out.symm fun k hk => by rw [HALL.out k hk]; exact LG.out k hk
          have hE := HH.out.trans (Lg.first_of hep HXL.out hla HTL.out hh)
          have E : Hid (Lg.atRes H = .tuple #[.string b, .int .u64 (x : Nat), .bool true]) := by show _ = _; rw [hE]; rfl
          clear hh hbj hE
          go_wp2_with fail
          go_ret3
          exact ⟨by rw [E.out]; rfl, B3.out.trans (HBJ.out.mono hb3s)⟩
end Go.Proofs.YtnmagfodjcookaaGreat
