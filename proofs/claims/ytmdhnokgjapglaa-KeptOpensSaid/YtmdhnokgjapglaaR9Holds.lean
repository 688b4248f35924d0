/-
  The document's kept: what ten sectors hold.
-/
import Derived.Test.YtmdhnokgjapglaaR9Sectors
import Derived.BigQuiet
namespace Go.Proofs.Ytmdhnokgjapglaa
open Go.RowKit
namespace Kp
theorem piece_le (b : List UInt8) : (piece b).length ≤ 48 := by unfold piece; rw [List.length_take]; omega
theorem pieces_le : ∀ (l : List (List UInt8)), (l.flatMap piece).length ≤ 48 * l.length
  | [] => by simp
  | b :: l => by
    have := pieces_le l
    have := piece_le b
    rw [List.flatMap_cons, List.length_append, List.length_cons]
    omega
theorem piece_text {b : ByteArray} {m : Nat} (hm : m = min (b.data.toList.getD 10 0).toNat 48) : (b.extract 12 (12 + m)).data.toList = piece b.data.toList := by
  rw [piece, ByteArray.data_extract, Array.toList_extract, List.extract_eq_take_drop, hm, show 12 + min (b.data.toList.getD 10 0).toNat 48 - 12 = min (b.data.toList.getD 10 0).toNat 48 by omega]
open Dk (lookOf)
theorem held_not {S : List (List UInt8)} (h : ∀ t g, g < 18446744073709551616 → ¬ Holds S t g) : held S = ([], 0) := by
  by_cases h0 : (held S).2 = 0
  · exact held_none h0
  · exact absurd (holds (slot := S) (t := (held S).1) (g := (held S).2) rfl h0) (h _ _ (held_lt S))
/-- The bodies in sectors. -/
def bods (R : List (List UInt8)) : List (List UInt8) := R.map fun r => (lookOf r).1
theorem bods_getD {R : List (List UInt8)} {i : Nat} (h : i < R.length) : (bods R).getD i [] = (lookOf (R.getD i [])).1 := by
  rw [bods, List.getD_eq_getElem?_getD, List.getElem?_map, List.getElem?_eq_getElem h, List.getD_eq_getElem?_getD, List.getElem?_eq_getElem h]; rfl
theorem look_one {r : List UInt8} (h : (lookOf r).2 = 1) : r = Dk.closed (lookOf r).1 ∧ (lookOf r).1.length = 60 := by
  unfold lookOf at h ⊢
  split at h
  · cases h
  · split at h
    · rename_i h1 h2
      rw [if_neg h1, if_pos h2]
      exact ⟨h2.2, by rw [List.length_take]; omega⟩
    · cases h
theorem look_zero {r : List UInt8} (h1 : (lookOf r).2 ≠ 1) : (lookOf r).1 = [] := by
  unfold lookOf at h1 ⊢
  split at h1
  · rename_i h3; rw [if_pos h3]
  · rename_i h3
    split at h1
    · exact absurd rfl h1
    · rename_i h4; rw [if_neg h3, if_neg h4]
section
variable {R : List (List UInt8)} {t : List UInt8} {g : Nat}
theorem Holds.one (h : Holds (bods R) t g) {i : Nat} (hi : i < parts t) : i < R.length ∧ (lookOf (R.getD i [])).1 = body t g i ∧ (lookOf (R.getD i [])).2 = 1 := by
  have h1 := h.get hi
  have hl : i < R.length := by
    have := (List.getElem?_eq_some_iff.1 h1).1
    simpa [bods] using this
  have h2 : (bods R).getD i [] = body t g i := by rw [List.getD_eq_getElem?_getD, h1]; rfl
  rw [bods_getD hl] at h2
  refine ⟨hl, h2, Decidable.byContradiction fun hn => ?_⟩
  rw [look_zero hn] at h2
  exact body_ne t g i h2.symm
theorem Holds.count (h : Holds (bods R) t g) : ((lookOf (R.getD 0 [])).1.getD 9 0).toNat = parts t := by
  have hp := parts_pos t
  rw [(h.one (i := 0) (by omega)).2.1, body_count]
  have := parts_le h.le
  omega
theorem Holds.short (h : Holds (bods R) t g) {i : Nat} (hi : i < parts t) : ((lookOf (R.getD i [])).1.getD 10 0).toNat ≤ 48 := by
  rw [(h.one hi).2.1, body_len]
  exact part_le t i
theorem Holds.no48 (h : Holds (bods R) t g) {i : Nat} (hi : i < parts t) {b : ByteArray} (hb : b.data.toList = (lookOf (R.getD i [])).1) {y : Nat} (hy : (b.data.toList.getD 10 0).toNat = y) (h48 : 48 < y) : False := by
  have h1 := h.short hi
  rw [← hb, hy] at h1
  omega
theorem cut_facts {y z n : Nat} (hy : ¬ 48 < y) (hz : z = 12 + y) (hn : n = 60) : IntKind.i64.wrap (12 + (y : Int)) = (z : Int) ∧ (z : Int) ≤ (n : Int) ∧ (12 : Int) ≤ (z : Int) ∧ ¬ (n : Int) < (z : Int) ∧ ¬ (z : Int) < 12 := by
  refine ⟨?_, by omega, by omega, by omega, by omega⟩
  rw [IntWalk.i64_in _ (by omega), hz]; push_cast; rfl
theorem piece_size {s : ByteArray} {l : List UInt8} (h : s.data.toList = piece l) : s.size ≤ 48 := by
  have h1 := congrArg List.length h
  have h2 := piece_le l
  have h3 : s.data.toList.length = s.size := by simp
  omega
theorem cat_small {a b i n : Nat} (ha : a ≤ 48 * i) (hi : i < n) (hn : ¬ 9 < n) (hb : b ≤ 48) : a + b ≤ 9223372036854775807 := by omega
theorem min48 {x y : Nat} (hx : x = y) (h : ¬ 48 < y) : y = min x 48 := by omega
theorem suc_wrap {j n : Nat} (h : j < n) (hn : ¬ 9 < n) : IntKind.i64.wrap ((j : Int) + 1) = ((j + 1 : Nat) : Int) := by simp [IntKind.wrap, IntKind.bits, IntKind.signed]; omega
theorem closeds_getD {t : List UInt8} {g k : Nat} (h : k < parts t) : (closeds t g).getD k [] = Dk.closed (body t g k) := by
  rw [closeds, List.getD_eq_getElem?_getD, List.getElem?_map, bodies_get h]; rfl
theorem less {i n : Nat} (h : i < n) : n - ((i : Int) + 1).toNat < n - (i : Int).toNat := by omega
/-- The text of the first sectors. -/
def texts (R : List (List UInt8)) (i : Nat) : List UInt8 := (R.take i).flatMap fun r => piece (lookOf r).1
theorem texts_next {i : Nat} (h : i < R.length) : texts R (i + 1) = texts R i ++ piece (lookOf (R.getD i [])).1 := by
  rw [texts, List.take_succ_eq_append_getElem h, List.flatMap_append, List.getD_eq_getElem?_getD, List.getElem?_eq_getElem h]; simp [texts]
theorem texts_le (R : List (List UInt8)) (i : Nat) : (texts R i).length ≤ 48 * i := by
  have h := pieces_le ((R.take i).map fun r => (lookOf r).1)
  have e : ((R.take i).map fun r => (lookOf r).1).flatMap piece = texts R i := by rw [List.flatMap_map]; rfl
  rw [e, List.length_map] at h
  have := List.length_take_le i R
  omega
theorem Holds.text (h : Holds (bods R) t g) : texts R (parts t) = t := by
  have e : texts R (parts t) = ((bods R).take (parts t)).flatMap piece := by rw [bods, ← List.map_take, List.flatMap_map]; rfl
  rw [e, h.same, bodies, List.flatMap_map]
  conv => rhs; rw [← parts_all t]
  congr 1
  funext i
  exact piece_body t g i
/-- All that is asked is met. -/
theorem holds_of (hR : R.length = 10) {n : Nat} (hn : parts t = n) (hn9 : n ≤ 9) (h0 : g ≠ 0) (ht : t.length ≤ 400) (hall : ∀ j, j < n → R.getD j [] = Dk.closed (body t g j)) : Holds (bods R) t g := by
  refine ⟨h0, ht, List.ext_getElem? fun j => ?_⟩
  rw [hn, List.getElem?_take]
  by_cases hj : j < n
  · rw [if_pos hj, bodies_get (by omega)]
    have h1 := bods_getD (R := R) (i := j) (by omega)
    have h2 : (bods R)[j]? = some ((bods R).getD j []) := by
      rw [List.getD_eq_getElem?_getD, List.getElem?_eq_getElem (by simp [bods]; omega)]; rfl
    rw [h2, h1, hall j hj, look_closed (body_length _ _ _)]
  · rw [if_neg hj, List.getElem?_eq_none (by rw [bodies_length]; omega)]
end
end Kp
set_option maxRecDepth 100000 in
set_option maxHeartbeats 2000000 in
theorem r9Holds_any (w : World) (A : Option Addr) (c : Nat) (R : List (List UInt8)) (h : Kp.StrsAt w A R) (hR : R.length = 10) :
    Calls Try.prog 41 #[.slice A 10 c] w fun e w' => e = .returned (.tuple #[.string ⟨(Kp.held (Kp.bods R)).1.toArray⟩, .int .u64 ((Kp.held (Kp.bods R)).2 : Nat)]) ∧ Below w.heap.size w w' := by
  obtain ⟨H, hH⟩ : ∃ H, H = Kp.held (Kp.bods R) := ⟨_, rfl⟩
  rw [← hH]
  have HH := Lib.hid hH
  have NO : Hid ((∀ t g, g < 18446744073709551616 → ¬ Kp.Holds (Kp.bods R) t g) → H = ([], 0)) := fun hn => by rw [hH]; exact Kp.held_not hn
  obtain ⟨gb, ob, rfl, hgl, hc⟩ := h
  have HC := Lib.hid hc
  have c0 := hc 0 (by omega)
  rw [Nat.add_zero] at c0
  have LO : Hid (∀ (i : Nat) (wx : World), Calls Try.prog 39 #[.string ⟨(R.getD i []).toArray⟩] wx fun e w' => e = .returned (.tuple #[.string ⟨(Dk.lookOf (R.getD i [])).1.toArray⟩, .int .i64 (Dk.lookOf (R.getD i [])).2]) ∧ Below wx.heap.size wx w') := fun i wx => r7Look_any wx ⟨(R.getD i []).toArray⟩
  have L0 := Lib.hid (LO.out 0 w)
  obtain ⟨r0, hr0⟩ : ∃ b : ByteArray, b = ⟨(R.getD 0 []).toArray⟩ := ⟨_, rfl⟩
  obtain ⟨b0, hb0⟩ : ∃ b : ByteArray, b = ⟨(Dk.lookOf (R.getD 0 [])).1.toArray⟩ := ⟨_, rfl⟩
  obtain ⟨z0, hz0⟩ : ∃ z, z = (Dk.lookOf (R.getD 0 [])).2 := ⟨_, rfl⟩
  rw [← hr0] at c0
  rw [← hr0, ← hb0, ← hz0] at L0
  have hb0l : b0.data.toList = (Dk.lookOf (R.getD 0 [])).1 := by rw [hb0]
  have HB0 := Lib.hid hb0l
  have HZ0 := Lib.hid hz0
  clear hc hH hr0 hb0 hz0 hb0l
  go_enter Try.func41, Try.ntmps41
  go_upto_region 2 with (go_at_call 39; refine L0.out.mono ?_; rintro e w1 ⟨rfl, k1⟩)
  by_cases hz : z0 = 1
  case neg =>
    have E := Lib.hid (NO.out fun t g hg hh => hz (by rw [HZ0.out]; exact (hh.one (i := 0) (by have := Kp.parts_pos t; omega)).2.2))
    have K1 := Lib.hid k1
    clear k1 c0
    go_wp2_with fail
    go_ret2
    exact ⟨by rw [E.out]; rfl, K1.out⟩
  obtain ⟨hR0, h60⟩ := Kp.look_one (HZ0.out.symm.trans hz)
  have h60b : b0.size = 60 := by have := congrArg List.length HB0.out; rw [h60] at this; simpa using this
  obtain ⟨x, hx⟩ : ∃ x, x = Kp.gen b0.data.toList := ⟨_, rfl⟩
  have GE : Hid (∀ wx, Calls Try.prog 40 #[.string b0] wx fun e w' => e = .returned (.int .u64 (x : Nat)) ∧ wx = w') := fun wx => by rw [hx]; exact r9gen_any wx b0 h60b
  have hxl : x < 18446744073709551616 := by rw [hx]; exact Kp.gen_lt _
  have NX : Hid (∀ t g, g < 18446744073709551616 → Kp.Holds (Kp.bods R) t g → g = x) := fun t g hg hh => by
    have h1 := hh.gen hg
    rw [Kp.bods_getD (by omega), ← HB0.out, ← hx] at h1
    exact h1.symm
  have h9 : 9 < b0.size := by omega
  have h9i : (9 : Int) < (b0.size : Int) := by omega
  obtain ⟨n, hn⟩ : ∃ n, n = (b0[9]'h9).toNat := ⟨_, rfl⟩
  have hn255 : n < 256 := by rw [hn]; exact (b0[9]'h9).toNat_lt
  have vn : wrap64 ((b0[9]'h9).toNat : Int) = (n : Int) := by rw [← hn]; simp only [wrap64]; omega
  have NC : Hid (∀ t g, Kp.Holds (Kp.bods R) t g → Kp.parts t = n) := fun t g hh => by
    rw [← hh.count, ← HB0.out, List.getD_eq_getElem?_getD, List.getElem?_eq_getElem (show 9 < b0.data.toList.length by simp; omega), hn]
    rfl
  have K1 := Lib.hid k1
  have HXL := Lib.hid hxl
  clear hR0 h60 h60b hx hn k1 c0 hxl
  by_cases hx0 : x = 0
  · have E := Lib.hid (NO.out fun t g hg hh => hh.pos ((NX.out t g hg hh).trans hx0))
    subst hx0
    go_wp2_with (go_at_call 40; refine (GE.out _).mono ?_; rintro e w2 ⟨rfl, rfl⟩)
    go_ret2
    exact ⟨by rw [E.out]; rfl, K1.out⟩
  have hx0i : ¬ (x : Int) = 0 := by omega
  go_upto_region 5 with (go_at_call 40; refine (GE.out _).mono ?_; rintro e w2 ⟨rfl, rfl⟩)
  by_cases hn1 : n < 1
  · have E := Lib.hid (NO.out fun t g hg hh => by have := NC.out t g hh; have := Kp.parts_pos t; omega)
    have hn1i : (n : Int) < 1 := by omega
    go_wp2_with fail
    go_ret2
    exact ⟨by rw [E.out]; rfl, K1.out⟩
  have hn1i : ¬ (n : Int) < 1 := by omega
  by_cases hn9 : 9 < n
  · have E := Lib.hid (NO.out fun t g hg hh => by have := NC.out t g hh; have := Kp.parts_le hh.le; omega)
    have hn9i : (9 : Int) < n := by omega
    go_wp2_with fail
    go_ret2
    exact ⟨by rw [E.out]; rfl, K1.out⟩
  have hn9i : ¬ (9 : Int) < n := by omega
  go_wp2_with fail
  have hk1 := K1.out
  go_loopw [7, 8] (fun s7 s8 wr => ∃ (i : Nat) (b : ByteArray), s8 = .int .i64 i ∧ i ≤ n ∧ s7 = .string b ∧ b.data.toList = Kp.texts R i ∧ Below w.heap.size w wr) (fun _ s8 _ => n - (intOf s8).toNat)
  case atStart => exact ⟨0, ⟨#[]⟩, rfl, by omega, rfl, rfl, hk1⟩
  case round =>
    obtain ⟨i, b, rfl, hi, rfl, hb, hbl⟩ := hrel
    have hbs : b.size = (Kp.texts R i).length := by rw [← hb]; simp
    have hbt := Kp.texts_le R i
    rw [← hbs] at hbt
    have HB := Lib.hid hb
    have HBL := Lib.hid hbl
    clear hb hbs hk1
    by_cases hin : i < n
    · have hii : (i : Int) < (n : Int) := by omega
      have hi10 : (i : Int) < 10 := by omega
      have hsuc : IntKind.i64.wrap ((i : Int) + 1) = ((i + 1 : Nat) : Int) := by simp [IntKind.wrap, IntKind.bits, IntKind.signed]; omega
      have ci := (hbl.cell (p := ⟨gb, ob + i, none⟩) hgl).trans (HC.out i (by omega))
      have LI := Lib.hid (LO.out i wr)
      obtain ⟨ri, hri⟩ : ∃ b : ByteArray, b = ⟨(R.getD i []).toArray⟩ := ⟨_, rfl⟩
      obtain ⟨bi, hbi⟩ : ∃ b : ByteArray, b = ⟨(Dk.lookOf (R.getD i [])).1.toArray⟩ := ⟨_, rfl⟩
      obtain ⟨zi, hzi⟩ : ∃ z, z = (Dk.lookOf (R.getD i [])).2 := ⟨_, rfl⟩
      rw [← hri] at ci
      rw [← hri, ← hbi, ← hzi] at LI
      have hbil : bi.data.toList = (Dk.lookOf (R.getD i [])).1 := by rw [hbi]
      have HBI := Lib.hid hbil
      have HZI := Lib.hid hzi
      have hwl := hbl.size
      clear hri hbi hzi hbil hbl
      go_upto_region 12 with (go_at_call 39; refine LI.out.mono ?_; rintro e w2 ⟨rfl, k2⟩)
      have B2 := Lib.hid (HBL.out.trans (k2.mono hwl))
      clear k2 ci
      by_cases hz2 : zi = 1
      case neg =>
        have E := Lib.hid (NO.out fun t g hg hh => hz2 (by rw [HZI.out]; exact (hh.one (i := i) (by rw [NC.out t g hh]; exact hin)).2.2))
        go_wp2_with fail
        go_ret2
        exact ⟨by rw [E.out]; rfl, B2.out⟩
      obtain ⟨-, h60⟩ := Kp.look_one (HZI.out.symm.trans hz2)
      have h60b : bi.size = 60 := by have := congrArg List.length HBI.out; rw [h60] at this; simpa using this
      have H60 := Lib.hid h60b
      have h10 : 10 < bi.size := by omega
      have h10i : (10 : Int) < (bi.size : Int) := by omega
      obtain ⟨y, hy⟩ : ∃ y, y = (bi[10]'h10).toNat := ⟨_, rfl⟩
      have hy255 : y < 256 := by rw [hy]; exact (bi[10]'h10).toNat_lt
      have vy : wrap64 ((bi[10]'h10).toNat : Int) = (y : Int) := by rw [← hy]; simp only [wrap64]; omega
      have hyd : (bi.data.toList.getD 10 0).toNat = y := by
        rw [List.getD_eq_getElem?_getD, List.getElem?_eq_getElem (show 10 < bi.data.toList.length by simp; omega), hy]
        rfl
      have HYD := Lib.hid hyd
      clear h60 hy hyd h60b
      by_cases hy48 : 48 < y
      · have T1 : ∀ t g, g < 18446744073709551616 → ¬ Kp.Holds (Kp.bods R) t g := fun t g hg hh => hh.no48 (Nat.lt_of_lt_of_eq hin (NC.out t g hh).symm) HBI.out HYD.out hy48
        have E := Lib.hid (NO.out T1)
        clear T1
        have hy48i : (48 : Int) < y := Int.ofNat_lt.2 hy48
        go_wp2_with fail
        go_ret2
        exact ⟨by rw [E.out]; rfl, B2.out⟩
      have hy48i : ¬ (48 : Int) < y := fun h => hy48 (Int.ofNat_lt.1 h)
      obtain ⟨z, hzz⟩ : ∃ z, z = 12 + y := ⟨_, rfl⟩
      obtain ⟨q1, q2, q3, q4, q5⟩ := Kp.cut_facts hy48 hzz H60.out
      obtain ⟨s, hs⟩ : ∃ s, s = bi.extract 12 z := ⟨_, rfl⟩
      have hsp : s.data.toList = Kp.piece (Dk.lookOf (R.getD i [])).1 := by
        rw [hs, hzz, ← HBI.out]
        exact Kp.piece_text (Kp.min48 HYD.out hy48)
      have hcat : b.size + s.size ≤ 9223372036854775807 := Kp.cat_small hbt hin hn9 (Kp.piece_size hsp)
      have HS := Lib.hid hs
      have hnx : (b ++ s).data.toList = Kp.texts R (i + 1) := by
        rw [ByteArray.data_append, Array.toList_append, HB.out, hsp, Kp.texts_next (Nat.lt_trans hin (by rw [hR]; exact Nat.lt_succ_of_le (Nat.not_lt.1 hn9)))]
      have HNX := Lib.hid hnx
      clear hs hsp hnx hzz
      go_wp2_with (rw [← HS.out])
      exact ⟨⟨i + 1, b ++ s, by push_cast; rfl, hin, rfl, HNX.out, B2.out⟩, by simp only [intOf]; exact Kp.less hin⟩
    · have hii : ¬ (i : Int) < (n : Int) := fun h => hin (Int.ofNat_lt.1 h)
      obtain rfl : i = n := Nat.le_antisymm hi (Nat.not_lt.1 hin)
      have NT : Hid (∀ t g, Kp.Holds (Kp.bods R) t g → b.data.toList = t) := fun t g hh => by rw [HB.out, ← NC.out t g hh]; exact hh.text
      by_cases h400 : 400 < b.size
      · have T1 : ∀ t g, g < 18446744073709551616 → ¬ Kp.Holds (Kp.bods R) t g := fun t g hg hh => by
          have h1 := hh.le
          rw [← NT.out t g hh] at h1
          exact Nat.not_le_of_lt h400 (by simpa using h1)
        have E := Lib.hid (NO.out T1)
        have h4i : (400 : Int) < b.size := Int.ofNat_lt.2 h400
        clear T1 hbl
        go_wp2_with fail
        go_ret2
        exact ⟨by rw [E.out]; rfl, HBL.out⟩
      have h4i : ¬ (400 : Int) < b.size := fun h => h400 (Int.ofNat_lt.1 h)
      have h4s : b.size ≤ 400 := Nat.not_lt.1 h400
      have SE := Lib.hid (r9Sectors_any wr b x (Nat.le_trans h4s (by decide)))
      have hbtl : b.data.toList.length ≤ 400 := by simpa using h4s
      obtain ⟨P, hP⟩ : ∃ P, P = Kp.parts b.data.toList := ⟨_, rfl⟩
      obtain ⟨L, hL⟩ : ∃ L, L = Kp.closeds b.data.toList x := ⟨_, rfl⟩
      rw [← hP, ← hL] at SE
      have HP := Lib.hid hP
      have HLL := Lib.hid hL
      have HTL := Lib.hid hbtl
      have hwl := hbl.size
      clear hP hL hbl hbtl
      go_upto_region 18 with (first
        | (go_at_call 40; refine (GE.out _).mono ?_; rintro e w2 ⟨rfl, rfl⟩)
        | (go_at_call 28; refine SE.out.mono ?_; rintro e w3 ⟨A', c', rfl, hcp, hs, -, k3⟩))
      have B3 := Lib.hid (HBL.out.trans (k3.mono hwl))
      clear k3
      by_cases hPn : P = i
      case neg =>
        have T1 : ∀ t g, g < 18446744073709551616 → ¬ Kp.Holds (Kp.bods R) t g := fun t g hg hh => by
          have h1 := NC.out t g hh
          rw [← NT.out t g hh, ← HP.out] at h1
          exact hPn h1
        have E := Lib.hid (NO.out T1)
        have hPi : ¬ (P : Int) = (i : Int) := fun h => hPn (Int.ofNat.inj h)
        clear T1 hs
        go_wp2_with fail
        go_ret2
        exact ⟨by rw [E.out]; rfl, B3.out⟩
      subst hPn
      have LG : Hid (∀ k, k < P → L.getD k [] = Dk.closed (Kp.body b.data.toList x k)) := fun k hk => by
        rw [HLL.out]
        exact Kp.closeds_getD (by rw [← HP.out]; exact hk)
      have hLl : L.length = P := by rw [HLL.out, HP.out]; exact Kp.closeds_length _ _
      have HLN := Lib.hid hLl
      obtain ⟨g2, o2, rfl, hg2, hc2⟩ := hs
      have HC2 := Lib.hid hc2
      have hb3s := B3.out.size
      clear hc2 hLl
      go_wp2_with fail
      generalize w3 = W3 at *
      go_loopw [12] (fun s12 wx => ∃ j : Nat, s12 = .int .i64 j ∧ j ≤ P ∧ (∀ k, k < j → R.getD k [] = L.getD k []) ∧ Below W3.heap.size W3 wx) (fun s12 _ => P - (intOf s12).toNat)
      case atStart => exact ⟨0, rfl, Nat.zero_le _, fun k hk => absurd hk (Nat.not_lt_zero k), Below.refl _ _⟩
      case round =>
        obtain ⟨j, rfl, hj, hall, hbj⟩ := hrel
        have HALL := Lib.hid hall
        have HBJ := Lib.hid hbj
        clear hall
        by_cases hjn : j < P
        · have hji : (j : Int) < (P : Int) := Int.ofNat_lt.2 hjn
          have hj10 : (j : Int) < 10 := Int.lt_of_lt_of_le hji (by have := Nat.not_lt.1 hn9; exact_mod_cast (Nat.le_trans this (by decide)))
          have hj0 : (0 : Int) ≤ (j : Int) := Int.natCast_nonneg j
          have hsuc : IntKind.i64.wrap ((j : Int) + 1) = ((j + 1 : Nat) : Int) := Kp.suc_wrap hjn hn9
          have hgl2 : gb < W3.heap.size := Nat.lt_of_lt_of_le hgl hb3s
          have ca := (hbj.cell (p := ⟨gb, ob + j, none⟩) hgl2).trans ((B3.out.cell (p := ⟨gb, ob + j, none⟩) hgl).trans (HC.out j (by rw [hR]; exact Nat.lt_trans hjn (Nat.lt_succ_of_le (Nat.not_lt.1 hn9)))))
          have cb := (hbj.cell (p := ⟨g2, o2 + j, none⟩) hg2).trans (HC2.out j (by rw [HLN.out]; exact hjn))
          obtain ⟨ra, hra⟩ : ∃ b : ByteArray, b = ⟨(R.getD j []).toArray⟩ := ⟨_, rfl⟩
          obtain ⟨rb, hrb⟩ : ∃ b : ByteArray, b = ⟨(L.getD j []).toArray⟩ := ⟨_, rfl⟩
          rw [← hra] at ca
          rw [← hrb] at cb
          have hral : ra.data.toList = R.getD j [] := by rw [hra]
          have hrbl : rb.data.toList = L.getD j [] := by rw [hrb]
          have HRA := Lib.hid hral
          have HRB := Lib.hid hrbl
          clear hra hrb hral hrbl hbj
          by_cases hs : rb = ra
          · have hce := Dk.str_eq hs
            have hsr : R.getD j [] = L.getD j [] := by rw [← HRA.out, ← HRB.out, hs]
            have HSR := Lib.hid hsr
            clear hs hsr
            go_wp2
            go_quiet (fail)
            go_wp2
            go_roundw
            case rel =>
              refine ⟨j + 1, by push_cast; rfl, hjn, fun k hk => ?_, Sm.below_drewN HBJ.out _⟩
              rcases Nat.lt_succ_iff_lt_or_eq.1 hk with h | h
              · exact HALL.out k h
              · rw [h]; exact HSR.out
            case measure => simp only [intOf]; exact Kp.less hjn
          · have hce := Dk.str_ne hs
            have T1 : ∀ t g, g < 18446744073709551616 → ¬ Kp.Holds (Kp.bods R) t g := fun t g hg hh => by
              have hp := NC.out t g hh
              obtain ⟨-, h1, h2⟩ := hh.one (i := j) (by rw [hp]; exact hjn)
              have h3 := (Kp.look_one h2).1
              rw [h1, NX.out t g hg hh, ← NT.out t g hh, ← LG.out j hjn, ← HRA.out, ← HRB.out] at h3
              exact hs (by
                have : ra.data = rb.data := Array.toList_inj.1 h3
                cases ra; cases rb; exact congrArg ByteArray.mk this.symm)
            have E := Lib.hid (NO.out T1)
            clear hs T1
            go_wp2
            go_quiet (fail)
            go_wp2
            go_ret2
            exact ⟨by rw [E.out]; rfl, Sm.below_drewN (B3.out.trans (HBJ.out.mono hb3s)) _⟩
        · have hji : ¬ (j : Int) < (P : Int) := fun h => hjn (Int.ofNat_lt.1 h)
          obtain rfl : j = P := Nat.le_antisymm hj (Nat.not_lt.1 hjn)
          have hh : Kp.Holds (Kp.bods R) b.data.toList x := Kp.holds_of hR HP.out.symm (Nat.not_lt.1 hn9) hx0 HTL.out fun k hk => by rw [HALL.out k hk]; exact LG.out k hk
          have E := Lib.hid (HH.out.trans (hh.held HXL.out))
          clear hh hbj
          go_wp2_with (go_at_call 40; refine (GE.out _).mono ?_; rintro e w2 ⟨rfl, rfl⟩)
          go_ret2
          exact ⟨by rw [E.out]; rfl, B3.out.trans (HBJ.out.mono hb3s)⟩
end Go.Proofs.Ytmdhnokgjapglaa
