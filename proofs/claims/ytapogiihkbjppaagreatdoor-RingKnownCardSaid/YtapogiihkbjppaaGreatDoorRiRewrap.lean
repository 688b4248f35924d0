/-
  What ring's Rewrap does, between two rings.
-/
import Derived.Test.YtapogiihkbjppaaGreatDoorRiOpen
namespace Go.Proofs.YtapogiihkbjppaaGreatDoor
open Go.RowKit
namespace Ri
theorem opened_short (k : List UInt8) (x : Se.Env) (about : List UInt8) : (Se.opened k x about).1.length ≤ 8192 := by
  unfold Se.opened
  by_cases hr : x.Right
  · rw [if_pos hr]
    have h2 := hr.2
    generalize Se.tagOf k x about = tg
    by_cases ht : x.tag = tg
    · rw [if_pos ht]
      show (Se.strm _ _ _ _).length ≤ _
      rw [Se.strm_length, Array.length_toList]
      exact h2
    · rw [if_neg ht]
      exact Nat.zero_le _
  · rw [if_neg hr]
    exact Nat.zero_le _
theorem opens_short {M : List UInt8} {cur : Int} {b : ByteArray} {about : List UInt8} : (opens M cur b about).1.length ≤ 8192 := by
  unfold opens
  generalize Se.read b = q
  by_cases h0 : q.2 = 0
  · rw [if_pos h0]
    by_cases hk : q.1.key ≤ cur
    · rw [if_pos hk]
      exact opened_short _ _ _
    · rw [if_neg hk]
      exact Nat.zero_le _
  · rw [if_neg h0]
    exact Nat.zero_le _
end Ri

set_option maxRecDepth 100000 in
theorem rgRewrap_none {w : World} {v v' : Value} (h : Ri.None w v) (b about other : ByteArray) :
    Calls Tryz.prog 23 #[v, .string b, .string about, v', .string other] w fun e w' => e = .returned (.tuple #[.string ⟨#[]⟩, .int .i64 2]) ∧ w = w' := by
  have NO := Lib.hid (rgNone_is h)
  clear h
  go_enter Tryz.func23, Tryz.ntmps23
  go_wp2_with fail
  refine (NO.out).mono ?_
  rintro e w1 ⟨rfl, rfl⟩
  go_wp2_with fail
  refine bodyPost_ret (results_tmp2 rfl _ _ _) rfl ?_
  exact ⟨rfl, rfl⟩

set_option maxRecDepth 100000 in
theorem rgRewrap_tonone {w : World} {r m : Nat} {M : ByteArray} {boot n : Nat} {cur : Int} (h : Ri.RingAt w r m M boot n cur) {v' : Value} (h' : Ri.None w v') (b about other : ByteArray) :
    Calls Tryz.prog 23 #[.pointer (some ⟨r, 0, none⟩), .string b, .string about, v', .string other] w fun e w' => e = .returned (.tuple #[.string ⟨#[]⟩, .int .i64 2]) ∧ w = w' := by
  have NO := Lib.hid (rgNone_not h)
  have NO' := Lib.hid (rgNone_is h')
  clear h h'
  go_enter Tryz.func23, Tryz.ntmps23
  go_wp2_with fail
  refine (NO.out).mono ?_
  rintro e w1 ⟨rfl, rfl⟩
  go_wp2_with fail
  refine (NO'.out).mono ?_
  rintro e w1 ⟨rfl, rfl⟩
  go_wp2_with fail
  refine bodyPost_ret (results_tmp2 rfl _ _ _) rfl ?_
  exact ⟨rfl, rfl⟩

set_option maxRecDepth 100000 in
set_option maxHeartbeats 1000000 in
theorem rgRewrap_bad {w : World} (hH : Sm.HAt w) (hK : Sm.KAt w) {r m : Nat} {M : ByteArray} (hM : M.size ≤ 1152921504606846976) {boot n : Nat} {cur : Int} (h : Ri.RingAt w r m M boot n cur)
    {r' m' : Nat} {M' : ByteArray} {boot' n' : Nat} {cur' : Int} (h' : Ri.RingAt w r' m' M' boot' n' cur') (b about other : ByteArray) (hbs : b.size ≤ 281474976710656) (ha : about.size ≤ 1099511627776)
    {f : Nat} (hf : f = (Ri.opens M.data.toList cur b about.data.toList).2) (h0 : f ≠ 0) :
    Calls Tryz.prog 23 #[.pointer (some ⟨r, 0, none⟩), .string b, .string about, .pointer (some ⟨r', 0, none⟩), .string other] w fun e w' =>
      e = .returned (.tuple #[.string ⟨#[]⟩, .int .i64 f]) ∧ Ri.RingAt w' r m M boot n cur ∧ Ri.Turned w w' r m := by
  have NO := Lib.hid (rgNone_not h)
  have NO' := Lib.hid (rgNone_not h')
  have OP := Lib.hid (rgOpen_any hH hK hM h b about hbs ha)
  have HF := Lib.hid hf
  have h1 : ((f : Int) != 0) = true := by rw [bne_iff_ne]; omega
  clear h h' hH hK hf
  go_enter Tryz.func23, Tryz.ntmps23
  go_wp2_with fail
  refine (NO.out).mono ?_
  rintro e w1 ⟨rfl, rfl⟩
  go_wp2_with fail
  refine (NO'.out).mono ?_
  rintro e w1 ⟨rfl, rfl⟩
  go_wp2_with fail
  refine (OP.out).mono ?_
  rintro e w2 ⟨he, ra2, tu2⟩
  rw [← HF.out] at he
  subst he
  have RA2 := Lib.hid ra2
  have TU2 := Lib.hid tu2
  clear ra2 tu2 OP NO NO'
  go_wp2_with fail
  refine bodyPost_ret (results_tmp2 rfl _ _ _) rfl ?_
  exact ⟨rfl, RA2.out, TU2.out⟩

set_option maxRecDepth 100000 in
set_option maxHeartbeats 1000000 in
theorem rgRewrap_good {w : World} (hH : Sm.HAt w) (hK : Sm.KAt w) {r m : Nat} {M : ByteArray} (hM : M.size ≤ 1152921504606846976) {boot n : Nat} {cur : Int} (h : Ri.RingAt w r m M boot n cur)
    {r' m' : Nat} {M' : ByteArray} (hM' : M'.size ≤ 1152921504606846976) {boot' n' : Nat} {cur' : Int} (h' : Ri.RingAt w r' m' M' boot' n' cur') (hrr : r ≠ r') (hmm : m ≠ m')
    (hc' : 0 ≤ cur' ∧ cur' ≤ 1048576) (hb' : boot' < 2 ^ 32) (hn' : n' + 1 < 2 ^ 64) (b about other : ByteArray) (hbs : b.size ≤ 281474976710656) (ha : about.size ≤ 1099511627776) (ho : other.size ≤ 1099511627776)
    {t : List UInt8} (hf : Ri.opens M.data.toList cur b about.data.toList = (t, 0)) :
    Calls Tryz.prog 23 #[.pointer (some ⟨r, 0, none⟩), .string b, .string about, .pointer (some ⟨r', 0, none⟩), .string other] w fun e w' =>
      e = .returned (.tuple #[.string ⟨(Ri.wrap M'.data.toList cur' boot' n' other.data.toList t).1.toArray⟩, .int .i64 0]) ∧ Ri.RingAt w' r m M boot n cur ∧ Ri.RingAt w' r' m' M' boot' (n' + 1) cur' ∧
        ∀ B, B ≤ r → B ≤ m → B ≤ r' → B ≤ m' → B ≤ w.heap.size → Below B w w' := by
  have hts : t.length ≤ 8192 := by
    have q := Ri.opens_short (M := M.data.toList) (cur := cur) (b := b) (about := about.data.toList)
    rw [hf] at q
    exact q
  have h22 := h.two hH hK
  have h22' := h'.two hH hK
  have hsz2 : 2 ≤ w.heap.size := by have := h.lt.1; omega
  have NO := Lib.hid (rgNone_not h)
  have NO' := Lib.hid (rgNone_not h')
  have OP := Lib.hid (rgOpen_any hH hK hM h b about hbs ha)
  obtain ⟨tx, htx⟩ : ∃ x : ByteArray, x = ⟨t.toArray⟩ := ⟨_, rfl⟩
  have htl : tx.data.toList = t := by rw [htx]
  have hxs : tx.size ≤ 8192 := by rw [htx]; show t.toArray.size ≤ _; rw [List.size_toArray]; exact hts
  have WR : Hid (∀ wx : World, Sm.HAt wx → Sm.KAt wx → Ri.RingAt wx r' m' M' boot' n' cur' → Calls Tryz.prog 11 #[.pointer (some ⟨r', 0, none⟩), .string other, .string tx] wx (Ri.WrapPost wx r' m' M' boot' n' cur' other.data.toList t)) := fun wx a b c => by
    have q := rgWrap_any a b hM' c hc' hb' hn' other tx ho hxs
    rw [htl] at q
    exact q
  have HF := Lib.hid hf
  have HTX := Lib.hid htx
  have H := Lib.hid h
  have H' := Lib.hid h'
  have HH := Lib.hid hH
  have HK := Lib.hid hK
  clear h h' hH hK hf htx htl hxs
  go_enter Tryz.func23, Tryz.ntmps23
  go_wp2_with fail
  refine (NO.out).mono ?_
  rintro e w1 ⟨rfl, rfl⟩
  go_wp2_with fail
  refine (NO'.out).mono ?_
  rintro e w1 ⟨rfl, rfl⟩
  go_wp2_with fail
  refine (OP.out).mono ?_
  rintro e w2 ⟨he, ra2, tu2⟩
  rw [HF.out, ← HTX.out] at he
  subst he
  have RA2 := Lib.hid ra2
  have RA2' := Lib.hid (H'.out.other H.out tu2 (Ne.symm hrr) (Ne.symm hmm))
  have TU2 := Lib.hid tu2
  clear ra2 tu2 OP NO NO'
  go_wp2_with fail
  refine (WR.out _ (HH.out.low (TU2.out.low h22 hsz2) (by decide)) (HK.out.low (TU2.out.low h22 hsz2) (by decide)) RA2'.out).mono ?_
  rintro e w3 ⟨rfl, ra3, tu3⟩
  have RA3 := Lib.hid (RA2.out.other RA2'.out tu3 hrr hmm)
  have RA3' := Lib.hid ra3
  have TU3 := Lib.hid tu3
  clear ra3 tu3 WR
  go_wp2_with fail
  refine bodyPost_ret (results_tmp2 rfl _ _ _) rfl ?_
  exact ⟨rfl, RA3.out, RA3'.out, fun B h1 h2 h3 h4 h5 => (TU2.out.below h1 h2 h5).trans (TU3.out.below h3 h4 (Nat.le_trans h5 TU2.out.size))⟩

namespace Ri
/-- What Rewrap answers between two rings, whatever the bytes. -/
def RewrapPost (w : World) (r m : Nat) (M : ByteArray) (boot n : Nat) (cur : Int) (r' m' : Nat) (M' : ByteArray) (boot' n' : Nat) (cur' : Int) (f : Nat) (e : Ending) (w' : World) : Prop :=
  ∃ (s : ByteArray) (k : Nat), e = .returned (.tuple #[.string s, .int .i64 f]) ∧ (f ≠ 0 → s = ⟨#[]⟩ ∧ k = n') ∧ RingAt w' r m M boot n cur ∧ RingAt w' r' m' M' boot' k cur' ∧ ∀ B, B ≤ r → B ≤ m → B ≤ r' → B ≤ m' → B ≤ w.heap.size → Below B w w'
end Ri
theorem rgRewrap_any {w : World} (hH : Sm.HAt w) (hK : Sm.KAt w) {r m : Nat} {M : ByteArray} (hM : M.size ≤ 1152921504606846976) {boot n : Nat} {cur : Int} (h : Ri.RingAt w r m M boot n cur)
    {r' m' : Nat} {M' : ByteArray} (hM' : M'.size ≤ 1152921504606846976) {boot' n' : Nat} {cur' : Int} (h' : Ri.RingAt w r' m' M' boot' n' cur') (hrr : r ≠ r') (hmm : m ≠ m')
    (hc' : 0 ≤ cur' ∧ cur' ≤ 1048576) (hb' : boot' < 2 ^ 32) (hn' : n' + 1 < 2 ^ 64) (b about other : ByteArray) (hbs : b.size ≤ 281474976710656) (ha : about.size ≤ 1099511627776) (ho : other.size ≤ 1099511627776)
    {t : List UInt8} {f : Nat} (hf : Ri.opens M.data.toList cur b about.data.toList = (t, f)) :
    Calls Tryz.prog 23 #[.pointer (some ⟨r, 0, none⟩), .string b, .string about, .pointer (some ⟨r', 0, none⟩), .string other] w (Ri.RewrapPost w r m M boot n cur r' m' M' boot' n' cur' f) := by
  by_cases h0 : f = 0
  · subst h0
    refine (rgRewrap_good hH hK hM h hM' h' hrr hmm hc' hb' hn' b about other hbs ha ho hf).mono ?_
    rintro e w' ⟨h1, h2, h3, h4⟩
    exact ⟨_, _, h1, fun q => absurd rfl q, h2, h3, h4⟩
  · refine (rgRewrap_bad hH hK hM h h' b about other hbs ha (by rw [hf]) h0).mono ?_
    rintro e w' ⟨h1, h2, h3⟩
    exact ⟨_, _, h1, fun _ => ⟨rfl, rfl⟩, h2, h'.other h h3 (Ne.symm hrr) (Ne.symm hmm), fun B b1 b2 _ _ b5 => h3.below b1 b2 b5⟩
end Go.Proofs.YtapogiihkbjppaaGreatDoor
