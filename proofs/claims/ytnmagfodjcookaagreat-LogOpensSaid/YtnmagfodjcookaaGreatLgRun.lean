/-
  What acts do to a Log on a disk of the call's own: the records that it has, and what was broken off; a list of texts beside it.
-/
import Derived.Test.YtnmagfodjcookaaGreatLgTwo
import Derived.Test.YtnmagfodjcookaaGreatLgActs
namespace Go.Proofs.YtnmagfodjcookaaGreat
open Go.RowKit
namespace Lg
theorem Rest.fuse {M : Dk.Md} {a : Int} {n : Nat} (h : Rest M a n) {x : Int} (hx : -9223372036854775808 ≤ x ∧ x ≤ 9223372036854775807) : Rest { M with fuse := x } a n :=
  ⟨⟨h.ok.n, h.ok.lasts, h.ok.waits, h.ok.none, hx⟩, h.pos, h.at_, h.on, h.idle, h.good, h.up⟩
theorem Fits.fuse {M : Dk.Md} {a : Int} {n : Nat} {L : Md} (h : Fits M a n L) {x : Int} (hx : -9223372036854775808 ≤ x ∧ x ≤ 9223372036854775807) : Fits { M with fuse := x } a n L := ⟨h.rest.fuse hx, h.ep, h.same⟩
theorem Torn.fuse {M : Dk.Md} {a : Int} {n : Nat} {L : Md} {t : List UInt8} (h : Torn M a n L t) {x : Int} (hx : -9223372036854775808 ≤ x ∧ x ≤ 9223372036854775807) : Torn { M with fuse := x } a n L t :=
  ⟨⟨h.ok.n, h.ok.lasts, h.ok.waits, h.ok.none, hx⟩, h.pos, h.at_, h.off, h.good, h.up, h.ep, h.same, h.le, h.room, h.salt, h.wait⟩
theorem waits_add (L : Md) (M : Dk.Md) (t : List UInt8) : Dk.waits (add L M t).2.1 ≤ Dk.waits M + 32 := by
  unfold add
  split
  · exact Nat.le_add_right _ _
  · split
    · exact Nat.le_add_right _ _
    · split
      · exact Nat.le_add_right _ _
      · have h1 := Kp.waits_save M L.next (lot L t)
        rw [lot_length] at h1
        have h2 := parts_33 (t := t) (by omega)
        split
        · simp only; omega
        · simp only; omega
/-- The records are hv; what was broken off is tt (cut: there is one). -/
structure Run (B : Nat) (w0 w : World) (r : Nat) (fp : Nat → Prop) (M : Dk.Md) (k : Nat) (bl : Nat → Prop) (L : Md) (n : Nat) (hv : List (List UInt8)) (tt : ByteArray) (cut : Bool) (i : Nat) : Prop where
  own : Own B w0 w r fp M k bl L
  ep : L.ep = 7
  salt : L.salt ≤ i
  recs : L.recs = hv
  waits : Dk.waits M ≤ 32
  live : (cut = false ∧ Fits M 0 n L) ∨ (cut = true ∧ Torn M 0 n L tt.data.toList)
section
variable {B : Nat} {w0 w w' : World} {r : Nat} {fp fp' : Nat → Prop} {M M' : Dk.Md} {k : Nat} {bl bl' : Nat → Prop} {L L' : Md} {n : Nat} {hv : List (List UInt8)} {tt : ByteArray} {cut : Bool} {i : Nat}
theorem Run.fit (h : Run B w0 w r fp M k bl L n hv tt cut i) : Fit L M := by
  rcases h.live with ⟨_, e⟩ | ⟨_, e⟩
  · exact e.fit
  · exact e.fit
theorem Run.low (h : Run B w0 w r fp M k bl L n hv tt cut i) (hb : Below w.heap.size w w') : Run B w0 w' r fp M k bl L n hv tt cut i := ⟨h.own.below hb, h.ep, h.salt, h.recs, h.waits, h.live⟩
theorem Run.next (h : Run B w0 w r fp M k bl L n hv tt cut i) : Run B w0 w r fp M k bl L n hv tt cut (i + 1) := ⟨h.own, h.ep, Nat.le_succ_of_le h.salt, h.recs, h.waits, h.live⟩
/-- Blocks of others are turned. -/
theorem Own.other (h : Own B w0 w r fp M k bl L) {f : Nat → Prop} (t : Dk.Turned f w w') (hf : ∀ q, f q → B ≤ q ∧ ¬ fp q ∧ ¬ bl q) : Own B w0 w' r fp M k bl L :=
  ⟨⟨h.disk.disk.keep t (fun q h1 h2 => (hf q h2).2.1 h1), h.disk.high, h.disk.base, h.disk.below.trans (t.below (fun q hq => (hf q hq).1) h.disk.size)⟩, h.at_.keep t.size fun q hq => t.block q (h.at_.lt q hq).2 (fun e => (hf q e).2.2 hq), h.off⟩
theorem Run.other (h : Run B w0 w r fp M k bl L n hv tt cut i) {f : Nat → Prop} (t : Dk.Turned f w w') (hf : ∀ q, f q → B ≤ q ∧ ¬ fp q ∧ ¬ bl q) : Run B w0 w' r fp M k bl L n hv tt cut i := ⟨h.own.other t hf, h.ep, h.salt, h.recs, h.waits, h.live⟩
theorem Run.records (h : Run B w0 w r fp M k bl L n hv tt cut i) {m : Nat} (hm : m = hv.length) :
    Calls Tryz.prog 19 #[.pointer (some ⟨k, 0, none⟩)] w fun e w' => ∃ A c, e = .returned (.slice A m c) ∧ Rows w' A hv ∧ Run B w0 w' r fp M k bl L n hv tt cut i ∧ Below w.heap.size w w' := by
  subst hm
  refine (records_in h.own h.fit h.recs).mono ?_
  rintro e w' ⟨A, c, rfl, _, hr, _, hb⟩
  exact ⟨A, c, rfl, hr, h.low hb, hb⟩
theorem Run.add (h : Run B w0 w r fp M k bl L n hv tt cut i) (hi : i ≤ 60) (t : ByteArray) (ht : t.size ≤ 9223372036854775807) :
    Calls Tryz.prog 10 #[.pointer (some ⟨k, 0, none⟩), .string t] w fun e w' => ∃ (fp' bl' : Nat → Prop) (M' : Dk.Md) (L' : Md) (f : Int), e = .returned (.int .i64 f) ∧ Dk.Turned (fun q => fp q ∨ bl q) w w' ∧ (∀ q, fp' q → fp q ∨ w.heap.size ≤ q) ∧ (∀ q, bl' q → bl q ∨ w.heap.size ≤ q) ∧
      ((f = 0 ∧ Run B w0 w' r fp' M' k bl' L' n (hv ++ [t.data.toList]) tt cut (i + 1)) ∨ (f = 14 ∧ cut = false ∧ Run B w0 w' r fp' M' k bl' L' n hv t true (i + 1)) ∨ (f ≠ 0 ∧ f ≠ 14 ∧ Run B w0 w' r fp' M' k bl' L' n hv tt cut (i + 1))) := by
  have hs : L.salt + 1 < 18446744073709551616 := by have := h.salt; omega
  have h1 : Dk.waits (Lg.add L M t.data.toList).2.1 ≤ Dk.waits M + 32 := waits_add L M t.data.toList
  refine (lgAdd_any h.own h.fit (by have := h.waits; omega) t ht).mono ?_
  rintro e w' ⟨fp', bl', rfl, st⟩
  refine ⟨fp', bl', (Lg.add L M t.data.toList).2.1, (Lg.add L M t.data.toList).1, (Lg.add L M t.data.toList).2.2, rfl, st.turned, st.grown, st.more, ?_⟩
  rcases h.live with ⟨hc, hF⟩ | ⟨hc, hT⟩
  · rcases hF.add t.data.toList hs with ⟨_, e1⟩ | ⟨_, _, e1⟩ | ⟨_, _, M', e1, h2, _, _, _⟩ | ⟨_, _, _, M', e1, h2⟩
    · rw [e1] at st ⊢
      exact .inr (.inr ⟨by show (3 : Int) ≠ 0; decide, by show (3 : Int) ≠ 14; decide, ⟨st.own, h.ep, Nat.le_succ_of_le h.salt, h.recs, h.waits, h.live⟩⟩)
    · rw [e1] at st ⊢
      exact .inr (.inr ⟨by show (6 : Int) ≠ 0; decide, by show (6 : Int) ≠ 14; decide, ⟨st.own, h.ep, Nat.le_succ_of_le h.salt, h.recs, h.waits, h.live⟩⟩)
    · rw [e1] at st ⊢
      refine .inl ⟨rfl, ⟨st.own, h.ep, ?_, ?_, by show Dk.waits M' ≤ 32; rw [h2.rest.waits]; omega, .inl ⟨hc, h2⟩⟩⟩
      · show L.salt + 1 ≤ i + 1
        have := h.salt; omega
      · show L.recs ++ [t.data.toList] = _
        rw [h.recs]
    · rw [e1] at st h1 ⊢
      refine .inr (.inl ⟨rfl, hc, ⟨st.own, h.ep, Nat.le_succ_of_le h.salt, h.recs, ?_, .inr ⟨rfl, h2⟩⟩⟩)
      have h3 : Dk.waits M = 0 := hF.rest.waits
      have h4 : Dk.waits M' ≤ Dk.waits M + 32 := h1
      omega
  · rw [hT.add] at st ⊢
    exact .inr (.inr ⟨by show (11 : Int) ≠ 0; decide, by show (11 : Int) ≠ 14; decide, ⟨st.own, h.ep, Nat.le_succ_of_le h.salt, h.recs, h.waits, h.live⟩⟩)
theorem Run.fuse (h : Run B w0 w r fp M k bl L n hv tt cut i) (x : Int) (hx : -9223372036854775808 ≤ x ∧ x ≤ 9223372036854775807) :
    Calls Tryz.prog 29 #[.pointer (some ⟨r, 0, none⟩), .int .i64 x] w fun e w' => ∃ (fp' : Nat → Prop) (M' : Dk.Md), e = .returned (.tuple #[]) ∧ Run B w0 w' r fp' M' k bl L n hv tt cut (i + 1) ∧ Dk.Turned (fun q => fp q ∨ bl q) w w' ∧ (∀ q, fp' q → fp q ∨ w.heap.size ≤ q) := by
  refine (Dk.fuse_in h.own.disk x hx).mono ?_
  rintro e w' ⟨fp', rfl, st⟩
  refine ⟨fp', _, rfl, ⟨(h.own.act st).own, h.ep, Nat.le_succ_of_le h.salt, h.recs, h.waits, ?_⟩, (h.own.act st).turned, st.grown⟩
  rcases h.live with ⟨hc, hF⟩ | ⟨hc, hT⟩
  · exact .inl ⟨hc, hF.fuse hx⟩
  · exact .inr ⟨hc, hT.fuse hx⟩
/-- A crash: what stands behind it. -/
theorem Run.crash (h : Run B w0 w r fp M k bl L n hv tt cut i) {kv : Value} {keep : List Int} (hk : Dk.IntsAt w kv keep) (hoff : Dk.Off fp kv keep) :
    Calls Tryz.prog 30 #[.pointer (some ⟨r, 0, none⟩), kv] w fun e w' => ∃ (fp' : Nat → Prop) (M' : Dk.Md) (L' : Md), e = .returned (.tuple #[]) ∧ Dk.Own B w0 w' r fp' M' ∧ Fits M' 0 n L' ∧ L'.ep = 7 ∧ L'.salt ≤ i + 1 ∧ (L'.recs = hv ∨ (cut = true ∧ L'.recs = hv ++ [tt.data.toList])) ∧ Dk.Turned fp w w' ∧ (∀ q, fp' q → fp q ∨ w.heap.size ≤ q) := by
  refine (Dk.crash_in h.own.disk (by have := h.waits; omega) hk hoff).mono ?_
  rintro e w' ⟨fp', rfl, st⟩
  rcases h.live with ⟨hc, hF⟩ | ⟨hc, hT⟩
  · exact ⟨fp', _, L, rfl, st.own, hF.crash keep, h.ep, Nat.le_succ_of_le h.salt, .inl h.recs, st.turned, st.grown⟩
  · obtain ⟨L', h1, h2, h3, h4⟩ := hT.crash keep
    refine ⟨fp', _, L', rfl, st.own, h1, h2.trans h.ep, Nat.le_trans h3 (Nat.succ_le_succ h.salt), ?_, st.turned, st.grown⟩
    rcases h4 with e | e
    · exact .inl (e.trans h.recs)
    · exact .inr ⟨hc, by rw [e, h.recs]⟩
/-- What is opened behind a crash. -/
theorem run_open10 {M' : Dk.Md} {L' : Md} (h : Dk.Own B w0 w r fp M') (hF : Fits M' 0 n L') (hep : L'.ep = 7) (hs : L'.salt ≤ i) (hr : L'.recs = hv) (tt' : ByteArray) :
    Calls Tryz.prog 16 #[.pointer (some ⟨r, 0, none⟩), .int .i64 0, .int .i64 (n : Int), .int .u64 7] w fun e w' => ∃ k' bl', e = .returned (.tuple #[.pointer (some ⟨k', 0, none⟩), .int .i64 0]) ∧ Run B w0 w' r fp M' k' bl' L' n hv tt' false i ∧ (∀ q, bl' q → w.heap.size ≤ q) ∧ Below w.heap.size w w' := by
  have h1 := open10_in (ep := 7) h hF.rest (by decide) (L := L') (by have := hF.same; rwa [hep] at this)
  refine h1.mono ?_
  rintro e w' ⟨k', bl', rfl, o, _, hq, hb⟩
  exact ⟨k', bl', rfl, ⟨o, hep, hs, hr, by rw [hF.rest.waits]; omega, .inl ⟨rfl, hF⟩⟩, hq, hb⟩
end
theorem same_true (w : World) (A1 A2 : Option Addr) (c1 c2 m : Nat) (xs : List (List UInt8)) (hm : m = xs.length) (hx : xs.length ≤ 1000000) (h1 : Rows w A1 xs) (h2 : Rows w A2 xs) :
    Calls Tryz.prog 18 #[.slice A1 m c1, .slice A2 m c2] w fun e w' => e = .returned (.bool true) ∧ Below w.heap.size w w' := by
  subst hm
  exact same10_any w A1 A2 c1 c2 xs xs h1 h2 (by omega) (by omega) true (by simp)
end Lg
end Go.Proofs.YtnmagfodjcookaaGreat
