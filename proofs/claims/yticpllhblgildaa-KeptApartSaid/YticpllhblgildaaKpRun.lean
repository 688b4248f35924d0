/-
  What acts do to a Kept on a disk of the call's own: what was put last, and what was broken off.
-/
import Derived.Test.YticpllhblgildaaKpOne
import Derived.Test.YticpllhblgildaaKpActs
namespace Go.Proofs.Yticpllhblgildaa
open Go.RowKit
namespace Kp
theorem Torn.fit {M : Dk.Md} {K : Md} {t : List UInt8} (h : Torn M K t) : Fit K M := by
  have k1 := h.from_next
  have k2 := h.from_seen
  have k3 := h.from_text
  have k4 := h.from_gen
  refine ⟨h.at_, by rw [k1]; exact next_lt _, by rw [k2]; exact greatest_lt _, by rw [k4]; exact Nat.lt_of_le_of_lt (find_le _) (greatest_lt _), by rw [k3]; exact find_len _, fun e => ?_⟩
  rw [k4] at e
  rw [k3]; exact find_none e
theorem Fits.fuse {M : Dk.Md} {K : Md} (h : Fits M K) {n : Int} (hn : -9223372036854775808 ≤ n ∧ n ≤ 9223372036854775807) : Fits { M with fuse := n } K :=
  ⟨⟨h.ok.n, h.ok.lasts, h.ok.waits, h.ok.none, hn⟩, h.at_, h.on, h.idle, h.good, h.same⟩
theorem Torn.fuse {M : Dk.Md} {K : Md} {t : List UInt8} (h : Torn M K t) {n : Int} (hn : -9223372036854775808 ≤ n ∧ n ≤ 9223372036854775807) : Torn { M with fuse := n } K t :=
  ⟨⟨h.ok.n, h.ok.lasts, h.ok.waits, h.ok.none, hn⟩, h.at_, h.off, h.good, h.same, h.le, h.seen, h.wait⟩
/-- What was put last is lt (b: there is one); what was broken off is tt (cut: there is one). -/
structure Run (B : Nat) (w0 w : World) (r : Nat) (fp : Nat → Prop) (M : Dk.Md) (k : Nat) (K : Md) (lt tt : ByteArray) (b cut : Bool) (i : Nat) : Prop where
  own : Own B w0 w r fp M k K
  from_ : K.from_ = 0
  seen : K.seen ≤ i
  text : K.text = lt.data.toList
  gen : decide (0 < K.gen) = b
  waits : Dk.waits M ≤ 9
  live : (cut = false ∧ Fits M K) ∨ (cut = true ∧ Torn M K tt.data.toList)
section
variable {B : Nat} {w0 w w' : World} {r : Nat} {fp : Nat → Prop} {M : Dk.Md} {k : Nat} {K : Md} {lt tt : ByteArray} {b cut : Bool} {i : Nat}
theorem Run.fit (h : Run B w0 w r fp M k K lt tt b cut i) : Fit K M := by
  rcases h.live with ⟨_, e⟩ | ⟨_, e⟩
  · exact e.fit
  · exact e.fit
theorem Run.low (h : Run B w0 w r fp M k K lt tt b cut i) (hb : Below w.heap.size w w') : Run B w0 w' r fp M k K lt tt b cut i := ⟨h.own.below hb, h.from_, h.seen, h.text, h.gen, h.waits, h.live⟩
theorem Run.next (h : Run B w0 w r fp M k K lt tt b cut i) : Run B w0 w r fp M k K lt tt b cut (i + 1) := ⟨h.own, h.from_, Nat.le_succ_of_le h.seen, h.text, h.gen, h.waits, h.live⟩
theorem Run.get (h : Run B w0 w r fp M k K lt tt b cut i) :
    Calls Try.prog 17 #[.pointer (some ⟨k, 0, none⟩)] w fun e w' => e = .returned (.tuple #[.string lt, .bool b]) ∧ Run B w0 w' r fp M k K lt tt b cut i ∧ Below w.heap.size w w' := by
  refine (get_to h.own h.fit h.text h.gen).mono ?_
  rintro e w' ⟨rfl, _, hb⟩
  exact ⟨rfl, h.low hb, hb⟩
theorem Run.put (h : Run B w0 w r fp M k K lt tt b cut i) (hi : i ≤ 60) (t : ByteArray) (ht : t.size ≤ 9223372036854775807) :
    Calls Try.prog 18 #[.pointer (some ⟨k, 0, none⟩), .string t] w fun e w' => ∃ (fp' : Nat → Prop) (M' : Dk.Md) (K' : Md) (f : Int), e = .returned (.int .i64 f) ∧ (∀ q, q < w.heap.size → ¬ fp q → q ≠ k → w'.heap[q]? = w.heap[q]?) ∧ (∀ q, fp' q → fp q ∨ w.heap.size ≤ q) ∧ w.heap.size ≤ w'.heap.size ∧
      ((f = 0 ∧ Run B w0 w' r fp' M' k K' t tt true false (i + 1)) ∨ (f = 14 ∧ cut = false ∧ Run B w0 w' r fp' M' k K' lt t b true (i + 1)) ∨ (f ≠ 0 ∧ f ≠ 14 ∧ Run B w0 w' r fp' M' k K' lt tt b cut (i + 1))) := by
  have hs : K.seen + 1 < 18446744073709551616 := by have := h.seen; omega
  have h1 : Dk.waits (Kp.put K M t.data.toList).2.1 ≤ Dk.waits M + 9 := waits_put K M t.data.toList
  refine (kpPut_any h.own h.fit (by have := h.waits; omega) t ht).mono ?_
  rintro e w' ⟨fp', rfl, st⟩
  have hblk : ∀ q, q < w.heap.size → ¬ fp q → q ≠ k → w'.heap[q]? = w.heap[q]? := fun q h1 h2 h3 => st.turned.block q h1 (fun e => by rcases e with e | e; exact h2 e; exact h3 e)
  refine ⟨fp', (Kp.put K M t.data.toList).2.1, (Kp.put K M t.data.toList).1, (Kp.put K M t.data.toList).2.2, rfl, hblk, st.grown, st.turned.size, ?_⟩
  rcases h.live with ⟨hc, hF⟩ | ⟨hc, hT⟩
  · rcases hF.put t.data.toList hs with ⟨_, e1⟩ | ⟨_, M', e1, h2, _, _, _⟩ | ⟨_, _, M', e1, h2⟩
    · rw [e1] at st ⊢
      exact .inr (.inr ⟨by show (3 : Int) ≠ 0; decide, by show (3 : Int) ≠ 14; decide, ⟨st.own, h.from_, Nat.le_succ_of_le h.seen, h.text, h.gen, h.waits, h.live⟩⟩)
    · rw [e1] at st ⊢
      refine .inl ⟨rfl, ⟨st.own, h.from_, ?_, rfl, decide_eq_true ?_, by rw [h2.waits]; omega, .inl ⟨rfl, h2⟩⟩⟩
      · show K.seen + 1 ≤ i + 1
        have := h.seen; omega
      · show 0 < K.seen + 1
        omega
    · rw [e1] at st h1 ⊢
      refine .inr (.inl ⟨rfl, hc, ⟨st.own, h.from_, Nat.le_succ_of_le h.seen, h.text, h.gen, ?_, .inr ⟨rfl, h2⟩⟩⟩)
      have h3 : Dk.waits M = 0 := hF.waits
      have h4 : Dk.waits M' ≤ Dk.waits M + 9 := h1
      omega
  · rw [hT.put] at st ⊢
    exact .inr (.inr ⟨by show (11 : Int) ≠ 0; decide, by show (11 : Int) ≠ 14; decide, ⟨st.own, h.from_, Nat.le_succ_of_le h.seen, h.text, h.gen, h.waits, h.live⟩⟩)
theorem Run.fuse (h : Run B w0 w r fp M k K lt tt b cut i) (n : Int) (hn : -9223372036854775808 ≤ n ∧ n ≤ 9223372036854775807) :
    Calls Try.prog 20 #[.pointer (some ⟨r, 0, none⟩), .int .i64 n] w fun e w' => ∃ (fp' : Nat → Prop) (M' : Dk.Md), e = .returned (.tuple #[]) ∧ Run B w0 w' r fp' M' k K lt tt b cut (i + 1) := by
  refine (Dk.fuse_in h.own.disk n hn).mono ?_
  rintro e w' ⟨fp', rfl, st⟩
  refine ⟨fp', _, rfl, ⟨(h.own.act st).own, h.from_, Nat.le_succ_of_le h.seen, h.text, h.gen, h.waits, ?_⟩⟩
  rcases h.live with ⟨hc, hF⟩ | ⟨hc, hT⟩
  · exact .inl ⟨hc, hF.fuse hn⟩
  · exact .inr ⟨hc, hT.fuse hn⟩
/-- A crash: what is kept behind it. -/
theorem Run.crash (h : Run B w0 w r fp M k K lt tt b cut i) {kv : Value} {keep : List Int} (hk : Dk.IntsAt w kv keep) (hoff : Dk.Off fp kv keep) :
    Calls Try.prog 21 #[.pointer (some ⟨r, 0, none⟩), kv] w fun e w' => ∃ (fp' : Nat → Prop) (M' : Dk.Md) (K' : Md), e = .returned (.tuple #[]) ∧ Dk.Own B w0 w' r fp' M' ∧ Fits M' K' ∧ K'.from_ = 0 ∧ K'.seen ≤ i + 1 ∧
      ((K'.text = lt.data.toList ∧ decide (0 < K'.gen) = b) ∨ (cut = true ∧ K'.text = tt.data.toList ∧ decide (0 < K'.gen) = true)) := by
  refine (Dk.crash_in h.own.disk (by have := h.waits; omega) hk hoff).mono ?_
  rintro e w' ⟨fp', rfl, st⟩
  rcases h.live with ⟨hc, hF⟩ | ⟨hc, hT⟩
  · exact ⟨fp', _, K, rfl, st.own, hF.crash keep, h.from_, Nat.le_succ_of_le h.seen, .inl ⟨h.text, h.gen⟩⟩
  · obtain ⟨K', h1, h2, h3, h4⟩ := hT.crash keep
    refine ⟨fp', _, K', rfl, st.own, h1, h2.trans h.from_, Nat.le_trans h3 (Nat.succ_le_succ h.seen), ?_⟩
    rcases h4 with ⟨e1, e2⟩ | ⟨e1, e2⟩
    · exact .inl ⟨e1.trans h.text, by rw [e2]; exact h.gen⟩
    · exact .inr ⟨hc, e1, decide_eq_true (by rw [e2]; omega)⟩
/-- What is opened behind a crash. -/
theorem run_open {M' : Dk.Md} {K' : Md} (h : Dk.Own B w0 w r fp M') (hF : Fits M' K') (hf : K'.from_ = 0) (hs : K'.seen ≤ i) {s : ByteArray} {g : Bool} (hst : K'.text = s.data.toList) (hg : decide (0 < K'.gen) = g) (tt' : ByteArray) :
    Calls Try.prog 16 #[.pointer (some ⟨r, 0, none⟩), .int .i64 0] w fun e w' => ∃ k', e = .returned (.tuple #[.pointer (some ⟨k', 0, none⟩), .int .i64 0]) ∧ Run B w0 w' r fp M' k' K' s tt' g false i ∧ Below w.heap.size w w' := by
  refine (open_in h hF hf).mono ?_
  rintro e w' ⟨k', rfl, o, _, hb⟩
  exact ⟨k', rfl, ⟨o, hf, hs, hst, hg, by rw [hF.waits]; omega, .inl ⟨rfl, hF⟩⟩, hb⟩
end
end Kp
end Go.Proofs.Yticpllhblgildaa
