/-
  A Kept on a disk where other sectors may wait: what is seen, as if it were synced; two of them beside one another.
-/
import Derived.Test.YticpllhblgildaaKpRun
namespace Go.Proofs.Yticpllhblgildaa
open Go.RowKit
namespace Kp
theorem last_synced {M : Dk.Md} {i : Nat} (h : i < M.lasts.length) : Dk.last (Dk.synced M) i = Dk.seen M i := by
  rw [Dk.last, Dk.synced, List.getD_eq_getElem?_getD, List.getElem?_map, List.getElem?_range h]; rfl
theorem len_synced (M : Dk.Md) : (Dk.synced M).lasts.length = M.lasts.length := by simp [Dk.synced]
theorem seen_synced {M : Dk.Md} {i : Nat} (h : i < M.lasts.length) : Dk.seen (Dk.synced M) i = Dk.seen M i := by
  rw [Dk.seen_last (by rfl), last_synced h]
theorem act_free {M : Dk.Md} (h : M.fuse < 0) : Dk.act M = (M, true) := by
  unfold Dk.act
  rw [if_neg (by omega), if_neg (by omega)]
theorem ext_md {A B : Dk.Md} (h1 : A.lasts = B.lasts) (h2 : A.W = B.W) (h3 : A.off = B.off) (h4 : A.fuse = B.fuse) : A = B := by
  cases A; cases B; simp_all
/-- Bodies that are written and synced, where no fuse is: only what is seen counts. -/
theorem save_free {M : Dk.Md} {a : Int} {l : List (List UInt8)} (ho : M.off = false) (hf : M.fuse < 0) (hb : ∀ b ∈ l, b.length = 60) (h0 : 0 ≤ a) (hi : a + l.length ≤ M.lasts.length) :
    save M a l = (⟨(List.range M.lasts.length).map fun i => if a.toNat ≤ i ∧ i < a.toNat + l.length then Dk.closed (l.getD (i - a.toNat) []) else Dk.seen M i, fun _ => [], false, M.fuse⟩, 0) := by
  obtain ⟨c, hc, h1, h2, h3⟩ := puts_form l M a ho hb h0 hi
  rcases h3 with ⟨g1, g2, g3, g4⟩ | ⟨_, _, g3⟩
  · have hfu := g4 hf
    have ha := act_free (M := (puts M a l).1) (by rw [hfu]; exact hf)
    have es : Dk.sync (puts M a l).1 = (Dk.synced (puts M a l).1, 0) := by rw [Dk.sync, g3, ha]; simp
    rw [save, if_pos g1, es]
    congr 1
    refine ext_md ?_ rfl g3 hfu
    show (List.range (puts M a l).1.lasts.length).map (Dk.seen (puts M a l).1) = _
    rw [h1]
    refine List.map_congr_left fun i hi' => ?_
    rw [Dk.seen, h2 i, g2]
    by_cases hq : a.toNat ≤ i ∧ i < a.toNat + l.length
    · rw [if_pos hq, if_pos hq]; simp
    · rw [if_neg hq, if_neg hq, Dk.last, h1]; rfl
  · omega
theorem save_synced {M : Dk.Md} {a : Int} {l : List (List UInt8)} (ho : M.off = false) (hf : M.fuse < 0) (hb : ∀ b ∈ l, b.length = 60) (h0 : 0 ≤ a) (hi : a + l.length ≤ M.lasts.length) : save M a l = save (Dk.synced M) a l := by
  rw [save_free ho hf hb h0 hi, save_free (M := Dk.synced M) ho hf hb h0 (by rw [len_synced]; exact hi), len_synced]
  congr 1
  refine ext_md ?_ rfl rfl rfl
  refine List.map_congr_left fun i hi' => ?_
  rw [seen_synced (by simpa using hi')]
/-- It says what is seen. -/
structure Vis (M : Dk.Md) (K : Md) : Prop where
  fits : Fits (Dk.synced M) K
  on : M.off = false
  fuse : M.fuse < 0
theorem Vis.at_ {M : Dk.Md} {K : Md} (h : Vis M K) : 0 ≤ K.from_ ∧ K.from_ + 20 ≤ M.lasts.length := by have := h.fits.at_; rw [len_synced] at this; exact this
theorem Vis.fit {M : Dk.Md} {K : Md} (h : Vis M K) : Fit K M := by
  have f := h.fits.fit
  exact ⟨h.at_, f.next, f.seen, f.gen, f.text, f.none⟩
theorem Vis.sees {M : Dk.Md} {K : Md} (h : Vis M K) : ∀ j, j < 20 → sees M K.from_ j = lastly (Dk.synced M) K.from_ j := fun j hj => by
  have := h.at_
  rw [Kp.sees, lastly, last_synced (by omega)]
theorem Vis.err {M : Dk.Md} {K : Md} (h : Vis M K) : openErr M K.from_ = 0 := by
  rw [openErr, if_neg (by have := h.at_; omega), h.on, bad_congr h.sees, h.fits.good]; rfl
theorem Vis.again {M : Dk.Md} {K : Md} (h : Vis M K) : opened (Kp.sees M K.from_) K.from_ = K := by rw [opened_congr h.sees]; exact h.fits.same.symm
theorem Fits.vis {M : Dk.Md} {K : Md} (h : Fits M K) (hf : M.fuse < 0) : Vis M K := by
  have e : ∀ j, j < 20 → lastly (Dk.synced M) K.from_ j = lastly M K.from_ j := fun j hj => by
    have := h.at_
    rw [lastly, last_synced (by omega), Dk.seen_last (h.idle _)]; rfl
  exact ⟨⟨h.ok.synced, by rw [len_synced]; exact h.at_, h.on, fun _ => rfl, by rw [bad_congr e]; exact h.good, by rw [opened_congr e]; exact h.same⟩, h.on, hf⟩
theorem Fits.other {M M' : Dk.Md} {K : Md} (h : Fits M K) (h1 : M'.Ok) (h2 : M'.lasts.length = M.lasts.length) (h3 : M'.off = false) (h4 : ∀ i, M'.W i = []) (h5 : ∀ j, j < 20 → Dk.last M' (K.from_.toNat + j) = Dk.last M (K.from_.toNat + j)) : Fits M' K := by
  have e : ∀ j, j < 20 → lastly M' K.from_ j = lastly M K.from_ j := h5
  exact ⟨h1, by rw [h2]; exact h.at_, h3, h4, by rw [bad_congr e]; exact h.good, by rw [opened_congr e]; exact h.same⟩
/-- A whole Put: the other sectors are as they were seen. -/
theorem Vis.put {M : Dk.Md} {K : Md} (h : Vis M K) (t : List UInt8) (ht : t.length ≤ 400) (hs : K.seen + 1 < 18446744073709551616) :
    ∃ M', Kp.put K M t = (Kp.made K t, M', 0) ∧ Fits M' (Kp.made K t) ∧ M'.fuse < 0 ∧ M'.lasts.length = M.lasts.length ∧ ∀ i, i < M.lasts.length → ¬ (K.from_.toNat ≤ i ∧ i < K.from_.toNat + 20) → Dk.last M' i = Dk.seen M i := by
  have hat := h.at_
  have hn := h.fits.fit.next
  have hp := parts_le ht
  have hb : K.broken = false := h.fits.live
  have es : Kp.save M (K.from_ + K.next * 10) (bodies t (K.seen + 1)) = Kp.save (Dk.synced M) (K.from_ + K.next * 10) (bodies t (K.seen + 1)) :=
    save_synced h.on h.fuse (bodies_all _ _) (by omega) (by rw [bodies_length]; omega)
  have e0 : ∀ X : Dk.Md, Kp.put K X t = if (Kp.save X (K.from_ + K.next * 10) (bodies t (K.seen + 1))).2 = 0 then (Kp.made K t, (Kp.save X (K.from_ + K.next * 10) (bodies t (K.seen + 1))).1, 0) else ({ K with broken := true }, (Kp.save X (K.from_ + K.next * 10) (bodies t (K.seen + 1))).1, (Kp.save X (K.from_ + K.next * 10) (bodies t (K.seen + 1))).2) := fun X => by
    rw [Kp.put, hb, if_neg (by decide), if_neg (by omega), if_neg (by omega)]; rfl
  have ep : Kp.put K M t = Kp.put K (Dk.synced M) t := by rw [e0, e0, es]
  rcases h.fits.put t hs with ⟨h1, _⟩ | ⟨_, M', e1, h2, h3, h4, h5⟩ | ⟨_, h1, _⟩
  · omega
  · refine ⟨M', ep.trans e1, h2, ?_, h4.trans (len_synced M), fun i hi hno => ?_⟩
    · rw [h3 h.fuse]; exact h.fuse
    · rw [h5 i (by rw [len_synced]; exact hi), if_neg (by omega), last_synced hi]
  · have h6 : (Dk.synced M).fuse < 0 := h.fuse
    omega
theorem Vis.other {M M' : Dk.Md} {K K2 : Md} (h : Vis M K2) (hF : Fits M' K) (hl : M'.lasts.length = M.lasts.length) {a : Nat} (hd : K2.from_.toNat + 20 ≤ a ∨ a + 20 ≤ K2.from_.toNat)
    (h5 : ∀ i, i < M.lasts.length → ¬ (a ≤ i ∧ i < a + 20) → Dk.last M' i = Dk.seen M i) : Fits M' K2 :=
  h.fits.other hF.ok (hl.trans (len_synced M).symm) hF.on hF.idle fun j hj => by
    have := h.at_
    rw [h5 _ (by omega) (by omega), last_synced (by omega)]
section
variable {B : Nat} {w0 w w' : World} {r : Nat} {fp fp' : Nat → Prop} {M M' : Dk.Md} {k : Nat} {K K' : Md}
theorem open_vis (h : Dk.Own B w0 w r fp M) (hF : Vis M K) {a : Int} (ha : K.from_ = a) :
    Calls Try.prog 16 #[.pointer (some ⟨r, 0, none⟩), .int .i64 a] w fun e w' => ∃ k, e = .returned (.tuple #[.pointer (some ⟨k, 0, none⟩), .int .i64 0]) ∧ Own B w0 w' r fp M k K ∧ w.heap.size ≤ k ∧ Below w.heap.size w w' := by
  subst ha
  refine (kpOpen_any h K.from_).mono ?_
  rintro e w' ⟨hb, ⟨he, _⟩ | ⟨_, k, rfl, hat, hk⟩⟩
  · exact absurd hF.err he
  · rw [hF.again] at hat
    exact ⟨k, rfl, ⟨h.low hb, hat, fun e => by have := h.lt k e; omega, Nat.le_trans h.size hk⟩, hk, hb⟩
theorem put_vis (h : Own B w0 w r fp M k K) (hF : Vis M K) (hs : K.seen + 1 < 18446744073709551616) (hw : Dk.waits M ≤ 1000) (t : ByteArray) (ht : t.size ≤ 400) :
    Calls Try.prog 18 #[.pointer (some ⟨k, 0, none⟩), .string t] w fun e w' => ∃ fp' M', e = .returned (.int .i64 0) ∧ Step B w0 w w' r fp fp' M' k (made K t.data.toList) ∧ Fits M' (made K t.data.toList) ∧ M'.fuse < 0 ∧ M'.lasts.length = M.lasts.length ∧
      ∀ i, i < M.lasts.length → ¬ (K.from_.toNat ≤ i ∧ i < K.from_.toNat + 20) → Dk.last M' i = Dk.seen M i := by
  have htl : t.data.toList.length = t.size := by simp
  refine (kpPut_any h hF.fit (by omega) t (by omega)).mono ?_
  rintro e w' ⟨fp', rfl, st⟩
  obtain ⟨M', e1, h2, h3, h4, h5⟩ := hF.put t.data.toList (by omega) hs
  rw [e1] at st ⊢
  exact ⟨fp', M', rfl, st, h2, h3, h4, h5⟩
/-- Another Kept beside it. -/
theorem Own.beside {k2 : Nat} {K2 : Md} (h2 : At w k2 r K2) (hl : B ≤ k2) (hf : ¬ fp k2) (hne : k2 ≠ k) (s : Step B w0 w w' r fp fp' M' k K') : Own B w0 w' r fp' M' k2 K2 :=
  ⟨s.own.disk, (s.turned.block k2 (Sm.lt_of h2) (fun e => by rcases e with e | e; exact hf e; exact hne e)).trans h2, fun e => by
    rcases s.grown k2 e with h | h
    · exact hf h
    · have := Sm.lt_of h2; omega, hl⟩
end
end Kp
end Go.Proofs.Yticpllhblgildaa
