/-
  KeptApart: two records on one disk know nothing of one another; nothing but their places is written.
-/
import Derived.Test.YticpllhblgildaaKpVis
import Derived.Test.YticpllhblgildaaOpenStrs
namespace Go.Proofs.Yticpllhblgildaa
open Go.RowKit
namespace Kp
theorem fits_blank {M : Dk.Md} {a : Int} (h1 : M.Ok) (h2 : 0 ≤ a ∧ a + 20 ≤ M.lasts.length) (h3 : M.off = false) (h4 : ∀ i, M.W i = []) (h5 : ∀ j, j < 20 → Dk.last M (a.toNat + j) = Dk.blank) : Fits M (zero a) := by
  have e : ∀ j, j < 20 → lastly M a j = Dk.blank := h5
  have hl : Dk.lookOf Dk.blank = ([], 0) := by unfold Dk.lookOf; exact if_pos rfl
  refine ⟨h1, h2, h3, h4, ?_, ?_⟩
  · show bad (lastly M a) = false
    rw [bad_congr e, bad, List.any_eq_false]
    intro j _
    rw [hl]; decide
  · show zero a = opened (lastly M a) a
    rw [opened_congr (g := fun _ => Dk.blank) e]
    have hp : place (fun _ => Dk.blank) = List.replicate 20 [] := by rw [place, hl]; rfl
    have h1 : find (List.replicate 20 []) = (([], 0), 0) := by decide +kernel
    have h2 : greatest (List.replicate 20 []) = 0 := by decide +kernel
    rw [opened, hp, h1, h2]; rfl
/-- The disk, marked at two places. -/
def marked (m : List UInt8) : Dk.Md := (Dk.write (Dk.write (Dk.new 50) 22 m).1 49 m).1
theorem write_free {M : Dk.Md} {i : Int} {b : List UInt8} (ho : M.off = false) (hf : M.fuse < 0) (hb : b.length = 64) (h0 : 0 ≤ i ∧ i < M.lasts.length) : Dk.write M i b = (Dk.put M i.toNat b, 0) := by
  have h1 : Dk.there M i = true := Dk.there_iff.2 h0
  rw [Dk.write, ho, h1, hb, act_free hf]; simp
theorem marked_put {m : List UInt8} (h : m.length = 64) : marked m = Dk.put (Dk.put (Dk.new 50) 22 m) 49 m := by
  have h1 := write_free (M := Dk.new 50) (i := 22) rfl (by show (-1 : Int) < 0; omega) h (by simp [Dk.new])
  have h2 := write_free (M := Dk.put (Dk.new 50) 22 m) (i := 49) rfl (by show (-1 : Int) < 0; omega) h (by simp [Dk.new, Dk.put])
  rw [marked, h1]
  exact congrArg Prod.fst h2
theorem marked_seen {m : List UInt8} (h : m.length = 64) {i : Nat} (hi : i < 50) : Dk.seen (marked m) i = if i = 22 ∨ i = 49 then m else Dk.blank := by
  rw [marked_put h]
  have hl : Dk.last (Dk.put (Dk.put (Dk.new 50) 22 m) 49 m) i = Dk.blank := by
    rw [Dk.last]
    show (List.replicate 50 Dk.blank).getD i [] = _
    rw [List.getD_eq_getElem?_getD, List.getElem?_replicate, if_pos hi]; rfl
  have hw : (Dk.put (Dk.put (Dk.new 50) 22 m) 49 m).W i = if i = 22 ∨ i = 49 then [m] else [] := by
    show (if i = 49 then (if i = 22 then [] ++ [m] else []) ++ [m] else (if i = 22 then [] ++ [m] else [])) = _
    by_cases h1 : i = 49
    · rw [if_pos h1, if_neg (by omega), if_pos (.inr h1)]; rfl
    · rw [if_neg h1]
      by_cases h2 : i = 22
      · rw [if_pos h2, if_pos (.inl h2)]; rfl
      · rw [if_neg h2, if_neg (by omega)]
  rw [Dk.seen, hw, hl]
  split <;> rfl
theorem marked_ok {m : List UInt8} : (marked m).Ok := ((Dk.Md.Ok.new (by omega)).write _ _).write _ _
theorem marked_len {m : List UInt8} (h : m.length = 64) : (marked m).lasts.length = 50 := by rw [marked_put h]; simp [Dk.put, Dk.new]
theorem marked_vis {m : List UInt8} (h : m.length = 64) {a : Int} (ha : a = 2 ∨ a = 29) : Vis (marked m) (zero a) := by
  have hl := marked_len h
  refine ⟨fits_blank marked_ok.synced (by rw [len_synced, hl]; omega) (by rw [marked_put h]; rfl) (fun _ => rfl) (fun j hj => ?_), by rw [marked_put h]; rfl, by rw [marked_put h]; show (-1 : Int) < 0; omega⟩
  rw [last_synced (by rw [hl]; omega), marked_seen h (by omega), if_neg (by omega)]
theorem marked_waits (m : List UInt8) : Dk.waits (marked m) ≤ 1000 := by
  have h1 := Dk.waits_write (Dk.new 50) 22 m
  have h2 := Dk.waits_write (Dk.write (Dk.new 50) 22 m).1 49 m
  rw [Dk.waits_new] at h1
  unfold marked
  omega
/-- Two records on one disk. -/
structure Ap (B : Nat) (w0 w : World) (r : Nat) (fp : Nat → Prop) (M : Dk.Md) (a b : Nat) (Ka Kb : Md) (one two : ByteArray) (m : List UInt8) (i : Nat) : Prop where
  ownA : Own B w0 w r fp M a Ka
  ownB : Own B w0 w r fp M b Kb
  ne : a ≠ b
  va : Vis M Ka
  vb : Vis M Kb
  fromA : Ka.from_ = 2
  fromB : Kb.from_ = 29
  seen : Ka.seen ≤ i ∧ Kb.seen ≤ i
  waits : Dk.waits M ≤ 1000
  text : Ka.text = one.data.toList ∧ Kb.text = two.data.toList
  len : M.lasts.length = 50
  rest : ∀ j, j < 50 → ¬ (2 ≤ j ∧ j < 22) → ¬ (29 ≤ j ∧ j < 49) → Dk.seen M j = if j = 22 ∨ j = 49 then m else Dk.blank
section
variable {B : Nat} {w0 w w' : World} {r : Nat} {fp : Nat → Prop} {M : Dk.Md} {a b : Nat} {Ka Kb : Md} {one two : ByteArray} {m : List UInt8} {i : Nat}
theorem Ap.next (h : Ap B w0 w r fp M a b Ka Kb one two m i) : Ap B w0 w r fp M a b Ka Kb one two m (i + 1) :=
  ⟨h.ownA, h.ownB, h.ne, h.va, h.vb, h.fromA, h.fromB, ⟨Nat.le_succ_of_le h.seen.1, Nat.le_succ_of_le h.seen.2⟩, h.waits, h.text, h.len, h.rest⟩
theorem Ap.putA (h : Ap B w0 w r fp M a b Ka Kb one two m i) (hi : i ≤ 60) (t : ByteArray) (ht : t.size ≤ 400) :
    Calls Try.prog 18 #[.pointer (some ⟨a, 0, none⟩), .string t] w fun e w' => ∃ fp' M' K', e = .returned (.int .i64 0) ∧ Ap B w0 w' r fp' M' a b K' Kb t two m (i + 1) := by
  have hs := h.seen
  refine (put_vis h.ownA h.va (by omega) h.waits t ht).mono ?_
  rintro e w' ⟨fp', M', rfl, st, h2, h3, h4, h5⟩
  have hfa := h.fromA
  have hfb := h.fromB
  have hl := h.len
  have hB := h.vb.other h2 h4 (a := Ka.from_.toNat) (.inr (by omega)) h5
  refine ⟨fp', M', _, rfl, ⟨st.own, Own.beside h.ownB.at_ h.ownB.low h.ownB.off (fun e => h.ne e.symm) st, h.ne, h2.vis h3, hB.vis h3, hfa, hfb, ⟨by show Ka.seen + 1 ≤ i + 1; omega, by omega⟩, by rw [h2.waits]; omega, ⟨rfl, h.text.2⟩, h4.trans hl, fun j hj h6 h7 => ?_⟩⟩
  rw [Dk.seen_last (h2.idle j), h5 j (by omega) (by omega)]
  exact h.rest j hj h6 h7
theorem Ap.putB (h : Ap B w0 w r fp M a b Ka Kb one two m i) (hi : i ≤ 60) (t : ByteArray) (ht : t.size ≤ 400) :
    Calls Try.prog 18 #[.pointer (some ⟨b, 0, none⟩), .string t] w fun e w' => ∃ fp' M' K', e = .returned (.int .i64 0) ∧ Ap B w0 w' r fp' M' a b Ka K' one t m (i + 1) := by
  have hs := h.seen
  refine (put_vis h.ownB h.vb (by omega) h.waits t ht).mono ?_
  rintro e w' ⟨fp', M', rfl, st, h2, h3, h4, h5⟩
  have hfa := h.fromA
  have hfb := h.fromB
  have hl := h.len
  have hA := h.va.other h2 h4 (a := Kb.from_.toNat) (.inl (by omega)) h5
  refine ⟨fp', M', _, rfl, ⟨Own.beside h.ownA.at_ h.ownA.low h.ownA.off h.ne st, st.own, h.ne, hA.vis h3, h2.vis h3, hfa, hfb, ⟨by omega, by show Kb.seen + 1 ≤ i + 1; omega⟩, by rw [h2.waits]; omega, ⟨h.text.1, rfl⟩, h4.trans hl, fun j hj h6 h7 => ?_⟩⟩
  rw [Dk.seen_last (h2.idle j), h5 j (by omega) (by omega)]
  exact h.rest j hj h6 h7
end
theorem made60 : madeCells (Value.int .u8 0).cells (60 * 1) = (Lib.byteCells (List.replicate 60 0)).toArray := by kernel_rfl
theorem make60 (wx : World) : (Instr.makeSlice 70 (.int .i64 60) (.int .i64 60)).run Try.prog wx = .ok (.slice (some ⟨wx.heap.size, 0, none⟩) 60 60) (wx.alloc (.cells (Lib.byteCells (List.replicate 60 0)).toArray 5)) := by
  obtain ⟨i0, hi, hz0, hz1, hz2⟩ := info_parts info3_u8
  have h := run_make (P := Try.prog) wx 70 5 i0 (.int .u8 0) Try.underlying70 hi hz0 .i64 .i64 60 60 (by omega) (by omega) (by rw [hz2]; omega) (by omega)
  rw [hz1, show (60 : Int).toNat = 60 from rfl, made60] at h
  exact h
theorem make64 (wx : World) : (Instr.makeSlice 70 (.int .i64 64) (.int .i64 64)).run Try.prog wx = .ok (.slice (some ⟨wx.heap.size, 0, none⟩) 64 64) (wx.alloc (.cells (Lib.byteCells (List.replicate 64 0)).toArray 5)) := by
  obtain ⟨i0, hi, hz0, hz1, hz2⟩ := info_parts info3_u8
  have h := run_make (P := Try.prog) wx 70 5 i0 (.int .u8 0) Try.underlying70 hi hz0 .i64 .i64 64 64 (by omega) (by omega) (by rw [hz2]; omega) (by omega)
  rw [hz1, show (64 : Int).toNat = 64 from rfl, Dk.made64] at h
  exact h
end Kp
set_option maxRecDepth 100000 in
set_option maxHeartbeats 4000000 in
theorem keptapart_any (w : World) (A : Option Addr) (c : Nat) (l : List ByteArray) (hsz : ∀ i, (l.getD i ByteArray.empty).size ≤ 9223372036854775807) (hit : St.strsAt w A l) (hll : l.length ≤ 9223372036854775807) :
    Calls Try.prog 8 #[.slice A l.length c] w fun e w' => e = .returned (.bool true) ∧ Below w.heap.size w w' := by
  have AW := Lib.hid (awake9_any w)
  have HIT := Lib.hid hit
  have HSZ := Lib.hid hsz
  by_cases h60 : 60 < l.length
  · have hi : (60 : Int) < l.length := by omega
    clear hit hsz
    go_enter Try.func8, Try.ntmps8
    go_wp2_with (go_at_call 22; refine AW.out.mono ?_; rintro e w1 ⟨rfl, k1⟩)
    go_ret
    exact ⟨rfl, k1⟩
  have hi : ¬ (60 : Int) < l.length := by omega
  obtain ⟨z6, hz6⟩ : ∃ b : ByteArray, b = ⟨(List.replicate 60 (0 : UInt8)).toArray⟩ := ⟨_, rfl⟩
  have hz6s : z6.size = 60 := by rw [hz6]; rfl
  have hz6l : z6.data.toList = List.replicate 60 0 := by rw [hz6]
  obtain ⟨ml, hml⟩ : ∃ m, m = Dk.closed (List.replicate 60 0) := ⟨_, rfl⟩
  have hml64 : ml.length = 64 := by rw [hml, Dk.closed_length]; rfl
  have CK : Hid (∀ wx : World, Calls Try.prog 33 #[.string z6] wx fun e w' => e = .returned (.tuple #[.string ⟨ml.toArray⟩, .int .i64 0]) ∧ Below wx.heap.size wx w') := fun wx => by rw [hml, ← hz6l]; exact dkClose_ok wx z6 hz6s
  obtain ⟨mk, hmk⟩ : ∃ b : ByteArray, b = ⟨ml.toArray⟩ := ⟨_, rfl⟩
  have hmkl : mk.data.toList = ml := by rw [hmk]
  rw [← hmk] at CK
  have HML := Lib.hid hml64
  have HMK := Lib.hid hmkl
  have HZ6 := Lib.hid hz6
  clear hit hsz hz6 hz6l hml hmk hmkl hz6s hml64
  go_enter Try.func8, Try.ntmps8
  go_upto_region 5 with (go_at_call 22; refine AW.out.mono ?_; rintro e w1 ⟨rfl, k1⟩)
  have ND := Lib.hid (Dk.new_in k1 (Nat.le_refl _) 50 (by omega))
  go_upto_region 6 with (go_at_call 15; refine ND.out.mono ?_; rintro e w2 ⟨r, fp, rfl, o2, -, -⟩)
  go_upto_region 8 with (go_at_call 33; refine (dkClose_bad _ _ (by decide)).mono ?_; rintro e w3 ⟨rfl, rfl⟩)
  have M6 := Kp.make60 w2
  have hcv := Sm.conv_row (l := List.replicate 60 0) (n := 60) (heap_alloc_new w2 (.cells (Lib.byteCells (List.replicate 60 0)).toArray 5)) rfl
  rw [← HZ6.out] at hcv
  have o3 := o2.low ((Below.refl w2.heap.size w2).alloc (Nat.le_refl _) (.cells (Lib.byteCells (List.replicate 60 0)).toArray 5))
  obtain ⟨zc, hzc⟩ : ∃ z, z = (Lib.byteCells (List.replicate 60 0)).toArray := ⟨_, rfl⟩
  rw [← hzc] at M6 hcv o3
  clear hzc
  go_upto_region 9 with (go_at_call 33; refine (CK.out _).mono ?_; rintro e w4 ⟨rfl, k4⟩)
  have o4 := o3.low k4
  clear o3 k4 hcv M6 o2 k1
  have W1 := Lib.hid (Dk.write_in o4 (by rw [Dk.waits_new]; omega) 22 mk)
  clear o4
  go_upto_region 10 with (go_at_call 29; refine W1.out.mono ?_; rintro e w5 ⟨fp5, rfl, st5⟩)
  have W2 := Lib.hid (Dk.write_in st5.own (by have := Dk.waits_write (Dk.new 50) 22 mk.data.toList; rw [Dk.waits_new] at this; omega) 49 mk)
  clear st5
  go_upto_region 11 with (go_at_call 29; refine W2.out.mono ?_; rintro e w6 ⟨fp6, rfl, st6⟩)
  have o6 : Dk.Own w.heap.size w w6 r fp6 (Kp.marked ml) := by
    have := st6.own
    rw [HMK.out] at this
    exact this
  clear st6 W1 W2
  have P1 := Lib.hid (Kp.open_vis o6 (Kp.marked_vis HML.out (a := 2) (.inl rfl)) (a := 2) rfl)
  clear o6
  go_upto_region 12 with (go_at_call 16; refine P1.out.mono ?_; rintro e w7 ⟨a, rfl, o7, -, -⟩)
  have P2 := Lib.hid (Kp.open_vis o7.disk (Kp.marked_vis HML.out (a := 29) (.inr rfl)) (a := 29) rfl)
  have O7 := Lib.hid o7
  clear o7 P1
  go_upto_region 13 with (go_at_call 16; refine P2.out.mono ?_; rintro e w8 ⟨b, rfl, o8, hge, k8⟩)
  have R0 : Hid (Kp.Ap w.heap.size w w8 r fp6 (Kp.marked ml) a b (Kp.zero 2) (Kp.zero 29) ⟨#[]⟩ ⟨#[]⟩ ml 0) :=
    ⟨O7.out.below k8, o8, by have := O7.out.lt; omega, Kp.marked_vis HML.out (.inl rfl), Kp.marked_vis HML.out (.inr rfl), rfl, rfl, ⟨Nat.le_refl _, Nat.le_refl _⟩, Kp.marked_waits ml, ⟨rfl, rfl⟩, Kp.marked_len HML.out, fun j hj _ _ => Kp.marked_seen HML.out hj⟩
  clear o8 hge k8 O7 P2
  go_wp2_with fail
  go_loopw [11, 12, 13] (fun s11 s12 s13 wr => ∃ (i : Nat) (fp1 : Nat → Prop) (M1 : Dk.Md) (Ka Kb : Kp.Md) (one two : ByteArray), s11 = .string one ∧ s12 = .string two ∧ s13 = .int .i64 i ∧ i ≤ l.length ∧ Kp.Ap w.heap.size w wr r fp1 M1 a b Ka Kb one two ml i) (fun _ _ s13 _ => l.length - (intOf s13).toNat)
  case atStart => exact ⟨0, fp6, _, _, _, ⟨#[]⟩, ⟨#[]⟩, rfl, rfl, rfl, Nat.zero_le _, R0.out⟩
  case round =>
    obtain ⟨i, fp1, M1, Ka, Kb, one, two, rfl, rfl, rfl, hil, hrun⟩ := hrel
    have HR := Lib.hid hrun
    clear hrun
    by_cases hlt : i < l.length
    · have hki : (i : Int) < (l.length : Int) := by omega
      have hsuc : IntKind.i64.wrap ((i : Int) + 1) = ((i + 1 : Nat) : Int) := by simp [IntKind.wrap, IntKind.bits, IntKind.signed]; omega
      have HIC : Hid (∀ wx, Below w.heap.size w wx → ∃ gb ob, A = some ⟨gb, ob, none⟩ ∧ wx.cell? ⟨gb, ob + i, none⟩ = some (.string (l.getD i ByteArray.empty))) := fun wx hb => HIT.out.get hb hlt
      obtain ⟨gb, ob, hA, ci⟩ := HIC.out wr HR.out.ownA.disk.below
      have HI2 : Hid (∀ wx, Below w.heap.size w wx → wx.cell? ⟨gb, ob + i, none⟩ = some (.string (l.getD i ByteArray.empty))) := fun wx hb => by
        obtain ⟨g2, o2, h1, h2⟩ := HIC.out wx hb
        rw [hA] at h1; simp only [Option.some.injEq, Addr.mk.injEq, and_true] at h1
        obtain ⟨rfl, rfl⟩ := h1
        exact h2
      subst hA
      clear HIC
      obtain ⟨t, ht⟩ : ∃ t, t = l.getD i ByteArray.empty := ⟨_, rfl⟩
      rw [← ht] at ci HI2
      have htz := HSZ.out i
      rw [← ht] at htz
      clear ht
      by_cases h4 : 400 < t.size
      · have h4i : (400 : Int) < t.size := by omega
        have B1 := Lib.hid HR.out.ownA.disk.below
        go_wp2_with fail
        go_ret
        exact ⟨rfl, B1.out⟩
      · have h4i : ¬ (400 : Int) < t.size := by omega
        by_cases hev : i % 2 = 0
        · have hm : ((i : Nat) : Int).tmod 2 = 0 := by
            have : ((i : Nat) : Int).tmod 2 = ((i % 2 : Nat) : Int) := rfl
            rw [this, hev]; rfl
          have PU := Lib.hid (HR.out.putA (by omega) t (by omega))
          go_upto_region 24 with (go_at_call 18; refine PU.out.mono ?_; rintro e w9 ⟨fp9, M9, K9, rfl, r9⟩)
          have c9 := HI2.out w9 r9.ownA.disk.below
          have R9 := Lib.hid r9
          clear r9 ci
          go_wp2_with fail
          exact ⟨⟨i + 1, fp9, M9, K9, Kb, t, two, rfl, rfl, by push_cast; rfl, by omega, R9.out⟩, by simp only [intOf]; omega⟩
        · have hm : ((i : Nat) : Int).tmod 2 = 1 := by
            have h1 : ((i : Nat) : Int).tmod 2 = ((i % 2 : Nat) : Int) := rfl
            rw [h1, show i % 2 = 1 by omega]; rfl
          have PU := Lib.hid (HR.out.putB (by omega) t (by omega))
          go_upto_region 27 with (go_at_call 18; refine PU.out.mono ?_; rintro e w9 ⟨fp9, M9, K9, rfl, r9⟩)
          have c9 := HI2.out w9 r9.ownA.disk.below
          have R9 := Lib.hid r9
          clear r9 ci
          go_wp2_with fail
          exact ⟨⟨i + 1, fp9, M9, Ka, K9, one, t, rfl, rfl, by push_cast; rfl, by omega, R9.out⟩, by simp only [intOf]; omega⟩
    · have hki : ¬ (i : Int) < (l.length : Int) := by omega
      have P3 := Lib.hid (Kp.open_vis HR.out.ownA.disk HR.out.va HR.out.fromA)
      go_upto_region 29 with (go_at_call 16; refine P3.out.mono ?_; rintro e w9 ⟨k9, rfl, o9, -, -⟩)
      have P4 := Lib.hid (Kp.open_vis o9.disk HR.out.vb HR.out.fromB)
      have O9 := Lib.hid o9
      clear o9 P3
      go_upto_region 30 with (go_at_call 16; refine P4.out.mono ?_; rintro e w10 ⟨k10, rfl, o10, -, kb10⟩)
      have G1 := Lib.hid (Kp.get_to (O9.out.below kb10) HR.out.va.fit HR.out.text.1 rfl)
      have O10 := Lib.hid o10
      clear o10 kb10 P4
      go_upto_region 31 with (go_at_call 17; refine G1.out.mono ?_; rintro e w11 ⟨rfl, o11, kb11⟩)
      have G2 := Lib.hid (Kp.get_to (O10.out.below kb11) HR.out.vb.fit HR.out.text.2 rfl)
      clear o11 kb11 G1
      go_upto_region 32 with (go_at_call 17; refine G2.out.mono ?_; rintro e w12 ⟨rfl, o12, -⟩)
      have D12 := Lib.hid o12.disk
      clear o12 G2
      go_wp2_with fail
      go_loopw [22] (fun s22 wr => ∃ j : Nat, s22 = .int .i64 j ∧ j ≤ 50 ∧ Dk.Own w.heap.size w wr r fp1 M1) (fun s22 _ => 50 - (intOf s22).toNat)
      case atStart => exact ⟨0, rfl, Nat.zero_le _, D12.out⟩
      case round =>
        obtain ⟨j, rfl, hj, hod⟩ := hrel
        have OD := Lib.hid hod
        clear hod
        by_cases hj50 : j < 50
        · have hji : (j : Int) < 50 := by omega
          have hsuc : IntKind.i64.wrap ((j : Int) + 1) = ((j + 1 : Nat) : Int) := by simp [IntKind.wrap, IntKind.bits, IntKind.signed]; omega
          have e1 : Dk.readOf M1 (j : Int) = (Dk.seen M1 j, 0) := by
            rw [Dk.readOf, if_neg (by rw [HR.out.va.on]; decide), if_pos (Dk.there_iff.2 ⟨by omega, by rw [HR.out.len]; omega⟩)]; rfl
          have RD := Lib.hid (Dk.read_in OD.out (j : Int))
          rw [e1] at RD
          obtain ⟨z, hz⟩ : ∃ z : ByteArray, z = ⟨(Dk.seen M1 j).toArray⟩ := ⟨_, rfl⟩
          rw [← hz] at RD
          have HZ := Lib.hid hz
          obtain ⟨zb, hzb⟩ : ∃ z : ByteArray, z = ⟨(List.replicate 64 (0 : UInt8)).toArray⟩ := ⟨_, rfl⟩
          have HZB := Lib.hid hzb
          clear e1 hz hzb
          go_upto_region 36 with (go_at_call 30; refine RD.out.mono ?_; rintro e w13 ⟨rfl, o13, -⟩)
          have O13 := Lib.hid o13
          clear o13 RD
          by_cases c1 : j < 2
          · have HSN := Lib.hid (HR.out.rest j hj50 (by omega) (by omega))
            have zs : z = zb := by rw [HZ.out, HSN.out, if_neg (by omega), HZB.out]; rfl
            subst zs
            have M64 := Kp.make64 w13
            have hcv := Sm.conv_row (l := List.replicate 64 0) (n := 64) (heap_alloc_new w13 (.cells (Lib.byteCells (List.replicate 64 0)).toArray 5)) rfl
            rw [← HZB.out] at hcv
            have O14 := Lib.hid (O13.out.low ((Below.refl w13.heap.size w13).alloc (Nat.le_refl _) (.cells (Lib.byteCells (List.replicate 64 0)).toArray 5)))
            obtain ⟨zc, hzc⟩ : ∃ z, z = (Lib.byteCells (List.replicate 64 0)).toArray := ⟨_, rfl⟩
            rw [← hzc] at M64 hcv O14
            clear hzc
            have f1 : (j : Int) < 2 := by omega
            have b1 : ((j : Int) == 22) = false := beq_eq_false_iff_ne.2 (by omega)
            have b2 : ((j : Int) == 49) = false := beq_eq_false_iff_ne.2 (by omega)
            go_wp2_with fail
            exact ⟨⟨j + 1, by push_cast; rfl, by omega, O14.out⟩, by simp only [intOf]; omega⟩
          have f1 : ¬ (j : Int) < 2 := by omega
          by_cases c2 : j = 22
          · have HSN := Lib.hid (HR.out.rest j hj50 (by omega) (by omega))
            have zs : z = mk := by rw [HZ.out, HSN.out, if_pos (.inl c2), ← HMK.out]
            subst zs
            subst c2
            go_wp2_with fail
            exact ⟨⟨22 + 1, by first | rfl | (push_cast; rfl), by omega, O13.out⟩, by simp only [intOf]; omega⟩
          by_cases c3 : j = 49
          · have HSN := Lib.hid (HR.out.rest j hj50 (by omega) (by omega))
            have zs : z = mk := by rw [HZ.out, HSN.out, if_pos (.inr c3), ← HMK.out]
            subst zs
            subst c3
            go_wp2_with fail
            exact ⟨⟨49 + 1, by first | rfl | (push_cast; rfl), by omega, O13.out⟩, by simp only [intOf]; omega⟩
          have b1 : ((j : Int) == 22) = false := beq_eq_false_iff_ne.2 (by omega)
          have b2 : ((j : Int) == 49) = false := beq_eq_false_iff_ne.2 (by omega)
          by_cases c4 : 22 < j
          · have f2 : (22 : Int) < j := by omega
            by_cases c5 : j < 29
            · have f3 : (j : Int) < 29 := by omega
              have HSN := Lib.hid (HR.out.rest j hj50 (by omega) (by omega))
              have zs : z = zb := by rw [HZ.out, HSN.out, if_neg (by omega), HZB.out]; rfl
              subst zs
              have M64 := Kp.make64 w13
              have hcv := Sm.conv_row (l := List.replicate 64 0) (n := 64) (heap_alloc_new w13 (.cells (Lib.byteCells (List.replicate 64 0)).toArray 5)) rfl
              rw [← HZB.out] at hcv
              have O14 := Lib.hid (O13.out.low ((Below.refl w13.heap.size w13).alloc (Nat.le_refl _) (.cells (Lib.byteCells (List.replicate 64 0)).toArray 5)))
              obtain ⟨zc, hzc⟩ : ∃ z, z = (Lib.byteCells (List.replicate 64 0)).toArray := ⟨_, rfl⟩
              rw [← hzc] at M64 hcv O14
              clear hzc
              go_wp2_with fail
              exact ⟨⟨j + 1, by push_cast; rfl, by omega, O14.out⟩, by simp only [intOf]; omega⟩
            · have f3 : ¬ (j : Int) < 29 := by omega
              go_wp2_with fail
              exact ⟨⟨j + 1, by push_cast; rfl, by omega, O13.out⟩, by simp only [intOf]; omega⟩
          · have f2 : ¬ (22 : Int) < j := by omega
            go_wp2_with fail
            exact ⟨⟨j + 1, by push_cast; rfl, by omega, O13.out⟩, by simp only [intOf]; omega⟩
        · have hji : ¬ (j : Int) < 50 := by omega
          have B1 := Lib.hid OD.out.below
          go_wp2_with fail
          go_ret
          exact ⟨rfl, B1.out⟩
end Go.Proofs.Yticpllhblgildaa
