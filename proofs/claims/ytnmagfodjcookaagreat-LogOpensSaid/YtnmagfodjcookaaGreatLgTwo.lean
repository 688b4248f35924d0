/-
  Texts that belong together, laid into one.
-/
import Derived.Test.YtnmagfodjcookaaGreatPtOne
import Derived.Test.YtnmagfodjcookaaGreatLgDisk
import Derived.Test.YtnmagfodjcookaaGreatDkTwo
import Derived.Test.YtnmagfodjcookaaGreatPtSave
import Derived.Test.YtnmagfodjcookaaGreatDkClose
import Derived.Test.YtnmagfodjcookaaGreatLgOwn
import Derived.Test.YtnmagfodjcookaaGreatShelf
import Derived.Test.YtnmagfodjcookaaGreatDkLook
import Derived.Test.YtnmagfodjcookaaGreatDkAwake
import Derived.StillTailTactics
/-
  What parts' Read takes from a disk.
-/
namespace Go.Proofs.YtnmagfodjcookaaGreat
open Go.RowKit
namespace Kp
open Dk (lookOf)
theorem look_bod (l : List UInt8) : Bod (lookOf l).1 := by
  unfold lookOf
  split
  · exact .inr rfl
  · split
    · rename_i h
      left
      rw [List.length_take]
      omega
    · exact .inr rfl
theorem look_num (l : List UInt8) : (lookOf l).2 = 0 ∨ (lookOf l).2 = 1 ∨ (lookOf l).2 = 2 := by
  unfold lookOf
  split
  · exact .inl rfl
  · split
    · exact .inr (.inl rfl)
    · exact .inr (.inr rfl)
end Kp
namespace Lg
open Dk (lookOf)
def readErr (M : Dk.Md) (a : Int) (n : Nat) : Int := if M.off then 14 else if bad n (Kp.sees M a) then 9 else 0
theorem place_next {n : Nat} (f : Nat → List UInt8) {k : Nat} (h : k < n) : (place n f).take (k + 1) = (place n f).take k ++ [(lookOf (f k)).1] := by
  rw [List.take_succ_eq_append_getElem (by rw [place_length]; exact h)]
  simp [place]
theorem bad_at {n : Nat} {f : Nat → List UInt8} {k : Nat} (h : k < n) (h2 : (lookOf (f k)).2 = 2) : bad n f = true := by
  rw [bad, List.any_eq_true]
  exact ⟨k, by simpa using h, by simpa using h2⟩
theorem bad_none {n : Nat} {f : Nat → List UInt8} (h : ∀ j, j < n → (lookOf (f j)).2 ≠ 2) : bad n f = false := by
  rw [bad, List.any_eq_false]
  intro j hj
  simpa using h j (by simpa using hj)
theorem place_bod (n : Nat) (f : Nat → List UInt8) : ∀ b ∈ place n f, Kp.Bod b := by
  intro b hb
  simp only [place, List.mem_map, List.mem_range] at hb
  obtain ⟨j, _, rfl⟩ := hb
  exact Kp.look_bod _
end Lg
set_option maxRecDepth 100000 in
set_option maxHeartbeats 1000000 in
theorem ptRead_any {B : Nat} {w0 w : World} {r : Nat} {fp : Nat → Prop} {M : Dk.Md} (h : Dk.Own B w0 w r fp M) (a : Int) (n : Nat) (hn1 : 1 ≤ n) (ha : 0 ≤ a) (hn : a + n ≤ M.lasts.length) :
    Calls Tryz.prog 41 #[.pointer (some ⟨r, 0, none⟩), .int .i64 a, .int .i64 (n : Int)] w fun e w' => Below w.heap.size w w' ∧ ∃ v, e = .returned (.tuple #[v, .int .i64 (Lg.readErr M a n)]) ∧
      (Lg.readErr M a n = 0 → ∃ A c, v = .slice A n c ∧ n ≤ c ∧ Kp.StrsAt w' A (Lg.place n (Kp.sees M a))) := by
  obtain ⟨i0, hie, hz0, hz1, hz2⟩ := info_parts Dk.info3_str
  have hok := h.disk.ok
  have hM := hok.n
  have RD : Hid (∀ (i : Int) (wx : World), Below w.heap.size w wx → Calls Tryz.prog 70 #[.pointer (some ⟨r, 0, none⟩), .int .i64 i] wx fun e w' => e = .returned (.tuple #[.string ⟨(Dk.readOf M i).1.toArray⟩, .int .i64 (Dk.readOf M i).2]) ∧ Below wx.heap.size wx w') := fun i wx hwx => by
    refine (Dk.read_in (h.low hwx) i).mono ?_
    rintro e w' ⟨rfl, -, hb⟩
    exact ⟨rfl, hb⟩
  obtain ⟨E, hE⟩ : ∃ E, E = Lg.readErr M a n := ⟨_, rfl⟩
  obtain ⟨L, hL⟩ : ∃ L, L = Lg.place n (Kp.sees M a) := ⟨_, rfl⟩
  have LL : Hid (L.length = n) := by show L.length = n; rw [hL]; exact Lg.place_length _ _
  have LK : Hid (∀ k, k < n → L.take (k + 1) = L.take k ++ [(Dk.lookOf (Kp.sees M a k)).1]) := fun k hk => by rw [hL]; exact Lg.place_next _ hk
  rw [← hE, ← hL]
  have HE := Lib.hid hE
  clear h hE hL
  go_enter Tryz.func41, Tryz.ntmps41
  go_wp2
  go_loopw [8, 15] (fun s8 s15 wr => ∃ k : Nat, s15 = .int .i64 k ∧ k ≤ n ∧ (k = 0 ∨ M.off = false) ∧ (∀ j, j < k → (Dk.lookOf (Kp.sees M a j)).2 ≠ 2) ∧ wr.ownsRow w.heap.size 9 1 s8 (L.take k).length ((L.take k).map Dk.txt) ∧ Below w.heap.size w wr) (fun _ s15 _ => n - (intOf s15).toNat)
  case atStart => exact ⟨0, rfl, Nat.zero_le _, .inl rfl, fun j hj => by omega, World.ownsRow_nil _ _ _ _, Below.refl _ _⟩
  case round =>
    obtain ⟨k, rfl, hk, hoff, hall, hown, hbl⟩ := hrel
    obtain ⟨Av, cv, hv⟩ := Sm.own_shape hown
    subst hv
    have HO := Lib.hid hown
    have HALL := Lib.hid hall
    have HBL := Lib.hid hbl
    clear hown hall
    by_cases hlt : k < n
    · have hki : (k : Int) < (n : Int) := by omega
      have hsuc : IntKind.i64.wrap ((k : Int) + 1) = ((k + 1 : Nat) : Int) := by simp [IntKind.wrap, IntKind.bits, IntKind.signed]; omega
      have hat : IntKind.i64.wrap (a + (k : Int)) = a + (k : Int) := IntWalk.i64_in _ (by omega)
      have hln : (L.take k).length = k := by rw [List.length_take, LL.out]; omega
      rw [hln] at HO ⊢
      have RDK := Lib.hid (RD.out (a + (k : Int)) wr hbl)
      by_cases hof : M.off = true
      · have e1 : Dk.readOf M (a + (k : Int)) = ([], 14) := by rw [Dk.readOf, if_pos hof]
        have e2 : E = 14 := by rw [HE.out, Lg.readErr, if_pos hof]
        rw [e1] at RDK
        subst e2
        clear hbl e1
        go_wp2_with (go_at_call 70; refine RDK.out.mono ?_; rintro e w2 ⟨rfl, k2⟩)
        go_ret2
        exact ⟨HBL.out.trans (k2.mono HBL.out.size), _, rfl, fun h => by cases h⟩
      · have hof2 : M.off = false := by simpa using hof
        have e1 : Dk.readOf M (a + (k : Int)) = (Kp.sees M a k, 0) := by
          rw [Dk.readOf, if_neg hof, if_pos (Dk.there_iff.2 ⟨by omega, by omega⟩), Kp.sees, show (a + (k : Int)).toNat = a.toNat + k by omega]
        rw [e1] at RDK
        obtain ⟨s, hs⟩ : ∃ s : ByteArray, s = ⟨(Kp.sees M a k).toArray⟩ := ⟨_, rfl⟩
        have hsl : s.data.toList = Kp.sees M a k := by rw [hs]
        have LO : Hid (∀ wx : World, Calls Tryz.prog 71 #[.string s] wx fun e w' => e = .returned (.tuple #[.string ⟨(Dk.lookOf (Kp.sees M a k)).1.toArray⟩, .int .i64 (Dk.lookOf (Kp.sees M a k)).2]) ∧ Below wx.heap.size wx w') := fun wx => by rw [← hsl]; exact dkLook_any wx s
        obtain ⟨b, hb⟩ : ∃ b : ByteArray, b = ⟨(Dk.lookOf (Kp.sees M a k)).1.toArray⟩ := ⟨_, rfl⟩
        obtain ⟨st, hn2⟩ : ∃ n, n = (Dk.lookOf (Kp.sees M a k)).2 := ⟨_, rfl⟩
        rw [← hs] at RDK
        rw [← hb, ← hn2] at LO
        have HB := Lib.hid hb
        have HN := Lib.hid hn2
        have NX := Lib.hid (LK.out k hlt)
        clear e1 hs hsl hb hn2 hbl
        by_cases h2 : st = 2
        · have e2 : E = 9 := by rw [HE.out, Lg.readErr, if_neg hof, if_pos (Lg.bad_at hlt (HN.out.symm.trans h2))]
          subst e2
          subst h2
          go_wp2_with (first
            | (go_at_call 70; refine RDK.out.mono ?_; rintro e w2 ⟨rfl, k2⟩)
            | (go_at_call 71; refine (LO.out _).mono ?_; rintro e w3 ⟨rfl, k3⟩))
          go_ret2
          exact ⟨HBL.out.trans ((k2.trans (k3.mono k2.size)).mono HBL.out.size), _, rfl, fun h => by cases h⟩
        · have hws := HBL.out.size
          go_wp2_with (first
            | (go_at_call 70; refine RDK.out.mono ?_; rintro e w2 ⟨rfl, k2⟩)
            | (go_at_call 71; refine (LO.out _).mono ?_; rintro e w3 ⟨rfl, k3⟩)
            | (at_builtin
               refine wpList_append_own _ rfl _ _ 30 rfl w.heap.size 9 i0 (.string ⟨#[]⟩) 1 16 Tryz.underlying30 hie hz0 hz1 hz2 rfl (by decide) _ _ _ rfl ((Dk.own_block (Dk.own_block HO.out (fun q hq => k2.block q (Dk.own_blk HO.out hq).2.1)) (fun q hq => k3.block q (by have := (Dk.own_blk HO.out hq).2.1; have := k2.size; omega))).alloc _) ⟨w3.heap.size, 0, none⟩ 1 1 [.string b] rfl rfl (Dk.new_text _ _) (by intro u hu; simp at hu; subst hu; rfl) (by unfold maxLen; omega) (by omega) (by have := k2.size; have := k3.size; simp; omega) ?_
               intro v' w5 hown' hgrow _))
          have hge : ∀ q, (Value.slice Av k cv).ownBlock = some q → w.heap.size ≤ q := fun q hq => (Dk.own_blk HO.out hq).1
          have b3 : Below w.heap.size w w3 := HBL.out.trans ((k2.trans (k3.mono k2.size)).mono HBL.out.size)
          have hb5 : Below w.heap.size w w5 := (b3.alloc b3.size _).grown hgrow (by have := b3.size; simp; omega) hge
          have hl5 : (L.take (k + 1)).length = k + 1 := by rw [List.length_take, LL.out]; omega
          have ho5 : w5.ownsRow w.heap.size 9 1 v' (L.take (k + 1)).length ((L.take (k + 1)).map Dk.txt) := by
            rw [hl5, NX.out, List.map_append, List.map_cons, List.map_nil, show Dk.txt (Dk.lookOf (Kp.sees M a k)).1 = .string b from congrArg Value.string HB.out.symm]
            exact hown'
          refine ⟨⟨k + 1, by push_cast; rfl, by omega, .inr hof2, fun j hj => ?_, ho5, hb5⟩, by simp only [intOf]; omega⟩
          by_cases hjk : j = k
          · rw [hjk, ← HN.out]; exact h2
          · exact HALL.out j (by omega)
    · have hki : ¬ (k : Int) < (n : Int) := by omega
      have hk20 : k = n := by omega
      subst hk20
      have hof : M.off = false := by rcases hoff with h | h; omega; exact h
      have hE0 : E = 0 := by rw [HE.out, Lg.readErr, hof, Lg.bad_none HALL.out]; rfl
      have htk : L.take k = L := List.take_of_length_le (by rw [LL.out]; omega)
      rw [htk] at HO ⊢
      have hne : L ≠ [] := fun e => by have := LL.out; rw [e] at this; simp at this; omega
      obtain ⟨A', c', e1, hcap, hs, -⟩ := Kp.StrsAt.of_own HO.out hne
      simp only [Value.slice.injEq] at e1
      obtain ⟨rfl, -, rfl⟩ := e1
      rw [LL.out] at hcap
      rw [LL.out]
      have HS := Lib.hid hs
      have HCP := Lib.hid hcap
      subst hE0
      clear hs hcap hoff hne htk
      go_wp2
      go_ret2
      exact ⟨HBL.out, _, rfl, _, _, rfl, HCP.out, HS.out⟩
end Go.Proofs.YtnmagfodjcookaaGreat

/-
  What parts' Write does.
-/
namespace Go.Proofs.YtnmagfodjcookaaGreat
open Go.RowKit
namespace Pt
open Kp (puts save puts_append puts_stop)
theorem puts_take {M : Dk.Md} {a : Int} {l : List (List UInt8)} {i : Nat} (h : i < l.length) (h0 : (puts M a (l.take i)).2 = 0) :
    puts M a (l.take (i + 1)) = (let q := Dk.write (puts M a (l.take i)).1 (a + (i : Int)) (Dk.closed (l.getD i [])); if q.2 = 0 then (q.1, 0) else q) := by
  have hl : (l.take i).length = i := by rw [List.length_take]; omega
  have e : l.take (i + 1) = l.take i ++ [l.getD i []] := by
    rw [List.take_succ_eq_append_getElem h, List.getD_eq_getElem?_getD, List.getElem?_eq_getElem h]; rfl
  rw [e, puts_append _ _ _ _ h0, hl, puts, puts]
theorem puts_stopped {M : Dk.Md} {a : Int} {l : List (List UInt8)} {i : Nat} (h0 : (puts M a (l.take (i + 1))).2 ≠ 0) : save M a l = puts M a (l.take (i + 1)) := by
  have e : l = l.take (i + 1) ++ l.drop (i + 1) := (List.take_append_drop _ _).symm
  have h1 : puts M a l = puts M a (l.take (i + 1)) := by
    conv => lhs; rw [e]
    exact puts_stop _ _ _ _ h0
  rw [save, h1, if_neg h0]
theorem saved {M : Dk.Md} {a : Int} {l : List (List UInt8)} (h0 : (puts M a l).2 = 0) : save M a l = Dk.sync (puts M a l).1 := by rw [save, if_pos h0]
end Pt
set_option maxRecDepth 100000 in
set_option maxHeartbeats 2000000 in
theorem ptWrite_any {B : Nat} {w0 w : World} {r : Nat} {fp : Nat → Prop} {M : Dk.Md} (h : Dk.Own B w0 w r fp M) (A : Option Addr) (c : Nat) (l : List (List UInt8)) (hs : Kp.StrsAt w A l) (hA : ∀ q o, A = some ⟨q, o, none⟩ → ¬ fp q)
    (hl : ∀ b ∈ l, b.length = 60) (hn : l.length ≤ 1000000) (hr : Dk.waits M + l.length ≤ 1099511627776) (a : Int) (ha : 0 ≤ a ∧ a ≤ 1099511627776) :
    Calls Tryz.prog 24 #[.pointer (some ⟨r, 0, none⟩), .int .i64 a, .slice A l.length c] w fun e w' => ∃ fp', e = .returned (.int .i64 (Kp.save M a l).2) ∧ Dk.Step B w0 w w' r fp fp' (Kp.save M a l).1 := by
  obtain ⟨g, o, rfl, hg, hc⟩ := hs
  have HGF := Lib.hid (hA g o rfl)
  have H := Lib.hid h
  have HC := Lib.hid hc
  have HR := Lib.hid hr
  have HL6 : Hid (∀ i, i < l.length → (l.getD i []).length = 60) := fun i hi => by
    rw [List.getD_eq_getElem?_getD, List.getElem?_eq_getElem hi]; exact hl _ (List.getElem_mem hi)
  obtain ⟨P, hP⟩ : ∃ P, P = l.length := ⟨_, rfl⟩
  have HP := Lib.hid hP
  rw [← hP] at hn ⊢
  clear h hc hr hl hA hP
  go_enter Tryz.func24, Tryz.ntmps24
  go_wp2_with fail
  go_loopw [14] (fun s14 wr => ∃ (i : Nat) (fp1 : Nat → Prop), s14 = .int .i64 i ∧ i ≤ P ∧ (Kp.puts M a (l.take i)).2 = 0 ∧ Dk.Step B w0 w wr r fp fp1 (Kp.puts M a (l.take i)).1) (fun s14 _ => P - (intOf s14).toNat)
  case atStart => exact ⟨0, fp, rfl, Nat.zero_le _, rfl, Dk.Step.refl H.out⟩
  case round =>
    obtain ⟨i, fp1, rfl, hi, hz, hst⟩ := hrel
    have HST := Lib.hid hst
    have HZ := Lib.hid hz
    clear hst hz
    by_cases hlt : i < P
    · have hki : (i : Int) < (P : Int) := by omega
      have hil : i < l.length := by rw [← HP.out]; exact hlt
      have hsuc : IntKind.i64.wrap ((i : Int) + 1) = ((i + 1 : Nat) : Int) := by simp [IntKind.wrap, IntKind.bits, IntKind.signed]; omega
      have ci := (HST.out.turned.block g hg HGF.out)
      have ci2 : wr.cell? ⟨g, o + i, none⟩ = some (.string ⟨(l.getD i []).toArray⟩) := by
        rw [← HC.out i hil]
        simp only [World.cell?, ci]
      obtain ⟨b, hb⟩ : ∃ b : ByteArray, b = ⟨(l.getD i []).toArray⟩ := ⟨_, rfl⟩
      have hbl : b.data.toList = l.getD i [] := by rw [hb]
      have hbs : b.size = 60 := by rw [hb]; simpa [ByteArray.size] using HL6.out i hil
      have CL : Hid (∀ wx : World, Calls Tryz.prog 56 #[.string b] wx fun e w' => e = .returned (.tuple #[.string ⟨(Dk.closed (l.getD i [])).toArray⟩, .int .i64 0]) ∧ Below wx.heap.size wx w') := fun wx => by rw [← hbl]; exact dkClose_ok wx b hbs
      obtain ⟨s, hs⟩ : ∃ s : ByteArray, s = ⟨(Dk.closed (l.getD i [])).toArray⟩ := ⟨_, rfl⟩
      rw [← hb] at ci2
      rw [← hs] at CL
      have hsl : s.data.toList = Dk.closed (l.getD i []) := by rw [hs]
      have HSL := Lib.hid hsl
      obtain ⟨X, hX⟩ : ∃ X, X = Kp.puts M a (l.take i) := ⟨_, rfl⟩
      have hwx : Dk.waits X.1 ≤ 1099511627776 := by
        have h1 := Kp.waits_puts (l.take i) M a
        have h2 : (l.take i).length ≤ i := List.length_take_le _ _
        have h3 := HR.out
        rw [hX]; omega
      have HX := Lib.hid hX
      have HWX := Lib.hid hwx
      have v3 : IntKind.i64.wrap (a + (i : Int)) = a + (i : Int) := IntWalk.i64_in _ (by omega)
      clear ci hb hbl hbs hs hsl hX hwx
      go_upto_region 7 with (go_at_call 56; refine (CL.out _).mono ?_; rintro e w4 ⟨rfl, k4⟩)
      have ST4 := Lib.hid (HST.out.low k4)
      clear k4 ci2
      have o4 := ST4.out.own
      rw [← HX.out] at o4
      have WR := Lib.hid (Dk.write_in o4 HWX.out (a + (i : Int)) s)
      rw [HSL.out] at WR
      obtain ⟨Y, hY⟩ : ∃ Y, Y = Dk.write X.1 (a + (i : Int)) (Dk.closed (l.getD i [])) := ⟨_, rfl⟩
      rw [← hY] at WR
      have HY := Lib.hid hY
      clear o4 hY
      have nx1 := Pt.puts_take (M := M) (a := a) (l := l) (i := i) hil HZ.out
      rw [← HX.out, ← HY.out] at nx1
      by_cases hy0 : Y.2 = 0
      · have NX : Hid (Kp.puts M a (l.take (i + 1)) = (Y.1, 0)) := by
          show _ = _
          rw [nx1]; exact if_pos hy0
        rw [hy0] at WR
        clear nx1 hy0
        go_wp2_with (go_at_call 15; refine WR.out.mono ?_; rintro e w5 ⟨fp5, rfl, st5⟩)
        have ST5 := Lib.hid (ST4.out.trans st5)
        refine ⟨⟨i + 1, fp5, by push_cast; rfl, by omega, by rw [NX.out], by rw [NX.out]; exact ST5.out⟩, by simp only [intOf]; omega⟩
      · have hne : (Kp.puts M a (l.take (i + 1))).2 ≠ 0 := by rw [nx1]; simp only [if_neg hy0]; exact hy0
        have SV : Hid (Kp.save M a l = Y) := by
          show _ = _
          rw [Pt.puts_stopped hne, nx1]; exact if_neg hy0
        obtain ⟨y, hy⟩ : ∃ y, y = Y.2 := ⟨_, rfl⟩
        have HYY := Lib.hid hy
        rw [← hy] at hy0 WR
        have hyb : (y == 0) = false := beq_eq_false_iff_ne.2 hy0
        clear nx1 hne hy
        go_wp2_with (go_at_call 15; refine WR.out.mono ?_; rintro e w5 ⟨fp5, rfl, st5⟩)
        go_ret
        refine ⟨fp5, by rw [SV.out, ← HYY.out]; rfl, ?_⟩
        rw [SV.out]
        exact ST4.out.trans st5
    · have hki : ¬ (i : Int) < (P : Int) := by omega
      have htk : l.take i = l := List.take_of_length_le (by rw [← HP.out]; omega)
      rw [htk] at HZ HST
      have SV := Lib.hid (Pt.saved HZ.out)
      have SY := Lib.hid (Dk.sync_in HST.out.own)
      rw [← SV.out] at SY
      clear htk
      go_wp2_with (go_at_call 57; refine SY.out.mono ?_; rintro e w5 ⟨fp5, rfl, st5⟩)
      go_ret
      exact ⟨fp5, rfl, HST.out.trans st5⟩
end Go.Proofs.YtnmagfodjcookaaGreat

/-
  What log's none, Parts, Room, Records and took do.
-/
namespace Go.Proofs.YtnmagfodjcookaaGreat
open Go.RowKit
set_option maxRecDepth 100000 in
theorem lgParts_any (w : World) (s : ByteArray) (hs : s.size ≤ 1099511627776) : Calls Tryz.prog 23 #[.string s] w fun e w' => e = .returned (.int .i64 (Pt.parts 32 s.data.toList : Nat)) ∧ w = w' := by
  have CO : Hid (Calls Tryz.prog 55 #[.string s, .int .i64 3] w fun e w' => e = .returned (.int .i64 (Pt.parts 32 s.data.toList : Nat)) ∧ w = w') := ptCount_any w s (k := 3) (n := 32) (by decide) (by decide) hs
  go_enter Tryz.func23, Tryz.ntmps23
  go_wp2_with (go_at_call 55; refine CO.out.mono ?_; rintro e w2 ⟨rfl, rfl⟩)
  go_ret
  exact ⟨rfl, rfl⟩
section
variable {B : Nat} {w : World} {k r : Nat} {bl : Nat → Prop} {L : Lg.Md}
set_option maxRecDepth 100000 in
theorem lgNone_at (h : Lg.At B w k r bl L) : Calls Tryz.prog 22 #[.pointer (some ⟨k, 0, none⟩)] w fun e w' => e = .returned (.bool false) ∧ w = w' := by
  obtain ⟨v, h1, -, -⟩ := h.row
  have c0 := Sm.cells_of h1 0 (.pointer (some ⟨r, 0, none⟩)) rfl
  clear h h1
  go_enter Tryz.func22, Tryz.ntmps22
  go_wp2
  go_ret
  exact ⟨rfl, rfl⟩
set_option maxRecDepth 100000 in
theorem lgNone_nil (w : World) : Calls Tryz.prog 22 #[.pointer none] w fun e w' => e = .returned (.bool true) ∧ w = w' := by
  go_enter Tryz.func22, Tryz.ntmps22
  go_wp2
  go_ret
  exact ⟨rfl, rfl⟩
set_option maxRecDepth 100000 in
theorem lgRoom_nil (w : World) : Calls Tryz.prog 20 #[.pointer none] w fun e w' => e = .returned (.int .i64 0) ∧ w = w' := by
  have NO := Lib.hid (lgNone_nil w)
  go_enter Tryz.func20, Tryz.ntmps20
  go_wp2_with (go_at_call 22; refine NO.out.mono ?_; rintro e w2 ⟨rfl, rfl⟩)
  go_ret
  exact ⟨rfl, rfl⟩
set_option maxRecDepth 100000 in
theorem lgRoom_at (h : Lg.At B w k r bl L) (hr : 0 ≤ L.next ∧ L.next ≤ 1099511627776 ∧ 0 ≤ L.end_ ∧ L.end_ ≤ 1099511627776) : Calls Tryz.prog 20 #[.pointer (some ⟨k, 0, none⟩)] w fun e w' => e = .returned (.int .i64 (L.end_ - L.next)) ∧ Below w.heap.size w w' := by
  have NO := Lib.hid (lgNone_at h)
  obtain ⟨v, h1, -, -⟩ := h.row
  have c2 := Sm.cells_of h1 2 (.int .i64 L.next) rfl
  have c3 := Sm.cells_of h1 3 (.int .i64 L.end_) rfl
  have v1 : IntKind.i64.wrap (L.end_ - L.next) = L.end_ - L.next := IntWalk.i64_in _ (by omega)
  clear h h1
  go_enter Tryz.func20, Tryz.ntmps20
  go_upto_region 3 with (go_at_call 22; refine NO.out.mono ?_; rintro e w2 ⟨rfl, rfl⟩)
  go_quiet (fail)
  go_wp2
  go_ret
  exact ⟨rfl, Sm.below_drewN (Below.refl _ _) _⟩
set_option maxRecDepth 100000 in
theorem lgRecords_nil (w : World) : Calls Tryz.prog 19 #[.pointer none] w fun e w' => e = .returned (.slice none 0 0) ∧ w = w' := by
  have NO := Lib.hid (lgNone_nil w)
  go_enter Tryz.func19, Tryz.ntmps19
  go_wp2_with (go_at_call 22; refine NO.out.mono ?_; rintro e w2 ⟨rfl, rfl⟩)
  go_ret
  exact ⟨rfl, rfl⟩
set_option maxRecDepth 100000 in
set_option maxHeartbeats 1000000 in
theorem lgRecords_at (h : Lg.At B w k r bl L) (hn : L.recs.length ≤ 1000000) (ht : ∀ t ∈ L.recs, t.length ≤ 1024) :
    Calls Tryz.prog 19 #[.pointer (some ⟨k, 0, none⟩)] w fun e w' => ∃ A c, e = .returned (.slice A L.recs.length c) ∧ w'.ownsRow w.heap.size 9 1 (.slice A L.recs.length c) L.recs.length (L.recs.map Dk.txt) ∧ Below w.heap.size w w' := by
  obtain ⟨i0, hie, hz0, hz1, hz2⟩ := info_parts Dk.info3_str
  have NO := Lib.hid (lgNone_at h)
  obtain ⟨v, h1, h2, -⟩ := h.row
  have c4 := Sm.cells_of h1 4 v rfl
  obtain ⟨A, c, rfl⟩ := Sm.own_shape h2
  have hcell : ∀ i, i < L.recs.length → ∃ g, A = some ⟨g, 0, none⟩ ∧ w.cell? ⟨g, i, none⟩ = some (.string ⟨(L.recs.getD i []).toArray⟩) ∧ g < w.heap.size := fun i hi => by
    obtain ⟨A', c', e, -, ⟨g, o, hA, hg, hc⟩, hq⟩ := Kp.StrsAt.of_own (l := L.recs) h2 (fun e => by rw [e] at hi; simp at hi)
    simp only [Value.slice.injEq] at e
    rcases h2.2 with ⟨e2, _⟩ | ⟨b, cap, cur, e2, hb, hb1, _⟩
    · simp only [Value.slice.injEq] at e2
      rw [e.1, hA] at e2
      exact absurd e2.1 (by simp)
    · simp only [Value.slice.injEq] at e2
      have e3 : (some ⟨g, o, none⟩ : Option Addr) = some ⟨b, 0, none⟩ := by rw [← hA, ← e.1, e2.1]
      simp only [Option.some.injEq, Addr.mk.injEq] at e3
      refine ⟨g, by rw [e.1, hA, e3.2.1], ?_, hg⟩
      have := hc i hi
      rwa [e3.2.1, Nat.zero_add] at this
  have HC := Lib.hid hcell
  have CL : Hid (∀ (i : Nat) (wx : World), i < L.recs.length → Calls Tryz.prog 27 #[.string ⟨(L.recs.getD i []).toArray⟩] wx fun e w' => e = .returned (.string ⟨(L.recs.getD i []).toArray⟩) ∧ Below wx.heap.size wx w') := fun i wx hi => strings_Clone_any wx _ (by
    have h1 := ht (L.recs.getD i []) (by rw [List.getD_eq_getElem?_getD, List.getElem?_eq_getElem hi]; exact List.getElem_mem hi)
    have : (ByteArray.mk (L.recs.getD i []).toArray).size = (L.recs.getD i []).length := by simp [ByteArray.size]
    omega)
  obtain ⟨l, hl⟩ : ∃ l, l = L.recs := ⟨_, rfl⟩
  have TK : Hid (∀ i, i < l.length → l.take (i + 1) = l.take i ++ [l.getD i []]) := fun i hi => by
    rw [List.take_succ_eq_append_getElem hi, List.getD_eq_getElem?_getD, List.getElem?_eq_getElem hi]; rfl
  rw [← hl] at HC CL hn c4 ⊢
  obtain ⟨n, hnl⟩ : ∃ n, n = l.length := ⟨_, rfl⟩
  have HN := Lib.hid hnl
  rw [← hnl] at hn c4 ⊢
  clear h h1 h2 hcell ht hl hnl
  go_enter Tryz.func19, Tryz.ntmps19
  go_wp2_with (go_at_call 22; refine NO.out.mono ?_; rintro e w2 ⟨rfl, rfl⟩)
  go_loopw [3, 13] (fun s3 s13 wr => ∃ i : Nat, s13 = .int .i64 i ∧ i ≤ n ∧ wr.ownsRow w.heap.size 9 1 s3 i ((l.take i).map Dk.txt) ∧ Below w.heap.size w wr) (fun _ s13 _ => n - (intOf s13).toNat)
  case atStart => exact ⟨0, rfl, Nat.zero_le _, World.ownsRow_nil _ _ _ _, Below.refl _ _⟩
  case round =>
    clear c4
    obtain ⟨i, rfl, hi, hown, hb⟩ := hrel
    obtain ⟨Av, cv, hv⟩ := Sm.own_shape hown
    subst hv
    have HO := Lib.hid hown
    have HB := Lib.hid hb
    clear hown
    by_cases hlt : i < n
    · have hki : (i : Int) < (n : Int) := by omega
      have hil : i < l.length := by rw [← HN.out]; exact hlt
      have hsuc : IntKind.i64.wrap ((i : Int) + 1) = ((i + 1 : Nat) : Int) := by simp [IntKind.wrap, IntKind.bits, IntKind.signed]; omega
      obtain ⟨g, rfl, hc, hg⟩ := HC.out i hil
      have ci := (hb.cell (p := ⟨g, i, none⟩) hg).trans hc
      have CLI := Lib.hid (fun wx => CL.out i wx hil)
      have TKI := Lib.hid (TK.out i hil)
      obtain ⟨bt, hbt⟩ : ∃ b : ByteArray, b = ⟨(l.getD i []).toArray⟩ := ⟨_, rfl⟩
      rw [← hbt] at ci CLI
      have HBT := Lib.hid hbt
      have hbs := hb.size
      clear hbt hc hb
      go_upto_region 8 with (first
        | (go_at_call 27; refine (CLI.out _).mono ?_; rintro e w4 ⟨rfl, k4⟩)
        | (at_builtin
           refine wpList_append_own _ rfl _ _ 30 rfl w.heap.size 9 i0 (.string ⟨#[]⟩) 1 16 Tryz.underlying30 hie hz0 hz1 hz2 rfl (by decide) _ _ _ rfl ((Dk.own_block HO.out (fun q hq => k4.block q (Dk.own_blk HO.out hq).2.1)).alloc _) ⟨w4.heap.size, 0, none⟩ 1 1 [.string bt] rfl rfl (Dk.new_text _ _) (by intro u hu; simp at hu; subst hu; rfl) (by unfold maxLen; omega) (by omega) (by have := k4.size; simp; omega) ?_
           intro v' w5 hown' hgrow _))
      have b4 : Below w.heap.size w w4 := HB.out.trans (k4.mono hbs)
      have hb5 : Below w.heap.size w w5 := (b4.alloc b4.size _).grown hgrow (by have := b4.size; simp; omega) (fun q hq => (Dk.own_blk HO.out hq).1)
      have ho5 : w5.ownsRow w.heap.size 9 1 v' (i + 1) ((l.take (i + 1)).map Dk.txt) := by
        rw [TKI.out, List.map_append, List.map_cons, List.map_nil, show Dk.txt (l.getD i []) = .string bt from congrArg Value.string HBT.out.symm]
        exact hown'
      go_wp2
      go_roundw
      case rel => exact ⟨i + 1, rfl, by omega, ho5, hb5⟩
      case measure => simp only [intOf]; omega
    · have hki : ¬ (i : Int) < (n : Int) := by omega
      have hin : i = n := by omega
      subst hin
      have htk : l.take i = l := List.take_of_length_le (by rw [← HN.out]; exact Nat.le_refl _)
      rw [htk] at HO
      clear htk hb
      go_wp2
      go_ret
      exact ⟨_, _, rfl, HO.out, HB.out⟩
end
end Go.Proofs.YtnmagfodjcookaaGreat

/-
  What log's took does to a Log.
-/
namespace Go.Proofs.YtnmagfodjcookaaGreat
open Go.RowKit
namespace Lg
/-- A record more. -/
def took (L : Md) (t : List UInt8) (s : Nat) : Md := ⟨L.ep, L.next + Pt.parts 32 t, L.end_, L.recs ++ [t], s, L.salt, L.broken⟩
end Lg
set_option maxRecDepth 100000 in
set_option maxHeartbeats 1000000 in
theorem lgTook_any {B : Nat} {w : World} {k r : Nat} {bl : Nat → Prop} {L : Lg.Md} (h : Lg.At B w k r bl L) (t : ByteArray) (ht : t.size ≤ 1048576) (s : Nat) (hn : L.recs.length ≤ 1000000) (hx : 0 ≤ L.next ∧ L.next ≤ 1099511627776) (hB : B ≤ w.heap.size) :
    Calls Tryz.prog 26 #[.pointer (some ⟨k, 0, none⟩), .string t, .int .u64 (s : Int)] w fun e w' => ∃ bl', e = .returned (.tuple #[]) ∧ Lg.At B w' k r bl' (Lg.took L t.data.toList s) ∧ (∀ q, bl' q → bl q ∨ w.heap.size ≤ q) ∧ Dk.Turned bl w w' := by
  obtain ⟨i0, hie, hz0, hz1, hz2⟩ := info_parts Dk.info3_str
  have H := Lib.hid h
  obtain ⟨v, h1, h2, h3⟩ := h.row
  have h3k : ∀ q, v.ownBlock = some q → q ≠ k := fun q hq => (h3 q hq).2
  have hmem := h.mem
  have hlt := h.lt
  obtain ⟨A, c, rfl⟩ := Sm.own_shape h2
  have c4 := Sm.cells_of h1 4 (.slice A L.recs.length c) rfl
  have hkl := (hlt k hmem).2
  have htl : t.data.toList.length = t.size := by simp
  have hP : Pt.parts 32 t.data.toList ≤ 1048576 := Pt.parts_le (by decide) (by omega) (by decide)
  obtain ⟨P, hPe⟩ : ∃ P, P = Pt.parts 32 t.data.toList := ⟨_, rfl⟩
  have PA : Hid (∀ wx : World, Calls Tryz.prog 23 #[.string t] wx fun e w' => e = .returned (.int .i64 (P : Int)) ∧ w' = wx) := fun wx => (lgParts_any wx t (by omega)).mono fun _ _ ⟨h1, h2⟩ => ⟨by rw [h1, hPe], h2.symm⟩
  rw [← hPe] at hP
  have HP := Lib.hid hPe
  obtain ⟨nx, hnx⟩ : ∃ n, n = L.next := ⟨_, rfl⟩
  rw [← hnx] at hx
  have v1 : IntKind.i64.wrap (nx + (P : Int)) = nx + (P : Int) := IntWalk.i64_in _ (by omega)
  obtain ⟨n, hnl⟩ : ∃ n, n = L.recs.length := ⟨_, rfl⟩
  have HN := Lib.hid hnl
  have HNX := Lib.hid hnx
  rw [← hnl] at hn h2 c4 h3k
  have H1 := Lib.hid h1
  have H2 := Lib.hid h2
  have H3 := Lib.hid h3
  have HLT := Lib.hid hlt
  have hfr := Sm.free_of h1 4
  clear h h1 h2 h3 hlt htl hPe hnl hnx
  obtain ⟨lb, hlb⟩ : ∃ l, l = Kp.bts L.recs := ⟨_, rfl⟩
  have hlbn : lb.length = n := by rw [hlb, Kp.bts_length]; exact HN.out.symm
  have hmap : L.recs.map Dk.txt = lb.map Value.string := by rw [hlb, Kp.bts, List.map_map]; rfl
  have H2A : Hid ((w.alloc (.cells #[.string t] 9)).ownsRow B 9 1 (.slice A n c) lb.length (lb.map Value.string)) := by
    have := H2.out.alloc (.cells #[.string t] 9)
    rw [hmap] at this
    show World.ownsRow _ _ _ _ _ _ _
    rw [hlbn]; exact this
  have hlen : (lb ++ [t]).length = n + 1 := by rw [List.length_append, hlbn]; rfl
  have HLEN := Lib.hid hlen
  have HLBN := Lib.hid hlbn
  have HMAP := Lib.hid hmap
  have hsz : (w.alloc (.cells #[.string t] 9)).heap.size = w.heap.size + 1 := by simp
  have HSZ := Lib.hid hsz
  have hlb63 : lb.length ≤ 1099511627776 := by omega
  clear hlb hlbn hmap hlen hsz
  go_enter Tryz.func26, Tryz.ntmps26
  go_upto_region 1 with (at_builtin; refine wpList_plain rfl fun K hK => Dk.wp_append_text _ _ rfl rfl H2A.out rfl (Sm.cells_of (heap_alloc_new w _) 0 _ rfl) hlb63 (by rw [HSZ.out]; omega) fun A5 c5 w5 hown' hor => hK _ _ ?_; clear hK K; rw [HLEN.out] at hown' hor ⊢; have hga : (w.alloc (.cells #[.string t] 9)).grownBy w5 (Value.slice A n c).ownBlock := (by rcases hor with ⟨_, q⟩ | ⟨_, q⟩; exact q; exact q.but _); have g5 : w5.heap[k]? = some (.cells (Lg.cells r (.slice A n c) L) 69 (0, 0)) := (hga.block k (by rw [HSZ.out]; omega) (fun e => h3k k e.symm rfl)).trans ((Below.heap_alloc _ _ _ hkl).trans (by rw [HN.out]; exact H1.out)); have f5 := Sm.free_of g5 4; have d5 := Sm.cells_of g5 4 (.slice A n c) rfl)
  have hkq : ∀ q, (Value.slice A5 (n + 1) c5).ownBlock = some q → q ≠ k := fun q hq e => by
    obtain ⟨_, _, cs, f, hc⟩ := Dk.own_blk hown' hq
    rw [e, g5] at hc
    simp at hc
  have hnew : ∀ q, (Value.slice A5 (n + 1) c5).ownBlock = some q → bl q ∨ w.heap.size ≤ q := fun q hq => by
    rcases hor with ⟨e, _⟩ | ⟨e, _⟩
    · exact .inl (H3.out q (by have := e q hq; rw [HN.out] at this; exact this)).1
    · have := e q hq; rw [HSZ.out] at this; exact .inr (by omega)
  have hsz5 : w.heap.size + 1 ≤ w5.heap.size := by have := hga.size; rw [HSZ.out] at this; exact this
  have htu : Dk.Turned bl w w5 := ⟨hga.os, hga.tape, hga.output, by omega, fun i hi hni => (hga.block i (by rw [HSZ.out]; omega) (fun e => hni (by have := H3.out i (by rw [← HN.out]; exact e.symm); exact this.1))).trans (Below.heap_alloc _ _ _ hi)⟩
  have g6 := Sm.heap_set g5 4 (.slice A5 (n + 1) c5)
  have e6 : (Lg.cells r (.slice A n c) L).setIfInBounds 4 (.slice A5 (n + 1) c5) = Lg.cells r (.slice A5 (n + 1) c5) L := rfl
  rw [e6] at g6
  have hoth : ∀ q, q ≠ k → (w5.setCell ⟨k, 4, none⟩ (.slice A5 (n + 1) c5)).heap[q]? = w5.heap[q]? := fun q hq => Below.heap_setCell _ ⟨k, 4, none⟩ _ q hq
  have hs6 : (w5.setCell ⟨k, 4, none⟩ (.slice A5 (n + 1) c5)).heap.size = w5.heap.size := by simp
  have htu6 : Dk.Turned bl w (w5.setCell ⟨k, 4, none⟩ (.slice A5 (n + 1) c5)) := htu.trans (Lg.turned_more (Lg.turned_set w5 k 4 _) fun q e => by rw [e]; exact hmem)
  have HOW := Lib.hid hown'
  have HKQ := Lib.hid hkq
  have HNEW := Lib.hid hnew
  have HOTH := Lib.hid hoth
  have HTU := Lib.hid htu6
  have HS6 := Lib.hid hs6
  have hkl5 : k < w5.heap.size := by omega
  clear hown' hor hga g5 f5 d5 hkq hnew hsz5 htu hoth htu6 hs6 e6
  generalize w5.setCell ⟨k, 4, none⟩ (.slice A5 (n + 1) c5) = w6 at *
  have G6 := Lib.hid g6
  have d2 : w6.cell? ⟨k, 2, none⟩ = some (.int .i64 nx) := by rw [HNX.out]; exact Sm.cells_of g6 2 _ rfl
  have d2' : w6.drew.cell? ⟨k, 2, none⟩ = some (.int .i64 nx) := d2
  have f2 := Sm.free_of g6 2
  have f2' : w6.drew.frozen? ⟨k, 2, none⟩ = false := f2
  have d5 := Sm.cells_of g6 5 (.int .u64 (L.ahead : Int)) rfl
  have f5 := Sm.free_of g6 5
  have g7 := Sm.heap_set (w := w6.drew) g6 2 (.int .i64 (nx + (P : Int)))
  have d7 : (w6.drew.setCell ⟨k, 2, none⟩ (.int .i64 (nx + (P : Int)))).cell? ⟨k, 5, none⟩ = some (.int .u64 (L.ahead : Int)) := Sm.cells_of g7 5 _ rfl
  have f7 := Sm.free_of g7 5
  have PAD := Lib.hid (PA.out w6.drew)
  have G7 := Lib.hid g7
  clear g6 g7
  go_still_tail 9, (by kernel_rfl)
  still_call PAD.out
  repeat still_step
  refine wpStill_nil ?_
  change wpList _ _ _ _ _ w6.drew
  go_wp2
  have g8 := Sm.heap_set (Sm.heap_set G6.out 2 (.int .i64 (nx + (P : Int)))) 5 (.int .u64 (s : Int))
  have hoth2 : ∀ q, q ≠ k → ((w6.setCell ⟨k, 2, none⟩ (.int .i64 (nx + (P : Int)))).setCell ⟨k, 5, none⟩ (.int .u64 (s : Int))).heap[q]? = w6.heap[q]? := fun q hq => (Below.heap_setCell _ ⟨k, 5, none⟩ _ q hq).trans (Below.heap_setCell _ ⟨k, 2, none⟩ _ q hq)
  have hs8 : ((w6.setCell ⟨k, 2, none⟩ (.int .i64 (nx + (P : Int)))).setCell ⟨k, 5, none⟩ (.int .u64 (s : Int))).heap.size = w6.heap.size := by simp
  have htu8 : Dk.Turned bl w6 ((w6.setCell ⟨k, 2, none⟩ (.int .i64 (nx + (P : Int)))).setCell ⟨k, 5, none⟩ (.int .u64 (s : Int))) := (Lg.turned_more (Lg.turned_set w6 k 2 _) fun q e => by rw [e]; exact hmem).trans (Lg.turned_more (Lg.turned_set _ k 5 _) fun q e => by rw [e]; exact hmem)
  have hrow : ∀ wx : World, (∀ q, q ≠ k → wx.heap[q]? = w6.heap[q]?) → wx.ownsRow B 9 1 (.slice A5 (n + 1) c5) (L.recs ++ [t.data.toList]).length ((L.recs ++ [t.data.toList]).map Dk.txt) := fun wx hx => by
    have e1 : (L.recs ++ [t.data.toList]).length = n + 1 := by rw [List.length_append, ← HN.out]; rfl
    have e2 : (L.recs ++ [t.data.toList]).map Dk.txt = (lb ++ [t]).map Value.string := by rw [List.map_append, List.map_append, HMAP.out]; rfl
    rw [e1, e2]
    exact Dk.own_block HOW.out fun q hq => (hx q (HKQ.out q hq)).trans (HOTH.out q (HKQ.out q hq))
  have HROW := Lib.hid hrow
  have HTU8 := Lib.hid htu8
  have G8 := Lib.hid g8
  have HO2 := Lib.hid hoth2
  clear g8 hoth2 htu8 hrow
  generalize (w6.setCell ⟨k, 2, none⟩ (.int .i64 (nx + (P : Int)))).setCell ⟨k, 5, none⟩ (.int .u64 (s : Int)) = w8 at *
  go_end0
  refine ⟨fun q => q = k ∨ (Value.slice A5 (n + 1) c5).ownBlock = some q, rfl, ⟨⟨.slice A5 (n + 1) c5, ?_, ?_, fun q hq => ⟨.inr hq, HKQ.out q hq⟩⟩, .inl rfl, ?_⟩, ?_, ?_⟩
  · show w8.heap[k]? = _
    rw [G8.out]
    congr 2
    rw [HNX.out, HP.out]
    rfl
  · exact HROW.out _ (fun q hq => HO2.out q hq)
  · rintro q (rfl | hq)
    · exact ⟨(HLT.out q hmem).1, by show q < w8.heap.size; have h3 := HS6.out; omega⟩
    · have := Dk.own_blk HOW.out hq
      exact ⟨this.1, by show q < w8.heap.size; have h3 := HS6.out; omega⟩
  · rintro q (rfl | hq)
    · exact .inl hmem
    · exact HNEW.out q hq
  · have h1 := HTU.out.trans HTU8.out
    exact ⟨h1.os, h1.tape, h1.output, h1.size, h1.block⟩
end Go.Proofs.YtnmagfodjcookaaGreat

/-
  What log's find takes.
-/
namespace Go.Proofs.YtnmagfodjcookaaGreat
open Go.RowKit
namespace Lg
/-- A Log that has found records. -/
def after (ep : Nat) (a e : Int) (salt : Nat) (R : List (List UInt8 × Nat)) : Md := ⟨ep, a + used R, e, R.map (·.1), last 0 R, salt, false⟩
theorem after_snoc (ep : Nat) (a e : Int) (salt : Nat) (R : List (List UInt8 × Nat)) (t : List UInt8) (s : Nat) : took (after ep a e salt R) t s = after ep a e salt (R ++ [(t, s)]) := by
  simp only [took, after, used_snoc, last_snoc, List.map_append, List.map_cons, List.map_nil, Md.mk.injEq, and_true, true_and]
  push_cast
  omega
theorem opened_after (n : Nat) (f : Nat → List UInt8) (a : Int) (ep : Nat) : opened n f a ep = after ep a (a + n) (Pt.greatest 1 (place n f)) (found ep (place n f)) := rfl
/-- What is left to find. -/
structure Left (ep : Nat) (S : List (List UInt8)) (R : List (List UInt8 × Nat)) (T : List (List UInt8)) : Prop where
  same : S = laid ep 0 R ++ T
  ok : ∀ x ∈ R, x.1.length ≤ 1024 ∧ x.2 < 18446744073709551616
theorem Left.stop {ep : Nat} {S T : List (List UInt8)} {R : List (List UInt8 × Nat)} (h : Left ep S R T) (hep : ep < 18446744073709551616) (hf : first ep (last 0 R) T = none) : found ep S = R := found_of hep ⟨h.same, hf, h.ok⟩
theorem Left.next {ep : Nat} {S T : List (List UInt8)} {R : List (List UInt8 × Nat)} (h : Left ep S R T) {t : List UInt8} {s : Nat} (hf : first ep (last 0 R) T = some (t, s)) : Left ep S (R ++ [(t, s)]) (T.drop (Pt.parts 32 t)) := by
  obtain ⟨h1, h2, h3⟩ := first_some hf
  refine ⟨?_, fun x hx => ?_⟩
  · rw [laid_snoc, List.append_assoc, ← holds_split h1]; exact h.same
  · rcases List.mem_append.1 hx with hx | hx
    · exact h.ok x hx
    · simp only [List.mem_singleton] at hx
      rw [hx]; exact ⟨h2, h3⟩
theorem Left.drop {ep : Nat} {S T : List (List UInt8)} {R : List (List UInt8 × Nat)} (h : Left ep S R T) : T = S.drop (used R) := by
  rw [h.same, List.drop_left' (laid_length _ _ _)]
theorem Left.used {ep : Nat} {S T : List (List UInt8)} {R : List (List UInt8 × Nat)} (h : Left ep S R T) : used R + T.length = S.length := by
  have := congrArg List.length h.same
  rw [List.length_append, laid_length] at this
  omega
theorem Left.recs {ep : Nat} {S T : List (List UInt8)} {R : List (List UInt8 × Nat)} (h : Left ep S R T) : R.length ≤ S.length := by
  have h1 := h.used
  have h2 : ∀ R : List (List UInt8 × Nat), R.length ≤ Lg.used R := fun R => by
    induction R with
    | nil => exact Nat.le_refl _
    | cons x R ih =>
      have := Pt.parts_pos 32 x.1
      have e : Lg.used (x :: R) = Pt.parts 32 x.1 + Lg.used R := by simp [Lg.used]
      rw [List.length_cons, e]
      omega
  have := h2 R
  omega
theorem Left.last {ep : Nat} {S T : List (List UInt8)} {R : List (List UInt8 × Nat)} (h : Left ep S R T) : last 0 R < 18446744073709551616 := by
  rcases last_mem 0 R with e | ⟨x, hx, e⟩
  · rw [e]; decide
  · rw [← e]; exact (h.ok x hx).2
end Lg
theorem Kp.StrsAt.drop {w : World} {g o : Nat} {l : List (List UInt8)} (h : Kp.StrsAt w (some ⟨g, o, none⟩) l) (n : Nat) : Kp.StrsAt w (some ⟨g, o + n, none⟩) (l.drop n) := by
  obtain ⟨g', o', e, h1, h2⟩ := h
  simp only [Option.some.injEq, Addr.mk.injEq, and_true] at e
  obtain ⟨rfl, rfl⟩ := e
  refine ⟨g, o + n, rfl, h1, fun i hi => ?_⟩
  have := h2 (n + i) (by rw [List.length_drop] at hi; omega)
  rw [← Nat.add_assoc] at this
  rw [this, List.getD_eq_getElem?_getD, List.getD_eq_getElem?_getD, List.getElem?_drop]
set_option maxRecDepth 100000 in
set_option maxHeartbeats 2000000 in
theorem lgFind_any {B : Nat} {w : World} {k r : Nat} {bl : Nat → Prop} {ep : Nat} {a e : Int} {salt : Nat} (h : Lg.At B w k r bl (Lg.after ep a e salt [])) (hB : B ≤ w.heap.size) (g o c : Nat) (S : List (List UInt8)) (hs : Kp.StrsAt w (some ⟨g, o, none⟩) S) (hgb : ¬ bl g) (hSc : S.length ≤ c) (hS : S.length ≤ 4096) (hb : ∀ b ∈ S, Kp.Bod b) (ha : 0 ≤ a ∧ a ≤ 4096) (hep : ep < 18446744073709551616) (hep0 : 0 < ep) :
    Calls Tryz.prog 43 #[.pointer (some ⟨k, 0, none⟩), .slice (some ⟨g, o, none⟩) S.length c] w fun e' w' => ∃ bl', e' = .returned (.tuple #[]) ∧ Lg.At B w' k r bl' (Lg.after ep a e salt (Lg.found ep S)) ∧ (∀ q, bl' q → bl q ∨ w.heap.size ≤ q) ∧ Dk.Turned bl w w' := by
  have HS := Lib.hid hs
  have HB := Lib.hid hb
  have HAT := Lib.hid h
  obtain ⟨N, hN⟩ : ∃ N, N = S.length := ⟨_, rfl⟩
  have HN := Lib.hid hN
  have hgl : g < w.heap.size := by
    obtain ⟨g', o', e1, h1, -⟩ := hs
    simp only [Option.some.injEq, Addr.mk.injEq, and_true] at e1
    rw [e1.1]; exact h1
  rw [← hN] at hSc hS ⊢
  clear h hb hN
  have LASTLT : ∀ R T, Lg.Left ep S R T → Lg.last 0 R < 18446744073709551616 := fun R T h => h.last
  go_enter Tryz.func43, Tryz.ntmps43
  go_wp2_with fail
  go_loopw [1] (fun s1 wr => ∃ (R : List (List UInt8 × Nat)) (T : List (List UInt8)) (bl1 : Nat → Prop) (x m y : Nat) (cx : Nat), s1 = .slice (some ⟨g, y, none⟩) m cx ∧ (0 < m → y = o + x) ∧ m ≤ cx ∧ x = Lg.used R ∧ m = T.length ∧ Lg.Left ep S R T ∧ Lg.At B wr k r bl1 (Lg.after ep a e salt R) ∧ (∀ q, bl1 q → bl q ∨ w.heap.size ≤ q) ∧ Dk.Turned bl w wr) (fun s1 _ => match s1 with | .slice _ n _ => n | _ => 0)
  case atStart => exact ⟨[], S, bl, 0, N, o, c, rfl, fun _ => rfl, hSc, rfl, HN.out, ⟨rfl, by simp⟩, HAT.out, fun q hq => .inl hq, Dk.Turned.refl _ _⟩
  case round =>
    obtain ⟨R, T, bl1, x, m, y, cx, rfl, hy, hcx, hx, hm, hleft, hat, hmore, htu⟩ := hrel
    have HL := Lib.hid hleft
    have HA := Lib.hid hat
    have HM := Lib.hid hmore
    have HT := Lib.hid htu
    have HX := Lib.hid hx
    have HMT := Lib.hid hm
    have hSN := HN.out
    have hus := hleft.used
    have hlast := LASTLT R T hleft
    have hrl := hleft.recs
    clear hleft hat hmore htu
    have hgb1 : ¬ bl1 g := fun e => by
      rcases HM.out g e with h | h
      · exact hgb h
      · omega
    have HGB := Lib.hid hgb1
    by_cases hm0 : m = 0
    · have hf : Lg.first ep (Lg.last 0 R) T = none := by
        have : T = [] := List.eq_nil_of_length_eq_zero (by omega)
        rw [this]; unfold Lg.first; split <;> rfl
      have E := Lib.hid (HL.out.stop hep hf)
      have hm0i : ¬ (0 : Int) < (m : Int) := by omega
      clear hm hx hm0 hf
      go_wp2_with fail
      go_end0
      exact ⟨rfl, bl1, by rw [E.out]; exact HA.out, HM.out, HT.out⟩
    · have hm0i : (0 : Int) < (m : Int) := by omega
      obtain rfl := hy (by omega)
      clear hy
      have hTS : T = S.drop x := by rw [HX.out]; exact HL.out.drop
      have hsT : Kp.StrsAt wr (some ⟨g, o + x, none⟩) T := by
        have h1 : Kp.StrsAt wr (some ⟨g, o, none⟩) S := by
          obtain ⟨g', o', e1, h1, h2⟩ := HS.out
          have e2 := e1
          simp only [Option.some.injEq, Addr.mk.injEq, and_true] at e2
          obtain ⟨rfl, rfl⟩ := e2
          refine ⟨g, o, rfl, Nat.lt_of_lt_of_le h1 HT.out.size, fun i hi => ?_⟩
          rw [← h2 i hi]
          simp only [World.cell?, HT.out.block g hgl hgb]
        rw [hTS]; exact h1.drop x
      have hbT : ∀ b ∈ T, Kp.Bod b := fun b hb => HB.out b (by rw [hTS] at hb; exact List.drop_subset _ _ hb)
      have hc0 := (by obtain ⟨g', o', e1, h1, h2⟩ := hsT; simp only [Option.some.injEq, Addr.mk.injEq, and_true] at e1; obtain ⟨rfl, rfl⟩ := e1; exact h2 0 (by omega) : wr.cell? ⟨g, o + x + 0, none⟩ = some (.string ⟨(T.getD 0 []).toArray⟩))
      rw [Nat.add_zero] at hc0
      have NU : Hid (∀ (i : Nat) (wx : World), i ≤ 2 → Calls Tryz.prog 72 #[.string ⟨(T.getD 0 []).toArray⟩, .int .i64 (i : Int)] wx fun e w' => e = .returned (.int .u64 (Pt.number i (T.getD 0 []) : Nat)) ∧ w' = wx) := fun i wx hi => (ptNumber_any wx ⟨(T.getD 0 []).toArray⟩ i (by omega) (Kp.bod_size (Kp.bod_get hbT 0))).mono fun _ _ ⟨h1, h2⟩ => ⟨h1, h2.symm⟩
      obtain ⟨b, hb⟩ : ∃ b : ByteArray, b = ⟨(T.getD 0 []).toArray⟩ := ⟨_, rfl⟩
      obtain ⟨n0, hn0⟩ : ∃ n, n = Pt.number 0 (T.getD 0 []) := ⟨_, rfl⟩
      obtain ⟨n1, hn1⟩ : ∃ n, n = Pt.number 1 (T.getD 0 []) := ⟨_, rfl⟩
      obtain ⟨n2, hn2⟩ : ∃ n, n = Pt.number 2 (T.getD 0 []) := ⟨_, rfl⟩
      have NU0 : Hid (∀ wx : World, Calls Tryz.prog 72 #[.string b, .int .i64 0] wx fun e w' => e = .returned (.int .u64 (n0 : Int)) ∧ w' = wx) := fun wx => by rw [hb, hn0]; exact NU.out 0 wx (by omega)
      have NU1 : Hid (∀ wx : World, Calls Tryz.prog 72 #[.string b, .int .i64 1] wx fun e w' => e = .returned (.int .u64 (n1 : Int)) ∧ w' = wx) := fun wx => by rw [hb, hn1]; exact NU.out 1 wx (by omega)
      have NU2 : Hid (∀ wx : World, Calls Tryz.prog 72 #[.string b, .int .i64 2] wx fun e w' => e = .returned (.int .u64 (n2 : Int)) ∧ w' = wx) := fun wx => by rw [hb, hn2]; exact NU.out 2 wx (by omega)
      rw [← hb] at hc0
      have hn1lt : n1 < 18446744073709551616 := by rw [hn1]; exact Pt.number_lt _ _
      obtain ⟨la, hla⟩ : ∃ l, l = Lg.last 0 R := ⟨_, rfl⟩
      have FS : Hid (Lg.first ep la T = if n0 = ep ∧ n2 = la then (Lg.text T).map fun t => (t, n1) else none) := by show _ = _; rw [hn0, hn1, hn2]; rfl
      have TX : Hid (∀ wx, Below wr.heap.size wr wx → Calls Tryz.prog 73 #[.slice (some ⟨g, o + x, none⟩) m cx, .int .i64 3, .int .i64 1024] wx fun e w' => e = .returned (Pt.says (Lg.text T)) ∧ Below wx.heap.size wx w') := fun wx hwx => by
        have h1 := hsT.below hwx (Nat.le_refl _)
        have h2 := ptText_any wx (some ⟨g, o + x, none⟩) cx T (k := 3) (n := 32) 1024 (by decide) (by decide) (by decide) h1 (by omega) (by omega) (by omega) hbT
        rw [HMT.out]
        exact h2
      obtain ⟨vr, hv1, -, -⟩ := HA.out.row
      have a1 := Sm.cells_of hv1 1 (.int .u64 (ep : Int)) rfl
      have a5 : wr.cell? ⟨k, 5, none⟩ = some (.int .u64 (la : Int)) := by rw [hla]; exact Sm.cells_of hv1 5 _ rfl
      have HLA := Lib.hid hla
      clear hm hx hb hn0 hn1 hn2 hTS hsT hbT hv1 hla
      go_upto_region 2 with (fail)
      have HM0 := Lib.hid hm0
      have hdec : decide (0 < m) = true := decide_eq_true (Nat.pos_of_ne_zero hm0)
      rw [hdec]
      clear hdec hm0 hm0i
      go_cut [28] from 13 to 44 (fun s28 wx => s28 = .bool (!decide (n0 = ep ∧ n2 = la)) ∧ Pt.Drew wr wx)
      case first =>
        by_cases e0 : n0 = ep
        · subst e0
          by_cases e2 : n2 = la
          · subst e2
            go_quiet (first | (go_at_call 72; with_reducible exact Calls.quiet_of_same (NU0.out _)) | (go_at_call 72; with_reducible exact Calls.quiet_of_same (NU2.out _)))
            go_wp2_with fail
            go_meet
            exact ⟨by simp, _, rfl⟩
          · have e2i : ¬ (n2 : Int) = (la : Int) := by omega
            have e2b : ((n2 : Int) != (la : Int)) = true := by simpa using e2i
            go_quiet (first | (go_at_call 72; with_reducible exact Calls.quiet_of_same (NU0.out _)) | (go_at_call 72; with_reducible exact Calls.quiet_of_same (NU2.out _)))
            go_wp2_with fail
            go_meet
            exact ⟨by simp [e2], _, rfl⟩
        · have e0i : ¬ (n0 : Int) = (ep : Int) := by omega
          have e0b : ((n0 : Int) != (ep : Int)) = true := by simpa using e0i
          go_quiet (first | (go_at_call 72; with_reducible exact Calls.quiet_of_same (NU0.out _)) | (go_at_call 72; with_reducible exact Calls.quiet_of_same (NU2.out _)))
          go_wp2_with fail
          go_meet
          exact ⟨by simp [e0], _, rfl⟩
      case rest =>
        obtain ⟨rfl, dq, rfl⟩ := hcut
        by_cases hc : n0 = ep ∧ n2 = la
        · have hd : (!decide (n0 = ep ∧ n2 = la)) = false := by simp [hc]
          have FS2 : Hid (Lg.first ep (Lg.last 0 R) T = (Lg.text T).map fun t => (t, n1)) := by show _ = _; rw [← HLA.out, FS.out, if_pos hc]
          rw [hd]
          clear hd hc
          have bq : Below wr.heap.size wr (wr.drewN dq) := Sm.below_drewN (Below.refl _ _) dq
          have TXD := Lib.hid (TX.out _ bq)
          have HAQ := Lib.hid (HA.out.below bq)
          have HTQ := Lib.hid (HT.out.trans (Dk.Turned.of_below (fp := bl) bq (Nat.le_refl _)))
          have hszq : (wr.drewN dq).heap.size = wr.heap.size := rfl
          cases htx : Lg.text T with
          | none =>
            rw [htx] at TXD FS2
            have E := Lib.hid (HL.out.stop hep FS2.out)
            have hsay : Pt.says none = .tuple #[.string ⟨#[]⟩, .bool false] := rfl
            rw [hsay] at TXD
            clear hsay FS2 htx
            go_wp2_with (go_at_call 73; refine TXD.out.mono ?_; rintro e w3 ⟨rfl, k3⟩)
            refine bodyPost_ret (results_none rfl _ _ _) rfl ?_
            exact ⟨bl1, rfl, by rw [E.out]; exact HAQ.out.below k3, HM.out, HTQ.out.trans (Dk.Turned.of_below (fp := bl) k3 (Nat.le_refl _))⟩
          | some t =>
            rw [htx] at TXD FS2
            obtain ⟨h1, h2, h3⟩ := Lg.first_some FS2.out
            have hPm := h1.len
            have hnext := HL.out.next FS2.out
            have hP1 := Pt.parts_pos 32 t
            obtain ⟨tb, htb⟩ : ∃ b : ByteArray, b = ⟨t.toArray⟩ := ⟨_, rfl⟩
            have htbl : tb.data.toList = t := by rw [htb]
            have htbs : tb.size = t.length := by rw [htb]; simp [ByteArray.size]
            have hsay : Pt.says (some t) = .tuple #[.string tb, .bool true] := by rw [htb]; rfl
            rw [hsay] at TXD
            have TK : Hid (∀ wx, Below wr.heap.size wr wx → Calls Tryz.prog 26 #[.pointer (some ⟨k, 0, none⟩), .string tb, .int .u64 (n1 : Int)] wx fun e' w' => ∃ bl', e' = .returned (.tuple #[]) ∧ Lg.At B w' k r bl' (Lg.after ep a e salt (R ++ [(t, n1)])) ∧ (∀ q, bl' q → bl1 q ∨ wx.heap.size ≤ q) ∧ Dk.Turned bl1 wx w') := fun wx hwx => by
              have hsx := hwx.size
              have hsz := HT.out.size
              have h := lgTook_any (HA.out.below hwx) tb (by omega) n1 (by show (R.map (·.1)).length ≤ _; rw [List.length_map]; omega) (by show 0 ≤ a + (Lg.used R : Int) ∧ a + (Lg.used R : Int) ≤ _; omega) (by omega)
              rwa [htbl, Lg.after_snoc] at h
            obtain ⟨P, hP⟩ : ∃ P, P = Pt.parts 32 t := ⟨_, rfl⟩
            have PA : Hid (∀ wx : World, Calls Tryz.prog 23 #[.string tb] wx fun e w' => e = .returned (.int .i64 (P : Int)) ∧ wx = w') := fun wx => by
              have h := lgParts_any wx tb (by omega)
              rwa [htbl, ← hP] at h
            rw [← hP] at hPm hP1 hnext
            have HNX := Lib.hid hnext
            have hmT := HMT.out
            have hm0 := HM0.out
            have hPi : (P : Int) ≤ (m : Int) := by omega
            have hPi2 : ¬ (m : Int) < (P : Int) := by omega
            have hPi3 : (P : Int) ≤ (cx : Int) := by omega
            have hP0 : ¬ (P : Int) < 0 := by omega
            have hP00 : (0 : Int) ≤ (P : Int) := by omega
            have hPm2 : P ≤ m := by omega
            have hus2 := HX.out
            have HPE := Lib.hid hP
            have htl : (T.drop P).length = m - P := by rw [List.length_drop]; omega
            have HTL := Lib.hid htl
            have hxx : x + P = Lg.used (R ++ [(t, n1)]) := by rw [Lg.used_snoc, HX.out, hP]
            have HXX := Lib.hid hxx
            clear hsay FS2 htx h1 h2 h3 htb htbl htbs hnext hP hmT hus2 htl hxx hPm hm0
            go_upto_region 5 with (go_at_call 73; refine TXD.out.mono ?_; rintro e w3 ⟨rfl, k3⟩)
            have b3 : Below wr.heap.size wr w3 := bq.trans (k3.mono (Nat.le_of_eq hszq.symm))
            have TK3 := Lib.hid (TK.out w3 b3)
            have HT3 := Lib.hid (HTQ.out.trans (Dk.Turned.of_below (fp := bl) k3 (Nat.le_refl _)))
            clear k3 bq
            go_upto_region 6 with (first
              | (go_at_call 72; refine (NU1.out _).mono ?_; rintro e w4 ⟨rfl, rfl⟩)
              | (go_at_call 26; refine TK3.out.mono ?_; rintro e w5 ⟨bl2, rfl, at5, mo5, tu5⟩))
            have hs3 := b3.size
            have hsw := HT.out.size
            have mo6 : ∀ q, bl2 q → bl q ∨ w.heap.size ≤ q := fun q hq => by
              rcases mo5 q hq with h | h
              · exact HM.out q h
              · exact .inr (by omega)
            have tu6 : Dk.Turned bl w w5 := ⟨tu5.os.trans HT3.out.os, tu5.tape.trans HT3.out.tape, tu5.output.trans HT3.out.output, Nat.le_trans HT3.out.size tu5.size, fun i hi hn => (tu5.block i (by omega) (fun e => by
              rcases HM.out i e with h | h
              · exact hn h
              · omega)).trans (HT3.out.block i hi hn)⟩
            have A5 := Lib.hid at5
            have M6 := Lib.hid mo6
            have T6 := Lib.hid tu6
            clear at5 mo5 tu5 mo6 tu6 b3 hs3 hsw
            go_wp2_with (go_at_call 23; refine (PA.out _).mono ?_; rintro e w6 ⟨rfl, rfl⟩)
            go_roundw
            case rel =>
              refine ⟨R ++ [(t, n1)], T.drop P, bl2, x + P, m - P, if cx = P then o + x else o + x + P, cx - P, ?_, fun h0 => ?_, by omega, HXX.out, HTL.out.symm, HNX.out, A5.out, M6.out, T6.out⟩
              · split <;> rfl
              · rw [if_neg (by omega)]; omega
            case measure => show m - P < m; omega
        · have hd : (!decide (n0 = ep ∧ n2 = la)) = true := by simp [hc]
          have hf : Lg.first ep (Lg.last 0 R) T = none := by rw [← HLA.out, FS.out, if_neg hc]
          have E := Lib.hid (HL.out.stop hep hf)
          rw [hd]
          clear hd hc hf
          go_wp2_with fail
          refine bodyPost_ret (results_none rfl _ _ _) rfl ?_
          exact ⟨bl1, rfl, by rw [E.out]; exact HA.out.below (Sm.below_drewN (Below.refl _ _) dq), HM.out, HT.out.trans (Dk.Turned.of_below (fp := bl) (Sm.below_drewN (Below.refl _ _) dq) (Nat.le_refl _))⟩
end Go.Proofs.YtnmagfodjcookaaGreat

/-
  What log's Open makes.
-/
namespace Go.Proofs.YtnmagfodjcookaaGreat
open Go.RowKit
set_option maxRecDepth 100000 in
set_option maxHeartbeats 500000 in
theorem lgOpen_nil (w : World) (a n : Int) (ep : Nat) : Calls Tryz.prog 16 #[.pointer none, .int .i64 a, .int .i64 n, .int .u64 (ep : Int)] w fun e w' => e = .returned (.tuple #[.pointer none, .int .i64 2]) ∧ w = w' := by
  have SE := Lib.hid (dkSectors_none (w := w) (.inl rfl))
  go_enter Tryz.func16, Tryz.ntmps16
  go_wp2_with (go_at_call 40; refine SE.out.mono ?_; rintro e w2 ⟨rfl, rfl⟩)
  go_ret2
  exact ⟨rfl, rfl⟩
set_option maxRecDepth 100000 in
set_option maxHeartbeats 1000000 in
theorem lgOpen_arg {B : Nat} {w0 w : World} {r : Nat} {fp : Nat → Prop} {M : Dk.Md} (h : Dk.Own B w0 w r fp M) (a n : Int) (ep : Nat) (hn : n ≤ 9223372036854775807) (ha : a < 0 ∨ n < 1 ∨ (M.lasts.length : Int) - n < a ∨ ep = 0) :
    Calls Tryz.prog 16 #[.pointer (some ⟨r, 0, none⟩), .int .i64 a, .int .i64 n, .int .u64 (ep : Int)] w fun e w' => e = .returned (.tuple #[.pointer none, .int .i64 1]) ∧ w = w' := by
  have SE := Lib.hid (Dk.sectors_in h)
  have hL := h.disk.ok.n
  obtain ⟨m, hm⟩ : ∃ n, n = M.lasts.length := ⟨_, rfl⟩
  rw [← hm] at SE hL ha
  have hn0 : ¬ (m : Int) = 0 := by omega
  have hnb : ((m : Int) == 0) = false := beq_eq_false_iff_ne.2 hn0
  clear h hm
  by_cases h0 : a < 0
  · clear ha
    go_enter Tryz.func16, Tryz.ntmps16
    go_wp2_with (go_at_call 40; refine SE.out.mono ?_; rintro e w2 ⟨rfl, rfl⟩)
    go_ret2
    exact ⟨rfl, rfl⟩
  by_cases h1 : n < 1
  · clear ha
    go_enter Tryz.func16, Tryz.ntmps16
    go_wp2_with (go_at_call 40; refine SE.out.mono ?_; rintro e w2 ⟨rfl, rfl⟩)
    go_ret2
    exact ⟨rfl, rfl⟩
  have hw : IntKind.i64.wrap ((m : Int) - n) = (m : Int) - n := IntWalk.i64_in _ (by omega)
  by_cases h2 : (m : Int) - n < a
  · clear ha
    go_enter Tryz.func16, Tryz.ntmps16
    go_wp2_with (go_at_call 40; refine SE.out.mono ?_; rintro e w2 ⟨rfl, rfl⟩)
    go_ret2
    exact ⟨rfl, rfl⟩
  · have h3 : ep = 0 := by omega
    subst h3
    clear ha
    go_enter Tryz.func16, Tryz.ntmps16
    go_wp2_with (go_at_call 40; refine SE.out.mono ?_; rintro e w2 ⟨rfl, rfl⟩)
    go_ret2
    exact ⟨rfl, rfl⟩
set_option maxRecDepth 100000 in
set_option maxHeartbeats 1000000 in
theorem lgOpen_err {B : Nat} {w0 w : World} {r : Nat} {fp : Nat → Prop} {M : Dk.Md} (h : Dk.Own B w0 w r fp M) (a : Int) (n ep : Nat) (hn1 : 1 ≤ n) (hep : ep ≠ 0) (ha : 0 ≤ a ∧ a + n ≤ (M.lasts.length : Int)) (he : Lg.readErr M a n ≠ 0) :
    Calls Tryz.prog 16 #[.pointer (some ⟨r, 0, none⟩), .int .i64 a, .int .i64 (n : Int), .int .u64 (ep : Int)] w fun e w' => e = .returned (.tuple #[.pointer none, .int .i64 (Lg.readErr M a n)]) ∧ Below w.heap.size w w' := by
  have SE := Lib.hid (Dk.sectors_in h)
  have RD := Lib.hid (ptRead_any h a n hn1 ha.1 ha.2)
  have hL := h.disk.ok.n
  obtain ⟨m, hm⟩ : ∃ n, n = M.lasts.length := ⟨_, rfl⟩
  rw [← hm] at SE hL ha
  obtain ⟨E, hE⟩ : ∃ E, E = Lg.readErr M a n := ⟨_, rfl⟩
  rw [← hE] at RD he ⊢
  have hn0 : ¬ (m : Int) = 0 := by omega
  have hnb : ((m : Int) == 0) = false := beq_eq_false_iff_ne.2 hn0
  have heb : (E == 0) = false := beq_eq_false_iff_ne.2 he
  have hw : IntKind.i64.wrap ((m : Int) - (n : Int)) = (m : Int) - (n : Int) := IntWalk.i64_in _ (by omega)
  have h0 : ¬ a < 0 := by omega
  have h1 : ¬ (n : Int) < 1 := by omega
  have h2 : ¬ (m : Int) - (n : Int) < a := by omega
  have h3 : ¬ (ep : Int) < 1 := by omega
  clear h hm hE
  go_enter Tryz.func16, Tryz.ntmps16
  go_wp2_with (first
    | (go_at_call 40; refine SE.out.mono ?_; rintro e w2 ⟨rfl, rfl⟩)
    | (go_at_call 41; refine RD.out.mono ?_; rintro e w3 ⟨k3, v, rfl, -⟩))
  go_ret2
  exact ⟨rfl, k3⟩
theorem Lg.info_log : (Tryz.prog.info? 69).map (fun i => (i.zero, i.size)) = some (some (.agg #[.pointer none, .int .u64 0, .int .i64 0, .int .i64 0, .slice none 0 0, .int .u64 0, .int .u64 0, .bool false]), 8) := by kernel_rfl
set_option maxRecDepth 100000 in
set_option maxHeartbeats 1000000 in
theorem lgOpen_ok {B : Nat} {w0 w : World} {r : Nat} {fp : Nat → Prop} {M : Dk.Md} (h : Dk.Own B w0 w r fp M) (a : Int) (n ep : Nat) (hn1 : 1 ≤ n) (hep : 0 < ep ∧ ep < 18446744073709551616) (ha : 0 ≤ a ∧ a + n ≤ (M.lasts.length : Int)) (he : Lg.readErr M a n = 0) :
    Calls Tryz.prog 16 #[.pointer (some ⟨r, 0, none⟩), .int .i64 a, .int .i64 (n : Int), .int .u64 (ep : Int)] w fun e w' => ∃ k bl, e = .returned (.tuple #[.pointer (some ⟨k, 0, none⟩), .int .i64 0]) ∧ Lg.At B w' k r bl (Lg.opened n (Kp.sees M a) a ep) ∧ (∀ q, bl q → w.heap.size ≤ q) ∧ Below w.heap.size w w' := by
  have hBw := h.size
  have SE := Lib.hid (Dk.sectors_in h)
  have RD := Lib.hid (ptRead_any h a n hn1 ha.1 ha.2)
  have hL := h.disk.ok.n
  obtain ⟨m, hm⟩ : ∃ n, n = M.lasts.length := ⟨_, rfl⟩
  rw [← hm] at SE hL ha
  rw [he] at RD
  obtain ⟨S, hS⟩ : ∃ S, S = Lg.place n (Kp.sees M a) := ⟨_, rfl⟩
  have LL : Hid (S.length = n) := by show S.length = n; rw [hS]; exact Lg.place_length _ _
  have LB : Hid (∀ b ∈ S, Kp.Bod b) := by rw [hS]; exact Lg.place_bod _ _
  have OP : Hid (Lg.opened n (Kp.sees M a) a ep = Lg.after ep a (a + n) (Pt.greatest 1 S) (Lg.found ep S)) := by show _ = _; rw [hS]; rfl
  rw [← hS] at RD
  have hn0 : ¬ (m : Int) = 0 := by omega
  have hnb : ((m : Int) == 0) = false := beq_eq_false_iff_ne.2 hn0
  have hw : IntKind.i64.wrap ((m : Int) - (n : Int)) = (m : Int) - (n : Int) := IntWalk.i64_in _ (by omega)
  have hw2 : IntKind.i64.wrap (a + (n : Int)) = a + (n : Int) := IntWalk.i64_in _ (by omega)
  have h0 : ¬ a < 0 := by omega
  have h1 : ¬ (n : Int) < 1 := by omega
  have h2 : ¬ (m : Int) - (n : Int) < a := by omega
  have h3 : ¬ (ep : Int) < 1 := by omega
  have ha4 : 0 ≤ a ∧ a ≤ 4096 := by omega
  have hn4 : n ≤ 4096 := by omega
  obtain ⟨gr, hgr⟩ : ∃ g, g = Pt.greatest 1 S := ⟨_, rfl⟩
  have GR : Hid (∀ wx A c, Kp.StrsAt wx A S → Calls Tryz.prog 42 #[.slice A n c, .int .i64 1] wx fun e w' => e = .returned (.int .u64 (gr : Int)) ∧ wx = w') := fun wx A c hs => by
    have h := ptGreatest_any wx A c S 1 (by decide) hs (by rw [LL.out]; omega) LB.out
    rw [LL.out, ← hgr] at h
    exact h
  rw [← hgr] at OP
  have FI : Hid (∀ (wx : World) (k : Nat) (g o c : Nat), Lg.At B wx k r (fun q => q = k) (Lg.after ep a (a + (n : Int)) gr []) → B ≤ wx.heap.size → Kp.StrsAt wx (some ⟨g, o, none⟩) S → g ≠ k → n ≤ c → Calls Tryz.prog 43 #[.pointer (some ⟨k, 0, none⟩), .slice (some ⟨g, o, none⟩) n c] wx fun e' w' => ∃ bl', e' = .returned (.tuple #[]) ∧ Lg.At B w' k r bl' (Lg.after ep a (a + (n : Int)) gr (Lg.found ep S)) ∧ (∀ q, bl' q → q = k ∨ wx.heap.size ≤ q) ∧ Dk.Turned (fun q => q = k) wx w') := fun wx k g o c hat hb hs hg hc => by
    have h := lgFind_any hat hb g o c S hs hg (by rw [LL.out]; exact hc) (by rw [LL.out]; exact hn4) LB.out ha4 hep.2 hep.1
    rwa [LL.out] at h
  clear h hm hS he hgr hL
  go_enter Tryz.func16, Tryz.ntmps16
  go_upto_region 8 with (first
    | (go_at_call 40; refine SE.out.mono ?_; rintro e w2 ⟨rfl, rfl⟩)
    | (go_at_call 41; refine RD.out.mono ?_; rintro e w3 ⟨k3, v, rfl, hv⟩))
  obtain ⟨A, c, rfl, hc, hs⟩ := hv trivial
  have HS := Lib.hid hs
  have HC := Lib.hid hc
  obtain ⟨g, o, hA, hg, -⟩ := hs
  subst hA
  have hk3 := k3.size
  clear hc hv
  go_upto_region 9 with (go_at_call 42; refine (GR.out _ _ _ HS.out).mono ?_; rintro e w4 ⟨rfl, rfl⟩)
  have b4 : Below w.heap.size w (w3.alloc (.cells #[.pointer (some ⟨r, 0, none⟩), .int .u64 (ep : Int), .int .i64 a, .int .i64 (a + (n : Int)), .slice none 0 0, .int .u64 0, .int .u64 (gr : Int), .bool false] 69)) := k3.alloc k3.size _
  have g4 := heap_alloc_new w3 (.cells #[.pointer (some ⟨r, 0, none⟩), .int .u64 (ep : Int), .int .i64 a, .int .i64 (a + (n : Int)), .slice none 0 0, .int .u64 0, .int .u64 (gr : Int), .bool false] 69)
  have s4 := HS.out.low ((Below.refl w3.heap.size w3).alloc (Nat.le_refl _) (.cells #[.pointer (some ⟨r, 0, none⟩), .int .u64 (ep : Int), .int .i64 a, .int .i64 (a + (n : Int)), .slice none 0 0, .int .u64 0, .int .u64 (gr : Int), .bool false] 69))
  generalize w3.alloc (.cells #[.pointer (some ⟨r, 0, none⟩), .int .u64 (ep : Int), .int .i64 a, .int .i64 (a + (n : Int)), .slice none 0 0, .int .u64 0, .int .u64 (gr : Int), .bool false] 69) = w4 at *
  obtain ⟨k, hk⟩ : ∃ k, k = w3.heap.size := ⟨_, rfl⟩
  have hgk : g ≠ k := by omega
  have hkw : w.heap.size ≤ k := by omega
  rw [← hk] at g4 ⊢
  have hk4 := Sm.lt_of g4
  have AT4 : Lg.At B w4 k r (fun q => q = k) (Lg.after ep a (a + (n : Int)) gr []) := ⟨⟨.slice none 0 0, by rw [g4]; simp [Lg.cells, Lg.after, Lg.used, Lg.last], World.ownsRow_nil _ _ _ _, fun q hq => by cases hq⟩, rfl, fun q hq => by rw [hq]; exact ⟨by omega, hk4⟩⟩
  have FI4 := Lib.hid (FI.out w4 k g o c AT4 (by omega) s4 hgk HC.out)
  have B4 := Lib.hid b4
  clear hk s4 AT4 HS g4 b4 hg
  go_wp2_with (go_at_call 43; refine FI4.out.mono ?_; rintro e w5 ⟨bl5, rfl, at5, mo5, tu5⟩)
  go_ret2
  refine ⟨k, bl5, rfl, by rw [OP.out]; exact at5, fun q hq => ?_, B4.out.trans (tu5.below (fun q hq => by rw [hq]; exact hkw) B4.out.size)⟩
  rcases mo5 q hq with h | h
  · rw [h]; exact hkw
  · have := B4.out.size; omega
/-- Open of a disk that is there. -/
theorem lgOpen_any {B : Nat} {w0 w : World} {r : Nat} {fp : Nat → Prop} {M : Dk.Md} (h : Dk.Own B w0 w r fp M) (a n : Int) (ep : Nat) (hn : n ≤ 9223372036854775807) (hep : ep < 18446744073709551616) :
    Calls Tryz.prog 16 #[.pointer (some ⟨r, 0, none⟩), .int .i64 a, .int .i64 n, .int .u64 (ep : Int)] w fun e w' => Below w.heap.size w w' ∧
      ((Lg.openErr M a n ep ≠ 0 ∧ e = .returned (.tuple #[.pointer none, .int .i64 (Lg.openErr M a n ep)])) ∨
        (Lg.openErr M a n ep = 0 ∧ ∃ k bl, e = .returned (.tuple #[.pointer (some ⟨k, 0, none⟩), .int .i64 0]) ∧ Lg.At B w' k r bl (Lg.opened n.toNat (Kp.sees M a) a ep) ∧ (∀ q, bl q → w.heap.size ≤ q))) := by
  by_cases ha : a < 0 ∨ n < 1 ∨ (M.lasts.length : Int) - n < a ∨ ep = 0
  · have e : Lg.openErr M a n ep = 1 := by rw [Lg.openErr, if_pos ha]
    refine (lgOpen_arg h a n ep hn ha).mono ?_
    rintro e' w' ⟨rfl, rfl⟩
    exact ⟨Below.refl _ _, .inl ⟨by rw [e]; decide, by rw [e]⟩⟩
  · have e : Lg.openErr M a n ep = Lg.readErr M a n.toNat := by rw [Lg.openErr, if_neg ha]; rfl
    have hnn : ((n.toNat : Nat) : Int) = n := by omega
    rw [e]
    by_cases he : Lg.readErr M a n.toNat = 0
    · have := lgOpen_ok h a n.toNat ep (by omega) (by omega) (by omega) he
      rw [hnn] at this
      refine this.mono ?_
      rintro e' w' ⟨k, bl, rfl, h1, h2, h3⟩
      exact ⟨h3, .inr ⟨he, k, bl, rfl, h1, h2⟩⟩
    · have := lgOpen_err h a n.toNat ep (by omega) (by omega) (by omega) he
      rw [hnn] at this
      refine this.mono ?_
      rintro e' w' ⟨rfl, h3⟩
      exact ⟨h3, .inl ⟨he, rfl⟩⟩
end Go.Proofs.YtnmagfodjcookaaGreat

/-
  What log's Add does.
-/
namespace Go.Proofs.YtnmagfodjcookaaGreat
open Go.RowKit
namespace Lg
/-- What a Log that Open made is bound by. -/
structure Fit (L : Md) (M : Dk.Md) : Prop where
  next : 0 ≤ L.next ∧ L.next ≤ L.end_
  end_ : L.end_ ≤ M.lasts.length
  salt : L.salt < 18446744073709551616
  recs : L.recs.length ≤ 4096
  small : ∀ t ∈ L.recs, t.length ≤ 1024
theorem At.broke {B : Nat} {w : World} {k r : Nat} {bl : Nat → Prop} {L : Md} (h : At B w k r bl L) : At B (w.setCell ⟨k, 7, none⟩ (.bool true)) k r bl { L with broken := true } := by
  obtain ⟨v, h1, h2, h3⟩ := h.row
  refine ⟨⟨v, ?_, ?_, h3⟩, h.mem, fun q hq => ⟨(h.lt q hq).1, by have := (h.lt q hq).2; simpa using this⟩⟩
  · rw [Sm.heap_set h1]; rfl
  · exact Dk.own_block h2 fun q hq => Below.heap_setCell _ ⟨k, 7, none⟩ _ q (h3 q hq).2
theorem At.salted {B : Nat} {w : World} {k r : Nat} {bl : Nat → Prop} {L : Md} (h : At B w k r bl L) (s : Nat) : At B (w.setCell ⟨k, 6, none⟩ (.int .u64 (s : Int))) k r bl { L with salt := s } := by
  obtain ⟨v, h1, h2, h3⟩ := h.row
  refine ⟨⟨v, ?_, ?_, h3⟩, h.mem, fun q hq => ⟨(h.lt q hq).1, by have := (h.lt q hq).2; simpa using this⟩⟩
  · rw [Sm.heap_set h1]; rfl
  · exact Dk.own_block h2 fun q hq => Below.heap_setCell _ ⟨k, 6, none⟩ _ q (h3 q hq).2
theorem At.cells {B : Nat} {w : World} {k r : Nat} {bl : Nat → Prop} {L : Md} (h : At B w k r bl L) : ∃ v, w.heap[k]? = some (.cells (Lg.cells r v L) 69 (0, 0)) := by
  obtain ⟨v, h1, -, -⟩ := h.row
  exact ⟨v, h1⟩
end Lg
set_option maxRecDepth 100000 in
theorem lgAdd_nil (w : World) (t : ByteArray) : Calls Tryz.prog 10 #[.pointer none, .string t] w fun e w' => e = .returned (.int .i64 2) ∧ w = w' := by
  have NO := Lib.hid (lgNone_nil w)
  go_enter Tryz.func10, Tryz.ntmps10
  go_wp2_with (go_at_call 22; refine NO.out.mono ?_; rintro e w2 ⟨rfl, rfl⟩)
  go_ret
  exact ⟨rfl, rfl⟩
set_option maxRecDepth 100000 in
set_option maxHeartbeats 4000000 in
theorem lgAdd_any {B : Nat} {w0 w : World} {r : Nat} {fp : Nat → Prop} {M : Dk.Md} {k : Nat} {bl : Nat → Prop} {L : Lg.Md} (h : Lg.Own B w0 w r fp M k bl L) (hf : Lg.Fit L M) (hr : Dk.waits M + 32 ≤ 1099511627776) (t : ByteArray) (htz : t.size ≤ 9223372036854775807) :
    Calls Tryz.prog 10 #[.pointer (some ⟨k, 0, none⟩), .string t] w fun e w' => ∃ fp' bl', e = .returned (.int .i64 (Lg.add L M t.data.toList).2.2) ∧ Lg.Step B w0 w w' r fp fp' (Lg.add L M t.data.toList).2.1 k bl bl' (Lg.add L M t.data.toList).1 := by
  have NO := Lib.hid (lgNone_at h.at_)
  have htl : t.data.toList.length = t.size := by simp
  have H := Lib.hid h
  have hM := h.disk.disk.ok.n
  have hBw := h.disk.size
  obtain ⟨vr, hv⟩ := h.at_.cells
  have c7 := Sm.cells_of hv 7 (.bool L.broken) rfl
  have c6 := Sm.cells_of hv 6 (.int .u64 (L.salt : Int)) rfl
  have hkl := Sm.lt_of hv
  clear h
  by_cases hb : L.broken = true
  · have e : Lg.add L M t.data.toList = (L, M, 11) := by rw [Lg.add, if_pos hb]
    rw [e]
    rw [hb] at c7
    clear hb e hv
    go_enter Tryz.func10, Tryz.ntmps10
    go_wp2_with (go_at_call 22; refine NO.out.mono ?_; rintro e w2 ⟨rfl, rfl⟩)
    go_ret
    exact ⟨fp, bl, rfl, Lg.Step.refl H.out⟩
  have hbf : L.broken = false := by simpa using hb
  rw [hbf] at c7
  by_cases h4 : 1024 < t.size
  · have e : Lg.add L M t.data.toList = (L, M, 3) := by rw [Lg.add, if_neg hb, if_pos (by rw [htl]; exact h4)]
    rw [e]
    have hi : (1024 : Int) < t.size := by omega
    clear hb e htl hv
    go_enter Tryz.func10, Tryz.ntmps10
    go_wp2_with (go_at_call 22; refine NO.out.mono ?_; rintro e w2 ⟨rfl, rfl⟩)
    go_ret
    exact ⟨fp, bl, rfl, Lg.Step.refl H.out⟩
  have hi : ¬ (1024 : Int) < t.size := by omega
  have hs64 := hf.salt
  have hnx := hf.next
  have hen := hf.end_
  have hrc := hf.recs
  obtain ⟨tl, htl2⟩ : ∃ l, l = t.data.toList := ⟨_, rfl⟩
  have hP32 : Pt.parts 32 tl ≤ 32 := Lg.parts_33 (by rw [htl2, htl]; omega)
  obtain ⟨P, hP⟩ : ∃ P, P = Pt.parts 32 tl := ⟨_, rfl⟩
  have PA : Hid (∀ wx : World, Calls Tryz.prog 23 #[.string t] wx fun e w' => e = .returned (.int .i64 (P : Int)) ∧ wx = w') := fun wx => by
    have h := lgParts_any wx t (by omega)
    rwa [← htl2, ← hP] at h
  obtain ⟨rm, hrm⟩ : ∃ x : Int, x = L.end_ - L.next := ⟨_, rfl⟩
  have RO : Hid (Calls Tryz.prog 20 #[.pointer (some ⟨k, 0, none⟩)] w fun e w' => e = .returned (.int .i64 rm) ∧ Below w.heap.size w w') := by
    rw [hrm]; exact lgRoom_at H.out.at_ (by omega)
  rw [← htl2]
  by_cases h5 : rm < (P : Int)
  · have e : Lg.add L M tl = (L, M, 6) := by rw [Lg.add, if_neg hb, if_neg (by rw [htl2, htl]; exact h4), if_pos (.inl (by rw [← hP, ← hrm]; exact h5))]
    rw [e]
    clear hb e htl hv htl2 hP hrm hf
    go_enter Tryz.func10, Tryz.ntmps10
    go_wp2_with (first
      | (go_at_call 22; refine NO.out.mono ?_; rintro e w2 ⟨rfl, rfl⟩)
      | (go_at_call 23; refine (PA.out _).mono ?_; rintro e w3 ⟨rfl, rfl⟩)
      | (go_at_call 20; refine RO.out.mono ?_; rintro e w4 ⟨rfl, k4⟩))
    go_ret
    exact ⟨fp, bl, rfl, (Lg.Step.refl H.out).low k4⟩
  by_cases h6 : L.salt = 18446744073709551615
  · have e : Lg.add L M tl = (L, M, 6) := by rw [Lg.add, if_neg hb, if_neg (by rw [htl2, htl]; exact h4), if_pos (.inr h6)]
    rw [e]
    rw [h6] at c6
    clear hb e htl hv htl2 hP hrm hf h6
    go_enter Tryz.func10, Tryz.ntmps10
    go_wp2_with (first
      | (go_at_call 22; refine NO.out.mono ?_; rintro e w2 ⟨rfl, rfl⟩)
      | (go_at_call 23; refine (PA.out _).mono ?_; rintro e w3 ⟨rfl, rfl⟩)
      | (go_at_call 20; refine RO.out.mono ?_; rintro e w4 ⟨rfl, k4⟩; have c6' := (k4.cell (p := ⟨k, 6, none⟩) hkl).trans c6))
    go_ret
    exact ⟨fp, bl, rfl, (Lg.Step.refl H.out).low k4⟩
  obtain ⟨Z, hZ⟩ : ∃ Z, Z = Kp.save M L.next (Lg.lot L tl) := ⟨_, rfl⟩
  have AD : Hid (Lg.add L M tl = if Z.2 = 0 then (Lg.added L tl, Z.1, 0) else ({ L with broken := true }, Z.1, Z.2)) := by
    show _ = _
    rw [Lg.add, if_neg hb, if_neg (by rw [htl2, htl]; exact h4), if_neg (by rw [← hP, ← hrm]; omega), ← hZ]
  obtain ⟨sn, hsn⟩ : ∃ s, s = L.salt := ⟨_, rfl⟩
  obtain ⟨ep, hep⟩ : ∃ s, s = L.ep := ⟨_, rfl⟩
  obtain ⟨ah, hah⟩ : ∃ s, s = L.ahead := ⟨_, rfl⟩
  obtain ⟨nx, hnxe⟩ : ∃ s, s = L.next := ⟨_, rfl⟩
  have CSA : Hid (∀ wx bl2 fp2 (M2 : Dk.Md), Lg.Own B w0 wx r fp2 M2 k bl2 L → wx.cell? ⟨k, 0, none⟩ = some (.pointer (some ⟨r, 0, none⟩)) ∧ wx.cell? ⟨k, 1, none⟩ = some (.int .u64 (ep : Int)) ∧ wx.cell? ⟨k, 2, none⟩ = some (.int .i64 nx) ∧ wx.cell? ⟨k, 5, none⟩ = some (.int .u64 (ah : Int))) := fun wx bl2 fp2 M2 hx => by
    obtain ⟨v, h1⟩ := hx.at_.cells
    rw [hep, hah, hnxe]
    exact ⟨Sm.cells_of h1 0 _ rfl, Sm.cells_of h1 1 _ rfl, Sm.cells_of h1 2 _ rfl, Sm.cells_of h1 5 _ rfl⟩
  have CS : Hid (∀ wx, Below w.heap.size w wx → wx.cell? ⟨k, 0, none⟩ = some (.pointer (some ⟨r, 0, none⟩)) ∧ wx.cell? ⟨k, 1, none⟩ = some (.int .u64 (ep : Int)) ∧ wx.cell? ⟨k, 2, none⟩ = some (.int .i64 nx) ∧ wx.cell? ⟨k, 5, none⟩ = some (.int .u64 (ah : Int))) := fun wx hx => CSA.out wx bl fp M (H.out.below hx)
  have CS5 : Hid (∀ wx (fp2 : Nat → Prop) (M2 : Dk.Md) (bl2 : Nat → Prop), Lg.At B wx k r bl2 L → wx.cell? ⟨k, 0, none⟩ = some (.pointer (some ⟨r, 0, none⟩)) ∧ wx.cell? ⟨k, 1, none⟩ = some (.int .u64 (ep : Int)) ∧ wx.cell? ⟨k, 2, none⟩ = some (.int .i64 nx) ∧ wx.cell? ⟨k, 5, none⟩ = some (.int .u64 (ah : Int))) := fun wx fp2 M2 bl2 hx => by
    obtain ⟨v, h1⟩ := hx.cells
    rw [hep, hah, hnxe]
    exact ⟨Sm.cells_of h1 0 _ rfl, Sm.cells_of h1 1 _ rfl, Sm.cells_of h1 2 _ rfl, Sm.cells_of h1 5 _ rfl⟩
  have hlot : Lg.lot L tl = Pt.bodies [ep, sn + 1, ah] 32 tl := by rw [hep, hsn, hah]; rfl
  have BO : Hid (∀ (wx : World) (A : Option Addr) (c : Nat), Pt.NumsAt wx A [ep, sn + 1, ah] → Calls Tryz.prog 25 #[.string t, .slice A 3 c] wx fun e w' => ∃ A' c', e = .returned (.slice A' P c') ∧ Kp.StrsAt w' A' (Lg.lot L tl) ∧ (∀ q o, A' = some ⟨q, o, none⟩ → wx.heap.size ≤ q) ∧ Below wx.heap.size wx w') := fun wx A c hA => by
    have h := ptBodies_new wx t A c [ep, sn + 1, ah] (n := 32) (by rfl) (by simp) (by simp) hA (by omega)
    rw [← htl2, ← hP, ← hlot] at h
    exact h
  have hnx2 : 0 ≤ nx ∧ nx ≤ 1099511627776 := by omega
  have WR : Hid (∀ (wx : World), Below w.heap.size w wx → ∀ (A : Option Addr) (c : Nat), Kp.StrsAt wx A (Lg.lot L tl) → (∀ q o, A = some ⟨q, o, none⟩ → w.heap.size ≤ q) → Calls Tryz.prog 24 #[.pointer (some ⟨r, 0, none⟩), .int .i64 nx, .slice A P c] wx fun e w' => ∃ fp', e = .returned (.int .i64 Z.2) ∧ Dk.Step B w0 wx w' r fp fp' Z.1) := fun wx hx A c hs hq => by
    have hll : (Lg.lot L tl).length = P := by rw [Lg.lot_length, hP]
    have h := ptWrite_any (H.out.disk.low hx) A c (Lg.lot L tl) hs (fun q o e hf => by have h1 := hq q o e; have h2 := H.out.disk.lt q hf; omega) (Lg.lot_all L tl) (by omega) (by omega) nx hnx2
    rw [hll, hnxe, ← hZ] at h
    rw [hnxe]
    exact h
  have CL : Hid (∀ wx : World, Calls Tryz.prog 27 #[.string t] wx fun e w' => e = .returned (.string t) ∧ Below wx.heap.size wx w') := fun wx => strings_Clone_any wx t (by omega)
  rw [← hsn] at c6 h6 hs64
  have hsi : ¬ (sn : Int) = 18446744073709551615 := by omega
  have hsb : ((sn : Int) == 18446744073709551615) = false := beq_eq_false_iff_ne.2 hsi
  have hsw : IntKind.u64.wrap ((sn : Int) + 1) = (sn : Int) + 1 := by rw [IntKind.wrap_u64]; omega
  have TK : Hid (∀ wx fp2 (M2 : Dk.Md), Lg.Own B w0 wx r fp2 M2 k bl L → Calls Tryz.prog 26 #[.pointer (some ⟨k, 0, none⟩), .string t, .int .u64 ((sn : Int) + 1)] wx fun e w' => ∃ bl', e = .returned (.tuple #[]) ∧ Lg.Step B w0 wx w' r fp2 fp2 M2 k bl bl' (Lg.took L tl (sn + 1))) := fun wx fp2 M2 hx => by
    have h := lgTook_any hx.at_ t (by omega) (sn + 1) (by omega) (by omega) hx.disk.size
    rw [← htl2] at h
    push_cast at h
    refine h.mono ?_
    rintro e w' ⟨bl', rfl, h1, h2, h3⟩
    exact ⟨bl', rfl, hx.set h3 h1 h2⟩
  have HBF := Lib.hid hbf
  have HSN := Lib.hid hsn
  have HTA : Hid ({ Lg.took L tl (sn + 1) with salt := sn + 1 } = Lg.added L tl) := by
    show _ = _
    simp only [Lg.took, Lg.added, hbf, hsn]
  clear hb h4 htl htl2 hP hrm hf hbf hZ hsn hep hah hnxe hlot hv hP32 hrc
  go_enter Tryz.func10, Tryz.ntmps10
  go_upto_region 10 with (first
    | (go_at_call 22; refine NO.out.mono ?_; rintro e w2 ⟨rfl, rfl⟩)
    | (go_at_call 23; refine (PA.out _).mono ?_; rintro e w3 ⟨rfl, rfl⟩)
    | (go_at_call 20; refine RO.out.mono ?_; rintro e w4 ⟨rfl, k4⟩; have c6' := (k4.cell (p := ⟨k, 6, none⟩) hkl).trans c6))
  have b2 : Below w.heap.size w w4.drew := Sm.below_drewN k4 1
  refine wp_region_held_drew (S := fun wx => wx.cell? ⟨k, 0, none⟩ = some (.pointer (some ⟨r, 0, none⟩)) ∧ wx.cell? ⟨k, 1, none⟩ = some (.int .u64 (ep : Int)) ∧ wx.cell? ⟨k, 2, none⟩ = some (.int .i64 nx) ∧ wx.cell? ⟨k, 5, none⟩ = some (.int .u64 (ah : Int))) (by kernel_rfl) (CS.out _ b2) (fun hHeld => ?_)
  generalize w4.drew = W2 at *
  clear c6 c6' c7 k4
  refine wpAnyH_take (i := 0) (oi := ⟨some 33, _, _, _, _, _⟩) (v := .pointer (some ⟨k, 0, none⟩)) rfl (by kernel_rfl) (by kernel_rfl) (by kernel_rfl) (fun _ _ _ h => h) (Or.inl ⟨by rfl, ?_⟩) (by assumption) ?_
  · intro w hSw; (try dsimp only at hSw); go_simp
  simp only [Act.put, List.setIfInBounds_toArray, List.set_cons_zero, List.set_cons_succ]
  refine wpAnyH_take (i := 1) (oi := ⟨some 34, _, _, _, _, _⟩) (v := .pointer (some ⟨k, 0, none⟩)) rfl (by kernel_rfl) (by kernel_rfl) (by kernel_rfl) (fun _ _ _ h => h) (Or.inl ⟨by rfl, ?_⟩) (by assumption) ?_
  · intro w hSw; (try dsimp only at hSw); obtain ⟨y0, y1, y2, y5⟩ := hSw; go_simp
  simp only [Act.put, List.setIfInBounds_toArray, List.set_cons_zero, List.set_cons_succ]
  refine wpAnyH_take (i := 2) (oi := ⟨some 35, _, _, _, _, _⟩) (v := .pointer (some ⟨k, 0, none⟩)) rfl (by kernel_rfl) (by kernel_rfl) (by kernel_rfl) (fun _ _ _ h => h) (Or.inl ⟨by rfl, ?_⟩) (by assumption) ?_
  · intro w hSw; (try dsimp only at hSw); go_simp
  simp only [Act.put, List.setIfInBounds_toArray, List.set_cons_zero, List.set_cons_succ]
  refine wpAnyH_take (i := 3) (oi := ⟨some 36, _, _, _, _, _⟩) (v := .pointer (some ⟨r, 0, none⟩)) rfl (by kernel_rfl) (by kernel_rfl) (by kernel_rfl) (fun _ _ _ h => h) (Or.inl ⟨by rfl, ?_⟩) (by assumption) ?_
  · intro w hSw; (try dsimp only at hSw); obtain ⟨y0, y1, y2, y5⟩ := hSw; go_simp
  simp only [Act.put, List.setIfInBounds_toArray, List.set_cons_zero, List.set_cons_succ]
  refine wpAnyH_take (i := 4) (oi := ⟨some 37, _, _, _, _, _⟩) (v := .pointer (some ⟨k, 0, none⟩)) rfl (by kernel_rfl) (by kernel_rfl) (by kernel_rfl) (fun _ _ _ h => h) (Or.inl ⟨by rfl, ?_⟩) (by assumption) ?_
  · intro w hSw; (try dsimp only at hSw); go_simp
  simp only [Act.put, List.setIfInBounds_toArray, List.set_cons_zero, List.set_cons_succ]
  refine wpAnyH_take (i := 5) (oi := ⟨some 38, _, _, _, _, _⟩) (v := .pointer (some ⟨k, 0, none⟩)) rfl (by kernel_rfl) (by kernel_rfl) (by kernel_rfl) (fun _ _ _ h => h) (Or.inl ⟨by rfl, ?_⟩) (by assumption) ?_
  · intro w hSw; (try dsimp only at hSw); obtain ⟨y0, y1, y2, y5⟩ := hSw; go_simp
  simp only [Act.put, List.setIfInBounds_toArray, List.set_cons_zero, List.set_cons_succ]
  refine wpAnyH_take (i := 6) (oi := ⟨some 39, _, _, _, _, _⟩) (v := .pointer (some ⟨k, 2, none⟩)) rfl (by kernel_rfl) (by kernel_rfl) (by kernel_rfl) (fun _ _ _ h => h) (Or.inl ⟨by rfl, ?_⟩) (by assumption) ?_
  · intro w hSw; (try dsimp only at hSw); go_simp
  simp only [Act.put, List.setIfInBounds_toArray, List.set_cons_zero, List.set_cons_succ]
  refine wpAnyH_take (i := 7) (oi := ⟨some 40, _, _, _, _, _⟩) (v := .int .i64 nx) rfl (by kernel_rfl) (by kernel_rfl) (by kernel_rfl) (fun _ _ _ h => h) (Or.inl ⟨by rfl, ?_⟩) (by assumption) ?_
  · intro w hSw; (try dsimp only at hSw); obtain ⟨y0, y1, y2, y5⟩ := hSw; go_simp
  simp only [Act.put, List.setIfInBounds_toArray, List.set_cons_zero, List.set_cons_succ]
  refine wpAnyH_take (i := 8) (oi := ⟨some 41, _, _, _, _, _⟩) (v := .string t) rfl (by kernel_rfl) (by kernel_rfl) (by kernel_rfl) (fun _ _ _ h => h) (Or.inl ⟨by rfl, ?_⟩) (by assumption) ?_
  · intro w hSw; (try dsimp only at hSw); go_simp
  simp only [Act.put, List.setIfInBounds_toArray, List.set_cons_zero, List.set_cons_succ]
  refine wpAnyH_take (i := 9) (oi := ⟨some 42, _, _, _, _, _⟩) (v := .pointer (some ⟨k, 0, none⟩)) rfl (by kernel_rfl) (by kernel_rfl) (by kernel_rfl) (fun _ _ _ h => h) (Or.inl ⟨by rfl, ?_⟩) (by assumption) ?_
  · intro w hSw; (try dsimp only at hSw); go_simp
  simp only [Act.put, List.setIfInBounds_toArray, List.set_cons_zero, List.set_cons_succ]
  refine wpAnyH_take (i := 10) (oi := ⟨some 43, _, _, _, _, _⟩) (v := .pointer (some ⟨k, 0, none⟩)) rfl (by kernel_rfl) (by kernel_rfl) (by kernel_rfl) (fun _ _ _ h => h) (Or.inl ⟨by rfl, ?_⟩) (by assumption) ?_
  · intro w hSw; (try dsimp only at hSw); obtain ⟨y0, y1, y2, y5⟩ := hSw; go_simp
  simp only [Act.put, List.setIfInBounds_toArray, List.set_cons_zero, List.set_cons_succ]
  refine wpAnyH_take (i := 11) (oi := ⟨some 44, _, _, _, _, _⟩) (v := .pointer (some ⟨k, 1, none⟩)) rfl (by kernel_rfl) (by kernel_rfl) (by kernel_rfl) (fun _ _ _ h => h) (Or.inl ⟨by rfl, ?_⟩) (by assumption) ?_
  · intro w hSw; (try dsimp only at hSw); go_simp
  simp only [Act.put, List.setIfInBounds_toArray, List.set_cons_zero, List.set_cons_succ]
  refine wpAnyH_take (i := 12) (oi := ⟨some 45, _, _, _, _, _⟩) (v := .int .u64 (ep : Int)) rfl (by kernel_rfl) (by kernel_rfl) (by kernel_rfl) (fun _ _ _ h => h) (Or.inl ⟨by rfl, ?_⟩) (by assumption) ?_
  · intro w hSw; (try dsimp only at hSw); obtain ⟨y0, y1, y2, y5⟩ := hSw; go_simp
  simp only [Act.put, List.setIfInBounds_toArray, List.set_cons_zero, List.set_cons_succ]
  refine wpAnyH_take (i := 13) (oi := ⟨some 46, _, _, _, _, _⟩) (v := .int .u64 ((sn : Int) + 1)) rfl (by kernel_rfl) (by kernel_rfl) (by kernel_rfl) (fun _ _ _ h => h) (Or.inl ⟨by rfl, ?_⟩) (by assumption) ?_
  · intro w hSw; (try dsimp only at hSw); go_simp
  simp only [Act.put, List.setIfInBounds_toArray, List.set_cons_zero, List.set_cons_succ]
  refine wpAnyH_take (i := 14) (oi := ⟨some 47, _, _, _, _, _⟩) (v := .pointer (some ⟨k, 0, none⟩)) rfl (by kernel_rfl) (by kernel_rfl) (by kernel_rfl) (fun _ _ _ h => h) (Or.inl ⟨by rfl, ?_⟩) (by assumption) ?_
  · intro w hSw; (try dsimp only at hSw); go_simp
  simp only [Act.put, List.setIfInBounds_toArray, List.set_cons_zero, List.set_cons_succ]
  refine wpAnyH_take (i := 15) (oi := ⟨some 48, _, _, _, _, _⟩) (v := .pointer (some ⟨k, 0, none⟩)) rfl (by kernel_rfl) (by kernel_rfl) (by kernel_rfl) (fun _ _ _ h => h) (Or.inl ⟨by rfl, ?_⟩) (by assumption) ?_
  · intro w hSw; (try dsimp only at hSw); obtain ⟨y0, y1, y2, y5⟩ := hSw; go_simp
  simp only [Act.put, List.setIfInBounds_toArray, List.set_cons_zero, List.set_cons_succ]
  refine wpAnyH_take (i := 16) (oi := ⟨some 49, _, _, _, _, _⟩) (v := .pointer (some ⟨k, 5, none⟩)) rfl (by kernel_rfl) (by kernel_rfl) (by kernel_rfl) (fun _ _ _ h => h) (Or.inl ⟨by rfl, ?_⟩) (by assumption) ?_
  · intro w hSw; (try dsimp only at hSw); go_simp
  simp only [Act.put, List.setIfInBounds_toArray, List.set_cons_zero, List.set_cons_succ]
  refine wpAnyH_take (i := 17) (oi := ⟨some 50, _, _, _, _, _⟩) (v := .int .u64 (ah : Int)) rfl (by kernel_rfl) (by kernel_rfl) (by kernel_rfl) (fun _ _ _ h => h) (Or.inl ⟨by rfl, ?_⟩) (by assumption) ?_
  · intro w hSw; (try dsimp only at hSw); obtain ⟨y0, y1, y2, y5⟩ := hSw; go_simp
  simp only [Act.put, List.setIfInBounds_toArray, List.set_cons_zero, List.set_cons_succ]
  refine wpAnyH_ready (rs := [18]) (by kernel_rfl) (by simp) ?_
  refine (AllReadyH.cons (o := ⟨some 51, _, _, _, _, _⟩) rfl (fun K hK => ?_) AllReadyH.nil)
  go_simp
  have b3 := b2.alloc b2.size (.cells #[.int .u64 (ep : Int), .int .u64 ((sn : Int) + 1), .int .u64 (ah : Int)] 22)
  have g3 := heap_alloc_new W2 (.cells #[.int .u64 (ep : Int), .int .u64 ((sn : Int) + 1), .int .u64 (ah : Int)] 22)
  obtain ⟨nn, hnn⟩ : ∃ n, n = W2.heap.size := ⟨_, rfl⟩
  rw [← hnn] at g3 ⊢
  clear hnn
  generalize W2.alloc (.cells #[.int .u64 (ep : Int), .int .u64 ((sn : Int) + 1), .int .u64 (ah : Int)] 22) = W3 at *
  have HN3 : Pt.NumsAt W3 (some ⟨nn, 0, none⟩) [ep, sn + 1, ah] := ⟨nn, 0, rfl, Sm.lt_of g3, fun i hi => by
    match i, hi with
    | 0, _ => exact Sm.cells_of g3 0 _ rfl
    | 1, _ => exact (Sm.cells_of g3 1 _ rfl)
    | 2, _ => exact Sm.cells_of g3 2 _ rfl
    | n + 3, h => simp at h; omega⟩
  have BO3 := Lib.hid (BO.out W3 _ 3 HN3)
  have B3 := Lib.hid b3
  clear b3 g3 HN3
  refine hK.out _ _ (CS.out _ B3.out) (fun hHeld => ?_)
  clear hK K
  refine wpAnyH_ready (rs := [19]) (by kernel_rfl) (by simp) ?_
  refine (AllReadyH.cons (o := ⟨some 52, _, _, _, _, _⟩) rfl (fun K hK => ?_) AllReadyH.nil)
  go_simp
  refine (BO3.out).mono ?_
  rintro e W4 ⟨Ab, cb, rfl, sb, nq, k4⟩
  have b4 : Below w.heap.size w W4 := B3.out.trans (k4.mono B3.out.size)
  have WR4 := Lib.hid (WR.out W4 b4 Ab cb sb (fun q o e => Nat.le_trans B3.out.size (nq q o e)))
  have B4 := Lib.hid b4
  clear b4 k4 sb nq
  refine hK.out _ _ (CS.out _ B4.out) (fun hHeld => ?_)
  clear hK K
  refine wpAnyH_ready (rs := [20]) (by kernel_rfl) (by simp) ?_
  refine (AllReadyH.cons (o := ⟨some 53, _, _, _, _, _⟩) rfl (fun K hK => ?_) AllReadyH.nil)
  go_simp
  refine (WR4.out).mono ?_
  rintro e W5 ⟨fp5, rfl, st5⟩
  have ST5 := Lib.hid ((Lg.Step.refl H.out).low B4.out |>.trans ((H.out.below B4.out).act st5))
  clear st5
  refine hK.out _ _ (CS5.out _ fp5 Z.1 bl ST5.out.own.at_) (fun hHeld => ?_)
  clear hK K
  refine wpAnyH_take (i := 21) (oi := ⟨some 6, _, _, _, _, _⟩) (v := .int .i64 Z.2) rfl (by kernel_rfl) (by kernel_rfl) (by kernel_rfl) (fun _ _ _ h => h) (Or.inl ⟨by rfl, ?_⟩) (by assumption) ?_
  · intro w hSw; (try dsimp only at hSw); go_simp
  simp only [Act.put, List.setIfInBounds_toArray, List.set_cons_zero, List.set_cons_succ]
  refine wpAnyH_done (by kernel_rfl) ?_ _
  have S5 := ST5.out
  by_cases hz : Z.2 = 0
  · have AD2 : Hid (Lg.add L M tl = (Lg.added L tl, Z.1, 0)) := by
      show _ = _
      rw [AD.out, if_pos hz]
    rw [hz]
    have TK5 := Lib.hid (fun wx (hb : Below W5.heap.size W5 wx) => TK.out wx fp5 Z.1 (S5.own.below hb))
    clear hz S5
    go_upto_region 15 with (first
      | (go_at_call 27; refine (CL.out _).mono ?_; rintro e w6 ⟨rfl, k6⟩)
      | (go_at_call 26; refine (TK5.out _ k6).mono ?_; rintro e w7 ⟨bl7, rfl, st7⟩; have ST7 := Lib.hid ((ST5.out.low k6).trans st7); clear st7; obtain ⟨v7, g7⟩ := ST7.out.own.at_.cells; have d7 := Sm.cells_of g7 6 _ rfl; have f7 := Sm.free_of g7 6))
    have at8 := ST7.out.own.at_.salted (sn + 1)
    rw [HTA.out] at at8
    have ST8 := Lib.hid (ST7.out.trans (ST7.out.own.set (Lg.turned_more (Lg.turned_set w7 k 6 (.int .u64 ((sn + 1 : Nat) : Int))) (fun q e => by rw [e]; exact ST7.out.own.at_.mem)) at8 (fun q hq => .inl hq)))
    clear at8
    go_wp2_with fail
    go_ret
    rw [AD2.out]
    exact ⟨fp5, bl7, rfl, ST8.out⟩
  · have AD2 : Hid (Lg.add L M tl = ({ L with broken := true }, Z.1, Z.2)) := by
      show _ = _
      rw [AD.out, if_neg hz]
    obtain ⟨v5, g5⟩ := S5.own.at_.cells
    have d7 := Sm.cells_of g5 7 (.bool L.broken) rfl
    have f7 := Sm.free_of g5 7
    have ST6 := Lib.hid (S5.trans (S5.own.set (Lg.turned_more (Lg.turned_set W5 k 7 (.bool true)) (fun q e => by rw [e]; exact S5.own.at_.mem)) S5.own.at_.broke (fun q hq => .inl hq)))
    obtain ⟨y, hy⟩ : ∃ y, y = Z.2 := ⟨_, rfl⟩
    have HYY := Lib.hid hy
    rw [← hy] at hz ⊢
    have hyb : (y == 0) = false := beq_eq_false_iff_ne.2 hz
    clear hy S5
    go_wp2_with fail
    go_ret
    rw [AD2.out]
    exact ⟨fp5, bl, by rw [← HYY.out]; rfl, ST6.out⟩
end Go.Proofs.YtnmagfodjcookaaGreat

/-
  Texts compared, row by row; what two rows of texts are.
-/
namespace Go.Proofs.YtnmagfodjcookaaGreat
open Go.RowKit
namespace Lg
theorem take_same {xs ys : List (List UInt8)} {i : Nat} (h1 : i < xs.length) (h2 : i < ys.length) (h : xs.take i = ys.take i) (e : xs.getD i [] = ys.getD i []) : xs.take (i + 1) = ys.take (i + 1) := by
  rw [List.getD_eq_getElem?_getD, List.getD_eq_getElem?_getD, List.getElem?_eq_getElem h1, List.getElem?_eq_getElem h2] at e
  have e' : xs[i] = ys[i] := e
  rw [List.take_succ_eq_append_getElem h1, List.take_succ_eq_append_getElem h2, h, e']
end Lg
theorem Lg.arr_ne {a b : List UInt8} (h : a ≠ b) : (ByteArray.mk a.toArray) ≠ ⟨b.toArray⟩ := fun e => h (by
  have := congrArg (fun x : ByteArray => x.data.toList) e
  simpa using this)
set_option maxRecDepth 100000 in
set_option maxHeartbeats 1000000 in
theorem same10_any (w : World) (A1 A2 : Option Addr) (c1 c2 : Nat) (xs ys : List (List UInt8)) (h1 : Lg.Rows w A1 xs) (h2 : Lg.Rows w A2 ys) (hx : xs.length ≤ 1099511627776) (_ : ys.length ≤ 1099511627776) (g : Bool) (hg : g = decide (xs = ys)) :
    Calls Tryz.prog 18 #[.slice A1 xs.length c1, .slice A2 ys.length c2] w fun e w' => e = .returned (.bool g) ∧ Below w.heap.size w w' := by
  by_cases hl : xs.length = ys.length
  · have HG := Lib.hid hg
    have H1 := Lib.hid h1
    have H2 := Lib.hid h2
    have GT : Hid (∀ i, i < xs.length → ∃ g o, A1 = some ⟨g, o, none⟩ ∧ w.cell? ⟨g, o + i, none⟩ = some (.string ⟨(xs.getD i []).toArray⟩)) := fun i hi => H1.out.get hi
    have GT2 : Hid (∀ i, i < xs.length → ∃ g o, A2 = some ⟨g, o, none⟩ ∧ w.cell? ⟨g, o + i, none⟩ = some (.string ⟨(ys.getD i []).toArray⟩)) := fun i hi => H2.out.get (by omega)
    rw [← hl]
    obtain ⟨n, hn⟩ : ∃ n, n = xs.length := ⟨_, rfl⟩
    have HN := Lib.hid hn
    have HL := Lib.hid hl
    rw [← hn] at hx GT GT2 ⊢
    clear hg h1 h2 hn hl
    go_enter Tryz.func18, Tryz.ntmps18
    go_wp2_with fail
    go_loopw [5] (fun s5 wr => ∃ i : Nat, s5 = .int .i64 i ∧ i ≤ n ∧ xs.take i = ys.take i ∧ Pt.Drew w wr) (fun s5 _ => n - (intOf s5).toNat)
    case atStart => exact ⟨0, rfl, Nat.zero_le _, rfl, 0, rfl⟩
    case round =>
      obtain ⟨i, rfl, hi, htk, dq, rfl⟩ := hrel
      have HTK := Lib.hid htk
      clear htk
      by_cases hlt : i < n
      · have hki : (i : Int) < (n : Int) := by omega
        have hsuc : IntKind.i64.wrap ((i : Int) + 1) = ((i + 1 : Nat) : Int) := by simp [IntKind.wrap, IntKind.bits, IntKind.signed]; omega
        obtain ⟨g1, o1, rfl, d1⟩ := GT.out i hlt
        obtain ⟨g2, o2, rfl, d2⟩ := GT2.out i hlt
        have d1' : (w.drewN dq).cell? ⟨g1, o1 + i, none⟩ = some (.string ⟨(xs.getD i []).toArray⟩) := d1
        have d2' : (w.drewN dq).cell? ⟨g2, o2 + i, none⟩ = some (.string ⟨(ys.getD i []).toArray⟩) := d2
        by_cases e : xs.getD i [] = ys.getD i []
        · have HNX := Lib.hid (Lg.take_same (by rw [← HN.out]; exact hlt) (by rw [← HL.out, ← HN.out]; exact hlt) HTK.out e)
          rw [← e] at d2 d2'
          obtain ⟨b, hb⟩ : ∃ b : ByteArray, b = ⟨(xs.getD i []).toArray⟩ := ⟨_, rfl⟩
          rw [← hb] at d1 d2 d1' d2'
          clear hb e
          go_upto_region 6 with (fail)
          go_quiet (fail)
          go_wp2_with fail
          go_roundw
          case rel => exact ⟨i + 1, rfl, by omega, HNX.out, _, rfl⟩
          case measure => simp only [intOf]; omega
        · have hgf : g = false := by
            rw [HG.out]
            exact decide_eq_false fun e2 => e (by rw [e2])
          have hne := Lg.arr_ne e
          obtain ⟨b1, hb1⟩ : ∃ b : ByteArray, b = ⟨(xs.getD i []).toArray⟩ := ⟨_, rfl⟩
          obtain ⟨b2, hb2⟩ : ∃ b : ByteArray, b = ⟨(ys.getD i []).toArray⟩ := ⟨_, rfl⟩
          rw [← hb1, ← hb2] at hne
          rw [← hb1] at d1 d1'
          rw [← hb2] at d2 d2'
          have hs1 := Dk.str_ne hne
          have hs2 : ¬ b1.toList = b2.toList := by simpa using hs1
          subst hgf
          clear hb1 hb2 e hne
          go_upto_region 6 with (fail)
          go_quiet (fail)
          go_wp2_with fail
          go_ret
          exact ⟨rfl, ⟨rfl, rfl, rfl, Nat.le_refl _, fun _ _ => rfl⟩⟩
      · have hki : ¬ (i : Int) < (n : Int) := by omega
        have hin : i = n := by omega
        have hgt : g = true := by
          have h1 := HTK.out
          rw [List.take_of_length_le (by rw [← HN.out]; omega), List.take_of_length_le (by rw [← HL.out, ← HN.out]; omega)] at h1
          rw [HG.out]
          exact decide_eq_true h1
        subst hgt
        clear hin
        go_wp2_with fail
        go_ret
        exact ⟨rfl, ⟨rfl, rfl, rfl, Nat.le_refl _, fun _ _ => rfl⟩⟩
  · have hgf : g = false := by rw [hg]; exact decide_eq_false fun e => hl (by rw [e])
    have hli : ¬ (xs.length : Int) = (ys.length : Int) := by omega
    have hlb : ((xs.length : Int) != (ys.length : Int)) = true := by simpa using hli
    subst hgf
    clear hg h1 h2
    go_enter Tryz.func18, Tryz.ntmps18
    go_wp2_with fail
    go_ret
    exact ⟨rfl, Below.refl _ _⟩
end Go.Proofs.YtnmagfodjcookaaGreat

/-
  What log's functions do, in words of a Log that says what lasts; the wake that each statement asks is met.
-/
namespace Go.Proofs.YtnmagfodjcookaaGreat
open Go.RowKit
namespace Lg
theorem found_small (ep : Nat) (S : List (List UInt8)) : (∀ t ∈ (found ep S).map (·.1), t.length ≤ 1024) ∧ ((found ep S).map (·.1)).length ≤ S.length := by
  obtain ⟨rest, h⟩ := found_is ep S
  refine ⟨fun t ht => ?_, ?_⟩
  · obtain ⟨x, hx, rfl⟩ := List.mem_map.1 ht
    exact (h.ok x hx).1
  · rw [List.length_map]
    exact Left.recs (T := rest) ⟨h.same, h.ok⟩
theorem opened_fit {f : Nat → List UInt8} {a : Int} {n ep : Nat} {M : Dk.Md} (hn : n ≤ 4096) (h : 0 ≤ a ∧ a + n ≤ M.lasts.length) (b : Bool) : Fit { opened n f a ep with broken := b } M := by
  have h1 := used_found ep (place n f)
  obtain ⟨h2, h3⟩ := found_small ep (place n f)
  rw [place_length] at h1 h3
  exact ⟨⟨by show 0 ≤ a + (used _ : Int); omega, by show a + (used _ : Int) ≤ a + n; omega⟩, h.2, Pt.greatest_lt _ _, Nat.le_trans h3 hn, h2⟩
section
variable {B : Nat} {w0 w w' : World} {r : Nat} {fp fp' : Nat → Prop} {M M' : Dk.Md} {k : Nat} {bl : Nat → Prop} {L L' : Md} {a : Int} {n : Nat} {t : List UInt8}
theorem Fits.fit (h : Fits M a n L) : Fit L M := by
  have h1 := h.rest.ok.n
  have h2 := h.rest.at_
  have e : L = { opened n (Kp.lastly M a) a L.ep with broken := false } := h.same
  rw [e]
  exact opened_fit (by omega) h2 false
theorem Torn.fit (h : Torn M a n L t) : Fit L M := by
  have h1 := h.ok.n
  have h2 := h.at_
  rw [h.same]
  exact opened_fit (by omega) h2 true
/-- Open of sectors at rest. -/
theorem open10_in (h : Dk.Own B w0 w r fp M) (hR : Rest M a n) {ep : Nat} (hep : 0 < ep ∧ ep < 18446744073709551616) {L : Md} (hL : L = opened n (Kp.lastly M a) a ep) :
    Calls Tryz.prog 16 #[.pointer (some ⟨r, 0, none⟩), .int .i64 a, .int .i64 (n : Int), .int .u64 (ep : Int)] w fun e w' => ∃ k bl, e = .returned (.tuple #[.pointer (some ⟨k, 0, none⟩), .int .i64 0]) ∧ Own B w0 w' r fp M k bl L ∧ Fits M a n L ∧ (∀ q, bl q → w.heap.size ≤ q) ∧ Below w.heap.size w w' := by
  subst hL
  have hn := hR.ok.n
  have hat := hR.at_
  refine (lgOpen_any h a n ep (by omega) hep.2).mono ?_
  rintro e w' ⟨hb, ⟨he, _⟩ | ⟨_, k, bl, rfl, hat, hk⟩⟩
  · exact absurd (hR.err hep.1) he
  · rw [Int.toNat_natCast, Kp.sees_lastly hR.idle] at hat
    exact ⟨k, bl, rfl, ⟨h.low hb, hat, fun q hq e => by have := h.lt q e; have := hk q hq; omega⟩, hR.opens hep, hk, hb⟩
/-- An Add that fits and that nothing breaks off. -/
theorem add_in (h : Own B w0 w r fp M k bl L) (hF : Fits M a n L) (hs : L.salt + 1 < 18446744073709551616) (hfu : M.fuse < 0) (t : ByteArray) {tl : List UInt8} (htl : t.data.toList = tl) (ht : tl.length ≤ 1024) (hp : (Pt.parts 32 tl : Int) ≤ L.end_ - L.next) {L' : Md} (hL' : added L tl = L') :
    Calls Tryz.prog 10 #[.pointer (some ⟨k, 0, none⟩), .string t] w fun e w' => ∃ fp' bl' M', e = .returned (.int .i64 0) ∧ Step B w0 w w' r fp fp' M' k bl bl' L' ∧ Fits M' a n L' ∧ M'.fuse < 0 ∧ M'.lasts.length = M.lasts.length ∧
      ∀ i, i < M.lasts.length → Dk.last M' i = if L.next.toNat ≤ i ∧ i < L.next.toNat + Pt.parts 32 tl then Dk.closed (Pt.body (nums L.ep (L.salt + 1) L.ahead) 32 tl (i - L.next.toNat)) else Dk.last M i := by
  subst htl; subst hL'
  have htl : t.data.toList.length = t.size := by simp
  refine (lgAdd_any h hF.fit (by rw [hF.rest.waits]; omega) t (by omega)).mono ?_
  rintro e w' ⟨fp', bl', rfl, st⟩
  rcases hF.add t.data.toList hs with ⟨h1, _⟩ | ⟨_, h1, _⟩ | ⟨_, _, M', e1, h2, h3, h4, h5⟩ | ⟨_, _, h1, _⟩
  · omega
  · omega
  · rw [e1] at st ⊢
    exact ⟨fp', bl', M', rfl, st, h2, by rw [h3 hfu]; exact hfu, h4, h5⟩
  · omega
/-- An Add that is refused. -/
theorem add_no (h : Own B w0 w r fp M k bl L) (hF : Fits M a n L) (hs : L.salt + 1 < 18446744073709551616) (t : ByteArray) (ht2 : t.size ≤ 9223372036854775807) {tl : List UInt8} (htl : t.data.toList = tl) (hno : 1024 < tl.length ∨ L.end_ - L.next < Pt.parts 32 tl) {x : Int} (hx : x = if 1024 < tl.length then 3 else 6) :
    Calls Tryz.prog 10 #[.pointer (some ⟨k, 0, none⟩), .string t] w fun e w' => ∃ fp' bl', e = .returned (.int .i64 x) ∧ Step B w0 w w' r fp fp' M k bl bl' L := by
  subst htl; subst hx
  refine (lgAdd_any h hF.fit (by rw [hF.rest.waits]; omega) t ht2).mono ?_
  rintro e w' ⟨fp', bl', rfl, st⟩
  rcases hF.add t.data.toList hs with ⟨h1, e1⟩ | ⟨h0, h1, e1⟩ | ⟨h1, h2, _⟩ | ⟨h1, h2, _⟩
  · rw [e1] at st ⊢
    exact ⟨fp', bl', by rw [if_pos h1], st⟩
  · rw [e1] at st ⊢
    exact ⟨fp', bl', by rw [if_neg (by omega)], st⟩
  · omega
  · omega
/-- Records, of a Log that is bound. -/
theorem records_in (h : Own B w0 w r fp M k bl L) (hf : Fit L M) {rs : List (List UInt8)} (hrs : L.recs = rs) :
    Calls Tryz.prog 19 #[.pointer (some ⟨k, 0, none⟩)] w fun e w' => ∃ A c, e = .returned (.slice A rs.length c) ∧ w'.ownsRow w.heap.size 9 1 (.slice A rs.length c) rs.length (rs.map Dk.txt) ∧ Rows w' A rs ∧ Own B w0 w' r fp M k bl L ∧ Below w.heap.size w w' := by
  subst hrs
  refine (lgRecords_at h.at_ (by have := hf.recs; omega) hf.small).mono ?_
  rintro e w' ⟨A, c, rfl, ho, hb⟩
  exact ⟨A, c, rfl, ho, Rows.of_own ho, h.below hb, hb⟩
theorem room_in (h : Own B w0 w r fp M k bl L) (hf : Fit L M) {x : Int} (hx : L.end_ - L.next = x) :
    Calls Tryz.prog 20 #[.pointer (some ⟨k, 0, none⟩)] w fun e w' => e = .returned (.int .i64 x) ∧ Own B w0 w' r fp M k bl L ∧ Below w.heap.size w w' := by
  subst hx
  have h1 := hf.next
  have h2 := hf.end_
  have h3 := h.disk.disk.ok.n
  refine (lgRoom_at h.at_ (by omega)).mono ?_
  rintro e w' ⟨rfl, hb⟩
  exact ⟨rfl, h.below hb, hb⟩
end
end Lg
namespace Lg
def zero (ep : Nat) (a e : Int) : Md := ⟨ep, a, e, [], 0, 0, false⟩
theorem pair_at (w : World) (x y : ByteArray) {a b : List UInt8} (hx : x.data.toList = a) (hy : y.data.toList = b) : Rows (w.alloc (.cells #[.string x, .string y] 9)) (some ⟨w.heap.size, 0, none⟩) [a, b] := by
  subst hx; subst hy
  have g := heap_alloc_new w (.cells #[.string x, .string y] 9)
  refine .inr ⟨w.heap.size, 0, rfl, Sm.lt_of g, fun i hi => ?_⟩
  match i, hi with
  | 0, _ => exact Sm.cells_of g 0 _ rfl
  | 1, _ => exact Sm.cells_of g 1 _ rfl
  | i + 2, h => simp at h; omega
end Lg
set_option maxRecDepth 100000 in
set_option maxHeartbeats 2000000 in
theorem awake10_any (w : World) : Calls Tryz.prog 5 #[] w fun e w' => e = .returned (.bool true) ∧ Below w.heap.size w w' := by
  obtain ⟨lb, hlb⟩ : ∃ l, l = Lib.repeatL [98] 33 := ⟨_, rfl⟩
  have hlbl : lb.length = 33 := by rw [hlb, Lib.repeatL_length]; rfl
  obtain ⟨sb, hsb⟩ : ∃ b : ByteArray, b = ⟨lb.toArray⟩ := ⟨_, rfl⟩
  have hsbl : sb.data.toList = lb := by rw [hsb]
  have RP : Hid (∀ wx : World, Calls Tryz.prog 17 #[.string ⟨#[98]⟩, .int .i64 33] wx fun e w' => e = .returned (.string sb) ∧ Below wx.heap.size wx w') := fun wx => by
    rw [hsb, hlb]; exact strings_Repeat ⟨#[98]⟩ 33 wx (by decide) (by show 1 * 33 ≤ _; decide)
  obtain ⟨L0, hL0⟩ : ∃ L, L = Lg.zero 1 1 5 := ⟨_, rfl⟩
  obtain ⟨L1, hL1⟩ : ∃ L, L = Lg.added L0 [97] := ⟨_, rfl⟩
  obtain ⟨L2, hL2⟩ : ∃ L, L = Lg.added L1 lb := ⟨_, rfl⟩
  have hp1 : Pt.parts 32 [97] = 1 := by decide
  have hp2 : Pt.parts 32 lb = 2 := by unfold Pt.parts; rw [hlbl]; decide
  obtain ⟨R0, O0⟩ := Lg.rest_new (N := 8) (by decide) (a := 1) (n := 4) (by decide) (by decide)
  have A0 : Hid (L0 = Lg.opened 4 (Kp.lastly (Dk.new 8) 1) 1 1) := by show _ = _; rw [hL0, O0 1 (by decide)]; rfl
  have N0 : Hid (L0.salt = 0 ∧ (Pt.parts 32 [97] : Int) ≤ L0.end_ - L0.next) := by rw [hp1, hL0]; exact ⟨rfl, by decide⟩
  have N1 : Hid (L1.salt = 1 ∧ (Pt.parts 32 lb : Int) ≤ L1.end_ - L1.next) := by
    rw [hp2, hL1, hL0]
    refine ⟨rfl, ?_⟩
    show ((2 : Nat) : Int) ≤ 5 - (1 + (Pt.parts 32 [97] : Int))
    rw [hp1]; decide
  have N2 : Hid (L2.ep = 1 ∧ L2.recs = [[97], lb] ∧ L2.end_ - L2.next = 1) := by
    rw [hL2, hL1, hL0]
    refine ⟨rfl, rfl, ?_⟩
    show (5 : Int) - (1 + (Pt.parts 32 [97] : Int) + (Pt.parts 32 lb : Int)) = 1
    rw [hp1, hp2]; decide
  have HA1 : Hid (Lg.added L0 [97] = L1) := hL1.symm
  have HA2 : Hid (Lg.added L1 lb = L2) := hL2.symm
  have HR0 := Lib.hid R0
  have SA : Hid (∀ wx A1 A2 c1 c2, Lg.Rows wx A1 [[97], lb] → Lg.Rows wx A2 [[97], lb] → Calls Tryz.prog 18 #[.slice A1 2 c1, .slice A2 2 c2] wx fun e w' => e = .returned (.bool true) ∧ Below wx.heap.size wx w') := fun wx A1 A2 c1 c2 h1 h2 => same10_any wx A1 A2 c1 c2 [[97], lb] [[97], lb] h1 h2 (by simp) (by simp) true (by simp)
  have PR : Hid (∀ wx : World, Lg.Rows (wx.alloc (.cells #[.string ⟨#[97]⟩, .string sb] 9)) (some ⟨wx.heap.size, 0, none⟩) [[97], lb]) := fun wx => Lg.pair_at wx ⟨#[97]⟩ sb rfl hsbl
  have HSB := Lib.hid hsbl
  have HLB : Hid (lb.length ≤ 1024) := by show _ ≤ _; omega
  clear hL0 hL1 hL2 hp1 hp2 R0 O0 hlb hsb hlbl hsbl
  go_enter Tryz.func5, Tryz.ntmps5
  go_upto_region 2 with (go_at_call 7; refine (Dk.new_in (Below.refl w.heap.size w) (Nat.le_refl _) 8 (by omega)).mono ?_; rintro e w1 ⟨r, fp, rfl, o1, -, -⟩)
  have OP : Hid (Calls Tryz.prog 16 #[.pointer (some ⟨r, 0, none⟩), .int .i64 1, .int .i64 4, .int .u64 1] w1 _) := Lg.open10_in o1 HR0.out (ep := 1) (by decide) A0.out
  go_upto_region 3 with (go_at_call 16; refine OP.out.mono ?_; rintro e w2 ⟨k, bl, rfl, o2, f2, -, -⟩)
  clear o1 OP
  have PA := Lib.hid (Lg.add_in o2 f2 (by rw [N0.out.1]; omega) (by show (-1 : Int) < 0; omega) ⟨#[97]⟩ (tl := [97]) rfl (by decide) N0.out.2 HA1.out)
  go_upto_region 4 with (go_at_call 10; refine PA.out.mono ?_; rintro e w3 ⟨fp3, bl3, M3, rfl, s3, f3, u3, -⟩)
  have o3 := Lib.hid s3.own
  clear o2 s3 f2 PA
  have PB : Hid (∀ wx, Below w3.heap.size w3 wx → Calls Tryz.prog 10 #[.pointer (some ⟨k, 0, none⟩), .string sb] wx _) := fun wx hwx => Lg.add_in (o3.out.below hwx) f3 (by rw [N1.out.1]; omega) u3 sb HSB.out HLB.out N1.out.2 HA2.out
  go_upto_region 5 with (first
    | (go_at_call 17; refine (RP.out _).mono ?_; rintro e w4 ⟨rfl, k4⟩)
    | (go_at_call 10; refine (PB.out _ k4).mono ?_; rintro e w5 ⟨fp5, bl5, M5, rfl, s5, f5, u5, -⟩))
  have o5 := s5.own
  clear s5 u5 u3 f3 o3 PB k4
  have OQ : Hid (Calls Tryz.prog 16 #[.pointer (some ⟨r, 0, none⟩), .int .i64 1, .int .i64 4, .int .u64 1] w5 _) := Lg.open10_in (L := L2) o5.disk f5.rest (ep := 1) (by decide) (by have := f5.same; rwa [N2.out.1] at this)
  go_upto_region 6 with (go_at_call 16; refine OQ.out.mono ?_; rintro e w6 ⟨k6, bl6, rfl, o6, f6, -, -⟩)
  clear o5 OQ f5
  have RE := Lib.hid (Lg.records_in o6 f6.fit N2.out.2.1)
  have B6 := Lib.hid o6.disk.below
  have O6 := Lib.hid o6
  have RO : Hid (∀ wx, Below w6.heap.size w6 wx → Calls Tryz.prog 20 #[.pointer (some ⟨k6, 0, none⟩)] wx _) := fun wx hwx => Lg.room_in (O6.out.below hwx) f6.fit N2.out.2.2
  clear o6
  go_wp2_with (first
    | (go_at_call 19; refine RE.out.mono ?_; rintro e w7 ⟨A7, c7, rfl, -, r7, -, k7⟩)
    | (go_at_call 17; refine (RP.out _).mono ?_; rintro e w8 ⟨rfl, k8⟩; have k9 := (Below.refl w8.heap.size w8).alloc (Nat.le_refl _) (.cells #[.string ⟨#[97]⟩, .string sb] 9); have r9 := (r7.below k8 (Nat.le_refl _)).below k9 (Nat.le_refl _); have k69 := (k7.trans (k8.mono k7.size)).trans (k9.mono (Nat.le_trans k7.size k8.size)))
    | (go_at_call 18; refine (SA.out _ _ _ _ _ r9 (PR.out _)).mono ?_; rintro e w10 ⟨rfl, k10⟩; have k610 := k69.trans (k10.mono k69.size))
    | (go_at_call 20; refine (RO.out _ k610).mono ?_; rintro e w11 ⟨rfl, o11, -⟩))
  go_ret
  exact ⟨rfl, o11.disk.below⟩
end Go.Proofs.YtnmagfodjcookaaGreat
