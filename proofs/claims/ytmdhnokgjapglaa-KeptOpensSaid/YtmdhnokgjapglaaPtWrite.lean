/-
  What parts' Write does.
-/
import Derived.Test.YtmdhnokgjapglaaPtRead
import Derived.Test.YtmdhnokgjapglaaPtSave
import Derived.Test.YtmdhnokgjapglaaDkClose
namespace Go.Proofs.Ytmdhnokgjapglaa
open Go.RowKit
namespace Pt
open Kp (puts save puts_append puts_stop)
theorem puts_take {M : Dk.Md} {a : Int} {l : List (List UInt8)} {i : Nat} (h : i < l.length) (h0 : (puts M a (l.take i)).2 = 0) :
    puts M a (l.take (i + 1)) = (let q := Dk.write (puts M a (l.take i)).1 (a + (i : Int)) (Dk.closed (l.getD i [])); if q.2 = 0 then (q.1, 0) else q) := by
  have hl : (l.take i).length = i := by rw [List.length_take]; omega
  have e : l.take (i + 1) = l.take i ++ [l.getD i []] := by
    rw [List.take_succ_eq_append_getElem h, List.getD_eq_getElem?_getD, List.getElem?_eq_getElem h]; rfl
  rw [e, puts_append _ _ _ _ h0, hl, puts, puts]
theorem puts_stopped {M : Dk.Md} {a : Int} {l : List (List UInt8)} {i : Nat} (h0 : (puts M a (l.take (i + 1))).2 ≠ 0) : save M a l = puts M a (l.take (i + 1)) := by
  have e : l = l.take (i + 1) ++ l.drop (i + 1) := (List.take_append_drop _ _).symm
  have h1 : puts M a l = puts M a (l.take (i + 1)) := by
    conv => lhs; rw [e]
    exact puts_stop _ _ _ _ h0
  rw [save, h1, if_neg h0]
theorem saved {M : Dk.Md} {a : Int} {l : List (List UInt8)} (h0 : (puts M a l).2 = 0) : save M a l = Dk.sync (puts M a l).1 := by rw [save, if_pos h0]
end Pt
set_option maxRecDepth 100000 in
set_option maxHeartbeats 2000000 in
theorem ptWrite_any {B : Nat} {w0 w : World} {r : Nat} {fp : Nat → Prop} {M : Dk.Md} (h : Dk.Own B w0 w r fp M) (A : Option Addr) (c : Nat) (l : List (List UInt8)) (hs : Kp.StrsAt w A l) (hA : ∀ q o, A = some ⟨q, o, none⟩ → ¬ fp q)
    (hl : ∀ b ∈ l, b.length = 60) (hn : l.length ≤ 1000000) (hr : Dk.waits M + l.length ≤ 1099511627776) (a : Int) (ha : 0 ≤ a ∧ a ≤ 1099511627776) :
    Calls Try.prog 20 #[.pointer (some ⟨r, 0, none⟩), .int .i64 a, .slice A l.length c] w fun e w' => ∃ fp', e = .returned (.int .i64 (Kp.save M a l).2) ∧ Dk.Step B w0 w w' r fp fp' (Kp.save M a l).1 := by
  obtain ⟨g, o, rfl, hg, hc⟩ := hs
  have HGF := Lib.hid (hA g o rfl)
  have H := Lib.hid h
  have HC := Lib.hid hc
  have HR := Lib.hid hr
  have HL6 : Hid (∀ i, i < l.length → (l.getD i []).length = 60) := fun i hi => by
    rw [List.getD_eq_getElem?_getD, List.getElem?_eq_getElem hi]; exact hl _ (List.getElem_mem hi)
  obtain ⟨P, hP⟩ : ∃ P, P = l.length := ⟨_, rfl⟩
  have HP := Lib.hid hP
  rw [← hP] at hn ⊢
  clear h hc hr hl hA hP
  go_enter Try.func20, Try.ntmps20
  go_wp2_with fail
  go_loopw [14] (fun s14 wr => ∃ (i : Nat) (fp1 : Nat → Prop), s14 = .int .i64 i ∧ i ≤ P ∧ (Kp.puts M a (l.take i)).2 = 0 ∧ Dk.Step B w0 w wr r fp fp1 (Kp.puts M a (l.take i)).1) (fun s14 _ => P - (intOf s14).toNat)
  case atStart => exact ⟨0, fp, rfl, Nat.zero_le _, rfl, Dk.Step.refl H.out⟩
  case round =>
    obtain ⟨i, fp1, rfl, hi, hz, hst⟩ := hrel
    have HST := Lib.hid hst
    have HZ := Lib.hid hz
    clear hst hz
    by_cases hlt : i < P
    · have hki : (i : Int) < (P : Int) := by omega
      have hil : i < l.length := by rw [← HP.out]; exact hlt
      have hsuc : IntKind.i64.wrap ((i : Int) + 1) = ((i + 1 : Nat) : Int) := by simp [IntKind.wrap, IntKind.bits, IntKind.signed]; omega
      have ci := (HST.out.turned.block g hg HGF.out)
      have ci2 : wr.cell? ⟨g, o + i, none⟩ = some (.string ⟨(l.getD i []).toArray⟩) := by
        rw [← HC.out i hil]
        simp only [World.cell?, ci]
      obtain ⟨b, hb⟩ : ∃ b : ByteArray, b = ⟨(l.getD i []).toArray⟩ := ⟨_, rfl⟩
      have hbl : b.data.toList = l.getD i [] := by rw [hb]
      have hbs : b.size = 60 := by rw [hb]; simpa [ByteArray.size] using HL6.out i hil
      have CL : Hid (∀ wx : World, Calls Try.prog 43 #[.string b] wx fun e w' => e = .returned (.tuple #[.string ⟨(Dk.closed (l.getD i [])).toArray⟩, .int .i64 0]) ∧ Below wx.heap.size wx w') := fun wx => by rw [← hbl]; exact dkClose_ok wx b hbs
      obtain ⟨s, hs⟩ : ∃ s : ByteArray, s = ⟨(Dk.closed (l.getD i [])).toArray⟩ := ⟨_, rfl⟩
      rw [← hb] at ci2
      rw [← hs] at CL
      have hsl : s.data.toList = Dk.closed (l.getD i []) := by rw [hs]
      have HSL := Lib.hid hsl
      obtain ⟨X, hX⟩ : ∃ X, X = Kp.puts M a (l.take i) := ⟨_, rfl⟩
      have hwx : Dk.waits X.1 ≤ 1099511627776 := by
        have h1 := Kp.waits_puts (l.take i) M a
        have h2 : (l.take i).length ≤ i := List.length_take_le _ _
        have h3 := HR.out
        rw [hX]; omega
      have HX := Lib.hid hX
      have HWX := Lib.hid hwx
      have v3 : IntKind.i64.wrap (a + (i : Int)) = a + (i : Int) := IntWalk.i64_in _ (by omega)
      clear ci hb hbl hbs hs hsl hX hwx
      go_upto_region 7 with (go_at_call 43; refine (CL.out _).mono ?_; rintro e w4 ⟨rfl, k4⟩)
      have ST4 := Lib.hid (HST.out.low k4)
      clear k4 ci2
      have o4 := ST4.out.own
      rw [← HX.out] at o4
      have WR := Lib.hid (Dk.write_in o4 HWX.out (a + (i : Int)) s)
      rw [HSL.out] at WR
      obtain ⟨Y, hY⟩ : ∃ Y, Y = Dk.write X.1 (a + (i : Int)) (Dk.closed (l.getD i [])) := ⟨_, rfl⟩
      rw [← hY] at WR
      have HY := Lib.hid hY
      clear o4 hY
      have nx1 := Pt.puts_take (M := M) (a := a) (l := l) (i := i) hil HZ.out
      rw [← HX.out, ← HY.out] at nx1
      by_cases hy0 : Y.2 = 0
      · have NX : Hid (Kp.puts M a (l.take (i + 1)) = (Y.1, 0)) := by
          show _ = _
          rw [nx1]; exact if_pos hy0
        rw [hy0] at WR
        clear nx1 hy0
        go_wp2_with (go_at_call 15; refine WR.out.mono ?_; rintro e w5 ⟨fp5, rfl, st5⟩)
        have ST5 := Lib.hid (ST4.out.trans st5)
        refine ⟨⟨i + 1, fp5, by push_cast; rfl, by omega, by rw [NX.out], by rw [NX.out]; exact ST5.out⟩, by simp only [intOf]; omega⟩
      · have hne : (Kp.puts M a (l.take (i + 1))).2 ≠ 0 := by rw [nx1]; simp only [if_neg hy0]; exact hy0
        have SV : Hid (Kp.save M a l = Y) := by
          show _ = _
          rw [Pt.puts_stopped hne, nx1]; exact if_neg hy0
        obtain ⟨y, hy⟩ : ∃ y, y = Y.2 := ⟨_, rfl⟩
        have HYY := Lib.hid hy
        rw [← hy] at hy0 WR
        have hyb : (y == 0) = false := beq_eq_false_iff_ne.2 hy0
        clear nx1 hne hy
        go_wp2_with (go_at_call 15; refine WR.out.mono ?_; rintro e w5 ⟨fp5, rfl, st5⟩)
        go_ret
        refine ⟨fp5, by rw [SV.out, ← HYY.out]; rfl, ?_⟩
        rw [SV.out]
        exact ST4.out.trans st5
    · have hki : ¬ (i : Int) < (P : Int) := by omega
      have htk : l.take i = l := List.take_of_length_le (by rw [← HP.out]; omega)
      rw [htk] at HZ HST
      have SV := Lib.hid (Pt.saved HZ.out)
      have SY := Lib.hid (Dk.sync_in HST.out.own)
      rw [← SV.out] at SY
      clear htk
      go_wp2_with (go_at_call 44; refine SY.out.mono ?_; rintro e w5 ⟨fp5, rfl, st5⟩)
      go_ret
      exact ⟨fp5, rfl, HST.out.trans st5⟩
end Go.Proofs.Ytmdhnokgjapglaa
