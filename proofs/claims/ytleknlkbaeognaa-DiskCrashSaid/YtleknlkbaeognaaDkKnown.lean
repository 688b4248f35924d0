/-
  DiskKnown: the chapter's examples, at the document's model of a disk.
-/
import Derived.Test.YtleknlkbaeognaaDkAwake
import Derived.Test.YtleknlkbaeognaaDkSame
namespace Go.Proofs.Ytleknlkbaeognaa
open Go.RowKit
namespace Dk
section
variable {B : Nat} {w0 w w' : World} {r : Nat} {fp : Nat → Prop} {M M' : Md}
theorem write_to (h : Own B w0 w r fp M) (hr : waits M ≤ 1099511627776) (i : Int) (s : ByteArray) {b : List UInt8} (hs : s.data.toList = b) {c : Int} (h1 : (write M i b).1 = M') (h2 : (write M i b).2 = c) :
    Calls Try.prog 13 #[.pointer (some ⟨r, 0, none⟩), .int .i64 i, .string s] w fun e w' => ∃ fp', e = .returned (.int .i64 c) ∧ Step B w0 w w' r fp fp' M' := by
  subst hs; subst h1; subst h2
  exact write_in h hr i s
theorem sync_to (h : Own B w0 w r fp M) {c : Int} (h1 : (sync M).1 = M') (h2 : (sync M).2 = c) :
    Calls Try.prog 17 #[.pointer (some ⟨r, 0, none⟩)] w fun e w' => ∃ fp', e = .returned (.int .i64 c) ∧ Step B w0 w w' r fp fp' M' := by
  subst h1; subst h2
  exact sync_in h
theorem read_to (h : Own B w0 w r fp M) (i : Int) {s : ByteArray} {b : List UInt8} (hs : s.data.toList = b) {c : Int} (h1 : readOf M i = (b, c)) :
    Calls Try.prog 15 #[.pointer (some ⟨r, 0, none⟩), .int .i64 i] w fun e w' => e = .returned (.tuple #[.string s, .int .i64 c]) ∧ Own B w0 w' r fp M ∧ Below w.heap.size w w' := by
  refine (Dk.read_in h i).mono ?_
  rw [h1, ← hs]
  exact fun e w' h => h
theorem waits_to (h : Own B w0 w r fp M) {n : Nat} (hn : waits M = n) (hr : n ≤ 1099511627776) :
    Calls Try.prog 16 #[.pointer (some ⟨r, 0, none⟩)] w fun e w' => e = .returned (.int .i64 (n : Int)) ∧ Own B w0 w' r fp M ∧ Below w.heap.size w w' := by
  subst hn
  exact waits_in h hr
theorem spoil_to (h : Own B w0 w r fp M) (i a : Int) (x : ByteArray) (hx : x.size ≤ 9223372036854775807) {c : Int} (h1 : (spoil M i a x.data.toList).2 = c) (h2 : (spoil M i a x.data.toList).1 = M') :
    Calls Try.prog 23 #[.pointer (some ⟨r, 0, none⟩), .int .i64 i, .int .i64 a, .string x] w fun e w' => ∃ fp', e = .returned (.int .i64 c) ∧ Step B w0 w w' r fp fp' M' := by
  subst h1; subst h2
  exact spoil_in h i a x hx
theorem down_to (h : Own B w0 w r fp M) {b : Bool} (hb : M.off = b) : Calls Try.prog 21 #[.pointer (some ⟨r, 0, none⟩)] w fun e w' => e = .returned (.bool b) ∧ w = w' := by
  subst hb; exact down_in h
theorem ints_two {w : World} : IntsAt (w.alloc (.cells #[.int .i64 0, .int .i64 1] 3)) (.slice (some ⟨w.heap.size, 0, none⟩) 2 2) [0, 1] := by
  refine ⟨some ⟨w.heap.size, 0, none⟩, 2, rfl, by simp, fun i => ?_, .inr ⟨w.heap.size, 0, rfl, by simp, fun i hi => ?_⟩⟩
  · match i with
    | 0 | 1 => simp
    | i + 2 => simp
  · have hc := Sm.cells_of (heap_alloc_new w (.cells #[.int .i64 0, .int .i64 1] 3)) i
    simp at hi
    match i, hi with
    | 0, _ | 1, _ => exact hc _ rfl
end
def wants : List UInt8 := [1, 2, 3, 1]
theorem known : ∃ K1 K2 K3 K4 K6 K7 K8 : Md, (write (new 2) 0 (full 1)).1 = K1 ∧ (write (new 2) 0 (full 1)).2 = 0 ∧ readOf K1 0 = (full 1, 0) ∧ waits K1 = 1 ∧ (sync K1).1 = K2 ∧ (sync K1).2 = 0 ∧ waits K2 = 0 ∧
    (write K2 0 (full 2)).1 = K3 ∧ (write K2 0 (full 2)).2 = 0 ∧ waits K3 = 1 ∧ (write K3 0 (full 3)).1 = K4 ∧ (write K3 0 (full 3)).2 = 0 ∧ waits K4 = 2 ∧
    (∀ i : Nat, i < 4 → readOf (crash K4 [(i : Int)]) 0 = (full (wants.getD i 0), 0)) ∧ readOf (crash K4 [-1]) 0 = (full 3, 0) ∧
    (write { K4 with fuse := 1 } 1 (full 1)).1 = K6 ∧ (write { K4 with fuse := 1 } 1 (full 1)).2 = 0 ∧ waits { K4 with fuse := 1 } = 2 ∧ waits K6 = 3 ∧ (sync K6).1 = K7 ∧ (sync K6).2 = 14 ∧ K7.off = true ∧ waits K7 = 3 ∧ readOf K7 0 = ([], 14) ∧
    crash K7 [0, 1] = K8 ∧ readOf K8 1 = (full 1, 0) ∧ K8.off = false ∧ waits K8 = 0 ∧ (write K8 2 (full 1)).1 = K8 ∧ (write K8 2 (full 1)).2 = 1 ∧ (write K8 0 ((full 1).drop 1)).1 = K8 ∧ (write K8 0 ((full 1).drop 1)).2 = 1 ∧
    (spoil K8 0 62 [97, 98, 99, 100]).2 = 1 ∧ (spoil K8 0 62 [97, 98, 99, 100]).1 = K8 ∧ (spoil K8 0 60 [97, 98, 99, 100]).2 = 0 := by
  refine ⟨_, _, _, _, _, _, _, rfl, ?_, ?_, ?_, rfl, ?_, ?_, rfl, ?_, ?_, rfl, ?_, ?_, ?_, ?_, rfl, ?_, ?_, ?_, rfl, ?_, ?_, ?_, ?_, rfl, ?_, ?_, ?_, rfl, ?_, rfl, ?_, ?_, rfl, ?_⟩ <;> decide +kernel
end Dk
set_option maxRecDepth 100000 in
set_option maxHeartbeats 1500000 in
theorem diskknown_any (W : World) : Calls Try.prog 3 #[] W fun e w' => e = .returned (.bool true) ∧ Below W.heap.size W w' := by
  have FU : Hid (∀ (b : UInt8) (wx : World), Calls Try.prog 14 #[.int .u8 b.toNat] wx fun e w' => e = .returned (.string ⟨(Dk.full b).toArray⟩) ∧ Below wx.heap.size wx w') := fun b wx => full7_any wx b
  obtain ⟨s1, hs1⟩ : ∃ s : ByteArray, s = ⟨(Dk.full 1).toArray⟩ := ⟨_, rfl⟩
  have HS1 : Hid (s1.data.toList = Dk.full 1) := by show s1.data.toList = _; rw [hs1]
  have FU1 : Hid (∀ (wx : World), Calls Try.prog 14 #[.int .u8 1] wx fun e w' => e = .returned (.string s1) ∧ Below wx.heap.size wx w') := fun wx => by rw [hs1]; exact full7_any wx 1
  clear hs1
  obtain ⟨s2, hs2⟩ : ∃ s : ByteArray, s = ⟨(Dk.full 2).toArray⟩ := ⟨_, rfl⟩
  have HS2 : Hid (s2.data.toList = Dk.full 2) := by show s2.data.toList = _; rw [hs2]
  have FU2 : Hid (∀ (wx : World), Calls Try.prog 14 #[.int .u8 2] wx fun e w' => e = .returned (.string s2) ∧ Below wx.heap.size wx w') := fun wx => by rw [hs2]; exact full7_any wx 2
  clear hs2
  obtain ⟨s3, hs3⟩ : ∃ s : ByteArray, s = ⟨(Dk.full 3).toArray⟩ := ⟨_, rfl⟩
  have HS3 : Hid (s3.data.toList = Dk.full 3) := by show s3.data.toList = _; rw [hs3]
  have FU3 : Hid (∀ (wx : World), Calls Try.prog 14 #[.int .u8 3] wx fun e w' => e = .returned (.string s3) ∧ Below wx.heap.size wx w') := fun wx => by rw [hs3]; exact full7_any wx 3
  clear hs3
  obtain ⟨K1, K2, K3, K4, K6, K7, K8, q1, q1e, r1, v1, q2, q2e, v2, q3, q3e, v3, q4, q4e, v4, rl, rm, q6, q6e, v5, v6, q7, q7e, f7, v7, r7, q8, r8, f8, v8, q9, q9e, q10, q10e, q11e, q11, q12e⟩ := Dk.known
  have Q1 := Lib.hid q1
  have Q1E := Lib.hid q1e
  have R1 := Lib.hid r1
  have V1 := Lib.hid v1
  have Q2 := Lib.hid q2
  have Q2E := Lib.hid q2e
  have V2 := Lib.hid v2
  have Q3 := Lib.hid q3
  have Q3E := Lib.hid q3e
  have V3 := Lib.hid v3
  have Q4 := Lib.hid q4
  have Q4E := Lib.hid q4e
  have V4 := Lib.hid v4
  have RL := Lib.hid rl
  have RM := Lib.hid rm
  have Q6 := Lib.hid q6
  have Q6E := Lib.hid q6e
  have V5 := Lib.hid v5
  have V6 := Lib.hid v6
  have Q7 := Lib.hid q7
  have Q7E := Lib.hid q7e
  have F7 := Lib.hid f7
  have V7 := Lib.hid v7
  have R7 := Lib.hid r7
  have Q8 := Lib.hid q8
  have R8 := Lib.hid r8
  have F8 := Lib.hid f8
  have V8 := Lib.hid v8
  have Q9 := Lib.hid q9
  have Q9E := Lib.hid q9e
  have Q10 := Lib.hid q10
  have Q10E := Lib.hid q10e
  have Q11E := Lib.hid q11e
  have Q11 := Lib.hid q11
  have Q12E := Lib.hid q12e
  clear q1 q1e r1 v1 q2 q2e v2 q3 q3e v3 q4 q4e v4 rl rm q6 q6e v5 v6 q7 q7e f7 v7 r7 q8 r8 f8 v8 q9 q9e q10 q10e q11e q11 q12e
  go_enter Try.func3, Try.ntmps3
  go_wp2_with fail
  refine (Dk.new_in (Below.refl W.heap.size W) (Nat.le_refl _) 2 (by omega)).mono ?_
  rintro e w1 ⟨r, fp, rfl, o, -, -⟩
  go_wp2_with fail
  refine (FU1.out _).mono ?_
  rintro e w2 ⟨rfl, k⟩
  replace o := o.low k
  clear k
  go_wp2_with fail
  refine (Dk.write_to o (by rw [Dk.waits_new]; omega) 0 s1 HS1.out Q1.out Q1E.out).mono ?_
  rintro e w3 ⟨fpn, rfl, st⟩
  replace o := st.own
  clear st
  go_wp2_with fail
  refine (Dk.read_to o 0 HS1.out R1.out).mono ?_
  rintro e w4 ⟨rfl, o', -⟩
  replace o := o'
  clear o' 
  go_wp2_with fail
  refine (Dk.waits_to o V1.out (by omega)).mono ?_
  rintro e w5 ⟨rfl, o', -⟩
  replace o := o'
  clear o' 
  go_wp2_with fail
  refine (Dk.sync_to o Q2.out Q2E.out).mono ?_
  rintro e w6 ⟨fpn, rfl, st⟩
  replace o := st.own
  clear st
  go_wp2_with fail
  refine (FU2.out _).mono ?_
  rintro e w7 ⟨rfl, k⟩
  replace o := o.low k
  clear k
  go_wp2_with fail
  refine (Dk.write_to o (by have := V2.out; omega) 0 s2 HS2.out Q3.out Q3E.out).mono ?_
  rintro e w8 ⟨fpn, rfl, st⟩
  replace o := st.own
  clear st
  go_wp2_with fail
  refine (FU3.out _).mono ?_
  rintro e w9 ⟨rfl, k⟩
  replace o := o.low k
  clear k
  go_wp2_with fail
  refine (Dk.write_to o (by have := V3.out; omega) 0 s3 HS3.out Q4.out Q4E.out).mono ?_
  rintro e w10 ⟨fpn, rfl, st⟩
  replace o := st.own
  clear st
  go_wp2_with fail
  refine (FU1.out _).mono ?_
  rintro e w11 ⟨rfl, k⟩
  replace o := o.low k
  clear k
  go_wp2_with fail
  refine (Dk.waits_to o V4.out (by omega)).mono ?_
  rintro e w12 ⟨rfl, o', -⟩
  replace o := o'
  clear o' 
  have hp := heap_alloc_new w12 (.cells #[.int .u8 1, .int .u8 2, .int .u8 3, .int .u8 1] 5)
  have hnp : ¬ fpn w12.heap.size := fun e => by have := o.lt _ e; omega
  replace o := o.low ((Below.refl w12.heap.size w12).alloc (Nat.le_refl _) (.cells #[.int .u8 1, .int .u8 2, .int .u8 3, .int .u8 1] 5))
  go_wp2_with fail
  obtain ⟨P, hP⟩ : ∃ P, P = w12.heap.size := ⟨_, rfl⟩
  rw [← hP] at hp hnp ⊢
  clear hP
  generalize w12.alloc (.cells #[.int .u8 1, .int .u8 2, .int .u8 3, .int .u8 1] 5) = wp at *
  have O := Lib.hid o
  have HP := Lib.hid hp
  have HNP := Lib.hid hnp
  clear o hp hnp
  go_loopw [71] (fun s71 wr => ∃ (k : Nat) (fq : Nat → Prop), s71 = .int .i64 k ∧ k ≤ 4 ∧ Dk.Own W.heap.size W wr r fq K4 ∧ wr.heap[P]? = some (.cells #[.int .u8 1, .int .u8 2, .int .u8 3, .int .u8 1] 5) ∧ ¬ fq P) (fun s71 _ => 4 - (intOf s71).toNat)
  case atStart => exact ⟨0, _, rfl, by omega, O.out, HP.out, HNP.out⟩
  case round =>
    clear O HP HNP
    obtain ⟨k, fq, rfl, hk, o, hp, hnp⟩ := hrel
    have hpl := Sm.lt_of hp
    by_cases hk4 : k < 4
    · have hki : (k : Int) < 4 := by omega
      have hsuc : IntKind.i64.wrap ((k : Int) + 1) = ((k + 1 : Nat) : Int) := by simp [IntKind.wrap, IntKind.bits, IntKind.signed]; omega
      have RK := RL.out k hk4
      obtain ⟨x, hx⟩ : ∃ x, x = Dk.wants.getD k 0 := ⟨_, rfl⟩
      rw [← hx] at RK
      have x0 : wr.cell? ⟨P, k, none⟩ = some (.int .u8 (x.toNat : Int)) := by
        rw [hx]
        match k, hk4 with
        | 0, _ => exact Sm.cells_of hp 0 _ rfl
        | 1, _ => exact Sm.cells_of hp 1 _ rfl
        | 2, _ => exact Sm.cells_of hp 2 _ rfl
        | 3, _ => exact Sm.cells_of hp 3 _ rfl
      clear hx
      obtain ⟨sk, hsk⟩ : ∃ s : ByteArray, s = ⟨(Dk.full x).toArray⟩ := ⟨_, rfl⟩
      have FUK : Hid (∀ (wx : World), Calls Try.prog 14 #[.int .u8 (x.toNat : Int)] wx fun e w' => e = .returned (.string sk) ∧ Below wx.heap.size wx w') := fun wx => by rw [hsk]; exact full7_any wx x
      have HSK : Hid (sk.data.toList = Dk.full x) := by show sk.data.toList = _; rw [hsk]
      clear hsk
      go_wp2_with fail
      refine (Dk.twin_in o (by have := V4.out; omega)).mono ?_
      rintro e wa ⟨rt, ft, rfl, t, o2, gt, ap, ka⟩
      clear o x0
      have hp2 := (ka.block P hpl).trans hp
      have hnt : ¬ ft P := fun e => by have := gt P e; omega
      clear gt hp ka
      have hi := Dk.ints_one (w := wa) (k : Int) (by omega)
      have ho := Dk.off_new t [(k : Int)] 1 1
      have hb : Below wa.heap.size wa (wa.alloc (.cells #[.int .i64 (k : Int)] 3)) := (Below.refl _ wa).alloc (Nat.le_refl _) _
      have t2 := t.low hb
      have o3 := o2.low hb
      have hpl2 := Sm.lt_of hp2
      have hp3 := (hb.block P hpl2).trans hp2
      clear t o2 hb hp2 hpl2 hpl
      go_wp2_with fail
      generalize wa.alloc (.cells #[.int .i64 (k : Int)] 3) = wb at *
      refine (Dk.crash_in t2 (by have := V4.out; omega) hi ho).mono ?_
      rintro e wc ⟨fc, rfl, st⟩
      obtain ⟨o4, ap2⟩ := o3.beside st (fun k h1 h2 => ap k h2 h1)
      have hpl3 := Sm.lt_of hp3
      have hp4 := (st.turned.block P hpl3 hnt).trans hp3
      have t4 := st.own
      have hnc : ¬ fc P := fun e => by rcases st.grown P e with e | e; exact hnt e; omega
      clear st o3 ap ap2 t2 hi ho hp3 hpl3 hnt
      go_wp2_with fail
      refine (Dk.read_to t4 0 HSK.out RK).mono ?_
      rintro e wd ⟨rfl, t5, hb⟩
      have o5 := o4.low hb
      have hpl4 := Sm.lt_of hp4
      have hp5 := (hb.block P hpl4).trans hp4
      clear t4 o4 hp4 hpl4 hb
      go_wp2_with fail
      refine (FUK.out _).mono ?_
      rintro e we ⟨rfl, hb⟩
      have t6 := t5.low hb
      have o6 := o5.low hb
      have hpl5 := Sm.lt_of hp5
      have hp6 := (hb.block P hpl5).trans hp5
      clear t5 o5 hp5 hpl5 hb
      go_wp2_with fail
      refine (Dk.waits_to t6 (n := 0) (Dk.waits_crash _ _) (by omega)).mono ?_
      rintro e wf ⟨rfl, t7, hb⟩
      have o7 := o6.low hb
      have hpl6 := Sm.lt_of hp6
      have hp7 := (hb.block P hpl6).trans hp6
      clear t6 t7 o6 hp6 hpl6 hb
      go_wp2_with fail
      go_roundw
      case rel => exact ⟨k + 1, _, rfl, by omega, o7, hp7, hnp⟩
      case measure => simp [intOf]; omega
    · have hki : ¬ (k : Int) < 4 := by omega
      clear hp hnp hpl
      go_wp2_with fail
      refine (Dk.twin_in o (by have := V4.out; omega)).mono ?_
      rintro e wa ⟨rt, ft, rfl, t, o2, -, ap, -⟩
      clear o
      have hi := Dk.ints_one (w := wa) (-1) (by omega)
      have ho := Dk.off_new t [-1] 1 1
      have hb : Below wa.heap.size wa (wa.alloc (.cells #[.int .i64 (-1)] 3)) := (Below.refl _ wa).alloc (Nat.le_refl _) _
      have t2 := t.low hb
      have o3 := o2.low hb
      clear t o2 hb
      go_wp2_with fail
      generalize wa.alloc (.cells #[.int .i64 (-1)] 3) = wb at *
      refine (Dk.crash_in t2 (by have := V4.out; omega) hi ho).mono ?_
      rintro e wc ⟨fc, rfl, st⟩
      obtain ⟨o4, -⟩ := o3.beside st (fun k h1 h2 => ap k h2 h1)
      have t4 := st.own
      clear st o3 ap t2 hi ho
      go_wp2_with fail
      refine (Dk.read_to t4 0 HS3.out RM.out).mono ?_
      rintro e wd ⟨rfl, -, hb⟩
      have o := o4.low hb
      clear t4 o4 hb
      go_wp2_with fail
      refine (Dk.fuse_in o 1 (by omega)).mono ?_
      rintro e w13 ⟨fpn, rfl, st⟩
      replace o := st.own
      clear st
      go_wp2_with fail
      refine (FU1.out _).mono ?_
      rintro e w14 ⟨rfl, k⟩
      replace o := o.low k
      clear k
      go_wp2_with fail
      refine (Dk.write_to o (by have := V5.out; omega) 1 s1 HS1.out Q6.out Q6E.out).mono ?_
      rintro e w15 ⟨fpn, rfl, st⟩
      replace o := st.own
      clear st
      go_wp2_with fail
      refine (Dk.sync_to o Q7.out Q7E.out).mono ?_
      rintro e w16 ⟨fpn, rfl, st⟩
      replace o := st.own
      clear st
      go_wp2_with fail
      refine (Dk.down_to o F7.out).mono ?_
      rintro e w' ⟨rfl, rfl⟩
      go_wp2_with fail
      refine (Dk.read_to o 0 (s := ⟨#[]⟩) rfl R7.out).mono ?_
      rintro e w17 ⟨rfl, o', -⟩
      replace o := o'
      clear o' 
      have hi := Dk.ints_two (w := w17)
      have ho := Dk.off_new o [0, 1] 2 2
      have hb : Below w17.heap.size w17 (w17.alloc (.cells #[.int .i64 0, .int .i64 1] 3)) := (Below.refl _ w17).alloc (Nat.le_refl _) _
      replace o := o.low hb
      clear hb
      go_wp2_with fail
      generalize w17.alloc (.cells #[.int .i64 0, .int .i64 1] 3) = wq at *
      refine (Dk.crash_in o (by have := V7.out; omega) hi ho).mono ?_
      rintro e wr2 ⟨fpn, rfl, st⟩
      replace o := st.own
      rw [Q8.out] at o
      clear st hi ho
      go_wp2_with fail
      refine (Dk.read_to o 1 HS1.out R8.out).mono ?_
      rintro e w18 ⟨rfl, o', -⟩
      replace o := o'
      clear o' 
      go_wp2_with fail
      refine (dkNew_bad _ 0 (by omega)).mono ?_
      rintro e w' ⟨rfl, rfl⟩
      go_wp2_with fail
      refine (dkNew_bad _ 4097 (by omega)).mono ?_
      rintro e w' ⟨rfl, rfl⟩
      go_wp2_with fail
      refine (awake7_any _).mono ?_
      rintro e w19 ⟨rfl, k⟩
      replace o := o.low k
      clear k
      go_wp2_with fail
      refine (FU3.out _).mono ?_
      rintro e w20 ⟨rfl, k⟩
      replace o := o.low k
      clear k
      go_wp2_with fail
      refine (Dk.down_to o F8.out).mono ?_
      rintro e w' ⟨rfl, rfl⟩
      go_wp2_with fail
      refine (FU1.out _).mono ?_
      rintro e w21 ⟨rfl, k⟩
      replace o := o.low k
      clear k
      go_wp2_with fail
      refine (FU1.out _).mono ?_
      rintro e w22 ⟨rfl, k⟩
      replace o := o.low k
      clear k
      go_wp2_with fail
      refine (Dk.write_to o (by have := V8.out; omega) 2 s1 HS1.out Q9.out Q9E.out).mono ?_
      rintro e w23 ⟨fpn, rfl, st⟩
      replace o := st.own
      clear st
      go_wp2_with fail
      refine (FU1.out _).mono ?_
      rintro e w24 ⟨rfl, k⟩
      replace o := o.low k
      clear k
      have hz1 : s1.size = 64 := by
        have := HS1.out
        show s1.data.size = 64
        rw [← Array.length_toList, this]; rfl
      have hx1 : (s1.extract 1 64).data.toList = (Dk.full 1).drop 1 := by
        rw [← HS1.out, ByteArray.data_extract, Array.toList_extract]
        simp [List.extract_eq_take_drop]
        rw [List.take_of_length_le]
        rw [List.length_tail, HS1.out]; decide
      go_wp2_with fail
      refine (Dk.write_to o (by have := V8.out; omega) 0 _ hx1 Q10.out Q10E.out).mono ?_
      rintro e w25 ⟨fpn, rfl, st⟩
      replace o := st.own
      clear st hx1 hz1
      go_wp2_with fail
      refine (Dk.spoil_to o 0 62 ⟨#[97, 98, 99, 100]⟩ (by decide) Q11E.out Q11.out).mono ?_
      rintro e w26 ⟨fpn, rfl, st⟩
      replace o := st.own
      clear st
      go_wp2_with fail
      refine (Dk.spoil_to o 0 60 ⟨#[97, 98, 99, 100]⟩ (by decide) Q12E.out rfl).mono ?_
      rintro e w27 ⟨fpn, rfl, st⟩
      replace o := st.own
      clear st
      go_wp2
      go_ret
      exact ⟨rfl, o.below⟩
end Go.Proofs.Ytleknlkbaeognaa
