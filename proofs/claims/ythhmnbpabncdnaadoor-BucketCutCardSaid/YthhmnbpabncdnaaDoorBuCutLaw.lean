/-
  BucketCut answers true for every row of pairs, numbers and text, and turns nothing of what was there.
-/
import Derived.Test.YthhmnbpabncdnaaDoorBuAwake
import Derived.Test.YthhmnbpabncdnaaDoorOmGreat
import Derived.Test.YthhmnbpabncdnaaDoorBuPart
import Derived.Test.YthhmnbpabncdnaaDoorR12In
namespace Go.Proofs.YthhmnbpabncdnaaDoor
open Go.RowKit
namespace Bu
theorem bytes_len {l : List Om.Pr} (h : ∀ x ∈ l, Om.Fair x) (h48 : l.length ≤ 48) : (bytes l).length ≤ 5000 := by
  have h1 := prsB_len h
  have h2 := R12.enc_len (n := l.length) (by omega)
  unfold bytes
  rw [List.length_append]
  omega
/-- What the program reckons of a place: a number below the length. -/
theorem rem_pos (a : Int) {n : Nat} (hn : 0 < n) : ∃ z : Int, a.tmod (n : Int) = z ∧ -(n : Int) < z ∧ z < (n : Int) := by
  refine ⟨_, rfl, ?_, Int.tmod_lt_of_pos _ (by omega)⟩
  have h := Int.tmod_lt_of_pos (-a) (b := (n : Int)) (by omega)
  rw [Int.neg_tmod] at h
  omega
end Bu
set_option maxRecDepth 100000 in
set_option maxHeartbeats 4000000 in
theorem bucketCut_any {w : World} (hH : Sm.HAt w) (hK : Sm.KAt w) (hsz : 1 < w.heap.size) {A : Option Addr} {l : List Om.Pr} (c : Nat) (hit : Om.listAt w A l) (i a : Int) (s : ByteArray) :
    Calls Tryd.prog 9 #[.slice A l.length c, .int .i64 i, .int .i64 a, .string s] w fun e w' => e = .returned (.bool true) ∧ Below w.heap.size w w' := by
  have AW : Hid (∀ wx : World, Below w.heap.size w wx → Calls Tryd.prog 12 #[] wx fun e w' => e = .returned (.bool true) ∧ Below wx.heap.size wx w') := fun wx hb => awake14_any (hH.low hb (by omega)) (hK.low hb hsz) (Nat.lt_of_lt_of_le hsz hb.size)
  obtain ⟨g, hg⟩ := Om.fairL_or l
  have GP := Lib.hid (greatPairs_any (c := c) hit g hg)
  have HEQ := hg
  cases g
  case true =>
    clear HEQ hg
    go_enter Tryd.func9, Tryd.ntmps9
    go_wp2_with first
      | (go_at_call 11; refine GP.out.mono ?_; rintro e w0 ⟨rfl, rfl⟩)
      | (go_at_call 12; refine (AW.out _ (Below.refl _ _)).mono ?_; rintro e w1 ⟨rfl, k1⟩)
    go_ret
    exact ⟨rfl, k1⟩
  have hf : Om.FairL l := Classical.byContradiction fun h => by have := HEQ.2 h; cases this
  clear HEQ hg
  by_cases hl : 100 < s.size
  · have hli : (100 : Int) < (s.size : Int) := by omega
    go_enter Tryd.func9, Tryd.ntmps9
    go_wp2_with first
      | (go_at_call 11; refine GP.out.mono ?_; rintro e w0 ⟨rfl, rfl⟩)
      | (go_at_call 12; refine (AW.out _ (Below.refl _ _)).mono ?_; rintro e w1 ⟨rfl, k1⟩)
    go_ret
    exact ⟨rfl, k1⟩
  have hli : ¬ (100 : Int) < (s.size : Int) := by omega
  have PT : Hid (∀ (wx : World), Below w.heap.size w wx → ∀ i : Int, Calls Tryd.prog 18 #[.slice A l.length c, .int .i64 i] wx fun e w' => ∃ B q, e = .returned (.slice B (Bu.part l i).length q) ∧ Om.Row w' wx.heap.size B q (Bu.part l i) ∧ Below wx.heap.size wx w') := fun wx hb i =>
    buPart_any (hH.low hb (by omega)) (hK.low hb hsz) (Nat.lt_of_lt_of_le hsz hb.size) c (hit.below hb) (by have := hf.1; omega) (fun x hx => by have := hf.mem x hx; omega) i
  have PG : Hid (∀ (wx : World) (C : Option Addr) (d : Nat) (m : List Om.Pr) (i : Int), Below w.heap.size w wx → Om.listAt wx C m → m.length ≤ 200 → (∀ x ∈ m, x.p.size ≤ 1000) → Calls Tryd.prog 20 #[.int .i64 i, .slice C m.length d] wx fun e w' => e = .returned (.tuple #[.string (Bu.page i m).1, .int .i64 ((Bu.page i m).2 : Nat)]) ∧ Below wx.heap.size wx w') := fun wx C d m i hb hl hm hs =>
    buPage_any (hH.low hb (by omega)) (hK.low hb hsz) (Nat.lt_of_lt_of_le hsz hb.size) i d hl (by omega) (fun x hx => by have := hs x hx; omega)
  have RD : Hid (∀ (wx : World) (i : Int) (s : ByteArray), Below w.heap.size w wx → s.size ≤ 100000 → Calls Tryd.prog 22 #[.int .i64 i, .string s] wx fun e w' => ∃ A c, e = .returned (.tuple #[.slice A (Bu.read i s).1.length c, .int .i64 ((Bu.read i s).2 : Nat)]) ∧ Om.Row w' wx.heap.size A c (Bu.read i s).1 ∧ Below wx.heap.size wx w') := fun wx i s hb hs =>
    buRead_any (hH.low hb (by omega)) (hK.low hb hsz) (Nat.lt_of_lt_of_le hsz hb.size) i s (by omega)
  have PT1 := Lib.hid (PT.out w (Below.refl _ _) i)
  have hpl : (Bu.part l i).length ≤ 200 := Nat.le_trans (Bu.part_length l i) hf.1
  have hpm : ∀ x ∈ Bu.part l i, x.p.size ≤ 1000 := fun x hx => (hf.mem x (List.mem_filter.1 hx).1).1
  have P1 : Hid (∀ (wx : World) (C : Option Addr) (d : Nat), Below w.heap.size w wx → Om.listAt wx C (Bu.part l i) → Calls Tryd.prog 20 #[.int .i64 i, .slice C (Bu.part l i).length d] wx fun e w' => e = .returned (.tuple #[.string (Bu.page i (Bu.part l i)).1, .int .i64 ((Bu.page i (Bu.part l i)).2 : Nat)]) ∧ Below wx.heap.size wx w') := fun wx C d hb hc => PG.out wx C d _ i hb hc hpl hpm
  obtain ⟨m, hm⟩ : ∃ m, m = Bu.part l i := ⟨_, rfl⟩
  rw [← hm] at PT1 P1
  clear hm hpl hpm PT PG hit hf hH hK hsz
  by_cases he : Bu.pageE i m = 0
  · obtain ⟨hrg, hmay, hall, h48⟩ := Bu.pageE_ok he
    have hbl := Bu.bytes_len (Bu.may_iff.1 hmay).1 h48
    have hbn := Bu.bytes_ne m
    rw [Bu.page_good he] at P1
    have HRP : Hid (∀ k, k < (Bu.bytes m).length → Bu.read i ⟨((Bu.bytes m).take k).toArray⟩ = ([], 7)) := fun k hk => Bu.read_part he hk
    have HRB : Hid (∀ t : List UInt8, t ≠ [] → Bu.read i ⟨(Bu.bytes m ++ t).toArray⟩ = ([], 8)) := fun t ht => Bu.read_behind he ht
    have HRW := Lib.hid (Bu.read_page he)
    obtain ⟨bs, hbs⟩ : ∃ b, b = Bu.bytes m := ⟨_, rfl⟩
    rw [← hbs] at P1 HRP HRB HRW hbl hbn
    obtain ⟨S, hS⟩ : ∃ S : ByteArray, S = ⟨bs.toArray⟩ := ⟨_, rfl⟩
    rw [← hS] at P1 HRW
    have hSl : S.data.toList = bs := by rw [hS]
    have hSz : S.size = bs.length := by rw [← Ba.ba_size, hSl]
    have hbn0 : 0 < bs.length := List.length_pos_iff.2 hbn
    have HCAT : Hid (S ++ s = ⟨(bs ++ s.data.toList).toArray⟩) := by show _ = _; rw [hS]; exact R12.ba_cat_s bs s
    have HCUT : Hid (∀ k, S.extract 0 k = ⟨(bs.take k).toArray⟩) := fun k => R12.cut0 S bs hSl k
    obtain ⟨z, hz, hz1, hz2⟩ := Bu.rem_pos a (n := S.size) (by omega)
    obtain ⟨k, hk, hkz⟩ : ∃ k : Nat, k < S.size ∧ (if z < 0 then z + (S.size : Int) else z) = (k : Int) := by
      split
      · exact ⟨(z + (S.size : Int)).toNat, by omega, by omega⟩
      · exact ⟨z.toNat, by omega, by omega⟩
    have RA : Hid (∀ wx : World, Below w.heap.size w wx → Calls Tryd.prog 22 #[.int .i64 i, .string (S.extract 0 k)] wx fun e w' => ∃ A c, e = .returned (.tuple #[.slice A 0 c, .int .i64 7]) ∧ Om.Row w' wx.heap.size A c [] ∧ Below wx.heap.size wx w') := fun wx hb => by
      have hq := HRP.out k (by omega)
      rw [← HCUT.out k] at hq
      have := RD.out wx i (S.extract 0 k) hb (by rw [ByteArray.size_extract]; omega)
      rw [hq] at this
      exact this
    have hS1 : ¬ S.size = 0 := by omega
    have hS1i : ((S.size : Int) == 0) = false := by rw [beq_eq_false_iff_ne]; omega
    have hS0 : ¬ (S.size : Int) = 0 := by omega
    have hSp : (0 : Int) < (S.size : Int) := by omega
    have hkn : (k : Int) ≤ (S.size : Int) := by omega
    have hk0 : (0 : Int) ≤ (k : Int) := by omega
    have hsum : S.size + s.size ≤ 9223372036854775807 := by omega
    have hSs : (S ++ s).size ≤ 100000 := by rw [ByteArray.size_append]; omega
    obtain ⟨G, hG0, hG1, hRB⟩ : ∃ G : Nat, (s.size = 0 → G = 0) ∧ (s.size ≠ 0 → G = 8) ∧ (Bu.read i (S ++ s)).2 = G := by
      refine ⟨_, fun h => ?_, fun h => ?_, rfl⟩
      · have e : s.data.toList = [] := List.eq_nil_of_length_eq_zero (by rw [Ba.ba_size]; exact h)
        rw [HCAT.out, e, List.append_nil, ← hS, HRW.out]
      · rw [HCAT.out, HRB.out _ (fun e => h (by rw [← Ba.ba_size, e, List.length_nil]))]
    have RB : Hid (∀ wx : World, Below w.heap.size w wx → Calls Tryd.prog 22 #[.int .i64 i, .string (S ++ s)] wx fun e w' => ∃ A n c, e = .returned (.tuple #[.slice A n c, .int .i64 (G : Int)]) ∧ Below wx.heap.size wx w') := fun wx hb => by
      have := RD.out wx i (S ++ s) hb hSs
      rw [hRB] at this
      exact this.mono fun _ _ ⟨A, c, h1, _, h2⟩ => ⟨A, _, c, h1, h2⟩
    have hge : s.size = 0 ∨ s.size ≠ 0 := Decidable.em _
    have hS5 : S.size ≤ 5000 := by omega
    clear hbs hS hSl HRP HRB HRW HCUT hbn hbn0 hbl hmay hall h48 he RD hRB hSz
    rcases hge with hs0 | hs0
    · have hg0 : G = 0 := hG0 hs0
      subst hg0
      have hemp : s.toList.isEmpty = true := R12.text_none hs0
      clear hG0 hG1 hs0
      by_cases hzn : z < 0
      all_goals
        simp only [hzn, if_true, if_false] at hkz
        have hw : IntKind.i64.wrap (z + (S.size : Int)) = z + (S.size : Int) := IntWalk.i64_in _ (by omega)
        have hw2 : wrap64 (z + (S.size : Int)) = z + (S.size : Int) := by simp only [wrap64]; omega
        clear hz1 hz2 hS5
        go_enter Tryd.func9, Tryd.ntmps9
        go_upto_region 4 with first
            | (go_at_call 11; refine GP.out.mono ?_; rintro e w0 ⟨rfl, rfl⟩)
            | (go_at_call 18; refine PT1.out.mono ?_; rintro e w1 ⟨C1, d1, rfl, q1, k1⟩; have B1 := Lib.hid k1; have Q1 := Lib.hid q1; clear k1 q1)
            | (go_at_call 20; refine (P1.out _ _ _ B1.out Q1.out.listAt).mono ?_; rintro e w2 ⟨rfl, k2⟩; have B2 : Hid (Below w.heap.size w w2) := B1.out.trans (k2.mono B1.out.size); clear k2)
        clear PT1 P1 GP
        go_upto_region 11 with first
          | (go_at_call 22; refine (RA.out _ B2.out).mono ?_; rintro e w3 ⟨C3, d3, rfl, -, k3⟩; have B3 : Hid (Below w.heap.size w w3) := B2.out.trans (k3.mono B2.out.size); clear k3 RA)
          | (go_at_call 22; refine (RB.out _ B3.out).mono ?_; rintro e w4 ⟨C4, n4, d4, rfl, k4⟩; have B4 : Hid (Below w.heap.size w w4) := B3.out.trans (k4.mono B3.out.size); clear k4 RB)
        go_wp2_with (go_at_call 12; refine (AW.out _ B4.out).mono ?_; rintro e w5 ⟨rfl, k5⟩)
        go_ret
        exact ⟨rfl, B4.out.trans (k5.mono B4.out.size)⟩
    · have hg0 : G = 8 := hG1 hs0
      subst hg0
      have hemp : s.toList.isEmpty = false := R12.text_ne hs0
      clear hG0 hG1 hs0
      by_cases hzn : z < 0
      all_goals
        simp only [hzn, if_true, if_false] at hkz
        have hw : IntKind.i64.wrap (z + (S.size : Int)) = z + (S.size : Int) := IntWalk.i64_in _ (by omega)
        have hw2 : wrap64 (z + (S.size : Int)) = z + (S.size : Int) := by simp only [wrap64]; omega
        clear hz1 hz2 hS5
        go_enter Tryd.func9, Tryd.ntmps9
        go_upto_region 4 with first
            | (go_at_call 11; refine GP.out.mono ?_; rintro e w0 ⟨rfl, rfl⟩)
            | (go_at_call 18; refine PT1.out.mono ?_; rintro e w1 ⟨C1, d1, rfl, q1, k1⟩; have B1 := Lib.hid k1; have Q1 := Lib.hid q1; clear k1 q1)
            | (go_at_call 20; refine (P1.out _ _ _ B1.out Q1.out.listAt).mono ?_; rintro e w2 ⟨rfl, k2⟩; have B2 : Hid (Below w.heap.size w w2) := B1.out.trans (k2.mono B1.out.size); clear k2)
        clear PT1 P1 GP
        go_upto_region 11 with first
          | (go_at_call 22; refine (RA.out _ B2.out).mono ?_; rintro e w3 ⟨C3, d3, rfl, -, k3⟩; have B3 : Hid (Below w.heap.size w w3) := B2.out.trans (k3.mono B2.out.size); clear k3 RA)
          | (go_at_call 22; refine (RB.out _ B3.out).mono ?_; rintro e w4 ⟨C4, n4, d4, rfl, k4⟩; have B4 : Hid (Below w.heap.size w w4) := B3.out.trans (k4.mono B3.out.size); clear k4 RB)
        go_wp2_with (go_at_call 12; refine (AW.out _ B4.out).mono ?_; rintro e w5 ⟨rfl, k5⟩)
        go_ret
        exact ⟨rfl, B4.out.trans (k5.mono B4.out.size)⟩
  · have hE0 := he
    rw [Bu.page_bad rfl he] at P1
    obtain ⟨E, hE⟩ : ∃ E, E = Bu.pageE i m := ⟨_, rfl⟩
    rw [← hE] at P1 he
    have hei : ((E : Int) != 0) = true := by rw [bne_iff_ne]; omega
    clear hE hE0 he RD
    go_enter Tryd.func9, Tryd.ntmps9
    go_upto_region 4 with first
        | (go_at_call 11; refine GP.out.mono ?_; rintro e w0 ⟨rfl, rfl⟩)
        | (go_at_call 18; refine PT1.out.mono ?_; rintro e w1 ⟨C1, d1, rfl, q1, k1⟩; have B1 := Lib.hid k1; have Q1 := Lib.hid q1; clear k1 q1)
        | (go_at_call 20; refine (P1.out _ _ _ B1.out Q1.out.listAt).mono ?_; rintro e w2 ⟨rfl, k2⟩; have B2 : Hid (Below w.heap.size w w2) := B1.out.trans (k2.mono B1.out.size); clear k2)
    go_wp2_with (go_at_call 12; refine (AW.out _ B2.out).mono ?_; rintro e w5 ⟨rfl, k5⟩)
    go_ret
    exact ⟨rfl, B2.out.trans (k5.mono B2.out.size)⟩
end Go.Proofs.YthhmnbpabncdnaaDoor
