/-
  BatchCut.
-/
import Derived.Test.YtlndggbidmmodaaBaBackLaw
namespace Go.Proofs.Ytlndggbidmmodaa
open Go.RowKit Pk
namespace Ba
theorem cut_mk (l : List UInt8) (n : Nat) : (⟨l.toArray⟩ : ByteArray).extract 0 n = ⟨(l.take n).toArray⟩ := by
  have h : ((⟨l.toArray⟩ : ByteArray).extract 0 n).data.toList = l.take n := by simp
  rw [← ba_eq ((⟨l.toArray⟩ : ByteArray).extract 0 n), h]
theorem bytes_pos (b : Bt) : 0 < (bytes b).length := by
  unfold bytes
  rw [List.length_append]
  have := List.length_pos_iff.2 (enc_ne b.ix.toNat)
  omega
theorem bytes_len {b : Bt} (hF : Fair b.ops) (hok : b.Ok) : (bytes b).length ≤ 1000000000 := by
  have hl := opsB_len (hF.smalls hok.ops)
  have he1 := R12.enc_len (n := b.ix.toNat) (by have := hok.ix; omega)
  have he2 := R12.enc_len (n := b.ep.toNat) (by have := hok.ep; omega)
  have he3 := R12.enc_len (n := b.ops.length) (by have := hok.len; omega)
  have hf1 := hF.1
  unfold bytes
  simp only [List.length_append]
  omega
end Ba
set_option maxRecDepth 100000 in
set_option maxHeartbeats 8000000 in
theorem batchcut_any (w : World) (b : Ba.Bt) {A : Option Addr} (c : Nat) (hit : Ba.listAt w A b.ops) (hok : b.Ok) (a : Int) (y : ByteArray) :
    Calls Try.prog 8 #[.agg #[.int .i64 b.ix, .int .i64 b.ep, .slice A b.ops.length c], .int .i64 a, .string y] w fun e w' => e = .returned (.bool true) ∧ Below w.heap.size w w' := by
  have AW := Lib.hid (fun wx => awake12_any wx)
  have gn := heap_alloc_new w (.cells #[.int .i64 b.ix, .int .i64 b.ep, .slice A b.ops.length c] 31)
  have b0 : Below w.heap.size w (w.alloc (.cells #[.int .i64 b.ix, .int .i64 b.ep, .slice A b.ops.length c] 31)) := (Below.refl _ w).alloc (Nat.le_refl _) _
  have hit1 := hit.below b0
  obtain ⟨gr, hgr⟩ := Ba.fair_or b.ops
  have GR := Lib.hid (greatOps_any (c := c) hit1 gr hgr)
  have BY0 : Hid (Ba.Fair b.ops → ∀ (wx : World) (A : Option Addr), Ba.listAt wx A b.ops → Calls Try.prog 16 #[.agg #[.int .i64 b.ix, .int .i64 b.ep, .slice A b.ops.length c]] wx fun e w' => e = .returned (.tuple #[.string ⟨(Ba.spelled b).1.toArray⟩, .int .i64 ((Ba.spelled b).2 : Nat)]) ∧ Below wx.heap.size wx w') := fun hF wx A h => baBytes_any b c h hok (hF.smalls hok.ops)
  have HLEN : Hid (Ba.Fair b.ops → (Ba.bytes b).length ≤ 1000000000) := fun hF => Ba.bytes_len hF hok
  have hpos := Ba.bytes_pos b
  have P0 : Hid (Ba.right b = 0 → ∀ (k : Nat), k < (Ba.bytes b).length → ∀ (t : ByteArray), t = ⟨(Ba.bytes b).toArray⟩ → t.size ≤ 1000000000 → ∀ (wx : World), Calls Try.prog 23 #[.string (t.extract 0 k)] wx fun e w' => ∃ A c, e = .returned (.tuple #[.agg #[.int .i64 0, .int .i64 0, .slice A 0 c], .int .i64 7]) ∧ Below wx.heap.size wx w') := fun hR k hk t ht hts wx => by
    have hle : (t.extract 0 k).size ≤ t.size := by rw [ByteArray.size_extract]; omega
    have := baRead_any wx (t.extract 0 k) (by omega)
    have e : t.extract 0 k = ⟨((Ba.bytes b).take k).toArray⟩ := by rw [ht]; exact Ba.cut_mk _ _
    rw [e, Ba.read_part hR hok.ep.2 hk] at this
    rw [e]
    exact this.mono fun _ _ ⟨A, c, h1, _, h3⟩ => ⟨A, c, h1, h3⟩
  have Q0 : Hid (Ba.right b = 0 → ∀ (t : ByteArray), t = ⟨(Ba.bytes b).toArray⟩ → t.size ≤ 1000000000 → y.size ≤ 100 → (y.size = 0 → ∀ (wx : World), Calls Try.prog 23 #[.string (t ++ y)] wx fun e w' => ∃ A c, e = .returned (.tuple #[.agg #[.int .i64 b.ix, .int .i64 b.ep, .slice A b.ops.length c], .int .i64 0]) ∧ Below wx.heap.size wx w') ∧ (¬ y.size = 0 → ∀ (wx : World), Calls Try.prog 23 #[.string (t ++ y)] wx fun e w' => ∃ A c, e = .returned (.tuple #[.agg #[.int .i64 0, .int .i64 0, .slice A 0 c], .int .i64 8]) ∧ Below wx.heap.size wx w')) := fun hR t ht hts hy => by
    have e : t ++ y = ⟨(Ba.bytes b ++ y.data.toList).toArray⟩ := by rw [ht]; exact R12.ba_cat_s _ _
    have hsz : (t ++ y).size ≤ 281474976710656 := by rw [ByteArray.size_append]; omega
    constructor
    · intro h0 wx
      have hyl : y.data.toList = [] := List.eq_nil_of_length_eq_zero (by rw [Ba.ba_size]; exact h0)
      have := baRead_any wx (t ++ y) hsz
      rw [hyl, List.append_nil] at e
      rw [e, Ba.read_bytes hR hok.ep.2] at this
      rw [e]
      exact this.mono fun _ _ ⟨A, c, h1, _, h3⟩ => ⟨A, c, h1, h3⟩
    · intro h0 wx
      have hyl : y.data.toList ≠ [] := fun h => h0 (by rw [← Ba.ba_size, h]; rfl)
      have := baRead_any wx (t ++ y) hsz
      rw [e, Ba.read_behind hR hok.ep.2 hyl] at this
      rw [e]
      exact this.mono fun _ _ ⟨A, c, h1, _, h3⟩ => ⟨A, c, h1, h3⟩
  have hsp : Ba.spelled b = (if Ba.right b = 0 then Ba.bytes b else [], Ba.right b) := rfl
  rw [hsp] at BY0
  simp only at BY0
  obtain ⟨R, hR0⟩ : ∃ R, R = Ba.right b := ⟨_, rfl⟩
  obtain ⟨L, hL⟩ : ∃ L, L = Ba.bytes b := ⟨_, rfl⟩
  rw [← hR0, ← hL] at BY0
  rw [← hR0, ← hL] at P0 Q0
  rw [← hL] at HLEN hpos
  clear hR0 hL hsp
  obtain ⟨ix, ep, l⟩ := b
  simp only at gn b0 hit1 GR BY0 P0 Q0 HLEN hgr ⊢
  obtain ⟨N, hN⟩ : ∃ N, N = w.heap.size := ⟨_, rfl⟩
  rw [← hN] at gn b0 ⊢
  have HN := Lib.hid hN
  have x0 := Sm.cells_of gn 0 _ rfl
  have x1 := Sm.cells_of gn 1 _ rfl
  have x2 := Sm.cells_of gn 2 _ rfl
  have G1 := Lib.hid gn
  have B1 := Lib.hid b0
  have HIT1 := Lib.hid hit1
  have hlt1 : N < (w.alloc (.cells #[.int .i64 ix, .int .i64 ep, .slice A l.length c] 31)).heap.size := Sm.lt_of gn
  clear hit hok hN gn b0 hit1
  cases gr
  · by_cases hy : 100 < y.size
    · have hyi : (100 : Int) < y.size := by omega
      clear BY0 P0 Q0 HLEN
      go_enter Try.func8, Try.ntmps8
      go_upto_region 1 with (fail)
      rw [← HN.out]
      generalize w.alloc (.cells #[.int .i64 ix, .int .i64 ep, .slice A l.length c] 31) = W1 at *
      go_wp2_with fail
      refine GR.out.mono ?_
      rintro e w1 ⟨rfl, rfl⟩
      go_wp2_with fail
      refine (AW.out _).mono ?_
      rintro e w2 ⟨rfl, b2⟩
      go_wp2_with fail
      go_ret
      exact ⟨rfl, B1.out.trans (b2.mono (Nat.le_of_lt hlt1))⟩
    · have hyi : ¬ (100 : Int) < y.size := by omega
      have hfair : Ba.Fair l := by
        by_cases h : Ba.Fair l
        · exact h
        · exact absurd (hgr.2 h) (by decide)
      have BY := Lib.hid (BY0.out hfair)
      have hlen := HLEN.out hfair
      clear hgr hfair BY0 HLEN
      by_cases hR : R = 0
      · rw [hR] at BY
        rw [if_pos rfl] at BY
        obtain ⟨t, ht⟩ : ∃ t : ByteArray, t = ⟨L.toArray⟩ := ⟨_, rfl⟩
        rw [← ht] at BY
        have hts : t.size = L.length := by rw [ht]; exact Ba.ba_mk_size _
        have PP : Hid (∀ k, k < t.size → ∀ (wx : World), Calls Try.prog 23 #[.string (t.extract 0 k)] wx fun e w' => ∃ A c, e = .returned (.tuple #[.agg #[.int .i64 0, .int .i64 0, .slice A 0 c], .int .i64 7]) ∧ Below wx.heap.size wx w') := fun k hk => P0.out hR k (by omega) t ht (by omega)
        obtain ⟨q1, q2⟩ := Q0.out hR t ht (by omega) (by omega)
        have RS0 := Lib.hid q1
        have RS8 := Lib.hid q2
        have hn : 0 < t.size := by omega
        have hnl : t.size ≤ 1000000000 := by omega
        have hne : ((t.size : Int) == 0) = false := by rw [beq_eq_false_iff_ne]; omega
        have hcat : ¬ 9223372036854775807 < t.size + y.size := by omega
        have hn0 : ¬ (t.size : Int) = 0 := by omega
        have tm1 : -(t.size : Int) < a.tmod t.size := Int.lt_tmod_of_pos a (by omega)
        have tm2 : a.tmod t.size < t.size := Int.tmod_lt_of_pos a (by omega)
        obtain ⟨q, hq⟩ : ∃ q, a.tmod t.size = q := ⟨_, rfl⟩
        rw [hq] at tm1 tm2
        clear q1 q2 P0 Q0 ht hts hR hlen hpos
        by_cases hneg : q < 0
        · obtain ⟨K, hK⟩ : ∃ K : Nat, q + t.size = K := ⟨(q + t.size).toNat, by omega⟩
          have RP := Lib.hid (PP.out K (by omega))
          have hKt : ¬ (t.size : Int) < K := by omega
          have hKt2 : (K : Int) ≤ t.size := by omega
          have hwr : IntKind.i64.wrap (q + t.size) = (K : Int) := by rw [hK]; exact IntWalk.i64_in _ (by omega)
          clear PP hK
          by_cases hb0 : y.size = 0
          · have hbe := R12.text_none hb0
            have RS : Hid (∀ wx : World, Calls Try.prog 23 #[.string (t ++ y)] wx fun e w' => ∃ A c, e = .returned (.tuple #[.agg #[.int .i64 ix, .int .i64 ep, .slice A l.length c], .int .i64 0]) ∧ Below wx.heap.size wx w') := RS0.out hb0
            clear hb0 RS0 RS8
            go_enter Try.func8, Try.ntmps8
            go_upto_region 1 with (fail)
            rw [← HN.out]
            generalize w.alloc (.cells #[.int .i64 ix, .int .i64 ep, .slice A l.length c] 31) = W1 at *
            go_wp2_with fail
            refine GR.out.mono ?_
            rintro e w1 ⟨rfl, rfl⟩
            go_wp2_with fail
            refine (BY.out _ _ HIT1.out).mono ?_
            rintro e w2 ⟨rfl, b2⟩
            have BZ0 := Lib.hid (B1.out.trans (b2.mono (Nat.le_of_lt hlt1)))
            clear b2 x0 x1 x2
            go_wp2_with fail
            refine (RP.out _).mono ?_
            rintro e v1 ⟨A1, c1, rfl, kb⟩
            have z1 : (v1.alloc (.cells #[.int .i64 0, .int .i64 0, .slice none 0 0] 31)).frozen? ⟨v1.heap.size, 0, none⟩ = false := Sm.free_of (heap_alloc_new v1 _) 0
            have BZ1 := Lib.hid (Ba.low_alloc HN.out (Ba.low_low HN.out BZ0.out kb) (.cells #[.int .i64 0, .int .i64 0, .slice A1 0 c1] 31))
            clear kb BZ0
            go_upto_region 10 with (fail)
            go_wp2_with fail
            refine (RS.out _).mono ?_
            rintro e v2 ⟨A2, c2, rfl, kb⟩
            have z2 : (v2.alloc (.cells #[.int .i64 0, .int .i64 0, .slice none 0 0] 31)).frozen? ⟨v2.heap.size, 0, none⟩ = false := Sm.free_of (heap_alloc_new v2 _) 0
            have BZ2 := Lib.hid (Ba.low_alloc HN.out (Ba.low_low HN.out BZ1.out kb) (.cells #[.int .i64 ix, .int .i64 ep, .slice A2 l.length c2] 31))
            clear kb BZ1
            go_upto_region 11 with (fail)
            go_wp2_with fail
            refine (AW.out _).mono ?_
            rintro e v9 ⟨rfl, k9⟩
            go_wp2_with fail
            go_ret
            exact ⟨rfl, Ba.low_low HN.out BZ2.out k9⟩
          · have hbe := R12.text_ne hb0
            have RS : Hid (∀ wx : World, Calls Try.prog 23 #[.string (t ++ y)] wx fun e w' => ∃ A c, e = .returned (.tuple #[.agg #[.int .i64 0, .int .i64 0, .slice A 0 c], .int .i64 8]) ∧ Below wx.heap.size wx w') := RS8.out hb0
            clear hb0 RS0 RS8
            go_enter Try.func8, Try.ntmps8
            go_upto_region 1 with (fail)
            rw [← HN.out]
            generalize w.alloc (.cells #[.int .i64 ix, .int .i64 ep, .slice A l.length c] 31) = W1 at *
            go_wp2_with fail
            refine GR.out.mono ?_
            rintro e w1 ⟨rfl, rfl⟩
            go_wp2_with fail
            refine (BY.out _ _ HIT1.out).mono ?_
            rintro e w2 ⟨rfl, b2⟩
            have BZ0 := Lib.hid (B1.out.trans (b2.mono (Nat.le_of_lt hlt1)))
            clear b2 x0 x1 x2
            go_wp2_with fail
            refine (RP.out _).mono ?_
            rintro e v1 ⟨A1, c1, rfl, kb⟩
            have z1 : (v1.alloc (.cells #[.int .i64 0, .int .i64 0, .slice none 0 0] 31)).frozen? ⟨v1.heap.size, 0, none⟩ = false := Sm.free_of (heap_alloc_new v1 _) 0
            have BZ1 := Lib.hid (Ba.low_alloc HN.out (Ba.low_low HN.out BZ0.out kb) (.cells #[.int .i64 0, .int .i64 0, .slice A1 0 c1] 31))
            clear kb BZ0
            go_upto_region 10 with (fail)
            go_wp2_with fail
            refine (RS.out _).mono ?_
            rintro e v2 ⟨A2, c2, rfl, kb⟩
            have z2 : (v2.alloc (.cells #[.int .i64 0, .int .i64 0, .slice none 0 0] 31)).frozen? ⟨v2.heap.size, 0, none⟩ = false := Sm.free_of (heap_alloc_new v2 _) 0
            have BZ2 := Lib.hid (Ba.low_alloc HN.out (Ba.low_low HN.out BZ1.out kb) (.cells #[.int .i64 0, .int .i64 0, .slice A2 0 c2] 31))
            clear kb BZ1
            go_upto_region 11 with (fail)
            go_wp2_with fail
            refine (AW.out _).mono ?_
            rintro e v9 ⟨rfl, k9⟩
            go_wp2_with fail
            go_ret
            exact ⟨rfl, Ba.low_low HN.out BZ2.out k9⟩
        · obtain ⟨K, rfl⟩ : ∃ K : Nat, q = K := ⟨q.toNat, by omega⟩
          have RP := Lib.hid (PP.out K (by omega))
          have hKt : ¬ (t.size : Int) < K := by omega
          have hKt2 : (K : Int) ≤ t.size := by omega
          clear PP
          by_cases hb0 : y.size = 0
          · have hbe := R12.text_none hb0
            have RS : Hid (∀ wx : World, Calls Try.prog 23 #[.string (t ++ y)] wx fun e w' => ∃ A c, e = .returned (.tuple #[.agg #[.int .i64 ix, .int .i64 ep, .slice A l.length c], .int .i64 0]) ∧ Below wx.heap.size wx w') := RS0.out hb0
            clear hb0 RS0 RS8
            go_enter Try.func8, Try.ntmps8
            go_upto_region 1 with (fail)
            rw [← HN.out]
            generalize w.alloc (.cells #[.int .i64 ix, .int .i64 ep, .slice A l.length c] 31) = W1 at *
            go_wp2_with fail
            refine GR.out.mono ?_
            rintro e w1 ⟨rfl, rfl⟩
            go_wp2_with fail
            refine (BY.out _ _ HIT1.out).mono ?_
            rintro e w2 ⟨rfl, b2⟩
            have BZ0 := Lib.hid (B1.out.trans (b2.mono (Nat.le_of_lt hlt1)))
            clear b2 x0 x1 x2
            go_wp2_with fail
            refine (RP.out _).mono ?_
            rintro e v1 ⟨A1, c1, rfl, kb⟩
            have z1 : (v1.alloc (.cells #[.int .i64 0, .int .i64 0, .slice none 0 0] 31)).frozen? ⟨v1.heap.size, 0, none⟩ = false := Sm.free_of (heap_alloc_new v1 _) 0
            have BZ1 := Lib.hid (Ba.low_alloc HN.out (Ba.low_low HN.out BZ0.out kb) (.cells #[.int .i64 0, .int .i64 0, .slice A1 0 c1] 31))
            clear kb BZ0
            go_upto_region 10 with (fail)
            go_wp2_with fail
            refine (RS.out _).mono ?_
            rintro e v2 ⟨A2, c2, rfl, kb⟩
            have z2 : (v2.alloc (.cells #[.int .i64 0, .int .i64 0, .slice none 0 0] 31)).frozen? ⟨v2.heap.size, 0, none⟩ = false := Sm.free_of (heap_alloc_new v2 _) 0
            have BZ2 := Lib.hid (Ba.low_alloc HN.out (Ba.low_low HN.out BZ1.out kb) (.cells #[.int .i64 ix, .int .i64 ep, .slice A2 l.length c2] 31))
            clear kb BZ1
            go_upto_region 11 with (fail)
            go_wp2_with fail
            refine (AW.out _).mono ?_
            rintro e v9 ⟨rfl, k9⟩
            go_wp2_with fail
            go_ret
            exact ⟨rfl, Ba.low_low HN.out BZ2.out k9⟩
          · have hbe := R12.text_ne hb0
            have RS : Hid (∀ wx : World, Calls Try.prog 23 #[.string (t ++ y)] wx fun e w' => ∃ A c, e = .returned (.tuple #[.agg #[.int .i64 0, .int .i64 0, .slice A 0 c], .int .i64 8]) ∧ Below wx.heap.size wx w') := RS8.out hb0
            clear hb0 RS0 RS8
            go_enter Try.func8, Try.ntmps8
            go_upto_region 1 with (fail)
            rw [← HN.out]
            generalize w.alloc (.cells #[.int .i64 ix, .int .i64 ep, .slice A l.length c] 31) = W1 at *
            go_wp2_with fail
            refine GR.out.mono ?_
            rintro e w1 ⟨rfl, rfl⟩
            go_wp2_with fail
            refine (BY.out _ _ HIT1.out).mono ?_
            rintro e w2 ⟨rfl, b2⟩
            have BZ0 := Lib.hid (B1.out.trans (b2.mono (Nat.le_of_lt hlt1)))
            clear b2 x0 x1 x2
            go_wp2_with fail
            refine (RP.out _).mono ?_
            rintro e v1 ⟨A1, c1, rfl, kb⟩
            have z1 : (v1.alloc (.cells #[.int .i64 0, .int .i64 0, .slice none 0 0] 31)).frozen? ⟨v1.heap.size, 0, none⟩ = false := Sm.free_of (heap_alloc_new v1 _) 0
            have BZ1 := Lib.hid (Ba.low_alloc HN.out (Ba.low_low HN.out BZ0.out kb) (.cells #[.int .i64 0, .int .i64 0, .slice A1 0 c1] 31))
            clear kb BZ0
            go_upto_region 10 with (fail)
            go_wp2_with fail
            refine (RS.out _).mono ?_
            rintro e v2 ⟨A2, c2, rfl, kb⟩
            have z2 : (v2.alloc (.cells #[.int .i64 0, .int .i64 0, .slice none 0 0] 31)).frozen? ⟨v2.heap.size, 0, none⟩ = false := Sm.free_of (heap_alloc_new v2 _) 0
            have BZ2 := Lib.hid (Ba.low_alloc HN.out (Ba.low_low HN.out BZ1.out kb) (.cells #[.int .i64 0, .int .i64 0, .slice A2 0 c2] 31))
            clear kb BZ1
            go_upto_region 11 with (fail)
            go_wp2_with fail
            refine (AW.out _).mono ?_
            rintro e v9 ⟨rfl, k9⟩
            go_wp2_with fail
            go_ret
            exact ⟨rfl, Ba.low_low HN.out BZ2.out k9⟩
      · rw [if_neg hR] at BY
        have hRi : ((R : Int) != 0) = true := by rw [bne_iff_ne]; omega
        clear hR P0 Q0
        have BY1 : Hid (∀ (wx : World) (A : Option Addr), Ba.listAt wx A l → Calls Try.prog 16 #[.agg #[.int .i64 ix, .int .i64 ep, .slice A l.length c]] wx fun e w' => e = .returned (.tuple #[.string ⟨#[]⟩, .int .i64 (R : Nat)]) ∧ Below wx.heap.size wx w') := BY.out
        clear BY
        go_enter Try.func8, Try.ntmps8
        go_upto_region 1 with (fail)
        rw [← HN.out]
        generalize w.alloc (.cells #[.int .i64 ix, .int .i64 ep, .slice A l.length c] 31) = W1 at *
        go_wp2_with fail
        refine GR.out.mono ?_
        rintro e w1 ⟨rfl, rfl⟩
        go_wp2_with fail
        refine (BY1.out _ _ HIT1.out).mono ?_
        rintro e w2 ⟨rfl, b2⟩
        have BZ0 := Lib.hid (B1.out.trans (b2.mono (Nat.le_of_lt hlt1)))
        clear b2 x0 x1 x2
        go_wp2_with fail
        refine (AW.out _).mono ?_
        rintro e v9 ⟨rfl, k9⟩
        go_wp2_with fail
        go_ret
        exact ⟨rfl, Ba.low_low HN.out BZ0.out k9⟩
  · clear BY0 P0 Q0 HLEN
    go_enter Try.func8, Try.ntmps8
    go_upto_region 1 with (fail)
    rw [← HN.out]
    generalize w.alloc (.cells #[.int .i64 ix, .int .i64 ep, .slice A l.length c] 31) = W1 at *
    go_wp2_with fail
    refine GR.out.mono ?_
    rintro e w1 ⟨rfl, rfl⟩
    go_wp2_with fail
    refine (AW.out _).mono ?_
    rintro e w2 ⟨rfl, b2⟩
    go_wp2_with fail
    go_ret
    exact ⟨rfl, B1.out.trans (b2.mono (Nat.le_of_lt hlt1))⟩
end Go.Proofs.Ytlndggbidmmodaa
