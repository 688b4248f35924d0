/-
  bucket's Page.
-/
import Derived.Test.YtiehcplepneajaaGreatDoorBuMay
import Derived.Test.YtiehcplepneajaaGreatDoorBuAll
import Derived.Test.YtiehcplepneajaaGreatDoorMPackB
import Derived.Test.YtiehcplepneajaaGreatDoorR12Ops
namespace Go.Proofs.YtiehcplepneajaaGreatDoor
open Go.RowKit Pk
namespace Bu
open Om (Pr)
theorem prB_len {x : Pr} (h : Om.Fair x) : (prB x).length ≤ 85 := by
  obtain ⟨h1, h2⟩ := fair_len h
  have e1 := R12.enc_len (n := x.p.data.toList.length) (by omega)
  have e2 := R12.enc_len (n := x.v.data.toList.length) (by omega)
  unfold prB Rm.txt
  simp only [List.length_append]
  omega
theorem prsB_len : ∀ {l : List Pr}, (∀ x ∈ l, Om.Fair x) → (prsB l).length ≤ 85 * l.length
  | [], _ => by simp [prsB]
  | x :: r, h => by
    have h1 := prB_len (h x (by simp))
    have h2 := prsB_len (l := r) fun y hy => h y (by simp [hy])
    rw [prsB, List.length_append, List.length_cons]
    omega
theorem prsB_part {l : List Pr} (h : ∀ x ∈ l, Om.Fair x) (k : Nat) : (prsB (l.take k)).length ≤ 85 * l.length := by
  have h1 := prsB_len (l := l.take k) fun x hx => h x (List.mem_of_mem_take hx)
  have h2 : (l.take k).length ≤ l.length := by rw [List.length_take]; omega
  have : 85 * (l.take k).length ≤ 85 * l.length := Nat.mul_le_mul_left _ h2
  omega
theorem page_bad {i : Int} {l : List Pr} {e : Nat} (h : pageE i l = e) (h0 : e ≠ 0) : page i l = (⟨#[]⟩, e) := by
  unfold page
  rw [h, if_neg h0]
theorem page_good {i : Int} {l : List Pr} (h : pageE i l = 0) : page i l = (⟨(bytes l).toArray⟩, 0) := by
  unfold page
  rw [h, if_pos rfl]
theorem pageE_out {i : Int} {l : List Pr} (h : decide (0 ≤ i ∧ i ≤ 15) = false) : pageE i l = 1 := by
  have := of_decide_eq_false h
  unfold pageE
  rw [if_pos (by omega)]
theorem pageE_may {i : Int} {l : List Pr} (h : may l = false) : pageE i l = 1 := by
  unfold pageE
  rw [if_pos (.inr (.inr (.inl h)))]
theorem pageE_all {i : Int} {l : List Pr} (h : allOf i l = false) : pageE i l = 1 := by
  unfold pageE
  rw [if_pos (.inr (.inr (.inr h)))]
theorem pageE_long {i : Int} {l : List Pr} (h1 : 0 ≤ i ∧ i ≤ 15) (h2 : may l = true) (h3 : allOf i l = true) (h : 48 < l.length) : pageE i l = 3 := by
  unfold pageE
  rw [if_neg (by rw [h2, h3]; simp; omega), if_pos h]
/-- Where Page stands: the Out in block o with these bytes. -/
structure Wr (w W : World) (N o : Nat) (bs : List UInt8) : Prop where
  out : outAt W N o bs
  bel : Below N w W
  low : N ≤ W.heap.size
theorem Wr.next {w W W' : World} {N o : Nat} {bs bs' : List UInt8} (h : Wr w W N o bs) (ho : outAt W' N o bs') (b : Below N W W') : Wr w W' N o bs' := ⟨ho, h.bel.trans b, Nat.le_trans h.low b.size⟩
theorem Wr.alloc {w W : World} {N o : Nat} {bs : List UInt8} (h : Wr w W N o bs) (x : Obj) : Wr w (W.alloc x) N o bs := ⟨h.out.kept ((Below.refl _ W).alloc (Nat.le_refl _) _), h.bel.alloc h.low _, Nat.le_trans h.low (by simp)⟩
end Bu
set_option maxRecDepth 100000 in
set_option maxHeartbeats 4000000 in
theorem buPage_any {w : World} (hH : Sm.HAt w) (hK : Sm.KAt w) (hsz : 1 < w.heap.size) (i : Int) {A : Option Addr} {l : List Om.Pr} (c : Nat) (hit : Om.listAt w A l) (hn : l.length ≤ 1000000) (hs : ∀ x ∈ l, x.p.size ≤ 281474976710656) :
    Calls Tryz.prog 73 #[.int .i64 i, .slice A l.length c] w fun e w' => e = .returned (.tuple #[.string (Bu.page i l).1, .int .i64 ((Bu.page i l).2 : Nat)]) ∧ Below w.heap.size w w' := by
  have PA := Lib.hid (buIsBucket_any w i)
  have MA := Lib.hid (buMay_any c hit (by omega) (fun x hx => hs x hx))
  have HAO : Hid (∀ wx : World, Below w.heap.size w wx → Calls Tryz.prog 106 #[.int .i64 i, .slice A l.length c] wx fun e w' => e = .returned (.bool (Bu.allOf i l)) ∧ Below wx.heap.size wx w') := fun wx hb => buAreOf_any (hH.low hb (by omega)) (hK.low hb hsz) (Nat.lt_of_lt_of_le hsz hb.size) c (hit.below hb) (by omega) (fun x hx => hs x hx) i
  have HIT := Lib.hid hit
  clear hit hs hH hK
  have hlow : Hid (1 < w.heap.size) := hsz
  clear hsz
  cases h1 : decide (0 ≤ i ∧ i ≤ 15)
  · rw [h1] at PA
    rw [Bu.page_bad (Bu.pageE_out h1) (by decide)]
    clear h1
    go_enter Tryz.func73, Tryz.ntmps73
    go_wp2_with first
    | (go_at_call 105; refine PA.out.mono ?_; rintro e w0 ⟨rfl, rfl⟩)
    | (go_at_call 52; refine MA.out.mono ?_; rintro e w1 ⟨rfl, k1⟩; have B1 := Lib.hid k1; clear k1)
    | (go_at_call 106; refine (HAO.out _ B1.out).mono ?_; rintro e w2 ⟨rfl, k2⟩; have B2 : Hid (Below w.heap.size w w2) := B1.out.trans (k2.mono B1.out.size); clear k2)
    go_ret2
    exact ⟨rfl, Below.refl _ _⟩
  rw [h1] at PA
  cases h2 : Bu.may l
  · rw [h2] at MA
    rw [Bu.page_bad (Bu.pageE_may h2) (by decide)]
    clear h1 h2
    go_enter Tryz.func73, Tryz.ntmps73
    go_wp2_with first
    | (go_at_call 105; refine PA.out.mono ?_; rintro e w0 ⟨rfl, rfl⟩)
    | (go_at_call 52; refine MA.out.mono ?_; rintro e w1 ⟨rfl, k1⟩; have B1 := Lib.hid k1; clear k1)
    | (go_at_call 106; refine (HAO.out _ B1.out).mono ?_; rintro e w2 ⟨rfl, k2⟩; have B2 : Hid (Below w.heap.size w w2) := B1.out.trans (k2.mono B1.out.size); clear k2)
    go_ret2
    exact ⟨rfl, B1.out⟩
  rw [h2] at MA
  cases h3 : Bu.allOf i l
  · rw [h3] at HAO
    rw [Bu.page_bad (Bu.pageE_all h3) (by decide)]
    clear h1 h2 h3
    go_enter Tryz.func73, Tryz.ntmps73
    go_wp2_with first
    | (go_at_call 105; refine PA.out.mono ?_; rintro e w0 ⟨rfl, rfl⟩)
    | (go_at_call 52; refine MA.out.mono ?_; rintro e w1 ⟨rfl, k1⟩; have B1 := Lib.hid k1; clear k1)
    | (go_at_call 106; refine (HAO.out _ B1.out).mono ?_; rintro e w2 ⟨rfl, k2⟩; have B2 : Hid (Below w.heap.size w w2) := B1.out.trans (k2.mono B1.out.size); clear k2)
    go_ret2
    exact ⟨rfl, B2.out⟩
  rw [h3] at HAO
  by_cases h4 : 48 < l.length
  · rw [Bu.page_bad (Bu.pageE_long (of_decide_eq_true h1) h2 h3 h4) (by decide)]
    have h4i : (48 : Int) < (l.length : Int) := by omega
    clear h1 h2 h3 h4
    go_enter Tryz.func73, Tryz.ntmps73
    go_wp2_with first
    | (go_at_call 105; refine PA.out.mono ?_; rintro e w0 ⟨rfl, rfl⟩)
    | (go_at_call 52; refine MA.out.mono ?_; rintro e w1 ⟨rfl, k1⟩; have B1 := Lib.hid k1; clear k1)
    | (go_at_call 106; refine (HAO.out _ B1.out).mono ?_; rintro e w2 ⟨rfl, k2⟩; have B2 : Hid (Below w.heap.size w w2) := B1.out.trans (k2.mono B1.out.size); clear k2)
    go_ret2
    exact ⟨rfl, B2.out⟩
  rw [Bu.page_good (Bu.pageE_of (of_decide_eq_true h1) h2 h3 (by omega))]
  have HFA := Lib.hid (Bu.may_iff.1 h2).1
  have h4i : ¬ (48 : Int) < (l.length : Int) := by omega
  have wl : IntKind.u64.wrap (l.length : Int) = (l.length : Int) := by rw [IntKind.wrap_u64]; omega
  have HBB : Hid (Bu.bytes l = enc l.length ++ Bu.prsB l) := rfl
  obtain ⟨BB, hBB⟩ : ∃ R, R = Bu.bytes l := ⟨_, rfl⟩
  rw [← hBB] at HBB ⊢
  have HL48 : Hid (l.length ≤ 48) := by show _ ≤ _; omega
  have HEL := Lib.hid (R12.enc_len (n := l.length) (by omega))
  obtain ⟨HD, hHD⟩ : ∃ x, x = enc l.length := ⟨_, rfl⟩
  rw [← hHD] at HBB HEL
  have HHD := Lib.hid hHD
  clear h1 h2 h3 h4 hBB hHD
  go_enter Tryz.func73, Tryz.ntmps73
  go_upto_region 5 with first
    | (go_at_call 105; refine PA.out.mono ?_; rintro e w0 ⟨rfl, rfl⟩)
    | (go_at_call 52; refine MA.out.mono ?_; rintro e w1 ⟨rfl, k1⟩; have B1 := Lib.hid k1; clear k1)
    | (go_at_call 106; refine (HAO.out _ B1.out).mono ?_; rintro e w2 ⟨rfl, k2⟩; have B2 : Hid (Below w.heap.size w w2) := B1.out.trans (k2.mono B1.out.size); clear k2)
  obtain ⟨N, hN⟩ : ∃ N, N = w.heap.size := ⟨_, rfl⟩
  have HB2 : Hid (Below N w w2) := by rw [hN]; exact B2.out
  have hNw2 : N ≤ w2.heap.size := by rw [hN]; exact B2.out.size
  have S3 : Hid (Bu.Wr w (w2.alloc (.cells #[.pointer none, .int .i64 0] 157)) N w2.heap.size []) := ⟨⟨by omega, .inl ⟨heap_alloc_new w2 _, rfl⟩⟩, HB2.out.alloc hNw2 _, by simp; omega⟩
  have HN := Lib.hid hN
  clear hN hNw2 HB2 B1 B2 PA MA HAO
  go_upto_region 6 with (fail)
  generalize w2.alloc (.cells #[.pointer none, .int .i64 0] 157) = W3 at *
  generalize w2.heap.size = o at *
  have NU : Hid (Calls Tryz.prog 107 #[.pointer (some ⟨o, 0, none⟩), .int .u64 (l.length : Int)] W3 fun e w' => e = .returned (.tuple #[]) ∧ Bu.Wr w w' N o HD) :=
    (oNum_any_fr l.length (by omega) S3.out.out S3.out.low (by simp)).mono fun _ _ ⟨h1, h2, h3, _⟩ => ⟨h1, S3.out.next (by rw [HHD.out]; simpa using h2) h3⟩
  go_upto_region 7 with (go_at_call 107; refine NU.out.mono ?_; rintro e w4 ⟨rfl, s4⟩)
  have S4 := Lib.hid s4
  clear s4 NU S3
  go_wp2
  go_loopw [32] (fun v wr => ∃ k : Nat, v = .int .i64 k ∧ k ≤ l.length ∧ Bu.Wr w wr N o (HD ++ Bu.prsB (l.take k))) (fun v _ => l.length - (intOf v).toNat)
  case atStart => exact ⟨0, rfl, Nat.zero_le _, by simpa [Bu.prsB] using S4.out⟩
  case round =>
    clear S4
    obtain ⟨k, rfl, hk, s⟩ := hrel
    have S5 := Lib.hid s
    clear s
    by_cases hlt : k < l.length
    · have hki : (k : Int) < (l.length : Int) := by omega
      have hsuc : IntKind.i64.wrap ((k : Int) + 1) = ((k + 1 : Nat) : Int) := by simp [IntKind.wrap, IntKind.bits, IntKind.signed]; omega
      have hbl : Below w.heap.size w wr := by rw [← HN.out]; exact S5.out.bel
      obtain ⟨b, off, rfl, -, x0, x1⟩ := HIT.out.get hbl k hlt
      have hfx := HFA.out _ (List.getElem_mem hlt)
      have htk := Bu.prsB_take hlt
      have hpl := Bu.prsB_part HFA.out k
      obtain ⟨x, hx⟩ : ∃ x, x = l[k] := ⟨_, rfl⟩
      rw [← hx] at x0 x1 hfx htk
      have hfl := Bu.fair_len hfx
      rw [Ba.ba_size, Ba.ba_size] at hfl
      obtain ⟨hfp, hfv⟩ := hfl
      obtain ⟨P, hP⟩ : ∃ P, P = HD ++ Bu.prsB (l.take k) := ⟨_, rfl⟩
      have hPl : P.length ≤ 5000 := by
        have h1 := HEL.out
        have h2 := HL48.out
        rw [hP, List.length_append]
        omega
      rw [← hP] at S5
      have S6 := Lib.hid (S5.out.alloc (.cells #[.string x.p, .string x.v] 79))
      have gn := heap_alloc_new wr (.cells #[.string x.p, .string x.v] 79)
      have HTK : Hid (HD ++ Bu.prsB (l.take (k + 1)) = P ++ (enc x.p.size ++ x.p.data.toList) ++ (enc x.v.size ++ x.v.data.toList)) := by
        show _ = _
        rw [htk, ← List.append_assoc, ← hP]
        unfold Bu.prB Rm.txt
        rw [Ba.ba_size, Ba.ba_size, List.append_assoc, List.append_assoc, List.append_assoc]
      obtain ⟨M, hM⟩ : ∃ M, M = wr.heap.size := ⟨_, rfl⟩
      rw [← hM] at gn
      clear hx hfx htk hpl hbl hP S5
      go_upto_region 10 with (fail)
      rw [← hM]
      clear hM x0 x1
      generalize wr.alloc (.cells #[.string x.p, .string x.v] 79) = W6 at *
      have T1 := Lib.hid (oText_any_fr x.p S6.out.out S6.out.low (by omega))
      have y0 := Sm.cells_of gn 0 _ rfl
      have G6 := Lib.hid gn
      clear gn
      go_upto_region 11 with (go_at_call 108; refine T1.out.mono ?_; rintro e w7 ⟨rfl, h1, h2, h3⟩)
      have S7 := Lib.hid (S6.out.next h1 h2)
      have g7 := h3 _ _ _ _ G6.out (by decide) (by decide) (by decide)
      have y1 := Sm.cells_of g7 1 _ rfl
      have hl7 := R12.enc_len (n := x.p.size) (by omega)
      have T2 := Lib.hid (oText_any_fr x.v S7.out.out S7.out.low (by simp only [List.length_append, Ba.ba_size]; omega))
      clear h1 h2 h3 y0 g7 T1 S6 G6 hl7
      go_wp2_with (go_at_call 108; refine T2.out.mono ?_; rintro e w8 ⟨rfl, h1, h2, _⟩)
      have S8 := Lib.hid (S7.out.next h1 h2)
      clear h1 h2 T2 S7 y1
      go_roundw
      case rel => exact ⟨k + 1, rfl, hlt, by rw [HTK.out]; exact S8.out⟩
      case measure => simp [intOf]; omega
    · have hki : ¬ (k : Int) < (l.length : Int) := by omega
      have hkl : k = l.length := by omega
      have s2 := S5.out
      rw [hkl, List.take_length] at s2
      have hrl : (HD ++ Bu.prsB l).length ≤ 140737488355328 := by
        have h1 := Bu.prsB_len HFA.out
        have h2 := HEL.out
        have h3 := HL48.out
        rw [List.length_append]
        omega
      have ST := Lib.hid (oString_any s2.out hrl)
      have B9 := Lib.hid s2.bel
      clear S5 s2 hrl hkl
      go_wp2_with (go_at_call 109; refine ST.out.mono ?_; rintro e w7 ⟨rfl, n, rfl⟩)
      go_ret2
      refine ⟨?_, by rw [← HN.out]; exact Sm.below_drewN B9.out n⟩
      rw [HBB.out]
      rfl
end Go.Proofs.YtiehcplepneajaaGreatDoor
