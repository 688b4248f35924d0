/-
  omap's after and Do.
-/
import Derived.Test.YtehkbffbehlpnaaOmPut
import Derived.Test.YtehkbffbehlpnaaBaRight
namespace Go.Proofs.Ytehkbffbehlpnaa
open Go.RowKit Go.Maps
namespace Om
theorem does_drop {m : List Pr} {ops : List Ba.Op} {k : Nat} (h : k < ops.length) : does m (ops.drop k) = does (step m ops[k]) (ops.drop (k + 1)) := by
  rw [List.drop_eq_getElem_cons h]
  rfl
theorem step_length (m : List Pr) (o : Ba.Op) : (step m o).length ≤ m.length + 1 := by
  unfold step
  split
  · have := (del_sub o.p m).length_le; omega
  · rw [put_length]; split <;> omega
theorem does_length : ∀ (ops : List Ba.Op) (m : List Pr), (does m ops).length ≤ m.length + ops.length
  | [], m => Nat.le_refl _
  | o :: r, m => by
    have h1 := does_length r (step m o)
    have h2 := step_length m o
    show (does (step m o) r).length ≤ m.length + (r.length + 1)
    omega
end Om
set_option maxRecDepth 100000 in
set_option maxHeartbeats 2000000 in
theorem omAfter_any {w : World} {mb : Option Nat} {l : List Om.Pr} (h : Om.HasP w mb l) (hl : l.length ≤ 48) {A : Option Addr} (c : Nat) {ops : List Ba.Op} (hit : Ba.listAt w A ops) (hn : ops.length ≤ 4) (hs : ∀ o ∈ ops, o.p.size ≤ 281474976710656 ∧ o.v.size ≤ 281474976710656) :
    Calls Try.prog 43 #[.map mb, .slice A ops.length c] w fun e w' => e = .returned (.map (some w.heap.size)) ∧ Om.MapP w' w.heap.size (Om.does l ops) ∧ Below w.heap.size w w' := by
  have HIT : Hid (∀ wx : World, Below w.heap.size w wx → ∀ j (hj : j < ops.length), ∃ b off, A = some ⟨b, off, none⟩ ∧ b < w.heap.size ∧ Ba.opAt wx b (off + j * 3) ops[j]) := fun wx k j hj => hit.get k j hj
  have B1 := (Below.refl w.heap.size w).alloc (Nat.le_refl _) (.map #[] 0)
  have C := Lib.hid (mapsCopyPair_any (Om.MapAt.made w : Om.MapP _ _ _) (Om.Has.belowP h B1 (Nat.le_refl _)) (fun e => by have := h.lt e; omega) (by omega : l.length ≤ 4096))
  have HS := Lib.hid hs
  obtain ⟨R, hR⟩ : ∃ R, R = Om.does l ops := ⟨_, rfl⟩
  rw [← hR]
  have HR : Hid (Om.does l (ops.drop 0) = R) := by show _ = _; rw [List.drop_zero]; exact hR.symm
  obtain ⟨N, hN⟩ : ∃ N, N = w.heap.size := ⟨_, rfl⟩
  rw [← hN] at HIT B1 C ⊢
  have HN := Lib.hid hN
  have HB1 := Lib.hid B1
  have hsz : (w.alloc (.map #[] 0)).heap.size = N + 1 := by rw [hN]; simp
  have HSZ := Lib.hid hsz
  have HL := Lib.hid hl
  have HOL := Lib.hid hn
  clear h hit hs hR B1 hsz hl hn
  have hmm := @run_makeMap Try.prog
  go_enter Try.func43, Try.ntmps43
  go_upto_region 2 with (fail)
  rw [← hN]
  clear hN hmm
  go_wp2_with (go_at_call 63; refine C.out.mono ?_; rintro e w1 ⟨rfl, hm1, hg1⟩)
  have HM1 := Lib.hid hm1
  have HB2 : Hid (Below N w w1) := HB1.out.grown hg1 (by rw [HSZ.out]; omega) (fun k hk => by cases hk; exact Nat.le_refl _)
  have HLE : Hid (N < w1.heap.size) := by show N < _; have := hg1.size; rw [HSZ.out] at this; omega
  clear hm1 hg1 C HB1 HSZ
  go_loopw [14] (fun s wr => ∃ (k : Nat) (m : List Om.Pr), s = .int .i64 k ∧ k ≤ ops.length ∧ Om.MapP wr N m ∧ m.length ≤ 48 + k ∧ Hid (Om.does m (ops.drop k) = R) ∧ Below N w wr) (fun s _ => ops.length - (intOf s).toNat)
  case atStart => exact ⟨0, l, rfl, Nat.zero_le _, HM1.out, HL.out, HR.out, HB2.out⟩
  case round =>
    clear HM1 HB2 HLE HR
    obtain ⟨k, m, rfl, hk, hm, hml, hr, hb⟩ := hrel
    have HM := Lib.hid hm
    have HB := Lib.hid hb
    have HML := Lib.hid hml
    have HK := Lib.hid hk
    clear hm hb hml
    by_cases hlt : k < ops.length
    · have hki : (k : Int) < (ops.length : Int) := by omega
      have hsuc : IntKind.i64.wrap ((k : Int) + 1) = ((k + 1 : Nat) : Int) := by simp [IntKind.wrap, IntKind.bits, IntKind.signed]; have := HOL.out; omega
      obtain ⟨gb, off, rfl, hgl, o0, o1, o2⟩ := HIT.out _ HB.out k hlt
      have hrd := hr.out
      rw [Om.does_drop hlt] at hrd
      have hso := HS.out _ (List.getElem_mem hlt)
      obtain ⟨x, hx⟩ : ∃ x, x = ops[k] := ⟨_, rfl⟩
      rw [← hx] at o0 o1 o2 hrd hso
      have HRD := Lib.hid hrd
      have HLT := Lib.hid hlt
      have hNle : N ≤ wr.heap.size := Nat.le_of_lt HM.out.lt
      have gn := heap_alloc_new wr (.cells #[.int .u8 (x.k : Int), .string x.p, .string x.v] 52)
      have hm2 : Om.MapP (wr.alloc (.cells #[.int .u8 (x.k : Int), .string x.p, .string x.v] 52)) N m := HM.out.block (Below.heap_alloc _ _ _ HM.out.lt)
      have hb2 : Below N w (wr.alloc (.cells #[.int .u8 (x.k : Int), .string x.p, .string x.v] 52)) := HB.out.alloc hNle _
      have HM2 := Lib.hid hm2
      have HB2 := Lib.hid hb2
      have x0 := Sm.cells_of gn 0 _ rfl
      have x1 := Sm.cells_of gn 1 _ rfl
      have x2 := Sm.cells_of gn 2 _ rfl
      have HGN := Lib.hid gn
      obtain ⟨q, hq⟩ : ∃ q, q = wr.heap.size := ⟨_, rfl⟩
      have HQ := Lib.hid hq
      obtain ⟨w2, hw2⟩ : ∃ w2, w2 = wr.alloc (.cells #[.int .u8 (x.k : Int), .string x.p, .string x.v] 52) := ⟨_, rfl⟩
      rw [← hw2] at HM2 HB2 x0 x1 x2 HGN
      rw [← hq] at x0 x1 x2 HGN
      clear hrd hr hm2 hb2 gn hx
      clear hlt
      go_upto_region 6 with (fail)
      rw [← hq, ← hw2]
      clear hq hw2
      by_cases h2 : x.k = 2
      · have h2i : ((x.k : Nat) : Int) = 2 := by omega
        rw [h2i] at x0
        obtain ⟨w3, hdr, hm3, ht3⟩ := HM2.out.drop Try.underlying9 Try.underlying69 (show x.p.size ≤ maxLen by unfold maxLen; omega) 0
        have HM3 := Lib.hid hm3
        have HB3 : Hid (Below N w w3) := HB2.out.grown ht3.grown (by rw [HN.out]; exact HB2.out.size) (fun k hk => by cases hk; exact Nat.le_refl _)
        have HST : Hid (Om.step m x = Om.del x.p m) := by show _ = _; unfold Om.step; rw [if_pos h2]
        clear hm3 ht3 h2 h2i hso
        go_wp2
        go_roundw
        case rel =>
          refine ⟨k + 1, _, rfl, HLT.out, HM3.out, ?_, ?_, HB3.out⟩
          · have := (Om.del_sub x.p m).length_le; have := HML.out; omega
          · rw [← HST.out]; exact HRD.out
        case measure => simp only [intOf]; have := HLT.out; omega
      · have h2i : ((x.k : Int) == 2) = false := by rw [beq_eq_false_iff_ne]; omega
        have CP := Lib.hid (omPut_any HM2.out (by have := HML.out; have := HK.out; have := HOL.out; omega) x.p x.v hso.1 hso.2)
        have HST : Hid (Om.step m x = Om.put x.p x.v m) := by show _ = _; unfold Om.step; rw [if_neg h2]
        clear h2 hso
        go_wp2_with (go_at_call 38; refine CP.out.mono ?_; rintro e w3 ⟨rfl, hm3, hg3⟩)
        have HM3 := Lib.hid hm3
        have HB3 : Hid (Below N w w3) := HB2.out.grown hg3 (by rw [HN.out]; exact HB2.out.size) (fun k hk => by cases hk; exact Nat.le_refl _)
        clear hm3 hg3
        go_roundw
        case rel =>
          refine ⟨k + 1, _, rfl, HLT.out, HM3.out, ?_, ?_, HB3.out⟩
          · rw [Om.put_length]; have := HML.out; split <;> omega
          · rw [← HST.out]; exact HRD.out
        case measure => simp only [intOf]; have := HLT.out; omega
    · have hke : k = ops.length := by omega
      have hr' := hr.out
      rw [hke, List.drop_length] at hr'
      have HMR : Hid (Om.MapP wr N R) := by rw [← hr']; exact HM.out
      clear hr hr' hk
      subst hke
      go_wp2
      go_ret
      exact ⟨rfl, HMR.out, HB.out⟩
namespace Om
/-- What Do makes of a map, and tells. -/
def doE (l : List Pr) (ops : List Ba.Op) : List Pr × Nat := if Ba.right ⟨1, 1, ops⟩ ≠ 0 then (l, Ba.right ⟨1, 1, ops⟩) else if 48 < (does l ops).length then (l, 6) else (does l ops, 0)
theorem doE_bad {l : List Pr} {ops : List Ba.Op} (h : Ba.right ⟨1, 1, ops⟩ ≠ 0) : doE l ops = (l, Ba.right ⟨1, 1, ops⟩) := by unfold doE; rw [if_pos h]
theorem doE_full {l : List Pr} {ops : List Ba.Op} (h : Ba.right ⟨1, 1, ops⟩ = 0) (h2 : 48 < (does l ops).length) : doE l ops = (l, 6) := by unfold doE; rw [if_neg (by simp [h]), if_pos h2]
theorem doE_ok {l : List Pr} {ops : List Ba.Op} (h : Ba.right ⟨1, 1, ops⟩ = 0) (h2 : ¬ 48 < (does l ops).length) : doE l ops = (does l ops, 0) := by unfold doE; rw [if_neg (by simp [h]), if_neg h2]
theorem doE_zero {l : List Pr} {ops : List Ba.Op} : (doE l ops).2 = 0 → Ba.right ⟨1, 1, ops⟩ = 0 ∧ (does l ops).length ≤ 48 ∧ (doE l ops).1 = does l ops := by
  intro h
  by_cases h1 : Ba.right ⟨1, 1, ops⟩ = 0
  · by_cases h2 : 48 < (does l ops).length
    · rw [doE_full h1 h2] at h; cases h
    · rw [doE_ok h1 h2]; exact ⟨h1, by omega, rfl⟩
  · rw [doE_bad h1] at h; exact absurd h h1
theorem doE_same {l : List Pr} {ops : List Ba.Op} (h : (doE l ops).2 ≠ 0) : (doE l ops).1 = l := by
  by_cases h1 : Ba.right ⟨1, 1, ops⟩ = 0
  · by_cases h2 : 48 < (does l ops).length
    · rw [doE_full h1 h2]
    · rw [doE_ok h1 h2] at h; exact absurd rfl h
  · rw [doE_bad h1]
theorem doE_good {l : List Pr} (h : Good l) (ops : List Ba.Op) : Good (doE l ops).1 := by
  by_cases h0 : (doE l ops).2 = 0
  · obtain ⟨h1, h2, h3⟩ := doE_zero h0
    rw [h3]
    exact ⟨does_rises h.rises ops, does_fair h.fair (Ba.right_ok h1).2.2.2, h2⟩
  · rw [doE_same h0]; exact h
end Om
set_option maxRecDepth 100000 in
theorem omDo_nil {w : World} (v : Value) : Calls Try.prog 17 #[.pointer none, v] w fun e w' => e = .returned (.int .i64 2) ∧ w = w' := by
  go_enter Try.func17, Try.ntmps17
  go_wp2
  go_ret
  exact ⟨rfl, rfl⟩
set_option maxRecDepth 100000 in
set_option maxHeartbeats 1000000 in
theorem omDo_any {w : World} {r : Nat} {mb : Option Nat} {l : List Om.Pr} (h : Om.At w r mb l) (hG : Om.Good l) {A : Option Addr} (c : Nat) {ops : List Ba.Op} (hit : Ba.listAt w A ops) (hn : ops.length ≤ 9223372036854775807) (hok : ∀ o ∈ ops, o.Ok) (hs : ∀ o ∈ ops, o.p.size ≤ 281474976710656) :
    Calls Try.prog 17 #[.pointer (some ⟨r, 0, none⟩), .slice A ops.length c] w fun e w' => e = .returned (.int .i64 ((Om.doE l ops).2 : Nat)) ∧ (∃ mb', Om.At w' r mb' (Om.doE l ops).1) ∧ w.grownBy w' (some r) := by
  have C := Lib.hid (baRight_any ⟨1, 1, ops⟩ c hit ⟨⟨by show (_ : Int) ≤ 1; omega, by show (1 : Int) ≤ _; omega⟩, ⟨by show (_ : Int) ≤ 1; omega, by show (1 : Int) ≤ _; omega⟩, hok, hn⟩ hs)
  simp only at C
  obtain ⟨E, hE⟩ : ∃ E, E = Ba.right ⟨1, 1, ops⟩ := ⟨_, rfl⟩
  rw [← hE] at C
  have HA := Lib.hid h
  have hrl := h.lt
  have HRL := Lib.hid hrl
  by_cases h0 : E = 0
  · have hEb : ((E : Int) != 0) = false := by rw [h0]; rfl
    rw [hE] at h0
    have h48 := (Ba.right_ok h0).2.2
    have hdl := Om.does_length ops l
    have hgl := hG.len
    have AF := Lib.hid (fun (wx : World) (k : Below w.heap.size w wx) => omAfter_any (Om.Has.belowP h.has k (Nat.le_refl _)) hG.len c (hit.below k) h48.1 (fun o ho => by
      have h1 := Ba.path_small (h48.2 o ho)
      have h2 := (Ba.bars_ok (h48.2 o ho)).2.2.1
      rw [Ba.ba_size] at h1
      exact ⟨by omega, by omega⟩))
    obtain ⟨D, hD⟩ : ∃ D, D = Om.does l ops := ⟨_, rfl⟩
    rw [← hD] at AF
    by_cases hf : 48 < D.length
    · have hfi : (48 : Int) < (D.length : Int) := by omega
      rw [Om.doE_full h0 (by rw [← hD]; exact hf)]
      clear h hit hok hs hE h0 h48 hdl hgl hD hf hG
      go_enter Try.func17, Try.ntmps17
      go_wp2_with first | (go_at_call 42; refine C.out.mono ?_; rintro e w1 ⟨rfl, k1⟩; have K1 := Lib.hid k1; have hc := Sm.cells_of ((HA.out.below k1 (Nat.le_refl _)).cell) 0 _ rfl; clear k1) | (go_at_call 43; refine (AF.out _ K1.out).mono ?_; rintro e w2 ⟨rfl, hm2, k2⟩; have hl2 := fun ty => hm2.len Try.underlying69 ty)
      go_ret
      have K2 : Below w.heap.size w w2 := K1.out.trans (k2.mono K1.out.size)
      exact ⟨rfl, ⟨mb, HA.out.below K2 (Nat.le_refl _)⟩, Below.grownBy K2 rfl _⟩
    · have hfi : (D.length : Int) ≤ 48 := by omega
      rw [Om.doE_ok h0 (by rw [← hD]; exact hf), ← hD]
      clear h hit hok hs hE h0 h48 hdl hgl hD hf hG
      go_enter Try.func17, Try.ntmps17
      go_wp2_with first | (go_at_call 42; refine C.out.mono ?_; rintro e w1 ⟨rfl, k1⟩; have K1 := Lib.hid k1; have hc := Sm.cells_of ((HA.out.below k1 (Nat.le_refl _)).cell) 0 _ rfl; clear k1) | (go_at_call 43; refine (AF.out _ K1.out).mono ?_; rintro e w2 ⟨rfl, hm2, k2⟩; have hl2 := fun ty => hm2.len Try.underlying69 ty; have hA2 := HA.out.below (K1.out.trans (k2.mono K1.out.size)) (Nat.le_refl _); have y0 := Sm.cells_of hA2.cell 0 _ rfl; have f0 := Sm.free_of hA2.cell 0)
      go_ret
      have K2 : Below w.heap.size w w2 := K1.out.trans (k2.mono K1.out.size)
      have hrl2 := HRL.out
      refine ⟨rfl, ⟨some w1.heap.size, Sm.heap_set hA2.cell 0 _, .inr ⟨_, rfl, hm2.block (Below.heap_setCell _ _ _ _ ?_)⟩⟩, Sm.grown_set (Below.grownBy K2 rfl _) 0 _⟩
      show w1.heap.size ≠ r
      have := K1.out.size
      omega
  · have hEb : ((E : Int) != 0) = true := by rw [bne_iff_ne]; omega
    rw [Om.doE_bad (by rw [← hE]; exact h0), ← hE]
    clear h hit hok hs hE h0 hG
    go_enter Try.func17, Try.ntmps17
    go_wp2_with (go_at_call 42; refine C.out.mono ?_; rintro e w1 ⟨rfl, k1⟩)
    go_ret
    exact ⟨rfl, ⟨mb, HA.out.below k1 (Nat.le_refl _)⟩, Below.grownBy k1 rfl _⟩
end Go.Proofs.Ytehkbffbehlpnaa
