/-
  What disk's Spoil does.
-/
import Derived.Test.YtipfjccmceaclaaDkSync
namespace Go.Proofs.Ytipfjccmceaclaa
open Go.RowKit
namespace Dk
/-- One sector lasts anew. -/
theorem Parts.lay {w w' : World} {r m b c : Nat} {g : Nat → Nat} {F : Nat → Option Value} {M : Md} (h : Parts w r m b c g F M) {i : Nat} {s : List UInt8} (hrow : RowAt w' b c (M.lasts.set i s)) (hk : ∀ k, own r m b g M k → k ≠ b → w'.heap[k]? = w.heap[k]?) :
    Parts w' r m b c g F { M with lasts := M.lasts.set i s } := by
  have hl : (M.lasts.set i s).length = M.lasts.length := List.length_set
  refine ⟨⟨by simpa using h.ok.n, fun t ht => hrow.sec t ht, h.ok.waits, fun j hj => h.ok.none j (by simpa using hj), h.ok.fuse⟩, ?_, hrow, ?_, fun j hj hw => h.idle j (by simpa using hj) hw, fun j hj hw => ?_, fun j hj hw => h.apart j (by simpa using hj) hw, fun j k hj hkk => h.inj j k (by simpa using hj) (by simpa using hkk)⟩
  · simp only [hl]
    exact (hk r (.inl rfl) h.ne_rb).trans h.disk
  · simp only [hl]
    exact h.map.block (hk m (.inr (.inl rfl)) h.ne_bm.symm)
  · have hj' : j < M.lasts.length := by simpa using hj
    obtain ⟨cj, e1, e2⟩ := h.wait j hj' hw
    exact ⟨cj, e1, e2.block (hk _ (.inr (.inr (.inr ⟨j, hj', hw, rfl⟩))) (h.apart j hj' hw))⟩
theorem xored_nil (s : List UInt8) (a : Nat) : xored s a [] = s := by
  refine List.ext_getElem? fun k => ?_
  rw [xored, List.getElem?_map]
  by_cases hk : k < s.length
  · rw [List.getElem?_range hk]
    simp [List.getElem?_eq_getElem hk]
  · rw [List.getElem?_eq_none (by simpa using hk), List.getElem?_eq_none (by omega)]; rfl
theorem xored_get {s : List UInt8} {a : Nat} {x : List UInt8} {k : Nat} (hk : k < s.length) : (xored s a x).getD k 0 = if a ≤ k ∧ k < a + x.length then s.getD k 0 ^^^ x.getD (k - a) 0 else s.getD k 0 := by
  rw [xored, List.getD_eq_getElem?_getD, List.getElem?_map, List.getElem?_range hk]
  rfl
theorem xored_step {s : List UInt8} {a : Nat} {x : List UInt8} {j : Nat} (hj : j < x.length) (ha : a + j < s.length) :
    (xored s a (x.take j)).set (a + j) ((xored s a (x.take j)).getD (a + j) 0 ^^^ x.getD j 0) = xored s a (x.take (j + 1)) := by
  have hjl : (x.take j).length = j := by rw [List.length_take]; omega
  have hjl2 : (x.take (j + 1)).length = j + 1 := by rw [List.length_take]; omega
  have e : (xored s a (x.take j)).getD (a + j) 0 = s.getD (a + j) 0 := by
    rw [xored_get ha, hjl, if_neg (by omega)]
  rw [e]
  refine List.ext_getElem? fun k => ?_
  rw [List.getElem?_set, xored_length]
  by_cases hk : k < s.length
  · by_cases hkj : a + j = k
    · subst hkj
      rw [if_pos rfl, if_pos hk, xored, List.getElem?_map, List.getElem?_range hk]
      simp only [Option.map_some, hjl2]
      rw [if_pos (by omega), show a + j - a = j by omega]
      simp [List.getD_eq_getElem?_getD]
    · rw [if_neg hkj, xored, xored, List.getElem?_map, List.getElem?_map, List.getElem?_range hk]
      simp only [Option.map_some, hjl, hjl2]
      by_cases h1 : a ≤ k ∧ k < a + j
      · rw [if_pos h1, if_pos (by omega)]
        simp [List.getD_eq_getElem?_getD, show k - a < j by omega, show k - a < j + 1 by omega]
      · rw [if_neg h1, if_neg (by omega)]
  · rw [if_neg (by omega), List.getElem?_eq_none (by rw [xored_length]; omega), List.getElem?_eq_none (by rw [xored_length]; omega)]
end Dk
set_option maxRecDepth 100000 in
theorem dkSpoil_none {w : World} {v : Value} (h : Dk.None w v) (i a : Int) (x : ByteArray) :
    Calls Try.prog 27 #[v, .int .i64 i, .int .i64 a, .string x] w fun e w' => e = .returned (.int .i64 2) ∧ w = w' := by
  have NO := Lib.hid (dkNone_is h)
  clear h
  go_enter Try.func27, Try.ntmps27
  go_wp2_with (go_at_call 43; refine NO.out.mono ?_; rintro e w' ⟨rfl, rfl⟩)
  go_ret
  exact ⟨rfl, rfl⟩
set_option maxRecDepth 100000 in
set_option maxHeartbeats 2000000 in
theorem dkSpoil_parts {w : World} {r m b c : Nat} {g : Nat → Nat} {F : Nat → Option Value} {M : Dk.Md} (h : Dk.Parts w r m b c g F M) (i a : Int) (x : ByteArray) (hxs : x.size ≤ 9223372036854775807) :
    Calls Try.prog 27 #[.pointer (some ⟨r, 0, none⟩), .int .i64 i, .int .i64 a, .string x] w fun e w' => e = .returned (.int .i64 (Dk.spoil M i a x.data.toList).2) ∧
      Dk.Parts w' r m b c g F (Dk.spoil M i a x.data.toList).1 ∧ Dk.Turned (Dk.own r m b g M) w w' := by
  have NO := Lib.hid (dkNone_not h.c1)
  have HA := Lib.hid (dkHas_any h i)
  have H := Lib.hid h
  have hok := h.ok
  have hn := hok.n
  have hxl : x.data.toList.length = x.size := by simp
  have hxw : IntKind.i64.wrap (64 - (x.size : Int)) = 64 - (x.size : Int) := by simp [IntKind.wrap, IntKind.bits, IntKind.signed]; omega
  by_cases hm : Dk.mayspoil M i a x.data.toList = true
  · have e : Dk.spoil M i a x.data.toList = ({ M with lasts := M.lasts.set i.toNat (Dk.xored (Dk.last M i.toNat) a.toNat x.data.toList) }, 0) := by simp [Dk.spoil, hm]
    rw [e]; clear e
    simp only [Dk.mayspoil, Bool.and_eq_true, decide_eq_true_eq, hxl] at hm
    obtain ⟨⟨⟨hth, hx4⟩, ha0⟩, ha64⟩ := hm
    rw [hth] at HA
    obtain ⟨i0, hi0⟩ : ∃ k : Nat, i = (k : Int) := ⟨i.toNat, by have := Dk.there_iff.1 hth; omega⟩
    subst hi0
    obtain ⟨a0, ha1⟩ : ∃ k : Nat, a = (k : Int) := ⟨a.toNat, by omega⟩
    subst ha1
    have hi : i0 < M.lasts.length := by have := Dk.there_iff.1 hth; omega
    rw [Int.toNat_natCast, Int.toNat_natCast]
    obtain ⟨s0, hs0⟩ : ∃ s, s = Dk.last M i0 := ⟨_, rfl⟩
    have hs64 : s0.length = 64 := by rw [hs0]; exact hok.last hi
    have t1 : ¬ (4 < (x.size : Int)) := by omega
    have t2 : ¬ ((a0 : Int) < 0) := by omega
    have t3 : ¬ (64 - (x.size : Int) < (a0 : Int)) := by omega
    rw [← hs0]
    have HS0 := Lib.hid hs0
    have HS64 := Lib.hid hs64
    have HI := Lib.hid hi
    have hiI : (i0 : Int) < (M.lasts.length : Int) := by omega
    have HXL := Lib.hid hxl
    clear h hok hs0 hs64 hi hth hxl
    go_enter Try.func27, Try.ntmps27
    go_wp2_with (first | (go_at_call 43; refine NO.out.mono ?_; rintro e w' ⟨rfl, rfl⟩) | (go_at_call 55; refine HA.out.mono ?_; rintro e w' ⟨rfl, rfl⟩))
    go_loopw [34, 9] (fun a1 _ wr => ∃ k, a1 = .int .i64 (k : Nat) ∧ k ≤ x.size ∧ Dk.Parts wr r m b c g F { M with lasts := M.lasts.set i0 (Dk.xored s0 a0 (x.data.toList.take k)) } ∧ Dk.Turned (Dk.own r m b g M) w wr) (fun a1 _ _ => x.size - (intOf a1).toNat)
    case atStart =>
      refine ⟨0, rfl, Nat.zero_le _, ?_, Dk.Turned.refl _ _⟩
      rw [List.take_zero, Dk.xored_nil]
      have e : M.lasts.set i0 s0 = M.lasts := by
        rw [HS0.out, Dk.last]
        refine List.ext_getElem? fun j => ?_
        rw [List.getElem?_set]
        split
        · rename_i e; subst e
          rw [if_pos HI.out, List.getD_eq_getElem?_getD, List.getElem?_eq_getElem HI.out]; rfl
        · rfl
      rw [e]
      exact H.out
    case round =>
      obtain ⟨k, rfl, hk, hP, hT⟩ := hrel
      have HP := Lib.hid hP
      have HT := Lib.hid hT
      by_cases hlt : k < x.size
      · have hltI : (k : Int) < (x.size : Int) := by omega
        obtain ⟨M2, hM2⟩ : ∃ M2 : Dk.Md, M2 = { M with lasts := M.lasts.set i0 (Dk.xored s0 a0 (x.data.toList.take k)) } := ⟨_, rfl⟩
        rw [← hM2] at hP HP
        have hl2 : M2.lasts.length = M.lasts.length := by rw [hM2]; exact List.length_set
        have hget : M2.lasts.getD i0 [] = Dk.xored s0 a0 (x.data.toList.take k) := by rw [hM2, List.getD_eq_getElem?_getD, List.getElem?_set_self HI.out]; rfl
        obtain ⟨q, hq⟩ : ∃ q, q = a0 + k := ⟨_, rfl⟩
        have hak : q < 64 := by omega
        have hwa : IntKind.i64.wrap ((a0 : Int) + (k : Int)) = (q : Int) := by rw [hq]; simp [IntKind.wrap, IntKind.bits, IntKind.signed]; omega
        have hqI : (q : Int) < 64 := by omega
        have HQ := Lib.hid hq
        have hcell := hP.row.cell (i := i0) (by rw [hl2]; exact HI.out) hak
        rw [hget] at hcell
        have c0 := hP.c0
        rw [hl2] at c0
        have hfree := hP.row.free (i0 * 64 + q)
        obtain ⟨old, hold⟩ : ∃ o, o = (Dk.xored s0 a0 (x.data.toList.take k)).getD q 0 := ⟨_, rfl⟩
        rw [← hold] at hcell
        have hsuc : IntKind.i64.wrap ((k : Int) + 1) = ((k + 1 : Nat) : Int) := by simp [IntKind.wrap, IntKind.bits, IntKind.signed]; omega
        have HM2 := Lib.hid hM2
        have HL2 := Lib.hid hl2
        have HGET := Lib.hid hget
        have HOLD := Lib.hid hold
        have HCELL := Lib.hid hcell
        have HFREE := Lib.hid hfree
        clear hP hT hM2 hl2 hget hold hcell hfree hq
        go_upto_region 8 with (fail)
        refine wp_region_held_drew (S := (fun w' => w'.cell? ⟨r, 0, none⟩ = some (.slice (some ⟨b, 0, none⟩) M.lasts.length c))) (by kernel_rfl) (by exact c0) (fun hHeld => ?_)
        refine wpAnyH_take (i := 0) (oi := ⟨some 37, _, _, _, _, _⟩) (v := .pointer (some ⟨r, 0, none⟩)) rfl (by kernel_rfl) (by kernel_rfl) (by kernel_rfl) (fun _ _ _ h => h) (Or.inl ⟨by rfl, ?_⟩) (by assumption) ?_
        · intro w hSw; (try dsimp only at hSw); go_simp
        simp only [Act.put, List.setIfInBounds_toArray, List.set_cons_zero, List.set_cons_succ]
        refine wpAnyH_take (i := 1) (oi := ⟨some 38, _, _, _, _, _⟩) (v := .pointer (some ⟨r, 0, none⟩)) rfl (by kernel_rfl) (by kernel_rfl) (by kernel_rfl) (fun _ _ _ h => h) (Or.inl ⟨by rfl, ?_⟩) (by assumption) ?_
        · intro w hSw; (try dsimp only at hSw); go_simp
        simp only [Act.put, List.setIfInBounds_toArray, List.set_cons_zero, List.set_cons_succ]
        refine wpAnyH_take (i := 2) (oi := ⟨some 39, _, _, _, _, _⟩) (v := .pointer (some ⟨r, 0, none⟩)) rfl (by kernel_rfl) (by kernel_rfl) (by kernel_rfl) (fun _ _ _ h => h) (Or.inl ⟨by rfl, ?_⟩) (by assumption) ?_
        · intro w hSw; (try dsimp only at hSw); go_simp
        simp only [Act.put, List.setIfInBounds_toArray, List.set_cons_zero, List.set_cons_succ]
        refine wpAnyH_take (i := 3) (oi := ⟨some 40, _, _, _, _, _⟩) (v := .slice (some ⟨b, 0, none⟩) M.lasts.length c) rfl (by kernel_rfl) (by kernel_rfl) (by kernel_rfl) (fun _ _ _ h => h) (Or.inl ⟨by rfl, ?_⟩) (by assumption) ?_
        · intro w hSw; (try dsimp only at hSw); go_simp
        simp only [Act.put, List.setIfInBounds_toArray, List.set_cons_zero, List.set_cons_succ]
        refine wpAnyH_take (i := 4) (oi := ⟨some 41, _, _, _, _, _⟩) (v := .int .i64 (i0 : Int)) rfl (by kernel_rfl) (by kernel_rfl) (by kernel_rfl) (fun _ _ _ h => h) (Or.inl ⟨by rfl, ?_⟩) (by assumption) ?_
        · intro w hSw; (try dsimp only at hSw); go_simp
        simp only [Act.put, List.setIfInBounds_toArray, List.set_cons_zero, List.set_cons_succ]
        refine wpAnyH_take (i := 5) (oi := ⟨some 42, _, _, _, _, _⟩) (v := .int .i64 (a0 : Int)) rfl (by kernel_rfl) (by kernel_rfl) (by kernel_rfl) (fun _ _ _ h => h) (Or.inl ⟨by rfl, ?_⟩) (by assumption) ?_
        · intro w hSw; (try dsimp only at hSw); go_simp
        simp only [Act.put, List.setIfInBounds_toArray, List.set_cons_zero, List.set_cons_succ]
        refine wpAnyH_take (i := 6) (oi := ⟨some 43, _, _, _, _, _⟩) (v := .int .i64 (k : Int)) rfl (by kernel_rfl) (by kernel_rfl) (by kernel_rfl) (fun _ _ _ h => h) (Or.inl ⟨by rfl, ?_⟩) (by assumption) ?_
        · intro w hSw; (try dsimp only at hSw); go_simp
        simp only [Act.put, List.setIfInBounds_toArray, List.set_cons_zero, List.set_cons_succ]
        refine wpAnyH_take (i := 7) (oi := ⟨some 44, _, _, _, _, _⟩) (v := .int .i64 (q : Int)) rfl (by kernel_rfl) (by kernel_rfl) (by kernel_rfl) (fun _ _ _ h => h) (Or.inl ⟨by rfl, ?_⟩) (by assumption) ?_
        · intro w hSw; (try dsimp only at hSw); go_simp
        simp only [Act.put, List.setIfInBounds_toArray, List.set_cons_zero, List.set_cons_succ]
        refine wpAnyH_take (i := 8) (oi := ⟨some 45, _, _, _, _, _⟩) (v := .pointer (some ⟨b, i0 * 64, none⟩)) rfl (by kernel_rfl) (by kernel_rfl) (by kernel_rfl) (fun _ _ _ h => h) (Or.inl ⟨by rfl, ?_⟩) (by assumption) ?_
        · intro w hSw; (try dsimp only at hSw); go_simp
        simp only [Act.put, List.setIfInBounds_toArray, List.set_cons_zero, List.set_cons_succ]
        refine wpAnyH_take (i := 9) (oi := ⟨some 46, _, _, _, _, _⟩) (v := .pointer (some ⟨b, i0 * 64 + q, none⟩)) rfl (by kernel_rfl) (by kernel_rfl) (by kernel_rfl) (fun _ _ _ h => h) (Or.inl ⟨by rfl, ?_⟩) (by assumption) ?_
        · intro w hSw; (try dsimp only at hSw); go_simp
        simp only [Act.put, List.setIfInBounds_toArray, List.set_cons_zero, List.set_cons_succ]
        refine wpAnyH_take (i := 11) (oi := ⟨some 48, _, _, _, _, _⟩) (v := .string x) rfl (by kernel_rfl) (by kernel_rfl) (by kernel_rfl) (fun _ _ _ h => h) (Or.inl ⟨by rfl, ?_⟩) (by assumption) ?_
        · intro w hSw; (try dsimp only at hSw); go_simp
        simp only [Act.put, List.setIfInBounds_toArray, List.set_cons_zero, List.set_cons_succ]
        refine wpAnyH_take (i := 12) (oi := ⟨some 49, _, _, _, _, _⟩) (v := .int .i64 (k : Int)) rfl (by kernel_rfl) (by kernel_rfl) (by kernel_rfl) (fun _ _ _ h => h) (Or.inl ⟨by rfl, ?_⟩) (by assumption) ?_
        · intro w hSw; (try dsimp only at hSw); go_simp
        simp only [Act.put, List.setIfInBounds_toArray, List.set_cons_zero, List.set_cons_succ]
        obtain ⟨xb, hxb⟩ : ∃ y, y = x.data.toList.getD k 0 := ⟨_, rfl⟩
        have hxk : x[k] = xb := by rw [hxb, List.getD_eq_getElem?_getD, List.getElem?_eq_getElem (by have := HXL.out; omega)]; simp; rfl
        have hx8 := Sm.w_xor8 old xb
        have HXB := Lib.hid hxb
        clear hxb
        refine wpAnyH_take (i := 13) (oi := ⟨some 50, _, _, _, _, _⟩) (v := .int .u8 (xb.toNat : Int)) rfl (by kernel_rfl) (by kernel_rfl) (by kernel_rfl) (fun _ _ _ h => h) (Or.inl ⟨by rfl, ?_⟩) (by assumption) ?_
        · intro w hSw; (try dsimp only at hSw); go_simp
        simp only [Act.put, List.setIfInBounds_toArray, List.set_cons_zero, List.set_cons_succ]
        refine wpAnyH_take (i := 15) (oi := ⟨some 52, _, _, _, _, _⟩) (v := .pointer (some ⟨b, i0 * 64, none⟩)) rfl (by kernel_rfl) (by kernel_rfl) (by kernel_rfl) (fun _ _ _ h => h) (Or.inl ⟨by rfl, ?_⟩) (by assumption) ?_
        · intro w hSw; (try dsimp only at hSw); go_simp
        simp only [Act.put, List.setIfInBounds_toArray, List.set_cons_zero, List.set_cons_succ]
        refine wpAnyH_ready (rs := [10]) (by kernel_rfl) (by simp) ?_
        refine (AllReadyH.cons (o := ⟨some 47, _, _, _, _, _⟩) rfl (fun K hK => ?_) AllReadyH.nil)
        have hcl := HCELL.out
        go_simp
        refine hK.out _ _ hHeld (fun hHeld => ?_)
        clear hK K hcl
        refine wpAnyH_take (i := 14) (oi := ⟨some 51, _, _, _, _, _⟩) (v := .int .u8 ((old ^^^ xb).toNat : Int)) rfl (by kernel_rfl) (by kernel_rfl) (by kernel_rfl) (fun _ _ _ h => h) (Or.inl ⟨by rfl, ?_⟩) (by assumption) ?_
        · intro w hSw; (try dsimp only at hSw); go_simp
        simp only [Act.put, List.setIfInBounds_toArray, List.set_cons_zero, List.set_cons_succ]
        refine wpAnyH_take (i := 16) (oi := ⟨some 53, _, _, _, _, _⟩) (v := .pointer (some ⟨b, i0 * 64 + q, none⟩)) rfl (by kernel_rfl) (by kernel_rfl) (by kernel_rfl) (fun _ _ _ h => h) (Or.inl ⟨by rfl, ?_⟩) (by assumption) ?_
        · intro w hSw; (try dsimp only at hSw); go_simp
        simp only [Act.put, List.setIfInBounds_toArray, List.set_cons_zero, List.set_cons_succ]
        refine wpAnyH_ready (rs := [17]) (by kernel_rfl) (by simp) ?_
        refine (AllReadyH.cons (o := ⟨none, _, _, _, _, _⟩) rfl (fun K hK => ?_) AllReadyH.nil)
        have hcl := HCELL.out
        have hfr := HFREE.out
        have hrow := HP.out.row.setByte (i := i0) (by rw [HL2.out]; exact HI.out) hak (old ^^^ xb)
        have hgr := Sm.grown_set (Sm.grown_refl wr (some b)) (i0 * 64 + q) (.int .u8 ((old ^^^ xb).toNat : Int))
        have hrb := HP.out.ne_rb
        have c0' : (wr.drew.setCell ⟨b, i0 * 64 + q, none⟩ (.int .u8 ((old ^^^ xb).toNat : Int))).cell? ⟨r, 0, none⟩ = some (.slice (some ⟨b, 0, none⟩) M.lasts.length c) := by
          rw [World.cell?_setCell_other _ _ _ _ (by simp)]; exact c0
        have HP6 : Hid (Dk.Parts (wr.setCell ⟨b, i0 * 64 + q, none⟩ (.int .u8 ((old ^^^ xb).toNat : Int))) r m b c g F { M with lasts := M.lasts.set i0 (Dk.xored s0 a0 (x.data.toList.take (k + 1))) }) := by
          have := HP.out.lay hrow (fun k hk h1 => hgr.block k (HP.out.lt k hk) (fun e => h1 (Option.some.inj e)))
          have e1 : (M2.lasts.getD i0 []).set q (old ^^^ xb) = Dk.xored s0 a0 (x.data.toList.take (k + 1)) := by
            rw [HGET.out, HOLD.out, HXB.out, HQ.out]
            exact Dk.xored_step (by rw [HXL.out]; exact hlt) (by rw [HS64.out, ← HQ.out]; exact hak)
          rw [e1, HM2.out] at this
          simp only [List.set_set] at this
          exact this
        have HT6 : Hid (Dk.Turned (Dk.own r m b g M) w (wr.setCell ⟨b, i0 * 64 + q, none⟩ (.int .u8 ((old ^^^ xb).toNat : Int)))) := HT.out.trans (Dk.Turned.of_grown hgr (.inl (.inr (.inr (.inl rfl)))))
        clear hrow hgr
        go_simp
        refine hK.out _ _ c0' (fun hHeld => ?_)
        clear hK K hHeld c0' hcl hfr c0
        refine wpAnyH_done (by kernel_rfl) ?_ _
        go_wp2
        go_roundw
        case rel => exact ⟨k + 1, rfl, hlt, Dk.Parts.drew HP6.out, HT6.out.drew⟩
        case measure => simp [intOf]; omega
      · have hke : k = x.size := by omega
        subst hke
        have hltI : ¬ ((x.size : Nat) : Int) < (x.size : Int) := by omega
        have e : x.data.toList.take x.size = x.data.toList := List.take_of_length_le (by rw [HXL.out]; exact Nat.le_refl _)
        rw [e] at HP
        clear hP hT
        go_wp2
        go_ret
        exact ⟨rfl, HP.out, HT.out⟩
  · have e : Dk.spoil M i a x.data.toList = (M, 1) := by simp [Dk.spoil, hm]
    rw [e]; clear e
    simp only [Dk.mayspoil, Bool.and_eq_true, decide_eq_true_eq, hxl] at hm
    cases hth : Dk.there M i
    · rw [hth] at HA
      clear h hok
      go_enter Try.func27, Try.ntmps27
      go_wp2_with (first | (go_at_call 43; refine NO.out.mono ?_; rintro e w' ⟨rfl, rfl⟩) | (go_at_call 55; refine HA.out.mono ?_; rintro e w' ⟨rfl, rfl⟩))
      go_ret
      exact ⟨rfl, H.out, Dk.Turned.refl _ _⟩
    · rw [hth] at HA hm
      clear h hok hth
      by_cases t1 : 4 < (x.size : Int)
      · go_enter Try.func27, Try.ntmps27
        go_wp2_with (first | (go_at_call 43; refine NO.out.mono ?_; rintro e w' ⟨rfl, rfl⟩) | (go_at_call 55; refine HA.out.mono ?_; rintro e w' ⟨rfl, rfl⟩))
        go_ret
        exact ⟨rfl, H.out, Dk.Turned.refl _ _⟩
      · by_cases t2 : a < 0
        · go_enter Try.func27, Try.ntmps27
          go_wp2_with (first | (go_at_call 43; refine NO.out.mono ?_; rintro e w' ⟨rfl, rfl⟩) | (go_at_call 55; refine HA.out.mono ?_; rintro e w' ⟨rfl, rfl⟩))
          go_ret
          exact ⟨rfl, H.out, Dk.Turned.refl _ _⟩
        · have t3 : 64 - (x.size : Int) < a := by
            by_cases t : 64 - (x.size : Int) < a
            · exact t
            · exact absurd ⟨⟨⟨rfl, by omega⟩, by omega⟩, by omega⟩ hm
          clear hm
          go_enter Try.func27, Try.ntmps27
          go_wp2_with (first | (go_at_call 43; refine NO.out.mono ?_; rintro e w' ⟨rfl, rfl⟩) | (go_at_call 55; refine HA.out.mono ?_; rintro e w' ⟨rfl, rfl⟩))
          go_ret
          exact ⟨rfl, H.out, Dk.Turned.refl _ _⟩
end Go.Proofs.Ytipfjccmceaclaa
