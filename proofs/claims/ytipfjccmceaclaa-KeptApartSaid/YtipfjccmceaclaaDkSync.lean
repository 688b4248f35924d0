/-
  What disk's Sync does.
-/
import Derived.Test.YtipfjccmceaclaaDkChosen
namespace Go.Proofs.Ytipfjccmceaclaa
open Go.RowKit
namespace Dk
theorem part_lasts {M : Md} {f : Nat → List UInt8} {done : Nat → Bool} {i : Nat} (hi : i < M.lasts.length) : (part M f (fun j => done j || decide (j = i))).lasts = (part M f done).lasts.set i (f i) := by
  refine List.ext_getElem? fun k => ?_
  simp only [part, List.getElem?_map, List.getElem?_set, List.length_map, List.length_range]
  by_cases hk : k < M.lasts.length
  · rw [List.getElem?_range hk]
    by_cases e : i = k
    · subst e; simp [hk]
    · rw [if_neg e]
      have e2 : ¬ k = i := fun x => e x.symm
      simp [e2]
  · rw [List.getElem?_eq_none (by simpa using hk)]
    simp
    omega
theorem part_len {M : Md} {f : Nat → List UInt8} {done : Nat → Bool} : (part M f done).lasts.length = M.lasts.length := by simp [part]
theorem part_last {M : Md} {f : Nat → List UInt8} {done : Nat → Bool} {i : Nat} (hi : i < M.lasts.length) (hd : done i = false) : last (part M f done) i = last M i := by
  simp only [last, part]
  rw [List.getD_eq_getElem?_getD, List.getElem?_map, List.getElem?_range hi]
  simp [hd]
theorem part_W {M : Md} {f : Nat → List UInt8} {done : Nat → Bool} {i : Nat} (hd : done i = false) : (part M f done).W i = M.W i := by simp [part, hd]
theorem part_seen {M : Md} {f : Nat → List UInt8} {done : Nat → Bool} {i : Nat} (hi : i < M.lasts.length) (hd : done i = false) : seen (part M f done) i = seen M i := by
  rw [seen, part_W hd, part_last hi hd, seen]
/-- One sector more is done: its writes wait no more. -/
theorem Parts.done {w w' : World} {r m b c : Nat} {g : Nat → Nat} {F : Nat → Option Value} {M : Md} {f : Nat → List UInt8} {done : Nat → Bool} (hM : M.Ok) (hf : ∀ i, i < M.lasts.length → (f i).length = 64) (h : Parts w r m b c g F (part M f done)) {i : Nat} (hi : i < M.lasts.length)
    (hrow : RowAt w' b c ((part M f done).lasts.set i (f i))) (hmap : MapAt Try.prog 3 w' m M.lasts.length (fun j => if j = i then none else F j))
    (hk : ∀ k, own r m b g (part M f done) k → k ≠ b → k ≠ m → w'.heap[k]? = w.heap[k]?) :
    Parts w' r m b c g (fun j => if j = i then none else F j) (part M f (fun j => done j || decide (j = i))) := by
  have hl := part_len (M := M) (f := f) (done := done)
  have hl2 := part_len (M := M) (f := f) (done := fun j => done j || decide (j = i))
  have hW : ∀ j, j ≠ i → (part M f (fun j => done j || decide (j = i))).W j = (part M f done).W j := fun j hj => by simp [part, hj]
  have hWi : (part M f (fun j => done j || decide (j = i))).W i = [] := by simp [part]
  refine ⟨hM.part hf _, ?_, by rw [part_lasts hi]; exact hrow, by rw [hl2]; exact hmap, fun j hj hw => ?_, fun j hj hw => ?_, fun j hj hw => ?_, fun j k hj hkk hw1 hw2 e => ?_⟩
  · rw [hk r (.inl rfl) h.ne_rb h.ne_rm, h.disk, hl, hl2]; rfl
  · by_cases e : j = i
    · simp [e]
    · rw [if_neg e]
      rw [hW j e] at hw
      exact h.idle j (by omega) hw
  · by_cases e : j = i
    · subst e; exact absurd hWi hw
    · rw [if_neg e]
      rw [hW j e] at hw ⊢
      obtain ⟨cj, e1, e2⟩ := h.wait j (by omega) hw
      exact ⟨cj, e1, e2.block (hk _ (.inr (.inr (.inr ⟨j, by omega, hw, rfl⟩))) (h.apart j (by omega) hw) (h.ne_gm (by omega) hw))⟩
  · by_cases e : j = i
    · subst e; exact absurd hWi hw
    · rw [hW j e] at hw
      exact h.apart j (by omega) hw
  · have n1 : j ≠ i := fun e => by subst e; exact hw1 hWi
    have n2 : k ≠ i := fun e => by subst e; exact hw2 hWi
    rw [hW j n1] at hw1
    rw [hW k n2] at hw2
    exact h.inj j k (by omega) (by omega) hw1 hw2 e
/-- All is done. -/
theorem Parts.all {w : World} {r m b c : Nat} {g : Nat → Nat} {F : Nat → Option Value} {M : Md} {f : Nat → List UInt8} {done : Nat → Bool} (h : Parts w r m b c g F (part M f done)) (hd : ∀ i, i < M.lasts.length → done i = false → M.W i = [] ∧ f i = last M i) (hn : ∀ i, M.lasts.length ≤ i → M.W i = []) :
    Parts w r m b c g F { M with lasts := (List.range M.lasts.length).map f, W := fun _ => [] } := by
  rw [← part_all hd hn]; exact h
theorem own_part {r m b : Nat} {g : Nat → Nat} {M : Md} {f : Nat → List UInt8} {done : Nat → Bool} {k : Nat} (h : own r m b g (part M f done) k) : own r m b g M k := by
  rcases h with e | e | e | ⟨i, hi, hw, e⟩
  · exact .inl e
  · exact .inr (.inl e)
  · exact .inr (.inr (.inl e))
  · rw [part_len] at hi
    refine .inr (.inr (.inr ⟨i, hi, fun e2 => hw ?_, e⟩))
    simp only [part, e2]
    split <;> rfl
end Dk

set_option maxRecDepth 100000 in
theorem dkSync_none {w : World} {v : Value} (h : Dk.None w v) :
    Calls Try.prog 63 #[v] w fun e w' => e = .returned (.int .i64 2) ∧ w = w' := by
  have RE := Lib.hid (dkReady_none h)
  clear h
  go_enter Try.func63, Try.ntmps63
  go_wp2_with (go_at_call 54; refine RE.out.mono ?_; rintro e w' ⟨rfl, rfl⟩)
  go_ret
  exact ⟨rfl, rfl⟩
set_option maxRecDepth 100000 in
set_option maxHeartbeats 2000000 in
theorem dkSync_parts {w : World} {r m b c : Nat} {g : Nat → Nat} {F : Nat → Option Value} {M : Dk.Md} (h : Dk.Parts w r m b c g F M) :
    Calls Try.prog 63 #[.pointer (some ⟨r, 0, none⟩)] w fun e w' => e = .returned (.int .i64 (Dk.sync M).2) ∧
      ∃ F', Dk.Parts w' r m b c g F' (Dk.sync M).1 ∧ Dk.Turned (Dk.own r m b g M) w w' := by
  have RE := Lib.hid (dkReady_any h)
  have AC := Lib.hid (dkAct_any h)
  have H := Lib.hid h
  have hok := h.ok
  cases hoff : M.off
  · rw [hoff] at RE
    cases hact : (Dk.act M).2
    · have e : Dk.sync M = ((Dk.act M).1, 14) := by simp [Dk.sync, hoff, hact]
      rw [e]; clear e
      rw [hact] at AC
      clear h hok
      go_enter Try.func63, Try.ntmps63
      go_wp2_with (first | (go_at_call 54; refine RE.out.mono ?_; rintro e w' ⟨rfl, rfl⟩) | (go_at_call 56; refine AC.out.mono ?_; rintro e w1 ⟨rfl, hP1, hg1, hs1⟩))
      go_ret
      exact ⟨rfl, F, hP1, Dk.Turned.of_grown hg1 (.inl (.inl rfl))⟩
    · have e : Dk.sync M = (Dk.synced (Dk.act M).1, 0) := by simp [Dk.sync, hoff, hact]
      rw [e]; clear e
      rw [hact] at AC
      have hl1 := Dk.act_lasts M
      have hW1 := Dk.act_W M
      have hok1 := hok.act
      have hown1 : Dk.own r m b g (Dk.act M).1 = Dk.own r m b g M := by unfold Dk.own; rw [hl1, hW1]
      rw [← hown1]
      have HOWN := Lib.hid hown1
      obtain ⟨M1, hM1⟩ : ∃ M1, M1 = (Dk.act M).1 := ⟨_, rfl⟩
      rw [← hM1] at AC hok1 HOWN ⊢
      have HOK := Lib.hid hok1
      have hn := hok1.n
      clear h hok hM1 hok1 hl1 hW1 hown1
      go_enter Try.func63, Try.ntmps63
      go_upto_region 7 with (first | (go_at_call 54; refine RE.out.mono ?_; rintro e w' ⟨rfl, rfl⟩) | (go_at_call 56; refine AC.out.mono ?_; rintro e w1 ⟨rfl, hP1, hg1, hs1⟩))
      have c1 := hP1.c1
      obtain ⟨w0, cnt0, hrun, hrg0, hg0, hs0⟩ := hP1.map.range Try.underlying3 Try.underlying74
      have HP0 := Lib.hid (hP1.grown0 hg0)
      have HT0 : Hid (Dk.Turned (Dk.own r m b g M1) w w0) := (Dk.Turned.of_grown (fp := Dk.own r m b g M1) hg1 (.inl (.inl rfl))).trans (Dk.Turned.of_grown0 hg0)
      have HR0 := Lib.hid hrg0
      have HS1 : Hid (w.heap.size ≤ w1.heap.size) := hg1.size
      clear hP1 hg1 hs1 hg0 hs0 hrg0
      go_wp2
      obtain ⟨N, hN⟩ : ∃ N, N = w1.heap.size := ⟨_, rfl⟩
      rw [← hN] at HR0 HS1 ⊢
      clear hN RE AC hrun c1
      go_loopw [5] (fun _ wr => ∃ left cnt F', Dk.RangeAt Try.prog 3 wr m N M1.lasts.length F' left cnt ∧ Dk.Parts wr r m b c g F' (Dk.part M1 (Dk.seen M1) (fun i => Dk.busy M1 i && !left i)) ∧ Dk.Turned (Dk.own r m b g M1) w wr) (fun _ wr => wr.rangeLeft m N)
      case atStart =>
        refine ⟨_, cnt0, F, HR0.out, ?_, HT0.out⟩
        have e : Dk.part M1 (Dk.seen M1) (fun i => Dk.busy M1 i && !(decide (i < M1.lasts.length) && (F i).isSome)) = M1 := by
          refine Eq.trans ?_ (Dk.part_none M1 (Dk.seen M1))
          congr 1
          funext i
          by_cases hi : i < M1.lasts.length
          · by_cases hw : M1.W i = []
            · simp [Dk.busy, hw]
            · obtain ⟨cj, e1, _⟩ := HP0.out.wait i hi hw
              simp [hi, e1]
          · simp [Dk.busy, HOK.out.none i (by omega)]
        rw [e]; exact HP0.out
      case round =>
        obtain ⟨left, cnt, F', hrg, hP, hT⟩ := hrel
        have HRG := Lib.hid hrg
        have HP := Lib.hid hP
        have HT := Lib.hid hT
        rcases hrg.next Try.underlying3 0 with ⟨hall, hnext⟩ | ⟨i, v, w2, cnt2, hi, hl, hF, hnext, hrg2, hlt, hg2, hs2, hen⟩
        · have HALL := Lib.hid hall
          clear hrg hP hT hall
          go_wp2
          go_ret
          refine ⟨rfl, F', HP.out.all (fun i hi hd => ?_) HOK.out.none, HT.out⟩
          rw [HALL.out i] at hd
          simp [Dk.busy] at hd
          exact ⟨hd, Dk.seen_last hd⟩
        · have hdone : (Dk.busy M1 i && !left i) = false := by simp [hl]
          have hP2 : Dk.Parts w2 r m b c g F' (Dk.part M1 (Dk.seen M1) (fun i => Dk.busy M1 i && !left i)) := hP.keep fun k hk => hg2.block k (hP.lt k hk) (fun e => by
            have e := Option.some.inj e
            subst e
            obtain ⟨m', s', sn, c', hit⟩ := hrg.iter
            rcases hk with rfl | rfl | rfl | ⟨j, hj, hw, rfl⟩
            · rw [hP.disk] at hit; cases hit
            · exact hrg.ne rfl
            · obtain ⟨cur, q, _⟩ := hP.row.row; rw [q] at hit; cases hit
            · obtain ⟨cj, _, q⟩ := hP.wait j hj hw; obtain ⟨cur, q, _⟩ := q.row; rw [q] at hit; cases hit)
          have hT2 : Dk.Turned (Dk.own r m b g M1) w w2 := hT.andThen (Dk.Turned.of_grown hg2 (.inl (.inr ⟨HS1.out, hrg.lt⟩)))
          have hlook := Dk.part_seen (f := Dk.seen M1) (done := fun i => Dk.busy M1 i && !left i) hi hdone
          have hWi := Dk.part_W (M := M1) (f := Dk.seen M1) (done := fun i => Dk.busy M1 i && !left i) hdone
          have hbusy : Dk.busy M1 i = true := by
            have : M1.W i ≠ [] := fun e => by
              have := hP.idle i (by rw [Dk.part_len]; exact hi) (by rw [hWi]; exact e)
              rw [hF] at this; cases this
            simp [Dk.busy, this]
          have HBZ := Lib.hid hbusy
          clear hbusy
          obtain ⟨M2, hM2⟩ : ∃ M2, M2 = Dk.part M1 (Dk.seen M1) (fun i => Dk.busy M1 i && !left i) := ⟨_, rfl⟩
          have hM2l : M2.lasts.length = M1.lasts.length := by rw [hM2]; exact Dk.part_len
          rw [← hM2] at hP2 hlook hWi
          have HM2 := Lib.hid hM2
          have HL2 := Lib.hid hM2l
          have hi2 : i < M2.lasts.length := by omega
          obtain ⟨l, hll⟩ : ∃ l, l = Dk.seen M1 i := ⟨_, rfl⟩
          have hl64 : l.length = 64 := by rw [hll]; exact HOK.out.seen hi
          have SE : Hid (∀ wx, Dk.Parts wx r m b c g F' M2 → Calls Try.prog 57 #[.pointer (some ⟨r, 0, none⟩), .int .i64 (i : Int)] wx fun e w' => e = .returned (.agg (Lib.byteCells l).toArray) ∧ Below wx.heap.size wx w') := by
            intro wx hx
            rw [hll, ← hlook]
            exact dkSeen_any hx hi2
          obtain ⟨cs, hcs⟩ : ∃ cs, cs = Lib.byteCells l := ⟨_, rfl⟩
          rw [← hcs] at SE
          have hcl : cs.length = 64 := by rw [hcs, Lib.byteCells_length, hl64]
          have h1 : cs.toArray.all (·.oneCell') = true := by rw [hcs]; exact Sm.bytes_one _
          have HCS := Lib.hid hcs
          have HCL := Lib.hid hcl
          have H1 := Lib.hid h1
          have HLL := Lib.hid hll
          have HL64 := Lib.hid hl64
          have HP2 := Lib.hid hP2
          have HT2 := Lib.hid hT2
          have HRG2 := Lib.hid hrg2
          have HI := Lib.hid hi
          have hi3 : (i : Int) < (M1.lasts.length : Int) := by omega
          have c0 := hP2.c0
          rw [hM2l] at c0
          have hlen := hM2l
          clear hrg hP hT hP2 hT2 hrg2 hM2 hlook hWi hll hcs hcl h1 hl64 hi2 hM2l hg2 hs2 hF hlen HP HT
          go_upto_region 10 with (fail)
          refine wp_region_held_drew (S := (fun w' => w'.cell? ⟨r, 0, none⟩ = some (.slice (some ⟨b, 0, none⟩) M1.lasts.length c))) (by kernel_rfl) (by exact c0) (fun hHeld => ?_)
          refine wpAnyH_take (i := 0) (oi := ⟨some 25, _, _, _, _, _⟩) (v := .pointer (some ⟨r, 0, none⟩)) rfl (by kernel_rfl) (by kernel_rfl) (by kernel_rfl) (fun _ _ _ h => h) (Or.inl ⟨by rfl, ?_⟩) (by assumption) ?_
          · intro w hSw; (try dsimp only at hSw); go_simp
          simp only [Act.put, List.setIfInBounds_toArray, List.set_cons_zero, List.set_cons_succ]
          refine wpAnyH_take (i := 1) (oi := ⟨some 26, _, _, _, _, _⟩) (v := .pointer (some ⟨r, 0, none⟩)) rfl (by kernel_rfl) (by kernel_rfl) (by kernel_rfl) (fun _ _ _ h => h) (Or.inl ⟨by rfl, ?_⟩) (by assumption) ?_
          · intro w hSw; (try dsimp only at hSw); go_simp
          simp only [Act.put, List.setIfInBounds_toArray, List.set_cons_zero, List.set_cons_succ]
          refine wpAnyH_take (i := 2) (oi := ⟨some 27, _, _, _, _, _⟩) (v := .pointer (some ⟨r, 0, none⟩)) rfl (by kernel_rfl) (by kernel_rfl) (by kernel_rfl) (fun _ _ _ h => h) (Or.inl ⟨by rfl, ?_⟩) (by assumption) ?_
          · intro w hSw; (try dsimp only at hSw); go_simp
          simp only [Act.put, List.setIfInBounds_toArray, List.set_cons_zero, List.set_cons_succ]
          refine wpAnyH_take (i := 3) (oi := ⟨some 28, _, _, _, _, _⟩) (v := .slice (some ⟨b, 0, none⟩) M1.lasts.length c) rfl (by kernel_rfl) (by kernel_rfl) (by kernel_rfl) (fun _ _ _ h => h) (Or.inl ⟨by rfl, ?_⟩) (by assumption) ?_
          · intro w hSw; (try dsimp only at hSw); go_simp
          simp only [Act.put, List.setIfInBounds_toArray, List.set_cons_zero, List.set_cons_succ]
          refine wpAnyH_take (i := 4) (oi := ⟨some 29, _, _, _, _, _⟩) (v := .int .i64 (i : Int)) rfl (by kernel_rfl) (by kernel_rfl) (by kernel_rfl) (fun _ _ _ h => h) (Or.inl ⟨by rfl, ?_⟩) (by assumption) ?_
          · intro w hSw; (try dsimp only at hSw); go_simp
          simp only [Act.put, List.setIfInBounds_toArray, List.set_cons_zero, List.set_cons_succ]
          refine wpAnyH_take (i := 5) (oi := ⟨some 30, _, _, _, _, _⟩) (v := .pointer (some ⟨r, 0, none⟩)) rfl (by kernel_rfl) (by kernel_rfl) (by kernel_rfl) (fun _ _ _ h => h) (Or.inl ⟨by rfl, ?_⟩) (by assumption) ?_
          · intro w hSw; (try dsimp only at hSw); go_simp
          simp only [Act.put, List.setIfInBounds_toArray, List.set_cons_zero, List.set_cons_succ]
          refine wpAnyH_take (i := 6) (oi := ⟨some 31, _, _, _, _, _⟩) (v := .int .i64 (i : Int)) rfl (by kernel_rfl) (by kernel_rfl) (by kernel_rfl) (fun _ _ _ h => h) (Or.inl ⟨by rfl, ?_⟩) (by assumption) ?_
          · intro w hSw; (try dsimp only at hSw); go_simp
          simp only [Act.put, List.setIfInBounds_toArray, List.set_cons_zero, List.set_cons_succ]
          refine wpAnyH_ready (rs := [7]) (by kernel_rfl) (by simp) ?_
          refine (AllReadyH.cons (o := ⟨some 32, _, _, _, _, _⟩) rfl (fun K hK => ?_) AllReadyH.nil)
          go_simp
          refine (SE.out _ HP2.out.drew).mono ?_
          rintro e w4 ⟨rfl, hb4⟩
          have hP4 := HP2.out.drew.below hb4 (Nat.le_refl _)
          have hT4 : Dk.Turned (Dk.own r m b g M1) w w4 := (HT2.out.drew).trans (Dk.Turned.of_below hb4 (Nat.le_refl _))
          have hR4 : Dk.RangeAt Try.prog 3 w4 m N M1.lasts.length F' (fun j => left j && !decide (j = i)) cnt2 := HRG2.out.block (hb4.block m HRG2.out.map.lt) (hb4.block N HRG2.out.lt)
          clear hb4
          refine hK.out _ _ (by have := hP4.c0; rw [HL2.out] at this; exact this) (fun hHeld => ?_)
          clear hK K
          refine wpAnyH_take (i := 8) (oi := ⟨some 33, _, _, _, _, _⟩) (v := .pointer (some ⟨b, i * 64, none⟩)) rfl (by kernel_rfl) (by kernel_rfl) (by kernel_rfl) (fun _ _ _ h => h) (Or.inl ⟨by rfl, ?_⟩) (by assumption) ?_
          · intro w hSw; (try dsimp only at hSw); go_simp
          simp only [Act.put, List.setIfInBounds_toArray, List.set_cons_zero, List.set_cons_succ]
          refine wpAnyH_ready (rs := [9]) (by kernel_rfl) (by simp) ?_
          refine (AllReadyH.cons (o := ⟨none, _, _, _, _, _⟩) rfl (fun K hK => ?_) AllReadyH.nil)
          rw [if_pos (by simp [Region.wanted])]
          have hrow := hP4.row.set (i := i) (by rw [HL2.out]; exact HI.out) HL64.out
          rw [← HCS.out] at hrow
          have hgr := Sm.grown_setCells2 (Sm.grown_refl w4 (some b)) cs (i * 64)
          have hk5 : ∀ k, Dk.own r m b g M2 k → k ≠ b → (w4.setCells b (i * 64) cs).heap[k]? = w4.heap[k]? := fun k hk hkb => hgr.block k (hP4.lt k hk) (fun e => hkb (Option.some.inj e))
          have hT5 : Dk.Turned (Dk.own r m b g M1) w (w4.setCells b (i * 64) cs) := hT4.andThen (Dk.Turned.of_grown hgr (.inl (.inl (.inr (.inr (.inl rfl))))))
          have hNb : N ≠ b := by
            rintro rfl
            obtain ⟨cur, q, _⟩ := hP4.row.row
            obtain ⟨m', s', sn, c', hit⟩ := hR4.iter
            rw [q] at hit; cases hit
          have hR5 : Dk.RangeAt Try.prog 3 (w4.setCells b (i * 64) cs) m N M1.lasts.length F' (fun j => left j && !decide (j = i)) cnt2 := hR4.block (hk5 m (.inr (.inl rfl)) hP4.ne_bm.symm) (hgr.block N hR4.lt (fun e => hNb (Option.some.inj e)))
          have hbd := hP4.row.there (i := i) (by rw [HL2.out]; exact HI.out)
          have c1 : (w4.setCells b (i * 64) cs).cell? ⟨r, 1, none⟩ = some (.map (some m)) := by
            rw [World.cell?_of_block (hk5 r (.inl rfl) hP4.ne_rb)]; exact hP4.c1
          have c0' : (w4.setCells b (i * 64) cs).cell? ⟨r, 0, none⟩ = some (.slice (some ⟨b, 0, none⟩) M1.lasts.length c) := by
            rw [World.cell?_of_block (hk5 r (.inl rfl) hP4.ne_rb), hP4.c0, HL2.out]
          refine wp_store_mid 106 _ _ rfl b (i * 64) cs.toArray rfl rfl (by rw [List.size_toArray, HCL.out]; exact hbd) (Dk.infoSec (by rw [List.size_toArray]; exact HCL.out)) H1.out ?_
          refine hK.out _ _ c0' (fun hHeld => ?_)
          clear hK K hHeld c0' hbd
          obtain ⟨w6, cnt3, hdel, hR6, hle, ht6⟩ := hR5.drop Try.underlying3 Try.underlying74 HI.out hn.2 0
          have e6 : (fun j => (left j && !decide (j = i)) && !decide (j = i)) = fun j => left j && !decide (j = i) := by funext j; cases left j <;> cases decide (j = i) <;> rfl
          rw [e6] at hR6
          have hmb : m ≠ b := hP4.ne_bm.symm
          have hrow6 := hrow.block (ht6.grown.block b hrow.lt (fun e => hmb (Option.some.inj e).symm))
          have hk6 : ∀ k, Dk.own r m b g M2 k → k ≠ b → k ≠ m → w6.heap[k]? = w4.heap[k]? := fun k hk h1 h2 => by
            rw [ht6.grown.block k (Nat.lt_of_lt_of_le (hP4.lt k hk) hgr.size) (fun e => h2 (Option.some.inj e))]
            exact hk5 k hk h1
          have hP6 : Dk.Parts w6 r m b c g (fun j => if j = i then none else F' j) (Dk.part M1 (Dk.seen M1) (fun j => (Dk.busy M1 j && !left j) || decide (j = i))) := by
            rw [HM2.out] at hP4 hrow6 hk6
            rw [HLL.out] at hrow6
            exact hP4.done HOK.out (fun j hj => HOK.out.seen hj) HI.out hrow6 hR6.map hk6
          have ed : (fun j => (Dk.busy M1 j && !left j) || decide (j = i)) = fun j => Dk.busy M1 j && !(left j && !decide (j = i)) := by
            funext j
            by_cases e : j = i
            · subst e
              have hb := HBZ.out
              simp [hb]
            · simp [e]
          rw [ed] at hP6
          have HP6 := Lib.hid hP6
          have HT6 : Hid (Dk.Turned (Dk.own r m b g M1) w w6) := hT5.andThen (Dk.Turned.of_map ht6 (.inl (.inl (.inr (.inl rfl)))))
          have HR6 := Lib.hid hR6
          clear hP6 hT5 hR5 hR4 hP4 hT4 hR6 hrow hrow6 hk5 hk6 ed e6 hgr ht6
          refine wpAnyH_done (by kernel_rfl) ?_ _
          go_wp2
          go_roundw
          case rel => exact ⟨_, cnt3, _, HR6.out, HP6.out, HT6.out⟩
          case measure => rw [HR6.out.left_eq, HRG.out.left_eq]; omega
  · rw [hoff] at RE
    have e : Dk.sync M = (M, 14) := by simp [Dk.sync, hoff]
    rw [e]; clear e
    clear h hok
    go_enter Try.func63, Try.ntmps63
    go_wp2_with (first | (go_at_call 54; refine RE.out.mono ?_; rintro e w' ⟨rfl, rfl⟩))
    go_ret
    exact ⟨rfl, F, H.out, Dk.Turned.refl _ _⟩
end Go.Proofs.Ytipfjccmceaclaa
