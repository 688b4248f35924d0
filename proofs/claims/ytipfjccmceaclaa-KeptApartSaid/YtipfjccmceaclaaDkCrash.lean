/-
  What disk's Crash does.
-/
import Derived.Test.YtipfjccmceaclaaDkSync
import Derived.Test.YtipfjccmceaclaaDkSorted
import Derived.Test.YtipfjccmceaclaaOwn
namespace Go.Proofs.Ytipfjccmceaclaa
open Go.RowKit
namespace Dk
/-- What an owned slice of single cells holds. -/
theorem own_get {w : World} {B e : Nat} {A : Option Addr} {c n : Nat} {xs : List Value} (ho : w.ownsRow B e 1 (.slice A n c) n xs) {j : Nat} (hj : j < n) : ∃ g, A = some ⟨g, 0, none⟩ ∧ w.cell? ⟨g, 0 + j, none⟩ = xs[j]? := by
  rcases ho.2 with ⟨hv, hn⟩ | ⟨g, cap, cur, hv, hB, hh, hn, _, _, htk⟩
  · omega
  · simp only [Value.slice.injEq] at hv
    obtain ⟨rfl, _, rfl⟩ := hv
    refine ⟨g, rfl, ?_⟩
    rw [← htk, List.getElem?_take, if_pos (by omega), Nat.zero_add]
    simp [World.cell?, hh]
/-- The blocks that a slice of numbers lies in. -/
def Off (fp : Nat → Prop) (v : Value) (l : List Int) : Prop := l ≠ [] → ∀ A n c b o, v = .slice A n c → A = some ⟨b, o, none⟩ → ¬ fp b
theorem IntsAt.turned {fp : Nat → Prop} {w w' : World} {v : Value} {l : List Int} (h : IntsAt w v l) (hf : Off fp v l) (k : Turned fp w w') : IntsAt w' v l :=
  h.block (fun h0 b o A n c e1 e2 hb => k.block b hb (hf h0 A n c b o e1 e2)) k.size
theorem keys_F {w : World} {r m b c : Nat} {g : Nat → Nat} {F : Nat → Option Value} {M : Md} (h : Parts w r m b c g F M) : ((List.range M.lasts.length).filter fun i => (F i).isSome) = keys M := by
  unfold keys
  refine List.filter_congr fun i hi => ?_
  have hi := List.mem_range.1 hi
  by_cases hw : M.W i = []
  · rw [h.idle i hi hw]; simp [busy, hw]
  · obtain ⟨ci, e, _⟩ := h.wait i hi hw
    rw [e]; simp [busy, hw]
theorem keys_nodup (M : Md) : (keys M).Nodup := (List.nodup_range (n := M.lasts.length)).filter _
theorem keys_le (M : Md) : (keys M).length ≤ M.lasts.length := by
  have := List.length_filter_le (busy M) (List.range M.lasts.length)
  simpa [keys] using this
theorem take_mem {l : List Nat} (hd : l.Nodup) {k i : Nat} (h : l[k]? = some i) : i ∉ l.take k := by
  intro hm
  obtain ⟨j, hj⟩ := List.getElem?_of_mem hm
  rw [List.getElem?_take] at hj
  split at hj
  · rename_i hjk
    obtain ⟨hk1, hk2⟩ := List.getElem?_eq_some_iff.1 h
    obtain ⟨hj1, hj2⟩ := List.getElem?_eq_some_iff.1 hj
    have := (List.getElem_inj hd).1 (hj2.trans hk2.symm)
    omega
  · cases hj
theorem take_succ_mem {l : List Nat} {k i : Nat} (h : l[k]? = some i) (j : Nat) : j ∈ l.take (k + 1) ↔ j ∈ l.take k ∨ j = i := by
  rw [List.take_add_one, h]
  simp
end Dk
set_option maxRecDepth 100000 in
theorem dkCrash_none {w : World} {v : Value} (h : Dk.None w v) (kv : Value) :
    Calls Try.prog 16 #[v, kv] w fun e w' => e = .returned (.tuple #[]) ∧ w = w' := by
  have NO := Lib.hid (dkNone_is h)
  clear h
  go_enter Try.func16, Try.ntmps16
  go_wp2_with (go_at_call 43; refine NO.out.mono ?_; rintro e w' ⟨rfl, rfl⟩)
  refine bodyPost_ret (results_none rfl _ _ _) rfl ?_
  exact ⟨rfl, rfl⟩
set_option maxRecDepth 100000 in
set_option maxHeartbeats 2000000 in
theorem dkCrash_parts {w : World} {r m b c : Nat} {g : Nat → Nat} {F : Nat → Option Value} {M : Dk.Md} (h : Dk.Parts w r m b c g F M) {kv : Value} {keep : List Int} (hkeep : Dk.IntsAt w kv keep) (hoff : Dk.Off (Dk.own r m b g M) kv keep) (hroom : ∀ i, (M.W i).length ≤ 1099511627776) :
    Calls Try.prog 16 #[.pointer (some ⟨r, 0, none⟩), kv] w fun e w' => e = .returned (.tuple #[]) ∧
      ∃ F', Dk.Parts w' r m b c g F' (Dk.crash M keep) ∧ Dk.Turned (Dk.own r m b g M) w w' := by
  have NO := Lib.hid (dkNone_not h.c1)
  have H := Lib.hid h
  have HK := Lib.hid hkeep
  have HOF := Lib.hid hoff
  have HRM := Lib.hid hroom
  have hn := h.ok.n
  have hkl := Dk.keys_le M
  have KE := Lib.hid (dkKeys_any (some m) w)
  have SO := dkSorted_any h.map hn.2
  rw [Dk.keys_F h] at SO
  have SO := Lib.hid SO
  obtain ⟨ks, hks⟩ : ∃ ks, ks = Dk.keys M := ⟨_, rfl⟩
  rw [← hks] at SO hkl
  have HKS := Lib.hid hks
  have c1 := h.c1
  clear h hkeep hoff hks hroom
  go_enter Try.func16, Try.ntmps16
  go_wp2_with (first | (go_at_call 43; refine NO.out.mono ?_; rintro e w' ⟨rfl, rfl⟩) | (go_at_call 45; refine KE.out.mono ?_; rintro e w' ⟨rfl, rfl⟩) | (go_at_call 44; refine SO.out.mono ?_; rintro e w1 ⟨v, rfl, hrow1, hb1⟩; obtain ⟨A, cA, rfl⟩ := Sm.own_shape hrow1))
  have HP1 := Lib.hid (H.out.below hb1 (Nat.le_refl _))
  have HT1 : Hid (Dk.Turned (Dk.own r m b g M) w w1) := Dk.Turned.of_below hb1 (Nat.le_refl _)
  have HR1 := Lib.hid hrow1
  clear hb1 hrow1 NO KE SO c1
  go_loopw [17, 4, 5, 6, 7] (fun a _ _ _ _ wr => ∃ k F', a = .int .i64 (k : Nat) ∧ k ≤ ks.length ∧ Dk.Parts wr r m b c g F' (Dk.part M (Dk.kept M keep) (fun i => decide (i ∈ ks.take k))) ∧ Dk.Turned (Dk.own r m b g M) w wr ∧ wr.ownsRow w.heap.size 3 1 (.slice A ks.length cA) ks.length (ks.map fun i : Nat => .int .i64 (i : Int))) (fun a _ _ _ _ _ => ks.length - (intOf a).toNat)
  case atStart =>
    refine ⟨0, F, rfl, Nat.zero_le _, ?_, HT1.out, HR1.out⟩
    have e : Dk.part M (Dk.kept M keep) (fun i => decide (i ∈ ks.take 0)) = M := by
      rw [show (fun i => decide (i ∈ ks.take 0)) = fun _ => false by funext i; simp]
      exact Dk.part_none M (Dk.kept M keep)
    rw [e]; exact HP1.out
  case round =>
    obtain ⟨k, F', rfl, hk, hP, hT, hrow⟩ := hrel
    have HP := Lib.hid hP
    have HT := Lib.hid hT
    have HROW := Lib.hid hrow
    by_cases hlt : k < ks.length
    · have hltI : (k : Int) < (ks.length : Int) := by omega
      obtain ⟨kg, rfl, hcell⟩ := Dk.own_get hrow hlt
      obtain ⟨i, hi0⟩ : ∃ i, ks[k]? = some i := ⟨ks[k], List.getElem?_eq_getElem hlt⟩
      rw [List.getElem?_map, hi0] at hcell
      simp only [Option.map_some, Nat.zero_add] at hcell
      have hmem : i ∈ Dk.keys M := by rw [← HKS.out]; exact List.mem_of_getElem? hi0
      have hi := (Dk.mem_keys.1 hmem).1
      have hw := (Dk.mem_keys.1 hmem).2
      have hrk : Dk.rank M i = k := Dk.rank_keys (by rw [← HKS.out]; exact hi0)
      have hnot : (fun i => decide (i ∈ ks.take k)) i = false := by
        have := Dk.take_mem (by rw [HKS.out]; exact Dk.keys_nodup M) hi0
        simp [this]
      have hWi := Dk.part_W (M := M) (f := Dk.kept M keep) (done := fun i => decide (i ∈ ks.take k)) hnot
      have hLi := Dk.part_last (M := M) (f := Dk.kept M keep) (done := fun i => decide (i ∈ ks.take k)) hi hnot
      have hM2l : (Dk.part M (Dk.kept M keep) (fun i => decide (i ∈ ks.take k))).lasts.length = M.lasts.length := Dk.part_len
      obtain ⟨M2, hM2⟩ : ∃ M2, M2 = Dk.part M (Dk.kept M keep) (fun i => decide (i ∈ ks.take k)) := ⟨_, rfl⟩
      rw [← hM2] at hP hWi hM2l hLi
      have hi2 : i < M2.lasts.length := by omega
      obtain ⟨ci, hF, hRi⟩ := hP.wait i hi2 (by rw [hWi]; exact hw)
      rw [hWi] at hF hRi
      have hlook := hP.map.look7 hi2 (by rw [hM2l]; exact hn.2)
      rw [hF] at hlook
      simp only [Option.getD_some] at hlook
      have hint := HK.out.turned HOF.out hT
      have CH := Lib.hid (dkChosen_any hint k (M.W i).length (HRM.out i))
      have hcle := Dk.chosen_le keep k (M.W i).length
      have hkept : Dk.kept M keep i = Dk.choice M i (Dk.chosen keep k (M.W i).length) := by rw [Dk.kept, hrk]
      obtain ⟨ch, hch⟩ : ∃ ch, ch = Dk.chosen keep k (M.W i).length := ⟨_, rfl⟩
      rw [← hch] at CH hcle hkept
      obtain ⟨nw, hnw⟩ : ∃ n, n = (M.W i).length := ⟨_, rfl⟩
      rw [← hnw] at hlook CH hcle
      have c0 := hP.c0
      have c1 := hP.c1
      rw [hM2l] at c0
      have hiI : (i : Int) < (M.lasts.length : Int) := by omega
      have hsuc : IntKind.i64.wrap ((k : Int) + 1) = ((k + 1 : Nat) : Int) := by simp [IntKind.wrap, IntKind.bits, IntKind.signed]; omega
      have HM2 := Lib.hid hM2
      have HL2 := Lib.hid hM2l
      have HI := Lib.hid hi
      have HI2 := Lib.hid hi2
      have HI0 := Lib.hid hi0
      have HRI := Lib.hid hRi
      have HNW := Lib.hid hnw
      have HW := Lib.hid hw
      have HWI := Lib.hid hWi
      have HLI := Lib.hid hLi
      have HF := Lib.hid hF
      have HKEPT := Lib.hid hkept
      have HP2 := Lib.hid hP
      have DONE : Hid (∀ (w' w6 : World), Dk.Parts w' r m b c g F' M2 → Dk.RowAt w6 b c (M2.lasts.set i (Dk.kept M keep i)) → Dk.MapAt Try.prog 3 w6 m M.lasts.length (fun j => if j = i then none else F' j) → (∀ k, Dk.own r m b g M2 k → k ≠ b → k ≠ m → w6.heap[k]? = w'.heap[k]?) → Dk.Parts w6 r m b c g (fun j => if j = i then none else F' j) (Dk.part M (Dk.kept M keep) (fun i => decide (i ∈ ks.take (k + 1))))) := by
        intro w' w6 q1 q2 q3 q4
        rw [HM2.out] at q1 q2 q4
        have := q1.done H.out.ok (fun j hj => H.out.ok.kept keep hj) hi q2 q3 q4
        have e : (fun j => decide (j ∈ ks.take k) || decide (j = i)) = fun j => decide (j ∈ ks.take (k + 1)) := by
          funext j
          rw [← Bool.decide_or]
          exact decide_eq_decide.2 (Dk.take_succ_mem HI0.out j).symm
        rw [e] at this
        exact this
      clear hP hT hM2 hM2l hi hi2 hi0 hRi hnw hw hWi hLi hF hkept hint hmem hrk hch hrow
      by_cases hc0 : ch = 0
      · subst hc0
        have hmap := HP2.out.map
        rw [HL2.out] at hmap
        obtain ⟨w6, hdel, hm6, ht6⟩ := hmap.drop Try.underlying3 Try.underlying74 HI.out hn.2 0
        have hmb : m ≠ b := HP2.out.ne_bm.symm
        have hset : M2.lasts.set i (Dk.kept M keep i) = M2.lasts := by
          rw [HKEPT.out, Dk.choice, if_pos rfl, ← HLI.out, Dk.last]
          refine List.ext_getElem? fun j => ?_
          rw [List.getElem?_set]
          split
          · rename_i e; subst e
            rw [if_pos HI2.out, List.getD_eq_getElem?_getD, List.getElem?_eq_getElem HI2.out]; rfl
          · rfl
        have hk6 : ∀ k, k < wr.heap.size → k ≠ m → w6.heap[k]? = wr.heap[k]? := fun k hk h2 => ht6.grown.block k hk (fun e => h2 (Option.some.inj e))
        have HP6 := Lib.hid (DONE.out wr w6 HP2.out (by rw [hset]; exact HP2.out.row.block (hk6 b HP2.out.row.lt hmb.symm)) hm6 (fun k hk _ h2 => hk6 k (HP2.out.lt k hk) h2))
        have HT6 : Hid (Dk.Turned (Dk.own r m b g M) w w6) := HT.out.trans (Dk.Turned.of_map ht6 (.inl (.inr (.inl rfl))))
        have HROW6 : Hid (w6.ownsRow w.heap.size 3 1 (.slice (some ⟨kg, 0, none⟩) ks.length cA) ks.length (ks.map fun i : Nat => .int .i64 (i : Int))) := HROW.out.kept ht6.grown (.inr (fun e => by
          have e : kg = m := Option.some.inj e
          have := (HROW.out.lt kg rfl).1
          have := H.out.lt m (.inr (.inl rfl))
          omega))
        clear hset hk6 ht6 hm6 hmap hcle
        go_wp2_with (go_at_call 46; refine CH.out.mono ?_; rintro e w' ⟨rfl, rfl⟩)
        go_roundw
        case rel => exact ⟨k + 1, _, rfl, hlt, HP6.out, HT6.out, HROW6.out⟩
        case measure => simp [intOf]; omega
      · obtain ⟨c1', hc1⟩ : ∃ c1', ch = c1' + 1 := ⟨ch - 1, by omega⟩
        subst hc1
        have hcl1 : (((c1' + 1 : Nat) : Int)) > 0 := by omega
        have hcw : IntKind.i64.wrap (((c1' + 1 : Nat) : Int) - 1) = (c1' : Int) := by
          have := HRM.out i
          have := HNW.out
          simp [IntKind.wrap, IntKind.bits, IntKind.signed]; omega
        have hcw2 : IntKind.i64.wrap (c1' : Int) = (c1' : Int) := by
          have := HRM.out i
          have := HNW.out
          simp [IntKind.wrap, IntKind.bits, IntKind.signed]; omega
        have hcn : (c1' : Int) < (nw : Int) := by omega
        have hx : Dk.kept M keep i = (M.W i).getD c1' [] := by rw [HKEPT.out, Dk.choice, if_neg (by omega)]; rfl
        have hcl' : c1' < (M.W i).length := by have := HNW.out; omega
        obtain ⟨l, hl⟩ : ∃ l, l = (M.W i).getD c1' [] := ⟨_, rfl⟩
        have hl64 : l.length = 64 := by rw [hl]; exact Dk.sec_length HRI.out.sec hcl'
        obtain ⟨cs, hcs⟩ : ∃ cs, cs = Lib.byteCells l := ⟨_, rfl⟩
        have hcl : cs.length = 64 := by rw [hcs, Lib.byteCells_length, hl64]
        have h1 : cs.toArray.all (·.oneCell') = true := by rw [hcs]; exact Sm.bytes_one _
        have hrg := HRI.out.range hcl'
        rw [← hl, ← hcs] at hrg
        rw [← hl] at hx
        have HX := Lib.hid hx
        have HL64 := Lib.hid hl64
        have HCS := Lib.hid hcs
        have HCL := Lib.hid hcl
        have H1 := Lib.hid h1
        have HRG := Lib.hid hrg
        clear hx hl hl64 hcs hcl h1 hcl' hrg hcle
        go_upto_region 7 with (go_at_call 46; refine CH.out.mono ?_; rintro e w' ⟨rfl, rfl⟩)
        refine wp_region_held_drew (S := (fun w' => w'.cell? ⟨r, 0, none⟩ = some (.slice (some ⟨b, 0, none⟩) M.lasts.length c) ∧ w'.rangeAt (g i) (c1' * 64) cs)) (by kernel_rfl) ⟨c0, HRG.out⟩ (fun hHeld => ?_)
        refine wpAnyH_take (i := 0) (oi := ⟨some 35, _, _, _, _, _⟩) (v := .pointer (some ⟨r, 0, none⟩)) rfl (by kernel_rfl) (by kernel_rfl) (by kernel_rfl) (fun _ _ _ h => h) (Or.inl ⟨by rfl, ?_⟩) (by assumption) ?_
        · intro w hSw; (try dsimp only at hSw); go_simp
        simp only [Act.put, List.setIfInBounds_toArray, List.set_cons_zero, List.set_cons_succ]
        refine wpAnyH_take (i := 1) (oi := ⟨some 36, _, _, _, _, _⟩) (v := .pointer (some ⟨r, 0, none⟩)) rfl (by kernel_rfl) (by kernel_rfl) (by kernel_rfl) (fun _ _ _ h => h) (Or.inl ⟨by rfl, ?_⟩) (by assumption) ?_
        · intro w hSw; (try dsimp only at hSw); go_simp
        simp only [Act.put, List.setIfInBounds_toArray, List.set_cons_zero, List.set_cons_succ]
        refine wpAnyH_take (i := 2) (oi := ⟨some 37, _, _, _, _, _⟩) (v := .pointer (some ⟨r, 0, none⟩)) rfl (by kernel_rfl) (by kernel_rfl) (by kernel_rfl) (fun _ _ _ h => h) (Or.inl ⟨by rfl, ?_⟩) (by assumption) ?_
        · intro w hSw; (try dsimp only at hSw); go_simp
        simp only [Act.put, List.setIfInBounds_toArray, List.set_cons_zero, List.set_cons_succ]
        refine wpAnyH_take (i := 3) (oi := ⟨some 38, _, _, _, _, _⟩) (v := .slice (some ⟨b, 0, none⟩) M.lasts.length c) rfl (by kernel_rfl) (by kernel_rfl) (by kernel_rfl) (fun _ _ _ h => h) (Or.inl ⟨by rfl, ?_⟩) (by assumption) ?_
        · intro w hSw; (try dsimp only at hSw); obtain ⟨s1, s2⟩ := hSw; go_simp
        simp only [Act.put, List.setIfInBounds_toArray, List.set_cons_zero, List.set_cons_succ]
        refine wpAnyH_take (i := 4) (oi := ⟨some 39, _, _, _, _, _⟩) (v := .int .i64 (i : Int)) rfl (by kernel_rfl) (by kernel_rfl) (by kernel_rfl) (fun _ _ _ h => h) (Or.inl ⟨by rfl, ?_⟩) (by assumption) ?_
        · intro w hSw; (try dsimp only at hSw); go_simp
        simp only [Act.put, List.setIfInBounds_toArray, List.set_cons_zero, List.set_cons_succ]
        refine wpAnyH_take (i := 5) (oi := ⟨some 40, _, _, _, _, _⟩) (v := .slice (some ⟨g i, 0, none⟩) nw ci) rfl (by kernel_rfl) (by kernel_rfl) (by kernel_rfl) (fun _ _ _ h => h) (Or.inl ⟨by rfl, ?_⟩) (by assumption) ?_
        · intro w hSw; (try dsimp only at hSw); go_simp
        simp only [Act.put, List.setIfInBounds_toArray, List.set_cons_zero, List.set_cons_succ]
        refine wpAnyH_take (i := 6) (oi := ⟨some 41, _, _, _, _, _⟩) (v := .int .i64 ((c1' + 1 : Nat) : Int)) rfl (by kernel_rfl) (by kernel_rfl) (by kernel_rfl) (fun _ _ _ h => h) (Or.inl ⟨by rfl, ?_⟩) (by assumption) ?_
        · intro w hSw; (try dsimp only at hSw); go_simp
        simp only [Act.put, List.setIfInBounds_toArray, List.set_cons_zero, List.set_cons_succ]
        refine wpAnyH_take (i := 7) (oi := ⟨some 42, _, _, _, _, _⟩) (v := .int .i64 (c1' : Int)) rfl (by kernel_rfl) (by kernel_rfl) (by kernel_rfl) (fun _ _ _ h => h) (Or.inl ⟨by rfl, ?_⟩) (by assumption) ?_
        · intro w hSw; (try dsimp only at hSw); go_simp
        simp only [Act.put, List.setIfInBounds_toArray, List.set_cons_zero, List.set_cons_succ]
        refine wpAnyH_take (i := 8) (oi := ⟨some 43, _, _, _, _, _⟩) (v := .pointer (some ⟨g i, c1' * 64, none⟩)) rfl (by kernel_rfl) (by kernel_rfl) (by kernel_rfl) (fun _ _ _ h => h) (Or.inl ⟨by rfl, ?_⟩) (by assumption) ?_
        · intro w hSw; (try dsimp only at hSw); go_simp
        simp only [Act.put, List.setIfInBounds_toArray, List.set_cons_zero, List.set_cons_succ]
        refine wpAnyH_take (i := 9) (oi := ⟨some 44, _, _, _, _, _⟩) (v := .agg cs.toArray) rfl (by kernel_rfl) (by kernel_rfl) (by kernel_rfl) (fun _ _ _ h => h) (yieldsIf_load_mid (by rfl) _ _ rfl _ _ rfl cs _ (fun w hS => hS.2) Try.underlying106 rfl (Dk.infoSecL HCL.out)) (by assumption) ?_
        simp only [Act.put, List.setIfInBounds_toArray, List.set_cons_zero, List.set_cons_succ]
        refine wpAnyH_take (i := 10) (oi := ⟨some 45, _, _, _, _, _⟩) (v := .pointer (some ⟨b, i * 64, none⟩)) rfl (by kernel_rfl) (by kernel_rfl) (by kernel_rfl) (fun _ _ _ h => h) (Or.inl ⟨by rfl, ?_⟩) (by assumption) ?_
        · intro w hSw; (try dsimp only at hSw); go_simp
        simp only [Act.put, List.setIfInBounds_toArray, List.set_cons_zero, List.set_cons_succ]
        refine wpAnyH_ready (rs := [11]) (by kernel_rfl) (by simp) ?_
        refine (AllReadyH.cons (o := ⟨none, _, _, _, _, _⟩) rfl (fun K hK => ?_) AllReadyH.nil)
        rw [if_pos (by simp [Region.wanted])]
        have hP4 := HP2.out.drew
        have hrow4 := hP4.row.set HI2.out HL64.out
        rw [← HCS.out] at hrow4
        have hgr := Sm.grown_setCells2 (Sm.grown_refl wr.drew (some b)) cs (i * 64)
        have hk5 : ∀ k, k < wr.heap.size → k ≠ b → (wr.drew.setCells b (i * 64) cs).heap[k]? = wr.heap[k]? := fun k hk hkb => hgr.block k hk (fun e => hkb (Option.some.inj e))
        have hT5 : Dk.Turned (Dk.own r m b g M) w (wr.drew.setCells b (i * 64) cs) := HT.out.drew.trans (Dk.Turned.of_grown hgr (.inl (.inr (.inr (.inl rfl)))))
        have hbd := hP4.row.there HI2.out
        have hrlt := HP2.out.lt r (.inl rfl)
        have c1x : (wr.drew.setCells b (i * 64) cs).cell? ⟨r, 1, none⟩ = some (.map (some m)) := by
          rw [World.cell?_of_block (w := wr) (hk5 r hrlt hP4.ne_rb)]; exact c1
        have c0' : (wr.drew.setCells b (i * 64) cs).cell? ⟨r, 0, none⟩ = some (.slice (some ⟨b, 0, none⟩) M.lasts.length c) := by
          rw [World.cell?_of_block (w := wr) (hk5 r hrlt hP4.ne_rb)]; exact c0
        have hgib : g i ≠ b := HP2.out.apart i HI2.out (by rw [HWI.out]; exact HW.out)
        have hrg5 : (wr.drew.setCells b (i * 64) cs).rangeAt (g i) (c1' * 64) cs := World.rangeAt_setCells_apart (w := wr.drew) HRG.out b (i * 64) cs (.inl hgib)
        refine wp_store_mid 106 _ _ rfl b (i * 64) cs.toArray rfl rfl (by rw [List.size_toArray, HCL.out]; exact hbd) (Dk.infoSec (by rw [List.size_toArray]; exact HCL.out)) H1.out ?_
        refine hK.out _ _ ⟨c0', hrg5⟩ (fun hHeld => ?_)
        clear hK K hHeld c0' hbd hrg5
        have hmap5 := (HP2.out.map.block (hk5 m (HP2.out.lt m (.inr (.inl rfl))) HP2.out.ne_bm.symm))
        rw [HL2.out] at hmap5
        obtain ⟨w6, hdel, hm6, ht6⟩ := hmap5.drop Try.underlying3 Try.underlying74 HI.out hn.2 0
        have hmb : m ≠ b := HP2.out.ne_bm.symm
        have hrow6 := hrow4.block (ht6.grown.block b hrow4.lt (fun e => hmb (Option.some.inj e).symm))
        have HP6 := Lib.hid (DONE.out wr w6 HP2.out (by rw [HX.out]; exact hrow6) hm6 (fun k hk h1 h2 => by
          rw [ht6.grown.block k (Nat.lt_of_lt_of_le (HP2.out.lt k hk) hgr.size) (fun e => h2 (Option.some.inj e))]
          exact hk5 k (HP2.out.lt k hk) h1))
        have HT6 : Hid (Dk.Turned (Dk.own r m b g M) w w6) := hT5.trans (Dk.Turned.of_map ht6 (.inl (.inr (.inl rfl))))
        have HROW5 : (wr.drew.setCells b (i * 64) cs).ownsRow w.heap.size 3 1 (.slice (some ⟨kg, 0, none⟩) ks.length cA) ks.length (ks.map fun i : Nat => .int .i64 (i : Int)) := World.ownsRow.kept (w := wr.drew) HROW.out hgr (.inr (fun e => by
          have e : kg = b := Option.some.inj e
          have := (HROW.out.lt kg rfl).1
          have := H.out.lt b (.inr (.inr (.inl rfl)))
          omega))
        have HROW6 : Hid (w6.ownsRow w.heap.size 3 1 (.slice (some ⟨kg, 0, none⟩) ks.length cA) ks.length (ks.map fun i : Nat => .int .i64 (i : Int))) := HROW5.kept ht6.grown (.inr (fun e => by
          have e : kg = m := Option.some.inj e
          have := (HROW.out.lt kg rfl).1
          have := H.out.lt m (.inr (.inl rfl))
          omega))
        clear hk5 ht6 hm6 hmap5 hT5 hrow4 hrow6 hP4 hgr HROW5 c0 c1 hcell
        refine wpAnyH_done (by kernel_rfl) ?_ _
        go_wp2
        go_roundw
        case rel => exact ⟨k + 1, _, rfl, hlt, HP6.out, HT6.out, HROW6.out⟩
        case measure => simp [intOf]; omega
    · have hke : k = ks.length := by omega
      subst hke
      have hltI : ¬ ((ks.length : Nat) : Int) < (ks.length : Int) := by omega
      have hP2 := hP.all (fun i hi hd => by
        have hnm : i ∉ ks := by
          have := of_decide_eq_false hd
          rwa [List.take_of_length_le (Nat.le_refl _)] at this
        have hw : M.W i = [] := Decidable.byContradiction fun hw => hnm (by rw [HKS.out]; exact Dk.mem_keys.2 ⟨hi, hw⟩)
        exact ⟨hw, Dk.kept_idle hw⟩) H.out.ok.none
      have hP3 := (hP2.power false).fuse (f := -1) (by decide)
      have HP3 : Hid (Dk.Parts ((wr.setCell ⟨r, 2, none⟩ (.bool false)).setCell ⟨r, 3, none⟩ (.int .i64 (-1))) r m b c g F' (Dk.crash M keep)) := hP3
      have HT3 : Hid (Dk.Turned (Dk.own r m b g M) w ((wr.setCell ⟨r, 2, none⟩ (.bool false)).setCell ⟨r, 3, none⟩ (.int .i64 (-1)))) := HT.out.trans (Dk.Turned.of_grown (Sm.grown_set (Sm.grown_set (Sm.grown_refl wr (some r)) 2 _) 3 _) (.inl (.inl rfl)))
      have c2 := hP2.c2
      have c3 := hP2.c3
      have c3' : (wr.setCell ⟨r, 2, none⟩ (.bool false)).cell? ⟨r, 3, none⟩ = some (.int .i64 M.fuse) := by
        rw [World.cell?_setCell_other _ _ _ _ (by simp)]; exact c3
      have f2 := hP2.free 2
      have f3 := hP2.free 3
      clear hP hP2 hP3 hT hrow
      go_wp2
      go_end0
      exact ⟨rfl, ⟨F', HP3.out⟩, HT3.out⟩
end Go.Proofs.Ytipfjccmceaclaa
