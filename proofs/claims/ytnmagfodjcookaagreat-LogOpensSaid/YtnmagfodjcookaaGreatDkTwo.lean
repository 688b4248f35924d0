/-
  Texts that belong together, laid into one.
-/
import Derived.Test.YtnmagfodjcookaaGreatDkOne
import Derived.Test.YtnmagfodjcookaaGreatOwn
import Derived.Test.YtnmagfodjcookaaGreatIter
import Derived.Carry
/-
  The numbers of a map, sorted: slices.Sorted(maps.Keys(m)).
-/
namespace Go.Proofs.YtnmagfodjcookaaGreat
open Go.RowKit Go.Maps Go.Sort Go.Shelf
namespace Dk
theorem keys_of_reads {N : Nat} {F : Nat → Option Value} {D : DataW Value} (h : Reads N F D) (ht : ∃ es, D = .map es ∧ es.Pairwise (fun p q => p.1 ≠ q.1) ∧ ∀ p ∈ es, WideAt.IsKeyLit p.1) {ss : List Int} (hp : ss.Perm (intKeys D)) :
    ss.mergeSort (fun x y => decide (x ≤ y)) = ((List.range N).filter fun i => (F i).isSome).map (fun i : Nat => (i : Int)) := by
  obtain ⟨es, rfl, hd, hkl⟩ := ht
  have hall : ∀ p ∈ es, ∃ i, i < N ∧ p.1 = key i := fun p hp => h.keys p.1 (List.any_eq_true.2 ⟨p, hp, WideAt.sameKey_self (hkl p hp)⟩)
  have hnd : (es.map fun p => Go.intOf p.1).Nodup := by
    rw [List.Nodup, List.pairwise_map]
    refine hd.imp_of_mem ?_
    intro p q hp hq hne
    obtain ⟨i, _, e1⟩ := hall p hp
    obtain ⟨j, _, e2⟩ := hall q hq
    rw [e1, e2] at hne ⊢
    intro e
    simp only [Go.intOf] at e
    exact hne (by rw [show i = j by omega])
  have hnd2 : (((List.range N).filter fun i => (F i).isSome).map (fun i : Nat => (i : Int))).Nodup := by
    rw [List.Nodup, List.pairwise_map]
    refine ((List.nodup_range (n := N)).filter _).imp ?_
    intro a b hne e
    exact hne (by omega)
  have hperm : (es.map fun p => Go.intOf p.1).Perm (((List.range N).filter fun i => (F i).isSome).map (fun i : Nat => (i : Int))) := by
    rw [List.perm_ext_iff_of_nodup hnd hnd2]
    intro x
    simp only [List.mem_map, List.mem_filter, List.mem_range]
    constructor
    · rintro ⟨p, hp, rfl⟩
      obtain ⟨i, hi, e1⟩ := hall p hp
      have hh : Maps.has (.map es) (key i) = true := List.any_eq_true.2 ⟨p, hp, by rw [e1]; exact WideAt.sameKey_self (isKey i)⟩
      rw [h.has i hi] at hh
      exact ⟨i, ⟨hi, hh⟩, by rw [e1]; rfl⟩
    · rintro ⟨i, ⟨hi, hs⟩, rfl⟩
      rw [← h.has i hi] at hs
      obtain ⟨p, hp, hk⟩ := List.any_eq_true.1 hs
      exact ⟨p, hp, by rw [WideAt.sameKey_eq hk]; rfl⟩
  refine List.Perm.eq_of_pairwise (le := fun a b : Int => a ≤ b) (fun a b _ _ h1 h2 => by omega) ?_ ?_ (((List.mergeSort_perm ss _).trans hp).trans hperm)
  · have := List.pairwise_mergeSort (le := fun x y : Int => decide (x ≤ y)) (fun a b c h1 h2 => by simp at *; omega) (fun a b => by simp; omega) ss
    exact this.imp (fun h => by simpa using h)
  · rw [List.pairwise_map]
    refine ((List.pairwise_lt_range (n := N)).filter _).imp ?_
    intro a b hab
    omega
end Dk
theorem dkSorts (m : Nat) : AnyZI.SortsIn Tryz.prog Dk.sortedA_ren Fence.wide m :=
  ⟨fun blk off cap ss W hH hblk hsz => callsIn_wide.2 (AnyM.slices_Sort_int Dk.sortA blk off cap ss W hH hblk hsz),
   fun p cap W => callsIn_wide.2 (AnyM.slices_Sort_int_none Dk.sortA p cap W)⟩
theorem dkKeys_any (mb : Option Nat) (W : World) : Calls Tryz.prog 65 #[.map mb] W fun e w' => e = .returned (.func (.func 84) #[] #[.pointer (some ⟨W.heap.size, 0, none⟩)]) ∧ w' = W.alloc (.cells #[.map mb] 62) :=
  (callsIn_wide (n := 5)).1 (AnyZI.keys_in Dk.keysA Fence.wide 5 trivial rfl mb W)
set_option maxHeartbeats 1000000 in
theorem dkSorted_any {w : World} {b N : Nat} {F : Nat → Option Value} (h : Dk.MapAt Tryz.prog 3 w b N F) (hN : N ≤ 4096) :
    Calls Tryz.prog 64 #[.func (.func 84) #[] #[.pointer (some ⟨w.heap.size, 0, none⟩)]] (w.alloc (.cells #[.map (some b)] 62)) fun e w' =>
      ∃ v, e = .returned v ∧ w'.ownsRow w.heap.size 3 1 v ((List.range N).filter fun i => (F i).isSome).length (((List.range N).filter fun i => (F i).isSome).map fun i : Nat => .int .i64 (i : Int)) ∧ Below w.heap.size w w' := by
  obtain ⟨D, hown, hR⟩ := h
  have hent := hown.entries (int_keyed Tryz.underlying3)
  have hsz := hR.size hent
  have hbl := hown.lt
  have hseq : SeqGives Fence.wide 2 Tryz.prog 84 #[.pointer (some ⟨w.heap.size, 0, none⟩)] encZ (fun ss => ss.Perm (intKeys D)) (Maps.size D) (w.alloc (.cells #[.map (some b)] 62)) :=
    AnyZI.keys_gives (ρ := Dk.keysA_ren) { Dk.keysA with } Fence.wide _ trivial rfl (by omega) w.heap.size b N D _ (by simp) (by simp) (by
      obtain ⟨es, clock, hb, Ft, hs, hD⟩ := hown
      exact ⟨es, clock, (Below.heap_alloc _ _ b hbl).trans hb, Ft, hs, hD⟩)
  have cS := AnyZI.sorted_in Dk.sortedA Fence.wide 5 trivial trivial trivial trivial rfl (by omega) (dkSorts _) (enters_of Tryz.func83 (by kernel_rfl) rfl) 84 #[.pointer (some ⟨w.heap.size, 0, none⟩)] trivial (enters_of Tryz.func84 (by kernel_rfl) rfl) _ _ (by unfold maxLen; omega) (by omega) _ hseq
  change CallsIn _ _ Tryz.prog 64 _ _ _ at cS
  refine ((callsIn_wide (n := 5)).1 cS).mono ?_
  rintro e w' ⟨v, ss, rfl, hS, hrow, hnil, hb⟩
  have e1 := Dk.keys_of_reads hR hent hS
  have e2 := congrArg List.length e1
  rw [List.length_mergeSort, List.length_map] at e2
  rw [e1, e2, List.map_map] at hrow
  exact ⟨v, rfl, ownsRow_base_a hrow (by simp), ((Below.refl _ w).alloc (Nat.le_refl _) _).trans (hb.mono (by simp))⟩
end Go.Proofs.YtnmagfodjcookaaGreat

/-
  What disk's Crash does.
-/
namespace Go.Proofs.YtnmagfodjcookaaGreat
open Go.RowKit
namespace Dk
/-- What an owned slice of single cells holds. -/
theorem own_get {w : World} {B e : Nat} {A : Option Addr} {c n : Nat} {xs : List Value} (ho : w.ownsRow B e 1 (.slice A n c) n xs) {j : Nat} (hj : j < n) : ∃ g, A = some ⟨g, 0, none⟩ ∧ w.cell? ⟨g, 0 + j, none⟩ = xs[j]? := by
  rcases ho.2 with ⟨hv, hn⟩ | ⟨g, cap, cur, hv, hB, hh, hn, _, _, htk⟩
  · omega
  · simp only [Value.slice.injEq] at hv
    obtain ⟨rfl, _, rfl⟩ := hv
    refine ⟨g, rfl, ?_⟩
    rw [← htk, List.getElem?_take, if_pos (by omega), Nat.zero_add]
    simp [World.cell?, hh]
/-- The blocks that a slice of numbers lies in. -/
def Off (fp : Nat → Prop) (v : Value) (l : List Int) : Prop := l ≠ [] → ∀ A n c b o, v = .slice A n c → A = some ⟨b, o, none⟩ → ¬ fp b
theorem IntsAt.turned {fp : Nat → Prop} {w w' : World} {v : Value} {l : List Int} (h : IntsAt w v l) (hf : Off fp v l) (k : Turned fp w w') : IntsAt w' v l :=
  h.block (fun h0 b o A n c e1 e2 hb => k.block b hb (hf h0 A n c b o e1 e2)) k.size
theorem keys_F {w : World} {r m b c : Nat} {g : Nat → Nat} {F : Nat → Option Value} {M : Md} (h : Parts w r m b c g F M) : ((List.range M.lasts.length).filter fun i => (F i).isSome) = keys M := by
  unfold keys
  refine List.filter_congr fun i hi => ?_
  have hi := List.mem_range.1 hi
  by_cases hw : M.W i = []
  · rw [h.idle i hi hw]; simp [busy, hw]
  · obtain ⟨ci, e, _⟩ := h.wait i hi hw
    rw [e]; simp [busy, hw]
theorem keys_nodup (M : Md) : (keys M).Nodup := (List.nodup_range (n := M.lasts.length)).filter _
theorem keys_le (M : Md) : (keys M).length ≤ M.lasts.length := by
  have := List.length_filter_le (busy M) (List.range M.lasts.length)
  simpa [keys] using this
theorem take_mem {l : List Nat} (hd : l.Nodup) {k i : Nat} (h : l[k]? = some i) : i ∉ l.take k := by
  intro hm
  obtain ⟨j, hj⟩ := List.getElem?_of_mem hm
  rw [List.getElem?_take] at hj
  split at hj
  · rename_i hjk
    obtain ⟨hk1, hk2⟩ := List.getElem?_eq_some_iff.1 h
    obtain ⟨hj1, hj2⟩ := List.getElem?_eq_some_iff.1 hj
    have := (List.getElem_inj hd).1 (hj2.trans hk2.symm)
    omega
  · cases hj
theorem take_succ_mem {l : List Nat} {k i : Nat} (h : l[k]? = some i) (j : Nat) : j ∈ l.take (k + 1) ↔ j ∈ l.take k ∨ j = i := by
  rw [List.take_add_one, h]
  simp
end Dk
set_option maxRecDepth 100000 in
theorem dkCrash_none {w : World} {v : Value} (h : Dk.None w v) (kv : Value) :
    Calls Tryz.prog 30 #[v, kv] w fun e w' => e = .returned (.tuple #[]) ∧ w = w' := by
  have NO := Lib.hid (dkNone_is h)
  clear h
  go_enter Tryz.func30, Tryz.ntmps30
  go_wp2_with (go_at_call 63; refine NO.out.mono ?_; rintro e w' ⟨rfl, rfl⟩)
  refine bodyPost_ret (results_none rfl _ _ _) rfl ?_
  exact ⟨rfl, rfl⟩
set_option maxRecDepth 100000 in
set_option maxHeartbeats 2000000 in
theorem dkCrash_parts {w : World} {r m b c : Nat} {g : Nat → Nat} {F : Nat → Option Value} {M : Dk.Md} (h : Dk.Parts w r m b c g F M) {kv : Value} {keep : List Int} (hkeep : Dk.IntsAt w kv keep) (hoff : Dk.Off (Dk.own r m b g M) kv keep) (hroom : ∀ i, (M.W i).length ≤ 1099511627776) :
    Calls Tryz.prog 30 #[.pointer (some ⟨r, 0, none⟩), kv] w fun e w' => e = .returned (.tuple #[]) ∧
      ∃ F', Dk.Parts w' r m b c g F' (Dk.crash M keep) ∧ Dk.Turned (Dk.own r m b g M) w w' := by
  have NO := Lib.hid (dkNone_not h.c1)
  have H := Lib.hid h
  have HK := Lib.hid hkeep
  have HOF := Lib.hid hoff
  have HRM := Lib.hid hroom
  have hn := h.ok.n
  have hkl := Dk.keys_le M
  have KE := Lib.hid (dkKeys_any (some m) w)
  have SO := dkSorted_any h.map hn.2
  rw [Dk.keys_F h] at SO
  have SO := Lib.hid SO
  obtain ⟨ks, hks⟩ : ∃ ks, ks = Dk.keys M := ⟨_, rfl⟩
  rw [← hks] at SO hkl
  have HKS := Lib.hid hks
  have c1 := h.c1
  clear h hkeep hoff hks hroom
  go_enter Tryz.func30, Tryz.ntmps30
  go_wp2_with (first | (go_at_call 63; refine NO.out.mono ?_; rintro e w' ⟨rfl, rfl⟩) | (go_at_call 65; refine KE.out.mono ?_; rintro e w' ⟨rfl, rfl⟩) | (go_at_call 64; refine SO.out.mono ?_; rintro e w1 ⟨v, rfl, hrow1, hb1⟩; obtain ⟨A, cA, rfl⟩ := Sm.own_shape hrow1))
  have HP1 := Lib.hid (H.out.below hb1 (Nat.le_refl _))
  have HT1 : Hid (Dk.Turned (Dk.own r m b g M) w w1) := Dk.Turned.of_below hb1 (Nat.le_refl _)
  have HR1 := Lib.hid hrow1
  clear hb1 hrow1 NO KE SO c1
  go_loopw [17, 4, 5, 6, 7] (fun a _ _ _ _ wr => ∃ k F', a = .int .i64 (k : Nat) ∧ k ≤ ks.length ∧ Dk.Parts wr r m b c g F' (Dk.part M (Dk.kept M keep) (fun i => decide (i ∈ ks.take k))) ∧ Dk.Turned (Dk.own r m b g M) w wr ∧ wr.ownsRow w.heap.size 3 1 (.slice A ks.length cA) ks.length (ks.map fun i : Nat => .int .i64 (i : Int))) (fun a _ _ _ _ _ => ks.length - (intOf a).toNat)
  case atStart =>
    refine ⟨0, F, rfl, Nat.zero_le _, ?_, HT1.out, HR1.out⟩
    have e : Dk.part M (Dk.kept M keep) (fun i => decide (i ∈ ks.take 0)) = M := by
      rw [show (fun i => decide (i ∈ ks.take 0)) = fun _ => false by funext i; simp]
      exact Dk.part_none M (Dk.kept M keep)
    rw [e]; exact HP1.out
  case round =>
    obtain ⟨k, F', rfl, hk, hP, hT, hrow⟩ := hrel
    have HP := Lib.hid hP
    have HT := Lib.hid hT
    have HROW := Lib.hid hrow
    by_cases hlt : k < ks.length
    · have hltI : (k : Int) < (ks.length : Int) := by omega
      obtain ⟨kg, rfl, hcell⟩ := Dk.own_get hrow hlt
      obtain ⟨i, hi0⟩ : ∃ i, ks[k]? = some i := ⟨ks[k], List.getElem?_eq_getElem hlt⟩
      rw [List.getElem?_map, hi0] at hcell
      simp only [Option.map_some, Nat.zero_add] at hcell
      have hmem : i ∈ Dk.keys M := by rw [← HKS.out]; exact List.mem_of_getElem? hi0
      have hi := (Dk.mem_keys.1 hmem).1
      have hw := (Dk.mem_keys.1 hmem).2
      have hrk : Dk.rank M i = k := Dk.rank_keys (by rw [← HKS.out]; exact hi0)
      have hnot : (fun i => decide (i ∈ ks.take k)) i = false := by
        have := Dk.take_mem (by rw [HKS.out]; exact Dk.keys_nodup M) hi0
        simp [this]
      have hWi := Dk.part_W (M := M) (f := Dk.kept M keep) (done := fun i => decide (i ∈ ks.take k)) hnot
      have hLi := Dk.part_last (M := M) (f := Dk.kept M keep) (done := fun i => decide (i ∈ ks.take k)) hi hnot
      have hM2l : (Dk.part M (Dk.kept M keep) (fun i => decide (i ∈ ks.take k))).lasts.length = M.lasts.length := Dk.part_len
      obtain ⟨M2, hM2⟩ : ∃ M2, M2 = Dk.part M (Dk.kept M keep) (fun i => decide (i ∈ ks.take k)) := ⟨_, rfl⟩
      rw [← hM2] at hP hWi hM2l hLi
      have hi2 : i < M2.lasts.length := by omega
      obtain ⟨ci, hF, hRi⟩ := hP.wait i hi2 (by rw [hWi]; exact hw)
      rw [hWi] at hF hRi
      have hlook := hP.map.look7 hi2 (by rw [hM2l]; exact hn.2)
      rw [hF] at hlook
      simp only [Option.getD_some] at hlook
      have hint := HK.out.turned HOF.out hT
      have CH := Lib.hid (dkChosen_any hint k (M.W i).length (HRM.out i))
      have hcle := Dk.chosen_le keep k (M.W i).length
      have hkept : Dk.kept M keep i = Dk.choice M i (Dk.chosen keep k (M.W i).length) := by rw [Dk.kept, hrk]
      obtain ⟨ch, hch⟩ : ∃ ch, ch = Dk.chosen keep k (M.W i).length := ⟨_, rfl⟩
      rw [← hch] at CH hcle hkept
      obtain ⟨nw, hnw⟩ : ∃ n, n = (M.W i).length := ⟨_, rfl⟩
      rw [← hnw] at hlook CH hcle
      have c0 := hP.c0
      have c1 := hP.c1
      rw [hM2l] at c0
      have hiI : (i : Int) < (M.lasts.length : Int) := by omega
      have hsuc : IntKind.i64.wrap ((k : Int) + 1) = ((k + 1 : Nat) : Int) := by simp [IntKind.wrap, IntKind.bits, IntKind.signed]; omega
      have HM2 := Lib.hid hM2
      have HL2 := Lib.hid hM2l
      have HI := Lib.hid hi
      have HI2 := Lib.hid hi2
      have HI0 := Lib.hid hi0
      have HRI := Lib.hid hRi
      have HNW := Lib.hid hnw
      have HW := Lib.hid hw
      have HWI := Lib.hid hWi
      have HLI := Lib.hid hLi
      have HF := Lib.hid hF
      have HKEPT := Lib.hid hkept
      have HP2 := Lib.hid hP
      have DONE : Hid (∀ (w' w6 : World), Dk.Parts w' r m b c g F' M2 → Dk.RowAt w6 b c (M2.lasts.set i (Dk.kept M keep i)) → Dk.MapAt Tryz.prog 3 w6 m M.lasts.length (fun j => if j = i then none else F' j) → (∀ k, Dk.own r m b g M2 k → k ≠ b → k ≠ m → w6.heap[k]? = w'.heap[k]?) → Dk.Parts w6 r m b c g (fun j => if j = i then none else F' j) (Dk.part M (Dk.kept M keep) (fun i => decide (i ∈ ks.take (k + 1))))) := by
        intro w' w6 q1 q2 q3 q4
        rw [HM2.out] at q1 q2 q4
        have := q1.done H.out.ok (fun j hj => H.out.ok.kept keep hj) hi q2 q3 q4
        have e : (fun j => decide (j ∈ ks.take k) || decide (j = i)) = fun j => decide (j ∈ ks.take (k + 1)) := by
          funext j
          rw [← Bool.decide_or]
          exact decide_eq_decide.2 (Dk.take_succ_mem HI0.out j).symm
        rw [e] at this
        exact this
      clear hP hT hM2 hM2l hi hi2 hi0 hRi hnw hw hWi hLi hF hkept hint hmem hrk hch hrow
      by_cases hc0 : ch = 0
      · subst hc0
        have hmap := HP2.out.map
        rw [HL2.out] at hmap
        obtain ⟨w6, hdel, hm6, ht6⟩ := hmap.drop Tryz.underlying3 Tryz.underlying62 HI.out hn.2 0
        have hmb : m ≠ b := HP2.out.ne_bm.symm
        have hset : M2.lasts.set i (Dk.kept M keep i) = M2.lasts := by
          rw [HKEPT.out, Dk.choice, if_pos rfl, ← HLI.out, Dk.last]
          refine List.ext_getElem? fun j => ?_
          rw [List.getElem?_set]
          split
          · rename_i e; subst e
            rw [if_pos HI2.out, List.getD_eq_getElem?_getD, List.getElem?_eq_getElem HI2.out]; rfl
          · rfl
        have hk6 : ∀ k, k < wr.heap.size → k ≠ m → w6.heap[k]? = wr.heap[k]? := fun k hk h2 => ht6.grown.block k hk (fun e => h2 (Option.some.inj e))
        have HP6 := Lib.hid (DONE.out wr w6 HP2.out (by rw [hset]; exact HP2.out.row.block (hk6 b HP2.out.row.lt hmb.symm)) hm6 (fun k hk _ h2 => hk6 k (HP2.out.lt k hk) h2))
        have HT6 : Hid (Dk.Turned (Dk.own r m b g M) w w6) := HT.out.trans (Dk.Turned.of_map ht6 (.inl (.inr (.inl rfl))))
        have HROW6 : Hid (w6.ownsRow w.heap.size 3 1 (.slice (some ⟨kg, 0, none⟩) ks.length cA) ks.length (ks.map fun i : Nat => .int .i64 (i : Int))) := HROW.out.kept ht6.grown (.inr (fun e => by
          have e : kg = m := Option.some.inj e
          have := (HROW.out.lt kg rfl).1
          have := H.out.lt m (.inr (.inl rfl))
          omega))
        clear hset hk6 ht6 hm6 hmap hcle
        go_wp2_with (go_at_call 66; refine CH.out.mono ?_; rintro e w' ⟨rfl, rfl⟩)
        go_roundw
        case rel => exact ⟨k + 1, _, rfl, hlt, HP6.out, HT6.out, HROW6.out⟩
        case measure => simp [intOf]; omega
      · obtain ⟨c1', hc1⟩ : ∃ c1', ch = c1' + 1 := ⟨ch - 1, by omega⟩
        subst hc1
        have hcl1 : (((c1' + 1 : Nat) : Int)) > 0 := by omega
        have hcw : IntKind.i64.wrap (((c1' + 1 : Nat) : Int) - 1) = (c1' : Int) := by
          have := HRM.out i
          have := HNW.out
          simp [IntKind.wrap, IntKind.bits, IntKind.signed]; omega
        have hcw2 : IntKind.i64.wrap (c1' : Int) = (c1' : Int) := by
          have := HRM.out i
          have := HNW.out
          simp [IntKind.wrap, IntKind.bits, IntKind.signed]; omega
        have hcn : (c1' : Int) < (nw : Int) := by omega
        have hx : Dk.kept M keep i = (M.W i).getD c1' [] := by rw [HKEPT.out, Dk.choice, if_neg (by omega)]; rfl
        have hcl' : c1' < (M.W i).length := by have := HNW.out; omega
        obtain ⟨l, hl⟩ : ∃ l, l = (M.W i).getD c1' [] := ⟨_, rfl⟩
        have hl64 : l.length = 64 := by rw [hl]; exact Dk.sec_length HRI.out.sec hcl'
        obtain ⟨cs, hcs⟩ : ∃ cs, cs = Lib.byteCells l := ⟨_, rfl⟩
        have hcl : cs.length = 64 := by rw [hcs, Lib.byteCells_length, hl64]
        have h1 : cs.toArray.all (·.oneCell') = true := by rw [hcs]; exact Sm.bytes_one _
        have hrg := HRI.out.range hcl'
        rw [← hl, ← hcs] at hrg
        rw [← hl] at hx
        have HX := Lib.hid hx
        have HL64 := Lib.hid hl64
        have HCS := Lib.hid hcs
        have HCL := Lib.hid hcl
        have H1 := Lib.hid h1
        have HRG := Lib.hid hrg
        clear hx hl hl64 hcs hcl h1 hcl' hrg hcle
        go_upto_region 7 with (go_at_call 66; refine CH.out.mono ?_; rintro e w' ⟨rfl, rfl⟩)
        refine wp_region_held_drew (S := (fun w' => w'.cell? ⟨r, 0, none⟩ = some (.slice (some ⟨b, 0, none⟩) M.lasts.length c) ∧ w'.rangeAt (g i) (c1' * 64) cs)) (by kernel_rfl) ⟨c0, HRG.out⟩ (fun hHeld => ?_)
        refine wpAnyH_take (i := 0) (oi := ⟨some 35, _, _, _, _, _⟩) (v := .pointer (some ⟨r, 0, none⟩)) rfl (by kernel_rfl) (by kernel_rfl) (by kernel_rfl) (fun _ _ _ h => h) (Or.inl ⟨by rfl, ?_⟩) (by assumption) ?_
        · intro w hSw; (try dsimp only at hSw); go_simp
        simp only [Act.put, List.setIfInBounds_toArray, List.set_cons_zero, List.set_cons_succ]
        refine wpAnyH_take (i := 1) (oi := ⟨some 36, _, _, _, _, _⟩) (v := .pointer (some ⟨r, 0, none⟩)) rfl (by kernel_rfl) (by kernel_rfl) (by kernel_rfl) (fun _ _ _ h => h) (Or.inl ⟨by rfl, ?_⟩) (by assumption) ?_
        · intro w hSw; (try dsimp only at hSw); go_simp
        simp only [Act.put, List.setIfInBounds_toArray, List.set_cons_zero, List.set_cons_succ]
        refine wpAnyH_take (i := 2) (oi := ⟨some 37, _, _, _, _, _⟩) (v := .pointer (some ⟨r, 0, none⟩)) rfl (by kernel_rfl) (by kernel_rfl) (by kernel_rfl) (fun _ _ _ h => h) (Or.inl ⟨by rfl, ?_⟩) (by assumption) ?_
        · intro w hSw; (try dsimp only at hSw); go_simp
        simp only [Act.put, List.setIfInBounds_toArray, List.set_cons_zero, List.set_cons_succ]
        refine wpAnyH_take (i := 3) (oi := ⟨some 38, _, _, _, _, _⟩) (v := .slice (some ⟨b, 0, none⟩) M.lasts.length c) rfl (by kernel_rfl) (by kernel_rfl) (by kernel_rfl) (fun _ _ _ h => h) (Or.inl ⟨by rfl, ?_⟩) (by assumption) ?_
        · intro w hSw; (try dsimp only at hSw); obtain ⟨s1, s2⟩ := hSw; go_simp
        simp only [Act.put, List.setIfInBounds_toArray, List.set_cons_zero, List.set_cons_succ]
        refine wpAnyH_take (i := 4) (oi := ⟨some 39, _, _, _, _, _⟩) (v := .int .i64 (i : Int)) rfl (by kernel_rfl) (by kernel_rfl) (by kernel_rfl) (fun _ _ _ h => h) (Or.inl ⟨by rfl, ?_⟩) (by assumption) ?_
        · intro w hSw; (try dsimp only at hSw); go_simp
        simp only [Act.put, List.setIfInBounds_toArray, List.set_cons_zero, List.set_cons_succ]
        refine wpAnyH_take (i := 5) (oi := ⟨some 40, _, _, _, _, _⟩) (v := .slice (some ⟨g i, 0, none⟩) nw ci) rfl (by kernel_rfl) (by kernel_rfl) (by kernel_rfl) (fun _ _ _ h => h) (Or.inl ⟨by rfl, ?_⟩) (by assumption) ?_
        · intro w hSw; (try dsimp only at hSw); go_simp
        simp only [Act.put, List.setIfInBounds_toArray, List.set_cons_zero, List.set_cons_succ]
        refine wpAnyH_take (i := 6) (oi := ⟨some 41, _, _, _, _, _⟩) (v := .int .i64 ((c1' + 1 : Nat) : Int)) rfl (by kernel_rfl) (by kernel_rfl) (by kernel_rfl) (fun _ _ _ h => h) (Or.inl ⟨by rfl, ?_⟩) (by assumption) ?_
        · intro w hSw; (try dsimp only at hSw); go_simp
        simp only [Act.put, List.setIfInBounds_toArray, List.set_cons_zero, List.set_cons_succ]
        refine wpAnyH_take (i := 7) (oi := ⟨some 42, _, _, _, _, _⟩) (v := .int .i64 (c1' : Int)) rfl (by kernel_rfl) (by kernel_rfl) (by kernel_rfl) (fun _ _ _ h => h) (Or.inl ⟨by rfl, ?_⟩) (by assumption) ?_
        · intro w hSw; (try dsimp only at hSw); go_simp
        simp only [Act.put, List.setIfInBounds_toArray, List.set_cons_zero, List.set_cons_succ]
        refine wpAnyH_take (i := 8) (oi := ⟨some 43, _, _, _, _, _⟩) (v := .pointer (some ⟨g i, c1' * 64, none⟩)) rfl (by kernel_rfl) (by kernel_rfl) (by kernel_rfl) (fun _ _ _ h => h) (Or.inl ⟨by rfl, ?_⟩) (by assumption) ?_
        · intro w hSw; (try dsimp only at hSw); go_simp
        simp only [Act.put, List.setIfInBounds_toArray, List.set_cons_zero, List.set_cons_succ]
        refine wpAnyH_take (i := 9) (oi := ⟨some 44, _, _, _, _, _⟩) (v := .agg cs.toArray) rfl (by kernel_rfl) (by kernel_rfl) (by kernel_rfl) (fun _ _ _ h => h) (yieldsIf_load_mid (by rfl) _ _ rfl _ _ rfl cs _ (fun w hS => hS.2) Tryz.underlying90 rfl (Dk.infoSecL HCL.out)) (by assumption) ?_
        simp only [Act.put, List.setIfInBounds_toArray, List.set_cons_zero, List.set_cons_succ]
        refine wpAnyH_take (i := 10) (oi := ⟨some 45, _, _, _, _, _⟩) (v := .pointer (some ⟨b, i * 64, none⟩)) rfl (by kernel_rfl) (by kernel_rfl) (by kernel_rfl) (fun _ _ _ h => h) (Or.inl ⟨by rfl, ?_⟩) (by assumption) ?_
        · intro w hSw; (try dsimp only at hSw); go_simp
        simp only [Act.put, List.setIfInBounds_toArray, List.set_cons_zero, List.set_cons_succ]
        refine wpAnyH_ready (rs := [11]) (by kernel_rfl) (by simp) ?_
        refine (AllReadyH.cons (o := ⟨none, _, _, _, _, _⟩) rfl (fun K hK => ?_) AllReadyH.nil)
        rw [if_pos (by simp [Region.wanted])]
        have hP4 := HP2.out.drew
        have hrow4 := hP4.row.set HI2.out HL64.out
        rw [← HCS.out] at hrow4
        have hgr := Sm.grown_setCells2 (Sm.grown_refl wr.drew (some b)) cs (i * 64)
        have hk5 : ∀ k, k < wr.heap.size → k ≠ b → (wr.drew.setCells b (i * 64) cs).heap[k]? = wr.heap[k]? := fun k hk hkb => hgr.block k hk (fun e => hkb (Option.some.inj e))
        have hT5 : Dk.Turned (Dk.own r m b g M) w (wr.drew.setCells b (i * 64) cs) := HT.out.drew.trans (Dk.Turned.of_grown hgr (.inl (.inr (.inr (.inl rfl)))))
        have hbd := hP4.row.there HI2.out
        have hrlt := HP2.out.lt r (.inl rfl)
        have c1x : (wr.drew.setCells b (i * 64) cs).cell? ⟨r, 1, none⟩ = some (.map (some m)) := by
          rw [World.cell?_of_block (w := wr) (hk5 r hrlt hP4.ne_rb)]; exact c1
        have c0' : (wr.drew.setCells b (i * 64) cs).cell? ⟨r, 0, none⟩ = some (.slice (some ⟨b, 0, none⟩) M.lasts.length c) := by
          rw [World.cell?_of_block (w := wr) (hk5 r hrlt hP4.ne_rb)]; exact c0
        have hgib : g i ≠ b := HP2.out.apart i HI2.out (by rw [HWI.out]; exact HW.out)
        have hrg5 : (wr.drew.setCells b (i * 64) cs).rangeAt (g i) (c1' * 64) cs := World.rangeAt_setCells_apart (w := wr.drew) HRG.out b (i * 64) cs (.inl hgib)
        refine wp_store_mid 90 _ _ rfl b (i * 64) cs.toArray rfl rfl (by rw [List.size_toArray, HCL.out]; exact hbd) (Dk.infoSec (by rw [List.size_toArray]; exact HCL.out)) H1.out ?_
        refine hK.out _ _ ⟨c0', hrg5⟩ (fun hHeld => ?_)
        clear hK K hHeld c0' hbd hrg5
        have hmap5 := (HP2.out.map.block (hk5 m (HP2.out.lt m (.inr (.inl rfl))) HP2.out.ne_bm.symm))
        rw [HL2.out] at hmap5
        obtain ⟨w6, hdel, hm6, ht6⟩ := hmap5.drop Tryz.underlying3 Tryz.underlying62 HI.out hn.2 0
        have hmb : m ≠ b := HP2.out.ne_bm.symm
        have hrow6 := hrow4.block (ht6.grown.block b hrow4.lt (fun e => hmb (Option.some.inj e).symm))
        have HP6 := Lib.hid (DONE.out wr w6 HP2.out (by rw [HX.out]; exact hrow6) hm6 (fun k hk h1 h2 => by
          rw [ht6.grown.block k (Nat.lt_of_lt_of_le (HP2.out.lt k hk) hgr.size) (fun e => h2 (Option.some.inj e))]
          exact hk5 k (HP2.out.lt k hk) h1))
        have HT6 : Hid (Dk.Turned (Dk.own r m b g M) w w6) := hT5.trans (Dk.Turned.of_map ht6 (.inl (.inr (.inl rfl))))
        have HROW5 : (wr.drew.setCells b (i * 64) cs).ownsRow w.heap.size 3 1 (.slice (some ⟨kg, 0, none⟩) ks.length cA) ks.length (ks.map fun i : Nat => .int .i64 (i : Int)) := World.ownsRow.kept (w := wr.drew) HROW.out hgr (.inr (fun e => by
          have e : kg = b := Option.some.inj e
          have := (HROW.out.lt kg rfl).1
          have := H.out.lt b (.inr (.inr (.inl rfl)))
          omega))
        have HROW6 : Hid (w6.ownsRow w.heap.size 3 1 (.slice (some ⟨kg, 0, none⟩) ks.length cA) ks.length (ks.map fun i : Nat => .int .i64 (i : Int))) := HROW5.kept ht6.grown (.inr (fun e => by
          have e : kg = m := Option.some.inj e
          have := (HROW.out.lt kg rfl).1
          have := H.out.lt m (.inr (.inl rfl))
          omega))
        clear hk5 ht6 hm6 hmap5 hT5 hrow4 hrow6 hP4 hgr HROW5 c0 c1 hcell
        refine wpAnyH_done (by kernel_rfl) ?_ _
        go_wp2
        go_roundw
        case rel => exact ⟨k + 1, _, rfl, hlt, HP6.out, HT6.out, HROW6.out⟩
        case measure => simp [intOf]; omega
    · have hke : k = ks.length := by omega
      subst hke
      have hltI : ¬ ((ks.length : Nat) : Int) < (ks.length : Int) := by omega
      have hP2 := hP.all (fun i hi hd => by
        have hnm : i ∉ ks := by
          have := of_decide_eq_false hd
          rwa [List.take_of_length_le (Nat.le_refl _)] at this
        have hw : M.W i = [] := Decidable.byContradiction fun hw => hnm (by rw [HKS.out]; exact Dk.mem_keys.2 ⟨hi, hw⟩)
        exact ⟨hw, Dk.kept_idle hw⟩) H.out.ok.none
      have hP3 := (hP2.power false).fuse (f := -1) (by decide)
      have HP3 : Hid (Dk.Parts ((wr.setCell ⟨r, 2, none⟩ (.bool false)).setCell ⟨r, 3, none⟩ (.int .i64 (-1))) r m b c g F' (Dk.crash M keep)) := hP3
      have HT3 : Hid (Dk.Turned (Dk.own r m b g M) w ((wr.setCell ⟨r, 2, none⟩ (.bool false)).setCell ⟨r, 3, none⟩ (.int .i64 (-1)))) := HT.out.trans (Dk.Turned.of_grown (Sm.grown_set (Sm.grown_set (Sm.grown_refl wr (some r)) 2 _) 3 _) (.inl (.inl rfl)))
      have c2 := hP2.c2
      have c3 := hP2.c3
      have c3' : (wr.setCell ⟨r, 2, none⟩ (.bool false)).cell? ⟨r, 3, none⟩ = some (.int .i64 M.fuse) := by
        rw [World.cell?_setCell_other _ _ _ _ (by simp)]; exact c3
      have f2 := hP2.free 2
      have f3 := hP2.free 3
      clear hP hP2 hP3 hT hrow
      go_wp2
      go_end0
      exact ⟨rfl, ⟨F', HP3.out⟩, HT3.out⟩
end Go.Proofs.YtnmagfodjcookaaGreat

/-
  What disk's Twin makes.
-/
namespace Go.Proofs.YtnmagfodjcookaaGreat
open Go.RowKit
namespace Dk
/-- A sector for which nothing waits gets a list, in a row that is new. -/
theorem Parts.fill {w w1 : World} {r m b c : Nat} {g : Nat → Nat} {F : Nat → Option Value} {M : Md} (h : Parts w r m b c g F M) {i : Nat} (hi : i < M.lasts.length) {L : List (List UInt8)} (hL : L ≠ [])
    {gi ci : Nat} (hrow : RowAt w1 gi ci L) (hmap : MapAt Tryz.prog 3 w1 m M.lasts.length (fun j => if j = i then some (.slice (some ⟨gi, 0, none⟩) L.length ci) else F j))
    (hnew : w.heap.size ≤ gi) (hk : ∀ k, k < w.heap.size → k ≠ m → w1.heap[k]? = w.heap[k]?) :
    Parts w1 r m b c (fun j => if j = i then gi else g j) (fun j => if j = i then some (.slice (some ⟨gi, 0, none⟩) L.length ci) else F j) { M with W := fun j => if j = i then L else M.W j } := by
  have hlt := h.lt
  refine ⟨⟨h.ok.n, h.ok.lasts, fun j s hs => ?_, fun j hj => ?_, h.ok.fuse⟩, (hk r (hlt r (.inl rfl)) h.ne_rm).trans h.disk, h.row.block (hk b (hlt b (.inr (.inr (.inl rfl)))) h.ne_bm), hmap, fun j hj hw => ?_, fun j hj hw => ?_, fun j hj hw => ?_, fun j k hj hkk hw1 hw2 e => ?_⟩
  · simp only at hs
    split at hs
    · exact hrow.sec s hs
    · exact h.ok.waits j s hs
  · simp only at hj ⊢
    rw [if_neg (by omega)]; exact h.ok.none j hj
  · by_cases e : j = i
    · subst e; simp only [if_pos] at hw; exact absurd hw hL
    · simp only [if_neg e] at hw ⊢
      exact h.idle j hj hw
  · by_cases e : j = i
    · subst e; simp only [if_pos]; exact ⟨ci, rfl, hrow⟩
    · simp only [if_neg e] at hw ⊢
      obtain ⟨cj, e1, e2⟩ := h.wait j hj hw
      exact ⟨cj, e1, e2.block (hk _ (hlt _ (.inr (.inr (.inr ⟨j, hj, hw, rfl⟩)))) (h.ne_gm hj hw))⟩
  · have hb := hlt b (.inr (.inr (.inl rfl)))
    by_cases e : j = i
    · subst e; simp only [if_pos]; omega
    · simp only [if_neg e] at hw ⊢
      exact h.apart j hj hw
  · have old : ∀ a, a < M.lasts.length → M.W a ≠ [] → g a < w.heap.size := fun a ha hwa => hlt _ (.inr (.inr (.inr ⟨a, ha, hwa, rfl⟩)))
    by_cases e1 : j = i
    · by_cases e2 : k = i
      · rw [e1, e2]
      · simp only [if_pos e1, if_neg e2] at hw2 e
        have := old k hkk hw2; omega
    · by_cases e2 : k = i
      · simp only [if_pos e2, if_neg e1] at hw1 e
        have := old j hj hw1; omega
      · simp only [if_neg e1, if_neg e2] at hw1 hw2 e
        exact h.inj j k hj hkk hw1 hw2 e
theorem MapAt.len {P : Program} {k t e : TypeId} {w : World} {b N : Nat} {F : Nat → Option Value} (h : MapAt P k w b N F) (ht : P.underlying t = some (.map k e)) : ∃ n : Nat, n ≤ N ∧ ∀ ty, (Builtin.len_ #[t] ty #[.map (some b)]).run P w = .ok (.int .i64 (n : Int)) w := by
  obtain ⟨D, h, _⟩ := h
  exact ⟨_, h.size_le, fun ty => h.len ht ty⟩
end Dk
end Go.Proofs.YtnmagfodjcookaaGreat

/-
  What disk's Spoil does.
-/
namespace Go.Proofs.YtnmagfodjcookaaGreat
open Go.RowKit
namespace Dk
/-- One sector lasts anew. -/
theorem Parts.lay {w w' : World} {r m b c : Nat} {g : Nat → Nat} {F : Nat → Option Value} {M : Md} (h : Parts w r m b c g F M) {i : Nat} {s : List UInt8} (hrow : RowAt w' b c (M.lasts.set i s)) (hk : ∀ k, own r m b g M k → k ≠ b → w'.heap[k]? = w.heap[k]?) :
    Parts w' r m b c g F { M with lasts := M.lasts.set i s } := by
  have hl : (M.lasts.set i s).length = M.lasts.length := List.length_set
  refine ⟨⟨by simpa using h.ok.n, fun t ht => hrow.sec t ht, h.ok.waits, fun j hj => h.ok.none j (by simpa using hj), h.ok.fuse⟩, ?_, hrow, ?_, fun j hj hw => h.idle j (by simpa using hj) hw, fun j hj hw => ?_, fun j hj hw => h.apart j (by simpa using hj) hw, fun j k hj hkk => h.inj j k (by simpa using hj) (by simpa using hkk)⟩
  · simp only [hl]
    exact (hk r (.inl rfl) h.ne_rb).trans h.disk
  · simp only [hl]
    exact h.map.block (hk m (.inr (.inl rfl)) h.ne_bm.symm)
  · have hj' : j < M.lasts.length := by simpa using hj
    obtain ⟨cj, e1, e2⟩ := h.wait j hj' hw
    exact ⟨cj, e1, e2.block (hk _ (.inr (.inr (.inr ⟨j, hj', hw, rfl⟩))) (h.apart j hj' hw))⟩
theorem xored_nil (s : List UInt8) (a : Nat) : xored s a [] = s := by
  refine List.ext_getElem? fun k => ?_
  rw [xored, List.getElem?_map]
  by_cases hk : k < s.length
  · rw [List.getElem?_range hk]
    simp [List.getElem?_eq_getElem hk]
  · rw [List.getElem?_eq_none (by simpa using hk), List.getElem?_eq_none (by omega)]; rfl
theorem xored_get {s : List UInt8} {a : Nat} {x : List UInt8} {k : Nat} (hk : k < s.length) : (xored s a x).getD k 0 = if a ≤ k ∧ k < a + x.length then s.getD k 0 ^^^ x.getD (k - a) 0 else s.getD k 0 := by
  rw [xored, List.getD_eq_getElem?_getD, List.getElem?_map, List.getElem?_range hk]
  rfl
theorem xored_step {s : List UInt8} {a : Nat} {x : List UInt8} {j : Nat} (hj : j < x.length) (ha : a + j < s.length) :
    (xored s a (x.take j)).set (a + j) ((xored s a (x.take j)).getD (a + j) 0 ^^^ x.getD j 0) = xored s a (x.take (j + 1)) := by
  have hjl : (x.take j).length = j := by rw [List.length_take]; omega
  have hjl2 : (x.take (j + 1)).length = j + 1 := by rw [List.length_take]; omega
  have e : (xored s a (x.take j)).getD (a + j) 0 = s.getD (a + j) 0 := by
    rw [xored_get ha, hjl, if_neg (by omega)]
  rw [e]
  refine List.ext_getElem? fun k => ?_
  rw [List.getElem?_set, xored_length]
  by_cases hk : k < s.length
  · by_cases hkj : a + j = k
    · subst hkj
      rw [if_pos rfl, if_pos hk, xored, List.getElem?_map, List.getElem?_range hk]
      simp only [Option.map_some, hjl2]
      rw [if_pos (by omega), show a + j - a = j by omega]
      simp [List.getD_eq_getElem?_getD]
    · rw [if_neg hkj, xored, xored, List.getElem?_map, List.getElem?_map, List.getElem?_range hk]
      simp only [Option.map_some, hjl, hjl2]
      by_cases h1 : a ≤ k ∧ k < a + j
      · rw [if_pos h1, if_pos (by omega)]
        simp [List.getD_eq_getElem?_getD, show k - a < j by omega, show k - a < j + 1 by omega]
      · rw [if_neg h1, if_neg (by omega)]
  · rw [if_neg (by omega), List.getElem?_eq_none (by rw [xored_length]; omega), List.getElem?_eq_none (by rw [xored_length]; omega)]
end Dk
set_option maxRecDepth 100000 in
theorem dkSpoil_none {w : World} {v : Value} (h : Dk.None w v) (i a : Int) (x : ByteArray) :
    Calls Tryz.prog 33 #[v, .int .i64 i, .int .i64 a, .string x] w fun e w' => e = .returned (.int .i64 2) ∧ w = w' := by
  have NO := Lib.hid (dkNone_is h)
  clear h
  go_enter Tryz.func33, Tryz.ntmps33
  go_wp2_with (go_at_call 63; refine NO.out.mono ?_; rintro e w' ⟨rfl, rfl⟩)
  go_ret
  exact ⟨rfl, rfl⟩
set_option maxRecDepth 100000 in
set_option maxHeartbeats 2000000 in
theorem dkSpoil_parts {w : World} {r m b c : Nat} {g : Nat → Nat} {F : Nat → Option Value} {M : Dk.Md} (h : Dk.Parts w r m b c g F M) (i a : Int) (x : ByteArray) (hxs : x.size ≤ 9223372036854775807) :
    Calls Tryz.prog 33 #[.pointer (some ⟨r, 0, none⟩), .int .i64 i, .int .i64 a, .string x] w fun e w' => e = .returned (.int .i64 (Dk.spoil M i a x.data.toList).2) ∧
      Dk.Parts w' r m b c g F (Dk.spoil M i a x.data.toList).1 ∧ Dk.Turned (Dk.own r m b g M) w w' := by
  have NO := Lib.hid (dkNone_not h.c1)
  have HA := Lib.hid (dkHas_any h i)
  have H := Lib.hid h
  have hok := h.ok
  have hn := hok.n
  have hxl : x.data.toList.length = x.size := by simp
  have hxw : IntKind.i64.wrap (64 - (x.size : Int)) = 64 - (x.size : Int) := by simp [IntKind.wrap, IntKind.bits, IntKind.signed]; omega
  by_cases hm : Dk.mayspoil M i a x.data.toList = true
  · have e : Dk.spoil M i a x.data.toList = ({ M with lasts := M.lasts.set i.toNat (Dk.xored (Dk.last M i.toNat) a.toNat x.data.toList) }, 0) := by simp [Dk.spoil, hm]
    rw [e]; clear e
    simp only [Dk.mayspoil, Bool.and_eq_true, decide_eq_true_eq, hxl] at hm
    obtain ⟨⟨⟨hth, hx4⟩, ha0⟩, ha64⟩ := hm
    rw [hth] at HA
    obtain ⟨i0, hi0⟩ : ∃ k : Nat, i = (k : Int) := ⟨i.toNat, by have := Dk.there_iff.1 hth; omega⟩
    subst hi0
    obtain ⟨a0, ha1⟩ : ∃ k : Nat, a = (k : Int) := ⟨a.toNat, by omega⟩
    subst ha1
    have hi : i0 < M.lasts.length := by have := Dk.there_iff.1 hth; omega
    rw [Int.toNat_natCast, Int.toNat_natCast]
    obtain ⟨s0, hs0⟩ : ∃ s, s = Dk.last M i0 := ⟨_, rfl⟩
    have hs64 : s0.length = 64 := by rw [hs0]; exact hok.last hi
    have t1 : ¬ (4 < (x.size : Int)) := by omega
    have t2 : ¬ ((a0 : Int) < 0) := by omega
    have t3 : ¬ (64 - (x.size : Int) < (a0 : Int)) := by omega
    rw [← hs0]
    have HS0 := Lib.hid hs0
    have HS64 := Lib.hid hs64
    have HI := Lib.hid hi
    have hiI : (i0 : Int) < (M.lasts.length : Int) := by omega
    have HXL := Lib.hid hxl
    clear h hok hs0 hs64 hi hth hxl
    go_enter Tryz.func33, Tryz.ntmps33
    go_wp2_with (first | (go_at_call 63; refine NO.out.mono ?_; rintro e w' ⟨rfl, rfl⟩) | (go_at_call 38; refine HA.out.mono ?_; rintro e w' ⟨rfl, rfl⟩))
    go_loopw [34, 9] (fun a1 _ wr => ∃ k, a1 = .int .i64 (k : Nat) ∧ k ≤ x.size ∧ Dk.Parts wr r m b c g F { M with lasts := M.lasts.set i0 (Dk.xored s0 a0 (x.data.toList.take k)) } ∧ Dk.Turned (Dk.own r m b g M) w wr) (fun a1 _ _ => x.size - (intOf a1).toNat)
    case atStart =>
      refine ⟨0, rfl, Nat.zero_le _, ?_, Dk.Turned.refl _ _⟩
      rw [List.take_zero, Dk.xored_nil]
      have e : M.lasts.set i0 s0 = M.lasts := by
        rw [HS0.out, Dk.last]
        refine List.ext_getElem? fun j => ?_
        rw [List.getElem?_set]
        split
        · rename_i e; subst e
          rw [if_pos HI.out, List.getD_eq_getElem?_getD, List.getElem?_eq_getElem HI.out]; rfl
        · rfl
      rw [e]
      exact H.out
    case round =>
      obtain ⟨k, rfl, hk, hP, hT⟩ := hrel
      have HP := Lib.hid hP
      have HT := Lib.hid hT
      by_cases hlt : k < x.size
      · have hltI : (k : Int) < (x.size : Int) := by omega
        obtain ⟨M2, hM2⟩ : ∃ M2 : Dk.Md, M2 = { M with lasts := M.lasts.set i0 (Dk.xored s0 a0 (x.data.toList.take k)) } := ⟨_, rfl⟩
        rw [← hM2] at hP HP
        have hl2 : M2.lasts.length = M.lasts.length := by rw [hM2]; exact List.length_set
        have hget : M2.lasts.getD i0 [] = Dk.xored s0 a0 (x.data.toList.take k) := by rw [hM2, List.getD_eq_getElem?_getD, List.getElem?_set_self HI.out]; rfl
        obtain ⟨q, hq⟩ : ∃ q, q = a0 + k := ⟨_, rfl⟩
        have hak : q < 64 := by omega
        have hwa : IntKind.i64.wrap ((a0 : Int) + (k : Int)) = (q : Int) := by rw [hq]; simp [IntKind.wrap, IntKind.bits, IntKind.signed]; omega
        have hqI : (q : Int) < 64 := by omega
        have HQ := Lib.hid hq
        have hcell := hP.row.cell (i := i0) (by rw [hl2]; exact HI.out) hak
        rw [hget] at hcell
        have c0 := hP.c0
        rw [hl2] at c0
        have hfree := hP.row.free (i0 * 64 + q)
        obtain ⟨old, hold⟩ : ∃ o, o = (Dk.xored s0 a0 (x.data.toList.take k)).getD q 0 := ⟨_, rfl⟩
        rw [← hold] at hcell
        have hsuc : IntKind.i64.wrap ((k : Int) + 1) = ((k + 1 : Nat) : Int) := by simp [IntKind.wrap, IntKind.bits, IntKind.signed]; omega
        have HM2 := Lib.hid hM2
        have HL2 := Lib.hid hl2
        have HGET := Lib.hid hget
        have HOLD := Lib.hid hold
        have HCELL := Lib.hid hcell
        have HFREE := Lib.hid hfree
        clear hP hT hM2 hl2 hget hold hcell hfree hq
        go_upto_region 8 with (fail)
        refine wp_region_held_drew (S := (fun w' => w'.cell? ⟨r, 0, none⟩ = some (.slice (some ⟨b, 0, none⟩) M.lasts.length c))) (by kernel_rfl) (by exact c0) (fun hHeld => ?_)
        refine wpAnyH_take (i := 0) (oi := ⟨some 37, _, _, _, _, _⟩) (v := .pointer (some ⟨r, 0, none⟩)) rfl (by kernel_rfl) (by kernel_rfl) (by kernel_rfl) (fun _ _ _ h => h) (Or.inl ⟨by rfl, ?_⟩) (by assumption) ?_
        · intro w hSw; (try dsimp only at hSw); go_simp
        simp only [Act.put, List.setIfInBounds_toArray, List.set_cons_zero, List.set_cons_succ]
        refine wpAnyH_take (i := 1) (oi := ⟨some 38, _, _, _, _, _⟩) (v := .pointer (some ⟨r, 0, none⟩)) rfl (by kernel_rfl) (by kernel_rfl) (by kernel_rfl) (fun _ _ _ h => h) (Or.inl ⟨by rfl, ?_⟩) (by assumption) ?_
        · intro w hSw; (try dsimp only at hSw); go_simp
        simp only [Act.put, List.setIfInBounds_toArray, List.set_cons_zero, List.set_cons_succ]
        refine wpAnyH_take (i := 2) (oi := ⟨some 39, _, _, _, _, _⟩) (v := .pointer (some ⟨r, 0, none⟩)) rfl (by kernel_rfl) (by kernel_rfl) (by kernel_rfl) (fun _ _ _ h => h) (Or.inl ⟨by rfl, ?_⟩) (by assumption) ?_
        · intro w hSw; (try dsimp only at hSw); go_simp
        simp only [Act.put, List.setIfInBounds_toArray, List.set_cons_zero, List.set_cons_succ]
        refine wpAnyH_take (i := 3) (oi := ⟨some 40, _, _, _, _, _⟩) (v := .slice (some ⟨b, 0, none⟩) M.lasts.length c) rfl (by kernel_rfl) (by kernel_rfl) (by kernel_rfl) (fun _ _ _ h => h) (Or.inl ⟨by rfl, ?_⟩) (by assumption) ?_
        · intro w hSw; (try dsimp only at hSw); go_simp
        simp only [Act.put, List.setIfInBounds_toArray, List.set_cons_zero, List.set_cons_succ]
        refine wpAnyH_take (i := 4) (oi := ⟨some 41, _, _, _, _, _⟩) (v := .int .i64 (i0 : Int)) rfl (by kernel_rfl) (by kernel_rfl) (by kernel_rfl) (fun _ _ _ h => h) (Or.inl ⟨by rfl, ?_⟩) (by assumption) ?_
        · intro w hSw; (try dsimp only at hSw); go_simp
        simp only [Act.put, List.setIfInBounds_toArray, List.set_cons_zero, List.set_cons_succ]
        refine wpAnyH_take (i := 5) (oi := ⟨some 42, _, _, _, _, _⟩) (v := .int .i64 (a0 : Int)) rfl (by kernel_rfl) (by kernel_rfl) (by kernel_rfl) (fun _ _ _ h => h) (Or.inl ⟨by rfl, ?_⟩) (by assumption) ?_
        · intro w hSw; (try dsimp only at hSw); go_simp
        simp only [Act.put, List.setIfInBounds_toArray, List.set_cons_zero, List.set_cons_succ]
        refine wpAnyH_take (i := 6) (oi := ⟨some 43, _, _, _, _, _⟩) (v := .int .i64 (k : Int)) rfl (by kernel_rfl) (by kernel_rfl) (by kernel_rfl) (fun _ _ _ h => h) (Or.inl ⟨by rfl, ?_⟩) (by assumption) ?_
        · intro w hSw; (try dsimp only at hSw); go_simp
        simp only [Act.put, List.setIfInBounds_toArray, List.set_cons_zero, List.set_cons_succ]
        refine wpAnyH_take (i := 7) (oi := ⟨some 44, _, _, _, _, _⟩) (v := .int .i64 (q : Int)) rfl (by kernel_rfl) (by kernel_rfl) (by kernel_rfl) (fun _ _ _ h => h) (Or.inl ⟨by rfl, ?_⟩) (by assumption) ?_
        · intro w hSw; (try dsimp only at hSw); go_simp
        simp only [Act.put, List.setIfInBounds_toArray, List.set_cons_zero, List.set_cons_succ]
        refine wpAnyH_take (i := 8) (oi := ⟨some 45, _, _, _, _, _⟩) (v := .pointer (some ⟨b, i0 * 64, none⟩)) rfl (by kernel_rfl) (by kernel_rfl) (by kernel_rfl) (fun _ _ _ h => h) (Or.inl ⟨by rfl, ?_⟩) (by assumption) ?_
        · intro w hSw; (try dsimp only at hSw); go_simp
        simp only [Act.put, List.setIfInBounds_toArray, List.set_cons_zero, List.set_cons_succ]
        refine wpAnyH_take (i := 9) (oi := ⟨some 46, _, _, _, _, _⟩) (v := .pointer (some ⟨b, i0 * 64 + q, none⟩)) rfl (by kernel_rfl) (by kernel_rfl) (by kernel_rfl) (fun _ _ _ h => h) (Or.inl ⟨by rfl, ?_⟩) (by assumption) ?_
        · intro w hSw; (try dsimp only at hSw); go_simp
        simp only [Act.put, List.setIfInBounds_toArray, List.set_cons_zero, List.set_cons_succ]
        refine wpAnyH_take (i := 11) (oi := ⟨some 48, _, _, _, _, _⟩) (v := .string x) rfl (by kernel_rfl) (by kernel_rfl) (by kernel_rfl) (fun _ _ _ h => h) (Or.inl ⟨by rfl, ?_⟩) (by assumption) ?_
        · intro w hSw; (try dsimp only at hSw); go_simp
        simp only [Act.put, List.setIfInBounds_toArray, List.set_cons_zero, List.set_cons_succ]
        refine wpAnyH_take (i := 12) (oi := ⟨some 49, _, _, _, _, _⟩) (v := .int .i64 (k : Int)) rfl (by kernel_rfl) (by kernel_rfl) (by kernel_rfl) (fun _ _ _ h => h) (Or.inl ⟨by rfl, ?_⟩) (by assumption) ?_
        · intro w hSw; (try dsimp only at hSw); go_simp
        simp only [Act.put, List.setIfInBounds_toArray, List.set_cons_zero, List.set_cons_succ]
        obtain ⟨xb, hxb⟩ : ∃ y, y = x.data.toList.getD k 0 := ⟨_, rfl⟩
        have hxk : x[k] = xb := by rw [hxb, List.getD_eq_getElem?_getD, List.getElem?_eq_getElem (by have := HXL.out; omega)]; simp; rfl
        have hx8 := Sm.w_xor8 old xb
        have HXB := Lib.hid hxb
        clear hxb
        refine wpAnyH_take (i := 13) (oi := ⟨some 50, _, _, _, _, _⟩) (v := .int .u8 (xb.toNat : Int)) rfl (by kernel_rfl) (by kernel_rfl) (by kernel_rfl) (fun _ _ _ h => h) (Or.inl ⟨by rfl, ?_⟩) (by assumption) ?_
        · intro w hSw; (try dsimp only at hSw); go_simp
        simp only [Act.put, List.setIfInBounds_toArray, List.set_cons_zero, List.set_cons_succ]
        refine wpAnyH_take (i := 15) (oi := ⟨some 52, _, _, _, _, _⟩) (v := .pointer (some ⟨b, i0 * 64, none⟩)) rfl (by kernel_rfl) (by kernel_rfl) (by kernel_rfl) (fun _ _ _ h => h) (Or.inl ⟨by rfl, ?_⟩) (by assumption) ?_
        · intro w hSw; (try dsimp only at hSw); go_simp
        simp only [Act.put, List.setIfInBounds_toArray, List.set_cons_zero, List.set_cons_succ]
        refine wpAnyH_ready (rs := [10]) (by kernel_rfl) (by simp) ?_
        refine (AllReadyH.cons (o := ⟨some 47, _, _, _, _, _⟩) rfl (fun K hK => ?_) AllReadyH.nil)
        have hcl := HCELL.out
        go_simp
        refine hK.out _ _ hHeld (fun hHeld => ?_)
        clear hK K hcl
        refine wpAnyH_take (i := 14) (oi := ⟨some 51, _, _, _, _, _⟩) (v := .int .u8 ((old ^^^ xb).toNat : Int)) rfl (by kernel_rfl) (by kernel_rfl) (by kernel_rfl) (fun _ _ _ h => h) (Or.inl ⟨by rfl, ?_⟩) (by assumption) ?_
        · intro w hSw; (try dsimp only at hSw); go_simp
        simp only [Act.put, List.setIfInBounds_toArray, List.set_cons_zero, List.set_cons_succ]
        refine wpAnyH_take (i := 16) (oi := ⟨some 53, _, _, _, _, _⟩) (v := .pointer (some ⟨b, i0 * 64 + q, none⟩)) rfl (by kernel_rfl) (by kernel_rfl) (by kernel_rfl) (fun _ _ _ h => h) (Or.inl ⟨by rfl, ?_⟩) (by assumption) ?_
        · intro w hSw; (try dsimp only at hSw); go_simp
        simp only [Act.put, List.setIfInBounds_toArray, List.set_cons_zero, List.set_cons_succ]
        refine wpAnyH_ready (rs := [17]) (by kernel_rfl) (by simp) ?_
        refine (AllReadyH.cons (o := ⟨none, _, _, _, _, _⟩) rfl (fun K hK => ?_) AllReadyH.nil)
        have hcl := HCELL.out
        have hfr := HFREE.out
        have hrow := HP.out.row.setByte (i := i0) (by rw [HL2.out]; exact HI.out) hak (old ^^^ xb)
        have hgr := Sm.grown_set (Sm.grown_refl wr (some b)) (i0 * 64 + q) (.int .u8 ((old ^^^ xb).toNat : Int))
        have hrb := HP.out.ne_rb
        have c0' : (wr.drew.setCell ⟨b, i0 * 64 + q, none⟩ (.int .u8 ((old ^^^ xb).toNat : Int))).cell? ⟨r, 0, none⟩ = some (.slice (some ⟨b, 0, none⟩) M.lasts.length c) := by
          rw [World.cell?_setCell_other _ _ _ _ (by simp)]; exact c0
        have HP6 : Hid (Dk.Parts (wr.setCell ⟨b, i0 * 64 + q, none⟩ (.int .u8 ((old ^^^ xb).toNat : Int))) r m b c g F { M with lasts := M.lasts.set i0 (Dk.xored s0 a0 (x.data.toList.take (k + 1))) }) := by
          have := HP.out.lay hrow (fun k hk h1 => hgr.block k (HP.out.lt k hk) (fun e => h1 (Option.some.inj e)))
          have e1 : (M2.lasts.getD i0 []).set q (old ^^^ xb) = Dk.xored s0 a0 (x.data.toList.take (k + 1)) := by
            rw [HGET.out, HOLD.out, HXB.out, HQ.out]
            exact Dk.xored_step (by rw [HXL.out]; exact hlt) (by rw [HS64.out, ← HQ.out]; exact hak)
          rw [e1, HM2.out] at this
          simp only [List.set_set] at this
          exact this
        have HT6 : Hid (Dk.Turned (Dk.own r m b g M) w (wr.setCell ⟨b, i0 * 64 + q, none⟩ (.int .u8 ((old ^^^ xb).toNat : Int)))) := HT.out.trans (Dk.Turned.of_grown hgr (.inl (.inr (.inr (.inl rfl)))))
        clear hrow hgr
        go_simp
        refine hK.out _ _ c0' (fun hHeld => ?_)
        clear hK K hHeld c0' hcl hfr c0
        refine wpAnyH_done (by kernel_rfl) ?_ _
        go_wp2
        go_roundw
        case rel => exact ⟨k + 1, rfl, hlt, Dk.Parts.drew HP6.out, HT6.out.drew⟩
        case measure => simp [intOf]; omega
      · have hke : k = x.size := by omega
        subst hke
        have hltI : ¬ ((x.size : Nat) : Int) < (x.size : Int) := by omega
        have e : x.data.toList.take x.size = x.data.toList := List.take_of_length_le (by rw [HXL.out]; exact Nat.le_refl _)
        rw [e] at HP
        clear hP hT
        go_wp2
        go_ret
        exact ⟨rfl, HP.out, HT.out⟩
  · have e : Dk.spoil M i a x.data.toList = (M, 1) := by simp [Dk.spoil, hm]
    rw [e]; clear e
    simp only [Dk.mayspoil, Bool.and_eq_true, decide_eq_true_eq, hxl] at hm
    cases hth : Dk.there M i
    · rw [hth] at HA
      clear h hok
      go_enter Tryz.func33, Tryz.ntmps33
      go_wp2_with (first | (go_at_call 63; refine NO.out.mono ?_; rintro e w' ⟨rfl, rfl⟩) | (go_at_call 38; refine HA.out.mono ?_; rintro e w' ⟨rfl, rfl⟩))
      go_ret
      exact ⟨rfl, H.out, Dk.Turned.refl _ _⟩
    · rw [hth] at HA hm
      clear h hok hth
      by_cases t1 : 4 < (x.size : Int)
      · go_enter Tryz.func33, Tryz.ntmps33
        go_wp2_with (first | (go_at_call 63; refine NO.out.mono ?_; rintro e w' ⟨rfl, rfl⟩) | (go_at_call 38; refine HA.out.mono ?_; rintro e w' ⟨rfl, rfl⟩))
        go_ret
        exact ⟨rfl, H.out, Dk.Turned.refl _ _⟩
      · by_cases t2 : a < 0
        · go_enter Tryz.func33, Tryz.ntmps33
          go_wp2_with (first | (go_at_call 63; refine NO.out.mono ?_; rintro e w' ⟨rfl, rfl⟩) | (go_at_call 38; refine HA.out.mono ?_; rintro e w' ⟨rfl, rfl⟩))
          go_ret
          exact ⟨rfl, H.out, Dk.Turned.refl _ _⟩
        · have t3 : 64 - (x.size : Int) < a := by
            by_cases t : 64 - (x.size : Int) < a
            · exact t
            · exact absurd ⟨⟨⟨rfl, by omega⟩, by omega⟩, by omega⟩ hm
          clear hm
          go_enter Tryz.func33, Tryz.ntmps33
          go_wp2_with (first | (go_at_call 63; refine NO.out.mono ?_; rintro e w' ⟨rfl, rfl⟩) | (go_at_call 38; refine HA.out.mono ?_; rintro e w' ⟨rfl, rfl⟩))
          go_ret
          exact ⟨rfl, H.out, Dk.Turned.refl _ _⟩
end Go.Proofs.YtnmagfodjcookaaGreat

/-
  What disk's functions do to a disk, told by its blocks as a whole.
-/
namespace Go.Proofs.YtnmagfodjcookaaGreat
open Go.RowKit
namespace Dk
theorem len_waits (M : Md) {i : Nat} (hi : i < M.lasts.length) : (M.W i).length ≤ waits M := by
  have := sum_at M.lasts.length (f := fun j => if j = i then 0 else (M.W j).length) (f' := fun j => (M.W j).length) (i := i) (d := (M.W i).length) hi (fun j hj => by simp [hj]) (by simp)
  unfold waits
  omega
theorem Md.Ok.len {M : Md} (h : M.Ok) (i : Nat) : (M.W i).length ≤ Dk.waits M := by
  by_cases hi : i < M.lasts.length
  · exact len_waits M hi
  · rw [h.none i (by omega)]; exact Nat.zero_le _
theorem waits_act (M : Md) : waits (act M).1 = waits M := by unfold waits; rw [act_lasts, act_W]
theorem waits_put (M : Md) {i : Nat} (hi : i < M.lasts.length) (b : List UInt8) : waits (put M i b) = waits M + 1 :=
  sum_at M.lasts.length (i := i) hi (fun j hj => by simp [put, hj]) (by simp [put])
theorem waits_empty (M : Md) (h : M.W = fun _ => []) : waits M = 0 := by
  unfold waits
  rw [h]
  generalize M.lasts.length = n
  induction n with
  | zero => rfl
  | succ n ih => rw [List.range_succ, List.map_append, List.sum_append, ih]; rfl
theorem waits_write (M : Md) (i : Int) (b : List UInt8) : waits (write M i b).1 ≤ waits M + 1 := by
  unfold write
  split
  · exact Nat.le_succ _
  · split
    · rename_i hc
      simp only [Bool.and_eq_true, decide_eq_true_eq] at hc
      have := there_iff.1 hc.1
      split
      · rw [waits_put _ (by rw [act_lasts]; omega), waits_act]; exact Nat.le_refl _
      · rw [waits_act]; exact Nat.le_succ _
    · exact Nat.le_succ _
theorem waits_sync (M : Md) : waits (sync M).1 ≤ waits M := by
  unfold sync
  split
  · exact Nat.le_refl _
  · split
    · rw [waits_empty _ rfl]; exact Nat.zero_le _
    · rw [waits_act]; exact Nat.le_refl _
theorem waits_crash (M : Md) (keep : List Int) : waits (crash M keep) = 0 := waits_empty _ rfl
theorem waits_spoil (M : Md) (i a : Int) (x : List UInt8) : waits (spoil M i a x).1 = waits M := by
  unfold spoil
  split
  · simp [waits]
  · rfl
theorem waits_new (n : Nat) : waits (new n) = 0 := waits_empty _ rfl
theorem lasts_write (M : Md) (i : Int) (b : List UInt8) : (write M i b).1.lasts = M.lasts := by
  unfold write
  split
  · rfl
  · split
    · split
      · exact act_lasts M
      · exact act_lasts M
    · rfl
theorem len_sync (M : Md) : (sync M).1.lasts.length = M.lasts.length := by
  unfold sync
  split
  · rfl
  · split
    · simp [synced, act_lasts]
    · rw [act_lasts]
theorem len_crash (M : Md) (keep : List Int) : (crash M keep).lasts.length = M.lasts.length := by simp [crash]
theorem len_spoil (M : Md) (i a : Int) (x : List UInt8) : (spoil M i a x).1.lasts.length = M.lasts.length := by
  unfold spoil
  split
  · simp
  · rfl
section
variable {w : World} {r : Nat} {fp : Nat → Prop} {M : Md}
theorem at_of {w' : World} {m b : Nat} {g : Nat → Nat} {M' : Md} {m' b' c' : Nat} {g' : Nat → Nat} {F' : Nat → Option Value} (h1 : ∀ k, fp k → k < w.heap.size) (h3 : ∀ k, own r m b g M k → fp k) (hP : Parts w' r m' b' c' g' F' M') (hT : Turned (own r m b g M) w w')
    (ho : ∀ k, own r m' b' g' M' k → own r m b g M k ∨ w.heap.size ≤ k) : DiskAt w' r (grow fp w w') M' ∧ Turned fp w w' :=
  ⟨⟨grow_lt h1 hT.size, m', b', c', g', F', hP, fun k hk => by
    rcases ho k hk with e | e
    · exact .inl (h3 k e)
    · exact .inr ⟨e, hP.lt k hk⟩⟩, hT.mono h3⟩
theorem write_at (h : DiskAt w r fp M) (hr : waits M ≤ 1099511627776) (i : Int) (s : ByteArray) :
    Calls Tryz.prog 15 #[.pointer (some ⟨r, 0, none⟩), .int .i64 i, .string s] w fun e w' => e = .returned (.int .i64 (write M i s.data.toList).2) ∧ DiskAt w' r (grow fp w w') (write M i s.data.toList).1 ∧ Turned fp w w' := by
  obtain ⟨h1, m, b, c, g, F, h2, h3⟩ := h
  refine (dkWrite_parts h2 i s (Nat.le_trans (h2.ok.len _) hr)).mono ?_
  rintro e w' ⟨rfl, g', F', hP, ho, hT⟩
  exact ⟨rfl, at_of h1 h3 hP hT ho⟩
theorem read_at (h : DiskAt w r fp M) (i : Int) :
    Calls Tryz.prog 70 #[.pointer (some ⟨r, 0, none⟩), .int .i64 i] w fun e w' => e = .returned (.tuple #[.string ⟨(readOf M i).1.toArray⟩, .int .i64 (readOf M i).2]) ∧ Below w.heap.size w w' := by
  obtain ⟨h1, m, b, c, g, F, h2, h3⟩ := h
  exact dkRead_parts h2 i
theorem sync_at (h : DiskAt w r fp M) :
    Calls Tryz.prog 57 #[.pointer (some ⟨r, 0, none⟩)] w fun e w' => e = .returned (.int .i64 (sync M).2) ∧ DiskAt w' r (grow fp w w') (sync M).1 ∧ Turned fp w w' := by
  obtain ⟨h1, m, b, c, g, F, h2, h3⟩ := h
  refine (dkSync_parts h2).mono ?_
  rintro e w' ⟨rfl, F', hP, hT⟩
  refine ⟨rfl, at_of h1 h3 hP hT fun k hk => .inl ?_⟩
  rcases hk with e | e | e | ⟨j, hj, hw, e⟩
  · exact .inl e
  · exact .inr (.inl e)
  · exact .inr (.inr (.inl e))
  · refine .inr (.inr (.inr ⟨j, by rw [len_sync] at hj; exact hj, fun e2 => hw ?_, e⟩))
    unfold sync
    split
    · exact e2
    · split
      · rfl
      · rw [act_W]; exact e2
theorem crash_at (h : DiskAt w r fp M) (hr : waits M ≤ 1099511627776) {kv : Value} {keep : List Int} (hk : IntsAt w kv keep) (hoff : Off fp kv keep) :
    Calls Tryz.prog 30 #[.pointer (some ⟨r, 0, none⟩), kv] w fun e w' => e = .returned (.tuple #[]) ∧ DiskAt w' r (grow fp w w') (crash M keep) ∧ Turned fp w w' := by
  obtain ⟨h1, m, b, c, g, F, h2, h3⟩ := h
  refine (dkCrash_parts h2 hk (fun h0 A n c b' o e1 e2 e3 => hoff h0 A n c b' o e1 e2 (h3 _ e3)) (fun i => Nat.le_trans (h2.ok.len _) hr)).mono ?_
  rintro e w' ⟨rfl, F', hP, hT⟩
  refine ⟨rfl, at_of h1 h3 hP hT fun k hk => .inl ?_⟩
  rcases hk with e | e | e | ⟨j, hj, hw, e⟩
  · exact .inl e
  · exact .inr (.inl e)
  · exact .inr (.inr (.inl e))
  · exact absurd rfl hw
theorem spoil_at (h : DiskAt w r fp M) (i a : Int) (x : ByteArray) (hx : x.size ≤ 9223372036854775807) :
    Calls Tryz.prog 33 #[.pointer (some ⟨r, 0, none⟩), .int .i64 i, .int .i64 a, .string x] w fun e w' => e = .returned (.int .i64 (spoil M i a x.data.toList).2) ∧ DiskAt w' r (grow fp w w') (spoil M i a x.data.toList).1 ∧ Turned fp w w' := by
  obtain ⟨h1, m, b, c, g, F, h2, h3⟩ := h
  refine (dkSpoil_parts h2 i a x hx).mono ?_
  rintro e w' ⟨rfl, hP, hT⟩
  refine ⟨rfl, at_of h1 h3 hP hT fun k hk => .inl ?_⟩
  rcases hk with e | e | e | ⟨j, hj, hw, e⟩
  · exact .inl e
  · exact .inr (.inl e)
  · exact .inr (.inr (.inl e))
  · refine .inr (.inr (.inr ⟨j, by rw [len_spoil] at hj; exact hj, fun e2 => hw ?_, e⟩))
    unfold spoil
    split
    · exact e2
    · exact e2
theorem fuse_at (h : DiskAt w r fp M) (n : Int) (hn : -9223372036854775808 ≤ n ∧ n ≤ 9223372036854775807) :
    Calls Tryz.prog 29 #[.pointer (some ⟨r, 0, none⟩), .int .i64 n] w fun e w' => e = .returned (.tuple #[]) ∧ DiskAt w' r (grow fp w w') { M with fuse := n } ∧ Turned fp w w' := by
  obtain ⟨h1, m, b, c, g, F, h2, h3⟩ := h
  refine (dkFuse_parts h2 n hn).mono ?_
  rintro e w' ⟨rfl, hP, hg⟩
  exact ⟨rfl, at_of h1 h3 hP (Turned.of_grown hg (.inl (.inl rfl))) fun k hk => .inl hk⟩
theorem sectors_at (h : DiskAt w r fp M) : Calls Tryz.prog 40 #[.pointer (some ⟨r, 0, none⟩)] w fun e w' => e = .returned (.int .i64 (M.lasts.length : Nat)) ∧ w = w' := by
  obtain ⟨h1, m, b, c, g, F, h2, h3⟩ := h
  exact dkSectors_any h2
end
theorem IntsAt.nil (w : World) : IntsAt w (.slice none 0 0) [] := ⟨none, 0, rfl, by decide, fun i => by simp, .inl rfl⟩
theorem Off.nil (fp : Nat → Prop) : Off fp (.slice none 0 0) [] := fun h => absurd rfl h
end Dk
end Go.Proofs.YtnmagfodjcookaaGreat

/-
  What disk's functions do to a disk of the call's own, beside others.
-/
namespace Go.Proofs.YtnmagfodjcookaaGreat
open Go.RowKit
namespace Dk
/-- A disk in block r whose blocks lie in fp, all of them behind B; below B all is as it was in w0. -/
structure Own (B : Nat) (w0 w : World) (r : Nat) (fp : Nat → Prop) (M : Md) : Prop where
  disk : DiskAt w r fp M
  high : ∀ k, fp k → B ≤ k
  base : B ≤ w0.heap.size
  below : Below B w0 w
/-- What an act upon a disk leaves. -/
structure Step (B : Nat) (w0 w w' : World) (r : Nat) (fp fp' : Nat → Prop) (M' : Md) : Prop where
  own : Own B w0 w' r fp' M'
  grown : ∀ k, fp' k → fp k ∨ w.heap.size ≤ k
  turned : Turned fp w w'
section
variable {B : Nat} {w0 w w' : World} {r : Nat} {fp fp' : Nat → Prop} {M M' : Md}
theorem Own.size (h : Own B w0 w r fp M) : B ≤ w.heap.size := Nat.le_trans h.base h.below.size
theorem Own.step (h : Own B w0 w r fp M) (hd : DiskAt w' r (grow fp w w') M') (ht : Turned fp w w') : Step B w0 w w' r fp (grow fp w w') M' :=
  ⟨⟨hd, fun k hk => by
    rcases hk with e | e
    · exact h.high k e
    · have := h.size; omega, h.base, h.below.trans (ht.below h.high h.size)⟩, fun k hk => by
    rcases hk with e | e
    · exact .inl e
    · exact .inr e.1, ht⟩
theorem Own.low (h : Own B w0 w r fp M) (k : Below w.heap.size w w') : Own B w0 w' r fp M :=
  ⟨h.disk.below k (Nat.le_refl _), h.high, h.base, h.below.trans (k.mono h.size)⟩
theorem Own.lt (h : Own B w0 w r fp M) : ∀ k, fp k → k < w.heap.size := h.disk.1
/-- Another disk beside it. -/
theorem Own.beside {r2 : Nat} {fp2 : Nat → Prop} {M2 : Md} (h2 : Own B w0 w r2 fp2 M2) (s : Step B w0 w w' r fp fp' M') (hap : ∀ k, fp k → ¬ fp2 k) : Own B w0 w' r2 fp2 M2 ∧ ∀ k, fp' k → ¬ fp2 k :=
  ⟨⟨h2.disk.keep s.turned (fun k h1 h3 => hap k h3 h1), h2.high, h2.base, s.own.below⟩, fun k hk h3 => by
    rcases s.grown k hk with e | e
    · exact hap k e h3
    · have := h2.lt k h3; omega⟩
theorem Step.refl (h : Own B w0 w r fp M) : Step B w0 w w r fp fp M := ⟨h, fun _ hk => .inl hk, Turned.refl _ _⟩
theorem Step.trans {w1 : World} {fp1 : Nat → Prop} {M1 : Md} (h : Step B w0 w w1 r fp fp1 M1) (k : Step B w0 w1 w' r fp1 fp' M') : Step B w0 w w' r fp fp' M' := by
  have hs := h.turned.size
  refine ⟨k.own, fun i hi => ?_, ?_⟩
  · rcases k.grown i hi with e | e
    · exact h.grown i e
    · exact .inr (by omega)
  · exact ⟨k.turned.os.trans h.turned.os, k.turned.tape.trans h.turned.tape, k.turned.output.trans h.turned.output, Nat.le_trans hs k.turned.size, fun i hi hn =>
      (k.turned.block i (by omega) (fun e => by rcases h.grown i e with e | e; exact hn e; omega)).trans (h.turned.block i hi hn)⟩
theorem Step.low {w1 : World} (h : Step B w0 w w1 r fp fp' M) (k : Below w1.heap.size w1 w') : Step B w0 w w' r fp fp' M :=
  ⟨h.own.low k, h.grown, h.turned.trans (Turned.of_below k (Nat.le_refl _))⟩
/-- A slice of numbers that lay there from the start. -/
theorem Own.off (h : Own B w0 w r fp M) {v : Value} {l : List Int} (hi : IntsAt w0 v l) (hB : B = w0.heap.size) : IntsAt w v l ∧ Off fp v l := by
  refine ⟨hi.below (by rw [← hB]; exact h.below), fun h0 A n c b o e1 e2 e3 => ?_⟩
  obtain ⟨A', c', f1, _, _, f4⟩ := hi
  rcases f4 with f4 | ⟨b', o', f5, f6, _⟩
  · exact h0 f4
  · rw [e1] at f1
    simp only [Value.slice.injEq] at f1
    rw [← f1.1, e2] at f5
    simp only [Option.some.injEq, Addr.mk.injEq] at f5
    have := h.high b e3
    omega
theorem new_in (hbl : Below B w0 w) (hB : B ≤ w0.heap.size) (n : Nat) (hn : 1 ≤ n ∧ n ≤ 4096) :
    Calls Tryz.prog 7 #[.int .i64 (n : Int)] w fun e w' => ∃ r fp, e = .returned (.tuple #[.pointer (some ⟨r, 0, none⟩), .int .i64 0]) ∧ Own B w0 w' r fp (new n) ∧ (∀ k, fp k → w.heap.size ≤ k) ∧ Below w.heap.size w w' := by
  refine (dkNew_any w n hn).mono ?_
  rintro e w' ⟨r, rfl, hr, hd, hb⟩
  have := hbl.size
  exact ⟨r, _, rfl, ⟨hd, fun k hk => by have := hk.1; omega, hB, hbl.trans (hb.mono (by omega))⟩, fun k hk => hk.1, hb⟩
theorem write_in (h : Own B w0 w r fp M) (hr : waits M ≤ 1099511627776) (i : Int) (s : ByteArray) :
    Calls Tryz.prog 15 #[.pointer (some ⟨r, 0, none⟩), .int .i64 i, .string s] w fun e w' => ∃ fp', e = .returned (.int .i64 (write M i s.data.toList).2) ∧ Step B w0 w w' r fp fp' (write M i s.data.toList).1 := by
  refine (write_at h.disk hr i s).mono ?_
  rintro e w' ⟨rfl, hd, ht⟩
  exact ⟨_, rfl, h.step hd ht⟩
theorem sync_in (h : Own B w0 w r fp M) :
    Calls Tryz.prog 57 #[.pointer (some ⟨r, 0, none⟩)] w fun e w' => ∃ fp', e = .returned (.int .i64 (sync M).2) ∧ Step B w0 w w' r fp fp' (sync M).1 := by
  refine (sync_at h.disk).mono ?_
  rintro e w' ⟨rfl, hd, ht⟩
  exact ⟨_, rfl, h.step hd ht⟩
theorem crash_in (h : Own B w0 w r fp M) (hr : waits M ≤ 1099511627776) {kv : Value} {keep : List Int} (hk : IntsAt w kv keep) (hoff : Off fp kv keep) :
    Calls Tryz.prog 30 #[.pointer (some ⟨r, 0, none⟩), kv] w fun e w' => ∃ fp', e = .returned (.tuple #[]) ∧ Step B w0 w w' r fp fp' (crash M keep) := by
  refine (crash_at h.disk hr hk hoff).mono ?_
  rintro e w' ⟨rfl, hd, ht⟩
  exact ⟨_, rfl, h.step hd ht⟩
theorem spoil_in (h : Own B w0 w r fp M) (i a : Int) (x : ByteArray) (hx : x.size ≤ 9223372036854775807) :
    Calls Tryz.prog 33 #[.pointer (some ⟨r, 0, none⟩), .int .i64 i, .int .i64 a, .string x] w fun e w' => ∃ fp', e = .returned (.int .i64 (spoil M i a x.data.toList).2) ∧ Step B w0 w w' r fp fp' (spoil M i a x.data.toList).1 := by
  refine (spoil_at h.disk i a x hx).mono ?_
  rintro e w' ⟨rfl, hd, ht⟩
  exact ⟨_, rfl, h.step hd ht⟩
theorem fuse_in (h : Own B w0 w r fp M) (n : Int) (hn : -9223372036854775808 ≤ n ∧ n ≤ 9223372036854775807) :
    Calls Tryz.prog 29 #[.pointer (some ⟨r, 0, none⟩), .int .i64 n] w fun e w' => ∃ fp', e = .returned (.tuple #[]) ∧ Step B w0 w w' r fp fp' { M with fuse := n } := by
  refine (fuse_at h.disk n hn).mono ?_
  rintro e w' ⟨rfl, hd, ht⟩
  exact ⟨_, rfl, h.step hd ht⟩
theorem read_in (h : Own B w0 w r fp M) (i : Int) :
    Calls Tryz.prog 70 #[.pointer (some ⟨r, 0, none⟩), .int .i64 i] w fun e w' => e = .returned (.tuple #[.string ⟨(readOf M i).1.toArray⟩, .int .i64 (readOf M i).2]) ∧ Own B w0 w' r fp M ∧ Below w.heap.size w w' := by
  refine (read_at h.disk i).mono ?_
  rintro e w' ⟨rfl, hb⟩
  exact ⟨rfl, h.low hb, hb⟩
theorem sectors_in (h : Own B w0 w r fp M) : Calls Tryz.prog 40 #[.pointer (some ⟨r, 0, none⟩)] w fun e w' => e = .returned (.int .i64 (M.lasts.length : Nat)) ∧ w = w' := sectors_at h.disk
end
end Dk
end Go.Proofs.YtnmagfodjcookaaGreat
