/-
  Texts that belong together, laid into one.
-/
import Derived.Test.YtnmagfodjcookaaGreatMem
import Derived.WalkKit
import Derived.Maps.RangeWalk
import Derived.Laws.AppendOwn
import Derived.WalkSpells
import Derived.Carry
import Derived.OwnWalk
import Derived.ArgAppend
import Derived.Great.BuildSlice
/-
  The math of a disk: what lasts, what waits, the fuse, the power; what a crash keeps.
-/
namespace Go.Proofs.YtnmagfodjcookaaGreat
namespace Dk
/-- What lasts, the writes that wait for each sector, whether the power is off, the fuse (below 0: none). -/
structure Md where
  lasts : List (List UInt8)
  W : Nat → List (List UInt8)
  off : Bool
  fuse : Int
structure Md.Ok (M : Md) : Prop where
  n : 1 ≤ M.lasts.length ∧ M.lasts.length ≤ 4096
  lasts : ∀ s ∈ M.lasts, s.length = 64
  waits : ∀ i, ∀ s ∈ M.W i, s.length = 64
  none : ∀ i, M.lasts.length ≤ i → M.W i = []
  fuse : -9223372036854775808 ≤ M.fuse ∧ M.fuse ≤ 9223372036854775807
def last (M : Md) (i : Nat) : List UInt8 := M.lasts.getD i []
/-- What a sector is read as. -/
def seen (M : Md) (i : Nat) : List UInt8 := (M.W i).getLastD (last M i)
def there (M : Md) (i : Int) : Bool := decide (0 ≤ i) && decide (i < M.lasts.length)
def blank : List UInt8 := List.replicate 64 0
def new (n : Nat) : Md := ⟨List.replicate n blank, fun _ => [], false, -1⟩
def readOf (M : Md) (i : Int) : List UInt8 × Int := if M.off then ([], 14) else if there M i then (seen M i.toNat, 0) else ([], 1)
def act (M : Md) : Md × Bool := if M.fuse = 0 then ({ M with off := true }, false) else if M.fuse > 0 then ({ M with fuse := M.fuse - 1 }, true) else (M, true)
def put (M : Md) (i : Nat) (b : List UInt8) : Md := { M with W := fun j => if j = i then M.W j ++ [b] else M.W j }
def write (M : Md) (i : Int) (b : List UInt8) : Md × Int :=
  if M.off then (M, 14) else if there M i && decide (b.length = 64) then (if (act M).2 then (put (act M).1 i.toNat b, 0) else ((act M).1, 14)) else (M, 1)
/-- What lasts where some sectors are synced already. -/
def part (M : Md) (f : Nat → List UInt8) (done : Nat → Bool) : Md :=
  { M with lasts := (List.range M.lasts.length).map fun i => if done i then f i else last M i, W := fun i => if done i then [] else M.W i }
def synced (M : Md) : Md := { M with lasts := (List.range M.lasts.length).map (seen M), W := fun _ => [] }
def sync (M : Md) : Md × Int := if M.off then (M, 14) else if (act M).2 then (synced (act M).1, 0) else ((act M).1, 14)
def waits (M : Md) : Nat := ((List.range M.lasts.length).map fun i => (M.W i).length).sum
def busy (M : Md) (i : Nat) : Bool := !(M.W i).isEmpty
def keys (M : Md) : List Nat := (List.range M.lasts.length).filter (busy M)
def rank (M : Md) (i : Nat) : Nat := ((List.range i).filter (busy M)).length
def chosen (keep : List Int) (k n : Nat) : Nat := (keep.getD k 0 % ((n : Int) + 1)).toNat
def choice (M : Md) (i c : Nat) : List UInt8 := if c = 0 then last M i else (M.W i).getD (c - 1) []
def kept (M : Md) (keep : List Int) (i : Nat) : List UInt8 := choice M i (chosen keep (rank M i) (M.W i).length)
def crash (M : Md) (keep : List Int) : Md := ⟨(List.range M.lasts.length).map (kept M keep), fun _ => [], false, -1⟩
def xored (s : List UInt8) (at_ : Nat) (x : List UInt8) : List UInt8 := (List.range s.length).map fun k => if at_ ≤ k ∧ k < at_ + x.length then s.getD k 0 ^^^ x.getD (k - at_) 0 else s.getD k 0
def mayspoil (M : Md) (i at_ : Int) (x : List UInt8) : Bool := there M i && decide (x.length ≤ 4) && decide (0 ≤ at_) && decide (at_ ≤ 64 - (x.length : Int))
def spoil (M : Md) (i at_ : Int) (x : List UInt8) : Md × Int :=
  if mayspoil M i at_ x then ({ M with lasts := M.lasts.set i.toNat (xored (last M i.toNat) at_.toNat x) }, 0) else (M, 1)
theorem last_mem {M : Md} {i : Nat} (hi : i < M.lasts.length) : last M i ∈ M.lasts := by
  rw [last, List.getD_eq_getElem?_getD, List.getElem?_eq_getElem hi]
  exact List.getElem_mem hi
theorem Md.Ok.last {M : Md} (h : M.Ok) {i : Nat} (hi : i < M.lasts.length) : (last M i).length = 64 := h.lasts _ (last_mem hi)
theorem seen_wait {M : Md} {i : Nat} (h : M.W i ≠ []) : seen M i = (M.W i).getLast h := by
  unfold seen
  obtain ⟨a, l, e⟩ : ∃ a l, M.W i = a :: l := List.exists_cons_of_ne_nil h
  simp only [e, List.getLastD_cons, List.getLast_eq_getLastD]
theorem seen_last {M : Md} {i : Nat} (h : M.W i = []) : seen M i = Dk.last M i := by rw [seen, h]; rfl
theorem Md.Ok.seen {M : Md} (h : M.Ok) {i : Nat} (hi : i < M.lasts.length) : (seen M i).length = 64 := by
  by_cases hw : M.W i = []
  · rw [seen_last hw]; exact h.last hi
  · rw [seen_wait hw]; exact h.waits i _ (List.getLast_mem hw)
theorem there_iff {M : Md} {i : Int} : there M i = true ↔ 0 ≤ i ∧ i < M.lasts.length := by simp [there]
theorem act_lasts (M : Md) : (act M).1.lasts = M.lasts := by unfold act; split; rfl; split <;> rfl
theorem act_W (M : Md) : (act M).1.W = M.W := by unfold act; split; rfl; split <;> rfl
theorem Md.Ok.act {M : Md} (h : M.Ok) : (act M).1.Ok := by
  have e1 := act_lasts M
  have e2 := act_W M
  refine ⟨by rw [e1]; exact h.n, by rw [e1]; exact h.lasts, by rw [e2]; exact h.waits, by rw [e1, e2]; exact h.none, ?_⟩
  have := h.fuse
  unfold Dk.act
  split
  · exact this
  · split
    · simp only; omega
    · exact this
theorem Md.Ok.put {M : Md} (h : M.Ok) {i : Nat} (hi : i < M.lasts.length) {b : List UInt8} (hb : b.length = 64) : (put M i b).Ok := by
  refine ⟨h.n, h.lasts, fun j s hs => ?_, fun j hj => ?_, h.fuse⟩
  · simp only [Dk.put] at hs
    split at hs
    · rcases List.mem_append.1 hs with h1 | h1
      · exact h.waits j s h1
      · simp at h1; subst h1; exact hb
    · exact h.waits j s hs
  · simp only [Dk.put] at hj ⊢
    rw [if_neg (by omega), h.none j hj]
theorem Md.Ok.part {M : Md} (h : M.Ok) {f : Nat → List UInt8} (hf : ∀ i, i < M.lasts.length → (f i).length = 64) (done : Nat → Bool) : (part M f done).Ok := by
  refine ⟨by simpa [Dk.part] using h.n, fun s hs => ?_, fun j s hs => ?_, fun j hj => ?_, h.fuse⟩
  · simp only [Dk.part, List.mem_map, List.mem_range] at hs
    obtain ⟨i, hi, rfl⟩ := hs
    split
    · exact hf i hi
    · exact h.last hi
  · simp only [Dk.part] at hs
    split at hs
    · cases hs
    · exact h.waits j s hs
  · simp only [Dk.part, List.length_map, List.length_range] at hj ⊢
    rw [h.none j hj]; simp
theorem part_none (M : Md) (f : Nat → List UInt8) : part M f (fun _ => false) = M := by
  obtain ⟨l, W, o, n⟩ := M
  simp only [part, last, Md.mk.injEq, and_true, Bool.false_eq_true, if_false]
  refine List.ext_getElem? fun i => ?_
  rw [List.getElem?_map]
  by_cases hi : i < l.length
  · rw [List.getElem?_range hi]
    simp [List.getD_eq_getElem?_getD, List.getElem?_eq_getElem hi]
  · rw [List.getElem?_eq_none (by simpa using hi), List.getElem?_eq_none (by omega)]; rfl
/-- All that is busy is done: what isn't is as f has it. -/
theorem part_all {M : Md} {f : Nat → List UInt8} {done : Nat → Bool} (h : ∀ i, i < M.lasts.length → done i = false → M.W i = [] ∧ f i = last M i) (hn : ∀ i, M.lasts.length ≤ i → M.W i = []) :
    part M f done = { M with lasts := (List.range M.lasts.length).map f, W := fun _ => [] } := by
  simp only [part, Md.mk.injEq, and_true]
  refine ⟨?_, ?_⟩
  · refine List.map_congr_left fun i hi => ?_
    split
    · rfl
    · rename_i hd
      exact (h i (by simpa using hi) (by simpa using hd)).2.symm
  · funext i
    split
    · rfl
    · rename_i hd
      by_cases hi : i < M.lasts.length
      · exact (h i hi (by simpa using hd)).1
      · exact hn i (by omega)
theorem filter_rank {p : Nat → Bool} : ∀ (n k i : Nat), ((List.range n).filter p)[k]? = some i → ((List.range i).filter p).length = k
  | 0, k, i, h => by simp at h
  | n + 1, k, i, h => by
    rw [List.range_succ, List.filter_append, List.getElem?_append] at h
    split at h
    · exact filter_rank n k i h
    · rename_i hk
      by_cases hp : p n = true
      · rw [show List.filter p [n] = [n] by simp [hp]] at h
        have h2 := (List.getElem?_eq_some_iff.1 h).1
        simp only [List.length_singleton] at h2
        rw [show k - (List.filter p (List.range n)).length = 0 by omega, List.getElem?_cons_zero, Option.some.injEq] at h
        subst h
        omega
      · simp [hp] at h
theorem rank_keys {M : Md} {k i : Nat} (h : (keys M)[k]? = some i) : rank M i = k := filter_rank _ _ _ h
theorem mem_keys {M : Md} {i : Nat} : i ∈ keys M ↔ i < M.lasts.length ∧ M.W i ≠ [] := by simp [keys, busy]
theorem chosen_le (keep : List Int) (k n : Nat) : chosen keep k n ≤ n := by
  unfold chosen
  have h1 := Int.emod_nonneg (keep.getD k 0) (show ((n : Int) + 1) ≠ 0 by omega)
  have h2 := Int.emod_lt_of_pos (keep.getD k 0) (show (0 : Int) < (n : Int) + 1 by omega)
  omega
theorem choice_mem {M : Md} {i c : Nat} (hc : c ≤ (M.W i).length) : choice M i c = last M i ∨ choice M i c ∈ M.W i := by
  unfold choice
  split
  · exact .inl rfl
  · right
    rw [List.getD_eq_getElem?_getD, List.getElem?_eq_getElem (by omega)]
    exact List.getElem_mem _
theorem kept_mem (M : Md) (keep : List Int) (i : Nat) : kept M keep i = last M i ∨ kept M keep i ∈ M.W i := choice_mem (chosen_le _ _ _)
theorem Md.Ok.kept {M : Md} (h : M.Ok) (keep : List Int) {i : Nat} (hi : i < M.lasts.length) : (kept M keep i).length = 64 := by
  rcases kept_mem M keep i with e | e
  · rw [e]; exact h.last hi
  · exact h.waits i _ e
theorem kept_idle {M : Md} {keep : List Int} {i : Nat} (h : M.W i = []) : kept M keep i = last M i := by
  rcases kept_mem M keep i with e | e
  · exact e
  · rw [h] at e; cases e
theorem kept_none {M : Md} {i : Nat} : kept M [] i = last M i := by
  have : chosen [] (rank M i) (M.W i).length = 0 := by simp [chosen]
  rw [kept, this, choice, if_pos rfl]
theorem Md.Ok.synced {M : Md} (h : M.Ok) : (synced M).Ok := by
  refine ⟨by simpa [Dk.synced] using h.n, fun s hs => ?_, fun j s hs => by simp [Dk.synced] at hs, fun j _ => rfl, h.fuse⟩
  simp only [Dk.synced, List.mem_map, List.mem_range] at hs
  obtain ⟨i, hi, rfl⟩ := hs
  exact h.seen hi
theorem Md.Ok.crash {M : Md} (h : M.Ok) (keep : List Int) : (crash M keep).Ok := by
  refine ⟨by simpa [Dk.crash] using h.n, fun s hs => ?_, fun j s hs => by simp [Dk.crash] at hs, fun j _ => rfl, by simp [Dk.crash]⟩
  simp only [Dk.crash, List.mem_map, List.mem_range] at hs
  obtain ⟨i, hi, rfl⟩ := hs
  exact h.kept keep hi
theorem xored_length (s : List UInt8) (a : Nat) (x : List UInt8) : (xored s a x).length = s.length := by simp [xored]
theorem Md.Ok.spoil {M : Md} (h : M.Ok) (i a : Int) (x : List UInt8) : (spoil M i a x).1.Ok := by
  unfold Dk.spoil
  split
  · rename_i hm
    have hi : 0 ≤ i ∧ i < M.lasts.length := by
      simp only [mayspoil, Bool.and_eq_true] at hm
      exact there_iff.1 hm.1.1.1
    refine ⟨by simpa using h.n, fun s hs => ?_, h.waits, fun j hj => h.none j (by simpa using hj), h.fuse⟩
    rcases List.mem_or_eq_of_mem_set hs with h1 | h1
    · exact h.lasts s h1
    · rw [h1, xored_length]; exact h.last (by omega)
  · exact h
theorem Md.Ok.write {M : Md} (h : M.Ok) (i : Int) (b : List UInt8) : (write M i b).1.Ok := by
  unfold Dk.write
  split
  · exact h
  · split
    · rename_i hc
      simp only [Bool.and_eq_true, decide_eq_true_eq] at hc
      have hi := there_iff.1 hc.1
      split
      · exact h.act.put (by rw [act_lasts]; omega) hc.2
      · exact h.act
    · exact h
theorem Md.Ok.sync {M : Md} (h : M.Ok) : (sync M).1.Ok := by
  unfold Dk.sync
  split
  · exact h
  · split
    · exact h.act.synced
    · exact h.act
theorem Md.Ok.new {n : Nat} (h : 1 ≤ n ∧ n ≤ 4096) : (new n).Ok := by
  refine ⟨by simpa [Dk.new] using h, fun s hs => ?_, fun j s hs => by simp [Dk.new] at hs, fun j _ => rfl, by simp [Dk.new]⟩
  simp only [Dk.new, List.mem_replicate] at hs
  rw [hs.2]; rfl
end Dk
end Go.Proofs.YtnmagfodjcookaaGreat

/-
  A map of slices by numbers, told as a function: looked up, stored into, deleted from, ranged over.
-/
namespace Go.Proofs.YtnmagfodjcookaaGreat
open Go.Maps
namespace Dk
/-- An element is told by itself. -/
def hv : Value → Option (DataW Value × List MemPlace) := fun v => some (.held v, [])
abbrev key (i : Nat) : Lit := .int .i64 (i : Int)
structure Reads (N : Nat) (F : Nat → Option Value) (D : DataW Value) : Prop where
  map : IsMap D
  keys : ∀ kl, has D kl = true → ∃ i, i < N ∧ kl = key i
  has : ∀ i, i < N → Maps.has D (key i) = (F i).isSome
  at_ : ∀ i v, i < N → F i = some v → ∀ z, D.atKey (key i) z = .held v
theorem key_inj {i j : Nat} (h : key i = key j) : i = j := by
  simp only [key, Lit.int.injEq, true_and] at h
  omega
theorem key_ne {i j : Nat} (h : i ≠ j) : key i ≠ key j := fun e => h (key_inj e)
theorem isKey (i : Nat) : WideAt.IsKeyLit (key i) := trivial
theorem key_wf {i : Nat} (h : i ≤ 9223372036854775807) : (key i).wf = true := by
  simp [Lit.wf, IntKind.min, IntKind.max, IntKind.signed, IntKind.bits]
  omega
theorem keyOf_nat {P : Program} {k : TypeId} (hk : P.underlying k = some (.int .i64)) {i : Nat} (h : i ≤ 9223372036854775807) : keyOf P k (.int .i64 (i : Int)) = some (key i) := keyOf_int_mk hk (key_wf h)
theorem len_le : ∀ (N : Nat) (l : List Nat), l.Nodup → (∀ x ∈ l, x < N) → l.length ≤ N
  | 0, l, _, h => by
    cases l with
    | nil => exact Nat.le_refl _
    | cons x r => exact absurd (h x (by simp)) (by omega)
  | N + 1, l, hd, h => by
    have ih := len_le N (l.erase N) (hd.erase N) (fun x hx => by
      have h1 := (hd.mem_erase_iff).1 hx
      have := h x h1.2
      omega)
    have := List.length_erase (a := N) (l := l)
    by_cases hN : N ∈ l
    · rw [if_pos hN] at this; omega
    · rw [if_neg hN] at this; omega
theorem Reads.size {N : Nat} {F : Nat → Option Value} {D : DataW Value} (h : Reads N F D) (ht : ∃ es, D = .map es ∧ es.Pairwise (fun p q => p.1 ≠ q.1) ∧ ∀ p ∈ es, WideAt.IsKeyLit p.1) : Maps.size D ≤ N := by
  obtain ⟨es, rfl, hp, hkl⟩ := ht
  have hall : ∀ p ∈ es, ∃ i, i < N ∧ p.1 = key i := fun p hp => h.keys p.1 (List.any_eq_true.2 ⟨p, hp, WideAt.sameKey_self (hkl p hp)⟩)
  have hl : (es.map fun p => (match p.1 with | .int _ a => a.toNat | _ => 0)).length ≤ N := by
    refine len_le N _ ?_ ?_
    · rw [List.Nodup, List.pairwise_map]
      refine hp.imp_of_mem ?_
      intro p q hp hq hne
      obtain ⟨i, _, e1⟩ := hall p hp
      obtain ⟨j, _, e2⟩ := hall q hq
      rw [e1, e2] at hne ⊢
      intro e
      simp only [Int.toNat_natCast] at e
      exact hne (by rw [e])
    · intro x hx
      obtain ⟨p, hp, rfl⟩ := List.mem_map.1 hx
      obtain ⟨i, hi, e1⟩ := hall p hp
      rw [e1]
      simpa [key] using hi
  simpa [Maps.size] using hl
theorem Reads.empty (N : Nat) : Reads N (fun _ => none) (.map []) := ⟨isMap_empty, fun kl h => by simp [Maps.has] at h, fun i _ => by simp [Maps.has], fun i v _ h => by cases h⟩
theorem Reads.put {N : Nat} {F : Nat → Option Value} {D : DataW Value} (h : Reads N F D) {i : Nat} (hi : i < N) (v : Value) : Reads N (fun j => if j = i then some v else F j) (D.put (key i) (.held v)) := by
  refine ⟨h.map.put _ _, fun kl hk => ?_, fun j hj => ?_, fun j u hj hu z => ?_⟩
  · by_cases e : kl = key i
    · exact ⟨i, hi, e⟩
    · rw [has_put_other e] at hk
      exact h.keys kl hk
  · by_cases e : j = i
    · subst e
      rw [has_put_same h.map (isKey j)]
      simp
    · rw [has_put_other (key_ne e), h.has j hj]
      simp [e]
  · by_cases e : j = i
    · subst e
      rw [atKey_put_same h.map (isKey j)]
      simp at hu
      rw [hu]
    · rw [atKey_put_other (key_ne e)]
      simp [e] at hu
      exact h.at_ j u hj hu z
theorem Reads.del {N : Nat} {F : Nat → Option Value} {D : DataW Value} (h : Reads N F D) (i : Nat) : Reads N (fun j => if j = i then none else F j) (D.del (key i)) := by
  refine ⟨h.map.del _, fun kl hk => ?_, fun j hj => ?_, fun j u hj hu z => ?_⟩
  · by_cases e : kl = key i
    · rw [e, has_del_same] at hk; cases hk
    · rw [has_del_other e] at hk
      exact h.keys kl hk
  · by_cases e : j = i
    · subst e
      rw [has_del_same]
      simp
    · rw [has_del_other (key_ne e), h.has j hj]
      simp [e]
  · by_cases e : j = i
    · simp [e] at hu
    · rw [atKey_del_other (key_ne e)]
      simp [e] at hu
      exact h.at_ j u hj hu z
theorem Reads.look {N : Nat} {F : Nat → Option Value} {D : DataW Value} (h : Reads N F D) {i : Nat} (hi : i < N) (z : Value) : D.atKey (key i) (.held z) = .held ((F i).getD z) := by
  cases hF : F i with
  | some v => rw [h.at_ i v hi hF]; rfl
  | none => rw [atKey_of_not_has (by rw [h.has i hi, hF]; rfl)]; rfl
/-- Block b is a map of slices by numbers below N. -/
def MapAt (P : Program) (k : TypeId) (w : World) (b N : Nat) (F : Nat → Option Value) : Prop := ∃ D, w.ownsMap P k hv b N D ∧ Reads N F D
section
variable {P : Program} {k t e : TypeId} {w : World} {b N : Nat} {F : Nat → Option Value}
theorem owns_tight {n : Nat} {D : DataW Value} (hk : P.underlying k = some (.int .i64)) (h : w.ownsMap P k hv b n D) (hR : Reads N F D) : w.ownsMap P k hv b N D := by
  have hs := hR.size (h.entries (int_keyed hk))
  obtain ⟨es, clock, hb, Ft, hn, hD⟩ := h
  refine ⟨es, clock, hb, Ft, ?_, hD⟩
  rw [hD] at hs
  simpa [Maps.size, length_sorted] using hs
theorem MapAt.lt (h : MapAt P k w b N F) : b < w.heap.size := by obtain ⟨D, h, _⟩ := h; exact h.lt
theorem MapAt.kind (h : MapAt P k w b N F) : ∃ es c, w.heap[b]? = some (.map es c) := by obtain ⟨D, ⟨es, c, h, _⟩, _⟩ := h; exact ⟨es, c, h⟩
theorem MapAt.block {w' : World} (h : MapAt P k w b N F) (hb : w'.heap[b]? = w.heap[b]?) : MapAt P k w' b N F := by
  obtain ⟨D, ⟨es, c, h, rest⟩, hR⟩ := h
  exact ⟨D, ⟨es, c, hb.trans h, rest⟩, hR⟩
theorem MapAt.congr {F' : Nat → Option Value} (h : MapAt P k w b N F) (he : ∀ i, i < N → F' i = F i) : MapAt P k w b N F' := by
  obtain ⟨D, h, hR⟩ := h
  exact ⟨D, h, hR.map, hR.keys, fun i hi => by rw [he i hi]; exact hR.has i hi, fun i v hi hv => hR.at_ i v hi ((he i hi).symm.trans hv)⟩
theorem MapAt.made (w : World) : MapAt P k (w.alloc (.map #[] 0)) w.heap.size N (fun _ => none) :=
  ⟨_, (World.ownsMap_made w P k hv).mono (Nat.zero_le _), Reads.empty N⟩
/-- m[i]. -/
theorem MapAt.look (h : MapAt P k w b N F) (hk : P.underlying k = some (.int .i64)) (ht : P.underlying t = some (.map k e)) {z : Value} (hz : (zeroValue e).run P w = .ok z w) {i : Nat} (hi : i < N) (hN : N ≤ 4096) :
    (Instr.lookup t (.map (some b)) (.int .i64 (i : Int)) false).run P w = .ok ((F i).getD z) w := by
  obtain ⟨D, h, hR⟩ := h
  obtain ⟨v, ps, hrun, hvv⟩ := h.lookup (int_keyed hk) ht hz (show hv z = some (.held z, []) from rfl) (keyOf_nat hk (show i ≤ 9223372036854775807 by omega))
  rw [hR.look hi z] at hvv
  simp only [hv, Option.some.injEq, Prod.mk.injEq, DataW.held.injEq] at hvv
  rw [hrun, hvv.1]
/-- m[i] = v. -/
theorem MapAt.store (h : MapAt P k w b N F) (hk : P.underlying k = some (.int .i64)) (ht : P.underlying t = some (.map k e)) {i : Nat} (hi : i < N) (hN : N ≤ 4096) (v : Value) :
    ∃ w', (Instr.mapUpdate t (.map (some b)) (.int .i64 (i : Int)) v).run P w = .ok () w' ∧ MapAt P k w' b N (fun j => if j = i then some v else F j) ∧ w.mapTurned w' b := by
  obtain ⟨D, h, hR⟩ := h
  obtain ⟨w', hrun, ho, hg⟩ := h.store (int_keyed hk) ht (by unfold maxLen; omega) (keyOf_nat hk (show i ≤ 9223372036854775807 by omega)) (show hv v = some (.held v, []) from rfl)
  exact ⟨w', hrun, ⟨_, owns_tight hk ho (hR.put hi v), hR.put hi v⟩, hg⟩
/-- delete(m, i). -/
theorem MapAt.drop (h : MapAt P k w b N F) (hk : P.underlying k = some (.int .i64)) (ht : P.underlying t = some (.map k e)) {i : Nat} (hi : i < N) (hN : N ≤ 4096) (ty : TypeId) :
    ∃ w', (Builtin.delete_ #[t, k] ty #[.map (some b), .int .i64 (i : Int)]).run P w = .ok (.tuple #[]) w' ∧ MapAt P k w' b N (fun j => if j = i then none else F j) ∧ w.mapTurned w' b := by
  obtain ⟨D, h, hR⟩ := h
  obtain ⟨w', hrun, ho, hg⟩ := h.drop (int_keyed hk) ht (keyOf_nat hk (show i ≤ 9223372036854775807 by omega)) ty
  exact ⟨w', hrun, ⟨_, ho, hR.del i⟩, hg⟩
/-- A range over the map under way: which numbers are still to come. -/
def RangeAt (P : Program) (k : TypeId) (w : World) (b r N : Nat) (F : Nat → Option Value) (left : Nat → Bool) (cnt : Nat) : Prop :=
  ∃ D L, w.ranges P k hv b r N D L cnt ∧ Reads N F D ∧ ∀ i, left i = L (key i)
variable {r : Nat} {left : Nat → Bool} {cnt : Nat}
theorem RangeAt.map (h : RangeAt P k w b r N F left cnt) : MapAt P k w b N F := by
  obtain ⟨D, L, h, hR, _⟩ := h
  exact ⟨D, h.owns, hR⟩
theorem RangeAt.ne (h : RangeAt P k w b r N F left cnt) : r ≠ b := by obtain ⟨D, L, h, _⟩ := h; exact h.ne
theorem RangeAt.lt (h : RangeAt P k w b r N F left cnt) : r < w.heap.size := by obtain ⟨D, L, h, _⟩ := h; exact h.lt
theorem RangeAt.left_eq (h : RangeAt P k w b r N F left cnt) : w.rangeLeft b r = cnt := by obtain ⟨D, L, h, _⟩ := h; exact h.left_eq
theorem RangeAt.iter (h : RangeAt P k w b r N F left cnt) : ∃ m s seen c, w.heap[r]? = some (.mapIter m s seen c) := by
  obtain ⟨D, L, ⟨es, c, s, seen, c0, _, _, _, _, h, _⟩, _⟩ := h
  exact ⟨_, _, _, _, h⟩
theorem RangeAt.block {w' : World} (h : RangeAt P k w b r N F left cnt) (hb : w'.heap[b]? = w.heap[b]?) (hr : w'.heap[r]? = w.heap[r]?) : RangeAt P k w' b r N F left cnt := by
  obtain ⟨D, L, ⟨es, c, s, seen, c0, h1, h2, h3, h4, h5, rest⟩, hR, hL⟩ := h
  exact ⟨D, L, ⟨es, c, s, seen, c0, hb.trans h1, h2, h3, h4, hr.trans h5, rest⟩, hR, hL⟩
theorem MapAt.range (h : MapAt P k w b N F) (hk : P.underlying k = some (.int .i64)) (ht : P.underlying t = some (.map k e)) :
    ∃ w' cnt, (Instr.range t (.map (some b))).run P w = .ok (.pointer (some ⟨w.heap.size, 0, none⟩)) w' ∧ RangeAt P k w' b w.heap.size N F (fun i => decide (i < N) && (F i).isSome) cnt ∧ w.grownBy w' none ∧ w'.heap.size = w.heap.size + 1 := by
  obtain ⟨D, h, hR⟩ := h
  obtain ⟨w', h1, h2, h3, h4⟩ := h.range (int_keyed hk) ht
  refine ⟨w', _, h1, ⟨D, _, h2, hR, fun i => ?_⟩, h3, h4⟩
  by_cases hi : i < N
  · simp [hi, hR.has i hi]
  · cases hh : Maps.has D (key i) with
    | false => simp [hi]
    | true => obtain ⟨j, hj, e1⟩ := hR.keys _ hh; exact absurd (key_inj e1) (by omega)
theorem left_some (h : RangeAt P k w b r N F left cnt) {i : Nat} (hl : left i = true) : i < N ∧ ∃ v, F i = some v := by
  obtain ⟨D, L, hr, hR, hL⟩ := h
  have hh : Maps.has D (key i) = true := by
    rw [hL] at hl
    obtain ⟨es, c, s, seen, c0, h1, h2, h3, h4, h5, h6, h7, h8, h9, _⟩ := hr
    obtain ⟨x, hx, e1⟩ := h9 _ hl
    rw [h4]
    exact List.any_eq_true.2 ⟨_, mem_sorted.2 (List.mem_map.2 ⟨x, hx, rfl⟩), by rw [e1]; exact WideAt.sameKey_self (isKey i)⟩
  obtain ⟨j, hj, e1⟩ := hR.keys _ hh
  obtain rfl := key_inj e1
  rw [hR.has i hj, Option.isSome_iff_exists] at hh
  exact ⟨hj, hh⟩
/-- The step. -/
theorem RangeAt.next (h : RangeAt P k w b r N F left cnt) (hk : P.underlying k = some (.int .i64)) (ty : TypeId) :
    ((∀ i, left i = false) ∧ (Instr.next (.pointer (some ⟨r, 0, none⟩)) false ty).run P w = .ok (.tuple #[.bool false]) w) ∨
    ∃ i v w' cnt', i < N ∧ left i = true ∧ F i = some v ∧ (Instr.next (.pointer (some ⟨r, 0, none⟩)) false ty).run P w = .ok (.tuple #[.bool true, .int .i64 (i : Int), v]) w' ∧
      RangeAt P k w' b r N F (fun j => left j && !decide (j = i)) cnt' ∧ cnt' < cnt ∧ w.grownBy w' (some r) ∧ w'.heap.size = w.heap.size ∧ (Instr.entry (.pointer (some ⟨r, 0, none⟩))).run P w' = .ok (.tuple #[.int .i64 (i : Int), v]) w' := by
  have hls := fun i => left_some (i := i) h
  obtain ⟨D, L, hr, hR, hL⟩ := h
  rcases hr.next (int_keyed hk) ty with ⟨_, h1, h2⟩ | ⟨kv, v, kl, y, w', cnt', h1, h2, h3, h4, h5, h6, h7, h8, h9, h10⟩
  · exact .inl ⟨fun i => by rw [hL]; exact h1 _, h2⟩
  · refine .inr ?_
    have hh : Maps.has D kl = true := by
      obtain ⟨es, c, s, seen, c0, q1, q2, q3, q4, q5, q6, q7, q8, q9, _⟩ := hr
      obtain ⟨x, hx, e1⟩ := q9 _ h2
      rw [q4]
      refine List.any_eq_true.2 ⟨_, mem_sorted.2 (List.mem_map.2 ⟨x, hx, rfl⟩), ?_⟩
      rw [e1]
      exact WideAt.sameKey_self ((int_keyed hk).key h1)
    obtain ⟨i, hi, rfl⟩ := hR.keys _ hh
    obtain ⟨x, ex, ex2, _⟩ := Maps.keyOf_int_inv hk h1
    simp only [key, Lit.int.injEq, true_and] at ex2
    subst ex2
    subst ex
    have hl : left i = true := by rw [hL]; exact h2
    obtain ⟨_, u, hu⟩ := hls i hl
    have e3 := hR.at_ i u hi hu .nil
    rw [h4 .nil] at e3
    simp only [hv, Option.some.injEq] at h3
    subst h3
    simp only [DataW.held.injEq] at e3
    subst e3
    refine ⟨i, v, w', cnt', hi, hl, hu, h5, ⟨D, _, h6, hR, fun j => ?_⟩, h7, h8, h9, h10⟩
    show (left j && !decide (j = i)) = (L (key j) && !(key j).sameKey (key i))
    rw [hL]
    by_cases e : j = i
    · subst e; rw [WideAt.sameKey_self (isKey j)]; simp
    · rw [sameKey_ne (key_ne e)]; simp [e]
/-- delete in the round. -/
theorem RangeAt.drop (h : RangeAt P k w b r N F left cnt) (hk : P.underlying k = some (.int .i64)) (ht : P.underlying t = some (.map k e)) {i : Nat} (hi : i < N) (hN : N ≤ 4096) (ty : TypeId) :
    ∃ w' cnt', (Builtin.delete_ #[t, k] ty #[.map (some b), .int .i64 (i : Int)]).run P w = .ok (.tuple #[]) w' ∧ RangeAt P k w' b r N (fun j => if j = i then none else F j) (fun j => left j && !decide (j = i)) cnt' ∧ cnt' ≤ cnt ∧ w.mapTurned w' b := by
  obtain ⟨D, L, hr, hR, hL⟩ := h
  obtain ⟨w', cnt', h1, h2, h3, h4⟩ := hr.drop (int_keyed hk) ht (keyOf_nat hk (show i ≤ 9223372036854775807 by omega)) ty
  refine ⟨w', cnt', h1, ⟨_, _, h2, hR.del i, fun j => ?_⟩, h3, h4⟩
  show (left j && !decide (j = i)) = (L (key j) && !(key j).sameKey (key i))
  rw [hL]
  by_cases e : j = i
  · subst e; rw [WideAt.sameKey_self (isKey j)]; simp
  · rw [sameKey_ne (key_ne e)]; simp [e]
end
end Dk
end Go.Proofs.YtnmagfodjcookaaGreat

/-
  Package disk's memory: rows of sectors, the map of the writes that wait, a disk's block; what becomes of them where something else turns.
-/
namespace Go.Proofs.YtnmagfodjcookaaGreat
open Go.RowKit
theorem Sm.grown_setCells2 {a : World} {b : Nat} : ∀ {w : World} (_ : a.grownBy w (some b)) (vs : List Value) (o : Nat), a.grownBy (w.setCells b o vs) (some b)
  | _, h, [], _ => h
  | _, h, v :: vs, o => Sm.grown_setCells2 (Sm.grown_set h o v) vs (o + 1)
namespace Dk
def flat (l : List (List UInt8)) : List Value := l.flatMap Lib.byteCells
theorem flat_append (l m : List (List UInt8)) : flat (l ++ m) = flat l ++ flat m := by simp [flat]
theorem flat_length : ∀ {l : List (List UInt8)}, (∀ s ∈ l, s.length = 64) → (flat l).length = l.length * 64
  | [], _ => rfl
  | s :: l, h => by
    have ih := flat_length (l := l) fun x hx => h x (by simp [hx])
    have hs := h s (by simp)
    simp only [flat, List.flatMap_cons, List.length_append, Lib.byteCells_length, List.length_cons] at ih ⊢
    omega
theorem flat_one (l : List (List UInt8)) : ∀ u ∈ flat l, u.oneCell' = true := by
  intro u hu
  obtain ⟨s, _, hs⟩ := List.mem_flatMap.1 hu
  exact Lib.byteCells_one s u hs
theorem flat_get : ∀ {l : List (List UInt8)} {i : Nat}, (∀ s ∈ l, s.length = 64) → i < l.length → ∀ j, j < 64 → (flat l)[i * 64 + j]? = (Lib.byteCells (l.getD i []))[j]?
  | [], _, _, hi, _, _ => by simp at hi
  | s :: l, 0, h, _, j, hj => by
    have hs := h s (by simp)
    simp only [flat, List.flatMap_cons, List.getD_cons_zero, Nat.zero_mul, Nat.zero_add]
    rw [List.getElem?_append_left (by rw [Lib.byteCells_length]; omega)]
  | s :: l, i + 1, h, hi, j, hj => by
    have hs := h s (by simp)
    have ih := flat_get (l := l) (i := i) (fun x hx => h x (by simp [hx])) (by simpa using hi) j hj
    simp only [flat, List.flatMap_cons, List.getD_cons_succ] at ih ⊢
    rw [List.getElem?_append_right (by rw [Lib.byteCells_length]; omega), Lib.byteCells_length, hs, show (i + 1) * 64 + j - 64 = i * 64 + j by omega]
    exact ih
/-- A row of sectors in block b, with room for c. -/
structure RowAt (w : World) (b c : Nat) (l : List (List UInt8)) : Prop where
  row : ∃ cur, w.heap[b]? = some (.cells cur 90 (0, 0)) ∧ cur.size = c * 64 ∧ cur.toList.take (l.length * 64) = flat l
  cap : l.length ≤ c ∧ c ≤ maxLen
  sec : ∀ s ∈ l, s.length = 64
theorem RowAt.lt {w : World} {b c : Nat} {l : List (List UInt8)} (h : RowAt w b c l) : b < w.heap.size := by obtain ⟨cur, h, _⟩ := h.row; exact Sm.lt_of h
theorem RowAt.block {w w' : World} {b c : Nat} {l : List (List UInt8)} (h : RowAt w b c l) (k : w'.heap[b]? = w.heap[b]?) : RowAt w' b c l := by
  obtain ⟨cur, h1, h2⟩ := h.row
  exact ⟨⟨cur, k.trans h1, h2⟩, h.cap, h.sec⟩
theorem RowAt.own {w : World} {b c : Nat} {l : List (List UInt8)} (h : RowAt w b c l) {B : Nat} (hB : B ≤ b) : w.ownsRow B 90 64 (.slice (some ⟨b, 0, none⟩) l.length c) l.length (flat l) := by
  obtain ⟨cur, h1, h2, h3⟩ := h.row
  exact ⟨flat_length h.sec, .inr ⟨b, c, cur, rfl, hB, h1, h.cap.1, h.cap.2, h2, h3⟩⟩
theorem RowAt.of_own {w : World} {B n : Nat} {v : Value} {l : List (List UInt8)} (h : w.ownsRow B 90 64 v n (flat l)) (hn : n = l.length) (h0 : n ≠ 0) (hs : ∀ s ∈ l, s.length = 64) :
    ∃ b c, v = .slice (some ⟨b, 0, none⟩) l.length c ∧ RowAt w b c l ∧ B ≤ b ∧ v.ownBlock = some b := by
  subst hn
  rcases h.2 with ⟨_, e⟩ | ⟨b, c, cur, rfl, hb, h1, h2, h3, h4, h5⟩
  · exact absurd e h0
  · exact ⟨b, c, rfl, ⟨⟨cur, h1, h4, h5⟩, ⟨h2, h3⟩, hs⟩, hb, rfl⟩
theorem RowAt.get {w : World} {b c : Nat} {l : List (List UInt8)} (h : RowAt w b c l) {i : Nat} (hi : i < l.length) {j : Nat} (hj : j < 64) : w.cell? ⟨b, i * 64 + j, none⟩ = (Lib.byteCells (l.getD i []))[j]? := by
  obtain ⟨cur, h1, h2, h3⟩ := h.row
  rw [← flat_get h.sec hi j hj, ← h3, List.getElem?_take, if_pos (by omega)]
  simp [World.cell?, h1]
theorem sec_length {l : List (List UInt8)} (h : ∀ s ∈ l, s.length = 64) {i : Nat} (hi : i < l.length) : (l.getD i []).length = 64 := by
  rw [List.getD_eq_getElem?_getD, List.getElem?_eq_getElem hi]
  exact h _ (List.getElem_mem hi)
theorem RowAt.range {w : World} {b c : Nat} {l : List (List UInt8)} (h : RowAt w b c l) {i : Nat} (hi : i < l.length) : w.rangeAt b (i * 64) (Lib.byteCells (l.getD i [])) := fun j v hv => by
  have hj : j < 64 := by
    have := (List.getElem?_eq_some_iff.1 hv).1
    rwa [Lib.byteCells_length, sec_length h.sec hi] at this
  rw [h.get hi hj, hv]
theorem RowAt.there {w : World} {b c : Nat} {l : List (List UInt8)} (h : RowAt w b c l) {i : Nat} (hi : i < l.length) : w.there b (i * 64) 64 := fun j hj => by
  refine ⟨?_, ?_⟩
  · rw [h.get hi hj, Sm.byteCells_get (by rw [sec_length h.sec hi]; exact hj)]; rfl
  · obtain ⟨cur, h1, _⟩ := h.row
    exact Sm.free_of h1 _
theorem RowAt.cell {w : World} {b c : Nat} {l : List (List UInt8)} (h : RowAt w b c l) {i : Nat} (hi : i < l.length) {j : Nat} (hj : j < 64) : w.cell? ⟨b, i * 64 + j, none⟩ = some (.int .u8 ((l.getD i []).getD j 0).toNat) := by
  rw [h.get hi hj, Sm.byteCells_get (by rw [sec_length h.sec hi]; exact hj)]
theorem RowAt.free {w : World} {b c : Nat} {l : List (List UInt8)} (h : RowAt w b c l) (i : Nat) : w.frozen? ⟨b, i, none⟩ = false := by
  obtain ⟨cur, h1, _⟩ := h.row
  exact Sm.free_of h1 _
/-- Two lists of as many sectors whose cells are the same. -/
theorem flat_set {l : List (List UInt8)} {i : Nat} {s : List UInt8} (h : ∀ s ∈ l, s.length = 64) (hi : i < l.length) :
    flat (l.set i s) = (flat l).take (i * 64) ++ (Lib.byteCells s ++ (flat l).drop (i * 64 + 64)) := by
  induction l generalizing i with
  | nil => simp at hi
  | cons t l ih =>
    have ht := h t (by simp)
    have htl : (Lib.byteCells t).length = 64 := by rw [Lib.byteCells_length, ht]
    cases i with
    | zero =>
      simp only [List.set_cons_zero, flat, List.flatMap_cons, Nat.zero_mul, List.take_zero, List.nil_append, Nat.zero_add]
      rw [List.drop_left' htl]
    | succ i =>
      have e := ih (i := i) (fun x hx => h x (by simp [hx])) (by simpa using hi)
      simp only [List.set_cons_succ, flat, List.flatMap_cons] at e ⊢
      rw [e, List.take_append, List.drop_append, htl, List.take_of_length_le (l := Lib.byteCells t) (by rw [htl]; omega), List.drop_of_length_le (l := Lib.byteCells t) (by rw [htl]; omega), List.nil_append, List.append_assoc, show (i + 1) * 64 - 64 = i * 64 by omega, show (i + 1) * 64 + 64 - 64 = i * 64 + 64 by omega]
theorem RowAt.set {w : World} {b c : Nat} {l : List (List UInt8)} (h : RowAt w b c l) {i : Nat} (hi : i < l.length) {s : List UInt8} (hs : s.length = 64) : RowAt (w.setCells b (i * 64) (Lib.byteCells s)) b c (l.set i s) := by
  obtain ⟨cur, h1, h2, h3⟩ := h.row
  have hcap := h.cap
  have hsl : (Lib.byteCells s).length = 64 := by rw [Lib.byteCells_length, hs]
  have hle : i * 64 + 64 ≤ c * 64 := by omega
  refine ⟨⟨_, Sm.heap_setCells (Lib.byteCells s) (i * 64) w cur h1 (by rw [hsl, h2]; exact hle), ?_, ?_⟩, by rw [List.length_set]; exact h.cap, fun x hx => ?_⟩
  · simp [h2]; omega
  · rw [List.length_set, flat_set h.sec hi, ← h3, hsl]
    rw [List.take_take, Nat.min_eq_left (show i * 64 ≤ l.length * 64 by omega), List.take_append, List.take_append, List.length_take, hsl, List.drop_take,
      show min (i * 64) cur.toList.length = i * 64 by simp [h2]; omega, List.take_take, Nat.min_eq_right (show i * 64 ≤ l.length * 64 by omega), List.take_of_length_le (l := Lib.byteCells s) (by rw [hsl]; omega), show l.length * 64 - i * 64 - 64 = l.length * 64 - (i * 64 + 64) by omega]
  · rcases List.mem_or_eq_of_mem_set hx with e | e
    · exact h.sec x e
    · rw [e]; exact hs
/-- One byte of a sector is set. -/
theorem RowAt.setByte {w : World} {b c : Nat} {l : List (List UInt8)} (h : RowAt w b c l) {i : Nat} (hi : i < l.length) {j : Nat} (hj : j < 64) (x : UInt8) : RowAt (w.setCell ⟨b, i * 64 + j, none⟩ (.int .u8 x.toNat)) b c (l.set i ((l.getD i []).set j x)) := by
  obtain ⟨cur, h1, h2, h3⟩ := h.row
  have hcap := h.cap
  have hs := sec_length h.sec hi
  have hss : ((l.getD i []).set j x).length = 64 := by rw [List.length_set]; exact hs
  have hset := h.set hi hss
  obtain ⟨cur', q1, q2, q3⟩ := hset.row
  refine ⟨⟨_, Sm.heap_set h1 _ _, by simpa using h2, ?_⟩, hset.cap, hset.sec⟩
  rw [Sm.heap_setCells _ _ w cur h1 (by rw [Lib.byteCells_length, hss, h2]; omega)] at q1
  injection q1 with q1
  injection q1 with q1
  rw [← q3, ← q1, List.length_set]
  congr 1
  refine List.ext_getElem? fun k => ?_
  simp only [Array.toList_setIfInBounds]
  have hlen : cur.toList.length = c * 64 := by simp [h2]
  have hcur : ∀ m, m < 64 → cur.toList[i * 64 + m]? = some (.int .u8 ((l.getD i []).getD m 0).toNat) := fun m hm => by
    have := h.cell hi hm
    simpa [World.cell?, h1] using this
  by_cases k1 : k < i * 64
  · rw [List.getElem?_set_ne (by omega), List.getElem?_append_left (by rw [List.length_take]; omega), List.getElem?_take, if_pos k1]
  · rw [List.getElem?_append_right (by rw [List.length_take]; omega), List.length_take, Nat.min_eq_left (by omega), Lib.byteCells_length, hss]
    by_cases k2 : k < i * 64 + 64
    · rw [List.getElem?_append_left (by rw [Lib.byteCells_length, hss]; omega), Sm.byteCells_get (by rw [hss]; omega)]
      by_cases k3 : k = i * 64 + j
      · subst k3
        rw [List.getElem?_set_self (by omega), show i * 64 + j - i * 64 = j by omega, show ((l.getD i []).set j x).getD j 0 = x by rw [List.getD_eq_getElem?_getD, List.getElem?_set_self (by rw [hs]; exact hj)]; rfl]
      · have e := hcur (k - i * 64) (by omega)
        rw [show i * 64 + (k - i * 64) = k by omega] at e
        rw [List.getElem?_set_ne (by omega), e, List.getD_eq_getElem?_getD (l := (l.getD i []).set j x), List.getElem?_set_ne (by omega), ← List.getD_eq_getElem?_getD]
    · rw [List.getElem?_set_ne (by omega), List.getElem?_append_right (by rw [Lib.byteCells_length, hss]; omega), Lib.byteCells_length, hss, List.getElem?_drop, show i * 64 + 64 + (k - i * 64 - 64) = k by omega]
def cells (b n c m : Nat) (off : Bool) (fuse : Int) : Array Value := #[.slice (some ⟨b, 0, none⟩) n c, .map (some m), .bool off, .int .i64 fuse]
/-- What belongs to a disk: its block r, its map m, what lasts b, the lists of what waits g. -/
structure Parts (w : World) (r m b c : Nat) (g : Nat → Nat) (F : Nat → Option Value) (M : Md) : Prop where
  ok : M.Ok
  disk : w.heap[r]? = some (.cells (cells b M.lasts.length c m M.off M.fuse) 64 (0, 0))
  row : RowAt w b c M.lasts
  map : MapAt Tryz.prog 3 w m M.lasts.length F
  idle : ∀ i, i < M.lasts.length → M.W i = [] → F i = none
  wait : ∀ i, i < M.lasts.length → M.W i ≠ [] → ∃ ci, F i = some (.slice (some ⟨g i, 0, none⟩) (M.W i).length ci) ∧ RowAt w (g i) ci (M.W i)
  apart : ∀ i, i < M.lasts.length → M.W i ≠ [] → g i ≠ b
  inj : ∀ i j, i < M.lasts.length → j < M.lasts.length → M.W i ≠ [] → M.W j ≠ [] → g i = g j → i = j
def own (r m b : Nat) (g : Nat → Nat) (M : Md) : Nat → Prop := fun k => k = r ∨ k = m ∨ k = b ∨ ∃ i, i < M.lasts.length ∧ M.W i ≠ [] ∧ k = g i
theorem disk_sector : 64 ≠ 90 := by decide
theorem ne_cells {w : World} {a b : Nat} {c d : Array Value} {s t : TypeId} {f g : Nat × Nat} (h : w.heap[a]? = some (.cells c s f)) (k : w.heap[b]? = some (.cells d t g)) (hne : s ≠ t) : a ≠ b := by
  rintro rfl
  rw [h] at k
  injection k with k
  injection k with _ k
  exact hne k
theorem ne_map {w : World} {a b : Nat} {c : Array Value} {s : TypeId} {f : Nat × Nat} {es : Array MapEntry} {n : Nat} (h : w.heap[a]? = some (.cells c s f)) (k : w.heap[b]? = some (.map es n)) : a ≠ b := by
  rintro rfl
  rw [h] at k
  cases k
section
variable {w w' : World} {r m b c : Nat} {g : Nat → Nat} {F : Nat → Option Value} {M : Md}
theorem Parts.keep (h : Parts w r m b c g F M) (k : ∀ i, own r m b g M i → w'.heap[i]? = w.heap[i]?) : Parts w' r m b c g F M :=
  ⟨h.ok, (k r (.inl rfl)).trans h.disk, h.row.block (k b (.inr (.inr (.inl rfl)))), h.map.block (k m (.inr (.inl rfl))), h.idle,
    fun i hi hw => by
      obtain ⟨ci, h1, h2⟩ := h.wait i hi hw
      exact ⟨ci, h1, h2.block (k _ (.inr (.inr (.inr ⟨i, hi, hw, rfl⟩))))⟩, h.apart, h.inj⟩
theorem Parts.lt (h : Parts w r m b c g F M) : ∀ i, own r m b g M i → i < w.heap.size := by
  rintro i (rfl | rfl | rfl | ⟨j, hj, hw, rfl⟩)
  · exact Sm.lt_of h.disk
  · exact h.map.lt
  · exact h.row.lt
  · obtain ⟨ci, _, h2⟩ := h.wait j hj hw
    exact h2.lt
theorem Parts.ne_rm (h : Parts w r m b c g F M) : r ≠ m := by obtain ⟨es, k, hm⟩ := h.map.kind; exact ne_map h.disk hm
theorem Parts.ne_rb (h : Parts w r m b c g F M) : r ≠ b := by obtain ⟨cur, hb, _⟩ := h.row.row; exact ne_cells h.disk hb disk_sector
theorem Parts.ne_bm (h : Parts w r m b c g F M) : b ≠ m := by obtain ⟨es, k, hm⟩ := h.map.kind; obtain ⟨cur, hb, _⟩ := h.row.row; exact ne_map hb hm
theorem Parts.ne_gr (h : Parts w r m b c g F M) {i : Nat} (hi : i < M.lasts.length) (hw : M.W i ≠ []) : g i ≠ r := by
  obtain ⟨ci, _, h2⟩ := h.wait i hi hw
  obtain ⟨cur, hb, _⟩ := h2.row
  exact ne_cells hb h.disk disk_sector.symm
theorem Parts.ne_gm (h : Parts w r m b c g F M) {i : Nat} (hi : i < M.lasts.length) (hw : M.W i ≠ []) : g i ≠ m := by
  obtain ⟨es, k, hm⟩ := h.map.kind
  obtain ⟨ci, _, h2⟩ := h.wait i hi hw
  obtain ⟨cur, hb, _⟩ := h2.row
  exact ne_map hb hm
theorem Parts.below (h : Parts w r m b c g F M) {B : Nat} (k : Below B w w') (hB : w.heap.size ≤ B) : Parts w' r m b c g F M := h.keep fun i hi => k.block i (by have := h.lt i hi; omega)
theorem Parts.grown0 (h : Parts w r m b c g F M) (k : w.grownBy w' none) : Parts w' r m b c g F M := h.keep fun i hi => k.block i (h.lt i hi) (by simp)
theorem Parts.drew (h : Parts w r m b c g F M) : Parts w.drew r m b c g F M := h.keep fun _ _ => rfl
theorem Parts.alloc (h : Parts w r m b c g F M) (o : Obj) : Parts (w.alloc o) r m b c g F M := h.keep fun i hi => Below.heap_alloc w o i (h.lt i hi)
/-- The disk's own block is set anew. -/
theorem Parts.set (h : Parts w r m b c g F M) (k : w.grownBy w' (some r)) {off : Bool} {fuse : Int} (hf : -9223372036854775808 ≤ fuse ∧ fuse ≤ 9223372036854775807) (h' : w'.heap[r]? = some (.cells (cells b M.lasts.length c m off fuse) 64 (0, 0))) :
    Parts w' r m b c g F { M with off := off, fuse := fuse } := by
  have hk : ∀ i, own r m b g M i → i ≠ r → w'.heap[i]? = w.heap[i]? := fun i hi hne => k.block i (h.lt i hi) (fun e => hne (Option.some.inj e))
  refine ⟨⟨h.ok.n, h.ok.lasts, h.ok.waits, h.ok.none, hf⟩, h', h.row.block (hk b (.inr (.inr (.inl rfl))) h.ne_rb.symm), h.map.block (hk m (.inr (.inl rfl)) h.ne_rm.symm), h.idle, fun i hi hw => ?_, h.apart, h.inj⟩
  obtain ⟨ci, h1, h2⟩ := h.wait i hi hw
  exact ⟨ci, h1, h2.block (hk _ (.inr (.inr (.inr ⟨i, hi, hw, rfl⟩))) (h.ne_gr hi hw))⟩
end
/-- All that was there is as it was, but for blocks of fp. -/
structure Turned (fp : Nat → Prop) (w w' : World) : Prop where
  os : w'.os = w.os
  tape : w'.tape = w.tape
  output : w'.output = w.output
  size : w.heap.size ≤ w'.heap.size
  block : ∀ i, i < w.heap.size → ¬ fp i → w'.heap[i]? = w.heap[i]?
def grow (fp : Nat → Prop) (w w' : World) : Nat → Prop := fun k => fp k ∨ (w.heap.size ≤ k ∧ k < w'.heap.size)
/-- A disk in block r, whose blocks lie in fp. -/
def DiskAt (w : World) (r : Nat) (fp : Nat → Prop) (M : Md) : Prop := (∀ k, fp k → k < w.heap.size) ∧ ∃ m b c g F, Parts w r m b c g F M ∧ ∀ k, own r m b g M k → fp k
section
variable {fp fp' : Nat → Prop} {w w' w'' : World} {r : Nat} {M M' : Md}
theorem Turned.refl (fp : Nat → Prop) (w : World) : Turned fp w w := ⟨rfl, rfl, rfl, Nat.le_refl _, fun _ _ _ => rfl⟩
theorem Turned.trans (h : Turned fp w w') (k : Turned fp w' w'') : Turned fp w w'' :=
  ⟨k.os.trans h.os, k.tape.trans h.tape, k.output.trans h.output, Nat.le_trans h.size k.size, fun i hi h1 => (k.block i (Nat.lt_of_lt_of_le hi h.size) h1).trans (h.block i hi h1)⟩
theorem Turned.andThen (h : Turned fp w w') (k : Turned (grow fp w w') w' w'') : Turned fp w w'' :=
  ⟨k.os.trans h.os, k.tape.trans h.tape, k.output.trans h.output, Nat.le_trans h.size k.size, fun i hi h1 => (k.block i (Nat.lt_of_lt_of_le hi h.size) (fun e => by rcases e with e | e; exact h1 e; omega)).trans (h.block i hi h1)⟩
theorem Turned.mono (h : Turned fp w w') (k : ∀ i, fp i → fp' i) : Turned fp' w w' := ⟨h.os, h.tape, h.output, h.size, fun i hi h1 => h.block i hi fun e => h1 (k i e)⟩
theorem Turned.of_below {B : Nat} (h : Below B w w') (hB : w.heap.size ≤ B) : Turned fp w w' := ⟨h.os, h.tape, h.output, h.size, fun i hi _ => h.block i (by omega)⟩
theorem Turned.of_grown {b : Nat} (h : w.grownBy w' (some b)) (hb : fp b ∨ w.heap.size ≤ b) : Turned fp w w' :=
  ⟨h.os, h.tape, h.output, h.size, fun i hi h1 => h.block i hi (fun e => by have := Option.some.inj e; subst this; rcases hb with hb | hb; exact h1 hb; omega)⟩
theorem Turned.of_grown0 (h : w.grownBy w' none) : Turned fp w w' := ⟨h.os, h.tape, h.output, h.size, fun i hi _ => h.block i hi (by simp)⟩
theorem Turned.of_map {b : Nat} (h : w.mapTurned w' b) (hb : fp b ∨ w.heap.size ≤ b) : Turned fp w w' := Turned.of_grown h.grown hb
theorem Turned.drew (h : Turned fp w w') : Turned fp w w'.drew := ⟨h.os, h.tape, h.output, h.size, h.block⟩
theorem Turned.drewN (h : Turned fp w w') (n : Nat) : Turned fp w (w'.drewN n) := ⟨h.os, h.tape, h.output, h.size, h.block⟩
theorem Turned.alloc (h : Turned fp w w') (o : Obj) : Turned fp w (w'.alloc o) := h.trans (of_below ((Below.refl _ w').alloc (Nat.le_refl _) o) (Nat.le_refl _))
theorem Turned.below {B : Nat} (h : Turned fp w w') (hB : ∀ k, fp k → B ≤ k) (hs : B ≤ w.heap.size) : Below B w w' := ⟨h.os, h.tape, h.output, h.size, fun i hi => h.block i (by omega) (fun e => by have := hB i e; omega)⟩
theorem grow_trans (h : w.heap.size ≤ w'.heap.size) (k : w'.heap.size ≤ w''.heap.size) : grow (grow fp w w') w' w'' = grow fp w w'' := by
  funext i
  simp only [grow, eq_iff_iff]
  constructor
  · rintro ((h1 | h1) | h1)
    · exact .inl h1
    · exact .inr ⟨h1.1, by omega⟩
    · exact .inr ⟨by omega, h1.2⟩
  · rintro (h1 | h1)
    · exact .inl (.inl h1)
    · by_cases hi : i < w'.heap.size
      · exact .inl (.inr ⟨h1.1, hi⟩)
      · exact .inr ⟨by omega, h1.2⟩
theorem grow_refl (fp : Nat → Prop) (w : World) : grow fp w w = fp := by
  funext i
  simp only [grow, eq_iff_iff]
  exact ⟨fun h => by rcases h with h | h; exact h; omega, .inl⟩
theorem grow_lt (h : ∀ k, fp k → k < w.heap.size) (hs : w.heap.size ≤ w'.heap.size) : ∀ k, grow fp w w' k → k < w'.heap.size := by
  rintro k (e | e)
  · have := h k e; omega
  · exact e.2
/-- A disk is kept where blocks turn that are not its own. -/
theorem DiskAt.keep (h : DiskAt w r fp M) (k : Turned fp' w w') (hd : ∀ i, fp i → ¬ fp' i) : DiskAt w' r fp M := by
  obtain ⟨h1, m, b, c, g, F, h2, h3⟩ := h
  exact ⟨fun i hi => Nat.lt_of_lt_of_le (h1 i hi) k.size, m, b, c, g, F, h2.keep fun i hi => k.block i (h1 i (h3 i hi)) (hd i (h3 i hi)), h3⟩
theorem DiskAt.below {B : Nat} (h : DiskAt w r fp M) (k : Below B w w') (hB : w.heap.size ≤ B) : DiskAt w' r fp M := h.keep (fp' := fun _ => False) (Turned.of_below k hB) (fun _ _ e => e)
theorem DiskAt.drewN (h : DiskAt w r fp M) (n : Nat) : DiskAt (w.drewN n) r fp M := h.keep (fp' := fun _ => False) ((Turned.refl _ w).drewN n) (fun _ _ e => e)
theorem DiskAt.alloc (h : DiskAt w r fp M) (o : Obj) : DiskAt (w.alloc o) r fp M := h.below ((Below.refl _ w).alloc (Nat.le_refl _) o) (Nat.le_refl _)
theorem DiskAt.wide (h : DiskAt w r fp M) (k : ∀ i, fp i → fp' i) (hl : ∀ i, fp' i → i < w.heap.size) : DiskAt w r fp' M := by
  obtain ⟨h1, m, b, c, g, F, h2, h3⟩ := h
  exact ⟨hl, m, b, c, g, F, h2, fun i hi => k i (h3 i hi)⟩
theorem DiskAt.ok (h : DiskAt w r fp M) : M.Ok := by obtain ⟨_, m, b, c, g, F, h2, _⟩ := h; exact h2.ok
end
end Dk
end Go.Proofs.YtnmagfodjcookaaGreat

/-
  What disk's none, ready, has, act, Sectors, Fuse, Down and seen do.
-/
namespace Go.Proofs.YtnmagfodjcookaaGreat
open Go.RowKit
namespace Dk
/-- A disk's cells that New did not make. -/
def bareCells : Array Value := #[.slice none 0 0, .map none, .bool false, .int .i64 0]
/-- What is no disk: nil, or a Disk that New did not make. -/
def None (w : World) (v : Value) : Prop := v = .pointer none ∨ ∃ b, v = .pointer (some ⟨b, 0, none⟩) ∧ w.heap[b]? = some (.cells bareCells 64 (0, 0))
theorem None.keep {w w' : World} {v : Value} (h : None w v) (k : ∀ i, i < w.heap.size → w'.heap[i]? = w.heap[i]?) : None w' v := by
  rcases h with rfl | ⟨b, rfl, h⟩
  · exact .inl rfl
  · exact .inr ⟨b, rfl, (k b (Sm.lt_of h)).trans h⟩
section
variable {w : World} {r m b c : Nat} {g : Nat → Nat} {F : Nat → Option Value} {M : Md}
theorem Parts.c0 (h : Parts w r m b c g F M) : w.cell? ⟨r, 0, none⟩ = some (.slice (some ⟨b, 0, none⟩) M.lasts.length c) := Sm.cells_of h.disk 0 _ rfl
theorem Parts.c1 (h : Parts w r m b c g F M) : w.cell? ⟨r, 1, none⟩ = some (.map (some m)) := Sm.cells_of h.disk 1 _ rfl
theorem Parts.c2 (h : Parts w r m b c g F M) : w.cell? ⟨r, 2, none⟩ = some (.bool M.off) := Sm.cells_of h.disk 2 _ rfl
theorem Parts.c3 (h : Parts w r m b c g F M) : w.cell? ⟨r, 3, none⟩ = some (.int .i64 M.fuse) := Sm.cells_of h.disk 3 _ rfl
theorem Parts.free (h : Parts w r m b c g F M) (i : Nat) : w.frozen? ⟨r, i, none⟩ = false := Sm.free_of h.disk i
theorem Parts.fuse (h : Parts w r m b c g F M) {f : Int} (hf : -9223372036854775808 ≤ f ∧ f ≤ 9223372036854775807) : Parts (w.setCell ⟨r, 3, none⟩ (.int .i64 f)) r m b c g F { M with fuse := f } :=
  h.set (off := M.off) (Sm.grown_set (Sm.grown_refl w (some r)) 3 _) hf (by rw [Sm.heap_set h.disk]; rfl)
theorem Parts.power (h : Parts w r m b c g F M) (o : Bool) : Parts (w.setCell ⟨r, 2, none⟩ (.bool o)) r m b c g F { M with off := o } :=
  h.set (fuse := M.fuse) (Sm.grown_set (Sm.grown_refl w (some r)) 2 _) h.ok.fuse (by rw [Sm.heap_set h.disk]; rfl)
end
end Dk

set_option maxRecDepth 100000 in
theorem dkNone_not {w : World} {r m : Nat} (h : w.cell? ⟨r, 1, none⟩ = some (.map (some m))) :
    Calls Tryz.prog 63 #[.pointer (some ⟨r, 0, none⟩)] w fun e w' => e = .returned (.bool false) ∧ w = w' := by
  have hq : ∀ (w : World) (r : Option Nat), (binOp .eql 62 (.map r) (.map none)).run Tryz.prog w = .ok (.bool r.isNone) w := fun w r => run_eql_map_nil w _ _ _ r Tryz.underlying62
  go_enter Tryz.func63, Tryz.ntmps63
  go_wp2
  go_ret
  exact ⟨rfl, rfl⟩
set_option maxRecDepth 100000 in
theorem dkNone_is {w : World} {v : Value} (h : Dk.None w v) :
    Calls Tryz.prog 63 #[v] w fun e w' => e = .returned (.bool true) ∧ w = w' := by
  have hq : ∀ (w : World) (r : Option Nat), (binOp .eql 62 (.map r) (.map none)).run Tryz.prog w = .ok (.bool r.isNone) w := fun w r => run_eql_map_nil w _ _ _ r Tryz.underlying62
  rcases h with rfl | ⟨b, rfl, h⟩
  · go_enter Tryz.func63, Tryz.ntmps63
    go_wp2
    go_ret
    exact ⟨rfl, rfl⟩
  · have c1 := Sm.cells_of h 1 _ (show Dk.bareCells[1]? = some (.map none) from rfl)
    clear h
    go_enter Tryz.func63, Tryz.ntmps63
    go_wp2
    go_ret
    exact ⟨rfl, rfl⟩
set_option maxRecDepth 100000 in
theorem dkReady_any {w : World} {r m b c : Nat} {g : Nat → Nat} {F : Nat → Option Value} {M : Dk.Md} (h : Dk.Parts w r m b c g F M) :
    Calls Tryz.prog 37 #[.pointer (some ⟨r, 0, none⟩)] w fun e w' => e = .returned (.int .i64 (if M.off then 14 else 0)) ∧ w = w' := by
  have NO := Lib.hid (dkNone_not h.c1)
  have c2 := h.c2
  clear h
  cases hoff : M.off
  · rw [hoff] at c2
    go_enter Tryz.func37, Tryz.ntmps37
    go_wp2_with (go_at_call 63; refine NO.out.mono ?_; rintro e w' ⟨rfl, rfl⟩)
    go_ret
    exact ⟨rfl, rfl⟩
  · rw [hoff] at c2
    go_enter Tryz.func37, Tryz.ntmps37
    go_wp2_with (go_at_call 63; refine NO.out.mono ?_; rintro e w' ⟨rfl, rfl⟩)
    go_ret
    exact ⟨rfl, rfl⟩
set_option maxRecDepth 100000 in
theorem dkReady_none {w : World} {v : Value} (h : Dk.None w v) :
    Calls Tryz.prog 37 #[v] w fun e w' => e = .returned (.int .i64 2) ∧ w = w' := by
  have NO := Lib.hid (dkNone_is h)
  clear h
  go_enter Tryz.func37, Tryz.ntmps37
  go_wp2_with (go_at_call 63; refine NO.out.mono ?_; rintro e w' ⟨rfl, rfl⟩)
  go_ret
  exact ⟨rfl, rfl⟩
set_option maxRecDepth 100000 in
theorem dkHas_any {w : World} {r m b c : Nat} {g : Nat → Nat} {F : Nat → Option Value} {M : Dk.Md} (h : Dk.Parts w r m b c g F M) (i : Int) :
    Calls Tryz.prog 38 #[.pointer (some ⟨r, 0, none⟩), .int .i64 i] w fun e w' => e = .returned (.bool (Dk.there M i)) ∧ w = w' := by
  have c0 := h.c0
  have hn := h.ok.n
  clear h
  by_cases hi : 0 ≤ i
  · by_cases hl : i < (M.lasts.length : Int)
    · have e : Dk.there M i = true := Dk.there_iff.2 ⟨hi, hl⟩
      rw [e]; clear e
      go_enter Tryz.func38, Tryz.ntmps38
      go_wp2
      go_ret
      exact ⟨by simp, rfl⟩
    · have e : Dk.there M i = false := by simp [Dk.there, hl]
      rw [e]; clear e
      go_enter Tryz.func38, Tryz.ntmps38
      go_wp2
      go_ret
      exact ⟨by simp, rfl⟩
  · have e : Dk.there M i = false := by simp [Dk.there, hi]
    rw [e]; clear e
    go_enter Tryz.func38, Tryz.ntmps38
    go_wp2
    go_ret
    exact ⟨rfl, rfl⟩
set_option maxRecDepth 100000 in
theorem dkSectors_any {w : World} {r m b c : Nat} {g : Nat → Nat} {F : Nat → Option Value} {M : Dk.Md} (h : Dk.Parts w r m b c g F M) :
    Calls Tryz.prog 40 #[.pointer (some ⟨r, 0, none⟩)] w fun e w' => e = .returned (.int .i64 (M.lasts.length : Nat)) ∧ w = w' := by
  have NO := Lib.hid (dkNone_not h.c1)
  have c0 := h.c0
  have hn := h.ok.n
  clear h
  go_enter Tryz.func40, Tryz.ntmps40
  go_wp2_with (go_at_call 63; refine NO.out.mono ?_; rintro e w' ⟨rfl, rfl⟩)
  go_ret
  exact ⟨rfl, rfl⟩
set_option maxRecDepth 100000 in
theorem dkSectors_none {w : World} {v : Value} (h : Dk.None w v) :
    Calls Tryz.prog 40 #[v] w fun e w' => e = .returned (.int .i64 0) ∧ w = w' := by
  have NO := Lib.hid (dkNone_is h)
  clear h
  go_enter Tryz.func40, Tryz.ntmps40
  go_wp2_with (go_at_call 63; refine NO.out.mono ?_; rintro e w' ⟨rfl, rfl⟩)
  go_ret
  exact ⟨rfl, rfl⟩
set_option maxRecDepth 100000 in
theorem dkFuse_parts {w : World} {r m b c : Nat} {g : Nat → Nat} {F : Nat → Option Value} {M : Dk.Md} (h : Dk.Parts w r m b c g F M) (n : Int) (hn : -9223372036854775808 ≤ n ∧ n ≤ 9223372036854775807) :
    Calls Tryz.prog 29 #[.pointer (some ⟨r, 0, none⟩), .int .i64 n] w fun e w' => e = .returned (.tuple #[]) ∧ Dk.Parts w' r m b c g F { M with fuse := n } ∧ w.grownBy w' (some r) := by
  have NO := Lib.hid (dkNone_not h.c1)
  have c3 := h.c3
  have f3 := h.free 3
  have P := Lib.hid (h.fuse hn)
  clear h
  go_enter Tryz.func29, Tryz.ntmps29
  go_wp2_with (go_at_call 63; refine NO.out.mono ?_; rintro e w' ⟨rfl, rfl⟩)
  go_end0
  exact ⟨rfl, P.out, Sm.grown_set (Sm.grown_refl w (some r)) 3 _⟩
set_option maxRecDepth 100000 in
theorem dkFuse_none {w : World} {v : Value} (h : Dk.None w v) (n : Int) :
    Calls Tryz.prog 29 #[v, .int .i64 n] w fun e w' => e = .returned (.tuple #[]) ∧ w = w' := by
  have NO := Lib.hid (dkNone_is h)
  clear h
  go_enter Tryz.func29, Tryz.ntmps29
  go_wp2_with (go_at_call 63; refine NO.out.mono ?_; rintro e w' ⟨rfl, rfl⟩)
  go_end0
  exact ⟨rfl, rfl⟩
set_option maxRecDepth 100000 in
theorem dkAct_any {w : World} {r m b c : Nat} {g : Nat → Nat} {F : Nat → Option Value} {M : Dk.Md} (h : Dk.Parts w r m b c g F M) :
    Calls Tryz.prog 39 #[.pointer (some ⟨r, 0, none⟩)] w fun e w' => e = .returned (.int .i64 (if (Dk.act M).2 then 0 else 14)) ∧ Dk.Parts w' r m b c g F (Dk.act M).1 ∧ w.grownBy w' (some r) ∧ w'.heap.size = w.heap.size := by
  have c2 := h.c2
  have c3 := h.c3
  have f2 := h.free 2
  have f3 := h.free 3
  have hf := h.ok.fuse
  by_cases h0 : M.fuse = 0
  · have e : Dk.act M = ({ M with off := true }, false) := by simp [Dk.act, h0]
    rw [e]; clear e
    have P := Lib.hid (h.power true)
    clear h
    rw [h0] at c3
    go_enter Tryz.func39, Tryz.ntmps39
    go_wp2
    go_ret
    exact ⟨rfl, by have := P.out; rw [h0] at this; exact this, Sm.grown_set (Sm.grown_refl w (some r)) 2 _, by simp⟩
  · by_cases hp : M.fuse > 0
    · have e : Dk.act M = ({ M with fuse := M.fuse - 1 }, true) := by simp [Dk.act, h0, hp]
      rw [e]; clear e
      have P := Lib.hid (h.fuse (f := M.fuse - 1) (by omega))
      clear h
      generalize M.fuse = x at *
      have hx : IntKind.i64.wrap (x - 1) = x - 1 := by simp [IntKind.wrap, IntKind.bits, IntKind.signed]; omega
      go_enter Tryz.func39, Tryz.ntmps39
      go_wp2
      go_ret
      exact ⟨rfl, P.out, Sm.grown_set (Sm.grown_refl w (some r)) 3 _, by simp⟩
    · have e : Dk.act M = (M, true) := by simp [Dk.act, h0, hp]
      rw [e]; clear e
      have P := Lib.hid h
      clear h
      generalize M.fuse = x at *
      go_enter Tryz.func39, Tryz.ntmps39
      go_wp2
      go_ret
      exact ⟨rfl, P.out, Sm.grown_refl _ _, rfl⟩
end Go.Proofs.YtnmagfodjcookaaGreat

/-
  What disk's seen tells.
-/
namespace Go.Proofs.YtnmagfodjcookaaGreat
open Go.RowKit
namespace Dk
theorem zeroSec : (Tryz.prog.info? 90).map (fun i => (i.zero, i.size)) = some (some (.agg (Sm.rowB 64 [])), 64) := by kernel_rfl
theorem infoSec {c : Array Value} (h : c.size = 64) : (Tryz.prog.info? 90).map (·.size) = some c.size := by rw [h]; kernel_rfl
theorem infoSecL {c : List Value} (h : c.length = 64) : (Tryz.prog.info? 90).map (·.size) = some c.length := by rw [h]; kernel_rfl
theorem zeroSecs (w : World) : (zeroValue 61).run Tryz.prog w = .ok (.slice none 0 0) w := by kernel_rfl
theorem MapAt.look7 {w : World} {b N : Nat} {F : Nat → Option Value} (h : MapAt Tryz.prog 3 w b N F) {i : Nat} (hi : i < N) (hN : N ≤ 4096) :
    (Instr.lookup 62 (.map (some b)) (.int .i64 (i : Int)) false).run Tryz.prog w = .ok ((F i).getD (.slice none 0 0)) w :=
  h.look Tryz.underlying3 Tryz.underlying62 (zeroSecs w) hi hN
end Dk

set_option maxRecDepth 100000 in
set_option maxHeartbeats 1000000 in
theorem dkSeen_any {w : World} {r m b c : Nat} {g : Nat → Nat} {F : Nat → Option Value} {M : Dk.Md} (h : Dk.Parts w r m b c g F M) {i : Nat} (hi : i < M.lasts.length) :
    Calls Tryz.prog 80 #[.pointer (some ⟨r, 0, none⟩), .int .i64 (i : Int)] w fun e w' => e = .returned (.agg (Lib.byteCells (Dk.seen M i)).toArray) ∧ Below w.heap.size w w' := by
  obtain ⟨z0, hz0⟩ : ∃ z, z = Sm.rowB 64 [] := ⟨_, rfl⟩
  have hz1 := (zero_of_info Dk.zeroSec).1
  rw [← hz0] at hz1
  have hzn : z0.size = 64 := by rw [hz0]; exact Sm.rowB_size (by simp)
  have hn := h.ok.n
  have hlook := (h.alloc (.cells z0 90)).map.look7 hi hn.2
  have hP := h.alloc (.cells z0 90)
  have g0 : (w.alloc (.cells z0 90)).heap[w.heap.size]? = some (.cells z0 90 (0, 0)) := heap_alloc_new w _
  have b0 : Below w.heap.size w (w.alloc (.cells z0 90)) := (Below.refl _ w).alloc (Nat.le_refl _) _
  obtain ⟨N, hN⟩ : ∃ N, N = w.heap.size := ⟨_, rfl⟩
  rw [← hN] at g0 b0 ⊢
  have HN := Lib.hid hN
  clear hz0 hN
  by_cases hw : M.W i = []
  · rw [Dk.seen_last hw]
    rw [h.idle i hi hw] at hlook
    obtain ⟨cs, hcs⟩ : ∃ cs, cs = Lib.byteCells (Dk.last M i) := ⟨_, rfl⟩
    have hcl : cs.length = 64 := by rw [hcs, Lib.byteCells_length, h.ok.last hi]
    have h1 : cs.toArray.all (·.oneCell') = true := by rw [hcs]; exact Sm.bytes_one _
    have hrg := hP.row.range hi
    rw [← hcs]
    have hrg2 : (w.alloc (.cells z0 90)).rangeAt b (i * 64) cs := by rw [hcs]; exact hrg
    have c0 := hP.c0
    have c1 := hP.c1
    have hil : (i : Int) < (M.lasts.length : Int) := by omega
    have RG := Lib.hid hrg2
    have HCL := Lib.hid hcl
    have H1 := Lib.hid h1
    have G0 := Lib.hid g0
    have B0 := Lib.hid b0
    have HZN := Lib.hid hzn
    clear h hcs hcl h1 hrg hrg2 hP g0 b0 hzn
    go_enter Tryz.func80, Tryz.ntmps80
    go_upto_region 1 with (fail)
    clear hz1
    rw [← HN.out]
    generalize w.alloc (.cells z0 90) = W1 at *
    go_wp2_with (first | (with_reducible refine wpList_load_mid rfl 90 _ rfl b (i * 64) rfl cs _ (by exact RG.out) Tryz.underlying90 rfl (Dk.infoSecL HCL.out) ?_) | (with_reducible refine wpList_store_row rfl 90 _ _ rfl N cs.toArray rfl rfl 90 _ (by exact G0.out) (Dk.infoSec (by rw [List.size_toArray]; exact HCL.out)) (by rw [HZN.out, List.size_toArray, HCL.out]) H1.out ?_))
    exact bodyPost_ret (v := .agg cs.toArray) (results_cell_row rfl _ _ N 90 _ (0, 0) _ rfl (setRow_heap _ N _ _ _ _ G0.out) Tryz.underlying90 rfl (Dk.infoSec (by rw [List.size_toArray]; exact HCL.out))) rfl ⟨rfl, Sm.below_setRow B0.out (Nat.le_refl _) _⟩
  · rw [Dk.seen_wait hw]
    obtain ⟨ci, hF, hR⟩ := hP.wait i hi hw
    rw [hF] at hlook
    have hlp : 0 < (M.W i).length := List.length_pos_iff.2 hw
    obtain ⟨k, hk⟩ : ∃ k, (M.W i).length = k + 1 := ⟨(M.W i).length - 1, by omega⟩
    have hlast : (M.W i).getLast hw = (M.W i).getD k [] := by
      rw [List.getLast_eq_getElem, List.getD_eq_getElem?_getD, List.getElem?_eq_getElem (by omega)]
      simp [hk]
    rw [hlast]
    obtain ⟨cs, hcs⟩ : ∃ cs, cs = Lib.byteCells ((M.W i).getD k []) := ⟨_, rfl⟩
    have hcl : cs.length = 64 := by rw [hcs, Lib.byteCells_length]; exact Dk.sec_length hR.sec (by omega)
    have h1 : cs.toArray.all (·.oneCell') = true := by rw [hcs]; exact Sm.bytes_one _
    have hrg := hR.range (show k < (M.W i).length by omega)
    rw [← hcs]
    have hrg2 : (w.alloc (.cells z0 90)).rangeAt (g i) (k * 64) cs := by rw [hcs]; exact hrg
    have hcap := hR.cap
    unfold maxLen at hcap
    have hkm : k + 1 ≤ 9223372036854775807 := by omega
    rw [hk] at hlook
    have c0 := hP.c0
    have c1 := hP.c1
    have e1 : ((k + 1 : Nat) : Int) - 1 = (k : Int) := by omega
    have RG := Lib.hid hrg2
    have HCL := Lib.hid hcl
    have H1 := Lib.hid h1
    have G0 := Lib.hid g0
    have B0 := Lib.hid b0
    have HZN := Lib.hid hzn
    clear h hcs hcl h1 hrg hrg2 hP g0 b0 hzn hcap hR hF hlast hk hlp hw
    go_enter Tryz.func80, Tryz.ntmps80
    go_upto_region 1 with (fail)
    clear hz1
    rw [← HN.out]
    generalize w.alloc (.cells z0 90) = W1 at *
    go_wp2_with (first | (with_reducible refine wpList_load_mid rfl 90 _ rfl (g i) (k * 64) rfl cs _ (by exact RG.out) Tryz.underlying90 rfl (Dk.infoSecL HCL.out) ?_) | (with_reducible refine wpList_store_row rfl 90 _ _ rfl N cs.toArray rfl rfl 90 _ (by exact G0.out) (Dk.infoSec (by rw [List.size_toArray]; exact HCL.out)) (by rw [HZN.out, List.size_toArray, HCL.out]) H1.out ?_))
    exact bodyPost_ret (v := .agg cs.toArray) (results_cell_row rfl _ _ N 90 _ (0, 0) _ rfl (setRow_heap _ N _ _ _ _ G0.out) Tryz.underlying90 rfl (Dk.infoSec (by rw [List.size_toArray]; exact HCL.out))) rfl ⟨rfl, Sm.below_setRow B0.out (Nat.le_refl _) _⟩
end Go.Proofs.YtnmagfodjcookaaGreat

/-
  What disk's New makes.
-/
namespace Go.Proofs.YtnmagfodjcookaaGreat
open Go.RowKit
namespace Dk
theorem info3_sec : (Tryz.prog.info? 90).map (fun i => (i.zero, i.size, i.bytes)) = some (some (.agg (Sm.rowB 64 [])), 64, 64) := by kernel_rfl
theorem rowB_zero : (Sm.rowB 64 []).toList = List.replicate 64 (.int .u8 0) := by simp [Sm.rowB, Lib.byteCells]
theorem flat_blank : ∀ n, flat (List.replicate n blank) = List.replicate (n * 64) (.int .u8 0)
  | 0 => rfl
  | n + 1 => by
    rw [List.replicate_succ, show flat (blank :: List.replicate n blank) = Lib.byteCells blank ++ flat (List.replicate n blank) from rfl, flat_blank n, show Lib.byteCells blank = List.replicate 64 (.int .u8 0) by simp [Lib.byteCells, blank], List.replicate_append_replicate, show (n + 1) * 64 = 64 + n * 64 by omega]
theorem made_blank (n : Nat) : (madeCells (Value.agg (Sm.rowB 64 [])).cells (n * 64)).toList = flat (List.replicate n blank) := by
  rw [flat_blank]
  refine List.ext_getElem? fun i => ?_
  have hz : ∀ j, j < 64 → (Sm.rowB 64 [])[j]? = some (.int .u8 0) := fun j hj => by
    rw [← Array.getElem?_toList, rowB_zero, List.getElem?_replicate, if_pos hj]
  have hs : (Sm.rowB 64 []).size = 64 := Sm.rowB_size (by simp)
  by_cases hi : i < n * 64
  · have := hz (i % 64) (Nat.mod_lt _ (by decide))
    rw [List.getElem?_replicate, if_pos hi]
    simp [madeCells, Value.cells, hs, hi, getElem!_def, this]
  · rw [List.getElem?_replicate, if_neg hi]
    simp [madeCells]
    omega
/-- A disk for which nothing waits. -/
theorem Parts.idleAll {w : World} {r m b c : Nat} {M : Md} (ok : M.Ok) (hd : w.heap[r]? = some (.cells (cells b M.lasts.length c m M.off M.fuse) 64 (0, 0))) (hr : RowAt w b c M.lasts) {F : Nat → Option Value} (hm : MapAt Tryz.prog 3 w m M.lasts.length F) (hF : ∀ i, i < M.lasts.length → F i = none) (hW : M.W = fun _ => []) :
    Parts w r m b c (fun _ => 0) F M :=
  ⟨ok, hd, hr, hm, fun i hi _ => hF i hi, fun i _ h => absurd (by rw [hW]) h, fun i _ h => absurd (by rw [hW]) h, fun i _ _ _ h => absurd (by rw [hW]) h⟩
end Dk
set_option maxRecDepth 100000 in
theorem dkNew_bad (w : World) (n : Int) (h : n < 1 ∨ 4096 < n) :
    Calls Tryz.prog 7 #[.int .i64 n] w fun e w' => e = .returned (.tuple #[.pointer none, .int .i64 1]) ∧ w = w' := by
  by_cases h1 : n < 1
  · go_enter Tryz.func7, Tryz.ntmps7
    go_wp2
    go_ret2
    exact ⟨rfl, rfl⟩
  · have h2 : 4096 < n := by omega
    clear h
    go_enter Tryz.func7, Tryz.ntmps7
    go_wp2
    go_ret2
    exact ⟨rfl, rfl⟩
set_option maxRecDepth 100000 in
set_option maxHeartbeats 1000000 in
theorem dkNew_any (w : World) (n : Nat) (h : 1 ≤ n ∧ n ≤ 4096) :
    Calls Tryz.prog 7 #[.int .i64 (n : Int)] w fun e w' => ∃ r, e = .returned (.tuple #[.pointer (some ⟨r, 0, none⟩), .int .i64 0]) ∧ w.heap.size ≤ r ∧ Dk.DiskAt w' r (fun k => w.heap.size ≤ k ∧ k < w'.heap.size) (Dk.new n) ∧ Below w.heap.size w w' := by
  obtain ⟨i0, hi, hz0, hz1, hz2⟩ := info_parts Dk.info3_sec
  have hmm := @run_makeMap Tryz.prog
  have hn1 : ¬ (n : Int) < 1 := by omega
  have hn2 : ¬ 4096 < (n : Int) := by omega
  go_enter Tryz.func7, Tryz.ntmps7
  go_wp2_with (at_make; refine wpList_make_full _ rfl _ _ 61 rfl w.heap.size 90 i0 _ 64 Tryz.underlying61 hi hz0 hz1 .i64 .i64 n n n rfl rfl rfl rfl (by rw [hz2]; omega) (by unfold maxLen; omega) (Nat.le_refl _) ?_; intro w1 ho hg)
  go_ret2
  obtain ⟨b, c, hv, hrow, hb, _⟩ := Dk.RowAt.of_own (l := List.replicate n Dk.blank) (by rw [← Dk.made_blank]; exact ho) (by simp) (by omega) (fun s hs => by rw [(List.mem_replicate.1 hs).2]; rfl)
  simp only [Value.slice.injEq, Option.some.injEq, Addr.mk.injEq, and_true, List.length_replicate, true_and] at hv
  obtain ⟨rfl, rfl⟩ := hv
  obtain ⟨cs, hcs⟩ : ∃ cs, cs = Dk.cells w.heap.size n n w1.heap.size false (-1) := ⟨_, rfl⟩
  change ∃ r, _ ∧ _ ∧ Dk.DiskAt ((w1.alloc (.map #[] 0)).alloc (.cells (Dk.cells w.heap.size n n w1.heap.size false (-1)) 64)) r (fun k => w.heap.size ≤ k ∧ k < ((w1.alloc (.map #[] 0)).alloc (.cells (Dk.cells w.heap.size n n w1.heap.size false (-1)) 64)).heap.size) _ ∧ Below _ _ ((w1.alloc (.map #[] 0)).alloc (.cells (Dk.cells w.heap.size n n w1.heap.size false (-1)) 64))
  rw [← hcs]
  have hsz : (w1.alloc (.map #[] 0)).heap.size = w1.heap.size + 1 := by simp
  have hsz2 : ((w1.alloc (.map #[] 0)).alloc (.cells cs 64)).heap.size = w1.heap.size + 2 := by simp
  have h1 := hrow.lt
  have hbl : Below w.heap.size w ((w1.alloc (.map #[] 0)).alloc (.cells cs 64)) := ((((Below.refl _ w).grown hg (Nat.le_refl _) (fun k e => by cases e))).alloc (by omega) _).alloc (by omega) _
  refine ⟨w1.heap.size + 1, rfl, by omega, ⟨fun k hk => hk.2, w1.heap.size, w.heap.size, n, fun _ => 0, fun _ => none, Dk.Parts.idleAll (Dk.Md.Ok.new h) ?_ ?_ ?_ (fun _ _ => rfl) rfl, ?_⟩, hbl⟩
  · have := heap_alloc_new (w1.alloc (.map #[] 0)) (.cells cs 64)
    rw [hsz] at this
    rw [this, hcs]
    simp [Dk.new]
  · refine hrow.block ?_
    rw [Below.heap_alloc _ _ _ (by omega), Below.heap_alloc _ _ _ (by omega)]
  · refine (Dk.MapAt.made w1).block ?_
    rw [Below.heap_alloc _ _ _ (by omega)]
  · rintro k (rfl | rfl | rfl | ⟨i, _, hw, _⟩)
    · exact ⟨by omega, by omega⟩
    · exact ⟨by omega, by omega⟩
    · exact ⟨Nat.le_refl _, by omega⟩
    · exact absurd rfl hw
end Go.Proofs.YtnmagfodjcookaaGreat

/-
  append of one sector: in its room, or in a new row.
-/
namespace Go.Proofs.YtnmagfodjcookaaGreat
open Go.RowKit
namespace Dk
/-- A slice of sectors, or none. -/
def SecsAt (w : World) (v : Value) (l : List (List UInt8)) : Prop := (v = .slice none 0 0 ∧ l = []) ∨ ∃ g c, v = .slice (some ⟨g, 0, none⟩) l.length c ∧ RowAt w g c l
theorem SecsAt.own {w : World} {v : Value} {l : List (List UInt8)} (h : SecsAt w v l) {B : Nat} (hB : ∀ g, v.ownBlock = some g → B ≤ g) : w.ownsRow B 90 64 v l.length (flat l) := by
  rcases h with ⟨rfl, rfl⟩ | ⟨g, c, rfl, h⟩
  · exact World.ownsRow_nil _ _ _ _
  · exact h.own (hB g rfl)
theorem RowAt.push {w : World} {g c : Nat} {l : List (List UInt8)} (h : RowAt w g c l) (hr : l.length + 1 ≤ c) {s : List UInt8} (hs : s.length = 64) : RowAt (w.setCells g (l.length * 64) (Lib.byteCells s)) g c (l ++ [s]) := by
  obtain ⟨cur, h1, h2, h3⟩ := h.row
  have hsl : (Lib.byteCells s).length = 64 := by rw [Lib.byteCells_length, hs]
  have hle : l.length * 64 + 64 ≤ c * 64 := by omega
  have hcl : cur.toList.length = c * 64 := by simp [h2]
  refine ⟨⟨_, Sm.heap_setCells (Lib.byteCells s) (l.length * 64) w cur h1 (by rw [hsl, h2]; exact hle), ?_, ?_⟩, by simpa using ⟨hr, h.cap.2⟩, fun x hx => ?_⟩
  · simp [h2]; omega
  · rw [List.length_append, List.length_singleton, flat_append, ← h3, hsl]
    rw [← List.append_assoc, List.take_append_of_le_length (by rw [List.length_append, List.length_take, hsl, hcl]; omega), List.take_of_length_le (by rw [List.length_append, List.length_take, hsl, hcl]; omega)]
    simp [flat]
  · rcases List.mem_append.1 hx with e | e
    · exact h.sec x e
    · simp at e; rw [e]; exact hs
theorem run_append_sec {w : World} {v : Value} {l : List (List UInt8)} (h : SecsAt w v l) {s : List UInt8} (hs : s.length = 64) {N : Nat} (hN : w.rangeAt N 0 (Lib.byteCells s)) (hroom : l.length ≤ 1099511627776) (ty : TypeId) :
    ∃ gi ci w', (Builtin.append_ #[61, 61] ty #[v, .slice (some ⟨N, 0, none⟩) 1 1]).run Tryz.prog w = .ok (.slice (some ⟨gi, 0, none⟩) (l ++ [s]).length ci) w' ∧ RowAt w' gi ci (l ++ [s]) ∧
      ((v.ownBlock = some gi ∧ w.grownBy w' (some gi)) ∨ (w.heap.size ≤ gi ∧ w.grownBy w' none)) := by
  obtain ⟨i0, hie, hiz, his, hib⟩ := info_parts info3_sec
  have hsl : (Lib.byteCells s).length = 64 := by rw [Lib.byteCells_length, hs]
  have hnews : ∀ j u, (Lib.byteCells s)[j]? = some u → w.cell? ((⟨N, 0, none⟩ : Addr).add j) = some u := fun j u hj => by rw [Addr.add_mid]; exact hN j u hj
  have hall : ∀ l2 : List (List UInt8), l2 = l ++ [s] → (∀ x ∈ l, x.length = 64) → ∀ x ∈ l2, x.length = 64 := by
    rintro l2 rfl hl x hx
    rcases List.mem_append.1 hx with e | e
    · exact hl x e
    · simp at e; rw [e]; exact hs
  have hzs : (Value.agg (Sm.rowB 64 [])).cells.size = 64 := by show (Sm.rowB 64 []).size = 64; exact Sm.rowB_size (by simp)
  rcases h with ⟨rfl, rfl⟩ | ⟨g, c, rfl, h⟩
  · obtain ⟨v', w', hrun, ho, hg, _⟩ := run_append_own (P := Tryz.prog) w w.heap.size 61 ty 90 i0 _ 64 64 Tryz.underlying61 hie hiz his hib hzs (by decide) (.slice none 0 0) 0 [] (World.ownsRow_nil _ _ _ _) ⟨N, 0, none⟩ 1 1 (Lib.byteCells s) (by rw [hsl]) hnews (Lib.byteCells_one _) (by unfold maxLen; omega) (by omega) (Nat.le_refl _)
    obtain ⟨gi, ci, rfl, hR, hB, hb⟩ := RowAt.of_own (l := [s]) (by simpa [flat] using ho) (by simp) (by omega) (fun x hx => by simp at hx; rw [hx]; exact hs)
    exact ⟨gi, ci, w', hrun, hR, .inr ⟨hB, hg⟩⟩
  · by_cases hr : l.length + 1 ≤ c
    · have hrun := run_append_room_cells (P := Tryz.prog) w 61 ty 90 i0 Tryz.underlying61 hie g 0 l.length c ⟨N, 0, none⟩ 1 1 (Lib.byteCells s) (by rw [his, hsl]) hnews (Lib.byteCells_one _) hr
        (fun j hj => by
          obtain ⟨cur, h1, h2, _⟩ := h.row
          rw [hsl] at hj
          rw [his, Nat.zero_add]
          have e : cur[l.length * 64 + j]? = some cur[l.length * 64 + j] := Array.getElem?_eq_getElem (by omega)
          simp [World.cell?, h1, e])
        (fun j hj => h.free _)
      rw [his, Nat.zero_add] at hrun
      exact ⟨g, c, _, by rw [hrun]; simp, h.push hr hs, .inl ⟨rfl, Sm.grown_setCells2 (Sm.grown_refl w (some g)) _ _⟩⟩
    · obtain ⟨v', w', hrun, ho, hg⟩ := run_append_arg_grows (P := Tryz.prog) w 61 ty 90 i0 _ 64 64 Tryz.underlying61 hie hiz his hib hzs (by decide) ⟨g, 0, none⟩ l.length c (flat l) (flat_length h.sec)
        (fun j u hj => by
          rw [Addr.add_mid, Nat.zero_add]
          obtain ⟨cur, h1, h2, h3⟩ := h.row
          rw [← h3, List.getElem?_take] at hj
          split at hj
          · simp only [World.cell?, h1]; simpa using hj
          · cases hj)
        ⟨N, 0, none⟩ 1 1 (Lib.byteCells s) (by rw [hsl]) hnews (by omega) (by unfold maxLen; omega) (by omega)
      obtain ⟨gi, ci, rfl, hR, hB, hb⟩ := RowAt.of_own (l := l ++ [s]) (by simpa [flat] using ho) (by simp) (by omega) (hall _ rfl h.sec)
      exact ⟨gi, ci, w', hrun, hR, .inr ⟨hB, hg⟩⟩
theorem wp_append_sec {o : Oper} {a : Act} {w : World} {K : Act → World → Prop} {Q : Exit → Act → World → Prop} (s x : Operand) (ho : o.op = .call { callee := .builtin .append, args := #[s, x], argTypes := #[61, 61] })
    {v : Value} {l : List (List UInt8)} (hs : a.eval s = v) (h : SecsAt w v l) {b : List UInt8} (hb : b.length = 64) {N : Nat} (hx : a.eval x = .slice (some ⟨N, 0, none⟩) 1 1) (hN : w.rangeAt N 0 (Lib.byteCells b)) (hroom : l.length ≤ 1099511627776)
    (hK : ∀ gi ci w', RowAt w' gi ci (l ++ [b]) → ((v.ownBlock = some gi ∧ w.grownBy w' (some gi)) ∨ (w.heap.size ≤ gi ∧ w.grownBy w' none)) → K (a.put o.dst (.slice (some ⟨gi, 0, none⟩) (l ++ [b]).length ci)) w') : o.wp Tryz.prog a w K Q := by
  obtain ⟨gi, ci, w', hr, h1, h2⟩ := run_append_sec h hb hN hroom o.type
  unfold Oper.wp execOp
  simp only [ho, resolve, invoke, builtin, Sem.run_bind, Sem.run_pure, Result.andThen_ok, List.map_toArray, List.map_cons, List.map_nil, hs, hx, hr]
  exact hK gi ci w' h1 h2
end Dk
end Go.Proofs.YtnmagfodjcookaaGreat

/-
  What disk's Write does.
-/
namespace Go.Proofs.YtnmagfodjcookaaGreat
open Go.RowKit
namespace Dk
theorem info_u8s : (Tryz.prog.info? 5).map (·.size) = some 1 := by kernel_rfl
theorem copy_sec {w : World} {N : Nat} {z0 : Array Value} (hz : z0.size = 64) (s : ByteArray) (hs : s.size = 64) (h : w.heap[N]? = some (.cells z0 90 (0, 0))) :
    (Builtin.copy_ #[65, 9] 3 #[.slice (some ⟨N, 0, none⟩) 64 64, .string s]).run Tryz.prog w = .ok (.int .i64 64) (w.setRow N (Lib.byteCells s.data.toList).toArray) := by
  have hl : (Lib.byteCells s.data.toList).length = 64 := by rw [Lib.byteCells_length]; exact hs
  have r := Lib.run_copy_row_string (P := Tryz.prog) w 65 9 3 5 N 0 64 64 s z0 90 Tryz.underlying65 info_u8s h (by omega) (by omega)
  rw [r, hs, List.take_zero, List.nil_append, List.drop_of_length_le (by simp [hz]), List.append_nil]
  rfl
theorem put_same (M : Md) (i : Nat) (l : List UInt8) : (put M i l).W i = M.W i ++ [l] := if_pos rfl
theorem put_other (M : Md) {i j : Nat} (l : List UInt8) (h : j ≠ i) : (put M i l).W j = M.W j := if_neg h
/-- A write more waits for a sector. -/
theorem Parts.put {w w1 : World} {r m b c : Nat} {g : Nat → Nat} {F : Nat → Option Value} {M : Md} (h : Parts w r m b c g F M) {i : Nat} (hi : i < M.lasts.length) {l : List UInt8} (hl : l.length = 64)
    {gi ci : Nat} (hrow : RowAt w1 gi ci (M.W i ++ [l])) (hmap : MapAt Tryz.prog 3 w1 m M.lasts.length (fun j => if j = i then some (.slice (some ⟨gi, 0, none⟩) (M.W i ++ [l]).length ci) else F j))
    (hnew : (M.W i ≠ [] ∧ gi = g i) ∨ w.heap.size ≤ gi) (hk : ∀ k, own r m b g M k → k ≠ m → k ≠ gi → w1.heap[k]? = w.heap[k]?) :
    Parts w1 r m b c (fun j => if j = i then gi else g j) (fun j => if j = i then some (.slice (some ⟨gi, 0, none⟩) (M.W i ++ [l]).length ci) else F j) (put M i l) := by
  have hlt := h.lt
  have gne : ∀ k, own r m b g M k → (∀ j, j < M.lasts.length → M.W j ≠ [] → k = g j → j ≠ i) → k ≠ gi := by
    rintro k hk1 hk2 rfl
    rcases hnew with ⟨hw, e⟩ | e
    · exact hk2 i hi hw e rfl
    · have := hlt k hk1; omega
  have rne : r ≠ gi := gne r (.inl rfl) fun j hj hw e => absurd e.symm (h.ne_gr hj hw)
  have bne : b ≠ gi := gne b (.inr (.inr (.inl rfl))) fun j hj hw e => absurd e.symm (h.apart j hj hw)
  refine ⟨h.ok.put hi hl, (hk r (.inl rfl) h.ne_rm rne).trans h.disk, h.row.block (hk b (.inr (.inr (.inl rfl))) h.ne_bm bne), hmap, fun j hj hw => ?_, fun j hj hw => ?_, fun j hj hw => ?_, fun j k hj hkk hw1 hw2 e => ?_⟩
  · by_cases e : j = i
    · subst e; rw [put_same] at hw; simp at hw
    · rw [put_other M l e] at hw
      rw [if_neg e]
      exact h.idle j hj hw
  · by_cases e : j = i
    · subst e
      rw [put_same, if_pos rfl, if_pos rfl]
      exact ⟨ci, rfl, hrow⟩
    · rw [put_other M l e] at hw ⊢
      rw [if_neg e, if_neg e]
      obtain ⟨cj, e1, e2⟩ := h.wait j hj hw
      refine ⟨cj, e1, e2.block (hk _ (.inr (.inr (.inr ⟨j, hj, hw, rfl⟩))) (h.ne_gm hj hw) (gne _ (.inr (.inr (.inr ⟨j, hj, hw, rfl⟩))) fun k hk3 hw3 e3 e4 => ?_))⟩
      subst e4
      exact e (h.inj j k hj hk3 hw hw3 e3)
  · by_cases e : j = i
    · subst e; rw [if_pos rfl]; exact bne.symm
    · rw [put_other M l e] at hw
      rw [if_neg e]
      exact h.apart j hj hw
  · have other : ∀ a, a < M.lasts.length → a ≠ i → M.W a ≠ [] → g a ≠ gi := fun a ha hne hwa => gne _ (.inr (.inr (.inr ⟨a, ha, hwa, rfl⟩))) fun k hk3 hw3 e3 e4 => by
      subst e4; exact hne (h.inj a k ha hk3 hwa hw3 e3)
    by_cases e1 : j = i
    · by_cases e2 : k = i
      · rw [e1, e2]
      · subst e1
        rw [put_other M l e2] at hw2
        rw [if_neg e2, if_pos rfl] at e
        exact absurd e.symm (other k hkk e2 hw2)
    · by_cases e2 : k = i
      · subst e2
        rw [put_other M l e1] at hw1
        rw [if_neg e1, if_pos rfl] at e
        exact absurd e (other j hj e1 hw1)
      · rw [put_other M l e1] at hw1
        rw [put_other M l e2] at hw2
        rw [if_neg e1, if_neg e2] at e
        exact h.inj j k hj hkk hw1 hw2 e
theorem size64 (f : Nat → Value) : ((Array.range (1 * 64)).map f).size = 64 := by simp
theorem fold_set : ∀ (cs : List Value) (k : Nat) (A : Array Value), k + cs.length ≤ A.size → ((cs.zipIdx k).foldl (fun A x => A.setIfInBounds (0 + x.2) x.1) A).toList = A.toList.take k ++ (cs ++ A.toList.drop (k + cs.length))
  | [], k, A, _ => by simp
  | c :: cs, k, A, h => by
    simp only [List.length_cons] at h
    rw [List.zipIdx_cons, List.foldl_cons, fold_set cs (k + 1) _ (by simp; omega), Nat.zero_add, Array.toList_setIfInBounds]
    have hl : k < A.toList.length := by simp; omega
    have e1 : (A.toList.set k c).take (k + 1) = A.toList.take k ++ [c] := by
      rw [List.take_succ_eq_append_getElem (by simp; omega), List.take_set_of_le (Nat.le_refl _)]
      simp
    rw [e1, List.drop_set_of_lt (by omega), List.length_cons, show k + 1 + cs.length = k + (cs.length + 1) by omega]
    simp
theorem fill_sec (z : Array Value) {cs : List Value} (h : cs.length = 64) (hz : z.size = 64) : Instr.fill (fun i => some (i * 64, 64)) z [(0, .agg cs.toArray)] = some cs.toArray := by
  have e : (Array.foldl (fun (cs : Array Value) (x : Value × Nat) => cs.setIfInBounds (0 + x.2) x.1) z (cs.toArray.zipIdx)) = cs.toArray := by
    rw [← Array.foldl_toList]
    apply Array.ext'
    have h2 := fold_set cs 0 z (by omega)
    rw [List.take_zero, List.nil_append, List.drop_of_length_le (by simp; omega), List.append_nil] at h2
    simpa using h2
  have hc : (Value.agg cs.toArray).cells = cs.toArray := rfl
  unfold Instr.fill
  simp only [hc, List.size_toArray, h, hz, Nat.zero_mul, ne_eq, not_true_eq_false, decide_false, Nat.zero_add, Nat.lt_irrefl, gt_iff_lt, Bool.or_self, Bool.false_eq_true, if_false]
  simp only [Nat.zero_add] at e
  rw [e]
  rfl
theorem wp_mapUpdate_run {P : Program} {o : Oper} {a : Act} {w w' : World} {K : Act → World → Prop} {Q : Exit → Act → World → Prop} (t : TypeId) (m x v : Operand) (ho : o.op = .mapUpdate t m x v) {mv kv vv : Value} (hm : a.eval m = mv) (hx : a.eval x = kv) (hv : a.eval v = vv)
    (hrun : (Instr.mapUpdate t mv kv vv).run P w = .ok () w') (h : K (a.put o.dst undef) w') : o.wp P a w K Q := by
  unfold Oper.wp
  simp [execOp, ho, hm, hx, hv, hrun, Result.andThen]
  exact h
theorem wp_lookup_run {P : Program} {o : Oper} {a : Act} {w : World} {K : Act → World → Prop} {Q : Exit → Act → World → Prop} (t : TypeId) (m x : Operand) (ho : o.op = .lookup t m x false) {mv kv vv : Value} (hm : a.eval m = mv) (hx : a.eval x = kv)
    (hrun : (Instr.lookup t mv kv false).run P w = .ok vv w) (h : K (a.put o.dst vv) w) : o.wp P a w K Q := by
  unfold Oper.wp
  simp [execOp, ho, hm, hx, hrun, Result.andThen]
  exact h
/-- What a map tells of a sector: the list of its writes. -/
theorem Parts.waitRow {w : World} {r m b c : Nat} {g : Nat → Nat} {F : Nat → Option Value} {M : Md} (h : Parts w r m b c g F M) {i : Nat} (hi : i < M.lasts.length) :
    ∃ v, (F i).getD (.slice none 0 0) = v ∧ SecsAt w v (M.W i) ∧ (v.ownBlock = none ∨ (M.W i ≠ [] ∧ v.ownBlock = some (g i))) := by
  by_cases hw : M.W i = []
  · rw [h.idle i hi hw, hw]
    exact ⟨_, rfl, .inl ⟨rfl, rfl⟩, .inl rfl⟩
  · obtain ⟨ci, h1, h2⟩ := h.wait i hi hw
    rw [h1]
    exact ⟨_, rfl, .inr ⟨_, _, rfl, h2⟩, .inr ⟨hw, rfl⟩⟩
end Dk

set_option maxRecDepth 100000 in
theorem dkWrite_none {w : World} {v : Value} (h : Dk.None w v) (i : Int) (s : ByteArray) :
    Calls Tryz.prog 15 #[v, .int .i64 i, .string s] w fun e w' => e = .returned (.int .i64 2) ∧ w = w' := by
  have RE := Lib.hid (dkReady_none h)
  clear h
  go_enter Tryz.func15, Tryz.ntmps15
  go_wp2_with (go_at_call 37; refine RE.out.mono ?_; rintro e w' ⟨rfl, rfl⟩)
  go_ret
  exact ⟨rfl, rfl⟩
set_option maxRecDepth 100000 in
set_option maxHeartbeats 2000000 in
theorem dkWrite_parts {w : World} {r m b c : Nat} {g : Nat → Nat} {F : Nat → Option Value} {M : Dk.Md} (h : Dk.Parts w r m b c g F M) (i : Int) (s : ByteArray) (hroom : (M.W i.toNat).length ≤ 1099511627776) :
    Calls Tryz.prog 15 #[.pointer (some ⟨r, 0, none⟩), .int .i64 i, .string s] w fun e w' => e = .returned (.int .i64 (Dk.write M i s.data.toList).2) ∧
      ∃ g' F', Dk.Parts w' r m b c g' F' (Dk.write M i s.data.toList).1 ∧ (∀ k, Dk.own r m b g' (Dk.write M i s.data.toList).1 k → Dk.own r m b g M k ∨ w.heap.size ≤ k) ∧ Dk.Turned (Dk.own r m b g M) w w' := by
  have RE := Lib.hid (dkReady_any h)
  have HA := Lib.hid (dkHas_any h i)
  have AC := Lib.hid (dkAct_any h)
  have H := Lib.hid h
  have hok := h.ok
  have hsl : s.data.toList.length = s.size := by simp
  cases hoff : M.off
  · rw [hoff] at RE
    cases hth : Dk.there M i
    · have e : Dk.write M i s.data.toList = (M, 1) := by simp [Dk.write, hoff, hth]
      rw [e]; clear e
      rw [hth] at HA
      clear h hok
      go_enter Tryz.func15, Tryz.ntmps15
      go_wp2_with (first | (go_at_call 37; refine RE.out.mono ?_; rintro e w' ⟨rfl, rfl⟩) | (go_at_call 38; refine HA.out.mono ?_; rintro e w' ⟨rfl, rfl⟩))
      go_ret
      exact ⟨rfl, g, F, H.out, fun k hk => .inl hk, Dk.Turned.refl _ _⟩
    · rw [hth] at HA
      by_cases h64 : s.size = 64
      · cases hact : (Dk.act M).2
        · have e : Dk.write M i s.data.toList = ((Dk.act M).1, 14) := by simp [Dk.write, hoff, hth, hsl, h64, hact]
          have eW := Dk.act_W M
          have eL := Dk.act_lasts M
          rw [e]; clear e
          rw [hact] at AC
          clear h hok
          go_enter Tryz.func15, Tryz.ntmps15
          go_wp2_with (first | (go_at_call 37; refine RE.out.mono ?_; rintro e w' ⟨rfl, rfl⟩) | (go_at_call 38; refine HA.out.mono ?_; rintro e w' ⟨rfl, rfl⟩) | (go_at_call 39; refine AC.out.mono ?_; rintro e w1 ⟨rfl, hP1, hg1, hs1⟩))
          go_ret
          exact ⟨rfl, g, F, hP1, fun k hk => .inl (by unfold Dk.own at hk ⊢; rwa [eW, eL] at hk), Dk.Turned.of_grown hg1 (.inl (.inl rfl))⟩
        · obtain ⟨i0, hi0⟩ : ∃ k : Nat, i = (k : Int) := ⟨i.toNat, by have := Dk.there_iff.1 hth; omega⟩
          subst hi0
          have hi : i0 < M.lasts.length := by have := Dk.there_iff.1 hth; omega
          have e : Dk.write M i0 s.data.toList = (Dk.put (Dk.act M).1 i0 s.data.toList, 0) := by simp [Dk.write, hoff, hth, hsl, h64, hact]
          rw [e]; clear e
          rw [hact] at AC
          have hl1 := Dk.act_lasts M
          have hW1 := Dk.act_W M
          have hown1 : Dk.own r m b g (Dk.act M).1 = Dk.own r m b g M := by unfold Dk.own; rw [hl1, hW1]
          rw [Int.toNat_natCast] at hroom
          obtain ⟨M1, hM1⟩ : ∃ M1, M1 = (Dk.act M).1 := ⟨_, rfl⟩
          rw [← hM1] at AC hl1 hW1 hown1 ⊢
          rw [← hW1] at hroom
          have hin1 : i0 < M1.lasts.length := by rw [hl1]; exact hi
          clear hok hM1
          obtain ⟨z0, hz0⟩ : ∃ z, z = Sm.rowB 64 [] := ⟨_, rfl⟩
          have hz1 := (zero_of_info Dk.zeroSec).1
          rw [← hz0] at hz1
          have hzn : z0.size = 64 := by rw [hz0]; exact Sm.rowB_size (by simp)
          obtain ⟨cs, hcs⟩ : ∃ cs, cs = Lib.byteCells s.data.toList := ⟨_, rfl⟩
          have hcl : cs.length = 64 := by rw [hcs, Lib.byteCells_length, hsl, h64]
          have h1 : ∀ v ∈ cs, v.oneCell' = true := by rw [hcs]; exact Lib.byteCells_one _
          have hsz64 : (s.size : Int) = 64 := by omega
          have HZN := Lib.hid hzn
          have HCL := Lib.hid hcl
          have H1 := Lib.hid h1
          have HCS := Lib.hid hcs
          have HIN := Lib.hid hin1
          have HL1 := Lib.hid hl1
          have HW1 := Lib.hid hW1
          have HOWN := Lib.hid hown1
          have HR := Lib.hid hroom
          have HSL := Lib.hid (hsl.trans h64)
          have HI := Lib.hid hi
          clear h hz0 hcs hcl h1 hzn hl1 hW1 hown1 hroom hin1 hsl hi
          go_enter Tryz.func15, Tryz.ntmps15
          go_upto_region 9 with (first | (go_at_call 37; refine RE.out.mono ?_; rintro e w' ⟨rfl, rfl⟩) | (go_at_call 38; refine HA.out.mono ?_; rintro e w' ⟨rfl, rfl⟩) | (go_at_call 39; refine AC.out.mono ?_; rintro e w1 ⟨rfl, hP1, hg1, hs1⟩))
          have HP1 := Lib.hid hP1
          have HG1 := Lib.hid hg1
          clear hP1 hg1 hs1
          have g2 := heap_alloc_new w1 (.cells z0 90)
          have hcp := Dk.copy_sec HZN.out s h64 g2
          rw [← HCS.out] at hcp
          clear g2
          go_upto_region 11 with (fail)
          --STOP
          have HN := heap_alloc_new w1 (.cells z0 90)
          have hP3 : Dk.Parts (((w1.alloc (.cells z0 90)).setRow w1.heap.size cs.toArray)) r m b c g F M1 := (HP1.out.alloc _).keep fun k hk => setRow_other _ _ _ _ (by have := HP1.out.lt k hk; omega)
          have hG3 : ((w1.alloc (.cells z0 90)).setRow w1.heap.size cs.toArray).heap[w1.heap.size]? = some (.cells cs.toArray 90 (0, 0)) := setRow_heap _ _ _ _ _ _ HN
          have hT3 : Dk.Turned (Dk.own r m b g M) w ((w1.alloc (.cells z0 90)).setRow w1.heap.size cs.toArray) := (Dk.Turned.of_grown HG1.out (.inl (.inl rfl))).trans (Dk.Turned.of_below (Sm.below_setRow ((Below.refl w1.heap.size w1).alloc (Nat.le_refl _) _) (Nat.le_refl _) _) (Nat.le_refl _))
          clear HN
          generalize ((w1.alloc (.cells z0 90)).setRow w1.heap.size cs.toArray) = w3 at *
          obtain ⟨N, hN⟩ : ∃ N, N = w1.heap.size := ⟨_, rfl⟩
          rw [← hN] at hG3 ⊢
          have HNS : Hid (w.heap.size ≤ N) := by show _ ≤ _; rw [hN]; exact HG1.out.size
          clear hcp hN HG1 HP1 hz1
          have hn := hP3.ok.n
          have hlook := hP3.drew.map.look7 HIN.out hn.2
          obtain ⟨v0, hv0, hrow0, hob⟩ := hP3.waitRow HIN.out
          rw [hv0] at hlook
          obtain ⟨i0', hie, hiz, his, hib⟩ := info_parts Dk.info3_sec
          have c1 := hP3.c1
          have HP3 := Lib.hid hP3
          have HT3 := Lib.hid hT3
          have HG3 := Lib.hid hG3
          have HOB := Lib.hid hob
          have HV0 := Lib.hid hv0
          have hrg := Sm.range_row hG3
          clear hP3 hT3 hG3 hob
          refine wp_region_held_drew (S := (fun w' => w'.cell? ⟨r, 1, none⟩ = some (.map (some m)) ∧ w'.rangeAt N 0 cs)) (by kernel_rfl) ⟨c1, hrg⟩ (fun hHeld => ?_)
          refine wpAnyH_take (i := 0) (oi := ⟨some 32, _, _, _, _, _⟩) (v := .pointer (some ⟨r, 0, none⟩)) rfl (by kernel_rfl) (by kernel_rfl) (by kernel_rfl) (fun _ _ _ h => h) (Or.inl ⟨by rfl, ?_⟩) (by assumption) ?_
          · intro w hSw; (try dsimp only at hSw); go_simp
          simp only [Act.put, List.setIfInBounds_toArray, List.set_cons_zero, List.set_cons_succ]
          refine wpAnyH_take (i := 1) (oi := ⟨some 33, _, _, _, _, _⟩) (v := .pointer (some ⟨r, 0, none⟩)) rfl (by kernel_rfl) (by kernel_rfl) (by kernel_rfl) (fun _ _ _ h => h) (Or.inl ⟨by rfl, ?_⟩) (by assumption) ?_
          · intro w hSw; (try dsimp only at hSw); go_simp
          simp only [Act.put, List.setIfInBounds_toArray, List.set_cons_zero, List.set_cons_succ]
          refine wpAnyH_take (i := 2) (oi := ⟨some 34, _, _, _, _, _⟩) (v := .pointer (some ⟨r, 1, none⟩)) rfl (by kernel_rfl) (by kernel_rfl) (by kernel_rfl) (fun _ _ _ h => h) (Or.inl ⟨by rfl, ?_⟩) (by assumption) ?_
          · intro w hSw; (try dsimp only at hSw); go_simp
          simp only [Act.put, List.setIfInBounds_toArray, List.set_cons_zero, List.set_cons_succ]
          refine wpAnyH_take (i := 3) (oi := ⟨some 35, _, _, _, _, _⟩) (v := .map (some m)) rfl (by kernel_rfl) (by kernel_rfl) (by kernel_rfl) (fun _ _ _ h => h) (Or.inl ⟨by rfl, ?_⟩) (by assumption) ?_
          · intro w hSw; (try dsimp only at hSw); obtain ⟨s1, s2⟩ := hSw; go_simp
          simp only [Act.put, List.setIfInBounds_toArray, List.set_cons_zero, List.set_cons_succ]
          refine wpAnyH_take (i := 4) (oi := ⟨some 36, _, _, _, _, _⟩) (v := .int .i64 (i0 : Int)) rfl (by kernel_rfl) (by kernel_rfl) (by kernel_rfl) (fun _ _ _ h => h) (Or.inl ⟨by rfl, ?_⟩) (by assumption) ?_
          · intro w hSw; (try dsimp only at hSw); go_simp
          simp only [Act.put, List.setIfInBounds_toArray, List.set_cons_zero, List.set_cons_succ]
          refine wpAnyH_take (i := 5) (oi := ⟨some 37, _, _, _, _, _⟩) (v := .pointer (some ⟨r, 0, none⟩)) rfl (by kernel_rfl) (by kernel_rfl) (by kernel_rfl) (fun _ _ _ h => h) (Or.inl ⟨by rfl, ?_⟩) (by assumption) ?_
          · intro w hSw; (try dsimp only at hSw); go_simp
          simp only [Act.put, List.setIfInBounds_toArray, List.set_cons_zero, List.set_cons_succ]
          refine wpAnyH_take (i := 6) (oi := ⟨some 38, _, _, _, _, _⟩) (v := .pointer (some ⟨r, 0, none⟩)) rfl (by kernel_rfl) (by kernel_rfl) (by kernel_rfl) (fun _ _ _ h => h) (Or.inl ⟨by rfl, ?_⟩) (by assumption) ?_
          · intro w hSw; (try dsimp only at hSw); go_simp
          simp only [Act.put, List.setIfInBounds_toArray, List.set_cons_zero, List.set_cons_succ]
          refine wpAnyH_take (i := 7) (oi := ⟨some 39, _, _, _, _, _⟩) (v := .pointer (some ⟨r, 1, none⟩)) rfl (by kernel_rfl) (by kernel_rfl) (by kernel_rfl) (fun _ _ _ h => h) (Or.inl ⟨by rfl, ?_⟩) (by assumption) ?_
          · intro w hSw; (try dsimp only at hSw); go_simp
          simp only [Act.put, List.setIfInBounds_toArray, List.set_cons_zero, List.set_cons_succ]
          refine wpAnyH_take (i := 8) (oi := ⟨some 40, _, _, _, _, _⟩) (v := .map (some m)) rfl (by kernel_rfl) (by kernel_rfl) (by kernel_rfl) (fun _ _ _ h => h) (Or.inl ⟨by rfl, ?_⟩) (by assumption) ?_
          · intro w hSw; (try dsimp only at hSw); obtain ⟨s1, s2⟩ := hSw; go_simp
          simp only [Act.put, List.setIfInBounds_toArray, List.set_cons_zero, List.set_cons_succ]
          refine wpAnyH_take (i := 9) (oi := ⟨some 41, _, _, _, _, _⟩) (v := .int .i64 (i0 : Int)) rfl (by kernel_rfl) (by kernel_rfl) (by kernel_rfl) (fun _ _ _ h => h) (Or.inl ⟨by rfl, ?_⟩) (by assumption) ?_
          · intro w hSw; (try dsimp only at hSw); go_simp
          simp only [Act.put, List.setIfInBounds_toArray, List.set_cons_zero, List.set_cons_succ]
          refine wpAnyH_take (i := 11) (oi := ⟨some 43, _, _, _, _, _⟩) (v := .agg cs.toArray) rfl (by kernel_rfl) (by kernel_rfl) (by kernel_rfl) (fun _ _ _ h => h) (yieldsIf_load_mid (by rfl) _ _ rfl _ _ rfl cs _ (fun w hS => hS.2) Tryz.underlying90 rfl (Dk.infoSecL HCL.out)) (by assumption) ?_
          simp only [Act.put, List.setIfInBounds_toArray, List.set_cons_zero, List.set_cons_succ]
          refine wpAnyH_ready (rs := [10, 12]) (by kernel_rfl) (by simp) ?_
          refine (AllReadyH.cons (o := ⟨some 42, _, _, _, _, _⟩) rfl (fun K hK => ?_) (AllReadyH.cons (o := ⟨some 44, _, _, _, _, _⟩) rfl (fun K hK => ?_) AllReadyH.nil))
          · rw [if_pos (by simp [Region.wanted])]
            refine Dk.wp_lookup_run 62 (.tmp 40) (.tmp 41) rfl (mv := .map (some m)) (kv := .int .i64 (i0 : Int)) rfl rfl hlook ?_
            refine hK.out _ _ hHeld (fun hHeld => ?_)
            clear hK K
            refine wpAnyH_ready (rs := [12]) (by kernel_rfl) (by simp) ?_
            refine (AllReadyH.cons (o := ⟨some 44, _, _, _, _, _⟩) rfl (fun K hK => ?_) AllReadyH.nil)
            rw [if_pos (by simp [Region.wanted])]
            refine wp_buildSlice 61 90 1 #[(0, .tmp 43)] rfl cs.toArray i0' _ Tryz.underlying61 hie hiz (by rw [his]; decide) (by rw [his]; decide) (by rw [his]; simp only [List.map_toArray, List.map_cons, List.map_nil]; exact Dk.fill_sec _ HCL.out (Dk.size64 _)) ?_
            have hP4 := (HP3.out.drew).alloc (.cells cs.toArray 90)
            have hT4 : Dk.Turned (Dk.own r m b g M) w (w3.drew.alloc (.cells cs.toArray 90)) := HT3.out.drew.alloc _
            have hG4 := heap_alloc_new w3.drew (.cells cs.toArray 90)
            have hN4 : Hid (w.heap.size ≤ w3.drew.heap.size) := HT3.out.size
            obtain ⟨N4, hN4e⟩ : ∃ n, n = w3.drew.heap.size := ⟨_, rfl⟩
            rw [← hN4e] at hG4 hN4 ⊢
            have hHG : (w3.drew.alloc (.cells cs.toArray 90)).heap[N]? = some (.cells cs.toArray 90 (0, 0)) := by rw [Below.heap_alloc w3.drew _ _ (Sm.lt_of HG3.out)]; exact HG3.out
            generalize w3.drew.alloc (.cells cs.toArray 90) = w4 at *
            refine hK.out _ _ ⟨hP4.c1, Sm.range_row hHG⟩ (fun hHeld => ?_)
            clear hK K
            refine wpAnyH_ready (rs := [13]) (by kernel_rfl) (by simp) ?_
            refine (AllReadyH.cons (o := ⟨some 45, _, _, _, _, _⟩) rfl (fun K hK => ?_) AllReadyH.nil)
            obtain ⟨v0', hv0', hrow4, _⟩ := hP4.waitRow HIN.out
            rw [HV0.out] at hv0'
            subst hv0'
            rw [if_pos (by simp [Region.wanted])]
            refine Dk.wp_append_sec (.tmp 42) (.tmp 44) rfl (v := v0) rfl hrow4 (b := s.data.toList) HSL.out (N := N4) rfl (by rw [← HCS.out]; exact Sm.range_row hG4) HR.out ?_
            intro gi ci w5 hR5 hor
            have hbl : w4.grownBy w5 (some gi) := by
              rcases hor with ⟨_, e⟩ | ⟨_, e⟩
              · exact e
              · exact e.but _
            have hown4 := hP4.lt
            have hnew : (M1.W i0 ≠ [] ∧ gi = g i0) ∨ w4.heap.size ≤ gi := by
              rcases hor with ⟨e, _⟩ | ⟨e, _⟩
              · rcases HOB.out with e2 | ⟨e2, e3⟩
                · rw [e2] at e; cases e
                · rw [e3] at e; exact .inl ⟨e2, (Option.some.inj e).symm⟩
              · exact .inr e
            have hrgi : r ≠ gi := by
              rcases hnew with ⟨e1, e2⟩ | e
              · rw [e2]; exact (hP4.ne_gr HIN.out e1).symm
              · have := hown4 r (.inl rfl); omega
            have hmgi : m ≠ gi := by
              rcases hnew with ⟨e1, e2⟩ | e
              · rw [e2]; exact (hP4.ne_gm HIN.out e1).symm
              · have := hown4 m (.inr (.inl rfl)); omega
            have hm5 := hP4.map.block (hbl.block m hP4.map.lt (fun e => hmgi (Option.some.inj e)))
            have c5 : w5.cell? ⟨r, 1, none⟩ = some (.map (some m)) := by
              rw [World.cell?_of_block (hbl.block r (Sm.lt_of hP4.disk) (fun e => hrgi (Option.some.inj e)))]; exact hP4.c1
            have hN5 : w5.rangeAt N 0 cs := fun j u hj => by
              have hNg : N ≠ gi := by
                rcases hnew with ⟨e1, e2⟩ | e
                · have := H.out.lt (g i0) (.inr (.inr (.inr ⟨i0, HI.out, by rw [← HW1.out]; exact e1, rfl⟩)))
                  have := HNS.out
                  omega
                · have := Sm.lt_of hHG; omega
              rw [World.cell?_of_block (a := ⟨N, 0 + j, none⟩) (hbl.block N (Sm.lt_of hHG) (fun e => hNg (Option.some.inj e)))]
              exact Sm.range_row hHG j u hj
            refine hK.out _ _ ⟨c5, hN5⟩ (fun hHeld => ?_)
            clear hK K
            refine wpAnyH_ready (rs := [14]) (by kernel_rfl) (by simp) ?_
            refine (AllReadyH.cons (o := ⟨none, _, _, _, _, _⟩) rfl (fun K hK => ?_) AllReadyH.nil)
            obtain ⟨w6, hrun6, hm6, ht6⟩ := hm5.store Tryz.underlying3 Tryz.underlying62 HIN.out hn.2 (.slice (some ⟨gi, 0, none⟩) (M1.W i0 ++ [s.data.toList]).length ci)
            have hR6 : Dk.RowAt w6 gi ci (M1.W i0 ++ [s.data.toList]) := hR5.block (ht6.grown.block gi hR5.lt (fun e => hmgi (Option.some.inj e).symm))
            have hP6 := hP4.put HIN.out HSL.out hR6 hm6 hnew (fun k hk hk1 hk2 => by
              rw [ht6.grown.block k (Nat.lt_of_lt_of_le (hown4 k hk) hbl.size) (fun e => hk1 (Option.some.inj e))]
              exact hbl.block k (hown4 k hk) (fun e => hk2 (Option.some.inj e)))
            have hT5 : Dk.Turned (Dk.own r m b g M) w w5 := hT4.andThen (Dk.Turned.of_grown hbl (by
              rcases hnew with ⟨e1, e2⟩ | e
              · exact .inl (.inl (.inr (.inr (.inr ⟨i0, HI.out, by rw [← HW1.out]; exact e1, e2⟩))))
              · exact .inr e))
            have hT6 : Dk.Turned (Dk.own r m b g M) w w6 := hT5.trans (Dk.Turned.of_map ht6 (.inl (.inr (.inl rfl))))
            have hown : ∀ k, Dk.own r m b (fun j => if j = i0 then gi else g j) (Dk.put M1 i0 s.data.toList) k → Dk.own r m b g M k ∨ w.heap.size ≤ k := by
              rintro k (e | e | e | ⟨j, hj, hw, rfl⟩)
              · exact .inl (.inl e)
              · exact .inl (.inr (.inl e))
              · exact .inl (.inr (.inr (.inl e)))
              · have hj' : j < M.lasts.length := by rw [← HL1.out]; exact hj
                by_cases hji : j = i0
                · simp only [if_pos hji]
                  rcases hnew with ⟨e1, e2⟩ | e
                  · exact .inl (.inr (.inr (.inr ⟨i0, HI.out, by rw [← HW1.out]; exact e1, e2⟩)))
                  · right; have := hT4.size; omega
                · simp only [if_neg hji]
                  rw [Dk.put_other _ _ hji, HW1.out] at hw
                  exact .inl (.inr (.inr (.inr ⟨j, hj', hw, rfl⟩)))
            have HP6 := Lib.hid hP6
            have HT6 := Lib.hid hT6
            have HO6 := Lib.hid hown
            have hc6 : w6.cell? ⟨r, 1, none⟩ = some (.map (some m)) := hP6.c1
            have hlast : M1.lasts.length = (Dk.put M1 i0 s.data.toList).lasts.length := rfl
            rw [if_pos (by simp [Region.wanted])]
            refine Dk.wp_mapUpdate_run 62 (.tmp 35) (.tmp 36) (.tmp 45) rfl (mv := .map (some m)) (kv := .int .i64 (i0 : Int)) (vv := .slice (some ⟨gi, 0, none⟩) (M1.W i0 ++ [s.data.toList]).length ci) rfl rfl rfl hrun6 ?_
            have hN6 : w6.rangeAt N 0 cs := fun j u hj => by
              have hNm : N ≠ m := by obtain ⟨es, k, hm⟩ := hP4.map.kind; exact Dk.ne_map hHG hm
              rw [World.cell?_of_block (a := ⟨N, 0 + j, none⟩) (ht6.grown.block N (Nat.lt_of_lt_of_le (Sm.lt_of hHG) hbl.size) (fun e => hNm (Option.some.inj e)))]
              exact hN5 j u hj
            refine hK.out _ _ ⟨hc6, hN6⟩ (fun hHeld => ?_)
            clear hK K
            refine wpAnyH_done (by kernel_rfl) ?_ _
            go_wp2
            go_ret
            exact ⟨rfl, _, _, HP6.out, HO6.out, HT6.out⟩
          · rw [if_pos (by simp [Region.wanted])]
            refine wp_buildSlice 61 90 1 #[(0, .tmp 43)] rfl cs.toArray i0' _ Tryz.underlying61 hie hiz (by rw [his]; decide) (by rw [his]; decide) (by rw [his]; simp only [List.map_toArray, List.map_cons, List.map_nil]; exact Dk.fill_sec _ HCL.out (Dk.size64 _)) ?_
            have hP4 := (HP3.out.drew).alloc (.cells cs.toArray 90)
            have hT4 : Dk.Turned (Dk.own r m b g M) w (w3.drew.alloc (.cells cs.toArray 90)) := HT3.out.drew.alloc _
            have hG4 := heap_alloc_new w3.drew (.cells cs.toArray 90)
            have hN4 : Hid (w.heap.size ≤ w3.drew.heap.size) := HT3.out.size
            obtain ⟨N4, hN4e⟩ : ∃ n, n = w3.drew.heap.size := ⟨_, rfl⟩
            rw [← hN4e] at hG4 hN4 ⊢
            have hHG : (w3.drew.alloc (.cells cs.toArray 90)).heap[N]? = some (.cells cs.toArray 90 (0, 0)) := by rw [Below.heap_alloc w3.drew _ _ (Sm.lt_of HG3.out)]; exact HG3.out
            generalize w3.drew.alloc (.cells cs.toArray 90) = w4 at *
            refine hK.out _ _ ⟨hP4.c1, Sm.range_row hHG⟩ (fun hHeld => ?_)
            clear hK K
            refine wpAnyH_ready (rs := [10]) (by kernel_rfl) (by simp) ?_
            refine (AllReadyH.cons (o := ⟨some 42, _, _, _, _, _⟩) rfl (fun K hK => ?_) AllReadyH.nil)
            rw [if_pos (by simp [Region.wanted])]
            refine Dk.wp_lookup_run 62 (.tmp 40) (.tmp 41) rfl (mv := .map (some m)) (kv := .int .i64 (i0 : Int)) rfl rfl (by have := hP4.map.look7 HIN.out hn.2; rw [HV0.out] at this; exact this) ?_
            refine hK.out _ _ hHeld (fun hHeld => ?_)
            clear hK K
            refine wpAnyH_ready (rs := [13]) (by kernel_rfl) (by simp) ?_
            refine (AllReadyH.cons (o := ⟨some 45, _, _, _, _, _⟩) rfl (fun K hK => ?_) AllReadyH.nil)
            obtain ⟨v0', hv0', hrow4, _⟩ := hP4.waitRow HIN.out
            rw [HV0.out] at hv0'
            subst hv0'
            rw [if_pos (by simp [Region.wanted])]
            refine Dk.wp_append_sec (.tmp 42) (.tmp 44) rfl (v := v0) rfl hrow4 (b := s.data.toList) HSL.out (N := N4) rfl (by rw [← HCS.out]; exact Sm.range_row hG4) HR.out ?_
            intro gi ci w5 hR5 hor
            have hbl : w4.grownBy w5 (some gi) := by
              rcases hor with ⟨_, e⟩ | ⟨_, e⟩
              · exact e
              · exact e.but _
            have hown4 := hP4.lt
            have hnew : (M1.W i0 ≠ [] ∧ gi = g i0) ∨ w4.heap.size ≤ gi := by
              rcases hor with ⟨e, _⟩ | ⟨e, _⟩
              · rcases HOB.out with e2 | ⟨e2, e3⟩
                · rw [e2] at e; cases e
                · rw [e3] at e; exact .inl ⟨e2, (Option.some.inj e).symm⟩
              · exact .inr e
            have hrgi : r ≠ gi := by
              rcases hnew with ⟨e1, e2⟩ | e
              · rw [e2]; exact (hP4.ne_gr HIN.out e1).symm
              · have := hown4 r (.inl rfl); omega
            have hmgi : m ≠ gi := by
              rcases hnew with ⟨e1, e2⟩ | e
              · rw [e2]; exact (hP4.ne_gm HIN.out e1).symm
              · have := hown4 m (.inr (.inl rfl)); omega
            have hm5 := hP4.map.block (hbl.block m hP4.map.lt (fun e => hmgi (Option.some.inj e)))
            have c5 : w5.cell? ⟨r, 1, none⟩ = some (.map (some m)) := by
              rw [World.cell?_of_block (hbl.block r (Sm.lt_of hP4.disk) (fun e => hrgi (Option.some.inj e)))]; exact hP4.c1
            have hN5 : w5.rangeAt N 0 cs := fun j u hj => by
              have hNg : N ≠ gi := by
                rcases hnew with ⟨e1, e2⟩ | e
                · have := H.out.lt (g i0) (.inr (.inr (.inr ⟨i0, HI.out, by rw [← HW1.out]; exact e1, rfl⟩)))
                  have := HNS.out
                  omega
                · have := Sm.lt_of hHG; omega
              rw [World.cell?_of_block (a := ⟨N, 0 + j, none⟩) (hbl.block N (Sm.lt_of hHG) (fun e => hNg (Option.some.inj e)))]
              exact Sm.range_row hHG j u hj
            refine hK.out _ _ ⟨c5, hN5⟩ (fun hHeld => ?_)
            clear hK K
            refine wpAnyH_ready (rs := [14]) (by kernel_rfl) (by simp) ?_
            refine (AllReadyH.cons (o := ⟨none, _, _, _, _, _⟩) rfl (fun K hK => ?_) AllReadyH.nil)
            obtain ⟨w6, hrun6, hm6, ht6⟩ := hm5.store Tryz.underlying3 Tryz.underlying62 HIN.out hn.2 (.slice (some ⟨gi, 0, none⟩) (M1.W i0 ++ [s.data.toList]).length ci)
            have hR6 : Dk.RowAt w6 gi ci (M1.W i0 ++ [s.data.toList]) := hR5.block (ht6.grown.block gi hR5.lt (fun e => hmgi (Option.some.inj e).symm))
            have hP6 := hP4.put HIN.out HSL.out hR6 hm6 hnew (fun k hk hk1 hk2 => by
              rw [ht6.grown.block k (Nat.lt_of_lt_of_le (hown4 k hk) hbl.size) (fun e => hk1 (Option.some.inj e))]
              exact hbl.block k (hown4 k hk) (fun e => hk2 (Option.some.inj e)))
            have hT5 : Dk.Turned (Dk.own r m b g M) w w5 := hT4.andThen (Dk.Turned.of_grown hbl (by
              rcases hnew with ⟨e1, e2⟩ | e
              · exact .inl (.inl (.inr (.inr (.inr ⟨i0, HI.out, by rw [← HW1.out]; exact e1, e2⟩))))
              · exact .inr e))
            have hT6 : Dk.Turned (Dk.own r m b g M) w w6 := hT5.trans (Dk.Turned.of_map ht6 (.inl (.inr (.inl rfl))))
            have hown : ∀ k, Dk.own r m b (fun j => if j = i0 then gi else g j) (Dk.put M1 i0 s.data.toList) k → Dk.own r m b g M k ∨ w.heap.size ≤ k := by
              rintro k (e | e | e | ⟨j, hj, hw, rfl⟩)
              · exact .inl (.inl e)
              · exact .inl (.inr (.inl e))
              · exact .inl (.inr (.inr (.inl e)))
              · have hj' : j < M.lasts.length := by rw [← HL1.out]; exact hj
                by_cases hji : j = i0
                · simp only [if_pos hji]
                  rcases hnew with ⟨e1, e2⟩ | e
                  · exact .inl (.inr (.inr (.inr ⟨i0, HI.out, by rw [← HW1.out]; exact e1, e2⟩)))
                  · right; have := hT4.size; omega
                · simp only [if_neg hji]
                  rw [Dk.put_other _ _ hji, HW1.out] at hw
                  exact .inl (.inr (.inr (.inr ⟨j, hj', hw, rfl⟩)))
            have HP6 := Lib.hid hP6
            have HT6 := Lib.hid hT6
            have HO6 := Lib.hid hown
            have hc6 : w6.cell? ⟨r, 1, none⟩ = some (.map (some m)) := hP6.c1
            have hlast : M1.lasts.length = (Dk.put M1 i0 s.data.toList).lasts.length := rfl
            rw [if_pos (by simp [Region.wanted])]
            refine Dk.wp_mapUpdate_run 62 (.tmp 35) (.tmp 36) (.tmp 45) rfl (mv := .map (some m)) (kv := .int .i64 (i0 : Int)) (vv := .slice (some ⟨gi, 0, none⟩) (M1.W i0 ++ [s.data.toList]).length ci) rfl rfl rfl hrun6 ?_
            have hN6 : w6.rangeAt N 0 cs := fun j u hj => by
              have hNm : N ≠ m := by obtain ⟨es, k, hm⟩ := hP4.map.kind; exact Dk.ne_map hHG hm
              rw [World.cell?_of_block (a := ⟨N, 0 + j, none⟩) (ht6.grown.block N (Nat.lt_of_lt_of_le (Sm.lt_of hHG) hbl.size) (fun e => hNm (Option.some.inj e)))]
              exact hN5 j u hj
            refine hK.out _ _ ⟨hc6, hN6⟩ (fun hHeld => ?_)
            clear hK K
            refine wpAnyH_done (by kernel_rfl) ?_ _
            go_wp2
            go_ret
            exact ⟨rfl, _, _, HP6.out, HO6.out, HT6.out⟩
      · have e : Dk.write M i s.data.toList = (M, 1) := by simp [Dk.write, hoff, hth, hsl, h64]
        rw [e]; clear e
        have hne : ¬ (s.size : Int) = 64 := by omega
        clear h hok
        go_enter Tryz.func15, Tryz.ntmps15
        go_wp2_with (first | (go_at_call 37; refine RE.out.mono ?_; rintro e w' ⟨rfl, rfl⟩) | (go_at_call 38; refine HA.out.mono ?_; rintro e w' ⟨rfl, rfl⟩))
        go_ret
        exact ⟨rfl, g, F, H.out, fun k hk => .inl hk, Dk.Turned.refl _ _⟩
  · rw [hoff] at RE
    have e : Dk.write M i s.data.toList = (M, 14) := by simp [Dk.write, hoff]
    rw [e]; clear e
    clear h hok
    go_enter Tryz.func15, Tryz.ntmps15
    go_wp2_with (first | (go_at_call 37; refine RE.out.mono ?_; rintro e w' ⟨rfl, rfl⟩))
    go_ret
    exact ⟨rfl, g, F, H.out, fun k hk => .inl hk, Dk.Turned.refl _ _⟩
end Go.Proofs.YtnmagfodjcookaaGreat

/-
  What disk's Read tells.
-/
namespace Go.Proofs.YtnmagfodjcookaaGreat
open Go.RowKit
namespace Dk
theorem conv_sec {w : World} {N : Nat} {l : List UInt8} (h : w.heap[N]? = some (.cells (Lib.byteCells l).toArray 90 (0, 0))) (hl : l.length = 64) :
    (convert 65 9 (.slice (some ⟨N, 0, none⟩) 64 64)).run Tryz.prog w = .ok (.string ⟨l.toArray⟩) w := Sm.conv_row h hl
end Dk
set_option maxRecDepth 100000 in
theorem dkRead_none {w : World} {v : Value} (h : Dk.None w v) (i : Int) :
    Calls Tryz.prog 70 #[v, .int .i64 i] w fun e w' => e = .returned (.tuple #[.string ⟨#[]⟩, .int .i64 2]) ∧ w = w' := by
  have RE := Lib.hid (dkReady_none h)
  clear h
  go_enter Tryz.func70, Tryz.ntmps70
  go_wp2_with (go_at_call 37; refine RE.out.mono ?_; rintro e w' ⟨rfl, rfl⟩)
  go_ret2
  exact ⟨rfl, rfl⟩
set_option maxRecDepth 100000 in
set_option maxHeartbeats 1000000 in
theorem dkRead_parts {w : World} {r m b c : Nat} {g : Nat → Nat} {F : Nat → Option Value} {M : Dk.Md} (h : Dk.Parts w r m b c g F M) (i : Int) :
    Calls Tryz.prog 70 #[.pointer (some ⟨r, 0, none⟩), .int .i64 i] w fun e w' => e = .returned (.tuple #[.string ⟨(Dk.readOf M i).1.toArray⟩, .int .i64 (Dk.readOf M i).2]) ∧ Below w.heap.size w w' := by
  have RE := Lib.hid (dkReady_any h)
  have HA := Lib.hid (dkHas_any h i)
  cases hoff : M.off
  · rw [hoff] at RE
    cases hth : Dk.there M i
    · have e : Dk.readOf M i = ([], 1) := by simp [Dk.readOf, hoff, hth]
      rw [e]; clear e
      rw [hth] at HA
      clear h
      go_enter Tryz.func70, Tryz.ntmps70
      go_wp2_with (first | (go_at_call 37; refine RE.out.mono ?_; rintro e w' ⟨rfl, rfl⟩) | (go_at_call 38; refine HA.out.mono ?_; rintro e w' ⟨rfl, rfl⟩))
      go_ret2
      exact ⟨rfl, Below.refl _ _⟩
    · rw [hth] at HA
      obtain ⟨i0, hi0⟩ : ∃ k : Nat, i = (k : Int) := ⟨i.toNat, by have := Dk.there_iff.1 hth; omega⟩
      subst hi0
      have hi : i0 < M.lasts.length := by have := Dk.there_iff.1 hth; omega
      have e : Dk.readOf M i0 = (Dk.seen M i0, 0) := by simp [Dk.readOf, hoff, hth]
      rw [e]; clear e
      obtain ⟨l, hl⟩ : ∃ l, l = Dk.seen M i0 := ⟨_, rfl⟩
      have SE := dkSeen_any h hi
      have hll : l.length = 64 := by rw [hl]; exact h.ok.seen hi
      rw [← hl] at SE ⊢
      obtain ⟨cs, hcs⟩ : ∃ cs, cs = Lib.byteCells l := ⟨_, rfl⟩
      rw [← hcs] at SE
      have SE := Lib.hid SE
      have hcl : cs.length = 64 := by rw [hcs, Lib.byteCells_length, hll]
      have h1 : cs.toArray.all (·.oneCell') = true := by rw [hcs]; exact Sm.bytes_one _
      obtain ⟨z0, hz0⟩ : ∃ z, z = Sm.rowB 64 [] := ⟨_, rfl⟩
      have hz1 := (zero_of_info Dk.zeroSec).1
      rw [← hz0] at hz1
      have hzn : z0.size = 64 := by rw [hz0]; exact Sm.rowB_size (by simp)
      have HZN := Lib.hid hzn
      have HCL := Lib.hid hcl
      have H1 := Lib.hid h1
      have HCS := Lib.hid hcs
      clear h hl hz0 hcs hcl h1 hzn hi
      go_enter Tryz.func70, Tryz.ntmps70
      go_upto_region 6 with (first | (go_at_call 37; refine RE.out.mono ?_; rintro e w' ⟨rfl, rfl⟩) | (go_at_call 38; refine HA.out.mono ?_; rintro e w' ⟨rfl, rfl⟩))
      go_wp2_with fail
      refine (SE.out).mono ?_
      rintro e w1 ⟨rfl, hb1⟩
      have hg := heap_alloc_new w1 (.cells z0 90)
      have hbl : Below w.heap.size w (w1.alloc (.cells z0 90)) := hb1.alloc hb1.size _
      have hNw := hb1.size
      have hset := setRow_heap _ _ _ cs.toArray _ _ hg
      have hcv : (convert 65 9 (.slice (some ⟨w1.heap.size, 0, none⟩) 64 64)).run Tryz.prog ((w1.alloc (.cells z0 90)).setRow w1.heap.size cs.toArray) = .ok (.string ⟨l.toArray⟩) ((w1.alloc (.cells z0 90)).setRow w1.heap.size cs.toArray) := by
        rw [HCS.out] at hset ⊢
        exact Dk.conv_sec hset hll
      have hbl2 : Below w.heap.size w ((w1.alloc (.cells z0 90)).setRow w1.heap.size cs.toArray) := Sm.below_setRow hbl hNw _
      have G := Lib.hid hg
      have B2 := Lib.hid hbl2
      clear hg hbl2 hbl hset hb1 hNw
      go_wp2_with (first | (with_reducible refine wpList_store_row rfl 90 _ _ rfl w1.heap.size cs.toArray rfl rfl 90 _ (by exact G.out) (Dk.infoSec (by rw [List.size_toArray]; exact HCL.out)) (by rw [HZN.out, List.size_toArray, HCL.out]) H1.out ?_))
      go_ret2
      exact ⟨rfl, B2.out⟩
  · rw [hoff] at RE
    have e : Dk.readOf M i = ([], 14) := by simp [Dk.readOf, hoff]
    rw [e]; clear e
    clear h
    go_enter Tryz.func70, Tryz.ntmps70
    go_wp2_with (first | (go_at_call 37; refine RE.out.mono ?_; rintro e w' ⟨rfl, rfl⟩))
    go_ret2
    exact ⟨rfl, Below.refl _ _⟩
end Go.Proofs.YtnmagfodjcookaaGreat

/-
  What disk's chosen tells, and Waits.
-/
namespace Go.Proofs.YtnmagfodjcookaaGreat
open Go.RowKit
namespace Dk
/-- A slice of numbers. -/
def IntsAt (w : World) (v : Value) (l : List Int) : Prop := ∃ A c, v = .slice A l.length c ∧ l.length ≤ 9223372036854775807 ∧ (∀ i, -9223372036854775808 ≤ l.getD i 0 ∧ l.getD i 0 ≤ 9223372036854775807) ∧
  (l = [] ∨ ∃ b o, A = some ⟨b, o, none⟩ ∧ b < w.heap.size ∧ ∀ i, i < l.length → w.cell? ⟨b, o + i, none⟩ = some (.int .i64 (l.getD i 0)))
theorem IntsAt.block {w w' : World} {v : Value} {l : List Int} (h : IntsAt w v l) (k : l ≠ [] → ∀ b o A n c, v = .slice A n c → A = some ⟨b, o, none⟩ → b < w.heap.size → w'.heap[b]? = w.heap[b]?) (hs : w.heap.size ≤ w'.heap.size) : IntsAt w' v l := by
  obtain ⟨A, c, h1, h2, h3, h4⟩ := h
  by_cases e : l = []
  · exact ⟨A, c, h1, h2, h3, .inl e⟩
  · rcases h4 with h4 | ⟨b, o, h5, h6, h7⟩
    · exact absurd h4 e
    · exact ⟨A, c, h1, h2, h3, .inr ⟨b, o, h5, by omega, fun i hi => by rw [World.cell?_of_block (a := ⟨b, o + i, none⟩) (k e b o A _ c h1 h5 h6)]; exact h7 i hi⟩⟩
theorem IntsAt.below {w w' : World} {v : Value} {l : List Int} (h : IntsAt w v l) (k : Below w.heap.size w w') : IntsAt w' v l := h.block (fun _ b _ _ _ _ _ _ hb => k.block b hb) k.size
theorem tmod_emod (a : Int) (n : Nat) : (if a.tmod ((n : Int) + 1) < 0 then a.tmod ((n : Int) + 1) + ((n : Int) + 1) else a.tmod ((n : Int) + 1)) = a % ((n : Int) + 1) := by
  have h1 := Int.emod_nonneg a (show ((n : Int) + 1) ≠ 0 by omega)
  have h2 := Int.emod_lt_of_pos a (show (0 : Int) < (n : Int) + 1 by omega)
  rw [Int.tmod_eq_emod]
  have e : ((n : Int) + 1).natAbs = n + 1 := by omega
  rw [e]
  split <;> split <;> omega
theorem chosen_eq (l : List Int) (k n : Nat) : ((chosen l k n : Nat) : Int) = l.getD k 0 % ((n : Int) + 1) := by
  unfold chosen
  have := Int.emod_nonneg (l.getD k 0) (show ((n : Int) + 1) ≠ 0 by omega)
  omega
theorem sum_same : ∀ (N : Nat) {f f' : Nat → Nat}, (∀ j, j < N → f' j = f j) → ((List.range N).map f').sum = ((List.range N).map f).sum
  | 0, _, _, _ => rfl
  | N + 1, f, f', h => by
    rw [List.range_succ, List.map_append, List.map_append, List.sum_append, List.sum_append, sum_same N (fun j hj => h j (by omega))]
    simp [h N (by omega)]
theorem sum_at : ∀ (N : Nat) {f f' : Nat → Nat} {i d : Nat}, i < N → (∀ j, j ≠ i → f' j = f j) → f' i = f i + d → ((List.range N).map f').sum = ((List.range N).map f).sum + d
  | 0, _, _, _, _, h, _, _ => absurd h (by omega)
  | N + 1, f, f', i, d, hi, h1, h2 => by
    rw [List.range_succ, List.map_append, List.map_append, List.sum_append, List.sum_append]
    by_cases e : i = N
    · subst e
      rw [sum_same i (fun j hj => h1 j (by omega))]
      simp [h2]; omega
    · rw [sum_at N (by omega) h1 h2]
      simp [h1 N (fun e2 => e e2.symm)]; omega
theorem sum_le : ∀ (N : Nat) {f f' : Nat → Nat}, (∀ j, j < N → f j ≤ f' j) → ((List.range N).map f).sum ≤ ((List.range N).map f').sum
  | 0, _, _, _ => Nat.le_refl _
  | N + 1, f, f', h => by
    rw [List.range_succ, List.map_append, List.map_append, List.sum_append, List.sum_append]
    have := sum_le N (f := f) (f' := f') (fun j hj => h j (by omega))
    have := h N (by omega)
    simp; omega
/-- The writes of the sectors that are told already. -/
def told (M : Md) (left : Nat → Bool) : Nat := ((List.range M.lasts.length).map fun i => if left i then 0 else (M.W i).length).sum
theorem told_le (M : Md) (left : Nat → Bool) : told M left ≤ waits M := sum_le _ fun j _ => by split <;> omega
end Dk
set_option maxRecDepth 100000 in
theorem dkChosen_any {w : World} {v : Value} {l : List Int} (h : Dk.IntsAt w v l) (k n : Nat) (hn : n ≤ 1099511627776) :
    Calls Tryz.prog 66 #[v, .int .i64 (k : Int), .int .i64 (n : Int)] w fun e w' => e = .returned (.int .i64 (Dk.chosen l k n : Nat)) ∧ w = w' := by
  rw [Dk.chosen_eq]
  obtain ⟨A, c, rfl, hl, hb, hA⟩ := h
  by_cases hkl : k < l.length
  · rcases hA with rfl | ⟨b, o, rfl, _, hc⟩
    · simp at hkl
    have hcell := hc k hkl
    have hbk := hb k
    rw [← Dk.tmod_emod]
    clear hc hb
    generalize l.getD k 0 = x at *
    have hx1 : -((n : Int) + 1) < x.tmod ((n : Int) + 1) ∧ x.tmod ((n : Int) + 1) < (n : Int) + 1 := by
      have := Int.tmod_lt_of_pos x (show (0 : Int) < (n : Int) + 1 by omega)
      have := Int.lt_tmod_of_pos x (show (0 : Int) < (n : Int) + 1 by omega)
      omega
    have hw0 : IntKind.i64.wrap ((n : Int) + 1) = (n : Int) + 1 := by simp [IntKind.wrap, IntKind.bits, IntKind.signed]; omega
    have hw1 : IntKind.i64.wrap (x.tmod ((n : Int) + 1)) = x.tmod ((n : Int) + 1) := by
      generalize x.tmod ((n : Int) + 1) = y at *
      simp [IntKind.wrap, IntKind.bits, IntKind.signed]; omega
    have hw2 : IntKind.i64.wrap (x.tmod ((n : Int) + 1) + ((n : Int) + 1)) = x.tmod ((n : Int) + 1) + ((n : Int) + 1) := by
      generalize x.tmod ((n : Int) + 1) = y at *
      simp [IntKind.wrap, IntKind.bits, IntKind.signed]; omega
    have hne : ¬ ((n : Int) + 1 = 0) := by omega
    have hkl2 : (k : Int) < (l.length : Int) := by omega
    by_cases hneg : x.tmod ((n : Int) + 1) < 0
    · rw [if_pos hneg]
      go_enter Tryz.func66, Tryz.ntmps66
      go_wp2
      go_ret
      exact ⟨rfl, rfl⟩
    · rw [if_neg hneg]
      go_enter Tryz.func66, Tryz.ntmps66
      go_wp2
      go_ret
      exact ⟨rfl, rfl⟩
  · rw [List.getD_eq_getElem?_getD, List.getElem?_eq_none (by omega)]
    have hkl2 : ¬ (k : Int) < (l.length : Int) := by omega
    have e : (none : Option Int).getD 0 % ((n : Int) + 1) = 0 := by simp
    rw [e]
    clear hA hb
    go_enter Tryz.func66, Tryz.ntmps66
    go_wp2
    go_ret
    exact ⟨rfl, rfl⟩
end Go.Proofs.YtnmagfodjcookaaGreat

/-
  What disk's Sync does.
-/
namespace Go.Proofs.YtnmagfodjcookaaGreat
open Go.RowKit
namespace Dk
theorem part_lasts {M : Md} {f : Nat → List UInt8} {done : Nat → Bool} {i : Nat} (hi : i < M.lasts.length) : (part M f (fun j => done j || decide (j = i))).lasts = (part M f done).lasts.set i (f i) := by
  refine List.ext_getElem? fun k => ?_
  simp only [part, List.getElem?_map, List.getElem?_set, List.length_map, List.length_range]
  by_cases hk : k < M.lasts.length
  · rw [List.getElem?_range hk]
    by_cases e : i = k
    · subst e; simp [hk]
    · rw [if_neg e]
      have e2 : ¬ k = i := fun x => e x.symm
      simp [e2]
  · rw [List.getElem?_eq_none (by simpa using hk)]
    simp
    omega
theorem part_len {M : Md} {f : Nat → List UInt8} {done : Nat → Bool} : (part M f done).lasts.length = M.lasts.length := by simp [part]
theorem part_last {M : Md} {f : Nat → List UInt8} {done : Nat → Bool} {i : Nat} (hi : i < M.lasts.length) (hd : done i = false) : last (part M f done) i = last M i := by
  simp only [last, part]
  rw [List.getD_eq_getElem?_getD, List.getElem?_map, List.getElem?_range hi]
  simp [hd]
theorem part_W {M : Md} {f : Nat → List UInt8} {done : Nat → Bool} {i : Nat} (hd : done i = false) : (part M f done).W i = M.W i := by simp [part, hd]
theorem part_seen {M : Md} {f : Nat → List UInt8} {done : Nat → Bool} {i : Nat} (hi : i < M.lasts.length) (hd : done i = false) : seen (part M f done) i = seen M i := by
  rw [seen, part_W hd, part_last hi hd, seen]
/-- One sector more is done: its writes wait no more. -/
theorem Parts.done {w w' : World} {r m b c : Nat} {g : Nat → Nat} {F : Nat → Option Value} {M : Md} {f : Nat → List UInt8} {done : Nat → Bool} (hM : M.Ok) (hf : ∀ i, i < M.lasts.length → (f i).length = 64) (h : Parts w r m b c g F (part M f done)) {i : Nat} (hi : i < M.lasts.length)
    (hrow : RowAt w' b c ((part M f done).lasts.set i (f i))) (hmap : MapAt Tryz.prog 3 w' m M.lasts.length (fun j => if j = i then none else F j))
    (hk : ∀ k, own r m b g (part M f done) k → k ≠ b → k ≠ m → w'.heap[k]? = w.heap[k]?) :
    Parts w' r m b c g (fun j => if j = i then none else F j) (part M f (fun j => done j || decide (j = i))) := by
  have hl := part_len (M := M) (f := f) (done := done)
  have hl2 := part_len (M := M) (f := f) (done := fun j => done j || decide (j = i))
  have hW : ∀ j, j ≠ i → (part M f (fun j => done j || decide (j = i))).W j = (part M f done).W j := fun j hj => by simp [part, hj]
  have hWi : (part M f (fun j => done j || decide (j = i))).W i = [] := by simp [part]
  refine ⟨hM.part hf _, ?_, by rw [part_lasts hi]; exact hrow, by rw [hl2]; exact hmap, fun j hj hw => ?_, fun j hj hw => ?_, fun j hj hw => ?_, fun j k hj hkk hw1 hw2 e => ?_⟩
  · rw [hk r (.inl rfl) h.ne_rb h.ne_rm, h.disk, hl, hl2]; rfl
  · by_cases e : j = i
    · simp [e]
    · rw [if_neg e]
      rw [hW j e] at hw
      exact h.idle j (by omega) hw
  · by_cases e : j = i
    · subst e; exact absurd hWi hw
    · rw [if_neg e]
      rw [hW j e] at hw ⊢
      obtain ⟨cj, e1, e2⟩ := h.wait j (by omega) hw
      exact ⟨cj, e1, e2.block (hk _ (.inr (.inr (.inr ⟨j, by omega, hw, rfl⟩))) (h.apart j (by omega) hw) (h.ne_gm (by omega) hw))⟩
  · by_cases e : j = i
    · subst e; exact absurd hWi hw
    · rw [hW j e] at hw
      exact h.apart j (by omega) hw
  · have n1 : j ≠ i := fun e => by subst e; exact hw1 hWi
    have n2 : k ≠ i := fun e => by subst e; exact hw2 hWi
    rw [hW j n1] at hw1
    rw [hW k n2] at hw2
    exact h.inj j k (by omega) (by omega) hw1 hw2 e
/-- All is done. -/
theorem Parts.all {w : World} {r m b c : Nat} {g : Nat → Nat} {F : Nat → Option Value} {M : Md} {f : Nat → List UInt8} {done : Nat → Bool} (h : Parts w r m b c g F (part M f done)) (hd : ∀ i, i < M.lasts.length → done i = false → M.W i = [] ∧ f i = last M i) (hn : ∀ i, M.lasts.length ≤ i → M.W i = []) :
    Parts w r m b c g F { M with lasts := (List.range M.lasts.length).map f, W := fun _ => [] } := by
  rw [← part_all hd hn]; exact h
theorem own_part {r m b : Nat} {g : Nat → Nat} {M : Md} {f : Nat → List UInt8} {done : Nat → Bool} {k : Nat} (h : own r m b g (part M f done) k) : own r m b g M k := by
  rcases h with e | e | e | ⟨i, hi, hw, e⟩
  · exact .inl e
  · exact .inr (.inl e)
  · exact .inr (.inr (.inl e))
  · rw [part_len] at hi
    refine .inr (.inr (.inr ⟨i, hi, fun e2 => hw ?_, e⟩))
    simp only [part, e2]
    split <;> rfl
end Dk

set_option maxRecDepth 100000 in
theorem dkSync_none {w : World} {v : Value} (h : Dk.None w v) :
    Calls Tryz.prog 57 #[v] w fun e w' => e = .returned (.int .i64 2) ∧ w = w' := by
  have RE := Lib.hid (dkReady_none h)
  clear h
  go_enter Tryz.func57, Tryz.ntmps57
  go_wp2_with (go_at_call 37; refine RE.out.mono ?_; rintro e w' ⟨rfl, rfl⟩)
  go_ret
  exact ⟨rfl, rfl⟩
set_option maxRecDepth 100000 in
set_option maxHeartbeats 2000000 in
theorem dkSync_parts {w : World} {r m b c : Nat} {g : Nat → Nat} {F : Nat → Option Value} {M : Dk.Md} (h : Dk.Parts w r m b c g F M) :
    Calls Tryz.prog 57 #[.pointer (some ⟨r, 0, none⟩)] w fun e w' => e = .returned (.int .i64 (Dk.sync M).2) ∧
      ∃ F', Dk.Parts w' r m b c g F' (Dk.sync M).1 ∧ Dk.Turned (Dk.own r m b g M) w w' := by
  have RE := Lib.hid (dkReady_any h)
  have AC := Lib.hid (dkAct_any h)
  have H := Lib.hid h
  have hok := h.ok
  cases hoff : M.off
  · rw [hoff] at RE
    cases hact : (Dk.act M).2
    · have e : Dk.sync M = ((Dk.act M).1, 14) := by simp [Dk.sync, hoff, hact]
      rw [e]; clear e
      rw [hact] at AC
      clear h hok
      go_enter Tryz.func57, Tryz.ntmps57
      go_wp2_with (first | (go_at_call 37; refine RE.out.mono ?_; rintro e w' ⟨rfl, rfl⟩) | (go_at_call 39; refine AC.out.mono ?_; rintro e w1 ⟨rfl, hP1, hg1, hs1⟩))
      go_ret
      exact ⟨rfl, F, hP1, Dk.Turned.of_grown hg1 (.inl (.inl rfl))⟩
    · have e : Dk.sync M = (Dk.synced (Dk.act M).1, 0) := by simp [Dk.sync, hoff, hact]
      rw [e]; clear e
      rw [hact] at AC
      have hl1 := Dk.act_lasts M
      have hW1 := Dk.act_W M
      have hok1 := hok.act
      have hown1 : Dk.own r m b g (Dk.act M).1 = Dk.own r m b g M := by unfold Dk.own; rw [hl1, hW1]
      rw [← hown1]
      have HOWN := Lib.hid hown1
      obtain ⟨M1, hM1⟩ : ∃ M1, M1 = (Dk.act M).1 := ⟨_, rfl⟩
      rw [← hM1] at AC hok1 HOWN ⊢
      have HOK := Lib.hid hok1
      have hn := hok1.n
      clear h hok hM1 hok1 hl1 hW1 hown1
      go_enter Tryz.func57, Tryz.ntmps57
      go_upto_region 7 with (first | (go_at_call 37; refine RE.out.mono ?_; rintro e w' ⟨rfl, rfl⟩) | (go_at_call 39; refine AC.out.mono ?_; rintro e w1 ⟨rfl, hP1, hg1, hs1⟩))
      have c1 := hP1.c1
      obtain ⟨w0, cnt0, hrun, hrg0, hg0, hs0⟩ := hP1.map.range Tryz.underlying3 Tryz.underlying62
      have HP0 := Lib.hid (hP1.grown0 hg0)
      have HT0 : Hid (Dk.Turned (Dk.own r m b g M1) w w0) := (Dk.Turned.of_grown (fp := Dk.own r m b g M1) hg1 (.inl (.inl rfl))).trans (Dk.Turned.of_grown0 hg0)
      have HR0 := Lib.hid hrg0
      have HS1 : Hid (w.heap.size ≤ w1.heap.size) := hg1.size
      clear hP1 hg1 hs1 hg0 hs0 hrg0
      go_wp2
      obtain ⟨N, hN⟩ : ∃ N, N = w1.heap.size := ⟨_, rfl⟩
      rw [← hN] at HR0 HS1 ⊢
      clear hN RE AC hrun c1
      go_loopw [5] (fun _ wr => ∃ left cnt F', Dk.RangeAt Tryz.prog 3 wr m N M1.lasts.length F' left cnt ∧ Dk.Parts wr r m b c g F' (Dk.part M1 (Dk.seen M1) (fun i => Dk.busy M1 i && !left i)) ∧ Dk.Turned (Dk.own r m b g M1) w wr) (fun _ wr => wr.rangeLeft m N)
      case atStart =>
        refine ⟨_, cnt0, F, HR0.out, ?_, HT0.out⟩
        have e : Dk.part M1 (Dk.seen M1) (fun i => Dk.busy M1 i && !(decide (i < M1.lasts.length) && (F i).isSome)) = M1 := by
          refine Eq.trans ?_ (Dk.part_none M1 (Dk.seen M1))
          congr 1
          funext i
          by_cases hi : i < M1.lasts.length
          · by_cases hw : M1.W i = []
            · simp [Dk.busy, hw]
            · obtain ⟨cj, e1, _⟩ := HP0.out.wait i hi hw
              simp [hi, e1]
          · simp [Dk.busy, HOK.out.none i (by omega)]
        rw [e]; exact HP0.out
      case round =>
        obtain ⟨left, cnt, F', hrg, hP, hT⟩ := hrel
        have HRG := Lib.hid hrg
        have HP := Lib.hid hP
        have HT := Lib.hid hT
        rcases hrg.next Tryz.underlying3 0 with ⟨hall, hnext⟩ | ⟨i, v, w2, cnt2, hi, hl, hF, hnext, hrg2, hlt, hg2, hs2, hen⟩
        · have HALL := Lib.hid hall
          clear hrg hP hT hall
          go_wp2
          go_ret
          refine ⟨rfl, F', HP.out.all (fun i hi hd => ?_) HOK.out.none, HT.out⟩
          rw [HALL.out i] at hd
          simp [Dk.busy] at hd
          exact ⟨hd, Dk.seen_last hd⟩
        · have hdone : (Dk.busy M1 i && !left i) = false := by simp [hl]
          have hP2 : Dk.Parts w2 r m b c g F' (Dk.part M1 (Dk.seen M1) (fun i => Dk.busy M1 i && !left i)) := hP.keep fun k hk => hg2.block k (hP.lt k hk) (fun e => by
            have e := Option.some.inj e
            subst e
            obtain ⟨m', s', sn, c', hit⟩ := hrg.iter
            rcases hk with rfl | rfl | rfl | ⟨j, hj, hw, rfl⟩
            · rw [hP.disk] at hit; cases hit
            · exact hrg.ne rfl
            · obtain ⟨cur, q, _⟩ := hP.row.row; rw [q] at hit; cases hit
            · obtain ⟨cj, _, q⟩ := hP.wait j hj hw; obtain ⟨cur, q, _⟩ := q.row; rw [q] at hit; cases hit)
          have hT2 : Dk.Turned (Dk.own r m b g M1) w w2 := hT.andThen (Dk.Turned.of_grown hg2 (.inl (.inr ⟨HS1.out, hrg.lt⟩)))
          have hlook := Dk.part_seen (f := Dk.seen M1) (done := fun i => Dk.busy M1 i && !left i) hi hdone
          have hWi := Dk.part_W (M := M1) (f := Dk.seen M1) (done := fun i => Dk.busy M1 i && !left i) hdone
          have hbusy : Dk.busy M1 i = true := by
            have : M1.W i ≠ [] := fun e => by
              have := hP.idle i (by rw [Dk.part_len]; exact hi) (by rw [hWi]; exact e)
              rw [hF] at this; cases this
            simp [Dk.busy, this]
          have HBZ := Lib.hid hbusy
          clear hbusy
          obtain ⟨M2, hM2⟩ : ∃ M2, M2 = Dk.part M1 (Dk.seen M1) (fun i => Dk.busy M1 i && !left i) := ⟨_, rfl⟩
          have hM2l : M2.lasts.length = M1.lasts.length := by rw [hM2]; exact Dk.part_len
          rw [← hM2] at hP2 hlook hWi
          have HM2 := Lib.hid hM2
          have HL2 := Lib.hid hM2l
          have hi2 : i < M2.lasts.length := by omega
          obtain ⟨l, hll⟩ : ∃ l, l = Dk.seen M1 i := ⟨_, rfl⟩
          have hl64 : l.length = 64 := by rw [hll]; exact HOK.out.seen hi
          have SE : Hid (∀ wx, Dk.Parts wx r m b c g F' M2 → Calls Tryz.prog 80 #[.pointer (some ⟨r, 0, none⟩), .int .i64 (i : Int)] wx fun e w' => e = .returned (.agg (Lib.byteCells l).toArray) ∧ Below wx.heap.size wx w') := by
            intro wx hx
            rw [hll, ← hlook]
            exact dkSeen_any hx hi2
          obtain ⟨cs, hcs⟩ : ∃ cs, cs = Lib.byteCells l := ⟨_, rfl⟩
          rw [← hcs] at SE
          have hcl : cs.length = 64 := by rw [hcs, Lib.byteCells_length, hl64]
          have h1 : cs.toArray.all (·.oneCell') = true := by rw [hcs]; exact Sm.bytes_one _
          have HCS := Lib.hid hcs
          have HCL := Lib.hid hcl
          have H1 := Lib.hid h1
          have HLL := Lib.hid hll
          have HL64 := Lib.hid hl64
          have HP2 := Lib.hid hP2
          have HT2 := Lib.hid hT2
          have HRG2 := Lib.hid hrg2
          have HI := Lib.hid hi
          have hi3 : (i : Int) < (M1.lasts.length : Int) := by omega
          have c0 := hP2.c0
          rw [hM2l] at c0
          have hlen := hM2l
          clear hrg hP hT hP2 hT2 hrg2 hM2 hlook hWi hll hcs hcl h1 hl64 hi2 hM2l hg2 hs2 hF hlen HP HT
          go_upto_region 10 with (fail)
          refine wp_region_held_drew (S := (fun w' => w'.cell? ⟨r, 0, none⟩ = some (.slice (some ⟨b, 0, none⟩) M1.lasts.length c))) (by kernel_rfl) (by exact c0) (fun hHeld => ?_)
          refine wpAnyH_take (i := 0) (oi := ⟨some 25, _, _, _, _, _⟩) (v := .pointer (some ⟨r, 0, none⟩)) rfl (by kernel_rfl) (by kernel_rfl) (by kernel_rfl) (fun _ _ _ h => h) (Or.inl ⟨by rfl, ?_⟩) (by assumption) ?_
          · intro w hSw; (try dsimp only at hSw); go_simp
          simp only [Act.put, List.setIfInBounds_toArray, List.set_cons_zero, List.set_cons_succ]
          refine wpAnyH_take (i := 1) (oi := ⟨some 26, _, _, _, _, _⟩) (v := .pointer (some ⟨r, 0, none⟩)) rfl (by kernel_rfl) (by kernel_rfl) (by kernel_rfl) (fun _ _ _ h => h) (Or.inl ⟨by rfl, ?_⟩) (by assumption) ?_
          · intro w hSw; (try dsimp only at hSw); go_simp
          simp only [Act.put, List.setIfInBounds_toArray, List.set_cons_zero, List.set_cons_succ]
          refine wpAnyH_take (i := 2) (oi := ⟨some 27, _, _, _, _, _⟩) (v := .pointer (some ⟨r, 0, none⟩)) rfl (by kernel_rfl) (by kernel_rfl) (by kernel_rfl) (fun _ _ _ h => h) (Or.inl ⟨by rfl, ?_⟩) (by assumption) ?_
          · intro w hSw; (try dsimp only at hSw); go_simp
          simp only [Act.put, List.setIfInBounds_toArray, List.set_cons_zero, List.set_cons_succ]
          refine wpAnyH_take (i := 3) (oi := ⟨some 28, _, _, _, _, _⟩) (v := .slice (some ⟨b, 0, none⟩) M1.lasts.length c) rfl (by kernel_rfl) (by kernel_rfl) (by kernel_rfl) (fun _ _ _ h => h) (Or.inl ⟨by rfl, ?_⟩) (by assumption) ?_
          · intro w hSw; (try dsimp only at hSw); go_simp
          simp only [Act.put, List.setIfInBounds_toArray, List.set_cons_zero, List.set_cons_succ]
          refine wpAnyH_take (i := 4) (oi := ⟨some 29, _, _, _, _, _⟩) (v := .int .i64 (i : Int)) rfl (by kernel_rfl) (by kernel_rfl) (by kernel_rfl) (fun _ _ _ h => h) (Or.inl ⟨by rfl, ?_⟩) (by assumption) ?_
          · intro w hSw; (try dsimp only at hSw); go_simp
          simp only [Act.put, List.setIfInBounds_toArray, List.set_cons_zero, List.set_cons_succ]
          refine wpAnyH_take (i := 5) (oi := ⟨some 30, _, _, _, _, _⟩) (v := .pointer (some ⟨r, 0, none⟩)) rfl (by kernel_rfl) (by kernel_rfl) (by kernel_rfl) (fun _ _ _ h => h) (Or.inl ⟨by rfl, ?_⟩) (by assumption) ?_
          · intro w hSw; (try dsimp only at hSw); go_simp
          simp only [Act.put, List.setIfInBounds_toArray, List.set_cons_zero, List.set_cons_succ]
          refine wpAnyH_take (i := 6) (oi := ⟨some 31, _, _, _, _, _⟩) (v := .int .i64 (i : Int)) rfl (by kernel_rfl) (by kernel_rfl) (by kernel_rfl) (fun _ _ _ h => h) (Or.inl ⟨by rfl, ?_⟩) (by assumption) ?_
          · intro w hSw; (try dsimp only at hSw); go_simp
          simp only [Act.put, List.setIfInBounds_toArray, List.set_cons_zero, List.set_cons_succ]
          refine wpAnyH_ready (rs := [7]) (by kernel_rfl) (by simp) ?_
          refine (AllReadyH.cons (o := ⟨some 32, _, _, _, _, _⟩) rfl (fun K hK => ?_) AllReadyH.nil)
          go_simp
          refine (SE.out _ HP2.out.drew).mono ?_
          rintro e w4 ⟨rfl, hb4⟩
          have hP4 := HP2.out.drew.below hb4 (Nat.le_refl _)
          have hT4 : Dk.Turned (Dk.own r m b g M1) w w4 := (HT2.out.drew).trans (Dk.Turned.of_below hb4 (Nat.le_refl _))
          have hR4 : Dk.RangeAt Tryz.prog 3 w4 m N M1.lasts.length F' (fun j => left j && !decide (j = i)) cnt2 := HRG2.out.block (hb4.block m HRG2.out.map.lt) (hb4.block N HRG2.out.lt)
          clear hb4
          refine hK.out _ _ (by have := hP4.c0; rw [HL2.out] at this; exact this) (fun hHeld => ?_)
          clear hK K
          refine wpAnyH_take (i := 8) (oi := ⟨some 33, _, _, _, _, _⟩) (v := .pointer (some ⟨b, i * 64, none⟩)) rfl (by kernel_rfl) (by kernel_rfl) (by kernel_rfl) (fun _ _ _ h => h) (Or.inl ⟨by rfl, ?_⟩) (by assumption) ?_
          · intro w hSw; (try dsimp only at hSw); go_simp
          simp only [Act.put, List.setIfInBounds_toArray, List.set_cons_zero, List.set_cons_succ]
          refine wpAnyH_ready (rs := [9]) (by kernel_rfl) (by simp) ?_
          refine (AllReadyH.cons (o := ⟨none, _, _, _, _, _⟩) rfl (fun K hK => ?_) AllReadyH.nil)
          rw [if_pos (by simp [Region.wanted])]
          have hrow := hP4.row.set (i := i) (by rw [HL2.out]; exact HI.out) HL64.out
          rw [← HCS.out] at hrow
          have hgr := Sm.grown_setCells2 (Sm.grown_refl w4 (some b)) cs (i * 64)
          have hk5 : ∀ k, Dk.own r m b g M2 k → k ≠ b → (w4.setCells b (i * 64) cs).heap[k]? = w4.heap[k]? := fun k hk hkb => hgr.block k (hP4.lt k hk) (fun e => hkb (Option.some.inj e))
          have hT5 : Dk.Turned (Dk.own r m b g M1) w (w4.setCells b (i * 64) cs) := hT4.andThen (Dk.Turned.of_grown hgr (.inl (.inl (.inr (.inr (.inl rfl))))))
          have hNb : N ≠ b := by
            rintro rfl
            obtain ⟨cur, q, _⟩ := hP4.row.row
            obtain ⟨m', s', sn, c', hit⟩ := hR4.iter
            rw [q] at hit; cases hit
          have hR5 : Dk.RangeAt Tryz.prog 3 (w4.setCells b (i * 64) cs) m N M1.lasts.length F' (fun j => left j && !decide (j = i)) cnt2 := hR4.block (hk5 m (.inr (.inl rfl)) hP4.ne_bm.symm) (hgr.block N hR4.lt (fun e => hNb (Option.some.inj e)))
          have hbd := hP4.row.there (i := i) (by rw [HL2.out]; exact HI.out)
          have c1 : (w4.setCells b (i * 64) cs).cell? ⟨r, 1, none⟩ = some (.map (some m)) := by
            rw [World.cell?_of_block (hk5 r (.inl rfl) hP4.ne_rb)]; exact hP4.c1
          have c0' : (w4.setCells b (i * 64) cs).cell? ⟨r, 0, none⟩ = some (.slice (some ⟨b, 0, none⟩) M1.lasts.length c) := by
            rw [World.cell?_of_block (hk5 r (.inl rfl) hP4.ne_rb), hP4.c0, HL2.out]
          refine wp_store_mid 90 _ _ rfl b (i * 64) cs.toArray rfl rfl (by rw [List.size_toArray, HCL.out]; exact hbd) (Dk.infoSec (by rw [List.size_toArray]; exact HCL.out)) H1.out ?_
          refine hK.out _ _ c0' (fun hHeld => ?_)
          clear hK K hHeld c0' hbd
          obtain ⟨w6, cnt3, hdel, hR6, hle, ht6⟩ := hR5.drop Tryz.underlying3 Tryz.underlying62 HI.out hn.2 0
          have e6 : (fun j => (left j && !decide (j = i)) && !decide (j = i)) = fun j => left j && !decide (j = i) := by funext j; cases left j <;> cases decide (j = i) <;> rfl
          rw [e6] at hR6
          have hmb : m ≠ b := hP4.ne_bm.symm
          have hrow6 := hrow.block (ht6.grown.block b hrow.lt (fun e => hmb (Option.some.inj e).symm))
          have hk6 : ∀ k, Dk.own r m b g M2 k → k ≠ b → k ≠ m → w6.heap[k]? = w4.heap[k]? := fun k hk h1 h2 => by
            rw [ht6.grown.block k (Nat.lt_of_lt_of_le (hP4.lt k hk) hgr.size) (fun e => h2 (Option.some.inj e))]
            exact hk5 k hk h1
          have hP6 : Dk.Parts w6 r m b c g (fun j => if j = i then none else F' j) (Dk.part M1 (Dk.seen M1) (fun j => (Dk.busy M1 j && !left j) || decide (j = i))) := by
            rw [HM2.out] at hP4 hrow6 hk6
            rw [HLL.out] at hrow6
            exact hP4.done HOK.out (fun j hj => HOK.out.seen hj) HI.out hrow6 hR6.map hk6
          have ed : (fun j => (Dk.busy M1 j && !left j) || decide (j = i)) = fun j => Dk.busy M1 j && !(left j && !decide (j = i)) := by
            funext j
            by_cases e : j = i
            · subst e
              have hb := HBZ.out
              simp [hb]
            · simp [e]
          rw [ed] at hP6
          have HP6 := Lib.hid hP6
          have HT6 : Hid (Dk.Turned (Dk.own r m b g M1) w w6) := hT5.andThen (Dk.Turned.of_map ht6 (.inl (.inl (.inr (.inl rfl)))))
          have HR6 := Lib.hid hR6
          clear hP6 hT5 hR5 hR4 hP4 hT4 hR6 hrow hrow6 hk5 hk6 ed e6 hgr ht6
          refine wpAnyH_done (by kernel_rfl) ?_ _
          go_wp2
          go_roundw
          case rel => exact ⟨_, cnt3, _, HR6.out, HP6.out, HT6.out⟩
          case measure => rw [HR6.out.left_eq, HRG.out.left_eq]; omega
  · rw [hoff] at RE
    have e : Dk.sync M = (M, 14) := by simp [Dk.sync, hoff]
    rw [e]; clear e
    clear h hok
    go_enter Tryz.func57, Tryz.ntmps57
    go_wp2_with (first | (go_at_call 37; refine RE.out.mono ?_; rintro e w' ⟨rfl, rfl⟩))
    go_ret
    exact ⟨rfl, F, H.out, Dk.Turned.refl _ _⟩
end Go.Proofs.YtnmagfodjcookaaGreat
