/-
  The math of a disk: what lasts, what waits, the fuse, the power; what a crash keeps.
-/
import Derived.WalkKit
namespace Go.Proofs.Ytipfjccmceaclaa
namespace Dk
/-- What lasts, the writes that wait for each sector, whether the power is off, the fuse (below 0: none). -/
structure Md where
  lasts : List (List UInt8)
  W : Nat → List (List UInt8)
  off : Bool
  fuse : Int
structure Md.Ok (M : Md) : Prop where
  n : 1 ≤ M.lasts.length ∧ M.lasts.length ≤ 4096
  lasts : ∀ s ∈ M.lasts, s.length = 64
  waits : ∀ i, ∀ s ∈ M.W i, s.length = 64
  none : ∀ i, M.lasts.length ≤ i → M.W i = []
  fuse : -9223372036854775808 ≤ M.fuse ∧ M.fuse ≤ 9223372036854775807
def last (M : Md) (i : Nat) : List UInt8 := M.lasts.getD i []
/-- What a sector is read as. -/
def seen (M : Md) (i : Nat) : List UInt8 := (M.W i).getLastD (last M i)
def there (M : Md) (i : Int) : Bool := decide (0 ≤ i) && decide (i < M.lasts.length)
def blank : List UInt8 := List.replicate 64 0
def new (n : Nat) : Md := ⟨List.replicate n blank, fun _ => [], false, -1⟩
def readOf (M : Md) (i : Int) : List UInt8 × Int := if M.off then ([], 14) else if there M i then (seen M i.toNat, 0) else ([], 1)
def act (M : Md) : Md × Bool := if M.fuse = 0 then ({ M with off := true }, false) else if M.fuse > 0 then ({ M with fuse := M.fuse - 1 }, true) else (M, true)
def put (M : Md) (i : Nat) (b : List UInt8) : Md := { M with W := fun j => if j = i then M.W j ++ [b] else M.W j }
def write (M : Md) (i : Int) (b : List UInt8) : Md × Int :=
  if M.off then (M, 14) else if there M i && decide (b.length = 64) then (if (act M).2 then (put (act M).1 i.toNat b, 0) else ((act M).1, 14)) else (M, 1)
/-- What lasts where some sectors are synced already. -/
def part (M : Md) (f : Nat → List UInt8) (done : Nat → Bool) : Md :=
  { M with lasts := (List.range M.lasts.length).map fun i => if done i then f i else last M i, W := fun i => if done i then [] else M.W i }
def synced (M : Md) : Md := { M with lasts := (List.range M.lasts.length).map (seen M), W := fun _ => [] }
def sync (M : Md) : Md × Int := if M.off then (M, 14) else if (act M).2 then (synced (act M).1, 0) else ((act M).1, 14)
def waits (M : Md) : Nat := ((List.range M.lasts.length).map fun i => (M.W i).length).sum
def busy (M : Md) (i : Nat) : Bool := !(M.W i).isEmpty
def keys (M : Md) : List Nat := (List.range M.lasts.length).filter (busy M)
def rank (M : Md) (i : Nat) : Nat := ((List.range i).filter (busy M)).length
def chosen (keep : List Int) (k n : Nat) : Nat := (keep.getD k 0 % ((n : Int) + 1)).toNat
def choice (M : Md) (i c : Nat) : List UInt8 := if c = 0 then last M i else (M.W i).getD (c - 1) []
def kept (M : Md) (keep : List Int) (i : Nat) : List UInt8 := choice M i (chosen keep (rank M i) (M.W i).length)
def crash (M : Md) (keep : List Int) : Md := ⟨(List.range M.lasts.length).map (kept M keep), fun _ => [], false, -1⟩
def xored (s : List UInt8) (at_ : Nat) (x : List UInt8) : List UInt8 := (List.range s.length).map fun k => if at_ ≤ k ∧ k < at_ + x.length then s.getD k 0 ^^^ x.getD (k - at_) 0 else s.getD k 0
def mayspoil (M : Md) (i at_ : Int) (x : List UInt8) : Bool := there M i && decide (x.length ≤ 4) && decide (0 ≤ at_) && decide (at_ ≤ 64 - (x.length : Int))
def spoil (M : Md) (i at_ : Int) (x : List UInt8) : Md × Int :=
  if mayspoil M i at_ x then ({ M with lasts := M.lasts.set i.toNat (xored (last M i.toNat) at_.toNat x) }, 0) else (M, 1)
theorem last_mem {M : Md} {i : Nat} (hi : i < M.lasts.length) : last M i ∈ M.lasts := by
  rw [last, List.getD_eq_getElem?_getD, List.getElem?_eq_getElem hi]
  exact List.getElem_mem hi
theorem Md.Ok.last {M : Md} (h : M.Ok) {i : Nat} (hi : i < M.lasts.length) : (last M i).length = 64 := h.lasts _ (last_mem hi)
theorem seen_wait {M : Md} {i : Nat} (h : M.W i ≠ []) : seen M i = (M.W i).getLast h := by
  unfold seen
  obtain ⟨a, l, e⟩ : ∃ a l, M.W i = a :: l := List.exists_cons_of_ne_nil h
  simp only [e, List.getLastD_cons, List.getLast_eq_getLastD]
theorem seen_last {M : Md} {i : Nat} (h : M.W i = []) : seen M i = Dk.last M i := by rw [seen, h]; rfl
theorem Md.Ok.seen {M : Md} (h : M.Ok) {i : Nat} (hi : i < M.lasts.length) : (seen M i).length = 64 := by
  by_cases hw : M.W i = []
  · rw [seen_last hw]; exact h.last hi
  · rw [seen_wait hw]; exact h.waits i _ (List.getLast_mem hw)
theorem there_iff {M : Md} {i : Int} : there M i = true ↔ 0 ≤ i ∧ i < M.lasts.length := by simp [there]
theorem act_lasts (M : Md) : (act M).1.lasts = M.lasts := by unfold act; split; rfl; split <;> rfl
theorem act_W (M : Md) : (act M).1.W = M.W := by unfold act; split; rfl; split <;> rfl
theorem Md.Ok.act {M : Md} (h : M.Ok) : (act M).1.Ok := by
  have e1 := act_lasts M
  have e2 := act_W M
  refine ⟨by rw [e1]; exact h.n, by rw [e1]; exact h.lasts, by rw [e2]; exact h.waits, by rw [e1, e2]; exact h.none, ?_⟩
  have := h.fuse
  unfold Dk.act
  split
  · exact this
  · split
    · simp only; omega
    · exact this
theorem Md.Ok.put {M : Md} (h : M.Ok) {i : Nat} (hi : i < M.lasts.length) {b : List UInt8} (hb : b.length = 64) : (put M i b).Ok := by
  refine ⟨h.n, h.lasts, fun j s hs => ?_, fun j hj => ?_, h.fuse⟩
  · simp only [Dk.put] at hs
    split at hs
    · rcases List.mem_append.1 hs with h1 | h1
      · exact h.waits j s h1
      · simp at h1; subst h1; exact hb
    · exact h.waits j s hs
  · simp only [Dk.put] at hj ⊢
    rw [if_neg (by omega), h.none j hj]
theorem Md.Ok.part {M : Md} (h : M.Ok) {f : Nat → List UInt8} (hf : ∀ i, i < M.lasts.length → (f i).length = 64) (done : Nat → Bool) : (part M f done).Ok := by
  refine ⟨by simpa [Dk.part] using h.n, fun s hs => ?_, fun j s hs => ?_, fun j hj => ?_, h.fuse⟩
  · simp only [Dk.part, List.mem_map, List.mem_range] at hs
    obtain ⟨i, hi, rfl⟩ := hs
    split
    · exact hf i hi
    · exact h.last hi
  · simp only [Dk.part] at hs
    split at hs
    · cases hs
    · exact h.waits j s hs
  · simp only [Dk.part, List.length_map, List.length_range] at hj ⊢
    rw [h.none j hj]; simp
theorem part_none (M : Md) (f : Nat → List UInt8) : part M f (fun _ => false) = M := by
  obtain ⟨l, W, o, n⟩ := M
  simp only [part, last, Md.mk.injEq, and_true, Bool.false_eq_true, if_false]
  refine List.ext_getElem? fun i => ?_
  rw [List.getElem?_map]
  by_cases hi : i < l.length
  · rw [List.getElem?_range hi]
    simp [List.getD_eq_getElem?_getD, List.getElem?_eq_getElem hi]
  · rw [List.getElem?_eq_none (by simpa using hi), List.getElem?_eq_none (by omega)]; rfl
/-- All that is busy is done: what isn't is as f has it. -/
theorem part_all {M : Md} {f : Nat → List UInt8} {done : Nat → Bool} (h : ∀ i, i < M.lasts.length → done i = false → M.W i = [] ∧ f i = last M i) (hn : ∀ i, M.lasts.length ≤ i → M.W i = []) :
    part M f done = { M with lasts := (List.range M.lasts.length).map f, W := fun _ => [] } := by
  simp only [part, Md.mk.injEq, and_true]
  refine ⟨?_, ?_⟩
  · refine List.map_congr_left fun i hi => ?_
    split
    · rfl
    · rename_i hd
      exact (h i (by simpa using hi) (by simpa using hd)).2.symm
  · funext i
    split
    · rfl
    · rename_i hd
      by_cases hi : i < M.lasts.length
      · exact (h i hi (by simpa using hd)).1
      · exact hn i (by omega)
theorem filter_rank {p : Nat → Bool} : ∀ (n k i : Nat), ((List.range n).filter p)[k]? = some i → ((List.range i).filter p).length = k
  | 0, k, i, h => by simp at h
  | n + 1, k, i, h => by
    rw [List.range_succ, List.filter_append, List.getElem?_append] at h
    split at h
    · exact filter_rank n k i h
    · rename_i hk
      by_cases hp : p n = true
      · rw [show List.filter p [n] = [n] by simp [hp]] at h
        have h2 := (List.getElem?_eq_some_iff.1 h).1
        simp only [List.length_singleton] at h2
        rw [show k - (List.filter p (List.range n)).length = 0 by omega, List.getElem?_cons_zero, Option.some.injEq] at h
        subst h
        omega
      · simp [hp] at h
theorem rank_keys {M : Md} {k i : Nat} (h : (keys M)[k]? = some i) : rank M i = k := filter_rank _ _ _ h
theorem mem_keys {M : Md} {i : Nat} : i ∈ keys M ↔ i < M.lasts.length ∧ M.W i ≠ [] := by simp [keys, busy]
theorem chosen_le (keep : List Int) (k n : Nat) : chosen keep k n ≤ n := by
  unfold chosen
  have h1 := Int.emod_nonneg (keep.getD k 0) (show ((n : Int) + 1) ≠ 0 by omega)
  have h2 := Int.emod_lt_of_pos (keep.getD k 0) (show (0 : Int) < (n : Int) + 1 by omega)
  omega
theorem choice_mem {M : Md} {i c : Nat} (hc : c ≤ (M.W i).length) : choice M i c = last M i ∨ choice M i c ∈ M.W i := by
  unfold choice
  split
  · exact .inl rfl
  · right
    rw [List.getD_eq_getElem?_getD, List.getElem?_eq_getElem (by omega)]
    exact List.getElem_mem _
theorem kept_mem (M : Md) (keep : List Int) (i : Nat) : kept M keep i = last M i ∨ kept M keep i ∈ M.W i := choice_mem (chosen_le _ _ _)
theorem Md.Ok.kept {M : Md} (h : M.Ok) (keep : List Int) {i : Nat} (hi : i < M.lasts.length) : (kept M keep i).length = 64 := by
  rcases kept_mem M keep i with e | e
  · rw [e]; exact h.last hi
  · exact h.waits i _ e
theorem kept_idle {M : Md} {keep : List Int} {i : Nat} (h : M.W i = []) : kept M keep i = last M i := by
  rcases kept_mem M keep i with e | e
  · exact e
  · rw [h] at e; cases e
theorem kept_none {M : Md} {i : Nat} : kept M [] i = last M i := by
  have : chosen [] (rank M i) (M.W i).length = 0 := by simp [chosen]
  rw [kept, this, choice, if_pos rfl]
theorem Md.Ok.synced {M : Md} (h : M.Ok) : (synced M).Ok := by
  refine ⟨by simpa [Dk.synced] using h.n, fun s hs => ?_, fun j s hs => by simp [Dk.synced] at hs, fun j _ => rfl, h.fuse⟩
  simp only [Dk.synced, List.mem_map, List.mem_range] at hs
  obtain ⟨i, hi, rfl⟩ := hs
  exact h.seen hi
theorem Md.Ok.crash {M : Md} (h : M.Ok) (keep : List Int) : (crash M keep).Ok := by
  refine ⟨by simpa [Dk.crash] using h.n, fun s hs => ?_, fun j s hs => by simp [Dk.crash] at hs, fun j _ => rfl, by simp [Dk.crash]⟩
  simp only [Dk.crash, List.mem_map, List.mem_range] at hs
  obtain ⟨i, hi, rfl⟩ := hs
  exact h.kept keep hi
theorem xored_length (s : List UInt8) (a : Nat) (x : List UInt8) : (xored s a x).length = s.length := by simp [xored]
theorem Md.Ok.spoil {M : Md} (h : M.Ok) (i a : Int) (x : List UInt8) : (spoil M i a x).1.Ok := by
  unfold Dk.spoil
  split
  · rename_i hm
    have hi : 0 ≤ i ∧ i < M.lasts.length := by
      simp only [mayspoil, Bool.and_eq_true] at hm
      exact there_iff.1 hm.1.1.1
    refine ⟨by simpa using h.n, fun s hs => ?_, h.waits, fun j hj => h.none j (by simpa using hj), h.fuse⟩
    rcases List.mem_or_eq_of_mem_set hs with h1 | h1
    · exact h.lasts s h1
    · rw [h1, xored_length]; exact h.last (by omega)
  · exact h
theorem Md.Ok.write {M : Md} (h : M.Ok) (i : Int) (b : List UInt8) : (write M i b).1.Ok := by
  unfold Dk.write
  split
  · exact h
  · split
    · rename_i hc
      simp only [Bool.and_eq_true, decide_eq_true_eq] at hc
      have hi := there_iff.1 hc.1
      split
      · exact h.act.put (by rw [act_lasts]; omega) hc.2
      · exact h.act
    · exact h
theorem Md.Ok.sync {M : Md} (h : M.Ok) : (sync M).1.Ok := by
  unfold Dk.sync
  split
  · exact h
  · split
    · exact h.act.synced
    · exact h.act
theorem Md.Ok.new {n : Nat} (h : 1 ≤ n ∧ n ≤ 4096) : (new n).Ok := by
  refine ⟨by simpa [Dk.new] using h, fun s hs => ?_, fun j s hs => by simp [Dk.new] at hs, fun j _ => rfl, by simp [Dk.new]⟩
  simp only [Dk.new, List.mem_replicate] at hs
  rw [hs.2]; rfl
end Dk
end Go.Proofs.Ytipfjccmceaclaa
