/-
  What disk's functions do to a disk, told by its blocks as a whole.
-/
import Derived.Test.YtipfjccmceaclaaDkTwin
import Derived.Test.YtipfjccmceaclaaDkSpoil
namespace Go.Proofs.Ytipfjccmceaclaa
open Go.RowKit
namespace Dk
theorem len_waits (M : Md) {i : Nat} (hi : i < M.lasts.length) : (M.W i).length ≤ waits M := by
  have := sum_at M.lasts.length (f := fun j => if j = i then 0 else (M.W j).length) (f' := fun j => (M.W j).length) (i := i) (d := (M.W i).length) hi (fun j hj => by simp [hj]) (by simp)
  unfold waits
  omega
theorem Md.Ok.len {M : Md} (h : M.Ok) (i : Nat) : (M.W i).length ≤ Dk.waits M := by
  by_cases hi : i < M.lasts.length
  · exact len_waits M hi
  · rw [h.none i (by omega)]; exact Nat.zero_le _
theorem waits_act (M : Md) : waits (act M).1 = waits M := by unfold waits; rw [act_lasts, act_W]
theorem waits_put (M : Md) {i : Nat} (hi : i < M.lasts.length) (b : List UInt8) : waits (put M i b) = waits M + 1 :=
  sum_at M.lasts.length (i := i) hi (fun j hj => by simp [put, hj]) (by simp [put])
theorem waits_empty (M : Md) (h : M.W = fun _ => []) : waits M = 0 := by
  unfold waits
  rw [h]
  generalize M.lasts.length = n
  induction n with
  | zero => rfl
  | succ n ih => rw [List.range_succ, List.map_append, List.sum_append, ih]; rfl
theorem waits_write (M : Md) (i : Int) (b : List UInt8) : waits (write M i b).1 ≤ waits M + 1 := by
  unfold write
  split
  · exact Nat.le_succ _
  · split
    · rename_i hc
      simp only [Bool.and_eq_true, decide_eq_true_eq] at hc
      have := there_iff.1 hc.1
      split
      · rw [waits_put _ (by rw [act_lasts]; omega), waits_act]; exact Nat.le_refl _
      · rw [waits_act]; exact Nat.le_succ _
    · exact Nat.le_succ _
theorem waits_sync (M : Md) : waits (sync M).1 ≤ waits M := by
  unfold sync
  split
  · exact Nat.le_refl _
  · split
    · rw [waits_empty _ rfl]; exact Nat.zero_le _
    · rw [waits_act]; exact Nat.le_refl _
theorem waits_crash (M : Md) (keep : List Int) : waits (crash M keep) = 0 := waits_empty _ rfl
theorem waits_spoil (M : Md) (i a : Int) (x : List UInt8) : waits (spoil M i a x).1 = waits M := by
  unfold spoil
  split
  · simp [waits]
  · rfl
theorem waits_new (n : Nat) : waits (new n) = 0 := waits_empty _ rfl
theorem lasts_write (M : Md) (i : Int) (b : List UInt8) : (write M i b).1.lasts = M.lasts := by
  unfold write
  split
  · rfl
  · split
    · split
      · exact act_lasts M
      · exact act_lasts M
    · rfl
theorem len_sync (M : Md) : (sync M).1.lasts.length = M.lasts.length := by
  unfold sync
  split
  · rfl
  · split
    · simp [synced, act_lasts]
    · rw [act_lasts]
theorem len_crash (M : Md) (keep : List Int) : (crash M keep).lasts.length = M.lasts.length := by simp [crash]
theorem len_spoil (M : Md) (i a : Int) (x : List UInt8) : (spoil M i a x).1.lasts.length = M.lasts.length := by
  unfold spoil
  split
  · simp
  · rfl
section
variable {w : World} {r : Nat} {fp : Nat → Prop} {M : Md}
theorem at_of {w' : World} {m b : Nat} {g : Nat → Nat} {M' : Md} {m' b' c' : Nat} {g' : Nat → Nat} {F' : Nat → Option Value} (h1 : ∀ k, fp k → k < w.heap.size) (h3 : ∀ k, own r m b g M k → fp k) (hP : Parts w' r m' b' c' g' F' M') (hT : Turned (own r m b g M) w w')
    (ho : ∀ k, own r m' b' g' M' k → own r m b g M k ∨ w.heap.size ≤ k) : DiskAt w' r (grow fp w w') M' ∧ Turned fp w w' :=
  ⟨⟨grow_lt h1 hT.size, m', b', c', g', F', hP, fun k hk => by
    rcases ho k hk with e | e
    · exact .inl (h3 k e)
    · exact .inr ⟨e, hP.lt k hk⟩⟩, hT.mono h3⟩
theorem write_at (h : DiskAt w r fp M) (hr : waits M ≤ 1099511627776) (i : Int) (s : ByteArray) :
    Calls Try.prog 24 #[.pointer (some ⟨r, 0, none⟩), .int .i64 i, .string s] w fun e w' => e = .returned (.int .i64 (write M i s.data.toList).2) ∧ DiskAt w' r (grow fp w w') (write M i s.data.toList).1 ∧ Turned fp w w' := by
  obtain ⟨h1, m, b, c, g, F, h2, h3⟩ := h
  refine (dkWrite_parts h2 i s (Nat.le_trans (h2.ok.len _) hr)).mono ?_
  rintro e w' ⟨rfl, g', F', hP, ho, hT⟩
  exact ⟨rfl, at_of h1 h3 hP hT ho⟩
theorem read_at (h : DiskAt w r fp M) (i : Int) :
    Calls Try.prog 25 #[.pointer (some ⟨r, 0, none⟩), .int .i64 i] w fun e w' => e = .returned (.tuple #[.string ⟨(readOf M i).1.toArray⟩, .int .i64 (readOf M i).2]) ∧ Below w.heap.size w w' := by
  obtain ⟨h1, m, b, c, g, F, h2, h3⟩ := h
  exact dkRead_parts h2 i
theorem sync_at (h : DiskAt w r fp M) :
    Calls Try.prog 63 #[.pointer (some ⟨r, 0, none⟩)] w fun e w' => e = .returned (.int .i64 (sync M).2) ∧ DiskAt w' r (grow fp w w') (sync M).1 ∧ Turned fp w w' := by
  obtain ⟨h1, m, b, c, g, F, h2, h3⟩ := h
  refine (dkSync_parts h2).mono ?_
  rintro e w' ⟨rfl, F', hP, hT⟩
  refine ⟨rfl, at_of h1 h3 hP hT fun k hk => .inl ?_⟩
  rcases hk with e | e | e | ⟨j, hj, hw, e⟩
  · exact .inl e
  · exact .inr (.inl e)
  · exact .inr (.inr (.inl e))
  · refine .inr (.inr (.inr ⟨j, by rw [len_sync] at hj; exact hj, fun e2 => hw ?_, e⟩))
    unfold sync
    split
    · exact e2
    · split
      · rfl
      · rw [act_W]; exact e2
theorem crash_at (h : DiskAt w r fp M) (hr : waits M ≤ 1099511627776) {kv : Value} {keep : List Int} (hk : IntsAt w kv keep) (hoff : Off fp kv keep) :
    Calls Try.prog 16 #[.pointer (some ⟨r, 0, none⟩), kv] w fun e w' => e = .returned (.tuple #[]) ∧ DiskAt w' r (grow fp w w') (crash M keep) ∧ Turned fp w w' := by
  obtain ⟨h1, m, b, c, g, F, h2, h3⟩ := h
  refine (dkCrash_parts h2 hk (fun h0 A n c b' o e1 e2 e3 => hoff h0 A n c b' o e1 e2 (h3 _ e3)) (fun i => Nat.le_trans (h2.ok.len _) hr)).mono ?_
  rintro e w' ⟨rfl, F', hP, hT⟩
  refine ⟨rfl, at_of h1 h3 hP hT fun k hk => .inl ?_⟩
  rcases hk with e | e | e | ⟨j, hj, hw, e⟩
  · exact .inl e
  · exact .inr (.inl e)
  · exact .inr (.inr (.inl e))
  · exact absurd rfl hw
theorem spoil_at (h : DiskAt w r fp M) (i a : Int) (x : ByteArray) (hx : x.size ≤ 9223372036854775807) :
    Calls Try.prog 27 #[.pointer (some ⟨r, 0, none⟩), .int .i64 i, .int .i64 a, .string x] w fun e w' => e = .returned (.int .i64 (spoil M i a x.data.toList).2) ∧ DiskAt w' r (grow fp w w') (spoil M i a x.data.toList).1 ∧ Turned fp w w' := by
  obtain ⟨h1, m, b, c, g, F, h2, h3⟩ := h
  refine (dkSpoil_parts h2 i a x hx).mono ?_
  rintro e w' ⟨rfl, hP, hT⟩
  refine ⟨rfl, at_of h1 h3 hP hT fun k hk => .inl ?_⟩
  rcases hk with e | e | e | ⟨j, hj, hw, e⟩
  · exact .inl e
  · exact .inr (.inl e)
  · exact .inr (.inr (.inl e))
  · refine .inr (.inr (.inr ⟨j, by rw [len_spoil] at hj; exact hj, fun e2 => hw ?_, e⟩))
    unfold spoil
    split
    · exact e2
    · exact e2
theorem fuse_at (h : DiskAt w r fp M) (n : Int) (hn : -9223372036854775808 ≤ n ∧ n ≤ 9223372036854775807) :
    Calls Try.prog 15 #[.pointer (some ⟨r, 0, none⟩), .int .i64 n] w fun e w' => e = .returned (.tuple #[]) ∧ DiskAt w' r (grow fp w w') { M with fuse := n } ∧ Turned fp w w' := by
  obtain ⟨h1, m, b, c, g, F, h2, h3⟩ := h
  refine (dkFuse_parts h2 n hn).mono ?_
  rintro e w' ⟨rfl, hP, hg⟩
  exact ⟨rfl, at_of h1 h3 hP (Turned.of_grown hg (.inl (.inl rfl))) fun k hk => .inl hk⟩
theorem waits_at (h : DiskAt w r fp M) (hr : waits M ≤ 1099511627776) :
    Calls Try.prog 29 #[.pointer (some ⟨r, 0, none⟩)] w fun e w' => e = .returned (.int .i64 (waits M : Nat)) ∧ Below w.heap.size w w' := by
  obtain ⟨h1, m, b, c, g, F, h2, h3⟩ := h
  exact dkWaits_parts h2 hr
theorem sectors_at (h : DiskAt w r fp M) : Calls Try.prog 30 #[.pointer (some ⟨r, 0, none⟩)] w fun e w' => e = .returned (.int .i64 (M.lasts.length : Nat)) ∧ w = w' := by
  obtain ⟨h1, m, b, c, g, F, h2, h3⟩ := h
  exact dkSectors_any h2
end
theorem IntsAt.nil (w : World) : IntsAt w (.slice none 0 0) [] := ⟨none, 0, rfl, by decide, fun i => by simp, .inl rfl⟩
theorem Off.nil (fp : Nat → Prop) : Off fp (.slice none 0 0) [] := fun h => absurd rfl h
end Dk
end Go.Proofs.Ytipfjccmceaclaa
