/-
  The math of a net: the packets on their way, whether it is parted; what each call does and answers.
-/
import Derived.WalkKit
namespace Go.Proofs.Ytimbcmcmidnlfaa
namespace Nt
/-- A packet: from where, where to, its bytes. -/
structure Pk where
  f : Int
  t : Int
  d : ByteArray
theorem Pk.eq {a b : Pk} (h1 : a.f = b.f) (h2 : a.t = b.t) (h3 : a.d = b.d) : a = b := by
  cases a; cases b; simp only [Pk.mk.injEq]; exact ⟨h1, h2, h3⟩
instance pkDec (a b : Pk) : Decidable (a = b) := decidable_of_iff (a.f = b.f ∧ a.t = b.t ∧ a.d = b.d) ⟨fun h => Pk.eq h.1 h.2.1 h.2.2, fun h => by subst h; exact ⟨rfl, rfl, rfl⟩⟩
def zero : Pk := ⟨0, 0, ⟨#[]⟩⟩
def linked (p : Pk) : Prop := (p.f = 0 ∧ p.t = 1) ∨ (p.f = 1 ∧ p.t = 0)
instance linkedDec (p : Pk) : Decidable (linked p) := by unfold linked; exact inferInstance
structure Md where
  row : List Pk
  parted : Bool
def count (l : List Pk) (f : Int) : Nat := (l.filter fun p => p.f == f).length
def there (M : Md) (i : Int) : Bool := decide (0 ≤ i) && decide (i < M.row.length)
def drop (M : Md) (i : Nat) : Md := { M with row := M.row.eraseIdx i }
def put (M : Md) (p : Pk) : Md × Int := if count M.row p.f = 64 then (M, 6) else ({ M with row := M.row ++ [p] }, 0)
def post (M : Md) (p : Pk) : Md × Int := if linked p then put M p else (M, 1)
def at_ (M : Md) (i : Int) : Pk := M.row.getD i.toNat zero
def take (M : Md) (i : Int) : Md × Pk × Int := if there M i then (if M.parted then (M, zero, 14) else (drop M i.toNat, at_ M i, 0)) else (M, zero, 4)
def lose (M : Md) (i : Int) : Md × Int := if there M i then (drop M i.toNat, 0) else (M, 4)
def dup (M : Md) (i : Int) : Md × Int := if there M i then put M (at_ M i) else (M, 4)
def new : Md := ⟨[], false⟩
structure Md.Ok (M : Md) : Prop where
  links : ∀ p ∈ M.row, linked p
  room : count M.row 0 ≤ 64 ∧ count M.row 1 ≤ 64
  data : ∀ p ∈ M.row, p.d.size ≤ 1099511627776
theorem there_iff {M : Md} {i : Int} : there M i = true ↔ 0 ≤ i ∧ i < M.row.length := by simp [there]
theorem there_not {M : Md} {i : Int} : there M i = false ↔ ¬ (0 ≤ i ∧ i < M.row.length) := by
  rw [← there_iff]; simp
theorem there_nat {M : Md} {k : Nat} (h : k < M.row.length) : there M (k : Int) = true := there_iff.2 ⟨by omega, by omega⟩
theorem count_append (a b : List Pk) (f : Int) : count (a ++ b) f = count a f + count b f := by simp [count]
theorem count_one (p : Pk) (f : Int) : count [p] f = if p.f = f then 1 else 0 := by
  by_cases h : p.f = f <;> simp [count, h]
theorem count_le (l : List Pk) (f : Int) : count l f ≤ l.length := List.length_filter_le _ _
theorem count_erase : ∀ (l : List Pk) (i : Nat) (h : i < l.length) (f : Int), count (l.eraseIdx i) f + (if l[i].f = f then 1 else 0) = count l f
  | [], i, h, _ => by simp at h
  | p :: l, 0, _, f => by
    simp only [List.eraseIdx_cons_zero, List.getElem_cons_zero]
    have := count_append [p] l f
    rw [List.singleton_append, count_one] at this
    omega
  | p :: l, i + 1, h, f => by
    have ih := count_erase l i (by simpa using h) f
    have e1 := count_append [p] l f
    have e2 := count_append [p] (l.eraseIdx i) f
    simp only [List.eraseIdx_cons_succ, List.getElem_cons_succ]
    rw [List.singleton_append] at e1 e2
    omega
theorem count_both : ∀ {l : List Pk}, (∀ p ∈ l, linked p) → count l 0 + count l 1 = l.length
  | [], _ => rfl
  | p :: l, h => by
    have ih := count_both (l := l) fun q hq => h q (by simp [hq])
    have e0 := count_append [p] l 0
    have e1 := count_append [p] l 1
    rw [List.singleton_append, count_one] at e0 e1
    rw [List.length_cons, e0, e1]
    rcases h p (by simp) with ⟨hp, _⟩ | ⟨hp, _⟩
    · rw [if_pos hp, if_neg (by omega)]; omega
    · rw [if_neg (by omega), if_pos hp]; omega
theorem Md.Ok.len {M : Md} (h : M.Ok) : M.row.length ≤ 128 := by
  have := count_both h.links
  have := h.room
  omega
theorem Md.Ok.from_ {M : Md} (h : M.Ok) {p : Pk} (hp : p ∈ M.row) : p.f = 0 ∨ p.f = 1 := by
  rcases h.links p hp with h | h
  · exact .inl h.1
  · exact .inr h.1
theorem ok_new : new.Ok := ⟨by simp [new], by simp [new, count], by simp [new]⟩
theorem Md.Ok.part {M : Md} (h : M.Ok) (b : Bool) : Md.Ok { M with parted := b } := ⟨h.links, h.room, h.data⟩
theorem at_mem {M : Md} {i : Int} (h : there M i = true) : at_ M i ∈ M.row := by
  have := there_iff.1 h
  rw [at_, List.getD_eq_getElem?_getD, List.getElem?_eq_getElem (by omega), Option.getD_some]
  exact List.getElem_mem _
theorem at_get {M : Md} {k : Nat} (h : k < M.row.length) : at_ M (k : Int) = M.row[k] := by
  rw [at_, Int.toNat_natCast, List.getD_eq_getElem?_getD, List.getElem?_eq_getElem h, Option.getD_some]
theorem Md.Ok.drop {M : Md} (h : M.Ok) (i : Nat) : (drop M i).Ok := by
  refine ⟨fun p hp => h.links p (List.mem_of_mem_eraseIdx hp), ?_, fun p hp => h.data p (List.mem_of_mem_eraseIdx hp)⟩
  have hr := h.room
  by_cases hi : i < M.row.length
  · have e0 := count_erase M.row i hi 0
    have e1 := count_erase M.row i hi 1
    simp only [Nt.drop]
    omega
  · simp only [Nt.drop]
    rw [List.eraseIdx_of_length_le (by omega)]
    exact hr
theorem Md.Ok.put {M : Md} (h : M.Ok) {p : Pk} (hl : linked p) (hd : p.d.size ≤ 1099511627776) : (put M p).1.Ok := by
  unfold Nt.put
  split
  · exact h
  · rename_i hc
    refine ⟨fun q hq => ?_, ?_, fun q hq => ?_⟩
    · rcases List.mem_append.1 hq with h1 | h1
      · exact h.links q h1
      · simp at h1; subst h1; exact hl
    · have hr := h.room
      simp only [count_append, count_one]
      have : p.f = 0 ∨ p.f = 1 := by rcases hl with h | h; exact .inl h.1; exact .inr h.1
      rcases this with e | e
      · rw [e] at hc ⊢; simp; omega
      · rw [e] at hc ⊢; simp; omega
    · rcases List.mem_append.1 hq with h1 | h1
      · exact h.data q h1
      · simp at h1; subst h1; exact hd
theorem Md.Ok.post {M : Md} (h : M.Ok) {p : Pk} (hd : p.d.size ≤ 1099511627776) : (post M p).1.Ok := by
  unfold Nt.post
  split
  · exact h.put (by assumption) hd
  · exact h
theorem Md.Ok.dup {M : Md} (h : M.Ok) (i : Int) : (dup M i).1.Ok := by
  unfold Nt.dup
  split
  · rename_i ht; exact h.put (h.links _ (at_mem ht)) (h.data _ (at_mem ht))
  · exact h
theorem Md.Ok.lose {M : Md} (h : M.Ok) (i : Int) : (lose M i).1.Ok := by
  unfold Nt.lose
  split
  · exact h.drop _
  · exact h
theorem Md.Ok.take {M : Md} (h : M.Ok) (i : Int) : (take M i).1.Ok := by
  unfold Nt.take
  split
  · split
    · exact h
    · exact h.drop _
  · exact h
theorem post_parted (M : Md) (p : Pk) : (post M p).1.parted = M.parted := by
  unfold post put; split
  · split <;> rfl
  · rfl
theorem dup_parted (M : Md) (i : Int) : (dup M i).1.parted = M.parted := by
  unfold dup put; split
  · split <;> rfl
  · rfl
theorem lose_parted (M : Md) (i : Int) : (lose M i).1.parted = M.parted := by
  unfold lose; split <;> rfl
theorem take_parted (M : Md) (i : Int) : (take M i).1.parted = M.parted := by
  unfold take; split
  · split <;> rfl
  · rfl
end Nt
end Go.Proofs.Ytimbcmcmidnlfaa
