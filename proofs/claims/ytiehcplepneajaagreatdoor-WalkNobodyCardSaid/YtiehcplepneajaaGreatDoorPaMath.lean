/-
  Paths: what a mount's name, a key and a path are.
-/
import Derived.Lib.IndexBytes
import Derived.Lib.IndexLaws
import Derived.Lib.CutLaws
import Derived.Test.YtiehcplepneajaaGreatDoorProg
namespace Go.Proofs.YtiehcplepneajaaGreatDoor
namespace Pa
def low (c : UInt8) : Bool := decide (97 ≤ c.toNat) && decide (c.toNat ≤ 122)
def fair (c : UInt8) : Bool := decide (¬ c.toNat = 0) && decide (¬ c.toNat = 47)
/-- Is it a mount's name? -/
def named (l : List UInt8) : Bool := decide (1 ≤ l.length) && decide (l.length ≤ 8) && l.all low
/-- Is it a key? -/
def keyed (l : List UInt8) : Bool := decide (1 ≤ l.length) && decide (l.length ≤ 24) && l.all fair
def head : List UInt8 → List UInt8
  | [] => []
  | b :: l => if b == 47 then [] else b :: head l
def tail : List UInt8 → List UInt8
  | [] => []
  | b :: l => if b == 47 then l else tail l
/-- Is it a path? -/
def ok (l : List UInt8) : Bool := named (head l) && keyed (tail l)
def cutA (l : List UInt8) : List UInt8 := if ok l then head l else []
def cutB (l : List UInt8) : List UInt8 := if ok l then tail l else []
theorem lib_cut (l : List UInt8) : (Lib.cut l [47]).1 = head l ∧ (Lib.cut l [47]).2.1 = tail l := by
  unfold Lib.cut
  rw [Lib.index_one]
  induction l with
  | nil => exact ⟨rfl, rfl⟩
  | cons b r ih =>
    by_cases hb : (b == 47) = true
    · have e : Lib.indexByte (b :: r) 47 = 0 := by rw [Lib.indexByte, if_pos hb]
      rw [e]
      simp [head, tail, hb]
    · have hg := Lib.indexByte_ge r 47
      by_cases hn : Lib.indexByte r 47 = -1
      · have e : Lib.indexByte (b :: r) 47 = -1 := by rw [Lib.indexByte, if_neg hb, hn]; rfl
        rw [hn] at ih
        rw [e]
        simp [head, tail, hb] at ih ⊢
        exact ih
      · have e : Lib.indexByte (b :: r) 47 = Lib.indexByte r 47 + 1 := by
          rw [Lib.indexByte, if_neg hb, if_neg (by simpa using hn)]
        obtain ⟨n, hn2⟩ : ∃ n : Nat, Lib.indexByte r 47 = n := ⟨(Lib.indexByte r 47).toNat, by omega⟩
        rw [hn2] at ih e
        rw [e]
        have p1 : (0 : Int) ≤ (n : Int) := by omega
        have p2 : (0 : Int) ≤ (n : Int) + 1 := by omega
        have p3 : ((n : Int) + 1).toNat = n + 1 := by omega
        simp only [if_pos p1, if_pos p2, p3, Int.toNat_natCast, List.length_singleton] at ih ⊢
        have hb' : (b == 47) = false := by simpa using hb
        simp [head, tail, hb']
        exact ⟨ih.1, ih.2⟩
theorem has_byte (l : List UInt8) (c : UInt8) : decide (0 ≤ Lib.indexByte l c) = l.any (· == c) := by
  induction l with
  | nil => rfl
  | cons b r ih =>
    have hg := Lib.indexByte_ge r c
    by_cases hb : (b == c) = true
    · rw [Lib.indexByte, if_pos hb]; simp [hb]
    · have hb' : (b == c) = false := by simpa using hb
      by_cases hn : Lib.indexByte r c = -1
      · rw [Lib.indexByte, if_neg hb, hn]
        rw [hn] at ih
        simp [hb'] at ih ⊢
        exact ih
      · rw [Lib.indexByte, if_neg hb, if_neg (by simpa using hn)]
        have h1 : (0 : Int) ≤ Lib.indexByte r c := by omega
        have h2 : (0 : Int) ≤ Lib.indexByte r c + 1 := by omega
        simp [h1] at ih
        simp [h2, hb', ih]
theorem fair_any (l : List UInt8) : l.all fair = (!l.any (· == 47) && !l.any (· == 0)) := by
  induction l with
  | nil => rfl
  | cons b r ih =>
    rw [List.all_cons, List.any_cons, List.any_cons, ih]
    have h0 : (b == 0) = decide (b.toNat = 0) := by
      by_cases h : b.toNat = 0
      · have : b = 0 := UInt8.toNat_inj.1 h
        simp [this]
      · have : b ≠ 0 := fun e => h (by rw [e]; rfl)
        simp [this, h]
    have h1 : (b == 47) = decide (b.toNat = 47) := by
      by_cases h : b.toNat = 47
      · have : b = 47 := UInt8.toNat_inj.1 h
        simp [this]
      · have : b ≠ 47 := fun e => h (by rw [e]; rfl)
        simp [this, h]
    rw [h0, h1, fair]
    by_cases a : b.toNat = 0 <;> by_cases c : b.toNat = 47 <;> simp [a, c, Bool.and_comm]
theorem named_len {l : List UInt8} (h : named l = true) : 1 ≤ l.length ∧ l.length ≤ 8 := by
  simp [named] at h; omega
theorem keyed_len {l : List UInt8} (h : keyed l = true) : 1 ≤ l.length ∧ l.length ≤ 24 := by
  simp [keyed] at h; omega
theorem named_low {l : List UInt8} (h : named l = true) : l.all low = true := by
  simp only [named, Bool.and_eq_true] at h; exact h.2
theorem keyed_fair {l : List UInt8} (h : keyed l = true) : l.all fair = true := by
  simp only [keyed, Bool.and_eq_true] at h; exact h.2
theorem head_join {m k : List UInt8} (h : m.all low = true) : head (m ++ 47 :: k) = m ∧ tail (m ++ 47 :: k) = k := by
  induction m with
  | nil => simp [head, tail]
  | cons b r ih =>
    simp only [List.all_cons, Bool.and_eq_true] at h
    have hb : (b == 47) = false := by
      rw [Bool.eq_false_iff]
      intro e
      have e' : b = 47 := by simpa using e
      rw [e'] at h
      exact absurd h.1 (by decide)
    have ih := ih h.2
    simp [head, tail, hb, ih]
theorem cut_join {m k : List UInt8} (hm : named m = true) (hk : keyed k = true) : ok (m ++ 47 :: k) = true ∧ cutA (m ++ 47 :: k) = m ∧ cutB (m ++ 47 :: k) = k := by
  obtain ⟨h1, h2⟩ := head_join (k := k) (named_low hm)
  have h3 : ok (m ++ 47 :: k) = true := by unfold ok; rw [h1, h2, hm, hk]; rfl
  unfold cutA cutB
  rw [h3, if_pos rfl, if_pos rfl]
  exact ⟨rfl, h1, h2⟩
theorem join_parts (l : List UInt8) (h : tail l ≠ []) : l = head l ++ 47 :: tail l := by
  induction l with
  | nil => exact absurd rfl h
  | cons b r ih =>
    by_cases hb : (b == 47) = true
    · have e : b = 47 := by simpa using hb
      simp [head, tail, e]
    · have hb' : (b == 47) = false := by simpa using hb
      rw [head, tail, hb']
      rw [tail, hb'] at h
      simp only [Bool.false_eq_true, if_false] at h ⊢
      rw [List.cons_append, ← ih h]
theorem ok_parts {l : List UInt8} (h : ok l = true) : named (cutA l) = true ∧ keyed (cutB l) = true ∧ l = cutA l ++ 47 :: cutB l := by
  unfold cutA cutB
  rw [h, if_pos rfl, if_pos rfl]
  unfold ok at h
  rw [Bool.and_eq_true] at h
  refine ⟨h.1, h.2, join_parts l ?_⟩
  intro e
  have := (keyed_len h.2).1
  rw [e] at this
  simp at this
theorem ok_len {l : List UInt8} (h : ok l = true) : l.length ≤ 33 := by
  obtain ⟨h1, h2, h3⟩ := ok_parts h
  have e := congrArg List.length h3
  have := named_len h1
  have := keyed_len h2
  simp at e
  omega
theorem not_ok {l : List UInt8} (h : ok l = false) : cutA l = [] ∧ cutB l = [] := by
  unfold cutA cutB; rw [h]; exact ⟨rfl, rfl⟩
end Pa
end Go.Proofs.YtiehcplepneajaaGreatDoor
