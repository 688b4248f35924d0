/-
  The document's Cut.
-/
import Derived.Test.YtkoipingokglpaaDoorPaPath
namespace Go.Proofs.YtkoipingokglpaaDoor
open Go.RowKit
namespace Pa
theorem first_slash : ∀ {l : List UInt8} {i : Nat} (h : i < l.length), l[i] = 47 → (∀ j (h : j < l.length), j < i → ¬ l[j] = 47) → head l = l.take i ∧ tail l = l.drop (i + 1)
  | [], _, h, _, _ => absurd h (Nat.not_lt_zero _)
  | b :: r, 0, _, h, _ => by
    simp only [List.getElem_cons_zero] at h
    subst h
    simp [head, tail]
  | b :: r, i + 1, hi, h, hn => by
    have hb : (b == 47) = false := by
      have := hn 0 (by simp) (by omega)
      simpa using this
    have ih := first_slash (l := r) (i := i) (by simpa using hi) (by simpa using h) (fun j h1 h2 => by
      have := hn (j + 1) (by simp; omega) (by omega)
      simpa using this)
    simp [head, tail, hb, ih]
theorem no_slash {l : List UInt8} (h : ∀ j (h : j < l.length), ¬ l[j] = 47) : head l = l ∧ tail l = [] := by
  induction l with
  | nil => exact ⟨rfl, rfl⟩
  | cons b r ih =>
    have hb : (b == 47) = false := by
      have := h 0 (by simp)
      simpa using this
    have ih := ih fun j hj => by
      have := h (j + 1) (by simp; omega)
      simpa using this
    simp [head, tail, hb, ih]
theorem no_ok {l : List UInt8} (h : tail l = []) : ok l = false := by
  unfold ok
  rw [h, Bool.and_eq_false_iff]
  exact .inr rfl
theorem ext_list0 (s : ByteArray) (n : Nat) : (s.extract 0 n).data.toList = s.data.toList.take n := by rw [ext_take]
theorem ext_list1 (s : ByteArray) (n : Nat) : (s.extract n s.size).data.toList = s.data.toList.drop n := by rw [ext_drop]
end Pa
end Go.Proofs.YtkoipingokglpaaDoor
