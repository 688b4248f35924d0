/-
  Operations and batches as arguments: what one is, where a slice of them lies, an argument opened.
-/
import Derived.Test.YtiehcplepneajaaGreatDoorBaMath
import Derived.ProofKit
import Derived.Deep.Slices
import Derived.Deep.Fields
namespace Go.Proofs.YtiehcplepneajaaGreatDoor
open Go.ChangeMaps (open_string shut_string)
open Go.ChangeShapes Go.WideShapes Go.ChangeAt Go.RowKit Go.Deep
namespace Ba
structure Op.Ok (o : Op) : Prop where
  k : o.k < 256
  p : o.p.size ≤ 9223372036854775807
  v : o.v.size ≤ 9223372036854775807
def opAt (w : World) (b o : Nat) (x : Op) : Prop :=
  w.cell? ⟨b, o, none⟩ = some (.int .u8 (x.k : Int)) ∧ w.cell? ⟨b, o + 1, none⟩ = some (.string x.p) ∧ w.cell? ⟨b, o + 2, none⟩ = some (.string x.v)
def opsAt (w : World) (b off : Nat) (l : List Op) : Prop := ∀ k (hk : k < l.length), opAt w b (off + k * 3) l[k]
def listAt (w : World) (A : Option Addr) (l : List Op) : Prop := l = [] ∨ ∃ b off, A = some ⟨b, off, none⟩ ∧ b < w.heap.size ∧ opsAt w b off l
theorem opAt.below {w w' : World} {b o B : Nat} {x : Op} (h : opAt w b o x) (k : Below B w w') (hb : b < B) : opAt w' b o x := by
  have e : ∀ i, w'.cell? ⟨b, i, none⟩ = w.cell? ⟨b, i, none⟩ := fun i => k.cell (p := ⟨b, i, none⟩) hb
  unfold opAt
  simp only [e]
  exact h
theorem opsAt.below {w w' : World} {b off B : Nat} {l : List Op} (h : opsAt w b off l) (k : Below B w w') (hb : b < B) : opsAt w' b off l := fun j hj => (h j hj).below k hb
theorem listAt.below {w w' : World} {A : Option Addr} {l : List Op} (h : listAt w A l) (k : Below w.heap.size w w') : listAt w' A l := by
  rcases h with h | ⟨b, off, h1, h2, h3⟩
  · exact .inl h
  · exact .inr ⟨b, off, h1, Nat.lt_of_lt_of_le h2 k.size, h3.below k h2⟩
theorem listAt.get {w w' : World} {A : Option Addr} {l : List Op} (h : listAt w A l) (k : Below w.heap.size w w') (j : Nat) (hj : j < l.length) : ∃ b off, A = some ⟨b, off, none⟩ ∧ b < w.heap.size ∧ opAt w' b (off + j * 3) l[j] := by
  rcases h with rfl | ⟨b, off, rfl, hb, hi⟩
  · simp at hj
  · exact ⟨b, off, rfl, hb, (hi j hj).below k hb⟩
theorem list_of12 {P : Nat → Op → Prop} (n : Nat) (h : ∀ i, i < n → ∃ a, P i a) : ∃ l : List Op, l.length = n ∧ ∀ i (hi : i < l.length), P i l[i] := by
  induction n with
  | zero => exact ⟨[], rfl, fun i hi => by simp at hi⟩
  | succ n ih =>
    obtain ⟨l, hl, hp⟩ := ih fun i hi => h i (by omega)
    obtain ⟨a, ha⟩ := h n (by omega)
    refine ⟨l ++ [a], by simp [hl], fun i hi => ?_⟩
    by_cases hin : i < l.length
    · rw [List.getElem_append_left hin]; exact hp i hin
    · have hie : i = l.length := by simp at hi; omega
      subst hie
      rw [List.getElem_append_right (by omega)]
      simp [hl, ha]
theorem field_at12 {fs : Array Field} {ts : Array TypeId} (hfs : (fs.map fun f => f.type) = ts) (j : Nat) (t : TypeId) (h : ts[j]? = some t) :
    ∃ f, fs[j]? = some f ∧ f.type = t := by
  rw [← hfs, Array.getElem?_map] at h
  cases hf : fs[j]? with
  | none => rw [hf] at h; simp at h
  | some f => rw [hf] at h; exact ⟨f, rfl, by simpa using h⟩
structure Bt.Ok (b : Bt) : Prop where
  ix : -9223372036854775808 ≤ b.ix ∧ b.ix ≤ 9223372036854775807
  ep : -9223372036854775808 ≤ b.ep ∧ b.ep ≤ 9223372036854775807
  ops : ∀ o ∈ b.ops, o.Ok
  len : b.ops.length ≤ 9223372036854775807
end Ba
end Go.Proofs.YtiehcplepneajaaGreatDoor
