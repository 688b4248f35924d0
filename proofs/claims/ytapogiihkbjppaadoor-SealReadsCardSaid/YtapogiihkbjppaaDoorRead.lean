/-
  What the statements' helpers do: read, bare.
-/
import Derived.Test.YtapogiihkbjppaaDoorWr
namespace Go.Proofs.YtapogiihkbjppaaDoor
open Go.RowKit Pk

/-- What is read for an item, and the reader behind it. -/
def rdI (r : Rd) (a : It) : It × Rd :=
  if a.d = 0 then (⟨0, r.num.1, 0, ⟨#[]⟩, 0, 0⟩, r.num.2)
  else if a.d = 1 then (⟨0, 0, zag r.num.1, ⟨#[]⟩, 0, 0⟩, r.num.2)
  else if a.d = 2 then (⟨0, 0, 0, ⟨(r.text a.m).1.toArray⟩, 0, 0⟩, (r.text a.m).2)
  else if a.d = 3 then (⟨0, 0, 0, ⟨#[]⟩, r.byte.1, 0⟩, r.byte.2)
  else (⟨0, (r.most a.m).1, 0, ⟨#[]⟩, 0, 0⟩, (r.most a.m).2)

def itV (a : It) : Value := .agg #[.int .u8 a.d, .int .u64 a.n, .int .i64 a.i, .string a.s, .int .u8 a.b, .int .i64 a.m]

theorem rdI_ok {r : Rd} (hr : r.Ok) (a : It) : (rdI r a).2.Ok := by
  unfold rdI
  split
  · exact hr.num
  · split
    · exact hr.num
    · split
      · exact hr.text a.m
      · split
        · exact hr.byte
        · exact hr.most a.m

def zeroCells : Array Value := #[.int .u8 0, .int .u64 0, .int .i64 0, .string ⟨#[]⟩, .int .u8 0, .int .i64 0]
def set6 (w : World) (k : Nat) (v0 v1 v2 v3 v4 v5 : Value) : World :=
  ((((((w.setCell ⟨k, 0, none⟩ v0).setCell ⟨k, 1, none⟩ v1).setCell ⟨k, 2, none⟩ v2).setCell ⟨k, 3, none⟩ v3).setCell ⟨k, 4, none⟩ v4).setCell ⟨k, 5, none⟩ v5)
theorem set6_other (w : World) (k : Nat) (v0 v1 v2 v3 v4 v5 : Value) (j : Nat) (h : j ≠ k) : (set6 w k v0 v1 v2 v3 v4 v5).heap[j]? = w.heap[j]? := by
  unfold set6
  rw [Below.heap_setCell _ ⟨k, 5, none⟩ _ j h, Below.heap_setCell _ ⟨k, 4, none⟩ _ j h, Below.heap_setCell _ ⟨k, 3, none⟩ _ j h, Below.heap_setCell _ ⟨k, 2, none⟩ _ j h, Below.heap_setCell _ ⟨k, 1, none⟩ _ j h, Below.heap_setCell _ ⟨k, 0, none⟩ _ j h]
theorem set6_grown {a w : World} {k : Nat} {B : Nat} (h : Below B a w) (hk : B ≤ k) (v0 v1 v2 v3 v4 v5 : Value) : Below B a (set6 w k v0 v1 v2 v3 v4 v5) := by
  have s0 := h.setCell (p := ⟨k, 0, none⟩) hk v0
  have s1 := s0.setCell (p := ⟨k, 1, none⟩) hk v1
  have s2 := s1.setCell (p := ⟨k, 2, none⟩) hk v2
  have s3 := s2.setCell (p := ⟨k, 3, none⟩) hk v3
  have s4 := s3.setCell (p := ⟨k, 4, none⟩) hk v4
  exact s4.setCell (p := ⟨k, 5, none⟩) hk v5
theorem most_lt (r : Rd) (m : Int) : (r.most m).1 < 2 ^ 64 := by
  unfold Rd.most
  simp only
  split
  · exact (cnt_bd r.rest m).1
  · omega

end Go.Proofs.YtapogiihkbjppaaDoor
