/-
  Items that lie in a block; what the statements' helper writes does.
-/
import Derived.Test.YtapogiihkbjppaaDoorWakes
namespace Go.Proofs.YtapogiihkbjppaaDoor
open Go.RowKit Pk

/-- Items lie in block b, from off on. -/
def itemAt (w : World) (b o : Nat) (a : It) : Prop :=
  w.cell? ⟨b, o, none⟩ = some (.int .u8 a.d) ∧ w.cell? ⟨b, o + 1, none⟩ = some (.int .u64 a.n) ∧ w.cell? ⟨b, o + 2, none⟩ = some (.int .i64 a.i) ∧
  w.cell? ⟨b, o + 3, none⟩ = some (.string a.s) ∧ w.cell? ⟨b, o + 4, none⟩ = some (.int .u8 a.b) ∧ w.cell? ⟨b, o + 5, none⟩ = some (.int .i64 a.m)
def itemsAt (w : World) (b off : Nat) (l : List It) : Prop := ∀ k (hk : k < l.length), itemAt w b (off + k * 6) l[k]

theorem ret_bool {a b : Bool} (h : a = b) : Ending.returned (.bool a) = .returned (.bool b) := by rw [h]

theorem itemAt.below {w w' : World} {b o B : Nat} {a : It} (h : itemAt w b o a) (k : Below B w w') (hb : b < B) : itemAt w' b o a := by
  have e : ∀ x, w'.cell? ⟨b, x, none⟩ = w.cell? ⟨b, x, none⟩ := fun x => k.cell (p := ⟨b, x, none⟩) hb
  unfold itemAt
  simp only [e]
  exact h
theorem itemsAt.below {w w' : World} {b off B : Nat} {l : List It} (h : itemsAt w b off l) (k : Below B w w') (hb : b < B) : itemsAt w' b off l := fun j hj => (h j hj).below k hb

end Go.Proofs.YtapogiihkbjppaaDoor
