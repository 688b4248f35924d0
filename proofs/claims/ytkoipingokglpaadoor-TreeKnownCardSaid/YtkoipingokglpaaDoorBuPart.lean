/-
  bucket's Part.
-/
import Derived.Test.YtkoipingokglpaaDoorBuFns
import Derived.Test.YtkoipingokglpaaDoorOmOwn
import Derived.Deep.RegionHeld3
import Derived.Deep.Cut
namespace Go.Proofs.YtkoipingokglpaaDoor
open Go.RowKit
namespace Bu
open Om (Pr)
/-- Where Part stands: what was taken so far, in a row of its own. -/
structure Pt (w wx : World) (B : Option Addr) (q : Nat) (m : List Pr) : Prop where
  row : Om.Row wx w.heap.size B q m
  bel : Below w.heap.size w wx
theorem Pt.step {w wx wy : World} {B : Option Addr} {q : Nat} {m : List Pr} (h : Pt w wx B q m) (k : Below wx.heap.size wx wy) : Pt w wy B q m := ⟨h.row.low k, h.bel.trans (k.mono h.bel.size)⟩
theorem Pt.push {w wx wy : World} {B B' : Option Addr} {q q' : Nat} {m m' : List Pr} (h : Pt w wx B q m) (h1 : Om.Row wy w.heap.size B' q' m') (hg : wx.grownBy wy (Value.slice B m.length q).ownBlock) : Pt w wy B' q' m' :=
  ⟨h1, h.bel.grown hg h.bel.size (fun _ hb => (h.row.blk hb).1)⟩
theorem Pt.nil (w : World) : Pt w w none 0 [] := ⟨Om.Row.nil _ _, Below.refl _ _⟩
theorem isOf_eq (i : Int) (x : Pr) : (((bk x.p : Nat) : Int) == i) = isOf i x := by
  unfold isOf
  rw [Bool.eq_iff_iff, beq_iff_eq, decide_eq_true_eq]
theorem part_le (l : List Pr) (k : Nat) (i : Int) : (part (l.take k) i).length ≤ l.length := Nat.le_trans (part_length _ _) (by rw [List.length_take]; omega)
end Bu
end Go.Proofs.YtkoipingokglpaaDoor
