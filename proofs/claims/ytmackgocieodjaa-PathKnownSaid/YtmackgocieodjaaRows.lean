/-
  No cell of these rows narrows 'for every input' (looked for: loops, veiled, ifaces, maps, wideKeys, modest, calm, conditions, laid).
  DERIVED. THE GIVEN ROWS OF THIS SEAT. 6 by the template 'for every input the law returns true; each argument reads behind the call as it read before'; 0 by the template 'total and deterministic' (their statements: YtmackgocieodjaaTotals.lean).
  GIVEN WITH THE SEED: the statements are not yours to turn. If you find one false, say at which input.
  Laid BY PROGRAM, IN A SANDBOX (cutbox-rows.mjs): the forced cells as the released guide's own fill.sh prints them over the translation d7562a82f56710cc… (all of the seat's roots in one cut). By AI agents, Wed Nov 11 2026. No macro, syntax, notation, axiom, sorry.
-/
import Derived.Test.YtmackgocieodjaaChecked
import GoSem.Claim
import GoSem.ClaimJoined
import GoSem.ClaimMapViews
import Derived.JoinedTies
import Derived.KernelRfl
namespace Go.Proofs.Ytmackgocieodjaa
/- THE CELL 'sum', in the pinned program and in every row, IS THE sha256 OF THE DUMP (.gsa) THAT YtmackgocieodjaaProg.lean LOADS. Nothing in Lean hashes anything: it is a label: what it is worth is what the hold of that sum in a sandbox is worth. -/
noncomputable def Try.pinned : Pinned := { name := "ytmackgocieodjaa", sum := "d7562a82f56710cc0c3e2f0ae36bb54705e21f994a1d644205d82a6f47c9d404", checked := Try.checked }
namespace Rows
def none {H : Type} : Left H := { results := [], args := [] }

/-- 'twinlocklaw11.PathCuts': WHATEVER THE INPUT: true; the input reads as it did. -/
def pathCutsSpec : ChangeSpec := { name := "pathCuts", fn := fun _ => fun
  | [d1, d2] => { results := [.lit (.bool true)], args := [d1, d2] }
  | _ => none }
def pathCutsRow : OpenClaim := { program := "ytmackgocieodjaa", sum := "d7562a82f56710cc0c3e2f0ae36bb54705e21f994a1d644205d82a6f47c9d404", func := "twinlock/twinlocklaw11.PathCuts", spec := "pathCuts", inPlace := ["internal/bytealg.IndexByteString", "internal/bytealg.IndexString"], unfollowed := true, recurses := true, named := ["internal/bytealg.MaxLen"], apart := false }
def PathCutsSaid : Prop := pathCutsRow.holds Try.pinned (OpenSpec.ofChange pathCutsSpec)

/-- ITS FALSE NEIGHBOUR: 'it returns false'. Refute it at one input. -/
def pathCutsWrong : ChangeSpec := { name := "pathCuts", fn := fun _ => fun
  | [d1, d2] => { results := [.lit (.bool false)], args := [d1, d2] }
  | _ => none }
def PathCutsWrongFalsely : Prop := pathCutsRow.holds Try.pinned (OpenSpec.ofChange pathCutsWrong)

/-- 'twinlocklaw11.PathMounts': WHATEVER THE INPUT: true; the input reads as it did. -/
def pathMountsSpec : ChangeSpec := { name := "pathMounts", fn := fun _ => fun
  | [d1, d2] => { results := [.lit (.bool true)], args := [d1, d2] }
  | _ => none }
def pathMountsRow : OpenClaim := { program := "ytmackgocieodjaa", sum := "d7562a82f56710cc0c3e2f0ae36bb54705e21f994a1d644205d82a6f47c9d404", func := "twinlock/twinlocklaw11.PathMounts", spec := "pathMounts", inPlace := ["internal/bytealg.IndexByteString", "internal/bytealg.IndexString"], unfollowed := true, recurses := true, named := ["internal/bytealg.MaxLen"], apart := false }
def PathMountsSaid : Prop := pathMountsRow.holds Try.pinned (OpenSpec.ofChange pathMountsSpec)

/-- ITS FALSE NEIGHBOUR: 'it returns false'. Refute it at one input. -/
def pathMountsWrong : ChangeSpec := { name := "pathMounts", fn := fun _ => fun
  | [d1, d2] => { results := [.lit (.bool false)], args := [d1, d2] }
  | _ => none }
def PathMountsWrongFalsely : Prop := pathMountsRow.holds Try.pinned (OpenSpec.ofChange pathMountsWrong)

/-- 'twinlocklaw11.PathBack': WHATEVER THE INPUT: true; the input reads as it did. -/
def pathBackSpec : ChangeSpec := { name := "pathBack", fn := fun _ => fun
  | [d1, d2] => { results := [.lit (.bool true)], args := [d1, d2] }
  | _ => none }
def pathBackRow : OpenClaim := { program := "ytmackgocieodjaa", sum := "d7562a82f56710cc0c3e2f0ae36bb54705e21f994a1d644205d82a6f47c9d404", func := "twinlock/twinlocklaw11.PathBack", spec := "pathBack", inPlace := ["internal/bytealg.IndexByteString", "internal/bytealg.IndexString"], unfollowed := true, recurses := true, named := ["internal/bytealg.MaxLen"], apart := false }
def PathBackSaid : Prop := pathBackRow.holds Try.pinned (OpenSpec.ofChange pathBackSpec)

/-- ITS FALSE NEIGHBOUR: 'it returns false'. Refute it at one input. -/
def pathBackWrong : ChangeSpec := { name := "pathBack", fn := fun _ => fun
  | [d1, d2] => { results := [.lit (.bool false)], args := [d1, d2] }
  | _ => none }
def PathBackWrongFalsely : Prop := pathBackRow.holds Try.pinned (OpenSpec.ofChange pathBackWrong)

/-- 'twinlocklaw11.PathSides': WHATEVER THE INPUT: true; the input reads as it did. -/
def pathSidesSpec : ChangeSpec := { name := "pathSides", fn := fun _ => fun
  | [d1, d2, d3] => { results := [.lit (.bool true)], args := [d1, d2, d3] }
  | _ => none }
def pathSidesRow : OpenClaim := { program := "ytmackgocieodjaa", sum := "d7562a82f56710cc0c3e2f0ae36bb54705e21f994a1d644205d82a6f47c9d404", func := "twinlock/twinlocklaw11.PathSides", spec := "pathSides", inPlace := ["internal/bytealg.IndexByteString", "internal/bytealg.IndexString"], unfollowed := true, recurses := true, named := ["internal/bytealg.MaxLen"], apart := false }
def PathSidesSaid : Prop := pathSidesRow.holds Try.pinned (OpenSpec.ofChange pathSidesSpec)

/-- ITS FALSE NEIGHBOUR: 'it returns false'. Refute it at one input. -/
def pathSidesWrong : ChangeSpec := { name := "pathSides", fn := fun _ => fun
  | [d1, d2, d3] => { results := [.lit (.bool false)], args := [d1, d2, d3] }
  | _ => none }
def PathSidesWrongFalsely : Prop := pathSidesRow.holds Try.pinned (OpenSpec.ofChange pathSidesWrong)

/-- 'twinlocklaw11.PathFilter': WHATEVER THE INPUT: true; the input reads as it did. -/
def pathFilterSpec : ChangeSpec := { name := "pathFilter", fn := fun _ => fun
  | [d1, d2, d3] => { results := [.lit (.bool true)], args := [d1, d2, d3] }
  | _ => none }
def pathFilterRow : OpenClaim := { program := "ytmackgocieodjaa", sum := "d7562a82f56710cc0c3e2f0ae36bb54705e21f994a1d644205d82a6f47c9d404", func := "twinlock/twinlocklaw11.PathFilter", spec := "pathFilter", inPlace := ["internal/bytealg.IndexByteString", "internal/bytealg.IndexString"], unfollowed := true, recurses := true, named := ["internal/bytealg.MaxLen"], apart := false }
def PathFilterSaid : Prop := pathFilterRow.holds Try.pinned (OpenSpec.ofChange pathFilterSpec)

/-- ITS FALSE NEIGHBOUR: 'it returns false'. Refute it at one input. -/
def pathFilterWrong : ChangeSpec := { name := "pathFilter", fn := fun _ => fun
  | [d1, d2, d3] => { results := [.lit (.bool false)], args := [d1, d2, d3] }
  | _ => none }
def PathFilterWrongFalsely : Prop := pathFilterRow.holds Try.pinned (OpenSpec.ofChange pathFilterWrong)

/-- 'twinlocklaw11.PathKnown': WHATEVER THE INPUT: true; the input reads as it did. -/
def pathKnownSpec : ChangeSpec := { name := "pathKnown", fn := fun _ => fun
  | [] => { results := [.lit (.bool true)], args := [] }
  | _ => none }
def pathKnownRow : OpenClaim := { program := "ytmackgocieodjaa", sum := "d7562a82f56710cc0c3e2f0ae36bb54705e21f994a1d644205d82a6f47c9d404", func := "twinlock/twinlocklaw11.PathKnown", spec := "pathKnown", inPlace := ["internal/bytealg.IndexByteString", "internal/bytealg.IndexString"], unfollowed := true, recurses := true, named := ["internal/bytealg.MaxLen"], apart := false }
def PathKnownSaid : Prop := pathKnownRow.holds Try.pinned (OpenSpec.ofChange pathKnownSpec)

/-- ITS FALSE NEIGHBOUR: 'it returns false'. Refute it at one input. -/
def pathKnownWrong : ChangeSpec := { name := "pathKnown", fn := fun _ => fun
  | [] => { results := [.lit (.bool false)], args := [] }
  | _ => none }
def PathKnownWrongFalsely : Prop := pathKnownRow.holds Try.pinned (OpenSpec.ofChange pathKnownWrong)

/- THE SECOND FORM. 'bulk': how many values and letters a reading holds, each counted each time it is reached (what is shared counts as often as it is met; a slice's spare places count too). A statement '..UptoSaid' is the law's where the arguments, and the package variables that the reading takes, are together of bulk at most 1048576: NARROWER than '..Said'. Prove '..Said' where nothing that the law and all that it calls make is longer than what came in: it says more and counts as full. Else prove '..UptoSaid'. A law counts once. -/
mutual
def uptoBulk {H : Type} : DataW H → Nat
  | .lit (.string bytes) => bytes.length + 1
  | .lit _ => 1
  | .nil => 1
  | .ptr d => uptoBulk d + 1
  | .slice elems spare => uptoBulkAll elems + uptoBulkAll spare + 1
  | .agg parts => uptoBulkAll parts + 1
  | .iface _ d => uptoBulk d + 1
  | .map entries => uptoBulkEntries entries + 1
  | .held _ => 1
def uptoBulkAll {H : Type} : List (DataW H) → Nat
  | [] => 0
  | d :: r => uptoBulk d + uptoBulkAll r
def uptoBulkEntries {H : Type} : List (Lit × DataW H) → Nat
  | [] => 0
  | x :: r => uptoBulkEntry x + uptoBulkEntries r
def uptoBulkEntry {H : Type} : Lit × DataW H → Nat
  | (.string bytes, d) => bytes.length + uptoBulk d + 1
  | (_, d) => uptoBulk d + 1
 end
def uptoSmall : (H : Type) → List (DataW H) → Bool := fun _ ds => decide (uptoBulkAll ds ≤ 1048576)
def OpenSpec.upto (s : _root_.Go.ChangeSpec) : _root_.Go.OpenSpec := { _root_.Go.OpenSpec.ofChange s with cond := some uptoSmall }

/-- 'twinlocklaw11.PathCuts', WHERE WHAT IT READS IS OF BULK AT MOST 1048576: true; the input reads as it did. -/
def pathCutsUptoRow : OpenClaim := { program := "ytmackgocieodjaa", sum := "d7562a82f56710cc0c3e2f0ae36bb54705e21f994a1d644205d82a6f47c9d404", func := "twinlock/twinlocklaw11.PathCuts", spec := "pathCuts", inPlace := ["internal/bytealg.IndexByteString", "internal/bytealg.IndexString"], unfollowed := true, recurses := true, named := ["internal/bytealg.MaxLen"], apart := false, narrowed := true }
def PathCutsUptoSaid : Prop := pathCutsUptoRow.holds Try.pinned (OpenSpec.upto pathCutsSpec)

/-- 'twinlocklaw11.PathMounts', WHERE WHAT IT READS IS OF BULK AT MOST 1048576: true; the input reads as it did. -/
def pathMountsUptoRow : OpenClaim := { program := "ytmackgocieodjaa", sum := "d7562a82f56710cc0c3e2f0ae36bb54705e21f994a1d644205d82a6f47c9d404", func := "twinlock/twinlocklaw11.PathMounts", spec := "pathMounts", inPlace := ["internal/bytealg.IndexByteString", "internal/bytealg.IndexString"], unfollowed := true, recurses := true, named := ["internal/bytealg.MaxLen"], apart := false, narrowed := true }
def PathMountsUptoSaid : Prop := pathMountsUptoRow.holds Try.pinned (OpenSpec.upto pathMountsSpec)

/-- 'twinlocklaw11.PathBack', WHERE WHAT IT READS IS OF BULK AT MOST 1048576: true; the input reads as it did. -/
def pathBackUptoRow : OpenClaim := { program := "ytmackgocieodjaa", sum := "d7562a82f56710cc0c3e2f0ae36bb54705e21f994a1d644205d82a6f47c9d404", func := "twinlock/twinlocklaw11.PathBack", spec := "pathBack", inPlace := ["internal/bytealg.IndexByteString", "internal/bytealg.IndexString"], unfollowed := true, recurses := true, named := ["internal/bytealg.MaxLen"], apart := false, narrowed := true }
def PathBackUptoSaid : Prop := pathBackUptoRow.holds Try.pinned (OpenSpec.upto pathBackSpec)

/-- 'twinlocklaw11.PathSides', WHERE WHAT IT READS IS OF BULK AT MOST 1048576: true; the input reads as it did. -/
def pathSidesUptoRow : OpenClaim := { program := "ytmackgocieodjaa", sum := "d7562a82f56710cc0c3e2f0ae36bb54705e21f994a1d644205d82a6f47c9d404", func := "twinlock/twinlocklaw11.PathSides", spec := "pathSides", inPlace := ["internal/bytealg.IndexByteString", "internal/bytealg.IndexString"], unfollowed := true, recurses := true, named := ["internal/bytealg.MaxLen"], apart := false, narrowed := true }
def PathSidesUptoSaid : Prop := pathSidesUptoRow.holds Try.pinned (OpenSpec.upto pathSidesSpec)

/-- 'twinlocklaw11.PathFilter', WHERE WHAT IT READS IS OF BULK AT MOST 1048576: true; the input reads as it did. -/
def pathFilterUptoRow : OpenClaim := { program := "ytmackgocieodjaa", sum := "d7562a82f56710cc0c3e2f0ae36bb54705e21f994a1d644205d82a6f47c9d404", func := "twinlock/twinlocklaw11.PathFilter", spec := "pathFilter", inPlace := ["internal/bytealg.IndexByteString", "internal/bytealg.IndexString"], unfollowed := true, recurses := true, named := ["internal/bytealg.MaxLen"], apart := false, narrowed := true }
def PathFilterUptoSaid : Prop := pathFilterUptoRow.holds Try.pinned (OpenSpec.upto pathFilterSpec)

/-- 'twinlocklaw11.PathKnown', WHERE WHAT IT READS IS OF BULK AT MOST 1048576: true; the input reads as it did. -/
def pathKnownUptoRow : OpenClaim := { program := "ytmackgocieodjaa", sum := "d7562a82f56710cc0c3e2f0ae36bb54705e21f994a1d644205d82a6f47c9d404", func := "twinlock/twinlocklaw11.PathKnown", spec := "pathKnown", inPlace := ["internal/bytealg.IndexByteString", "internal/bytealg.IndexString"], unfollowed := true, recurses := true, named := ["internal/bytealg.MaxLen"], apart := false, narrowed := true }
def PathKnownUptoSaid : Prop := pathKnownUptoRow.holds Try.pinned (OpenSpec.upto pathKnownSpec)

end Rows
end Go.Proofs.Ytmackgocieodjaa
