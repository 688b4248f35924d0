/-
  No cell of these rows narrows 'for every input' (looked for: loops, veiled, ifaces, maps, wideKeys, modest, calm, conditions, laid).
  DERIVED. THE GIVEN ROWS OF THIS SEAT. 7 by the template 'for every input the law returns true; each argument reads behind the call as it read before'; 0 by the template 'total and deterministic' (their statements: YtipfjccmceaclaaTotals.lean).
  GIVEN WITH THE SEED: the statements are not yours to turn. If you find one false, say at which input.
  Laid BY PROGRAM, IN A SANDBOX (cutbox-rows.mjs): the forced cells as the released guide's own fill.sh prints them over the translation 024a264a50d16c53… (all of the seat's roots in one cut). By AI agents, Wed Nov 11 2026. No macro, syntax, notation, axiom, sorry.
-/
import Derived.Test.YtipfjccmceaclaaChecked
import GoSem.Claim
import GoSem.ClaimJoined
import GoSem.ClaimMapViews
import Derived.JoinedTies
import Derived.KernelRfl
namespace Go.Proofs.Ytipfjccmceaclaa
/- THE CELL 'sum', in the pinned program and in every row, IS THE sha256 OF THE DUMP (.gsa) THAT YtipfjccmceaclaaProg.lean LOADS. Nothing in Lean hashes anything: it is a label: what it is worth is what the hold of that sum in a sandbox is worth. -/
noncomputable def Try.pinned : Pinned := { name := "ytipfjccmceaclaa", sum := "024a264a50d16c53f9995219e31863c250a84ede4f72aa9dfe2dd8b2cc5bb83e", checked := Try.checked }
namespace Rows
def none {H : Type} : Left H := { results := [], args := [] }

/-- 'twinlocklaw09.KeptKnown': WHATEVER THE INPUT: true; the input reads as it did. -/
def keptKnownSpec : ChangeSpec := { name := "keptKnown", fn := fun _ => fun
  | [] => { results := [.lit (.bool true)], args := [] }
  | _ => none }
def keptKnownRow : OpenClaim := { program := "ytipfjccmceaclaa", sum := "024a264a50d16c53f9995219e31863c250a84ede4f72aa9dfe2dd8b2cc5bb83e", func := "twinlock/twinlocklaw09.KeptKnown", spec := "keptKnown", inPlace := ["internal/abi.NoEscape", "internal/bytealg.MakeNoZero"], unfollowed := true, recurses := true, apart := false }
def KeptKnownSaid : Prop := keptKnownRow.holds Try.pinned (OpenSpec.ofChange keptKnownSpec)

/-- ITS FALSE NEIGHBOUR: 'it returns false'. Refute it at one input. -/
def keptKnownWrong : ChangeSpec := { name := "keptKnown", fn := fun _ => fun
  | [] => { results := [.lit (.bool false)], args := [] }
  | _ => none }
def KeptKnownWrongFalsely : Prop := keptKnownRow.holds Try.pinned (OpenSpec.ofChange keptKnownWrong)

/-- 'twinlocklaw09.KeptPlays': WHATEVER THE INPUT: true; the input reads as it did. -/
def keptPlaysSpec : ChangeSpec := { name := "keptPlays", fn := fun _ => fun
  | [d1, d2, d3] => { results := [.lit (.bool true)], args := [d1, d2, d3] }
  | _ => none }
def keptPlaysRow : OpenClaim := { program := "ytipfjccmceaclaa", sum := "024a264a50d16c53f9995219e31863c250a84ede4f72aa9dfe2dd8b2cc5bb83e", func := "twinlock/twinlocklaw09.KeptPlays", spec := "keptPlays", inPlace := ["internal/abi.NoEscape"], unfollowed := true, recurses := true, apart := false }
def KeptPlaysSaid : Prop := keptPlaysRow.holds Try.pinned (OpenSpec.ofChange keptPlaysSpec)

/-- ITS FALSE NEIGHBOUR: 'it returns false'. Refute it at one input. -/
def keptPlaysWrong : ChangeSpec := { name := "keptPlays", fn := fun _ => fun
  | [d1, d2, d3] => { results := [.lit (.bool false)], args := [d1, d2, d3] }
  | _ => none }
def KeptPlaysWrongFalsely : Prop := keptPlaysRow.holds Try.pinned (OpenSpec.ofChange keptPlaysWrong)

/-- 'twinlocklaw09.KeptOpens': WHATEVER THE INPUT: true; the input reads as it did. -/
def keptOpensSpec : ChangeSpec := { name := "keptOpens", fn := fun _ => fun
  | [d1, d2] => { results := [.lit (.bool true)], args := [d1, d2] }
  | _ => none }
def keptOpensRow : OpenClaim := { program := "ytipfjccmceaclaa", sum := "024a264a50d16c53f9995219e31863c250a84ede4f72aa9dfe2dd8b2cc5bb83e", func := "twinlock/twinlocklaw09.KeptOpens", spec := "keptOpens", inPlace := ["internal/abi.NoEscape"], unfollowed := true, recurses := true, apart := false }
def KeptOpensSaid : Prop := keptOpensRow.holds Try.pinned (OpenSpec.ofChange keptOpensSpec)

/-- ITS FALSE NEIGHBOUR: 'it returns false'. Refute it at one input. -/
def keptOpensWrong : ChangeSpec := { name := "keptOpens", fn := fun _ => fun
  | [d1, d2] => { results := [.lit (.bool false)], args := [d1, d2] }
  | _ => none }
def KeptOpensWrongFalsely : Prop := keptOpensRow.holds Try.pinned (OpenSpec.ofChange keptOpensWrong)

/-- 'twinlocklaw09.KeptLasts': WHATEVER THE INPUT: true; the input reads as it did. -/
def keptLastsSpec : ChangeSpec := { name := "keptLasts", fn := fun _ => fun
  | [d] => { results := [.lit (.bool true)], args := [d] }
  | _ => none }
def keptLastsRow : OpenClaim := { program := "ytipfjccmceaclaa", sum := "024a264a50d16c53f9995219e31863c250a84ede4f72aa9dfe2dd8b2cc5bb83e", func := "twinlock/twinlocklaw09.KeptLasts", spec := "keptLasts", inPlace := ["internal/abi.NoEscape"], unfollowed := true, recurses := true, apart := false }
def KeptLastsSaid : Prop := keptLastsRow.holds Try.pinned (OpenSpec.ofChange keptLastsSpec)

/-- ITS FALSE NEIGHBOUR: 'it returns false'. Refute it at one input. -/
def keptLastsWrong : ChangeSpec := { name := "keptLasts", fn := fun _ => fun
  | [d] => { results := [.lit (.bool false)], args := [d] }
  | _ => none }
def KeptLastsWrongFalsely : Prop := keptLastsRow.holds Try.pinned (OpenSpec.ofChange keptLastsWrong)

/-- 'twinlocklaw09.KeptSpoilt': WHATEVER THE INPUT: true; the input reads as it did. -/
def keptSpoiltSpec : ChangeSpec := { name := "keptSpoilt", fn := fun _ => fun
  | [d1, d2, d3, d4] => { results := [.lit (.bool true)], args := [d1, d2, d3, d4] }
  | _ => none }
def keptSpoiltRow : OpenClaim := { program := "ytipfjccmceaclaa", sum := "024a264a50d16c53f9995219e31863c250a84ede4f72aa9dfe2dd8b2cc5bb83e", func := "twinlock/twinlocklaw09.KeptSpoilt", spec := "keptSpoilt", inPlace := ["internal/abi.NoEscape"], apart := false }
def KeptSpoiltSaid : Prop := keptSpoiltRow.holds Try.pinned (OpenSpec.ofChange keptSpoiltSpec)

/-- ITS FALSE NEIGHBOUR: 'it returns false'. Refute it at one input. -/
def keptSpoiltWrong : ChangeSpec := { name := "keptSpoilt", fn := fun _ => fun
  | [d1, d2, d3, d4] => { results := [.lit (.bool false)], args := [d1, d2, d3, d4] }
  | _ => none }
def KeptSpoiltWrongFalsely : Prop := keptSpoiltRow.holds Try.pinned (OpenSpec.ofChange keptSpoiltWrong)

/-- 'twinlocklaw09.KeptApart': WHATEVER THE INPUT: true; the input reads as it did. -/
def keptApartSpec : ChangeSpec := { name := "keptApart", fn := fun _ => fun
  | [d] => { results := [.lit (.bool true)], args := [d] }
  | _ => none }
def keptApartRow : OpenClaim := { program := "ytipfjccmceaclaa", sum := "024a264a50d16c53f9995219e31863c250a84ede4f72aa9dfe2dd8b2cc5bb83e", func := "twinlock/twinlocklaw09.KeptApart", spec := "keptApart", inPlace := ["internal/abi.NoEscape"], apart := false }
def KeptApartSaid : Prop := keptApartRow.holds Try.pinned (OpenSpec.ofChange keptApartSpec)

/-- ITS FALSE NEIGHBOUR: 'it returns false'. Refute it at one input. -/
def keptApartWrong : ChangeSpec := { name := "keptApart", fn := fun _ => fun
  | [d] => { results := [.lit (.bool false)], args := [d] }
  | _ => none }
def KeptApartWrongFalsely : Prop := keptApartRow.holds Try.pinned (OpenSpec.ofChange keptApartWrong)

/-- 'twinlocklaw09.KeptAgain': WHATEVER THE INPUT: true; the input reads as it did. -/
def keptAgainSpec : ChangeSpec := { name := "keptAgain", fn := fun _ => fun
  | [d] => { results := [.lit (.bool true)], args := [d] }
  | _ => none }
def keptAgainRow : OpenClaim := { program := "ytipfjccmceaclaa", sum := "024a264a50d16c53f9995219e31863c250a84ede4f72aa9dfe2dd8b2cc5bb83e", func := "twinlock/twinlocklaw09.KeptAgain", spec := "keptAgain", inPlace := ["internal/abi.NoEscape"], apart := false }
def KeptAgainSaid : Prop := keptAgainRow.holds Try.pinned (OpenSpec.ofChange keptAgainSpec)

/-- ITS FALSE NEIGHBOUR: 'it returns false'. Refute it at one input. -/
def keptAgainWrong : ChangeSpec := { name := "keptAgain", fn := fun _ => fun
  | [d] => { results := [.lit (.bool false)], args := [d] }
  | _ => none }
def KeptAgainWrongFalsely : Prop := keptAgainRow.holds Try.pinned (OpenSpec.ofChange keptAgainWrong)

/- THE SECOND FORM. 'bulk': how many values and letters a reading holds, each counted each time it is reached (what is shared counts as often as it is met; a slice's spare places count too). A statement '..UptoSaid' is the law's where the arguments, and the package variables that the reading takes, are together of bulk at most 1048576: NARROWER than '..Said'. Prove '..Said' where nothing that the law and all that it calls make is longer than what came in: it says more and counts as full. Else prove '..UptoSaid'. A law counts once. -/
mutual
def uptoBulk {H : Type} : DataW H → Nat
  | .lit (.string bytes) => bytes.length + 1
  | .lit _ => 1
  | .nil => 1
  | .ptr d => uptoBulk d + 1
  | .slice elems spare => uptoBulkAll elems + uptoBulkAll spare + 1
  | .agg parts => uptoBulkAll parts + 1
  | .iface _ d => uptoBulk d + 1
  | .map entries => uptoBulkEntries entries + 1
  | .held _ => 1
def uptoBulkAll {H : Type} : List (DataW H) → Nat
  | [] => 0
  | d :: r => uptoBulk d + uptoBulkAll r
def uptoBulkEntries {H : Type} : List (Lit × DataW H) → Nat
  | [] => 0
  | x :: r => uptoBulkEntry x + uptoBulkEntries r
def uptoBulkEntry {H : Type} : Lit × DataW H → Nat
  | (.string bytes, d) => bytes.length + uptoBulk d + 1
  | (_, d) => uptoBulk d + 1
 end
def uptoSmall : (H : Type) → List (DataW H) → Bool := fun _ ds => decide (uptoBulkAll ds ≤ 1048576)
def OpenSpec.upto (s : _root_.Go.ChangeSpec) : _root_.Go.OpenSpec := { _root_.Go.OpenSpec.ofChange s with cond := some uptoSmall }

/-- 'twinlocklaw09.KeptKnown', WHERE WHAT IT READS IS OF BULK AT MOST 1048576: true; the input reads as it did. -/
def keptKnownUptoRow : OpenClaim := { program := "ytipfjccmceaclaa", sum := "024a264a50d16c53f9995219e31863c250a84ede4f72aa9dfe2dd8b2cc5bb83e", func := "twinlock/twinlocklaw09.KeptKnown", spec := "keptKnown", inPlace := ["internal/abi.NoEscape", "internal/bytealg.MakeNoZero"], unfollowed := true, recurses := true, apart := false, narrowed := true }
def KeptKnownUptoSaid : Prop := keptKnownUptoRow.holds Try.pinned (OpenSpec.upto keptKnownSpec)

/-- 'twinlocklaw09.KeptPlays', WHERE WHAT IT READS IS OF BULK AT MOST 1048576: true; the input reads as it did. -/
def keptPlaysUptoRow : OpenClaim := { program := "ytipfjccmceaclaa", sum := "024a264a50d16c53f9995219e31863c250a84ede4f72aa9dfe2dd8b2cc5bb83e", func := "twinlock/twinlocklaw09.KeptPlays", spec := "keptPlays", inPlace := ["internal/abi.NoEscape"], unfollowed := true, recurses := true, apart := false, narrowed := true }
def KeptPlaysUptoSaid : Prop := keptPlaysUptoRow.holds Try.pinned (OpenSpec.upto keptPlaysSpec)

/-- 'twinlocklaw09.KeptOpens', WHERE WHAT IT READS IS OF BULK AT MOST 1048576: true; the input reads as it did. -/
def keptOpensUptoRow : OpenClaim := { program := "ytipfjccmceaclaa", sum := "024a264a50d16c53f9995219e31863c250a84ede4f72aa9dfe2dd8b2cc5bb83e", func := "twinlock/twinlocklaw09.KeptOpens", spec := "keptOpens", inPlace := ["internal/abi.NoEscape"], unfollowed := true, recurses := true, apart := false, narrowed := true }
def KeptOpensUptoSaid : Prop := keptOpensUptoRow.holds Try.pinned (OpenSpec.upto keptOpensSpec)

/-- 'twinlocklaw09.KeptLasts', WHERE WHAT IT READS IS OF BULK AT MOST 1048576: true; the input reads as it did. -/
def keptLastsUptoRow : OpenClaim := { program := "ytipfjccmceaclaa", sum := "024a264a50d16c53f9995219e31863c250a84ede4f72aa9dfe2dd8b2cc5bb83e", func := "twinlock/twinlocklaw09.KeptLasts", spec := "keptLasts", inPlace := ["internal/abi.NoEscape"], unfollowed := true, recurses := true, apart := false, narrowed := true }
def KeptLastsUptoSaid : Prop := keptLastsUptoRow.holds Try.pinned (OpenSpec.upto keptLastsSpec)

/-- 'twinlocklaw09.KeptSpoilt', WHERE WHAT IT READS IS OF BULK AT MOST 1048576: true; the input reads as it did. -/
def keptSpoiltUptoRow : OpenClaim := { program := "ytipfjccmceaclaa", sum := "024a264a50d16c53f9995219e31863c250a84ede4f72aa9dfe2dd8b2cc5bb83e", func := "twinlock/twinlocklaw09.KeptSpoilt", spec := "keptSpoilt", inPlace := ["internal/abi.NoEscape"], apart := false, narrowed := true }
def KeptSpoiltUptoSaid : Prop := keptSpoiltUptoRow.holds Try.pinned (OpenSpec.upto keptSpoiltSpec)

/-- 'twinlocklaw09.KeptApart', WHERE WHAT IT READS IS OF BULK AT MOST 1048576: true; the input reads as it did. -/
def keptApartUptoRow : OpenClaim := { program := "ytipfjccmceaclaa", sum := "024a264a50d16c53f9995219e31863c250a84ede4f72aa9dfe2dd8b2cc5bb83e", func := "twinlock/twinlocklaw09.KeptApart", spec := "keptApart", inPlace := ["internal/abi.NoEscape"], apart := false, narrowed := true }
def KeptApartUptoSaid : Prop := keptApartUptoRow.holds Try.pinned (OpenSpec.upto keptApartSpec)

/-- 'twinlocklaw09.KeptAgain', WHERE WHAT IT READS IS OF BULK AT MOST 1048576: true; the input reads as it did. -/
def keptAgainUptoRow : OpenClaim := { program := "ytipfjccmceaclaa", sum := "024a264a50d16c53f9995219e31863c250a84ede4f72aa9dfe2dd8b2cc5bb83e", func := "twinlock/twinlocklaw09.KeptAgain", spec := "keptAgain", inPlace := ["internal/abi.NoEscape"], apart := false, narrowed := true }
def KeptAgainUptoSaid : Prop := keptAgainUptoRow.holds Try.pinned (OpenSpec.upto keptAgainSpec)

end Rows
end Go.Proofs.Ytipfjccmceaclaa
