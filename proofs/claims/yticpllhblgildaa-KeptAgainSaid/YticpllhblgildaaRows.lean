/-
  No cell of these rows narrows 'for every input' (looked for: loops, veiled, ifaces, maps, wideKeys, modest, calm, conditions, laid).
  DERIVED. THE GIVEN ROWS OF THIS SEAT. 12 by the template 'for every input the law returns true; each argument reads behind the call as it read before'; 0 by the template 'total and deterministic' (their statements: YticpllhblgildaaTotals.lean).
  GIVEN WITH THE SEED: the statements are not yours to turn. If you find one false, say at which input.
  Laid BY PROGRAM, IN A SANDBOX (cutbox-rows.mjs): the forced cells as the released guide's own fill.sh prints them over the translation d576facc693a9fb3… (all of the seat's roots in one cut). By AI agents, Wed Nov 11 2026. No macro, syntax, notation, axiom, sorry.
-/
import Derived.Test.YticpllhblgildaaChecked
import GoSem.Claim
import GoSem.ClaimJoined
import GoSem.ClaimMapViews
import Derived.JoinedTies
import Derived.KernelRfl
namespace Go.Proofs.Yticpllhblgildaa
/- THE CELL 'sum', in the pinned program and in every row, IS THE sha256 OF THE DUMP (.gsa) THAT YticpllhblgildaaProg.lean LOADS. Nothing in Lean hashes anything: it is a label: what it is worth is what the hold of that sum in a sandbox is worth. -/
noncomputable def Try.pinned : Pinned := { name := "yticpllhblgildaa", sum := "d576facc693a9fb3e03f74ff184edefadecd5d04d6579f6580ff66448328b9ed", checked := Try.checked }
namespace Rows
def none {H : Type} : Left H := { results := [], args := [] }

/-- 'twinlocklaw09.KeptKnown': WHATEVER THE INPUT: true; the input reads as it did. -/
def keptKnownSpec : ChangeSpec := { name := "keptKnown", fn := fun _ => fun
  | [] => { results := [.lit (.bool true)], args := [] }
  | _ => none }
def keptKnownRow : OpenClaim := { program := "yticpllhblgildaa", sum := "d576facc693a9fb3e03f74ff184edefadecd5d04d6579f6580ff66448328b9ed", func := "twinlock/twinlocklaw09.KeptKnown", spec := "keptKnown", inPlace := ["internal/abi.NoEscape", "internal/bytealg.MakeNoZero"], unfollowed := true, recurses := true, apart := false }
def KeptKnownSaid : Prop := keptKnownRow.holds Try.pinned (OpenSpec.ofChange keptKnownSpec)

/-- ITS FALSE NEIGHBOUR: 'it returns false'. Refute it at one input. -/
def keptKnownWrong : ChangeSpec := { name := "keptKnown", fn := fun _ => fun
  | [] => { results := [.lit (.bool false)], args := [] }
  | _ => none }
def KeptKnownWrongFalsely : Prop := keptKnownRow.holds Try.pinned (OpenSpec.ofChange keptKnownWrong)

/-- 'twinlocklaw09.KeptPlays': WHATEVER THE INPUT: true; the input reads as it did. -/
def keptPlaysSpec : ChangeSpec := { name := "keptPlays", fn := fun _ => fun
  | [d1, d2, d3] => { results := [.lit (.bool true)], args := [d1, d2, d3] }
  | _ => none }
def keptPlaysRow : OpenClaim := { program := "yticpllhblgildaa", sum := "d576facc693a9fb3e03f74ff184edefadecd5d04d6579f6580ff66448328b9ed", func := "twinlock/twinlocklaw09.KeptPlays", spec := "keptPlays", inPlace := ["internal/abi.NoEscape"], unfollowed := true, recurses := true, apart := false }
def KeptPlaysSaid : Prop := keptPlaysRow.holds Try.pinned (OpenSpec.ofChange keptPlaysSpec)

/-- ITS FALSE NEIGHBOUR: 'it returns false'. Refute it at one input. -/
def keptPlaysWrong : ChangeSpec := { name := "keptPlays", fn := fun _ => fun
  | [d1, d2, d3] => { results := [.lit (.bool false)], args := [d1, d2, d3] }
  | _ => none }
def KeptPlaysWrongFalsely : Prop := keptPlaysRow.holds Try.pinned (OpenSpec.ofChange keptPlaysWrong)

/-- 'twinlocklaw09.KeptOpens': WHATEVER THE INPUT: true; the input reads as it did. -/
def keptOpensSpec : ChangeSpec := { name := "keptOpens", fn := fun _ => fun
  | [d1, d2] => { results := [.lit (.bool true)], args := [d1, d2] }
  | _ => none }
def keptOpensRow : OpenClaim := { program := "yticpllhblgildaa", sum := "d576facc693a9fb3e03f74ff184edefadecd5d04d6579f6580ff66448328b9ed", func := "twinlock/twinlocklaw09.KeptOpens", spec := "keptOpens", inPlace := ["internal/abi.NoEscape"], unfollowed := true, recurses := true, apart := false }
def KeptOpensSaid : Prop := keptOpensRow.holds Try.pinned (OpenSpec.ofChange keptOpensSpec)

/-- ITS FALSE NEIGHBOUR: 'it returns false'. Refute it at one input. -/
def keptOpensWrong : ChangeSpec := { name := "keptOpens", fn := fun _ => fun
  | [d1, d2] => { results := [.lit (.bool false)], args := [d1, d2] }
  | _ => none }
def KeptOpensWrongFalsely : Prop := keptOpensRow.holds Try.pinned (OpenSpec.ofChange keptOpensWrong)

/-- 'twinlocklaw09.KeptLasts': WHATEVER THE INPUT: true; the input reads as it did. -/
def keptLastsSpec : ChangeSpec := { name := "keptLasts", fn := fun _ => fun
  | [d] => { results := [.lit (.bool true)], args := [d] }
  | _ => none }
def keptLastsRow : OpenClaim := { program := "yticpllhblgildaa", sum := "d576facc693a9fb3e03f74ff184edefadecd5d04d6579f6580ff66448328b9ed", func := "twinlock/twinlocklaw09.KeptLasts", spec := "keptLasts", inPlace := ["internal/abi.NoEscape"], unfollowed := true, recurses := true, apart := false }
def KeptLastsSaid : Prop := keptLastsRow.holds Try.pinned (OpenSpec.ofChange keptLastsSpec)

/-- ITS FALSE NEIGHBOUR: 'it returns false'. Refute it at one input. -/
def keptLastsWrong : ChangeSpec := { name := "keptLasts", fn := fun _ => fun
  | [d] => { results := [.lit (.bool false)], args := [d] }
  | _ => none }
def KeptLastsWrongFalsely : Prop := keptLastsRow.holds Try.pinned (OpenSpec.ofChange keptLastsWrong)

/-- 'twinlocklaw09.KeptSpoilt': WHATEVER THE INPUT: true; the input reads as it did. -/
def keptSpoiltSpec : ChangeSpec := { name := "keptSpoilt", fn := fun _ => fun
  | [d1, d2, d3, d4] => { results := [.lit (.bool true)], args := [d1, d2, d3, d4] }
  | _ => none }
def keptSpoiltRow : OpenClaim := { program := "yticpllhblgildaa", sum := "d576facc693a9fb3e03f74ff184edefadecd5d04d6579f6580ff66448328b9ed", func := "twinlock/twinlocklaw09.KeptSpoilt", spec := "keptSpoilt", inPlace := ["internal/abi.NoEscape"], apart := false }
def KeptSpoiltSaid : Prop := keptSpoiltRow.holds Try.pinned (OpenSpec.ofChange keptSpoiltSpec)

/-- ITS FALSE NEIGHBOUR: 'it returns false'. Refute it at one input. -/
def keptSpoiltWrong : ChangeSpec := { name := "keptSpoilt", fn := fun _ => fun
  | [d1, d2, d3, d4] => { results := [.lit (.bool false)], args := [d1, d2, d3, d4] }
  | _ => none }
def KeptSpoiltWrongFalsely : Prop := keptSpoiltRow.holds Try.pinned (OpenSpec.ofChange keptSpoiltWrong)

/-- 'twinlocklaw09.KeptApart': WHATEVER THE INPUT: true; the input reads as it did. -/
def keptApartSpec : ChangeSpec := { name := "keptApart", fn := fun _ => fun
  | [d] => { results := [.lit (.bool true)], args := [d] }
  | _ => none }
def keptApartRow : OpenClaim := { program := "yticpllhblgildaa", sum := "d576facc693a9fb3e03f74ff184edefadecd5d04d6579f6580ff66448328b9ed", func := "twinlock/twinlocklaw09.KeptApart", spec := "keptApart", inPlace := ["internal/abi.NoEscape"], apart := false }
def KeptApartSaid : Prop := keptApartRow.holds Try.pinned (OpenSpec.ofChange keptApartSpec)

/-- ITS FALSE NEIGHBOUR: 'it returns false'. Refute it at one input. -/
def keptApartWrong : ChangeSpec := { name := "keptApart", fn := fun _ => fun
  | [d] => { results := [.lit (.bool false)], args := [d] }
  | _ => none }
def KeptApartWrongFalsely : Prop := keptApartRow.holds Try.pinned (OpenSpec.ofChange keptApartWrong)

/-- 'twinlocklaw09.KeptAgain': WHATEVER THE INPUT: true; the input reads as it did. -/
def keptAgainSpec : ChangeSpec := { name := "keptAgain", fn := fun _ => fun
  | [d] => { results := [.lit (.bool true)], args := [d] }
  | _ => none }
def keptAgainRow : OpenClaim := { program := "yticpllhblgildaa", sum := "d576facc693a9fb3e03f74ff184edefadecd5d04d6579f6580ff66448328b9ed", func := "twinlock/twinlocklaw09.KeptAgain", spec := "keptAgain", inPlace := ["internal/abi.NoEscape"], apart := false }
def KeptAgainSaid : Prop := keptAgainRow.holds Try.pinned (OpenSpec.ofChange keptAgainSpec)

/-- ITS FALSE NEIGHBOUR: 'it returns false'. Refute it at one input. -/
def keptAgainWrong : ChangeSpec := { name := "keptAgain", fn := fun _ => fun
  | [d] => { results := [.lit (.bool false)], args := [d] }
  | _ => none }
def KeptAgainWrongFalsely : Prop := keptAgainRow.holds Try.pinned (OpenSpec.ofChange keptAgainWrong)

/-- 'twinlocklaw10.LogKnown': WHATEVER THE INPUT: true; the input reads as it did. -/
def logKnownSpec : ChangeSpec := { name := "logKnown", fn := fun _ => fun
  | [] => { results := [.lit (.bool true)], args := [] }
  | _ => none }
def logKnownRow : OpenClaim := { program := "yticpllhblgildaa", sum := "d576facc693a9fb3e03f74ff184edefadecd5d04d6579f6580ff66448328b9ed", func := "twinlock/twinlocklaw10.LogKnown", spec := "logKnown", inPlace := ["internal/abi.NoEscape", "internal/bytealg.MakeNoZero"], apart := false }
def LogKnownSaid : Prop := logKnownRow.holds Try.pinned (OpenSpec.ofChange logKnownSpec)

/-- ITS FALSE NEIGHBOUR: 'it returns false'. Refute it at one input. -/
def logKnownWrong : ChangeSpec := { name := "logKnown", fn := fun _ => fun
  | [] => { results := [.lit (.bool false)], args := [] }
  | _ => none }
def LogKnownWrongFalsely : Prop := logKnownRow.holds Try.pinned (OpenSpec.ofChange logKnownWrong)

/-- 'twinlocklaw10.LogLasts': WHATEVER THE INPUT: true; the input reads as it did. -/
def logLastsSpec : ChangeSpec := { name := "logLasts", fn := fun _ => fun
  | [d1, d2] => { results := [.lit (.bool true)], args := [d1, d2] }
  | _ => none }
def logLastsRow : OpenClaim := { program := "yticpllhblgildaa", sum := "d576facc693a9fb3e03f74ff184edefadecd5d04d6579f6580ff66448328b9ed", func := "twinlock/twinlocklaw10.LogLasts", spec := "logLasts", inPlace := ["internal/abi.NoEscape", "internal/bytealg.MakeNoZero"], unfollowed := true, recurses := true, apart := false }
def LogLastsSaid : Prop := logLastsRow.holds Try.pinned (OpenSpec.ofChange logLastsSpec)

/-- ITS FALSE NEIGHBOUR: 'it returns false'. Refute it at one input. -/
def logLastsWrong : ChangeSpec := { name := "logLasts", fn := fun _ => fun
  | [d1, d2] => { results := [.lit (.bool false)], args := [d1, d2] }
  | _ => none }
def LogLastsWrongFalsely : Prop := logLastsRow.holds Try.pinned (OpenSpec.ofChange logLastsWrong)

/-- 'twinlocklaw10.LogEpochs': WHATEVER THE INPUT: true; the input reads as it did. -/
def logEpochsSpec : ChangeSpec := { name := "logEpochs", fn := fun _ => fun
  | [d1, d2, d3, d4] => { results := [.lit (.bool true)], args := [d1, d2, d3, d4] }
  | _ => none }
def logEpochsRow : OpenClaim := { program := "yticpllhblgildaa", sum := "d576facc693a9fb3e03f74ff184edefadecd5d04d6579f6580ff66448328b9ed", func := "twinlock/twinlocklaw10.LogEpochs", spec := "logEpochs", inPlace := ["internal/abi.NoEscape", "internal/bytealg.MakeNoZero"], apart := false }
def LogEpochsSaid : Prop := logEpochsRow.holds Try.pinned (OpenSpec.ofChange logEpochsSpec)

/-- ITS FALSE NEIGHBOUR: 'it returns false'. Refute it at one input. -/
def logEpochsWrong : ChangeSpec := { name := "logEpochs", fn := fun _ => fun
  | [d1, d2, d3, d4] => { results := [.lit (.bool false)], args := [d1, d2, d3, d4] }
  | _ => none }
def LogEpochsWrongFalsely : Prop := logEpochsRow.holds Try.pinned (OpenSpec.ofChange logEpochsWrong)

/-- 'twinlocklaw10.LogSpoilt': WHATEVER THE INPUT: true; the input reads as it did. -/
def logSpoiltSpec : ChangeSpec := { name := "logSpoilt", fn := fun _ => fun
  | [d1, d2, d3, d4, d5] => { results := [.lit (.bool true)], args := [d1, d2, d3, d4, d5] }
  | _ => none }
def logSpoiltRow : OpenClaim := { program := "yticpllhblgildaa", sum := "d576facc693a9fb3e03f74ff184edefadecd5d04d6579f6580ff66448328b9ed", func := "twinlock/twinlocklaw10.LogSpoilt", spec := "logSpoilt", inPlace := ["internal/abi.NoEscape", "internal/bytealg.MakeNoZero"], apart := false }
def LogSpoiltSaid : Prop := logSpoiltRow.holds Try.pinned (OpenSpec.ofChange logSpoiltSpec)

/-- ITS FALSE NEIGHBOUR: 'it returns false'. Refute it at one input. -/
def logSpoiltWrong : ChangeSpec := { name := "logSpoilt", fn := fun _ => fun
  | [d1, d2, d3, d4, d5] => { results := [.lit (.bool false)], args := [d1, d2, d3, d4, d5] }
  | _ => none }
def LogSpoiltWrongFalsely : Prop := logSpoiltRow.holds Try.pinned (OpenSpec.ofChange logSpoiltWrong)

/-- 'twinlocklaw10.LogRoom': WHATEVER THE INPUT: true; the input reads as it did. -/
def logRoomSpec : ChangeSpec := { name := "logRoom", fn := fun _ => fun
  | [d1, d2] => { results := [.lit (.bool true)], args := [d1, d2] }
  | _ => none }
def logRoomRow : OpenClaim := { program := "yticpllhblgildaa", sum := "d576facc693a9fb3e03f74ff184edefadecd5d04d6579f6580ff66448328b9ed", func := "twinlock/twinlocklaw10.LogRoom", spec := "logRoom", inPlace := ["internal/abi.NoEscape", "internal/bytealg.MakeNoZero"], apart := false }
def LogRoomSaid : Prop := logRoomRow.holds Try.pinned (OpenSpec.ofChange logRoomSpec)

/-- ITS FALSE NEIGHBOUR: 'it returns false'. Refute it at one input. -/
def logRoomWrong : ChangeSpec := { name := "logRoom", fn := fun _ => fun
  | [d1, d2] => { results := [.lit (.bool false)], args := [d1, d2] }
  | _ => none }
def LogRoomWrongFalsely : Prop := logRoomRow.holds Try.pinned (OpenSpec.ofChange logRoomWrong)

/- THE SECOND FORM. 'bulk': how many values and letters a reading holds, each counted each time it is reached (what is shared counts as often as it is met; a slice's spare places count too). A statement '..UptoSaid' is the law's where the arguments, and the package variables that the reading takes, are together of bulk at most 1048576: NARROWER than '..Said'. Prove '..Said' where nothing that the law and all that it calls make is longer than what came in: it says more and counts as full. Else prove '..UptoSaid'. A law counts once. -/
mutual
def uptoBulk {H : Type} : DataW H → Nat
  | .lit (.string bytes) => bytes.length + 1
  | .lit _ => 1
  | .nil => 1
  | .ptr d => uptoBulk d + 1
  | .slice elems spare => uptoBulkAll elems + uptoBulkAll spare + 1
  | .agg parts => uptoBulkAll parts + 1
  | .iface _ d => uptoBulk d + 1
  | .map entries => uptoBulkEntries entries + 1
  | .held _ => 1
def uptoBulkAll {H : Type} : List (DataW H) → Nat
  | [] => 0
  | d :: r => uptoBulk d + uptoBulkAll r
def uptoBulkEntries {H : Type} : List (Lit × DataW H) → Nat
  | [] => 0
  | x :: r => uptoBulkEntry x + uptoBulkEntries r
def uptoBulkEntry {H : Type} : Lit × DataW H → Nat
  | (.string bytes, d) => bytes.length + uptoBulk d + 1
  | (_, d) => uptoBulk d + 1
 end
def uptoSmall : (H : Type) → List (DataW H) → Bool := fun _ ds => decide (uptoBulkAll ds ≤ 1048576)
def OpenSpec.upto (s : _root_.Go.ChangeSpec) : _root_.Go.OpenSpec := { _root_.Go.OpenSpec.ofChange s with cond := some uptoSmall }

/-- 'twinlocklaw09.KeptKnown', WHERE WHAT IT READS IS OF BULK AT MOST 1048576: true; the input reads as it did. -/
def keptKnownUptoRow : OpenClaim := { program := "yticpllhblgildaa", sum := "d576facc693a9fb3e03f74ff184edefadecd5d04d6579f6580ff66448328b9ed", func := "twinlock/twinlocklaw09.KeptKnown", spec := "keptKnown", inPlace := ["internal/abi.NoEscape", "internal/bytealg.MakeNoZero"], unfollowed := true, recurses := true, apart := false, narrowed := true }
def KeptKnownUptoSaid : Prop := keptKnownUptoRow.holds Try.pinned (OpenSpec.upto keptKnownSpec)

/-- 'twinlocklaw09.KeptPlays', WHERE WHAT IT READS IS OF BULK AT MOST 1048576: true; the input reads as it did. -/
def keptPlaysUptoRow : OpenClaim := { program := "yticpllhblgildaa", sum := "d576facc693a9fb3e03f74ff184edefadecd5d04d6579f6580ff66448328b9ed", func := "twinlock/twinlocklaw09.KeptPlays", spec := "keptPlays", inPlace := ["internal/abi.NoEscape"], unfollowed := true, recurses := true, apart := false, narrowed := true }
def KeptPlaysUptoSaid : Prop := keptPlaysUptoRow.holds Try.pinned (OpenSpec.upto keptPlaysSpec)

/-- 'twinlocklaw09.KeptOpens', WHERE WHAT IT READS IS OF BULK AT MOST 1048576: true; the input reads as it did. -/
def keptOpensUptoRow : OpenClaim := { program := "yticpllhblgildaa", sum := "d576facc693a9fb3e03f74ff184edefadecd5d04d6579f6580ff66448328b9ed", func := "twinlock/twinlocklaw09.KeptOpens", spec := "keptOpens", inPlace := ["internal/abi.NoEscape"], unfollowed := true, recurses := true, apart := false, narrowed := true }
def KeptOpensUptoSaid : Prop := keptOpensUptoRow.holds Try.pinned (OpenSpec.upto keptOpensSpec)

/-- 'twinlocklaw09.KeptLasts', WHERE WHAT IT READS IS OF BULK AT MOST 1048576: true; the input reads as it did. -/
def keptLastsUptoRow : OpenClaim := { program := "yticpllhblgildaa", sum := "d576facc693a9fb3e03f74ff184edefadecd5d04d6579f6580ff66448328b9ed", func := "twinlock/twinlocklaw09.KeptLasts", spec := "keptLasts", inPlace := ["internal/abi.NoEscape"], unfollowed := true, recurses := true, apart := false, narrowed := true }
def KeptLastsUptoSaid : Prop := keptLastsUptoRow.holds Try.pinned (OpenSpec.upto keptLastsSpec)

/-- 'twinlocklaw09.KeptSpoilt', WHERE WHAT IT READS IS OF BULK AT MOST 1048576: true; the input reads as it did. -/
def keptSpoiltUptoRow : OpenClaim := { program := "yticpllhblgildaa", sum := "d576facc693a9fb3e03f74ff184edefadecd5d04d6579f6580ff66448328b9ed", func := "twinlock/twinlocklaw09.KeptSpoilt", spec := "keptSpoilt", inPlace := ["internal/abi.NoEscape"], apart := false, narrowed := true }
def KeptSpoiltUptoSaid : Prop := keptSpoiltUptoRow.holds Try.pinned (OpenSpec.upto keptSpoiltSpec)

/-- 'twinlocklaw09.KeptApart', WHERE WHAT IT READS IS OF BULK AT MOST 1048576: true; the input reads as it did. -/
def keptApartUptoRow : OpenClaim := { program := "yticpllhblgildaa", sum := "d576facc693a9fb3e03f74ff184edefadecd5d04d6579f6580ff66448328b9ed", func := "twinlock/twinlocklaw09.KeptApart", spec := "keptApart", inPlace := ["internal/abi.NoEscape"], apart := false, narrowed := true }
def KeptApartUptoSaid : Prop := keptApartUptoRow.holds Try.pinned (OpenSpec.upto keptApartSpec)

/-- 'twinlocklaw09.KeptAgain', WHERE WHAT IT READS IS OF BULK AT MOST 1048576: true; the input reads as it did. -/
def keptAgainUptoRow : OpenClaim := { program := "yticpllhblgildaa", sum := "d576facc693a9fb3e03f74ff184edefadecd5d04d6579f6580ff66448328b9ed", func := "twinlock/twinlocklaw09.KeptAgain", spec := "keptAgain", inPlace := ["internal/abi.NoEscape"], apart := false, narrowed := true }
def KeptAgainUptoSaid : Prop := keptAgainUptoRow.holds Try.pinned (OpenSpec.upto keptAgainSpec)

/-- 'twinlocklaw10.LogKnown', WHERE WHAT IT READS IS OF BULK AT MOST 1048576: true; the input reads as it did. -/
def logKnownUptoRow : OpenClaim := { program := "yticpllhblgildaa", sum := "d576facc693a9fb3e03f74ff184edefadecd5d04d6579f6580ff66448328b9ed", func := "twinlock/twinlocklaw10.LogKnown", spec := "logKnown", inPlace := ["internal/abi.NoEscape", "internal/bytealg.MakeNoZero"], apart := false, narrowed := true }
def LogKnownUptoSaid : Prop := logKnownUptoRow.holds Try.pinned (OpenSpec.upto logKnownSpec)

/-- 'twinlocklaw10.LogLasts', WHERE WHAT IT READS IS OF BULK AT MOST 1048576: true; the input reads as it did. -/
def logLastsUptoRow : OpenClaim := { program := "yticpllhblgildaa", sum := "d576facc693a9fb3e03f74ff184edefadecd5d04d6579f6580ff66448328b9ed", func := "twinlock/twinlocklaw10.LogLasts", spec := "logLasts", inPlace := ["internal/abi.NoEscape", "internal/bytealg.MakeNoZero"], unfollowed := true, recurses := true, apart := false, narrowed := true }
def LogLastsUptoSaid : Prop := logLastsUptoRow.holds Try.pinned (OpenSpec.upto logLastsSpec)

/-- 'twinlocklaw10.LogEpochs', WHERE WHAT IT READS IS OF BULK AT MOST 1048576: true; the input reads as it did. -/
def logEpochsUptoRow : OpenClaim := { program := "yticpllhblgildaa", sum := "d576facc693a9fb3e03f74ff184edefadecd5d04d6579f6580ff66448328b9ed", func := "twinlock/twinlocklaw10.LogEpochs", spec := "logEpochs", inPlace := ["internal/abi.NoEscape", "internal/bytealg.MakeNoZero"], apart := false, narrowed := true }
def LogEpochsUptoSaid : Prop := logEpochsUptoRow.holds Try.pinned (OpenSpec.upto logEpochsSpec)

/-- 'twinlocklaw10.LogSpoilt', WHERE WHAT IT READS IS OF BULK AT MOST 1048576: true; the input reads as it did. -/
def logSpoiltUptoRow : OpenClaim := { program := "yticpllhblgildaa", sum := "d576facc693a9fb3e03f74ff184edefadecd5d04d6579f6580ff66448328b9ed", func := "twinlock/twinlocklaw10.LogSpoilt", spec := "logSpoilt", inPlace := ["internal/abi.NoEscape", "internal/bytealg.MakeNoZero"], apart := false, narrowed := true }
def LogSpoiltUptoSaid : Prop := logSpoiltUptoRow.holds Try.pinned (OpenSpec.upto logSpoiltSpec)

/-- 'twinlocklaw10.LogRoom', WHERE WHAT IT READS IS OF BULK AT MOST 1048576: true; the input reads as it did. -/
def logRoomUptoRow : OpenClaim := { program := "yticpllhblgildaa", sum := "d576facc693a9fb3e03f74ff184edefadecd5d04d6579f6580ff66448328b9ed", func := "twinlock/twinlocklaw10.LogRoom", spec := "logRoom", inPlace := ["internal/abi.NoEscape", "internal/bytealg.MakeNoZero"], apart := false, narrowed := true }
def LogRoomUptoSaid : Prop := logRoomUptoRow.holds Try.pinned (OpenSpec.upto logRoomSpec)

end Rows
end Go.Proofs.Yticpllhblgildaa
