/-
  No cell of these rows narrows 'for every input' (looked for: loops, veiled, ifaces, maps, wideKeys, modest, calm, conditions, laid).
  DERIVED. THE GIVEN ROWS OF THIS SEAT. 8 by the template 'for every input the law returns true; each argument reads behind the call as it read before'; 0 by the template 'total and deterministic' (their statements: YtehkbffbehlpnaaTotals.lean).
  GIVEN WITH THE SEED: the statements are not yours to turn. If you find one false, say at which input.
  Laid BY PROGRAM, IN A SANDBOX (cutbox-rows.mjs): the forced cells as the released guide's own fill.sh prints them over the translation d965baa100c36cd6… (all of the seat's roots in one cut). By AI agents, Wed Nov 11 2026. No macro, syntax, notation, axiom, sorry.
-/
import Derived.Test.YtehkbffbehlpnaaChecked
import GoSem.Claim
import GoSem.ClaimJoined
import GoSem.ClaimMapViews
import Derived.JoinedTies
import Derived.KernelRfl
namespace Go.Proofs.Ytehkbffbehlpnaa
/- THE CELL 'sum', in the pinned program and in every row, IS THE sha256 OF THE DUMP (.gsa) THAT YtehkbffbehlpnaaProg.lean LOADS. Nothing in Lean hashes anything: it is a label: what it is worth is what the hold of that sum in a sandbox is worth. -/
noncomputable def Try.pinned : Pinned := { name := "ytehkbffbehlpnaa", sum := "d965baa100c36cd6c392c312466315d351990d900c0e9889bb77c66cee96c090", checked := Try.checked }
namespace Rows
def none {H : Type} : Left H := { results := [], args := [] }

/-- 'twinlocklaw13.OmapPlays': WHATEVER THE INPUT: true; the input reads as it did. -/
def omapPlaysSpec : ChangeSpec := { name := "omapPlays", fn := fun _ => fun
  | [d1, d2, d3] => { results := [.lit (.bool true)], args := [d1, d2, d3] }
  | _ => none }
def omapPlaysRow : OpenClaim := { program := "ytehkbffbehlpnaa", sum := "d965baa100c36cd6c392c312466315d351990d900c0e9889bb77c66cee96c090", func := "twinlock/twinlocklaw13.OmapPlays", spec := "omapPlays", inPlace := ["internal/bytealg.IndexByteString", "internal/bytealg.IndexString"], unfollowed := true, recurses := true, named := ["internal/bytealg.MaxLen"], apart := false }
def OmapPlaysSaid : Prop := omapPlaysRow.holds Try.pinned (OpenSpec.ofChange omapPlaysSpec)

/-- ITS FALSE NEIGHBOUR: 'it returns false'. Refute it at one input. -/
def omapPlaysWrong : ChangeSpec := { name := "omapPlays", fn := fun _ => fun
  | [d1, d2, d3] => { results := [.lit (.bool false)], args := [d1, d2, d3] }
  | _ => none }
def OmapPlaysWrongFalsely : Prop := omapPlaysRow.holds Try.pinned (OpenSpec.ofChange omapPlaysWrong)

/-- 'twinlocklaw13.OmapFilters': WHATEVER THE INPUT: true; the input reads as it did. -/
def omapFiltersSpec : ChangeSpec := { name := "omapFilters", fn := fun _ => fun
  | [d1, d2] => { results := [.lit (.bool true)], args := [d1, d2] }
  | _ => none }
def omapFiltersRow : OpenClaim := { program := "ytehkbffbehlpnaa", sum := "d965baa100c36cd6c392c312466315d351990d900c0e9889bb77c66cee96c090", func := "twinlock/twinlocklaw13.OmapFilters", spec := "omapFilters", inPlace := ["internal/bytealg.IndexByteString", "internal/bytealg.IndexString"], unfollowed := true, recurses := true, named := ["internal/bytealg.MaxLen"], apart := false }
def OmapFiltersSaid : Prop := omapFiltersRow.holds Try.pinned (OpenSpec.ofChange omapFiltersSpec)

/-- ITS FALSE NEIGHBOUR: 'it returns false'. Refute it at one input. -/
def omapFiltersWrong : ChangeSpec := { name := "omapFilters", fn := fun _ => fun
  | [d1, d2] => { results := [.lit (.bool false)], args := [d1, d2] }
  | _ => none }
def OmapFiltersWrongFalsely : Prop := omapFiltersRow.holds Try.pinned (OpenSpec.ofChange omapFiltersWrong)

/-- 'twinlocklaw13.OmapNobody': WHATEVER THE INPUT: true; the input reads as it did. -/
def omapNobodySpec : ChangeSpec := { name := "omapNobody", fn := fun _ => fun
  | [d1, d2] => { results := [.lit (.bool true)], args := [d1, d2] }
  | _ => none }
def omapNobodyRow : OpenClaim := { program := "ytehkbffbehlpnaa", sum := "d965baa100c36cd6c392c312466315d351990d900c0e9889bb77c66cee96c090", func := "twinlock/twinlocklaw13.OmapNobody", spec := "omapNobody", inPlace := ["internal/bytealg.IndexByteString", "internal/bytealg.IndexString"], unfollowed := true, recurses := true, named := ["internal/bytealg.MaxLen"], apart := false }
def OmapNobodySaid : Prop := omapNobodyRow.holds Try.pinned (OpenSpec.ofChange omapNobodySpec)

/-- ITS FALSE NEIGHBOUR: 'it returns false'. Refute it at one input. -/
def omapNobodyWrong : ChangeSpec := { name := "omapNobody", fn := fun _ => fun
  | [d1, d2] => { results := [.lit (.bool false)], args := [d1, d2] }
  | _ => none }
def OmapNobodyWrongFalsely : Prop := omapNobodyRow.holds Try.pinned (OpenSpec.ofChange omapNobodyWrong)

/-- 'twinlocklaw13.OmapShips': WHATEVER THE INPUT: true; the input reads as it did. -/
def omapShipsSpec : ChangeSpec := { name := "omapShips", fn := fun _ => fun
  | [d1, d2] => { results := [.lit (.bool true)], args := [d1, d2] }
  | _ => none }
def omapShipsRow : OpenClaim := { program := "ytehkbffbehlpnaa", sum := "d965baa100c36cd6c392c312466315d351990d900c0e9889bb77c66cee96c090", func := "twinlock/twinlocklaw13.OmapShips", spec := "omapShips", inPlace := ["internal/bytealg.IndexByteString", "internal/bytealg.IndexString"], unfollowed := true, recurses := true, named := ["internal/bytealg.MaxLen"], apart := false }
def OmapShipsSaid : Prop := omapShipsRow.holds Try.pinned (OpenSpec.ofChange omapShipsSpec)

/-- ITS FALSE NEIGHBOUR: 'it returns false'. Refute it at one input. -/
def omapShipsWrong : ChangeSpec := { name := "omapShips", fn := fun _ => fun
  | [d1, d2] => { results := [.lit (.bool false)], args := [d1, d2] }
  | _ => none }
def OmapShipsWrongFalsely : Prop := omapShipsRow.holds Try.pinned (OpenSpec.ofChange omapShipsWrong)

/-- 'twinlocklaw13.OmapLasts': WHATEVER THE INPUT: true; the input reads as it did. -/
def omapLastsSpec : ChangeSpec := { name := "omapLasts", fn := fun _ => fun
  | [d1, d2] => { results := [.lit (.bool true)], args := [d1, d2] }
  | _ => none }
def omapLastsRow : OpenClaim := { program := "ytehkbffbehlpnaa", sum := "d965baa100c36cd6c392c312466315d351990d900c0e9889bb77c66cee96c090", func := "twinlock/twinlocklaw13.OmapLasts", spec := "omapLasts", inPlace := ["internal/bytealg.IndexByteString", "internal/bytealg.IndexString"], unfollowed := true, recurses := true, named := ["internal/bytealg.MaxLen"], apart := false }
def OmapLastsSaid : Prop := omapLastsRow.holds Try.pinned (OpenSpec.ofChange omapLastsSpec)

/-- ITS FALSE NEIGHBOUR: 'it returns false'. Refute it at one input. -/
def omapLastsWrong : ChangeSpec := { name := "omapLasts", fn := fun _ => fun
  | [d1, d2] => { results := [.lit (.bool false)], args := [d1, d2] }
  | _ => none }
def OmapLastsWrongFalsely : Prop := omapLastsRow.holds Try.pinned (OpenSpec.ofChange omapLastsWrong)

/-- 'twinlocklaw13.OmapWhole': WHATEVER THE INPUT: true; the input reads as it did. -/
def omapWholeSpec : ChangeSpec := { name := "omapWhole", fn := fun _ => fun
  | [d1, d2] => { results := [.lit (.bool true)], args := [d1, d2] }
  | _ => none }
def omapWholeRow : OpenClaim := { program := "ytehkbffbehlpnaa", sum := "d965baa100c36cd6c392c312466315d351990d900c0e9889bb77c66cee96c090", func := "twinlock/twinlocklaw13.OmapWhole", spec := "omapWhole", inPlace := ["internal/bytealg.IndexByteString", "internal/bytealg.IndexString"], unfollowed := true, recurses := true, named := ["internal/bytealg.MaxLen"], apart := false }
def OmapWholeSaid : Prop := omapWholeRow.holds Try.pinned (OpenSpec.ofChange omapWholeSpec)

/-- ITS FALSE NEIGHBOUR: 'it returns false'. Refute it at one input. -/
def omapWholeWrong : ChangeSpec := { name := "omapWhole", fn := fun _ => fun
  | [d1, d2] => { results := [.lit (.bool false)], args := [d1, d2] }
  | _ => none }
def OmapWholeWrongFalsely : Prop := omapWholeRow.holds Try.pinned (OpenSpec.ofChange omapWholeWrong)

/-- 'twinlocklaw13.OmapLists': WHATEVER THE INPUT: true; the input reads as it did. -/
def omapListsSpec : ChangeSpec := { name := "omapLists", fn := fun _ => fun
  | [d1, d2] => { results := [.lit (.bool true)], args := [d1, d2] }
  | _ => none }
def omapListsRow : OpenClaim := { program := "ytehkbffbehlpnaa", sum := "d965baa100c36cd6c392c312466315d351990d900c0e9889bb77c66cee96c090", func := "twinlock/twinlocklaw13.OmapLists", spec := "omapLists", inPlace := ["internal/bytealg.IndexByteString", "internal/bytealg.IndexString"], unfollowed := true, recurses := true, named := ["internal/bytealg.MaxLen"], apart := false }
def OmapListsSaid : Prop := omapListsRow.holds Try.pinned (OpenSpec.ofChange omapListsSpec)

/-- ITS FALSE NEIGHBOUR: 'it returns false'. Refute it at one input. -/
def omapListsWrong : ChangeSpec := { name := "omapLists", fn := fun _ => fun
  | [d1, d2] => { results := [.lit (.bool false)], args := [d1, d2] }
  | _ => none }
def OmapListsWrongFalsely : Prop := omapListsRow.holds Try.pinned (OpenSpec.ofChange omapListsWrong)

/-- 'twinlocklaw13.OmapKnown': WHATEVER THE INPUT: true; the input reads as it did. -/
def omapKnownSpec : ChangeSpec := { name := "omapKnown", fn := fun _ => fun
  | [] => { results := [.lit (.bool true)], args := [] }
  | _ => none }
def omapKnownRow : OpenClaim := { program := "ytehkbffbehlpnaa", sum := "d965baa100c36cd6c392c312466315d351990d900c0e9889bb77c66cee96c090", func := "twinlock/twinlocklaw13.OmapKnown", spec := "omapKnown", inPlace := ["internal/bytealg.IndexByteString", "internal/bytealg.IndexString"], unfollowed := true, recurses := true, named := ["internal/bytealg.MaxLen"], apart := false }
def OmapKnownSaid : Prop := omapKnownRow.holds Try.pinned (OpenSpec.ofChange omapKnownSpec)

/-- ITS FALSE NEIGHBOUR: 'it returns false'. Refute it at one input. -/
def omapKnownWrong : ChangeSpec := { name := "omapKnown", fn := fun _ => fun
  | [] => { results := [.lit (.bool false)], args := [] }
  | _ => none }
def OmapKnownWrongFalsely : Prop := omapKnownRow.holds Try.pinned (OpenSpec.ofChange omapKnownWrong)

/- THE SECOND FORM. 'bulk': how many values and letters a reading holds, each counted each time it is reached (what is shared counts as often as it is met; a slice's spare places count too). A statement '..UptoSaid' is the law's where the arguments, and the package variables that the reading takes, are together of bulk at most 1048576: NARROWER than '..Said'. Prove '..Said' where nothing that the law and all that it calls make is longer than what came in: it says more and counts as full. Else prove '..UptoSaid'. A law counts once. -/
mutual
def uptoBulk {H : Type} : DataW H → Nat
  | .lit (.string bytes) => bytes.length + 1
  | .lit _ => 1
  | .nil => 1
  | .ptr d => uptoBulk d + 1
  | .slice elems spare => uptoBulkAll elems + uptoBulkAll spare + 1
  | .agg parts => uptoBulkAll parts + 1
  | .iface _ d => uptoBulk d + 1
  | .map entries => uptoBulkEntries entries + 1
  | .held _ => 1
def uptoBulkAll {H : Type} : List (DataW H) → Nat
  | [] => 0
  | d :: r => uptoBulk d + uptoBulkAll r
def uptoBulkEntries {H : Type} : List (Lit × DataW H) → Nat
  | [] => 0
  | x :: r => uptoBulkEntry x + uptoBulkEntries r
def uptoBulkEntry {H : Type} : Lit × DataW H → Nat
  | (.string bytes, d) => bytes.length + uptoBulk d + 1
  | (_, d) => uptoBulk d + 1
 end
def uptoSmall : (H : Type) → List (DataW H) → Bool := fun _ ds => decide (uptoBulkAll ds ≤ 1048576)
def OpenSpec.upto (s : _root_.Go.ChangeSpec) : _root_.Go.OpenSpec := { _root_.Go.OpenSpec.ofChange s with cond := some uptoSmall }

/-- 'twinlocklaw13.OmapPlays', WHERE WHAT IT READS IS OF BULK AT MOST 1048576: true; the input reads as it did. -/
def omapPlaysUptoRow : OpenClaim := { program := "ytehkbffbehlpnaa", sum := "d965baa100c36cd6c392c312466315d351990d900c0e9889bb77c66cee96c090", func := "twinlock/twinlocklaw13.OmapPlays", spec := "omapPlays", inPlace := ["internal/bytealg.IndexByteString", "internal/bytealg.IndexString"], unfollowed := true, recurses := true, named := ["internal/bytealg.MaxLen"], apart := false, narrowed := true }
def OmapPlaysUptoSaid : Prop := omapPlaysUptoRow.holds Try.pinned (OpenSpec.upto omapPlaysSpec)

/-- 'twinlocklaw13.OmapFilters', WHERE WHAT IT READS IS OF BULK AT MOST 1048576: true; the input reads as it did. -/
def omapFiltersUptoRow : OpenClaim := { program := "ytehkbffbehlpnaa", sum := "d965baa100c36cd6c392c312466315d351990d900c0e9889bb77c66cee96c090", func := "twinlock/twinlocklaw13.OmapFilters", spec := "omapFilters", inPlace := ["internal/bytealg.IndexByteString", "internal/bytealg.IndexString"], unfollowed := true, recurses := true, named := ["internal/bytealg.MaxLen"], apart := false, narrowed := true }
def OmapFiltersUptoSaid : Prop := omapFiltersUptoRow.holds Try.pinned (OpenSpec.upto omapFiltersSpec)

/-- 'twinlocklaw13.OmapNobody', WHERE WHAT IT READS IS OF BULK AT MOST 1048576: true; the input reads as it did. -/
def omapNobodyUptoRow : OpenClaim := { program := "ytehkbffbehlpnaa", sum := "d965baa100c36cd6c392c312466315d351990d900c0e9889bb77c66cee96c090", func := "twinlock/twinlocklaw13.OmapNobody", spec := "omapNobody", inPlace := ["internal/bytealg.IndexByteString", "internal/bytealg.IndexString"], unfollowed := true, recurses := true, named := ["internal/bytealg.MaxLen"], apart := false, narrowed := true }
def OmapNobodyUptoSaid : Prop := omapNobodyUptoRow.holds Try.pinned (OpenSpec.upto omapNobodySpec)

/-- 'twinlocklaw13.OmapShips', WHERE WHAT IT READS IS OF BULK AT MOST 1048576: true; the input reads as it did. -/
def omapShipsUptoRow : OpenClaim := { program := "ytehkbffbehlpnaa", sum := "d965baa100c36cd6c392c312466315d351990d900c0e9889bb77c66cee96c090", func := "twinlock/twinlocklaw13.OmapShips", spec := "omapShips", inPlace := ["internal/bytealg.IndexByteString", "internal/bytealg.IndexString"], unfollowed := true, recurses := true, named := ["internal/bytealg.MaxLen"], apart := false, narrowed := true }
def OmapShipsUptoSaid : Prop := omapShipsUptoRow.holds Try.pinned (OpenSpec.upto omapShipsSpec)

/-- 'twinlocklaw13.OmapLasts', WHERE WHAT IT READS IS OF BULK AT MOST 1048576: true; the input reads as it did. -/
def omapLastsUptoRow : OpenClaim := { program := "ytehkbffbehlpnaa", sum := "d965baa100c36cd6c392c312466315d351990d900c0e9889bb77c66cee96c090", func := "twinlock/twinlocklaw13.OmapLasts", spec := "omapLasts", inPlace := ["internal/bytealg.IndexByteString", "internal/bytealg.IndexString"], unfollowed := true, recurses := true, named := ["internal/bytealg.MaxLen"], apart := false, narrowed := true }
def OmapLastsUptoSaid : Prop := omapLastsUptoRow.holds Try.pinned (OpenSpec.upto omapLastsSpec)

/-- 'twinlocklaw13.OmapWhole', WHERE WHAT IT READS IS OF BULK AT MOST 1048576: true; the input reads as it did. -/
def omapWholeUptoRow : OpenClaim := { program := "ytehkbffbehlpnaa", sum := "d965baa100c36cd6c392c312466315d351990d900c0e9889bb77c66cee96c090", func := "twinlock/twinlocklaw13.OmapWhole", spec := "omapWhole", inPlace := ["internal/bytealg.IndexByteString", "internal/bytealg.IndexString"], unfollowed := true, recurses := true, named := ["internal/bytealg.MaxLen"], apart := false, narrowed := true }
def OmapWholeUptoSaid : Prop := omapWholeUptoRow.holds Try.pinned (OpenSpec.upto omapWholeSpec)

/-- 'twinlocklaw13.OmapLists', WHERE WHAT IT READS IS OF BULK AT MOST 1048576: true; the input reads as it did. -/
def omapListsUptoRow : OpenClaim := { program := "ytehkbffbehlpnaa", sum := "d965baa100c36cd6c392c312466315d351990d900c0e9889bb77c66cee96c090", func := "twinlock/twinlocklaw13.OmapLists", spec := "omapLists", inPlace := ["internal/bytealg.IndexByteString", "internal/bytealg.IndexString"], unfollowed := true, recurses := true, named := ["internal/bytealg.MaxLen"], apart := false, narrowed := true }
def OmapListsUptoSaid : Prop := omapListsUptoRow.holds Try.pinned (OpenSpec.upto omapListsSpec)

/-- 'twinlocklaw13.OmapKnown', WHERE WHAT IT READS IS OF BULK AT MOST 1048576: true; the input reads as it did. -/
def omapKnownUptoRow : OpenClaim := { program := "ytehkbffbehlpnaa", sum := "d965baa100c36cd6c392c312466315d351990d900c0e9889bb77c66cee96c090", func := "twinlock/twinlocklaw13.OmapKnown", spec := "omapKnown", inPlace := ["internal/bytealg.IndexByteString", "internal/bytealg.IndexString"], unfollowed := true, recurses := true, named := ["internal/bytealg.MaxLen"], apart := false, narrowed := true }
def OmapKnownUptoSaid : Prop := omapKnownUptoRow.holds Try.pinned (OpenSpec.upto omapKnownSpec)

end Rows
end Go.Proofs.Ytehkbffbehlpnaa
