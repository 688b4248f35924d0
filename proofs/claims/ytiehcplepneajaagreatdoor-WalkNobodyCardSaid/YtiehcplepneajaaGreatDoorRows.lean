/-
  NARROWER THAN 'FOR EVERY INPUT', by the rows' own cells (each row's printed sentence says how): WalkPlays: laid · WalkNobody: laid · WalkLevel: laid · WalkFew: laid · WalkQuiet: laid · WalkKnown: laid · TreePlays: laid · TreeMakes: laid · TreeRoots: laid.
  DERIVED. THE GIVEN ROWS OF THIS SEAT. 9 by the template 'for every input the law returns true; each argument reads behind the call as it read before'; 0 by the template 'total and deterministic' (their statements: YtiehcplepneajaaGreatDoorTotals.lean).
  GIVEN WITH THE SEED: the statements are not yours to turn. If you find one false, say at which input.
  Laid BY PROGRAM, IN A SANDBOX (cutbox-rows.mjs): the forced cells as the released guide's own fill.sh prints them over the translation 83cc582da8147b44… (all of the seat's roots in one cut). By AI agents, Wed Nov 11 2026. No macro, syntax, notation, axiom, sorry.
-/
import Derived.Test.YtiehcplepneajaaGreatDoorChecked
import GoSem.Claim
import GoSem.ClaimJoined
import GoSem.ClaimMapViews
import Derived.JoinedTies
import Derived.KernelRfl
namespace Go.Proofs.YtiehcplepneajaaGreatDoor
/- THE CELL 'sum', in the pinned program and in every row, IS THE sha256 OF THE DUMP (.gsa) THAT YtiehcplepneajaaGreatDoorProg.lean LOADS. Nothing in Lean hashes anything: it is a label: what it is worth is what the hold of that sum in a sandbox is worth. -/
noncomputable def Tryz.pinned : Pinned := { name := "ytiehcplepneajaagreatdoor", sum := "83cc582da8147b4480f28843295de8cf3d0233f911637ecad1a8c2985f3f0571", checked := Tryz.checked }
namespace Rows
def none {H : Type} : Left H := { results := [], args := [] }

/- WHAT THE LISTED PACKAGE-LEVEL VARIABLES READ AS WHEN THE CALL BEGINS. Each datum BY PROGRAM (the guide's laid-datum.mjs) off the statement by which the dump's own 'gosem.cut.vars' lays the variable. In a bare row this is a premise. The card (YtiehcplepneajaaGreatDoorCards.lean) ties it to the program's text. -/
def laid_twinlock_sha_numbersH {H : Type} : DataW H := .agg [.lit (.int .u32 1779033703), .lit (.int .u32 3144134277), .lit (.int .u32 1013904242), .lit (.int .u32 2773480762), .lit (.int .u32 1359893119), .lit (.int .u32 2600822924), .lit (.int .u32 528734635), .lit (.int .u32 1541459225)]
def laid_twinlock_sha_numbersK {H : Type} : DataW H := .agg [.lit (.int .u32 1116352408), .lit (.int .u32 1899447441), .lit (.int .u32 3049323471), .lit (.int .u32 3921009573), .lit (.int .u32 961987163), .lit (.int .u32 1508970993), .lit (.int .u32 2453635748), .lit (.int .u32 2870763221), .lit (.int .u32 3624381080), .lit (.int .u32 310598401), .lit (.int .u32 607225278), .lit (.int .u32 1426881987), .lit (.int .u32 1925078388), .lit (.int .u32 2162078206), .lit (.int .u32 2614888103), .lit (.int .u32 3248222580), .lit (.int .u32 3835390401), .lit (.int .u32 4022224774), .lit (.int .u32 264347078), .lit (.int .u32 604807628), .lit (.int .u32 770255983), .lit (.int .u32 1249150122), .lit (.int .u32 1555081692), .lit (.int .u32 1996064986), .lit (.int .u32 2554220882), .lit (.int .u32 2821834349), .lit (.int .u32 2952996808), .lit (.int .u32 3210313671), .lit (.int .u32 3336571891), .lit (.int .u32 3584528711), .lit (.int .u32 113926993), .lit (.int .u32 338241895), .lit (.int .u32 666307205), .lit (.int .u32 773529912), .lit (.int .u32 1294757372), .lit (.int .u32 1396182291), .lit (.int .u32 1695183700), .lit (.int .u32 1986661051), .lit (.int .u32 2177026350), .lit (.int .u32 2456956037), .lit (.int .u32 2730485921), .lit (.int .u32 2820302411), .lit (.int .u32 3259730800), .lit (.int .u32 3345764771), .lit (.int .u32 3516065817), .lit (.int .u32 3600352804), .lit (.int .u32 4094571909), .lit (.int .u32 275423344), .lit (.int .u32 430227734), .lit (.int .u32 506948616), .lit (.int .u32 659060556), .lit (.int .u32 883997877), .lit (.int .u32 958139571), .lit (.int .u32 1322822218), .lit (.int .u32 1537002063), .lit (.int .u32 1747873779), .lit (.int .u32 1955562222), .lit (.int .u32 2024104815), .lit (.int .u32 2227730452), .lit (.int .u32 2361852424), .lit (.int .u32 2428436474), .lit (.int .u32 2756734187), .lit (.int .u32 3204031479), .lit (.int .u32 3329325298)]

/-- 'twinlocklaw16.WalkPlays': WHATEVER THE INPUT: true; the input reads as it did. -/
def walkPlaysSpec : ChangeSpec := { name := "walkPlays", fn := fun _ => fun
  | [d1, d2, d3, d4] => { results := [.lit (.bool true)], args := [d1, d2, d3, d4] }
  | _ => none }
def walkPlaysRow : OpenClaim := { program := "ytiehcplepneajaagreatdoor", sum := "83cc582da8147b4480f28843295de8cf3d0233f911637ecad1a8c2985f3f0571", func := "twinlock/twinlocklaw16.WalkPlays", spec := "walkPlays", inPlace := ["internal/bytealg.IndexByteString", "internal/bytealg.IndexString"], unfollowed := true, recurses := true, named := ["internal/bytealg.MaxLen", "twinlock/sha.numbersH", "twinlock/sha.numbersK"], plainKeys := false, apart := false, laid := [("twinlock/sha.numbersH", laid_twinlock_sha_numbersH), ("twinlock/sha.numbersK", laid_twinlock_sha_numbersK)] }
def WalkPlaysSaid : Prop := walkPlaysRow.holds Tryz.pinned (OpenSpec.ofChange walkPlaysSpec)

/-- ITS FALSE NEIGHBOUR: 'it returns false'. Refute it at one input. -/
def walkPlaysWrong : ChangeSpec := { name := "walkPlays", fn := fun _ => fun
  | [d1, d2, d3, d4] => { results := [.lit (.bool false)], args := [d1, d2, d3, d4] }
  | _ => none }
def WalkPlaysWrongFalsely : Prop := walkPlaysRow.holds Tryz.pinned (OpenSpec.ofChange walkPlaysWrong)

/-- 'twinlocklaw16.WalkNobody': WHATEVER THE INPUT: true; the input reads as it did. -/
def walkNobodySpec : ChangeSpec := { name := "walkNobody", fn := fun _ => fun
  | [d1, d2, d3, d4, d5] => { results := [.lit (.bool true)], args := [d1, d2, d3, d4, d5] }
  | _ => none }
def walkNobodyRow : OpenClaim := { program := "ytiehcplepneajaagreatdoor", sum := "83cc582da8147b4480f28843295de8cf3d0233f911637ecad1a8c2985f3f0571", func := "twinlock/twinlocklaw16.WalkNobody", spec := "walkNobody", inPlace := ["internal/bytealg.IndexByteString", "internal/bytealg.IndexString"], unfollowed := true, recurses := true, named := ["internal/bytealg.MaxLen", "twinlock/sha.numbersH", "twinlock/sha.numbersK"], plainKeys := false, apart := false, laid := [("twinlock/sha.numbersH", laid_twinlock_sha_numbersH), ("twinlock/sha.numbersK", laid_twinlock_sha_numbersK)] }
def WalkNobodySaid : Prop := walkNobodyRow.holds Tryz.pinned (OpenSpec.ofChange walkNobodySpec)

/-- ITS FALSE NEIGHBOUR: 'it returns false'. Refute it at one input. -/
def walkNobodyWrong : ChangeSpec := { name := "walkNobody", fn := fun _ => fun
  | [d1, d2, d3, d4, d5] => { results := [.lit (.bool false)], args := [d1, d2, d3, d4, d5] }
  | _ => none }
def WalkNobodyWrongFalsely : Prop := walkNobodyRow.holds Tryz.pinned (OpenSpec.ofChange walkNobodyWrong)

/-- 'twinlocklaw16.WalkLevel': WHATEVER THE INPUT: true; the input reads as it did. -/
def walkLevelSpec : ChangeSpec := { name := "walkLevel", fn := fun _ => fun
  | [d1, d2, d3] => { results := [.lit (.bool true)], args := [d1, d2, d3] }
  | _ => none }
def walkLevelRow : OpenClaim := { program := "ytiehcplepneajaagreatdoor", sum := "83cc582da8147b4480f28843295de8cf3d0233f911637ecad1a8c2985f3f0571", func := "twinlock/twinlocklaw16.WalkLevel", spec := "walkLevel", inPlace := ["internal/bytealg.IndexByteString", "internal/bytealg.IndexString"], unfollowed := true, recurses := true, named := ["internal/bytealg.MaxLen", "twinlock/sha.numbersH", "twinlock/sha.numbersK"], plainKeys := false, apart := false, laid := [("twinlock/sha.numbersH", laid_twinlock_sha_numbersH), ("twinlock/sha.numbersK", laid_twinlock_sha_numbersK)] }
def WalkLevelSaid : Prop := walkLevelRow.holds Tryz.pinned (OpenSpec.ofChange walkLevelSpec)

/-- ITS FALSE NEIGHBOUR: 'it returns false'. Refute it at one input. -/
def walkLevelWrong : ChangeSpec := { name := "walkLevel", fn := fun _ => fun
  | [d1, d2, d3] => { results := [.lit (.bool false)], args := [d1, d2, d3] }
  | _ => none }
def WalkLevelWrongFalsely : Prop := walkLevelRow.holds Tryz.pinned (OpenSpec.ofChange walkLevelWrong)

/-- 'twinlocklaw16.WalkFew': WHATEVER THE INPUT: true; the input reads as it did. -/
def walkFewSpec : ChangeSpec := { name := "walkFew", fn := fun _ => fun
  | [d1, d2] => { results := [.lit (.bool true)], args := [d1, d2] }
  | _ => none }
def walkFewRow : OpenClaim := { program := "ytiehcplepneajaagreatdoor", sum := "83cc582da8147b4480f28843295de8cf3d0233f911637ecad1a8c2985f3f0571", func := "twinlock/twinlocklaw16.WalkFew", spec := "walkFew", inPlace := ["internal/bytealg.IndexByteString", "internal/bytealg.IndexString"], unfollowed := true, recurses := true, named := ["internal/bytealg.MaxLen", "twinlock/sha.numbersH", "twinlock/sha.numbersK"], plainKeys := false, apart := false, laid := [("twinlock/sha.numbersH", laid_twinlock_sha_numbersH), ("twinlock/sha.numbersK", laid_twinlock_sha_numbersK)] }
def WalkFewSaid : Prop := walkFewRow.holds Tryz.pinned (OpenSpec.ofChange walkFewSpec)

/-- ITS FALSE NEIGHBOUR: 'it returns false'. Refute it at one input. -/
def walkFewWrong : ChangeSpec := { name := "walkFew", fn := fun _ => fun
  | [d1, d2] => { results := [.lit (.bool false)], args := [d1, d2] }
  | _ => none }
def WalkFewWrongFalsely : Prop := walkFewRow.holds Tryz.pinned (OpenSpec.ofChange walkFewWrong)

/-- 'twinlocklaw16.WalkQuiet': WHATEVER THE INPUT: true; the input reads as it did. -/
def walkQuietSpec : ChangeSpec := { name := "walkQuiet", fn := fun _ => fun
  | [d1, d2, d3] => { results := [.lit (.bool true)], args := [d1, d2, d3] }
  | _ => none }
def walkQuietRow : OpenClaim := { program := "ytiehcplepneajaagreatdoor", sum := "83cc582da8147b4480f28843295de8cf3d0233f911637ecad1a8c2985f3f0571", func := "twinlock/twinlocklaw16.WalkQuiet", spec := "walkQuiet", inPlace := ["internal/bytealg.IndexByteString", "internal/bytealg.IndexString"], unfollowed := true, recurses := true, named := ["internal/bytealg.MaxLen", "twinlock/sha.numbersH", "twinlock/sha.numbersK"], plainKeys := false, apart := false, laid := [("twinlock/sha.numbersH", laid_twinlock_sha_numbersH), ("twinlock/sha.numbersK", laid_twinlock_sha_numbersK)] }
def WalkQuietSaid : Prop := walkQuietRow.holds Tryz.pinned (OpenSpec.ofChange walkQuietSpec)

/-- ITS FALSE NEIGHBOUR: 'it returns false'. Refute it at one input. -/
def walkQuietWrong : ChangeSpec := { name := "walkQuiet", fn := fun _ => fun
  | [d1, d2, d3] => { results := [.lit (.bool false)], args := [d1, d2, d3] }
  | _ => none }
def WalkQuietWrongFalsely : Prop := walkQuietRow.holds Tryz.pinned (OpenSpec.ofChange walkQuietWrong)

/-- 'twinlocklaw16.WalkKnown': WHATEVER THE INPUT: true; the input reads as it did. -/
def walkKnownSpec : ChangeSpec := { name := "walkKnown", fn := fun _ => fun
  | [] => { results := [.lit (.bool true)], args := [] }
  | _ => none }
def walkKnownRow : OpenClaim := { program := "ytiehcplepneajaagreatdoor", sum := "83cc582da8147b4480f28843295de8cf3d0233f911637ecad1a8c2985f3f0571", func := "twinlock/twinlocklaw16.WalkKnown", spec := "walkKnown", inPlace := ["internal/bytealg.IndexByteString", "internal/bytealg.IndexString"], unfollowed := true, recurses := true, named := ["internal/bytealg.MaxLen", "twinlock/sha.numbersH", "twinlock/sha.numbersK"], plainKeys := false, apart := false, laid := [("twinlock/sha.numbersH", laid_twinlock_sha_numbersH), ("twinlock/sha.numbersK", laid_twinlock_sha_numbersK)] }
def WalkKnownSaid : Prop := walkKnownRow.holds Tryz.pinned (OpenSpec.ofChange walkKnownSpec)

/-- ITS FALSE NEIGHBOUR: 'it returns false'. Refute it at one input. -/
def walkKnownWrong : ChangeSpec := { name := "walkKnown", fn := fun _ => fun
  | [] => { results := [.lit (.bool false)], args := [] }
  | _ => none }
def WalkKnownWrongFalsely : Prop := walkKnownRow.holds Tryz.pinned (OpenSpec.ofChange walkKnownWrong)

/-- 'twinlocklaw15.TreePlays': WHATEVER THE INPUT: true; the input reads as it did. -/
def treePlaysSpec : ChangeSpec := { name := "treePlays", fn := fun _ => fun
  | [d] => { results := [.lit (.bool true)], args := [d] }
  | _ => none }
def treePlaysRow : OpenClaim := { program := "ytiehcplepneajaagreatdoor", sum := "83cc582da8147b4480f28843295de8cf3d0233f911637ecad1a8c2985f3f0571", func := "twinlock/twinlocklaw15.TreePlays", spec := "treePlays", inPlace := ["internal/bytealg.IndexByteString", "internal/bytealg.IndexString"], unfollowed := true, recurses := true, named := ["internal/bytealg.MaxLen", "twinlock/sha.numbersH", "twinlock/sha.numbersK"], plainKeys := false, apart := false, laid := [("twinlock/sha.numbersH", laid_twinlock_sha_numbersH), ("twinlock/sha.numbersK", laid_twinlock_sha_numbersK)] }
def TreePlaysSaid : Prop := treePlaysRow.holds Tryz.pinned (OpenSpec.ofChange treePlaysSpec)

/-- ITS FALSE NEIGHBOUR: 'it returns false'. Refute it at one input. -/
def treePlaysWrong : ChangeSpec := { name := "treePlays", fn := fun _ => fun
  | [d] => { results := [.lit (.bool false)], args := [d] }
  | _ => none }
def TreePlaysWrongFalsely : Prop := treePlaysRow.holds Tryz.pinned (OpenSpec.ofChange treePlaysWrong)

/-- 'twinlocklaw15.TreeMakes': WHATEVER THE INPUT: true; the input reads as it did. -/
def treeMakesSpec : ChangeSpec := { name := "treeMakes", fn := fun _ => fun
  | [d1, d2, d3] => { results := [.lit (.bool true)], args := [d1, d2, d3] }
  | _ => none }
def treeMakesRow : OpenClaim := { program := "ytiehcplepneajaagreatdoor", sum := "83cc582da8147b4480f28843295de8cf3d0233f911637ecad1a8c2985f3f0571", func := "twinlock/twinlocklaw15.TreeMakes", spec := "treeMakes", inPlace := ["internal/bytealg.IndexByteString", "internal/bytealg.IndexString"], unfollowed := true, recurses := true, named := ["internal/bytealg.MaxLen", "twinlock/sha.numbersH", "twinlock/sha.numbersK"], plainKeys := false, apart := false, laid := [("twinlock/sha.numbersH", laid_twinlock_sha_numbersH), ("twinlock/sha.numbersK", laid_twinlock_sha_numbersK)] }
def TreeMakesSaid : Prop := treeMakesRow.holds Tryz.pinned (OpenSpec.ofChange treeMakesSpec)

/-- ITS FALSE NEIGHBOUR: 'it returns false'. Refute it at one input. -/
def treeMakesWrong : ChangeSpec := { name := "treeMakes", fn := fun _ => fun
  | [d1, d2, d3] => { results := [.lit (.bool false)], args := [d1, d2, d3] }
  | _ => none }
def TreeMakesWrongFalsely : Prop := treeMakesRow.holds Tryz.pinned (OpenSpec.ofChange treeMakesWrong)

/-- 'twinlocklaw15.TreeRoots': WHATEVER THE INPUT: true; the input reads as it did. -/
def treeRootsSpec : ChangeSpec := { name := "treeRoots", fn := fun _ => fun
  | [d1, d2] => { results := [.lit (.bool true)], args := [d1, d2] }
  | _ => none }
def treeRootsRow : OpenClaim := { program := "ytiehcplepneajaagreatdoor", sum := "83cc582da8147b4480f28843295de8cf3d0233f911637ecad1a8c2985f3f0571", func := "twinlock/twinlocklaw15.TreeRoots", spec := "treeRoots", inPlace := ["internal/bytealg.IndexByteString", "internal/bytealg.IndexString"], unfollowed := true, recurses := true, named := ["internal/bytealg.MaxLen", "twinlock/sha.numbersH", "twinlock/sha.numbersK"], plainKeys := false, apart := false, laid := [("twinlock/sha.numbersH", laid_twinlock_sha_numbersH), ("twinlock/sha.numbersK", laid_twinlock_sha_numbersK)] }
def TreeRootsSaid : Prop := treeRootsRow.holds Tryz.pinned (OpenSpec.ofChange treeRootsSpec)

/-- ITS FALSE NEIGHBOUR: 'it returns false'. Refute it at one input. -/
def treeRootsWrong : ChangeSpec := { name := "treeRoots", fn := fun _ => fun
  | [d1, d2] => { results := [.lit (.bool false)], args := [d1, d2] }
  | _ => none }
def TreeRootsWrongFalsely : Prop := treeRootsRow.holds Tryz.pinned (OpenSpec.ofChange treeRootsWrong)

/- THE SECOND FORM. 'bulk': how many values and letters a reading holds, each counted each time it is reached (what is shared counts as often as it is met; a slice's spare places count too). A statement '..UptoSaid' is the law's where the arguments, and the package variables that the reading takes, are together of bulk at most 1048576: NARROWER than '..Said'. Prove '..Said' where nothing that the law and all that it calls make is longer than what came in: it says more and counts as full. Else prove '..UptoSaid'. A law counts once. -/
mutual
def uptoBulk {H : Type} : DataW H → Nat
  | .lit (.string bytes) => bytes.length + 1
  | .lit _ => 1
  | .nil => 1
  | .ptr d => uptoBulk d + 1
  | .slice elems spare => uptoBulkAll elems + uptoBulkAll spare + 1
  | .agg parts => uptoBulkAll parts + 1
  | .iface _ d => uptoBulk d + 1
  | .map entries => uptoBulkEntries entries + 1
  | .held _ => 1
def uptoBulkAll {H : Type} : List (DataW H) → Nat
  | [] => 0
  | d :: r => uptoBulk d + uptoBulkAll r
def uptoBulkEntries {H : Type} : List (Lit × DataW H) → Nat
  | [] => 0
  | x :: r => uptoBulkEntry x + uptoBulkEntries r
def uptoBulkEntry {H : Type} : Lit × DataW H → Nat
  | (.string bytes, d) => bytes.length + uptoBulk d + 1
  | (_, d) => uptoBulk d + 1
 end
def uptoSmall : (H : Type) → List (DataW H) → Bool := fun _ ds => decide (uptoBulkAll ds ≤ 1048576)
def OpenSpec.upto (s : _root_.Go.ChangeSpec) : _root_.Go.OpenSpec := { _root_.Go.OpenSpec.ofChange s with cond := some uptoSmall }

/-- 'twinlocklaw16.WalkPlays', WHERE WHAT IT READS IS OF BULK AT MOST 1048576: true; the input reads as it did. -/
def walkPlaysUptoRow : OpenClaim := { program := "ytiehcplepneajaagreatdoor", sum := "83cc582da8147b4480f28843295de8cf3d0233f911637ecad1a8c2985f3f0571", func := "twinlock/twinlocklaw16.WalkPlays", spec := "walkPlays", inPlace := ["internal/bytealg.IndexByteString", "internal/bytealg.IndexString"], unfollowed := true, recurses := true, named := ["internal/bytealg.MaxLen", "twinlock/sha.numbersH", "twinlock/sha.numbersK"], plainKeys := false, apart := false, laid := [("twinlock/sha.numbersH", laid_twinlock_sha_numbersH), ("twinlock/sha.numbersK", laid_twinlock_sha_numbersK)], narrowed := true }
def WalkPlaysUptoSaid : Prop := walkPlaysUptoRow.holds Tryz.pinned (OpenSpec.upto walkPlaysSpec)

/-- 'twinlocklaw16.WalkNobody', WHERE WHAT IT READS IS OF BULK AT MOST 1048576: true; the input reads as it did. -/
def walkNobodyUptoRow : OpenClaim := { program := "ytiehcplepneajaagreatdoor", sum := "83cc582da8147b4480f28843295de8cf3d0233f911637ecad1a8c2985f3f0571", func := "twinlock/twinlocklaw16.WalkNobody", spec := "walkNobody", inPlace := ["internal/bytealg.IndexByteString", "internal/bytealg.IndexString"], unfollowed := true, recurses := true, named := ["internal/bytealg.MaxLen", "twinlock/sha.numbersH", "twinlock/sha.numbersK"], plainKeys := false, apart := false, laid := [("twinlock/sha.numbersH", laid_twinlock_sha_numbersH), ("twinlock/sha.numbersK", laid_twinlock_sha_numbersK)], narrowed := true }
def WalkNobodyUptoSaid : Prop := walkNobodyUptoRow.holds Tryz.pinned (OpenSpec.upto walkNobodySpec)

/-- 'twinlocklaw16.WalkLevel', WHERE WHAT IT READS IS OF BULK AT MOST 1048576: true; the input reads as it did. -/
def walkLevelUptoRow : OpenClaim := { program := "ytiehcplepneajaagreatdoor", sum := "83cc582da8147b4480f28843295de8cf3d0233f911637ecad1a8c2985f3f0571", func := "twinlock/twinlocklaw16.WalkLevel", spec := "walkLevel", inPlace := ["internal/bytealg.IndexByteString", "internal/bytealg.IndexString"], unfollowed := true, recurses := true, named := ["internal/bytealg.MaxLen", "twinlock/sha.numbersH", "twinlock/sha.numbersK"], plainKeys := false, apart := false, laid := [("twinlock/sha.numbersH", laid_twinlock_sha_numbersH), ("twinlock/sha.numbersK", laid_twinlock_sha_numbersK)], narrowed := true }
def WalkLevelUptoSaid : Prop := walkLevelUptoRow.holds Tryz.pinned (OpenSpec.upto walkLevelSpec)

/-- 'twinlocklaw16.WalkFew', WHERE WHAT IT READS IS OF BULK AT MOST 1048576: true; the input reads as it did. -/
def walkFewUptoRow : OpenClaim := { program := "ytiehcplepneajaagreatdoor", sum := "83cc582da8147b4480f28843295de8cf3d0233f911637ecad1a8c2985f3f0571", func := "twinlock/twinlocklaw16.WalkFew", spec := "walkFew", inPlace := ["internal/bytealg.IndexByteString", "internal/bytealg.IndexString"], unfollowed := true, recurses := true, named := ["internal/bytealg.MaxLen", "twinlock/sha.numbersH", "twinlock/sha.numbersK"], plainKeys := false, apart := false, laid := [("twinlock/sha.numbersH", laid_twinlock_sha_numbersH), ("twinlock/sha.numbersK", laid_twinlock_sha_numbersK)], narrowed := true }
def WalkFewUptoSaid : Prop := walkFewUptoRow.holds Tryz.pinned (OpenSpec.upto walkFewSpec)

/-- 'twinlocklaw16.WalkQuiet', WHERE WHAT IT READS IS OF BULK AT MOST 1048576: true; the input reads as it did. -/
def walkQuietUptoRow : OpenClaim := { program := "ytiehcplepneajaagreatdoor", sum := "83cc582da8147b4480f28843295de8cf3d0233f911637ecad1a8c2985f3f0571", func := "twinlock/twinlocklaw16.WalkQuiet", spec := "walkQuiet", inPlace := ["internal/bytealg.IndexByteString", "internal/bytealg.IndexString"], unfollowed := true, recurses := true, named := ["internal/bytealg.MaxLen", "twinlock/sha.numbersH", "twinlock/sha.numbersK"], plainKeys := false, apart := false, laid := [("twinlock/sha.numbersH", laid_twinlock_sha_numbersH), ("twinlock/sha.numbersK", laid_twinlock_sha_numbersK)], narrowed := true }
def WalkQuietUptoSaid : Prop := walkQuietUptoRow.holds Tryz.pinned (OpenSpec.upto walkQuietSpec)

/-- 'twinlocklaw16.WalkKnown', WHERE WHAT IT READS IS OF BULK AT MOST 1048576: true; the input reads as it did. -/
def walkKnownUptoRow : OpenClaim := { program := "ytiehcplepneajaagreatdoor", sum := "83cc582da8147b4480f28843295de8cf3d0233f911637ecad1a8c2985f3f0571", func := "twinlock/twinlocklaw16.WalkKnown", spec := "walkKnown", inPlace := ["internal/bytealg.IndexByteString", "internal/bytealg.IndexString"], unfollowed := true, recurses := true, named := ["internal/bytealg.MaxLen", "twinlock/sha.numbersH", "twinlock/sha.numbersK"], plainKeys := false, apart := false, laid := [("twinlock/sha.numbersH", laid_twinlock_sha_numbersH), ("twinlock/sha.numbersK", laid_twinlock_sha_numbersK)], narrowed := true }
def WalkKnownUptoSaid : Prop := walkKnownUptoRow.holds Tryz.pinned (OpenSpec.upto walkKnownSpec)

/-- 'twinlocklaw15.TreePlays', WHERE WHAT IT READS IS OF BULK AT MOST 1048576: true; the input reads as it did. -/
def treePlaysUptoRow : OpenClaim := { program := "ytiehcplepneajaagreatdoor", sum := "83cc582da8147b4480f28843295de8cf3d0233f911637ecad1a8c2985f3f0571", func := "twinlock/twinlocklaw15.TreePlays", spec := "treePlays", inPlace := ["internal/bytealg.IndexByteString", "internal/bytealg.IndexString"], unfollowed := true, recurses := true, named := ["internal/bytealg.MaxLen", "twinlock/sha.numbersH", "twinlock/sha.numbersK"], plainKeys := false, apart := false, laid := [("twinlock/sha.numbersH", laid_twinlock_sha_numbersH), ("twinlock/sha.numbersK", laid_twinlock_sha_numbersK)], narrowed := true }
def TreePlaysUptoSaid : Prop := treePlaysUptoRow.holds Tryz.pinned (OpenSpec.upto treePlaysSpec)

/-- 'twinlocklaw15.TreeMakes', WHERE WHAT IT READS IS OF BULK AT MOST 1048576: true; the input reads as it did. -/
def treeMakesUptoRow : OpenClaim := { program := "ytiehcplepneajaagreatdoor", sum := "83cc582da8147b4480f28843295de8cf3d0233f911637ecad1a8c2985f3f0571", func := "twinlock/twinlocklaw15.TreeMakes", spec := "treeMakes", inPlace := ["internal/bytealg.IndexByteString", "internal/bytealg.IndexString"], unfollowed := true, recurses := true, named := ["internal/bytealg.MaxLen", "twinlock/sha.numbersH", "twinlock/sha.numbersK"], plainKeys := false, apart := false, laid := [("twinlock/sha.numbersH", laid_twinlock_sha_numbersH), ("twinlock/sha.numbersK", laid_twinlock_sha_numbersK)], narrowed := true }
def TreeMakesUptoSaid : Prop := treeMakesUptoRow.holds Tryz.pinned (OpenSpec.upto treeMakesSpec)

/-- 'twinlocklaw15.TreeRoots', WHERE WHAT IT READS IS OF BULK AT MOST 1048576: true; the input reads as it did. -/
def treeRootsUptoRow : OpenClaim := { program := "ytiehcplepneajaagreatdoor", sum := "83cc582da8147b4480f28843295de8cf3d0233f911637ecad1a8c2985f3f0571", func := "twinlock/twinlocklaw15.TreeRoots", spec := "treeRoots", inPlace := ["internal/bytealg.IndexByteString", "internal/bytealg.IndexString"], unfollowed := true, recurses := true, named := ["internal/bytealg.MaxLen", "twinlock/sha.numbersH", "twinlock/sha.numbersK"], plainKeys := false, apart := false, laid := [("twinlock/sha.numbersH", laid_twinlock_sha_numbersH), ("twinlock/sha.numbersK", laid_twinlock_sha_numbersK)], narrowed := true }
def TreeRootsUptoSaid : Prop := treeRootsUptoRow.holds Tryz.pinned (OpenSpec.upto treeRootsSpec)

end Rows
end Go.Proofs.YtiehcplepneajaaGreatDoor
