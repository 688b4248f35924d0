/-
  NARROWER THAN 'FOR EVERY INPUT', by the rows' own cells (each row's printed sentence says how): TreeHashes: laid · TreeNobody: laid · TreeAlike: laid · TreeTexts: laid · TreeQuiet: laid · TreeOne: laid · TreeKnown: laid.
  DERIVED. THE GIVEN ROWS OF THIS SEAT. 7 by the template 'for every input the law returns true; each argument reads behind the call as it read before'; 0 by the template 'total and deterministic' (their statements: YtkoipingokglpaaDoorTotals.lean).
  GIVEN WITH THE SEED: the statements are not yours to turn. If you find one false, say at which input.
  Laid BY PROGRAM, IN A SANDBOX (cutbox-rows.mjs): the forced cells as the released guide's own fill.sh prints them over the translation 380d2b5e6491a336… (all of the seat's roots in one cut). By AI agents, Wed Nov 11 2026. No macro, syntax, notation, axiom, sorry.
-/
import Derived.Test.YtkoipingokglpaaDoorChecked
import GoSem.Claim
import GoSem.ClaimJoined
import GoSem.ClaimMapViews
import Derived.JoinedTies
import Derived.KernelRfl
namespace Go.Proofs.YtkoipingokglpaaDoor
/- THE CELL 'sum', in the pinned program and in every row, IS THE sha256 OF THE DUMP (.gsa) THAT YtkoipingokglpaaDoorProg.lean LOADS. Nothing in Lean hashes anything: it is a label: what it is worth is what the hold of that sum in a sandbox is worth. -/
noncomputable def Tryd.pinned : Pinned := { name := "ytkoipingokglpaadoor", sum := "380d2b5e6491a3364b35a8200aae1bcf0637e760187c15c8594bbb5920c6b5b3", checked := Tryd.checked }
namespace Rows
def none {H : Type} : Left H := { results := [], args := [] }

/- WHAT THE LISTED PACKAGE-LEVEL VARIABLES READ AS WHEN THE CALL BEGINS. Each datum BY PROGRAM (the guide's laid-datum.mjs) off the statement by which the dump's own 'gosem.cut.vars' lays the variable. In a bare row this is a premise. The card (YtkoipingokglpaaDoorCards.lean) ties it to the program's text. -/
def laid_twinlock_sha_numbersH {H : Type} : DataW H := .agg [.lit (.int .u32 1779033703), .lit (.int .u32 3144134277), .lit (.int .u32 1013904242), .lit (.int .u32 2773480762), .lit (.int .u32 1359893119), .lit (.int .u32 2600822924), .lit (.int .u32 528734635), .lit (.int .u32 1541459225)]
def laid_twinlock_sha_numbersK {H : Type} : DataW H := .agg [.lit (.int .u32 1116352408), .lit (.int .u32 1899447441), .lit (.int .u32 3049323471), .lit (.int .u32 3921009573), .lit (.int .u32 961987163), .lit (.int .u32 1508970993), .lit (.int .u32 2453635748), .lit (.int .u32 2870763221), .lit (.int .u32 3624381080), .lit (.int .u32 310598401), .lit (.int .u32 607225278), .lit (.int .u32 1426881987), .lit (.int .u32 1925078388), .lit (.int .u32 2162078206), .lit (.int .u32 2614888103), .lit (.int .u32 3248222580), .lit (.int .u32 3835390401), .lit (.int .u32 4022224774), .lit (.int .u32 264347078), .lit (.int .u32 604807628), .lit (.int .u32 770255983), .lit (.int .u32 1249150122), .lit (.int .u32 1555081692), .lit (.int .u32 1996064986), .lit (.int .u32 2554220882), .lit (.int .u32 2821834349), .lit (.int .u32 2952996808), .lit (.int .u32 3210313671), .lit (.int .u32 3336571891), .lit (.int .u32 3584528711), .lit (.int .u32 113926993), .lit (.int .u32 338241895), .lit (.int .u32 666307205), .lit (.int .u32 773529912), .lit (.int .u32 1294757372), .lit (.int .u32 1396182291), .lit (.int .u32 1695183700), .lit (.int .u32 1986661051), .lit (.int .u32 2177026350), .lit (.int .u32 2456956037), .lit (.int .u32 2730485921), .lit (.int .u32 2820302411), .lit (.int .u32 3259730800), .lit (.int .u32 3345764771), .lit (.int .u32 3516065817), .lit (.int .u32 3600352804), .lit (.int .u32 4094571909), .lit (.int .u32 275423344), .lit (.int .u32 430227734), .lit (.int .u32 506948616), .lit (.int .u32 659060556), .lit (.int .u32 883997877), .lit (.int .u32 958139571), .lit (.int .u32 1322822218), .lit (.int .u32 1537002063), .lit (.int .u32 1747873779), .lit (.int .u32 1955562222), .lit (.int .u32 2024104815), .lit (.int .u32 2227730452), .lit (.int .u32 2361852424), .lit (.int .u32 2428436474), .lit (.int .u32 2756734187), .lit (.int .u32 3204031479), .lit (.int .u32 3329325298)]

/-- 'twinlocklaw15.TreeHashes': WHATEVER THE INPUT: true; the input reads as it did. -/
def treeHashesSpec : ChangeSpec := { name := "treeHashes", fn := fun _ => fun
  | [d1, d2, d3] => { results := [.lit (.bool true)], args := [d1, d2, d3] }
  | _ => none }
def treeHashesRow : OpenClaim := { program := "ytkoipingokglpaadoor", sum := "380d2b5e6491a3364b35a8200aae1bcf0637e760187c15c8594bbb5920c6b5b3", func := "twinlock/twinlocklaw15.TreeHashes", spec := "treeHashes", inPlace := ["internal/bytealg.IndexByteString", "internal/bytealg.IndexString"], unfollowed := true, recurses := true, named := ["internal/bytealg.MaxLen", "twinlock/sha.numbersH", "twinlock/sha.numbersK"], apart := false, laid := [("twinlock/sha.numbersH", laid_twinlock_sha_numbersH), ("twinlock/sha.numbersK", laid_twinlock_sha_numbersK)] }
def TreeHashesSaid : Prop := treeHashesRow.holds Tryd.pinned (OpenSpec.ofChange treeHashesSpec)

/-- ITS FALSE NEIGHBOUR: 'it returns false'. Refute it at one input. -/
def treeHashesWrong : ChangeSpec := { name := "treeHashes", fn := fun _ => fun
  | [d1, d2, d3] => { results := [.lit (.bool false)], args := [d1, d2, d3] }
  | _ => none }
def TreeHashesWrongFalsely : Prop := treeHashesRow.holds Tryd.pinned (OpenSpec.ofChange treeHashesWrong)

/-- 'twinlocklaw15.TreeNobody': WHATEVER THE INPUT: true; the input reads as it did. -/
def treeNobodySpec : ChangeSpec := { name := "treeNobody", fn := fun _ => fun
  | [d1, d2, d3, d4] => { results := [.lit (.bool true)], args := [d1, d2, d3, d4] }
  | _ => none }
def treeNobodyRow : OpenClaim := { program := "ytkoipingokglpaadoor", sum := "380d2b5e6491a3364b35a8200aae1bcf0637e760187c15c8594bbb5920c6b5b3", func := "twinlock/twinlocklaw15.TreeNobody", spec := "treeNobody", inPlace := ["internal/bytealg.IndexByteString", "internal/bytealg.IndexString"], unfollowed := true, recurses := true, named := ["internal/bytealg.MaxLen", "twinlock/sha.numbersH", "twinlock/sha.numbersK"], apart := false, laid := [("twinlock/sha.numbersH", laid_twinlock_sha_numbersH), ("twinlock/sha.numbersK", laid_twinlock_sha_numbersK)] }
def TreeNobodySaid : Prop := treeNobodyRow.holds Tryd.pinned (OpenSpec.ofChange treeNobodySpec)

/-- ITS FALSE NEIGHBOUR: 'it returns false'. Refute it at one input. -/
def treeNobodyWrong : ChangeSpec := { name := "treeNobody", fn := fun _ => fun
  | [d1, d2, d3, d4] => { results := [.lit (.bool false)], args := [d1, d2, d3, d4] }
  | _ => none }
def TreeNobodyWrongFalsely : Prop := treeNobodyRow.holds Tryd.pinned (OpenSpec.ofChange treeNobodyWrong)

/-- 'twinlocklaw15.TreeAlike': WHATEVER THE INPUT: true; the input reads as it did. -/
def treeAlikeSpec : ChangeSpec := { name := "treeAlike", fn := fun _ => fun
  | [d1, d2] => { results := [.lit (.bool true)], args := [d1, d2] }
  | _ => none }
def treeAlikeRow : OpenClaim := { program := "ytkoipingokglpaadoor", sum := "380d2b5e6491a3364b35a8200aae1bcf0637e760187c15c8594bbb5920c6b5b3", func := "twinlock/twinlocklaw15.TreeAlike", spec := "treeAlike", inPlace := ["internal/bytealg.IndexByteString", "internal/bytealg.IndexString"], unfollowed := true, recurses := true, named := ["internal/bytealg.MaxLen", "twinlock/sha.numbersH", "twinlock/sha.numbersK"], apart := false, laid := [("twinlock/sha.numbersH", laid_twinlock_sha_numbersH), ("twinlock/sha.numbersK", laid_twinlock_sha_numbersK)] }
def TreeAlikeSaid : Prop := treeAlikeRow.holds Tryd.pinned (OpenSpec.ofChange treeAlikeSpec)

/-- ITS FALSE NEIGHBOUR: 'it returns false'. Refute it at one input. -/
def treeAlikeWrong : ChangeSpec := { name := "treeAlike", fn := fun _ => fun
  | [d1, d2] => { results := [.lit (.bool false)], args := [d1, d2] }
  | _ => none }
def TreeAlikeWrongFalsely : Prop := treeAlikeRow.holds Tryd.pinned (OpenSpec.ofChange treeAlikeWrong)

/-- 'twinlocklaw15.TreeTexts': WHATEVER THE INPUT: true; the input reads as it did. -/
def treeTextsSpec : ChangeSpec := { name := "treeTexts", fn := fun _ => fun
  | [d] => { results := [.lit (.bool true)], args := [d] }
  | _ => none }
def treeTextsRow : OpenClaim := { program := "ytkoipingokglpaadoor", sum := "380d2b5e6491a3364b35a8200aae1bcf0637e760187c15c8594bbb5920c6b5b3", func := "twinlock/twinlocklaw15.TreeTexts", spec := "treeTexts", inPlace := ["internal/bytealg.IndexByteString", "internal/bytealg.IndexString"], unfollowed := true, recurses := true, named := ["internal/bytealg.MaxLen", "twinlock/sha.numbersH", "twinlock/sha.numbersK"], apart := false, laid := [("twinlock/sha.numbersH", laid_twinlock_sha_numbersH), ("twinlock/sha.numbersK", laid_twinlock_sha_numbersK)] }
def TreeTextsSaid : Prop := treeTextsRow.holds Tryd.pinned (OpenSpec.ofChange treeTextsSpec)

/-- ITS FALSE NEIGHBOUR: 'it returns false'. Refute it at one input. -/
def treeTextsWrong : ChangeSpec := { name := "treeTexts", fn := fun _ => fun
  | [d] => { results := [.lit (.bool false)], args := [d] }
  | _ => none }
def TreeTextsWrongFalsely : Prop := treeTextsRow.holds Tryd.pinned (OpenSpec.ofChange treeTextsWrong)

/-- 'twinlocklaw15.TreeQuiet': WHATEVER THE INPUT: true; the input reads as it did. -/
def treeQuietSpec : ChangeSpec := { name := "treeQuiet", fn := fun _ => fun
  | [d1, d2] => { results := [.lit (.bool true)], args := [d1, d2] }
  | _ => none }
def treeQuietRow : OpenClaim := { program := "ytkoipingokglpaadoor", sum := "380d2b5e6491a3364b35a8200aae1bcf0637e760187c15c8594bbb5920c6b5b3", func := "twinlock/twinlocklaw15.TreeQuiet", spec := "treeQuiet", inPlace := ["internal/bytealg.IndexByteString", "internal/bytealg.IndexString"], unfollowed := true, recurses := true, named := ["internal/bytealg.MaxLen", "twinlock/sha.numbersH", "twinlock/sha.numbersK"], apart := false, laid := [("twinlock/sha.numbersH", laid_twinlock_sha_numbersH), ("twinlock/sha.numbersK", laid_twinlock_sha_numbersK)] }
def TreeQuietSaid : Prop := treeQuietRow.holds Tryd.pinned (OpenSpec.ofChange treeQuietSpec)

/-- ITS FALSE NEIGHBOUR: 'it returns false'. Refute it at one input. -/
def treeQuietWrong : ChangeSpec := { name := "treeQuiet", fn := fun _ => fun
  | [d1, d2] => { results := [.lit (.bool false)], args := [d1, d2] }
  | _ => none }
def TreeQuietWrongFalsely : Prop := treeQuietRow.holds Tryd.pinned (OpenSpec.ofChange treeQuietWrong)

/-- 'twinlocklaw15.TreeOne': WHATEVER THE INPUT: true; the input reads as it did. -/
def treeOneSpec : ChangeSpec := { name := "treeOne", fn := fun _ => fun
  | [d1, d2] => { results := [.lit (.bool true)], args := [d1, d2] }
  | _ => none }
def treeOneRow : OpenClaim := { program := "ytkoipingokglpaadoor", sum := "380d2b5e6491a3364b35a8200aae1bcf0637e760187c15c8594bbb5920c6b5b3", func := "twinlock/twinlocklaw15.TreeOne", spec := "treeOne", inPlace := ["internal/bytealg.IndexByteString", "internal/bytealg.IndexString"], unfollowed := true, recurses := true, named := ["internal/bytealg.MaxLen", "twinlock/sha.numbersH", "twinlock/sha.numbersK"], apart := false, laid := [("twinlock/sha.numbersH", laid_twinlock_sha_numbersH), ("twinlock/sha.numbersK", laid_twinlock_sha_numbersK)] }
def TreeOneSaid : Prop := treeOneRow.holds Tryd.pinned (OpenSpec.ofChange treeOneSpec)

/-- ITS FALSE NEIGHBOUR: 'it returns false'. Refute it at one input. -/
def treeOneWrong : ChangeSpec := { name := "treeOne", fn := fun _ => fun
  | [d1, d2] => { results := [.lit (.bool false)], args := [d1, d2] }
  | _ => none }
def TreeOneWrongFalsely : Prop := treeOneRow.holds Tryd.pinned (OpenSpec.ofChange treeOneWrong)

/-- 'twinlocklaw15.TreeKnown': WHATEVER THE INPUT: true; the input reads as it did. -/
def treeKnownSpec : ChangeSpec := { name := "treeKnown", fn := fun _ => fun
  | [] => { results := [.lit (.bool true)], args := [] }
  | _ => none }
def treeKnownRow : OpenClaim := { program := "ytkoipingokglpaadoor", sum := "380d2b5e6491a3364b35a8200aae1bcf0637e760187c15c8594bbb5920c6b5b3", func := "twinlock/twinlocklaw15.TreeKnown", spec := "treeKnown", inPlace := ["internal/bytealg.IndexByteString", "internal/bytealg.IndexString"], unfollowed := true, recurses := true, named := ["internal/bytealg.MaxLen", "twinlock/sha.numbersH", "twinlock/sha.numbersK"], apart := false, laid := [("twinlock/sha.numbersH", laid_twinlock_sha_numbersH), ("twinlock/sha.numbersK", laid_twinlock_sha_numbersK)] }
def TreeKnownSaid : Prop := treeKnownRow.holds Tryd.pinned (OpenSpec.ofChange treeKnownSpec)

/-- ITS FALSE NEIGHBOUR: 'it returns false'. Refute it at one input. -/
def treeKnownWrong : ChangeSpec := { name := "treeKnown", fn := fun _ => fun
  | [] => { results := [.lit (.bool false)], args := [] }
  | _ => none }
def TreeKnownWrongFalsely : Prop := treeKnownRow.holds Tryd.pinned (OpenSpec.ofChange treeKnownWrong)

/- THE SECOND FORM. 'bulk': how many values and letters a reading holds, each counted each time it is reached (what is shared counts as often as it is met; a slice's spare places count too). A statement '..UptoSaid' is the law's where the arguments, and the package variables that the reading takes, are together of bulk at most 1048576: NARROWER than '..Said'. Prove '..Said' where nothing that the law and all that it calls make is longer than what came in: it says more and counts as full. Else prove '..UptoSaid'. A law counts once. -/
mutual
def uptoBulk {H : Type} : DataW H → Nat
  | .lit (.string bytes) => bytes.length + 1
  | .lit _ => 1
  | .nil => 1
  | .ptr d => uptoBulk d + 1
  | .slice elems spare => uptoBulkAll elems + uptoBulkAll spare + 1
  | .agg parts => uptoBulkAll parts + 1
  | .iface _ d => uptoBulk d + 1
  | .map entries => uptoBulkEntries entries + 1
  | .held _ => 1
def uptoBulkAll {H : Type} : List (DataW H) → Nat
  | [] => 0
  | d :: r => uptoBulk d + uptoBulkAll r
def uptoBulkEntries {H : Type} : List (Lit × DataW H) → Nat
  | [] => 0
  | x :: r => uptoBulkEntry x + uptoBulkEntries r
def uptoBulkEntry {H : Type} : Lit × DataW H → Nat
  | (.string bytes, d) => bytes.length + uptoBulk d + 1
  | (_, d) => uptoBulk d + 1
 end
def uptoSmall : (H : Type) → List (DataW H) → Bool := fun _ ds => decide (uptoBulkAll ds ≤ 1048576)
def OpenSpec.upto (s : _root_.Go.ChangeSpec) : _root_.Go.OpenSpec := { _root_.Go.OpenSpec.ofChange s with cond := some uptoSmall }

/-- 'twinlocklaw15.TreeHashes', WHERE WHAT IT READS IS OF BULK AT MOST 1048576: true; the input reads as it did. -/
def treeHashesUptoRow : OpenClaim := { program := "ytkoipingokglpaadoor", sum := "380d2b5e6491a3364b35a8200aae1bcf0637e760187c15c8594bbb5920c6b5b3", func := "twinlock/twinlocklaw15.TreeHashes", spec := "treeHashes", inPlace := ["internal/bytealg.IndexByteString", "internal/bytealg.IndexString"], unfollowed := true, recurses := true, named := ["internal/bytealg.MaxLen", "twinlock/sha.numbersH", "twinlock/sha.numbersK"], apart := false, laid := [("twinlock/sha.numbersH", laid_twinlock_sha_numbersH), ("twinlock/sha.numbersK", laid_twinlock_sha_numbersK)], narrowed := true }
def TreeHashesUptoSaid : Prop := treeHashesUptoRow.holds Tryd.pinned (OpenSpec.upto treeHashesSpec)

/-- 'twinlocklaw15.TreeNobody', WHERE WHAT IT READS IS OF BULK AT MOST 1048576: true; the input reads as it did. -/
def treeNobodyUptoRow : OpenClaim := { program := "ytkoipingokglpaadoor", sum := "380d2b5e6491a3364b35a8200aae1bcf0637e760187c15c8594bbb5920c6b5b3", func := "twinlock/twinlocklaw15.TreeNobody", spec := "treeNobody", inPlace := ["internal/bytealg.IndexByteString", "internal/bytealg.IndexString"], unfollowed := true, recurses := true, named := ["internal/bytealg.MaxLen", "twinlock/sha.numbersH", "twinlock/sha.numbersK"], apart := false, laid := [("twinlock/sha.numbersH", laid_twinlock_sha_numbersH), ("twinlock/sha.numbersK", laid_twinlock_sha_numbersK)], narrowed := true }
def TreeNobodyUptoSaid : Prop := treeNobodyUptoRow.holds Tryd.pinned (OpenSpec.upto treeNobodySpec)

/-- 'twinlocklaw15.TreeAlike', WHERE WHAT IT READS IS OF BULK AT MOST 1048576: true; the input reads as it did. -/
def treeAlikeUptoRow : OpenClaim := { program := "ytkoipingokglpaadoor", sum := "380d2b5e6491a3364b35a8200aae1bcf0637e760187c15c8594bbb5920c6b5b3", func := "twinlock/twinlocklaw15.TreeAlike", spec := "treeAlike", inPlace := ["internal/bytealg.IndexByteString", "internal/bytealg.IndexString"], unfollowed := true, recurses := true, named := ["internal/bytealg.MaxLen", "twinlock/sha.numbersH", "twinlock/sha.numbersK"], apart := false, laid := [("twinlock/sha.numbersH", laid_twinlock_sha_numbersH), ("twinlock/sha.numbersK", laid_twinlock_sha_numbersK)], narrowed := true }
def TreeAlikeUptoSaid : Prop := treeAlikeUptoRow.holds Tryd.pinned (OpenSpec.upto treeAlikeSpec)

/-- 'twinlocklaw15.TreeTexts', WHERE WHAT IT READS IS OF BULK AT MOST 1048576: true; the input reads as it did. -/
def treeTextsUptoRow : OpenClaim := { program := "ytkoipingokglpaadoor", sum := "380d2b5e6491a3364b35a8200aae1bcf0637e760187c15c8594bbb5920c6b5b3", func := "twinlock/twinlocklaw15.TreeTexts", spec := "treeTexts", inPlace := ["internal/bytealg.IndexByteString", "internal/bytealg.IndexString"], unfollowed := true, recurses := true, named := ["internal/bytealg.MaxLen", "twinlock/sha.numbersH", "twinlock/sha.numbersK"], apart := false, laid := [("twinlock/sha.numbersH", laid_twinlock_sha_numbersH), ("twinlock/sha.numbersK", laid_twinlock_sha_numbersK)], narrowed := true }
def TreeTextsUptoSaid : Prop := treeTextsUptoRow.holds Tryd.pinned (OpenSpec.upto treeTextsSpec)

/-- 'twinlocklaw15.TreeQuiet', WHERE WHAT IT READS IS OF BULK AT MOST 1048576: true; the input reads as it did. -/
def treeQuietUptoRow : OpenClaim := { program := "ytkoipingokglpaadoor", sum := "380d2b5e6491a3364b35a8200aae1bcf0637e760187c15c8594bbb5920c6b5b3", func := "twinlock/twinlocklaw15.TreeQuiet", spec := "treeQuiet", inPlace := ["internal/bytealg.IndexByteString", "internal/bytealg.IndexString"], unfollowed := true, recurses := true, named := ["internal/bytealg.MaxLen", "twinlock/sha.numbersH", "twinlock/sha.numbersK"], apart := false, laid := [("twinlock/sha.numbersH", laid_twinlock_sha_numbersH), ("twinlock/sha.numbersK", laid_twinlock_sha_numbersK)], narrowed := true }
def TreeQuietUptoSaid : Prop := treeQuietUptoRow.holds Tryd.pinned (OpenSpec.upto treeQuietSpec)

/-- 'twinlocklaw15.TreeOne', WHERE WHAT IT READS IS OF BULK AT MOST 1048576: true; the input reads as it did. -/
def treeOneUptoRow : OpenClaim := { program := "ytkoipingokglpaadoor", sum := "380d2b5e6491a3364b35a8200aae1bcf0637e760187c15c8594bbb5920c6b5b3", func := "twinlock/twinlocklaw15.TreeOne", spec := "treeOne", inPlace := ["internal/bytealg.IndexByteString", "internal/bytealg.IndexString"], unfollowed := true, recurses := true, named := ["internal/bytealg.MaxLen", "twinlock/sha.numbersH", "twinlock/sha.numbersK"], apart := false, laid := [("twinlock/sha.numbersH", laid_twinlock_sha_numbersH), ("twinlock/sha.numbersK", laid_twinlock_sha_numbersK)], narrowed := true }
def TreeOneUptoSaid : Prop := treeOneUptoRow.holds Tryd.pinned (OpenSpec.upto treeOneSpec)

/-- 'twinlocklaw15.TreeKnown', WHERE WHAT IT READS IS OF BULK AT MOST 1048576: true; the input reads as it did. -/
def treeKnownUptoRow : OpenClaim := { program := "ytkoipingokglpaadoor", sum := "380d2b5e6491a3364b35a8200aae1bcf0637e760187c15c8594bbb5920c6b5b3", func := "twinlock/twinlocklaw15.TreeKnown", spec := "treeKnown", inPlace := ["internal/bytealg.IndexByteString", "internal/bytealg.IndexString"], unfollowed := true, recurses := true, named := ["internal/bytealg.MaxLen", "twinlock/sha.numbersH", "twinlock/sha.numbersK"], apart := false, laid := [("twinlock/sha.numbersH", laid_twinlock_sha_numbersH), ("twinlock/sha.numbersK", laid_twinlock_sha_numbersK)], narrowed := true }
def TreeKnownUptoSaid : Prop := treeKnownUptoRow.holds Tryd.pinned (OpenSpec.upto treeKnownSpec)

end Rows
end Go.Proofs.YtkoipingokglpaaDoor
