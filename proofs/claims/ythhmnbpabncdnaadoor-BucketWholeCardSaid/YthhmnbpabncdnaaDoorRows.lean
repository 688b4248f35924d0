/-
  NARROWER THAN 'FOR EVERY INPUT', by the rows' own cells (each row's printed sentence says how): BucketParts: laid · BucketPages: laid · BucketReads: laid · BucketWhole: laid · BucketOnly: laid · BucketHash: laid · BucketCut: laid · BucketKnown: laid.
  DERIVED. THE GIVEN ROWS OF THIS SEAT. 8 by the template 'for every input the law returns true; each argument reads behind the call as it read before'; 0 by the template 'total and deterministic' (their statements: YthhmnbpabncdnaaDoorTotals.lean).
  GIVEN WITH THE SEED: the statements are not yours to turn. If you find one false, say at which input.
  Laid BY PROGRAM, IN A SANDBOX (cutbox-rows.mjs): the forced cells as the released guide's own fill.sh prints them over the translation e68362c2448bbccc… (all of the seat's roots in one cut). By AI agents, Wed Nov 11 2026. No macro, syntax, notation, axiom, sorry.
-/
import Derived.Test.YthhmnbpabncdnaaDoorChecked
import GoSem.Claim
import GoSem.ClaimJoined
import GoSem.ClaimMapViews
import Derived.JoinedTies
import Derived.KernelRfl
namespace Go.Proofs.YthhmnbpabncdnaaDoor
/- THE CELL 'sum', in the pinned program and in every row, IS THE sha256 OF THE DUMP (.gsa) THAT YthhmnbpabncdnaaDoorProg.lean LOADS. Nothing in Lean hashes anything: it is a label: what it is worth is what the hold of that sum in a sandbox is worth. -/
noncomputable def Tryd.pinned : Pinned := { name := "ythhmnbpabncdnaadoor", sum := "e68362c2448bbccce41d03546a8fb70a423c89cd9d324efda00467b543a33c4d", checked := Tryd.checked }
namespace Rows
def none {H : Type} : Left H := { results := [], args := [] }

/- WHAT THE LISTED PACKAGE-LEVEL VARIABLES READ AS WHEN THE CALL BEGINS. Each datum BY PROGRAM (the guide's laid-datum.mjs) off the statement by which the dump's own 'gosem.cut.vars' lays the variable. In a bare row this is a premise. The card (YthhmnbpabncdnaaDoorCards.lean) ties it to the program's text. -/
def laid_twinlock_sha_numbersH {H : Type} : DataW H := .agg [.lit (.int .u32 1779033703), .lit (.int .u32 3144134277), .lit (.int .u32 1013904242), .lit (.int .u32 2773480762), .lit (.int .u32 1359893119), .lit (.int .u32 2600822924), .lit (.int .u32 528734635), .lit (.int .u32 1541459225)]
def laid_twinlock_sha_numbersK {H : Type} : DataW H := .agg [.lit (.int .u32 1116352408), .lit (.int .u32 1899447441), .lit (.int .u32 3049323471), .lit (.int .u32 3921009573), .lit (.int .u32 961987163), .lit (.int .u32 1508970993), .lit (.int .u32 2453635748), .lit (.int .u32 2870763221), .lit (.int .u32 3624381080), .lit (.int .u32 310598401), .lit (.int .u32 607225278), .lit (.int .u32 1426881987), .lit (.int .u32 1925078388), .lit (.int .u32 2162078206), .lit (.int .u32 2614888103), .lit (.int .u32 3248222580), .lit (.int .u32 3835390401), .lit (.int .u32 4022224774), .lit (.int .u32 264347078), .lit (.int .u32 604807628), .lit (.int .u32 770255983), .lit (.int .u32 1249150122), .lit (.int .u32 1555081692), .lit (.int .u32 1996064986), .lit (.int .u32 2554220882), .lit (.int .u32 2821834349), .lit (.int .u32 2952996808), .lit (.int .u32 3210313671), .lit (.int .u32 3336571891), .lit (.int .u32 3584528711), .lit (.int .u32 113926993), .lit (.int .u32 338241895), .lit (.int .u32 666307205), .lit (.int .u32 773529912), .lit (.int .u32 1294757372), .lit (.int .u32 1396182291), .lit (.int .u32 1695183700), .lit (.int .u32 1986661051), .lit (.int .u32 2177026350), .lit (.int .u32 2456956037), .lit (.int .u32 2730485921), .lit (.int .u32 2820302411), .lit (.int .u32 3259730800), .lit (.int .u32 3345764771), .lit (.int .u32 3516065817), .lit (.int .u32 3600352804), .lit (.int .u32 4094571909), .lit (.int .u32 275423344), .lit (.int .u32 430227734), .lit (.int .u32 506948616), .lit (.int .u32 659060556), .lit (.int .u32 883997877), .lit (.int .u32 958139571), .lit (.int .u32 1322822218), .lit (.int .u32 1537002063), .lit (.int .u32 1747873779), .lit (.int .u32 1955562222), .lit (.int .u32 2024104815), .lit (.int .u32 2227730452), .lit (.int .u32 2361852424), .lit (.int .u32 2428436474), .lit (.int .u32 2756734187), .lit (.int .u32 3204031479), .lit (.int .u32 3329325298)]

/-- 'twinlocklaw14.BucketParts': WHATEVER THE INPUT: true; the input reads as it did. -/
def bucketPartsSpec : ChangeSpec := { name := "bucketParts", fn := fun _ => fun
  | [d1, d2, d3] => { results := [.lit (.bool true)], args := [d1, d2, d3] }
  | _ => none }
def bucketPartsRow : OpenClaim := { program := "ythhmnbpabncdnaadoor", sum := "e68362c2448bbccce41d03546a8fb70a423c89cd9d324efda00467b543a33c4d", func := "twinlock/twinlocklaw14.BucketParts", spec := "bucketParts", inPlace := ["internal/bytealg.IndexByteString", "internal/bytealg.IndexString"], unfollowed := true, recurses := true, named := ["twinlock/sha.numbersH", "twinlock/sha.numbersK", "internal/bytealg.MaxLen"], apart := false, laid := [("twinlock/sha.numbersH", laid_twinlock_sha_numbersH), ("twinlock/sha.numbersK", laid_twinlock_sha_numbersK)] }
def BucketPartsSaid : Prop := bucketPartsRow.holds Tryd.pinned (OpenSpec.ofChange bucketPartsSpec)

/-- ITS FALSE NEIGHBOUR: 'it returns false'. Refute it at one input. -/
def bucketPartsWrong : ChangeSpec := { name := "bucketParts", fn := fun _ => fun
  | [d1, d2, d3] => { results := [.lit (.bool false)], args := [d1, d2, d3] }
  | _ => none }
def BucketPartsWrongFalsely : Prop := bucketPartsRow.holds Tryd.pinned (OpenSpec.ofChange bucketPartsWrong)

/-- 'twinlocklaw14.BucketPages': WHATEVER THE INPUT: true; the input reads as it did. -/
def bucketPagesSpec : ChangeSpec := { name := "bucketPages", fn := fun _ => fun
  | [d1, d2] => { results := [.lit (.bool true)], args := [d1, d2] }
  | _ => none }
def bucketPagesRow : OpenClaim := { program := "ythhmnbpabncdnaadoor", sum := "e68362c2448bbccce41d03546a8fb70a423c89cd9d324efda00467b543a33c4d", func := "twinlock/twinlocklaw14.BucketPages", spec := "bucketPages", inPlace := ["internal/bytealg.IndexByteString", "internal/bytealg.IndexString"], unfollowed := true, recurses := true, named := ["twinlock/sha.numbersH", "twinlock/sha.numbersK", "internal/bytealg.MaxLen"], apart := false, laid := [("twinlock/sha.numbersH", laid_twinlock_sha_numbersH), ("twinlock/sha.numbersK", laid_twinlock_sha_numbersK)] }
def BucketPagesSaid : Prop := bucketPagesRow.holds Tryd.pinned (OpenSpec.ofChange bucketPagesSpec)

/-- ITS FALSE NEIGHBOUR: 'it returns false'. Refute it at one input. -/
def bucketPagesWrong : ChangeSpec := { name := "bucketPages", fn := fun _ => fun
  | [d1, d2] => { results := [.lit (.bool false)], args := [d1, d2] }
  | _ => none }
def BucketPagesWrongFalsely : Prop := bucketPagesRow.holds Tryd.pinned (OpenSpec.ofChange bucketPagesWrong)

/-- 'twinlocklaw14.BucketReads': WHATEVER THE INPUT: true; the input reads as it did. -/
def bucketReadsSpec : ChangeSpec := { name := "bucketReads", fn := fun _ => fun
  | [d1, d2] => { results := [.lit (.bool true)], args := [d1, d2] }
  | _ => none }
def bucketReadsRow : OpenClaim := { program := "ythhmnbpabncdnaadoor", sum := "e68362c2448bbccce41d03546a8fb70a423c89cd9d324efda00467b543a33c4d", func := "twinlock/twinlocklaw14.BucketReads", spec := "bucketReads", inPlace := ["internal/bytealg.IndexByteString", "internal/bytealg.IndexString"], unfollowed := true, recurses := true, named := ["internal/bytealg.MaxLen", "twinlock/sha.numbersH", "twinlock/sha.numbersK"], apart := false, laid := [("twinlock/sha.numbersH", laid_twinlock_sha_numbersH), ("twinlock/sha.numbersK", laid_twinlock_sha_numbersK)] }
def BucketReadsSaid : Prop := bucketReadsRow.holds Tryd.pinned (OpenSpec.ofChange bucketReadsSpec)

/-- ITS FALSE NEIGHBOUR: 'it returns false'. Refute it at one input. -/
def bucketReadsWrong : ChangeSpec := { name := "bucketReads", fn := fun _ => fun
  | [d1, d2] => { results := [.lit (.bool false)], args := [d1, d2] }
  | _ => none }
def BucketReadsWrongFalsely : Prop := bucketReadsRow.holds Tryd.pinned (OpenSpec.ofChange bucketReadsWrong)

/-- 'twinlocklaw14.BucketWhole': WHATEVER THE INPUT: true; the input reads as it did. -/
def bucketWholeSpec : ChangeSpec := { name := "bucketWhole", fn := fun _ => fun
  | [d] => { results := [.lit (.bool true)], args := [d] }
  | _ => none }
def bucketWholeRow : OpenClaim := { program := "ythhmnbpabncdnaadoor", sum := "e68362c2448bbccce41d03546a8fb70a423c89cd9d324efda00467b543a33c4d", func := "twinlock/twinlocklaw14.BucketWhole", spec := "bucketWhole", inPlace := ["internal/bytealg.IndexByteString", "internal/bytealg.IndexString"], unfollowed := true, recurses := true, named := ["twinlock/sha.numbersH", "twinlock/sha.numbersK", "internal/bytealg.MaxLen"], apart := false, laid := [("twinlock/sha.numbersH", laid_twinlock_sha_numbersH), ("twinlock/sha.numbersK", laid_twinlock_sha_numbersK)] }
def BucketWholeSaid : Prop := bucketWholeRow.holds Tryd.pinned (OpenSpec.ofChange bucketWholeSpec)

/-- ITS FALSE NEIGHBOUR: 'it returns false'. Refute it at one input. -/
def bucketWholeWrong : ChangeSpec := { name := "bucketWhole", fn := fun _ => fun
  | [d] => { results := [.lit (.bool false)], args := [d] }
  | _ => none }
def BucketWholeWrongFalsely : Prop := bucketWholeRow.holds Tryd.pinned (OpenSpec.ofChange bucketWholeWrong)

/-- 'twinlocklaw14.BucketOnly': WHATEVER THE INPUT: true; the input reads as it did. -/
def bucketOnlySpec : ChangeSpec := { name := "bucketOnly", fn := fun _ => fun
  | [d1, d2] => { results := [.lit (.bool true)], args := [d1, d2] }
  | _ => none }
def bucketOnlyRow : OpenClaim := { program := "ythhmnbpabncdnaadoor", sum := "e68362c2448bbccce41d03546a8fb70a423c89cd9d324efda00467b543a33c4d", func := "twinlock/twinlocklaw14.BucketOnly", spec := "bucketOnly", inPlace := ["internal/bytealg.IndexByteString", "internal/bytealg.IndexString"], unfollowed := true, recurses := true, named := ["internal/bytealg.MaxLen", "twinlock/sha.numbersH", "twinlock/sha.numbersK"], apart := false, laid := [("twinlock/sha.numbersH", laid_twinlock_sha_numbersH), ("twinlock/sha.numbersK", laid_twinlock_sha_numbersK)] }
def BucketOnlySaid : Prop := bucketOnlyRow.holds Tryd.pinned (OpenSpec.ofChange bucketOnlySpec)

/-- ITS FALSE NEIGHBOUR: 'it returns false'. Refute it at one input. -/
def bucketOnlyWrong : ChangeSpec := { name := "bucketOnly", fn := fun _ => fun
  | [d1, d2] => { results := [.lit (.bool false)], args := [d1, d2] }
  | _ => none }
def BucketOnlyWrongFalsely : Prop := bucketOnlyRow.holds Tryd.pinned (OpenSpec.ofChange bucketOnlyWrong)

/-- 'twinlocklaw14.BucketHash': WHATEVER THE INPUT: true; the input reads as it did. -/
def bucketHashSpec : ChangeSpec := { name := "bucketHash", fn := fun _ => fun
  | [d] => { results := [.lit (.bool true)], args := [d] }
  | _ => none }
def bucketHashRow : OpenClaim := { program := "ythhmnbpabncdnaadoor", sum := "e68362c2448bbccce41d03546a8fb70a423c89cd9d324efda00467b543a33c4d", func := "twinlock/twinlocklaw14.BucketHash", spec := "bucketHash", inPlace := ["internal/bytealg.IndexByteString", "internal/bytealg.IndexString"], unfollowed := true, recurses := true, named := ["twinlock/sha.numbersH", "twinlock/sha.numbersK", "internal/bytealg.MaxLen"], apart := false, laid := [("twinlock/sha.numbersH", laid_twinlock_sha_numbersH), ("twinlock/sha.numbersK", laid_twinlock_sha_numbersK)] }
def BucketHashSaid : Prop := bucketHashRow.holds Tryd.pinned (OpenSpec.ofChange bucketHashSpec)

/-- ITS FALSE NEIGHBOUR: 'it returns false'. Refute it at one input. -/
def bucketHashWrong : ChangeSpec := { name := "bucketHash", fn := fun _ => fun
  | [d] => { results := [.lit (.bool false)], args := [d] }
  | _ => none }
def BucketHashWrongFalsely : Prop := bucketHashRow.holds Tryd.pinned (OpenSpec.ofChange bucketHashWrong)

/-- 'twinlocklaw14.BucketCut': WHATEVER THE INPUT: true; the input reads as it did. -/
def bucketCutSpec : ChangeSpec := { name := "bucketCut", fn := fun _ => fun
  | [d1, d2, d3, d4] => { results := [.lit (.bool true)], args := [d1, d2, d3, d4] }
  | _ => none }
def bucketCutRow : OpenClaim := { program := "ythhmnbpabncdnaadoor", sum := "e68362c2448bbccce41d03546a8fb70a423c89cd9d324efda00467b543a33c4d", func := "twinlock/twinlocklaw14.BucketCut", spec := "bucketCut", inPlace := ["internal/bytealg.IndexByteString", "internal/bytealg.IndexString"], unfollowed := true, recurses := true, named := ["twinlock/sha.numbersH", "twinlock/sha.numbersK", "internal/bytealg.MaxLen"], apart := false, laid := [("twinlock/sha.numbersH", laid_twinlock_sha_numbersH), ("twinlock/sha.numbersK", laid_twinlock_sha_numbersK)] }
def BucketCutSaid : Prop := bucketCutRow.holds Tryd.pinned (OpenSpec.ofChange bucketCutSpec)

/-- ITS FALSE NEIGHBOUR: 'it returns false'. Refute it at one input. -/
def bucketCutWrong : ChangeSpec := { name := "bucketCut", fn := fun _ => fun
  | [d1, d2, d3, d4] => { results := [.lit (.bool false)], args := [d1, d2, d3, d4] }
  | _ => none }
def BucketCutWrongFalsely : Prop := bucketCutRow.holds Tryd.pinned (OpenSpec.ofChange bucketCutWrong)

/-- 'twinlocklaw14.BucketKnown': WHATEVER THE INPUT: true; the input reads as it did. -/
def bucketKnownSpec : ChangeSpec := { name := "bucketKnown", fn := fun _ => fun
  | [] => { results := [.lit (.bool true)], args := [] }
  | _ => none }
def bucketKnownRow : OpenClaim := { program := "ythhmnbpabncdnaadoor", sum := "e68362c2448bbccce41d03546a8fb70a423c89cd9d324efda00467b543a33c4d", func := "twinlock/twinlocklaw14.BucketKnown", spec := "bucketKnown", inPlace := ["internal/bytealg.IndexByteString", "internal/bytealg.IndexString"], unfollowed := true, recurses := true, named := ["twinlock/sha.numbersH", "twinlock/sha.numbersK", "internal/bytealg.MaxLen"], apart := false, laid := [("twinlock/sha.numbersH", laid_twinlock_sha_numbersH), ("twinlock/sha.numbersK", laid_twinlock_sha_numbersK)] }
def BucketKnownSaid : Prop := bucketKnownRow.holds Tryd.pinned (OpenSpec.ofChange bucketKnownSpec)

/-- ITS FALSE NEIGHBOUR: 'it returns false'. Refute it at one input. -/
def bucketKnownWrong : ChangeSpec := { name := "bucketKnown", fn := fun _ => fun
  | [] => { results := [.lit (.bool false)], args := [] }
  | _ => none }
def BucketKnownWrongFalsely : Prop := bucketKnownRow.holds Tryd.pinned (OpenSpec.ofChange bucketKnownWrong)

/- THE SECOND FORM. 'bulk': how many values and letters a reading holds, each counted each time it is reached (what is shared counts as often as it is met; a slice's spare places count too). A statement '..UptoSaid' is the law's where the arguments, and the package variables that the reading takes, are together of bulk at most 1048576: NARROWER than '..Said'. Prove '..Said' where nothing that the law and all that it calls make is longer than what came in: it says more and counts as full. Else prove '..UptoSaid'. A law counts once. -/
mutual
def uptoBulk {H : Type} : DataW H → Nat
  | .lit (.string bytes) => bytes.length + 1
  | .lit _ => 1
  | .nil => 1
  | .ptr d => uptoBulk d + 1
  | .slice elems spare => uptoBulkAll elems + uptoBulkAll spare + 1
  | .agg parts => uptoBulkAll parts + 1
  | .iface _ d => uptoBulk d + 1
  | .map entries => uptoBulkEntries entries + 1
  | .held _ => 1
def uptoBulkAll {H : Type} : List (DataW H) → Nat
  | [] => 0
  | d :: r => uptoBulk d + uptoBulkAll r
def uptoBulkEntries {H : Type} : List (Lit × DataW H) → Nat
  | [] => 0
  | x :: r => uptoBulkEntry x + uptoBulkEntries r
def uptoBulkEntry {H : Type} : Lit × DataW H → Nat
  | (.string bytes, d) => bytes.length + uptoBulk d + 1
  | (_, d) => uptoBulk d + 1
 end
def uptoSmall : (H : Type) → List (DataW H) → Bool := fun _ ds => decide (uptoBulkAll ds ≤ 1048576)
def OpenSpec.upto (s : _root_.Go.ChangeSpec) : _root_.Go.OpenSpec := { _root_.Go.OpenSpec.ofChange s with cond := some uptoSmall }

/-- 'twinlocklaw14.BucketParts', WHERE WHAT IT READS IS OF BULK AT MOST 1048576: true; the input reads as it did. -/
def bucketPartsUptoRow : OpenClaim := { program := "ythhmnbpabncdnaadoor", sum := "e68362c2448bbccce41d03546a8fb70a423c89cd9d324efda00467b543a33c4d", func := "twinlock/twinlocklaw14.BucketParts", spec := "bucketParts", inPlace := ["internal/bytealg.IndexByteString", "internal/bytealg.IndexString"], unfollowed := true, recurses := true, named := ["twinlock/sha.numbersH", "twinlock/sha.numbersK", "internal/bytealg.MaxLen"], apart := false, laid := [("twinlock/sha.numbersH", laid_twinlock_sha_numbersH), ("twinlock/sha.numbersK", laid_twinlock_sha_numbersK)], narrowed := true }
def BucketPartsUptoSaid : Prop := bucketPartsUptoRow.holds Tryd.pinned (OpenSpec.upto bucketPartsSpec)

/-- 'twinlocklaw14.BucketPages', WHERE WHAT IT READS IS OF BULK AT MOST 1048576: true; the input reads as it did. -/
def bucketPagesUptoRow : OpenClaim := { program := "ythhmnbpabncdnaadoor", sum := "e68362c2448bbccce41d03546a8fb70a423c89cd9d324efda00467b543a33c4d", func := "twinlock/twinlocklaw14.BucketPages", spec := "bucketPages", inPlace := ["internal/bytealg.IndexByteString", "internal/bytealg.IndexString"], unfollowed := true, recurses := true, named := ["twinlock/sha.numbersH", "twinlock/sha.numbersK", "internal/bytealg.MaxLen"], apart := false, laid := [("twinlock/sha.numbersH", laid_twinlock_sha_numbersH), ("twinlock/sha.numbersK", laid_twinlock_sha_numbersK)], narrowed := true }
def BucketPagesUptoSaid : Prop := bucketPagesUptoRow.holds Tryd.pinned (OpenSpec.upto bucketPagesSpec)

/-- 'twinlocklaw14.BucketReads', WHERE WHAT IT READS IS OF BULK AT MOST 1048576: true; the input reads as it did. -/
def bucketReadsUptoRow : OpenClaim := { program := "ythhmnbpabncdnaadoor", sum := "e68362c2448bbccce41d03546a8fb70a423c89cd9d324efda00467b543a33c4d", func := "twinlock/twinlocklaw14.BucketReads", spec := "bucketReads", inPlace := ["internal/bytealg.IndexByteString", "internal/bytealg.IndexString"], unfollowed := true, recurses := true, named := ["internal/bytealg.MaxLen", "twinlock/sha.numbersH", "twinlock/sha.numbersK"], apart := false, laid := [("twinlock/sha.numbersH", laid_twinlock_sha_numbersH), ("twinlock/sha.numbersK", laid_twinlock_sha_numbersK)], narrowed := true }
def BucketReadsUptoSaid : Prop := bucketReadsUptoRow.holds Tryd.pinned (OpenSpec.upto bucketReadsSpec)

/-- 'twinlocklaw14.BucketWhole', WHERE WHAT IT READS IS OF BULK AT MOST 1048576: true; the input reads as it did. -/
def bucketWholeUptoRow : OpenClaim := { program := "ythhmnbpabncdnaadoor", sum := "e68362c2448bbccce41d03546a8fb70a423c89cd9d324efda00467b543a33c4d", func := "twinlock/twinlocklaw14.BucketWhole", spec := "bucketWhole", inPlace := ["internal/bytealg.IndexByteString", "internal/bytealg.IndexString"], unfollowed := true, recurses := true, named := ["twinlock/sha.numbersH", "twinlock/sha.numbersK", "internal/bytealg.MaxLen"], apart := false, laid := [("twinlock/sha.numbersH", laid_twinlock_sha_numbersH), ("twinlock/sha.numbersK", laid_twinlock_sha_numbersK)], narrowed := true }
def BucketWholeUptoSaid : Prop := bucketWholeUptoRow.holds Tryd.pinned (OpenSpec.upto bucketWholeSpec)

/-- 'twinlocklaw14.BucketOnly', WHERE WHAT IT READS IS OF BULK AT MOST 1048576: true; the input reads as it did. -/
def bucketOnlyUptoRow : OpenClaim := { program := "ythhmnbpabncdnaadoor", sum := "e68362c2448bbccce41d03546a8fb70a423c89cd9d324efda00467b543a33c4d", func := "twinlock/twinlocklaw14.BucketOnly", spec := "bucketOnly", inPlace := ["internal/bytealg.IndexByteString", "internal/bytealg.IndexString"], unfollowed := true, recurses := true, named := ["internal/bytealg.MaxLen", "twinlock/sha.numbersH", "twinlock/sha.numbersK"], apart := false, laid := [("twinlock/sha.numbersH", laid_twinlock_sha_numbersH), ("twinlock/sha.numbersK", laid_twinlock_sha_numbersK)], narrowed := true }
def BucketOnlyUptoSaid : Prop := bucketOnlyUptoRow.holds Tryd.pinned (OpenSpec.upto bucketOnlySpec)

/-- 'twinlocklaw14.BucketHash', WHERE WHAT IT READS IS OF BULK AT MOST 1048576: true; the input reads as it did. -/
def bucketHashUptoRow : OpenClaim := { program := "ythhmnbpabncdnaadoor", sum := "e68362c2448bbccce41d03546a8fb70a423c89cd9d324efda00467b543a33c4d", func := "twinlock/twinlocklaw14.BucketHash", spec := "bucketHash", inPlace := ["internal/bytealg.IndexByteString", "internal/bytealg.IndexString"], unfollowed := true, recurses := true, named := ["twinlock/sha.numbersH", "twinlock/sha.numbersK", "internal/bytealg.MaxLen"], apart := false, laid := [("twinlock/sha.numbersH", laid_twinlock_sha_numbersH), ("twinlock/sha.numbersK", laid_twinlock_sha_numbersK)], narrowed := true }
def BucketHashUptoSaid : Prop := bucketHashUptoRow.holds Tryd.pinned (OpenSpec.upto bucketHashSpec)

/-- 'twinlocklaw14.BucketCut', WHERE WHAT IT READS IS OF BULK AT MOST 1048576: true; the input reads as it did. -/
def bucketCutUptoRow : OpenClaim := { program := "ythhmnbpabncdnaadoor", sum := "e68362c2448bbccce41d03546a8fb70a423c89cd9d324efda00467b543a33c4d", func := "twinlock/twinlocklaw14.BucketCut", spec := "bucketCut", inPlace := ["internal/bytealg.IndexByteString", "internal/bytealg.IndexString"], unfollowed := true, recurses := true, named := ["twinlock/sha.numbersH", "twinlock/sha.numbersK", "internal/bytealg.MaxLen"], apart := false, laid := [("twinlock/sha.numbersH", laid_twinlock_sha_numbersH), ("twinlock/sha.numbersK", laid_twinlock_sha_numbersK)], narrowed := true }
def BucketCutUptoSaid : Prop := bucketCutUptoRow.holds Tryd.pinned (OpenSpec.upto bucketCutSpec)

/-- 'twinlocklaw14.BucketKnown', WHERE WHAT IT READS IS OF BULK AT MOST 1048576: true; the input reads as it did. -/
def bucketKnownUptoRow : OpenClaim := { program := "ythhmnbpabncdnaadoor", sum := "e68362c2448bbccce41d03546a8fb70a423c89cd9d324efda00467b543a33c4d", func := "twinlock/twinlocklaw14.BucketKnown", spec := "bucketKnown", inPlace := ["internal/bytealg.IndexByteString", "internal/bytealg.IndexString"], unfollowed := true, recurses := true, named := ["twinlock/sha.numbersH", "twinlock/sha.numbersK", "internal/bytealg.MaxLen"], apart := false, laid := [("twinlock/sha.numbersH", laid_twinlock_sha_numbersH), ("twinlock/sha.numbersK", laid_twinlock_sha_numbersK)], narrowed := true }
def BucketKnownUptoSaid : Prop := bucketKnownUptoRow.holds Tryd.pinned (OpenSpec.upto bucketKnownSpec)

end Rows
end Go.Proofs.YthhmnbpabncdnaaDoor
