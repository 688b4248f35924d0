/-
  DERIVED. GIVEN WITH THE SEED: THE CARDS: each row of YtiehcplepneajaaGreatDoorRows.lean that lists a variable, with what it lists TIED to the program's text (the seventh form; the later family's looks); each row that meets fmt, with fmt's text TOLD by the authors' own Lean function (tested against real Go, not proved from fmt's source: count such statements apart). THE CARD IS WHAT COUNTS. Prove the row's statement (the work); the ties are given (YtiehcplepneajaaGreatDoorTie.lean); close each card by the builder's one call (the guide's Derived/Test/ToyasCard.lean, 'card_holds'). Laid BY PROGRAM, IN A SANDBOX (cutbox-door.mjs). By AI agents, Wed Nov 11 2026. No macro, syntax, notation, axiom, sorry.
-/
import Derived.Test.YtiehcplepneajaaGreatDoorRows
import GoSem.ClaimSeven
namespace Go.Proofs.YtiehcplepneajaaGreatDoor
namespace Rows

/-- THE TIED CARD OF 'twinlocklaw16.WalkPlays'. -/
def walkPlaysCard : Claim7 := { stood := { row := walkPlaysRow, standIns := [], harness := (true, "f8931eccb57cb17666cd6908a1225bff7da5dfc1eadf2744edfb2c3050a1b32a"), looks := false }, kinds := [], alts := [], laidByText := true, laidKinds := [.data, .data], laidTests := true, laidLooks := .later }
def WalkPlaysCardSaid : Prop := Claim7.holds Tryz.pinned (.plain (OpenSpec.ofChange walkPlaysSpec)) walkPlaysCard

/-- THE TIED CARD OF 'twinlocklaw16.WalkNobody'. -/
def walkNobodyCard : Claim7 := { stood := { row := walkNobodyRow, standIns := [], harness := (true, "f8931eccb57cb17666cd6908a1225bff7da5dfc1eadf2744edfb2c3050a1b32a"), looks := false }, kinds := [], alts := [], laidByText := true, laidKinds := [.data, .data], laidTests := true, laidLooks := .later }
def WalkNobodyCardSaid : Prop := Claim7.holds Tryz.pinned (.plain (OpenSpec.ofChange walkNobodySpec)) walkNobodyCard

/-- THE TIED CARD OF 'twinlocklaw16.WalkLevel'. -/
def walkLevelCard : Claim7 := { stood := { row := walkLevelRow, standIns := [], harness := (true, "f8931eccb57cb17666cd6908a1225bff7da5dfc1eadf2744edfb2c3050a1b32a"), looks := false }, kinds := [], alts := [], laidByText := true, laidKinds := [.data, .data], laidTests := true, laidLooks := .later }
def WalkLevelCardSaid : Prop := Claim7.holds Tryz.pinned (.plain (OpenSpec.ofChange walkLevelSpec)) walkLevelCard

/-- THE TIED CARD OF 'twinlocklaw16.WalkFew'. -/
def walkFewCard : Claim7 := { stood := { row := walkFewRow, standIns := [], harness := (true, "f8931eccb57cb17666cd6908a1225bff7da5dfc1eadf2744edfb2c3050a1b32a"), looks := false }, kinds := [], alts := [], laidByText := true, laidKinds := [.data, .data], laidTests := true, laidLooks := .later }
def WalkFewCardSaid : Prop := Claim7.holds Tryz.pinned (.plain (OpenSpec.ofChange walkFewSpec)) walkFewCard

/-- THE TIED CARD OF 'twinlocklaw16.WalkQuiet'. -/
def walkQuietCard : Claim7 := { stood := { row := walkQuietRow, standIns := [], harness := (true, "f8931eccb57cb17666cd6908a1225bff7da5dfc1eadf2744edfb2c3050a1b32a"), looks := false }, kinds := [], alts := [], laidByText := true, laidKinds := [.data, .data], laidTests := true, laidLooks := .later }
def WalkQuietCardSaid : Prop := Claim7.holds Tryz.pinned (.plain (OpenSpec.ofChange walkQuietSpec)) walkQuietCard

/-- THE TIED CARD OF 'twinlocklaw16.WalkKnown'. -/
def walkKnownCard : Claim7 := { stood := { row := walkKnownRow, standIns := [], harness := (true, "f8931eccb57cb17666cd6908a1225bff7da5dfc1eadf2744edfb2c3050a1b32a"), looks := false }, kinds := [], alts := [], laidByText := true, laidKinds := [.data, .data], laidTests := true, laidLooks := .later }
def WalkKnownCardSaid : Prop := Claim7.holds Tryz.pinned (.plain (OpenSpec.ofChange walkKnownSpec)) walkKnownCard

/-- THE TIED CARD OF 'twinlocklaw15.TreePlays'. -/
def treePlaysCard : Claim7 := { stood := { row := treePlaysRow, standIns := [], harness := (true, "f8931eccb57cb17666cd6908a1225bff7da5dfc1eadf2744edfb2c3050a1b32a"), looks := false }, kinds := [], alts := [], laidByText := true, laidKinds := [.data, .data], laidTests := true, laidLooks := .later }
def TreePlaysCardSaid : Prop := Claim7.holds Tryz.pinned (.plain (OpenSpec.ofChange treePlaysSpec)) treePlaysCard

/-- THE TIED CARD OF 'twinlocklaw15.TreeMakes'. -/
def treeMakesCard : Claim7 := { stood := { row := treeMakesRow, standIns := [], harness := (true, "f8931eccb57cb17666cd6908a1225bff7da5dfc1eadf2744edfb2c3050a1b32a"), looks := false }, kinds := [], alts := [], laidByText := true, laidKinds := [.data, .data], laidTests := true, laidLooks := .later }
def TreeMakesCardSaid : Prop := Claim7.holds Tryz.pinned (.plain (OpenSpec.ofChange treeMakesSpec)) treeMakesCard

/-- THE TIED CARD OF 'twinlocklaw15.TreeRoots'. -/
def treeRootsCard : Claim7 := { stood := { row := treeRootsRow, standIns := [], harness := (true, "f8931eccb57cb17666cd6908a1225bff7da5dfc1eadf2744edfb2c3050a1b32a"), looks := false }, kinds := [], alts := [], laidByText := true, laidKinds := [.data, .data], laidTests := true, laidLooks := .later }
def TreeRootsCardSaid : Prop := Claim7.holds Tryz.pinned (.plain (OpenSpec.ofChange treeRootsSpec)) treeRootsCard

/-- THE SECOND FORM's CARD OF 'twinlocklaw16.WalkPlays'. -/
def walkPlaysUptoCard : Claim7 := { stood := { row := walkPlaysUptoRow, standIns := [], harness := (true, "f8931eccb57cb17666cd6908a1225bff7da5dfc1eadf2744edfb2c3050a1b32a"), looks := false }, kinds := [], alts := [], laidByText := true, laidKinds := [.data, .data], laidTests := true, laidLooks := .later }
def WalkPlaysUptoCardSaid : Prop := Claim7.holds Tryz.pinned (.plain (OpenSpec.upto walkPlaysSpec)) walkPlaysUptoCard

/-- THE SECOND FORM's CARD OF 'twinlocklaw16.WalkNobody'. -/
def walkNobodyUptoCard : Claim7 := { stood := { row := walkNobodyUptoRow, standIns := [], harness := (true, "f8931eccb57cb17666cd6908a1225bff7da5dfc1eadf2744edfb2c3050a1b32a"), looks := false }, kinds := [], alts := [], laidByText := true, laidKinds := [.data, .data], laidTests := true, laidLooks := .later }
def WalkNobodyUptoCardSaid : Prop := Claim7.holds Tryz.pinned (.plain (OpenSpec.upto walkNobodySpec)) walkNobodyUptoCard

/-- THE SECOND FORM's CARD OF 'twinlocklaw16.WalkLevel'. -/
def walkLevelUptoCard : Claim7 := { stood := { row := walkLevelUptoRow, standIns := [], harness := (true, "f8931eccb57cb17666cd6908a1225bff7da5dfc1eadf2744edfb2c3050a1b32a"), looks := false }, kinds := [], alts := [], laidByText := true, laidKinds := [.data, .data], laidTests := true, laidLooks := .later }
def WalkLevelUptoCardSaid : Prop := Claim7.holds Tryz.pinned (.plain (OpenSpec.upto walkLevelSpec)) walkLevelUptoCard

/-- THE SECOND FORM's CARD OF 'twinlocklaw16.WalkFew'. -/
def walkFewUptoCard : Claim7 := { stood := { row := walkFewUptoRow, standIns := [], harness := (true, "f8931eccb57cb17666cd6908a1225bff7da5dfc1eadf2744edfb2c3050a1b32a"), looks := false }, kinds := [], alts := [], laidByText := true, laidKinds := [.data, .data], laidTests := true, laidLooks := .later }
def WalkFewUptoCardSaid : Prop := Claim7.holds Tryz.pinned (.plain (OpenSpec.upto walkFewSpec)) walkFewUptoCard

/-- THE SECOND FORM's CARD OF 'twinlocklaw16.WalkQuiet'. -/
def walkQuietUptoCard : Claim7 := { stood := { row := walkQuietUptoRow, standIns := [], harness := (true, "f8931eccb57cb17666cd6908a1225bff7da5dfc1eadf2744edfb2c3050a1b32a"), looks := false }, kinds := [], alts := [], laidByText := true, laidKinds := [.data, .data], laidTests := true, laidLooks := .later }
def WalkQuietUptoCardSaid : Prop := Claim7.holds Tryz.pinned (.plain (OpenSpec.upto walkQuietSpec)) walkQuietUptoCard

/-- THE SECOND FORM's CARD OF 'twinlocklaw16.WalkKnown'. -/
def walkKnownUptoCard : Claim7 := { stood := { row := walkKnownUptoRow, standIns := [], harness := (true, "f8931eccb57cb17666cd6908a1225bff7da5dfc1eadf2744edfb2c3050a1b32a"), looks := false }, kinds := [], alts := [], laidByText := true, laidKinds := [.data, .data], laidTests := true, laidLooks := .later }
def WalkKnownUptoCardSaid : Prop := Claim7.holds Tryz.pinned (.plain (OpenSpec.upto walkKnownSpec)) walkKnownUptoCard

/-- THE SECOND FORM's CARD OF 'twinlocklaw15.TreePlays'. -/
def treePlaysUptoCard : Claim7 := { stood := { row := treePlaysUptoRow, standIns := [], harness := (true, "f8931eccb57cb17666cd6908a1225bff7da5dfc1eadf2744edfb2c3050a1b32a"), looks := false }, kinds := [], alts := [], laidByText := true, laidKinds := [.data, .data], laidTests := true, laidLooks := .later }
def TreePlaysUptoCardSaid : Prop := Claim7.holds Tryz.pinned (.plain (OpenSpec.upto treePlaysSpec)) treePlaysUptoCard

/-- THE SECOND FORM's CARD OF 'twinlocklaw15.TreeMakes'. -/
def treeMakesUptoCard : Claim7 := { stood := { row := treeMakesUptoRow, standIns := [], harness := (true, "f8931eccb57cb17666cd6908a1225bff7da5dfc1eadf2744edfb2c3050a1b32a"), looks := false }, kinds := [], alts := [], laidByText := true, laidKinds := [.data, .data], laidTests := true, laidLooks := .later }
def TreeMakesUptoCardSaid : Prop := Claim7.holds Tryz.pinned (.plain (OpenSpec.upto treeMakesSpec)) treeMakesUptoCard

/-- THE SECOND FORM's CARD OF 'twinlocklaw15.TreeRoots'. -/
def treeRootsUptoCard : Claim7 := { stood := { row := treeRootsUptoRow, standIns := [], harness := (true, "f8931eccb57cb17666cd6908a1225bff7da5dfc1eadf2744edfb2c3050a1b32a"), looks := false }, kinds := [], alts := [], laidByText := true, laidKinds := [.data, .data], laidTests := true, laidLooks := .later }
def TreeRootsUptoCardSaid : Prop := Claim7.holds Tryz.pinned (.plain (OpenSpec.upto treeRootsSpec)) treeRootsUptoCard
end Rows
end Go.Proofs.YtiehcplepneajaaGreatDoor
