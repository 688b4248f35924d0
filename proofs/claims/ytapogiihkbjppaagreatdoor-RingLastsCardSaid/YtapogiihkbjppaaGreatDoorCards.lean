/-
  DERIVED. GIVEN WITH THE SEED: THE CARDS: each row of YtapogiihkbjppaaGreatDoorRows.lean that lists a variable, with what it lists TIED to the program's text (the seventh form; the later family's looks); each row that meets fmt, with fmt's text TOLD by the authors' own Lean function (tested against real Go, not proved from fmt's source: count such statements apart). THE CARD IS WHAT COUNTS. Prove the row's statement (the work); the ties are given (YtapogiihkbjppaaGreatDoorTie.lean); close each card by the builder's one call (the guide's Derived/Test/ToyasCard.lean, 'card_holds'). Laid BY PROGRAM, IN A SANDBOX (cutbox-door.mjs). By AI agents, Wed Nov 11 2026. No macro, syntax, notation, axiom, sorry.
-/
import Derived.Test.YtapogiihkbjppaaGreatDoorRows
import GoSem.ClaimSeven
namespace Go.Proofs.YtapogiihkbjppaaGreatDoor
namespace Rows

/-- THE TIED CARD OF 'twinlocklaw06.RingKnown'. -/
def ringKnownCard : Claim7 := { stood := { row := ringKnownRow, standIns := [], harness := (true, "392f71f407e2e20f3a98f910072e8de5b7e6cf7ce8953fcc9f20d7f2229e8e34"), looks := false }, kinds := [], alts := [], laidByText := true, laidKinds := [.data, .data], laidTests := true, laidLooks := .later }
def RingKnownCardSaid : Prop := Claim7.holds Tryz.pinned (.plain (OpenSpec.ofChange ringKnownSpec)) ringKnownCard

/-- THE TIED CARD OF 'twinlocklaw06.RingPlays'. -/
def ringPlaysCard : Claim7 := { stood := { row := ringPlaysRow, standIns := [], harness := (true, "392f71f407e2e20f3a98f910072e8de5b7e6cf7ce8953fcc9f20d7f2229e8e34"), looks := false }, kinds := [], alts := [], laidByText := true, laidKinds := [.data, .data], laidTests := true, laidLooks := .later }
def RingPlaysCardSaid : Prop := Claim7.holds Tryz.pinned (.plain (OpenSpec.ofChange ringPlaysSpec)) ringPlaysCard

/-- THE TIED CARD OF 'twinlocklaw06.RingKeys'. -/
def ringKeysCard : Claim7 := { stood := { row := ringKeysRow, standIns := [], harness := (true, "392f71f407e2e20f3a98f910072e8de5b7e6cf7ce8953fcc9f20d7f2229e8e34"), looks := false }, kinds := [], alts := [], laidByText := true, laidKinds := [.data, .data], laidTests := true, laidLooks := .later }
def RingKeysCardSaid : Prop := Claim7.holds Tryz.pinned (.plain (OpenSpec.ofChange ringKeysSpec)) ringKeysCard

/-- THE TIED CARD OF 'twinlocklaw06.RingNobody'. -/
def ringNobodyCard : Claim7 := { stood := { row := ringNobodyRow, standIns := [], harness := (true, "392f71f407e2e20f3a98f910072e8de5b7e6cf7ce8953fcc9f20d7f2229e8e34"), looks := false }, kinds := [], alts := [], laidByText := true, laidKinds := [.data, .data], laidTests := true, laidLooks := .later }
def RingNobodyCardSaid : Prop := Claim7.holds Tryz.pinned (.plain (OpenSpec.ofChange ringNobodySpec)) ringNobodyCard

/-- THE TIED CARD OF 'twinlocklaw06.RingLasts'. -/
def ringLastsCard : Claim7 := { stood := { row := ringLastsRow, standIns := [], harness := (true, "392f71f407e2e20f3a98f910072e8de5b7e6cf7ce8953fcc9f20d7f2229e8e34"), looks := false }, kinds := [], alts := [], laidByText := true, laidKinds := [.data, .data], laidTests := true, laidLooks := .later }
def RingLastsCardSaid : Prop := Claim7.holds Tryz.pinned (.plain (OpenSpec.ofChange ringLastsSpec)) ringLastsCard

/-- THE TIED CARD OF 'twinlocklaw06.RingCounts'. -/
def ringCountsCard : Claim7 := { stood := { row := ringCountsRow, standIns := [], harness := (true, "392f71f407e2e20f3a98f910072e8de5b7e6cf7ce8953fcc9f20d7f2229e8e34"), looks := false }, kinds := [], alts := [], laidByText := true, laidKinds := [.data, .data], laidTests := true, laidLooks := .later }
def RingCountsCardSaid : Prop := Claim7.holds Tryz.pinned (.plain (OpenSpec.ofChange ringCountsSpec)) ringCountsCard

/-- THE TIED CARD OF 'twinlocklaw06.RingOver'. -/
def ringOverCard : Claim7 := { stood := { row := ringOverRow, standIns := [], harness := (true, "392f71f407e2e20f3a98f910072e8de5b7e6cf7ce8953fcc9f20d7f2229e8e34"), looks := false }, kinds := [], alts := [], laidByText := true, laidKinds := [.data, .data], laidTests := true, laidLooks := .later }
def RingOverCardSaid : Prop := Claim7.holds Tryz.pinned (.plain (OpenSpec.ofChange ringOverSpec)) ringOverCard

/-- THE SECOND FORM's CARD OF 'twinlocklaw06.RingKnown'. -/
def ringKnownUptoCard : Claim7 := { stood := { row := ringKnownUptoRow, standIns := [], harness := (true, "392f71f407e2e20f3a98f910072e8de5b7e6cf7ce8953fcc9f20d7f2229e8e34"), looks := false }, kinds := [], alts := [], laidByText := true, laidKinds := [.data, .data], laidTests := true, laidLooks := .later }
def RingKnownUptoCardSaid : Prop := Claim7.holds Tryz.pinned (.plain (OpenSpec.upto ringKnownSpec)) ringKnownUptoCard

/-- THE SECOND FORM's CARD OF 'twinlocklaw06.RingPlays'. -/
def ringPlaysUptoCard : Claim7 := { stood := { row := ringPlaysUptoRow, standIns := [], harness := (true, "392f71f407e2e20f3a98f910072e8de5b7e6cf7ce8953fcc9f20d7f2229e8e34"), looks := false }, kinds := [], alts := [], laidByText := true, laidKinds := [.data, .data], laidTests := true, laidLooks := .later }
def RingPlaysUptoCardSaid : Prop := Claim7.holds Tryz.pinned (.plain (OpenSpec.upto ringPlaysSpec)) ringPlaysUptoCard

/-- THE SECOND FORM's CARD OF 'twinlocklaw06.RingKeys'. -/
def ringKeysUptoCard : Claim7 := { stood := { row := ringKeysUptoRow, standIns := [], harness := (true, "392f71f407e2e20f3a98f910072e8de5b7e6cf7ce8953fcc9f20d7f2229e8e34"), looks := false }, kinds := [], alts := [], laidByText := true, laidKinds := [.data, .data], laidTests := true, laidLooks := .later }
def RingKeysUptoCardSaid : Prop := Claim7.holds Tryz.pinned (.plain (OpenSpec.upto ringKeysSpec)) ringKeysUptoCard

/-- THE SECOND FORM's CARD OF 'twinlocklaw06.RingNobody'. -/
def ringNobodyUptoCard : Claim7 := { stood := { row := ringNobodyUptoRow, standIns := [], harness := (true, "392f71f407e2e20f3a98f910072e8de5b7e6cf7ce8953fcc9f20d7f2229e8e34"), looks := false }, kinds := [], alts := [], laidByText := true, laidKinds := [.data, .data], laidTests := true, laidLooks := .later }
def RingNobodyUptoCardSaid : Prop := Claim7.holds Tryz.pinned (.plain (OpenSpec.upto ringNobodySpec)) ringNobodyUptoCard

/-- THE SECOND FORM's CARD OF 'twinlocklaw06.RingLasts'. -/
def ringLastsUptoCard : Claim7 := { stood := { row := ringLastsUptoRow, standIns := [], harness := (true, "392f71f407e2e20f3a98f910072e8de5b7e6cf7ce8953fcc9f20d7f2229e8e34"), looks := false }, kinds := [], alts := [], laidByText := true, laidKinds := [.data, .data], laidTests := true, laidLooks := .later }
def RingLastsUptoCardSaid : Prop := Claim7.holds Tryz.pinned (.plain (OpenSpec.upto ringLastsSpec)) ringLastsUptoCard

/-- THE SECOND FORM's CARD OF 'twinlocklaw06.RingCounts'. -/
def ringCountsUptoCard : Claim7 := { stood := { row := ringCountsUptoRow, standIns := [], harness := (true, "392f71f407e2e20f3a98f910072e8de5b7e6cf7ce8953fcc9f20d7f2229e8e34"), looks := false }, kinds := [], alts := [], laidByText := true, laidKinds := [.data, .data], laidTests := true, laidLooks := .later }
def RingCountsUptoCardSaid : Prop := Claim7.holds Tryz.pinned (.plain (OpenSpec.upto ringCountsSpec)) ringCountsUptoCard

/-- THE SECOND FORM's CARD OF 'twinlocklaw06.RingOver'. -/
def ringOverUptoCard : Claim7 := { stood := { row := ringOverUptoRow, standIns := [], harness := (true, "392f71f407e2e20f3a98f910072e8de5b7e6cf7ce8953fcc9f20d7f2229e8e34"), looks := false }, kinds := [], alts := [], laidByText := true, laidKinds := [.data, .data], laidTests := true, laidLooks := .later }
def RingOverUptoCardSaid : Prop := Claim7.holds Tryz.pinned (.plain (OpenSpec.upto ringOverSpec)) ringOverUptoCard
end Rows
end Go.Proofs.YtapogiihkbjppaaGreatDoor
