/-
  DERIVED. GIVEN WITH THE SEED: THE CARDS: each row of YthhmnbpabncdnaaDoorRows.lean that lists a variable, with what it lists TIED to the program's text (the seventh form; the later family's looks); each row that meets fmt, with fmt's text TOLD by the authors' own Lean function (tested against real Go, not proved from fmt's source: count such statements apart). THE CARD IS WHAT COUNTS. Prove the row's statement (the work); the ties are given (YthhmnbpabncdnaaDoorTie.lean); close each card by the builder's one call (the guide's Derived/Test/ToyasCard.lean, 'card_holds'). Laid BY PROGRAM, IN A SANDBOX (cutbox-door.mjs). By AI agents, Wed Nov 11 2026. No macro, syntax, notation, axiom, sorry.
-/
import Derived.Test.YthhmnbpabncdnaaDoorRows
import GoSem.ClaimSeven
namespace Go.Proofs.YthhmnbpabncdnaaDoor
namespace Rows

/-- THE TIED CARD OF 'twinlocklaw14.BucketParts'. -/
def bucketPartsCard : Claim7 := { stood := { row := bucketPartsRow, standIns := [], harness := (true, "d95bf70dc21b0e144a2ade02fab6f915d74de279ed14133654bd71a730b94680"), looks := false }, kinds := [], alts := [], laidByText := true, laidKinds := [.data, .data], laidTests := true, laidLooks := .later }
def BucketPartsCardSaid : Prop := Claim7.holds Tryd.pinned (.plain (OpenSpec.ofChange bucketPartsSpec)) bucketPartsCard

/-- THE TIED CARD OF 'twinlocklaw14.BucketPages'. -/
def bucketPagesCard : Claim7 := { stood := { row := bucketPagesRow, standIns := [], harness := (true, "d95bf70dc21b0e144a2ade02fab6f915d74de279ed14133654bd71a730b94680"), looks := false }, kinds := [], alts := [], laidByText := true, laidKinds := [.data, .data], laidTests := true, laidLooks := .later }
def BucketPagesCardSaid : Prop := Claim7.holds Tryd.pinned (.plain (OpenSpec.ofChange bucketPagesSpec)) bucketPagesCard

/-- THE TIED CARD OF 'twinlocklaw14.BucketReads'. -/
def bucketReadsCard : Claim7 := { stood := { row := bucketReadsRow, standIns := [], harness := (true, "d95bf70dc21b0e144a2ade02fab6f915d74de279ed14133654bd71a730b94680"), looks := false }, kinds := [], alts := [], laidByText := true, laidKinds := [.data, .data], laidTests := true, laidLooks := .later }
def BucketReadsCardSaid : Prop := Claim7.holds Tryd.pinned (.plain (OpenSpec.ofChange bucketReadsSpec)) bucketReadsCard

/-- THE TIED CARD OF 'twinlocklaw14.BucketWhole'. -/
def bucketWholeCard : Claim7 := { stood := { row := bucketWholeRow, standIns := [], harness := (true, "d95bf70dc21b0e144a2ade02fab6f915d74de279ed14133654bd71a730b94680"), looks := false }, kinds := [], alts := [], laidByText := true, laidKinds := [.data, .data], laidTests := true, laidLooks := .later }
def BucketWholeCardSaid : Prop := Claim7.holds Tryd.pinned (.plain (OpenSpec.ofChange bucketWholeSpec)) bucketWholeCard

/-- THE TIED CARD OF 'twinlocklaw14.BucketOnly'. -/
def bucketOnlyCard : Claim7 := { stood := { row := bucketOnlyRow, standIns := [], harness := (true, "d95bf70dc21b0e144a2ade02fab6f915d74de279ed14133654bd71a730b94680"), looks := false }, kinds := [], alts := [], laidByText := true, laidKinds := [.data, .data], laidTests := true, laidLooks := .later }
def BucketOnlyCardSaid : Prop := Claim7.holds Tryd.pinned (.plain (OpenSpec.ofChange bucketOnlySpec)) bucketOnlyCard

/-- THE TIED CARD OF 'twinlocklaw14.BucketHash'. -/
def bucketHashCard : Claim7 := { stood := { row := bucketHashRow, standIns := [], harness := (true, "d95bf70dc21b0e144a2ade02fab6f915d74de279ed14133654bd71a730b94680"), looks := false }, kinds := [], alts := [], laidByText := true, laidKinds := [.data, .data], laidTests := true, laidLooks := .later }
def BucketHashCardSaid : Prop := Claim7.holds Tryd.pinned (.plain (OpenSpec.ofChange bucketHashSpec)) bucketHashCard

/-- THE TIED CARD OF 'twinlocklaw14.BucketCut'. -/
def bucketCutCard : Claim7 := { stood := { row := bucketCutRow, standIns := [], harness := (true, "d95bf70dc21b0e144a2ade02fab6f915d74de279ed14133654bd71a730b94680"), looks := false }, kinds := [], alts := [], laidByText := true, laidKinds := [.data, .data], laidTests := true, laidLooks := .later }
def BucketCutCardSaid : Prop := Claim7.holds Tryd.pinned (.plain (OpenSpec.ofChange bucketCutSpec)) bucketCutCard

/-- THE TIED CARD OF 'twinlocklaw14.BucketKnown'. -/
def bucketKnownCard : Claim7 := { stood := { row := bucketKnownRow, standIns := [], harness := (true, "d95bf70dc21b0e144a2ade02fab6f915d74de279ed14133654bd71a730b94680"), looks := false }, kinds := [], alts := [], laidByText := true, laidKinds := [.data, .data], laidTests := true, laidLooks := .later }
def BucketKnownCardSaid : Prop := Claim7.holds Tryd.pinned (.plain (OpenSpec.ofChange bucketKnownSpec)) bucketKnownCard

/-- THE SECOND FORM's CARD OF 'twinlocklaw14.BucketParts'. -/
def bucketPartsUptoCard : Claim7 := { stood := { row := bucketPartsUptoRow, standIns := [], harness := (true, "d95bf70dc21b0e144a2ade02fab6f915d74de279ed14133654bd71a730b94680"), looks := false }, kinds := [], alts := [], laidByText := true, laidKinds := [.data, .data], laidTests := true, laidLooks := .later }
def BucketPartsUptoCardSaid : Prop := Claim7.holds Tryd.pinned (.plain (OpenSpec.upto bucketPartsSpec)) bucketPartsUptoCard

/-- THE SECOND FORM's CARD OF 'twinlocklaw14.BucketPages'. -/
def bucketPagesUptoCard : Claim7 := { stood := { row := bucketPagesUptoRow, standIns := [], harness := (true, "d95bf70dc21b0e144a2ade02fab6f915d74de279ed14133654bd71a730b94680"), looks := false }, kinds := [], alts := [], laidByText := true, laidKinds := [.data, .data], laidTests := true, laidLooks := .later }
def BucketPagesUptoCardSaid : Prop := Claim7.holds Tryd.pinned (.plain (OpenSpec.upto bucketPagesSpec)) bucketPagesUptoCard

/-- THE SECOND FORM's CARD OF 'twinlocklaw14.BucketReads'. -/
def bucketReadsUptoCard : Claim7 := { stood := { row := bucketReadsUptoRow, standIns := [], harness := (true, "d95bf70dc21b0e144a2ade02fab6f915d74de279ed14133654bd71a730b94680"), looks := false }, kinds := [], alts := [], laidByText := true, laidKinds := [.data, .data], laidTests := true, laidLooks := .later }
def BucketReadsUptoCardSaid : Prop := Claim7.holds Tryd.pinned (.plain (OpenSpec.upto bucketReadsSpec)) bucketReadsUptoCard

/-- THE SECOND FORM's CARD OF 'twinlocklaw14.BucketWhole'. -/
def bucketWholeUptoCard : Claim7 := { stood := { row := bucketWholeUptoRow, standIns := [], harness := (true, "d95bf70dc21b0e144a2ade02fab6f915d74de279ed14133654bd71a730b94680"), looks := false }, kinds := [], alts := [], laidByText := true, laidKinds := [.data, .data], laidTests := true, laidLooks := .later }
def BucketWholeUptoCardSaid : Prop := Claim7.holds Tryd.pinned (.plain (OpenSpec.upto bucketWholeSpec)) bucketWholeUptoCard

/-- THE SECOND FORM's CARD OF 'twinlocklaw14.BucketOnly'. -/
def bucketOnlyUptoCard : Claim7 := { stood := { row := bucketOnlyUptoRow, standIns := [], harness := (true, "d95bf70dc21b0e144a2ade02fab6f915d74de279ed14133654bd71a730b94680"), looks := false }, kinds := [], alts := [], laidByText := true, laidKinds := [.data, .data], laidTests := true, laidLooks := .later }
def BucketOnlyUptoCardSaid : Prop := Claim7.holds Tryd.pinned (.plain (OpenSpec.upto bucketOnlySpec)) bucketOnlyUptoCard

/-- THE SECOND FORM's CARD OF 'twinlocklaw14.BucketHash'. -/
def bucketHashUptoCard : Claim7 := { stood := { row := bucketHashUptoRow, standIns := [], harness := (true, "d95bf70dc21b0e144a2ade02fab6f915d74de279ed14133654bd71a730b94680"), looks := false }, kinds := [], alts := [], laidByText := true, laidKinds := [.data, .data], laidTests := true, laidLooks := .later }
def BucketHashUptoCardSaid : Prop := Claim7.holds Tryd.pinned (.plain (OpenSpec.upto bucketHashSpec)) bucketHashUptoCard

/-- THE SECOND FORM's CARD OF 'twinlocklaw14.BucketCut'. -/
def bucketCutUptoCard : Claim7 := { stood := { row := bucketCutUptoRow, standIns := [], harness := (true, "d95bf70dc21b0e144a2ade02fab6f915d74de279ed14133654bd71a730b94680"), looks := false }, kinds := [], alts := [], laidByText := true, laidKinds := [.data, .data], laidTests := true, laidLooks := .later }
def BucketCutUptoCardSaid : Prop := Claim7.holds Tryd.pinned (.plain (OpenSpec.upto bucketCutSpec)) bucketCutUptoCard

/-- THE SECOND FORM's CARD OF 'twinlocklaw14.BucketKnown'. -/
def bucketKnownUptoCard : Claim7 := { stood := { row := bucketKnownUptoRow, standIns := [], harness := (true, "d95bf70dc21b0e144a2ade02fab6f915d74de279ed14133654bd71a730b94680"), looks := false }, kinds := [], alts := [], laidByText := true, laidKinds := [.data, .data], laidTests := true, laidLooks := .later }
def BucketKnownUptoCardSaid : Prop := Claim7.holds Tryd.pinned (.plain (OpenSpec.upto bucketKnownSpec)) bucketKnownUptoCard
end Rows
end Go.Proofs.YthhmnbpabncdnaaDoor
