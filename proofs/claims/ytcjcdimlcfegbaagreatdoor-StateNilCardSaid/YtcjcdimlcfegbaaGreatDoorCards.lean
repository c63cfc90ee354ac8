/-
  DERIVED. GIVEN WITH THE SEED: THE CARDS: each row of YtcjcdimlcfegbaaGreatDoorRows.lean that lists a variable, with what it lists TIED to the program's text (the seventh form; the later family's looks); each row that meets fmt, with fmt's text TOLD by the authors' own Lean function (tested against real Go, not proved from fmt's source: count such statements apart). THE CARD IS WHAT COUNTS. Prove the row's statement (the work); the ties are given (YtcjcdimlcfegbaaGreatDoorTie.lean); close each card by the builder's one call (the guide's Derived/Test/ToyasCard.lean, 'card_holds'). Laid BY PROGRAM, IN A SANDBOX (cutbox-door.mjs). By AI agents, Wed Nov 11 2026. No macro, syntax, notation, axiom, sorry.
-/
import Derived.Test.YtcjcdimlcfegbaaGreatDoorRows
import GoSem.ClaimSeven
namespace Go.Proofs.YtcjcdimlcfegbaaGreatDoor
namespace Rows

/-- THE TIED CARD OF 'ostiarylaw28.StateApplies'. -/
def stateAppliesCard : Claim7 := { stood := { row := stateAppliesRow, standIns := [], harness := (true, "80c60973e2d87bba919be6311a1fdb00ef92ad135932a4e301fb81296f7f2294"), looks := false }, kinds := [], alts := [], laidByText := true, laidKinds := [.data], laidTests := true, laidLooks := .later }
def StateAppliesCardSaid : Prop := Claim7.holds Tryz.pinned (.plain (OpenSpec.ofChange stateAppliesSpec)) stateAppliesCard

/-- THE TIED CARD OF 'ostiarylaw28.StateSnaps'. -/
def stateSnapsCard : Claim7 := { stood := { row := stateSnapsRow, standIns := [], harness := (true, "80c60973e2d87bba919be6311a1fdb00ef92ad135932a4e301fb81296f7f2294"), looks := false }, kinds := [], alts := [], laidByText := true, laidKinds := [.data], laidTests := true, laidLooks := .later }
def StateSnapsCardSaid : Prop := Claim7.holds Tryz.pinned (.plain (OpenSpec.ofChange stateSnapsSpec)) stateSnapsCard

/-- THE TIED CARD OF 'ostiarylaw28.StateSame'. -/
def stateSameCard : Claim7 := { stood := { row := stateSameRow, standIns := [], harness := (true, "80c60973e2d87bba919be6311a1fdb00ef92ad135932a4e301fb81296f7f2294"), looks := false }, kinds := [], alts := [], laidByText := true, laidKinds := [.data], laidTests := true, laidLooks := .later }
def StateSameCardSaid : Prop := Claim7.holds Tryz.pinned (.plain (OpenSpec.ofChange stateSameSpec)) stateSameCard

/-- THE TIED CARD OF 'ostiarylaw28.StateNil'. -/
def stateNilCard : Claim7 := { stood := { row := stateNilRow, standIns := [], harness := (true, "80c60973e2d87bba919be6311a1fdb00ef92ad135932a4e301fb81296f7f2294"), looks := false }, kinds := [], alts := [], laidByText := true, laidKinds := [.data], laidTests := true, laidLooks := .later }
def StateNilCardSaid : Prop := Claim7.holds Tryz.pinned (.plain (OpenSpec.ofChange stateNilSpec)) stateNilCard

/-- THE SECOND FORM's CARD OF 'ostiarylaw28.StateApplies'. -/
def stateAppliesUptoCard : Claim7 := { stood := { row := stateAppliesUptoRow, standIns := [], harness := (true, "80c60973e2d87bba919be6311a1fdb00ef92ad135932a4e301fb81296f7f2294"), looks := false }, kinds := [], alts := [], laidByText := true, laidKinds := [.data], laidTests := true, laidLooks := .later }
def StateAppliesUptoCardSaid : Prop := Claim7.holds Tryz.pinned (.plain (OpenSpec.upto stateAppliesSpec)) stateAppliesUptoCard

/-- THE SECOND FORM's CARD OF 'ostiarylaw28.StateSnaps'. -/
def stateSnapsUptoCard : Claim7 := { stood := { row := stateSnapsUptoRow, standIns := [], harness := (true, "80c60973e2d87bba919be6311a1fdb00ef92ad135932a4e301fb81296f7f2294"), looks := false }, kinds := [], alts := [], laidByText := true, laidKinds := [.data], laidTests := true, laidLooks := .later }
def StateSnapsUptoCardSaid : Prop := Claim7.holds Tryz.pinned (.plain (OpenSpec.upto stateSnapsSpec)) stateSnapsUptoCard

/-- THE SECOND FORM's CARD OF 'ostiarylaw28.StateSame'. -/
def stateSameUptoCard : Claim7 := { stood := { row := stateSameUptoRow, standIns := [], harness := (true, "80c60973e2d87bba919be6311a1fdb00ef92ad135932a4e301fb81296f7f2294"), looks := false }, kinds := [], alts := [], laidByText := true, laidKinds := [.data], laidTests := true, laidLooks := .later }
def StateSameUptoCardSaid : Prop := Claim7.holds Tryz.pinned (.plain (OpenSpec.upto stateSameSpec)) stateSameUptoCard

/-- THE SECOND FORM's CARD OF 'ostiarylaw28.StateNil'. -/
def stateNilUptoCard : Claim7 := { stood := { row := stateNilUptoRow, standIns := [], harness := (true, "80c60973e2d87bba919be6311a1fdb00ef92ad135932a4e301fb81296f7f2294"), looks := false }, kinds := [], alts := [], laidByText := true, laidKinds := [.data], laidTests := true, laidLooks := .later }
def StateNilUptoCardSaid : Prop := Claim7.holds Tryz.pinned (.plain (OpenSpec.upto stateNilSpec)) stateNilUptoCard
end Rows
end Go.Proofs.YtcjcdimlcfegbaaGreatDoor
