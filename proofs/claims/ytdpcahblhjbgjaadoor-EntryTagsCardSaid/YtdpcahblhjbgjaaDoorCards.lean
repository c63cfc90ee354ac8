/-
  DERIVED. GIVEN WITH THE SEED: THE CARDS: each row of YtdpcahblhjbgjaaDoorRows.lean that lists a variable, with what it lists TIED to the program's text (the seventh form; the later family's looks); each row that meets fmt, with fmt's text TOLD by the authors' own Lean function (tested against real Go, not proved from fmt's source: count such statements apart). THE CARD IS WHAT COUNTS. Prove the row's statement (the work); the ties are given (YtdpcahblhjbgjaaDoorTie.lean); close each card by the builder's one call (the guide's Derived/Test/ToyasCard.lean, 'card_holds'). Laid BY PROGRAM, IN A SANDBOX (cutbox-door.mjs). By AI agents, Wed Nov 11 2026. No macro, syntax, notation, axiom, sorry.
-/
import Derived.Test.YtdpcahblhjbgjaaDoorRows
import GoSem.ClaimSeven
namespace Go.Proofs.YtdpcahblhjbgjaaDoor
namespace Rows

/-- THE TIED CARD OF 'ostiarylaw17.EntryPlays'. -/
def entryPlaysCard : Claim7 := { stood := { row := entryPlaysRow, standIns := [], harness := (true, "0cb13a17c4183f8166191c4d46081d084d8c4c24282095e96fe3be483232f561"), looks := false }, kinds := [], alts := [], laidByText := true, laidKinds := [.data, .data, .data], laidTests := true, laidLooks := .later }
def EntryPlaysCardSaid : Prop := Claim7.holds Tryd.pinned (.plain (OpenSpec.ofChange entryPlaysSpec)) entryPlaysCard

/-- THE TIED CARD OF 'ostiarylaw17.EntryTags'. -/
def entryTagsCard : Claim7 := { stood := { row := entryTagsRow, standIns := [], harness := (true, "0cb13a17c4183f8166191c4d46081d084d8c4c24282095e96fe3be483232f561"), looks := false }, kinds := [], alts := [], laidByText := true, laidKinds := [.data, .data, .data], laidTests := true, laidLooks := .later }
def EntryTagsCardSaid : Prop := Claim7.holds Tryd.pinned (.plain (OpenSpec.ofChange entryTagsSpec)) entryTagsCard

/-- THE TIED CARD OF 'ostiarylaw17.EntryOne'. -/
def entryOneCard : Claim7 := { stood := { row := entryOneRow, standIns := [], harness := (true, "0cb13a17c4183f8166191c4d46081d084d8c4c24282095e96fe3be483232f561"), looks := false }, kinds := [], alts := [], laidByText := true, laidKinds := [.data, .data, .data], laidTests := true, laidLooks := .later }
def EntryOneCardSaid : Prop := Claim7.holds Tryd.pinned (.plain (OpenSpec.ofChange entryOneSpec)) entryOneCard

/-- THE TIED CARD OF 'ostiarylaw17.EntryNil'. -/
def entryNilCard : Claim7 := { stood := { row := entryNilRow, standIns := [], harness := (true, "0cb13a17c4183f8166191c4d46081d084d8c4c24282095e96fe3be483232f561"), looks := false }, kinds := [], alts := [], laidByText := true, laidKinds := [.data, .data, .data], laidTests := true, laidLooks := .later }
def EntryNilCardSaid : Prop := Claim7.holds Tryd.pinned (.plain (OpenSpec.ofChange entryNilSpec)) entryNilCard

/-- THE TIED CARD OF 'ostiarylaw17.EntryOver'. -/
def entryOverCard : Claim7 := { stood := { row := entryOverRow, standIns := [], harness := (true, "0cb13a17c4183f8166191c4d46081d084d8c4c24282095e96fe3be483232f561"), looks := false }, kinds := [], alts := [], laidByText := true, laidKinds := [.data, .data, .data], laidTests := true, laidLooks := .later }
def EntryOverCardSaid : Prop := Claim7.holds Tryd.pinned (.plain (OpenSpec.ofChange entryOverSpec)) entryOverCard

/-- THE SECOND FORM's CARD OF 'ostiarylaw17.EntryPlays'. -/
def entryPlaysUptoCard : Claim7 := { stood := { row := entryPlaysUptoRow, standIns := [], harness := (true, "0cb13a17c4183f8166191c4d46081d084d8c4c24282095e96fe3be483232f561"), looks := false }, kinds := [], alts := [], laidByText := true, laidKinds := [.data, .data, .data], laidTests := true, laidLooks := .later }
def EntryPlaysUptoCardSaid : Prop := Claim7.holds Tryd.pinned (.plain (OpenSpec.upto entryPlaysSpec)) entryPlaysUptoCard

/-- THE SECOND FORM's CARD OF 'ostiarylaw17.EntryTags'. -/
def entryTagsUptoCard : Claim7 := { stood := { row := entryTagsUptoRow, standIns := [], harness := (true, "0cb13a17c4183f8166191c4d46081d084d8c4c24282095e96fe3be483232f561"), looks := false }, kinds := [], alts := [], laidByText := true, laidKinds := [.data, .data, .data], laidTests := true, laidLooks := .later }
def EntryTagsUptoCardSaid : Prop := Claim7.holds Tryd.pinned (.plain (OpenSpec.upto entryTagsSpec)) entryTagsUptoCard

/-- THE SECOND FORM's CARD OF 'ostiarylaw17.EntryOne'. -/
def entryOneUptoCard : Claim7 := { stood := { row := entryOneUptoRow, standIns := [], harness := (true, "0cb13a17c4183f8166191c4d46081d084d8c4c24282095e96fe3be483232f561"), looks := false }, kinds := [], alts := [], laidByText := true, laidKinds := [.data, .data, .data], laidTests := true, laidLooks := .later }
def EntryOneUptoCardSaid : Prop := Claim7.holds Tryd.pinned (.plain (OpenSpec.upto entryOneSpec)) entryOneUptoCard

/-- THE SECOND FORM's CARD OF 'ostiarylaw17.EntryNil'. -/
def entryNilUptoCard : Claim7 := { stood := { row := entryNilUptoRow, standIns := [], harness := (true, "0cb13a17c4183f8166191c4d46081d084d8c4c24282095e96fe3be483232f561"), looks := false }, kinds := [], alts := [], laidByText := true, laidKinds := [.data, .data, .data], laidTests := true, laidLooks := .later }
def EntryNilUptoCardSaid : Prop := Claim7.holds Tryd.pinned (.plain (OpenSpec.upto entryNilSpec)) entryNilUptoCard

/-- THE SECOND FORM's CARD OF 'ostiarylaw17.EntryOver'. -/
def entryOverUptoCard : Claim7 := { stood := { row := entryOverUptoRow, standIns := [], harness := (true, "0cb13a17c4183f8166191c4d46081d084d8c4c24282095e96fe3be483232f561"), looks := false }, kinds := [], alts := [], laidByText := true, laidKinds := [.data, .data, .data], laidTests := true, laidLooks := .later }
def EntryOverUptoCardSaid : Prop := Claim7.holds Tryd.pinned (.plain (OpenSpec.upto entryOverSpec)) entryOverUptoCard
end Rows
end Go.Proofs.YtdpcahblhjbgjaaDoor
