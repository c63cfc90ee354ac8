/-
  DERIVED. GIVEN WITH THE SEED: THE CARDS: each row of YtlfigaddddncmaaDoorRows.lean that lists a variable, with what it lists TIED to the program's text (the seventh form; the later family's looks); each row that meets fmt, with fmt's text TOLD by the authors' own Lean function (tested against real Go, not proved from fmt's source: count such statements apart). THE CARD IS WHAT COUNTS. Prove the row's statement (the work); the ties are given (YtlfigaddddncmaaDoorTie.lean); close each card by the builder's one call (the guide's Derived/Test/ToyasCard.lean, 'card_holds'). Laid BY PROGRAM, IN A SANDBOX (cutbox-door.mjs). By AI agents, Wed Nov 11 2026. No macro, syntax, notation, axiom, sorry.
-/
import Derived.Test.YtlfigaddddncmaaDoorRows
import GoSem.ClaimSeven
namespace Go.Proofs.YtlfigaddddncmaaDoor
namespace Rows

/-- THE TIED CARD OF 'ostiarylaw06.FlowOf'. -/
def flowOfCard : Claim7 := { stood := { row := flowOfRow, standIns := [], harness := (true, "3e80d856ecb35de9ff55e898676f554b217024c386b168c1307c98cfb7295370"), looks := false }, kinds := [], alts := [], laidByText := true, laidKinds := [.data, .data, .data, .data], laidTests := true, laidLooks := .later }
def FlowOfCardSaid : Prop := Claim7.holds Tryd.pinned (.plain (OpenSpec.ofChange flowOfSpec)) flowOfCard

/-- THE TIED CARD OF 'ostiarylaw06.FlowBack'. -/
def flowBackCard : Claim7 := { stood := { row := flowBackRow, standIns := [], harness := (true, "3e80d856ecb35de9ff55e898676f554b217024c386b168c1307c98cfb7295370"), looks := false }, kinds := [], alts := [], laidByText := true, laidKinds := [.data, .data, .data, .data], laidTests := true, laidLooks := .later }
def FlowBackCardSaid : Prop := Claim7.holds Tryd.pinned (.plain (OpenSpec.ofChange flowBackSpec)) flowBackCard

/-- THE TIED CARD OF 'ostiarylaw06.FlowBytes'. -/
def flowBytesCard : Claim7 := { stood := { row := flowBytesRow, standIns := [], harness := (true, "3e80d856ecb35de9ff55e898676f554b217024c386b168c1307c98cfb7295370"), looks := false }, kinds := [], alts := [], laidByText := true, laidKinds := [.data, .data, .data, .data], laidTests := true, laidLooks := .later }
def FlowBytesCardSaid : Prop := Claim7.holds Tryd.pinned (.plain (OpenSpec.ofChange flowBytesSpec)) flowBytesCard

/-- THE TIED CARD OF 'ostiarylaw06.FlowReads'. -/
def flowReadsCard : Claim7 := { stood := { row := flowReadsRow, standIns := [], harness := (true, "3e80d856ecb35de9ff55e898676f554b217024c386b168c1307c98cfb7295370"), looks := false }, kinds := [], alts := [], laidByText := true, laidKinds := [.data, .data, .data, .data], laidTests := true, laidLooks := .later }
def FlowReadsCardSaid : Prop := Claim7.holds Tryd.pinned (.plain (OpenSpec.ofChange flowReadsSpec)) flowReadsCard

/-- THE TIED CARD OF 'ostiarylaw06.FlowOrder'. -/
def flowOrderCard : Claim7 := { stood := { row := flowOrderRow, standIns := [], harness := (true, "3e80d856ecb35de9ff55e898676f554b217024c386b168c1307c98cfb7295370"), looks := false }, kinds := [], alts := [], laidByText := true, laidKinds := [.data, .data, .data, .data], laidTests := true, laidLooks := .later }
def FlowOrderCardSaid : Prop := Claim7.holds Tryd.pinned (.plain (OpenSpec.ofChange flowOrderSpec)) flowOrderCard

/-- THE SECOND FORM's CARD OF 'ostiarylaw06.FlowOf'. -/
def flowOfUptoCard : Claim7 := { stood := { row := flowOfUptoRow, standIns := [], harness := (true, "3e80d856ecb35de9ff55e898676f554b217024c386b168c1307c98cfb7295370"), looks := false }, kinds := [], alts := [], laidByText := true, laidKinds := [.data, .data, .data, .data], laidTests := true, laidLooks := .later }
def FlowOfUptoCardSaid : Prop := Claim7.holds Tryd.pinned (.plain (OpenSpec.upto flowOfSpec)) flowOfUptoCard

/-- THE SECOND FORM's CARD OF 'ostiarylaw06.FlowBack'. -/
def flowBackUptoCard : Claim7 := { stood := { row := flowBackUptoRow, standIns := [], harness := (true, "3e80d856ecb35de9ff55e898676f554b217024c386b168c1307c98cfb7295370"), looks := false }, kinds := [], alts := [], laidByText := true, laidKinds := [.data, .data, .data, .data], laidTests := true, laidLooks := .later }
def FlowBackUptoCardSaid : Prop := Claim7.holds Tryd.pinned (.plain (OpenSpec.upto flowBackSpec)) flowBackUptoCard

/-- THE SECOND FORM's CARD OF 'ostiarylaw06.FlowBytes'. -/
def flowBytesUptoCard : Claim7 := { stood := { row := flowBytesUptoRow, standIns := [], harness := (true, "3e80d856ecb35de9ff55e898676f554b217024c386b168c1307c98cfb7295370"), looks := false }, kinds := [], alts := [], laidByText := true, laidKinds := [.data, .data, .data, .data], laidTests := true, laidLooks := .later }
def FlowBytesUptoCardSaid : Prop := Claim7.holds Tryd.pinned (.plain (OpenSpec.upto flowBytesSpec)) flowBytesUptoCard

/-- THE SECOND FORM's CARD OF 'ostiarylaw06.FlowReads'. -/
def flowReadsUptoCard : Claim7 := { stood := { row := flowReadsUptoRow, standIns := [], harness := (true, "3e80d856ecb35de9ff55e898676f554b217024c386b168c1307c98cfb7295370"), looks := false }, kinds := [], alts := [], laidByText := true, laidKinds := [.data, .data, .data, .data], laidTests := true, laidLooks := .later }
def FlowReadsUptoCardSaid : Prop := Claim7.holds Tryd.pinned (.plain (OpenSpec.upto flowReadsSpec)) flowReadsUptoCard

/-- THE SECOND FORM's CARD OF 'ostiarylaw06.FlowOrder'. -/
def flowOrderUptoCard : Claim7 := { stood := { row := flowOrderUptoRow, standIns := [], harness := (true, "3e80d856ecb35de9ff55e898676f554b217024c386b168c1307c98cfb7295370"), looks := false }, kinds := [], alts := [], laidByText := true, laidKinds := [.data, .data, .data, .data], laidTests := true, laidLooks := .later }
def FlowOrderUptoCardSaid : Prop := Claim7.holds Tryd.pinned (.plain (OpenSpec.upto flowOrderSpec)) flowOrderUptoCard
end Rows
end Go.Proofs.YtlfigaddddncmaaDoor
