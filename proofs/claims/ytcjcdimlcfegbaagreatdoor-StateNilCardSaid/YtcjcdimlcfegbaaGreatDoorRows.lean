/-
  NARROWER THAN 'FOR EVERY INPUT', by the rows' own cells (each row's printed sentence says how): StateApplies: laid · StateSnaps: laid · StateSame: laid · StateNil: laid.
  DERIVED. THE GIVEN ROWS OF THIS SEAT. 4 by the template 'for every input the law returns true; each argument reads behind the call as it read before'; 0 by the template 'total and deterministic' (their statements: YtcjcdimlcfegbaaGreatDoorTotals.lean).
  GIVEN WITH THE SEED: the statements are not yours to turn. If you find one false, say at which input.
  Laid BY PROGRAM, IN A SANDBOX (cutbox-rows.mjs): the forced cells as the released guide's own fill.sh prints them over the translation 474643d23f5afc27… (all of the seat's roots in one cut). By AI agents, Wed Nov 11 2026. No macro, syntax, notation, axiom, sorry.
-/
import Derived.Test.YtcjcdimlcfegbaaGreatDoorChecked
import GoSem.Claim
import GoSem.ClaimJoined
import GoSem.ClaimMapViews
import Derived.JoinedTies
import Derived.KernelRfl
namespace Go.Proofs.YtcjcdimlcfegbaaGreatDoor
/- THE CELL 'sum', in the pinned program and in every row, IS THE sha256 OF THE DUMP (.gsa) THAT YtcjcdimlcfegbaaGreatDoorProg.lean LOADS. Nothing in Lean hashes anything: it is a label: what it is worth is what the hold of that sum in a sandbox is worth. -/
noncomputable def Tryz.pinned : Pinned := { name := "ytcjcdimlcfegbaagreatdoor", sum := "474643d23f5afc2745893fa259827c91338b54970852c2959271580c8edd3925", checked := Tryz.checked }
namespace Rows
def none {H : Type} : Left H := { results := [], args := [] }

/- WHAT THE LISTED PACKAGE-LEVEL VARIABLES READ AS WHEN THE CALL BEGINS. Each datum BY PROGRAM (the guide's laid-datum.mjs) off the statement by which the dump's own 'gosem.cut.vars' lays the variable. In a bare row this is a premise. The card (YtcjcdimlcfegbaaGreatDoorCards.lean) ties it to the program's text. -/
def laid_ostiary_lex_reserved {H : Type} : DataW H := .agg [.lit (.string [103, 114, 111, 117, 112]), .lit (.string [97, 108, 108, 111, 119]), .lit (.string [100, 101, 110, 121]), .lit (.string [111, 117, 116, 98, 111, 117, 110, 100]), .lit (.string [118, 105, 97]), .lit (.string [97, 110, 121]), .lit (.string [116, 99, 112]), .lit (.string [117, 100, 112]), .lit (.string [105, 112]), .lit (.string [112, 111, 114, 116])]

/-- 'ostiarylaw28.StateApplies': WHATEVER THE INPUT: true; the input reads as it did. -/
def stateAppliesSpec : ChangeSpec := { name := "stateApplies", fn := fun _ => fun
  | [d] => { results := [.lit (.bool true)], args := [d] }
  | _ => none }
def stateAppliesRow : OpenClaim := { program := "ytcjcdimlcfegbaagreatdoor", sum := "474643d23f5afc2745893fa259827c91338b54970852c2959271580c8edd3925", func := "ostiary/ostiarylaw28.StateApplies", spec := "stateApplies", inPlace := ["slices.overlaps[string]", "slices.overlaps[ostiary/state.user]", "slices.overlaps[ostiary/api.Mac]", "slices.overlaps[struct{}]", "slices.overlaps[ostiary/api.Ip]", "slices.overlaps[ostiary/pool.Lease]"], unfollowed := true, recurses := true, named := ["ostiary/lex.reserved"], apart := false, laid := [("ostiary/lex.reserved", laid_ostiary_lex_reserved)] }
def StateAppliesSaid : Prop := stateAppliesRow.holds Tryz.pinned (OpenSpec.ofChange stateAppliesSpec)

/-- ITS FALSE NEIGHBOUR: 'it returns false'. Refute it at one input. -/
def stateAppliesWrong : ChangeSpec := { name := "stateApplies", fn := fun _ => fun
  | [d] => { results := [.lit (.bool false)], args := [d] }
  | _ => none }
def StateAppliesWrongFalsely : Prop := stateAppliesRow.holds Tryz.pinned (OpenSpec.ofChange stateAppliesWrong)

/-- 'ostiarylaw28.StateSnaps': WHATEVER THE INPUT: true; the input reads as it did. -/
def stateSnapsSpec : ChangeSpec := { name := "stateSnaps", fn := fun _ => fun
  | [d1, d2] => { results := [.lit (.bool true)], args := [d1, d2] }
  | _ => none }
def stateSnapsRow : OpenClaim := { program := "ytcjcdimlcfegbaagreatdoor", sum := "474643d23f5afc2745893fa259827c91338b54970852c2959271580c8edd3925", func := "ostiary/ostiarylaw28.StateSnaps", spec := "stateSnaps", inPlace := ["slices.overlaps[string]", "slices.overlaps[ostiary/state.user]", "slices.overlaps[ostiary/api.Mac]", "slices.overlaps[struct{}]", "slices.overlaps[ostiary/api.Ip]", "slices.overlaps[ostiary/pool.Lease]"], unfollowed := true, recurses := true, named := ["ostiary/lex.reserved"], apart := false, laid := [("ostiary/lex.reserved", laid_ostiary_lex_reserved)] }
def StateSnapsSaid : Prop := stateSnapsRow.holds Tryz.pinned (OpenSpec.ofChange stateSnapsSpec)

/-- ITS FALSE NEIGHBOUR: 'it returns false'. Refute it at one input. -/
def stateSnapsWrong : ChangeSpec := { name := "stateSnaps", fn := fun _ => fun
  | [d1, d2] => { results := [.lit (.bool false)], args := [d1, d2] }
  | _ => none }
def StateSnapsWrongFalsely : Prop := stateSnapsRow.holds Tryz.pinned (OpenSpec.ofChange stateSnapsWrong)

/-- 'ostiarylaw28.StateSame': WHATEVER THE INPUT: true; the input reads as it did. -/
def stateSameSpec : ChangeSpec := { name := "stateSame", fn := fun _ => fun
  | [d1, d2] => { results := [.lit (.bool true)], args := [d1, d2] }
  | _ => none }
def stateSameRow : OpenClaim := { program := "ytcjcdimlcfegbaagreatdoor", sum := "474643d23f5afc2745893fa259827c91338b54970852c2959271580c8edd3925", func := "ostiary/ostiarylaw28.StateSame", spec := "stateSame", inPlace := ["slices.overlaps[string]", "slices.overlaps[ostiary/state.user]", "slices.overlaps[ostiary/api.Mac]", "slices.overlaps[struct{}]", "slices.overlaps[ostiary/api.Ip]", "slices.overlaps[ostiary/pool.Lease]"], unfollowed := true, recurses := true, named := ["ostiary/lex.reserved"], apart := false, laid := [("ostiary/lex.reserved", laid_ostiary_lex_reserved)] }
def StateSameSaid : Prop := stateSameRow.holds Tryz.pinned (OpenSpec.ofChange stateSameSpec)

/-- ITS FALSE NEIGHBOUR: 'it returns false'. Refute it at one input. -/
def stateSameWrong : ChangeSpec := { name := "stateSame", fn := fun _ => fun
  | [d1, d2] => { results := [.lit (.bool false)], args := [d1, d2] }
  | _ => none }
def StateSameWrongFalsely : Prop := stateSameRow.holds Tryz.pinned (OpenSpec.ofChange stateSameWrong)

/-- 'ostiarylaw28.StateNil': WHATEVER THE INPUT: true; the input reads as it did. -/
def stateNilSpec : ChangeSpec := { name := "stateNil", fn := fun _ => fun
  | [d] => { results := [.lit (.bool true)], args := [d] }
  | _ => none }
def stateNilRow : OpenClaim := { program := "ytcjcdimlcfegbaagreatdoor", sum := "474643d23f5afc2745893fa259827c91338b54970852c2959271580c8edd3925", func := "ostiary/ostiarylaw28.StateNil", spec := "stateNil", inPlace := ["slices.overlaps[string]", "slices.overlaps[ostiary/state.user]", "slices.overlaps[ostiary/api.Mac]", "slices.overlaps[struct{}]", "slices.overlaps[ostiary/api.Ip]", "slices.overlaps[ostiary/pool.Lease]"], unfollowed := true, recurses := true, named := ["ostiary/lex.reserved"], apart := false, laid := [("ostiary/lex.reserved", laid_ostiary_lex_reserved)] }
def StateNilSaid : Prop := stateNilRow.holds Tryz.pinned (OpenSpec.ofChange stateNilSpec)

/-- ITS FALSE NEIGHBOUR: 'it returns false'. Refute it at one input. -/
def stateNilWrong : ChangeSpec := { name := "stateNil", fn := fun _ => fun
  | [d] => { results := [.lit (.bool false)], args := [d] }
  | _ => none }
def StateNilWrongFalsely : Prop := stateNilRow.holds Tryz.pinned (OpenSpec.ofChange stateNilWrong)

/- THE SECOND FORM. 'bulk': how many values and letters a reading holds, each counted each time it is reached (what is shared counts as often as it is met; a slice's spare places count too). A statement '..UptoSaid' is the law's where the arguments, and the package variables that the reading takes, are together of bulk at most 1048576: NARROWER than '..Said'. Prove '..Said' where nothing that the law and all that it calls make is longer than what came in: it says more and counts as full. Else prove '..UptoSaid'. A law counts once. -/
mutual
def uptoBulk {H : Type} : DataW H → Nat
  | .lit (.string bytes) => bytes.length + 1
  | .lit _ => 1
  | .nil => 1
  | .ptr d => uptoBulk d + 1
  | .slice elems spare => uptoBulkAll elems + uptoBulkAll spare + 1
  | .agg parts => uptoBulkAll parts + 1
  | .iface _ d => uptoBulk d + 1
  | .map entries => uptoBulkEntries entries + 1
  | .held _ => 1
def uptoBulkAll {H : Type} : List (DataW H) → Nat
  | [] => 0
  | d :: r => uptoBulk d + uptoBulkAll r
def uptoBulkEntries {H : Type} : List (Lit × DataW H) → Nat
  | [] => 0
  | x :: r => uptoBulkEntry x + uptoBulkEntries r
def uptoBulkEntry {H : Type} : Lit × DataW H → Nat
  | (.string bytes, d) => bytes.length + uptoBulk d + 1
  | (_, d) => uptoBulk d + 1
 end
def uptoSmall : (H : Type) → List (DataW H) → Bool := fun _ ds => decide (uptoBulkAll ds ≤ 1048576)
def OpenSpec.upto (s : _root_.Go.ChangeSpec) : _root_.Go.OpenSpec := { _root_.Go.OpenSpec.ofChange s with cond := some uptoSmall }

/-- 'ostiarylaw28.StateApplies', WHERE WHAT IT READS IS OF BULK AT MOST 1048576: true; the input reads as it did. -/
def stateAppliesUptoRow : OpenClaim := { program := "ytcjcdimlcfegbaagreatdoor", sum := "474643d23f5afc2745893fa259827c91338b54970852c2959271580c8edd3925", func := "ostiary/ostiarylaw28.StateApplies", spec := "stateApplies", inPlace := ["slices.overlaps[string]", "slices.overlaps[ostiary/state.user]", "slices.overlaps[ostiary/api.Mac]", "slices.overlaps[struct{}]", "slices.overlaps[ostiary/api.Ip]", "slices.overlaps[ostiary/pool.Lease]"], unfollowed := true, recurses := true, named := ["ostiary/lex.reserved"], apart := false, laid := [("ostiary/lex.reserved", laid_ostiary_lex_reserved)], narrowed := true }
def StateAppliesUptoSaid : Prop := stateAppliesUptoRow.holds Tryz.pinned (OpenSpec.upto stateAppliesSpec)

/-- 'ostiarylaw28.StateSnaps', WHERE WHAT IT READS IS OF BULK AT MOST 1048576: true; the input reads as it did. -/
def stateSnapsUptoRow : OpenClaim := { program := "ytcjcdimlcfegbaagreatdoor", sum := "474643d23f5afc2745893fa259827c91338b54970852c2959271580c8edd3925", func := "ostiary/ostiarylaw28.StateSnaps", spec := "stateSnaps", inPlace := ["slices.overlaps[string]", "slices.overlaps[ostiary/state.user]", "slices.overlaps[ostiary/api.Mac]", "slices.overlaps[struct{}]", "slices.overlaps[ostiary/api.Ip]", "slices.overlaps[ostiary/pool.Lease]"], unfollowed := true, recurses := true, named := ["ostiary/lex.reserved"], apart := false, laid := [("ostiary/lex.reserved", laid_ostiary_lex_reserved)], narrowed := true }
def StateSnapsUptoSaid : Prop := stateSnapsUptoRow.holds Tryz.pinned (OpenSpec.upto stateSnapsSpec)

/-- 'ostiarylaw28.StateSame', WHERE WHAT IT READS IS OF BULK AT MOST 1048576: true; the input reads as it did. -/
def stateSameUptoRow : OpenClaim := { program := "ytcjcdimlcfegbaagreatdoor", sum := "474643d23f5afc2745893fa259827c91338b54970852c2959271580c8edd3925", func := "ostiary/ostiarylaw28.StateSame", spec := "stateSame", inPlace := ["slices.overlaps[string]", "slices.overlaps[ostiary/state.user]", "slices.overlaps[ostiary/api.Mac]", "slices.overlaps[struct{}]", "slices.overlaps[ostiary/api.Ip]", "slices.overlaps[ostiary/pool.Lease]"], unfollowed := true, recurses := true, named := ["ostiary/lex.reserved"], apart := false, laid := [("ostiary/lex.reserved", laid_ostiary_lex_reserved)], narrowed := true }
def StateSameUptoSaid : Prop := stateSameUptoRow.holds Tryz.pinned (OpenSpec.upto stateSameSpec)

/-- 'ostiarylaw28.StateNil', WHERE WHAT IT READS IS OF BULK AT MOST 1048576: true; the input reads as it did. -/
def stateNilUptoRow : OpenClaim := { program := "ytcjcdimlcfegbaagreatdoor", sum := "474643d23f5afc2745893fa259827c91338b54970852c2959271580c8edd3925", func := "ostiary/ostiarylaw28.StateNil", spec := "stateNil", inPlace := ["slices.overlaps[string]", "slices.overlaps[ostiary/state.user]", "slices.overlaps[ostiary/api.Mac]", "slices.overlaps[struct{}]", "slices.overlaps[ostiary/api.Ip]", "slices.overlaps[ostiary/pool.Lease]"], unfollowed := true, recurses := true, named := ["ostiary/lex.reserved"], apart := false, laid := [("ostiary/lex.reserved", laid_ostiary_lex_reserved)], narrowed := true }
def StateNilUptoSaid : Prop := stateNilUptoRow.holds Tryz.pinned (OpenSpec.upto stateNilSpec)

end Rows
end Go.Proofs.YtcjcdimlcfegbaaGreatDoor
