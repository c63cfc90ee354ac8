/-
  NARROWER THAN 'FOR EVERY INPUT', by the rows' own cells (each row's printed sentence says how): UserPlays: laid · UserProves: laid · UserOnce: laid · UserNil: laid · UserRevoked: laid.
  DERIVED. THE GIVEN ROWS OF THIS SEAT. 5 by the template 'for every input the law returns true; each argument reads behind the call as it read before'; 0 by the template 'total and deterministic' (their statements: YthafgapnnmkmhaaGreatDoorTotals.lean).
  GIVEN WITH THE SEED: the statements are not yours to turn. If you find one false, say at which input.
  Laid BY PROGRAM, IN A SANDBOX (cutbox-rows.mjs): the forced cells as the released guide's own fill.sh prints them over the translation 5a664a76b224c898… (all of the seat's roots in one cut). By AI agents, Wed Nov 11 2026. No macro, syntax, notation, axiom, sorry.
-/
import Derived.Test.YthafgapnnmkmhaaGreatDoorChecked
import GoSem.Claim
import GoSem.ClaimJoined
import GoSem.ClaimMapViews
import Derived.JoinedTies
import Derived.KernelRfl
namespace Go.Proofs.YthafgapnnmkmhaaGreatDoor
/- THE CELL 'sum', in the pinned program and in every row, IS THE sha256 OF THE DUMP (.gsa) THAT YthafgapnnmkmhaaGreatDoorProg.lean LOADS. Nothing in Lean hashes anything: it is a label: what it is worth is what the hold of that sum in a sandbox is worth. -/
noncomputable def Tryz.pinned : Pinned := { name := "ythafgapnnmkmhaagreatdoor", sum := "5a664a76b224c898753515b9a148e2ac53563c0d53bccf201529822ceb0e7c32", checked := Tryz.checked }
namespace Rows
def none {H : Type} : Left H := { results := [], args := [] }

/- WHAT THE LISTED PACKAGE-LEVEL VARIABLES READ AS WHEN THE CALL BEGINS. Each datum BY PROGRAM (the guide's laid-datum.mjs) off the statement by which the dump's own 'gosem.cut.vars' lays the variable. In a bare row this is a premise. The card (YthafgapnnmkmhaaGreatDoorCards.lean) ties it to the program's text. -/
def laid_ostiary_lex_reserved {H : Type} : DataW H := .agg [.lit (.string [103, 114, 111, 117, 112]), .lit (.string [97, 108, 108, 111, 119]), .lit (.string [100, 101, 110, 121]), .lit (.string [111, 117, 116, 98, 111, 117, 110, 100]), .lit (.string [118, 105, 97]), .lit (.string [97, 110, 121]), .lit (.string [116, 99, 112]), .lit (.string [117, 100, 112]), .lit (.string [105, 112]), .lit (.string [112, 111, 114, 116])]

/-- 'ostiarylaw24.UserPlays': WHATEVER THE INPUT: true; the input reads as it did. -/
def userPlaysSpec : ChangeSpec := { name := "userPlays", fn := fun _ => fun
  | [d1, d2] => { results := [.lit (.bool true)], args := [d1, d2] }
  | _ => none }
def userPlaysRow : OpenClaim := { program := "ythafgapnnmkmhaagreatdoor", sum := "5a664a76b224c898753515b9a148e2ac53563c0d53bccf201529822ceb0e7c32", func := "ostiary/ostiarylaw24.UserPlays", spec := "userPlays", inPlace := ["slices.overlaps[string]", "slices.overlaps[ostiary/user.account]", "slices.overlaps[ostiary/api.Mac]", "slices.overlaps[struct{}]", "slices.overlaps[ostiary/user.login]"], unfollowed := true, recurses := true, named := ["ostiary/lex.reserved"], apart := false, laid := [("ostiary/lex.reserved", laid_ostiary_lex_reserved)] }
def UserPlaysSaid : Prop := userPlaysRow.holds Tryz.pinned (OpenSpec.ofChange userPlaysSpec)

/-- ITS FALSE NEIGHBOUR: 'it returns false'. Refute it at one input. -/
def userPlaysWrong : ChangeSpec := { name := "userPlays", fn := fun _ => fun
  | [d1, d2] => { results := [.lit (.bool false)], args := [d1, d2] }
  | _ => none }
def UserPlaysWrongFalsely : Prop := userPlaysRow.holds Tryz.pinned (OpenSpec.ofChange userPlaysWrong)

/-- 'ostiarylaw24.UserProves': WHATEVER THE INPUT: true; the input reads as it did. -/
def userProvesSpec : ChangeSpec := { name := "userProves", fn := fun _ => fun
  | [d1, d2, d3] => { results := [.lit (.bool true)], args := [d1, d2, d3] }
  | _ => none }
def userProvesRow : OpenClaim := { program := "ythafgapnnmkmhaagreatdoor", sum := "5a664a76b224c898753515b9a148e2ac53563c0d53bccf201529822ceb0e7c32", func := "ostiary/ostiarylaw24.UserProves", spec := "userProves", inPlace := ["slices.overlaps[string]", "slices.overlaps[ostiary/user.account]", "slices.overlaps[ostiary/api.Mac]", "slices.overlaps[struct{}]", "slices.overlaps[ostiary/user.login]"], unfollowed := true, recurses := true, named := ["ostiary/lex.reserved"], apart := false, laid := [("ostiary/lex.reserved", laid_ostiary_lex_reserved)] }
def UserProvesSaid : Prop := userProvesRow.holds Tryz.pinned (OpenSpec.ofChange userProvesSpec)

/-- ITS FALSE NEIGHBOUR: 'it returns false'. Refute it at one input. -/
def userProvesWrong : ChangeSpec := { name := "userProves", fn := fun _ => fun
  | [d1, d2, d3] => { results := [.lit (.bool false)], args := [d1, d2, d3] }
  | _ => none }
def UserProvesWrongFalsely : Prop := userProvesRow.holds Tryz.pinned (OpenSpec.ofChange userProvesWrong)

/-- 'ostiarylaw24.UserOnce': WHATEVER THE INPUT: true; the input reads as it did. -/
def userOnceSpec : ChangeSpec := { name := "userOnce", fn := fun _ => fun
  | [d1, d2, d3] => { results := [.lit (.bool true)], args := [d1, d2, d3] }
  | _ => none }
def userOnceRow : OpenClaim := { program := "ythafgapnnmkmhaagreatdoor", sum := "5a664a76b224c898753515b9a148e2ac53563c0d53bccf201529822ceb0e7c32", func := "ostiary/ostiarylaw24.UserOnce", spec := "userOnce", inPlace := ["slices.overlaps[string]", "slices.overlaps[ostiary/user.account]", "slices.overlaps[ostiary/api.Mac]", "slices.overlaps[struct{}]", "slices.overlaps[ostiary/user.login]"], unfollowed := true, recurses := true, named := ["ostiary/lex.reserved"], apart := false, laid := [("ostiary/lex.reserved", laid_ostiary_lex_reserved)] }
def UserOnceSaid : Prop := userOnceRow.holds Tryz.pinned (OpenSpec.ofChange userOnceSpec)

/-- ITS FALSE NEIGHBOUR: 'it returns false'. Refute it at one input. -/
def userOnceWrong : ChangeSpec := { name := "userOnce", fn := fun _ => fun
  | [d1, d2, d3] => { results := [.lit (.bool false)], args := [d1, d2, d3] }
  | _ => none }
def UserOnceWrongFalsely : Prop := userOnceRow.holds Tryz.pinned (OpenSpec.ofChange userOnceWrong)

/-- 'ostiarylaw24.UserNil': WHATEVER THE INPUT: true; the input reads as it did. -/
def userNilSpec : ChangeSpec := { name := "userNil", fn := fun _ => fun
  | [d1, d2] => { results := [.lit (.bool true)], args := [d1, d2] }
  | _ => none }
def userNilRow : OpenClaim := { program := "ythafgapnnmkmhaagreatdoor", sum := "5a664a76b224c898753515b9a148e2ac53563c0d53bccf201529822ceb0e7c32", func := "ostiary/ostiarylaw24.UserNil", spec := "userNil", inPlace := ["slices.overlaps[string]", "slices.overlaps[ostiary/user.account]", "slices.overlaps[ostiary/api.Mac]", "slices.overlaps[struct{}]", "slices.overlaps[ostiary/user.login]"], unfollowed := true, recurses := true, named := ["ostiary/lex.reserved"], apart := false, laid := [("ostiary/lex.reserved", laid_ostiary_lex_reserved)] }
def UserNilSaid : Prop := userNilRow.holds Tryz.pinned (OpenSpec.ofChange userNilSpec)

/-- ITS FALSE NEIGHBOUR: 'it returns false'. Refute it at one input. -/
def userNilWrong : ChangeSpec := { name := "userNil", fn := fun _ => fun
  | [d1, d2] => { results := [.lit (.bool false)], args := [d1, d2] }
  | _ => none }
def UserNilWrongFalsely : Prop := userNilRow.holds Tryz.pinned (OpenSpec.ofChange userNilWrong)

/-- 'ostiarylaw24.UserRevoked': WHATEVER THE INPUT: true; the input reads as it did. -/
def userRevokedSpec : ChangeSpec := { name := "userRevoked", fn := fun _ => fun
  | [d1, d2, d3, d4] => { results := [.lit (.bool true)], args := [d1, d2, d3, d4] }
  | _ => none }
def userRevokedRow : OpenClaim := { program := "ythafgapnnmkmhaagreatdoor", sum := "5a664a76b224c898753515b9a148e2ac53563c0d53bccf201529822ceb0e7c32", func := "ostiary/ostiarylaw24.UserRevoked", spec := "userRevoked", inPlace := ["slices.overlaps[string]", "slices.overlaps[ostiary/user.account]", "slices.overlaps[ostiary/api.Mac]", "slices.overlaps[struct{}]", "slices.overlaps[ostiary/user.login]"], unfollowed := true, recurses := true, named := ["ostiary/lex.reserved"], apart := false, laid := [("ostiary/lex.reserved", laid_ostiary_lex_reserved)] }
def UserRevokedSaid : Prop := userRevokedRow.holds Tryz.pinned (OpenSpec.ofChange userRevokedSpec)

/-- ITS FALSE NEIGHBOUR: 'it returns false'. Refute it at one input. -/
def userRevokedWrong : ChangeSpec := { name := "userRevoked", fn := fun _ => fun
  | [d1, d2, d3, d4] => { results := [.lit (.bool false)], args := [d1, d2, d3, d4] }
  | _ => none }
def UserRevokedWrongFalsely : Prop := userRevokedRow.holds Tryz.pinned (OpenSpec.ofChange userRevokedWrong)

/- THE SECOND FORM. 'bulk': how many values and letters a reading holds, each counted each time it is reached (what is shared counts as often as it is met; a slice's spare places count too). A statement '..UptoSaid' is the law's where the arguments, and the package variables that the reading takes, are together of bulk at most 1048576: NARROWER than '..Said'. Prove '..Said' where nothing that the law and all that it calls make is longer than what came in: it says more and counts as full. Else prove '..UptoSaid'. A law counts once. -/
mutual
def uptoBulk {H : Type} : DataW H → Nat
  | .lit (.string bytes) => bytes.length + 1
  | .lit _ => 1
  | .nil => 1
  | .ptr d => uptoBulk d + 1
  | .slice elems spare => uptoBulkAll elems + uptoBulkAll spare + 1
  | .agg parts => uptoBulkAll parts + 1
  | .iface _ d => uptoBulk d + 1
  | .map entries => uptoBulkEntries entries + 1
  | .held _ => 1
def uptoBulkAll {H : Type} : List (DataW H) → Nat
  | [] => 0
  | d :: r => uptoBulk d + uptoBulkAll r
def uptoBulkEntries {H : Type} : List (Lit × DataW H) → Nat
  | [] => 0
  | x :: r => uptoBulkEntry x + uptoBulkEntries r
def uptoBulkEntry {H : Type} : Lit × DataW H → Nat
  | (.string bytes, d) => bytes.length + uptoBulk d + 1
  | (_, d) => uptoBulk d + 1
 end
def uptoSmall : (H : Type) → List (DataW H) → Bool := fun _ ds => decide (uptoBulkAll ds ≤ 1048576)
def OpenSpec.upto (s : _root_.Go.ChangeSpec) : _root_.Go.OpenSpec := { _root_.Go.OpenSpec.ofChange s with cond := some uptoSmall }

/-- 'ostiarylaw24.UserPlays', WHERE WHAT IT READS IS OF BULK AT MOST 1048576: true; the input reads as it did. -/
def userPlaysUptoRow : OpenClaim := { program := "ythafgapnnmkmhaagreatdoor", sum := "5a664a76b224c898753515b9a148e2ac53563c0d53bccf201529822ceb0e7c32", func := "ostiary/ostiarylaw24.UserPlays", spec := "userPlays", inPlace := ["slices.overlaps[string]", "slices.overlaps[ostiary/user.account]", "slices.overlaps[ostiary/api.Mac]", "slices.overlaps[struct{}]", "slices.overlaps[ostiary/user.login]"], unfollowed := true, recurses := true, named := ["ostiary/lex.reserved"], apart := false, laid := [("ostiary/lex.reserved", laid_ostiary_lex_reserved)], narrowed := true }
def UserPlaysUptoSaid : Prop := userPlaysUptoRow.holds Tryz.pinned (OpenSpec.upto userPlaysSpec)

/-- 'ostiarylaw24.UserProves', WHERE WHAT IT READS IS OF BULK AT MOST 1048576: true; the input reads as it did. -/
def userProvesUptoRow : OpenClaim := { program := "ythafgapnnmkmhaagreatdoor", sum := "5a664a76b224c898753515b9a148e2ac53563c0d53bccf201529822ceb0e7c32", func := "ostiary/ostiarylaw24.UserProves", spec := "userProves", inPlace := ["slices.overlaps[string]", "slices.overlaps[ostiary/user.account]", "slices.overlaps[ostiary/api.Mac]", "slices.overlaps[struct{}]", "slices.overlaps[ostiary/user.login]"], unfollowed := true, recurses := true, named := ["ostiary/lex.reserved"], apart := false, laid := [("ostiary/lex.reserved", laid_ostiary_lex_reserved)], narrowed := true }
def UserProvesUptoSaid : Prop := userProvesUptoRow.holds Tryz.pinned (OpenSpec.upto userProvesSpec)

/-- 'ostiarylaw24.UserOnce', WHERE WHAT IT READS IS OF BULK AT MOST 1048576: true; the input reads as it did. -/
def userOnceUptoRow : OpenClaim := { program := "ythafgapnnmkmhaagreatdoor", sum := "5a664a76b224c898753515b9a148e2ac53563c0d53bccf201529822ceb0e7c32", func := "ostiary/ostiarylaw24.UserOnce", spec := "userOnce", inPlace := ["slices.overlaps[string]", "slices.overlaps[ostiary/user.account]", "slices.overlaps[ostiary/api.Mac]", "slices.overlaps[struct{}]", "slices.overlaps[ostiary/user.login]"], unfollowed := true, recurses := true, named := ["ostiary/lex.reserved"], apart := false, laid := [("ostiary/lex.reserved", laid_ostiary_lex_reserved)], narrowed := true }
def UserOnceUptoSaid : Prop := userOnceUptoRow.holds Tryz.pinned (OpenSpec.upto userOnceSpec)

/-- 'ostiarylaw24.UserNil', WHERE WHAT IT READS IS OF BULK AT MOST 1048576: true; the input reads as it did. -/
def userNilUptoRow : OpenClaim := { program := "ythafgapnnmkmhaagreatdoor", sum := "5a664a76b224c898753515b9a148e2ac53563c0d53bccf201529822ceb0e7c32", func := "ostiary/ostiarylaw24.UserNil", spec := "userNil", inPlace := ["slices.overlaps[string]", "slices.overlaps[ostiary/user.account]", "slices.overlaps[ostiary/api.Mac]", "slices.overlaps[struct{}]", "slices.overlaps[ostiary/user.login]"], unfollowed := true, recurses := true, named := ["ostiary/lex.reserved"], apart := false, laid := [("ostiary/lex.reserved", laid_ostiary_lex_reserved)], narrowed := true }
def UserNilUptoSaid : Prop := userNilUptoRow.holds Tryz.pinned (OpenSpec.upto userNilSpec)

/-- 'ostiarylaw24.UserRevoked', WHERE WHAT IT READS IS OF BULK AT MOST 1048576: true; the input reads as it did. -/
def userRevokedUptoRow : OpenClaim := { program := "ythafgapnnmkmhaagreatdoor", sum := "5a664a76b224c898753515b9a148e2ac53563c0d53bccf201529822ceb0e7c32", func := "ostiary/ostiarylaw24.UserRevoked", spec := "userRevoked", inPlace := ["slices.overlaps[string]", "slices.overlaps[ostiary/user.account]", "slices.overlaps[ostiary/api.Mac]", "slices.overlaps[struct{}]", "slices.overlaps[ostiary/user.login]"], unfollowed := true, recurses := true, named := ["ostiary/lex.reserved"], apart := false, laid := [("ostiary/lex.reserved", laid_ostiary_lex_reserved)], narrowed := true }
def UserRevokedUptoSaid : Prop := userRevokedUptoRow.holds Tryz.pinned (OpenSpec.upto userRevokedSpec)

end Rows
end Go.Proofs.YthafgapnnmkmhaaGreatDoor
