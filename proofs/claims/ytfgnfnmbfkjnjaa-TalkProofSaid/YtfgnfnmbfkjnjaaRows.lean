/-
  No cell of these rows narrows 'for every input' (looked for: loops, veiled, ifaces, maps, wideKeys, modest, calm, conditions, laid).
  DERIVED. THE GIVEN ROWS OF THIS SEAT. 5 by the template 'for every input the law returns true; each argument reads behind the call as it read before'; 0 by the template 'total and deterministic' (their statements: YtfgnfnmbfkjnjaaTotals.lean).
  GIVEN WITH THE SEED: the statements are not yours to turn. If you find one false, say at which input.
  Laid BY PROGRAM, IN A SANDBOX (cutbox-rows.mjs): the forced cells as the released guide's own fill.sh prints them over the translation ad2b5627ec1a7534… (all of the seat's roots in one cut). By AI agents, Wed Nov 11 2026. No macro, syntax, notation, axiom, sorry.
-/
import Derived.Test.YtfgnfnmbfkjnjaaChecked
import GoSem.Claim
import GoSem.ClaimJoined
import GoSem.ClaimMapViews
import Derived.JoinedTies
import Derived.KernelRfl
namespace Go.Proofs.Ytfgnfnmbfkjnjaa
/- THE CELL 'sum', in the pinned program and in every row, IS THE sha256 OF THE DUMP (.gsa) THAT YtfgnfnmbfkjnjaaProg.lean LOADS. Nothing in Lean hashes anything: it is a label: what it is worth is what the hold of that sum in a sandbox is worth. -/
noncomputable def Try.pinned : Pinned := { name := "ytfgnfnmbfkjnjaa", sum := "ad2b5627ec1a7534c30b044dcd92a03f0bc6d3ee8272c5d912d8406d31422d2b", checked := Try.checked }
namespace Rows
def none {H : Type} : Left H := { results := [], args := [] }

/-- 'ostiarylaw07.TalkWrites': WHATEVER THE INPUT: true; the input reads as it did. -/
def talkWritesSpec : ChangeSpec := { name := "talkWrites", fn := fun _ => fun
  | [d] => { results := [.lit (.bool true)], args := [d] }
  | _ => none }
def talkWritesRow : OpenClaim := { program := "ytfgnfnmbfkjnjaa", sum := "ad2b5627ec1a7534c30b044dcd92a03f0bc6d3ee8272c5d912d8406d31422d2b", func := "ostiary/ostiarylaw07.TalkWrites", spec := "talkWrites", apart := false }
def TalkWritesSaid : Prop := talkWritesRow.holds Try.pinned (OpenSpec.ofChange talkWritesSpec)

/-- ITS FALSE NEIGHBOUR: 'it returns false'. Refute it at one input. -/
def talkWritesWrong : ChangeSpec := { name := "talkWrites", fn := fun _ => fun
  | [d] => { results := [.lit (.bool false)], args := [d] }
  | _ => none }
def TalkWritesWrongFalsely : Prop := talkWritesRow.holds Try.pinned (OpenSpec.ofChange talkWritesWrong)

/-- 'ostiarylaw07.TalkReads': WHATEVER THE INPUT: true; the input reads as it did. -/
def talkReadsSpec : ChangeSpec := { name := "talkReads", fn := fun _ => fun
  | [d] => { results := [.lit (.bool true)], args := [d] }
  | _ => none }
def talkReadsRow : OpenClaim := { program := "ytfgnfnmbfkjnjaa", sum := "ad2b5627ec1a7534c30b044dcd92a03f0bc6d3ee8272c5d912d8406d31422d2b", func := "ostiary/ostiarylaw07.TalkReads", spec := "talkReads", apart := false }
def TalkReadsSaid : Prop := talkReadsRow.holds Try.pinned (OpenSpec.ofChange talkReadsSpec)

/-- ITS FALSE NEIGHBOUR: 'it returns false'. Refute it at one input. -/
def talkReadsWrong : ChangeSpec := { name := "talkReads", fn := fun _ => fun
  | [d] => { results := [.lit (.bool false)], args := [d] }
  | _ => none }
def TalkReadsWrongFalsely : Prop := talkReadsRow.holds Try.pinned (OpenSpec.ofChange talkReadsWrong)

/-- 'ostiarylaw07.TalkApart': WHATEVER THE INPUT: true; the input reads as it did. -/
def talkApartSpec : ChangeSpec := { name := "talkApart", fn := fun _ => fun
  | [d1, d2] => { results := [.lit (.bool true)], args := [d1, d2] }
  | _ => none }
def talkApartRow : OpenClaim := { program := "ytfgnfnmbfkjnjaa", sum := "ad2b5627ec1a7534c30b044dcd92a03f0bc6d3ee8272c5d912d8406d31422d2b", func := "ostiary/ostiarylaw07.TalkApart", spec := "talkApart", apart := false }
def TalkApartSaid : Prop := talkApartRow.holds Try.pinned (OpenSpec.ofChange talkApartSpec)

/-- ITS FALSE NEIGHBOUR: 'it returns false'. Refute it at one input. -/
def talkApartWrong : ChangeSpec := { name := "talkApart", fn := fun _ => fun
  | [d1, d2] => { results := [.lit (.bool false)], args := [d1, d2] }
  | _ => none }
def TalkApartWrongFalsely : Prop := talkApartRow.holds Try.pinned (OpenSpec.ofChange talkApartWrong)

/-- 'ostiarylaw07.TalkProof': WHATEVER THE INPUT: true; the input reads as it did. -/
def talkProofSpec : ChangeSpec := { name := "talkProof", fn := fun _ => fun
  | [d1, d2, d3, d4, d5, d6, d7] => { results := [.lit (.bool true)], args := [d1, d2, d3, d4, d5, d6, d7] }
  | _ => none }
def talkProofRow : OpenClaim := { program := "ytfgnfnmbfkjnjaa", sum := "ad2b5627ec1a7534c30b044dcd92a03f0bc6d3ee8272c5d912d8406d31422d2b", func := "ostiary/ostiarylaw07.TalkProof", spec := "talkProof", apart := false }
def TalkProofSaid : Prop := talkProofRow.holds Try.pinned (OpenSpec.ofChange talkProofSpec)

/-- ITS FALSE NEIGHBOUR: 'it returns false'. Refute it at one input. -/
def talkProofWrong : ChangeSpec := { name := "talkProof", fn := fun _ => fun
  | [d1, d2, d3, d4, d5, d6, d7] => { results := [.lit (.bool false)], args := [d1, d2, d3, d4, d5, d6, d7] }
  | _ => none }
def TalkProofWrongFalsely : Prop := talkProofRow.holds Try.pinned (OpenSpec.ofChange talkProofWrong)

/-- 'ostiarylaw07.TalkName': WHATEVER THE INPUT: true; the input reads as it did. -/
def talkNameSpec : ChangeSpec := { name := "talkName", fn := fun _ => fun
  | [d] => { results := [.lit (.bool true)], args := [d] }
  | _ => none }
def talkNameRow : OpenClaim := { program := "ytfgnfnmbfkjnjaa", sum := "ad2b5627ec1a7534c30b044dcd92a03f0bc6d3ee8272c5d912d8406d31422d2b", func := "ostiary/ostiarylaw07.TalkName", spec := "talkName", apart := false }
def TalkNameSaid : Prop := talkNameRow.holds Try.pinned (OpenSpec.ofChange talkNameSpec)

/-- ITS FALSE NEIGHBOUR: 'it returns false'. Refute it at one input. -/
def talkNameWrong : ChangeSpec := { name := "talkName", fn := fun _ => fun
  | [d] => { results := [.lit (.bool false)], args := [d] }
  | _ => none }
def TalkNameWrongFalsely : Prop := talkNameRow.holds Try.pinned (OpenSpec.ofChange talkNameWrong)

/- THE SECOND FORM. 'bulk': how many values and letters a reading holds, each counted each time it is reached (what is shared counts as often as it is met; a slice's spare places count too). A statement '..UptoSaid' is the law's where the arguments, and the package variables that the reading takes, are together of bulk at most 1048576: NARROWER than '..Said'. Prove '..Said' where nothing that the law and all that it calls make is longer than what came in: it says more and counts as full. Else prove '..UptoSaid'. A law counts once. -/
mutual
def uptoBulk {H : Type} : DataW H → Nat
  | .lit (.string bytes) => bytes.length + 1
  | .lit _ => 1
  | .nil => 1
  | .ptr d => uptoBulk d + 1
  | .slice elems spare => uptoBulkAll elems + uptoBulkAll spare + 1
  | .agg parts => uptoBulkAll parts + 1
  | .iface _ d => uptoBulk d + 1
  | .map entries => uptoBulkEntries entries + 1
  | .held _ => 1
def uptoBulkAll {H : Type} : List (DataW H) → Nat
  | [] => 0
  | d :: r => uptoBulk d + uptoBulkAll r
def uptoBulkEntries {H : Type} : List (Lit × DataW H) → Nat
  | [] => 0
  | x :: r => uptoBulkEntry x + uptoBulkEntries r
def uptoBulkEntry {H : Type} : Lit × DataW H → Nat
  | (.string bytes, d) => bytes.length + uptoBulk d + 1
  | (_, d) => uptoBulk d + 1
 end
def uptoSmall : (H : Type) → List (DataW H) → Bool := fun _ ds => decide (uptoBulkAll ds ≤ 1048576)
def OpenSpec.upto (s : _root_.Go.ChangeSpec) : _root_.Go.OpenSpec := { _root_.Go.OpenSpec.ofChange s with cond := some uptoSmall }

/-- 'ostiarylaw07.TalkWrites', WHERE WHAT IT READS IS OF BULK AT MOST 1048576: true; the input reads as it did. -/
def talkWritesUptoRow : OpenClaim := { program := "ytfgnfnmbfkjnjaa", sum := "ad2b5627ec1a7534c30b044dcd92a03f0bc6d3ee8272c5d912d8406d31422d2b", func := "ostiary/ostiarylaw07.TalkWrites", spec := "talkWrites", apart := false, narrowed := true }
def TalkWritesUptoSaid : Prop := talkWritesUptoRow.holds Try.pinned (OpenSpec.upto talkWritesSpec)

/-- 'ostiarylaw07.TalkReads', WHERE WHAT IT READS IS OF BULK AT MOST 1048576: true; the input reads as it did. -/
def talkReadsUptoRow : OpenClaim := { program := "ytfgnfnmbfkjnjaa", sum := "ad2b5627ec1a7534c30b044dcd92a03f0bc6d3ee8272c5d912d8406d31422d2b", func := "ostiary/ostiarylaw07.TalkReads", spec := "talkReads", apart := false, narrowed := true }
def TalkReadsUptoSaid : Prop := talkReadsUptoRow.holds Try.pinned (OpenSpec.upto talkReadsSpec)

/-- 'ostiarylaw07.TalkApart', WHERE WHAT IT READS IS OF BULK AT MOST 1048576: true; the input reads as it did. -/
def talkApartUptoRow : OpenClaim := { program := "ytfgnfnmbfkjnjaa", sum := "ad2b5627ec1a7534c30b044dcd92a03f0bc6d3ee8272c5d912d8406d31422d2b", func := "ostiary/ostiarylaw07.TalkApart", spec := "talkApart", apart := false, narrowed := true }
def TalkApartUptoSaid : Prop := talkApartUptoRow.holds Try.pinned (OpenSpec.upto talkApartSpec)

/-- 'ostiarylaw07.TalkProof', WHERE WHAT IT READS IS OF BULK AT MOST 1048576: true; the input reads as it did. -/
def talkProofUptoRow : OpenClaim := { program := "ytfgnfnmbfkjnjaa", sum := "ad2b5627ec1a7534c30b044dcd92a03f0bc6d3ee8272c5d912d8406d31422d2b", func := "ostiary/ostiarylaw07.TalkProof", spec := "talkProof", apart := false, narrowed := true }
def TalkProofUptoSaid : Prop := talkProofUptoRow.holds Try.pinned (OpenSpec.upto talkProofSpec)

/-- 'ostiarylaw07.TalkName', WHERE WHAT IT READS IS OF BULK AT MOST 1048576: true; the input reads as it did. -/
def talkNameUptoRow : OpenClaim := { program := "ytfgnfnmbfkjnjaa", sum := "ad2b5627ec1a7534c30b044dcd92a03f0bc6d3ee8272c5d912d8406d31422d2b", func := "ostiary/ostiarylaw07.TalkName", spec := "talkName", apart := false, narrowed := true }
def TalkNameUptoSaid : Prop := talkNameUptoRow.holds Try.pinned (OpenSpec.upto talkNameSpec)

end Rows
end Go.Proofs.Ytfgnfnmbfkjnjaa
