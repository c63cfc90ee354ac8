/- Layer 12: the chapter's example where the table of reserved words lies. No condition. -/
import Derived.Test.YtdlhlnlkiblnbaaDoorSC
import Derived.Test.YtdlhlnlkiblnbaaDoorRkV
namespace Go.Proofs.YtdlhlnlkiblnbaaDoor
open Go Reck
set_option linter.unusedVariables false
set_option maxRecDepth 100000
def U.resBytes : List (List UInt8) := [[103, 114, 111, 117, 112], [97, 108, 108, 111, 119], [100, 101, 110, 121], [111, 117, 116, 98, 111, 117, 110, 100], [118, 105, 97], [97, 110, 121], [116, 99, 112], [117, 100, 112], [105, 112], [112, 111, 114, 116]]
def U.resWords : List Value := U.resBytes.map fun s => Value.string ⟨s.toArray⟩
def U.resA : Option ABlk := some ⟨0, .o (.glob 0 U.resWords), [], 0, true⟩
def resSt : St := ⟨[], [], 0, [U.resA], 0⟩
theorem awakeR_vc (K : AV → St → Prop) : (goT Tryd.prog [] (orcOf inv0 tClone) (opCl Tryd.prog) 6000 (.inr (.inr (.inr (.inr 10)))) [] resSt (retC resSt K)) = (K (Sum.inl (Sum.inl (Sum.inl (Value.bool true)))) { heap := [], ints := [], opqs := (0 : Nat), arrs := [some { elem := OfNat.ofNat (0 : Nat), k := AK.o (Obj.glob (0 : Nat) U.resWords), l := [], cap := (0 : Nat), ro := true }], junks := (0 : Nat) }) := by kernel_rfl
end Go.Proofs.YtdlhlnlkiblnbaaDoor
