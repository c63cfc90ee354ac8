/- Layer 26: the chapter's example. No condition. -/
import Derived.Test.YtcnechobbieapaaH0
import Derived.Test.YtcnechobbieapaaRkV
namespace Go.Proofs.Ytcnechobbieapaa
open Go Reck
set_option linter.unusedVariables false
set_option maxRecDepth 100000
theorem awake26_vc (K : AV → St → Prop) : (goT Try.prog [63, 65] (orcOf inv0 tbl0) (opCl Try.prog) 3000 (.inr (.inr (.inr (.inr 12)))) [] emptySt (retC emptySt K)) = (K (Sum.inl (Sum.inl (Sum.inl (Value.bool true)))) { heap := [], ints := [], opqs := (0 : Nat), arrs := [], junks := (0 : Nat) }) := by kernel_rfl
end Go.Proofs.Ytcnechobbieapaa
