/- Layer 26: what LedgerNil comes to. No condition. -/
import Derived.Test.YtcnechobbieapaaLG1
namespace Go.Proofs.Ytcnechobbieapaa
open Go Reck Ost
set_option linter.unusedVariables false
set_option maxRecDepth 100000
--PLAIN
theorem ledgerNil_vc (z0 z1 z2 z3 z4 z5 z6 z7 z8 z9 z10 z11 z12 : Int) (l13 l14 l15 l16 : List Int) (z17 z18 : Int) (A : List (List CV)) (n c : Nat) : (runB inv0 tLg 6 [.inl (.inr (flC z0 z1 z2 z3 z4 z5 z6 z7 z8 z9 z10 z11 z12 l13 l14 l15 l16 z17 z18 (rslC ⟨0, 3, 0, n, c⟩)))] ⟨[], [], 0, [some (hopB A)], 0⟩) = (∀ (z0 : Int), z0 = (↑n : Int) → ((10 : Int) < z0 → ((0 : Int) ≤ (0 : Int) ∧ (0 : Int) ≤ (10 : Nat) ∧ (10 : Nat) ≤ (↑c : Int)) ∧ ∀ (o1 n2 c3 : Nat), ((↑o1 : Int) = if (↑c : Int) = Option.getD none (0 : Int) then (0 : Int) else (0 : Int)) → (↑n2 : Int) = (10 : Nat) - (0 : Int) → (↑c3 : Int) = (↑c : Int) - (0 : Int) → ∀ (z4 : Int), z4 = (↑((0 : Nat)) : Int) → (z4 = (0 : Int) → ∀ (z5 : Int), z5 = (↑((0 : Nat)) : Int) → (z5 = (0 : Int) → True) ∧ (¬z5 = (0 : Int) → Err [(200 : Nat)])) ∧ (¬z4 = (0 : Int) → Err [(200 : Nat)])) ∧ (¬(10 : Int) < z0 → ∀ (z6 : Int), z6 = (↑((0 : Nat)) : Int) → (z6 = (0 : Int) → ∀ (z7 : Int), z7 = (↑((0 : Nat)) : Int) → (z7 = (0 : Int) → True) ∧ (¬z7 = (0 : Int) → Err [(200 : Nat)])) ∧ (¬z6 = (0 : Int) → Err [(200 : Nat)]))) := by kernel_rfl
end Go.Proofs.Ytcnechobbieapaa
