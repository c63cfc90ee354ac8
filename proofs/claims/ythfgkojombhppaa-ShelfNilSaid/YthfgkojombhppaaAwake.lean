/- Chapter 2's example: awake returns true and leaves what was there as it was. No condition. -/
import Derived.Test.YthfgkojombhppaaRkTop
import Derived.Test.YthfgkojombhppaaProg
set_option linter.unusedSimpArgs false
set_option linter.unusedVariables false
namespace Go.Proofs.Ythfgkojombhppaa
open Ost Reck

theorem names : namesOk Try.prog = true := by kernel_rfl
theorem ovs : [60, 62].all (isOverlaps Try.prog) = true := by kernel_rfl
theorem awake_run : trueT Try.prog [60, 62] 3000 13 [] emptySt = .ok true := by kernel_rfl
theorem awake_any (w : World) : Calls Try.prog 13 #[] w fun e w' => e = .returned (.bool true) ∧ Only (fun _ => False) w w' := true0 names ovs awake_run w
end Go.Proofs.Ythfgkojombhppaa
