/- BitsReads' walk: whatever is read is as the chapter says: the law returns true and leaves old memory as it was. No condition. -/
import Derived.Test.YtpdihllpcnnfdaaReadsM
set_option linter.unusedSimpArgs false
set_option linter.unusedVariables false
namespace Go.Proofs.Ytpdihllpcnnfdaa
open Go.RowKit Ost

theorem bitsReads_walk (A : Option Addr) (len cap : Nat) (zs : List Int) (B : Option Addr) (len1 cap1 : Nat) (qs : List (Int × Int)) (w : World) (hc : Came .u8 w A len cap zs) (hz : Asks w B len1 cap1 qs) :
    Calls Try.prog 4 #[.slice A len cap, .slice B len1 cap1] w fun e w' => e = .returned (.bool true) ∧ Only (fun _ => False) w w' := by
  obtain ⟨bs, hl, hs, h256⟩ := came_u8 hc
  obtain ⟨_, hcap, hmax, hA, _, _⟩ := hc
  exact reads_any A len cap bs B len1 cap1 qs w hl hs h256 hcap hmax hA hz
end Go.Proofs.Ytpdihllpcnnfdaa
