/- ShelfNil: for every two numbers the statement of what is not there returns true. No condition. -/
import Derived.Test.YthfgkojombhppaaAwake
set_option linter.unusedSimpArgs false
set_option linter.unusedVariables false
namespace Go.Proofs.Ythfgkojombhppaa
open Ost Reck

theorem nil_run : trueT Try.prog [60, 62] 3000 6 [cell (intC .i64 0), cell (intC .i64 1)] ⟨[], [(none, none), (none, none)], 0⟩ = .ok true := by kernel_rfl
theorem shelfNil_walk (i k : Int) (w : World) (_ : (Lit.int .i64 i).wf = true) (_ : (Lit.int .i64 k).wf = true) : Calls Try.prog 6 #[.int .i64 i, .int .i64 k] w fun e w' => e = .returned (.bool true) ∧ Only (fun _ => False) w w' := by
  have hk : Ok w ⟨[], [i, k], []⟩ ⟨[], [(none, none), (none, none)], 0⟩ w := by
    refine ⟨Only.refl _ w, rfl, rfl, rfl, ?_, by simp, by intro b x q h; simp at h, by intro b b' x x' q q' _ h; simp at h⟩
    intro j b n h1 h2
    rcases j with _ | _ | j <;> simp at h1
    all_goals (subst h1; exact ⟨by simp, by simp⟩)
  exact true_ok (ovs_of ovs) (names_of names) nil_run hk (vs := [.int .i64 i, .int .i64 k]) rfl
end Go.Proofs.Ythfgkojombhppaa
