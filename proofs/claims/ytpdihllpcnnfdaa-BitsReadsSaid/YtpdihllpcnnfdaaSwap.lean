/- A region that draws its order: the condition on the world may be made stronger on the way. No condition. -/
import Derived.Deep.RegionHeld3
namespace Go.Proofs.Ytpdihllpcnnfdaa
open Go

theorem wpAnyH_swap {P : Program} {md : Region.Mode} {ops : Array Oper} {Q : Exit → Act → World → Prop} {S S2 : World → Prop} (hi : ∀ w, S2 w → S w) :
    ∀ (fuel : Nat) (listed : Array Bool) (a : Act) (w : World), wpAnyH P md ops Q S2 fuel listed a w → wpAnyH P md ops Q S fuel listed a w
  | 0, _, _, _, h => h
  | fuel + 1, _, _, _, h => ⟨h.1, fun i hr => wpOp_mono (fun a' w' h' => ⟨hi _ h'.1, wpAnyH_swap hi fuel _ a' w' h'.2⟩) (h.2 i hr)⟩

/-- At the world at hand, where the stronger one holds. -/
theorem wpAnyH_more {P : Program} {md : Region.Mode} {ops : Array Oper} {Q : Exit → Act → World → Prop} {S : World → Prop} (S2 : World → Prop) (hi : ∀ w, S2 w → S w)
    {fuel : Nat} {listed : Array Bool} {a : Act} {w : World} (h2 : S2 w) (h : S2 w → wpAnyH P md ops Q S2 fuel listed a w) : wpAnyH P md ops Q S fuel listed a w :=
  wpAnyH_swap hi fuel listed a w (h h2)
end Go.Proofs.Ytpdihllpcnnfdaa
