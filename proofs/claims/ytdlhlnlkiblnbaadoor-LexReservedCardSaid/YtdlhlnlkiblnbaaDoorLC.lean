/- Layer 12: the chapter's example, told once. No condition. -/
import Derived.Test.YtdlhlnlkiblnbaaDoorLB
set_option linter.unusedVariables false
set_option maxRecDepth 100000
namespace Go.Proofs.YtdlhlnlkiblnbaaDoor
open Go Reck Ost
def tAwakeR : Tbl := fun f args σ => if f == 10 then match args, σ with
    | [], ⟨[], [], 0, [some ⟨0, .o (.glob 0 vs), [], 0, true⟩], 0⟩ => some fun K => vs = U.resWords ∧ K (lit (.bool true)) ⟨[], [], 0, [some ⟨0, .o (.glob 0 vs), [], 0, true⟩], 0⟩
    | _, _ => none
  else none
theorem tAwakeR_ok : TblOk Tryd.prog tAwakeR := by
  intro f tm σ C h K hK
  unfold tAwakeR at h
  split at h
  · rename_i hf
    obtain rfl : f = 10 := by simpa using hf
    split at h
    · simp only [Option.some.injEq] at h; subst h
      obtain ⟨rfl, hK⟩ := hK
      refine knownD (R := orcOf inv0 tClone) (n := 6000) noOv names (opCl_ok _) (conOk_of tClone_ok) (K := K) ?_
      show goT Tryd.prog [] (orcOf inv0 tClone) (opCl Tryd.prog) 6000 (.inr (.inr (.inr (.inr 10)))) [] resSt (retC resSt K)
      rw [awakeR_vc]
      exact hK
    · cases h
  · cases h
end Go.Proofs.YtdlhlnlkiblnbaaDoor
