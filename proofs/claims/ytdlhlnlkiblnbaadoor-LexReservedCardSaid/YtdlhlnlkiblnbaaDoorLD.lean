/- Layer 12: LexReserved's walk. No condition. -/
import Derived.Test.YtdlhlnlkiblnbaaDoorLR
import Derived.Test.YtdlhlnlkiblnbaaDoorRkG
set_option linter.unusedVariables false
set_option linter.unusedSimpArgs false
namespace Go.Proofs.YtdlhlnlkiblnbaaDoor
open Go Reck Ost
theorem lexReserved_run (l : List Int) : goT Tryd.prog [] (orcOf inv0 tAwakeR) (opMem Tryd.prog) 3000 (.inr (.inr (.inr (.inr 6)))) [cell (strC l)] resSt isTrue := by
  rw [lexReserved_vc]
  repeat' (first | exact rfl | exact trivial | intro h | with_reducible apply And.intro)
  all_goals (exfalso; first | (apply_assumption; exact (by assumption)) | (simp_all; done))
theorem str_av (s : ByteArray) (e : Env) : Reck.av e (cell (strC (s.data.toList.map fun b => (b.toNat : Int)))) = some (.string s) := by
  have h := strC_av (byteZ_lit s) e
  rw [strZ_lit] at h; exact h
theorem ok_res (w : World) (h : GlobIs w 0 U.resWords) : Ok w (arE [.inr (0, 0)]) resSt w :=
  ok_arrs w (l := [globB 0 U.resWords]) rfl (by simp [globB]) (by
    intro i x q h1 h2
    match i with
    | 0 =>
      simp only [List.getElem?_cons_zero, Option.some.injEq] at h1 h2
      subst h1; subst h2
      exact globB_ok h _ rfl
    | i + 1 => simp at h1)
theorem lexReserved_walk (s : ByteArray) (w : World) (hs : s.size ≤ maxLen) (hg : GlobIs w 0 U.resWords) : Calls Tryd.prog 6 #[.string s] w fun en w' => en = .returned (.bool true) ∧ Only (fun _ => False) w w' :=
  call_true noOv names (conOk_of tAwakeR_ok) (lexReserved_run (s.data.toList.map fun b => (b.toNat : Int))) (ok_res w hg) (vs := [.string s]) (by simp only [List.map_cons, List.map_nil, str_av])
end Go.Proofs.YtdlhlnlkiblnbaaDoor
