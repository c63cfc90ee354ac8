/- A reckoner of calls: closed runs, in which literals of bytes are told cell by cell. No condition. -/
import Derived.Test.YtcjcdimlcfegbaaGreatDoorRkF
set_option linter.unusedVariables false
set_option linter.unusedSimpArgs false
namespace Reck
open Go Ost
def opCl (P : Program) : OpM := fun tm o σ =>
  match o.op with
  | .convert s d x => markX P s d (evalA tm x) σ
  | .buildSlice t n ps => match opBuildSlice0 P t n (evp tm ps.toList) σ with
    | .ok [(x, σ')] => some fun K => K x σ'
    | _ => none
  | _ => none
theorem opCl_ok (P : Program) : OpMOk P (opCl P) := by
  intro tm o σ T h K hK w0 e w a hk ht
  unfold opCl at h
  split at h
  · rename_i s d x ho
    obtain ⟨y, σ', w', h1, h2, h3, h4⟩ := markX_ok hk h hK (evalA_ok ht x)
    exact ⟨y, σ', e, _, w', h1, Env.le.refl e, h2, h3, .inl (by simp [execOp, ho, h4])⟩
  · rename_i t n ps ho
    split at h
    · rename_i x σ' hr
      simp only [Option.some.injEq] at h; subst h
      obtain ⟨r, hmem, e1, u, w1, h1, h2, h3, h4⟩ := opBuildSlice0_ok hk hr (evp_ok ht ps)
      simp only [List.mem_singleton] at hmem
      subst hmem
      exact ⟨_, _, e1, u, w1, hK, h1, h2, h3, .inl (by simp [execOp, ho, h4])⟩
    · cases h
  · cases h
/-- Both: literals cell by cell, all else as ever. -/
def opCM (P : Program) : OpM := fun tm o σ => match opCl P tm o σ with
  | some T => some T
  | none => opMem P tm o σ
theorem opCM_ok (P : Program) : OpMOk P (opCM P) := by
  intro tm o σ T h
  unfold opCM at h
  split at h
  · rename_i T' hT
    simp only [Option.some.injEq] at h; subst h
    exact opCl_ok P tm o σ _ hT
  · exact opMem_ok P tm o σ T h
section
/-- A call that was reckoned by whatever operations is known, and what nobody can reach is let go. -/
theorem knownD {P : Program} {ov : List FuncId} {R : Orc} {opM : OpM} (hov : ov.all (isOverlaps P) = true) (hN : namesOk P = true) (hM : OpMOk P opM) (hC : ConOk P R) {n f : Nat} {tm : List AV} {σ : St} {K : AV → St → Prop} (h : goT P ov R opM n (.inr (.inr (.inr (.inr f)))) tm σ (retC σ K))
    (w0 : World) (e : Env) (w : World) (hk : Ok w0 e σ w) (vs : List Value) (hvs : tm.map (Reck.av e) = vs.map some) :
    Calls P f vs.toArray w fun en w' => ∃ x σ' e' v, en = .returned v ∧ e.le e' ∧ Reck.av e' x = some v ∧ Ok w0 e' σ' w' ∧ K x σ' := by
  refine (goT_ok (ovs_of hov) (names_of hN) hM hC n _ _ _ _ h w0 e w hk vs hvs).mono ?_
  rintro en w' ⟨x, σ', e', v, h1, h2, h3, h4, h5⟩
  simp only [retC] at h5
  split at h5
  · rename_i hr
    have hr := renOk_ok (e := e') hr
    split at h5
    · rename_i v' hv'
      refine ⟨_, _, renE (cleanRen σ x σ') e' ⟨#[], []⟩, v, h1, renE_le h2 hk.blks.symm hk.ints.symm hk.opqs.symm hk.arrs.len.symm hk.junks.symm, ?_, renSt_ok0 h4 hr, h5⟩
      rw [openV_av]; exact renV_av h4 hr x v' v hv' h3
    · exact h5.bad.elim
  · exact h5.bad.elim
end
end Reck
