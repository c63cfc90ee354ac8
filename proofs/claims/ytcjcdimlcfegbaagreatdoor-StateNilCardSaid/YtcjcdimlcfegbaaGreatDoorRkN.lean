/- A reckoner of calls: a nil slice of numbers told as an array of none. No condition. -/
import Derived.Test.YtcjcdimlcfegbaaGreatDoorRkF
set_option linter.unusedVariables false
set_option linter.unusedSimpArgs false
namespace Reck
open Go Ost

def nilC : Cell := .inl (.slice none 0 0)
section
variable {P : Program} {w0 w w' : World} {e : Env} {σ : St}

theorem nil_val (hk : Ok w0 e σ w) (el : TypeId) (k : IntKind) : ∃ e', e.le e' ∧ Ok w0 e' (addArr σ ⟨el, k, [], 0, false⟩) w ∧ av e' (cell (aslC ⟨σ.arrs.length, 0, 0, 0⟩)) = some (.slice none 0 0) := by
  refine ⟨_, le_arr e (.inl none), hk.arrAdd (x := ⟨el, k, [], 0, false⟩) (q := .inl none) ⟨rfl, .inl ⟨k, rfl⟩⟩ rfl (by intro p hp; cases hp) (frNil (fun F hF => by rcases hF with h | h <;> cases h)), ?_⟩
  exact asl_nil (s := ⟨σ.arrs.length, 0, 0, 0⟩) (by simp [hk.arrs.len]) rfl rfl

theorem nil_cell (hk : Ok w0 e σ w) {b i : Nat} {x : Blk} (hb : σ.heap[b]? = some (some x)) (hi : x.cells[i]? = some nilC) (el : TypeId) (k : IntKind) : ∃ e', e.le e' ∧
    Ok w0 e' (addArr (putBlk σ b (some ⟨x.elem, x.cells.set i (aslC ⟨σ.arrs.length, 0, 0, 0⟩), x.j, x.c, x.z⟩)) ⟨el, k, [], 0, false⟩) w := by
  obtain ⟨e', h1, h2, h3⟩ := nil_val hk el k
  refine ⟨e', h1, ?_⟩
  have hlt : b < e'.blk.length := by rw [h2.blks]; exact (List.getElem?_eq_some_iff.1 hb).1
  have hq : e'.blk[b]? = some e'.blk[b] := List.getElem?_eq_getElem hlt
  have hb' : (addArr σ ⟨el, k, [], 0, false⟩).heap[b]? = some (some x) := hb
  have hx := h2.blk b x _ hb' hq
  refine h2.put hb' hq ((Only.refl (fun _ => False) w).mono (fun _ _ h => h.elim)) ?_
  obtain ⟨g1, cur, fz, g2, g3, g4, g5, g6, g7⟩ := hx
  refine ⟨g1, cur, fz, g2, ?_, g4, g5, g6, g7⟩
  intro j c hc
  rcases set_get hc with ⟨rfl, rfl⟩ | ⟨hne, hj⟩
  · obtain ⟨v, k1, k2⟩ := g3 i nilC hi
    simp only [nilC, cv, Option.some.injEq] at k1; subst k1
    exact ⟨_, h3, k2⟩
  · exact g3 j c hj

/-- A result that is nil is told as an array. -/
theorem calls_nil {f : FuncId} {vs : Array Value} {K K' : AV → St → Prop} (el : TypeId) (k : IntKind)
    (h : Calls P f vs w fun en w' => ∃ x σ' e' v, en = .returned v ∧ e.le e' ∧ Reck.av e' x = some v ∧ Ok w0 e' σ' w' ∧ K' x σ')
    (hK : ∀ x σ', K' x σ' → K x σ' ∨ (x = cell nilC ∧ K (cell (aslC ⟨σ'.arrs.length, 0, 0, 0⟩)) (addArr σ' ⟨el, k, [], 0, false⟩)) ∨
      ∃ b i y, σ'.heap[b]? = some (some y) ∧ y.cells[i]? = some nilC ∧ K x (addArr (putBlk σ' b (some ⟨y.elem, y.cells.set i (aslC ⟨σ'.arrs.length, 0, 0, 0⟩), y.j, y.c, y.z⟩)) ⟨el, k, [], 0, false⟩)) :
    Calls P f vs w fun en w' => ∃ x σ' e' v, en = .returned v ∧ e.le e' ∧ Reck.av e' x = some v ∧ Ok w0 e' σ' w' ∧ K x σ' := by
  refine h.mono ?_
  rintro en w' ⟨x, σ', e', v, h1, h2, h3, h4, h5⟩
  rcases hK x σ' h5 with h6 | ⟨rfl, h6⟩ | ⟨b, i, y, hb, hi, h6⟩
  · exact ⟨x, σ', e', v, h1, h2, h3, h4, h6⟩
  · obtain ⟨e2, k1, k2, k3⟩ := nil_val h4 el k
    simp only [cell, nilC, av, v1, cv, Option.some.injEq] at h3
    subst h3
    exact ⟨_, _, e2, _, h1, h2.trans k1, k3, k2, h6⟩
  · obtain ⟨e2, k1, k2⟩ := nil_cell h4 hb hi el k
    exact ⟨x, _, e2, v, h1, h2.trans k1, av_mono k1 _ _ h3, k2, h6⟩
end
end Reck
