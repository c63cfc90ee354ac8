/- A reckoner of calls: variables of the program's own, as a card's condition lays them. No condition. -/
import Derived.Test.YtcjcdimlcfegbaaGreatDoorRkO
import Derived.LaidLaws
import Derived.Lib.LaidTab
import Derived.OpenShut
set_option linter.unusedVariables false
set_option linter.unusedSimpArgs false
namespace Reck
open Go Ost

/-- A variable of the program's own holds just these. -/
def GlobIs (w : World) (g : Nat) (vs : List Value) : Prop := ∃ cur el fz, w.heap[g]? = some (.cells cur el fz) ∧ cur.toList = vs ∧ ∀ v ∈ vs, v.oneCell' = true
/-- Such a variable as a block of the state. -/
def globB (g : Nat) (vs : List Value) : ABlk := ⟨0, .o (.glob g vs), [], 0, true⟩
theorem globB_ok {w : World} {g : Nat} {vs : List Value} (h : GlobIs w g vs) (e : Env) (hS : e.S = fun _ => False) : AOk w w e (globB g vs) (.inr (g, 0)) := by
  obtain ⟨cur, el, fz, h1, h2, h3⟩ := h
  exact ⟨⟨_, h1, rfl, rfl, cur, el, fz, rfl, h2, h3⟩, .inl ⟨rfl, (Array.getElem?_eq_some_iff.1 h1).1, by rw [hS]; exact id⟩⟩

theorem laidVars_mem {P : Program} {w : World} {n : String} {d : DataW Unit} : ∀ {laid : List (String × DataW Unit)} {ps : List MemPlace}, DataW.LaidVars P w laid ps → (n, d) ∈ laid →
    ∃ g t cs fuel p, P.globalNamed n = some g ∧ (P.globals[g]?).map (·.type) = some t ∧ w.var? P n = some cs ∧ DataW.trod (fun _ => ()) P w 0 (fun _ => true) false fuel t cs.toList = some (d, p)
  | [], _, _, h => by simp at h
  | (n', d') :: r, ps, ⟨g, t, cs, fuel, p, q, h1, h2, h3, h4, h5, h6⟩, h => by
    rcases List.mem_cons.1 h with h | h
    · simp only [Prod.mk.injEq] at h
      obtain ⟨rfl, rfl⟩ := h
      exact ⟨g, t, cs, fuel, p, h1, h2, h3, h4⟩
    · exact laidVars_mem h5 h
theorem var_cells {P : Program} {w : World} {n : String} {g : Nat} {cs : Array Value} (hg : P.globalNamed n = some g) (h : w.var? P n = some cs) : ∃ el fz, w.heap[g]? = some (.cells cs el fz) := by
  unfold World.var? at h
  rw [hg] at h
  simp only [Option.bind_some] at h
  split at h
  · rename_i c el fz hb
    simp only [Option.some.injEq] at h; subst h
    exact ⟨el, fz, hb⟩
  · cases h
theorem int_one (k : IntKind) (z : Int) : (Value.int k z).oneCell' = true := rfl
theorem laid_ints {P : Program} {w : World} {laid : List (String × DataW Unit)} {n : String} {g : Nat} {t e : TypeId} {N : Nat} {k : IntKind} {zs : List Int} (hL : laidMet P laid w) (hm : (n, Lib.tabData k zs) ∈ laid)
    (hg : P.globalNamed n = some g) (hty : (P.globals[g]?).map (·.type) = some t) (ht : P.underlying t = some (.array N e)) (he : P.underlying e = some (.int k)) (hce : P.cellsOf e = 1) (hct : P.cellsOf t = N) : GlobIs w g (zs.map fun z => Value.int k z) := by
  obtain ⟨ps, hv, _⟩ := hL
  obtain ⟨g', t', cs, fuel, p, h1, h2, h3, h4⟩ := laidVars_mem hv hm
  obtain rfl := Option.some.inj (hg.symm.trans h1)
  obtain rfl := Option.some.inj (hty.symm.trans h2)
  obtain ⟨el, fz, hb⟩ := var_cells hg h3
  refine ⟨cs, el, fz, hb, Lib.cells_of_tab ht he hce hct h4, ?_⟩
  intro v hv
  obtain ⟨z, _, rfl⟩ := List.mem_map.1 hv
  rfl
theorem laid_strs {P : Program} {w : World} {laid : List (String × DataW Unit)} {n : String} {g : Nat} {t e : TypeId} {N : Nat} {ss : List (List UInt8)} (hL : laidMet P laid w) (hm : (n, DataW.agg (ss.map fun s => .lit (.string s))) ∈ laid)
    (hg : P.globalNamed n = some g) (hty : (P.globals[g]?).map (·.type) = some t) (ht : P.underlying t = some (.array N e)) (he : P.underlying e = some .string) (hce : P.cellsOf e = 1) (hct : P.cellsOf t = N) : GlobIs w g (ss.map fun s => Value.string ⟨s.toArray⟩) := by
  obtain ⟨ps, hv, _⟩ := hL
  obtain ⟨g', t', cs, fuel, p, h1, h2, h3, h4⟩ := laidVars_mem hv hm
  obtain rfl := Option.some.inj (hg.symm.trans h1)
  obtain rfl := Option.some.inj (hty.symm.trans h2)
  obtain ⟨el, fz, hb⟩ := var_cells hg h3
  refine ⟨cs, el, fz, hb, ?_, ?_⟩
  · obtain ⟨xs, m, rfl, hx, hl, hn, hel⟩ := DataW.trod_array ht h4
    simp only [Prod.mk.injEq, DataW.agg.injEq] at hx
    have hss : ss.length = N := by
      have := congrArg List.length hx.1
      simp at this; omega
    rw [hct] at hl
    apply List.ext_getElem?
    intro i
    by_cases hi : i < N
    · have h5 := hel i hi
      rw [hce, Nat.mul_one] at h5
      rw [List.getElem?_eq_getElem (by omega)] at h5
      obtain ⟨s, h6, h7, _⟩ := DataW.trod_string he h5
      have h8 : cs.toList[i]? = some (.string s) := by
        have := congrArg (·[0]?) h6
        simpa [List.getElem?_take, List.getElem?_drop] using this
      have h9 : (xs.map (·.1))[i]? = some (.lit (.string s.data.toList)) := by rw [List.getElem?_map, List.getElem?_eq_getElem (by omega), h7]; rfl
      rw [← hx.1] at h9
      simp only [List.getElem?_map, Option.map_eq_some_iff, DataW.lit.injEq, Lit.string.injEq] at h9
      obtain ⟨s', h9, h10⟩ := h9
      rw [h8]
      simp [h9, h10]
    · rw [List.getElem?_eq_none (by omega), List.getElem?_eq_none (by simp; omega)]
  · intro v hv
    obtain ⟨z, _, rfl⟩ := List.mem_map.1 hv
    rfl
end Reck
