/- A reckoner of calls: slices of structs of numbers, bools and texts as they come in. No condition. -/
import Derived.Test.YtcjcdimlcfegbaaGreatDoorRkK
import Derived.Deep.Slices
import Derived.Deep.Fields
set_option linter.unusedVariables false
set_option linter.unusedSimpArgs false
namespace Reck
open Go Ost

/-- What kind of cell a field of that type is. -/
def fldK (P : Program) (t : TypeId) : Option CK :=
  match P.underlying t with
  | some (.int k) => some (.n k)
  | some .string => some .s
  | some .bool => some .b
  | _ => none
def cvOf : Value → CV
  | .int _ z => .i z
  | .string s => .s (txt s)
  | .bool b => .b b
  | .slice A n c => .v (.slice A n c)
  | _ => .i 0
/-- The numbers are of their kinds. -/
def RowsW (ks : List CK) (L : List (List CV)) : Prop := ∀ row ∈ L, ∀ (f : Nat) k z, ks[f]? = some (.n k) → row[f]? = some (.i z) → (Lit.int k z).wf = true
/-- A slice of structs as it came in. -/
def CameR (ks : List CK) (w : World) (A : Option Addr) (len cap : Nat) (L : List (List CV)) : Prop :=
  L.length = len ∧ len ≤ cap ∧ cap ≤ maxLen ∧ RowsW ks L ∧
  (cap = 0 ∨ ∃ b o, A = some ⟨b, o, none⟩ ∧ (∃ v, w.cell? ⟨b, o, none⟩ = some v) ∧ RowsAt (fun j => w.cell? ⟨b, o + j, none⟩) ks L)
section
variable {H : Type} {enc : TypeId × Value → H} {P : Program} {w : World} {base : Nat} {held : Bool}
theorem one_field {t : TypeId} {k : CK} {n : Nat} {v : Value} {y : DataW H × List MemPlace} (hk : fldK P t = some k) (h : DataW.trod enc P w base (fun _ => true) held n t [v] = some y) :
    cvV k (cvOf v) = some v ∧ ∀ i z, k = .n i → cvOf v = .i z → (Lit.int i z).wf = true := by
  unfold fldK at hk
  split at hk
  · rename_i i hu
    simp only [Option.some.injEq] at hk; subst hk
    obtain ⟨z, e, _, hw⟩ := DataW.trod_int hu h
    obtain rfl : v = .int i z := (List.cons.inj e).1
    exact ⟨rfl, fun j z' h1 h2 => by cases h1; cases h2; exact hw⟩
  · rename_i hu
    simp only [Option.some.injEq] at hk; subst hk
    obtain ⟨s, e, _, hw⟩ := DataW.trod_string hu h
    obtain rfl : v = .string s := (List.cons.inj e).1
    exact ⟨by simp only [cvOf, cvV, txt, byteZ_lit, if_true, strZ_lit], fun j z' h1 _ => by cases h1⟩
  · rename_i hu
    simp only [Option.some.injEq] at hk; subst hk
    obtain ⟨b, e, _⟩ := DataW.trod_bool hu h
    obtain rfl : v = .bool b := (List.cons.inj e).1
    exact ⟨rfl, fun j z' h1 _ => by cases h1⟩
  · cases hk
theorem open_row {e : TypeId} {fs : Array Field} {ks : List CK} {n : Nat} {cs : List Value} {x : DataW H × List MemPlace} (he : P.underlying e = some (.struct fs)) (hone : Go.Deep.oneCellFields P fs = true) (hC : P.cellsOf e = fs.size) (hks : (fs.toList.map fun f => fldK P f.type) = ks.map some)
    (h : DataW.trod enc P w base (fun _ => true) held n e cs = some x) : cs.length = ks.length ∧ ∀ (f : Nat) k v, ks[f]? = some k → cs[f]? = some v → cvV k (cvOf v) = some v ∧ ∀ i z, k = .n i → cvOf v = .i z → (Lit.int i z).wf = true := by
  obtain ⟨ys, m, _, _, hl, hyl, hfld⟩ := DataW.trod_struct he h
  have hkl : ks.length = fs.size := by have := congrArg List.length hks; simpa using this.symm
  refine ⟨by rw [hl, hC, hkl], fun f k v hk hv => ?_⟩
  have hlt : f < fs.size := by have := (List.getElem?_eq_some_iff.1 hk).1; omega
  have hf : fs[f]? = some fs[f] := Array.getElem?_eq_getElem hlt
  obtain ⟨ho, hc1⟩ := Go.Deep.hone_of hone f _ hf
  have e1 := hfld f _ hf
  have hcl : cs.length = fs.size := hl.trans hC
  rw [ho, hc1, Go.Deep.take1_drop _ f undef (by omega)] at e1
  have hy : f < ys.length := by omega
  have hv' : cs.getD f undef = v := by rw [List.getD_eq_getElem?_getD, hv]; rfl
  rw [hv', List.getElem?_eq_getElem hy] at e1
  have hkk : fldK P fs[f].type = some k := by
    have h1 := congrArg (fun l => l[f]?) hks
    simp only [List.getElem?_map, hk, Option.map_some, Array.getElem?_toList, hf] at h1
    exact Option.some.inj h1
  exact one_field hkk e1
theorem open_rows {t e : TypeId} {fs : Array Field} {ks : List CK} {fuel : Nat} {A : Option Addr} {len cap : Nat} {x : DataW H × List MemPlace} (ht : P.underlying t = some (.slice e)) (he : P.underlying e = some (.struct fs)) (hone : Go.Deep.oneCellFields P fs = true) (hC : P.cellsOf e = fs.size) (hks : (fs.toList.map fun f => fldK P f.type) = ks.map some) (h0 : 0 < ks.length)
    (h : DataW.trod enc P w base (fun _ => true) held fuel t [.slice A len cap] = some x) : ∃ L, CameR ks w A len cap L := by
  have hkl : ks.length = fs.size := by have := congrArg List.length hks; simpa using this.symm
  rcases Go.Deep.open_slice ht h with ⟨hcs, _⟩ | ⟨a, len', cap', m, n, D, Pl, hcs, hb, hl, hm, hmm, _, hx⟩
  · simp at hcs
    obtain ⟨rfl, rfl, rfl⟩ := hcs
    exact ⟨[], rfl, Nat.le_refl _, Nat.zero_le _, by intro row hr; simp at hr, .inl rfl⟩
  · simp at hcs
    obtain ⟨hA, q2, q3⟩ := hcs
    rw [if_pos rfl] at hmm
    rw [← q2, ← q3] at hl
    rw [← q3] at hm
    rw [hmm, ← q3] at hx
    subst hA
    obtain ⟨rw', hrw⟩ := Go.Deep.choose_lt (α := List Value) (n := cap) (p := fun i cs => w.cells? base (a.add (i * P.cellsOf e)) (P.cellsOf e) = some cs ∧ ∃ y, DataW.trod enc P w base (fun _ => true) held n e cs = some y) (fun i hi => by
      obtain ⟨cs, h1, h2⟩ := hx i hi
      exact ⟨cs, h1, _, h2⟩)
    have hcell : ∀ i, i < cap → ∀ f, f < ks.length → w.cell? (a.add (i * ks.length + f)) = (rw' i)[f]? := fun i hi f hf => by
      have := (World.cells?_some (hrw i hi).1).2.2 f (by rw [hC]; omega)
      rw [Go.Deep.add_add, hC, ← hkl] at this
      exact this
    refine ⟨(List.range len).map fun i => (rw' i).map cvOf, by simp, hl, hm, ?_, ?_⟩
    · intro row hr f k z hk hz
      obtain ⟨i, hi, rfl⟩ := List.mem_map.1 hr
      have hi : i < len := List.mem_range.1 hi
      obtain ⟨_, y, hy⟩ := hrw i (by omega)
      rw [List.getElem?_map] at hz
      cases hc : (rw' i)[f]? with
      | none => rw [hc] at hz; cases hz
      | some v =>
        rw [hc] at hz
        simp only [Option.map_some, Option.some.injEq] at hz
        exact ((open_row he hone hC hks hy).2 f _ v hk hc).2 k z rfl hz
    · by_cases hc0 : cap = 0
      · exact .inl hc0
      · right
        have h1 := hcell 0 (by omega) 0 h0
        have hl0 : 0 < (rw' 0).length := by
          obtain ⟨_, y, hy⟩ := hrw 0 (by omega)
          rw [(open_row he hone hC hks hy).1]; exact h0
        rw [List.getElem?_eq_getElem hl0] at h1
        have hadd : a.add (0 * ks.length + 0) = a := by unfold Addr.add; simp
        rw [hadd] at h1
        obtain ⟨b, o, s⟩ := a
        have hs : s = none := by
          unfold World.cell? at h1
          split at h1
          · split at h1
            · cases h1
            · rename_i hh; simpa using hh
          · cases h1
        subst hs
        refine ⟨b, o, rfl, ⟨_, h1⟩, ?_⟩
        intro i row hr
        rw [List.getElem?_map] at hr
        have hi : i < len := by
          rcases Nat.lt_or_ge i len with h | h
          · exact h
          · rw [List.getElem?_eq_none (by simpa using h)] at hr; cases hr
        rw [List.getElem?_range hi] at hr
        simp only [Option.map_some, Option.some.injEq] at hr; subst hr
        obtain ⟨_, y, hy⟩ := hrw i (by omega)
        have ho := open_row he hone hC hks hy
        refine ⟨by rw [List.length_map]; exact ho.1, fun f k v hk hv => ?_⟩
        rw [List.getElem?_map] at hv
        cases hc : (rw' i)[f]? with
        | none => rw [hc] at hv; cases hv
        | some u =>
          rw [hc] at hv
          simp only [Option.map_some, Option.some.injEq] at hv; subst hv
          refine ⟨u, (ho.2 f k u hk hc).1, ?_⟩
          have := hcell i (by omega) f (List.getElem?_eq_some_iff.1 hk).1
          rw [Addr.add_lit] at this
          exact this.trans hc
end
/-- Where it lies. -/
theorem CameR.base {ks : List CK} {w : World} {A : Option Addr} {len cap : Nat} {L : List (List CV)} (h : CameR ks w A len cap L) (h0 : 0 < ks.length) (el : TypeId) : ∃ q : Option Addr ⊕ (Nat × Nat),
    (∀ (e : Env) (a : Nat), e.arr[a]? = some q → av e (cell (rslC ⟨a, ks.length, 0, len, cap⟩)) = some (.slice A len cap)) ∧ ∀ e : Env, e.S = (fun _ => False) → AOk w w e ⟨el, .o (.rows ks L), [], 0, true⟩ q := by
  obtain ⟨h1, h2, h3, h4, h5⟩ := h
  rcases h5 with h5 | ⟨b, o, rfl, ⟨v, hv⟩, h6⟩
  · subst h5
    have h0 : len = 0 := by omega
    subst h0
    have : L = [] := List.eq_nil_of_length_eq_zero h1
    subst this
    exact ⟨.inl A, fun e a ha => rsl_nil (s := ⟨a, ks.length, 0, 0, 0⟩) ha rfl rfl, fun e _ => ⟨rfl, .inr (.inl ⟨ks, rfl⟩)⟩⟩
  · refine ⟨.inr (b, o), fun e a ha => ?_, fun e hS => ?_⟩
    · have := rsl_av (s := ⟨a, ks.length, 0, len, cap⟩) (q := (b, o)) ha h2
      simpa using this
    · have hlt := World.block_lt_of_cell? w _ hv
      unfold World.cell? at hv
      split at hv
      · rename_i cur el' fz hb
        refine ⟨⟨_, hb, h0, cur, el', fz, rfl, ?_, by simp⟩, .inl ⟨rfl, hlt, by rw [hS]; exact id⟩⟩
        intro m row hr
        obtain ⟨g1, g2⟩ := h6 m row hr
        refine ⟨g1, fun f k v hk hv => ?_⟩
        obtain ⟨y, g3, g4⟩ := g2 f k v hk hv
        refine ⟨y, g3, ?_⟩
        simp only [World.cell?] at g4
        dsimp only at hb
        rw [hb] at g4
        simpa using g4
      · cases hv
end Reck
