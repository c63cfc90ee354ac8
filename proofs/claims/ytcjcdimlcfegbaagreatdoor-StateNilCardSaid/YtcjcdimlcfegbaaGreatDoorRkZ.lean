/- A reckoner of calls: slices of structs that have structs in them, as they come in. No condition. -/
import Derived.Test.YtcjcdimlcfegbaaGreatDoorRkT
set_option linter.unusedVariables false
set_option linter.unusedSimpArgs false
namespace Reck
open Go Ost

/-- The kinds of fields that stand one behind the other. -/
def kFields (P : Program) (K : TypeId → Option (List CK)) : List Field → Nat → Option (List CK)
  | [], _ => some []
  | f :: l, o => match K f.type with
    | some a => if Nat.beq f.offset o && Nat.beq (P.cellsOf f.type) a.length then (match kFields P K l (o + a.length) with
        | some b => some (a ++ b)
        | none => none) else none
    | none => none
/-- The kinds of a type's cells, structs laid flat. -/
def kOf (P : Program) : Nat → TypeId → Option (List CK)
  | 0, _ => none
  | d + 1, t => match fldK P t with
    | some k => some [k]
    | none => match P.underlying t with
      | some (.struct fs) => match kFields P (kOf P d) fs.toList 0 with
        | some ks => if Nat.beq (P.cellsOf t) ks.length then some ks else none
        | none => none
      | _ => none
def RowOk (ks : List CK) (cs : List Value) : Prop := cs.length = ks.length ∧ ∀ (f : Nat) k v, ks[f]? = some k → cs[f]? = some v → cvV k (cvOf v) = some v ∧ ∀ i z, k = .n i → cvOf v = .i z → (Lit.int i z).wf = true
theorem RowOk.app {a b : List CK} {x y : List Value} (h : RowOk a x) (h' : RowOk b y) : RowOk (a ++ b) (x ++ y) := by
  refine ⟨by rw [List.length_append, List.length_append, h.1, h'.1], fun f k v hk hv => ?_⟩
  by_cases hf : f < a.length
  · rw [List.getElem?_append_left hf] at hk
    rw [List.getElem?_append_left (by rw [h.1]; exact hf)] at hv
    exact h.2 f k v hk hv
  · rw [List.getElem?_append_right (by omega)] at hk
    rw [List.getElem?_append_right (by rw [h.1]; omega), h.1] at hv
    exact h'.2 _ k v hk hv
section
variable {H : Type} {enc : TypeId × Value → H} {P : Program} {w : World} {base : Nat} {held : Bool}
theorem kFields_ok {K : TypeId → Option (List CK)} {cs : List Value} : ∀ (l : List Field) (o : Nat) (ks : List CK), kFields P K l o = some ks → o + ks.length ≤ cs.length → (∀ f ∈ l, ∀ a, K f.type = some a → P.cellsOf f.type = a.length → RowOk a ((cs.drop f.offset).take a.length)) → RowOk ks ((cs.drop o).take ks.length)
  | [], o, ks, h, _, _ => by
    simp only [kFields, Option.some.injEq] at h; subst h
    exact ⟨by simp, fun f k v hk => by simp at hk⟩
  | f :: l, o, ks, h, hl, hf => by
    unfold kFields at h
    split at h
    · rename_i a ha
      split at h
      · rename_i hc
        simp only [Bool.and_eq_true, Nat.beq_eq] at hc
        split at h
        · rename_i b hb
          simp only [Option.some.injEq] at h; subst h
          rw [List.length_append] at hl
          have h1 := hf f (List.mem_cons_self ..) a ha hc.2
          have h2 := kFields_ok l (o + a.length) b hb (by omega) (fun g hg => hf g (List.mem_cons_of_mem _ hg))
          rw [hc.1] at h1
          have := h1.app h2
          rw [List.length_append]
          have e : (cs.drop o).take (a.length + b.length) = (cs.drop o).take a.length ++ (cs.drop (o + a.length)).take b.length := by
            rw [List.take_add, List.drop_drop]
          rw [e]; exact this
        · cases h
      · cases h
    · cases h
theorem kOf_ok : ∀ (d : Nat) {t : TypeId} {ks : List CK} {n : Nat} {cs : List Value} {x : DataW H × List MemPlace}, kOf P d t = some ks → DataW.trod enc P w base (fun _ => true) held n t cs = some x → RowOk ks cs
  | 0, _, _, _, _, _, h, _ => by cases h
  | d + 1, t, ks, n, cs, x, h, hx => by
    unfold kOf at h
    split at h
    · rename_i k hk
      simp only [Option.some.injEq] at h; subst h
      have hone : ∃ v, cs = [v] := by
        unfold fldK at hk
        split at hk
        · rename_i i hu; obtain ⟨z, e, _⟩ := DataW.trod_int hu hx; exact ⟨_, e⟩
        · rename_i hu; obtain ⟨z, e, _⟩ := DataW.trod_string hu hx; exact ⟨_, e⟩
        · rename_i hu; obtain ⟨z, e, _⟩ := DataW.trod_bool hu hx; exact ⟨_, e⟩
        · cases hk
      obtain ⟨v, rfl⟩ := hone
      refine ⟨rfl, fun f k' v' hk' hv' => ?_⟩
      cases f with
      | zero =>
        simp at hk' hv'; subst hk'; subst hv'
        exact one_field hk hx
      | succ f => simp at hk'
    · split at h
      · rename_i fs hu
        split at h
        · rename_i ks' hks
          split at h
          · rename_i hc
            simp only [Option.some.injEq] at h; subst h
            simp only [Nat.beq_eq] at hc
            obtain ⟨ys, m, _, _, hl, hyl, hfld⟩ := DataW.trod_struct hu hx
            have := kFields_ok (P := P) (cs := cs) fs.toList 0 ks' hks (by omega) (fun f hf a ha hca => by
              obtain ⟨i, hi⟩ := List.getElem?_of_mem hf
              rw [Array.getElem?_toList] at hi
              have e := hfld i f hi
              rw [hca] at e
              have hy : i < ys.length := by rw [hyl]; exact (Array.getElem?_eq_some_iff.1 hi).1
              rw [List.getElem?_eq_getElem hy] at e
              exact kOf_ok d ha e)
            rw [List.drop_zero, List.take_of_length_le (by omega)] at this
            exact this
          · cases h
        · cases h
      · cases h
theorem open_rowsN {t e : TypeId} {ks : List CK} {fuel D : Nat} {A : Option Addr} {len cap : Nat} {x : DataW H × List MemPlace} (ht : P.underlying t = some (.slice e)) (hk : kOf P D e = some ks) (hC : P.cellsOf e = ks.length) (h0 : 0 < ks.length)
    (h : DataW.trod enc P w base (fun _ => true) held fuel t [.slice A len cap] = some x) : ∃ L, CameR ks w A len cap L := by
  rcases Go.Deep.open_slice ht h with ⟨hcs, _⟩ | ⟨a, len', cap', m, n, D', Pl, hcs, hb, hl, hm, hmm, _, hx⟩
  · simp at hcs
    obtain ⟨rfl, rfl, rfl⟩ := hcs
    exact ⟨[], rfl, Nat.le_refl _, Nat.zero_le _, by intro row hr; simp at hr, .inl rfl⟩
  · simp at hcs
    obtain ⟨hA, q2, q3⟩ := hcs
    rw [if_pos rfl] at hmm
    rw [← q2, ← q3] at hl
    rw [← q3] at hm
    rw [hmm, ← q3] at hx
    subst hA
    obtain ⟨rw', hrw⟩ := Go.Deep.choose_lt (α := List Value) (n := cap) (p := fun i cs => w.cells? base (a.add (i * P.cellsOf e)) (P.cellsOf e) = some cs ∧ ∃ y, DataW.trod enc P w base (fun _ => true) held n e cs = some y) (fun i hi => by
      obtain ⟨cs, h1, h2⟩ := hx i hi
      exact ⟨cs, h1, _, h2⟩)
    have hcell : ∀ i, i < cap → ∀ f, f < ks.length → w.cell? (a.add (i * ks.length + f)) = (rw' i)[f]? := fun i hi f hf => by
      have := (World.cells?_some (hrw i hi).1).2.2 f (by rw [hC]; omega)
      rw [Go.Deep.add_add, hC] at this
      exact this
    refine ⟨(List.range len).map fun i => (rw' i).map cvOf, by simp, hl, hm, ?_, ?_⟩
    · intro row hr f k z hk' hz
      obtain ⟨i, hi, rfl⟩ := List.mem_map.1 hr
      have hi : i < len := List.mem_range.1 hi
      obtain ⟨_, y, hy⟩ := hrw i (by omega)
      rw [List.getElem?_map] at hz
      cases hc : (rw' i)[f]? with
      | none => rw [hc] at hz; cases hz
      | some v =>
        rw [hc] at hz
        simp only [Option.map_some, Option.some.injEq] at hz
        exact ((kOf_ok D hk hy).2 f _ v hk' hc).2 k z rfl hz
    · by_cases hc0 : cap = 0
      · exact .inl hc0
      · right
        have h1 := hcell 0 (by omega) 0 h0
        have hl0 : 0 < (rw' 0).length := by
          obtain ⟨_, y, hy⟩ := hrw 0 (by omega)
          rw [(kOf_ok D hk hy).1]; exact h0
        rw [List.getElem?_eq_getElem hl0] at h1
        have hadd : a.add (0 * ks.length + 0) = a := by unfold Addr.add; simp
        rw [hadd] at h1
        obtain ⟨b, o, s⟩ := a
        have hs : s = none := by
          unfold World.cell? at h1
          split at h1
          · split at h1
            · cases h1
            · rename_i hh; simpa using hh
          · cases h1
        subst hs
        refine ⟨b, o, rfl, ⟨_, h1⟩, ?_⟩
        intro i row hr
        rw [List.getElem?_map] at hr
        have hi : i < len := by
          rcases Nat.lt_or_ge i len with h | h
          · exact h
          · rw [List.getElem?_eq_none (by simpa using h)] at hr; cases hr
        rw [List.getElem?_range hi] at hr
        simp only [Option.map_some, Option.some.injEq] at hr; subst hr
        obtain ⟨_, y, hy⟩ := hrw i (by omega)
        have ho := kOf_ok D hk hy
        refine ⟨by rw [List.length_map]; exact ho.1, fun f k v hk' hv => ?_⟩
        rw [List.getElem?_map] at hv
        cases hc : (rw' i)[f]? with
        | none => rw [hc] at hv; cases hv
        | some u =>
          rw [hc] at hv
          simp only [Option.map_some, Option.some.injEq] at hv; subst hv
          refine ⟨u, (ho.2 f k u hk' hc).1, ?_⟩
          have := hcell i (by omega) f (List.getElem?_eq_some_iff.1 hk').1
          rw [Addr.add_lit] at this
          exact this.trans hc
end
end Reck
