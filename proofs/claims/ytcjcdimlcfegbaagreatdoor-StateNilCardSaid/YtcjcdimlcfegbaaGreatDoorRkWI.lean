/- A reckoner of calls: slices of structs that have slices in them, as they come in. No condition. -/
import Derived.Test.YtcjcdimlcfegbaaGreatDoorRkZ
import Derived.Test.YtcjcdimlcfegbaaGreatDoorRkW
set_option linter.unusedVariables false
set_option linter.unusedSimpArgs false
namespace Reck
open Go Ost

/-- The kinds of a type's cells, structs laid flat; a slice is one cell. -/
def kOfV (P : Program) : Nat → TypeId → Option (List CK)
  | 0, _ => none
  | d + 1, t => match fldK P t with
    | some k => some [k]
    | none => match P.underlying t with
      | some (.struct fs) => match kFields P (kOfV P d) fs.toList 0 with
        | some ks => if Nat.beq (P.cellsOf t) ks.length then some ks else none
        | none => none
      | some (.slice e) => match kOfV P d e with
        | some ks => if Nat.beq (P.cellsOf t) 1 && Nat.beq (P.cellsOf e) ks.length && Nat.blt 0 ks.length then some [.v] else none
        | none => none
      | _ => none
/-- Rows of values as they lie. -/
def rowsOfV (len : Nat) (raw : Nat → List Value) : List (List CV) := (List.range len).map fun i => (raw i).map cvOf
/-- What the slices in a value's cells hold. -/
def SlIn (P : Program) (w : World) : Nat → TypeId → List Value → Prop
  | 0, _, _ => True
  | d + 1, t, cs => match P.underlying t with
    | some (.struct fs) => ∀ (i : Nat) f, fs[i]? = some f → SlIn P w d f.type ((cs.drop f.offset).take (P.cellsOf f.type))
    | some (.slice e) => ∃ A len cap ks raw, cs = [.slice A len cap] ∧ kOfV P d e = some ks ∧ CameR ks w A len cap (rowsOfV len raw) ∧ ∀ i, i < len → SlIn P w d e (raw i)
    | _ => True
section
variable {H : Type} {enc : TypeId × Value → H} {P : Program} {w : World} {base : Nat} {held : Bool}
/-- What a slice holds, by what is known of its things. -/
theorem open_slV {t e : TypeId} {ks : List CK} {fuel : Nat} {A : Option Addr} {len cap : Nat} {x : DataW H × List MemPlace} {G : List Value → Prop} (ht : P.underlying t = some (.slice e)) (hC : P.cellsOf e = ks.length) (h0 : 0 < ks.length)
    (hG : ∀ n cs y, DataW.trod enc P w base (fun _ => true) held n e cs = some y → RowOk ks cs ∧ G cs)
    (h : DataW.trod enc P w base (fun _ => true) held fuel t [.slice A len cap] = some x) : ∃ raw, CameR ks w A len cap (rowsOfV len raw) ∧ ∀ i, i < len → G (raw i) := by
  rcases Go.Deep.open_slice ht h with ⟨hcs, _⟩ | ⟨a, len', cap', m, n, D', Pl, hcs, hb, hl, hm, hmm, _, hx⟩
  · simp at hcs
    obtain ⟨rfl, rfl, rfl⟩ := hcs
    exact ⟨fun _ => [], ⟨rfl, Nat.le_refl _, Nat.zero_le _, by intro row hr; simp [rowsOfV] at hr, .inl rfl⟩, fun i hi => by omega⟩
  · simp at hcs
    obtain ⟨hA, q2, q3⟩ := hcs
    rw [if_pos rfl] at hmm
    rw [← q2, ← q3] at hl
    rw [← q3] at hm
    rw [hmm, ← q3] at hx
    subst hA
    obtain ⟨rw', hrw⟩ := Go.Deep.choose_lt (α := List Value) (n := cap) (p := fun i cs => w.cells? base (a.add (i * P.cellsOf e)) (P.cellsOf e) = some cs ∧ ∃ y, DataW.trod enc P w base (fun _ => true) held n e cs = some y) (fun i hi => by
      obtain ⟨cs, h1, h2⟩ := hx i hi
      exact ⟨cs, h1, _, h2⟩)
    have hcell : ∀ i, i < cap → ∀ f, f < ks.length → w.cell? (a.add (i * ks.length + f)) = (rw' i)[f]? := fun i hi f hf => by
      have := (World.cells?_some (hrw i hi).1).2.2 f (by rw [hC]; omega)
      rw [Go.Deep.add_add, hC] at this
      exact this
    refine ⟨rw', ⟨by simp [rowsOfV], hl, hm, ?_, ?_⟩, fun i hi => ?_⟩
    · intro row hr f k z hk' hz
      obtain ⟨i, hi, rfl⟩ := List.mem_map.1 hr
      have hi : i < len := List.mem_range.1 hi
      obtain ⟨_, y, hy⟩ := hrw i (by omega)
      rw [List.getElem?_map] at hz
      cases hc : (rw' i)[f]? with
      | none => rw [hc] at hz; cases hz
      | some v =>
        rw [hc] at hz
        simp only [Option.map_some, Option.some.injEq] at hz
        exact ((hG _ _ _ hy).1.2 f _ v hk' hc).2 k z rfl hz
    · by_cases hc0 : cap = 0
      · exact .inl hc0
      · right
        have h1 := hcell 0 (by omega) 0 h0
        have hl0 : 0 < (rw' 0).length := by
          obtain ⟨_, y, hy⟩ := hrw 0 (by omega)
          rw [(hG _ _ _ hy).1.1]; exact h0
        rw [List.getElem?_eq_getElem hl0] at h1
        have hadd : a.add (0 * ks.length + 0) = a := by unfold Addr.add; simp
        rw [hadd] at h1
        obtain ⟨b, o, s⟩ := a
        have hs : s = none := by
          unfold World.cell? at h1
          split at h1
          · split at h1
            · cases h1
            · rename_i hh; simpa using hh
          · cases h1
        subst hs
        refine ⟨b, o, rfl, ⟨_, h1⟩, ?_⟩
        intro i row hr
        simp only [rowsOfV] at hr
        rw [List.getElem?_map] at hr
        have hi : i < len := by
          rcases Nat.lt_or_ge i len with h | h
          · exact h
          · rw [List.getElem?_eq_none (by simpa using h)] at hr; cases hr
        rw [List.getElem?_range hi] at hr
        simp only [Option.map_some, Option.some.injEq] at hr; subst hr
        obtain ⟨_, y, hy⟩ := hrw i (by omega)
        have ho := (hG _ _ _ hy).1
        refine ⟨by rw [List.length_map]; exact ho.1, fun f k v hk' hv => ?_⟩
        rw [List.getElem?_map] at hv
        cases hc : (rw' i)[f]? with
        | none => rw [hc] at hv; cases hv
        | some u =>
          rw [hc] at hv
          simp only [Option.map_some, Option.some.injEq] at hv; subst hv
          refine ⟨u, (ho.2 f k u hk' hc).1, ?_⟩
          have := hcell i (by omega) f (List.getElem?_eq_some_iff.1 hk').1
          rw [Addr.add_lit] at this
          exact this.trans hc
    · obtain ⟨_, y, hy⟩ := hrw i (by omega)
      exact (hG _ _ _ hy).2
theorem kOfV_ok : ∀ (d : Nat) {t : TypeId} {ks : List CK} {n : Nat} {cs : List Value} {x : DataW H × List MemPlace}, kOfV P d t = some ks → DataW.trod enc P w base (fun _ => true) held n t cs = some x → RowOk ks cs ∧ SlIn P w d t cs
  | 0, _, _, _, _, _, h, _ => by cases h
  | d + 1, t, ks, n, cs, x, h, hx => by
    unfold kOfV at h
    split at h
    · rename_i k hk
      simp only [Option.some.injEq] at h; subst h
      have hone : (∃ v, cs = [v]) ∧ SlIn P w (d + 1) t cs := by
        unfold fldK at hk
        split at hk
        · rename_i i hu; obtain ⟨z, e, _⟩ := DataW.trod_int hu hx; exact ⟨⟨_, e⟩, by unfold SlIn; rw [hu]; trivial⟩
        · rename_i hu; obtain ⟨z, e, _⟩ := DataW.trod_string hu hx; exact ⟨⟨_, e⟩, by unfold SlIn; rw [hu]; trivial⟩
        · rename_i hu; obtain ⟨z, e, _⟩ := DataW.trod_bool hu hx; exact ⟨⟨_, e⟩, by unfold SlIn; rw [hu]; trivial⟩
        · cases hk
      obtain ⟨⟨v, rfl⟩, hS⟩ := hone
      refine ⟨⟨rfl, fun f k' v' hk' hv' => ?_⟩, hS⟩
      cases f with
      | zero =>
        simp at hk' hv'; subst hk'; subst hv'
        exact one_field hk hx
      | succ f => simp at hk'
    · split at h
      · rename_i fs hu
        split at h
        · rename_i ks' hks
          split at h
          · rename_i hc
            simp only [Option.some.injEq] at h; subst h
            simp only [Nat.beq_eq] at hc
            obtain ⟨ys, m, _, _, hl, hyl, hfld⟩ := DataW.trod_struct hu hx
            have kin : ∀ (l : List Field) (o : Nat) (ks : List CK), kFields P (kOfV P d) l o = some ks → ∀ f ∈ l, ∃ a, kOfV P d f.type = some a := by
              intro l
              induction l with
              | nil => intro o ks _ f hf; simp at hf
              | cons g l ih =>
                intro o ks h f hf
                unfold kFields at h
                split at h
                · rename_i a ha
                  split at h
                  · split at h
                    · rename_i b hb
                      rcases List.mem_cons.1 hf with rfl | hf
                      · exact ⟨a, ha⟩
                      · exact ih _ b hb f hf
                    · cases h
                  · cases h
                · cases h
            have both : ∀ (i : Nat) f, fs[i]? = some f → ∀ a, kOfV P d f.type = some a → RowOk a ((cs.drop f.offset).take (P.cellsOf f.type)) ∧ SlIn P w d f.type ((cs.drop f.offset).take (P.cellsOf f.type)) := by
              intro i f hi a ha
              have e := hfld i f hi
              have hy : i < ys.length := by rw [hyl]; exact (Array.getElem?_eq_some_iff.1 hi).1
              rw [List.getElem?_eq_getElem hy] at e
              exact kOfV_ok d ha e
            have := kFields_ok (P := P) (cs := cs) fs.toList 0 ks' hks (by omega) (fun f hf a ha hca => by
              obtain ⟨i, hi⟩ := List.getElem?_of_mem hf
              rw [Array.getElem?_toList] at hi
              rw [← hca]
              exact (both i f hi a ha).1)
            rw [List.drop_zero, List.take_of_length_le (by omega)] at this
            refine ⟨this, ?_⟩
            unfold SlIn
            rw [hu]
            intro i f hi
            obtain ⟨a, ha⟩ := kin fs.toList 0 ks' hks f (by rw [← Array.getElem?_toList] at hi; exact List.mem_of_getElem? hi)
            exact (both i f hi a ha).2
          · cases h
        · cases h
      · rename_i e hu
        split at h
        · rename_i ks' hks
          split at h
          · rename_i hc
            simp only [Option.some.injEq] at h; subst h
            simp only [Bool.and_eq_true, Nat.beq_eq, Nat.blt_eq] at hc
            obtain ⟨⟨c1, c2⟩, c3⟩ := hc
            have hsl : ∃ A len cap, cs = [.slice A len cap] := by
              rcases Go.Deep.open_slice hu hx with ⟨h, _⟩ | ⟨a, len, cap, _, _, _, _, h, _⟩
              · exact ⟨_, _, _, h⟩
              · exact ⟨_, _, _, h⟩
            obtain ⟨A, len, cap, rfl⟩ := hsl
            obtain ⟨raw, h1, h2⟩ := open_slV (G := SlIn P w d e) hu c2 c3 (fun n cs y hy => kOfV_ok d hks hy) hx
            refine ⟨⟨rfl, fun f k' v' hk' hv' => ?_⟩, ?_⟩
            · cases f with
              | zero =>
                simp at hk' hv'; subst hk'; subst hv'
                exact ⟨rfl, fun i z h1 _ => by cases h1⟩
              | succ f => simp at hk'
            · unfold SlIn
              rw [hu]
              exact ⟨A, len, cap, ks', raw, rfl, hks, h1, h2⟩
          · cases h
        · cases h
      · cases h
theorem open_rowsV {t e : TypeId} {ks : List CK} {fuel D : Nat} {A : Option Addr} {len cap : Nat} {x : DataW H × List MemPlace} (ht : P.underlying t = some (.slice e)) (hk : kOfV P D e = some ks) (hC : P.cellsOf e = ks.length) (h0 : 0 < ks.length)
    (h : DataW.trod enc P w base (fun _ => true) held fuel t [.slice A len cap] = some x) : ∃ raw, CameR ks w A len cap (rowsOfV len raw) ∧ ∀ i, i < len → SlIn P w D e (raw i) :=
  open_slV ht hC h0 (fun n cs y hy => kOfV_ok D hk hy) h
theorem SlIn.field {d : Nat} {t : TypeId} {fs : Array Field} {cs : List Value} (h : SlIn P w (d + 1) t cs) (ht : P.underlying t = some (.struct fs)) {i : Nat} {f : Field} (hf : fs[i]? = some f) {k : Nat} (hk : P.cellsOf f.type = k) : SlIn P w d f.type ((cs.drop f.offset).take k) := by
  unfold SlIn at h
  rw [ht] at h
  rw [← hk]; exact h i f hf
theorem SlIn.slice {d : Nat} {t e : TypeId} {cs : List Value} (h : SlIn P w (d + 1) t cs) (ht : P.underlying t = some (.slice e)) : ∃ A len cap ks raw, cs = [.slice A len cap] ∧ kOfV P d e = some ks ∧ CameR ks w A len cap (rowsOfV len raw) ∧ ∀ i, i < len → SlIn P w d e (raw i) := by
  unfold SlIn at h
  rw [ht] at h
  exact h
end
/-- A slice that came in, and what it holds. -/
inductive CameV (w : World) : Value → FB → Prop where
  | n {k : IntKind} {A : Option Addr} {cap : Nat} {l : List Int} (h : Came2 k w A l.length cap l) : CameV w (.slice A l.length cap) (.n k l)
  | r {ks : List CK} {A : Option Addr} {cap : Nat} {L : List (List CV)} (h0 : 0 < ks.length) (h : CameR ks w A L.length cap L) : CameV w (.slice A L.length cap) (.r ks L)
theorem CameV.frz {w : World} {v : Value} {B : FB} (h : CameV w v B) : FrzV (fun _ => True) w v B := by
  cases h with
  | @n k A cap l h =>
    obtain ⟨h1, h2, h3, h4, h5⟩ := h
    refine ⟨A, cap, rfl, fun hc => by simp only [FB.len]; omega, fun hc => ?_⟩
    rcases h5 with h5 | ⟨b, o, rfl, ⟨v, hv⟩, h6⟩
    · exact (hc h5).elim
    · refine ⟨b, o, rfl, h2, ?_, trivial⟩
      unfold World.cell? at hv
      split at hv
      · rename_i cur el' fz hb
        dsimp only at hb
        refine ⟨cur, el', fz, hb, fun j u hu => ?_⟩
        have := h6 j u hu
        simp only [World.cell?] at this
        rw [hb] at this
        simpa using this
      · cases hv
  | @r ks A cap L h0 h =>
    obtain ⟨h1, h2, h3, h4, h5⟩ := h
    refine ⟨A, cap, rfl, fun hc => by simp only [FB.len]; omega, fun hc => ?_⟩
    rcases h5 with h5 | ⟨b, o, rfl, ⟨v, hv⟩, h6⟩
    · exact (hc h5).elim
    · refine ⟨b, o, rfl, h2, ?_, trivial⟩
      unfold World.cell? at hv
      split at hv
      · rename_i cur el' fz hb
        dsimp only at hb
        refine ⟨h0, cur, el', fz, hb, ?_⟩
        intro m row hr
        obtain ⟨g1, g2⟩ := h6 m row hr
        refine ⟨g1, fun f k v hk hv => ?_⟩
        obtain ⟨y, g3, g4⟩ := g2 f k v hk hv
        refine ⟨y, g3, ?_⟩
        simp only [World.cell?] at g4
        rw [hb] at g4
        simpa using g4
      · cases hv
/-- Rows of one number as numbers. -/
theorem CameR.nums {k : IntKind} {w : World} {A : Option Addr} {len cap : Nat} {L : List (List CV)} (h : CameR [.n k] w A len cap L) (hc : ∀ row ∈ L, ∃ z, row = [.i z]) : ∃ l : List Int, L = l.map (fun z => [.i z]) ∧ Came2 k w A len cap l := by
  obtain ⟨h1, h2, h3, h4, h5⟩ := h
  have : ∃ l : List Int, L = l.map (fun z => [.i z]) := by
    clear h1 h4 h5
    induction L with
    | nil => exact ⟨[], rfl⟩
    | cons r L ih =>
      obtain ⟨z, rfl⟩ := hc r (List.mem_cons_self ..)
      obtain ⟨l, rfl⟩ := ih (fun row hr => hc row (List.mem_cons_of_mem _ hr))
      exact ⟨z :: l, rfl⟩
  obtain ⟨l, rfl⟩ := this
  refine ⟨l, rfl, by simpa using h1, h2, h3, fun n hn => h4 [.i n] (List.mem_map.2 ⟨n, hn, rfl⟩) 0 k n rfl rfl, ?_⟩
  rcases h5 with h5 | ⟨b, o, rfl, hv, h6⟩
  · exact .inl h5
  · refine .inr ⟨b, o, rfl, hv, fun j v hj => ?_⟩
    obtain ⟨_, g2⟩ := h6 j [.i v] (by rw [List.getElem?_map, hj]; rfl)
    obtain ⟨y, g3, g4⟩ := g2 0 (.n k) (.i v) rfl rfl
    simp only [cvV, Option.some.injEq] at g3; subst g3
    simpa using g4
end Reck
