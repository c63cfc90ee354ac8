/- A reckoner of calls: structs with slices that are made: nil is told as rows of none. No condition. -/
import Derived.Test.YtcjcdimlcfegbaaGreatDoorRkU
set_option linter.unusedVariables false
set_option linter.unusedSimpArgs false
namespace Reck
open Go Ost
variable {P : Program} {w0 w : World} {e : Env} {σ : St}
abbrev NK := List CK ⊕ IntKind
/-- Where a struct's slices of rows or of numbers lie. -/
def nilSlices (P : Program) (t : TypeId) : List (Nat × (TypeId × NK)) :=
  match P.underlying t with
  | some (.struct fs) => fs.toList.filterMap fun f => match P.underlying f.type with
    | some (.slice el) => match rowKinds P el with
      | some ks => some (f.offset, el, .inl ks)
      | none => match P.underlying el with
        | some (.int k) => some (f.offset, el, .inr k)
        | _ => none
    | _ => none
  | _ => []
def noneCell (n : Nat) : NK → Cell
  | .inl ks => rslC ⟨n, ks.length, 0, 0, 0⟩
  | .inr _ => aslC ⟨n, 0, 0, 0⟩
def noneArr (el : TypeId) : NK → ABlk
  | .inl ks => ⟨el, .o (.rows ks []), [], 0, false⟩
  | .inr k => ⟨el, .n k, [], 0, false⟩
def isNil : Option Cell → Bool
  | some (.inl (.slice none 0 0)) => true
  | _ => false
theorem isNil_eq {c : Option Cell} (h : isNil c = true) : c = some (.inl (.slice none 0 0)) := by
  unfold isNil at h
  split at h
  · rfl
  · cases h
def noneAll (b : Nat) : List (Nat × (TypeId × NK)) → St → Option St
  | [], σ => some σ
  | (j, el, x) :: l, σ => match σ.heap[b]? with
    | some (some y) => if isNil y.cells[j]? then
        noneAll b l ⟨σ.heap.set b (some ⟨y.elem, y.cells.set j (noneCell σ.arrs.length x), y.j, y.c, y.z⟩), σ.ints, σ.opqs, σ.arrs ++ [some (noneArr el x)], σ.junks⟩
      else none
    | _ => none
theorem noneOne_ok (hk : Ok w0 e σ w) {b j : Nat} {el : TypeId} {x : NK} {y : Blk} (hy : σ.heap[b]? = some (some y)) (hj : isNil y.cells[j]? = true) :
    ∃ e', e.le e' ∧ Ok w0 e' ⟨σ.heap.set b (some ⟨y.elem, y.cells.set j (noneCell σ.arrs.length x), y.j, y.c, y.z⟩), σ.ints, σ.opqs, σ.arrs ++ [some (noneArr el x)], σ.junks⟩ w := by
  have hl := le_arr e (.inl none)
  refine ⟨_, hl, ?_⟩
  have hv : cv ⟨e.blk, e.int, e.opq, e.arr ++ [.inl none], e.S, e.junk, e.Z⟩ (noneCell σ.arrs.length x) = some (.slice none 0 0) := by
    cases x with
    | inl ks => exact rsl_nil (e := ⟨e.blk, e.int, e.opq, e.arr ++ [.inl none], e.S, e.junk, e.Z⟩) (s := ⟨σ.arrs.length, ks.length, 0, 0, 0⟩) (A := none) (by simp [← hk.arrs.len]) rfl rfl
    | inr k => exact asl_nil (e := ⟨e.blk, e.int, e.opq, e.arr ++ [.inl none], e.S, e.junk, e.Z⟩) (s := ⟨σ.arrs.length, 0, 0, 0⟩) (A := none) (by simp [← hk.arrs.len]) rfl rfl
  have h1 : Ok w0 ⟨e.blk, e.int, e.opq, e.arr ++ [.inl none], e.S, e.junk, e.Z⟩ (addArr σ (noneArr el x)) w := by
    cases x with
    | inl ks => exact hk.arrAdd (q := .inl none) ⟨rfl, .inr (.inl ⟨ks, rfl⟩)⟩ rfl (by intro p hp; cases hp) (frNil (fun F hF => by rcases hF with h | h <;> cases h))
    | inr k => exact hk.arrAdd (q := .inl none) ⟨rfl, .inl ⟨k, rfl⟩⟩ rfl (by intro p hp; cases hp) (frNil (fun F hF => by rcases hF with h | h <;> cases h))
  have hb : b < e.blk.length := by rw [hk.blks]; exact (List.getElem?_eq_some_iff.1 hy).1
  obtain ⟨_, cur, fz, _, g3, _⟩ := h1.blk b y _ hy (List.getElem?_eq_getElem hb)
  refine h1.reCell (i := b) (x := y) hy fun j' c' hc' => ?_
  rw [List.getElem?_set] at hc'
  split at hc'
  · rename_i hjj
    subst hjj
    split at hc'
    · simp only [Option.some.injEq] at hc'; subst hc'
      exact ⟨_, _, isNil_eq hj, rfl, hv⟩
    · cases hc'
  · obtain ⟨v, k1, _⟩ := g3 j' c' hc'
    exact ⟨c', v, hc', k1, k1⟩
theorem noneAll_ok {b : Nat} : ∀ {l : List (Nat × (TypeId × NK))} {σ σ' : St} {e : Env}, Ok w0 e σ w → noneAll b l σ = some σ' → ∃ e', e.le e' ∧ Ok w0 e' σ' w
  | [], σ, σ', e, hk, h => by
    simp only [noneAll, Option.some.injEq] at h; subst h
    exact ⟨e, Env.le.refl e, hk⟩
  | (j, el, x) :: l, σ, σ', e, hk, h => by
    unfold noneAll at h
    split at h
    · rename_i y hy
      split at h
      · rename_i hj
        obtain ⟨e1, h1, h2⟩ := noneOne_ok (el := el) (x := x) hk hy hj
        obtain ⟨e2, h3, h4⟩ := noneAll_ok h2 h
        exact ⟨e2, h1.trans h3, h4⟩
      · cases h
    · cases h
def boxB (P : Program) (t : TypeId) (x : AV) (σ : St) : Option MR :=
  match nilSlices P t, cellsOf x with
  | a :: l, some cs => match noneAll σ.heap.length (a :: l) (newA σ t cs).2 with
    | some σ' => some fun K => K (ptr σ.heap.length 0) σ'
    | none => none
  | _, _ => none
/-- With structs that are made: their slices are told as rows of none. -/
def opMB (P : Program) : OpM := fun tm o σ =>
  match o.op with
  | .box t x => match boxB P t (evalA tm x) σ with
    | some T => some T
    | none => opMem P tm o σ
  | _ => opMem P tm o σ
theorem opMB_ok (P : Program) : OpMOk P (opMB P) := by
  intro tm o σ T h
  unfold opMB at h
  split at h
  · rename_i t x ho
    split at h
    · rename_i T' hT
      simp only [Option.some.injEq] at h; subst h
      intro K hK w0 e w a hk ht
      unfold boxB at hT
      split at hT
      · rename_i l0 l cs hl hcs
        split at hT
        · rename_i σ' hσ
          simp only [Option.some.injEq] at hT; subst hT
          obtain ⟨g1, g2⟩ := cellsOf_ok hk hcs (evalA_ok ht x)
          obtain ⟨r, hr, e1, v, w', k1, k2, k3, k4⟩ := opNew_ok (P := P) (res := [(ptr (newA σ t cs).1 0, (newA σ t cs).2)]) hk (show opNew P t cs σ = .ok [(ptr (newA σ t cs).1 0, (newA σ t cs).2)] from rfl) (vs := (a.eval x).cells) g1 g2 (Instr.box t (a.eval x)) (by simp [Instr.box, newVar, run_newRowT])
          simp only [List.mem_singleton] at hr
          subst hr
          obtain ⟨e2, l2, k5⟩ := noneAll_ok k3 hσ
          exact ⟨_, _, e2, v, w', hK, k1.trans l2, av_mono l2 _ _ k2, k5, .inl (by simp [execOp, ho, k4])⟩
        · cases hT
      · cases hT
    · exact opMem_ok P tm o σ T h
  · exact opMem_ok P tm o σ T h
end Reck
