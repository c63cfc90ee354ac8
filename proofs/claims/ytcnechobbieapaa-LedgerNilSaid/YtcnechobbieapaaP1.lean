/- What contracts of shelves share. No condition. -/
import Derived.Test.YtcnechobbieapaaP0
set_option linter.unusedVariables false
set_option linter.unusedSimpArgs false
namespace Go.Proofs.Ytcnechobbieapaa
open Go Reck Ost
theorem cInj {c d : Cell} (h : cell c = cell d) : c = d := by simpa [cell] using h
theorem map3 {e : Env} {x y z : AV} {a b c : Value} (h1 : Reck.av e x = some a) (h2 : Reck.av e y = some b) (h3 : Reck.av e z = some c) : [x, y, z].map (Reck.av e) = [a, b, c].map some := by
  rw [List.map_cons, List.map_cons, List.map_cons, List.map_nil, h1, h2, h3]; rfl
theorem map2 {e : Env} {x y : AV} {a b : Value} (h1 : Reck.av e x = some a) (h2 : Reck.av e y = some b) : [x, y].map (Reck.av e) = [a, b].map some := by
  rw [List.map_cons, List.map_cons, List.map_nil, h1, h2]; rfl
theorem map1 {e : Env} {x : AV} {a : Value} (h1 : Reck.av e x = some a) : [x].map (Reck.av e) = [a].map some := by
  rw [List.map_cons, List.map_nil, h1]; rfl
/-- A text in a cell. -/
def cStr (c : Cell) : Option (List Int) :=
  match c with
  | .inr (.inr (.inr (.inr (.inr (.inr (.inr (.inr (.inr (.inr (.inl l)))))))))) => some l
  | _ => none
theorem cStr_eq {c : Cell} {l : List Int} (h : cStr c = some l) : c = strC l := by
  unfold cStr at h
  split at h
  · simp only [Option.some.injEq] at h; subst h; rfl
  · cases h
/-- A number of 64 bits in a cell. -/
def cInt (c : Cell) : Option Int :=
  match xiX (cell c) with
  | some (.i64, n) => some n
  | _ => none
theorem cInt_eq {c : Cell} {n : Int} (h : cInt c = some n) : c = xintC .i64 n := by
  unfold cInt at h
  split at h
  · rename_i m hm
    simp only [Option.some.injEq] at h; subst h
    exact cInj (xiX_eq hm)
  · cases h
def aInt (x : AV) : Option Int :=
  match intX x with
  | some (.i64, n) => some n
  | _ => none
theorem as_aInt {e : Env} {x : AV} {n : Int} {v : Value} (h : aInt x = some n) (hv : Reck.av e x = some v) : Reck.av e (xi .i64 n) = some v := by
  unfold aInt at h
  split at h
  · rename_i m hm
    simp only [Option.some.injEq] at h; subst h
    exact as_int hm hv
  · cases h
def cIntK (k : IntKind) (c : Cell) : Option Int :=
  match xiX (cell c) with
  | some (k', n) => if k' = k then some n else none
  | _ => none
theorem cIntK_eq {k : IntKind} {c : Cell} {n : Int} (h : cIntK k c = some n) : c = xintC k n := by
  unfold cIntK at h
  split at h
  · rename_i k' m hm
    split at h
    · rename_i e
      simp only [Option.some.injEq] at h; subst h; subst e
      exact cInj (xiX_eq hm)
    · cases h
  · cases h
def aIntK (k : IntKind) (x : AV) : Option Int :=
  match intX x with
  | some (k', n) => if k' = k then some n else none
  | _ => none
theorem as_aIntK {k : IntKind} {e : Env} {x : AV} {n : Int} {v : Value} (h : aIntK k x = some n) (hv : Reck.av e x = some v) : Reck.av e (xi k n) = some v := by
  unfold aIntK at h
  split at h
  · rename_i k' m hm
    split at h
    · rename_i e'
      simp only [Option.some.injEq] at h; subst h; subst e'
      exact as_int hm hv
    · cases h
  · cases h
def cRsl (c : Cell) : Option RSl := rslX (cell c)
theorem cRsl_eq {c : Cell} {s : RSl} (h : cRsl c = some s) : c = rslC s := cInj (rslX_eq h)
def slotR (tm : List AV) (t : Nat) : RSl :=
  match rslX (tm.getD t (lit undef)) with
  | some s => s
  | none => ⟨0, 0, 0, 0, 0⟩
def rowsAt (σ : St) (a : Nat) : Rws :=
  match getArr σ a with
  | some b => match b.k with
    | .o (.rows _ L) => L
    | _ => []
  | none => []
def slotSt (tm : List AV) (t : Nat) : List Int := (strX (tm.getD t (lit undef))).getD []
theorem fuGet {L A : Rws} {n c : Nat} (h : U.Fu L n c A) {m : Nat} (hm : m < n) : L[m]? = A[m]? := by
  rw [h.eq, List.getElem?_take, if_pos hm]
abbrev zbA (z : Int) (b : Bool) : AV := .inr [.inl (xintC .i64 z), .inl (.inl (.bool b))]
def U.erR (A : Rws) (i : Int) : Rws := A.eraseIdx i.toNat
end Go.Proofs.Ytcnechobbieapaa
