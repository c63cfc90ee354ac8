/- A reckoner of calls: slices of structs of numbers, bools and texts as they come in. No condition. -/
import Derived.Test.YtfhgnngdbbgogaaRkK
import Derived.Deep.Slices
import Derived.Deep.Fields
set_option linter.unusedVariables false
set_option linter.unusedSimpArgs false
namespace Reck
open Go Ost
def fldK (P : Program) (t : TypeId) : Option CK :=
  match P.underlying t with
  | some (.int k) => some (.n k)
  | some .string => some .s
  | some .bool => some .b
  | _ => none
def cvOf : Value → CV
  | .int _ z => .i z
  | .string s => .s (txt s)
  | .bool b => .b b
  | _ => .i 0
def RowsW (ks : List CK) (L : List (List CV)) : Prop := ∀ row ∈ L, ∀ (f : Nat) k z, ks[f]? = some (.n k) → row[f]? = some (.i z) → (Lit.int k z).wf = true
def CameR (ks : List CK) (w : World) (A : Option Addr) (len cap : Nat) (L : List (List CV)) : Prop :=
  L.length = len ∧ len ≤ cap ∧ cap ≤ maxLen ∧ RowsW ks L ∧
  (cap = 0 ∨ ∃ b o, A = some ⟨b, o, none⟩ ∧ (∃ v, w.cell? ⟨b, o, none⟩ = some v) ∧ RowsAt (fun j => w.cell? ⟨b, o + j, none⟩) ks L)
section
variable {H : Type} {enc : TypeId × Value → H} {P : Program} {w : World} {base : Nat} {held : Bool}
theorem one_field {t : TypeId} {k : CK} {n : Nat} {v : Value} {y : DataW H × List MemPlace} (hk : fldK P t = some k) (h : DataW.trod enc P w base (fun _ => true) held n t [v] = some y) :
    cvV k (cvOf v) = some v ∧ ∀ i z, k = .n i → cvOf v = .i z → (Lit.int i z).wf = true := by
  unfold fldK at hk
  split at hk
  · rename_i i hu
    simp only [Option.some.injEq] at hk; subst hk
    obtain ⟨z, e, _, hw⟩ := DataW.trod_int hu h
    obtain rfl : v = .int i z := (List.cons.inj e).1
    exact ⟨rfl, fun j z' h1 h2 => by cases h1; cases h2; exact hw⟩
  · rename_i hu
    simp only [Option.some.injEq] at hk; subst hk
    obtain ⟨s, e, _, hw⟩ := DataW.trod_string hu h
    obtain rfl : v = .string s := (List.cons.inj e).1
    exact ⟨by simp only [cvOf, cvV, txt, byteZ_lit, if_true, strZ_lit], fun j z' h1 _ => by cases h1⟩
  · rename_i hu
    simp only [Option.some.injEq] at hk; subst hk
    obtain ⟨b, e, _⟩ := DataW.trod_bool hu h
    obtain rfl : v = .bool b := (List.cons.inj e).1
    exact ⟨rfl, fun j z' h1 _ => by cases h1⟩
  · cases hk
end
theorem CameR.base {ks : List CK} {w : World} {A : Option Addr} {len cap : Nat} {L : List (List CV)} (h : CameR ks w A len cap L) (h0 : 0 < ks.length) (el : TypeId) : ∃ q : Option Addr ⊕ (Nat × Nat),
    (∀ (e : Env) (a : Nat), e.arr[a]? = some q → av e (cell (rslC ⟨a, ks.length, 0, len, cap⟩)) = some (.slice A len cap)) ∧ ∀ e : Env, e.S = (fun _ => False) → AOk w w e ⟨el, .o (.rows ks L), [], 0, true⟩ q := by
  obtain ⟨h1, h2, h3, h4, h5⟩ := h
  rcases h5 with h5 | ⟨b, o, rfl, ⟨v, hv⟩, h6⟩
  · subst h5
    have h0 : len = 0 := by omega
    subst h0
    have : L = [] := List.eq_nil_of_length_eq_zero h1
    subst this
    exact ⟨.inl A, fun e a ha => rsl_nil (s := ⟨a, ks.length, 0, 0, 0⟩) ha rfl rfl, fun e _ => ⟨rfl, .inr ⟨ks, rfl⟩⟩⟩
  · refine ⟨.inr (b, o), fun e a ha => ?_, fun e hS => ?_⟩
    · have := rsl_av (s := ⟨a, ks.length, 0, len, cap⟩) (q := (b, o)) ha h2
      simpa using this
    · have hlt := World.block_lt_of_cell? w _ hv
      unfold World.cell? at hv
      split at hv
      · rename_i cur el' fz hb
        refine ⟨⟨_, hb, h0, cur, el', fz, rfl, ?_, by simp⟩, .inl ⟨rfl, hlt, by rw [hS]; exact id⟩⟩
        intro m row hr
        obtain ⟨g1, g2⟩ := h6 m row hr
        refine ⟨g1, fun f k v hk hv => ?_⟩
        obtain ⟨y, g3, g4⟩ := g2 f k v hk hv
        refine ⟨y, g3, ?_⟩
        simp only [World.cell?] at g4
        dsimp only at hb
        rw [hb] at g4
        simpa using g4
      · cases hv
end Reck
