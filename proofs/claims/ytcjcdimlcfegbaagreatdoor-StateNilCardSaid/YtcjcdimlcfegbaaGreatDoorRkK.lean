/- A reckoner of calls: slices of texts as they come in. No condition. -/
import Derived.Test.YtcjcdimlcfegbaaGreatDoorRkO
import Derived.SliceStrings
set_option linter.unusedVariables false
set_option linter.unusedSimpArgs false
namespace Reck
open Go Ost

def txt (s : ByteArray) : List Int := s.data.toList.map fun b => (b.toNat : Int)
def strRows (ss : List ByteArray) : List (List CV) := ss.map fun s => [.s (txt s)]
/-- A slice of texts as it came in. -/
def CameS (w : World) (A : Option Addr) (len cap : Nat) (ss : List ByteArray) : Prop :=
  ss.length = len ∧ len ≤ cap ∧ cap ≤ maxLen ∧ (∀ s ∈ ss, s.size ≤ maxLen) ∧
  (cap = 0 ∨ ∃ b o, A = some ⟨b, o, none⟩ ∧ (∃ v, w.cell? ⟨b, o, none⟩ = some v) ∧ ∀ (j : Nat) s, ss[j]? = some s → w.cell? ⟨b, o + j, none⟩ = some (.string s))
theorem CameS.none_ {w : World} : CameS w none 0 0 [] := ⟨rfl, Nat.le_refl _, Nat.zero_le _, by simp, .inl rfl⟩
theorem CameS.some_ {w : World} {x : Addr} {len cap : Nat} {ss : List ByteArray} (hl : len ≤ cap) (hm : cap ≤ maxLen) (hz : ss.length = cap) (hc : ∀ i, i < ss.length → w.cell? (x.add i) = some (.string (ss.getD i ByteArray.empty))) (hw : ∀ s ∈ ss, s.size ≤ maxLen) :
    CameS w (some x) len cap (ss.take len) := by
  refine ⟨by rw [List.length_take]; omega, hl, hm, fun s hs => hw s (List.mem_of_mem_take hs), ?_⟩
  by_cases h0 : cap = 0
  · exact .inl h0
  · right
    have h1 := hc 0 (by omega)
    have hadd : x.add 0 = x := by unfold Addr.add; simp
    rw [hadd] at h1
    obtain ⟨b, o, s⟩ := x
    have hs : s = none := by
      unfold World.cell? at h1
      split at h1
      · split at h1
        · cases h1
        · rename_i hh; simpa using hh
      · cases h1
    subst hs
    refine ⟨b, o, rfl, ⟨_, h1⟩, fun j v hv => ?_⟩
    rw [List.getElem?_take] at hv
    split at hv
    · have hj : j < ss.length := (List.getElem?_eq_some_iff.1 hv).1
      have := hc j hj
      rw [Addr.add_lit] at this
      rw [this, List.getD_eq_getElem?_getD, hv]; rfl
    · cases hv
/-- Where it lies. -/
theorem CameS.base {w : World} {A : Option Addr} {len cap : Nat} {ss : List ByteArray} (h : CameS w A len cap ss) (el : TypeId) : ∃ q : Option Addr ⊕ (Nat × Nat),
    (∀ (e : Env) (a : Nat), e.arr[a]? = some q → av e (cell (rslC ⟨a, 1, 0, len, cap⟩)) = some (.slice A len cap)) ∧ ∀ e : Env, e.S = (fun _ => False) → AOk w w e ⟨el, .o (.rows [.s] (strRows ss)), [], 0, true⟩ q := by
  obtain ⟨h1, h2, h3, h4, h5⟩ := h
  rcases h5 with h5 | ⟨b, o, rfl, ⟨v, hv⟩, h6⟩
  · subst h5
    have h0 : len = 0 := by omega
    subst h0
    have : ss = [] := List.eq_nil_of_length_eq_zero h1
    subst this
    exact ⟨.inl A, fun e a ha => rsl_nil (s := ⟨a, 1, 0, 0, 0⟩) ha rfl rfl, fun e _ => ⟨rfl, .inr (.inl ⟨[.s], rfl⟩)⟩⟩
  · refine ⟨.inr (b, o), fun e a ha => ?_, fun e hS => ?_⟩
    · have := rsl_av (s := ⟨a, 1, 0, len, cap⟩) (q := (b, o)) ha h2
      simpa using this
    · have hlt := World.block_lt_of_cell? w _ hv
      unfold World.cell? at hv
      split at hv
      · rename_i cur el' fz hb
        refine ⟨⟨_, hb, by decide, cur, el', fz, rfl, ?_, by simp⟩, .inl ⟨rfl, hlt, by rw [hS]; exact id⟩⟩
        intro m row hr
        simp only [strRows, List.getElem?_map] at hr
        cases hm : ss[m]? with
        | none => rw [hm] at hr; simp at hr
        | some s =>
          rw [hm] at hr
          simp only [Option.map_some, Option.some.injEq] at hr; subst hr
          refine ⟨rfl, fun f k v hk hv => ?_⟩
          cases f with
          | zero =>
            simp at hk hv; subst hk; subst hv
            refine ⟨.string s, by simp only [cvV, txt, byteZ_lit, if_true, strZ_lit], ?_⟩
            have := h6 m s hm
            simp only [World.cell?] at this
            dsimp only at hb
            rw [hb] at this
            simpa using this
          | succ f => simp at hk
      · cases hv
end Reck
