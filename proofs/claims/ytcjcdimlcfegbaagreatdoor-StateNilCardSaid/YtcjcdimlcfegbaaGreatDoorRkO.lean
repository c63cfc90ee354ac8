/- A reckoner of calls: slices of numbers as they come in. No condition. -/
import Derived.Test.YtcjcdimlcfegbaaGreatDoorRkF
set_option linter.unusedVariables false
set_option linter.unusedSimpArgs false
namespace Reck
open Go Ost

/-- A slice of numbers as it came in. -/
def Came2 (k : IntKind) (w : World) (A : Option Addr) (len cap : Nat) (zs : List Int) : Prop :=
  zs.length = len ∧ len ≤ cap ∧ cap ≤ maxLen ∧ (∀ n ∈ zs, (Lit.int k n).wf = true) ∧
  (cap = 0 ∨ ∃ b o, A = some ⟨b, o, none⟩ ∧ (∃ v, w.cell? ⟨b, o, none⟩ = some v) ∧ ∀ (j : Nat) v, zs[j]? = some v → w.cell? ⟨b, o + j, none⟩ = some (.int k v))

theorem Came2.none_ {k : IntKind} {w : World} : Came2 k w none 0 0 [] := ⟨rfl, Nat.le_refl _, Nat.zero_le _, by simp, .inl rfl⟩
theorem Came2.some_ {k : IntKind} {w : World} {x : Addr} {len cap : Nat} {zs : List Int} (hl : len ≤ cap) (hm : cap ≤ maxLen) (hz : zs.length = cap) (hc : ∀ i, i < zs.length → w.cell? (x.add i) = some (.int k (zs.getD i 0))) (hw : ∀ n ∈ zs, (Lit.int k n).wf = true) :
    Came2 k w (some x) len cap (zs.take len) := by
  refine ⟨by rw [List.length_take]; omega, hl, hm, fun n hn => hw n (List.mem_of_mem_take hn), ?_⟩
  by_cases h0 : cap = 0
  · exact .inl h0
  · right
    have h1 := hc 0 (by omega)
    have hadd : x.add 0 = x := by unfold Addr.add; simp
    rw [hadd] at h1
    obtain ⟨b, o, s⟩ := x
    have hs : s = none := by
      unfold World.cell? at h1
      split at h1
      · split at h1
        · cases h1
        · rename_i hh; simpa using hh
      · cases h1
    subst hs
    refine ⟨b, o, rfl, ⟨_, h1⟩, fun j v hv => ?_⟩
    rw [List.getElem?_take] at hv
    split at hv
    · have hj : j < zs.length := (List.getElem?_eq_some_iff.1 hv).1
      have := hc j hj
      rw [Addr.add_lit] at this
      rw [this, List.getD_eq_getElem?_getD, hv]; rfl
    · cases hv

/-- Where it lies. -/
theorem Came2.base {k : IntKind} {w : World} {A : Option Addr} {len cap : Nat} {zs : List Int} (h : Came2 k w A len cap zs) (el : TypeId) : ∃ q : Option Addr ⊕ (Nat × Nat),
    (∀ (e : Env) (a : Nat), e.arr[a]? = some q → av e (cell (aslC ⟨a, 0, len, cap⟩)) = some (.slice A len cap)) ∧ ∀ e : Env, e.S = (fun _ => False) → AOk w w e ⟨el, k, zs, 0, true⟩ q := by
  obtain ⟨h1, h2, h3, h4, h5⟩ := h
  rcases h5 with h5 | ⟨b, o, rfl, ⟨v, hv⟩, h6⟩
  · subst h5
    have h0 : len = 0 := by omega
    subst h0
    exact ⟨.inl A, fun e a ha => asl_nil (s := ⟨a, 0, 0, 0⟩) ha rfl rfl, fun e _ => ⟨List.eq_nil_of_length_eq_zero h1, .inl ⟨k, rfl⟩⟩⟩
  · refine ⟨.inr (b, o), fun e a ha => asl_av (s := ⟨a, 0, len, cap⟩) (q := (b, o)) ha h2, fun e hS => ?_⟩
    have hlt := World.block_lt_of_cell? w _ hv
    unfold World.cell? at hv
    split at hv
    · rename_i cur el' fz hb
      refine AOk.ofNum (k := k) rfl ⟨cur, el', fz, hb, fun j u hu => ?_, .inl ⟨rfl, hlt, by rw [hS]; exact id⟩⟩
      have := h6 j u hu
      simp only [World.cell?] at this
      dsimp only at hb
      rw [hb] at this
      simpa using this
    · cases hv

def arE (bs : List (Option Addr ⊕ (Nat × Nat))) : Env := ⟨[], [], [], bs, fun _ => False, [], fun _ => True⟩
def arS (l : List ABlk) : St := ⟨[], [], 0, l.map some, 0⟩
theorem ok_arrs (w : World) {l : List ABlk} {bs : List (Option Addr ⊕ (Nat × Nat))} (hl : bs.length = l.length) (hr : ∀ x ∈ l, x.ro = true) (h : ∀ (i : Nat) x q, l[i]? = some x → bs[i]? = some q → AOk w w (arE bs) x q) : Ok w (arE bs) (arS l) w := by
  have get : ∀ (i : Nat) x, (arS l).arrs[i]? = some (some x) → l[i]? = some x := by
    intro i x hx
    simp only [arS, List.getElem?_map] at hx
    cases hi : l[i]? with
    | none => simp [hi] at hx
    | some y => rw [hi] at hx; simpa using hx
  refine ⟨Only.refl _ w, rfl, rfl, rfl, by intro i b n h; simp [arS] at h, by simp [arE], by intro b x q h; simp [arS] at h, by intro b b' x x' q q' _ h; simp [arS] at h, ⟨by simp [arE, arS, hl], fun a x q h1 h2 => h a x q (get a x h1) h2, ?_, ?_⟩, rfl, fun a x h1 => ⟨fun F h2 => ?_, fun F h2 => ?_⟩⟩
  · intro a x q b y q' h1 h2 h3 h4; simp [arS] at h4
  · intro a a' x x' q q' _ h1 h2 h3
    rw [hr x (List.mem_of_getElem? (get a x h1))] at h3; cases h3
  · have := h2.1
    rw [hr x (List.mem_of_getElem? (get a x h1))] at this; cases this
  · have := h2.1
    rw [hr x (List.mem_of_getElem? (get a x h1))] at this; cases this
/-- With what is frozen when it comes in, in the first two arrays. -/
def frzB (F : Value → FB → Prop) : ABlk := ⟨0, .o (.frz F), [], 0, false⟩
def oldB (F : Value → FB → Prop) : ABlk := ⟨0, .o (.old F), [], 0, false⟩
def arSF (F : Value → FB → Prop) (l : List ABlk) : St := ⟨[], [], 0, some (frzB F) :: some (oldB F) :: l.map some, 0⟩
theorem ok_arrsF (w : World) {F : Value → FB → Prop} {l : List ABlk} {bs : List (Option Addr ⊕ (Nat × Nat))} (hl : bs.length = l.length) (hr : ∀ x ∈ l, x.ro = true) (h : ∀ (i : Nat) x q, l[i]? = some x → bs[i]? = some q → AOk w w (arE (.inl none :: .inl none :: bs)) x q)
    (hF : ∀ v B, F v B → FrzV (fun _ => True) w v B) : Ok w (arE (.inl none :: .inl none :: bs)) (arSF F l) w := by
  have get : ∀ (i : Nat) x, (arSF F l).arrs[i]? = some (some x) → (i = 0 ∧ x = frzB F) ∨ (i = 1 ∧ x = oldB F) ∨ ∃ j, i = j + 2 ∧ l[j]? = some x := by
    intro i x hx
    match i with
    | 0 => simp [arSF] at hx; exact .inl ⟨rfl, hx.symm⟩
    | 1 => simp [arSF] at hx; exact .inr (.inl ⟨rfl, hx.symm⟩)
    | j + 2 =>
      simp only [arSF, List.getElem?_cons_succ, List.getElem?_map] at hx
      refine .inr (.inr ⟨j, rfl, ?_⟩)
      cases hi : l[j]? with
      | none => simp [hi] at hx
      | some y => rw [hi] at hx; simpa using hx
  have noOwn : ∀ g, ¬ owned (arE (.inl none :: .inl none :: bs)) (arSF F l) g := by
    rintro g (⟨b, x, q, h1, _⟩ | ⟨a, x, q, h1, h2, h3, _⟩)
    · simp [arSF] at h1
    · rcases get a x h1 with ⟨rfl, rfl⟩ | ⟨rfl, rfl⟩ | ⟨j, rfl, hj⟩
      · simp [arE] at h3
      · simp [arE] at h3
      · rw [hr x (List.mem_of_getElem? hj)] at h2; cases h2
  refine ⟨Only.refl _ w, rfl, rfl, rfl, by intro i b n h; simp [arSF] at h, by simp [arE], by intro b x q h; simp [arSF] at h, by intro b b' x x' q q' _ h; simp [arSF] at h, ⟨by simp [arE, arSF, hl], fun a x q h1 h2 => ?_, ?_, ?_⟩, rfl, fun a x h1 => ⟨fun F' h2 v B hv => ?_, fun F' h2 v B hv => ?_⟩⟩
  · rcases get a x h1 with ⟨rfl, rfl⟩ | ⟨rfl, rfl⟩ | ⟨j, rfl, hj⟩
    · simp [arE] at h2; subst h2
      exact ⟨rfl, .inr (.inr (.inl ⟨F, rfl⟩))⟩
    · simp [arE] at h2; subst h2
      exact ⟨rfl, .inr (.inr (.inr ⟨F, rfl⟩))⟩
    · exact h j x q hj (by simpa [arE] using h2)
  · intro a x q b y q' h1 h2 h3 h4; simp [arSF] at h4
  · intro a a' x x' q q' _ h1 h2 h3 h4 h5
    rcases get a x h1 with ⟨rfl, rfl⟩ | ⟨rfl, rfl⟩ | ⟨j, rfl, hj⟩
    · simp [arE] at h5
    · simp [arE] at h5
    · rw [hr x (List.mem_of_getElem? hj)] at h3; cases h3
  · have hF' : F' = F := by
      rcases get a x h1 with ⟨rfl, rfl⟩ | ⟨rfl, rfl⟩ | ⟨j, rfl, hj⟩
      · have := h2.2; simp [frzB] at this; exact this.symm
      · have := h2.2; simp [oldB] at this
      · have := h2.1
        rw [hr x (List.mem_of_getElem? hj)] at this; cases this
    subst hF'
    exact (hF v B hv).mv fun g _ _ _ => ⟨⟨.inl trivial, noOwn g⟩, rfl⟩
  · have hF' : F' = F := by
      rcases get a x h1 with ⟨rfl, rfl⟩ | ⟨rfl, rfl⟩ | ⟨j, rfl, hj⟩
      · have := h2.2; simp [frzB] at this
      · have := h2.2; simp [oldB] at this; exact this.symm
      · have := h2.1
        rw [hr x (List.mem_of_getElem? hj)] at this; cases this
    subst hF'
    exact (hF v B hv).mv fun g _ hlt _ => ⟨⟨hlt, id⟩, rfl⟩
end Reck
