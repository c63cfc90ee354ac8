/- A reckoner of calls: two states that stand for the same; a loop's head. No condition. -/
import Derived.Test.YtcjcdimlcfegbaaGreatDoorRkRen
import Derived.Deep.LoopGhost
set_option linter.unusedVariables false
set_option linter.unusedSimpArgs false
namespace Reck
open Go Ost

theorem refC_ok {c d : Cell} {p : Option Prop} (h : refC c d = some p) (hp : ∀ q, p = some q → q) (e : Env) : cv e c = cv e d := by
  unfold refC at h
  split at h
  · split at h
    · rename_i hk; simp at hk; subst hk; simp at h; have := hp _ h.symm; subst this; rfl
    · cases h
  · split at h
    · rename_i hk; simp at hk; subst hk; simp at h; have := hp _ h.symm; subst this; rfl
    · cases h
  · split at h
    · rename_i hk; simp at hk; subst hk; simp at h; have := hp _ h.symm; subst this; rfl
    · cases h
  · rename_i s t
    split at h
    · rename_i ha
      obtain ⟨a1, a2, a3, a4⟩ := s
      obtain ⟨b1, b2, b3, b4⟩ := t
      simp at ha; subst ha
      simp only [Option.some.injEq] at h
      obtain ⟨rfl, rfl, rfl⟩ := hp _ h.symm; rfl
    · cases h
  · rename_i s t
    split at h
    · rename_i ha
      obtain ⟨a1, a2⟩ := s
      obtain ⟨b1, b2⟩ := t
      simp at ha; subst ha
      simp only [Option.some.injEq] at h
      have := hp _ h.symm; subst this; rfl
    · cases h
  · split at h
    · rename_i hi; simp at hi; subst hi; rfl
    · cases h
  · simp only [Option.some.injEq] at h
    have := hp _ h.symm; subst this; rfl
  · rename_i s t
    split at h
    · rename_i ha
      obtain ⟨a1, a2, a3, a4, a5⟩ := s
      obtain ⟨b1, b2, b3, b4, b5⟩ := t
      simp at ha; obtain ⟨rfl, rfl⟩ := ha
      simp only [Option.some.injEq] at h
      obtain ⟨rfl, rfl, rfl⟩ := hp _ h.symm; rfl
    · cases h
  · rename_i s t
    split at h
    · rename_i ha
      obtain ⟨a1, a2, a3, a4⟩ := s
      obtain ⟨b1, b2, b3, b4⟩ := t
      simp at ha; obtain ⟨⟨rfl, rfl⟩, rfl⟩ := ha
      simp only [Option.some.injEq] at h
      have := hp _ h.symm; subst this; rfl
    · cases h
  · rename_i s t
    split at h
    · rename_i ha
      obtain ⟨a1, a2⟩ := s
      obtain ⟨b1, b2⟩ := t
      simp at ha; subst ha
      simp only [Option.some.injEq] at h
      have := hp _ h.symm; subst this; rfl
    · cases h
  · simp only [Option.some.injEq] at h
    have := hp _ h.symm; subst this; rfl
  · simp only [Option.some.injEq] at h
    have := hp _ h.symm; subst this; rfl
  · simp only [Option.some.injEq] at h
    have := hp _ h.symm; subst this; rfl
  · rename_i s t
    split at h
    · rename_i ha
      obtain ⟨a1, a2⟩ := s
      obtain ⟨b1, b2⟩ := t
      simp at ha; obtain ⟨rfl, rfl⟩ := ha; rfl
    · cases h
  · rename_i s m
    simp only [Option.some.injEq] at h
    have := hp _ h.symm; subst this
    have h1 := strC_av (byteZ_lit s) e
    rw [strZ_lit] at h1
    simpa [cell, strC, av, v1, cv] using h1.symm
  · simp only [Option.some.injEq] at h
    have := hp _ h.symm; subst this; rfl
  · split at h
    · rename_i hs; rw [sameC_eq hs]
    · cases h

theorem eqCs_ok {K : Prop} : ∀ {l m : List Cell}, eqCs K l m → K ∧ ∀ e, l.map (cv e) = m.map (cv e)
  | [], [], h => ⟨h, fun e => rfl⟩
  | [], _ :: _, h => by exact h.bad.elim
  | _ :: _, [], h => by exact h.bad.elim
  | c :: l, d :: m, h => by
    simp only [eqCs] at h
    split at h
    · rename_i hr
      obtain ⟨h1, h2⟩ := eqCs_ok h
      exact ⟨h1, fun e => by simp only [List.map_cons, refC_ok hr (by intro q hq; cases hq) e, h2 e]⟩
    · rename_i p hr
      obtain ⟨hp, h⟩ := h
      obtain ⟨h1, h2⟩ := eqCs_ok h
      exact ⟨h1, fun e => by simp only [List.map_cons, refC_ok hr (by intro q hq; cases hq; exact hp) e, h2 e]⟩
    · exact h.bad.elim
theorem eq1s_ok {K : Prop} : ∀ {l m : List V1}, eq1s K l m → K ∧ ∀ e, l.map (v1 e) = m.map (v1 e)
  | [], [], h => ⟨h, fun e => rfl⟩
  | [], _ :: _, h => by exact h.bad.elim
  | .inl _ :: _, [], h => by exact h.bad.elim
  | .inr _ :: _, [], h => by exact h.bad.elim
  | .inl c :: l, .inl d :: m, h => by
    simp only [eq1s] at h
    obtain ⟨h1, h2⟩ := eqCs_ok h
    obtain ⟨h3, h4⟩ := eq1s_ok h1
    exact ⟨h3, fun e => by have := h2 e; simp at this; simp [v1, this, h4 e]⟩
  | .inr c :: l, .inr d :: m, h => by
    simp only [eq1s] at h
    obtain ⟨h1, h2⟩ := eqCs_ok h
    obtain ⟨h3, h4⟩ := eq1s_ok h1
    exact ⟨h3, fun e => by simp only [List.map_cons, v1, h2 e, h4 e]⟩
  | .inl _ :: _, .inr _ :: _, h => by exact h.bad.elim
  | .inr _ :: _, .inl _ :: _, h => by exact h.bad.elim
theorem eqVs_ok {K : Prop} : ∀ {l m : List AV}, eqVs K l m → K ∧ ∀ e, l.map (av e) = m.map (av e)
  | [], [], h => ⟨h, fun e => rfl⟩
  | [], _ :: _, h => by exact h.bad.elim
  | .inl _ :: _, [], h => by exact h.bad.elim
  | .inr _ :: _, [], h => by exact h.bad.elim
  | .inl c :: l, .inl d :: m, h => by
    simp only [eqVs] at h
    obtain ⟨h1, h2⟩ := eq1s_ok h
    obtain ⟨h3, h4⟩ := eqVs_ok h1
    exact ⟨h3, fun e => by have := h2 e; simp at this; simp [av, this, h4 e]⟩
  | .inr c :: l, .inr d :: m, h => by
    simp only [eqVs] at h
    obtain ⟨h1, h2⟩ := eq1s_ok h
    obtain ⟨h3, h4⟩ := eqVs_ok h1
    exact ⟨h3, fun e => by simp only [List.map_cons, av, h2 e, h4 e]⟩
  | .inl _ :: _, .inr _ :: _, h => by exact h.bad.elim
  | .inr _ :: _, .inl _ :: _, h => by exact h.bad.elim

theorem eqKs_ok {K : Prop} : ∀ {l m : List (Option Blk)}, eqKs K l m → K ∧ l.length = m.length ∧ ∀ (b : Nat) y, m[b]? = some (some y) → ∃ x, l[b]? = some (some x) ∧ x.elem = y.elem ∧ x.j = y.j ∧ x.c = y.c ∧ x.z = y.z ∧ ∀ e, x.cells.map (cv e) = y.cells.map (cv e)
  | [], [], h => ⟨h, rfl, by intro b y hy; simp at hy⟩
  | [], _ :: _, h => by exact h.bad.elim
  | none :: _, [], h => by exact h.bad.elim
  | some _ :: _, [], h => by exact h.bad.elim
  | x :: l, none :: m, h => by
    simp only [eqKs] at h
    obtain ⟨h1, h2, h3⟩ := eqKs_ok h
    refine ⟨h1, by simp [h2], fun b y hy => ?_⟩
    cases b with
    | zero => simp at hy
    | succ b => simpa using h3 b y (by simpa using hy)
  | none :: l, some _ :: m, h => by exact h.bad.elim
  | some x :: l, some y :: m, h => by
    simp only [eqKs] at h
    split at h
    · rename_i hc
      simp only [Bool.and_eq_true, beq_iff_eq, decide_eq_true_eq] at hc
      obtain ⟨⟨⟨c1, c2⟩, c3⟩, c4⟩ := hc
      obtain ⟨h0, h0'⟩ := eqCs_ok h
      obtain ⟨h1, h2, h3⟩ := eqKs_ok h0
      refine ⟨h1, by simp [h2], fun b z hz => ?_⟩
      cases b with
      | zero => simp at hz; subst hz; exact ⟨x, rfl, c1, c2, c3, c4, h0'⟩
      | succ b => simpa using h3 b z (by simpa using hz)
    · exact h.bad.elim
theorem eqK_none {x y : AK} (h : eqK x y = some none) : x = y := by
  unfold eqK at h
  split at h
  · split at h
    · rename_i hk; simp at hk; rw [hk]
    · cases h
  · cases h
  · split at h <;> cases h
  · cases h
  · split at h <;> cases h
  · cases h
  · cases h
  · cases h
theorem eqK_some {x y : AK} {p : Prop} (h : eqK x y = some (some p)) (hp : p) : x = y := by
  unfold eqK at h
  split at h
  · split at h <;> cases h
  · simp only [Option.some.injEq] at h; subst h; rw [hp.1, hp.2]
  · split at h
    · rename_i hk; simp at hk
      simp only [Option.some.injEq] at h; subst h; rw [hk, hp.1, hp.2]
    · cases h
  · simp only [Option.some.injEq] at h; subst h; rw [hp.1, hp.2]
  · split at h
    · rename_i hk
      have hk := sameK_eq hk
      simp only [Option.some.injEq] at h; subst h; rw [hk, hp]
    · cases h
  · simp only [Option.some.injEq] at h; subst h; rw [hp]
  · simp only [Option.some.injEq] at h; subst h; rw [hp]
  · cases h
theorem eqAs_ok {K : Prop} : ∀ {l m : List (Option ABlk)}, eqAs K l m → K ∧ l.length = m.length ∧ ∀ (b : Nat) y, m[b]? = some (some y) → l[b]? = some (some y)
  | [], [], h => ⟨h, rfl, by intro b y hy; simp at hy⟩
  | [], _ :: _, h => by exact h.bad.elim
  | none :: _, [], h => by exact h.bad.elim
  | some _ :: _, [], h => by exact h.bad.elim
  | x :: l, none :: m, h => by
    simp only [eqAs] at h
    obtain ⟨h1, h2, h3⟩ := eqAs_ok h
    refine ⟨h1, by simp [h2], fun b y hy => ?_⟩
    cases b with
    | zero => simp at hy
    | succ b => simpa using h3 b y (by simpa using hy)
  | none :: l, some _ :: m, h => by exact h.bad.elim
  | some x :: l, some y :: m, h => by
    simp only [eqAs] at h
    have key : x.elem = y.elem → x.k = y.k → ((x.l = y.l ∧ x.cap = y.cap ∧ x.ro = y.ro) ∧ eqAs K l m) → K ∧ (some x :: l).length = (some y :: m).length ∧ ∀ (b : Nat) z, (some y :: m)[b]? = some (some z) → (some x :: l)[b]? = some (some z) := by
      rintro c1 c2 ⟨⟨c4, c5, c3⟩, h⟩
      obtain ⟨h1, h2, h3⟩ := eqAs_ok h
      refine ⟨h1, by simp [h2], fun b z hz => ?_⟩
      cases b with
      | zero =>
        simp at hz; subst hz
        obtain ⟨a1, a2, a3, a4, a5⟩ := x
        obtain ⟨b1, b2, b3, b4, b5⟩ := y
        dsimp only at c1 c2 c3 c4 c5
        subst c1; subst c2; subst c3; subst c4; subst c5; rfl
      | succ b => simpa using h3 b z (by simpa using hz)
    split at h
    · rename_i hc
      have hc : x.elem = y.elem := by simpa using hc
      split at h
      · rename_i hk; exact key hc (eqK_none hk) h
      · rename_i p hk
        split at h
        · rename_i hb
          simp only [Bool.and_eq_true, List.isEmpty_iff] at hb
          obtain ⟨⟨_, b1⟩, b2⟩ := hb
          exact key hc (eqK_some hk h.1.1) ⟨⟨b1.trans b2.symm, h.1.2⟩, h.2⟩
        split at h
        · rename_i hb
          simp only [Bool.and_eq_true, List.isEmpty_iff, Nat.beq_eq, beq_iff_eq] at hb
          obtain ⟨⟨⟨b1, b2⟩, b3⟩, b4⟩ := hb
          exact key hc (eqK_some hk h.1) ⟨⟨b1.trans b2.symm, b3, b4⟩, h.2⟩
        · exact h.bad.elim
      · exact h.bad.elim
    · exact h.bad.elim

section
variable {P : Program} {w0 w : World} {e : Env} {σ τ : St} {tm : List AV} {a : Act}

theorem eqSt_ok {K : Prop} (h : eqSt K σ τ) (hk : Ok w0 e σ w) : K ∧ Ok w0 e τ w := by
  unfold eqSt at h
  split at h
  · rename_i hc
    simp only [Bool.and_eq_true, beq_iff_eq, decide_eq_true_eq] at hc
    obtain ⟨⟨c1, c2⟩, c3⟩ := hc
    obtain ⟨h1, h2, h3⟩ := eqKs_ok h
    obtain ⟨h4, h5, h6⟩ := eqAs_ok h1
    refine ⟨h4, ⟨hk.only, hk.blks.trans h2, by rw [← c1]; exact hk.ints, by rw [← c2]; exact hk.opqs, by rw [← c1]; exact hk.bnd, hk.opq, ?_, ?_, ⟨hk.arrs.len.trans h5, ?_, ?_, ?_⟩, by rw [← c3]; exact hk.junks, hk.froz.mv (fun b x g1 _ => ⟨b, h6 b x g1⟩) rfl rfl (fun g _ _ hg ho => hg ?_)⟩⟩
    · intro b y q g1 g2
      obtain ⟨x, k1, k2, k3, k4, k5, k6⟩ := h3 b y g1
      obtain ⟨m1, cur, fz, m2, m3, ⟨N, m4, m5⟩, m6, m7, m8⟩ := hk.blk b x q k1 g2
      refine ⟨m1, cur, fz, by rw [← k2]; exact m2, ?_, ⟨N, by unfold b0 at m4 ⊢; rw [← k3, ← k4]; exact m4, by unfold bu at m5 ⊢; rw [← k3, ← k4]; exact m5⟩, m6, by rw [← k5]; exact m7, m8⟩
      intro j c hc
      have := congrArg (fun l : List (Option Value) => l[j]?) (k6 e)
      simp only [List.getElem?_map, hc, Option.map_some] at this
      cases hx : x.cells[j]? with
      | none => simp [hx] at this
      | some d =>
        rw [hx] at this
        simp only [Option.map_some, Option.some.injEq] at this
        obtain ⟨v, n1, n2⟩ := m3 j d hx
        exact ⟨v, this ▸ n1, n2⟩
    · intro b1 b2 y1 y2 q1 q2 hne g1 g2 g3 g4
      obtain ⟨x1, k1, _⟩ := h3 b1 y1 g1
      obtain ⟨x2, k2, _⟩ := h3 b2 y2 g2
      exact hk.apart b1 b2 x1 x2 q1 q2 hne k1 k2 g3 g4
    · intro b x q g1 g2; exact hk.arrs.ok b x q (h6 b x g1) g2
    · intro b x q b2 y q' g1 g2 g3 g4 g5
      obtain ⟨x2, k2, _⟩ := h3 b2 y g4
      exact hk.arrs.off b x q b2 x2 q' (h6 b x g1) g2 g3 k2 g5
    · intro b b2 x y q q' hne g1 g2 g3 g4 g5 g6
      exact hk.arrs.apart b b2 x y q q' hne (h6 b x g1) (h6 b2 y g2) g3 g4 g5 g6
    · rcases ho with ⟨b, y, q, g1, g2, g3⟩ | ⟨b, y, q, g1, g2, g3, g4⟩
      · obtain ⟨x1, k1, _⟩ := h3 b y g1
        exact .inl ⟨b, x1, q, k1, g2, g3⟩
      · exact .inr ⟨b, y, q, h6 b y g1, g2, g3, g4⟩
  · exact h.bad.elim

theorem head_ok {i : Inv} {tm' : List AV} {σ' : St} {K : Nat → i.X → Prop} {e0 : Env} {wS : World} (h0 : Ok w0 e0 σ wS) (h : atHead i tm σ tm' σ' K) (hl : e0.le e) (hk : Ok w0 e σ' w) (ht : Tm e tm' a) :
    ∃ t x e', t ∈ i.tags ∧ e0.le e' ∧ Tm e' (headOf i tm σ t x).1 a ∧ Ok w0 e' (headOf i tm σ t x).2 w ∧ K t x := by
  rw [atHead_eq] at h
  unfold atHead0 at h
  split at h
  · rename_i hr
    simp only [Bool.and_eq_true] at hr
    obtain ⟨hr, htag⟩ := hr
    have htag : i.tag tm' σ' ∈ i.tags := by
      cases hp : place i.tags (i.tag tm' σ') with
      | none => rw [hp] at htag; cases htag
      | some p => exact List.mem_of_getElem? (place_get hp)
    obtain ⟨x, h⟩ := h
    have hr := renOk_ok (e := e) hr
    obtain ⟨g1, g2⟩ := renSt_ok hk hr ht
    obtain ⟨h1, h2⟩ := eqVs_ok h
    obtain ⟨h3, h4⟩ := eqSt_ok h1 g1
    refine ⟨_, x, renE (renAt σ i tm' σ') e a, htag, renE_le hl h0.blks.symm h0.ints.symm h0.opqs.symm h0.arrs.len.symm h0.junks.symm, ⟨?_, g2.2⟩, h4, h3⟩
    rw [← h2]; exact g2.1
  · exact h.bad.elim
end
end Reck
