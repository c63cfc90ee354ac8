/- Parts of a proof, one behind the other: XM1 XM2 XT1 XT2. No condition. -/
import Derived.Test.YtmahbhoblhhamaaGE
section
set_option linter.unusedVariables false
set_option linter.unusedSimpArgs false
set_option maxRecDepth 10000
namespace Go.Proofs.Ytmahbhoblhhamaa
open Go Reck Ost
abbrev rowC (a b c d h : Int) (m : Bool) : List CV := [.i a, .i b, .i c, .i d, .i h, .b m]
/-- A cable's end at a port, and what is at the other one. -/
inductive En19 (a b c d h : Int) : Bool → Int → CSv → Prop
  | mach : En19 a b c d h true (U.num a b) ⟨2, 0, 0, h⟩
  | near : En19 a b c d h false (U.num a b) ⟨1, c, d, 0⟩
  | far : En19 a b c d h false (U.num c d) ⟨1, a, b, 0⟩
structure U.Rel (P : CSP) (R : Rws) : Prop where
  ty : U.Ty R
  wf : ∀ a b c d h m, rowC a b c d h m ∈ R → U.Gd a b ∧ (m = false → U.Gd c d)
  mem : ∀ k e, (k, e) ∈ P ↔ ∃ a b c d h m, rowC a b c d h m ∈ R ∧ En19 a b c d h m k e
/-- Does a cable touch a port? -/
def tch (r : List CV) (a b : Int) : Prop := (rwI r 0 = a ∧ rwI r 1 = b) ∨ (rwI r 2 = a ∧ rwI r 3 = b ∧ rwB r 5 = false)
theorem rO_zero : ∀ (R : Rws) (a b : Int), (∀ r ∈ R, ¬ tch r a b) → U.rO R a b = ⟨0, 0, 0, 0⟩
  | [], _, _, _ => rfl
  | r :: l, a, b, h => by
    have h0 := h r (List.mem_cons_self ..)
    unfold U.rO
    rw [if_neg fun g => h0 (.inl g), if_neg fun g => h0 (.inr g)]
    exact rO_zero l a b fun r hr => h r (List.mem_cons_of_mem _ hr)
theorem rO_some : ∀ (R : Rws) (a b : Int) (r : List CV), r ∈ R → tch r a b → ¬ (U.rO R a b).v0 = 0
  | [], _, _, _, h, _ => by cases h
  | s :: l, a, b, r, h, ht => by
    unfold U.rO
    split
    · split
      · exact (by decide : ¬ (2 : Int) = 0)
      · exact (by decide : ¬ (1 : Int) = 0)
    · rename_i h1
      split
      · exact (by decide : ¬ (1 : Int) = 0)
      · rename_i h2
        rcases List.mem_cons.1 h with rfl | h
        · exact (ht.elim h1 h2).elim
        · exact rO_some l a b r h ht
theorem rO_from : ∀ (R : Rws) (a b : Int), U.Ty R → ¬ (U.rO R a b).v0 = 0 → ∃ a' b' c d h m, rowC a' b' c d h m ∈ R ∧ En19 a' b' c d h m (U.num a b) (U.rO R a b)
  | [], _, _, _, h => (h rfl).elim
  | s :: l, a, b, hT, h => by
    obtain ⟨a', b', c, d, q, m, rfl⟩ := hT.out s (List.mem_cons_self ..)
    unfold U.rO at h ⊢
    split
    · rename_i h1
      have e1 : a' = a := h1.1
      have e2 : b' = b := h1.2
      subst e1; subst e2
      cases m with
      | true => exact ⟨a', b', c, d, q, true, List.mem_cons_self .., .mach⟩
      | false => exact ⟨a', b', c, d, q, false, List.mem_cons_self .., .near⟩
    · rename_i h1
      rw [if_neg h1] at h
      split
      · rename_i h2
        have e1 : c = a := h2.1
        have e2 : d = b := h2.2.1
        have e3 : m = false := h2.2.2
        subst e1; subst e2; subst e3
        exact ⟨a', b', c, d, q, false, List.mem_cons_self .., .far⟩
      · rename_i h2
        rw [if_neg h2] at h
        obtain ⟨x1, x2, x3, x4, x5, x6, x7, x8⟩ := rO_from l a b ⟨fun r hr => hT.out r (List.mem_cons_of_mem _ hr)⟩ h
        exact ⟨x1, x2, x3, x4, x5, x6, List.mem_cons_of_mem _ x7, x8⟩
theorem en_tch {a b c d h : Int} {m : Bool} {x y : Int} {e : CSv} {R : Rws} (hw : U.Gd a b ∧ (m = false → U.Gd c d)) (g : U.Gd x y) (he : En19 a b c d h m (U.num x y) e) : tch (rowC a b c d h m) x y := by
  generalize hk : U.num x y = k at he
  cases he with
  | mach => obtain ⟨rfl, rfl⟩ := num_inj g hw.1 hk; exact .inl ⟨rfl, rfl⟩
  | near => obtain ⟨rfl, rfl⟩ := num_inj g hw.1 hk; exact .inl ⟨rfl, rfl⟩
  | far => obtain ⟨rfl, rfl⟩ := num_inj g (hw.2 rfl) hk; exact .inr ⟨rfl, rfl, rfl⟩
theorem tch_en {a b c d h : Int} {m : Bool} {x y : Int} (ht : tch (rowC a b c d h m) x y) : ∃ e, En19 a b c d h m (U.num x y) e ∧ (m = false → (e = ⟨1, c, d, 0⟩ ∧ x = a ∧ y = b) ∨ (e = ⟨1, a, b, 0⟩ ∧ x = c ∧ y = d)) := by
  rcases ht with ⟨h1, h2⟩ | ⟨h1, h2, h3⟩
  · have e1 : a = x := h1
    have e2 : b = y := h2
    subst e1; subst e2
    cases m with
    | true => exact ⟨_, .mach, fun h => by cases h⟩
    | false => exact ⟨_, .near, fun _ => .inl ⟨rfl, rfl, rfl⟩⟩
  · have e1 : c = x := h1
    have e2 : d = y := h2
    have e3 : m = false := h3
    subst e1; subst e2; subst e3
    exact ⟨_, .far, fun _ => .inr ⟨rfl, rfl, rfl⟩⟩
theorem rel_oth {P : CSP} {R : Rws} (hR : U.Rel P R) (hs : U.csSrt P) {a b k x y h : Int} (ho : U.Oth P a b k x y h) (hk : ¬ k = 0 ∨ (U.Gd a b → ¬ U.csHasK P (U.num a b))) : U.rO R a b = ⟨k, x, y, h⟩ := by
  have hz : (U.Gd a b → ¬ U.csHasK P (U.num a b)) → U.rO R a b = ⟨0, 0, 0, 0⟩ := fun g => by
    refine rO_zero R a b fun r hr ht => ?_
    obtain ⟨a', b', c, d, q, m, rfl⟩ := hR.ty.out r hr
    obtain ⟨e, he, _⟩ := tch_en ht
    have hw := hR.wf _ _ _ _ _ _ hr
    have gd : U.Gd a b := by
      rcases ht with ⟨h1, h2⟩ | ⟨h1, h2, h3⟩
      · have e1 : a' = a := h1
        have e2 : b' = b := h2
        rw [← e1, ← e2]; exact hw.1
      · have e1 : c = a := h1
        have e2 : d = b := h2
        rw [← e1, ← e2]; exact hw.2 h3
    exact g gd ⟨e, (hR.mem _ _).2 ⟨_, _, _, _, _, _, hr, he⟩⟩
  rcases ho.out with ⟨g, ⟨e⟩⟩ | ⟨g, rfl, rfl, rfl, rfl⟩
  · obtain ⟨a', b', c, d, q, m, hr, he⟩ := (hR.mem _ _).1 e
    have ht := en_tch (R := R) (hR.wf _ _ _ _ _ _ hr) g he
    obtain ⟨x1, x2, x3, x4, x5, x6, x7, x8⟩ := rO_from R a b hR.ty (rO_some R a b _ hr ht)
    exact cs_one hs ((hR.mem _ _).2 ⟨_, _, _, _, _, _, x7, x8⟩) e
  · exact hz g
theorem oth_of {P : CSP} {a b : Int} : ∃ k x y h, U.Oth P a b k x y h := by
  by_cases g : U.Gd a b ∧ U.csHasK P (U.num a b)
  · obtain ⟨g1, ⟨e, he⟩⟩ := g
    exact ⟨e.v0, e.v1, e.v2, e.v3, ⟨.inl ⟨g1, ⟨he⟩⟩⟩⟩
  · exact ⟨0, 0, 0, 0, ⟨.inr ⟨fun g1 g2 => g ⟨g1, g2⟩, rfl, rfl, rfl, rfl⟩⟩⟩
/-- The same is told of each port. -/
theorem rel_eq {P : CSP} {R : Rws} (hR : U.Rel P R) (hs : U.csSrt P) (hP : U.NetI P) {a b k x y h k' x' y' h' : Int} (ho : U.Oth P a b k x y h) (hv : U.isV (U.rO R a b) k' x' y' h') : k = k' ∧ x = x' ∧ y = y' ∧ h = h' := by
  have := rel_oth hR hs ho (by
    by_cases hk : k = 0
    · exact .inr ((oth_k hP ho).1 hk)
    · exact .inl hk)
  rw [hv.out] at this
  exact v_eq this.symm
theorem rel_t {P : CSP} {R : Rws} (hR : U.Rel P R) (hs : U.csSrt P) (hP : U.NetI P) {a b : Int} (g : U.Gd a b) : U.rT R a b ↔ U.csHasK P (U.num a b) := by
  obtain ⟨k, x, y, h, ho⟩ := oth_of (P := P) (a := a) (b := b)
  have := rel_oth hR hs ho (by
    by_cases hk : k = 0
    · exact .inr ((oth_k hP ho).1 hk)
    · exact .inl hk)
  have hk := oth_k hP ho
  constructor
  · rintro ⟨h⟩
    rw [this] at h
    exact Classical.not_not.1 fun hn => h (hk.2 fun _ => hn)
  · intro hh
    exact ⟨by rw [this]; exact fun h0 => hk.1 h0 g hh⟩
theorem mem_one {R : Rws} {r x : List CV} : x ∈ R ++ [r] ↔ x ∈ R ∨ x = r := by simp
theorem row_inj {a b c d h a' b' c' d' h' : Int} {m m' : Bool} (e : rowC a b c d h m = rowC a' b' c' d' h' m') : a = a' ∧ b = b' ∧ c = c' ∧ d = d' ∧ h = h' ∧ m = m' := by
  simpa using e
theorem rel_join {P P' : CSP} {R : Rws} {a b a' b' : Int} (hR : U.Rel P R) (hj : U.mayJ P a b a' b') (hJ : U.Joined P a b a' b' P') : U.Rel P' (R ++ [U.cJ a b a' b']) := by
  refine ⟨⟨fun r hr => ?_⟩, fun x y c d h m hr => ?_, fun k e => ?_⟩
  · rcases mem_one.1 hr with hr | rfl
    · exact hR.ty.out r hr
    · exact ⟨_, _, _, _, _, _, rfl⟩
  · rcases mem_one.1 hr with hr | hr
    · exact hR.wf _ _ _ _ _ _ hr
    · obtain ⟨rfl, rfl, rfl, rfl, rfl, rfl⟩ := row_inj hr
      exact ⟨hj.g, fun _ => hj.g'⟩
  · rw [hJ.mem]
    constructor
    · rintro (⟨rfl, rfl⟩ | ⟨rfl, rfl⟩ | ⟨h1, h2, h3⟩)
      · exact ⟨a, b, a', b', 0, false, mem_one.2 (.inr rfl), .near⟩
      · exact ⟨a, b, a', b', 0, false, mem_one.2 (.inr rfl), .far⟩
      · obtain ⟨x1, x2, x3, x4, x5, x6, x7, x8⟩ := (hR.mem _ _).1 h1
        exact ⟨x1, x2, x3, x4, x5, x6, mem_one.2 (.inl x7), x8⟩
    · rintro ⟨x1, x2, x3, x4, x5, x6, x7, x8⟩
      rcases mem_one.1 x7 with x7 | hr
      · have := (hR.mem _ _).2 ⟨x1, x2, x3, x4, x5, x6, x7, x8⟩
        exact .inr (.inr ⟨this, fun h => hj.n ⟨_, by rw [← h]; exact this⟩, fun h => hj.n' ⟨_, by rw [← h]; exact this⟩⟩)
      · obtain ⟨rfl, rfl, rfl, rfl, rfl, rfl⟩ := row_inj hr
        cases x8 with
        | near => exact .inl ⟨rfl, rfl⟩
        | far => exact .inr (.inl ⟨rfl, rfl⟩)
theorem rel_att {P P' : CSP} {R : Rws} {a b h : Int} (hR : U.Rel P R) (g : U.Gd a b) (n : ¬ U.csHasK P (U.num a b)) (hJ : U.csPut P (U.num a b) ⟨2, 0, 0, h⟩ P') : U.Rel P' (R ++ [U.cM a b h]) := by
  refine ⟨⟨fun r hr => ?_⟩, fun x y c d h m hr => ?_, fun k e => ?_⟩
  · rcases mem_one.1 hr with hr | rfl
    · exact hR.ty.out r hr
    · exact ⟨_, _, _, _, _, _, rfl⟩
  · rcases mem_one.1 hr with hr | hr
    · exact hR.wf _ _ _ _ _ _ hr
    · obtain ⟨rfl, rfl, rfl, rfl, rfl, rfl⟩ := row_inj hr
      exact ⟨g, fun h => by cases h⟩
  · rw [hJ.mem]
    constructor
    · rintro (⟨rfl, rfl⟩ | ⟨h1, h2⟩)
      · exact ⟨a, b, 0, 0, h, true, mem_one.2 (.inr rfl), .mach⟩
      · obtain ⟨x1, x2, x3, x4, x5, x6, x7, x8⟩ := (hR.mem _ _).1 h1
        exact ⟨x1, x2, x3, x4, x5, x6, mem_one.2 (.inl x7), x8⟩
    · rintro ⟨x1, x2, x3, x4, x5, x6, x7, x8⟩
      rcases mem_one.1 x7 with x7 | hr
      · have := (hR.mem _ _).2 ⟨x1, x2, x3, x4, x5, x6, x7, x8⟩
        exact .inr ⟨this, fun h => n ⟨_, by rw [← h]; exact this⟩⟩
      · obtain ⟨rfl, rfl, rfl, rfl, rfl, rfl⟩ := row_inj hr
        cases x8 with
        | mach => exact .inl ⟨rfl, rfl⟩
theorem pr_tch {a b c d h : Int} {m : Bool} {x y : Int} : U.rPr x y (rowC a b c d h m) = true ↔ ¬ tch (rowC a b c d h m) x y := by
  unfold U.rPr tch
  have e0 : rwI (rowC a b c d h m) 0 = a := rfl
  have e1 : rwI (rowC a b c d h m) 1 = b := rfl
  have e2 : rwI (rowC a b c d h m) 2 = c := rfl
  have e3 : rwI (rowC a b c d h m) 3 = d := rfl
  have e5 : rwB (rowC a b c d h m) 5 = m := rfl
  rw [e0, e1, e2, e3, e5]
  simp only [Bool.and_eq_true, Bool.not_eq_true', decide_eq_false_iff_not, Bool.or_eq_true]
  constructor
  · rintro ⟨h1, h2⟩ (h3 | ⟨h3, h4, h5⟩)
    · exact h1 h3
    · rcases h2 with h2 | h2
      · rw [h5] at h2; cases h2
      · exact h2 ⟨h3, h4⟩
  · intro hn
    refine ⟨fun h => hn (.inl h), ?_⟩
    cases m with
    | true => exact .inl rfl
    | false => exact .inr fun h => hn (.inr ⟨h.1, h.2, rfl⟩)
theorem rel_pull {P P' : CSP} {R : Rws} {a b k x y h : Int} (hR : U.Rel P R) (hs : U.csSrt P) (hP : U.NetI P) (ho : U.Oth P a b k x y h) (hk : ¬ k = 0) (hJ : U.Pulled P a b k x y P') : U.Rel P' (U.rP R a b) := by
  have he : U.Gd a b ∧ (U.num a b, (⟨k, x, y, h⟩ : CSv)) ∈ P := by
    rcases ho.out with ⟨g, e⟩ | ⟨_, e, _⟩
    · exact ⟨g, e.out⟩
    · exact absurd e hk
  obtain ⟨g, hm⟩ := he
  have hin : ∀ r, r ∈ U.rP R a b ↔ r ∈ R ∧ U.rPr a b r = true := fun r => by unfold U.rP; rw [List.mem_filter]
  refine ⟨⟨fun r hr => hR.ty.out r ((hin r).1 hr).1⟩, fun a1 b1 c d h1 m hr => hR.wf _ _ _ _ _ _ ((hin _).1 hr).1, fun q e => ?_⟩
  rw [hJ.mem]
  constructor
  · rintro ⟨h1, h2, h3⟩
    obtain ⟨x1, x2, x3, x4, x5, m, x7, x8⟩ := (hR.mem _ _).1 h1
    refine ⟨x1, x2, x3, x4, x5, m, (hin _).2 ⟨x7, pr_tch.2 fun ht => ?_⟩, x8⟩
    obtain ⟨e', t1, t2⟩ := tch_en ht
    have e1 := cs_one hs hm ((hR.mem _ _).2 ⟨_, _, _, _, _, _, x7, t1⟩)
    cases x8 with
    | mach =>
      generalize hq : U.num a b = w at t1 h2
      cases t1 with
      | mach => exact h2 rfl
    | near =>
      rcases t2 rfl with ⟨rfl, rfl, rfl⟩ | ⟨rfl, rfl, rfl⟩
      · exact h2 rfl
      · obtain ⟨rfl, rfl, rfl, _⟩ := v_eq e1
        exact h3 rfl rfl
    | far =>
      rcases t2 rfl with ⟨rfl, rfl, rfl⟩ | ⟨rfl, rfl, rfl⟩
      · obtain ⟨rfl, rfl, rfl, _⟩ := v_eq e1
        exact h3 rfl rfl
      · exact h2 rfl
  · rintro ⟨x1, x2, x3, x4, x5, m, x7, x8⟩
    obtain ⟨x7, hp⟩ := (hin _).1 x7
    have hnt := pr_tch.1 hp
    have hw := hR.wf _ _ _ _ _ _ x7
    have hq := (hR.mem _ _).2 ⟨_, _, _, _, _, _, x7, x8⟩
    refine ⟨hq, fun h => hnt ?_, fun hk1 h => hnt ?_⟩
    · rw [h] at x8
      exact en_tch (R := R) hw g x8
    · subst hk1
      have s := hP.sw _ _ _ _ hm
      have s2 := sp_num g
      have e2 := cs_one hs hq (by rw [h]; exact s.2.2.2)
      rw [s2.1, s2.2] at e2
      cases x8 with
      | mach => exact absurd (v_eq e2).1 (by decide)
      | near =>
        obtain ⟨_, rfl, rfl, _⟩ := v_eq e2
        exact .inr ⟨rfl, rfl, rfl⟩
      | far =>
        obtain ⟨_, rfl, rfl, _⟩ := v_eq e2
        exact .inl ⟨rfl, rfl⟩
theorem rW_from : ∀ (R : Rws) (h a b : Int), U.Ty R → U.rW R h = some (a, b) → ∃ c d, rowC a b c d h true ∈ R
  | [], _, _, _, _, e => by cases e
  | s :: l, h, a, b, hT, e => by
    obtain ⟨a', b', c, d, q, m, rfl⟩ := hT.out s (List.mem_cons_self ..)
    unfold U.rW at e
    split at e
    · rename_i h1
      simp only [Option.some.injEq, Prod.mk.injEq] at e
      have e1 : a' = a := e.1
      have e2 : b' = b := e.2
      have e3 : m = true := h1.1
      have e4 : q = h := h1.2
      subst e1; subst e2; subst e3; subst e4
      exact ⟨c, d, List.mem_cons_self ..⟩
    · obtain ⟨c', d', hm⟩ := rW_from l h a b ⟨fun r hr => hT.out r (List.mem_cons_of_mem _ hr)⟩ e
      exact ⟨c', d', List.mem_cons_of_mem _ hm⟩
theorem rW_none : ∀ (R : Rws) (h a b c d : Int), rowC a b c d h true ∈ R → ¬ U.rW R h = none
  | [], _, _, _, _, _, e => by cases e
  | s :: l, h, a, b, c, d, e => by
    unfold U.rW
    split
    · exact fun h => by cases h
    · rename_i h1
      rcases List.mem_cons.1 e with rfl | e
      · exact (h1 ⟨rfl, rfl⟩).elim
      · exact rW_none l h a b c d e
theorem rel_isW {P : CSP} {R : Rws} (hR : U.Rel P R) {h a b : Int} (hw : U.isW R h a b) : U.Gd a b ∧ U.csHasE P (U.num a b) 2 0 0 h := by
  obtain ⟨c, d, hm⟩ := rW_from R h a b hR.ty hw.out
  exact ⟨(hR.wf _ _ _ _ _ _ hm).1, ⟨(hR.mem _ _).2 ⟨_, _, _, _, _, _, hm, .mach⟩⟩⟩
theorem rel_noW {P : CSP} {R : Rws} (hR : U.Rel P R) {h : Int} (hw : U.noW R h) (k : Int) : ¬ U.csHasE P k 2 0 0 h := by
  rintro ⟨hk⟩
  obtain ⟨x1, x2, x3, x4, x5, m, x7, x8⟩ := (hR.mem _ _).1 hk
  generalize he : (⟨2, 0, 0, h⟩ : CSv) = e at x8
  cases x8 with
  | mach =>
    obtain ⟨_, _, _, rfl⟩ := v_eq he
    exact rW_none R _ _ _ _ _ x7 hw.out
  | near => exact absurd (v_eq he).1 (by decide)
  | far => exact absurd (v_eq he).1 (by decide)
theorem rel_w {R : Rws} (h : Int) : (∃ a b, U.isW R h a b) ∨ U.noW R h := by
  cases e : U.rW R h with
  | none => exact .inr ⟨e⟩
  | some p => exact .inl ⟨p.1, p.2, ⟨e⟩⟩
end Go.Proofs.Ytmahbhoblhhamaa
end

section
set_option linter.unusedVariables false
set_option linter.unusedSimpArgs false
set_option maxRecDepth 10000
namespace Go.Proofs.Ytmahbhoblhhamaa
open Go Reck Ost
theorem fm_congr {α β : Type} {f g : α → Option β} : ∀ {l : List α}, (∀ x ∈ l, f x = g x) → l.filterMap f = l.filterMap g
  | [], _ => rfl
  | a :: l, h => by
    rw [List.filterMap_cons, List.filterMap_cons, h a (List.mem_cons_self ..), fm_congr (l := l) fun x hx => h x (List.mem_cons_of_mem _ hx)]
theorem srt_fm {α : Type} (f : Nat → Option α) : ∀ (N lo : Nat) (S : List Nat), S.Pairwise (· < ·) → (∀ m ∈ S, lo ≤ m ∧ m < lo + N) → (∀ m, lo ≤ m → m < lo + N → m ∉ S → f m = none) → S.filterMap f = (List.range' lo N).filterMap f
  | 0, lo, S, _, hb, _ => by
    cases S with
    | nil => rfl
    | cons s S => have := hb s (List.mem_cons_self ..); omega
  | N + 1, lo, S, hp, hb, hn => by
    rw [List.range'_succ]
    by_cases hlo : lo ∈ S
    · cases S with
      | nil => cases hlo
      | cons s S =>
        rw [List.pairwise_cons] at hp
        have hs : s = lo := by
          rcases List.mem_cons.1 hlo with h | h
          · exact h.symm
          · have a := hp.1 lo h
            have b := hb s (List.mem_cons_self ..)
            omega
        subst hs
        have ih := srt_fm f N (s + 1) S hp.2 (fun m hm => by have a := hp.1 m hm; have b := hb m (List.mem_cons_of_mem _ hm); omega) (fun m h1 h2 h3 => hn m (by omega) (by omega) (fun h => by
          rcases List.mem_cons.1 h with h | h
          · omega
          · exact h3 h))
        rw [List.filterMap_cons, List.filterMap_cons, ih]
    · have h0 := hn lo (Nat.le_refl _) (by omega) hlo
      have ih := srt_fm f N (lo + 1) S hp (fun m hm => by
        have b := hb m hm
        have : m ≠ lo := fun h => hlo (h ▸ hm)
        omega) (fun m h1 h2 h3 => hn m (by omega) (by omega) h3)
      rw [List.filterMap_cons, h0, ih]
theorem links_eq {P : CSP} {R : Rws} (hR : U.Rel P R) (hs : U.csSrt P) (hP : U.NetI P) : U.lnk (U.csks P) (U.csvs P) P.length = U.rL R 64 := by
  have e1 : U.lnk (U.csks P) (U.csvs P) P.length = (P.map fun p => p.1.toNat).filterMap (U.rLf R) := by
    unfold U.lnk
    have : (P.map fun p => p.1.toNat) = (List.range P.length).map fun i => (U.fi (U.csks P) i 0).toNat := by
      apply List.ext_getElem?
      intro i
      rw [List.getElem?_map, List.getElem?_map]
      by_cases hi : i < P.length
      · rw [List.getElem?_range hi]
        have h := List.getElem?_eq_getElem hi
        rw [h]
        have := vs_fi h
        simp only [Option.map_some]
        rw [this.2.2.2.2]; rfl
      · rw [List.getElem?_eq_none (by omega), List.getElem?_eq_none (by rw [List.length_range]; omega)]; rfl
    rw [this, List.filterMap_map]
    refine fm_congr fun i hi => ?_
    have hi := List.mem_range.1 hi
    have h := List.getElem?_eq_getElem hi
    generalize P[i] = p at h
    obtain ⟨k, e⟩ := p
    obtain ⟨q0, q1, q2, q3, q4⟩ := vs_fi h
    have hm := List.mem_of_getElem? h
    have hk := hP.key _ _ hm
    obtain ⟨v0, v1, v2, v3⟩ := e
    dsimp only at q0 q1 q2 q3
    have ho : U.Oth P (U.sw k) (U.po k) v0 v1 v2 v3 := ⟨.inl ⟨gd_sp hk, ⟨by rw [num_sp]; exact hm⟩⟩⟩
    have hO := rel_oth hR hs ho (.inl (by rcases hP.kind _ _ _ _ _ hm with h | h <;> omega))
    rw [Function.comp_apply, q0, q1, q2, q4]
    unfold U.rLf
    rw [Int.toNat_of_nonneg hk.1, hO]
    dsimp only
    by_cases h1 : v0 = 1
    · subst h1
      have g := (hP.sw _ _ _ _ hm).1.out
      have : (k < U.num v1 v2) ↔ (U.sw k < v1 ∨ (U.sw k = v1 ∧ U.po k < v2)) := by unfold U.num U.sw U.po; omega
      simp only [this]
    · rw [if_neg (fun h => h1 h.1), if_neg (fun h => h1 h.1)]
  rw [e1]
  have := srt_fm (U.rLf R) 64 0 (P.map fun p => p.1.toNat) (by
    rw [List.pairwise_map]
    refine List.Pairwise.imp_of_mem ?_ hs.out
    intro x y hx hy hxy
    have a := hP.key x.1 x.2 hx
    have b := hP.key y.1 y.2 hy
    omega) (by
    intro m hm
    obtain ⟨p, hp, rfl⟩ := List.mem_map.1 hm
    have a := hP.key p.1 p.2 hp
    omega) (by
    intro m _ hm hno
    have hk : (0 : Int) ≤ m ∧ (m : Int) < 64 := by omega
    have ho : U.Oth P (U.sw m) (U.po m) 0 0 0 0 := ⟨.inr ⟨fun _ ⟨e, he⟩ => by
      rw [num_sp] at he
      exact hno (List.mem_map.2 ⟨_, he, by simp⟩), rfl, rfl, rfl, rfl⟩⟩
    have hO := rel_oth hR hs ho (.inr ((oth_k hP ho).1 rfl))
    unfold U.rLf
    rw [hO, if_neg (fun h => absurd h.1 (by decide))])
  rw [this]
  unfold U.rL
  rw [List.range_eq_range']
structure U.noA (P : CSP) (h a b z : Int) : Prop where
  out : ((¬ (0 ≤ h ∧ h < 16) ∨ ¬ U.Gd a b) ∧ z = 1) ∨ ((0 ≤ h ∧ h < 16) ∧ U.Gd a b ∧ ((∃ k, U.csHasE P k 2 0 0 h) ∨ U.csHasK P (U.num a b)) ∧ z = 3)
structure U.mayA (P : CSP) (h a b : Int) : Prop where
  g : U.Gd a b
  hh : 0 ≤ h ∧ h < 16
  n : ¬ U.csHasK P (U.num a b)
  no : ∀ k, ¬ U.csHasE P k 2 0 0 h
theorem attach_run (K : AV → St → Prop) (L M : Rws) (n c d : Nat) (m h a b : Int) (P : CSP) (hs : U.csshI n c L d M P) (hn : n ≤ 64) (hP : U.NetI P) (hm : m = 64)
    (h0 : ∀ z : Int, U.noA P h a b z → K (xi .i64 z) (nbSt n c L d M m))
    (h1 : U.mayA P h a b → ∀ (L' : Rws) (n' c' : Nat) (M' : Rws) (d' : Nat) (P' : CSP), n' = U.cslen P' → U.csPut P (U.num a b) ⟨2, 0, 0, h⟩ P' → U.csshI n' c' L' d' M' P' → K (xi .i64 0) (nbNw n' c' L' d' M' m)) :
    runR inv0 tN1 15 [ptr 0 0, xi .i64 h, plA a b] (nbSt n c L d M m) K := by
  rw [attach_vc]
  refine ⟨fun g => h0 1 ⟨.inl ⟨.inl (by omega), rfl⟩⟩, fun g1 => ⟨fun g => h0 1 ⟨.inl ⟨.inl (by omega), rfl⟩⟩, fun g2 => ⟨fun g => ⟨P, ⟨⟨rfl, rfl, rfl⟩, hs, hn, hP⟩, fun _ t => h0 3 ⟨.inr ⟨by omega, g, .inr t, rfl⟩⟩, fun t => ⟨P, ⟨⟨rfl, rfl, rfl⟩, hs, hn, hP⟩, fun k hk x y _ _ => h0 3 ⟨.inr ⟨by omega, g, .inl ⟨k, hk⟩, rfl⟩⟩, fun hno => ⟨g, fun z6 e6 => ⟨rfl, rfl, P, ⟨⟨rfl, rfl, rfl⟩, hs, by omega⟩, fun r L8 n9 c10 M11 d12 P13 e9 p1 i1 => ⟨rfl, rfl, ?_⟩, fun r => (r (room_of hs.srt hP.key (by rw [e6]; exact num_b g) hm)).elim⟩⟩⟩⟩, fun g => h0 1 ⟨.inl ⟨.inr g, rfl⟩⟩⟩⟩⟩
  subst e6
  exact h1 ⟨g, by omega, t g, hno⟩ L8 n9 c10 M11 d12 P13 e9 p1 i1
end Go.Proofs.Ytmahbhoblhhamaa
end

section
namespace Go.Proofs.Ytmahbhoblhhamaa
open Go Reck Ost
set_option linter.unusedVariables false
set_option maxRecDepth 100000
def pJoin : Pat := fun args σ => match args with
  | [.inl (.inl (.inr (.inl (0, 0)))), p, q] => match aPl p, aPl q, nbC σ with
    | some (a, b), some (a', b'), some (n, c, L, d, M, m) => some fun K => ∃ P, (nbD σ ∧ U.csshI n c L d M P ∧ n ≤ 64 ∧ U.NetI P ∧ m = 64) ∧ (∀ z : Int, U.noJ P a b a' b' z → K (xi .i64 z) (nbSt n c L d M m)) ∧
      (U.mayJ P a b a' b' → ∀ (L' : Rws) (n' c' : Nat) (M' : Rws) (d' : Nat) (P' : CSP), n' = U.cslen P' → U.Joined P a b a' b' P' → U.csshI n' c' L' d' M' P' → K (xi .i64 0) (nbNw n' c' L' d' M' m))
    | _, _, _ => none
  | _ => none
theorem pJoin_ok : PatOk 14 pJoin := by
  intro tm σ C h K hK w0 e w hk vs hvs
  unfold pJoin at h
  split at h
  · split at h
    · rename_i a b a' b' n c L d M m hp hq hσ
      simp only [Option.some.injEq] at h; subst h
      obtain ⟨P, ⟨hy, h1, h2, h3, h4⟩, h5, h6⟩ := hK
      obtain rfl := nbC_eq hσ hy
      obtain ⟨x, y, z, rfl, q1, q2, q3⟩ := threes hvs
      exact knownC noOv names (conOk_ofR tN1_ok) (join_run K _ _ _ _ _ _ a b a' b' P h1 h2 h3 h4 h5 h6) w0 e w hk _ (map3 q1 (aPl_av hp q2) (aPl_av hq q3))
    · cases h
  · cases h
def pAttach : Pat := fun args σ => match args with
  | [.inl (.inl (.inr (.inl (0, 0)))), h, p] => match aInt h, aPl p, nbC σ with
    | some h, some (a, b), some (n, c, L, d, M, m) => some fun K => ∃ P, (nbD σ ∧ U.csshI n c L d M P ∧ n ≤ 64 ∧ U.NetI P ∧ m = 64) ∧ (∀ z : Int, U.noA P h a b z → K (xi .i64 z) (nbSt n c L d M m)) ∧
      (U.mayA P h a b → ∀ (L' : Rws) (n' c' : Nat) (M' : Rws) (d' : Nat) (P' : CSP), n' = U.cslen P' → U.csPut P (U.num a b) ⟨2, 0, 0, h⟩ P' → U.csshI n' c' L' d' M' P' → K (xi .i64 0) (nbNw n' c' L' d' M' m))
    | _, _, _ => none
  | _ => none
theorem pAttach_ok : PatOk 15 pAttach := by
  intro tm σ C h K hK w0 e w hk vs hvs
  unfold pAttach at h
  split at h
  · split at h
    · rename_i hh a b n c L d M m hp hq hσ
      simp only [Option.some.injEq] at h; subst h
      obtain ⟨P, ⟨hy, h1, h2, h3, h4⟩, h5, h6⟩ := hK
      obtain rfl := nbC_eq hσ hy
      obtain ⟨x, y, z, rfl, q1, q2, q3⟩ := threes hvs
      exact knownC noOv names (conOk_ofR tN1_ok) (attach_run K _ _ _ _ _ _ hh a b P h1 h2 h3 h4 h5 h6) w0 e w hk _ (map3 q1 (as_aInt hp q2) (aPl_av hq q3))
    · cases h
  · cases h
def U.apd (R : Rws) (r : List CV) : Rws := R ++ [r]
def pRJoin : Pat := fun args σ => match args with
  | [l, p, q] => match caX l σ, aPl p, aPl q with
    | some (n, c, R), some (a, b), some (a', b') => some fun K => (caC l = c ∧ n = R.length ∧ n ≤ 100000) ∧ (∀ z : Int, U.rNoJ R a b a' b' z → K (errA ⟨0, 6, 0, n, c⟩ z) (caSt R c)) ∧
      (U.rMayJ R a b a' b' → ∀ (O : Rws) (q c' : Nat), O = U.apd R (U.cJ a b a' b') → q = n + 1 → q ≤ c' → K (errA ⟨1, 6, 0, q, c'⟩ 0) ⟨[], [], 0, [some (caB R c), some (caB O c')], 0⟩)
    | _, _, _ => none
  | _ => none
theorem pRJoin_ok : PatOk 18 pRJoin := by
  intro tm σ C h K hK w0 e w hk vs hvs
  unfold pRJoin at h
  split at h
  · split at h
    · rename_i n c R a b a' b' hx hp hq
      simp only [Option.some.injEq] at h; subst h
      obtain ⟨⟨h1, h2, h3⟩, h4, h5⟩ := hK
      obtain ⟨rfl, rfl⟩ := caX_eq hx h1
      obtain ⟨x, y, z, rfl, q1, q2, q3⟩ := threes hvs
      exact knownC noOv names (conOk_ofR tR1_ok) (rJoin_run K R n _ a b a' b' h2 h3 h4 h5) w0 e w hk _ (map3 q1 (aPl_av hp q2) (aPl_av hq q3))
    · cases h
  · cases h
def pRAttach : Pat := fun args σ => match args with
  | [l, h, p] => match caX l σ, aInt h, aPl p with
    | some (n, c, R), some h, some (a, b) => some fun K => (caC l = c ∧ n = R.length ∧ n ≤ 100000) ∧ (∀ z : Int, U.rNoA R h a b z → K (errA ⟨0, 6, 0, n, c⟩ z) (caSt R c)) ∧
      (U.Gd a b → (0 ≤ h ∧ h < 16) → U.noW R h → ¬ U.rT R a b → ∀ (O : Rws) (q c' : Nat), O = U.apd R (U.cM a b h) → q = n + 1 → q ≤ c' → K (errA ⟨1, 6, 0, q, c'⟩ 0) ⟨[], [], 0, [some (caB R c), some (caB O c')], 0⟩)
    | _, _, _ => none
  | _ => none
theorem pRAttach_ok : PatOk 19 pRAttach := by
  intro tm σ C h K hK w0 e w hk vs hvs
  unfold pRAttach at h
  split at h
  · split at h
    · rename_i n c R hh a b hx hp hq
      simp only [Option.some.injEq] at h; subst h
      obtain ⟨⟨h1, h2, h3⟩, h4, h5⟩ := hK
      obtain ⟨rfl, rfl⟩ := caX_eq hx h1
      obtain ⟨x, y, z, rfl, q1, q2, q3⟩ := threes hvs
      exact knownC noOv names (conOk_ofR tR1_ok) (rAttach_run K R n _ hh a b h2 h3 h4 h5) w0 e w hk _ (map3 q1 (as_aInt hp q2) (aPl_av hq q3))
    · cases h
  · cases h
def pRLinks : Pat := fun args σ => match args with
  | [l] => match caX l σ with
    | some (n, c, R) => some fun K => (caC l = c ∧ n = R.length ∧ n ≤ 100000) ∧ ∀ (O : Rws) (q c' : Nat), O = U.rL R 64 → q = O.length → q ≤ c' → K (cell (rslC ⟨1, 4, 0, q, c'⟩)) ⟨[], [], 0, [some (caB R c), some (liB O c')], 0⟩
    | _ => none
  | _ => none
theorem pRLinks_ok : PatOk 26 pRLinks := by
  intro tm σ C h K hK w0 e w hk vs hvs
  unfold pRLinks at h
  split at h
  · split at h
    · rename_i n c R hx
      simp only [Option.some.injEq] at h; subst h
      obtain ⟨⟨h1, h2, h3⟩, h4⟩ := hK
      obtain ⟨rfl, rfl⟩ := caX_eq hx h1
      obtain ⟨x, rfl, q1⟩ := ones hvs
      exact knownC noOv names (conOk_ofR tR1_ok) (rLinks_run K R n _ h2 h3 h4) w0 e w hk _ (map1 q1)
    · cases h
  · cases h
def tN2 : Tbl := tblOr (tblIf 14 pJoin) (tblOr (tblIf 15 pAttach) (tblOr (tblIf 18 pRJoin) (tblOr (tblIf 19 pRAttach) (tblOr (tblIf 26 pRLinks) (tblOr tN1 tR1)))))
theorem tN2_ok : TblOk Try.prog tN2 := tblOr_ok (tblIf_ok pJoin_ok) (tblOr_ok (tblIf_ok pAttach_ok) (tblOr_ok (tblIf_ok pRJoin_ok) (tblOr_ok (tblIf_ok pRAttach_ok) (tblOr_ok (tblIf_ok pRLinks_ok) (tblOr_ok tN1_ok tR1_ok)))))
def nrSt (n c : Nat) (L : Rws) (d : Nat) (M : Rws) (m : Int) (R : Rws) (rc : Nat) : St := ⟨[nbB, csB (rslC ⟨0, 1, 0, n, c⟩) (rslC ⟨1, 4, 0, n, d⟩) m], [], 0, [some (cskB L c), some (csvB M d), some (caB R rc)], 0⟩
def opA (k a b a' b' h : Int) : AV := .inl (.inr [xintC .i64 k, xintC .i64 a, xintC .i64 b, xintC .i64 a', xintC .i64 b', xintC .i64 h])
--PLAIN
theorem step_vc (K : AV → St → Prop) (L M : Rws) (n c d : Nat) (m : Int) (R : Rws) (q rc : Nat) (k a b a' b' h : Int) : (runR inv0 tN2 8 [ptr 0 0, cell (rslC ⟨2, 6, 0, q, rc⟩), opA k a b a' b' h] (nrSt n c L d M m R rc) K) = ((k = (0 : Int) → (rc = rc ∧ q = List.length R ∧ q ≤ (100000 : Nat)) ∧ (∀ (z0 : Int), U.rNoJ R a b a' b' z0 → ∃ (y1 : CSP), ((c = c ∧ d = d ∧ n = n) ∧ U.csshI n c L d M y1 ∧ n ≤ (64 : Nat) ∧ U.NetI y1 ∧ m = (64 : Int)) ∧ (∀ (z2 : Int), U.noJ y1 a b a' b' z2 → (z2 = z0 → K (Sum.inr [Sum.inl (Sum.inr (Sum.inr (Sum.inr (Sum.inr (Sum.inr (Sum.inr (Sum.inr (Sum.inr (Sum.inr (Sum.inr (Sum.inr (Sum.inl { a := (2 : Nat), u := (6 : Nat), o := (0 : Nat), n := q, c := rc })))))))))))), Sum.inl (Sum.inl (Value.bool true))]) { heap := [some { elem := nat_lit 52, cells := [Sum.inr (Sum.inl ((1 : Nat), (0 : Nat)))], j := none, c := (1 : Nat), z := false }, some { elem := nat_lit 75, cells := [Sum.inr (Sum.inr (Sum.inr (Sum.inr (Sum.inr (Sum.inr (Sum.inr (Sum.inr (Sum.inr (Sum.inr (Sum.inr (Sum.inl { a := (0 : Nat), u := (1 : Nat), o := (0 : Nat), n := n, c := c }))))))))))), Sum.inr (Sum.inr (Sum.inr (Sum.inr (Sum.inr (Sum.inr (Sum.inr (Sum.inr (Sum.inr (Sum.inr (Sum.inr (Sum.inl { a := (1 : Nat), u := (4 : Nat), o := (0 : Nat), n := n, c := d }))))))))))), Sum.inr (Sum.inr (Sum.inr (Sum.inr (Sum.inr (Sum.inr (Sum.inl (IntKind.i64, m)))))))], j := none, c := (3 : Nat), z := false }], ints := [], opqs := (0 : Nat), arrs := [some { elem := (3 : Nat), k := AK.o (Obj.rows [CK.n IntKind.i64] L), l := [], cap := c, ro := false }, some { elem := (36 : Nat), k := AK.o (Obj.rows [CK.n IntKind.i64, CK.n IntKind.i64, CK.n IntKind.i64, CK.n IntKind.i64] M), l := [], cap := d, ro := false }, some { elem := (77 : Nat), k := AK.o (Obj.rows [CK.n IntKind.i64, CK.n IntKind.i64, CK.n IntKind.i64, CK.n IntKind.i64, CK.n IntKind.i64, CK.b] R), l := [], cap := rc, ro := false }], junks := (0 : Nat) }) ∧ (¬z2 = z0 → K (Sum.inr [Sum.inl (Sum.inr (Sum.inr (Sum.inr (Sum.inr (Sum.inr (Sum.inr (Sum.inr (Sum.inr (Sum.inr (Sum.inr (Sum.inr (Sum.inl { a := (2 : Nat), u := (6 : Nat), o := (0 : Nat), n := q, c := rc })))))))))))), Sum.inl (Sum.inl (Value.bool false))]) { heap := [some { elem := nat_lit 52, cells := [Sum.inr (Sum.inl ((1 : Nat), (0 : Nat)))], j := none, c := (1 : Nat), z := false }, some { elem := nat_lit 75, cells := [Sum.inr (Sum.inr (Sum.inr (Sum.inr (Sum.inr (Sum.inr (Sum.inr (Sum.inr (Sum.inr (Sum.inr (Sum.inr (Sum.inl { a := (0 : Nat), u := (1 : Nat), o := (0 : Nat), n := n, c := c }))))))))))), Sum.inr (Sum.inr (Sum.inr (Sum.inr (Sum.inr (Sum.inr (Sum.inr (Sum.inr (Sum.inr (Sum.inr (Sum.inr (Sum.inl { a := (1 : Nat), u := (4 : Nat), o := (0 : Nat), n := n, c := d }))))))))))), Sum.inr (Sum.inr (Sum.inr (Sum.inr (Sum.inr (Sum.inr (Sum.inl (IntKind.i64, m)))))))], j := none, c := (3 : Nat), z := false }], ints := [], opqs := (0 : Nat), arrs := [some { elem := (3 : Nat), k := AK.o (Obj.rows [CK.n IntKind.i64] L), l := [], cap := c, ro := false }, some { elem := (36 : Nat), k := AK.o (Obj.rows [CK.n IntKind.i64, CK.n IntKind.i64, CK.n IntKind.i64, CK.n IntKind.i64] M), l := [], cap := d, ro := false }, some { elem := (77 : Nat), k := AK.o (Obj.rows [CK.n IntKind.i64, CK.n IntKind.i64, CK.n IntKind.i64, CK.n IntKind.i64, CK.n IntKind.i64, CK.b] R), l := [], cap := rc, ro := false }], junks := (0 : Nat) })) ∧ (U.mayJ y1 a b a' b' → ∀ (L'3 : Rws) (n'4 c'5 : Nat) (M'6 : Rws) (d'7 : Nat) (P'8 : CSP), n'4 = U.cslen P'8 → U.Joined y1 a b a' b' P'8 → U.csshI n'4 c'5 L'3 d'7 M'6 P'8 → ((0 : Int) = z0 → K (Sum.inr [Sum.inl (Sum.inr (Sum.inr (Sum.inr (Sum.inr (Sum.inr (Sum.inr (Sum.inr (Sum.inr (Sum.inr (Sum.inr (Sum.inr (Sum.inl { a := (2 : Nat), u := (6 : Nat), o := (0 : Nat), n := q, c := rc })))))))))))), Sum.inl (Sum.inl (Value.bool true))]) { heap := [some { elem := nat_lit 52, cells := [Sum.inr (Sum.inl ((1 : Nat), (0 : Nat)))], j := none, c := (1 : Nat), z := false }, some { elem := nat_lit 75, cells := [Sum.inr (Sum.inr (Sum.inr (Sum.inr (Sum.inr (Sum.inr (Sum.inr (Sum.inr (Sum.inr (Sum.inr (Sum.inr (Sum.inl { a := (3 : Nat), u := (1 : Nat), o := (0 : Nat), n := n'4, c := c'5 }))))))))))), Sum.inr (Sum.inr (Sum.inr (Sum.inr (Sum.inr (Sum.inr (Sum.inr (Sum.inr (Sum.inr (Sum.inr (Sum.inr (Sum.inl { a := (4 : Nat), u := (4 : Nat), o := (0 : Nat), n := n'4, c := d'7 }))))))))))), Sum.inr (Sum.inr (Sum.inr (Sum.inr (Sum.inr (Sum.inr (Sum.inl (IntKind.i64, m)))))))], j := none, c := (3 : Nat), z := false }], ints := [], opqs := (0 : Nat), arrs := [none, none, some { elem := (77 : Nat), k := AK.o (Obj.rows [CK.n IntKind.i64, CK.n IntKind.i64, CK.n IntKind.i64, CK.n IntKind.i64, CK.n IntKind.i64, CK.b] R), l := [], cap := rc, ro := false }, some { elem := (3 : Nat), k := AK.o (Obj.rows [CK.n IntKind.i64] L'3), l := [], cap := c'5, ro := false }, some { elem := (36 : Nat), k := AK.o (Obj.rows [CK.n IntKind.i64, CK.n IntKind.i64, CK.n IntKind.i64, CK.n IntKind.i64] M'6), l := [], cap := d'7, ro := false }], junks := (0 : Nat) }) ∧ (¬(0 : Int) = z0 → K (Sum.inr [Sum.inl (Sum.inr (Sum.inr (Sum.inr (Sum.inr (Sum.inr (Sum.inr (Sum.inr (Sum.inr (Sum.inr (Sum.inr (Sum.inr (Sum.inl { a := (2 : Nat), u := (6 : Nat), o := (0 : Nat), n := q, c := rc })))))))))))), Sum.inl (Sum.inl (Value.bool false))]) { heap := [some { elem := nat_lit 52, cells := [Sum.inr (Sum.inl ((1 : Nat), (0 : Nat)))], j := none, c := (1 : Nat), z := false }, some { elem := nat_lit 75, cells := [Sum.inr (Sum.inr (Sum.inr (Sum.inr (Sum.inr (Sum.inr (Sum.inr (Sum.inr (Sum.inr (Sum.inr (Sum.inr (Sum.inl { a := (3 : Nat), u := (1 : Nat), o := (0 : Nat), n := n'4, c := c'5 }))))))))))), Sum.inr (Sum.inr (Sum.inr (Sum.inr (Sum.inr (Sum.inr (Sum.inr (Sum.inr (Sum.inr (Sum.inr (Sum.inr (Sum.inl { a := (4 : Nat), u := (4 : Nat), o := (0 : Nat), n := n'4, c := d'7 }))))))))))), Sum.inr (Sum.inr (Sum.inr (Sum.inr (Sum.inr (Sum.inr (Sum.inl (IntKind.i64, m)))))))], j := none, c := (3 : Nat), z := false }], ints := [], opqs := (0 : Nat), arrs := [none, none, some { elem := (77 : Nat), k := AK.o (Obj.rows [CK.n IntKind.i64, CK.n IntKind.i64, CK.n IntKind.i64, CK.n IntKind.i64, CK.n IntKind.i64, CK.b] R), l := [], cap := rc, ro := false }, some { elem := (3 : Nat), k := AK.o (Obj.rows [CK.n IntKind.i64] L'3), l := [], cap := c'5, ro := false }, some { elem := (36 : Nat), k := AK.o (Obj.rows [CK.n IntKind.i64, CK.n IntKind.i64, CK.n IntKind.i64, CK.n IntKind.i64] M'6), l := [], cap := d'7, ro := false }], junks := (0 : Nat) }))) ∧ (U.rMayJ R a b a' b' → ∀ (O9 : Rws) (q10 c'11 : Nat), O9 = U.apd R (U.cJ a b a' b') → q10 = q + (1 : Nat) → q10 ≤ c'11 → ∃ (y12 : CSP), ((c = c ∧ d = d ∧ n = n) ∧ U.csshI n c L d M y12 ∧ n ≤ (64 : Nat) ∧ U.NetI y12 ∧ m = (64 : Int)) ∧ (∀ (z13 : Int), U.noJ y12 a b a' b' z13 → (z13 = (0 : Int) → K (Sum.inr [Sum.inl (Sum.inr (Sum.inr (Sum.inr (Sum.inr (Sum.inr (Sum.inr (Sum.inr (Sum.inr (Sum.inr (Sum.inr (Sum.inr (Sum.inl { a := (3 : Nat), u := (6 : Nat), o := (0 : Nat), n := q10, c := c'11 })))))))))))), Sum.inl (Sum.inl (Value.bool true))]) { heap := [some { elem := nat_lit 52, cells := [Sum.inr (Sum.inl ((1 : Nat), (0 : Nat)))], j := none, c := (1 : Nat), z := false }, some { elem := nat_lit 75, cells := [Sum.inr (Sum.inr (Sum.inr (Sum.inr (Sum.inr (Sum.inr (Sum.inr (Sum.inr (Sum.inr (Sum.inr (Sum.inr (Sum.inl { a := (0 : Nat), u := (1 : Nat), o := (0 : Nat), n := n, c := c }))))))))))), Sum.inr (Sum.inr (Sum.inr (Sum.inr (Sum.inr (Sum.inr (Sum.inr (Sum.inr (Sum.inr (Sum.inr (Sum.inr (Sum.inl { a := (1 : Nat), u := (4 : Nat), o := (0 : Nat), n := n, c := d }))))))))))), Sum.inr (Sum.inr (Sum.inr (Sum.inr (Sum.inr (Sum.inr (Sum.inl (IntKind.i64, m)))))))], j := none, c := (3 : Nat), z := false }], ints := [], opqs := (0 : Nat), arrs := [some { elem := (3 : Nat), k := AK.o (Obj.rows [CK.n IntKind.i64] L), l := [], cap := c, ro := false }, some { elem := (36 : Nat), k := AK.o (Obj.rows [CK.n IntKind.i64, CK.n IntKind.i64, CK.n IntKind.i64, CK.n IntKind.i64] M), l := [], cap := d, ro := false }, some { elem := (77 : Nat), k := AK.o (Obj.rows [CK.n IntKind.i64, CK.n IntKind.i64, CK.n IntKind.i64, CK.n IntKind.i64, CK.n IntKind.i64, CK.b] R), l := [], cap := rc, ro := false }, some { elem := (77 : Nat), k := AK.o (Obj.rows [CK.n IntKind.i64, CK.n IntKind.i64, CK.n IntKind.i64, CK.n IntKind.i64, CK.n IntKind.i64, CK.b] O9), l := [], cap := c'11, ro := false }], junks := (0 : Nat) }) ∧ (¬z13 = (0 : Int) → K (Sum.inr [Sum.inl (Sum.inr (Sum.inr (Sum.inr (Sum.inr (Sum.inr (Sum.inr (Sum.inr (Sum.inr (Sum.inr (Sum.inr (Sum.inr (Sum.inl { a := (3 : Nat), u := (6 : Nat), o := (0 : Nat), n := q10, c := c'11 })))))))))))), Sum.inl (Sum.inl (Value.bool false))]) { heap := [some { elem := nat_lit 52, cells := [Sum.inr (Sum.inl ((1 : Nat), (0 : Nat)))], j := none, c := (1 : Nat), z := false }, some { elem := nat_lit 75, cells := [Sum.inr (Sum.inr (Sum.inr (Sum.inr (Sum.inr (Sum.inr (Sum.inr (Sum.inr (Sum.inr (Sum.inr (Sum.inr (Sum.inl { a := (0 : Nat), u := (1 : Nat), o := (0 : Nat), n := n, c := c }))))))))))), Sum.inr (Sum.inr (Sum.inr (Sum.inr (Sum.inr (Sum.inr (Sum.inr (Sum.inr (Sum.inr (Sum.inr (Sum.inr (Sum.inl { a := (1 : Nat), u := (4 : Nat), o := (0 : Nat), n := n, c := d }))))))))))), Sum.inr (Sum.inr (Sum.inr (Sum.inr (Sum.inr (Sum.inr (Sum.inl (IntKind.i64, m)))))))], j := none, c := (3 : Nat), z := false }], ints := [], opqs := (0 : Nat), arrs := [some { elem := (3 : Nat), k := AK.o (Obj.rows [CK.n IntKind.i64] L), l := [], cap := c, ro := false }, some { elem := (36 : Nat), k := AK.o (Obj.rows [CK.n IntKind.i64, CK.n IntKind.i64, CK.n IntKind.i64, CK.n IntKind.i64] M), l := [], cap := d, ro := false }, some { elem := (77 : Nat), k := AK.o (Obj.rows [CK.n IntKind.i64, CK.n IntKind.i64, CK.n IntKind.i64, CK.n IntKind.i64, CK.n IntKind.i64, CK.b] R), l := [], cap := rc, ro := false }, some { elem := (77 : Nat), k := AK.o (Obj.rows [CK.n IntKind.i64, CK.n IntKind.i64, CK.n IntKind.i64, CK.n IntKind.i64, CK.n IntKind.i64, CK.b] O9), l := [], cap := c'11, ro := false }], junks := (0 : Nat) })) ∧ (U.mayJ y12 a b a' b' → ∀ (L'14 : Rws) (n'15 c'16 : Nat) (M'17 : Rws) (d'18 : Nat) (P'19 : CSP), n'15 = U.cslen P'19 → U.Joined y12 a b a' b' P'19 → U.csshI n'15 c'16 L'14 d'18 M'17 P'19 → ((0 : Int) = (0 : Int) → K (Sum.inr [Sum.inl (Sum.inr (Sum.inr (Sum.inr (Sum.inr (Sum.inr (Sum.inr (Sum.inr (Sum.inr (Sum.inr (Sum.inr (Sum.inr (Sum.inl { a := (3 : Nat), u := (6 : Nat), o := (0 : Nat), n := q10, c := c'11 })))))))))))), Sum.inl (Sum.inl (Value.bool true))]) { heap := [some { elem := nat_lit 52, cells := [Sum.inr (Sum.inl ((1 : Nat), (0 : Nat)))], j := none, c := (1 : Nat), z := false }, some { elem := nat_lit 75, cells := [Sum.inr (Sum.inr (Sum.inr (Sum.inr (Sum.inr (Sum.inr (Sum.inr (Sum.inr (Sum.inr (Sum.inr (Sum.inr (Sum.inl { a := (4 : Nat), u := (1 : Nat), o := (0 : Nat), n := n'15, c := c'16 }))))))))))), Sum.inr (Sum.inr (Sum.inr (Sum.inr (Sum.inr (Sum.inr (Sum.inr (Sum.inr (Sum.inr (Sum.inr (Sum.inr (Sum.inl { a := (5 : Nat), u := (4 : Nat), o := (0 : Nat), n := n'15, c := d'18 }))))))))))), Sum.inr (Sum.inr (Sum.inr (Sum.inr (Sum.inr (Sum.inr (Sum.inl (IntKind.i64, m)))))))], j := none, c := (3 : Nat), z := false }], ints := [], opqs := (0 : Nat), arrs := [none, none, some { elem := (77 : Nat), k := AK.o (Obj.rows [CK.n IntKind.i64, CK.n IntKind.i64, CK.n IntKind.i64, CK.n IntKind.i64, CK.n IntKind.i64, CK.b] R), l := [], cap := rc, ro := false }, some { elem := (77 : Nat), k := AK.o (Obj.rows [CK.n IntKind.i64, CK.n IntKind.i64, CK.n IntKind.i64, CK.n IntKind.i64, CK.n IntKind.i64, CK.b] O9), l := [], cap := c'11, ro := false }, some { elem := (3 : Nat), k := AK.o (Obj.rows [CK.n IntKind.i64] L'14), l := [], cap := c'16, ro := false }, some { elem := (36 : Nat), k := AK.o (Obj.rows [CK.n IntKind.i64, CK.n IntKind.i64, CK.n IntKind.i64, CK.n IntKind.i64] M'17), l := [], cap := d'18, ro := false }], junks := (0 : Nat) }) ∧ (¬(0 : Int) = (0 : Int) → K (Sum.inr [Sum.inl (Sum.inr (Sum.inr (Sum.inr (Sum.inr (Sum.inr (Sum.inr (Sum.inr (Sum.inr (Sum.inr (Sum.inr (Sum.inr (Sum.inl { a := (3 : Nat), u := (6 : Nat), o := (0 : Nat), n := q10, c := c'11 })))))))))))), Sum.inl (Sum.inl (Value.bool false))]) { heap := [some { elem := nat_lit 52, cells := [Sum.inr (Sum.inl ((1 : Nat), (0 : Nat)))], j := none, c := (1 : Nat), z := false }, some { elem := nat_lit 75, cells := [Sum.inr (Sum.inr (Sum.inr (Sum.inr (Sum.inr (Sum.inr (Sum.inr (Sum.inr (Sum.inr (Sum.inr (Sum.inr (Sum.inl { a := (4 : Nat), u := (1 : Nat), o := (0 : Nat), n := n'15, c := c'16 }))))))))))), Sum.inr (Sum.inr (Sum.inr (Sum.inr (Sum.inr (Sum.inr (Sum.inr (Sum.inr (Sum.inr (Sum.inr (Sum.inr (Sum.inl { a := (5 : Nat), u := (4 : Nat), o := (0 : Nat), n := n'15, c := d'18 }))))))))))), Sum.inr (Sum.inr (Sum.inr (Sum.inr (Sum.inr (Sum.inr (Sum.inl (IntKind.i64, m)))))))], j := none, c := (3 : Nat), z := false }], ints := [], opqs := (0 : Nat), arrs := [none, none, some { elem := (77 : Nat), k := AK.o (Obj.rows [CK.n IntKind.i64, CK.n IntKind.i64, CK.n IntKind.i64, CK.n IntKind.i64, CK.n IntKind.i64, CK.b] R), l := [], cap := rc, ro := false }, some { elem := (77 : Nat), k := AK.o (Obj.rows [CK.n IntKind.i64, CK.n IntKind.i64, CK.n IntKind.i64, CK.n IntKind.i64, CK.n IntKind.i64, CK.b] O9), l := [], cap := c'11, ro := false }, some { elem := (3 : Nat), k := AK.o (Obj.rows [CK.n IntKind.i64] L'14), l := [], cap := c'16, ro := false }, some { elem := (36 : Nat), k := AK.o (Obj.rows [CK.n IntKind.i64, CK.n IntKind.i64, CK.n IntKind.i64, CK.n IntKind.i64] M'17), l := [], cap := d'18, ro := false }], junks := (0 : Nat) })))) ∧ (¬k = (0 : Int) → (k = (1 : Int) → (rc = rc ∧ q = List.length R ∧ q ≤ (100000 : Nat)) ∧ (∀ (z20 : Int), U.rNoJ R a b a' b' z20 → ∃ (y21 : CSP), ((c = c ∧ d = d ∧ n = n) ∧ U.csshI n c L d M y21 ∧ n ≤ (64 : Nat) ∧ U.NetI y21 ∧ m = (64 : Int)) ∧ (∀ (z22 : Int), U.noJ y21 a b a' b' z22 → (z22 = z20 → K (Sum.inr [Sum.inl (Sum.inr (Sum.inr (Sum.inr (Sum.inr (Sum.inr (Sum.inr (Sum.inr (Sum.inr (Sum.inr (Sum.inr (Sum.inr (Sum.inl { a := (2 : Nat), u := (6 : Nat), o := (0 : Nat), n := q, c := rc })))))))))))), Sum.inl (Sum.inl (Value.bool true))]) { heap := [some { elem := nat_lit 52, cells := [Sum.inr (Sum.inl ((1 : Nat), (0 : Nat)))], j := none, c := (1 : Nat), z := false }, some { elem := nat_lit 75, cells := [Sum.inr (Sum.inr (Sum.inr (Sum.inr (Sum.inr (Sum.inr (Sum.inr (Sum.inr (Sum.inr (Sum.inr (Sum.inr (Sum.inl { a := (0 : Nat), u := (1 : Nat), o := (0 : Nat), n := n, c := c }))))))))))), Sum.inr (Sum.inr (Sum.inr (Sum.inr (Sum.inr (Sum.inr (Sum.inr (Sum.inr (Sum.inr (Sum.inr (Sum.inr (Sum.inl { a := (1 : Nat), u := (4 : Nat), o := (0 : Nat), n := n, c := d }))))))))))), Sum.inr (Sum.inr (Sum.inr (Sum.inr (Sum.inr (Sum.inr (Sum.inl (IntKind.i64, m)))))))], j := none, c := (3 : Nat), z := false }], ints := [], opqs := (0 : Nat), arrs := [some { elem := (3 : Nat), k := AK.o (Obj.rows [CK.n IntKind.i64] L), l := [], cap := c, ro := false }, some { elem := (36 : Nat), k := AK.o (Obj.rows [CK.n IntKind.i64, CK.n IntKind.i64, CK.n IntKind.i64, CK.n IntKind.i64] M), l := [], cap := d, ro := false }, some { elem := (77 : Nat), k := AK.o (Obj.rows [CK.n IntKind.i64, CK.n IntKind.i64, CK.n IntKind.i64, CK.n IntKind.i64, CK.n IntKind.i64, CK.b] R), l := [], cap := rc, ro := false }], junks := (0 : Nat) }) ∧ (¬z22 = z20 → K (Sum.inr [Sum.inl (Sum.inr (Sum.inr (Sum.inr (Sum.inr (Sum.inr (Sum.inr (Sum.inr (Sum.inr (Sum.inr (Sum.inr (Sum.inr (Sum.inl { a := (2 : Nat), u := (6 : Nat), o := (0 : Nat), n := q, c := rc })))))))))))), Sum.inl (Sum.inl (Value.bool false))]) { heap := [some { elem := nat_lit 52, cells := [Sum.inr (Sum.inl ((1 : Nat), (0 : Nat)))], j := none, c := (1 : Nat), z := false }, some { elem := nat_lit 75, cells := [Sum.inr (Sum.inr (Sum.inr (Sum.inr (Sum.inr (Sum.inr (Sum.inr (Sum.inr (Sum.inr (Sum.inr (Sum.inr (Sum.inl { a := (0 : Nat), u := (1 : Nat), o := (0 : Nat), n := n, c := c }))))))))))), Sum.inr (Sum.inr (Sum.inr (Sum.inr (Sum.inr (Sum.inr (Sum.inr (Sum.inr (Sum.inr (Sum.inr (Sum.inr (Sum.inl { a := (1 : Nat), u := (4 : Nat), o := (0 : Nat), n := n, c := d }))))))))))), Sum.inr (Sum.inr (Sum.inr (Sum.inr (Sum.inr (Sum.inr (Sum.inl (IntKind.i64, m)))))))], j := none, c := (3 : Nat), z := false }], ints := [], opqs := (0 : Nat), arrs := [some { elem := (3 : Nat), k := AK.o (Obj.rows [CK.n IntKind.i64] L), l := [], cap := c, ro := false }, some { elem := (36 : Nat), k := AK.o (Obj.rows [CK.n IntKind.i64, CK.n IntKind.i64, CK.n IntKind.i64, CK.n IntKind.i64] M), l := [], cap := d, ro := false }, some { elem := (77 : Nat), k := AK.o (Obj.rows [CK.n IntKind.i64, CK.n IntKind.i64, CK.n IntKind.i64, CK.n IntKind.i64, CK.n IntKind.i64, CK.b] R), l := [], cap := rc, ro := false }], junks := (0 : Nat) })) ∧ (U.mayJ y21 a b a' b' → ∀ (L'23 : Rws) (n'24 c'25 : Nat) (M'26 : Rws) (d'27 : Nat) (P'28 : CSP), n'24 = U.cslen P'28 → U.Joined y21 a b a' b' P'28 → U.csshI n'24 c'25 L'23 d'27 M'26 P'28 → ((0 : Int) = z20 → K (Sum.inr [Sum.inl (Sum.inr (Sum.inr (Sum.inr (Sum.inr (Sum.inr (Sum.inr (Sum.inr (Sum.inr (Sum.inr (Sum.inr (Sum.inr (Sum.inl { a := (2 : Nat), u := (6 : Nat), o := (0 : Nat), n := q, c := rc })))))))))))), Sum.inl (Sum.inl (Value.bool true))]) { heap := [some { elem := nat_lit 52, cells := [Sum.inr (Sum.inl ((1 : Nat), (0 : Nat)))], j := none, c := (1 : Nat), z := false }, some { elem := nat_lit 75, cells := [Sum.inr (Sum.inr (Sum.inr (Sum.inr (Sum.inr (Sum.inr (Sum.inr (Sum.inr (Sum.inr (Sum.inr (Sum.inr (Sum.inl { a := (3 : Nat), u := (1 : Nat), o := (0 : Nat), n := n'24, c := c'25 }))))))))))), Sum.inr (Sum.inr (Sum.inr (Sum.inr (Sum.inr (Sum.inr (Sum.inr (Sum.inr (Sum.inr (Sum.inr (Sum.inr (Sum.inl { a := (4 : Nat), u := (4 : Nat), o := (0 : Nat), n := n'24, c := d'27 }))))))))))), Sum.inr (Sum.inr (Sum.inr (Sum.inr (Sum.inr (Sum.inr (Sum.inl (IntKind.i64, m)))))))], j := none, c := (3 : Nat), z := false }], ints := [], opqs := (0 : Nat), arrs := [none, none, some { elem := (77 : Nat), k := AK.o (Obj.rows [CK.n IntKind.i64, CK.n IntKind.i64, CK.n IntKind.i64, CK.n IntKind.i64, CK.n IntKind.i64, CK.b] R), l := [], cap := rc, ro := false }, some { elem := (3 : Nat), k := AK.o (Obj.rows [CK.n IntKind.i64] L'23), l := [], cap := c'25, ro := false }, some { elem := (36 : Nat), k := AK.o (Obj.rows [CK.n IntKind.i64, CK.n IntKind.i64, CK.n IntKind.i64, CK.n IntKind.i64] M'26), l := [], cap := d'27, ro := false }], junks := (0 : Nat) }) ∧ (¬(0 : Int) = z20 → K (Sum.inr [Sum.inl (Sum.inr (Sum.inr (Sum.inr (Sum.inr (Sum.inr (Sum.inr (Sum.inr (Sum.inr (Sum.inr (Sum.inr (Sum.inr (Sum.inl { a := (2 : Nat), u := (6 : Nat), o := (0 : Nat), n := q, c := rc })))))))))))), Sum.inl (Sum.inl (Value.bool false))]) { heap := [some { elem := nat_lit 52, cells := [Sum.inr (Sum.inl ((1 : Nat), (0 : Nat)))], j := none, c := (1 : Nat), z := false }, some { elem := nat_lit 75, cells := [Sum.inr (Sum.inr (Sum.inr (Sum.inr (Sum.inr (Sum.inr (Sum.inr (Sum.inr (Sum.inr (Sum.inr (Sum.inr (Sum.inl { a := (3 : Nat), u := (1 : Nat), o := (0 : Nat), n := n'24, c := c'25 }))))))))))), Sum.inr (Sum.inr (Sum.inr (Sum.inr (Sum.inr (Sum.inr (Sum.inr (Sum.inr (Sum.inr (Sum.inr (Sum.inr (Sum.inl { a := (4 : Nat), u := (4 : Nat), o := (0 : Nat), n := n'24, c := d'27 }))))))))))), Sum.inr (Sum.inr (Sum.inr (Sum.inr (Sum.inr (Sum.inr (Sum.inl (IntKind.i64, m)))))))], j := none, c := (3 : Nat), z := false }], ints := [], opqs := (0 : Nat), arrs := [none, none, some { elem := (77 : Nat), k := AK.o (Obj.rows [CK.n IntKind.i64, CK.n IntKind.i64, CK.n IntKind.i64, CK.n IntKind.i64, CK.n IntKind.i64, CK.b] R), l := [], cap := rc, ro := false }, some { elem := (3 : Nat), k := AK.o (Obj.rows [CK.n IntKind.i64] L'23), l := [], cap := c'25, ro := false }, some { elem := (36 : Nat), k := AK.o (Obj.rows [CK.n IntKind.i64, CK.n IntKind.i64, CK.n IntKind.i64, CK.n IntKind.i64] M'26), l := [], cap := d'27, ro := false }], junks := (0 : Nat) }))) ∧ (U.rMayJ R a b a' b' → ∀ (O29 : Rws) (q30 c'31 : Nat), O29 = U.apd R (U.cJ a b a' b') → q30 = q + (1 : Nat) → q30 ≤ c'31 → ∃ (y32 : CSP), ((c = c ∧ d = d ∧ n = n) ∧ U.csshI n c L d M y32 ∧ n ≤ (64 : Nat) ∧ U.NetI y32 ∧ m = (64 : Int)) ∧ (∀ (z33 : Int), U.noJ y32 a b a' b' z33 → (z33 = (0 : Int) → K (Sum.inr [Sum.inl (Sum.inr (Sum.inr (Sum.inr (Sum.inr (Sum.inr (Sum.inr (Sum.inr (Sum.inr (Sum.inr (Sum.inr (Sum.inr (Sum.inl { a := (3 : Nat), u := (6 : Nat), o := (0 : Nat), n := q30, c := c'31 })))))))))))), Sum.inl (Sum.inl (Value.bool true))]) { heap := [some { elem := nat_lit 52, cells := [Sum.inr (Sum.inl ((1 : Nat), (0 : Nat)))], j := none, c := (1 : Nat), z := false }, some { elem := nat_lit 75, cells := [Sum.inr (Sum.inr (Sum.inr (Sum.inr (Sum.inr (Sum.inr (Sum.inr (Sum.inr (Sum.inr (Sum.inr (Sum.inr (Sum.inl { a := (0 : Nat), u := (1 : Nat), o := (0 : Nat), n := n, c := c }))))))))))), Sum.inr (Sum.inr (Sum.inr (Sum.inr (Sum.inr (Sum.inr (Sum.inr (Sum.inr (Sum.inr (Sum.inr (Sum.inr (Sum.inl { a := (1 : Nat), u := (4 : Nat), o := (0 : Nat), n := n, c := d }))))))))))), Sum.inr (Sum.inr (Sum.inr (Sum.inr (Sum.inr (Sum.inr (Sum.inl (IntKind.i64, m)))))))], j := none, c := (3 : Nat), z := false }], ints := [], opqs := (0 : Nat), arrs := [some { elem := (3 : Nat), k := AK.o (Obj.rows [CK.n IntKind.i64] L), l := [], cap := c, ro := false }, some { elem := (36 : Nat), k := AK.o (Obj.rows [CK.n IntKind.i64, CK.n IntKind.i64, CK.n IntKind.i64, CK.n IntKind.i64] M), l := [], cap := d, ro := false }, some { elem := (77 : Nat), k := AK.o (Obj.rows [CK.n IntKind.i64, CK.n IntKind.i64, CK.n IntKind.i64, CK.n IntKind.i64, CK.n IntKind.i64, CK.b] R), l := [], cap := rc, ro := false }, some { elem := (77 : Nat), k := AK.o (Obj.rows [CK.n IntKind.i64, CK.n IntKind.i64, CK.n IntKind.i64, CK.n IntKind.i64, CK.n IntKind.i64, CK.b] O29), l := [], cap := c'31, ro := false }], junks := (0 : Nat) }) ∧ (¬z33 = (0 : Int) → K (Sum.inr [Sum.inl (Sum.inr (Sum.inr (Sum.inr (Sum.inr (Sum.inr (Sum.inr (Sum.inr (Sum.inr (Sum.inr (Sum.inr (Sum.inr (Sum.inl { a := (3 : Nat), u := (6 : Nat), o := (0 : Nat), n := q30, c := c'31 })))))))))))), Sum.inl (Sum.inl (Value.bool false))]) { heap := [some { elem := nat_lit 52, cells := [Sum.inr (Sum.inl ((1 : Nat), (0 : Nat)))], j := none, c := (1 : Nat), z := false }, some { elem := nat_lit 75, cells := [Sum.inr (Sum.inr (Sum.inr (Sum.inr (Sum.inr (Sum.inr (Sum.inr (Sum.inr (Sum.inr (Sum.inr (Sum.inr (Sum.inl { a := (0 : Nat), u := (1 : Nat), o := (0 : Nat), n := n, c := c }))))))))))), Sum.inr (Sum.inr (Sum.inr (Sum.inr (Sum.inr (Sum.inr (Sum.inr (Sum.inr (Sum.inr (Sum.inr (Sum.inr (Sum.inl { a := (1 : Nat), u := (4 : Nat), o := (0 : Nat), n := n, c := d }))))))))))), Sum.inr (Sum.inr (Sum.inr (Sum.inr (Sum.inr (Sum.inr (Sum.inl (IntKind.i64, m)))))))], j := none, c := (3 : Nat), z := false }], ints := [], opqs := (0 : Nat), arrs := [some { elem := (3 : Nat), k := AK.o (Obj.rows [CK.n IntKind.i64] L), l := [], cap := c, ro := false }, some { elem := (36 : Nat), k := AK.o (Obj.rows [CK.n IntKind.i64, CK.n IntKind.i64, CK.n IntKind.i64, CK.n IntKind.i64] M), l := [], cap := d, ro := false }, some { elem := (77 : Nat), k := AK.o (Obj.rows [CK.n IntKind.i64, CK.n IntKind.i64, CK.n IntKind.i64, CK.n IntKind.i64, CK.n IntKind.i64, CK.b] R), l := [], cap := rc, ro := false }, some { elem := (77 : Nat), k := AK.o (Obj.rows [CK.n IntKind.i64, CK.n IntKind.i64, CK.n IntKind.i64, CK.n IntKind.i64, CK.n IntKind.i64, CK.b] O29), l := [], cap := c'31, ro := false }], junks := (0 : Nat) })) ∧ (U.mayJ y32 a b a' b' → ∀ (L'34 : Rws) (n'35 c'36 : Nat) (M'37 : Rws) (d'38 : Nat) (P'39 : CSP), n'35 = U.cslen P'39 → U.Joined y32 a b a' b' P'39 → U.csshI n'35 c'36 L'34 d'38 M'37 P'39 → ((0 : Int) = (0 : Int) → K (Sum.inr [Sum.inl (Sum.inr (Sum.inr (Sum.inr (Sum.inr (Sum.inr (Sum.inr (Sum.inr (Sum.inr (Sum.inr (Sum.inr (Sum.inr (Sum.inl { a := (3 : Nat), u := (6 : Nat), o := (0 : Nat), n := q30, c := c'31 })))))))))))), Sum.inl (Sum.inl (Value.bool true))]) { heap := [some { elem := nat_lit 52, cells := [Sum.inr (Sum.inl ((1 : Nat), (0 : Nat)))], j := none, c := (1 : Nat), z := false }, some { elem := nat_lit 75, cells := [Sum.inr (Sum.inr (Sum.inr (Sum.inr (Sum.inr (Sum.inr (Sum.inr (Sum.inr (Sum.inr (Sum.inr (Sum.inr (Sum.inl { a := (4 : Nat), u := (1 : Nat), o := (0 : Nat), n := n'35, c := c'36 }))))))))))), Sum.inr (Sum.inr (Sum.inr (Sum.inr (Sum.inr (Sum.inr (Sum.inr (Sum.inr (Sum.inr (Sum.inr (Sum.inr (Sum.inl { a := (5 : Nat), u := (4 : Nat), o := (0 : Nat), n := n'35, c := d'38 }))))))))))), Sum.inr (Sum.inr (Sum.inr (Sum.inr (Sum.inr (Sum.inr (Sum.inl (IntKind.i64, m)))))))], j := none, c := (3 : Nat), z := false }], ints := [], opqs := (0 : Nat), arrs := [none, none, some { elem := (77 : Nat), k := AK.o (Obj.rows [CK.n IntKind.i64, CK.n IntKind.i64, CK.n IntKind.i64, CK.n IntKind.i64, CK.n IntKind.i64, CK.b] R), l := [], cap := rc, ro := false }, some { elem := (77 : Nat), k := AK.o (Obj.rows [CK.n IntKind.i64, CK.n IntKind.i64, CK.n IntKind.i64, CK.n IntKind.i64, CK.n IntKind.i64, CK.b] O29), l := [], cap := c'31, ro := false }, some { elem := (3 : Nat), k := AK.o (Obj.rows [CK.n IntKind.i64] L'34), l := [], cap := c'36, ro := false }, some { elem := (36 : Nat), k := AK.o (Obj.rows [CK.n IntKind.i64, CK.n IntKind.i64, CK.n IntKind.i64, CK.n IntKind.i64] M'37), l := [], cap := d'38, ro := false }], junks := (0 : Nat) }) ∧ (¬(0 : Int) = (0 : Int) → K (Sum.inr [Sum.inl (Sum.inr (Sum.inr (Sum.inr (Sum.inr (Sum.inr (Sum.inr (Sum.inr (Sum.inr (Sum.inr (Sum.inr (Sum.inr (Sum.inl { a := (3 : Nat), u := (6 : Nat), o := (0 : Nat), n := q30, c := c'31 })))))))))))), Sum.inl (Sum.inl (Value.bool false))]) { heap := [some { elem := nat_lit 52, cells := [Sum.inr (Sum.inl ((1 : Nat), (0 : Nat)))], j := none, c := (1 : Nat), z := false }, some { elem := nat_lit 75, cells := [Sum.inr (Sum.inr (Sum.inr (Sum.inr (Sum.inr (Sum.inr (Sum.inr (Sum.inr (Sum.inr (Sum.inr (Sum.inr (Sum.inl { a := (4 : Nat), u := (1 : Nat), o := (0 : Nat), n := n'35, c := c'36 }))))))))))), Sum.inr (Sum.inr (Sum.inr (Sum.inr (Sum.inr (Sum.inr (Sum.inr (Sum.inr (Sum.inr (Sum.inr (Sum.inr (Sum.inl { a := (5 : Nat), u := (4 : Nat), o := (0 : Nat), n := n'35, c := d'38 }))))))))))), Sum.inr (Sum.inr (Sum.inr (Sum.inr (Sum.inr (Sum.inr (Sum.inl (IntKind.i64, m)))))))], j := none, c := (3 : Nat), z := false }], ints := [], opqs := (0 : Nat), arrs := [none, none, some { elem := (77 : Nat), k := AK.o (Obj.rows [CK.n IntKind.i64, CK.n IntKind.i64, CK.n IntKind.i64, CK.n IntKind.i64, CK.n IntKind.i64, CK.b] R), l := [], cap := rc, ro := false }, some { elem := (77 : Nat), k := AK.o (Obj.rows [CK.n IntKind.i64, CK.n IntKind.i64, CK.n IntKind.i64, CK.n IntKind.i64, CK.n IntKind.i64, CK.b] O29), l := [], cap := c'31, ro := false }, some { elem := (3 : Nat), k := AK.o (Obj.rows [CK.n IntKind.i64] L'34), l := [], cap := c'36, ro := false }, some { elem := (36 : Nat), k := AK.o (Obj.rows [CK.n IntKind.i64, CK.n IntKind.i64, CK.n IntKind.i64, CK.n IntKind.i64] M'37), l := [], cap := d'38, ro := false }], junks := (0 : Nat) })))) ∧ (¬k = (1 : Int) → (k = (2 : Int) → (rc = rc ∧ q = List.length R ∧ q ≤ (100000 : Nat)) ∧ (∀ (z40 : Int), U.rNoA R h a b z40 → ∃ (y41 : CSP), ((c = c ∧ d = d ∧ n = n) ∧ U.csshI n c L d M y41 ∧ n ≤ (64 : Nat) ∧ U.NetI y41 ∧ m = (64 : Int)) ∧ (∀ (z42 : Int), U.noA y41 h a b z42 → (z42 = z40 → K (Sum.inr [Sum.inl (Sum.inr (Sum.inr (Sum.inr (Sum.inr (Sum.inr (Sum.inr (Sum.inr (Sum.inr (Sum.inr (Sum.inr (Sum.inr (Sum.inl { a := (2 : Nat), u := (6 : Nat), o := (0 : Nat), n := q, c := rc })))))))))))), Sum.inl (Sum.inl (Value.bool true))]) { heap := [some { elem := nat_lit 52, cells := [Sum.inr (Sum.inl ((1 : Nat), (0 : Nat)))], j := none, c := (1 : Nat), z := false }, some { elem := nat_lit 75, cells := [Sum.inr (Sum.inr (Sum.inr (Sum.inr (Sum.inr (Sum.inr (Sum.inr (Sum.inr (Sum.inr (Sum.inr (Sum.inr (Sum.inl { a := (0 : Nat), u := (1 : Nat), o := (0 : Nat), n := n, c := c }))))))))))), Sum.inr (Sum.inr (Sum.inr (Sum.inr (Sum.inr (Sum.inr (Sum.inr (Sum.inr (Sum.inr (Sum.inr (Sum.inr (Sum.inl { a := (1 : Nat), u := (4 : Nat), o := (0 : Nat), n := n, c := d }))))))))))), Sum.inr (Sum.inr (Sum.inr (Sum.inr (Sum.inr (Sum.inr (Sum.inl (IntKind.i64, m)))))))], j := none, c := (3 : Nat), z := false }], ints := [], opqs := (0 : Nat), arrs := [some { elem := (3 : Nat), k := AK.o (Obj.rows [CK.n IntKind.i64] L), l := [], cap := c, ro := false }, some { elem := (36 : Nat), k := AK.o (Obj.rows [CK.n IntKind.i64, CK.n IntKind.i64, CK.n IntKind.i64, CK.n IntKind.i64] M), l := [], cap := d, ro := false }, some { elem := (77 : Nat), k := AK.o (Obj.rows [CK.n IntKind.i64, CK.n IntKind.i64, CK.n IntKind.i64, CK.n IntKind.i64, CK.n IntKind.i64, CK.b] R), l := [], cap := rc, ro := false }], junks := (0 : Nat) }) ∧ (¬z42 = z40 → K (Sum.inr [Sum.inl (Sum.inr (Sum.inr (Sum.inr (Sum.inr (Sum.inr (Sum.inr (Sum.inr (Sum.inr (Sum.inr (Sum.inr (Sum.inr (Sum.inl { a := (2 : Nat), u := (6 : Nat), o := (0 : Nat), n := q, c := rc })))))))))))), Sum.inl (Sum.inl (Value.bool false))]) { heap := [some { elem := nat_lit 52, cells := [Sum.inr (Sum.inl ((1 : Nat), (0 : Nat)))], j := none, c := (1 : Nat), z := false }, some { elem := nat_lit 75, cells := [Sum.inr (Sum.inr (Sum.inr (Sum.inr (Sum.inr (Sum.inr (Sum.inr (Sum.inr (Sum.inr (Sum.inr (Sum.inr (Sum.inl { a := (0 : Nat), u := (1 : Nat), o := (0 : Nat), n := n, c := c }))))))))))), Sum.inr (Sum.inr (Sum.inr (Sum.inr (Sum.inr (Sum.inr (Sum.inr (Sum.inr (Sum.inr (Sum.inr (Sum.inr (Sum.inl { a := (1 : Nat), u := (4 : Nat), o := (0 : Nat), n := n, c := d }))))))))))), Sum.inr (Sum.inr (Sum.inr (Sum.inr (Sum.inr (Sum.inr (Sum.inl (IntKind.i64, m)))))))], j := none, c := (3 : Nat), z := false }], ints := [], opqs := (0 : Nat), arrs := [some { elem := (3 : Nat), k := AK.o (Obj.rows [CK.n IntKind.i64] L), l := [], cap := c, ro := false }, some { elem := (36 : Nat), k := AK.o (Obj.rows [CK.n IntKind.i64, CK.n IntKind.i64, CK.n IntKind.i64, CK.n IntKind.i64] M), l := [], cap := d, ro := false }, some { elem := (77 : Nat), k := AK.o (Obj.rows [CK.n IntKind.i64, CK.n IntKind.i64, CK.n IntKind.i64, CK.n IntKind.i64, CK.n IntKind.i64, CK.b] R), l := [], cap := rc, ro := false }], junks := (0 : Nat) })) ∧ (U.mayA y41 h a b → ∀ (L'43 : Rws) (n'44 c'45 : Nat) (M'46 : Rws) (d'47 : Nat) (P'48 : CSP), n'44 = U.cslen P'48 → U.csPut y41 (U.num a b) { v0 := (2 : Int), v1 := (0 : Int), v2 := (0 : Int), v3 := h } P'48 → U.csshI n'44 c'45 L'43 d'47 M'46 P'48 → ((0 : Int) = z40 → K (Sum.inr [Sum.inl (Sum.inr (Sum.inr (Sum.inr (Sum.inr (Sum.inr (Sum.inr (Sum.inr (Sum.inr (Sum.inr (Sum.inr (Sum.inr (Sum.inl { a := (2 : Nat), u := (6 : Nat), o := (0 : Nat), n := q, c := rc })))))))))))), Sum.inl (Sum.inl (Value.bool true))]) { heap := [some { elem := nat_lit 52, cells := [Sum.inr (Sum.inl ((1 : Nat), (0 : Nat)))], j := none, c := (1 : Nat), z := false }, some { elem := nat_lit 75, cells := [Sum.inr (Sum.inr (Sum.inr (Sum.inr (Sum.inr (Sum.inr (Sum.inr (Sum.inr (Sum.inr (Sum.inr (Sum.inr (Sum.inl { a := (3 : Nat), u := (1 : Nat), o := (0 : Nat), n := n'44, c := c'45 }))))))))))), Sum.inr (Sum.inr (Sum.inr (Sum.inr (Sum.inr (Sum.inr (Sum.inr (Sum.inr (Sum.inr (Sum.inr (Sum.inr (Sum.inl { a := (4 : Nat), u := (4 : Nat), o := (0 : Nat), n := n'44, c := d'47 }))))))))))), Sum.inr (Sum.inr (Sum.inr (Sum.inr (Sum.inr (Sum.inr (Sum.inl (IntKind.i64, m)))))))], j := none, c := (3 : Nat), z := false }], ints := [], opqs := (0 : Nat), arrs := [none, none, some { elem := (77 : Nat), k := AK.o (Obj.rows [CK.n IntKind.i64, CK.n IntKind.i64, CK.n IntKind.i64, CK.n IntKind.i64, CK.n IntKind.i64, CK.b] R), l := [], cap := rc, ro := false }, some { elem := (3 : Nat), k := AK.o (Obj.rows [CK.n IntKind.i64] L'43), l := [], cap := c'45, ro := false }, some { elem := (36 : Nat), k := AK.o (Obj.rows [CK.n IntKind.i64, CK.n IntKind.i64, CK.n IntKind.i64, CK.n IntKind.i64] M'46), l := [], cap := d'47, ro := false }], junks := (0 : Nat) }) ∧ (¬(0 : Int) = z40 → K (Sum.inr [Sum.inl (Sum.inr (Sum.inr (Sum.inr (Sum.inr (Sum.inr (Sum.inr (Sum.inr (Sum.inr (Sum.inr (Sum.inr (Sum.inr (Sum.inl { a := (2 : Nat), u := (6 : Nat), o := (0 : Nat), n := q, c := rc })))))))))))), Sum.inl (Sum.inl (Value.bool false))]) { heap := [some { elem := nat_lit 52, cells := [Sum.inr (Sum.inl ((1 : Nat), (0 : Nat)))], j := none, c := (1 : Nat), z := false }, some { elem := nat_lit 75, cells := [Sum.inr (Sum.inr (Sum.inr (Sum.inr (Sum.inr (Sum.inr (Sum.inr (Sum.inr (Sum.inr (Sum.inr (Sum.inr (Sum.inl { a := (3 : Nat), u := (1 : Nat), o := (0 : Nat), n := n'44, c := c'45 }))))))))))), Sum.inr (Sum.inr (Sum.inr (Sum.inr (Sum.inr (Sum.inr (Sum.inr (Sum.inr (Sum.inr (Sum.inr (Sum.inr (Sum.inl { a := (4 : Nat), u := (4 : Nat), o := (0 : Nat), n := n'44, c := d'47 }))))))))))), Sum.inr (Sum.inr (Sum.inr (Sum.inr (Sum.inr (Sum.inr (Sum.inl (IntKind.i64, m)))))))], j := none, c := (3 : Nat), z := false }], ints := [], opqs := (0 : Nat), arrs := [none, none, some { elem := (77 : Nat), k := AK.o (Obj.rows [CK.n IntKind.i64, CK.n IntKind.i64, CK.n IntKind.i64, CK.n IntKind.i64, CK.n IntKind.i64, CK.b] R), l := [], cap := rc, ro := false }, some { elem := (3 : Nat), k := AK.o (Obj.rows [CK.n IntKind.i64] L'43), l := [], cap := c'45, ro := false }, some { elem := (36 : Nat), k := AK.o (Obj.rows [CK.n IntKind.i64, CK.n IntKind.i64, CK.n IntKind.i64, CK.n IntKind.i64] M'46), l := [], cap := d'47, ro := false }], junks := (0 : Nat) }))) ∧ (U.Gd a b → (0 : Int) ≤ h ∧ h < (16 : Int) → U.noW R h → ¬U.rT R a b → ∀ (O49 : Rws) (q50 c'51 : Nat), O49 = U.apd R (U.cM a b h) → q50 = q + (1 : Nat) → q50 ≤ c'51 → ∃ (y52 : CSP), ((c = c ∧ d = d ∧ n = n) ∧ U.csshI n c L d M y52 ∧ n ≤ (64 : Nat) ∧ U.NetI y52 ∧ m = (64 : Int)) ∧ (∀ (z53 : Int), U.noA y52 h a b z53 → (z53 = (0 : Int) → K (Sum.inr [Sum.inl (Sum.inr (Sum.inr (Sum.inr (Sum.inr (Sum.inr (Sum.inr (Sum.inr (Sum.inr (Sum.inr (Sum.inr (Sum.inr (Sum.inl { a := (3 : Nat), u := (6 : Nat), o := (0 : Nat), n := q50, c := c'51 })))))))))))), Sum.inl (Sum.inl (Value.bool true))]) { heap := [some { elem := nat_lit 52, cells := [Sum.inr (Sum.inl ((1 : Nat), (0 : Nat)))], j := none, c := (1 : Nat), z := false }, some { elem := nat_lit 75, cells := [Sum.inr (Sum.inr (Sum.inr (Sum.inr (Sum.inr (Sum.inr (Sum.inr (Sum.inr (Sum.inr (Sum.inr (Sum.inr (Sum.inl { a := (0 : Nat), u := (1 : Nat), o := (0 : Nat), n := n, c := c }))))))))))), Sum.inr (Sum.inr (Sum.inr (Sum.inr (Sum.inr (Sum.inr (Sum.inr (Sum.inr (Sum.inr (Sum.inr (Sum.inr (Sum.inl { a := (1 : Nat), u := (4 : Nat), o := (0 : Nat), n := n, c := d }))))))))))), Sum.inr (Sum.inr (Sum.inr (Sum.inr (Sum.inr (Sum.inr (Sum.inl (IntKind.i64, m)))))))], j := none, c := (3 : Nat), z := false }], ints := [], opqs := (0 : Nat), arrs := [some { elem := (3 : Nat), k := AK.o (Obj.rows [CK.n IntKind.i64] L), l := [], cap := c, ro := false }, some { elem := (36 : Nat), k := AK.o (Obj.rows [CK.n IntKind.i64, CK.n IntKind.i64, CK.n IntKind.i64, CK.n IntKind.i64] M), l := [], cap := d, ro := false }, some { elem := (77 : Nat), k := AK.o (Obj.rows [CK.n IntKind.i64, CK.n IntKind.i64, CK.n IntKind.i64, CK.n IntKind.i64, CK.n IntKind.i64, CK.b] R), l := [], cap := rc, ro := false }, some { elem := (77 : Nat), k := AK.o (Obj.rows [CK.n IntKind.i64, CK.n IntKind.i64, CK.n IntKind.i64, CK.n IntKind.i64, CK.n IntKind.i64, CK.b] O49), l := [], cap := c'51, ro := false }], junks := (0 : Nat) }) ∧ (¬z53 = (0 : Int) → K (Sum.inr [Sum.inl (Sum.inr (Sum.inr (Sum.inr (Sum.inr (Sum.inr (Sum.inr (Sum.inr (Sum.inr (Sum.inr (Sum.inr (Sum.inr (Sum.inl { a := (3 : Nat), u := (6 : Nat), o := (0 : Nat), n := q50, c := c'51 })))))))))))), Sum.inl (Sum.inl (Value.bool false))]) { heap := [some { elem := nat_lit 52, cells := [Sum.inr (Sum.inl ((1 : Nat), (0 : Nat)))], j := none, c := (1 : Nat), z := false }, some { elem := nat_lit 75, cells := [Sum.inr (Sum.inr (Sum.inr (Sum.inr (Sum.inr (Sum.inr (Sum.inr (Sum.inr (Sum.inr (Sum.inr (Sum.inr (Sum.inl { a := (0 : Nat), u := (1 : Nat), o := (0 : Nat), n := n, c := c }))))))))))), Sum.inr (Sum.inr (Sum.inr (Sum.inr (Sum.inr (Sum.inr (Sum.inr (Sum.inr (Sum.inr (Sum.inr (Sum.inr (Sum.inl { a := (1 : Nat), u := (4 : Nat), o := (0 : Nat), n := n, c := d }))))))))))), Sum.inr (Sum.inr (Sum.inr (Sum.inr (Sum.inr (Sum.inr (Sum.inl (IntKind.i64, m)))))))], j := none, c := (3 : Nat), z := false }], ints := [], opqs := (0 : Nat), arrs := [some { elem := (3 : Nat), k := AK.o (Obj.rows [CK.n IntKind.i64] L), l := [], cap := c, ro := false }, some { elem := (36 : Nat), k := AK.o (Obj.rows [CK.n IntKind.i64, CK.n IntKind.i64, CK.n IntKind.i64, CK.n IntKind.i64] M), l := [], cap := d, ro := false }, some { elem := (77 : Nat), k := AK.o (Obj.rows [CK.n IntKind.i64, CK.n IntKind.i64, CK.n IntKind.i64, CK.n IntKind.i64, CK.n IntKind.i64, CK.b] R), l := [], cap := rc, ro := false }, some { elem := (77 : Nat), k := AK.o (Obj.rows [CK.n IntKind.i64, CK.n IntKind.i64, CK.n IntKind.i64, CK.n IntKind.i64, CK.n IntKind.i64, CK.b] O49), l := [], cap := c'51, ro := false }], junks := (0 : Nat) })) ∧ (U.mayA y52 h a b → ∀ (L'54 : Rws) (n'55 c'56 : Nat) (M'57 : Rws) (d'58 : Nat) (P'59 : CSP), n'55 = U.cslen P'59 → U.csPut y52 (U.num a b) { v0 := (2 : Int), v1 := (0 : Int), v2 := (0 : Int), v3 := h } P'59 → U.csshI n'55 c'56 L'54 d'58 M'57 P'59 → ((0 : Int) = (0 : Int) → K (Sum.inr [Sum.inl (Sum.inr (Sum.inr (Sum.inr (Sum.inr (Sum.inr (Sum.inr (Sum.inr (Sum.inr (Sum.inr (Sum.inr (Sum.inr (Sum.inl { a := (3 : Nat), u := (6 : Nat), o := (0 : Nat), n := q50, c := c'51 })))))))))))), Sum.inl (Sum.inl (Value.bool true))]) { heap := [some { elem := nat_lit 52, cells := [Sum.inr (Sum.inl ((1 : Nat), (0 : Nat)))], j := none, c := (1 : Nat), z := false }, some { elem := nat_lit 75, cells := [Sum.inr (Sum.inr (Sum.inr (Sum.inr (Sum.inr (Sum.inr (Sum.inr (Sum.inr (Sum.inr (Sum.inr (Sum.inr (Sum.inl { a := (4 : Nat), u := (1 : Nat), o := (0 : Nat), n := n'55, c := c'56 }))))))))))), Sum.inr (Sum.inr (Sum.inr (Sum.inr (Sum.inr (Sum.inr (Sum.inr (Sum.inr (Sum.inr (Sum.inr (Sum.inr (Sum.inl { a := (5 : Nat), u := (4 : Nat), o := (0 : Nat), n := n'55, c := d'58 }))))))))))), Sum.inr (Sum.inr (Sum.inr (Sum.inr (Sum.inr (Sum.inr (Sum.inl (IntKind.i64, m)))))))], j := none, c := (3 : Nat), z := false }], ints := [], opqs := (0 : Nat), arrs := [none, none, some { elem := (77 : Nat), k := AK.o (Obj.rows [CK.n IntKind.i64, CK.n IntKind.i64, CK.n IntKind.i64, CK.n IntKind.i64, CK.n IntKind.i64, CK.b] R), l := [], cap := rc, ro := false }, some { elem := (77 : Nat), k := AK.o (Obj.rows [CK.n IntKind.i64, CK.n IntKind.i64, CK.n IntKind.i64, CK.n IntKind.i64, CK.n IntKind.i64, CK.b] O49), l := [], cap := c'51, ro := false }, some { elem := (3 : Nat), k := AK.o (Obj.rows [CK.n IntKind.i64] L'54), l := [], cap := c'56, ro := false }, some { elem := (36 : Nat), k := AK.o (Obj.rows [CK.n IntKind.i64, CK.n IntKind.i64, CK.n IntKind.i64, CK.n IntKind.i64] M'57), l := [], cap := d'58, ro := false }], junks := (0 : Nat) }) ∧ (¬(0 : Int) = (0 : Int) → K (Sum.inr [Sum.inl (Sum.inr (Sum.inr (Sum.inr (Sum.inr (Sum.inr (Sum.inr (Sum.inr (Sum.inr (Sum.inr (Sum.inr (Sum.inr (Sum.inl { a := (3 : Nat), u := (6 : Nat), o := (0 : Nat), n := q50, c := c'51 })))))))))))), Sum.inl (Sum.inl (Value.bool false))]) { heap := [some { elem := nat_lit 52, cells := [Sum.inr (Sum.inl ((1 : Nat), (0 : Nat)))], j := none, c := (1 : Nat), z := false }, some { elem := nat_lit 75, cells := [Sum.inr (Sum.inr (Sum.inr (Sum.inr (Sum.inr (Sum.inr (Sum.inr (Sum.inr (Sum.inr (Sum.inr (Sum.inr (Sum.inl { a := (4 : Nat), u := (1 : Nat), o := (0 : Nat), n := n'55, c := c'56 }))))))))))), Sum.inr (Sum.inr (Sum.inr (Sum.inr (Sum.inr (Sum.inr (Sum.inr (Sum.inr (Sum.inr (Sum.inr (Sum.inr (Sum.inl { a := (5 : Nat), u := (4 : Nat), o := (0 : Nat), n := n'55, c := d'58 }))))))))))), Sum.inr (Sum.inr (Sum.inr (Sum.inr (Sum.inr (Sum.inr (Sum.inl (IntKind.i64, m)))))))], j := none, c := (3 : Nat), z := false }], ints := [], opqs := (0 : Nat), arrs := [none, none, some { elem := (77 : Nat), k := AK.o (Obj.rows [CK.n IntKind.i64, CK.n IntKind.i64, CK.n IntKind.i64, CK.n IntKind.i64, CK.n IntKind.i64, CK.b] R), l := [], cap := rc, ro := false }, some { elem := (77 : Nat), k := AK.o (Obj.rows [CK.n IntKind.i64, CK.n IntKind.i64, CK.n IntKind.i64, CK.n IntKind.i64, CK.n IntKind.i64, CK.b] O49), l := [], cap := c'51, ro := false }, some { elem := (3 : Nat), k := AK.o (Obj.rows [CK.n IntKind.i64] L'54), l := [], cap := c'56, ro := false }, some { elem := (36 : Nat), k := AK.o (Obj.rows [CK.n IntKind.i64, CK.n IntKind.i64, CK.n IntKind.i64, CK.n IntKind.i64] M'57), l := [], cap := d'58, ro := false }], junks := (0 : Nat) })))) ∧ (¬k = (2 : Int) → (k = (3 : Int) → (rc = rc ∧ q = List.length R ∧ q ≤ (100000 : Nat)) ∧ ∀ (k60 u61 v62 h63 : Int), U.isV (U.rO R a b) k60 u61 v62 h63 → ∃ (y64 : CSP), ((c = c ∧ d = d ∧ n = n) ∧ U.csshI n c L d M y64 ∧ n ≤ (64 : Nat) ∧ U.NetI y64) ∧ (∀ (k65 x66 y67 hh68 : Int), U.Oth y64 a b k65 x66 y67 hh68 → ¬k65 = (0 : Int) → ∀ (L'69 : Rws) (n'70 : Nat) (M'71 : Rws) (P'72 : CSP), n'70 = U.cslen P'72 → U.Pulled y64 a b k65 x66 y67 P'72 → U.csshI n'70 c L'69 d M'71 P'72 → (¬k60 = (0 : Int) → (rc = rc ∧ q = List.length R ∧ q ≤ (100000 : Nat) ∧ U.Ty R) ∧ ∀ (O73 : Rws) (q74 c'75 : Nat), O73 = U.rP R a b → q74 = List.length O73 → q74 ≤ c'75 → q74 ≤ q → k60 = k60 ∧ a = a ∧ b = b ∧ k60 = k60 ∧ u61 = u61 ∧ v62 = v62 ∧ h63 = h63 ∧ k65 = k65 ∧ x66 = x66 ∧ y67 = y67 ∧ hh68 = hh68 ∧ k60 = k60 ∧ a = a ∧ b = b ∧ (k65 = k60 ∧ (x66 = u61 ∧ y67 = v62 ∧ True) ∧ hh68 = h63 ∧ True → K (Sum.inr [Sum.inl (Sum.inr (Sum.inr (Sum.inr (Sum.inr (Sum.inr (Sum.inr (Sum.inr (Sum.inr (Sum.inr (Sum.inr (Sum.inr (Sum.inl { a := (3 : Nat), u := (6 : Nat), o := (0 : Nat), n := q74, c := c'75 })))))))))))), Sum.inl (Sum.inl (Value.bool true))]) { heap := [some { elem := nat_lit 52, cells := [Sum.inr (Sum.inl ((1 : Nat), (0 : Nat)))], j := none, c := (1 : Nat), z := false }, some { elem := nat_lit 75, cells := [Sum.inr (Sum.inr (Sum.inr (Sum.inr (Sum.inr (Sum.inr (Sum.inr (Sum.inr (Sum.inr (Sum.inr (Sum.inr (Sum.inl { a := (4 : Nat), u := (1 : Nat), o := (0 : Nat), n := n'70, c := c }))))))))))), Sum.inr (Sum.inr (Sum.inr (Sum.inr (Sum.inr (Sum.inr (Sum.inr (Sum.inr (Sum.inr (Sum.inr (Sum.inr (Sum.inl { a := (5 : Nat), u := (4 : Nat), o := (0 : Nat), n := n'70, c := d }))))))))))), Sum.inr (Sum.inr (Sum.inr (Sum.inr (Sum.inr (Sum.inr (Sum.inl (IntKind.i64, m)))))))], j := none, c := (3 : Nat), z := false }], ints := [], opqs := (0 : Nat), arrs := [none, none, some { elem := (77 : Nat), k := AK.o (Obj.rows [CK.n IntKind.i64, CK.n IntKind.i64, CK.n IntKind.i64, CK.n IntKind.i64, CK.n IntKind.i64, CK.b] R), l := [], cap := rc, ro := false }, some { elem := (77 : Nat), k := AK.o (Obj.rows [CK.n IntKind.i64, CK.n IntKind.i64, CK.n IntKind.i64, CK.n IntKind.i64, CK.n IntKind.i64, CK.b] O73), l := [], cap := c'75, ro := false }, some { elem := (3 : Nat), k := AK.o (Obj.rows [CK.n IntKind.i64] L'69), l := [], cap := c, ro := false }, some { elem := (36 : Nat), k := AK.o (Obj.rows [CK.n IntKind.i64, CK.n IntKind.i64, CK.n IntKind.i64, CK.n IntKind.i64] M'71), l := [], cap := d, ro := false }], junks := (0 : Nat) }) ∧ (¬(k65 = k60 ∧ (x66 = u61 ∧ y67 = v62 ∧ True) ∧ hh68 = h63 ∧ True) → K (Sum.inr [Sum.inl (Sum.inr (Sum.inr (Sum.inr (Sum.inr (Sum.inr (Sum.inr (Sum.inr (Sum.inr (Sum.inr (Sum.inr (Sum.inr (Sum.inl { a := (3 : Nat), u := (6 : Nat), o := (0 : Nat), n := q74, c := c'75 })))))))))))), Sum.inl (Sum.inl (Value.bool false))]) { heap := [some { elem := nat_lit 52, cells := [Sum.inr (Sum.inl ((1 : Nat), (0 : Nat)))], j := none, c := (1 : Nat), z := false }, some { elem := nat_lit 75, cells := [Sum.inr (Sum.inr (Sum.inr (Sum.inr (Sum.inr (Sum.inr (Sum.inr (Sum.inr (Sum.inr (Sum.inr (Sum.inr (Sum.inl { a := (4 : Nat), u := (1 : Nat), o := (0 : Nat), n := n'70, c := c }))))))))))), Sum.inr (Sum.inr (Sum.inr (Sum.inr (Sum.inr (Sum.inr (Sum.inr (Sum.inr (Sum.inr (Sum.inr (Sum.inr (Sum.inl { a := (5 : Nat), u := (4 : Nat), o := (0 : Nat), n := n'70, c := d }))))))))))), Sum.inr (Sum.inr (Sum.inr (Sum.inr (Sum.inr (Sum.inr (Sum.inl (IntKind.i64, m)))))))], j := none, c := (3 : Nat), z := false }], ints := [], opqs := (0 : Nat), arrs := [none, none, some { elem := (77 : Nat), k := AK.o (Obj.rows [CK.n IntKind.i64, CK.n IntKind.i64, CK.n IntKind.i64, CK.n IntKind.i64, CK.n IntKind.i64, CK.b] R), l := [], cap := rc, ro := false }, some { elem := (77 : Nat), k := AK.o (Obj.rows [CK.n IntKind.i64, CK.n IntKind.i64, CK.n IntKind.i64, CK.n IntKind.i64, CK.n IntKind.i64, CK.b] O73), l := [], cap := c'75, ro := false }, some { elem := (3 : Nat), k := AK.o (Obj.rows [CK.n IntKind.i64] L'69), l := [], cap := c, ro := false }, some { elem := (36 : Nat), k := AK.o (Obj.rows [CK.n IntKind.i64, CK.n IntKind.i64, CK.n IntKind.i64, CK.n IntKind.i64] M'71), l := [], cap := d, ro := false }], junks := (0 : Nat) })) ∧ (¬¬k60 = (0 : Int) → (rc = rc ∧ q = List.length R ∧ q ≤ (100000 : Nat) ∧ U.Ty R) ∧ ∀ (O76 : Rws) (q77 c'78 : Nat), O76 = U.rP R a b → q77 = List.length O76 → q77 ≤ c'78 → q77 ≤ q → k60 = k60 ∧ a = a ∧ b = b ∧ K (Sum.inr [Sum.inl (Sum.inr (Sum.inr (Sum.inr (Sum.inr (Sum.inr (Sum.inr (Sum.inr (Sum.inr (Sum.inr (Sum.inr (Sum.inr (Sum.inl { a := (3 : Nat), u := (6 : Nat), o := (0 : Nat), n := q77, c := c'78 })))))))))))), Sum.inl (Sum.inl (Value.bool false))]) { heap := [some { elem := nat_lit 52, cells := [Sum.inr (Sum.inl ((1 : Nat), (0 : Nat)))], j := none, c := (1 : Nat), z := false }, some { elem := nat_lit 75, cells := [Sum.inr (Sum.inr (Sum.inr (Sum.inr (Sum.inr (Sum.inr (Sum.inr (Sum.inr (Sum.inr (Sum.inr (Sum.inr (Sum.inl { a := (4 : Nat), u := (1 : Nat), o := (0 : Nat), n := n'70, c := c }))))))))))), Sum.inr (Sum.inr (Sum.inr (Sum.inr (Sum.inr (Sum.inr (Sum.inr (Sum.inr (Sum.inr (Sum.inr (Sum.inr (Sum.inl { a := (5 : Nat), u := (4 : Nat), o := (0 : Nat), n := n'70, c := d }))))))))))), Sum.inr (Sum.inr (Sum.inr (Sum.inr (Sum.inr (Sum.inr (Sum.inl (IntKind.i64, m)))))))], j := none, c := (3 : Nat), z := false }], ints := [], opqs := (0 : Nat), arrs := [none, none, some { elem := (77 : Nat), k := AK.o (Obj.rows [CK.n IntKind.i64, CK.n IntKind.i64, CK.n IntKind.i64, CK.n IntKind.i64, CK.n IntKind.i64, CK.b] R), l := [], cap := rc, ro := false }, some { elem := (77 : Nat), k := AK.o (Obj.rows [CK.n IntKind.i64, CK.n IntKind.i64, CK.n IntKind.i64, CK.n IntKind.i64, CK.n IntKind.i64, CK.b] O76), l := [], cap := c'78, ro := false }, some { elem := (3 : Nat), k := AK.o (Obj.rows [CK.n IntKind.i64] L'69), l := [], cap := c, ro := false }, some { elem := (36 : Nat), k := AK.o (Obj.rows [CK.n IntKind.i64, CK.n IntKind.i64, CK.n IntKind.i64, CK.n IntKind.i64] M'71), l := [], cap := d, ro := false }], junks := (0 : Nat) })) ∧ ((U.Gd a b → ¬U.csHasK y64 (U.num a b)) → (¬k60 = (0 : Int) → (rc = rc ∧ q = List.length R ∧ q ≤ (100000 : Nat) ∧ U.Ty R) ∧ ∀ (O79 : Rws) (q80 c'81 : Nat), O79 = U.rP R a b → q80 = List.length O79 → q80 ≤ c'81 → q80 ≤ q → k60 = k60 ∧ a = a ∧ b = b ∧ K (Sum.inr [Sum.inl (Sum.inr (Sum.inr (Sum.inr (Sum.inr (Sum.inr (Sum.inr (Sum.inr (Sum.inr (Sum.inr (Sum.inr (Sum.inr (Sum.inl { a := (3 : Nat), u := (6 : Nat), o := (0 : Nat), n := q80, c := c'81 })))))))))))), Sum.inl (Sum.inl (Value.bool false))]) { heap := [some { elem := nat_lit 52, cells := [Sum.inr (Sum.inl ((1 : Nat), (0 : Nat)))], j := none, c := (1 : Nat), z := false }, some { elem := nat_lit 75, cells := [Sum.inr (Sum.inr (Sum.inr (Sum.inr (Sum.inr (Sum.inr (Sum.inr (Sum.inr (Sum.inr (Sum.inr (Sum.inr (Sum.inl { a := (0 : Nat), u := (1 : Nat), o := (0 : Nat), n := n, c := c }))))))))))), Sum.inr (Sum.inr (Sum.inr (Sum.inr (Sum.inr (Sum.inr (Sum.inr (Sum.inr (Sum.inr (Sum.inr (Sum.inr (Sum.inl { a := (1 : Nat), u := (4 : Nat), o := (0 : Nat), n := n, c := d }))))))))))), Sum.inr (Sum.inr (Sum.inr (Sum.inr (Sum.inr (Sum.inr (Sum.inl (IntKind.i64, m)))))))], j := none, c := (3 : Nat), z := false }], ints := [], opqs := (0 : Nat), arrs := [some { elem := (3 : Nat), k := AK.o (Obj.rows [CK.n IntKind.i64] L), l := [], cap := c, ro := false }, some { elem := (36 : Nat), k := AK.o (Obj.rows [CK.n IntKind.i64, CK.n IntKind.i64, CK.n IntKind.i64, CK.n IntKind.i64] M), l := [], cap := d, ro := false }, some { elem := (77 : Nat), k := AK.o (Obj.rows [CK.n IntKind.i64, CK.n IntKind.i64, CK.n IntKind.i64, CK.n IntKind.i64, CK.n IntKind.i64, CK.b] R), l := [], cap := rc, ro := false }, some { elem := (77 : Nat), k := AK.o (Obj.rows [CK.n IntKind.i64, CK.n IntKind.i64, CK.n IntKind.i64, CK.n IntKind.i64, CK.n IntKind.i64, CK.b] O79), l := [], cap := c'81, ro := false }], junks := (0 : Nat) }) ∧ (¬¬k60 = (0 : Int) → (rc = rc ∧ q = List.length R ∧ q ≤ (100000 : Nat) ∧ U.Ty R) ∧ ∀ (O82 : Rws) (q83 c'84 : Nat), O82 = U.rP R a b → q83 = List.length O82 → q83 ≤ c'84 → q83 ≤ q → k60 = k60 ∧ a = a ∧ b = b ∧ k60 = k60 ∧ u61 = u61 ∧ v62 = v62 ∧ h63 = h63 ∧ (0 : Int) = (0 : Int) ∧ (0 : Int) = (0 : Int) ∧ (0 : Int) = (0 : Int) ∧ (0 : Int) = (0 : Int) ∧ k60 = k60 ∧ a = a ∧ b = b ∧ ((0 : Int) = k60 ∧ ((0 : Int) = u61 ∧ (0 : Int) = v62 ∧ True) ∧ (0 : Int) = h63 ∧ True → K (Sum.inr [Sum.inl (Sum.inr (Sum.inr (Sum.inr (Sum.inr (Sum.inr (Sum.inr (Sum.inr (Sum.inr (Sum.inr (Sum.inr (Sum.inr (Sum.inl { a := (3 : Nat), u := (6 : Nat), o := (0 : Nat), n := q83, c := c'84 })))))))))))), Sum.inl (Sum.inl (Value.bool true))]) { heap := [some { elem := nat_lit 52, cells := [Sum.inr (Sum.inl ((1 : Nat), (0 : Nat)))], j := none, c := (1 : Nat), z := false }, some { elem := nat_lit 75, cells := [Sum.inr (Sum.inr (Sum.inr (Sum.inr (Sum.inr (Sum.inr (Sum.inr (Sum.inr (Sum.inr (Sum.inr (Sum.inr (Sum.inl { a := (0 : Nat), u := (1 : Nat), o := (0 : Nat), n := n, c := c }))))))))))), Sum.inr (Sum.inr (Sum.inr (Sum.inr (Sum.inr (Sum.inr (Sum.inr (Sum.inr (Sum.inr (Sum.inr (Sum.inr (Sum.inl { a := (1 : Nat), u := (4 : Nat), o := (0 : Nat), n := n, c := d }))))))))))), Sum.inr (Sum.inr (Sum.inr (Sum.inr (Sum.inr (Sum.inr (Sum.inl (IntKind.i64, m)))))))], j := none, c := (3 : Nat), z := false }], ints := [], opqs := (0 : Nat), arrs := [some { elem := (3 : Nat), k := AK.o (Obj.rows [CK.n IntKind.i64] L), l := [], cap := c, ro := false }, some { elem := (36 : Nat), k := AK.o (Obj.rows [CK.n IntKind.i64, CK.n IntKind.i64, CK.n IntKind.i64, CK.n IntKind.i64] M), l := [], cap := d, ro := false }, some { elem := (77 : Nat), k := AK.o (Obj.rows [CK.n IntKind.i64, CK.n IntKind.i64, CK.n IntKind.i64, CK.n IntKind.i64, CK.n IntKind.i64, CK.b] R), l := [], cap := rc, ro := false }, some { elem := (77 : Nat), k := AK.o (Obj.rows [CK.n IntKind.i64, CK.n IntKind.i64, CK.n IntKind.i64, CK.n IntKind.i64, CK.n IntKind.i64, CK.b] O82), l := [], cap := c'84, ro := false }], junks := (0 : Nat) }) ∧ (¬((0 : Int) = k60 ∧ ((0 : Int) = u61 ∧ (0 : Int) = v62 ∧ True) ∧ (0 : Int) = h63 ∧ True) → K (Sum.inr [Sum.inl (Sum.inr (Sum.inr (Sum.inr (Sum.inr (Sum.inr (Sum.inr (Sum.inr (Sum.inr (Sum.inr (Sum.inr (Sum.inr (Sum.inl { a := (3 : Nat), u := (6 : Nat), o := (0 : Nat), n := q83, c := c'84 })))))))))))), Sum.inl (Sum.inl (Value.bool false))]) { heap := [some { elem := nat_lit 52, cells := [Sum.inr (Sum.inl ((1 : Nat), (0 : Nat)))], j := none, c := (1 : Nat), z := false }, some { elem := nat_lit 75, cells := [Sum.inr (Sum.inr (Sum.inr (Sum.inr (Sum.inr (Sum.inr (Sum.inr (Sum.inr (Sum.inr (Sum.inr (Sum.inr (Sum.inl { a := (0 : Nat), u := (1 : Nat), o := (0 : Nat), n := n, c := c }))))))))))), Sum.inr (Sum.inr (Sum.inr (Sum.inr (Sum.inr (Sum.inr (Sum.inr (Sum.inr (Sum.inr (Sum.inr (Sum.inr (Sum.inl { a := (1 : Nat), u := (4 : Nat), o := (0 : Nat), n := n, c := d }))))))))))), Sum.inr (Sum.inr (Sum.inr (Sum.inr (Sum.inr (Sum.inr (Sum.inl (IntKind.i64, m)))))))], j := none, c := (3 : Nat), z := false }], ints := [], opqs := (0 : Nat), arrs := [some { elem := (3 : Nat), k := AK.o (Obj.rows [CK.n IntKind.i64] L), l := [], cap := c, ro := false }, some { elem := (36 : Nat), k := AK.o (Obj.rows [CK.n IntKind.i64, CK.n IntKind.i64, CK.n IntKind.i64, CK.n IntKind.i64] M), l := [], cap := d, ro := false }, some { elem := (77 : Nat), k := AK.o (Obj.rows [CK.n IntKind.i64, CK.n IntKind.i64, CK.n IntKind.i64, CK.n IntKind.i64, CK.n IntKind.i64, CK.b] R), l := [], cap := rc, ro := false }, some { elem := (77 : Nat), k := AK.o (Obj.rows [CK.n IntKind.i64, CK.n IntKind.i64, CK.n IntKind.i64, CK.n IntKind.i64, CK.n IntKind.i64, CK.b] O82), l := [], cap := c'84, ro := false }], junks := (0 : Nat) })))) ∧ (¬k = (3 : Int) → K (Sum.inr [Sum.inl (Sum.inr (Sum.inr (Sum.inr (Sum.inr (Sum.inr (Sum.inr (Sum.inr (Sum.inr (Sum.inr (Sum.inr (Sum.inr (Sum.inl { a := (2 : Nat), u := (6 : Nat), o := (0 : Nat), n := q, c := rc })))))))))))), Sum.inl (Sum.inl (Value.bool true))]) { heap := [some { elem := nat_lit 52, cells := [Sum.inr (Sum.inl ((1 : Nat), (0 : Nat)))], j := none, c := (1 : Nat), z := false }, some { elem := nat_lit 75, cells := [Sum.inr (Sum.inr (Sum.inr (Sum.inr (Sum.inr (Sum.inr (Sum.inr (Sum.inr (Sum.inr (Sum.inr (Sum.inr (Sum.inl { a := (0 : Nat), u := (1 : Nat), o := (0 : Nat), n := n, c := c }))))))))))), Sum.inr (Sum.inr (Sum.inr (Sum.inr (Sum.inr (Sum.inr (Sum.inr (Sum.inr (Sum.inr (Sum.inr (Sum.inr (Sum.inl { a := (1 : Nat), u := (4 : Nat), o := (0 : Nat), n := n, c := d }))))))))))), Sum.inr (Sum.inr (Sum.inr (Sum.inr (Sum.inr (Sum.inr (Sum.inl (IntKind.i64, m)))))))], j := none, c := (3 : Nat), z := false }], ints := [], opqs := (0 : Nat), arrs := [some { elem := (3 : Nat), k := AK.o (Obj.rows [CK.n IntKind.i64] L), l := [], cap := c, ro := false }, some { elem := (36 : Nat), k := AK.o (Obj.rows [CK.n IntKind.i64, CK.n IntKind.i64, CK.n IntKind.i64, CK.n IntKind.i64] M), l := [], cap := d, ro := false }, some { elem := (77 : Nat), k := AK.o (Obj.rows [CK.n IntKind.i64, CK.n IntKind.i64, CK.n IntKind.i64, CK.n IntKind.i64, CK.n IntKind.i64, CK.b] R), l := [], cap := rc, ro := false }], junks := (0 : Nat) }))))) := by kernel_rfl
end Go.Proofs.Ytmahbhoblhhamaa
end

section
set_option linter.unusedVariables false
set_option linter.unusedSimpArgs false
set_option maxRecDepth 10000
namespace Go.Proofs.Ytmahbhoblhhamaa
open Go Reck Ost
/-- A net and the document's cables that tell the same. -/
structure U.NR (n c : Nat) (L : Rws) (d : Nat) (M R : Rws) (q : Nat) : Prop where
  out : ∃ P, U.csshI n c L d M P ∧ U.NetI P ∧ U.Rel P R ∧ q = R.length
section
variable {P P' : CSP} {R : Rws} {a b a' b' h z z' : Int} {n c d n' c' d' q q' : Nat} {L M L' M' O : Rws}
theorem nr_le (h : U.NR n c L d M R q) : n ≤ 64 := by
  obtain ⟨P, h1, h2, _⟩ := h.out
  exact pulled_len (P := P) h1 h2
theorem noJ_eq (hR : U.Rel P R) (hs : U.csSrt P) (hP : U.NetI P) (h1 : U.rNoJ R a b a' b' z) (h2 : U.noJ P a b a' b' z') : z' = z := by
  rcases h1.out with ⟨x1, x2⟩ | ⟨x1, x2, x3, x4, x5⟩ <;> rcases h2.out with ⟨y1, y2⟩ | ⟨y1, y2, y3, y4, y5⟩
  · rw [x2, y2]
  · rcases x1 with x | x | x
    · exact (x y1).elim
    · exact (x y2).elim
    · exact (y3 x).elim
  · rcases y1 with x | x | x
    · exact (x x1).elim
    · exact (x x2).elim
    · exact (x3 x).elim
  · rw [x5, y5]
theorem mayJ_no (hR : U.Rel P R) (hs : U.csSrt P) (hP : U.NetI P) (h1 : U.rNoJ R a b a' b' z) (h2 : U.mayJ P a b a' b') : False := by
  rcases h1.out with ⟨x1, x2⟩ | ⟨x1, x2, x3, x4, x5⟩
  · rcases x1 with x | x | x
    · exact x h2.g
    · exact x h2.g'
    · exact h2.ne x
  · rcases x4 with x | x
    · exact h2.n ((rel_t hR hs hP x1).1 x)
    · exact h2.n' ((rel_t hR hs hP x2).1 x)
theorem rmayJ_no (hR : U.Rel P R) (hs : U.csSrt P) (hP : U.NetI P) (h1 : U.rMayJ R a b a' b') (h2 : U.noJ P a b a' b' z) : False := by
  rcases h2.out with ⟨x1, x2⟩ | ⟨x1, x2, x3, x4, x5⟩
  · rcases x1 with x | x | x
    · exact x h1.g
    · exact x h1.g'
    · exact h1.ne x
  · rcases x4 with x | x
    · exact h1.n ((rel_t hR hs hP x1).2 x)
    · exact h1.n' ((rel_t hR hs hP x2).2 x)
theorem nr_join (hR : U.Rel P R) (hP : U.NetI P) (hlen : q = R.length) (h1 : U.mayJ P a b a' b') (h2 : U.Joined P a b a' b' P') (h3 : U.csshI n' c' L' d' M' P') (h4 : O = U.apd R (U.cJ a b a' b')) (h5 : q' = q + 1) : U.NR n' c' L' d' M' O q' :=
  ⟨P', h3, netI_join hP h1 h2, by rw [h4]; exact rel_join hR h1 h2, by rw [h4]; unfold U.apd; rw [List.length_append]; simp; omega⟩
theorem noA_eq (h1 : U.rNoA R h a b z) (h2 : U.noA P h a b z') : z' = z := by
  rcases h1.out with ⟨x1, x2⟩ | ⟨x1, x2, x3, x4⟩ <;> rcases h2.out with ⟨y1, y2⟩ | ⟨y1, y2, y3, y4⟩
  · rw [x2, y2]
  · rcases x1 with x | x
    · exact (x y1).elim
    · exact (x y2).elim
  · rcases y1 with x | x
    · exact (x x1).elim
    · exact (x x2).elim
  · rw [x4, y4]
theorem mayA_no (hR : U.Rel P R) (hs : U.csSrt P) (hP : U.NetI P) (h1 : U.rNoA R h a b z) (h2 : U.mayA P h a b) : False := by
  rcases h1.out with ⟨x1, x2⟩ | ⟨x1, x2, x3, x4⟩
  · rcases x1 with x | x
    · exact x h2.hh
    · exact x h2.g
  · rcases x3 with ⟨x, y, hw⟩ | x
    · exact h2.no _ (rel_isW hR hw).2
    · exact h2.n ((rel_t hR hs hP x2).1 x)
theorem rmayA_no (hR : U.Rel P R) (hs : U.csSrt P) (hP : U.NetI P) (g : U.Gd a b) (hh : 0 ≤ h ∧ h < 16) (hw : U.noW R h) (ht : ¬ U.rT R a b) (h2 : U.noA P h a b z) : False := by
  rcases h2.out with ⟨x1, x2⟩ | ⟨x1, x2, x3, x4⟩
  · rcases x1 with x | x
    · exact x hh
    · exact x g
  · rcases x3 with ⟨k, x⟩ | x
    · exact rel_noW hR hw k x
    · exact ht ((rel_t hR hs hP g).2 x)
theorem nr_att (hR : U.Rel P R) (hP : U.NetI P) (hlen : q = R.length) (h1 : U.mayA P h a b) (h2 : U.csPut P (U.num a b) ⟨2, 0, 0, h⟩ P') (h3 : U.csshI n' c' L' d' M' P') (h4 : O = U.apd R (U.cM a b h)) (h5 : q' = q + 1) : U.NR n' c' L' d' M' O q' :=
  ⟨P', h3, netI_att hP h1.g h1.hh h1.n h1.no h2, by rw [h4]; exact rel_att hR h1.g h1.n h2, by rw [h4]; unfold U.apd; rw [List.length_append]; simp; omega⟩
theorem nr_pull {k x y : Int} (hR : U.Rel P R) (hs : U.csSrt P) (hP : U.NetI P) (h1 : U.Oth P a b k x y h) (hk : ¬ k = 0) (h2 : U.Pulled P a b k x y P') (h3 : U.csshI n' c' L' d' M' P') (h4 : O = U.rP R a b) (h5 : q' = O.length) : U.NR n' c' L' d' M' O q' :=
  ⟨P', h3, netI_pull hs hP h1 hk h2, by rw [h4]; exact rel_pull hR hs hP h1 hk h2, h5⟩
theorem oth_no (hn : U.Gd a b → ¬ U.csHasK P (U.num a b)) : U.Oth P a b 0 0 0 0 := ⟨.inr ⟨hn, rfl, rfl, rfl, rfl⟩⟩
theorem oth_eq3 {k x y k' x' y' h' : Int} (hR : U.Rel P R) (hs : U.csSrt P) (hP : U.NetI P) (ho : U.Oth P a b k x y h) (hv : U.isV (U.rO R a b) k' x' y' h') : k = k' ∧ (x = x' ∧ y = y' ∧ True) ∧ h = h' ∧ True := by
  obtain ⟨h1, h2, h3, h4⟩ := rel_eq hR hs hP ho hv
  exact ⟨h1, ⟨h2, h3, trivial⟩, h4, trivial⟩
theorem oth_k0 {k x y k' x' y' h' : Int} (hR : U.Rel P R) (hs : U.csSrt P) (hP : U.NetI P) (ho : U.Oth P a b k x y h) (hv : U.isV (U.rO R a b) k' x' y' h') (h1 : ¬ k = 0) (h2 : ¬ ¬ k' = 0) : False :=
  h2 fun h => h1 ((rel_eq hR hs hP ho hv).1.trans h)
theorem oth_n0 {k' x' y' h' : Int} (hR : U.Rel P R) (hs : U.csSrt P) (hP : U.NetI P) (hn : U.Gd a b → ¬ U.csHasK P (U.num a b)) (hv : U.isV (U.rO R a b) k' x' y' h') (h1 : ¬ k' = 0) : False :=
  h1 (rel_eq hR hs hP (oth_no hn) hv).1.symm
theorem rP_id (hR : U.Rel P R) (hn : U.Gd a b → ¬ U.csHasK P (U.num a b)) : U.rP R a b = R := by
  unfold U.rP
  refine List.filter_eq_self.2 fun r hr => ?_
  obtain ⟨x1, x2, x3, x4, x5, m, rfl⟩ := hR.ty.out r hr
  refine pr_tch.2 fun ht => ?_
  obtain ⟨e, he, _⟩ := tch_en ht
  have hw := hR.wf _ _ _ _ _ _ hr
  have gd : U.Gd a b := by
    rcases ht with ⟨h1, h2⟩ | ⟨h1, h2, h3⟩
    · have e1 : x1 = a := h1
      have e2 : x2 = b := h2
      rw [← e1, ← e2]; exact hw.1
    · have e1 : x3 = a := h1
      have e2 : x4 = b := h2
      rw [← e1, ← e2]; exact hw.2 h3
  exact hn gd ⟨e, (hR.mem _ _).2 ⟨_, _, _, _, _, _, hr, he⟩⟩
theorem nr_none (hR : U.Rel P R) (hP : U.NetI P) (h3 : U.csshI n c L d M P) (hn : U.Gd a b → ¬ U.csHasK P (U.num a b)) (h4 : O = U.rP R a b) (h5 : q' = O.length) : U.NR n c L d M O q' :=
  ⟨P, h3, hP, by rw [h4, rP_id hR hn]; exact hR, h5⟩
end
def nr3 (n c : Nat) (L : Rws) (d : Nat) (M : Rws) (m : Int) (R : Rws) (rc : Nat) (O : Rws) (oc : Nat) : St := ⟨[nbB, csB (rslC ⟨4, 1, 0, n, c⟩) (rslC ⟨5, 4, 0, n, d⟩) m], [], 0, [none, none, some (caB R rc), some (caB O oc), some (cskB L c), some (csvB M d)], 0⟩
def nr4 (n c : Nat) (L : Rws) (d : Nat) (M : Rws) (m : Int) (R : Rws) (rc : Nat) (O : Rws) (oc : Nat) : St := ⟨[nbB, csB (rslC ⟨0, 1, 0, n, c⟩) (rslC ⟨1, 4, 0, n, d⟩) m], [], 0, [some (cskB L c), some (csvB M d), some (caB R rc), some (caB O oc)], 0⟩
def okA (s : RSl) (b : Bool) : AV := .inr [.inl (rslC s), .inl (.inl (.bool b))]
set_option maxHeartbeats 4000000 in
theorem step_run (K : AV → St → Prop) (L M : Rws) (n c d : Nat) (m : Int) (R : Rws) (q rc : Nat) (k a b a' b' h : Int) (hN : U.NR n c L d M R q) (hq : q ≤ 99999) (hm : m = 64)
    (h0 : K (okA ⟨2, 6, 0, q, rc⟩ true) (nrSt n c L d M m R rc))
    (h1 : ∀ (n' c' : Nat) (L' : Rws) (d' : Nat) (M' O : Rws) (q' oc : Nat), U.NR n' c' L' d' M' O q' → q' ≤ q + 1 → q' ≤ oc → K (okA ⟨3, 6, 0, q', oc⟩ true) (nr3 n' c' L' d' M' m R rc O oc))
    (h2 : ∀ (O : Rws) (q' oc : Nat), U.NR n c L d M O q' → q' ≤ q → q' ≤ oc → K (okA ⟨3, 6, 0, q', oc⟩ true) (nr4 n c L d M m R rc O oc)) :
    runR inv0 tN2 8 [ptr 0 0, cell (rslC ⟨2, 6, 0, q, rc⟩), opA k a b a' b' h] (nrSt n c L d M m R rc) K := by
  have hn := nr_le hN
  obtain ⟨P, hsh, hP, hR, hlen⟩ := hN.out
  have hs := hsh.srt
  have hTy := hR.ty
  have hq1 : q ≤ 100000 := by omega
  rw [step_vc]
  repeat' (first | exact rfl | exact trivial | assumption | with_reducible apply And.intro | (with_reducible refine Exists.intro P ?_) | intro _)
  all_goals first
    | exact h0
    | exact absurd (noJ_eq hR hs hP (by assumption) (by assumption)) (by assumption)
    | exact (mayJ_no hR hs hP (by assumption) (by assumption)).elim
    | exact (rmayJ_no hR hs hP (by assumption) (by assumption)).elim
    | exact h1 _ _ _ _ _ _ _ _ (nr_join hR hP hlen (by assumption) (by assumption) (by assumption) (by assumption) (by assumption)) (by omega) (by assumption)
    | exact absurd rfl (by assumption)
    | exact absurd (noA_eq (by assumption) (by assumption)) (by assumption)
    | exact (mayA_no hR hs hP (by assumption) (by assumption)).elim
    | exact (rmayA_no hR hs hP (by assumption) (by assumption) (by assumption) (by assumption) (by assumption)).elim
    | exact h1 _ _ _ _ _ _ _ _ (nr_att hR hP hlen (by assumption) (by assumption) (by assumption) (by assumption) (by assumption)) (by omega) (by assumption)
    | exact h1 _ _ _ _ _ _ _ _ (nr_pull hR hs hP (by assumption) (by assumption) (by assumption) (by assumption) (by assumption) (by assumption)) (by omega) (by assumption)
    | exact absurd (oth_eq3 hR hs hP (by assumption) (by assumption)) (by assumption)
    | exact (oth_k0 hR hs hP (by assumption) (by assumption) (by assumption) (by assumption)).elim
    | exact (oth_n0 hR hs hP (by assumption) (by assumption) (by assumption)).elim
    | exact h2 _ _ _ (nr_none hR hP hsh (by assumption) (by assumption) (by assumption)) (by assumption) (by assumption)
    | exact absurd (oth_eq3 hR hs hP (oth_no (by assumption)) (by assumption)) (by assumption)
    | fail
end Go.Proofs.Ytmahbhoblhhamaa
end
