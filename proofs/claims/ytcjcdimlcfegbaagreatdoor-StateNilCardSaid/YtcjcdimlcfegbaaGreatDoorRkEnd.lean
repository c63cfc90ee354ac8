/- A reckoner of calls: whatever it answers, the model's run does. No condition. -/
import Derived.Test.YtcjcdimlcfegbaaGreatDoorRkEq
set_option linter.unusedVariables false
set_option linter.unusedSimpArgs false
namespace Reck
open Go Ost

/-- Where a piece of code may end. -/
def Post (w0 : World) (e : Env) (Q : Out → Prop) : Exit → Act → World → Prop :=
  fun ex a' w' => ∃ tm σ e', e.le e' ∧ Tm e' tm a' ∧ Ok w0 e' σ w' ∧ Q (ex, tm, σ)
theorem Post.le {w0 : World} {e e1 : Env} {Q : Out → Prop} (hl : e1.le e) {ex : Exit} {a : Act} {w : World} (hp : Post w0 e Q ex a w) : Post w0 e1 Q ex a w := by
  obtain ⟨tm, σ, e', h1, h2⟩ := hp
  exact ⟨tm, σ, e', hl.trans h1, h2⟩

theorem rounds_mono {P : Program} {c : Code} {Q Q' : Exit → Act → World → Prop} (h : ∀ e a w, Q e a w → Q' e a w) : ∀ (n : Nat) (a : Act) (w : World), Code.rounds P c Q n a w → Code.rounds P c Q' n a w
  | 0, _, _, hh => hh
  | n + 1, a, w, hh => wp_mono hh fun e a' w' hq => by
    cases e <;> first | exact h _ _ _ hq | exact rounds_mono h n _ _ hq

theorem anyH_swap {P : Program} {md : Region.Mode} {ops : Array Oper} {Q : Exit → Act → World → Prop} {S S2 : World → Prop} (hi : ∀ w, S2 w → S w) :
    ∀ (fuel : Nat) (listed : Array Bool) (a : Act) (w : World), wpAnyH P md ops Q S2 fuel listed a w → wpAnyH P md ops Q S fuel listed a w
  | 0, _, _, _, h => h
  | fuel + 1, _, _, _, h => ⟨h.1, fun i hr => wpOp_mono (fun a' w' h' => ⟨hi _ h'.1, anyH_swap hi fuel _ a' w' h'.2⟩) (h.2 i hr)⟩
theorem anyH_mono {P : Program} {md : Region.Mode} {ops : Array Oper} {Q Q' : Exit → Act → World → Prop} {S : World → Prop} (hq : ∀ e a w, Q e a w → Q' e a w) (hl : LetsOut Q → LetsOut Q') :
    ∀ (fuel : Nat) (listed : Array Bool) (a : Act) (w : World), wpAnyH P md ops Q S fuel listed a w → wpAnyH P md ops Q' S fuel listed a w := by
  have opm : ∀ {i : Nat} {a : Act} {w : World} {K : Act → World → Prop}, wpOp P ops Q i K a w → wpOp P ops Q' i K a w := by
    intro i a w K h
    unfold wpOp at *
    split
    · simpa [*] using h
    · rename_i o ho
      simp only [ho] at h
      split
      · rename_i hw
        simp only [hw, if_true] at h
        refine h.imp (fun h => ?_) (fun h => ⟨h.1, hl h.2⟩)
        unfold Oper.wp at *
        generalize (execOp a.eval o).run P w = r at *
        cases r with
        | ok n w' =>
          cases n <;> simp only [Oper.upon] at h ⊢ <;> first
            | exact h
            | exact Calls.mono h (fun e w'' he => by cases e <;> first | exact he | exact hq _ _ _ he | exact hl he)
        | halt x w' => cases x <;> simp only [Oper.upon] at h ⊢ <;> first | exact h | exact hq _ _ _ h
      · rename_i hw; simp only [hw] at h; exact h
  intro fuel
  induction fuel with
  | zero => intro listed a w h; exact ⟨h.1, hq _ _ _ h.2⟩
  | succ fuel ih => intro listed a w h; exact ⟨fun hr => hq _ _ _ (h.1 hr), fun i hr => opm (wpOp_mono (fun a' w' h' => ⟨h'.1, ih _ a' w' h'.2⟩) (h.2 i hr))⟩

theorem wpOps_mono' {P : Program} {ops : Array Oper} {Q Q' : Exit → Act → World → Prop} (hq : ∀ e a w, Q e a w → Q' e a w) : ∀ {l : List Nat} {a : Act} {w : World}, wpOps P ops Q l a w → wpOps P ops Q' l a w := by
  intro l
  induction l with
  | nil => intro a w h; exact hq _ _ _ h
  | cons i l ih =>
    intro a w h
    rw [wpOps_cons] at h ⊢
    have h2 : wpOp P ops Q i (wpOps P ops Q' l) a w := wpOp_mono (fun a w h => ih h) h
    unfold wpOp at *
    split
    · simpa [*] using h2
    · rename_i o ho
      simp only [ho] at h2
      split
      · rename_i hw
        simp only [hw, if_true] at h2
        refine h2.imp (fun h => ?_) (fun h => ⟨h.1, let ⟨a, w, hh⟩ := h.2; ⟨a, w, hq _ _ _ hh⟩⟩)
        unfold Oper.wp at *
        generalize (execOp a.eval o).run P w = r at *
        cases r with
        | ok n w' =>
          cases n <;> simp only [Oper.upon] at h ⊢ <;> first
            | exact h
            | exact Calls.mono h (fun e w'' he => by cases e <;> first | exact he | exact hq _ _ _ he | exact (let ⟨a, w, hh⟩ := he; ⟨a, w, hq _ _ _ hh⟩))
        | halt x w' => cases x <;> simp only [Oper.upon] at h ⊢ <;> first | exact h | exact hq _ _ _ h
      · rename_i hw; simp only [hw] at h2; exact h2

/-- How many are still to come up. -/
def left (ops : Array Oper) (listed : Array Bool) : Nat := ((List.range ops.size).filter fun i => !listed.getD i true).length
theorem left_set {ops : Array Oper} {listed : Array Bool} {i : Nat} (hi : i < ops.size) (hl : listed.getD i true = false) : left ops (listed.setIfInBounds i true) + 1 ≤ left ops listed := by
  unfold left
  have hsz : i < listed.size := by
    rcases Nat.lt_or_ge i listed.size with h | h
    · exact h
    · simp [Array.getElem?_eq_none h] at hl
  have key : ∀ l : List Nat, l.Nodup → i ∈ l → (l.filter fun j => !(listed.setIfInBounds i true).getD j true).length + 1 = (l.filter fun j => !listed.getD j true).length := by
    intro l
    induction l with
    | nil => intro _ h; simp at h
    | cons j l ih =>
      intro hnd hmem
      rw [List.nodup_cons] at hnd
      by_cases hji : j = i
      · subst hji
        have hsame : (l.filter fun k => !(listed.setIfInBounds j true).getD k true) = l.filter fun k => !listed.getD k true := by
          apply List.filter_congr
          intro k hk
          rw [getD_set_ne true (fun h => hnd.1 (by rw [h]; exact hk))]
        have h1 : (listed.setIfInBounds j true).getD j true = true := by simp [hsz]
        rw [List.filter_cons_of_neg (by simp [h1]), List.filter_cons_of_pos (by simp [hl]), hsame, List.length_cons]
      · have hmem' : i ∈ l := by simpa [Ne.symm hji] using hmem
        have := ih hnd.2 hmem'
        have h1 : (listed.setIfInBounds i true).getD j true = listed.getD j true := getD_set_ne true (Ne.symm hji)
        by_cases hj : listed.getD j true = true
        · rw [List.filter_cons_of_neg (by simp [h1, hj]), List.filter_cons_of_neg (by simp [hj])]; exact this
        · rw [List.filter_cons_of_pos (by simp [h1, hj]), List.filter_cons_of_pos (by simp [hj]), List.length_cons, List.length_cons]; omega
  have := key (List.range ops.size) List.nodup_range (by simpa using hi)
  omega

/-- What is leant on, where this has come up. -/
def heldSL (e : Env) (hs : List (Held × List Nat)) (l : Array Bool) (w : World) : Prop := ∀ p ∈ hs, (∀ k ∈ p.2, l.getD k false = false) → heldS e p.1 w
theorem heldSL_le {e e' : Env} (hl : e.le e') {hs : List (Held × List Nat)} {l : Array Bool} {w : World} (h : heldSL e' hs l w) : heldSL e hs l w := fun p hp hk => heldS_le hl (h p hp hk)
theorem anyL_mono {P : Program} {md : Region.Mode} {ops : Array Oper} {Q Q' : Exit → Act → World → Prop} {S : Array Bool → World → Prop} (hq : ∀ e a w, Q e a w → Q' e a w) (hl : LetsOut Q → LetsOut Q') :
    ∀ (fuel : Nat) (listed : Array Bool) (a : Act) (w : World), wpAnyL P md ops Q S fuel listed a w → wpAnyL P md ops Q' S fuel listed a w := by
  have opm : ∀ {i : Nat} {a : Act} {w : World} {K : Act → World → Prop}, wpOp P ops Q i K a w → wpOp P ops Q' i K a w := by
    intro i a w K h
    unfold wpOp at *
    split
    · simpa [*] using h
    · rename_i o ho
      simp only [ho] at h
      split
      · rename_i hw
        simp only [hw, if_true] at h
        refine h.imp (fun h => ?_) (fun h => ⟨h.1, hl h.2⟩)
        unfold Oper.wp at *
        generalize (execOp a.eval o).run P w = r at *
        cases r with
        | ok n w' =>
          cases n <;> simp only [Oper.upon] at h ⊢ <;> first
            | exact h
            | exact Calls.mono h (fun e w'' he => by cases e <;> first | exact he | exact hq _ _ _ he | exact hl he)
        | halt x w' => cases x <;> simp only [Oper.upon] at h ⊢ <;> first | exact h | exact hq _ _ _ h
      · rename_i hw; simp only [hw] at h; exact h
  intro fuel
  induction fuel with
  | zero => intro listed a w h; exact ⟨h.1, hq _ _ _ h.2⟩
  | succ fuel ih => intro listed a w h; exact ⟨fun hr => hq _ _ _ (h.1 hr), fun i hr => opm (wpOp_mono (fun a' w' h' => ⟨h'.1, ih _ a' w' h'.2⟩) (h.2 i hr))⟩

/-- What is said of a task's outcomes. -/
def TaskOk (P : Program) (m : Nat) (t : Task) (tm : List AV) (σ : St) (Q : Out → Prop) : Prop :=
  ∀ (w0 : World) (e : Env) (w : World), Ok w0 e σ w → match t with
    | .inl c => ∀ a, Tm e tm a → c.wp P (Post w0 e Q) a w
    | .inr (.inl c) => ∀ a, Tm e tm a → Code.rounds P c (Post w0 e Q) m a w
    | .inr (.inr (.inl (ops, l))) => ∀ a, Tm e tm a → wpOps P ops (Post w0 e Q) l a w
    | .inr (.inr (.inr (.inl (ops, listed, hs)))) => Region.noSelect ops = true → Closed .any ops listed → heldSL e hs listed w → ∀ a, Tm e tm a → ∀ fuel, left ops listed ≤ fuel → wpAnyL P .any ops (NoPanic (Post w0 e Q)) (heldSL e hs) fuel listed a w
    | .inr (.inr (.inr (.inr f))) => ∀ vs : List Value, tm.map (av e) = vs.map some → Calls P f vs.toArray w fun en w' => ∃ x σ' e' v, en = .returned v ∧ e.le e' ∧ av e' x = some v ∧ Ok w0 e' σ' w' ∧ Q (.ret, [x], σ')
def SelfOk (P : Program) (m : Nat) (self : Self) : Prop := ∀ t tm σ Q, self t tm σ Q → TaskOk P m t tm σ Q
/-- Calls that are known ahead. -/
def ConOk (P : Program) (R : Orc) : Prop := ∀ f tm σ C, R.con f tm σ = some C → ∀ K : AV → St → Prop, C K → ∀ (w0 : World) (e : Env) (w : World), Ok w0 e σ w → ∀ vs : List Value, tm.map (av e) = vs.map some →
  Calls P f vs.toArray w fun en w' => ∃ x σ' e' v, en = .returned v ∧ e.le e' ∧ av e' x = some v ∧ Ok w0 e' σ' w' ∧ K x σ'
abbrev OpM := List AV → Oper → St → Option ((AV → St → Prop) → Prop)
/-- Operations on memory. -/
def OpMOk (P : Program) (opM : OpM) : Prop := ∀ tm o σ T, opM tm o σ = some T → ∀ K : AV → St → Prop, T K → ∀ (w0 : World) (e : Env) (w : World) (a : Act), Ok w0 e σ w → Tm e tm a →
  ∃ v σ' e' u w', K v σ' ∧ e.le e' ∧ av e' v = some u ∧ Ok w0 e' σ' w' ∧ ((execOp a.eval o).run P w = .ok (.value u) w' ∨ ((execOp a.eval o).run P w = .ok .skip w' ∧ u = undef))

theorem allK_mem {α : Type} {f : α → Prop} : ∀ {l : List α}, allK f l → ∀ x ∈ l, f x
  | [], _, x, hx => by simp at hx
  | [y], h, x, hx => by simp at hx; subst hx; exact h
  | y :: z :: l, h, x, hx => by
    simp only [allK] at h
    rcases List.mem_cons.1 hx with rfl | hx
    · exact h.1
    · exact allK_mem h.2 x hx

theorem heldK_ok {σ : St} {K : Prop} {w0 w : World} {e : Env} (hk : Ok w0 e σ w) : ∀ {hs : Held}, heldK σ K hs → K ∧ heldS e hs w
  | [], h => ⟨h, by intro p hp; simp at hp⟩
  | .inl (b, i, c) :: l, h => by
    simp only [heldK] at h
    split at h
    · rename_i x hx
      split at h
      · rename_i d hd
        have key : cv e d = cv e c → heldK σ K l → K ∧ heldS e (.inl (b, i, c) :: l) w := by
          intro hc hl
          obtain ⟨h1, h2⟩ := heldK_ok hk hl
          refine ⟨h1, ?_⟩
          intro p hp
          rcases List.mem_cons.1 hp with rfl | hp
          · intro q v hq hv
            exact heldS0_of hk (hs := [(b, i, d)]) (by intro p hp; simp at hp; subst hp; exact ⟨x, hx, hd⟩) (b, i, d) (by simp) q v hq (hc.trans hv)
          · exact h2 p hp
        split at h
        · rename_i hr; exact key (refC_ok hr (by intro q hq; cases hq) e) h
        · rename_i p hr; exact key (refC_ok hr (by intro q hq; cases hq; exact h.1) e) h.2
        · exact h.bad.elim
      · exact h.bad.elim
    · exact h.bad.elim
  | .inr (.inr (a, u, m, f, k, v)) :: l, h => by
    simp only [heldK] at h
    split at h
    · rename_i x hx
      split at h
      · rename_i ks L hxk
        split at h
        · rename_i hc
          obtain ⟨c1, c3⟩ := kindAt_eq hc
          obtain ⟨h1, h2⟩ := heldK_ok hk h.2
          refine ⟨h1, ?_⟩
          intro p hp
          rcases List.mem_cons.1 hp with rfl | hp
          · exact heldS_of hk (hs := [.inr (.inr (a, u, m, f, k, v))]) (by intro p hp; simp at hp; subst hp; exact ⟨x, ks, L, hx, hxk, c1, c3, h.1⟩) (.inr (.inr (a, u, m, f, k, v))) (by simp)
          · exact h2 p hp
        · exact h.bad.elim
      · exact h.bad.elim
    · exact h.bad.elim
  | .inr (.inl (a, j, k, z)) :: l, h => by
    simp only [heldK] at h
    split at h
    · rename_i x hx
      split at h
      · rename_i hkk
        have hkk := isN_eq hkk
        obtain ⟨h1, h2⟩ := heldK_ok hk h.2
        refine ⟨h1, ?_⟩
        intro p hp
        rcases List.mem_cons.1 hp with rfl | hp
        · exact heldS_of hk (hs := [.inr (.inl (a, j, k, z))]) (by intro p hp; simp at hp; subst hp; exact ⟨x, hx, hkk, h.1⟩) (.inr (.inl (a, j, k, z))) (by simp)
        · exact h2 p hp
      · exact h.bad.elim
    · exact h.bad.elim

theorem heldL_ok {σ : St} {l : Array Bool} {K : Prop} {w0 w : World} {e : Env} (hk : Ok w0 e σ w) : ∀ {hs : List (Held × List Nat)}, heldL σ l K hs → K ∧ heldSL e hs l w
  | [], h => ⟨h, by intro p hp; simp at hp⟩
  | p :: hs, h => by
    simp only [heldL] at h
    split at h
    · obtain ⟨h1, h2⟩ := heldK_ok hk h
      obtain ⟨h3, h4⟩ := heldL_ok hk h1
      refine ⟨h3, fun q hq hkq => ?_⟩
      rcases List.mem_cons.1 hq with rfl | hq
      · exact h2
      · exact h4 q hq hkq
    · rename_i hne
      obtain ⟨h3, h4⟩ := heldL_ok hk h
      refine ⟨h3, fun q hq hkq => ?_⟩
      rcases List.mem_cons.1 hq with rfl | hq
      · exact absurd (by simpa using hkq) (by simpa using hne)
      · exact h4 q hq hkq

section
variable {P : Program} {ov : List FuncId} {R : Orc} {opM : OpM} {m : Nat} {self : Self} {w0 w : World} {e : Env} {σ : St} {tm : List AV} {a : Act}

theorem operT_ok (hself : SelfOk P m self) (hov : ∀ g ∈ ov, isOverlaps P g = true) (hN : ∀ (f : FuncId) fn, P.funcs[f]? = some fn → (fn.name == "runtime.NumGoroutine") = false) (hM : OpMOk P opM) {ops : Array Oper} {i : Nat} {K' : List AV → St → Prop}
    (h : operT P ov R opM self ops i tm σ K') (hk : Ok w0 e σ w) (ht : Tm e tm a) {K : Act → World → Prop} {Q : Exit → Act → World → Prop}
    (hK : ∀ tm' σ' e' a' w', K' tm' σ' → e.le e' → Tm e' tm' a' → Ok w0 e' σ' w' → K a' w') : wpOp P ops Q i K a w := by
  rw [operT_eq] at h
  unfold operT0 at h
  unfold wpOp
  cases ho : ops[i]? with
  | none => rw [ho] at h; exact h.bad.elim
  | some o =>
    rw [ho] at h
    dsimp only at h ⊢
    cases hw : wantedA ops tm o with
    | none => rw [hw] at h; exact h.bad.elim
    | some b =>
      rw [hw] at h
      rw [wantedA_ok ht hw]
      cases b with
      | false =>
        dsimp only at h
        simp only [Bool.false_eq_true, if_false]
        exact hK _ _ e _ w h (Env.le.refl e) (ht.put o.dst (lit_av e undef)) hk
      | true =>
        simp only [if_true]
        left
        dsimp only at h
        cases hc : callA P tm o with
        | some p =>
          obtain ⟨f, args⟩ := p
          rw [hc] at h
          dsimp only at h
          obtain ⟨vs, g1, g2⟩ := callA_ok ht hN hc w
          unfold Oper.wp
          rw [g2]
          simp only [Oper.upon]
          have := hself _ _ _ _ h w0 e w hk vs g1
          refine this.mono ?_
          rintro en w' ⟨x, σ', e', v, rfl, k2, k3, k4, k5⟩
          exact hK _ _ e' _ w' k5 k2 ((ht.mono k2).put o.dst k3) k4
        | none =>
          rw [hc] at h
          dsimp only at h
          split at h
          · rename_i T hT
            have hT : opM tm o σ = some T := by
              split at hT
              · exact hT
              · cases hT
            obtain ⟨v, σ', e', u, w', k0, k1, k2, k3, k4⟩ := hM _ _ _ _ hT _ h w0 e w a hk ht
            have hK' := hK _ _ e' _ w' k0 k1 ((ht.mono k1).put o.dst k2) k3
            unfold Oper.wp
            rcases k4 with k4 | ⟨k4, rfl⟩
            · rw [k4]; exact hK'
            · rw [k4]; exact hK'
          split at h
          · rename_i res hres
            obtain ⟨r, hr, e', v, w', k1, k2, k3, k4⟩ := opA_ok hk ht hov hres
            have hK' := hK _ _ e' _ w' (allK_mem h r hr) k1 ((ht.mono k1).put o.dst k2) k3
            unfold Oper.wp
            rcases k4 with k4 | ⟨k4, rfl⟩
            · rw [k4]; exact hK'
            · rw [k4]; exact hK'
          · split at h
            · rename_i T hT
              obtain ⟨v, hs, h1, h2, u, h3, h4⟩ := takeQ_ok hk ht hT h
              have hK' := hK _ _ e _ w h1 (Env.le.refl e) (ht.put o.dst h3) hk
              unfold Oper.wp
              rw [h4 w (heldS_of hk h2)]; exact hK'
            · split at h
              · rename_i T hT
                obtain ⟨v, σ', e', u, w', k0, k1, k2, k3, k4⟩ := hM _ _ _ _ hT _ h w0 e w a hk ht
                have hK' := hK _ _ e' _ w' k0 k1 ((ht.mono k1).put o.dst k2) k3
                unfold Oper.wp
                rcases k4 with k4 | ⟨k4, rfl⟩
                · rw [k4]; exact hK'
                · rw [k4]; exact hK'
              · exact h.bad.elim

theorem takeT_ok (hk : Ok w0 e σ w) (ht : Tm e tm a) {ops : Array Oper} {listed : Array Bool} {K : AV → Held → Prop} : ∀ {rs : List Nat} {i : Nat} {T : QT}, takeT P ops listed tm σ rs = some (i, T) → T K →
    i ∈ rs ∧ Region.free .any ops listed i = true ∧ ∃ v hs o u, K v hs ∧ HeldIn σ hs ∧ ops[i]? = some o ∧ av e v = some u ∧ YieldsIf P ops (heldS e hs) o u a
  | [], i, T, h, _ => by simp [takeT] at h
  | j :: rs, i, T, h, hK => by
    simp only [takeT] at h
    have rest : takeT P ops listed tm σ rs = some (i, T) → i ∈ j :: rs ∧ Region.free .any ops listed i = true ∧ ∃ v hs o u, K v hs ∧ HeldIn σ hs ∧ ops[i]? = some o ∧ av e v = some u ∧ YieldsIf P ops (heldS e hs) o u a := fun h' => by
      obtain ⟨h1, h2⟩ := takeT_ok hk ht h' hK
      exact ⟨List.mem_cons_of_mem _ h1, h2⟩
    split at h
    · cases h
    · rename_i o ho
      split at h
      · rename_i hf
        split at h
        · rename_i hw
          simp only [Option.some.injEq, Prod.mk.injEq] at h; obtain ⟨rfl, rfl⟩ := h
          exact ⟨by simp, hf, lit undef, [], o, undef, hK, by intro p hp; simp at hp, ho, lit_av e _, .inr ⟨wantedA_ok ht hw, rfl⟩⟩
        · rename_i hw
          split at h
          · rename_i T' htk
            simp only [Option.some.injEq, Prod.mk.injEq] at h; obtain ⟨rfl, rfl⟩ := h
            obtain ⟨v, hs, h1, h2, u, h3, h4⟩ := takeQ_ok hk ht htk hK
            exact ⟨by simp, hf, v, hs, o, u, h1, h2, ho, h3, .inl ⟨wantedA_ok ht hw, h4⟩⟩
          · exact rest h
        · exact rest h
      · exact rest h

theorem fastT_ok (hk : Ok w0 e σ w) (ht : Tm e tm a) {ops : Array Oper} {listed : Array Bool} {K : AV → Held → Prop} {i : Nat} {T : QT} (h : fastT P ops listed tm σ = some (i, T)) (hK : T K) :
    i ∈ Region.ready .any ops listed ∧ Region.free .any ops listed i = true ∧ ∃ v hs o u, K v hs ∧ HeldIn σ hs ∧ ops[i]? = some o ∧ av e v = some u ∧ YieldsIf P ops (heldS e hs) o u a := by
  unfold fastT at h
  split at h
  · cases h
  · rename_i i' hi'
    obtain ⟨_, hun⟩ := firstUn_spec hi'
    rw [Nat.sub_zero, Array.getElem?_toList] at hun
    have hun : listed.getD i' true = false := by rw [Array.getD_eq_getD_getElem?, hun]; rfl
    split at h
    · cases h
    · rename_i o ho
      rw [Array.getElem?_toList] at ho
      split at h
      · rename_i hc
        simp only [Bool.and_eq_true] at hc
        have h1 := readyL_ready ho hun hc.1
        have h2 := freeL_free ho hc.2
        split at h
        · rename_i hw
          simp only [Option.some.injEq, Prod.mk.injEq] at h; obtain ⟨rfl, rfl⟩ := h
          exact ⟨h1, h2, lit undef, [], o, undef, hK, by intro p hp; simp at hp, ho, lit_av e _, .inr ⟨wantedA_ok ht hw, rfl⟩⟩
        · rename_i hw
          split at h
          · rename_i T' htk
            simp only [Option.some.injEq, Prod.mk.injEq] at h; obtain ⟨rfl, rfl⟩ := h
            obtain ⟨v, hs, g1, g2, u, g3, g4⟩ := takeQ_ok hk ht htk hK
            exact ⟨h1, h2, v, hs, o, u, g1, g2, ho, g3, .inl ⟨wantedA_ok ht hw, g4⟩⟩
          · cases h
        · cases h
      · cases h
theorem loadV_ok (hk : Ok w0 e σ w) {t : TypeId} {x v : AV} {vx : Value} (h : loadV P t x σ = some v) (hx : av e x = some vx) : ∃ ad u, vx = .pointer (some ad) ∧ av e v = some u ∧ (loadVar t ad).run P w = .ok u w := by
  unfold loadV at h
  split at h
  · rename_i b o n hp ha hz
    obtain ⟨hx', hpv⟩ := ptrOf_ok hp hx
    simp only [ptrV] at hpv
    split at hpv
    · rename_i q hq
      simp at hpv
      split at h
      · rename_i cs hl
        simp at h; subst h
        obtain ⟨vs, h1, h2, h3, h4⟩ := hk.load hl hq
        have hrun := run_loadCells_list (P := P) w ⟨q.1, q.2 + o, none⟩ vs (fun j u hj => by rw [Addr.add_lit]; exact h3 j u hj)
        rw [h2] at hrun
        exact ⟨_, _, hpv.symm, av_agg_mk h1, by simp [loadVar, run_isAggT ha, run_sizeT hz, hrun]⟩
      · cases h
    · cases hpv
  · rename_i b o n hp ha hz
    obtain ⟨hx', hpv⟩ := ptrOf_ok hp hx
    simp only [ptrV] at hpv
    split at hpv
    · rename_i q hq
      simp at hpv
      split at h
      · rename_i c hl
        simp at h; subst h
        obtain ⟨vs, h1, h2, h3, h4⟩ := hk.load hl hq
        obtain ⟨u, rfl⟩ : ∃ u, vs = [u] := by
          match vs, h2 with
          | [u], _ => exact ⟨u, rfl⟩
        simp at h1
        have := h3 0 u rfl
        simp at this
        exact ⟨_, u, hpv.symm, by simpa [av, v1, cell] using h1, by simp [loadVar, run_isAggT ha, this]⟩
      · cases h
    · cases hpv
  · cases h

theorem tupOf_ok {l : List AV} {x : AV} {us : List Value} (h : tupOf l = some x) (hl : l.map (av e) = us.map some) : av e x = some (if h : us.toArray.size = 1 then us.toArray[0] else .tuple us.toArray) := by
  unfold tupOf at h
  split at h
  · rename_i v
    simp at h; subst h
    obtain ⟨u, rfl⟩ : ∃ u, us = [u] := by
      match us, map_len hl with
      | [u], _ => exact ⟨u, rfl⟩
    simpa using hl
  · rename_i hne
    split at h
    · rename_i vs hvs
      simp at h; subst h
      have h1 := seqO_some.1 hvs
      have hlen : us.length ≠ 1 := by
        intro h1'
        match l, (map_len hl).trans h1' with
        | [v], _ => exact hne v rfl
      have h2 : vs.map (v1 e) = us.map some := by
        have : ∀ (l : List AV) (vs : List V1), l.map v1Of = vs.map some → l.map (av e) = vs.map (v1 e) := by
          intro l
          induction l with
          | nil => intro vs h; cases vs <;> simp at h ⊢
          | cons y l ih =>
            intro vs h
            cases vs with
            | nil => simp at h
            | cons v vs =>
              rw [List.map_cons, List.map_cons, List.cons.injEq] at h
              rw [List.map_cons, List.map_cons, ih vs h.2]
              cases y with
              | inl z => simp [v1Of] at h; rw [h.1]; rfl
              | inr z => simp [v1Of] at h
        rw [← hl, this l vs h1]
      rw [dif_neg (by simpa using hlen)]
      simp only [av, seqO_some.2 h2]
    · cases h

/-- One result of a frame. -/
def resF (tmps : Array Value) : ResultVar → Sem Value
  | .tmp t => pure (tmps.getD t undef)
  | .cell x t => do loadVar t (← asAddr (tmps.getD x undef))

theorem resA_ok (hk : Ok w0 e σ w) (ht : Tm e tm a) {fn : Func} {l : List AV} (h : resA P fn.results.toList tm σ = some l) {v : AV} (hv : tupOf l = some v) : ∃ u, av e v = some u ∧ (results fn a.tmps).run P w = .ok u w := by
  unfold resA at h
  have h1 := seqO_some.1 h
  have key : ∀ (rs : List ResultVar) (l : List AV), (rs.map fun
      | .tmp t => some (tm.getD t (ofA undef))
      | .cell a t => loadV P t (tm.getD a (ofA undef)) σ) = l.map some → ∃ us : List Value, l.map (av e) = us.map some ∧ (rs.mapM (resF a.tmps)).run P w = .ok us w := by
    intro rs
    induction rs with
    | nil => intro l h; cases l <;> simp at h; exact ⟨[], rfl, rfl⟩
    | cons r rs ih =>
      intro l h
      cases l with
      | nil => simp at h
      | cons y l =>
        rw [List.map_cons, List.map_cons, List.cons.injEq] at h
        obtain ⟨us, g1, g2⟩ := ih l h.2
        have hd := h.1
        cases r with
        | tmp t =>
          dsimp only at hd
          simp only [Option.some.injEq] at hd
          have := ht.get t
          rw [hd] at this
          refine ⟨a.tmps.getD t undef :: us, by rw [List.map_cons, List.map_cons, this, g1], ?_⟩
          simp only [List.mapM_cons, Sem.run_bind, Sem.run_pure, Result.andThen_ok, g2, resF]
        | cell x t =>
          dsimp only at hd
          obtain ⟨ad, u, k1, k2, k3⟩ := loadV_ok hk hd (ht.get x)
          refine ⟨u :: us, by rw [List.map_cons, List.map_cons, k2, g1], ?_⟩
          have hka : (asAddr (.pointer (some ad))).run P w = .ok ad w := rfl
          have hkr : (resF a.tmps (.cell x t)).run P w = .ok u w := by
            simp only [resF, Sem.run_bind, k1, hka, Result.andThen_ok, k3]
          simp only [List.mapM_cons, Sem.run_bind, Sem.run_pure, hkr, Result.andThen_ok, g2]
  obtain ⟨us, g1, g2⟩ := key _ _ h1
  refine ⟨_, tupOf_ok hv g1, ?_⟩
  have hres : results fn a.tmps = (fn.results.mapM (resF a.tmps) >>= fun vs => pure (if h : vs.size = 1 then vs[0] else .tuple vs)) := rfl
  rw [hres, Sem.run_bind, Array.mapM_eq_mapM_toList, Sem.run_map, g2]
  rfl
end
end Reck
