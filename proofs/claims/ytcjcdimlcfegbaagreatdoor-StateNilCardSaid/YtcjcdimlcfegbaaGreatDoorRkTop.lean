/- A reckoner of calls: the whole. What it says of a call, whatever its open numbers are, is true of the model's run, in whatever memory. No condition. -/
import Derived.Test.YtcjcdimlcfegbaaGreatDoorRkEnd
set_option linter.unusedVariables false
set_option linter.unusedSimpArgs false
namespace Reck
open Go Ost

section
variable {P : Program} {ov : List FuncId} {R : Orc} {opM : OpM} {m : Nat} {self : Self}

theorem post_mk {w0 w : World} {e : Env} {σ : St} {tm : List AV} {a : Act} {Q : Out → Prop} {ex : Exit} (hk : Ok w0 e σ w) (ht : Tm e tm a) (h : Q (ex, tm, σ)) : Post w0 e Q ex a w :=
  ⟨tm, σ, e, Env.le.refl e, ht, hk, h⟩

theorem stepT_ok (hself : SelfOk P m self) (hov : ∀ g ∈ ov, isOverlaps P g = true) (hN : ∀ (f : FuncId) fn, P.funcs[f]? = some fn → (fn.name == "runtime.NumGoroutine") = false) (hM : OpMOk P opM) (hC : ConOk P R) : SelfOk P (m + 1) (stepT P ov R opM self) := by
  intro t tm σ Q h w0 e w hk
  rcases t with c | c | ⟨ops, l⟩ | ⟨ops, listed, hs⟩ | f
  · intro a ht
    cases c with
    | skip => exact wp_skip (post_mk hk ht h)
    | label l => exact wp_label (post_mk hk ht h)
    | exit id => exact wp_exit (post_mk hk ht h)
    | ret => exact wp_ret (post_mk hk ht h)
    | goto l => exact h.bad.elim
    | scope c => exact h.bad.elim
    | refuse why => exact h.bad.elim
    | rangeFunc f ps as c => exact h.bad.elim
    | seq x y =>
      simp only [stepT] at h
      split at h
      · rename_i i hi
        obtain ⟨h, h2⟩ := h
        rw [avsK_eq] at h2
        refine wp_seq (wp_mono (hself _ _ _ _ h w0 e w hk a ht) fun ex a' w' hp => ?_)
        obtain ⟨tm', σ', e', g1, g2, g3, g4⟩ := hp
        cases ex with
        | normal =>
          obtain ⟨t, x, e2, n0, n1, n2, n3, n4⟩ := head_ok hk (show atHead i tm σ tm' σ' i.I from g4) g1 g3 g2
          exact wp_mono (hself _ _ _ _ (allK_mem h2 t n0 x n4) w0 e2 w' n3 a' n2) fun _ _ _ hq => hq.le n1
        | _ => exact Post.le g1 (post_mk g3 g2 g4)
      · refine wp_seq (wp_mono (hself _ _ _ _ h w0 e w hk a ht) fun ex a' w' hp => ?_)
        obtain ⟨tm', σ', e', g1, g2, g3, g4⟩ := hp
        cases ex with
        | normal => exact wp_mono (hself _ _ _ _ g4 w0 e' w' g3 a' g2) fun _ _ _ hq => hq.le g1
        | _ => exact Post.le g1 (post_mk g3 g2 g4)
    | cond c x y =>
      simp only [stepT] at h
      have hc := evalA_ok ht c
      split at h
      · rename_i heq
        rw [heq] at hc
        exact wp_cond_true (av_lit hc) (hself _ _ _ _ h w0 e w hk a ht)
      · rename_i heq
        rw [heq] at hc
        exact wp_cond_false (av_lit hc) (hself _ _ _ _ h w0 e w hk a ht)
      · exact h.bad.elim
    | block id c =>
      simp only [stepT] at h
      refine wp_block (wp_mono (hself _ _ _ _ h w0 e w hk a ht) fun ex a' w' hp => ?_)
      obtain ⟨tm', σ', e', g1, g2, g3, g4⟩ := hp
      cases ex with
      | exit id' =>
        simp only [Exit.inBlock]
        dsimp only at g4
        by_cases hid : id' = id
        · rw [if_pos hid]
          rw [if_pos (by simpa using hid)] at g4
          exact Post.le g1 (post_mk g3 g2 g4)
        · rw [if_neg hid]
          rw [if_neg (by simpa using hid)] at g4
          exact Post.le g1 (post_mk g3 g2 g4)
      | _ => exact Post.le g1 (post_mk g3 g2 g4)
    | loop c =>
      simp only [stepT] at h
      split at h
      · rename_i i hi
        obtain ⟨h1, h2⟩ := h
        rw [avsK_eq] at h2
        obtain ⟨t0, x0, e1, g0, g1, g2, g3, g4⟩ := head_ok hk h1 (Env.le.refl e) hk ht
        refine wp_loop_ghost (fun n a w => ∃ t x e', t ∈ i.tags ∧ i.m t x = n ∧ e.le e' ∧ Tm e' (headOf i tm σ t x).1 a ∧ Ok w0 e' (headOf i tm σ t x).2 w ∧ i.I t x) (i.m t0 x0) ⟨t0, x0, e1, g0, rfl, g1, g2, g3, g4⟩ ?_
        rintro n a1 w1 ⟨t, x, e2, k0, rfl, k1, k2, k3, k4⟩
        refine wp_mono (hself _ _ _ _ (allK_mem h2 t k0 x k4) w0 e2 w1 k3 a1 k2) fun ex a' w' hp => ?_
        obtain ⟨tm', σ', e', l1, l2, l3, l4⟩ := hp
        cases ex with
        | normal =>
          obtain ⟨t', x', e3, n0, n1, n2, n3, n4, n5⟩ := head_ok hk (show atHead i tm σ tm' σ' (fun t' x' => i.I t' x' ∧ i.m t' x' < i.m t x) from l4) (k1.trans l1) l3 l2
          exact ⟨i.m t' x', n5, t', x', e3, n0, rfl, n1, n2, n3, n4⟩
        | _ => exact Post.le (k1.trans l1) (post_mk l3 l2 l4)
      · exact wp_loop_rounds m (hself _ _ _ _ h w0 e w hk a ht)
    | region id ops draw =>
      cases draw with
      | false =>
        simp only [stepT] at h
        exact wp_region (hself _ _ _ _ h w0 e w hk a ht)
      | true =>
        simp only [stepT] at h
        split at h
        · rename_i hc
          simp only [Bool.and_eq_true] at hc
          refine wp_region_noPanic (wp_region_L (S := heldSL e []) hc.1 ?_)
          exact hself _ _ _ _ h w0 e _ (hk.world (Only.refl (fun _ => False) w).drew) hc.2 (closed_start _) (by intro p hp; simp at hp) a ht ops.size (by unfold left; exact Nat.le_trans (List.length_filter_le _ _) (by simp))
        · exact h.bad.elim
  · intro a ht
    simp only [stepT] at h
    refine wp_mono (hself _ _ _ _ h w0 e w hk a ht) fun ex a' w' hp => ?_
    obtain ⟨tm', σ', e', g1, g2, g3, g4⟩ := hp
    cases ex with
    | normal => exact rounds_mono (fun _ _ _ hq => hq.le g1) m _ _ (hself _ _ _ _ g4 w0 e' w' g3 a' g2)
    | _ => exact Post.le g1 (post_mk g3 g2 g4)
  · intro a ht
    cases l with
    | nil => exact post_mk hk ht h
    | cons i l =>
      simp only [stepT] at h
      rw [wpOps_cons]
      refine operT_ok hself hov hN hM h hk ht fun tm' σ' e' a' w' g0 g1 g2 g3 => ?_
      have := hself _ _ _ _ g0 w0 e' w' g3 a' g2
      exact wpOps_mono' (fun _ _ _ hq => Post.le g1 hq) this
  · intro hsel hcl hin a ht fuel hfuel
    simp only [stepT] at h
    have hready : ∀ i ∈ Region.ready .any ops listed, i < ops.size ∧ listed.getD i true = false := by
      intro i hi
      obtain ⟨h1, o, h2, _⟩ := mem_ready.1 hi
      exact ⟨(Array.getElem?_eq_some_iff.1 h2).1, h1⟩
    have step : ∀ i ∈ Region.ready .any ops listed, ∃ f, fuel = f + 1 ∧ left ops (listed.setIfInBounds i true) ≤ f := by
      intro i hi
      have := left_set (hready i hi).1 (hready i hi).2
      exact ⟨fuel - 1, by omega, by omega⟩
    have nop : ∀ {e1 e2 : Env}, e1.le e2 → ∀ ex a w, NoPanic (Post w0 e2 Q) ex a w → NoPanic (Post w0 e1 Q) ex a w := by
      intro e1 e2 hl ex a w hp
      cases ex <;> first | exact (hp : False).elim | exact Post.le hl hp
    have nolet : ∀ {e1 e2 : Env}, e1.le e2 → LetsOut (NoPanic (Post w0 e2 Q)) → LetsOut (NoPanic (Post w0 e1 Q)) := by
      rintro e1 e2 hl ⟨a, w, hp⟩
      exact ⟨a, w, Post.le hl hp⟩
    have main : ∀ (i : Nat) (T : QT), (∀ K : AV → Held → Prop, T K → i ∈ Region.ready .any ops listed ∧ Region.free .any ops listed i = true ∧ ∃ v hs o u, K v hs ∧ HeldIn σ hs ∧ ops[i]? = some o ∧ av e v = some u ∧ YieldsIf P ops (heldS e hs) o u a) →
        (if hs.any (fun p => (place p.2 i).isSome) then Err [156] else T fun v h => putK tm ((ops[i]?).bind (·.dst)) v fun tm' => lsK (listed.setIfInBounds i true) fun ls => self (.inr (.inr (.inr (.inl (ops, ls, addH ops i h hs))))) tm' σ Q) →
        wpAnyL P .any ops (NoPanic (Post w0 e Q)) (heldSL e hs) fuel listed a w := by
      intro i T htk h
      split at h
      · exact h.bad.elim
      · rename_i hni
        have hni : ∀ p ∈ hs, i ∉ p.2 := by
          intro p hp hmem
          refine hni (List.any_eq_true.2 ⟨p, hp, ?_⟩)
          cases hpl : place p.2 i with
          | some q => rfl
          | none => exact absurd hmem (place_none hpl)
        obtain ⟨g1, g2, v, hh, o, u, g0, g3, g4, g5, g6⟩ := htk _ h
        obtain ⟨f, rfl, hf⟩ := step i g1
        have ho : (ops[i]?).bind (·.dst) = o.dst := by rw [g4]; rfl
        rw [putK_eq, lsK_eq] at g0
        rw [ho] at g0
        have hcl' := closed_set hcl g1
        have hsame : ∀ (exp : List Nat), i ∉ exp → ∀ l : Array Bool, (∀ k ∈ exp, (l.setIfInBounds i true).getD k false = false) ↔ ∀ k ∈ exp, l.getD k false = false := by
          intro exp hexp l
          constructor
          · intro h k hk
            have := h k hk
            rwa [getD_set_ne false (fun (he : i = k) => hexp (he ▸ hk))] at this
          · intro h k hk
            rw [getD_set_ne false (fun (he : i = k) => hexp (he ▸ hk))]; exact h k hk
        have hexpi : i ∉ expOf ops i := by
          intro hmem
          exact (expOf_spec hmem).1 rfl
        have hadd : ∀ p ∈ addH ops i hh hs, i ∉ p.2 := by
          intro p hp
          unfold addH at hp
          split at hp
          · exact hni p hp
          · rcases List.mem_cons.1 hp with rfl | hp
            · exact hexpi
            · exact hni p hp
        have hsub : ∀ p ∈ hs, p ∈ addH ops i hh hs := by
          intro p hp
          unfold addH
          split
          · exact hp
          · exact List.mem_cons_of_mem _ hp
        have hin2 : heldSL e (addH ops i hh hs) (listed.setIfInBounds i true) w := by
          intro p hp hkp
          unfold addH at hp
          split at hp
          · exact hin p hp ((hsame p.2 (hni p hp) listed).1 hkp)
          · rcases List.mem_cons.1 hp with rfl | hp
            · exact heldS_of hk g3
            · exact hin p hp ((hsame p.2 (hni p hp) listed).1 hkp)
        have hrec := hself _ _ _ _ g0 w0 e w hk hsel hcl' hin2 (a.put o.dst u) (ht.put o.dst g5) f hf
        refine anyL_swap (S2 := heldSL e (addH ops i hh hs)) (fun l w' hw' p hp => hw' p (hsub p hp)) _ _ _ _ ?_
        refine wpAnyL_take (F := heldS e hh) (exp := expOf ops i) (n := ops.size) g4 hsel g2 g1 hcl (fun _ _ _ hp => hp) (fun k hk => ?_) (fun l w' hl hS => ?_) (fun l w' hS p hp hkp => hS p hp ((hsame p.2 (hadd p hp) l).2 hkp)) g6 hin2 hrec
        · exact (expOf_spec hk).2
        · cases hh with
          | nil => intro p hp; simp at hp
          | cons x xs => exact hS (x :: xs, expOf ops i) (List.mem_cons_self ..) hl
    split at h
    · rename_i i T htk
      exact main i T (fun K hK => fastT_ok hk ht htk hK) h
    · split at h
      · rename_i hr
        exact wpAnyL_done hr (NoPanic.normal (post_mk hk ht h)) fuel
      · rename_i hr
        split at h
        · rename_i i T htk
          exact main i T (fun K hK => takeT_ok hk ht htk hK) h
        · have hne : Region.ready .any ops listed ≠ [] := hr
          obtain ⟨i0, hi0⟩ := List.exists_mem_of_ne_nil _ hne
          obtain ⟨f, rfl, _⟩ := step i0 hi0
          refine wpAnyL_all rfl hne fun i hi => ?_
          obtain ⟨f', hff, hf'⟩ := step i hi
          obtain rfl : f = f' := by omega
          refine operT_ok hself hov hN hM (allK_mem h i hi) hk ht fun tm' σ' e' a' w' g0 g1 g2 g3 => ?_
          obtain ⟨z1, hS⟩ := heldL_ok g3 g0
          rw [lsK_eq] at z1
          have hrec := hself _ _ _ _ z1 w0 e' w' g3 hsel (closed_set hcl hi) hS a' g2 f hf'
          exact ⟨heldSL_le g1 hS, anyL_swap (fun _ _ hw => heldSL_le g1 hw) _ _ _ _ (anyL_mono (nop g1) (nolet g1) _ _ _ _ hrec)⟩
  · intro vs hvs
    simp only [stepT] at h
    split at h
    · rename_i C hCf
      exact (hC _ _ _ _ hCf _ h w0 e w hk vs hvs)
    · split at h
      · exact h.bad.elim
      · rename_i fn hfn
        split at h
        · exact h.bad.elim
        · rename_i c hc
          have hlen : tm.length = vs.toArray.size := by simpa using map_len hvs
          refine calls_of_wp hfn hc ?_
          have ht := Tm.args hvs (fn.ntmps - tm.length)
          rw [hlen] at ht h
          refine wp_mono (hself _ _ _ _ h w0 e w hk _ ht) fun ex a' w' hp => ?_
          obtain ⟨tm', σ', e', g1, g2, g3, g4⟩ := hp
          unfold endA' at g4
          split at g4
          · rename_i l hl
            have fin : ∀ l', resA P fn.results.toList tm' σ' = some l' → ∀ v, tupOf l' = some v → one v σ' = .ok l → a'.defers = [] ∧ ∃ v, (results fn a'.tmps).run P w' = .ok v w' ∧ ∃ x σ'' e'' u, Ending.returned v = .returned u ∧ e.le e'' ∧ av e'' x = some u ∧ Ok w0 e'' σ'' w' ∧ Q (.ret, [x], σ'') := by
              intro l' hl' v hv hone
              obtain ⟨u, k1, k2⟩ := resA_ok g3 g2 hl' hv
              simp only [one, Except.ok.injEq] at hone; subst hone
              exact ⟨g2.2, u, k2, v, σ', e', u, rfl, g1, k1, g3, g4⟩
            cases ex with
            | normal =>
              simp only [endA] at hl
              split at hl
              · rename_i l' hl'
                split at hl
                · rename_i v hv
                  exact fin l' hl' v hv hl
                · cases hl
              · cases hl
            | ret =>
              simp only [endA] at hl
              split at hl
              · rename_i l' hl'
                split at hl
                · rename_i v hv
                  exact fin l' hl' v hv hl
                · cases hl
              · cases hl
            | _ => simp [endA] at hl
          · exact g4.bad.elim

theorem goT_ok (hov : ∀ g ∈ ov, isOverlaps P g = true) (hN : ∀ (f : FuncId) fn, P.funcs[f]? = some fn → (fn.name == "runtime.NumGoroutine") = false) (hM : OpMOk P opM) (hC : ConOk P R) : ∀ n, SelfOk P n (goT P ov R opM n)
  | 0 => by intro t tm σ Q h; rw [goT_zero] at h; exact h.bad.elim
  | n + 1 => by rw [goT_succ]; exact stepT_ok (goT_ok hov hN hM hC n) hov hN hM hC

/-- No function of the program bears that name. -/
def namesOk (P : Program) : Bool := P.funcs.toList.all fun fn => !(fn.name == "runtime.NumGoroutine")
theorem names_of (h : namesOk P = true) : ∀ (f : FuncId) fn, P.funcs[f]? = some fn → (fn.name == "runtime.NumGoroutine") = false := by
  intro f fn hf
  have := List.all_eq_true.1 h fn (by simpa using Array.mem_of_getElem? hf)
  simpa using this
theorem ovs_of {ov : List FuncId} (h : ov.all (isOverlaps P) = true) : ∀ g ∈ ov, isOverlaps P g = true := fun g hg => List.all_eq_true.1 h g hg

/-- It answers true. -/
def isTrue (out : Out) : Prop :=
  match out with
  | (.ret, [.inl (.inl (.inl (.bool true)))], _) => True
  | _ => Err [200]
theorem true_ok (hov : ∀ g ∈ ov, isOverlaps P g = true) (hN : ∀ (f : FuncId) fn, P.funcs[f]? = some fn → (fn.name == "runtime.NumGoroutine") = false) (hM : OpMOk P opM) (hC : ConOk P R) {n f : Nat} {args : List AV} {σ : St} (h : goT P ov R opM n (.inr (.inr (.inr (.inr f)))) args σ isTrue)
    {w0 w : World} {e : Env} (hk : Ok w0 e σ w) {vs : List Value} (hvs : args.map (av e) = vs.map some) : Calls P f vs.toArray w fun en w' => en = .returned (.bool true) ∧ Only e.S w0 w' := by
  refine (goT_ok hov hN hM hC n _ _ _ _ h w0 e w hk vs hvs).mono ?_
  rintro en w' ⟨x, σ', e', v, rfl, k2, k3, k4, k5⟩
  refine ⟨?_, k2.S ▸ k4.only⟩
  unfold isTrue at k5
  split at k5
  · rename_i heq
    simp at heq
    obtain ⟨rfl, rfl⟩ := heq
    obtain rfl := av_lit k3
    rfl
  · exact k5.bad.elim

def emptyE : Env := ⟨[], [], [], [], fun _ => False, [], fun _ => True⟩
theorem ok_empty (w : World) : Ok w emptyE emptySt w :=
  ⟨Only.refl _ w, rfl, rfl, rfl, by intro i b n h; simp [emptySt] at h, by simp [emptyE], by intro b x q h; simp [emptySt] at h, by intro b b' x x' q q' _ h; simp [emptySt] at h, ⟨rfl, by intro a x q h; simp [emptySt] at h, by intro a x q b y q' h; simp [emptySt] at h, by intro a a' x x' q q' _ h; simp [emptySt] at h⟩, rfl, by intro a x h; simp [emptySt] at h⟩
theorem con_none : ConOk P noOrc := by intro f tm σ C h; simp [noOrc] at h
end
end Reck
