/- A reckoner of calls: the whole. What it finds to be true of a call, whatever its open numbers are, is true of the model's run, in whatever memory. No condition. -/
import Derived.Test.YthfgkojombhppaaRkEnd
set_option linter.unusedVariables false
set_option linter.unusedSimpArgs false
namespace Reck
open Go Ost

section
variable {P : Program} {ov : List FuncId} {m : Nat} {self : Self}

theorem post_mk {w0 w : World} {e : Env} {σ : St} {tm : List AV} {a : Act} {outs : List Out} {ex : Exit} (hk : Ok w0 e σ w) (ht : Tm e tm a) (h : (ex, tm, σ) ∈ outs) : Post w0 e outs ex a w :=
  ⟨_, h, rfl, e, Env.le.refl e, ht, hk⟩

/-- Behind code that ends in outs, each ending is led on by f. -/
theorem post_then {β : Type} {w0 : World} {e : Env} {outs : List Out} {outs' : List β} {f : Out → Rs (List β)} (h : atAll f outs = .ok outs') {ex : Exit} {a : Act} {w : World} (hp : Post w0 e outs ex a w) :
    ∃ tm σ e' l, e.le e' ∧ Tm e' tm a ∧ Ok w0 e' σ w ∧ f (ex, tm, σ) = .ok l ∧ ∀ o ∈ l, o ∈ outs' := by
  obtain ⟨⟨ex', tm, σ⟩, h1, h2, e', h3, h4, h5⟩ := hp
  dsimp only at h2 h4 h5
  subst h2
  obtain ⟨y, g1, g2⟩ := atAll_ok h _ h1
  exact ⟨tm, σ, e', y, h3, h4, h5, g1, g2⟩

theorem stepT_ok (hself : SelfOk P m self) (hov : ∀ g ∈ ov, isOverlaps P g = true) (hN : ∀ (f : FuncId) fn, P.funcs[f]? = some fn → (fn.name == "runtime.NumGoroutine") = false) : SelfOk P (m + 1) (stepT P ov self) := by
  intro t tm σ outs h w0 e w hk
  rcases t with c | c | ⟨ops, l⟩ | ⟨ops, listed, hs⟩ | f
  · intro a ht
    cases c with
    | skip => simp [stepT] at h; subst h; exact wp_skip (post_mk hk ht (by simp))
    | label l => simp [stepT] at h; subst h; exact wp_label (post_mk hk ht (by simp))
    | exit id => simp [stepT] at h; subst h; exact wp_exit (post_mk hk ht (by simp))
    | ret => simp [stepT] at h; subst h; exact wp_ret (post_mk hk ht (by simp))
    | goto l => simp [stepT] at h
    | scope c => simp [stepT] at h
    | refuse why => simp [stepT] at h
    | rangeFunc f ps as c => simp [stepT] at h
    | seq x y =>
      simp only [stepT] at h
      obtain ⟨l, h1, h2⟩ := thn_ok h
      refine wp_seq (wp_mono (hself _ _ _ _ h1 w0 e w hk a ht) fun ex a' w' hp => ?_)
      obtain ⟨tm', σ', e', l', g1, g2, g3, g4, g5⟩ := post_then h2 hp
      cases ex with
      | normal => exact wp_mono (hself _ _ _ _ g4 w0 e' w' g3 a' g2) fun _ _ _ hq => hq.sub g1 g5
      | _ =>
        simp only [Except.ok.injEq] at g4; subst g4
        exact Post.sub g1 g5 (post_mk g3 g2 (List.mem_singleton_self _))
    | cond c x y =>
      simp only [stepT] at h
      have hc := evalA_ok ht c
      split at h
      · rename_i heq
        rw [heq] at hc
        exact wp_cond_true (av_lit hc) (hself _ _ _ _ h w0 e w hk a ht)
      · rename_i heq
        rw [heq] at hc
        exact wp_cond_false (av_lit hc) (hself _ _ _ _ h w0 e w hk a ht)
      · cases h
    | block id c =>
      simp only [stepT] at h
      obtain ⟨l, h1, h2⟩ := thn_ok h
      simp only [Except.ok.injEq] at h2; subst h2
      refine wp_block (wp_mono (hself _ _ _ _ h1 w0 e w hk a ht) fun ex a' w' hp => ?_)
      obtain ⟨⟨ex', tm', σ'⟩, g1, g2, e', g3, g4, g5⟩ := hp
      dsimp only at g2 g4 g5
      subst g2
      cases ex' with
      | exit id' =>
        simp only [Exit.inBlock]
        by_cases hid : id' = id
        · rw [if_pos hid]
          exact ⟨(.normal, tm', σ'), List.mem_map.2 ⟨_, g1, by simp [hid]⟩, rfl, e', g3, g4, g5⟩
        · rw [if_neg hid]
          exact ⟨(.exit id', tm', σ'), List.mem_map.2 ⟨_, g1, by simp [hid]⟩, rfl, e', g3, g4, g5⟩
      | _ => exact ⟨_, List.mem_map.2 ⟨_, g1, rfl⟩, rfl, e', g3, g4, g5⟩
    | loop c =>
      simp only [stepT] at h
      exact wp_loop_rounds m (hself _ _ _ _ h w0 e w hk a ht)
    | region id ops draw =>
      cases draw with
      | false =>
        simp only [stepT] at h
        exact wp_region (hself _ _ _ _ h w0 e w hk a ht)
      | true =>
        simp only [stepT] at h
        split at h
        · rename_i hc
          simp only [Bool.and_eq_true] at hc
          refine wp_region_noPanic (wp_region_held (S := heldS e []) hc.1 ?_)
          exact hself _ _ _ _ h w0 e _ (hk.world (Only.refl (fun _ => False) w).drew) hc.2 (by intro p hp; simp at hp) a ht ops.size (by unfold left; exact Nat.le_trans (List.length_filter_le _ _) (by simp))
        · cases h
  · intro a ht
    simp only [stepT] at h
    obtain ⟨l, h1, h2⟩ := thn_ok h
    refine wp_mono (hself _ _ _ _ h1 w0 e w hk a ht) fun ex a' w' hp => ?_
    obtain ⟨tm', σ', e', l', g1, g2, g3, g4, g5⟩ := post_then h2 hp
    cases ex with
    | normal => exact rounds_mono (fun _ _ _ hq => hq.sub g1 g5) m _ _ (hself _ _ _ _ g4 w0 e' w' g3 a' g2)
    | _ =>
      simp only [Except.ok.injEq] at g4; subst g4
      exact Post.sub g1 g5 (post_mk g3 g2 (List.mem_singleton_self _))
  · intro a ht
    cases l with
    | nil => simp [stepT] at h; subst h; exact post_mk hk ht (by simp)
    | cons i l =>
      simp only [stepT] at h
      obtain ⟨rs, h1, h2⟩ := thn_ok h
      rw [wpOps_cons]
      refine operT_ok hself hov hN h1 hk ht fun r hr e' a' w' g1 g2 g3 => ?_
      obtain ⟨y, k1, k2⟩ := atAll_ok h2 r hr
      have := hself _ _ _ _ k1 w0 e' w' g3 a' g2
      exact wpOps_mono' (fun _ _ _ hq => Post.sub g1 k2 hq) this
  · intro hsel hin a ht fuel hfuel
    simp only [stepT] at h
    split at h
    · rename_i hr
      simp only [Except.ok.injEq] at h; subst h
      exact wpAnyH_done hr (NoPanic.normal (post_mk hk ht (List.mem_singleton_self _))) fuel
    · rename_i hr
      have hready : ∀ i ∈ Region.ready .any ops listed, i < ops.size ∧ listed.getD i true = false := by
        intro i hi
        obtain ⟨h1, o, h2, _⟩ := mem_ready.1 hi
        exact ⟨(Array.getElem?_eq_some_iff.1 h2).1, h1⟩
      have step : ∀ i ∈ Region.ready .any ops listed, ∃ f, fuel = f + 1 ∧ left ops (listed.setIfInBounds i true) ≤ f := by
        intro i hi
        have := left_set (hready i hi).1 (hready i hi).2
        exact ⟨fuel - 1, by omega, by omega⟩
      have nop : ∀ {e1 e2 : Env} {l l' : List Out}, e1.le e2 → (∀ o ∈ l, o ∈ l') → ∀ ex a w, NoPanic (Post w0 e2 l) ex a w → NoPanic (Post w0 e1 l') ex a w := by
        intro e1 e2 l l' hl hs ex a w hp
        cases ex <;> first | exact (hp : False).elim | exact Post.sub hl hs hp
      have nolet : ∀ {e1 e2 : Env} {l l' : List Out}, e1.le e2 → (∀ o ∈ l, o ∈ l') → LetsOut (NoPanic (Post w0 e2 l)) → LetsOut (NoPanic (Post w0 e1 l')) := by
        rintro e1 e2 l l' hl hs ⟨a, w, hp⟩
        exact ⟨a, w, Post.sub hl hs hp⟩
      split at h
      · rename_i i v hh htk
        obtain ⟨g1, g2, g3, o, u, g4, g5, g6⟩ := takeT_ok hk ht htk
        obtain ⟨f, rfl, hf⟩ := step i g1
        have hin2 : HeldIn σ (hh ++ hs) := by
          intro p hp
          rcases List.mem_append.1 hp with hp | hp
          · exact g3 p hp
          · exact hin p hp
        have ho : (ops[i]?).bind (·.dst) = o.dst := by rw [g4]; rfl
        rw [ho] at h
        have hrec := hself _ _ _ _ h w0 e w hk hsel hin2 (a.put o.dst u) (ht.put o.dst g5) f hf
        refine anyH_swap (S2 := heldS e (hh ++ hs)) (fun w' hw' p hp => hw' p (List.mem_append_right _ hp)) _ _ _ _ ?_
        refine wpAnyH_take g4 hsel g2 (by simpa using g1) (fun _ _ _ hp => hp) ?_ (heldS_of hk hin2) hrec
        rcases g6 with ⟨k1, k2⟩ | ⟨k1, k2⟩
        · exact .inl ⟨k1, fun w' hw' => k2 w' (fun p hp => hw' p (List.mem_append_left _ hp))⟩
        · exact .inr ⟨k1, k2⟩
      · have hne : Region.ready .any ops listed ≠ [] := hr
        obtain ⟨i0, hi0⟩ := List.exists_mem_of_ne_nil _ hne
        obtain ⟨f, rfl, _⟩ := step i0 hi0
        refine wpAnyH_all rfl hne fun i hi => ?_
        obtain ⟨f', hff, hf'⟩ := step i hi
        obtain rfl : f = f' := by omega
        obtain ⟨y, k1, k2⟩ := atAll_ok h i hi
        obtain ⟨ss, h1, h2⟩ := thn_ok k1
        refine operT_ok hself hov hN h1 hk ht fun r hr' e' a' w' g1 g2 g3 => ?_
        obtain ⟨z, z1, z2⟩ := atAll_ok h2 r hr'
        split at z1
        · rename_i hheld
          have hin' := heldOk_in hheld
          have hrec := hself _ _ _ _ z1 w0 e' w' g3 hsel hin' a' g2 f hf'
          have hS : heldS e' hs w' := heldS_of g3 hin'
          exact ⟨heldS_le g1 hS, anyH_swap (fun _ hw => heldS_le g1 hw) _ _ _ _ (anyH_mono (nop g1 (fun o ho => k2 o (z2 o ho))) (nolet g1 (fun o ho => k2 o (z2 o ho))) _ _ _ _ hrec)⟩
        · cases z1
  · intro vs hvs
    simp only [stepT] at h
    split at h
    · cases h
    · rename_i fn hfn
      split at h
      · cases h
      · rename_i c hc
        split at h
        · rename_i outs' ho
          split at h
          · rename_i rs hrs
            simp only [Except.ok.injEq] at h; subst h
            have hlen : tm.length = vs.toArray.size := by simpa using map_len hvs
            refine calls_of_wp hfn hc ?_
            have ht := Tm.args hvs (fn.ntmps - tm.length)
            rw [hlen] at ht ho
            refine wp_mono (hself _ _ _ _ ho w0 e w hk _ ht) fun ex a' w' hp => ?_
            obtain ⟨tm', σ', e', l, g1, g2, g3, g4, g5⟩ := post_then (f := endA P fn) (outs' := rs) hrs hp
            have fin : ∀ (r : Res), r = .ok l → (∀ l', resA P fn.results.toList tm' σ' = some l' → ∀ v, tupOf l' = some v → one v σ' = .ok l → a'.defers = [] ∧ ∃ v, (results fn a'.tmps).run P w' = .ok v w' ∧ ∃ x σ'', (Exit.ret, [x], σ'') ∈ (rs.map fun r => (Exit.ret, [r.1], r.2)) ∧ ∃ e'' u, Ending.returned v = .returned u ∧ e.le e'' ∧ av e'' x = some u ∧ Ok w0 e'' σ'' w') := by
              intro r _ l' hl' v hv hone
              obtain ⟨u, k1, k2⟩ := resA_ok g3 g2 hl' hv
              simp only [one, Except.ok.injEq] at hone; subst hone
              exact ⟨g2.2, u, k2, v, σ', List.mem_map.2 ⟨(v, σ'), g5 _ (List.mem_singleton_self _), rfl⟩, e', u, rfl, g1, k1, g3⟩
            cases ex with
            | normal =>
              simp only [endA] at g4
              split at g4
              · rename_i l' hl'
                split at g4
                · rename_i v hv
                  exact fin _ g4 l' hl' v hv g4
                · cases g4
              · cases g4
            | ret =>
              simp only [endA] at g4
              split at g4
              · rename_i l' hl'
                split at g4
                · rename_i v hv
                  exact fin _ g4 l' hl' v hv g4
                · cases g4
              · cases g4
            | _ => simp [endA] at g4
          · cases h
        · cases h

theorem goT_ok (hov : ∀ g ∈ ov, isOverlaps P g = true) (hN : ∀ (f : FuncId) fn, P.funcs[f]? = some fn → (fn.name == "runtime.NumGoroutine") = false) : ∀ n, SelfOk P n (goT P ov n)
  | 0 => by intro t tm σ outs h; simp [goT] at h
  | n + 1 => stepT_ok (goT_ok hov hN n) hov hN

theorem true_ok (hov : ∀ g ∈ ov, isOverlaps P g = true) (hN : ∀ (f : FuncId) fn, P.funcs[f]? = some fn → (fn.name == "runtime.NumGoroutine") = false) {n f : Nat} {args : List AV} {σ : St} (h : trueT P ov n f args σ = .ok true)
    {w0 w : World} {e : Env} (hk : Ok w0 e σ w) {vs : List Value} (hvs : args.map (av e) = vs.map some) : Calls P f vs.toArray w fun en w' => en = .returned (.bool true) ∧ Only (fun _ => False) w0 w' := by
  unfold trueT at h
  obtain ⟨outs, h1, h2⟩ := thn_ok h
  simp only [Except.ok.injEq] at h2
  refine (goT_ok hov hN n _ _ _ _ h1 w0 e w hk vs hvs).mono ?_
  rintro en w' ⟨x, σ', k1, e', v, rfl, k2, k3, k4⟩
  have := List.all_eq_true.1 h2 _ k1
  refine ⟨?_, k4.only⟩
  split at this
  · rename_i heq
    simp at heq
    obtain ⟨rfl, rfl⟩ := heq
    obtain rfl := av_lit k3
    rfl
  · cases this

/-- No function of the program bears that name. -/
def namesOk (P : Program) : Bool := P.funcs.toList.all fun fn => !(fn.name == "runtime.NumGoroutine")
theorem names_of (h : namesOk P = true) : ∀ (f : FuncId) fn, P.funcs[f]? = some fn → (fn.name == "runtime.NumGoroutine") = false := by
  intro f fn hf
  have := List.all_eq_true.1 h fn (by simpa using Array.mem_of_getElem? hf)
  simpa using this
theorem ovs_of {ov : List FuncId} (h : ov.all (isOverlaps P) = true) : ∀ g ∈ ov, isOverlaps P g = true := fun g hg => List.all_eq_true.1 h g hg

theorem ok_empty (w : World) : Ok w ⟨[], [], []⟩ emptySt w :=
  ⟨Only.refl _ w, rfl, rfl, rfl, by intro i b n h; simp [emptySt] at h, by simp, by intro b x q h; simp [emptySt] at h, by intro b b' x x' q q' _ h; simp [emptySt] at h⟩
/-- A call without arguments that is found to be true. -/
theorem true0 {n f : Nat} (hN : namesOk P = true) (hov : ov.all (isOverlaps P) = true) (h : trueT P ov n f [] emptySt = .ok true) (w : World) : Calls P f #[] w fun en w' => en = .returned (.bool true) ∧ Only (fun _ => False) w w' :=
  true_ok (ovs_of hov) (names_of hN) h (ok_empty w) (vs := []) rfl
end
end Reck
