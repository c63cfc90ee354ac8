/- Parts of a proof, one behind the other: JC4 JC5 JC6. No condition. -/
import Derived.Test.YtgopjjimafcgjaaGF
section
set_option linter.unusedVariables false
set_option linter.unusedSimpArgs false
set_option maxRecDepth 10000
namespace Go.Proofs.Ytgopjjimafcgjaa
open Go Reck Ost
/-- What Check tells. -/
structure U.jCk (P : JBP) (s0 s1 m ip : Int) (v : JBv) (e : Int) : Prop where
  out : (∃ k w, (k, w) ∈ P ∧ (w.v2 = s0 ∧ w.v3 = s1) ∧ ((¬ (w.v0 = m ∧ w.v1 = ip) ∧ v = ⟨0, 0, 0, 0, [], [], 0⟩ ∧ e = 40) ∨ ((w.v0 = m ∧ w.v1 = ip) ∧ v = w ∧ ((w.v5 = [] ∧ e = 41) ∨ (¬ w.v5 = [] ∧ e = 0))))) ∨ ((∀ p ∈ P, ¬ (p.2.v2 = s0 ∧ p.2.v3 = s1)) ∧ v = ⟨0, 0, 0, 0, [], [], 0⟩ ∧ e = 2)
abbrev ckA (v0 v1 v2 v3 : Int) (v4 v5 : List Int) (v6 e : Int) : AV := .inr [.inr (jbC v0 v1 v2 v3 v4 v5 v6), .inl (xintC .i64 e)]
theorem jck_fun {P : JBP} (hI : U.jI P) (hs : U.jbSrt P) {s0 s1 m ip : Int} {v v' : JBv} {e e' : Int} (h : U.jCk P s0 s1 m ip v e) (h' : U.jCk P s0 s1 m ip v' e') : v = v' ∧ e = e' := by
  rcases h.out with ⟨k, w, hm, hp, h⟩ | ⟨hno, h1, h2⟩ <;> rcases h'.out with ⟨k', w', hm', hp', h'⟩ | ⟨hno', h1', h2'⟩
  · have hk := hI.pl _ _ _ _ hm hm' (hp.1.trans hp'.1.symm) (hp.2.trans hp'.2.symm)
    subst hk
    obtain rfl := jbone hs hm hm'
    rcases h with ⟨a, b, c⟩ | ⟨a, b, c⟩ <;> rcases h' with ⟨a', b', c'⟩ | ⟨a', b', c'⟩
    · exact ⟨b.trans b'.symm, c.trans c'.symm⟩
    · exact (a a').elim
    · exact (a' a).elim
    · refine ⟨b.trans b'.symm, ?_⟩
      rcases c with ⟨c, d⟩ | ⟨c, d⟩ <;> rcases c' with ⟨c', d'⟩ | ⟨c', d'⟩
      · exact d.trans d'.symm
      · exact (c' c).elim
      · exact (c c').elim
      · exact d.trans d'.symm
  · exact (hno' _ hm hp).elim
  · exact (hno _ hm' hp').elim
  · exact ⟨h1.trans h1'.symm, h2.trans h2'.symm⟩
/-- Behind Put. -/
def U.jAdd (v : JBv) (P : JBP) : JBP := U.jIns (U.jRest (U.jBar v) P) v
theorem jins_mem {Q : JBP} {v : JBv} {x : Int × JBv} : x ∈ U.jIns Q v ↔ x = (v.v0, v) ∨ (x ∈ Q ∧ x.1 ≠ v.v0) := by
  unfold U.jIns
  rw [List.mem_append, List.mem_cons, List.mem_filter, List.mem_filter, decide_eq_true_eq, decide_eq_true_eq]
  constructor
  · rintro (⟨h, g⟩ | h | ⟨h, g⟩)
    · exact .inr ⟨h, by omega⟩
    · exact .inl h
    · exact .inr ⟨h, by omega⟩
  · rintro (h | ⟨h, g⟩)
    · exact .inr (.inl h)
    · rcases Int.lt_or_lt_of_ne g with g | g
      · exact .inl ⟨h, g⟩
      · exact .inr (.inr ⟨h, g⟩)
theorem jins_srt {Q : JBP} (hs : U.jbSrt Q) (v : JBv) : U.jbSrt (U.jIns Q v) := by
  refine ⟨?_⟩
  unfold U.jIns
  rw [List.pairwise_append]
  refine ⟨hs.out.sublist List.filter_sublist, ?_, ?_⟩
  · rw [List.pairwise_cons]
    exact ⟨fun a ha => by have := (List.mem_filter.1 ha).2; simpa using this, hs.out.sublist List.filter_sublist⟩
  · intro a ha b hb
    have h1 : a.1 < v.v0 := by have := (List.mem_filter.1 ha).2; simpa using this
    rcases List.mem_cons.1 hb with rfl | hb
    · exact h1
    · have : v.v0 < b.1 := by have := (List.mem_filter.1 hb).2; simpa using this
      omega
theorem jput_ins {Q P' : JBP} {v : JBv} (hs : U.jbSrt Q) (h : U.jbPut Q v.v0 v P') : P' = U.jIns Q v := by
  refine j_srt_eq h.srt (jins_srt hs v) ?_
  rintro ⟨x, y⟩
  rw [h.mem, jins_mem]
  simp only [Prod.mk.injEq]
theorem jins_len {Q : JBP} {v : JBv} (h : ∀ p ∈ Q, p.1 ≠ v.v0) : (U.jIns Q v).length = Q.length + 1 := by
  have key : ∀ Q : JBP, (∀ p ∈ Q, p.1 ≠ v.v0) → (Q.filter (fun p => decide (p.1 < v.v0))).length + (Q.filter (fun p => decide (v.v0 < p.1))).length = Q.length := by
    intro Q
    induction Q with
    | nil => intro _; rfl
    | cons a Q ih =>
      intro h
      have ih := ih fun p hp => h p (List.mem_cons_of_mem _ hp)
      have ha := h a (List.mem_cons_self ..)
      rcases Int.lt_or_lt_of_ne ha with g | g
      · rw [List.filter_cons_of_pos (by simpa using g), List.filter_cons_of_neg (by simp; omega), List.length_cons, List.length_cons]; omega
      · rw [List.filter_cons_of_neg (by simp; omega), List.filter_cons_of_pos (by simpa using g), List.length_cons, List.length_cons]; omega
  unfold U.jIns
  rw [List.length_append, List.length_cons]
  have := key Q h
  omega
theorem jrest_not {P : JBP} {v : JBv} {p : Int × JBv} (hp : p ∈ U.jRest (U.jBar v) P) : p ∈ P ∧ p.2.v0 ≠ v.v0 ∧ p.2.v1 ≠ v.v1 ∧ ¬ (p.2.v2 = v.v2 ∧ p.2.v3 = v.v3) := by
  unfold U.jRest at hp
  obtain ⟨h1, h2⟩ := List.mem_filter.1 hp
  have h3 : U.jBar v p = false := by simpa using h2
  unfold U.jBar at h3
  have h3 := of_decide_eq_false h3
  exact ⟨h1, fun g => h3 (.inl g), fun g => h3 (.inr (.inl g)), fun g => h3 (.inr (.inr g))⟩
theorem jadd_I {P : JBP} (hI : U.jI P) {v : JBv} (hv : U.jMay v) : U.jI (U.jAdd v P) := by
  have key : ∀ k w, (k, w) ∈ U.jAdd v P → (k = v.v0 ∧ w = v) ∨ ((k, w) ∈ P ∧ w.v0 ≠ v.v0 ∧ w.v1 ≠ v.v1 ∧ ¬ (w.v2 = v.v2 ∧ w.v3 = v.v3)) := by
    intro k w h
    rcases jins_mem.1 h with h | ⟨h, _⟩
    · simp only [Prod.mk.injEq] at h; exact .inl h
    · exact .inr (jrest_not h)
  refine ⟨fun k w h => ?_, fun k w k' w' h h' e => ?_, fun k w k' w' h h' e e' => ?_⟩
  · rcases key k w h with ⟨rfl, rfl⟩ | ⟨h, _⟩
    · exact ⟨rfl, hv⟩
    · exact hI.wf _ _ h
  · rcases key k w h with ⟨rfl, rfl⟩ | ⟨h, _, g, _⟩ <;> rcases key k' w' h' with ⟨rfl, rfl⟩ | ⟨h', _, g', _⟩
    · rfl
    · exact (g' e.symm).elim
    · exact (g e).elim
    · exact hI.ip _ _ _ _ h h' e
  · rcases key k w h with ⟨rfl, rfl⟩ | ⟨h, _, _, g⟩ <;> rcases key k' w' h' with ⟨rfl, rfl⟩ | ⟨h', _, _, g'⟩
    · rfl
    · exact (g' ⟨e.symm, e'.symm⟩).elim
    · exact (g ⟨e, e'⟩).elim
    · exact hI.pl _ _ _ _ h h' e e'
theorem jrest_srt {P : JBP} (hs : U.jbSrt P) (f : Int × JBv → Bool) : U.jbSrt (U.jRest f P) := ⟨hs.out.sublist List.filter_sublist⟩
theorem jrest_key {P : JBP} (hI : U.jI P) {v : JBv} : ∀ p ∈ U.jRest (U.jBar v) P, p.1 ≠ v.v0 := by
  rintro ⟨k, w⟩ hp
  obtain ⟨h1, h2, _⟩ := jrest_not hp
  have := (hI.wf _ _ h1).1
  intro he
  exact h2 (this.trans he)
theorem jadd_room {P : JBP} (hI : U.jI P) (hs : U.jbSrt P) {v : JBv} (hv : U.jMay v) : (U.jRest (U.jBar v) P).length < 64 := by
  have h1 := jlen_le (jadd_I hI hv) (jins_srt (jrest_srt hs (U.jBar v)) v)
  have h2 : (U.jAdd v P).length = _ := jins_len (jrest_key hI)
  omega
/-- A table that moved, and an array ahead of it. -/
def jSy (n c : Nat) (L : Rws) (d : Nat) (M : Rws) (O : Rws) (co : Nat) : St := ⟨[jtB, jbB (rslC ⟨3, 1, 0, n, c⟩) (rslC ⟨4, 7, 0, n, d⟩) 64], [], 0, [none, none, some (jbvB O co), some (jbkB L c), some (jbvB M d)], 0⟩
abbrev reA (a r co : Nat) (e : Int) : AV := .inr [.inl (rslC ⟨a, 7, 0, r, co⟩), .inl (.inl (.int .i64 e))]
theorem jcheck_run (K : AV → St → Prop) (n c : Nat) (L : Rws) (d : Nat) (M : Rws) (P : JBP) (hQ : U.Jb n c L d M P) (s0 s1 : Int) (m : Int) (ip : Int) (hK : ∀ (v0 v1 v2 v3 : Int) (v4 v5 : List Int) (v6 e : Int), U.jCk P s0 s1 m ip ⟨v0, v1, v2, v3, v4, v5, v6⟩ e → K (ckA v0 v1 v2 v3 v4 v5 v6 e) (jSt n c L d M)) : runR inv0 tJ2 13 [ptr 0 0, plA s0 s1, xi .u64 m, xi .u32 ip] (jSt n c L d M) (U.Like K) := by
  rw [jcheck_vc]
  refine ⟨P, ⟨⟨⟨rfl, rfl, rfl⟩, rfl⟩, hQ⟩, fun k v hm hp => ⟨fun a => ⟨ckA 0 0 0 0 [] [] 0 40, fun _ _ h => h, hK _ _ _ _ _ _ _ _ ⟨.inl ⟨k, v, hm, hp, .inl ⟨fun g => a g.1, rfl, rfl⟩⟩⟩⟩, fun a => ⟨fun b => ⟨ckA 0 0 0 0 [] [] 0 40, fun _ _ h => h, hK _ _ _ _ _ _ _ _ ⟨.inl ⟨k, v, hm, hp, .inl ⟨fun g => b g.2, rfl, rfl⟩⟩⟩⟩, fun b => ⟨fun d => ⟨_, fun _ _ h => h, hK _ _ _ _ _ _ _ 41 ⟨.inl ⟨k, v, hm, hp, .inr ⟨⟨Classical.not_not.1 a, Classical.not_not.1 b⟩, rfl, .inl ⟨d, rfl⟩⟩⟩⟩⟩, fun d => ⟨_, fun _ _ h => h, hK _ _ _ _ _ _ _ 0 ⟨.inl ⟨k, v, hm, hp, .inr ⟨⟨Classical.not_not.1 a, Classical.not_not.1 b⟩, rfl, .inr ⟨d, rfl⟩⟩⟩⟩⟩⟩⟩⟩, fun hno => ⟨ckA 0 0 0 0 [] [] 0 2, fun _ _ h => h, hK _ _ _ _ _ _ _ _ ⟨.inr ⟨hno, rfl, rfl⟩⟩⟩⟩
def pjcheck : Pat := fun args σ => match args with
  | [.inl (.inl (.inr (.inl (0, 0)))), a0, a1, a2] => match aPl a0, aIntK .u64 a1, aIntK .u32 a2, jC σ with
    | some (s0, s1), some m, some ip, some (n, c, L, d, M) => some fun K => ∃ P : JBP, (jD σ ∧ U.Jb n c L d M P) ∧ ∀ (v0 v1 v2 v3 : Int) (v4 v5 : List Int) (v6 e : Int), U.jCk P s0 s1 m ip ⟨v0, v1, v2, v3, v4, v5, v6⟩ e → K (ckA v0 v1 v2 v3 v4 v5 v6 e) (jSt n c L d M)
    | _, _, _, _ => none
  | _ => none
theorem pjcheck_ok : PatOk 13 pjcheck := by
  intro tm σ C h K hK w0 e w hk vs hvs
  unfold pjcheck at h
  split at h
  · split at h
    · rename_i h0 h1 h2 hσ
      simp only [Option.some.injEq] at h; subst h
      obtain ⟨P, ⟨hd, hQ⟩, hP⟩ := hK
      obtain rfl := jC_eq hσ hd
      obtain ⟨y0, y1, y2, y3, rfl, q0, q1, q2, q3⟩ := fours hvs
      exact like_ok (knownC noOv names (conOk_ofR tJ2_ok) (jcheck_run K _ _ _ _ _ P hQ _ _ _ _ hP) w0 e w hk _ (map4 q0 (as_aPl h0 q1) (as_aIntK h1 q2) (as_aIntK h2 q3)))
    · cases h
  · cases h
set_option maxHeartbeats 4000000 in
theorem jput_run (K : AV → St → Prop) (n c : Nat) (L : Rws) (d : Nat) (M : Rws) (P : JBP) (hQ : U.Jb n c L d M P) (v : JBv) (hK : (¬ U.jMay v → K (reA 2 0 0 1) (jSx n c L d M [] 0)) ∧ (U.jMay v → ∀ (n' c' : Nat) (L' : Rws) (d' : Nat) (M' : Rws) (O : Rws) (r co : Nat), U.Jb n' c' L' d' M' (U.jAdd v P) → U.jRw (U.jGone (U.jBar v) P) O r co → K (reA 2 r co 0) (jSy n' c' L' d' M' O co))) : runQ (invJd P (U.jBar v)) tJ2 16 [ptr 0 0, jbA v.v0 v.v1 v.v2 v.v3 v.v4 v.v5 v.v6] (jSt n c L d M) (U.Like K) := by
  have hl := hQ.s
  have hn := jb_n hQ
  have hvl : (U.jbvs P).length = P.length := by simp [U.jbvs]
  have hkl : (U.jbks P).length = P.length := by simp [U.jbks]
  rw [jput_vc]
  refine ⟨fun hv => ?_, fun hv => ⟨reA 2 0 0 1, fun _ _ h => h, hK.1 hv⟩⟩
  refine ⟨P, ⟨⟨rfl, rfl, rfl⟩, hl⟩, fun V n2 c3 e2 e3 e4 => ⟨P, ⟨⟨rfl, rfl, rfl⟩, hl⟩, fun KK n6 c7 e6 e7 e8 z8 h8 => ⟨?_, ?_⟩⟩⟩
  · refine ⟨(0, (([], (0, 0)), ([], (0, 0)))), ?_⟩
    repeat' (first | exact rfl | with_reducible apply And.intro)
    exact jbdp_0 P _
  subst e4 e8
  rintro ⟨i, ⟨G, r1, cg⟩, O, r, co⟩ hI
  obtain ⟨⟨i1, i2⟩, g1, o1, g2, g3, o2, o3, o4, o5⟩ := hI.out
  dsimp only at i1 i2 g1 o1 g2 g3 o2 o3 o4 o5 hI ⊢
  refine ⟨fun hi => ⟨⟨by omega, by omega⟩, fun j hj => ⟨by omega, fun z12 h12 => ⟨⟨by omega, by omega⟩, fun j13 hj13 => ⟨by omega, ?_⟩⟩⟩⟩, fun hi => ?_⟩
  · obtain rfl : j13 = j := by omega
    obtain ⟨p, hp⟩ : ∃ p, P[j13]? = some p := ⟨_, List.getElem?_eq_getElem (show j13 < P.length by omega)⟩
    obtain ⟨f0, f1, f2, f3, f4, f5, f6⟩ := jb_fi hp
    rw [(jbat hp).2.2] at h12
    subst h12
    rw [f0, f1, f2, f3, f4, f5, f6]
    rintro _ rfl _ rfl _ rfl _ rfl _ rfl _ rfl _ rfl
    refine ⟨fun a => ?_, fun a => ⟨fun b => ?_, fun b => ⟨fun d => ?_, fun d z20 h20 => ?_⟩⟩⟩
    · have hF : U.jBar v p = true := by unfold U.jBar; exact decide_eq_true (.inl a.symm)
      refine ⟨⟨by omega, by omega⟩, trivial, by omega, by decide, fun L20 n21 c22 e20 e21 e22 => ⟨⟨by omega, by omega⟩, fun j23 hj23 => ⟨by omega, ?_⟩⟩⟩
      obtain rfl : j23 = j13 := by omega
      rw [f0, f1, f2, f3, f4, f5, f6]
      rintro _ rfl _ rfl _ rfl _ rfl _ rfl _ rfl _ rfl
      refine ⟨⟨by omega, by omega⟩, trivial, by omega, by decide, fun L29 n30 c31 e29 e30 e31 z32 h32 => ?_⟩
      have ez := iw h32 (by omega)
      refine ⟨(z32, ((L20, (n21, c22)), (L29, (n30, c31)))), ?_⟩
      repeat' (first | exact rfl | exact jbdp_yes hI (by omega) hp hF ez e20 e21 e22 e29 e30 e31 | with_reducible apply And.intro)
      dsimp only; omega
    · have hF : U.jBar v p = true := by unfold U.jBar; exact decide_eq_true (.inr (.inl b.symm))
      refine ⟨⟨by omega, by omega⟩, trivial, by omega, by decide, fun L20 n21 c22 e20 e21 e22 => ⟨⟨by omega, by omega⟩, fun j23 hj23 => ⟨by omega, ?_⟩⟩⟩
      obtain rfl : j23 = j13 := by omega
      rw [f0, f1, f2, f3, f4, f5, f6]
      rintro _ rfl _ rfl _ rfl _ rfl _ rfl _ rfl _ rfl
      refine ⟨⟨by omega, by omega⟩, trivial, by omega, by decide, fun L29 n30 c31 e29 e30 e31 z32 h32 => ?_⟩
      have ez := iw h32 (by omega)
      refine ⟨(z32, ((L20, (n21, c22)), (L29, (n30, c31)))), ?_⟩
      repeat' (first | exact rfl | exact jbdp_yes hI (by omega) hp hF ez e20 e21 e22 e29 e30 e31 | with_reducible apply And.intro)
      dsimp only; omega
    · have hF : U.jBar v p = true := by unfold U.jBar; exact decide_eq_true (.inr (.inr ⟨d.1.symm, d.2.1.symm⟩))
      refine ⟨⟨by omega, by omega⟩, trivial, by omega, by decide, fun L20 n21 c22 e20 e21 e22 => ⟨⟨by omega, by omega⟩, fun j23 hj23 => ⟨by omega, ?_⟩⟩⟩
      obtain rfl : j23 = j13 := by omega
      rw [f0, f1, f2, f3, f4, f5, f6]
      rintro _ rfl _ rfl _ rfl _ rfl _ rfl _ rfl _ rfl
      refine ⟨⟨by omega, by omega⟩, trivial, by omega, by decide, fun L29 n30 c31 e29 e30 e31 z32 h32 => ?_⟩
      have ez := iw h32 (by omega)
      refine ⟨(z32, ((L20, (n21, c22)), (L29, (n30, c31)))), ?_⟩
      repeat' (first | exact rfl | exact jbdp_yes hI (by omega) hp hF ez e20 e21 e22 e29 e30 e31 | with_reducible apply And.intro)
      dsimp only; omega
    · have hF : U.jBar v p = false := by unfold U.jBar; exact decide_eq_false (fun g => g.elim (fun g => a g.symm) fun g => g.elim (fun g => b g.symm) fun g => d ⟨g.1.symm, g.2.symm, trivial⟩)
      have ez := iw h20 (by omega)
      refine ⟨(z20, ((G, (r1, cg)), (O, (r, co)))), ?_⟩
      repeat' (first | exact rfl | exact jbdp_no hI (by omega) hp hF ez | with_reducible apply And.intro)
      dsimp only; omega
  · obtain ⟨x1, x2, x3, x4, x5, x6⟩ := jbdp_end hl.srt hI (by omega)
    refine ⟨P, ⟨rfl, ⟨rfl, rfl, rfl⟩, hl, by omega, by omega, by omega, x5⟩, fun n37 L38 M39 P40 y1 y2 y3 => ?_⟩
    have hP := x6 _ y2
    subst hP
    have hl2 := jbshI_n y3
    have hroom : (P.filter fun p => !U.jBar v p).length < 64 := jadd_room (v := v) hQ.i hl.srt hv
    refine ⟨_, ⟨⟨rfl, rfl, rfl⟩, y3, by omega⟩, fun _ L5 n5 c5 M5 d5 P5 z1 z2 z3 => ?_, fun h => (h ⟨.inr (by omega)⟩).elim⟩
    have hP5 : P5 = U.jAdd v P := jput_ins (jrest_srt hl.srt _) z2
    subst hP5
    repeat' (first | exact rfl | with_reducible apply And.intro)
    exact ⟨reA 2 r co 0, fun _ _ h => h, hK.2 hv _ _ _ _ _ _ _ _ ⟨z3, jadd_I hQ.i hv⟩ ⟨x2, x4, o3, by omega⟩⟩
def pjput : Pat := fun args σ => match args with
  | [.inl (.inl (.inr (.inl (0, 0)))), a0] => match aBd a0, jC σ with
    | some v, some (n, c, L, d, M) => some fun K => ∃ P : JBP, (jD σ ∧ U.Jb n c L d M P) ∧ (¬ U.jMay v → K (reA 2 0 0 1) (jSx n c L d M [] 0)) ∧ (U.jMay v → ∀ (n' c' : Nat) (L' : Rws) (d' : Nat) (M' : Rws) (O : Rws) (r co : Nat), U.Jb n' c' L' d' M' (U.jAdd v P) → U.jRw (U.jGone (U.jBar v) P) O r co → K (reA 2 r co 0) (jSy n' c' L' d' M' O co))
    | _, _ => none
  | _ => none
theorem pjput_ok : PatOk 16 pjput := by
  intro tm σ C h K hK w0 e w hk vs hvs
  unfold pjput at h
  split at h
  · split at h
    · rename_i h0 hσ
      simp only [Option.some.injEq] at h; subst h
      obtain ⟨P, ⟨hd, hQ⟩, hP⟩ := hK
      obtain rfl := jC_eq hσ hd
      obtain ⟨y0, y1, rfl, q0, q1⟩ := twos hvs
      exact like_ok (knownD noOv names opMK_ok (conOk_ofR tJ2_ok) (jput_run K _ _ _ _ _ P hQ _ hP) w0 e w hk _ (map2 q0 (as_aBd h0 q1)))
    · cases h
  · cases h
def jLx1 (n c : Nat) (L : Rws) (d : Nat) (M : Rws) (s0 s1 : Int) (O : Rws) (co : Nat) : St := ⟨[jtB, jbB (rslC ⟨0, 1, 0, n, c⟩) (rslC ⟨1, 7, 0, n, d⟩) 64, plB [xintC .i64 s0, xintC .i64 s1] 2], [], 0, [some (jbkB L c), some (jbvB M d), some (jbvB O co)], 0⟩
set_option maxHeartbeats 4000000 in
theorem jleave1_run (K : AV → St → Prop) (n c : Nat) (L : Rws) (d : Nat) (M : Rws) (P : JBP) (hQ : U.Jb n c L d M P) (s0 s1 : Int) (hK : ∀ (n' : Nat) (L' M' : Rws) (O : Rws) (r co : Nat), U.Jb n' c L' d M' (U.jRest (U.jL1 s0 s1) P) → U.jRw (U.jGone (U.jL1 s0 s1) P) O r co → K (cell (rslC ⟨2, 7, 0, r, co⟩)) (jLx1 n' c L' d M' s0 s1 O co)) : runQ (invJd P (U.jL1 s0 s1)) tJ2 22 [ptr 0 0, sl ⟨2, 0, 1, none, 1⟩] (jL1 n c L d M s0 s1) K := by
  have hl := hQ.s
  have hn := jb_n hQ
  have hvl : (U.jbvs P).length = P.length := by simp [U.jbvs]
  have hkl : (U.jbks P).length = P.length := by simp [U.jbks]
  rw [jleave1_vc]
  refine ⟨P, ⟨⟨rfl, rfl, rfl⟩, hl⟩, fun V n2 c3 e2 e3 e4 => ⟨P, ⟨⟨rfl, rfl, rfl⟩, hl⟩, fun KK n6 c7 e6 e7 e8 z8 h8 => ⟨?_, ?_⟩⟩⟩
  · refine ⟨(0, (([], (0, 0)), ([], (0, 0)))), ?_⟩
    repeat' (first | exact rfl | with_reducible apply And.intro)
    exact jbdp_0 P _
  subst e4 e8
  rintro ⟨i, ⟨G, r1, cg⟩, O, r, co⟩ hI
  obtain ⟨⟨i1, i2⟩, g1, o1, g2, g3, o2, o3, o4, o5⟩ := hI.out
  dsimp only at i1 i2 g1 o1 g2 g3 o2 o3 o4 o5 hI ⊢
  refine ⟨fun hi => ⟨⟨by omega, by omega⟩, fun j hj => ⟨by omega, fun z12 h12 => ⟨⟨by omega, by omega⟩, fun j13 hj13 => ⟨by omega, ?_⟩⟩⟩⟩, fun hi => ?_⟩
  · obtain rfl : j13 = j := by omega
    obtain ⟨p, hp⟩ : ∃ p, P[j13]? = some p := ⟨_, List.getElem?_eq_getElem (show j13 < P.length by omega)⟩
    obtain ⟨f0, f1, f2, f3, f4, f5, f6⟩ := jb_fi hp
    rw [(jbat hp).2.2] at h12
    subst h12
    rw [f0, f1, f2, f3, f4, f5, f6]
    rintro _ rfl _ rfl _ rfl _ rfl _ rfl _ rfl _ rfl
    refine ⟨fun a => ?_, fun a z20 h20 => ?_⟩
    · have hF : U.jL1 s0 s1 p = true := by unfold U.jL1; exact decide_eq_true ⟨a.1, a.2.1⟩
      refine ⟨⟨by omega, by omega⟩, trivial, by omega, by decide, fun L20 n21 c22 e20 e21 e22 => ⟨⟨by omega, by omega⟩, fun j23 hj23 => ⟨by omega, ?_⟩⟩⟩
      obtain rfl : j23 = j13 := by omega
      rw [f0, f1, f2, f3, f4, f5, f6]
      rintro _ rfl _ rfl _ rfl _ rfl _ rfl _ rfl _ rfl
      refine ⟨⟨by omega, by omega⟩, trivial, by omega, by decide, fun L29 n30 c31 e29 e30 e31 z32 h32 => ?_⟩
      have ez := iw h32 (by omega)
      refine ⟨(z32, ((L20, (n21, c22)), (L29, (n30, c31)))), ?_⟩
      repeat' (first | exact rfl | exact jbdp_yes hI (by omega) hp hF ez e20 e21 e22 e29 e30 e31 | with_reducible apply And.intro)
      dsimp only; omega
    · have hF : U.jL1 s0 s1 p = false := by unfold U.jL1; exact decide_eq_false (fun g => a ⟨g.1, g.2, trivial⟩)
      have ez := iw h20 (by omega)
      refine ⟨(z20, ((G, (r1, cg)), (O, (r, co)))), ?_⟩
      repeat' (first | exact rfl | exact jbdp_no hI (by omega) hp hF ez | with_reducible apply And.intro)
      dsimp only; omega
  · obtain ⟨x1, x2, x3, x4, x5, x6⟩ := jbdp_end hl.srt hI (by omega)
    exact ⟨P, ⟨rfl, ⟨rfl, rfl, rfl⟩, hl, by omega, by omega, by omega, x5⟩, fun n37 L38 M39 P40 y1 y2 y3 => by
      have hP := x6 _ y2
      subst hP
      exact hK _ _ _ _ _ _ (jb_rest hQ y3) ⟨x2, x4, o3, by omega⟩⟩
def pjleave1 : Pat := fun args σ => match args, σ with
  | [.inl (.inl (.inr (.inl (0, 0)))), .inl (.inl (.inr (.inr (.inl ⟨2, 0, 1, none, 1⟩))))], ⟨[t, s, some ⟨29, [a, b], none, 2, false⟩], [], 0, [a1, a2], 0⟩ => match jC ⟨[t, s], [], 0, [a1, a2], 0⟩, cInt a, cInt b with
    | some (n, c, L, d, M), some s0, some s1 => some fun K => ∃ P : JBP, (jD ⟨[t, s], [], 0, [a1, a2], 0⟩ ∧ U.Jb n c L d M P) ∧ ∀ (n' : Nat) (L' M' : Rws) (O : Rws) (r co : Nat), U.Jb n' c L' d M' (U.jRest (U.jL1 s0 s1) P) → U.jRw (U.jGone (U.jL1 s0 s1) P) O r co → K (cell (rslC ⟨2, 7, 0, r, co⟩)) (jLx1 n' c L' d M' s0 s1 O co)
    | _, _, _ => none
  | _, _ => none
theorem pjleave1_ok : PatOk 22 pjleave1 := by
  intro tm σ C h K hK w0 e w hk vs hvs
  unfold pjleave1 at h
  split at h
  · split at h
    · rename_i hσ e0 e1
      simp only [Option.some.injEq] at h; subst h
      obtain ⟨P, ⟨hd, hQ⟩, hP⟩ := hK
      have := jC_eq hσ hd
      unfold jSt at this
      simp only [St.mk.injEq, List.cons.injEq, and_true, true_and] at this
      obtain ⟨⟨rfl, rfl⟩, rfl, rfl⟩ := this
      obtain rfl := cInt_eq e0; obtain rfl := cInt_eq e1
      exact knownD noOv names opMK_ok (conOk_ofR tJ2_ok) (jleave1_run K _ _ _ _ _ P hQ _ _ hP) w0 e w hk vs hvs
    · cases h
  · cases h
def jLx2 (n c : Nat) (L : Rws) (d : Nat) (M : Rws) (s0 s1 u0 u1 : Int) (O : Rws) (co : Nat) : St := ⟨[jtB, jbB (rslC ⟨0, 1, 0, n, c⟩) (rslC ⟨1, 7, 0, n, d⟩) 64, plB [xintC .i64 s0, xintC .i64 s1, xintC .i64 u0, xintC .i64 u1] 4], [], 0, [some (jbkB L c), some (jbvB M d), some (jbvB O co)], 0⟩
set_option maxHeartbeats 4000000 in
theorem jleave2_run (K : AV → St → Prop) (n c : Nat) (L : Rws) (d : Nat) (M : Rws) (P : JBP) (hQ : U.Jb n c L d M P) (s0 s1 u0 u1 : Int) (hK : ∀ (n' : Nat) (L' M' : Rws) (O : Rws) (r co : Nat), U.Jb n' c L' d M' (U.jRest (U.jL2 s0 s1 u0 u1) P) → U.jRw (U.jGone (U.jL2 s0 s1 u0 u1) P) O r co → K (cell (rslC ⟨2, 7, 0, r, co⟩)) (jLx2 n' c L' d M' s0 s1 u0 u1 O co)) : runQ (invJd P (U.jL2 s0 s1 u0 u1)) tJ2 22 [ptr 0 0, sl ⟨2, 0, 2, none, 2⟩] (jL2 n c L d M s0 s1 u0 u1) K := by
  have hl := hQ.s
  have hn := jb_n hQ
  have hvl : (U.jbvs P).length = P.length := by simp [U.jbvs]
  have hkl : (U.jbks P).length = P.length := by simp [U.jbks]
  rw [jleave2_vc]
  refine ⟨P, ⟨⟨rfl, rfl, rfl⟩, hl⟩, fun V n2 c3 e2 e3 e4 => ⟨P, ⟨⟨rfl, rfl, rfl⟩, hl⟩, fun KK n6 c7 e6 e7 e8 z8 h8 => ⟨?_, ?_⟩⟩⟩
  · refine ⟨(0, (([], (0, 0)), ([], (0, 0)))), ?_⟩
    repeat' (first | exact rfl | with_reducible apply And.intro)
    exact jbdp_0 P _
  subst e4 e8
  rintro ⟨i, ⟨G, r1, cg⟩, O, r, co⟩ hI
  obtain ⟨⟨i1, i2⟩, g1, o1, g2, g3, o2, o3, o4, o5⟩ := hI.out
  dsimp only at i1 i2 g1 o1 g2 g3 o2 o3 o4 o5 hI ⊢
  refine ⟨fun hi => ⟨⟨by omega, by omega⟩, fun j hj => ⟨by omega, fun z12 h12 => ⟨⟨by omega, by omega⟩, fun j13 hj13 => ⟨by omega, ?_⟩⟩⟩⟩, fun hi => ?_⟩
  · obtain rfl : j13 = j := by omega
    obtain ⟨p, hp⟩ : ∃ p, P[j13]? = some p := ⟨_, List.getElem?_eq_getElem (show j13 < P.length by omega)⟩
    obtain ⟨f0, f1, f2, f3, f4, f5, f6⟩ := jb_fi hp
    rw [(jbat hp).2.2] at h12
    subst h12
    rw [f0, f1, f2, f3, f4, f5, f6]
    rintro _ rfl _ rfl _ rfl _ rfl _ rfl _ rfl _ rfl
    refine ⟨fun a => ?_, fun a => ⟨fun b => ?_, fun b z20 h20 => ?_⟩⟩
    · have hF : U.jL2 s0 s1 u0 u1 p = true := by unfold U.jL2; exact decide_eq_true (.inl ⟨a.1, a.2.1⟩)
      refine ⟨⟨by omega, by omega⟩, trivial, by omega, by decide, fun L20 n21 c22 e20 e21 e22 => ⟨⟨by omega, by omega⟩, fun j23 hj23 => ⟨by omega, ?_⟩⟩⟩
      obtain rfl : j23 = j13 := by omega
      rw [f0, f1, f2, f3, f4, f5, f6]
      rintro _ rfl _ rfl _ rfl _ rfl _ rfl _ rfl _ rfl
      refine ⟨⟨by omega, by omega⟩, trivial, by omega, by decide, fun L29 n30 c31 e29 e30 e31 z32 h32 => ?_⟩
      have ez := iw h32 (by omega)
      refine ⟨(z32, ((L20, (n21, c22)), (L29, (n30, c31)))), ?_⟩
      repeat' (first | exact rfl | exact jbdp_yes hI (by omega) hp hF ez e20 e21 e22 e29 e30 e31 | with_reducible apply And.intro)
      dsimp only; omega
    · have hF : U.jL2 s0 s1 u0 u1 p = true := by unfold U.jL2; exact decide_eq_true (.inr ⟨b.1, b.2.1⟩)
      refine ⟨⟨by omega, by omega⟩, trivial, by omega, by decide, fun L20 n21 c22 e20 e21 e22 => ⟨⟨by omega, by omega⟩, fun j23 hj23 => ⟨by omega, ?_⟩⟩⟩
      obtain rfl : j23 = j13 := by omega
      rw [f0, f1, f2, f3, f4, f5, f6]
      rintro _ rfl _ rfl _ rfl _ rfl _ rfl _ rfl _ rfl
      refine ⟨⟨by omega, by omega⟩, trivial, by omega, by decide, fun L29 n30 c31 e29 e30 e31 z32 h32 => ?_⟩
      have ez := iw h32 (by omega)
      refine ⟨(z32, ((L20, (n21, c22)), (L29, (n30, c31)))), ?_⟩
      repeat' (first | exact rfl | exact jbdp_yes hI (by omega) hp hF ez e20 e21 e22 e29 e30 e31 | with_reducible apply And.intro)
      dsimp only; omega
    · have hF : U.jL2 s0 s1 u0 u1 p = false := by unfold U.jL2; exact decide_eq_false (fun g => g.elim (fun g => a ⟨g.1, g.2, trivial⟩) fun g => b ⟨g.1, g.2, trivial⟩)
      have ez := iw h20 (by omega)
      refine ⟨(z20, ((G, (r1, cg)), (O, (r, co)))), ?_⟩
      repeat' (first | exact rfl | exact jbdp_no hI (by omega) hp hF ez | with_reducible apply And.intro)
      dsimp only; omega
  · obtain ⟨x1, x2, x3, x4, x5, x6⟩ := jbdp_end hl.srt hI (by omega)
    exact ⟨P, ⟨rfl, ⟨rfl, rfl, rfl⟩, hl, by omega, by omega, by omega, x5⟩, fun n37 L38 M39 P40 y1 y2 y3 => by
      have hP := x6 _ y2
      subst hP
      exact hK _ _ _ _ _ _ (jb_rest hQ y3) ⟨x2, x4, o3, by omega⟩⟩
def pjleave2 : Pat := fun args σ => match args, σ with
  | [.inl (.inl (.inr (.inl (0, 0)))), .inl (.inl (.inr (.inr (.inl ⟨2, 0, 2, none, 2⟩))))], ⟨[t, s, some ⟨29, [a, b, c, d], none, 4, false⟩], [], 0, [a1, a2], 0⟩ => match jC ⟨[t, s], [], 0, [a1, a2], 0⟩, cInt a, cInt b, cInt c, cInt d with
    | some (n, c, L, d, M), some s0, some s1, some u0, some u1 => some fun K => ∃ P : JBP, (jD ⟨[t, s], [], 0, [a1, a2], 0⟩ ∧ U.Jb n c L d M P) ∧ ∀ (n' : Nat) (L' M' : Rws) (O : Rws) (r co : Nat), U.Jb n' c L' d M' (U.jRest (U.jL2 s0 s1 u0 u1) P) → U.jRw (U.jGone (U.jL2 s0 s1 u0 u1) P) O r co → K (cell (rslC ⟨2, 7, 0, r, co⟩)) (jLx2 n' c L' d M' s0 s1 u0 u1 O co)
    | _, _, _, _, _ => none
  | _, _ => none
theorem pjleave2_ok : PatOk 22 pjleave2 := by
  intro tm σ C h K hK w0 e w hk vs hvs
  unfold pjleave2 at h
  split at h
  · split at h
    · rename_i hσ e0 e1 e2 e3
      simp only [Option.some.injEq] at h; subst h
      obtain ⟨P, ⟨hd, hQ⟩, hP⟩ := hK
      have := jC_eq hσ hd
      unfold jSt at this
      simp only [St.mk.injEq, List.cons.injEq, and_true, true_and] at this
      obtain ⟨⟨rfl, rfl⟩, rfl, rfl⟩ := this
      obtain rfl := cInt_eq e0; obtain rfl := cInt_eq e1; obtain rfl := cInt_eq e2; obtain rfl := cInt_eq e3
      exact knownD noOv names opMK_ok (conOk_ofR tJ2_ok) (jleave2_run K _ _ _ _ _ P hQ _ _ _ _ hP) w0 e w hk vs hvs
    · cases h
  · cases h
def tJ4 : Tbl := tblOr (tblIf 13 pjcheck) (tblOr (tblIf 16 pjput) (tblOr (tblIf 22 pjleave1) (tblOr (tblIf 22 pjleave2) tJ2)))
theorem tJ4_ok : TblOk Try.prog tJ4 := tblOr_ok (tblIf_ok pjcheck_ok) (tblOr_ok (tblIf_ok pjput_ok) (tblOr_ok (tblIf_ok pjleave1_ok) (tblOr_ok (tblIf_ok pjleave2_ok) tJ2_ok)))
end Go.Proofs.Ytgopjjimafcgjaa
end

section
namespace Go.Proofs.Ytgopjjimafcgjaa
open Go Reck Ost
set_option linter.unusedVariables false
set_option maxRecDepth 100000
def jKid (σ : St) (b : Nat) : Nat := match getBlk σ b with
  | some ⟨_, [.inr (.inl (x, _))], _, _, _⟩ => x
  | _ => 0
/-- Forget: what stands behind so many that came back. -/
structure U.jBk (P : JBP) (u : List Int) (i : Int) (Q : JBP) : Prop where
  srt : U.jbSrt Q
  mem : ∀ x y, (x, y) ∈ Q ↔ ((x, y) ∈ P ∧ ¬ (y.v4 = u ∨ y.v5 = u)) ∨ ∃ v, (x, v) ∈ (U.jGone (U.jFg u) P).take i.toNat ∧ ¬ v.v4 = u ∧ y = { v with v5 := [] }
structure U.jfoI (P : JBP) (u : List Int) (i : Int) (n c : Nat) (L : Rws) (d : Nat) (M : Rws) : Prop where
  out : 0 ≤ i ∧ i ≤ U.jblen (U.jGone (U.jFg u) P)
  bk : ∃ Q, U.jBk P u i Q ∧ U.Jb n c L d M Q
def jfoInv (P : JBP) (u : List Int) (tm : List AV) (σ : St) : Inv where
  X := Int × (Nat × (Nat × (Rws × (Nat × Rws))))
  tags := [0]
  tag _ _ := 0
  J := [1,2,4,6,7,8,9,10,11,12,16,17,18,19,20,21,22,23,24,25,26,27]
  val _ x := [(15, xi .i64 x.1)]
  st _ x σ' := ⟨σ'.heap.set (jKid σ' (jBl tm 0)) (jbB (rslC ⟨σ.arrs.length, 1, 0, x.2.1, x.2.2.1⟩) (rslC ⟨σ.arrs.length + 1, 7, 0, x.2.1, x.2.2.2.2.1⟩) 64), σ'.ints, σ'.opqs, σ'.arrs.dropLast.dropLast ++ [some (jbkB x.2.2.2.1 x.2.2.1), some (jbvB x.2.2.2.2.2 x.2.2.2.2.1)], σ'.junks⟩
  I _ x := U.jfoI P u x.1 x.2.1 x.2.2.1 x.2.2.2.1 x.2.2.2.2.1 x.2.2.2.2.2
  m _ x := ((slotR tm 13).n : Int).toNat - x.1.toNat
  ren tm' σ' := ([], [(jbshArr σ' (jKid σ' (jBl tm' 0)) 0).a, (jbshArr σ' (jKid σ' (jBl tm' 0)) 1).a])
def invJfo (P : JBP) (u : List Int) (F : Int × JBv → Bool) : InvF := fun c tm σ => match tm.length, firstReg c with
  | 49, some 7 => some (jDp P F tm σ)
  | 28, some 5 => some (jfoInv P u tm σ)
  | _, _ => none
--PLAIN
theorem jforget_vc (K:AV→St→Prop) (P:JBP) (F:Int × JBv→Bool) (n c:Nat) (L:Rws) (d:Nat) (M:Rws) (u:List Int):(runQ (invJfo P u F) tJ2 23 [ptr 0 0,cell (strC u)] (jSt n c L d M) K)=((u=[]→K (Sum.inl (Sum.inl (rslC ⟨2,(6:Nat) + (1:Nat),0,0,0⟩))) ⟨[jtB,some ⟨nat_lit 94,[rslC ⟨0,1,0,n,c⟩,rslC ⟨1,7,0,n,d⟩,xintC .i64 (64:Int)],none,3,false⟩],[],0,[some (jbkB L c),some (jbvB M d),some (jbvB U.nilL 0)],0⟩)∧(¬u=[]→∃ (y0:JBP),((c=c∧d=d∧n=n)∧U.jbshI n c L d M y0)∧∀ (L'1:Rws) (n'2 c'3:Nat),n'2=n→n'2≤c'3→L'1=U.jbvs y0→∃ (y4:JBP),((c=c∧d=d∧n=n)∧U.jbshI n c L d M y4)∧∀ (L'5:Rws) (n'6 c'7:Nat),n'6=n→n'6≤c'7→L'5=U.jbks y4→∀ (z8:Int),z8=(↑n'6:Int)→(∃ (y9:Int × (Rws × Nat × Nat) × Rws × Nat × Nat),((0:Nat)=0∧0=y9.2.1.2.1∧0=y9.2.1.2.2)∧((0:Nat)=0∧0=y9.2.2.2.1∧0=y9.2.2.2.2)∧((0:Nat)=0∧n'2=n'2∧c'3=c'3)∧((0:Nat)=0∧n'6=n'6∧c'7=c'7)∧z8=z8∧0=y9.1∧((0:Nat)=0∧n=n∧c=c)∧((0:Nat)=0∧n=n∧d=d)∧(64:Int)=64∧u=u∧(L=L∧c=c∧false=false)∧(M=M∧d=d∧false=false)∧(U.nilL=U.nilL∧(0:Nat)=0∧false=false)∧(U.nilL=U.nilL∧(0:Nat)=0∧false=false)∧(U.nilL=U.nilL∧(0:Nat)=0∧false=false)∧(L'1=L'1∧c'3=c'3∧false=false)∧(L'5=L'5∧c'7=c'7∧false=false)∧(U.nilL=y9.2.1.1∧0=y9.2.1.2.2∧false=false)∧(U.nilL=y9.2.2.1∧0=y9.2.2.2.2∧false=false)∧U.jbdpI P F y9.1 y9.2.1.1 y9.2.1.2.1 y9.2.1.2.2 y9.2.2.1 y9.2.2.2.1 y9.2.2.2.2)∧∀ (x10:Int × (Rws × Nat × Nat) × Rws × Nat × Nat),U.jbdpI P F x10.1 x10.2.1.1 x10.2.1.2.1 x10.2.1.2.2 x10.2.2.1 x10.2.2.2.1 x10.2.2.2.2→(x10.1<z8→(0≤x10.1∧x10.1<(↑n'6:Int))∧∀ (j11:Nat),(↑j11:Int)=(↑((0:Nat)):Int) + x10.1→j11<List.length L'5∧∀ (z12:Int),z12=U.fi L'5 j11 ((0:Nat))→(0≤x10.1∧x10.1<(↑n'2:Int))∧∀ (j13:Nat),(↑j13:Int)=(↑((0:Nat)):Int) + x10.1→j13<List.length L'1∧∀ (z14:Int),z14=U.fi L'1 j13 ((0:Nat))→∀ (z15:Int),z15=U.fi L'1 j13 ((0:Nat) + (1:Nat))→∀ (z16:Int),z16=U.fi L'1 j13 ((0:Nat) + (1:Nat) + (1:Nat))→∀ (z17:Int),z17=U.fi L'1 j13 ((0:Nat) + (1:Nat) + (1:Nat) + (1:Nat))→∀ (z18:List Int),z18=U.fs L'1 j13 ((0:Nat) + (1:Nat) + (1:Nat) + (1:Nat) + (1:Nat))→∀ (z19:List Int),z19=U.fs L'1 j13 ((0:Nat) + (1:Nat) + (1:Nat) + (1:Nat) + (1:Nat) + (1:Nat))→∀ (z20:Int),z20=U.fi L'1 j13 ((0:Nat) + (1:Nat) + (1:Nat) + (1:Nat) + (1:Nat) + (1:Nat) + (1:Nat))→(z18=u→((0:Nat) + x10.2.1.2.1≤List.length x10.2.1.1∧(0:Nat) + x10.2.1.2.2≤x10.2.1.2.2)∧True∧x10.2.1.2.1≤16777216∧(1:Nat)≤16777216∧∀ (L'21:List (List CV)) (n'22 c'23:Nat),L'21=List.take x10.2.1.2.1 (List.drop ((0:Nat)) x10.2.1.1) ++ [CV.i z12] :: U.nilL→n'22=x10.2.1.2.1 + (1:Nat)→n'22≤c'23→(0≤x10.1∧x10.1<(↑n'2:Int))∧∀ (j24:Nat),(↑j24:Int)=(↑((0:Nat)):Int) + x10.1→j24<List.length L'1∧∀ (z25:Int),z25=U.fi L'1 j24 ((0:Nat))→∀ (z26:Int),z26=U.fi L'1 j24 ((0:Nat) + (1:Nat))→∀ (z27:Int),z27=U.fi L'1 j24 ((0:Nat) + (1:Nat) + (1:Nat))→∀ (z28:Int),z28=U.fi L'1 j24 ((0:Nat) + (1:Nat) + (1:Nat) + (1:Nat))→∀ (z29:List Int),z29=U.fs L'1 j24 ((0:Nat) + (1:Nat) + (1:Nat) + (1:Nat) + (1:Nat))→∀ (z30:List Int),z30=U.fs L'1 j24 ((0:Nat) + (1:Nat) + (1:Nat) + (1:Nat) + (1:Nat) + (1:Nat))→∀ (z31:Int),z31=U.fi L'1 j24 ((0:Nat) + (1:Nat) + (1:Nat) + (1:Nat) + (1:Nat) + (1:Nat) + (1:Nat))→((0:Nat) + x10.2.2.2.1≤List.length x10.2.2.1∧(0:Nat) + x10.2.2.2.2≤x10.2.2.2.2)∧True∧x10.2.2.2.1≤16777216∧(1:Nat)≤16777216∧∀ (L'32:List (List CV)) (n'33 c'34:Nat),L'32=List.take x10.2.2.2.1 (List.drop ((0:Nat)) x10.2.2.1) ++ [CV.i z25,CV.i z26,CV.i z27,CV.i z28,CV.s z29,CV.s z30,CV.i z31] :: U.nilL→n'33=x10.2.2.2.1 + (1:Nat)→n'33≤c'34→∀ (z35:Int),z35=IntKind.wrap .i64 (x10.1 + (1:Int))→∃ (y36:Int × (Rws × Nat × Nat) × Rws × Nat × Nat),((0:Nat)=0∧n'22=y36.2.1.2.1∧c'23=y36.2.1.2.2)∧((0:Nat)=0∧n'33=y36.2.2.2.1∧c'34=y36.2.2.2.2)∧((0:Nat)=0∧n'2=n'2∧c'3=c'3)∧((0:Nat)=0∧n'6=n'6∧c'7=c'7)∧z8=z8∧z35=y36.1∧((0:Nat)=0∧n=n∧c=c)∧((0:Nat)=0∧n=n∧d=d)∧(64:Int)=64∧u=u∧(L=L∧c=c∧false=false)∧(M=M∧d=d∧false=false)∧(U.nilL=U.nilL∧(0:Nat)=0∧false=false)∧(U.nilL=U.nilL∧(0:Nat)=0∧false=false)∧(U.nilL=U.nilL∧(0:Nat)=0∧false=false)∧(L'1=L'1∧c'3=c'3∧false=false)∧(L'5=L'5∧c'7=c'7∧false=false)∧(L'21=y36.2.1.1∧c'23=y36.2.1.2.2∧false=false)∧(L'32=y36.2.2.1∧c'34=y36.2.2.2.2∧false=false)∧U.jbdpI P F y36.1 y36.2.1.1 y36.2.1.2.1 y36.2.1.2.2 y36.2.2.1 y36.2.2.2.1 y36.2.2.2.2∧Int.toNat (↑n'6:Int) - Int.toNat y36.1<Int.toNat (↑n'6:Int) - Int.toNat x10.1)∧(¬z18=u→(z19=u→((0:Nat) + x10.2.1.2.1≤List.length x10.2.1.1∧(0:Nat) + x10.2.1.2.2≤x10.2.1.2.2)∧True∧x10.2.1.2.1≤16777216∧(1:Nat)≤16777216∧∀ (L'37:List (List CV)) (n'38 c'39:Nat),L'37=List.take x10.2.1.2.1 (List.drop ((0:Nat)) x10.2.1.1) ++ [CV.i z12] :: U.nilL→n'38=x10.2.1.2.1 + (1:Nat)→n'38≤c'39→(0≤x10.1∧x10.1<(↑n'2:Int))∧∀ (j40:Nat),(↑j40:Int)=(↑((0:Nat)):Int) + x10.1→j40<List.length L'1∧∀ (z41:Int),z41=U.fi L'1 j40 ((0:Nat))→∀ (z42:Int),z42=U.fi L'1 j40 ((0:Nat) + (1:Nat))→∀ (z43:Int),z43=U.fi L'1 j40 ((0:Nat) + (1:Nat) + (1:Nat))→∀ (z44:Int),z44=U.fi L'1 j40 ((0:Nat) + (1:Nat) + (1:Nat) + (1:Nat))→∀ (z45:List Int),z45=U.fs L'1 j40 ((0:Nat) + (1:Nat) + (1:Nat) + (1:Nat) + (1:Nat))→∀ (z46:List Int),z46=U.fs L'1 j40 ((0:Nat) + (1:Nat) + (1:Nat) + (1:Nat) + (1:Nat) + (1:Nat))→∀ (z47:Int),z47=U.fi L'1 j40 ((0:Nat) + (1:Nat) + (1:Nat) + (1:Nat) + (1:Nat) + (1:Nat) + (1:Nat))→((0:Nat) + x10.2.2.2.1≤List.length x10.2.2.1∧(0:Nat) + x10.2.2.2.2≤x10.2.2.2.2)∧True∧x10.2.2.2.1≤16777216∧(1:Nat)≤16777216∧∀ (L'48:List (List CV)) (n'49 c'50:Nat),L'48=List.take x10.2.2.2.1 (List.drop ((0:Nat)) x10.2.2.1) ++ [CV.i z41,CV.i z42,CV.i z43,CV.i z44,CV.s z45,CV.s z46,CV.i z47] :: U.nilL→n'49=x10.2.2.2.1 + (1:Nat)→n'49≤c'50→∀ (z51:Int),z51=IntKind.wrap .i64 (x10.1 + (1:Int))→∃ (y52:Int × (Rws × Nat × Nat) × Rws × Nat × Nat),((0:Nat)=0∧n'38=y52.2.1.2.1∧c'39=y52.2.1.2.2)∧((0:Nat)=0∧n'49=y52.2.2.2.1∧c'50=y52.2.2.2.2)∧((0:Nat)=0∧n'2=n'2∧c'3=c'3)∧((0:Nat)=0∧n'6=n'6∧c'7=c'7)∧z8=z8∧z51=y52.1∧((0:Nat)=0∧n=n∧c=c)∧((0:Nat)=0∧n=n∧d=d)∧(64:Int)=64∧u=u∧(L=L∧c=c∧false=false)∧(M=M∧d=d∧false=false)∧(U.nilL=U.nilL∧(0:Nat)=0∧false=false)∧(U.nilL=U.nilL∧(0:Nat)=0∧false=false)∧(U.nilL=U.nilL∧(0:Nat)=0∧false=false)∧(L'1=L'1∧c'3=c'3∧false=false)∧(L'5=L'5∧c'7=c'7∧false=false)∧(L'37=y52.2.1.1∧c'39=y52.2.1.2.2∧false=false)∧(L'48=y52.2.2.1∧c'50=y52.2.2.2.2∧false=false)∧U.jbdpI P F y52.1 y52.2.1.1 y52.2.1.2.1 y52.2.1.2.2 y52.2.2.1 y52.2.2.2.1 y52.2.2.2.2∧Int.toNat (↑n'6:Int) - Int.toNat y52.1<Int.toNat (↑n'6:Int) - Int.toNat x10.1)∧(¬z19=u→∀ (z53:Int),z53=IntKind.wrap .i64 (x10.1 + (1:Int))→∃ (y54:Int × (Rws × Nat × Nat) × Rws × Nat × Nat),((0:Nat)=0∧x10.2.1.2.1=y54.2.1.2.1∧x10.2.1.2.2=y54.2.1.2.2)∧((0:Nat)=0∧x10.2.2.2.1=y54.2.2.2.1∧x10.2.2.2.2=y54.2.2.2.2)∧((0:Nat)=0∧n'2=n'2∧c'3=c'3)∧((0:Nat)=0∧n'6=n'6∧c'7=c'7)∧z8=z8∧z53=y54.1∧((0:Nat)=0∧n=n∧c=c)∧((0:Nat)=0∧n=n∧d=d)∧(64:Int)=64∧u=u∧(L=L∧c=c∧false=false)∧(M=M∧d=d∧false=false)∧(U.nilL=U.nilL∧(0:Nat)=0∧false=false)∧(U.nilL=U.nilL∧(0:Nat)=0∧false=false)∧(U.nilL=U.nilL∧(0:Nat)=0∧false=false)∧(L'1=L'1∧c'3=c'3∧false=false)∧(L'5=L'5∧c'7=c'7∧false=false)∧(x10.2.1.1=y54.2.1.1∧x10.2.1.2.2=y54.2.1.2.2∧false=false)∧(x10.2.2.1=y54.2.2.1∧x10.2.2.2.2=y54.2.2.2.2∧false=false)∧U.jbdpI P F y54.1 y54.2.1.1 y54.2.1.2.1 y54.2.1.2.2 y54.2.2.1 y54.2.2.2.1 y54.2.2.2.2∧Int.toNat (↑n'6:Int) - Int.toNat y54.1<Int.toNat (↑n'6:Int) - Int.toNat x10.1)))∧(¬x10.1<z8→∃ (y55:JBP),(x10.2.1.2.2=x10.2.1.2.2∧(c=c∧d=d∧n=n)∧U.jbshI n c L d M y55∧n≤100000∧x10.2.1.2.1≤List.length x10.2.1.1∧x10.2.1.2.1≤1000000∧U.jbSrtR x10.2.1.1 x10.2.1.2.1)∧∀ (n'56:Nat) (L'57 M'58:Rws) (P'59:JBP),n'56=U.jblen P'59→U.jbSwp y55 x10.2.1.1 x10.2.1.2.1 P'59→U.jbshI n'56 c L'57 d M'58 P'59→∀ (z60:Int),z60=(↑x10.2.2.2.1:Int)→(∃ (y61:Int × Nat × Nat × Rws × Nat × Rws),((0:Nat)=0∧x10.2.2.2.1=x10.2.2.2.1∧x10.2.2.2.2=x10.2.2.2.2)∧((0:Nat)=0∧x10.2.2.2.1=x10.2.2.2.1∧x10.2.2.2.2=x10.2.2.2.2)∧z60=z60∧0=y61.1∧((0:Nat)=0∧n'56=y61.2.1∧c=y61.2.2.1)∧((0:Nat)=0∧n'56=y61.2.1∧d=y61.2.2.2.2.1)∧(64:Int)=64∧u=u∧(U.nilL=U.nilL∧(0:Nat)=0∧false=false)∧(U.nilL=U.nilL∧(0:Nat)=0∧false=false)∧(U.nilL=U.nilL∧(0:Nat)=0∧false=false)∧(L'1=L'1∧c'3=c'3∧false=false)∧(L'5=L'5∧c'7=c'7∧false=false)∧(x10.2.1.1=x10.2.1.1∧x10.2.1.2.2=x10.2.1.2.2∧false=false)∧(x10.2.2.1=x10.2.2.1∧x10.2.2.2.2=x10.2.2.2.2∧false=false)∧(L'57=y61.2.2.2.1∧c=y61.2.2.1∧false=false)∧(M'58=y61.2.2.2.2.2∧d=y61.2.2.2.2.1∧false=false)∧U.jfoI P u y61.1 y61.2.1 y61.2.2.1 y61.2.2.2.1 y61.2.2.2.2.1 y61.2.2.2.2.2)∧∀ (x62:Int × Nat × Nat × Rws × Nat × Rws),U.jfoI P u x62.1 x62.2.1 x62.2.2.1 x62.2.2.2.1 x62.2.2.2.2.1 x62.2.2.2.2.2→(x62.1<z60→(0≤x62.1∧x62.1<(↑x10.2.2.2.1:Int))∧∀ (j63:Nat),(↑j63:Int)=(↑((0:Nat)):Int) + x62.1→j63<List.length x10.2.2.1∧∀ (z64:Int),z64=U.fi x10.2.2.1 j63 ((0:Nat))→∀ (z65:Int),z65=U.fi x10.2.2.1 j63 ((0:Nat) + (1:Nat))→∀ (z66:Int),z66=U.fi x10.2.2.1 j63 ((0:Nat) + (1:Nat) + (1:Nat))→∀ (z67:Int),z67=U.fi x10.2.2.1 j63 ((0:Nat) + (1:Nat) + (1:Nat) + (1:Nat))→∀ (z68:List Int),z68=U.fs x10.2.2.1 j63 ((0:Nat) + (1:Nat) + (1:Nat) + (1:Nat) + (1:Nat))→∀ (z69:List Int),z69=U.fs x10.2.2.1 j63 ((0:Nat) + (1:Nat) + (1:Nat) + (1:Nat) + (1:Nat) + (1:Nat))→∀ (z70:Int),z70=U.fi x10.2.2.1 j63 ((0:Nat) + (1:Nat) + (1:Nat) + (1:Nat) + (1:Nat) + (1:Nat) + (1:Nat))→(¬z68=u→∃ (y71:JBP),((x62.2.2.1=x62.2.2.1∧x62.2.2.2.2.1=x62.2.2.2.2.1∧x62.2.1=x62.2.1)∧U.jbshI x62.2.1 x62.2.2.1 x62.2.2.2.1 x62.2.2.2.2.1 x62.2.2.2.2.2 y71∧x62.2.1≤100000)∧(U.jbRoom y71 z64 (64:Int)→∀ (L'72:Rws) (n'73 c'74:Nat) (M'75:Rws) (d'76:Nat) (P'77:JBP),n'73=U.jblen P'77→U.jbPut y71 z64 ⟨z64,z65,z66,z67,z68,[],z70⟩ P'77→U.jbshI n'73 c'74 L'72 d'76 M'75 P'77→z64=z64∧z65=z65∧z66=z66∧z67=z67∧z68=z68∧z70=z70∧z64=z64∧∀ (z78:Int),z78=IntKind.wrap .i64 (x62.1 + (1:Int))→∃ (y79:Int × Nat × Nat × Rws × Nat × Rws),((0:Nat)=0∧x10.2.2.2.1=x10.2.2.2.1∧x10.2.2.2.2=x10.2.2.2.2)∧((0:Nat)=0∧x10.2.2.2.1=x10.2.2.2.1∧x10.2.2.2.2=x10.2.2.2.2)∧z60=z60∧z78=y79.1∧((0:Nat)=0∧n'73=y79.2.1∧c'74=y79.2.2.1)∧((0:Nat)=0∧n'73=y79.2.1∧d'76=y79.2.2.2.2.1)∧(64:Int)=64∧u=u∧(U.nilL=U.nilL∧(0:Nat)=0∧false=false)∧(U.nilL=U.nilL∧(0:Nat)=0∧false=false)∧(U.nilL=U.nilL∧(0:Nat)=0∧false=false)∧(L'1=L'1∧c'3=c'3∧false=false)∧(L'5=L'5∧c'7=c'7∧false=false)∧(x10.2.1.1=x10.2.1.1∧x10.2.1.2.2=x10.2.1.2.2∧false=false)∧(x10.2.2.1=x10.2.2.1∧x10.2.2.2.2=x10.2.2.2.2∧false=false)∧(L'72=y79.2.2.2.1∧c'74=y79.2.2.1∧false=false)∧(M'75=y79.2.2.2.2.2∧d'76=y79.2.2.2.2.1∧false=false)∧U.jfoI P u y79.1 y79.2.1 y79.2.2.1 y79.2.2.2.1 y79.2.2.2.2.1 y79.2.2.2.2.2∧Int.toNat (↑x10.2.2.2.1:Int) - Int.toNat y79.1<Int.toNat (↑x10.2.2.2.1:Int) - Int.toNat x62.1)∧(¬U.jbRoom y71 z64 (64:Int)→z64=z64∧z65=z65∧z66=z66∧z67=z67∧z68=z68∧z70=z70∧z64=z64∧∀ (z80:Int),z80=IntKind.wrap .i64 (x62.1 + (1:Int))→∃ (y81:Int × Nat × Nat × Rws × Nat × Rws),((0:Nat)=0∧x10.2.2.2.1=x10.2.2.2.1∧x10.2.2.2.2=x10.2.2.2.2)∧((0:Nat)=0∧x10.2.2.2.1=x10.2.2.2.1∧x10.2.2.2.2=x10.2.2.2.2)∧z60=z60∧z80=y81.1∧((0:Nat)=0∧x62.2.1=y81.2.1∧x62.2.2.1=y81.2.2.1)∧((0:Nat)=0∧x62.2.1=y81.2.1∧x62.2.2.2.2.1=y81.2.2.2.2.1)∧(64:Int)=64∧u=u∧(U.nilL=U.nilL∧(0:Nat)=0∧false=false)∧(U.nilL=U.nilL∧(0:Nat)=0∧false=false)∧(U.nilL=U.nilL∧(0:Nat)=0∧false=false)∧(L'1=L'1∧c'3=c'3∧false=false)∧(L'5=L'5∧c'7=c'7∧false=false)∧(x10.2.1.1=x10.2.1.1∧x10.2.1.2.2=x10.2.1.2.2∧false=false)∧(x10.2.2.1=x10.2.2.1∧x10.2.2.2.2=x10.2.2.2.2∧false=false)∧(x62.2.2.2.1=y81.2.2.2.1∧x62.2.2.1=y81.2.2.1∧false=false)∧(x62.2.2.2.2.2=y81.2.2.2.2.2∧x62.2.2.2.2.1=y81.2.2.2.2.1∧false=false)∧U.jfoI P u y81.1 y81.2.1 y81.2.2.1 y81.2.2.2.1 y81.2.2.2.2.1 y81.2.2.2.2.2∧Int.toNat (↑x10.2.2.2.1:Int) - Int.toNat y81.1<Int.toNat (↑x10.2.2.2.1:Int) - Int.toNat x62.1))∧(¬¬z68=u→∀ (z82:Int),z82=IntKind.wrap .i64 (x62.1 + (1:Int))→∃ (y83:Int × Nat × Nat × Rws × Nat × Rws),((0:Nat)=0∧x10.2.2.2.1=x10.2.2.2.1∧x10.2.2.2.2=x10.2.2.2.2)∧((0:Nat)=0∧x10.2.2.2.1=x10.2.2.2.1∧x10.2.2.2.2=x10.2.2.2.2)∧z60=z60∧z82=y83.1∧((0:Nat)=0∧x62.2.1=y83.2.1∧x62.2.2.1=y83.2.2.1)∧((0:Nat)=0∧x62.2.1=y83.2.1∧x62.2.2.2.2.1=y83.2.2.2.2.1)∧(64:Int)=64∧u=u∧(U.nilL=U.nilL∧(0:Nat)=0∧false=false)∧(U.nilL=U.nilL∧(0:Nat)=0∧false=false)∧(U.nilL=U.nilL∧(0:Nat)=0∧false=false)∧(L'1=L'1∧c'3=c'3∧false=false)∧(L'5=L'5∧c'7=c'7∧false=false)∧(x10.2.1.1=x10.2.1.1∧x10.2.1.2.2=x10.2.1.2.2∧false=false)∧(x10.2.2.1=x10.2.2.1∧x10.2.2.2.2=x10.2.2.2.2∧false=false)∧(x62.2.2.2.1=y83.2.2.2.1∧x62.2.2.1=y83.2.2.1∧false=false)∧(x62.2.2.2.2.2=y83.2.2.2.2.2∧x62.2.2.2.2.1=y83.2.2.2.2.1∧false=false)∧U.jfoI P u y83.1 y83.2.1 y83.2.2.1 y83.2.2.2.1 y83.2.2.2.2.1 y83.2.2.2.2.2∧Int.toNat (↑x10.2.2.2.1:Int) - Int.toNat y83.1<Int.toNat (↑x10.2.2.2.1:Int) - Int.toNat x62.1))∧(¬x62.1<z60→K (Sum.inl (Sum.inl (rslC ⟨2,7,0,x10.2.2.2.1,x10.2.2.2.2⟩))) ⟨[jtB,some ⟨nat_lit 94,[rslC ⟨3,1,0,x62.2.1,x62.2.2.1⟩,rslC ⟨4,7,0,x62.2.1,x62.2.2.2.2.1⟩,xintC .i64 (64:Int)],none,3,false⟩],[],0,[none,none,some (jbvB x10.2.2.1 x10.2.2.2.2),some (jbkB x62.2.2.2.1 x62.2.2.1),some (jbvB x62.2.2.2.2.2 x62.2.2.2.2.1)],0⟩)))) := by kernel_rfl
end Go.Proofs.Ytgopjjimafcgjaa
end

section
set_option linter.unusedVariables false
set_option linter.unusedSimpArgs false
set_option maxRecDepth 10000
namespace Go.Proofs.Ytgopjjimafcgjaa
open Go Reck Ost
theorem jI_sub {P Q : JBP} (h : U.jI P) (hs : ∀ k v, (k, v) ∈ Q → ∃ v', (k, v') ∈ P ∧ v.v0 = v'.v0 ∧ v.v1 = v'.v1 ∧ v.v2 = v'.v2 ∧ v.v3 = v'.v3 ∧ v.v4 = v'.v4 ∧ (v.v5 = [] ∨ v.v5 = v'.v5)) : U.jI Q := by
  refine ⟨fun k v hv => ?_, fun k v k' v' hv hv' he => ?_, fun k v k' v' hv hv' he he' => ?_⟩
  · obtain ⟨w, hw, e0, e1, e2, e3, e4, e5⟩ := hs k v hv
    have g := h.wf _ _ hw
    refine ⟨e0.trans g.1, ⟨by rw [e0]; exact g.2.mac, by rw [e2, e3]; exact g.2.pl, by rw [e4]; exact g.2.host, ?_⟩⟩
    rcases e5 with e5 | e5
    · exact .inl e5
    · rw [e5]; exact g.2.user
  · obtain ⟨w, hw, e0, e1, e2, e3, e4, e5⟩ := hs k v hv
    obtain ⟨w', hw', f0, f1, f2, f3, f4, f5⟩ := hs k' v' hv'
    exact h.ip _ _ _ _ hw hw' (by rw [← e1, ← f1]; exact he)
  · obtain ⟨w, hw, e0, e1, e2, e3, e4, e5⟩ := hs k v hv
    obtain ⟨w', hw', f0, f1, f2, f3, f4, f5⟩ := hs k' v' hv'
    exact h.pl _ _ _ _ hw hw' (by rw [← e2, ← f2]; exact he) (by rw [← e3, ← f3]; exact he')
theorem jfg_iff {u : List Int} (hu : ¬ u = []) {p : Int × JBv} : U.jFg u p = true ↔ (p.2.v4 = u ∨ p.2.v5 = u) := by
  unfold U.jFg
  rw [decide_eq_true_eq]
  exact ⟨fun h => h.2, fun h => ⟨hu, h⟩⟩
theorem jgone_mem {f : Int × JBv → Bool} {P : JBP} {p : Int × JBv} : p ∈ U.jGone f P ↔ p ∈ P ∧ f p = true := List.mem_filter
theorem jbk_sub {P Q : JBP} {u : List Int} {i : Int} (h : U.jBk P u i Q) : ∀ k v, (k, v) ∈ Q → ∃ v', (k, v') ∈ P ∧ v.v0 = v'.v0 ∧ v.v1 = v'.v1 ∧ v.v2 = v'.v2 ∧ v.v3 = v'.v3 ∧ v.v4 = v'.v4 ∧ (v.v5 = [] ∨ v.v5 = v'.v5) := by
  intro k v hv
  rcases (h.mem k v).1 hv with ⟨hm, _⟩ | ⟨w, hw, _, rfl⟩
  · exact ⟨v, hm, rfl, rfl, rfl, rfl, rfl, .inr rfl⟩
  · exact ⟨w, (jgone_mem.1 (List.mem_of_mem_take hw)).1, rfl, rfl, rfl, rfl, rfl, .inl rfl⟩
theorem jbk_0 {P : JBP} {u : List Int} (hu : ¬ u = []) (hs : U.jbSrt P) : U.jBk P u 0 (U.jRest (U.jFg u) P) := by
  refine ⟨jrest_srt hs _, fun x y => ?_⟩
  unfold U.jRest
  rw [List.mem_filter]
  constructor
  · rintro ⟨h1, h2⟩
    refine .inl ⟨h1, fun h => ?_⟩
    have := (jfg_iff hu (p := (x, y))).2 h
    rw [this] at h2; cases h2
  · rintro (⟨h1, h2⟩ | ⟨v, hv, _⟩)
    · refine ⟨h1, ?_⟩
      cases hf : U.jFg u (x, y) with
      | false => rfl
      | true => exact (h2 ((jfg_iff hu).1 hf)).elim
    · exact (List.not_mem_nil (show (x, v) ∈ ([] : JBP) from hv)).elim
theorem jtake_p {G : JBP} {i i' : Int} {j : Nat} {p : Int × JBv} (h0 : 0 ≤ i) (hj : (j : Int) = i) (hp : G[j]? = some p) (hi : i' = i + 1) {q : Int × JBv} : q ∈ G.take i'.toNat ↔ q ∈ G.take i.toNat ∨ q = p := by
  subst hi
  rw [jbtake1 h0 hj hp, List.mem_append, List.mem_singleton]
theorem jbk_skip {P Q : JBP} {u : List Int} {i i' : Int} {j : Nat} {p : Int × JBv} (h : U.jBk P u i Q) (h0 : 0 ≤ i) (hj : (j : Int) = i) (hp : (U.jGone (U.jFg u) P)[j]? = some p) (hi : i' = i + 1) (h4 : p.2.v4 = u) : U.jBk P u i' Q := by
  refine ⟨h.srt, fun x y => ?_⟩
  rw [h.mem]
  constructor
  · rintro (g | ⟨v, hv, hn, rfl⟩)
    · exact .inl g
    · exact .inr ⟨v, (jtake_p h0 hj hp hi).2 (.inl hv), hn, rfl⟩
  · rintro (g | ⟨v, hv, hn, rfl⟩)
    · exact .inl g
    · rcases (jtake_p h0 hj hp hi).1 hv with hv | rfl
      · exact .inr ⟨v, hv, hn, rfl⟩
      · exact (hn h4).elim
theorem jbk_fresh {P Q : JBP} {u : List Int} {i : Int} {j : Nat} {p : Int × JBv} (hu : ¬ u = []) (hs : U.jbSrt P) (h : U.jBk P u i Q) (hj : (j : Int) = i) (hp : (U.jGone (U.jFg u) P)[j]? = some p) : ∀ q ∈ Q, q.1 ≠ p.1 := by
  rintro ⟨x, y⟩ hq he
  have hg := jgone_mem.1 (List.mem_of_getElem? hp)
  have he : x = p.1 := he
  rcases (h.mem x y).1 hq with ⟨hm, hn⟩ | ⟨v, hv, _, _⟩
  · subst he
    have : y = p.2 := jbone hs hm hg.1
    subst this
    exact hn ((jfg_iff hu).1 hg.2)
  · obtain ⟨m, hm⟩ := List.getElem?_of_mem hv
    rw [List.getElem?_take] at hm
    split at hm
    · rename_i hlt
      obtain ⟨l1, g1⟩ := List.getElem?_eq_some_iff.1 hm
      obtain ⟨l2, g2⟩ := List.getElem?_eq_some_iff.1 hp
      have hsG : U.jbSrt (U.jGone (U.jFg u) P) := ⟨hs.out.sublist List.filter_sublist⟩
      have := List.pairwise_iff_getElem.1 hsG.out m j l1 l2 (by omega)
      rw [g1, g2] at this
      dsimp only at this
      omega
    · cases hm
theorem jbk_put {P Q Q' : JBP} {u : List Int} {i i' : Int} {j : Nat} {p : Int × JBv} (hu : ¬ u = []) (hs : U.jbSrt P) (h : U.jBk P u i Q) (h0 : 0 ≤ i) (hj : (j : Int) = i) (hp : (U.jGone (U.jFg u) P)[j]? = some p) (hi : i' = i + 1) (h4 : ¬ p.2.v4 = u) (hput : U.jbPut Q p.1 { p.2 with v5 := [] } Q') : U.jBk P u i' Q' := by
  have hf := jbk_fresh hu hs h hj hp
  refine ⟨hput.srt, fun x y => ?_⟩
  rw [hput.mem]
  constructor
  · rintro (⟨rfl, rfl⟩ | ⟨g, _⟩)
    · exact .inr ⟨p.2, (jtake_p h0 hj hp hi).2 (.inr rfl), h4, rfl⟩
    · rcases (h.mem x y).1 g with g | ⟨v, hv, hn, rfl⟩
      · exact .inl g
      · exact .inr ⟨v, (jtake_p h0 hj hp hi).2 (.inl hv), hn, rfl⟩
  · rintro (g | ⟨v, hv, hn, rfl⟩)
    · have := (h.mem x y).2 (.inl g)
      exact .inr ⟨this, hf _ this⟩
    · rcases (jtake_p h0 hj hp hi).1 hv with hv | he
      · have := (h.mem x _).2 (.inr ⟨v, hv, hn, rfl⟩)
        exact .inr ⟨this, hf _ this⟩
      · subst he; exact .inl ⟨rfl, rfl⟩
theorem jclr_fst (P : JBP) (u : List Int) : (U.jClr u P).map Prod.fst = P.map Prod.fst := by
  unfold U.jClr
  rw [List.map_map]
  apply List.map_congr_left
  intro p _
  show (if p.2.v5 = u then (p.1, { p.2 with v5 := [] }) else p).1 = p.1
  split <;> rfl
theorem jfo_mem {P : JBP} {u : List Int} {x : Int} {y : JBv} : (x, y) ∈ U.jFo u P ↔ ∃ v, (x, v) ∈ P ∧ ¬ (¬ u = [] ∧ v.v4 = u) ∧ y = if v.v5 = u then { v with v5 := [] } else v := by
  unfold U.jFo U.jClr
  rw [List.mem_map]
  constructor
  · rintro ⟨⟨k, v⟩, hm, he⟩
    obtain ⟨h1, h2⟩ := List.mem_filter.1 hm
    have h2 := of_decide_eq_true h2
    dsimp only at he h2
    split at he <;> rename_i h5
    · simp only [Prod.mk.injEq] at he
      obtain ⟨rfl, rfl⟩ := he
      exact ⟨v, h1, h2, by rw [if_pos h5]⟩
    · simp only [Prod.mk.injEq] at he
      obtain ⟨rfl, rfl⟩ := he
      exact ⟨v, h1, h2, by rw [if_neg h5]⟩
  · rintro ⟨v, h1, h2, rfl⟩
    refine ⟨(x, v), List.mem_filter.2 ⟨h1, decide_eq_true h2⟩, ?_⟩
    dsimp only
    split <;> rfl
theorem jfo_srt {P : JBP} (hs : U.jbSrt P) (u : List Int) : U.jbSrt (U.jFo u P) := by
  unfold U.jFo
  exact jsrt_fst (jclr_fst _ u) ⟨hs.out.sublist List.filter_sublist⟩
theorem jbk_end {P Q : JBP} {u : List Int} {i : Int} (hu : ¬ u = []) (hs : U.jbSrt P) (h : U.jBk P u i Q) (hi : ¬ i < (U.jGone (U.jFg u) P).length) (h0 : 0 ≤ i) : Q = U.jFo u P := by
  refine j_srt_eq h.srt (jfo_srt hs u) ?_
  rintro ⟨x, y⟩
  rw [h.mem, jfo_mem, List.take_of_length_le (by omega)]
  constructor
  · rintro (⟨h1, h2⟩ | ⟨v, hv, hn, rfl⟩)
    · exact ⟨y, h1, fun g => h2 (.inl g.2), by rw [if_neg fun g => h2 (.inr g)]⟩
    · obtain ⟨h1, h2⟩ := jgone_mem.1 hv
      rcases (jfg_iff hu).1 h2 with g | g
      · exact (hn g).elim
      · exact ⟨v, h1, fun k => hn k.2, by rw [if_pos g]⟩
  · rintro ⟨v, h1, h2, rfl⟩
    have h4 : ¬ v.v4 = u := fun g => h2 ⟨hu, g⟩
    by_cases h5 : v.v5 = u
    · rw [if_pos h5]
      exact .inr ⟨v, jgone_mem.2 ⟨h1, (jfg_iff hu).2 (.inr h5)⟩, h4, rfl⟩
    · rw [if_neg h5]
      exact .inl ⟨h1, fun g => g.elim h4 h5⟩
theorem jfo_nil {P : JBP} (hs : U.jbSrt P) : U.jFo [] P = P := by
  refine j_srt_eq (jfo_srt hs _) hs ?_
  rintro ⟨x, y⟩
  rw [jfo_mem]
  constructor
  · rintro ⟨v, h1, _, rfl⟩
    split
    · rename_i h5
      have : ({ v with v5 := [] } : JBv) = v := by cases v; simp at h5; subst h5; rfl
      rw [this]; exact h1
    · exact h1
  · intro h
    refine ⟨y, h, fun g => g.1 rfl, ?_⟩
    split
    · rename_i h5
      cases y; simp at h5; subst h5; rfl
    · rfl
theorem jgone_nil {P : JBP} : U.jGone (U.jFg []) P = [] := by
  unfold U.jGone
  rw [List.filter_eq_nil_iff]
  intro p _
  unfold U.jFg
  simp
theorem jfo_sub {P : JBP} {u : List Int} : ∀ k v, (k, v) ∈ U.jFo u P → ∃ v', (k, v') ∈ P ∧ v.v0 = v'.v0 ∧ v.v1 = v'.v1 ∧ v.v2 = v'.v2 ∧ v.v3 = v'.v3 ∧ v.v4 = v'.v4 ∧ (v.v5 = [] ∨ v.v5 = v'.v5) := by
  intro k v h
  obtain ⟨w, h1, h2, rfl⟩ := jfo_mem.1 h
  refine ⟨w, h1, ?_⟩
  split
  · exact ⟨rfl, rfl, rfl, rfl, rfl, .inl rfl⟩
  · exact ⟨rfl, rfl, rfl, rfl, rfl, .inr rfl⟩
set_option maxHeartbeats 4000000 in
theorem jforget_run (K : AV → St → Prop) (n c : Nat) (L : Rws) (d : Nat) (M : Rws) (P : JBP) (hQ : U.Jb n c L d M P) (u : List Int) (hK : (u = [] → K (cell (rslC ⟨2, 7, 0, 0, 0⟩)) (jSx n c L d M [] 0)) ∧ (¬ u = [] → ∀ (n' c' : Nat) (L' : Rws) (d' : Nat) (M' : Rws) (O : Rws) (r co : Nat), U.Jb n' c' L' d' M' (U.jFo u P) → U.jRw (U.jGone (U.jFg u) P) O r co → K (cell (rslC ⟨2, 7, 0, r, co⟩)) (jSy n' c' L' d' M' O co))) : runQ (invJfo P u (U.jFg u)) tJ2 23 [ptr 0 0, cell (strC u)] (jSt n c L d M) (U.Like K) := by
  have hl := hQ.s
  have hn := jb_n hQ
  have hvl : (U.jbvs P).length = P.length := by simp [U.jbvs]
  have hkl : (U.jbks P).length = P.length := by simp [U.jbks]
  rw [jforget_vc]
  refine ⟨fun hu => ?_, fun hu => ?_⟩
  · subst hu
    exact ⟨cell (rslC ⟨2, 7, 0, 0, 0⟩), fun _ _ h => h, hK.1 rfl⟩
  refine ⟨P, ⟨⟨rfl, rfl, rfl⟩, hl⟩, fun V n2 c3 e2 e3 e4 => ⟨P, ⟨⟨rfl, rfl, rfl⟩, hl⟩, fun KK n6 c7 e6 e7 e8 z8 h8 => ⟨?_, ?_⟩⟩⟩
  · refine ⟨(0, (([], (0, 0)), ([], (0, 0)))), ?_⟩
    repeat' (first | exact rfl | with_reducible apply And.intro)
    exact jbdp_0 P _
  subst e4 e8
  rintro ⟨i, ⟨G, r1, cg⟩, O, r, co⟩ hI
  obtain ⟨⟨i1, i2⟩, g1, o1, g2, g3, o2, o3, o4, o5⟩ := hI.out
  dsimp only at i1 i2 g1 o1 g2 g3 o2 o3 o4 o5 hI ⊢
  refine ⟨fun hi => ⟨⟨by omega, by omega⟩, fun j hj => ⟨by omega, fun z12 h12 => ⟨⟨by omega, by omega⟩, fun j13 hj13 => ⟨by omega, ?_⟩⟩⟩⟩, fun hi => ?_⟩
  · obtain rfl : j13 = j := by omega
    obtain ⟨p, hp⟩ : ∃ p, P[j13]? = some p := ⟨_, List.getElem?_eq_getElem (show j13 < P.length by omega)⟩
    obtain ⟨f0, f1, f2, f3, f4, f5, f6⟩ := jb_fi hp
    rw [(jbat hp).2.2] at h12
    subst h12
    rw [f0, f1, f2, f3, f4, f5, f6]
    rintro _ rfl _ rfl _ rfl _ rfl _ rfl _ rfl _ rfl
    refine ⟨fun a => ?_, fun a => ⟨fun b => ?_, fun b z20 h20 => ?_⟩⟩
    · have hF : U.jFg u p = true := (jfg_iff hu).2 (.inl a)
      refine ⟨⟨by omega, by omega⟩, trivial, by omega, by decide, fun L20 n21 c22 e20 e21 e22 => ⟨⟨by omega, by omega⟩, fun j23 hj23 => ⟨by omega, ?_⟩⟩⟩
      obtain rfl : j23 = j13 := by omega
      rw [f0, f1, f2, f3, f4, f5, f6]
      rintro _ rfl _ rfl _ rfl _ rfl _ rfl _ rfl _ rfl
      refine ⟨⟨by omega, by omega⟩, trivial, by omega, by decide, fun L29 n30 c31 e29 e30 e31 z32 h32 => ?_⟩
      have ez := iw h32 (by omega)
      refine ⟨(z32, ((L20, (n21, c22)), (L29, (n30, c31)))), ?_⟩
      repeat' (first | exact rfl | exact jbdp_yes hI (by omega) hp hF ez e20 e21 e22 e29 e30 e31 | with_reducible apply And.intro)
      dsimp only; omega
    · have hF : U.jFg u p = true := (jfg_iff hu).2 (.inr b)
      refine ⟨⟨by omega, by omega⟩, trivial, by omega, by decide, fun L20 n21 c22 e20 e21 e22 => ⟨⟨by omega, by omega⟩, fun j23 hj23 => ⟨by omega, ?_⟩⟩⟩
      obtain rfl : j23 = j13 := by omega
      rw [f0, f1, f2, f3, f4, f5, f6]
      rintro _ rfl _ rfl _ rfl _ rfl _ rfl _ rfl _ rfl
      refine ⟨⟨by omega, by omega⟩, trivial, by omega, by decide, fun L29 n30 c31 e29 e30 e31 z32 h32 => ?_⟩
      have ez := iw h32 (by omega)
      refine ⟨(z32, ((L20, (n21, c22)), (L29, (n30, c31)))), ?_⟩
      repeat' (first | exact rfl | exact jbdp_yes hI (by omega) hp hF ez e20 e21 e22 e29 e30 e31 | with_reducible apply And.intro)
      dsimp only; omega
    · have hF : U.jFg u p = false := by
        cases hf : U.jFg u p with
        | false => rfl
        | true => exact (((jfg_iff hu).1 hf).elim a b).elim
      have ez := iw h20 (by omega)
      refine ⟨(z20, ((G, (r1, cg)), (O, (r, co)))), ?_⟩
      repeat' (first | exact rfl | exact jbdp_no hI (by omega) hp hF ez | with_reducible apply And.intro)
      dsimp only; omega
  · obtain ⟨x1, x2, x3, x4, x5, x6⟩ := jbdp_end hl.srt hI (by omega)
    refine ⟨P, ⟨rfl, ⟨rfl, rfl, rfl⟩, hl, by omega, by omega, by omega, x5⟩, fun n37 L38 M39 P40 y1 y2 y3 z4 h4 => ?_⟩
    have hP := x6 _ y2
    subst hP
    have hgl : U.jblen (U.jGone (U.jFg u) P) = (U.jGone (U.jFg u) P).length := rfl
    have hgx : r = (U.jGone (U.jFg u) P).length := x4
    have hO : O = U.jbvs (U.jGone (U.jFg u) P) := x2
    have hOl : O.length = (U.jGone (U.jFg u) P).length := by rw [hO]; exact jvs_len _
    refine ⟨?_, ?_⟩
    · refine ⟨(0, (n37, (c, (L38, (d, M39))))), ?_⟩
      repeat' (first | exact rfl | with_reducible apply And.intro)
      refine ⟨by dsimp only; omega, _, jbk_0 hu hl.srt, y3, ?_⟩
      exact jI_sub hQ.i (jbk_sub (jbk_0 hu hl.srt))
    rintro ⟨a, n, ca, La, da, Ma⟩ hA
    obtain ⟨⟨a1, a2⟩, Q, hB, hJ⟩ := hA
    dsimp only at a1 a2 hB hJ ⊢
    refine ⟨fun ha => ⟨⟨by omega, by omega⟩, fun j hj => ⟨by omega, ?_⟩⟩, fun ha => ?_⟩
    · obtain ⟨p, hp⟩ : ∃ p, (U.jGone (U.jFg u) P)[j]? = some p := ⟨_, List.getElem?_eq_getElem (show j < (U.jGone (U.jFg u) P).length by omega)⟩
      obtain ⟨f0, f1, f2, f3, f4, f5, f6⟩ := jb_fi hp
      rw [← hO] at f0 f1 f2 f3 f4 f5 f6
      rw [f0, f1, f2, f3, f4, f5, f6]
      rintro _ rfl _ rfl _ rfl _ rfl _ rfl _ rfl _ rfl
      have hpP := (jgone_mem.1 (List.mem_of_getElem? hp)).1
      have hk : p.2.v0 = p.1 := (hQ.i.wf p.1 p.2 hpP).1
      refine ⟨fun h4 => ?_, fun h4 z82 h82 => ?_⟩
      · have hfr := jbk_fresh hu hl.srt hB (by omega) hp
        have hn' := jb_n hJ
        have hroom : Q.length < 64 := by
          have h1 := jlen_le (P := U.jIns Q { p.2 with v5 := [] }) (jI_sub hQ.i fun k v hv => by
            rcases jins_mem.1 hv with he | ⟨hv, _⟩
            · simp only [Prod.mk.injEq] at he
              obtain ⟨rfl, rfl⟩ := he
              exact ⟨p.2, by rw [hk]; exact hpP, rfl, rfl, rfl, rfl, rfl, .inl rfl⟩
            · exact jbk_sub hB k v hv) (jins_srt hB.srt _)
          rw [jins_len (fun q hq => by dsimp only; rw [hk]; exact hfr q hq)] at h1
          omega
        refine ⟨Q, ⟨⟨rfl, rfl, rfl⟩, hJ.s, by omega⟩, fun _ L5 n5 c5 M5 d5 P5 z1 z2 z3 => ?_, fun h => (h ⟨.inr (by omega)⟩).elim⟩
        repeat' (first | exact rfl | with_reducible apply And.intro)
        intro z78 h78
        have ez := iw h78 (by omega)
        have hB' := jbk_put hu hl.srt hB a1 (by omega) hp ez h4 (show U.jbPut Q p.1 { p.2 with v5 := [] } P5 by rw [← hk]; exact z2)
        refine ⟨(z78, (n5, (c5, (L5, (d5, M5))))), ?_⟩
        repeat' (first | exact rfl | with_reducible apply And.intro)
        · exact ⟨by dsimp only; omega, _, hB', z3, jI_sub hQ.i (jbk_sub hB')⟩
        · dsimp only; omega
      · have ez := iw h82 (by omega)
        have hB' := jbk_skip hB a1 (by omega) hp ez (Classical.not_not.1 h4)
        refine ⟨(z82, (n, (ca, (La, (da, Ma))))), ?_⟩
        repeat' (first | exact rfl | with_reducible apply And.intro)
        · exact ⟨by dsimp only; omega, _, hB', hJ⟩
        · dsimp only; omega
    · have hQe := jbk_end hu hl.srt hB (by omega) a1
      subst hQe
      exact ⟨_, fun _ _ h => h, hK.2 hu _ _ _ _ _ _ _ _ hJ ⟨hO, hgx, o3, by omega⟩⟩
def pjforget : Pat := fun args σ => match args with
  | [.inl (.inl (.inr (.inl (0, 0)))), a0] => match strX a0, jC σ with
    | some u, some (n, c, L, d, M) => some fun K => ∃ P : JBP, (jD σ ∧ U.Jb n c L d M P) ∧ (u = [] → K (cell (rslC ⟨2, 7, 0, 0, 0⟩)) (jSx n c L d M [] 0)) ∧ (¬ u = [] → ∀ (n' c' : Nat) (L' : Rws) (d' : Nat) (M' : Rws) (O : Rws) (r co : Nat), U.Jb n' c' L' d' M' (U.jFo u P) → U.jRw (U.jGone (U.jFg u) P) O r co → K (cell (rslC ⟨2, 7, 0, r, co⟩)) (jSy n' c' L' d' M' O co))
    | _, _ => none
  | _ => none
theorem pjforget_ok : PatOk 23 pjforget := by
  intro tm σ C h K hK w0 e w hk vs hvs
  unfold pjforget at h
  split at h
  · split at h
    · rename_i h0 hσ
      simp only [Option.some.injEq] at h; subst h
      obtain ⟨P, ⟨hd, hQ⟩, hP⟩ := hK
      obtain rfl := jC_eq hσ hd
      obtain ⟨y0, y1, rfl, q0, q1⟩ := twos hvs
      exact like_ok (knownD noOv names opMK_ok (conOk_ofR tJ2_ok) (jforget_run K _ _ _ _ _ P hQ _ hP) w0 e w hk _ (map2 q0 (as_str h0 q1)))
    · cases h
  · cases h
def tJ6 : Tbl := tblOr (tblIf 23 pjforget) tJ4
theorem tJ6_ok : TblOk Try.prog tJ6 := tblOr_ok (tblIf_ok pjforget_ok) tJ4_ok
end Go.Proofs.Ytgopjjimafcgjaa
end
