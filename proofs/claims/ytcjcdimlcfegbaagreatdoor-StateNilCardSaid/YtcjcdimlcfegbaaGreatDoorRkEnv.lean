/- A reckoner of calls: what its cells stand for; operations without memory. No condition. -/
import Derived.Test.YtcjcdimlcfegbaaGreatDoorRkDef
import Derived.Test.YtcjcdimlcfegbaaGreatDoorBase
set_option linter.unusedVariables false
set_option linter.unusedSimpArgs false
namespace Reck
open Go Ost

theorem seqO_some {α : Type} : ∀ {l : List (Option α)} {xs : List α}, seqO l = some xs ↔ l = xs.map some
  | [], xs => by cases xs <;> simp [seqO]
  | none :: l, xs => by cases xs <;> simp [seqO]
  | some x :: l, xs => by
    cases h : seqO l with
    | none =>
      simp only [seqO, h]
      constructor
      · intro h; cases h
      · intro he
        cases xs with
        | nil => simp at he
        | cons y ys =>
          simp at he
          have := (seqO_some (l := l) (xs := ys)).2 he.2
          rw [h] at this; cases this
    | some ys =>
      have := (seqO_some (l := l) (xs := ys)).1 h
      simp only [seqO, h]
      subst this
      constructor
      · intro he; simp at he; subst he; simp
      · intro he
        cases xs with
        | nil => simp at he
        | cons z zs =>
          simp at he
          obtain ⟨rfl, h2⟩ := he
          have : ys = zs := (List.map_inj_right (fun _ _ h => Option.some.inj h)).1 h2
          rw [this]

def capv (e : Env) (j : Option Nat) (c : Nat) : Option Nat :=
  match j with
  | none => some c
  | some j => match e.int[j]? with
    | some (.ofNat m) => some (m - c)
    | _ => none
def ptrV (e : Env) (p : Nat × Nat) : Option Value :=
  match e.blk[p.1]? with
  | some q => some (.pointer (some ⟨q.1, q.2 + p.2, none⟩))
  | none => none
/-- A function with what it captured; from this number on: with what was bound to its first places. -/
def funcV (f : FuncId) (vs : List Value) : Value := if Nat.blt f 1048576 then .func (.func f) #[] vs.toArray else .func (.func (f - 1048576)) vs.toArray #[]
/-- What a cell stands for. -/
def cv (e : Env) : Cell → Option Value
  | .inl v => some v
  | .inr (.inl p) => ptrV e p
  | .inr (.inr (.inl s)) => match e.blk[s.b]?, capv e s.j s.c with
    | some q, some c => if s.n ≤ c then some (.slice (some ⟨q.1, q.2 + s.o, none⟩) s.n c) else none
    | _, _ => none
  | .inr (.inr (.inr (.inl (k, i)))) => match e.int[i]? with
    | some n => some (.int k n)
    | none => none
  | .inr (.inr (.inr (.inr (.inl (f, l))))) => match seqO (l.map (ptrV e)) with
    | some vs => some (funcV f vs)
    | none => none
  | .inr (.inr (.inr (.inr (.inr (.inl i))))) => e.opq[i]?
  | .inr (.inr (.inr (.inr (.inr (.inr (.inl (k, n))))))) => some (.int k n)
  | .inr (.inr (.inr (.inr (.inr (.inr (.inr (.inl s))))))) => match e.arr[s.a]? with
    | some (.inl A) => if s.n = 0 ∧ s.c = 0 then some (.slice A 0 0) else none
    | some (.inr q) => if s.n ≤ s.c then some (.slice (some ⟨q.1, q.2 + s.o, none⟩) s.n s.c) else none
    | none => none
  | .inr (.inr (.inr (.inr (.inr (.inr (.inr (.inr (.inl (a, j))))))))) => match e.arr[a]? with
    | some (.inr q) => some (.pointer (some ⟨q.1, q.2 + j, none⟩))
    | _ => none
  | .inr (.inr (.inr (.inr (.inr (.inr (.inr (.inr (.inr (.inl j))))))))) => e.junk[j]?
  | .inr (.inr (.inr (.inr (.inr (.inr (.inr (.inr (.inr (.inr (.inl l)))))))))) => if l.all byteZ then some (.string (strZ l)) else none
  | .inr (.inr (.inr (.inr (.inr (.inr (.inr (.inr (.inr (.inr (.inr (.inl s))))))))))) => match e.arr[s.a]? with
    | some (.inl A) => if s.n = 0 ∧ s.c = 0 then some (.slice A 0 0) else none
    | some (.inr q) => if s.n ≤ s.c then some (.slice (some ⟨q.1, q.2 + s.o * s.u, none⟩) s.n s.c) else none
    | none => none
  | .inr (.inr (.inr (.inr (.inr (.inr (.inr (.inr (.inr (.inr (.inr (.inr (.inl p)))))))))))) => match e.arr[p.a]? with
    | some (.inr q) => some (.pointer (some ⟨q.1, q.2 + (p.m * p.u + p.f), none⟩))
    | _ => none
  | .inr (.inr (.inr (.inr (.inr (.inr (.inr (.inr (.inr (.inr (.inr (.inr (.inr (.inl p))))))))))))) => bfV p
  | .inr (.inr (.inr (.inr (.inr (.inr (.inr (.inr (.inr (.inr (.inr (.inr (.inr (.inr x))))))))))))) => if x.oneCell' then some x else none
def v1 (e : Env) : V1 → Option Value
  | .inl c => cv e c
  | .inr l => match seqO (l.map (cv e)) with
    | some vs => some (.agg vs.toArray)
    | none => none
def av (e : Env) : AV → Option Value
  | .inl x => v1 e x
  | .inr l => match seqO (l.map (v1 e)) with
    | some vs => some (.tuple vs.toArray)
    | none => none

/-- More is known. -/
structure Env.le (e e' : Env) : Prop where
  blk : e.blk <+: e'.blk
  int : e.int <+: e'.int
  opq : e.opq <+: e'.opq
  arr : e.arr <+: e'.arr
  S : e'.S = e.S
  junk : e.junk <+: e'.junk
  Z : e'.Z = e.Z

theorem Env.le.refl (e : Env) : e.le e := ⟨List.prefix_rfl, List.prefix_rfl, List.prefix_rfl, List.prefix_rfl, rfl, List.prefix_rfl, rfl⟩
theorem Env.le.trans {a b c : Env} (h : a.le b) (k : b.le c) : a.le c := ⟨h.blk.trans k.blk, h.int.trans k.int, h.opq.trans k.opq, h.arr.trans k.arr, k.S.trans h.S, h.junk.trans k.junk, k.Z.trans h.Z⟩

theorem pre_get {α : Type} {l l' : List α} (h : l <+: l') {i : Nat} {x : α} (hx : l[i]? = some x) : l'[i]? = some x := by
  obtain ⟨t, rfl⟩ := h
  rw [List.getElem?_append_left (List.getElem?_eq_some_iff.1 hx).1]; exact hx

theorem map_some_mono {α β : Type} {f g : α → Option β} (h : ∀ x y, f x = some y → g x = some y) : ∀ {l : List α} {ys : List β}, l.map f = ys.map some → l.map g = ys.map some
  | [], ys, he => by cases ys <;> simp at he ⊢
  | x :: l, [], he => by simp at he
  | x :: l, y :: ys, he => by
    simp at he
    simp [h x y he.1, map_some_mono h he.2]

theorem capv_mono {e e' : Env} (h : e.le e') {j : Option Nat} {c n : Nat} (hc : capv e j c = some n) : capv e' j c = some n := by
  cases j with
  | none => exact hc
  | some j =>
    simp only [capv] at hc ⊢
    cases hi : e.int[j]? with
    | none => simp [hi] at hc
    | some m => rw [hi] at hc; rw [pre_get h.int hi]; exact hc
theorem ptrV_mono {e e' : Env} (h : e.le e') (p : Nat × Nat) (v : Value) (hv : ptrV e p = some v) : ptrV e' p = some v := by
  unfold ptrV at hv ⊢
  cases hb : e.blk[p.1]? with
  | none => simp [hb] at hv
  | some q => rw [hb] at hv; rw [pre_get h.blk hb]; exact hv
theorem cv_mono {e e' : Env} (h : e.le e') (c : Cell) (v : Value) (hv : cv e c = some v) : cv e' c = some v := by
  rcases c with x | p | s | ⟨k, i⟩ | ⟨f, l⟩ | i | ⟨k, n⟩ | s | ⟨a, j⟩ | j | l | s | p | q | y
  · exact hv
  · exact ptrV_mono h p v hv
  · simp only [cv] at hv ⊢
    cases hb : e.blk[s.b]? with
    | none => simp [hb] at hv
    | some q =>
      cases hc : capv e s.j s.c with
      | none => simp [hb, hc] at hv
      | some c => rw [pre_get h.blk hb, capv_mono h hc]; simpa [hb, hc] using hv
  · simp only [cv] at hv ⊢
    cases hi : e.int[i]? with
    | none => simp [hi] at hv
    | some n => rw [pre_get h.int hi]; simpa [hi] using hv
  · simp only [cv] at hv ⊢
    cases hl : seqO (l.map (ptrV e)) with
    | none => simp [hl] at hv
    | some vs =>
      have := seqO_some.2 (map_some_mono (ptrV_mono h) (seqO_some.1 hl))
      rw [this]; simpa [hl] using hv
  · exact pre_get h.opq hv
  · exact hv
  · simp only [cv] at hv ⊢
    cases hb : e.arr[s.a]? with
    | none => simp [hb] at hv
    | some q => rw [hb] at hv; rw [pre_get h.arr hb]; exact hv
  · simp only [cv] at hv ⊢
    cases hb : e.arr[a]? with
    | none => simp [hb] at hv
    | some q => rw [hb] at hv; rw [pre_get h.arr hb]; exact hv
  · exact pre_get h.junk hv
  · exact hv
  · simp only [cv] at hv ⊢
    cases hb : e.arr[s.a]? with
    | none => simp [hb] at hv
    | some q => rw [hb] at hv; rw [pre_get h.arr hb]; exact hv
  · simp only [cv] at hv ⊢
    cases hb : e.arr[p.a]? with
    | none => simp [hb] at hv
    | some q => rw [hb] at hv; rw [pre_get h.arr hb]; exact hv
  · exact hv
  · exact hv
theorem v1_mono {e e' : Env} (h : e.le e') (x : V1) (v : Value) (hv : v1 e x = some v) : v1 e' x = some v := by
  rcases x with c | l
  · exact cv_mono h c v hv
  · simp only [v1] at hv ⊢
    cases hl : seqO (l.map (cv e)) with
    | none => simp [hl] at hv
    | some vs =>
      have := seqO_some.2 (map_some_mono (cv_mono h) (seqO_some.1 hl))
      rw [this]; simpa [hl] using hv
theorem av_mono {e e' : Env} (h : e.le e') (x : AV) (v : Value) (hv : av e x = some v) : av e' x = some v := by
  rcases x with c | l
  · exact v1_mono h c v hv
  · simp only [av] at hv ⊢
    cases hl : seqO (l.map (v1 e)) with
    | none => simp [hl] at hv
    | some vs =>
      have := seqO_some.2 (map_some_mono (v1_mono h) (seqO_some.1 hl))
      rw [this]; simpa [hl] using hv

/-! ### Values without addresses -/
theorem litC_cv {e : Env} (c : Cell) (v : Value) (h : litC c = some v) : cv e c = some v := by
  rcases c with x | r
  · exact h
  · simp [litC] at h
theorem lit1_v1 {e : Env} (x : V1) (v : Value) (h : lit1 x = some v) : v1 e x = some v := by
  rcases x with c | l
  · exact litC_cv c v h
  · simp only [lit1] at h
    cases hl : seqO (l.map litC) with
    | none => simp [hl] at h
    | some vs =>
      have := seqO_some.2 (map_some_mono (g := cv e) litC_cv (seqO_some.1 hl))
      simp only [v1, this]; simpa [hl] using h
theorem litA_av {e : Env} (x : AV) (v : Value) (h : litA x = some v) : av e x = some v := by
  rcases x with c | l
  · exact lit1_v1 c v h
  · simp only [litA] at h
    cases hl : seqO (l.map lit1) with
    | none => simp [hl] at h
    | some vs =>
      have := seqO_some.2 (map_some_mono (g := v1 e) lit1_v1 (seqO_some.1 hl))
      simp only [av, this]; simpa [hl] using h

theorem of1_v1 (e : Env) (v : Value) : v1 e (of1 v) = some v := by
  cases v <;> try rfl
  case agg cs =>
    have : seqO ((cs.toList.map (Sum.inl : Value → Cell)).map (cv e)) = some cs.toList := seqO_some.2 (by simp [Function.comp_def, cv])
    simp only [of1, v1, this]
theorem ofA_av (e : Env) (v : Value) : av e (ofA v) = some v := by
  cases v <;> try (simp only [ofA, av]; exact of1_v1 e _)
  case tuple vs =>
    have : seqO ((vs.toList.map of1).map (v1 e)) = some vs.toList := seqO_some.2 (by simp [Function.comp_def, of1_v1])
    simp only [ofA, av, this]
theorem lit_av (e : Env) (v : Value) : av e (lit v) = some v := ofA_av e v

/-- The temporaries stand for the frame's. -/
def Tm (e : Env) (tm : List AV) (a : Act) : Prop := tm.map (av e) = a.tmps.toList.map some ∧ a.defers = []

theorem Tm.mono {e e' : Env} {tm : List AV} {a : Act} (h : Tm e tm a) (hl : e.le e') : Tm e' tm a := ⟨map_some_mono (av_mono hl) h.1, h.2⟩
theorem Tm.len {e : Env} {tm : List AV} {a : Act} (h : Tm e tm a) : tm.length = a.tmps.size := by
  have := congrArg List.length h.1; simpa using this
theorem Tm.get {e : Env} {tm : List AV} {a : Act} (h : Tm e tm a) (t : Nat) : av e (tm.getD t (ofA undef)) = some (a.tmps.getD t undef) := by
  have h1 : (tm.map (av e))[t]? = (a.tmps.toList.map some)[t]? := by rw [h.1]
  rw [List.getElem?_map, List.getElem?_map, Array.getElem?_toList (xs := a.tmps)] at h1
  rw [List.getD_eq_getElem?_getD, Array.getD_eq_getD_getElem?]
  cases ht : tm[t]? with
  | none =>
    rw [ht] at h1
    cases ha : a.tmps[t]? with
    | none => simpa using ofA_av e undef
    | some v => rw [ha] at h1; simp at h1
  | some x =>
    rw [ht] at h1
    cases ha : a.tmps[t]? with
    | none => rw [ha] at h1; simp at h1
    | some v => rw [ha] at h1; simpa using h1
theorem evalA_ok {e : Env} {tm : List AV} {a : Act} (h : Tm e tm a) (x : Operand) : av e (evalA tm x) = some (a.eval x) := by
  cases x with
  | tmp t => exact h.get t
  | const v => exact ofA_av e v
  | global g => exact ofA_av e (.pointer (some ⟨g, 0, none⟩))
  | func f => exact ofA_av e (.func (.func f) #[] #[])
theorem evs_ok {e : Env} {tm : List AV} {a : Act} (h : Tm e tm a) (l : List Operand) : (evs tm l).map (av e) = (l.map a.eval).map some := by
  simp [evs, Function.comp_def, evalA_ok h]

theorem Tm.put {e : Env} {tm : List AV} {a : Act} (h : Tm e tm a) (d : Option Tmp) {x : AV} {v : Value} (hv : av e x = some v) : Tm e (putA tm d x) (a.put d v) := by
  cases d with
  | none => exact h
  | some d =>
    refine ⟨?_, h.2⟩
    simp only [putA, Act.put]
    rw [List.map_set, h.1, Array.toList_setIfInBounds, List.map_set, hv]

theorem pureRun_ok {α : Type} (P : Program) : ∀ (m : Sem α) (x : α), pureRun P m = some x → ∀ w, m.run P w = .ok x w := by
  intro m
  induction m with
  | pure a => intro x h w; simp [pureRun] at h; subst h; rfl
  | program k ih => intro x h w; exact ih P x h w
  | mark _ k ih => intro x h w; exact ih x h w
  | _ => intro x h; simp [pureRun] at h

theorem pureOp_ok {P : Program} {e : Env} {tm : List AV} {a : Act} (h : Tm e tm a) {o : Oper} {v : Value} (hp : pureOp P tm o = some v) (w : World) : (execOp a.eval o).run P w = .ok (.value v) w := by
  unfold pureOp at hp
  have key : (∀ cs b, o.op ≠ .select cs b) ∧ (if o.op.operands.toList.all (fun x => (litA (evalA tm x)).isSome) = true then
      match pureRun P (execOp (fun x => (litA (evalA tm x)).getD undef) o) with
      | some (.value v) => some v
      | _ => none
    else none) = some v := by
    split at hp
    · cases hp
    · rename_i hne; exact ⟨fun cs b he => hne cs b he, hp⟩
  obtain ⟨hs, hp⟩ := key
  split at hp
  · rename_i hall
    split at hp
    · rename_i u hu
      simp at hp; subst hp
      have := pureRun_ok P _ _ hu w
      rw [← this]
      congr 1
      refine execOp_congr o hs fun x hx => ?_
      have hx2 := List.all_eq_true.1 hall x (by simpa using hx)
      obtain ⟨y, hy⟩ := Option.isSome_iff_exists.1 hx2
      have h1 := litA_av (e := e) _ _ hy
      rw [evalA_ok h] at h1
      rw [hy]; simpa using h1
    · cases hp
  · cases hp

end Reck
