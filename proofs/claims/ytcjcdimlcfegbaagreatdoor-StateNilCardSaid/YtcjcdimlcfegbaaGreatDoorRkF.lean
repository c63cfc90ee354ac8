/- A reckoner of calls: a call that is known on what it can reach alone is known wherever that lies. No condition. -/
import Derived.Test.YtcjcdimlcfegbaaGreatDoorRkMem2
set_option linter.unusedVariables false
set_option linter.unusedSimpArgs false
namespace Reck
open Go Ost

/-- Numbers are told as open ones. -/
def openC : Cell → Cell
  | .inl (.int k n) => xintC k n
  | c => c
def open1 : V1 → V1
  | .inl c => .inl (openC c)
  | .inr l => .inr (l.map openC)
def openV : AV → AV
  | .inl x => .inl (open1 x)
  | .inr l => .inr (l.map open1)
theorem openC_cv (e : Env) (c : Cell) : cv e (openC c) = cv e c := by
  rcases c with v | r
  · cases v <;> rfl
  · rfl
theorem open1_v1 (e : Env) (x : V1) : v1 e (open1 x) = v1 e x := by
  rcases x with c | l
  · exact openC_cv e c
  · simp only [open1, v1, List.map_map, Function.comp_def, openC_cv]
theorem openV_av (e : Env) (x : AV) : av e (openV x) = av e x := by
  rcases x with c | l
  · exact open1_v1 e c
  · simp only [openV, av, List.map_map, Function.comp_def, open1_v1]
def openSt (σ : St) : St := ⟨σ.heap.map fun x => match x with
    | some x => some ⟨x.elem, x.cells.map openC, x.j, x.c, x.z⟩
    | none => none, σ.ints, σ.opqs, σ.arrs, σ.junks⟩
theorem owned_open {e : Env} {σ : St} {g : Nat} : owned e (openSt σ) g ↔ owned e σ g := by
  constructor
  · rintro (⟨b, y, q, h1, h2, h3⟩ | h)
    · simp only [openSt, List.getElem?_map] at h1
      cases hx : σ.heap[b]? with
      | none => simp [hx] at h1
      | some o =>
        rw [hx] at h1
        cases o with
        | none => simp at h1
        | some x => exact .inl ⟨b, x, q, hx, h2, h3⟩
    · exact .inr h
  · rintro (⟨b, y, q, h1, h2, h3⟩ | h)
    · exact .inl ⟨b, ⟨y.elem, y.cells.map openC, y.j, y.c, y.z⟩, q, by simp [openSt, h1], h2, h3⟩
    · exact .inr h
theorem openSt_ok {w0 w : World} {e : Env} {σ : St} (hk : Ok w0 e σ w) : Ok w0 e (openSt σ) w := by
  have hb : ∀ (b : Nat) y, (openSt σ).heap[b]? = some (some y) → ∃ x, σ.heap[b]? = some (some x) ∧ y = ⟨x.elem, x.cells.map openC, x.j, x.c, x.z⟩ := by
    intro b y h
    simp only [openSt, List.getElem?_map] at h
    cases hx : σ.heap[b]? with
    | none => simp [hx] at h
    | some o =>
      rw [hx] at h
      cases o with
      | none => simp at h
      | some x => simp at h; exact ⟨x, rfl, h.symm⟩
  refine ⟨hk.only, by simpa [openSt] using hk.blks, hk.ints, hk.opqs, hk.bnd, hk.opq, ?_, ?_, ⟨hk.arrs.len, hk.arrs.ok, ?_, hk.arrs.apart⟩, hk.junks, hk.froz.same rfl rfl rfl (fun g ho => ?_)⟩
  · intro b y q g1 g2
    obtain ⟨x, k1, rfl⟩ := hb b y g1
    obtain ⟨m1, cur, fz, m2, m3, m4, m5⟩ := hk.blk b x q k1 g2
    refine ⟨m1, cur, fz, m2, ?_, m4, m5⟩
    intro j c hc
    simp only [List.getElem?_map] at hc
    cases hx : x.cells[j]? with
    | none => simp [hx] at hc
    | some d =>
      rw [hx] at hc
      simp only [Option.map_some, Option.some.injEq] at hc
      subst hc
      obtain ⟨v, n1, n2⟩ := m3 j d hx
      exact ⟨v, by rw [openC_cv]; exact n1, n2⟩
  · intro b1 b2 y1 y2 q1 q2 hne g1 g2 g3 g4
    obtain ⟨x1, k1, _⟩ := hb b1 y1 g1
    obtain ⟨x2, k2, _⟩ := hb b2 y2 g2
    exact hk.apart b1 b2 x1 x2 q1 q2 hne k1 k2 g3 g4
  · intro a x q b y q' h1 h2 h3 h4 h5
    obtain ⟨x2, k2, _⟩ := hb b y h4
    exact hk.arrs.off a x q b x2 q' h1 h2 h3 k2 h5
  · exact owned_open.1 ho

/-! ### What a call can reach -/
def refB : Cell → List Nat
  | .inr (.inl p) => [p.1]
  | .inr (.inr (.inl s)) => [s.b]
  | .inr (.inr (.inr (.inr (.inl p)))) => p.2.map (·.1)
  | _ => []
def refA : Cell → List Nat
  | .inr (.inr (.inr (.inr (.inr (.inr (.inr (.inl s))))))) => [s.a]
  | .inr (.inr (.inr (.inr (.inr (.inr (.inr (.inr (.inl p)))))))) => [p.1]
  | .inr (.inr (.inr (.inr (.inr (.inr (.inr (.inr (.inr (.inr (.inr (.inl s))))))))))) => [s.a]
  | .inr (.inr (.inr (.inr (.inr (.inr (.inr (.inr (.inr (.inr (.inr (.inr (.inl p)))))))))))) => [p.a]
  | _ => []
def addNew (l : List Nat) : List Nat → List Nat
  | [] => l
  | x :: m => match place l x with
    | some _ => addNew l m
    | none => addNew (l ++ [x]) m
def newOnes (l : List Nat) : List Nat → List Nat
  | [] => []
  | x :: m => match place l x with
    | some _ => newOnes l m
    | none => x :: newOnes (l ++ [x]) m
def cells1 : V1 → List Cell
  | .inl c => [c]
  | .inr l => l
def cellsV : AV → List Cell
  | .inl x => cells1 x
  | .inr l => l.flatMap cells1
def gather (σ : St) : Nat → List Cell → List Nat × List Nat → List Nat × List Nat
  | 0, _, acc => acc
  | _ + 1, [], acc => acc
  | n + 1, c :: l, acc => gather σ n ((newOnes acc.1 (refB c)).flatMap (fun b => match getBlk σ b with
      | some x => x.cells
      | none => []) ++ l) (addNew acc.1 (refB c), addNew acc.2 (refA c))
/-- The program's own variables are reached by all. -/
def globsOf : Nat → List (Option ABlk) → List Nat
  | _, [] => []
  | i, some x :: l => match x.k with
    | .o (.glob _ _) => i :: globsOf (i + 1) l
    | .o (.frz _) => i :: globsOf (i + 1) l
    | _ => globsOf (i + 1) l
  | i, none :: l => globsOf (i + 1) l
def reachG (g : Bool) (σ : St) (args : List AV) : List Nat × List Nat := gather σ 400 (args.flatMap cellsV) ([], if g then globsOf 0 σ.arrs else [])

/-- A state without what is not reached. -/
def subRen (g : Bool) (σ : St) (args : List AV) : Ren := ⟨0, 0, 0, 0, 0, (reachG g σ args).1, (reachG g σ args).2, []⟩

/-! ### And back -/
def backN (n : Nat) (m : List Nat) (b : Nat) : Nat :=
  match m[b]? with
  | some x => x
  | none => n + (b - m.length)
structure Back where
  nb : Nat
  ni : Nat
  no : Nat
  na : Nat
  nj : Nat
  mb : List Nat
  ma : List Nat
def backP (R : Back) (p : Nat × Nat) : Nat × Nat := (backN R.nb R.mb p.1, p.2)
def backJ (R : Back) : Option Nat → Option Nat
  | none => none
  | some j => some (R.ni + j)
def backC (R : Back) : Cell → Cell
  | .inl v => .inl v
  | .inr (.inl p) => .inr (.inl (backP R p))
  | .inr (.inr (.inl s)) => .inr (.inr (.inl ⟨backN R.nb R.mb s.b, s.o, s.n, backJ R s.j, s.c⟩))
  | .inr (.inr (.inr (.inl (k, i)))) => intC k (R.ni + i)
  | .inr (.inr (.inr (.inr (.inl (f, l))))) => .inr (.inr (.inr (.inr (.inl (f, l.map (backP R))))))
  | .inr (.inr (.inr (.inr (.inr (.inl i))))) => opqC (R.no + i)
  | .inr (.inr (.inr (.inr (.inr (.inr (.inl (k, n))))))) => xintC k n
  | .inr (.inr (.inr (.inr (.inr (.inr (.inr (.inl s))))))) => aslC ⟨backN R.na R.ma s.a, s.o, s.n, s.c⟩
  | .inr (.inr (.inr (.inr (.inr (.inr (.inr (.inr (.inl (a, j))))))))) => aptrC (backN R.na R.ma a) j
  | .inr (.inr (.inr (.inr (.inr (.inr (.inr (.inr (.inr (.inl j))))))))) => junkC (R.nj + j)
  | .inr (.inr (.inr (.inr (.inr (.inr (.inr (.inr (.inr (.inr (.inl l)))))))))) => strC l
  | .inr (.inr (.inr (.inr (.inr (.inr (.inr (.inr (.inr (.inr (.inr (.inl s))))))))))) => rslC ⟨backN R.na R.ma s.a, s.u, s.o, s.n, s.c⟩
  | .inr (.inr (.inr (.inr (.inr (.inr (.inr (.inr (.inr (.inr (.inr (.inr (.inl p)))))))))))) => rptC ⟨backN R.na R.ma p.a, p.u, p.m, p.f⟩
  | .inr (.inr (.inr (.inr (.inr (.inr (.inr (.inr (.inr (.inr (.inr (.inr (.inr (.inl p))))))))))))) => bfC p
  | .inr (.inr (.inr (.inr (.inr (.inr (.inr (.inr (.inr (.inr (.inr (.inr (.inr (.inr x))))))))))))) => opnC x
def back1 (R : Back) : V1 → V1
  | .inl c => .inl (backC R c)
  | .inr l => .inr (l.map (backC R))
def backV (R : Back) : AV → AV
  | .inl x => .inl (back1 R x)
  | .inr l => .inr (l.map (back1 R))
def backK (R : Back) : Option Blk → Option Blk
  | none => none
  | some x => some ⟨x.elem, x.cells.map (backC R), backJ R x.j, x.c, x.z⟩
def isOldK : AK → Bool
  | .o (.old _) => true
  | _ => false
def backA : Option ABlk → Option ABlk
  | none => none
  | some x => if x.ro || isOldK x.k then none else some x
def isRo : Option ABlk → Bool
  | some x => x.ro
  | none => false
/-- The first row, with what has turned. -/
def mixK (R : Back) (new : List (Option Blk)) : Nat → List (Option Blk) → List (Option Blk)
  | _, [] => []
  | i, x :: l => (match place R.mb i with
    | some p => backK R (new.getD p none)
    | none => x) :: mixK R new (i + 1) l
def mixA (R : Back) (new : List (Option ABlk)) : Nat → List (Option ABlk) → List (Option ABlk)
  | _, [] => []
  | i, x :: l => (match place R.ma i with
    | some p => if isRo x then x else backA (new.getD p none)
    | none => x) :: mixA R new (i + 1) l
def backOf (g : Bool) (σ : St) (args : List AV) : Back := ⟨σ.heap.length, σ.ints.length, σ.opqs, σ.arrs.length, σ.junks, (reachG g σ args).1, (reachG g σ args).2⟩
def backSt (R : Back) (σ σ' : St) : St :=
  ⟨mixK R σ'.heap 0 σ.heap ++ (σ'.heap.drop R.mb.length).map (backK R), σ.ints ++ σ'.ints, σ.opqs + σ'.opqs, mixA R σ'.arrs 0 σ.arrs ++ (σ'.arrs.drop R.ma.length).map backA, σ.junks + σ'.junks⟩

abbrev Tbl := FuncId → List AV → St → Option ((AV → St → Prop) → Prop)
/-- A call, by what is known of it on what it can reach; the program's own variables among it, or not. -/
def conG (g : Bool) (tbl : Tbl) : Tbl := fun f args σ =>
  if renOk (subRen g σ args) σ then match seqO (args.map (renV (subRen g σ args))) with
    | some args' => match tbl f (args'.map openV) (openSt (renSt (subRen g σ args) 0 σ)) with
      | some C => some fun K => C fun v σ' => K (backV (backOf g σ args) v) (backSt (backOf g σ args) σ σ')
      | none => none
    | none => none
  else none
def conOf (tbl : Tbl) : Tbl := fun f args σ =>
  match globsOf 0 σ.arrs with
  | [] => conG false tbl f args σ
  | _ => match conG true tbl f args σ with
    | some C => some C
    | none => conG false tbl f args σ

section
variable {P : Program} {w0 w w' : World} {e e' : Env} {σ σ' : St}

theorem owned_old (hk : Ok w0 e σ w) {g : Nat} (h : owned e σ g) : (w0.heap.size ≤ g ∨ e.S g) ∧ g < w.heap.size := by
  rcases h with ⟨b, x, q, h1, h2, rfl⟩ | ⟨a, x, q, h1, h2, h3, rfl⟩
  · have := hk.blk b x q h1 h2; exact ⟨this.old, this.lt⟩
  · have h4 := hk.arrs.ok a x _ h1 h3
    refine ⟨?_, h4.lt⟩
    rcases h4.own with ⟨g3, _⟩ | ⟨_, g3⟩
    · rw [h2] at g3; cases g3
    · exact g3

def rebE (e : Env) (S Z : Nat → Prop) : Env := ⟨e.blk, e.int, e.opq, e.arr, S, e.junk, Z⟩
theorem capv_reb (S Z : Nat → Prop) (j : Option Nat) (c : Nat) : capv (rebE e S Z) j c = capv e j c := by cases j <;> rfl
theorem ptrV_reb (S Z : Nat → Prop) (p : Nat × Nat) : ptrV (rebE e S Z) p = ptrV e p := rfl
theorem cv_reb (S Z : Nat → Prop) (c : Cell) : cv (rebE e S Z) c = cv e c := by
  rcases c with x | p | s | ⟨k, i⟩ | ⟨f, l⟩ | i | ⟨k, n⟩ | s | ⟨a, j⟩ | j | l | s | p | q | y <;> rfl
theorem v1_reb (S Z : Nat → Prop) (x : V1) : v1 (rebE e S Z) x = v1 e x := by
  rcases x with c | l
  · exact cv_reb S Z c
  · simp only [v1, List.map_congr_left (fun c _ => cv_reb S Z c)]
theorem av_reb (S Z : Nat → Prop) (x : AV) : av (rebE e S Z) x = av e x := by
  rcases x with c | l
  · exact v1_reb S Z c
  · simp only [av, List.map_congr_left (fun c _ => v1_reb S Z c)]

/-- The same state, seen from the world as it is. -/
theorem Ok.rebase (hk : Ok w0 e σ w) : Ok w (rebE e (owned e σ) (FrzP σ)) σ w := by
  refine ⟨Only.refl _ w, hk.blks, hk.ints, hk.opqs, hk.bnd, hk.opq, ?_, hk.apart, ⟨hk.arrs.len, ?_, hk.arrs.off, hk.arrs.apart⟩, hk.junks, ?_⟩
  · intro b x q h1 h2
    obtain ⟨g1, cur, fz, g2, g3, ⟨N, g4, g5⟩, g6⟩ := hk.blk b x q h1 h2
    exact ⟨.inr (.inl ⟨b, x, q, h1, h2, rfl⟩), cur, fz, g2, fun j c hc => let ⟨v, a, b⟩ := g3 j c hc; ⟨v, by rw [cv_reb]; exact a, b⟩, ⟨N, by rw [capv_reb]; exact g4, g5⟩, g6⟩
  · intro a x q h1 h2
    have h3 := hk.arrs.ok a x q h1 h2
    cases q with
    | inl A => exact h3
    | inr q =>
      have hlt := h3.lt
      rcases h3.own with ⟨g3, g4, g5⟩ | ⟨g3, g4⟩
      · refine h3.reb (.inl ⟨g3, hlt, ?_⟩)
        intro ho
        have := (owned_old hk ho).1
        rcases this with h | h
        · omega
        · exact g5 h
      · exact h3.reb (.inr ⟨g3, .inr (.inr ⟨a, x, q, h1, g3, h2, rfl⟩)⟩)
  · intro a x h1
    refine ⟨fun F h2 v B hF => ((hk.froz a x h1).1 F h2 v B hF).mv fun g ⟨o, n, c, hv, hc⟩ _ hg => ⟨⟨.inl ⟨a, x, F, v, B, o, n, c, h1, h2, hF, hv, hc⟩, hg.2⟩, rfl⟩, fun F h2 v B hF => ((hk.froz a x h1).2 F h2 v B hF).mv fun g _ hlt hg => ⟨⟨hlt, fun ho => ?_⟩, rfl⟩⟩
    have h3 := hg.1
    rcases (owned_old hk ho).1 with h | h
    · omega
    · exact hg.2 h
/-- An array of a state that is told anew. -/
theorem renSt_arr {R : Ren} (hk : Ok w0 e σ w) (hr : RenOk R e σ) {n b : Nat} {x : ABlk} (h : (renSt R n σ).arrs[b]? = some (some x)) : ∃ b' : Nat, σ.arrs[b']? = some (some x) := by
  have hL : (renE R e ⟨#[], []⟩).arr.length = (renSt R n σ).arrs.length := by
    have := hk.arrs.len; have := hr.na
    simp [renE, rowN, renSt, heldBack_len]; omega
  obtain ⟨b', g1, _⟩ := row_old hr.na hk.arrs.len hr.ma h (show (renE R e ⟨#[], []⟩).arr[b]? = some _ from List.getElem?_eq_getElem (by rw [hL]; exact (List.getElem?_eq_some_iff.1 h).1))
  exact ⟨b', g1⟩
theorem FrzP.ren {R : Ren} (hk : Ok w0 e σ w) (hr : RenOk R e σ) {n g : Nat} (h : FrzP (renSt R n σ) g) : FrzP σ g := by
  obtain ⟨b, x, F, v, B, o, m, c, h1, h2⟩ := h
  obtain ⟨b', g1⟩ := renSt_arr hk hr h1
  exact ⟨b', x, F, v, B, o, m, c, g1, h2⟩
theorem owned_ren {R : Ren} (hk : Ok w0 e σ w) (hr : RenOk R e σ) (h0 : R.nb = 0) (h1 : R.na = 0) {a : Act} {n : Nat} {g : Nat} (h : owned (renE R e a) (renSt R n σ) g) :
    (∃ (b : Nat) (x : Blk) (q : Nat × Nat), b ∈ R.mb ∧ σ.heap[b]? = some (some x) ∧ e.blk[b]? = some q ∧ q.1 = g) ∨ ∃ (i : Nat) (x : ABlk) (q : Nat × Nat), i ∈ R.ma ∧ σ.arrs[i]? = some (some x) ∧ x.ro = false ∧ e.arr[i]? = some (.inr q) ∧ q.1 = g := by
  rcases h with ⟨b, x, q, k1, k2, k3⟩ | ⟨b, x, q, k1, k2, k3, k4⟩
  · have e1 : (renSt R n σ).heap = (heldBack R.mb 0 (σ.heap.take R.nb) ++ R.mb.map fun b => σ.heap.getD b none).map (renK R) := by simp [renSt, List.map_append, List.map_map, Function.comp_def]
    rw [e1, List.getElem?_map] at k1
    cases h3 : (heldBack R.mb 0 (σ.heap.take R.nb) ++ R.mb.map fun b => σ.heap.getD b none)[b]? with
    | none => rw [h3] at k1; simp at k1
    | some y =>
      rw [h3] at k1
      simp only [Option.map_some, Option.some.injEq] at k1
      obtain ⟨z, rfl, _⟩ := renK_some k1
      obtain ⟨b', g1, g2, g3⟩ := row_old hr.nb hk.blks hr.mb h3 k2
      rcases g3 with ⟨g3, _⟩ | ⟨_, g3⟩
      · omega
      · exact .inl ⟨b', z, q, List.mem_of_getElem? g3, g1, g2, k3⟩
  · obtain ⟨b', g1, g2, g3⟩ := row_old hr.na hk.arrs.len hr.ma k1 k3
    rcases g3 with ⟨g3, _⟩ | ⟨_, g3⟩
    · omega
    · exact .inr ⟨b', x, q, List.mem_of_getElem? g3, g1, k2, g2, k4⟩

theorem back_get {α : Type} {l l' : List α} {m : List Nat} {d : α} (hp : (m.map fun b => l.getD b d) <+: l') (hm : ∀ b ∈ m, b < l.length) {b : Nat} {q : α} (h : l'[b]? = some q) : (l ++ l'.drop m.length)[backN l.length m b]? = some q := by
  unfold backN
  cases hb : m[b]? with
  | some x =>
    have hx := hm x (List.mem_of_getElem? hb)
    dsimp only
    rw [List.getElem?_append_left hx]
    have h1 : (m.map fun b => l.getD b d)[b]? = some (l.getD x d) := by rw [List.getElem?_map, hb]; rfl
    have h2 := pre_get hp h1
    rw [h] at h2
    simp only [Option.some.injEq] at h2
    rw [h2, List.getD_eq_getElem?_getD, List.getElem?_eq_getElem hx]; rfl
  | none =>
    have hlt := List.getElem?_eq_none_iff.1 hb
    dsimp only
    rw [List.getElem?_append_right (by omega), List.getElem?_drop, ← h]
    congr 1; omega

theorem mix_get {α : Type} (m : List Nat) (f : Nat → Option α → Option α) (mix : Nat → List (Option α) → List (Option α)) (h0 : ∀ i, mix i [] = []) (h1 : ∀ i x l, mix i (x :: l) = (match place m i with
    | some p => f p x
    | none => x) :: mix (i + 1) l) : ∀ (i : Nat) (l : List (Option α)) (b : Nat), (mix i l)[b]? = (l[b]?).map fun x => match place m (i + b) with
    | some p => f p x
    | none => x
  | i, [], b => by simp [h0]
  | i, x :: l, 0 => by simp [h1]
  | i, x :: l, b + 1 => by
    rw [h1, List.getElem?_cons_succ, List.getElem?_cons_succ, mix_get m f mix h0 h1 (i + 1) l b, show i + 1 + b = i + (b + 1) by omega]
theorem mixK_get (R : Back) (new : List (Option Blk)) (i : Nat) (l : List (Option Blk)) (b : Nat) : (mixK R new i l)[b]? = (l[b]?).map fun x => match place R.mb (i + b) with
    | some p => backK R (new.getD p none)
    | none => x := mix_get R.mb (fun p _ => backK R (new.getD p none)) (mixK R new) (fun _ => rfl) (fun _ _ _ => rfl) i l b
theorem mixA_get (R : Back) (new : List (Option ABlk)) (i : Nat) (l : List (Option ABlk)) (b : Nat) : (mixA R new i l)[b]? = (l[b]?).map fun x => match place R.ma (i + b) with
    | some p => if isRo x then x else backA (new.getD p none)
    | none => x := mix_get R.ma (fun p x => if isRo x then x else backA (new.getD p none)) (mixA R new) (fun _ => rfl) (fun _ _ _ => rfl) i l b
theorem mixK_len (R : Back) (new : List (Option Blk)) : ∀ (i : Nat) (l : List (Option Blk)), (mixK R new i l).length = l.length
  | _, [] => rfl
  | i, x :: l => by simp [mixK, mixK_len R new (i + 1) l]
theorem mixA_len (R : Back) (new : List (Option ABlk)) : ∀ (i : Nat) (l : List (Option ABlk)), (mixA R new i l).length = l.length
  | _, [] => rfl
  | i, x :: l => by simp [mixA, mixA_len R new (i + 1) l]
theorem backK_some {R : Back} {y : Option Blk} {x : Blk} (h : backK R y = some x) : ∃ z, y = some z ∧ x = ⟨z.elem, z.cells.map (backC R), backJ R z.j, z.c, z.z⟩ := by
  cases y with
  | none => simp [backK] at h
  | some z => simp [backK] at h; exact ⟨z, rfl, h.symm⟩
theorem backA_some {y : Option ABlk} {x : ABlk} (h : backA y = some x) : y = some x ∧ x.ro = false ∧ isOldK x.k = false := by
  cases y with
  | none => simp [backA] at h
  | some z =>
    simp only [backA] at h
    split at h
    · cases h
    · rename_i hr
      simp only [Bool.or_eq_true, not_or, Bool.not_eq_true] at hr
      simp at h; subst h; exact ⟨rfl, hr.1, hr.2⟩
theorem getD_some {α : Type} {l : List (Option α)} {p : Nat} {x : α} (h : l.getD p none = some x) : l[p]? = some (some x) := by
  rw [List.getD_eq_getElem?_getD] at h
  cases hp : l[p]? with
  | none => simp [hp] at h
  | some y => rw [hp] at h; simp at h; rw [h]

def backE (R : Back) (e e' : Env) : Env := ⟨e.blk ++ e'.blk.drop R.mb.length, e.int ++ e'.int, e.opq ++ e'.opq, e.arr ++ e'.arr.drop R.ma.length, e.S, e.junk ++ e'.junk, e.Z⟩
theorem backE_le (R : Back) (e e' : Env) : e.le (backE R e e') := ⟨List.prefix_append _ _, List.prefix_append _ _, List.prefix_append _ _, List.prefix_append _ _, rfl, List.prefix_append _ _, rfl⟩

/-- What is known when a call comes back. -/
structure Came (R : Ren) (w0 w w' : World) (e e' : Env) (σ σ' : St) (a : Act) : Prop where
  hk : Ok w0 e σ w
  hr : RenOk R e σ
  h0 : R.nb = 0
  h1 : R.na = 0
  hle : (rebE (renE R e a) (owned (renE R e a) (renSt R 0 σ)) (FrzP (renSt R 0 σ))).le e'
  hk' : Ok w e' σ' w'

def backR (R : Ren) (σ : St) : Back := ⟨σ.heap.length, σ.ints.length, σ.opqs, σ.arrs.length, σ.junks, R.mb, R.ma⟩

variable {R : Ren} {a : Act}
theorem Came.blk (h : Came R w0 w w' e e' σ σ' a) {b : Nat} {q : Nat × Nat} (hq : e'.blk[b]? = some q) : (backE (backR R σ) e e').blk[backN σ.heap.length R.mb b]? = some q := by
  have hp := h.hle.blk
  simp only [rebE, renE, rowN, h.h0, List.take_zero, List.nil_append] at hp
  have := back_get hp (fun b hb => by rw [h.hk.blks]; exact h.hr.mb b hb) hq
  rw [h.hk.blks] at this; exact this
theorem Came.arr (h : Came R w0 w w' e e' σ σ' a) {b : Nat} {q : Option Addr ⊕ (Nat × Nat)} (hq : e'.arr[b]? = some q) : (backE (backR R σ) e e').arr[backN σ.arrs.length R.ma b]? = some q := by
  have hp := h.hle.arr
  simp only [rebE, renE, rowN, h.h1, List.take_zero, List.nil_append] at hp
  have := back_get hp (fun b hb => by rw [h.hk.arrs.len]; exact h.hr.ma b hb) hq
  rw [h.hk.arrs.len] at this; exact this
theorem Came.ptr (h : Came R w0 w w' e e' σ σ' a) (p : Nat × Nat) (v : Value) (hv : ptrV e' p = some v) : ptrV (backE (backR R σ) e e') (backP (backR R σ) p) = some v := by
  unfold ptrV at hv ⊢
  split at hv
  · rename_i q hq
    have := h.blk hq
    simp only [backP, backR] at this ⊢
    rw [this]; exact hv
  · cases hv
theorem Came.cap (h : Came R w0 w w' e e' σ σ' a) {j : Option Nat} {c n : Nat} (hc : capv e' j c = some n) : capv (backE (backR R σ) e e') (backJ (backR R σ) j) c = some n := by
  cases j with
  | none => exact hc
  | some j =>
    simp only [capv, backJ, backR, backE] at hc ⊢
    rw [List.getElem?_append_right (by rw [h.hk.ints]; omega), h.hk.ints, Nat.add_sub_cancel_left]; exact hc
theorem seqO_back {α β : Type} {f : α → α} {g g' : α → Option β} (h : ∀ x v, g x = some v → g' (f x) = some v) : ∀ {l : List α} {vs : List β}, l.map g = vs.map some → (l.map f).map g' = vs.map some
  | [], vs, h2 => by cases vs <;> simp at h2 ⊢
  | x :: l, [], h2 => by simp at h2
  | x :: l, v :: vs, h2 => by
    simp only [List.map_cons, List.cons.injEq] at h2 ⊢
    exact ⟨h x v h2.1, seqO_back h h2.2⟩
theorem Came.cv (h : Came R w0 w w' e e' σ σ' a) (c : Cell) (v : Value) (hv : Reck.cv e' c = some v) : Reck.cv (backE (backR R σ) e e') (backC (backR R σ) c) = some v := by
  rcases c with x | p | s | ⟨k, i⟩ | ⟨f, l⟩ | i | ⟨k, n⟩ | s | ⟨b, j⟩ | j | l | s | p | q | y
  · exact hv
  · exact h.ptr p v hv
  · simp only [Reck.cv] at hv
    split at hv
    · rename_i q c hq hc
      simp only [backC, Reck.cv]
      rw [show (backR R σ).nb = σ.heap.length from rfl, show (backR R σ).mb = R.mb from rfl, h.blk hq, h.cap hc]; exact hv
    · cases hv
  · simp only [Reck.cv] at hv
    simp only [backC, intC, Reck.cv, backE, backR]
    rw [List.getElem?_append_right (by rw [h.hk.ints]; omega), h.hk.ints, Nat.add_sub_cancel_left]; exact hv
  · simp only [Reck.cv] at hv
    split at hv
    · rename_i vs hvs
      simp only [backC, Reck.cv]
      rw [seqO_some.2 (seqO_back h.ptr (seqO_some.1 hvs))]; exact hv
    · cases hv
  · simp only [Reck.cv] at hv
    simp only [backC, opqC, Reck.cv, backE, backR]
    rw [List.getElem?_append_right (by rw [h.hk.opqs]; omega), h.hk.opqs, Nat.add_sub_cancel_left]; exact hv
  · exact hv
  · simp only [Reck.cv] at hv
    cases hq : e'.arr[s.a]? with
    | none => simp [hq] at hv
    | some q =>
      rw [hq] at hv
      simp only [backC, aslC, Reck.cv]
      rw [show (backR R σ).na = σ.arrs.length from rfl, show (backR R σ).ma = R.ma from rfl, h.arr hq]; exact hv
  · simp only [Reck.cv] at hv
    cases hq : e'.arr[b]? with
    | none => simp [hq] at hv
    | some q =>
      rw [hq] at hv
      simp only [backC, aptrC, Reck.cv]
      rw [show (backR R σ).na = σ.arrs.length from rfl, show (backR R σ).ma = R.ma from rfl, h.arr hq]; exact hv
  · simp only [Reck.cv] at hv
    simp only [backC, junkC, Reck.cv, backE, backR]
    rw [List.getElem?_append_right (by rw [h.hk.junks]; omega), h.hk.junks, Nat.add_sub_cancel_left]; exact hv
  · exact hv
  · simp only [Reck.cv] at hv
    cases hq : e'.arr[s.a]? with
    | none => simp [hq] at hv
    | some q =>
      rw [hq] at hv
      simp only [backC, rslC, Reck.cv]
      rw [show (backR R σ).na = σ.arrs.length from rfl, show (backR R σ).ma = R.ma from rfl, h.arr hq]; exact hv
  · simp only [Reck.cv] at hv
    cases hq : e'.arr[p.a]? with
    | none => simp [hq] at hv
    | some q =>
      rw [hq] at hv
      simp only [backC, rptC, Reck.cv]
      rw [show (backR R σ).na = σ.arrs.length from rfl, show (backR R σ).ma = R.ma from rfl, h.arr hq]; exact hv
  · exact hv
  · exact hv
theorem Came.v1 (h : Came R w0 w w' e e' σ σ' a) (x : V1) (v : Value) (hv : Reck.v1 e' x = some v) : Reck.v1 (backE (backR R σ) e e') (back1 (backR R σ) x) = some v := by
  rcases x with c | l
  · exact h.cv c v hv
  · simp only [Reck.v1, back1] at hv ⊢
    split at hv
    · rename_i vs hvs
      rw [seqO_some.2 (seqO_back h.cv (seqO_some.1 hvs))]; exact hv
    · cases hv
theorem Came.av (h : Came R w0 w w' e e' σ σ' a) (x : AV) (v : Value) (hv : Reck.av e' x = some v) : Reck.av (backE (backR R σ) e e') (backV (backR R σ) x) = some v := by
  rcases x with c | l
  · exact h.v1 c v hv
  · simp only [Reck.av, backV] at hv ⊢
    split at hv
    · rename_i vs hvs
      rw [seqO_some.2 (seqO_back h.v1 (seqO_some.1 hvs))]; exact hv
    · cases hv

theorem Came.blkCase (h : Came R w0 w w' e e' σ σ' a) {b : Nat} {x : Blk} {q : Nat × Nat} (h1 : (backSt (backR R σ) σ σ').heap[b]? = some (some x)) (h2 : (backE (backR R σ) e e').blk[b]? = some q) :
    (σ.heap[b]? = some (some x) ∧ e.blk[b]? = some q ∧ b ∉ R.mb) ∨ ∃ p z, σ'.heap[p]? = some (some z) ∧ e'.blk[p]? = some q ∧ x = ⟨z.elem, z.cells.map (backC (backR R σ)), backJ (backR R σ) z.j, z.c, z.z⟩ ∧ backN σ.heap.length R.mb p = b := by
  have hl := h.hk.blks
  simp only [backSt] at h1
  by_cases hb : b < σ.heap.length
  · rw [List.getElem?_append_left (by rw [mixK_len]; exact hb), mixK_get, Nat.zero_add] at h1
    simp only [backE] at h2
    rw [List.getElem?_append_left (by omega)] at h2
    cases hx : σ.heap[b]? with
    | none => rw [hx] at h1; simp at h1
    | some y =>
      rw [hx] at h1
      simp only [Option.map_some, Option.some.injEq] at h1
      split at h1
      · rename_i p hp
        have hpb := place_get hp
        obtain ⟨z, hz, rfl⟩ := backK_some h1
        have hz' := getD_some hz
        have hplt : p < e'.blk.length := by rw [h.hk'.blks]; exact (List.getElem?_eq_some_iff.1 hz').1
        have hqq := h.blk (List.getElem?_eq_getElem hplt)
        have hbk : backN σ.heap.length R.mb p = b := by
          have : R.mb[p]? = some b := hpb
          simp [backN, this]
        rw [hbk] at hqq
        simp only [backE] at hqq
        rw [List.getElem?_append_left (by omega), h2] at hqq
        exact .inr ⟨p, z, hz', by rw [List.getElem?_eq_getElem hplt]; exact hqq.symm, rfl, hbk⟩
      · rename_i hp
        exact .inl ⟨by rw [h1], h2, place_none hp⟩
  · rw [List.getElem?_append_right (by rw [mixK_len]; omega), mixK_len, List.getElem?_map, List.getElem?_drop] at h1
    cases hx : σ'.heap[(backR R σ).mb.length + (b - σ.heap.length)]? with
    | none => rw [hx] at h1; simp at h1
    | some y =>
      rw [hx] at h1
      simp only [Option.map_some, Option.some.injEq] at h1
      obtain ⟨z, rfl, rfl⟩ := backK_some h1
      simp only [backE] at h2
      rw [List.getElem?_append_right (by omega), List.getElem?_drop, hl] at h2
      refine .inr ⟨_, z, hx, h2, rfl, ?_⟩
      have : R.mb[R.mb.length + (b - σ.heap.length)]? = none := List.getElem?_eq_none_iff.2 (by omega)
      simp only [backN, backR, this]; omega
theorem Came.arrCase (h : Came R w0 w w' e e' σ σ' a) {b : Nat} {x : ABlk} {q : Option Addr ⊕ (Nat × Nat)} (h1 : (backSt (backR R σ) σ σ').arrs[b]? = some (some x)) (h2 : (backE (backR R σ) e e').arr[b]? = some q) :
    (σ.arrs[b]? = some (some x) ∧ e.arr[b]? = some q ∧ (x.ro = true ∨ b ∉ R.ma)) ∨ ∃ p, σ'.arrs[p]? = some (some x) ∧ x.ro = false ∧ e'.arr[p]? = some q ∧ backN σ.arrs.length R.ma p = b ∧ isOldK x.k = false := by
  have hl := h.hk.arrs.len
  simp only [backSt] at h1
  by_cases hb : b < σ.arrs.length
  · rw [List.getElem?_append_left (by rw [mixA_len]; exact hb), mixA_get, Nat.zero_add] at h1
    simp only [backE] at h2
    rw [List.getElem?_append_left (by omega)] at h2
    cases hx : σ.arrs[b]? with
    | none => rw [hx] at h1; simp at h1
    | some y =>
      rw [hx] at h1
      simp only [Option.map_some, Option.some.injEq] at h1
      split at h1
      · rename_i p hp
        have hpb := place_get hp
        split at h1
        · rename_i hro
          subst h1
          exact .inl ⟨rfl, h2, .inl hro⟩
        · obtain ⟨hz, hro, hnold⟩ := backA_some h1
          have hz' := getD_some hz
          have hplt : p < e'.arr.length := by rw [h.hk'.arrs.len]; exact (List.getElem?_eq_some_iff.1 hz').1
          have hqq := h.arr (List.getElem?_eq_getElem hplt)
          have hbk : backN σ.arrs.length R.ma p = b := by
            have : R.ma[p]? = some b := hpb
            simp [backN, this]
          rw [hbk] at hqq
          simp only [backE] at hqq
          rw [List.getElem?_append_left (by omega), h2] at hqq
          exact .inr ⟨p, hz', hro, by rw [List.getElem?_eq_getElem hplt]; exact hqq.symm, hbk, hnold⟩
      · rename_i hp
        exact .inl ⟨by rw [h1], h2, .inr (place_none hp)⟩
  · rw [List.getElem?_append_right (by rw [mixA_len]; omega), mixA_len, List.getElem?_map, List.getElem?_drop] at h1
    cases hx : σ'.arrs[(backR R σ).ma.length + (b - σ.arrs.length)]? with
    | none => rw [hx] at h1; simp at h1
    | some y =>
      rw [hx] at h1
      simp only [Option.map_some, Option.some.injEq] at h1
      obtain ⟨rfl, hro, hnold⟩ := backA_some h1
      simp only [backE] at h2
      rw [List.getElem?_append_right (by omega), List.getElem?_drop, hl] at h2
      refine .inr ⟨_, hx, hro, h2, ?_, hnold⟩
      have : R.ma[R.ma.length + (b - σ.arrs.length)]? = none := List.getElem?_eq_none_iff.2 (by omega)
      simp only [backN, backR, this]; omega

theorem Came.owns (h : Came R w0 w w' e e' σ σ' a) : e'.S = owned (renE R e a) (renSt R 0 σ) := h.hle.S
theorem Came.old (h : Came R w0 w w' e e' σ σ' a) {g : Nat} (hg : w.heap.size ≤ g ∨ e'.S g) : w0.heap.size ≤ g ∨ e.S g := by
  rcases hg with hg | hg
  · exact .inl (Nat.le_trans h.hk.only.size hg)
  · rw [h.owns] at hg
    rcases owned_ren h.hk h.hr h.h0 h.h1 hg with ⟨b, x, q, _, g1, g2, rfl⟩ | ⟨i, x, q, _, g1, g2, g3, rfl⟩
    · exact (h.hk.blk b x q g1 g2).old
    · exact (owned_old h.hk (.inr ⟨i, x, q, g1, g2, g3, rfl⟩)).1
theorem Came.freeB (h : Came R w0 w w' e e' σ σ' a) {b : Nat} {x : Blk} {q : Nat × Nat} (h1 : σ.heap[b]? = some (some x)) (h2 : e.blk[b]? = some q) (hb : b ∉ R.mb) : ¬ e'.S q.1 := by
  rw [h.owns]
  intro hg
  rcases owned_ren h.hk h.hr h.h0 h.h1 hg with ⟨b', x', q', k1, g1, g2, g3⟩ | ⟨i, x', q', k1, g1, g2, g3, g4⟩
  · exact h.hk.apart b b' x x' q q' (fun he => hb (he ▸ k1)) h1 g1 h2 g2 g3.symm
  · exact h.hk.arrs.off i x' q' b x q g1 g2 g3 h1 h2 g4
theorem Came.freeA (h : Came R w0 w w' e e' σ σ' a) {b : Nat} {x : ABlk} {q : Nat × Nat} (h1 : σ.arrs[b]? = some (some x)) (h2 : e.arr[b]? = some (.inr q)) (hb : x.ro = true ∨ b ∉ R.ma) : ¬ e'.S q.1 := by
  rw [h.owns]
  intro hg
  have hA := h.hk.arrs.ok b x _ h1 h2
  have hro : x.ro = true → False := by
    intro hro
    rcases hA.own with ⟨g3, g4, g5⟩ | ⟨g3, _⟩
    · have := h.old (g := q.1) (.inr (by rw [h.owns]; exact hg))
      rcases this with h | h
      · omega
      · exact g5 h
    · rw [hro] at g3; cases g3
  rcases hb with hb | hb
  · exact hro hb
  · rcases owned_ren h.hk h.hr h.h0 h.h1 hg with ⟨b', x', q', k1, g1, g2, g3⟩ | ⟨i, x', q', k1, g1, g2, g3, g4⟩
    · cases hxr : x.ro with
      | true => exact hro hxr
      | false => exact h.hk.arrs.off b x q b' x' q' h1 hxr h2 g1 g2 g3.symm
    · cases hxr : x.ro with
      | true => exact hro hxr
      | false => exact h.hk.arrs.apart b i x x' q q' (fun he => hb (he ▸ k1)) h1 g1 hxr g2 h2 g3 g4.symm

theorem Came.ok (h : Came R w0 w w' e e' σ σ' a) : Ok w0 (backE (backR R σ) e e') (backSt (backR R σ) σ σ') w' := by
  have hle := backE_le (backR R σ) e e'
  have hon := h.hk'.only
  have keepB : ∀ {b : Nat} {x : Blk} {q : Nat × Nat}, σ.heap[b]? = some (some x) → e.blk[b]? = some q → b ∉ R.mb → w'.heap[q.1]? = w.heap[q.1]? := fun h1 h2 h3 => hon.keep _ (h.hk.blk _ _ _ h1 h2).lt (h.freeB h1 h2 h3)
  have newOk : ∀ {p : Nat} {z : Blk} {q : Nat × Nat}, σ'.heap[p]? = some (some z) → e'.blk[p]? = some q → w.heap.size ≤ q.1 ∨ e'.S q.1 := fun h1 h2 => (h.hk'.blk _ _ _ h1 h2).old
  have newA : ∀ {p : Nat} {z : ABlk} {q : Nat × Nat}, σ'.arrs[p]? = some (some z) → z.ro = false → e'.arr[p]? = some (.inr q) → w.heap.size ≤ q.1 ∨ e'.S q.1 := by
    intro p z q h1 h2 h3
    rcases (h.hk'.arrs.ok _ _ _ h1 h3).own with ⟨g3, _⟩ | ⟨_, g3⟩
    · rw [h2] at g3; cases g3
    · exact g3
  have oldB : ∀ {b : Nat} {x : Blk} {q : Nat × Nat}, σ.heap[b]? = some (some x) → e.blk[b]? = some q → b ∉ R.mb → q.1 < w.heap.size ∧ ¬ e'.S q.1 := fun h1 h2 h3 => ⟨(h.hk.blk _ _ _ h1 h2).lt, h.freeB h1 h2 h3⟩
  have oldA : ∀ {b : Nat} {x : ABlk} {q : Nat × Nat}, σ.arrs[b]? = some (some x) → e.arr[b]? = some (.inr q) → (x.ro = true ∨ b ∉ R.ma) → q.1 < w.heap.size ∧ ¬ e'.S q.1 := fun h1 h2 h3 => ⟨(h.hk.arrs.ok _ _ _ h1 h2).lt, h.freeA h1 h2 h3⟩
  have ne : ∀ {g g' : Nat}, (g < w.heap.size ∧ ¬ e'.S g) → (w.heap.size ≤ g' ∨ e'.S g') → g ≠ g' := by
    rintro g g' ⟨h1, h2⟩ h3 rfl
    rcases h3 with h3 | h3
    · omega
    · exact h2 h3
  refine ⟨h.hk.only.trans hon (fun i hi hS => ?_), ?_, ?_, ?_, ?_, ?_, ?_, ?_, ⟨?_, ?_, ?_, ?_⟩, ?_, ?_⟩
  · rcases h.old (.inr hS) with h1 | h1
    · omega
    · exact h1
  · have h1 := h.hk.blks
    have h2 := h.hk'.blks
    simp [backE, backSt, mixK_len]; omega
  · simp [backE, backSt, h.hk.ints, h.hk'.ints]
  · simp [backE, backSt, h.hk.opqs, h.hk'.opqs]
  · intro i b n h1 h2
    simp only [backE, backSt] at h1 h2
    by_cases hi : i < σ.ints.length
    · rw [List.getElem?_append_left hi] at h1
      rw [List.getElem?_append_left (by rw [h.hk.ints]; exact hi)] at h2
      exact h.hk.bnd i b n h1 h2
    · rw [List.getElem?_append_right (by omega)] at h1
      rw [List.getElem?_append_right (by rw [h.hk.ints]; omega), h.hk.ints] at h2
      exact h.hk'.bnd _ b n h1 h2
  · intro v hv
    simp only [backE, List.mem_append] at hv
    rcases hv with hv | hv
    · exact h.hk.opq v hv
    · exact h.hk'.opq v hv
  · intro b x q h1 h2
    rcases h.blkCase h1 h2 with ⟨g1, g2, g3⟩ | ⟨p, z, g1, g2, rfl, g4⟩
    · exact ((h.hk.blk b x q g1 g2).world (keepB g1 g2 g3)).mono hle
    · obtain ⟨m1, cur, fz, m2, m3, ⟨N, m4, m5⟩, m6, m7, m8⟩ := h.hk'.blk p z q g1 g2
      have hjs : (backJ (backR R σ) z.j).isSome = z.j.isSome := by cases z.j <;> rfl
      refine ⟨h.old m1, cur, fz, m2, ?_, ⟨N, by unfold b0 at m4 ⊢; dsimp only; rw [hjs]; exact h.cap m4, by unfold bu at m5 ⊢; dsimp only; rw [hjs]; exact m5⟩, m6, m7, m8⟩
      intro j c hc
      simp only [List.getElem?_map] at hc
      cases hz : z.cells[j]? with
      | none => simp [hz] at hc
      | some c' =>
        rw [hz] at hc
        simp only [Option.map_some, Option.some.injEq] at hc
        obtain ⟨v, n1, n2⟩ := m3 j c' hz
        exact ⟨v, hc ▸ h.cv c' v n1, n2⟩
  · intro b1 b2 x1 x2 q1 q2 hne h1 h2 h3 h4
    rcases h.blkCase h1 h3 with ⟨g1, g2, g3⟩ | ⟨p, z, g1, g2, _, g4⟩ <;> rcases h.blkCase h2 h4 with ⟨k1, k2, k3⟩ | ⟨p', z', k1, k2, _, k4⟩
    · exact h.hk.apart b1 b2 x1 x2 q1 q2 hne g1 k1 g2 k2
    · exact ne (oldB g1 g2 g3) (newOk k1 k2)
    · exact (ne (oldB k1 k2 k3) (newOk g1 g2)).symm
    · exact h.hk'.apart p p' z z' q1 q2 (fun he => hne (by rw [← g4, ← k4, he])) g1 k1 g2 k2
  · have h1 := h.hk.arrs.len
    have h2 := h.hk'.arrs.len
    simp [backE, backSt, mixA_len]; omega
  · intro b x q h1 h2
    rcases h.arrCase h1 h2 with ⟨g1, g2, g3⟩ | ⟨p, g1, g2, g3, g4⟩
    · exact ((h.hk.arrs.ok b x q g1 g2).world (fun p hp => by subst hp; exact hon.keep _ (oldA g1 g2 g3).1 (oldA g1 g2 g3).2)).mono hle
    · have hA := h.hk'.arrs.ok p x q g1 g3
      cases q with
      | inl A => exact hA
      | inr q =>
        rcases hA.own with ⟨m3, _⟩ | ⟨m3, m4⟩
        · rw [g2] at m3; cases m3
        · exact hA.reb (.inr ⟨m3, h.old m4⟩)
  · intro b x q b2 y q' h1 h2 h3 h4 h5
    rcases h.arrCase h1 h3 with ⟨g1, g2, g3⟩ | ⟨p, g1, g2, g3, g4⟩ <;> rcases h.blkCase h4 h5 with ⟨k1, k2, k3⟩ | ⟨p', z', k1, k2, _, k4⟩
    · exact h.hk.arrs.off b x q b2 y q' g1 h2 g2 k1 k2
    · exact ne (oldA g1 g2 g3) (newOk k1 k2)
    · exact (ne (oldB k1 k2 k3) (newA g1 g2 g3)).symm
    · exact h.hk'.arrs.off p x q p' z' q' g1 h2 g3 k1 k2
  · intro b1 b2 x1 x2 q1 q2 hne h1 h2 h3 h4 h5 h6
    rcases h.arrCase h1 h5 with ⟨g1, g2, g3⟩ | ⟨p, g1, g2, g3, g4⟩ <;> rcases h.arrCase h2 h6 with ⟨k1, k2, k3⟩ | ⟨p', k1, k2, k3, k4⟩
    · exact h.hk.arrs.apart b1 b2 x1 x2 q1 q2 hne g1 k1 h3 h4 g2 k2
    · exact ne (oldA g1 g2 g3) (newA k1 k2 k3)
    · exact (ne (oldA k1 k2 k3) (newA g1 g2 g3)).symm
    · exact h.hk'.arrs.apart p p' x1 x2 q1 q2 (fun he => hne (by rw [← g4.1, ← k4.1, he])) g1 k1 h3 h4 g3 k3
  · simp [backE, backSt, h.hk.junks, h.hk'.junks]
  · have subOwn : ∀ {g : Nat}, e'.S g → owned e σ g := by
      intro g hg
      rw [h.owns] at hg
      rcases owned_ren h.hk h.hr h.h0 h.h1 hg with ⟨b, x, q, _, g1, g2, g3⟩ | ⟨i, x, q, _, g1, g2, g3, g4⟩
      · exact .inl ⟨b, x, q, g1, g2, g3⟩
      · exact .inr ⟨i, x, q, g1, g2, g3, g4⟩
    have hL : (backE (backR R σ) e e').arr.length = (backSt (backR R σ) σ σ').arrs.length := by
      have h1 := h.hk.arrs.len
      have h2 := h.hk'.arrs.len
      simp [backE, backSt, mixA_len]; omega
    intro b x h1
    have hq := List.getElem?_eq_getElem (l := (backE (backR R σ) e e').arr) (i := b) (by rw [hL]; exact (List.getElem?_eq_some_iff.1 h1).1)
    rcases h.arrCase h1 hq with ⟨g1, g2, g3⟩ | ⟨p, g1, g2, g3, g4⟩
    · refine ⟨fun F h2 v B hF => ((h.hk.froz b x g1).1 F h2 v B hF).mv fun g _ hlt hg => ?_, fun F h2 v B hF => ((h.hk.froz b x g1).2 F h2 v B hF).mv fun g _ hlt hg => ⟨hg, hon.keep g hlt fun hs => by
        have h3 := hg.1
        rcases h.old (.inr hs) with hh | hh
        · omega
        · exact hg.2 hh⟩⟩
      have hnS : ¬ e'.S g := fun hs => hg.2 (subOwn hs)
      refine ⟨⟨hg.1, ?_⟩, hon.keep g hlt hnS⟩
      rintro (⟨b2, y, q, k1, k2, rfl⟩ | ⟨b2, y, q, k1, k2, k3, rfl⟩)
      · rcases h.blkCase k1 k2 with ⟨m1, m2, _⟩ | ⟨p', z, m1, m2, _, _⟩
        · exact hg.2 (.inl ⟨b2, y, q, m1, m2, rfl⟩)
        · rcases newOk m1 m2 with hh | hh
          · omega
          · exact hnS hh
      · rcases h.arrCase k1 k3 with ⟨m1, m2, _⟩ | ⟨p', m1, m2, m3, _⟩
        · exact hg.2 (.inr ⟨b2, y, q, m1, k2, m2, rfl⟩)
        · rcases newA m1 m2 m3 with hh | hh
          · omega
          · exact hnS hh
    · refine ⟨fun F h2 v B hF => ((h.hk'.froz p x g1).1 F h2 v B hF).mv fun g _ hlt hg => ?_, fun F h2 v B hF => by have := g4.2; rw [h2.2] at this; cases this⟩
      have hZ : e'.Z g → FrzP σ g := fun hz => by rw [h.hle.Z] at hz; exact FrzP.ren h.hk h.hr hz
      refine ⟨⟨?_, ?_⟩, rfl⟩
      · rcases hg.1 with hz | hz | hz
        · exact (h.hk.froz.at_ (hZ hz)).2.1
        · exact .inr (.inl (Nat.le_trans h.hk.only.size hz))
        · exact .inr (h.old (.inr hz))
      · rintro (⟨b2, y, q, k1, k2, rfl⟩ | ⟨b2, y, q, k1, k2, k3, rfl⟩)
        · rcases h.blkCase k1 k2 with ⟨m1, m2, m3⟩ | ⟨p', z, m1, m2, _, _⟩
          · rcases hg.1 with hz | hz | hz
            · exact (h.hk.froz.at_ (hZ hz)).2.2 (.inl ⟨b2, y, q, m1, m2, rfl⟩)
            · have := (h.hk.blk _ _ _ m1 m2).lt; omega
            · exact h.freeB m1 m2 m3 hz
          · exact hg.2 (.inl ⟨p', z, q, m1, m2, rfl⟩)
        · rcases h.arrCase k1 k3 with ⟨m1, m2, m3⟩ | ⟨p', m1, m2, m3, _⟩
          · rcases hg.1 with hz | hz | hz
            · exact (h.hk.froz.at_ (hZ hz)).2.2 (.inr ⟨b2, y, q, m1, k2, m2, rfl⟩)
            · have := (h.hk.arrs.ok _ _ _ m1 m2).lt; omega
            · exact h.freeA m1 m2 m3 hz
          · exact hg.2 (.inr ⟨p', y, q, m1, m2, m3, rfl⟩)

/-- Calls that are known on what they can reach. -/
def TblOk (P : Program) (tbl : Tbl) : Prop := ∀ f tm σ C, tbl f tm σ = some C → ∀ K : AV → St → Prop, C K → ∀ (w0 : World) (e : Env) (w : World), Ok w0 e σ w → ∀ vs : List Value, tm.map (Reck.av e) = vs.map some →
  Calls P f vs.toArray w fun en w' => ∃ x σ' e' v, en = .returned v ∧ e.le e' ∧ Reck.av e' x = some v ∧ Ok w0 e' σ' w' ∧ K x σ'

/-- Calls that are known where all that may be written is reached, and what is frozen is known as that. -/
def TblOkR (P : Program) (tbl : Tbl) : Prop := ∀ f tm σ C, tbl f tm σ = some C → ∀ K : AV → St → Prop, C K → ∀ (e : Env) (w : World), Ok w e σ w → (∀ g, e.S g → owned e σ g) → (∀ g, FrzP σ g → e.Z g) → ∀ vs : List Value, tm.map (Reck.av e) = vs.map some →
  Calls P f vs.toArray w fun en w' => ∃ x σ' e' v, en = .returned v ∧ e.le e' ∧ Reck.av e' x = some v ∧ Ok w e' σ' w' ∧ K x σ'
theorem TblOk.toR {tbl : Tbl} (h : TblOk P tbl) : TblOkR P tbl := fun f tm σ C hC K hK e w hk _ _ vs hvs => h f tm σ C hC K hK w e w hk vs hvs
theorem conG_okR (g : Bool) {tbl : Tbl} (ht : TblOkR P tbl) : TblOk P (conG g tbl) := by
  intro f tm σ C hC K hK w0 e w hk vs hvs
  unfold conG at hC
  split at hC
  · rename_i hr
    split at hC
    · rename_i args' hargs
      split at hC
      · rename_i C' hC'
        simp only [Option.some.injEq] at hC; subst hC
        have hr := renOk_ok (e := e) hr
        have hT : Tm e [] (⟨#[], []⟩ : Act) := ⟨rfl, rfl⟩
        obtain ⟨hkR, _⟩ := renSt_ok hk hr hT
        have hkR' : Ok w0 (renE (subRen g σ tm) e ⟨#[], []⟩) (renSt (subRen g σ tm) 0 σ) w := hkR
        have hv' : (args'.map openV).map (Reck.av (rebE (renE (subRen g σ tm) e ⟨#[], []⟩) (owned (renE (subRen g σ tm) e ⟨#[], []⟩) (renSt (subRen g σ tm) 0 σ)) (FrzP (renSt (subRen g σ tm) 0 σ)))) = vs.map some := by
          rw [List.map_map, List.map_congr_left (g := Reck.av (renE (subRen g σ tm) e ⟨#[], []⟩)) (fun x _ => by simp only [Function.comp, openV_av]; exact av_reb _ _ x)]
          exact seqO_ren (fun x y v h1 h2 => renV_av hk hr x y v h1 h2) (seqO_some.1 hargs) hvs
        refine (ht f _ _ C' hC' _ hK _ w (openSt_ok hkR'.rebase) (fun g hg => owned_open.2 hg) (fun g hg => hg) vs hv').mono ?_
        rintro en w' ⟨x, σ', e', v, rfl, k1, k2, k3, k4⟩
        have hcame : Came (subRen g σ tm) w0 w w' e e' σ σ' ⟨#[], []⟩ := ⟨hk, hr, rfl, rfl, k1, k3⟩
        exact ⟨_, _, _, v, rfl, backE_le _ _ _, hcame.av x v k2, hcame.ok, k4⟩
      · cases hC
    · cases hC
  · cases hC
theorem conOf_okR {tbl : Tbl} (ht : TblOkR P tbl) : TblOk P (conOf tbl) := by
  intro f tm σ C hC
  unfold conOf at hC
  split at hC
  · exact conG_okR false ht f tm σ C hC
  · split at hC
    · rename_i C' h
      simp only [Option.some.injEq] at hC; subst hC
      exact conG_okR true ht f tm σ _ h
    · exact conG_okR false ht f tm σ C hC
theorem conOf_ok {tbl : Tbl} (ht : TblOk P tbl) : TblOk P (conOf tbl) := conOf_okR (TblOk.toR ht)
/-- What a call's end is, told to what follows. -/
def retK (K : AV → St → Prop) (out : Out) : Prop :=
  match out with
  | (.ret, [v], σ) => K v σ
  | _ => Err [160]
/-- A state without what nobody can reach any more. -/
def cleanRen (σ0 : St) (v : AV) (σ : St) : Ren :=
  ⟨σ0.heap.length, σ0.ints.length, σ0.opqs, σ0.arrs.length, σ0.junks, (gather σ 400 (cellsV v ++ (σ.heap.take σ0.heap.length).flatMap fun x => match x with
    | some x => x.cells
    | none => []) ([], [])).1.filter (fun b => !Nat.blt b σ0.heap.length), (gather σ 400 (cellsV v ++ (σ.heap.take σ0.heap.length).flatMap fun x => match x with
    | some x => x.cells
    | none => []) ([], [])).2.filter (fun b => !Nat.blt b σ0.arrs.length), []⟩
def retC (σ0 : St) (K : AV → St → Prop) (out : Out) : Prop :=
  match out with
  | (.ret, [v], σ) => if renOk (cleanRen σ0 v σ) σ then match renV (cleanRen σ0 v σ) v with
      | some v' => K (openV v') (renSt (cleanRen σ0 v σ) 0 σ)
      | none => Err [161]
    else Err [162]
  | _ => Err [163]
theorem renSt_ok0 {R : Ren} {w0 w : World} {e : Env} {σ : St} (hk : Ok w0 e σ w) (hr : RenOk R e σ) : Ok w0 (renE R e ⟨#[], []⟩) (renSt R 0 σ) w :=
  (renSt_ok (tm := []) hk hr ⟨rfl, rfl⟩).1
/-- A call that was reckoned is known, and what nobody can reach is let go. -/
theorem knownC {P : Program} {ov : List FuncId} {R : Orc} (hov : ov.all (isOverlaps P) = true) (hN : namesOk P = true) (hC : ConOk P R) {n f : Nat} {tm : List AV} {σ : St} {K : AV → St → Prop} (h : goT P ov R (opMem P) n (.inr (.inr (.inr (.inr f)))) tm σ (retC σ K))
    (w0 : World) (e : Env) (w : World) (hk : Ok w0 e σ w) (vs : List Value) (hvs : tm.map (Reck.av e) = vs.map some) :
    Calls P f vs.toArray w fun en w' => ∃ x σ' e' v, en = .returned v ∧ e.le e' ∧ Reck.av e' x = some v ∧ Ok w0 e' σ' w' ∧ K x σ' := by
  refine (goT_ok (ovs_of hov) (names_of hN) (opMem_ok P) hC n _ _ _ _ h w0 e w hk vs hvs).mono ?_
  rintro en w' ⟨x, σ', e', v, h1, h2, h3, h4, h5⟩
  simp only [retC] at h5
  split at h5
  · rename_i hr
    have hr := renOk_ok (e := e') hr
    split at h5
    · rename_i v' hv'
      refine ⟨_, _, renE (cleanRen σ x σ') e' ⟨#[], []⟩, v, h1, renE_le h2 hk.blks.symm hk.ints.symm hk.opqs.symm hk.arrs.len.symm hk.junks.symm, ?_, renSt_ok0 h4 hr, h5⟩
      rw [openV_av]; exact renV_av h4 hr x v' v hv' h3
    · exact h5.bad.elim
  · exact h5.bad.elim
def orcOf (inv : Code → List AV → St → Option Inv) (tbl : Tbl) : Orc := ⟨inv, conOf tbl, fun _ _ _ => none, false⟩
/-- With places at which all ways meet. -/
def orcM (inv meet : Code → List AV → St → Option Inv) (tbl : Tbl) : Orc := ⟨inv, conOf tbl, meet, false⟩
/-- In which what is appended to, made or copied into is told as arrays and rows. -/
def orcR (inv meet : Code → List AV → St → Option Inv) (tbl : Tbl) : Orc := ⟨inv, conOf tbl, meet, true⟩
/-- A call that was reckoned is known. -/
theorem known {P : Program} {ov : List FuncId} {R : Orc} (hov : ov.all (isOverlaps P) = true) (hN : namesOk P = true) (hC : ConOk P R) {n f : Nat} {tm : List AV} {σ : St} {K : AV → St → Prop} (h : goT P ov R (opMem P) n (.inr (.inr (.inr (.inr f)))) tm σ (retK K))
    (w0 : World) (e : Env) (w : World) (hk : Ok w0 e σ w) (vs : List Value) (hvs : tm.map (Reck.av e) = vs.map some) :
    Calls P f vs.toArray w fun en w' => ∃ x σ' e' v, en = .returned v ∧ e.le e' ∧ Reck.av e' x = some v ∧ Ok w0 e' σ' w' ∧ K x σ' := by
  refine (goT_ok (ovs_of hov) (names_of hN) (opMem_ok P) hC n _ _ _ _ h w0 e w hk vs hvs).mono ?_
  rintro en w' ⟨x, σ', e', v, h1, h2, h3, h4, h5⟩
  exact ⟨x, σ', e', v, h1, h2, h3, h4, h5⟩
theorem conOk_ofM {P : Program} {inv meet : Code → List AV → St → Option Inv} {tbl : Tbl} (h : TblOk P tbl) : ConOk P (orcM inv meet tbl) := conOf_ok h
theorem conOk_ofRR {P : Program} {inv meet : Code → List AV → St → Option Inv} {tbl : Tbl} (h : TblOkR P tbl) : ConOk P (orcR inv meet tbl) := conOf_okR h
theorem conOk_ofR {P : Program} {inv meet : Code → List AV → St → Option Inv} {tbl : Tbl} (h : TblOk P tbl) : ConOk P (orcR inv meet tbl) := conOf_ok h
theorem conOk_of {P : Program} {inv : Code → List AV → St → Option Inv} {tbl : Tbl} (h : TblOk P tbl) : ConOk P (orcOf inv tbl) := conOf_ok h
end
end Reck
