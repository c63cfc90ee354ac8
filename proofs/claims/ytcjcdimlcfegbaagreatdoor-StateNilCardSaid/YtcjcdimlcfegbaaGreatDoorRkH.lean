/- A reckoner of calls: rows of cells, any number of them: what is read of them. No condition. -/
import Derived.Test.YtcjcdimlcfegbaaGreatDoorRkS
set_option linter.unusedVariables false
set_option linter.unusedSimpArgs false
namespace Reck
open Go Ost

/-! ### Rows, laid out -/
/-- A number, a bool, a text of a row. -/
def U.fi (L : List (List CV)) (m f : Nat) : Int :=
  match (L.getD m [])[f]? with
  | some (.i z) => z
  | _ => 0
def U.fb (L : List (List CV)) (m f : Nat) : Bool :=
  match (L.getD m [])[f]? with
  | some (.b x) => x
  | _ => false
def U.fv (L : List (List CV)) (m f : Nat) : Value :=
  match (L.getD m [])[f]? with
  | some (.v x) => x
  | _ => undef
def U.fs (L : List (List CV)) (m f : Nat) : List Int :=
  match (L.getD m [])[f]? with
  | some (.s l) => l
  | _ => []
/-- The values of a row, of all rows. -/
def rowV : List CK → List CV → List Value
  | k :: ks, v :: vs => (cvV k v).getD undef :: rowV ks vs
  | _, _ => []
def flatV (ks : List CK) (L : List (List CV)) : List Value := L.flatMap (rowV ks)
/-- A row of these kinds. -/
def RowT (ks : List CK) (row : List CV) : Prop := row.length = ks.length ∧ ∀ (f : Nat) k v, ks[f]? = some k → row[f]? = some v → ∃ y, cvV k v = some y
def Typ (ks : List CK) (L : List (List CV)) : Prop := ∀ row ∈ L, RowT ks row

theorem rowV_len : ∀ (ks : List CK) (row : List CV), row.length = ks.length → (rowV ks row).length = ks.length
  | [], [], _ => rfl
  | [], _ :: _, h => by simp at h
  | _ :: _, [], h => by simp at h
  | k :: ks, v :: vs, h => by simp only [rowV, List.length_cons, rowV_len ks vs (by simpa using h)]
theorem rowV_get : ∀ {ks : List CK} {row : List CV} {f : Nat} {k : CK} {v : CV} {y : Value}, ks[f]? = some k → row[f]? = some v → cvV k v = some y → (rowV ks row)[f]? = some y
  | [], _, f, _, _, _, h, _, _ => by simp at h
  | _ :: _, [], f, _, _, _, _, h, _ => by simp at h
  | a :: ks, b :: row, 0, k, v, y, h1, h2, h3 => by
    simp only [List.getElem?_cons_zero, Option.some.injEq] at h1 h2
    subst h1; subst h2
    simp [rowV, h3]
  | a :: ks, b :: row, f + 1, k, v, y, h1, h2, h3 => by
    simp only [rowV, List.getElem?_cons_succ] at h1 h2 ⊢
    exact rowV_get h1 h2 h3
theorem Typ.tail {ks : List CK} {r : List CV} {L : List (List CV)} (h : Typ ks (r :: L)) : Typ ks L := fun x hx => h x (List.mem_cons_of_mem _ hx)
theorem Typ.head {ks : List CK} {r : List CV} {L : List (List CV)} (h : Typ ks (r :: L)) : RowT ks r := h r (List.mem_cons_self ..)
theorem flat_cons (ks : List CK) (r : List CV) (L : List (List CV)) : flatV ks (r :: L) = rowV ks r ++ flatV ks L := by simp [flatV]
theorem flat_app (ks : List CK) (A B : List (List CV)) : flatV ks (A ++ B) = flatV ks A ++ flatV ks B := by simp [flatV]
theorem flat_len {ks : List CK} : ∀ {L : List (List CV)}, Typ ks L → (flatV ks L).length = L.length * ks.length
  | [], _ => by simp [flatV]
  | r :: L, h => by rw [flat_cons, List.length_append, rowV_len ks r h.head.1, flat_len h.tail, List.length_cons, Nat.add_mul]; omega
theorem flat_get {ks : List CK} : ∀ {L : List (List CV)} {m f : Nat} {row : List CV} {k : CK} {v : CV}, Typ ks L → L[m]? = some row → ks[f]? = some k → row[f]? = some v → ∃ y, cvV k v = some y ∧ (flatV ks L)[m * ks.length + f]? = some y
  | [], m, f, row, k, v, _, h, _, _ => by simp at h
  | r :: L, 0, f, row, k, v, ht, h, hk, hv => by
    simp only [List.getElem?_cons_zero, Option.some.injEq] at h; subst h
    obtain ⟨y, hy⟩ := ht.head.2 f k v hk hv
    refine ⟨y, hy, ?_⟩
    rw [flat_cons, Nat.zero_mul, Nat.zero_add, List.getElem?_append_left]
    · exact rowV_get hk hv hy
    · rw [rowV_len ks r ht.head.1]; exact (List.getElem?_eq_some_iff.1 hk).1
  | r :: L, m + 1, f, row, k, v, ht, h, hk, hv => by
    obtain ⟨y, h1, h2⟩ := flat_get (L := L) (m := m) ht.tail (by simpa using h) hk hv
    refine ⟨y, h1, ?_⟩
    rw [flat_cons, List.getElem?_append_right (by rw [rowV_len ks r ht.head.1, Nat.add_mul]; omega), rowV_len ks r ht.head.1, ← h2]
    congr 1; rw [Nat.add_mul]; omega
theorem rowV_back : ∀ {ks : List CK} {row : List CV} {f : Nat} {y : Value}, RowT ks row → (rowV ks row)[f]? = some y → ∃ k v, ks[f]? = some k ∧ row[f]? = some v ∧ cvV k v = some y
  | [], [], f, y, _, h => by simp [rowV] at h
  | [], _ :: _, f, y, h, _ => by simp [RowT] at h
  | _ :: _, [], f, y, h, _ => by simp [RowT] at h
  | k :: ks, v :: vs, 0, y, ht, h => by
    obtain ⟨z, hz⟩ := ht.2 0 k v rfl rfl
    simp [rowV, hz] at h; subst h
    exact ⟨k, v, rfl, rfl, hz⟩
  | k :: ks, v :: vs, f + 1, y, ht, h => by
    have ht' : RowT ks vs := ⟨by simpa using ht.1, fun f k v h1 h2 => ht.2 (f + 1) k v (by simpa using h1) (by simpa using h2)⟩
    simp only [rowV, List.getElem?_cons_succ] at h
    obtain ⟨k', v', h1, h2, h3⟩ := rowV_back ht' h
    exact ⟨k', v', by simpa using h1, by simpa using h2, h3⟩
theorem flat_back {ks : List CK} : ∀ {L : List (List CV)} {j : Nat} {y : Value}, Typ ks L → (flatV ks L)[j]? = some y → ∃ m f row k v, j = m * ks.length + f ∧ L[m]? = some row ∧ ks[f]? = some k ∧ row[f]? = some v ∧ cvV k v = some y
  | [], j, y, _, h => by simp [flatV] at h
  | r :: L, j, y, ht, h => by
    rw [flat_cons] at h
    by_cases hj : j < (rowV ks r).length
    · rw [List.getElem?_append_left hj] at h
      obtain ⟨k, v, h1, h2, h3⟩ := rowV_back ht.head h
      exact ⟨0, j, r, k, v, by omega, rfl, h1, h2, h3⟩
    · rw [List.getElem?_append_right (by omega), rowV_len ks r ht.head.1] at h
      rw [rowV_len ks r ht.head.1] at hj
      obtain ⟨m, f, row, k, v, h1, h2, h3⟩ := flat_back ht.tail h
      exact ⟨m + 1, f, row, k, v, by rw [Nat.add_mul]; omega, by simpa using h2, h3⟩
theorem rowsAt_iff {get : Nat → Option Value} {ks : List CK} {L : List (List CV)} : RowsAt get ks L ↔ Typ ks L ∧ ∀ (j : Nat) y, (flatV ks L)[j]? = some y → get j = some y := by
  constructor
  · intro h
    have ht : Typ ks L := by
      intro row hr
      obtain ⟨m, hm⟩ := List.getElem?_of_mem hr
      obtain ⟨h1, h2⟩ := h m row hm
      exact ⟨h1, fun f k v hk hv => let ⟨y, a, _⟩ := h2 f k v hk hv; ⟨y, a⟩⟩
    refine ⟨ht, fun j y hj => ?_⟩
    obtain ⟨m, f, row, k, v, rfl, h2, h3, h4, h5⟩ := flat_back ht hj
    obtain ⟨y', k1, k2⟩ := (h m row h2).2 f k v h3 h4
    rw [h5] at k1; simp at k1; subst k1; exact k2
  · rintro ⟨ht, h⟩ m row hm
    have hr := ht row (List.mem_of_getElem? hm)
    refine ⟨hr.1, fun f k v hk hv => ?_⟩
    obtain ⟨y, h1, h2⟩ := flat_get ht hm hk hv
    exact ⟨y, h1, h _ _ h2⟩
theorem cvV_one {k : CK} {v : CV} {y : Value} (h : cvV k v = some y) : y.oneCell' = true := by
  unfold cvV at h
  split at h
  · simp at h; subst h; rfl
  · simp at h; subst h; rfl
  · split at h
    · simp at h; subst h; rfl
    · cases h
  · split at h
    · simp at h; subst h; assumption
    · cases h
  · cases h
theorem flat_one {ks : List CK} {L : List (List CV)} (ht : Typ ks L) : ∀ y ∈ flatV ks L, y.oneCell' = true := by
  intro y hy
  obtain ⟨j, hj⟩ := List.getElem?_of_mem hy
  obtain ⟨_, _, _, _, _, _, _, _, _, h⟩ := flat_back ht hj
  exact cvV_one h
theorem Typ.sub {ks : List CK} {L M : List (List CV)} (h : Typ ks L) (hs : ∀ x ∈ M, x ∈ L) : Typ ks M := fun r hr => h r (hs r hr)
theorem Typ.app {ks : List CK} {L M : List (List CV)} (h : Typ ks L) (h' : Typ ks M) : Typ ks (L ++ M) := by
  intro r hr
  rcases List.mem_append.1 hr with hr | hr
  · exact h r hr
  · exact h' r hr
theorem flat_take {ks : List CK} : ∀ {L : List (List CV)} (n : Nat), Typ ks L → flatV ks (L.take n) = (flatV ks L).take (n * ks.length)
  | [], n, _ => by simp [flatV]
  | r :: L, 0, _ => by simp [flatV]
  | r :: L, n + 1, ht => by
    rw [List.take_succ_cons, flat_cons, flat_cons, flat_take n ht.tail, List.take_append, rowV_len ks r ht.head.1]
    rw [List.take_of_length_le (l := rowV ks r) (by rw [rowV_len ks r ht.head.1, Nat.add_mul]; omega)]
    congr 2; rw [Nat.add_mul]; omega
theorem flat_drop {ks : List CK} : ∀ {L : List (List CV)} (n : Nat), Typ ks L → flatV ks (L.drop n) = (flatV ks L).drop (n * ks.length)
  | [], n, _ => by simp [flatV]
  | r :: L, 0, _ => by simp
  | r :: L, n + 1, ht => by
    rw [List.drop_succ_cons, flat_cons, flat_drop n ht.tail, List.drop_append, rowV_len ks r ht.head.1]
    rw [List.drop_of_length_le (l := rowV ks r) (by rw [rowV_len ks r ht.head.1, Nat.add_mul]; omega), List.nil_append]
    congr 1; rw [Nat.add_mul]; omega

/-! ### What is read -/
def rslX : AV → Option RSl
  | .inl (.inl (.inr (.inr (.inr (.inr (.inr (.inr (.inr (.inr (.inr (.inr (.inr (.inl s))))))))))))) => some s
  | _ => none
def rptX : AV → Option RPt
  | .inl (.inl (.inr (.inr (.inr (.inr (.inr (.inr (.inr (.inr (.inr (.inr (.inr (.inr (.inl p)))))))))))))) => some p
  | _ => none
theorem rslX_eq {x : AV} {s : RSl} (h : rslX x = some s) : x = cell (rslC s) := by
  unfold rslX at h
  split at h
  · simp at h; subst h; rfl
  · cases h
theorem rptX_eq {x : AV} {p : RPt} (h : rptX x = some p) : x = cell (rptC p) := by
  unfold rptX at h
  split at h
  · simp at h; subst h; rfl
  · cases h

/-- Cells of one row, one after another. -/
def loadF (L : List (List CV)) (a u m : Nat) (K : List Cell → Held → Prop) : List CK → Nat → List Cell → Held → Prop
  | [], _, cs, hs => K cs hs
  | .n k :: l, f, cs, hs => ∀ z : Int, z = U.fi L m f → loadF L a u m K l (f + 1) (cs ++ [xintC k z]) (hs ++ [.inr (.inr (a, u, m, f, .n k, .i z))])
  | .b :: l, f, cs, hs => (U.fb L m f = true → loadF L a u m K l (f + 1) (cs ++ [.inl (.bool true)]) (hs ++ [.inr (.inr (a, u, m, f, .b, .b true))])) ∧ (U.fb L m f = false → loadF L a u m K l (f + 1) (cs ++ [.inl (.bool false)]) (hs ++ [.inr (.inr (a, u, m, f, .b, .b false))]))
  | .s :: l, f, cs, hs => ∀ z : List Int, z = U.fs L m f → loadF L a u m K l (f + 1) (cs ++ [strC z]) (hs ++ [.inr (.inr (a, u, m, f, .s, .s z))])
  | .v :: l, f, cs, hs => ∀ z : Value, z = U.fv L m f → loadF L a u m K l (f + 1) (cs ++ [opnC z]) (hs ++ [.inr (.inr (a, u, m, f, .v, .v z))])

def loadH0 (P : Program) (t : TypeId) (p : RPt) (σ : St) : Option QT :=
  match getArr σ p.a with
  | some b => match b.k with
    | .o (.rows ks L) => if Nat.beq ks.length p.u then match isAggT P t, sizeT P t with
        | some true, some n => if Nat.ble (p.f + n) ks.length then some fun K => p.m < L.length ∧ loadF L p.a p.u p.m (fun cs hs => K (.inl (.inr cs)) hs) ((ks.drop p.f).take n) p.f [] [] else none
        | some false, some _ => if Nat.blt p.f ks.length then some fun K => p.m < L.length ∧ loadF L p.a p.u p.m (fun cs hs => match cs with
            | [c] => K (cell c) hs
            | _ => Err [170]) ((ks.drop p.f).take 1) p.f [] [] else none
        | _, _ => none
      else none
    | _ => none
  | none => none

/-- What was frozen from the beginning on, if that is told. -/
def oldAt : List (Option ABlk) → Option (Value → FB → Prop)
  | [] => none
  | some x :: l => match x.k with
    | .o (.old F) => if x.ro then oldAt l else some F
    | _ => oldAt l
  | none :: l => oldAt l
def isVK : CK → Bool
  | .v => true
  | _ => false
/-- Is a slice among the cells that are loaded, and is told what it holds? -/
def vLoad (P : Program) (t : TypeId) (p : RPt) (σ : St) : Bool :=
  match getArr σ p.a, sizeT P t with
  | some b, some n => match b.k with
    | .o (.rows ks _) => ((ks.drop p.f).take n).any isVK && (oldAt σ.arrs).isSome
    | _ => false
  | _, _ => false
def loadH (P : Program) (t : TypeId) (p : RPt) (σ : St) : Option QT := if vLoad P t p σ then none else loadH0 P t p σ

def indexH (P : Program) (t : TypeId) (s : RSl) (i : Int) : Option QT :=
  match P.underlying t with
  | some (.slice e) => match sizeT P e with
    | some n => if Nat.beq n s.u then some fun K => (0 ≤ i ∧ i < (s.n : Int)) ∧ ∀ j : Nat, (j : Int) = (s.o : Int) + i → K (cell (rptC ⟨s.a, s.u, j, 0⟩)) [] else none
    | none => none
  | _ => none
def inArrH (P : Program) (t : TypeId) (p : RPt) (i : Nat) : Option QT :=
  match P.underlying t with
  | some (.array len e) => match sizeT P e with
    | some n => if Nat.blt i len then some fun K => K (cell (rptC ⟨p.a, p.u, p.m, p.f + i * n⟩)) [] else none
    | none => none
  | _ => none
def fieldH (P : Program) (t : TypeId) (p : RPt) (f : Nat) : Option QT :=
  match P.underlying t with
  | some (.struct fs) => match fs[f]? with
    | some g => match sizeT P g.type with
      | some (_ + 1) => some fun K => K (cell (rptC ⟨p.a, p.u, p.m, p.f + g.offset⟩)) []
      | _ => none
    | none => none
  | _ => none
def cutHn (P : Program) (t : TypeId) (sa su so sn sc : Nat) (lo hi : Option Int) : Option QT :=
  match P.underlying t with
  | some (.slice e) => match sizeT P e with
    | some n => if Nat.beq n su then some fun K => (0 ≤ lo.getD 0 ∧ lo.getD 0 ≤ hi.getD sn ∧ hi.getD sn ≤ (sc : Int)) ∧ ∀ o n c : Nat, (o : Int) = (if (sc : Int) = lo.getD 0 then (so : Int) else (so : Int) + lo.getD 0) → (n : Int) = hi.getD sn - lo.getD 0 → (c : Int) = (sc : Int) - lo.getD 0 → K (cell (rslC ⟨sa, su, o, n, c⟩)) [] else none
    | none => none
  | _ => none
def cutH (P : Program) (t : TypeId) (s : RSl) (lo hi : Option Int) : Option QT :=
  match s with
  | ⟨sa, su, so, sn, sc⟩ => cutHn P t sa su so sn sc lo hi
def nilH (op : BinOp) (s : RSl) : Option QT :=
  match op with
  | .eql => some fun K => (s.n = 0 → K (lit (.bool true)) []) ∧ K (lit (.bool false)) []
  | .neq => some fun K => (s.n = 0 → K (lit (.bool false)) []) ∧ K (lit (.bool true)) []
  | _ => none

/-- One of some few things, by an open number: each in turn. -/
def caseK (i : Int) (f : Nat → Prop) : Nat → Prop
  | 0 => True
  | n + 1 => caseK i f n ∧ (i = (n : Int) → f n)
def caseH (P : Program) (t : TypeId) (x : AV) (i : Int) : Option QT :=
  match P.underlying t, x with
  | some (.slice e), .inl (.inl (.inr (.inr (.inl s)))) => match sizeT P e with
    | some n => if Nat.ble s.n 16 then some fun K => (0 ≤ i ∧ i < (s.n : Int)) ∧ caseK i (fun k => K (ptr s.b (s.o + k * n)) []) s.n else none
    | none => none
  | _, _ => none

def takeH (P : Program) (tm : List AV) (o : Oper) (σ : St) : Option QT :=
  match o.op with
  | .load t x => match rptX (evalA tm x) with
    | some p => loadH P t p σ
    | none => none
  | .nilCheck x => match rptX (evalA tm x) with
    | some p => some fun K => K (cell (rptC p)) []
    | none => none
  | .fieldAddr t x f => match rptX (evalA tm x) with
    | some p => fieldH P t p f
    | none => none
  | .indexAddr t x i => match rslX (evalA tm x) with
    | some s => match intX (evalA tm i) with
      | some (_, i) => indexH P t s i
      | none => none
    | none => match rptX (evalA tm x), asNat (evalA tm i) with
      | some p, some i => inArrH P t p i
      | _, _ => match intX (evalA tm i) with
        | some (_, i) => caseH P t (evalA tm x) i
        | none => none
  | .slice t x lo hi mx => match rslX (evalA tm x), bndX (lo.map (evalA tm)), bndX (hi.map (evalA tm)), mx with
    | some s, some lo, some hi, none => cutH P t s lo hi
    | _, _, _, _ => none
  | .binOp op t x y _ => match P.underlying t with
    | some (.slice _) => match rslX (evalA tm x) with
      | some s => if isNilSl (evalA tm y) then nilH op s else none
      | none => none
    | _ => none
  | .call c => match c.callee, c.argTypes.toList, c.args.toList with
    | .builtin .len, t :: _, [x] => match P.underlying t, rslX (evalA tm x) with
      | some (.slice _), some s => some (newI .i64 (s.n : Int))
      | _, _ => none
    | .builtin .cap, t :: _, [x] => match P.underlying t, rslX (evalA tm x) with
      | some (.slice _), some s => some (newI .i64 (s.c : Int))
      | _, _ => none
    | _, _, _ => none
  | _ => none

section
variable {P : Program} {w0 w w' : World} {e : Env} {σ : St} {tm : List AV} {a : Act}

theorem rsl_ok {s : RSl} {v : Value} (hv : av e (cell (rslC s)) = some v) :
    (∃ A, e.arr[s.a]? = some (.inl A) ∧ s.n = 0 ∧ s.c = 0 ∧ v = .slice A 0 0) ∨ ∃ q, e.arr[s.a]? = some (.inr q) ∧ s.n ≤ s.c ∧ v = .slice (some ⟨q.1, q.2 + s.o * s.u, none⟩) s.n s.c := by
  simp only [cell, rslC, av, v1, cv] at hv
  split at hv
  · rename_i A hq
    split at hv
    · rename_i hn; simp at hv; exact .inl ⟨_, hq, hn.1, hn.2, hv.symm⟩
    · cases hv
  · rename_i q hq
    split at hv
    · rename_i hn; simp at hv; exact .inr ⟨q, hq, hn, hv.symm⟩
    · cases hv
  · cases hv
theorem rpt_ok {p : RPt} {v : Value} (hv : av e (cell (rptC p)) = some v) : ∃ q, e.arr[p.a]? = some (.inr q) ∧ v = .pointer (some ⟨q.1, q.2 + (p.m * p.u + p.f), none⟩) := by
  simp only [cell, rptC, av, v1, cv] at hv
  split at hv
  · rename_i q hq; simp at hv; exact ⟨q, hq, hv.symm⟩
  · cases hv
theorem rpt_av {p : RPt} {q : Nat × Nat} (h : e.arr[p.a]? = some (.inr q)) : av e (cell (rptC p)) = some (.pointer (some ⟨q.1, q.2 + (p.m * p.u + p.f), none⟩)) := by
  simp only [cell, rptC, av, v1, cv, h]
theorem rsl_av {s : RSl} {q : Nat × Nat} (h : e.arr[s.a]? = some (.inr q)) (hn : s.n ≤ s.c) : av e (cell (rslC s)) = some (.slice (some ⟨q.1, q.2 + s.o * s.u, none⟩) s.n s.c) := by
  simp only [cell, rslC, av, v1, cv, h, if_pos hn]
theorem rsl_nil {s : RSl} {A : Option Addr} (h : e.arr[s.a]? = some (.inl A)) (hn : s.n = 0) (hc : s.c = 0) : av e (cell (rslC s)) = some (.slice A 0 0) := by
  simp only [cell, rslC, av, v1, cv, h, if_pos (show s.n = 0 ∧ s.c = 0 from ⟨hn, hc⟩)]

/-- Rows as the world has them. -/
theorem Ok.rowsAt (hk : Ok w0 e σ w) {a : Nat} {b : ABlk} {ks : List CK} {L : List (List CV)} {q : Nat × Nat} (hb : getArr σ a = some b) (hbk : b.k = .o (.rows ks L)) (hq : e.arr[a]? = some (.inr q)) :
    0 < ks.length ∧ ∃ cur el fz, w.heap[q.1]? = some (.cells cur el fz) ∧ RowsAt (fun j => cur[q.2 + j]?) ks L ∧ (b.ro = false → (el = b.elem ∧ (fz = (0, 0) ∨ cur.size ≤ fz.1)) ∧ q.2 + b.cap * ks.length ≤ cur.size ∧ L.length ≤ b.cap ∧ ∀ v ∈ cur, v.oneCell' = true) := by
  obtain ⟨q', hq', h1⟩ := hk.arrAt hb
  rw [hq] at hq'; simp at hq'; subst hq'
  obtain ⟨⟨ob, g1, g2⟩, g3⟩ := h1
  rw [hbk] at g2
  obtain ⟨g0, cur, el, fz, rfl, g4, g5⟩ := g2
  exact ⟨g0, cur, el, fz, g1, g4, g5⟩

theorem loadF_ok (hk : Ok w0 e σ w) {aa u m : Nat} {b : ABlk} {ks : List CK} {L : List (List CV)} {q : Nat × Nat} {K : List Cell → Held → Prop} (hb : getArr σ aa = some b) (hbk : b.k = .o (.rows ks L)) (hu : ks.length = u) (hm : m < L.length) (hq : e.arr[aa]? = some (.inr q)) (f0 : Nat) :
    ∀ (l : List CK) (cs : List Cell) (hs : Held) (vs : List Value), (∀ (j : Nat) k, l[j]? = some k → ks[f0 + cs.length + j]? = some k) → cs.map (cv e) = vs.map some → HeldIn σ hs →
      (∀ w', heldS e hs w' → ∀ (j : Nat) v, vs[j]? = some v → w'.cell? ⟨q.1, q.2 + (m * u + (f0 + j)), none⟩ = some v) → loadF L aa u m K l (f0 + cs.length) cs hs →
      ∃ (cs' : List Cell) (hs' : Held) (vs' : List Value), K cs' hs' ∧ HeldIn σ hs' ∧ cs'.map (cv e) = vs'.map some ∧ vs'.length = cs.length + l.length ∧ ∀ w', heldS e hs' w' → ∀ (j : Nat) v, vs'[j]? = some v → w'.cell? ⟨q.1, q.2 + (m * u + (f0 + j)), none⟩ = some v := by
  obtain ⟨_, cur, el, fz, _, hrows, _⟩ := hk.rowsAt hb hbk hq
  have hrow := List.getElem?_eq_getElem hm
  have hR := hrows m _ hrow
  have hgd : L.getD m [] = L[m] := by rw [List.getD_eq_getElem?_getD, hrow]; rfl
  intro l
  induction l with
  | nil =>
    intro cs hs vs _ hv hh hw h
    exact ⟨cs, hs, vs, h, hh, hv, by have := map_len hv; simp; omega, hw⟩
  | cons k l ih =>
    intro cs hs vs hl hv hh hw h
    have hkf := hl 0 k rfl
    rw [Nat.add_zero] at hkf
    have hflt := (List.getElem?_eq_some_iff.1 hkf).1
    have hvf : (L[m])[f0 + cs.length]? = some ((L[m])[f0 + cs.length]'(by rw [hR.1]; exact hflt)) := List.getElem?_eq_getElem _
    obtain ⟨y, hy, _⟩ := hR.2 _ _ _ hkf hvf
    have step : ∀ (c : Cell) (v : CV), (L[m])[f0 + cs.length]? = some v → cvV k v = some y → cv e c = some y → loadF L aa u m K l (f0 + cs.length + 1) (cs ++ [c]) (hs ++ [.inr (.inr (aa, u, m, f0 + cs.length, k, v))]) →
        ∃ (cs' : List Cell) (hs' : Held) (vs' : List Value), K cs' hs' ∧ HeldIn σ hs' ∧ cs'.map (cv e) = vs'.map some ∧ vs'.length = cs.length + (k :: l).length ∧ ∀ w', heldS e hs' w' → ∀ (j : Nat) v, vs'[j]? = some v → w'.cell? ⟨q.1, q.2 + (m * u + (f0 + j)), none⟩ = some v := by
      intro c v hvv hyv hc hrec
      have hlen := map_len hv
      have a1 : ∀ (j : Nat) k', l[j]? = some k' → ks[f0 + (cs ++ [c]).length + j]? = some k' := by
        intro j k' hj
        have := hl (j + 1) k' (by simpa using hj)
        rw [List.length_append, List.length_singleton, ← this]; congr 1; omega
      have a2 : (cs ++ [c]).map (cv e) = (vs ++ [y]).map some := by rw [List.map_append, List.map_append, hv]; simp [hc]
      have a3 : HeldIn σ (hs ++ [.inr (.inr (aa, u, m, f0 + cs.length, k, v))]) := by
        intro p hp
        rcases List.mem_append.1 hp with hp | hp
        · exact hh p hp
        · simp at hp; subst hp
          exact ⟨b, ks, L, hb, hbk, hu, hkf, ⟨_, hrow, hvv⟩⟩
      have a4 : ∀ w', heldS e (hs ++ [.inr (.inr (aa, u, m, f0 + cs.length, k, v))]) w' → ∀ (j : Nat) v, (vs ++ [y])[j]? = some v → w'.cell? ⟨q.1, q.2 + (m * u + (f0 + j)), none⟩ = some v := by
        intro w' hS j v' hj
        have hS1 : heldS e hs w' := fun p hp => hS p (List.mem_append_left _ hp)
        rcases get_snoc hj with ⟨_, j1⟩ | ⟨j1, j2⟩
        · exact hw w' hS1 j v' j1
        · subst j2
          have := hS (.inr (.inr (aa, u, m, f0 + cs.length, k, v))) (List.mem_append_right _ (by simp)) q y hq hyv
          rw [j1, ← hlen]; exact this
      obtain ⟨cs', hs', vs', g1, g2, g3, g4, g5⟩ := ih (cs ++ [c]) (hs ++ [.inr (.inr (aa, u, m, f0 + cs.length, k, v))]) (vs ++ [y]) a1 a2 a3 a4 (by rw [List.length_append, List.length_singleton, ← Nat.add_assoc]; exact hrec)
      exact ⟨cs', hs', vs', g1, g2, g3, by rw [g4]; simp; omega, g5⟩
    cases k with
    | n k =>
      simp only [loadF] at h
      cases hcv : (L[m])[f0 + cs.length]'(by rw [hR.1]; exact hflt) with
      | i z =>
        rw [hcv] at hvf hy
        simp only [cvV, Option.some.injEq] at hy
        have hz : U.fi L m (f0 + cs.length) = z := by unfold U.fi; rw [hgd, hvf]
        exact step (xintC k z) (.i z) hvf (by rw [← hy]; rfl) (by rw [← hy]; rfl) (h z hz.symm)
      | b x => rw [hcv] at hy; simp [cvV] at hy
      | s x => rw [hcv] at hy; simp [cvV] at hy
      | v x => rw [hcv] at hy; simp [cvV] at hy
    | b =>
      simp only [loadF] at h
      cases hcv : (L[m])[f0 + cs.length]'(by rw [hR.1]; exact hflt) with
      | i z => rw [hcv] at hy; simp [cvV] at hy
      | b x =>
        rw [hcv] at hvf hy
        simp only [cvV, Option.some.injEq] at hy
        have hz : U.fb L m (f0 + cs.length) = x := by unfold U.fb; rw [hgd, hvf]
        cases x with
        | true => exact step (.inl (.bool true)) (.b true) hvf (by rw [← hy]; rfl) (by rw [← hy]; rfl) (h.1 hz)
        | false => exact step (.inl (.bool false)) (.b false) hvf (by rw [← hy]; rfl) (by rw [← hy]; rfl) (h.2 hz)
      | s x => rw [hcv] at hy; simp [cvV] at hy
      | v x => rw [hcv] at hy; simp [cvV] at hy
    | s =>
      simp only [loadF] at h
      cases hcv : (L[m])[f0 + cs.length]'(by rw [hR.1]; exact hflt) with
      | i z => rw [hcv] at hy; simp [cvV] at hy
      | b x => rw [hcv] at hy; simp [cvV] at hy
      | s x =>
        rw [hcv] at hvf hy
        have hz : U.fs L m (f0 + cs.length) = x := by unfold U.fs; rw [hgd, hvf]
        have hb : x.all byteZ = true := by
          simp only [cvV] at hy
          split at hy
          · assumption
          · cases hy
        simp only [cvV, hb, if_true, Option.some.injEq] at hy
        exact step (strC x) (.s x) hvf (by simp only [cvV, hb, if_true, hy]) (by rw [← hy]; simp only [strC, cv, hb, if_true]) (h x hz.symm)
      | v x => rw [hcv] at hy; simp [cvV] at hy
    | v =>
      simp only [loadF] at h
      cases hcv : (L[m])[f0 + cs.length]'(by rw [hR.1]; exact hflt) with
      | i z => rw [hcv] at hy; simp [cvV] at hy
      | b x => rw [hcv] at hy; simp [cvV] at hy
      | s x => rw [hcv] at hy; simp [cvV] at hy
      | v x =>
        rw [hcv] at hvf hy
        have hz : U.fv L m (f0 + cs.length) = x := by unfold U.fv; rw [hgd, hvf]
        have hb : x.oneCell' = true := by
          simp only [cvV] at hy
          split at hy
          · assumption
          · cases hy
        simp only [cvV, hb, if_true, Option.some.injEq] at hy
        exact step (opnC x) (.v x) hvf (by rw [← hy]; show (if x.oneCell' then some x else none) = some x; rw [if_pos hb]) (by rw [← hy]; show (if x.oneCell' then some x else none) = some x; rw [if_pos hb]) (h x hz.symm)

theorem loadH0_ok (hk : Ok w0 e σ w) {t : TypeId} {p : RPt} {q : Nat × Nat} {T : QT} {K : AV → Held → Prop} (h : loadH0 P t p σ = some T) (hK : T K) (hq : e.arr[p.a]? = some (.inr q)) :
    QOk P e σ (Instr.loadAt t (.pointer (some ⟨q.1, q.2 + (p.m * p.u + p.f), none⟩))) K := by
  unfold loadH0 at h
  split at h
  · rename_i b hb
    split at h
    · rename_i ks L hbk
      split at h
      · rename_i hu
        have hu : ks.length = p.u := by simpa using hu
        have sub : ∀ n, ∀ (j : Nat) k, ((ks.drop p.f).take n)[j]? = some k → ks[p.f + ([] : List Cell).length + j]? = some k := by
          intro n j k hj
          rw [List.getElem?_take] at hj
          split at hj
          · rw [List.getElem?_drop] at hj; simpa using hj
          · cases hj
        split at h
        · rename_i n ha hs
          split at h
          · rename_i hle
            have hle : p.f + n ≤ ks.length := by simpa using hle
            simp only [Option.some.injEq] at h; subst h
            obtain ⟨hm, hK⟩ := hK
            obtain ⟨cs', hs', vs', g1, g2, g3, g4, g5⟩ := loadF_ok hk hb hbk hu hm hq p.f ((ks.drop p.f).take n) [] [] [] (sub n) rfl (by intro p hp; simp at hp) (by intro w' _ j v hj; simp at hj) (by simpa using hK)
            refine ⟨_, hs', g1, g2, _, av_agg_mk g3, fun w' hS => ?_⟩
            have hrun := run_loadCells_list (P := P) w' ⟨q.1, q.2 + (p.m * p.u + p.f), none⟩ vs' (fun j u hj => by rw [Addr.add_lit]; have := g5 w' hS j u hj; rw [← this]; congr 2; omega)
            have hn : vs'.length = n := by rw [g4]; simp; omega
            rw [hn] at hrun
            simp [Instr.loadAt, Instr.sureAddr, loadVar, run_isAggT ha, run_sizeT hs, hrun]
          · cases h
        · rename_i n ha hs
          split at h
          · rename_i hle
            have hle : p.f < ks.length := by simpa using hle
            simp only [Option.some.injEq] at h; subst h
            obtain ⟨hm, hK⟩ := hK
            obtain ⟨cs', hs', vs', g1, g2, g3, g4, g5⟩ := loadF_ok hk hb hbk hu hm hq p.f ((ks.drop p.f).take 1) [] [] [] (sub 1) rfl (by intro p hp; simp at hp) (by intro w' _ j v hj; simp at hj) (by simpa using hK)
            have hn : vs'.length = 1 := by rw [g4]; simp; omega
            obtain ⟨u, rfl⟩ : ∃ u, vs' = [u] := by
              match vs', hn with
              | [u], _ => exact ⟨u, rfl⟩
            obtain ⟨c, rfl⟩ : ∃ c, cs' = [c] := by
              match cs', map_len g3 with
              | [c], _ => exact ⟨c, rfl⟩
            simp at g3
            refine ⟨_, hs', g1, g2, u, by simpa [av, v1, cell] using g3, fun w' hS => ?_⟩
            have := g5 w' hS 0 u rfl
            simp at this
            simp [Instr.loadAt, Instr.sureAddr, loadVar, run_isAggT ha, this]
          · cases h
        · cases h
      · cases h
    · cases h
  · cases h

theorem loadH_ok (hk : Ok w0 e σ w) {t : TypeId} {p : RPt} {q : Nat × Nat} {T : QT} {K : AV → Held → Prop} (h : loadH P t p σ = some T) (hK : T K) (hq : e.arr[p.a]? = some (.inr q)) :
    QOk P e σ (Instr.loadAt t (.pointer (some ⟨q.1, q.2 + (p.m * p.u + p.f), none⟩))) K := by
  unfold loadH at h
  split at h
  · cases h
  · exact loadH0_ok hk h hK hq
theorem indexH_ok {t : TypeId} {s : RSl} {i : Int} {k : IntKind} {v : Value} {T : QT} {K : AV → Held → Prop} (h : indexH P t s i = some T) (hK : T K) (hv : av e (cell (rslC s)) = some v) :
    QOk P e σ (Instr.indexAt t v (.int k i)) K := by
  unfold indexH at h
  split at h
  · rename_i el hu
    split at h
    · rename_i n hs
      split at h
      · rename_i hn'
        have hn' : n = s.u := by simpa using hn'
        subst hn'
        simp only [Option.some.injEq] at h; subst h
        obtain ⟨⟨h1, h2⟩, hK⟩ := hK
        rcases rsl_ok hv with ⟨A, _, hn, _⟩ | ⟨q, hq, hn, rfl⟩
        · rw [hn] at h2; omega
        · refine QOk.nil (hK (s.o + i.toNat) (by omega)) _ (rpt_av hq) (fun w' => ?_)
          simp [Instr.indexAt, asIntOf, run_underlying hu, h1, h2, run_sizeT hs, Addr.add_lit, Nat.add_assoc, Nat.add_mul]
      · cases h
    · cases h
  · cases h
theorem inArrH_ok {t : TypeId} {p : RPt} {i : Nat} {k : IntKind} {v : Value} {T : QT} {K : AV → Held → Prop} (h : inArrH P t p i = some T) (hK : T K) (hv : av e (cell (rptC p)) = some v) :
    QOk P e σ (Instr.indexAt t v (.int k i)) K := by
  unfold inArrH at h
  split at h
  · rename_i len el hu
    split at h
    · rename_i n hs
      split at h
      · rename_i hlt
        have hlt : i < len := by simpa using hlt
        simp only [Option.some.injEq] at h; subst h
        obtain ⟨q, hq, rfl⟩ := rpt_ok hv
        refine QOk.nil hK _ (rpt_av hq) (fun w' => ?_)
        have h2 : (i : Int) < (len : Int) := by omega
        have h1 : (0 : Int) ≤ (i : Int) := by omega
        simp [Instr.indexAt, asIntOf, run_underlying hu, h1, h2, hlt, run_sizeT hs, Instr.sureAddr, Addr.add_lit, Nat.add_assoc]
      · cases h
    · cases h
  · cases h
theorem caseK_get {i : Int} {f : Nat → Prop} : ∀ {n : Nat}, caseK i f n → ∀ k, k < n → i = (k : Int) → f k
  | 0, _, k, hk, _ => by omega
  | n + 1, h, k, hk, hi => by
    rcases Nat.lt_or_ge k n with h1 | h1
    · exact caseK_get h.1 k h1 hi
    · have : k = n := by omega
      subst this; exact h.2 hi
theorem caseH_ok {t : TypeId} {x : AV} {i : Int} {k : IntKind} {v : Value} {T : QT} {K : AV → Held → Prop} (h : caseH P t x i = some T) (hK : T K) (hv : av e x = some v) :
    QOk P e σ (Instr.indexAt t v (.int k i)) K := by
  unfold caseH at h
  split at h
  · rename_i el s hu
    split at h
    · rename_i n hs
      split at h
      · simp only [Option.some.injEq] at h; subst h
        obtain ⟨⟨h1, h2⟩, hK⟩ := hK
        obtain ⟨q, c, hq, hc, hn, rfl⟩ := av_sl hv
        obtain ⟨m, rfl⟩ : ∃ m : Nat, i = m := ⟨i.toNat, by omega⟩
        have := caseK_get hK m (by omega) rfl
        refine QOk.nil this (.pointer (some ⟨q.1, q.2 + (s.o + m * n), none⟩)) (by simp [av, v1, cv, ptr, cell, ptrV, hq]) (fun w' => ?_)
        simp [Instr.indexAt, asIntOf, run_underlying hu, h1, h2, run_sizeT hs, Addr.add_lit, Nat.add_assoc]
        first | done | omega
      · cases h
    · cases h
  · cases h
theorem fieldH_ok {t : TypeId} {p : RPt} {f : Nat} {v : Value} {T : QT} {K : AV → Held → Prop} (h : fieldH P t p f = some T) (hK : T K) (hv : av e (cell (rptC p)) = some v) :
    QOk P e σ (Instr.fieldAt t v f) K := by
  unfold fieldH at h
  split at h
  · rename_i fs hu
    split at h
    · rename_i g hg
      split at h
      · rename_i n hs
        simp only [Option.some.injEq] at h; subst h
        obtain ⟨q, hq, rfl⟩ := rpt_ok hv
        refine QOk.nil hK _ (rpt_av hq) (fun w' => ?_)
        simp [Instr.fieldAt, run_underlying hu, hg, Instr.sureAddr, fieldPlace, run_sizeT hs, Addr.add_lit, Nat.add_assoc]
      · cases h
    · cases h
  · cases h
theorem run_cutU {t el : TypeId} {u : Nat} (hu : P.underlying t = some (.slice el)) (hs : sizeT P el = some u) (A : Option Addr) (n c l h : Nat) {vlo vhi : Option Value} (hc : h ≤ c) (hl : l ≤ h) (hn : n ≤ c)
    (hlo : (vlo = none ∧ l = 0) ∨ ∃ k, vlo = some (.int k (l : Int))) (hhi : (vhi = none ∧ h = n) ∨ ∃ k, vhi = some (.int k (h : Int))) (w : World) :
    (Instr.sliceAt t (.slice A n c) vlo vhi none).run P w = .ok (.slice (if c = l then A else A.map (·.add (l * u))) (h - l) (c - l)) w := by
  have sb : ∀ (w : World) (k : IntKind) (i y : Nat) (code : BoundsCode), i ≤ y → (Instr.sliceBound (.int k (i : Int)) y code).run P w = .ok i w := by
    intro w k i y code hi
    have : (i : Int) ≤ (y : Int) := by omega
    simp [Instr.sliceBound, asIntOf, this]
  rcases hhi with ⟨rfl, rfl⟩ | ⟨k, rfl⟩ <;> rcases hlo with ⟨rfl, rfl⟩ | ⟨k', rfl⟩
  · simp [Instr.sliceAt, run_underlying hu, Instr.slice, Instr.sliceBounds, run_sizeT hs]
  · simp [Instr.sliceAt, run_underlying hu, Instr.slice, Instr.sliceBounds, run_sizeT hs, sb w k' l _ _ hl]
  · simp [Instr.sliceAt, run_underlying hu, Instr.slice, Instr.sliceBounds, run_sizeT hs, sb w k h _ _ hc]
  · simp [Instr.sliceAt, run_underlying hu, Instr.slice, Instr.sliceBounds, run_sizeT hs, sb w k h _ _ hc, sb w k' l _ _ hl]
theorem cutH_ok {t : TypeId} {s : RSl} {lo hi : Option Int} {vlo vhi : Option Value} {v : Value} {T : QT} {K : AV → Held → Prop} (h : cutH P t s lo hi = some T) (hK : T K) (hv : av e (cell (rslC s)) = some v)
    (hlo : (lo = none ∧ vlo = none) ∨ ∃ i k, lo = some i ∧ vlo = some (.int k i)) (hhi : (hi = none ∧ vhi = none) ∨ ∃ i k, hi = some i ∧ vhi = some (.int k i)) :
    QOk P e σ (Instr.sliceAt t v vlo vhi none) K := by
  obtain ⟨sa, su, so, sn, sc⟩ := s
  unfold cutH cutHn at h
  dsimp only at h
  split at h
  · rename_i el hu
    split at h
    · rename_i n hs
      split at h
      · rename_i hn'
        have hn' : su = n := by symm; simpa using hn'
        subst hn'
        simp only [Option.some.injEq] at h; subst h
        obtain ⟨⟨h1, h2, h3⟩, hK⟩ := hK
        obtain ⟨l, hl⟩ : ∃ l : Nat, (l : Int) = lo.getD 0 := ⟨(lo.getD 0).toNat, by omega⟩
        obtain ⟨hh, hh'⟩ : ∃ h : Nat, (h : Int) = hi.getD sn := ⟨(hi.getD sn).toNat, by omega⟩
        have q1 : (vlo = none ∧ l = 0) ∨ ∃ k, vlo = some (.int k (l : Int)) := by
          rcases hlo with ⟨rfl, rfl⟩ | ⟨i, k, rfl, rfl⟩
          · simp at hl; exact .inl ⟨rfl, hl⟩
          · simp at hl; exact .inr ⟨k, by rw [hl]⟩
        have q2 : (vhi = none ∧ hh = sn) ∨ ∃ k, vhi = some (.int k (hh : Int)) := by
          rcases hhi with ⟨rfl, rfl⟩ | ⟨i, k, rfl, rfl⟩
          · simp at hh'; exact .inl ⟨rfl, by omega⟩
          · simp at hh'; exact .inr ⟨k, by rw [hh']⟩
        have hK' := hK (if sc = l then so else so + l) (hh - l) (sc - l) (by split <;> split <;> omega) (by omega) (by omega)
        rcases rsl_ok hv with ⟨A, hq, g1, g2, rfl⟩ | ⟨q, hq, g1, rfl⟩ <;> dsimp only at hq g1 <;> (try dsimp only at g2)
        · have e1 : hh = 0 := by omega
          have e2 : l = 0 := by omega
          subst e1; subst e2
          refine QOk.nil hK' (.slice A 0 0) (rsl_nil hq (by simp) (by simp [g2])) (fun w' => ?_)
          have := run_cutU (P := P) hu hs A 0 0 0 0 (by omega) (by omega) (by omega) q1 (by rw [g1] at q2; exact q2) w'
          simpa using this
        · refine QOk.nil hK' _ (rsl_av hq (by dsimp only; omega)) (fun w' => ?_)
          have := run_cutU (P := P) hu hs (some ⟨q.1, q.2 + so * su, none⟩) sn sc l hh (by omega) (by omega) g1 q1 q2 w'
          rw [this]
          dsimp only
          congr 2
          by_cases hcl : sc = l <;> simp [hcl, Addr.add_lit, Nat.add_assoc, Nat.add_mul]
      · cases h
    · cases h
  · cases h
theorem eq_nil6h (d : Nat) {t el : TypeId} (hu : P.underlying t = some (.slice el)) (n c : Nat) : (Op.equalIn (d + 1) t (.slice none 0 0) (.slice none n c)).run P w = .ok true w := by simp [Op.equalIn, run_underlying hu]
theorem nilH_ok {op : BinOp} {t el : TypeId} {s : RSl} {v : Value} {T : QT} {K : AV → Held → Prop} (h : nilH op s = some T) (hK : T K) (hu : P.underlying t = some (.slice el)) (hv : av e (cell (rslC s)) = some v) (n c : Nat) :
    QOk P e σ (binOp op t v (.slice none n c)) K := by
  have eqd : ∀ (x : Value) (b : Bool), (∃ B k l, x = .slice B k l) → (∀ w, (Op.equal t x (.slice none n c)).run P w = .ok b w) → ∀ w, (binOp .eql t x (.slice none n c)).run P w = .ok (.bool b) w ∧ (binOp .neq t x (.slice none n c)).run P w = .ok (.bool !b) w := by
    rintro x b ⟨B, k, l, rfl⟩ hb w
    exact ⟨by simp [binOp, hb w], by simp [binOp, hb w]⟩
  have r1 := eqd (.slice none 0 0) true ⟨_, _, _, rfl⟩ (fun w => eq_nil6h 9999 hu n c)
  have r2 := fun (q : Addr) k l => eqd (.slice (some q) k l) false ⟨_, _, _, rfl⟩ (fun w => eq_nil3 9999 hu q k l n c)
  unfold nilH at h
  split at h
  · simp only [Option.some.injEq] at h; subst h
    rcases rsl_ok hv with ⟨A, _, hn, _, rfl⟩ | ⟨q, _, _, rfl⟩
    · cases A with
      | none => exact QOk.nil (hK.1 hn) _ (lit_av e _) (fun w => (r1 w).1)
      | some q => exact QOk.nil hK.2 _ (lit_av e _) (fun w => (r2 _ _ _ w).1)
    · exact QOk.nil hK.2 _ (lit_av e _) (fun w => (r2 _ _ _ w).1)
  · simp only [Option.some.injEq] at h; subst h
    rcases rsl_ok hv with ⟨A, _, hn, _, rfl⟩ | ⟨q, _, _, rfl⟩
    · cases A with
      | none => exact QOk.nil (hK.1 hn) _ (lit_av e _) (fun w => (r1 w).2)
      | some q => exact QOk.nil hK.2 _ (lit_av e _) (fun w => (r2 _ _ _ w).2)
    · exact QOk.nil hK.2 _ (lit_av e _) (fun w => (r2 _ _ _ w).2)
  · cases h
theorem rsl_plain {v : Value} {s : RSl} (hv : av e (cell (rslC s)) = some v) : v.oneCell' = true ∧ v ≠ .nilIface := by
  rcases rsl_ok hv with ⟨A, _, _, _, rfl⟩ | ⟨q, _, _, rfl⟩ <;> exact ⟨rfl, by simp⟩
theorem isNilSl_okH {x : AV} {v : Value} (h : isNilSl x = true) (hv : av e x = some v) : ∃ n c, v = .slice none n c := by
  unfold isNilSl at h
  split at h
  · exact ⟨_, _, av_lit hv⟩
  · cases h
/-- The operation itself. -/
def QOp (P : Program) (e : Env) (σ : St) (a : Act) (o : Oper) (K : AV → Held → Prop) : Prop :=
  ∃ v hs, K v hs ∧ HeldIn σ hs ∧ ∃ u, av e v = some u ∧ ∀ w', heldS e hs w' → (execOp a.eval o).run P w' = .ok (.value u) w'
theorem QOk.op {s : Sem Value} {K : AV → Held → Prop} {o : Oper} (h : QOk P e σ s K) (hs : ∀ w u w', s.run P w = .ok u w' → (execOp a.eval o).run P w = .ok (.value u) w') : QOp P e σ a o K := by
  obtain ⟨v, l, h1, h2, u, h3, h4⟩ := h
  exact ⟨v, l, h1, h2, u, h3, fun w' hw => hs _ _ _ (h4 w' hw)⟩
theorem takeH_ok (hk : Ok w0 e σ w) (ht : Tm e tm a) {o : Oper} {T : QT} {K : AV → Held → Prop} (h : takeH P tm o σ = some T) (hK : T K) : QOp P e σ a o K := by
  unfold takeH at h
  split at h
  · rename_i t x ho
    split at h
    · rename_i p hp
      have hx := evalA_ok ht x
      rw [rptX_eq hp] at hx
      obtain ⟨q, hq, e1⟩ := rpt_ok hx
      exact (loadH_ok hk h hK hq).op (fun w u w' hr => by simp [execOp, ho, e1, hr])
    · cases h
  · rename_i x ho
    split at h
    · rename_i p hp
      have hx := evalA_ok ht x
      rw [rptX_eq hp] at hx
      obtain ⟨q, hq, e1⟩ := rpt_ok hx
      simp only [Option.some.injEq] at h; subst h
      exact ⟨_, [], hK, by intro p hp; simp at hp, _, rpt_av hq, fun w' _ => by simp [execOp, ho, e1]⟩
    · cases h
  · rename_i t x f ho
    split at h
    · rename_i p hp
      have hx := evalA_ok ht x
      rw [rptX_eq hp] at hx
      exact (fieldH_ok h hK hx).op (fun w u w' hr => by simp [execOp, ho, hr])
    · cases h
  · rename_i t x i ho
    split at h
    · rename_i s hs
      split at h
      · rename_i k i' hi
        have e1 := intX_ok hi (evalA_ok ht i)
        have hx := evalA_ok ht x
        rw [rslX_eq hs] at hx
        exact (indexH_ok (k := k) h hK hx).op (fun w u w' hr => by simp [execOp, ho, e1, hr])
      · cases h
    · split at h
      · rename_i p i' hp hi
        obtain ⟨k, e1⟩ := asNat_ok hi (evalA_ok ht i)
        have hx := evalA_ok ht x
        rw [rptX_eq hp] at hx
        exact (inArrH_ok (k := k) h hK hx).op (fun w u w' hr => by simp [execOp, ho, e1, hr])
      · split at h
        · rename_i k i' hi
          have e1 := intX_ok hi (evalA_ok ht i)
          exact (caseH_ok (k := k) h hK (evalA_ok ht x)).op (fun w u w' hr => by simp [execOp, ho, e1, hr])
        · cases h
  · rename_i t x lo hi mx ho
    split at h
    · rename_i s l hh hs hl hhi
      have hx := evalA_ok ht x
      rw [rslX_eq hs] at hx
      exact (cutH_ok h hK hx (bndX_ok hl (opt_ok ht lo)) (bndX_ok hhi (opt_ok ht hi))).op (fun w u w' hr => by simp [execOp, ho, hr])
    · cases h
  · rename_i op t x y yt ho
    split at h
    · rename_i el hu
      split at h
      · rename_i s hs
        split at h
        · rename_i hn
          have hx := evalA_ok ht x
          obtain ⟨n, c, e2⟩ := isNilSl_okH hn (evalA_ok ht y)
          rw [rslX_eq hs] at hx
          obtain ⟨p1, p2⟩ := rsl_plain hx
          refine (nilH_ok h hK hu hx n c).op (fun w u w' hr => ?_)
          simp only [execOp, ho, e2, Sem.run_bind, run_eqGuard op t x y _ _ p1 p2, Result.andThen_ok]
          rw [hr]; rfl
        · cases h
      · cases h
    · cases h
  · rename_i c ho
    obtain ⟨callee, args, ts⟩ := c
    dsimp only at h
    split at h
    · rename_i t l x hts hxs
      split at h
      · rename_i el s hu hs
        simp only [Option.some.injEq] at h; subst h
        obtain rfl : args = #[x] := Array.toList_inj.1 hxs
        have hts0 : ts[0]? = some t := by rw [← Array.getElem?_toList, hts]; rfl
        have hx := evalA_ok ht x
        rw [rslX_eq hs] at hx
        obtain ⟨B, c', e1⟩ : ∃ B c', a.eval x = .slice B s.n c' := by
          rcases rsl_ok hx with ⟨A, _, hn, _, h⟩ | ⟨q, _, _, h⟩
          · exact ⟨A, 0, by rw [h, hn]⟩
          · exact ⟨_, _, h⟩
        refine ⟨_, [], hK _ rfl, by intro p hp; simp at hp, _, xint_av e .i64 _, fun w' _ => ?_⟩
        simp only [execOp, ho, resolve, Sem.run_bind, Sem.run_pure, Result.andThen_ok, invoke, List.map_toArray, List.map_cons, List.map_nil, e1]
        simp [builtin, Builtin.len_, hts0, run_underlying hu, goInt]
      · cases h
    · rename_i t l x hts hxs
      split at h
      · rename_i el s hu hs
        simp only [Option.some.injEq] at h; subst h
        obtain rfl : args = #[x] := Array.toList_inj.1 hxs
        have hts0 : ts[0]? = some t := by rw [← Array.getElem?_toList, hts]; rfl
        have hx := evalA_ok ht x
        rw [rslX_eq hs] at hx
        obtain ⟨B, n', e1⟩ : ∃ B n', a.eval x = .slice B n' s.c := by
          rcases rsl_ok hx with ⟨A, _, hn, hc, h⟩ | ⟨q, _, _, h⟩
          · exact ⟨A, 0, by rw [h, hc]⟩
          · exact ⟨_, _, h⟩
        refine ⟨_, [], hK _ rfl, by intro p hp; simp at hp, _, xint_av e .i64 _, fun w' _ => ?_⟩
        simp only [execOp, ho, resolve, Sem.run_bind, Sem.run_pure, Result.andThen_ok, invoke, List.map_toArray, List.map_cons, List.map_nil, e1]
        simp [builtin, Builtin.cap_, hts0, run_underlying hu, goInt]
      · cases h
    · cases h
  · cases h
end
end Reck
