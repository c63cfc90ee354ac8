/- A reckoner of calls: rows of cells that are written, grown, made and copied. No condition. -/
import Derived.Test.YtcjcdimlcfegbaaGreatDoorRkC
set_option linter.unusedVariables false
set_option linter.unusedSimpArgs false
namespace Reck
open Go Ost

/-- The kinds of the cells of a type. -/
def kindsOf (P : Program) : Nat → TypeId → Option (List CK)
  | 0, _ => none
  | d + 1, t => match P.underlying t with
    | some (.int k) => some [.n k]
    | some .bool => some [.b]
    | some .string => some [.s]
    | some (.slice _) => some [.v]
    | some (.struct fs) => fs.toList.foldr (fun f r => match kindsOf P d f.type, r with
        | some a, some b => some (a ++ b)
        | _, _ => none) (some [])
    | some (.array n t') => if Nat.ble n 64 then match kindsOf P d t' with
        | some a => some ((List.replicate n a).flatten)
        | none => none
      else none
    | _ => none
/-- The kinds of rows; numbers alone are no rows. -/
def rowKinds (P : Program) (el : TypeId) : Option (List CK) :=
  match kindsOf P 10 el with
  | some [.n _] => none
  | some [] => none
  | r => r

def toCV : CK → Cell → Option CV
  | .n k, c => match intX (cell c) with
    | some (k', z) => if decide (k' = k) then some (.i z) else none
    | none => none
  | .b, .inl (.bool x) => some (.b x)
  | .b, _ => none
  | .s, c => match strX (cell c) with
    | some l => some (.s l)
    | none => none
  | .v, .inl (.slice none 0 0) => some (.v (.slice none 0 0))
  | .v, .inr (.inr (.inr (.inr (.inr (.inr (.inr (.inr (.inr (.inr (.inr (.inr (.inr (.inr x))))))))))))) => some (.v x)
  | .v, _ => none
def rowOf : List CK → List Cell → Option (List CV)
  | [], [] => some []
  | k :: ks, c :: cs => match toCV k c, rowOf ks cs with
    | some v, some vs => some (v :: vs)
    | _, _ => none
  | _, _ => none
def rowsOf (ks : List CK) : Nat → List Cell → Option (List (List CV))
  | 0, [] => some []
  | 0, _ :: _ => none
  | n + 1, cs => match rowOf ks (cs.take ks.length), rowsOf ks n (cs.drop ks.length) with
    | some r, some l => some (r :: l)
    | _, _ => none

/-- Some cells of a row are written. -/
def put1 (row : List CV) (f : Nat) (vs : List CV) : List CV := row.take f ++ vs ++ row.drop (f + vs.length)
def U.put (L : List (List CV)) (m f : Nat) (vs : List CV) : List (List CV) := L.set m (put1 (L.getD m []) f vs)

abbrev MR := (AV → St → Prop) → Prop
def storeH (P : Program) (t : TypeId) (p : RPt) (v : AV) (σ : St) : Option MR :=
  match getArr σ p.a, sizeT P t, cellsOf v with
  | some b, some n, some cs => match b.k with
    | .o (.rows ks L) => if !b.ro && Nat.beq ks.length p.u && Nat.beq cs.length n && Nat.ble (p.f + n) ks.length then match rowOf ((ks.drop p.f).take n) cs with
        | some vs => some fun K => p.m < L.length ∧ ∀ L' : List (List CV), L' = U.put L p.m p.f vs → K (lit undef) (setArr σ p.a (some ⟨b.elem, .o (.rows ks L'), [], b.cap, b.ro⟩))
        | none => none
      else none
    | _ => none
  | _, _, _ => none

structure SrcR where
  n : Nat
  L : List (List CV)
  ok : Prop
def readR (ks : List CK) (σ : St) (x : AV) : Option SrcR :=
  match rslX x with
  | some s => match getArr σ s.a with
    | some b => match b.k with
      | .o (.rows ks' L) => if sameK ks' ks && Nat.beq s.u ks.length then some ⟨s.n, (L.drop s.o).take s.n, s.o + s.n ≤ L.length⟩ else none
      | _ => none
    | none => none
  | none => match x with
    | .inl (.inl (.inr (.inr (.inl s)))) => match loadA σ s.b s.o (s.n * ks.length) with
      | some cs => match rowsOf ks s.n cs with
        | some L => some ⟨s.n, L, True⟩
        | none => none
      | none => none
    | .inl (.inl (.inl (.slice none 0 _))) => some ⟨0, [], True⟩
    | _ => none

structure DstR where
  n : Nat
  L : List (List CV)
  ok : Prop
  st : St
def destR (ks : List CK) (el : TypeId) (σ : St) (x : AV) : Option DstR :=
  match x with
  | .inl (.inl (.inl (.slice none 0 0))) => some ⟨0, [], True, σ⟩
  | .inl (.inl (.inr (.inr (.inl s)))) => match getBlk σ s.b, loadA σ s.b s.o (s.n * ks.length) with
    | some bk, some cs => match rowsOf ks s.n cs with
      | some L => if bk.elem == el && !bk.z && s.j.isNone && bk.j.isNone && Nat.ble (s.o + s.c * ks.length) bk.c then some ⟨s.n, L, True, putBlk σ s.b none⟩ else none
      | none => none
    | _, _ => none
  | x => match rslX x with
    | some s => match getArr σ s.a with
      | some b => match b.k with
        | .o (.rows ks' L) => if sameK ks' ks && b.elem == el && !b.ro && Nat.beq s.u ks.length then some ⟨s.n, (L.drop s.o).take s.n, s.o + s.n ≤ L.length ∧ s.o + s.c ≤ b.cap, setArr σ s.a none⟩ else none
        | _ => none
      | none => none
    | none => none

def appR (el : TypeId) (ks : List CK) (d : DstR) (s : SrcR) (σ : St) : MR := fun K =>
  d.ok ∧ s.ok ∧ d.n ≤ 16777216 ∧ s.n ≤ 16777216 ∧ ∀ (L' : List (List CV)) (n' c' : Nat), L' = d.L ++ s.L → n' = d.n + s.n → n' ≤ c' → K (cell (rslC ⟨d.st.arrs.length, ks.length, 0, n', c'⟩)) (addArr d.st ⟨el, .o (.rows ks L'), [], c', false⟩)
def appendR (P : Program) (t u : TypeId) (x y : AV) (σ : St) : Option MR :=
  match P.underlying t, P.underlying u with
  | some (.slice _), some (.int _) => none
  | some (.slice el), some _ => match rowKinds P el, P.info? el with
    | some ks, some i => match i.zero with
      | some z => if Nat.blt 0 ks.length && Nat.beq i.size ks.length && Nat.beq z.cells.size ks.length && (z.cells.toList.all fun v => v.oneCell') && Nat.blt 0 i.bytes && Nat.ble i.bytes 65536 then match destR ks el σ x, readR ks σ y with
          | some d, some s => some (appR el ks d s σ)
          | _, _ => none
        else none
      | none => none
    | _, _ => none
  | _, _ => none

section
variable {P : Program} {w0 w w' : World} {e : Env} {σ : St} {tm : List AV} {a : Act}

theorem toCV_ok {k : CK} {c : Cell} {v : CV} {y : Value} (h : toCV k c = some v) (hc : cv e c = some y) : cvV k v = some y := by
  unfold toCV at h
  split at h
  · split at h
    · rename_i k' z hz
      split at h
      · rename_i hk
        simp at hk; subst hk
        simp at h; subst h
        have := intX_ok (e := e) (x := cell c) hz hc
        rw [this]; rfl
      · cases h
    · cases h
  · simp only [Option.some.injEq] at h; subst h
    simp only [cv, Option.some.injEq] at hc; subst hc; rfl
  · cases h
  · split at h
    · rename_i l hl
      simp only [Option.some.injEq] at h; subst h
      obtain ⟨rfl, hb⟩ := strX_ok (e := e) (x := cell c) hl hc
      simp only [cvV, hb, if_true]
    · cases h
  · simp only [Option.some.injEq] at h; subst h
    simp only [cv, Option.some.injEq] at hc; subst hc; rfl
  · simp only [Option.some.injEq] at h; subst h
    exact hc
  · cases h
theorem rowOf_ok : ∀ {ks : List CK} {cs : List Cell} {vs : List CV} {ys : List Value}, rowOf ks cs = some vs → cs.map (cv e) = ys.map some → RowT ks vs ∧ rowV ks vs = ys
  | [], [], vs, ys, h, hv => by
    simp [rowOf] at h; subst h
    cases ys <;> simp at hv
    exact ⟨⟨rfl, by intro f k v hk; simp at hk⟩, rfl⟩
  | [], _ :: _, vs, ys, h, hv => by simp [rowOf] at h
  | _ :: _, [], vs, ys, h, hv => by simp [rowOf] at h
  | k :: ks, c :: cs, vs, [], h, hv => by simp at hv
  | k :: ks, c :: cs, vs, y :: ys, h, hv => by
    simp only [rowOf] at h
    split at h
    · rename_i v vs' h1 h2
      simp only [Option.some.injEq] at h; subst h
      simp only [List.map_cons, List.cons.injEq] at hv
      obtain ⟨g1, g2⟩ := rowOf_ok h2 hv.2
      have g3 := toCV_ok h1 hv.1
      refine ⟨⟨by simp [g1.1], ?_⟩, by simp [rowV, g3, g2]⟩
      intro f k' v' hk hv'
      cases f with
      | zero => simp at hk hv'; subst hk; subst hv'; exact ⟨y, g3⟩
      | succ f => exact g1.2 f k' v' (by simpa using hk) (by simpa using hv')
    · cases h
theorem mapT {l : List Cell} {ys : List Value} (h : l.map (cv e) = ys.map some) (n : Nat) : (l.take n).map (cv e) = (ys.take n).map some := by rw [List.map_take, h, List.map_take]
theorem mapD {l : List Cell} {ys : List Value} (h : l.map (cv e) = ys.map some) (n : Nat) : (l.drop n).map (cv e) = (ys.drop n).map some := by rw [List.map_drop, h, List.map_drop]
theorem rowsOf_ok {ks : List CK} : ∀ {n : Nat} {cs : List Cell} {L : List (List CV)} {ys : List Value}, rowsOf ks n cs = some L → cs.map (cv e) = ys.map some → Typ ks L ∧ L.length = n ∧ flatV ks L = ys
  | 0, [], L, ys, h, hv => by
    simp [rowsOf] at h; subst h
    cases ys <;> simp at hv
    exact ⟨by intro r hr; simp at hr, rfl, rfl⟩
  | 0, _ :: _, L, ys, h, hv => by simp [rowsOf] at h
  | n + 1, cs, L, ys, h, hv => by
    simp only [rowsOf] at h
    split at h
    · rename_i r l h1 h2
      simp only [Option.some.injEq] at h; subst h
      obtain ⟨g1, g2⟩ := rowOf_ok h1 (mapT hv ks.length)
      obtain ⟨g3, g4, g5⟩ := rowsOf_ok h2 (mapD hv ks.length)
      refine ⟨?_, by simp [g4], by rw [flat_cons, g2, g5, List.take_append_drop]⟩
      intro x hx
      rcases List.mem_cons.1 hx with rfl | hx
      · exact g1
      · exact g3 x hx
    · cases h

theorem AOk.ofRows {x : ABlk} {q : Nat × Nat} {ks : List CK} {L : List (List CV)} (hn : x.k = .o (.rows ks L)) (h0 : 0 < ks.length) (ht : Typ ks L) (h : ∃ cur el fz, w.heap[q.1]? = some (.cells cur el fz) ∧ (∀ (j : Nat) y, (flatV ks L)[j]? = some y → cur[q.2 + j]? = some y) ∧
    (x.ro = false ∧ (w0.heap.size ≤ q.1 ∨ e.S q.1) ∧ (el = x.elem ∧ (fz = (0, 0) ∨ cur.size ≤ fz.1)) ∧ q.2 + x.cap * ks.length ≤ cur.size ∧ L.length ≤ x.cap ∧ ∀ v ∈ cur, v.oneCell' = true)) : AOk w0 w e x (.inr q) := by
  obtain ⟨cur, el, fz, h1, h2, h3, h4, h5, h6, h7, h8⟩ := h
  refine ⟨⟨_, h1, ?_⟩, .inr ⟨h3, h4⟩⟩
  rw [hn]
  exact ⟨h0, cur, el, fz, rfl, rowsAt_iff.2 ⟨ht, h2⟩, fun _ => ⟨h5, h6, h7, h8⟩⟩

/-- Rows that are read. -/
structure SrcROk (w : World) (ks : List CK) (s : SrcR) (v : Value) : Prop where
  typ : Typ ks s.L
  len : s.L.length = s.n
  from_ : (∃ A c, v = .slice (some A) s.n c ∧ ∀ (j : Nat) y, (flatV ks s.L)[j]? = some y → w.cell? (A.add j) = some y) ∨ (s.n = 0 ∧ ∃ c, v = .slice none 0 c)
theorem SrcROk.lenOf {ks : List CK} {s : SrcR} {v : Value} (h : SrcROk w ks s v) (w' : World) : (Builtin.lenOf v).run P w' = .ok s.n w' := by
  rcases h.from_ with ⟨A, c, rfl, _⟩ | ⟨h0, c, rfl⟩
  · simp [Builtin.lenOf]
  · simp [Builtin.lenOf, h0]
theorem SrcROk.firstM {ks : List CK} {s : SrcR} {v : Value} (h : SrcROk w ks s v) (m : Nat) (hm : m ≤ s.n) (w' : World) (hw : ∀ p, w'.cell? p = w.cell? p) : (Builtin.firstCells ks.length m v).run P w' = .ok (flatV ks (s.L.take m)).toArray w' := by
  rcases h.from_ with ⟨A, c, rfl, hc⟩ | ⟨h0, c, rfl⟩
  · have hl : (flatV ks (s.L.take m)).length = m * ks.length := by rw [flat_len (h.typ.sub fun x hx => List.mem_of_mem_take hx), List.length_take, h.len, Nat.min_eq_left hm]
    have := run_loadCells_list (P := P) w' A (flatV ks (s.L.take m)) (fun j v hj => by
      rw [hw]
      rw [flat_take m h.typ, List.getElem?_take] at hj
      split at hj
      · exact hc j v hj
      · cases hj)
    rw [hl] at this
    simp only [Builtin.firstCells]
    exact this
  · have : m = 0 := by omega
    subst this
    simp [Builtin.firstCells, flatV]
theorem SrcROk.first {ks : List CK} {s : SrcR} {v : Value} (h : SrcROk w ks s v) (w' : World) (hw : w' = w ∨ w' = w.drew) : (Builtin.firstCells ks.length s.n v).run P w' = .ok (flatV ks s.L).toArray w' := by
  have := h.firstM (P := P) s.n (Nat.le_refl _) w' (by rcases hw with rfl | rfl <;> intro p <;> rfl)
  rwa [List.take_of_length_le (by rw [h.len]; exact Nat.le_refl _)] at this

theorem readR_ok (hk : Ok w0 e σ w) {ks : List CK} {x : AV} {s : SrcR} {v : Value} (h : readR ks σ x = some s) (hok : s.ok) (hv : av e x = some v) : SrcROk w ks s v := by
  unfold readR at h
  split at h
  · rename_i r hr
    rw [rslX_eq hr] at hv
    split at h
    · rename_i b hb
      split at h
      · rename_i ks' L hbk
        split at h
        · rename_i hc
          simp only [Bool.and_eq_true, Nat.beq_eq] at hc
          obtain ⟨c1, c2⟩ := hc
          obtain rfl := sameK_eq c1
          simp only [Option.some.injEq] at h; subst h
          dsimp only at hok
          rcases rsl_ok hv with ⟨A, hq, hn, hc, rfl⟩ | ⟨q, hq, hn, rfl⟩
          · refine ⟨?_, by simp; omega, ?_⟩
            · intro y hy; rw [hn] at hy; simp at hy
            · cases A with
              | none => exact .inr ⟨hn, 0, rfl⟩
              | some A => exact .inl ⟨A, 0, by dsimp only; rw [hn], fun j z hj => by dsimp only at hj; rw [hn] at hj; simp [flatV] at hj⟩
          · obtain ⟨_, cur, el, fz, g1, g2, _⟩ := hk.rowsAt hb hbk hq
            obtain ⟨g3, g4⟩ := rowsAt_iff.1 g2
            have hsub : Typ ks' (L.drop r.o) := g3.sub fun x hx => List.mem_of_mem_drop hx
            refine ⟨hsub.sub fun x hx => List.mem_of_mem_take hx, by simp; omega, .inl ⟨_, _, rfl, fun j y hj => ?_⟩⟩
            rw [Addr.add_lit]
            dsimp only at hj
            rw [flat_take _ hsub, flat_drop _ g3, List.getElem?_take] at hj
            split at hj
            · rw [List.getElem?_drop] at hj
              have := g4 _ y hj
              rw [c2]
              simp only [World.cell?, g1]
              simpa [Nat.add_assoc] using this
            · cases hj
        · cases h
      · cases h
    · cases h
  · split at h
    · rename_i r
      split at h
      · rename_i cs hcs
        split at h
        · rename_i L hL
          simp only [Option.some.injEq] at h; subst h
          obtain ⟨q, c, hq, hc, hn, rfl⟩ := av_sl hv
          obtain ⟨vs, h1, h2, h3, h4⟩ := hk.load hcs hq
          obtain ⟨g1, g2, g3⟩ := rowsOf_ok hL h1
          refine ⟨g1, g2, .inl ⟨_, _, rfl, fun j y hj => ?_⟩⟩
          rw [Addr.add_lit]
          dsimp only at hj
          rw [g3] at hj
          exact h3 j _ hj
        · cases h
      · cases h
    · simp only [Option.some.injEq] at h; subst h
      exact ⟨by intro r hr; simp at hr, rfl, .inr ⟨rfl, _, av_lit hv⟩⟩
    · cases h

/-- Where rows are, and that they may be written up to their capacity. -/
structure DstROk (P : Program) (w0 w : World) (e : Env) (ks : List CK) (el : TypeId) (d : DstR) (v : Value) : Prop where
  typ : Typ ks d.L
  len : d.L.length = d.n
  first : (Builtin.firstCells ks.length d.n v).run P w.drew = .ok (flatV ks d.L).toArray w.drew
  st : Ok w0 e d.st w
  mem : ∃ base c, v = .slice base d.n c ∧ d.n ≤ c ∧ ((d.n = 0 ∧ c = 0) ∨ ∃ g o cur fz, base = some ⟨g, o, none⟩ ∧ w.heap[g]? = some (.cells cur el fz) ∧ (fz = (0, 0) ∨ cur.size ≤ fz.1) ∧ (∀ (j : Nat) y, (flatV ks d.L)[j]? = some y → cur[o + j]? = some y) ∧ o + c * ks.length ≤ cur.size ∧ (∀ v ∈ cur, v.oneCell' = true) ∧
    (w0.heap.size ≤ g ∨ e.S g) ∧ (∀ w', Only (fun k => k = g) w w' → Ok w0 e d.st w') ∧ (∀ (b : Nat) y q', d.st.heap[b]? = some (some y) → e.blk[b]? = some q' → q'.1 ≠ g) ∧ (∀ (i : Nat) y q', d.st.arrs[i]? = some (some y) → y.ro = false → e.arr[i]? = some (.inr q') → q'.1 ≠ g) ∧ ¬ FrzP d.st g)
theorem destR_ok (hk : Ok w0 e σ w) {ks : List CK} {el : TypeId} {x : AV} {d : DstR} {v : Value} (h0 : 0 < ks.length) (h : destR ks el σ x = some d) (hok : d.ok) (hv : av e x = some v) : DstROk P w0 w e ks el d v := by
  unfold destR at h
  split at h
  · obtain rfl := av_lit hv
    simp only [Option.some.injEq] at h; subst h
    exact ⟨by intro r hr; simp at hr, rfl, by simp [Builtin.firstCells, flatV], hk, none, 0, rfl, Nat.le_refl _, .inl ⟨rfl, rfl⟩⟩
  · rename_i s
    split at h
    · rename_i bk cs hbk hl
      split at h
      · rename_i L hli
        split at h
        · rename_i hc
          simp only [Option.some.injEq] at h; subst h
          simp only [Bool.and_eq_true, beq_iff_eq, Bool.not_eq_eq_eq_not, Bool.not_true, Option.isNone_iff_eq_none, Nat.ble_eq] at hc
          obtain ⟨⟨⟨⟨hel, hz⟩, j1⟩, j2⟩, j3⟩ := hc
          obtain ⟨q, c, hq, hcc, hn, rfl⟩ := av_sl hv
          have hbl := getBlk_some hbk
          obtain ⟨g1, cur, fz, g2, g3, ⟨N0, g4, g5⟩, g6, g7, g8⟩ := hk.blk _ _ _ hbl hq
          obtain ⟨vs, h1, h2, h3, h4⟩ := hk.load hl hq
          obtain ⟨k1, k2, k3⟩ := rowsOf_ok hli h1
          have hfz := g7 hz
          subst hfz; subst hel
          have hbu : bu bk = 1 := by unfold bu; rw [j2]; rfl
          rw [hbu, Nat.mul_one] at g5
          have hsz : s.o + c * ks.length ≤ N0 := by
            rw [j1] at hcc; rw [show b0 bk = bk.c by unfold b0; rw [j2]; rfl, j2] at g4
            simp [capv] at hcc g4
            rw [← hcc, ← g4]; exact j3
          have hblt : s.b < σ.heap.length := (List.getElem?_eq_some_iff.1 hbl).1
          refine ⟨k1, k2, ?_, hk.kill hbl hq (Only.refl _ w), _, c, rfl, hn, .inr ⟨q.1, q.2 + s.o, cur, (0, 0), rfl, g2, .inl rfl, ?_, by omega, g6, g1, fun w' ho => hk.kill hbl hq ho, ?_, fun i y q' k1 _ k3 => hk.arrs.blk_ne hbl hq g1 i y q' k1 k3, hk.froz.not (.inl ⟨s.b, bk, q, hbl, hq, rfl⟩)⟩⟩
          · have := run_loadCells_list (P := P) w.drew ⟨q.1, q.2 + s.o, none⟩ vs (fun j v hj => by rw [Addr.add_lit]; exact h3 j v hj)
            rw [h2] at this
            simp only [Builtin.firstCells, k3, this]
          · intro j z hj
            dsimp only at hj
            rw [k3] at hj
            have := h3 j _ hj
            simp only [World.cell?, g2] at this
            simpa using this
          · intro b y q' k1 k2
            simp only [putBlk] at k1
            by_cases hbb : s.b = b
            · subst hbb; rw [List.getElem?_set_self hblt] at k1; simp at k1
            · rw [List.getElem?_set_ne hbb] at k1
              exact fun he => hk.apart s.b b bk y q q' hbb hbl k1 hq k2 he.symm
        · cases h
      · cases h
    · cases h
  · split at h
    · rename_i s hs
      rw [rslX_eq hs] at hv
      split at h
      · rename_i b hb
        split at h
        · rename_i ks' L hbk
          split at h
          · rename_i hc
            simp only [Bool.and_eq_true, beq_iff_eq, Bool.not_eq_eq_eq_not, Bool.not_true, Nat.beq_eq] at hc
            obtain ⟨⟨⟨c1, hel⟩, hro⟩, c2⟩ := hc
            obtain rfl := sameK_eq c1
            simp only [Option.some.injEq] at h; subst h
            dsimp only at hok
            have ha := getArr_some hb
            have hlen : ((L.drop s.o).take s.n).length = s.n := by simp; omega
            rcases rsl_ok hv with ⟨A, hq, hn, hc, rfl⟩ | ⟨q, hq, hn, rfl⟩
            · refine ⟨?_, hlen, ?_, hk.arrKill _, A, 0, by rw [hn], by dsimp only; omega, .inl ⟨hn, rfl⟩⟩
              · intro y hy; rw [hn] at hy; simp at hy
              · dsimp only
                rw [hn]; cases A <;> simp [Builtin.firstCells, loadCells, loadCellsFrom, flatV]
            · obtain ⟨_, cur, el', fz, g1, g2, g3⟩ := hk.rowsAt hb hbk hq
              obtain ⟨⟨rfl, hfz⟩, g5, g6, g7⟩ := g3 hro
              obtain ⟨k3, k4⟩ := rowsAt_iff.1 g2
              have hsub : Typ ks' (L.drop s.o) := k3.sub fun x hx => List.mem_of_mem_drop hx
              have hown : w0.heap.size ≤ q.1 ∨ e.S q.1 := by
                rcases (hk.arrs.ok _ _ _ ha hq).own with ⟨h, _⟩ | ⟨_, h⟩
                · rw [hro] at h; cases h
                · exact h
              have hget : ∀ (j : Nat) z, (flatV ks' ((L.drop s.o).take s.n))[j]? = some z → cur[q.2 + s.o * s.u + j]? = some z := by
                intro j z hx
                rw [flat_take _ hsub, flat_drop _ k3, List.getElem?_take] at hx
                split at hx
                · rw [List.getElem?_drop] at hx
                  have := k4 _ z hx
                  rw [c2, Nat.add_assoc]; exact this
                · cases hx
              have hty : Typ ks' ((L.drop s.o).take s.n) := hsub.sub fun x hx => List.mem_of_mem_take hx
              refine ⟨hty, hlen, ?_, hk.arrKill _, _, s.c, rfl, hn, .inr ⟨q.1, q.2 + s.o * s.u, cur, fz, rfl, by rw [← hel]; exact g1, hfz, hget, ?_, g7, hown, fun w' ho => hk.arrSet ha hro hq ho none (by simp), ?_, ?_, fun hP => hk.froz.not (.inr ⟨s.a, b, q, ha, hro, hq, rfl⟩) hP.kill⟩⟩
              · have := run_loadCells_list (P := P) w.drew ⟨q.1, q.2 + s.o * s.u, none⟩ (flatV ks' ((L.drop s.o).take s.n)) (fun j v hj => by
                  rw [Addr.add_lit]
                  have := hget j v hj
                  simp only [World.cell?, World.drew, g1]; simpa using this)
                rw [flat_len hty, hlen] at this
                simp only [Builtin.firstCells]
                exact this
              · have := Nat.mul_le_mul_right ks'.length hok.2
                rw [Nat.add_mul] at this
                rw [c2]; omega
              · intro b2 y q' k1 k2 he
                exact hk.arrs.off s.a b q b2 y q' ha hro hq k1 k2 he.symm
              · intro i y q' k1 k2 k3 he
                rcases set_get k1 with ⟨_, h6⟩ | ⟨hne, h6⟩
                · cases h6
                · exact hk.arrs.apart s.a i b y q q' hne ha h6 hro k2 hq k3 he.symm
          · cases h
        · cases h
      · cases h
    · cases h

theorem rsl_new {e : Env} {a u n c : Nat} {q : Nat × Nat} (h : e.arr[a]? = some (.inr q)) (hn : n ≤ c) : av e (cell (rslC ⟨a, u, 0, n, c⟩)) = some (.slice (some ⟨q.1, q.2, none⟩) n c) := by
  have := rsl_av (s := ⟨a, u, 0, n, c⟩) h hn
  simpa using this

theorem appR_ok {ks : List CK} {el t u : TypeId} {d : DstR} {s : SrcR} {sv x : Value} {ts : Array TypeId} {ty : TypeId} {xs : Array Value} {i : TypeInfo} {z : Value} {K : AV → St → Prop} (h : appR el ks d s σ K) (h0 : 0 < ks.length) (hd : DstROk P w0 w e ks el d sv) (hs : SrcROk w ks s x) (hts0 : ts[0]? = some t) (hts1 : ts[1]? = some u)
    (hxs0 : xs[0]? = some sv) (hxs1 : xs[1]? = some x) (ht : P.underlying t = some (.slice el)) {du : TypeDesc} (hu : P.underlying u = some du) (hdu : ∀ k, du ≠ .int k) (hi : P.info? el = some i) (hz : i.zero = some z) (hsize : i.size = ks.length) (hzs : z.cells.size = ks.length) (hzp : ∀ v ∈ z.cells.toList, v.oneCell' = true) (hb0 : 0 < i.bytes) (hb : i.bytes ≤ 65536) :
    ∃ v σ' e' r w', K v σ' ∧ e.le e' ∧ av e' v = some r ∧ Ok w0 e' σ' w' ∧ (Builtin.append_ ts ty xs).run P w = .ok r w' := by
  obtain ⟨_, _, h1, h2, hK⟩ := h
  obtain ⟨hdt, hdl, hdf, hdst, base, c, rfl, hnc, hmem⟩ := hd
  have hst := hs.typ
  have hsl := hs.len
  have hslo := hs.lenOf (P := P)
  have hsf := hs.first (P := P)
  have hN : News P w t u x s.n (flatV ks s.L) := .inr ⟨du, hu, hdu, hslo, el, i, ht, hi, fun w' hw' => by rw [hsize]; exact hsf w' hw'⟩
  have hnl : (flatV ks s.L).length = s.n * ks.length := by rw [flat_len hst, hsl]
  have hol : (flatV ks d.L).length = d.n * ks.length := by rw [flat_len hdt, hdl]
  have hlen := hdst.arrs.len
  have hT : Typ ks (d.L ++ s.L) := hdt.app hst
  have fin : ∀ (w' : World) (bs : Option Addr ⊕ (Nat × Nat)) (c' : Nat), d.n + s.n ≤ c' → Ok w0 e d.st w' → AOk w0 w' e ⟨el, .o (.rows ks (d.L ++ s.L)), [], c', false⟩ bs → (∀ A, bs = .inl A → d.n + s.n = 0 ∧ c' = 0) →
      (∀ p, bs = .inr p → (∀ (b : Nat) y q', d.st.heap[b]? = some (some y) → e.blk[b]? = some q' → q'.1 ≠ p.1) ∧ (∀ (i : Nat) y q', d.st.arrs[i]? = some (some y) → y.ro = false → e.arr[i]? = some (.inr q') → q'.1 ≠ p.1) ∧ ¬ FrzP d.st p.1) →
      (Builtin.append_ ts ty xs).run P w = .ok (.slice (match bs with | .inl A => A | .inr p => some ⟨p.1, p.2, none⟩) (d.n + s.n) c') w' →
      ∃ v σ' e' r w', K v σ' ∧ e.le e' ∧ av e' v = some r ∧ Ok w0 e' σ' w' ∧ (Builtin.append_ ts ty xs).run P w = .ok r w' := by
    intro w' bs c' hc' hok hA hnone hdis hr
    refine ⟨_, _, ⟨e.blk, e.int, e.opq, e.arr ++ [bs], e.S, e.junk, e.Z⟩, _, w', hK (d.L ++ s.L) (d.n + s.n) c' rfl rfl hc', le_arr e bs, ?_, hok.arrAdd hA rfl (fun p hp => ⟨(hdis p hp).1, (hdis p hp).2.1⟩) ⟨(fun F hF => by rcases hF with h | h <;> cases h), fun p hp => (hdis p hp).2.2⟩, hr⟩
    cases bs with
    | inl A =>
      obtain ⟨n1, n2⟩ := hnone A rfl
      rw [n1, n2]
      exact rsl_nil (s := ⟨d.st.arrs.length, ks.length, 0, 0, 0⟩) (by simp [← hlen]) rfl rfl
    | inr p => exact rsl_new (q := p) (by simp [← hlen]) hc'
  by_cases hm0 : s.n = 0
  · have hsl0 : s.L = [] := List.eq_nil_of_length_eq_zero (by omega)
    rw [hm0] at hN
    have hr := run_none (P := P) (w := w) (ty := ty) hts0 hts1 hxs0 hxs1 ht hi hsize hN (by rw [hsl0]; rfl) hnc
    rcases hmem with ⟨n1, n2⟩ | ⟨g, o, cur, fz, rfl, g1, hfz, g2, g3, g4, g5, g6, g7, g8⟩
    · refine fin w (.inl base) 0 (by omega) hdst ?_ (fun _ _ => ⟨by omega, rfl⟩) (by intro p hp; cases hp) (by rw [hr]; simp [hm0, n2])
      have : d.L = [] := List.eq_nil_of_length_eq_zero (by omega)
      exact ⟨rfl, .inr (.inl ⟨ks, by rw [this, hsl0]; rfl⟩)⟩
    · refine fin w (.inr (g, o)) c (by omega) hdst (AOk.ofRows rfl h0 hT ⟨cur, el, fz, g1, ?_, rfl, g5, ⟨rfl, hfz⟩, g3, by simp [hsl0]; omega, g4⟩) (by intro A h; cases h) (by rintro p hp; simp at hp; subst hp; exact ⟨g7, g8⟩) (by rw [hr]; simp [hm0])
      intro j v hj
      rw [hsl0, List.append_nil] at hj
      exact g2 j v hj
  · have hpos : 0 < s.n := by omega
    by_cases hfit : d.n + s.n ≤ c
    · rcases hmem with ⟨n1, n2⟩ | ⟨g, o, cur, fz, rfl, g1, hfz, g2, g3, g4, g5, g6, g7, g8⟩
      · omega
      · have hr := run_fit (P := P) (w := w) (ty := ty) hts0 hts1 hxs0 hxs1 ht hi hsize h0 hb hN hpos h2 hfit
        have hmul : (d.n + s.n) * ks.length ≤ c * ks.length := Nat.mul_le_mul_right _ hfit
        rw [Nat.add_mul] at hmul
        have hst' := run_storeCells_fz P g (o + d.n * ks.length) el fz (flatV ks s.L) 0 cur w g1 hfz (by rw [hnl]; omega) (flat_one hst)
        rw [hst'] at hr
        simp only [Result.andThen_ok] at hr
        have hon := arr_only w g (cur.toList.take (o + d.n * ks.length + 0) ++ flatV ks s.L ++ cur.toList.drop (o + d.n * ks.length + 0 + (flatV ks s.L).length)).toArray
        refine fin _ (.inr (g, o)) c hfit (g6 _ hon) (AOk.ofRows rfl h0 hT ⟨_, el, fz, setRow_heap w g cur _ el _ g1, ?_, rfl, g5, ⟨rfl, hfz.imp id (fun h => by simp; omega)⟩, ?_, by simp; omega, ?_⟩) (by intro A h; cases h) (by rintro p hp; simp at hp; subst hp; exact ⟨g7, g8⟩) hr
        · intro j v hj
          dsimp only
          rw [List.getElem?_toArray, Nat.add_zero, sand_get _ _ _ (by simp; omega)]
          rw [flat_app] at hj
          by_cases hjd : j < d.n * ks.length
          · rw [if_pos (by omega)]
            rw [List.getElem?_append_left (by omega)] at hj
            rw [Array.getElem?_toList]; exact g2 j v hj
          · rw [if_neg (by omega)]
            rw [List.getElem?_append_right (by omega), hol] at hj
            have hlt := (List.getElem?_eq_some_iff.1 hj).1
            rw [if_pos (by omega), show o + j - (o + d.n * ks.length) = j - d.n * ks.length by omega, hj]
        · simp; omega
        · intro v hv
          simp only [List.mem_toArray, List.mem_append] at hv
          rcases hv with (hv | hv) | hv
          · exact g4 v (by simpa using List.mem_of_mem_take hv)
          · exact flat_one hst v hv
          · exact g4 v (by simpa using List.mem_of_mem_drop hv)
    · have hr := run_grow (P := P) (w := w) (ty := ty) (olds := flatV ks d.L) hts0 hts1 hxs0 hxs1 ht hi hz hsize h0 hb0 hb hN hpos h2 h1 (by omega) (by rw [hsize]; exact hdf)
      have hge := grownCap_ge w (d.n + s.n) c el
      have hzl : ∀ k, (Builtin.zeroCells z.cells k).toList = rep z.cells.toList k := fun k => by rw [zeroCells_rep _ (by omega)]
      have hrp : ∀ k, ∀ v ∈ (Builtin.zeroCells z.cells k).toList, v.oneCell' = true := fun k v hv => hzp v (rep_mem _ k v (by rw [← hzl]; exact hv))
      have hrl : ∀ k, (Builtin.zeroCells z.cells k).toList.length = k * ks.length := fun k => by rw [hzl, rep_length]; simp [hzs]
      have hw := hdst.world (((Only.refl (fun _ => False) w).drew).alloc (.cells (flatV ks d.L ++ flatV ks s.L ++ (Builtin.zeroCells z.cells (grownCap w (d.n + s.n) c el - (d.n + s.n))).toList).toArray el))
      refine fin _ (.inr (w.heap.size, 0)) _ hge hw (AOk.ofRows rfl h0 hT ⟨_, el, (0, 0), heap_alloc_new w.drew _, ?_, rfl, .inl hdst.only.size, ⟨rfl, .inl rfl⟩, ?_, by simp; omega, ?_⟩) (by intro A h; cases h) ?_ hr
      · intro j v hj
        have hlt := (List.getElem?_eq_some_iff.1 hj).1
        rw [flat_app] at hj hlt
        dsimp only
        rw [List.getElem?_toArray, Nat.zero_add, List.getElem?_append_left hlt]; exact hj
      · have := hrl (grownCap w (d.n + s.n) c el - (d.n + s.n))
        simp only [List.size_toArray, List.length_append, hol, hnl, this]
        rw [← Nat.add_mul, ← Nat.add_mul, Nat.add_sub_cancel' hge]; omega
      · intro v hv
        simp only [List.mem_toArray, List.mem_append] at hv
        rcases hv with (hv | hv) | hv
        · exact flat_one hdt v hv
        · exact flat_one hst v hv
        · exact hrp _ v hv
      · rintro p hp
        simp at hp; subst hp
        refine ⟨fun b y q' k1 k2 => ?_, fun i y q' k1 k2 k3 => ?_, hdst.froz.fresh⟩
        · have := (hdst.blk b y q' k1 k2).lt; dsimp only; omega
        · have := (hdst.arrs.ok i y _ k1 k3).lt; dsimp only; omega

theorem appendR_ok (hk : Ok w0 e σ w) {t u : TypeId} {x y : AV} {sv xv : Value} {T : MR} {K : AV → St → Prop} {ts : Array TypeId} {ty : TypeId} {xs : Array Value} (h : appendR P t u x y σ = some T) (hK : T K) (hx : av e x = some sv) (hy : av e y = some xv) (hts0 : ts[0]? = some t) (hts1 : ts[1]? = some u)
    (hxs0 : xs[0]? = some sv) (hxs1 : xs[1]? = some xv) : ∃ v σ' e' r w', K v σ' ∧ e.le e' ∧ av e' v = some r ∧ Ok w0 e' σ' w' ∧ (Builtin.append_ ts ty xs).run P w = .ok r w' := by
  unfold appendR at h
  split at h
  · cases h
  · rename_i el du hno ht hu
    split at h
    · rename_i ks i hks hi
      split at h
      · rename_i z hz
        split at h
        · rename_i hc
          simp only [Bool.and_eq_true, Nat.beq_eq, List.all_eq_true, Nat.blt_eq, Nat.ble_eq] at hc
          obtain ⟨⟨⟨⟨⟨c0, c1⟩, c2⟩, c3⟩, c4⟩, c5⟩ := hc
          split at h
          · rename_i d s hd hs
            simp only [Option.some.injEq] at h; subst h
            exact appR_ok hK c0 (destR_ok hk c0 hd hK.1 hx) (readR_ok hk hs hK.2.1 hy) hts0 hts1 hxs0 hxs1 ht hu (fun k' he' => hno k' he') hi hz c1 c2 c3 c4 c5
          · cases h
        · cases h
      · cases h
    · cases h
  · cases h
end
end Reck
