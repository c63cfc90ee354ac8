/- A reckoner of calls: slices that nobody writes any more: told as arrays that are read, and told as values again. No condition. -/
import Derived.Test.YtcjcdimlcfegbaaGreatDoorRkY
import Derived.Test.YtcjcdimlcfegbaaGreatDoorRkO
set_option linter.unusedVariables false
set_option linter.unusedSimpArgs false
namespace Reck
open Go Ost

/-- One slice more is frozen. -/
def U.fz (F : Value → FB → Prop) (v : Value) (B : FB) : Value → FB → Prop := fun u C => F u C ∨ (u = v ∧ C = B)
def FB.blk (el : TypeId) : FB → ABlk
  | .n k l => ⟨el, .n k, l, 0, true⟩
  | .r ks L => ⟨el, .o (.rows ks L), [], 0, true⟩
def FB.cell (a c : Nat) : FB → Cell
  | .n _ l => aslC ⟨a, 0, l.length, c⟩
  | .r ks L => rslC ⟨a, ks.length, 0, L.length, c⟩
section
variable {P : Program} {w0 w w' : World} {e : Env} {σ : St}

theorem FB.blk_ro (el : TypeId) (B : FB) : (B.blk el).ro = true := by cases B <;> rfl
theorem FB.blk_noFrz (el : TypeId) (B : FB) (F : Value → FB → Prop) : (B.blk el).k ≠ .o (.frz F) := by cases B <;> (intro h; cases h)
theorem owned_addRo {q : Option Addr ⊕ (Nat × Nat)} {x : ABlk} (hro : x.ro = true) (hl : e.arr.length = σ.arrs.length) {g : Nat} : owned ⟨e.blk, e.int, e.opq, e.arr ++ [q], e.S, e.junk, e.Z⟩ (addArr σ x) g ↔ owned e σ g := by
  constructor
  · rintro (h | ⟨j, z, q1, h1, h2, h3, h4⟩)
    · exact .inl h
    · dsimp only [addArr] at h1 h3
      rcases get_snoc h1 with ⟨g1, g2⟩ | ⟨g1, g2⟩ <;> rcases get_snoc h3 with ⟨k1, k2⟩ | ⟨k1, k2⟩ <;> try omega
      · exact .inr ⟨j, z, q1, g2, h2, k2, h4⟩
      · simp at g2; subst g2; rw [hro] at h2; cases h2
  · rintro (h | ⟨j, z, q1, h1, h2, h3, h4⟩)
    · exact .inl h
    · refine .inr ⟨j, z, q1, ?_, h2, ?_, h4⟩
      · dsimp only [addArr]; rw [List.getElem?_append_left (List.getElem?_eq_some_iff.1 h1).1]; exact h1
      · dsimp only; rw [List.getElem?_append_left (List.getElem?_eq_some_iff.1 h3).1]; exact h3
theorem FrzP.addRo {x : ABlk} (hro : x.ro = true) {g : Nat} (h : FrzP (addArr σ x) g) : FrzP σ g := by
  obtain ⟨a, y, F, v, B, o, n, c, h1, h2, h3⟩ := h
  dsimp only [addArr] at h1
  rcases get_snoc h1 with ⟨_, g2⟩ | ⟨_, g2⟩
  · exact ⟨a, y, F, v, B, o, n, c, g2, h2, h3⟩
  · simp at g2; subst g2; rw [h2.1] at hro; cases hro
/-- An array that is read alone. -/
theorem Ok.arrAddRo (hk : Ok w0 e σ w) {x : ABlk} {q : Option Addr ⊕ (Nat × Nat)} (hx : AOk w0 w e x q) (hro : x.ro = true) : Ok w0 ⟨e.blk, e.int, e.opq, e.arr ++ [q], e.S, e.junk, e.Z⟩ (addArr σ x) w := by
  have hle := le_arr e q
  have hl := hk.arrs.len
  have old : ∀ (j : Nat) z q', (σ.arrs ++ [some x])[j]? = some (some z) → z.ro = false → (e.arr ++ [q])[j]? = some q' → σ.arrs[j]? = some (some z) ∧ e.arr[j]? = some q' := by
    intro j z q' h1 h2 h3
    rcases get_snoc h1 with ⟨g1, g2⟩ | ⟨g1, g2⟩ <;> rcases get_snoc h3 with ⟨k1, k2⟩ | ⟨k1, k2⟩ <;> try omega
    · exact ⟨g2, k2⟩
    · simp at g2; subst g2; rw [hro] at h2; cases h2
  refine ⟨hk.only, hk.blks, hk.ints, hk.opqs, hk.bnd, hk.opq, fun b z q' h1 h2 => (hk.blk b z q' h1 h2).mono hle, hk.apart, ⟨by simp [addArr, hl], ?_, ?_, ?_⟩, hk.junks, hk.froz.mv (fun a z h1 h2 => ?_) rfl rfl (fun g _ _ hg ho => hg ((owned_addRo hro hl).1 ho))⟩
  · intro j z q' h1 h2
    dsimp only [addArr] at h1 h2
    rcases get_snoc h1 with ⟨g1, g2⟩ | ⟨g1, g2⟩ <;> rcases get_snoc h2 with ⟨k1, k2⟩ | ⟨k1, k2⟩ <;> try omega
    · exact (hk.arrs.ok j z q' g2 k2).mono hle
    · simp at g2; subst g2; subst k2; exact hx.mono hle
  · intro j z q1 b v q' h1 h2 h3 h4 h5
    obtain ⟨g1, g2⟩ := old j z _ h1 h2 h3
    exact hk.arrs.off j z q1 b v q' g1 h2 g2 h4 h5
  · intro j1 j2 z1 z2 q1 q2 hne h1 h2 h3 h4 h5 h6
    obtain ⟨g1, g2⟩ := old j1 z1 _ h1 h3 h5
    obtain ⟨k1, k2⟩ := old j2 z2 _ h2 h4 h6
    exact hk.arrs.apart j1 j2 z1 z2 q1 q2 hne g1 k1 h3 h4 g2 k2
  · dsimp only [addArr] at h1
    rcases get_snoc h1 with ⟨g1, g2⟩ | ⟨g1, g2⟩
    · exact ⟨a, g2⟩
    · simp at g2; subst g2; have := h2.1; rw [hro] at this; cases this

/-- A frozen slice is told as an array that is read. -/
theorem Ok.adopt (hk : Ok w e σ w) (hS : ∀ g, e.S g → owned e σ g) {a : Nat} {x : ABlk} {F : Value → FB → Prop} (ha : σ.arrs[a]? = some (some x)) (hx : isFrz x F) {v : Value} {B : FB} (hF : F v B) (el : TypeId) :
    ∃ (c : Nat) (q : Option Addr ⊕ (Nat × Nat)), B.len ≤ c ∧ Ok w ⟨e.blk, e.int, e.opq, e.arr ++ [q], e.S, e.junk, e.Z⟩ (addArr σ (B.blk el)) w ∧ cv ⟨e.blk, e.int, e.opq, e.arr ++ [q], e.S, e.junk, e.Z⟩ (B.cell σ.arrs.length c) = some v ∧
      (∀ p, q = .inr p → FrzP σ p.1) := by
  obtain ⟨A, c, rfl, h0, h1⟩ := (hk.froz a x ha).1 F hx v B hF
  have hl := hk.arrs.len
  by_cases hc : c = 0
  · subst hc
    have hB := h0 rfl
    refine ⟨0, .inl A, by omega, hk.arrAddRo ?_ (B.blk_ro el), ?_, by intro p hp; cases hp⟩
    · cases B with
      | n k l => exact ⟨List.eq_nil_of_length_eq_zero hB, .inl ⟨k, rfl⟩⟩
      | r ks L => exact ⟨rfl, .inr (.inl ⟨ks, by rw [show L = [] from List.eq_nil_of_length_eq_zero hB]; rfl⟩)⟩
    · cases B with
      | n k l => rw [hB]; exact asl_nil (s := ⟨σ.arrs.length, 0, l.length, 0⟩) (by simp [← hl]) hB rfl
      | r ks L => rw [hB]; exact rsl_nil (s := ⟨σ.arrs.length, ks.length, 0, L.length, 0⟩) (by simp [← hl]) hB rfl
  · obtain ⟨g, o, rfl, h2, h3, h4⟩ := h1 hc
    refine ⟨c, .inr (g, o), h2, hk.arrAddRo ?_ (B.blk_ro el), ?_, ?_⟩
    · have hnS : ¬ e.S g := fun h => h4.2 (hS g h)
      cases B with
      | n k l =>
        obtain ⟨cur, el', fz, k1, k2⟩ := h3
        exact ⟨⟨_, k1, cur, el', fz, rfl, k2, by intro h; cases h⟩, .inl ⟨rfl, (FBAt.lt (o := o) (B := .n k l) ⟨cur, el', fz, k1, k2⟩), hnS⟩⟩
      | r ks L =>
        obtain ⟨k0, cur, el', fz, k1, k2⟩ := h3
        exact ⟨⟨_, k1, k0, cur, el', fz, rfl, k2, by intro h; cases h⟩, .inl ⟨rfl, (FBAt.lt (o := o) (B := .r ks L) ⟨k0, cur, el', fz, k1, k2⟩), hnS⟩⟩
    · cases B with
      | n k l =>
        have := asl_av (e := ⟨e.blk, e.int, e.opq, e.arr ++ [.inr (g, o)], e.S, e.junk, e.Z⟩) (s := ⟨σ.arrs.length, 0, l.length, c⟩) (q := (g, o)) (by simp [← hl]) h2
        simp only [Nat.zero_mul, Nat.add_zero] at this
        exact this
      | r ks L =>
        have := rsl_av (e := ⟨e.blk, e.int, e.opq, e.arr ++ [.inr (g, o)], e.S, e.junk, e.Z⟩) (s := ⟨σ.arrs.length, ks.length, 0, L.length, c⟩) (q := (g, o)) (by simp [← hl]) h2
        simp only [Nat.zero_mul, Nat.add_zero] at this
        exact this
    · intro p hp; simp at hp; subst hp
      exact ⟨a, x, F, _, B, o, _, c, ha, hx, hF, rfl, hc⟩

/-- What a cell of a slice of an array holds. -/
inductive IsPart : ABlk → Nat → Cell → FB → Prop where
  | n {el : TypeId} {k : IntKind} {l : List Int} {cap : Nat} {ro : Bool} {i o n c : Nat} (h : o + n ≤ l.length) : IsPart ⟨el, .n k, l, cap, ro⟩ i (aslC ⟨i, o, n, c⟩) (.n k ((l.drop o).take n))
  | r {el : TypeId} {ks : List CK} {L : List (List CV)} {l : List Int} {cap : Nat} {ro : Bool} {i o n c : Nat} (h : o + n ≤ L.length) : IsPart ⟨el, .o (.rows ks L), l, cap, ro⟩ i (rslC ⟨i, ks.length, o, n, c⟩) (.r ks ((L.drop o).take n))

theorem rowsAt_part {get : Nat → Option Value} {ks : List CK} {L : List (List CV)} (h : RowsAt get ks L) (o n : Nat) : RowsAt (fun j => get (o * ks.length + j)) ks ((L.drop o).take n) := by
  intro m row hm
  rw [List.getElem?_take] at hm
  split at hm
  · rw [List.getElem?_drop] at hm
    obtain ⟨h1, h2⟩ := h (o + m) row hm
    refine ⟨h1, fun f k v hf hv => ?_⟩
    obtain ⟨y, h3, h4⟩ := h2 f k v hf hv
    exact ⟨y, h3, by dsimp only; rw [← Nat.add_assoc, ← Nat.add_mul]; exact h4⟩
  · cases hm
/-- Such a slice as a frozen one. -/
theorem IsPart.val {y : ABlk} {i : Nat} {c : Cell} {B : FB} (hp : IsPart y i c B) (hk : Ok w0 e σ w) (hy : σ.arrs[i]? = some (some y)) {v : Value} (hv : cv e c = some v) {T : Nat → Prop} (hT : ∀ q, e.arr[i]? = some (.inr q) → T q.1) : FrzV T w v B := by
  cases hp with
  | @n el k l cap ro _ o n c h =>
    have hlen : (FB.n k ((l.drop o).take n)).len = n := by simp [FB.len]; omega
    rcases aslX_ok (x := cell (aslC ⟨i, o, n, c⟩)) rfl hv with ⟨A, hq, hn, hc, rfl⟩ | ⟨q, hq, hn, rfl⟩
    · exact ⟨A, 0, by rw [hlen]; dsimp only at hn; rw [hn], fun _ => by rw [hlen]; exact hn, fun h => (h rfl).elim⟩
    · refine ⟨_, c, by rw [hlen], fun hc => ?_, fun hc => ⟨q.1, q.2 + o, rfl, by rw [hlen]; exact hn, ?_, hT q hq⟩⟩
      · rw [hlen]; dsimp only at hn; omega
      · obtain ⟨⟨ob, g1, g2⟩, _⟩ := hk.arrs.ok i _ _ hy hq
        obtain ⟨cur, el', fz, rfl, g3, _⟩ := g2
        refine ⟨cur, el', fz, g1, fun j z hj => ?_⟩
        rw [List.getElem?_take] at hj
        split at hj
        · rw [List.getElem?_drop] at hj
          rw [Nat.add_assoc]; exact g3 _ z hj
        · cases hj
  | @r el ks L l cap ro _ o n c h =>
    have hlen : (FB.r ks ((L.drop o).take n)).len = n := by simp [FB.len]; omega
    rcases rsl_ok (s := ⟨i, ks.length, o, n, c⟩) hv with ⟨A, hq, hn, hc, rfl⟩ | ⟨q, hq, hn, rfl⟩
    · exact ⟨A, 0, by rw [hlen]; dsimp only at hn; rw [hn], fun _ => by rw [hlen]; exact hn, fun h => (h rfl).elim⟩
    · refine ⟨_, c, by rw [hlen], fun hc => ?_, fun hc => ⟨q.1, q.2 + o * ks.length, rfl, by rw [hlen]; exact hn, ?_, hT q hq⟩⟩
      · rw [hlen]; dsimp only at hn; omega
      · obtain ⟨⟨ob, g1, g2⟩, _⟩ := hk.arrs.ok i _ _ hy hq
        obtain ⟨k0, cur, el', fz, rfl, g3, _⟩ := g2
        refine ⟨k0, cur, el', fz, g1, ?_⟩
        have := rowsAt_part g3 o n
        simpa only [Nat.add_assoc] using this
/-- A slice is frozen: its array is not written any more. -/
theorem Ok.freeze (hk : Ok w0 e σ w) {a i : Nat} {x y : ABlk} {F : Value → FB → Prop} (ha : σ.arrs[a]? = some (some x)) (hx : isFrz x F) (hy : σ.arrs[i]? = some (some y)) {c : Cell} {B : FB} (hp : IsPart y i c B) {v : Value} (hv : cv e c = some v)
    (hz : y.ro = true → ∀ q, e.arr[i]? = some (.inr q) → e.Z q.1) : Ok w0 e (setArr (setArr σ i none) a (some (frzB (U.fz F v B)))) w := by
  have hne : a ≠ i := by
    rintro rfl
    rw [ha] at hy; simp at hy; subst hy
    have := hx.2
    cases hp <;> cases this
  have hk1 := hk.arrKill i
  have ha1 : (setArr σ i none).arrs[a]? = some (some x) := by simp only [setArr]; rw [List.getElem?_set_ne (Ne.symm hne)]; exact ha
  have hlt : a < (setArr σ i none).arrs.length := (List.getElem?_eq_some_iff.1 ha1).1
  -- nobody writes the slice's block any more
  have hno : ∀ q, e.arr[i]? = some (.inr q) → ¬ owned e (setArr σ i none) q.1 ∧ (e.Z q.1 ∨ w0.heap.size ≤ q.1 ∨ e.S q.1) := by
    intro q hq
    have hA := hk.arrs.ok i y _ hy hq
    rcases hA.own with ⟨g1, g2, g3⟩ | ⟨g1, g2⟩
    · refine ⟨fun ho => ?_, .inl (hz g1 q hq)⟩
      rcases (owned_old hk1 ho).1 with h | h
      · omega
      · exact g3 h
    · refine ⟨?_, .inr g2⟩
      rintro (⟨b, z, q', h1, h2, h3⟩ | ⟨j, z, q', h1, h2, h3, h4⟩)
      · exact hk.arrs.off i y q b z q' hy g1 hq h1 h2 h3.symm
      · rcases set_get h1 with ⟨_, h5⟩ | ⟨h6, h5⟩
        · cases h5
        · exact hk.arrs.apart i j y z q q' h6 hy h5 g1 h2 hq h3 h4.symm
  have key : ∀ (j : Nat) z, (setArr (setArr σ i none) a (some (frzB (U.fz F v B)))).arrs[j]? = some (some z) → (j = a ∧ z = frzB (U.fz F v B)) ∨ (j ≠ a ∧ (setArr σ i none).arrs[j]? = some (some z)) := by
    intro j z h
    rcases set_get h with ⟨h1, h2⟩ | ⟨h1, h2⟩
    · simp at h2; exact .inl ⟨h1.symm, h2.symm⟩
    · exact .inr ⟨fun h => h1 h.symm, h2⟩
  have qa : ∃ A, e.arr[a]? = some (.inl A) := by
    have hla : a < e.arr.length := by rw [hk1.arrs.len]; exact hlt
    have := hk1.arrs.ok a x _ ha1 (List.getElem?_eq_getElem hla)
    cases hq : e.arr[a] with
    | inl A => exact ⟨A, by rw [List.getElem?_eq_getElem hla, hq]⟩
    | inr q => rw [hq] at this; exact (this.noSp hx.sp).elim
  obtain ⟨A0, hqa⟩ := qa
  have own : ∀ g, owned e (setArr (setArr σ i none) a (some (frzB (U.fz F v B)))) g → owned e (setArr σ i none) g := by
    rintro g (h | ⟨j, z, q, h1, h2, h3, h4⟩)
    · exact .inl h
    · rcases key j z h1 with ⟨rfl, rfl⟩ | ⟨_, h5⟩
      · rw [hqa] at h3; cases h3
      · exact .inr ⟨j, z, q, h5, h2, h3, h4⟩
  refine ⟨hk1.only, hk1.blks, hk1.ints, hk1.opqs, hk1.bnd, hk1.opq, hk1.blk, hk1.apart, ⟨by simpa [setArr] using hk.arrs.len, ?_, ?_, ?_⟩, hk1.junks, ?_⟩
  · intro j z q h1 h2
    rcases key j z h1 with ⟨rfl, rfl⟩ | ⟨_, h5⟩
    · rw [hqa] at h2; simp at h2; subst h2
      exact ⟨rfl, .inr (.inr (.inl ⟨_, rfl⟩))⟩
    · exact hk1.arrs.ok j z q h5 h2
  · intro j z q1 b u q' h1 h2 h3 h4 h5
    rcases key j z h1 with ⟨rfl, rfl⟩ | ⟨_, h6⟩
    · rw [hqa] at h3; cases h3
    · exact hk1.arrs.off j z q1 b u q' h6 h2 h3 h4 h5
  · intro j1 j2 z1 z2 q1 q2 hne h1 h2 h3 h4 h5 h6
    rcases key j1 z1 h1 with ⟨rfl, rfl⟩ | ⟨_, h7⟩
    · rw [hqa] at h5; cases h5
    · rcases key j2 z2 h2 with ⟨rfl, rfl⟩ | ⟨_, h8⟩
      · rw [hqa] at h6; cases h6
      · exact hk1.arrs.apart j1 j2 z1 z2 q1 q2 hne h7 h8 h3 h4 h5 h6
  · intro j z h1
    rcases key j z h1 with ⟨rfl, rfl⟩ | ⟨_, h5⟩
    · refine ⟨fun G h2 u C hu => ?_, fun G h2 => by have := h2.2; simp [frzB] at this⟩
      have hG : G = U.fz F v B := by have := h2.2; simp [frzB] at this; exact this.symm
      subst hG
      rcases hu with hu | ⟨rfl, rfl⟩
      · exact ((hk1.froz _ x ha1).1 F hx u C hu).mv fun g _ _ hg => ⟨⟨hg.1, fun ho => hg.2 (own g ho)⟩, rfl⟩
      · exact hp.val hk hy hv fun q hq => ⟨(hno q hq).2, fun ho => (hno q hq).1 (own _ ho)⟩
    · exact ⟨fun G h2 u C hu => ((hk1.froz j z h5).1 G h2 u C hu).mv fun g _ _ hg => ⟨⟨hg.1, fun ho => hg.2 (own g ho)⟩, rfl⟩, fun G h2 u C hu => (hk1.froz j z h5).2 G h2 u C hu⟩

/-- What nobody can reach is let go. -/
theorem Ok.clean {e0 : Env} {σ0 : St} {x x' : AV} {v : Value} (hk : Ok w0 e σ w) (hl : e0.le e) (hb : σ0.heap.length = e0.blk.length) (hi : σ0.ints.length = e0.int.length) (ho : σ0.opqs = e0.opq.length) (ha : σ0.arrs.length = e0.arr.length) (hj : σ0.junks = e0.junk.length)
    (hx : Reck.av e x = some v) (hr : renOk (cleanRen σ0 x σ) σ = true) (hv : renV (cleanRen σ0 x σ) x = some x') :
    ∃ e', e0.le e' ∧ Reck.av e' (openV x') = some v ∧ Ok w0 e' (renSt (cleanRen σ0 x σ) 0 σ) w := by
  have hr := renOk_ok (e := e) hr
  refine ⟨renE (cleanRen σ0 x σ) e ⟨#[], []⟩, renE_le hl hb hi ho ha hj, ?_, renSt_ok0 hk hr⟩
  rw [openV_av]; exact renV_av hk hr x x' v hv hx
/-- A run that begins with more than its caller told. -/
theorem knownA {ov : List FuncId} {R : Orc} {opM : OpM} (hov : ov.all (isOverlaps P) = true) (hN : namesOk P = true) (hM : OpMOk P opM) (hC : ConOk P R) {n f : Nat} {tm : List AV} {σ' : St} {K : AV → St → Prop} {e' : Env} (h : goT P ov R opM n (.inr (.inr (.inr (.inr f)))) tm σ' (retC σ K))
    (hk : Ok w0 e σ w) (hk' : Ok w0 e' σ' w) (hl : e.le e') (vs : List Value) (hvs : tm.map (Reck.av e') = vs.map some) :
    Calls P f vs.toArray w fun en w' => ∃ x σ'' e'' v, en = .returned v ∧ e.le e'' ∧ Reck.av e'' x = some v ∧ Ok w0 e'' σ'' w' ∧ K x σ'' := by
  refine (goT_ok (ovs_of hov) (names_of hN) hM hC n _ _ _ _ h w0 e' w hk' vs hvs).mono ?_
  rintro en w' ⟨x, σ'', e'', v, h1, h2, h3, h4, h5⟩
  simp only [retC] at h5
  split at h5
  · rename_i hr
    split at h5
    · rename_i v' hv'
      obtain ⟨e3, k1, k2, k3⟩ := h4.clean (hl.trans h2) hk.blks.symm hk.ints.symm hk.opqs.symm hk.arrs.len.symm hk.junks.symm h3 hr hv'
      exact ⟨_, _, e3, v, h1, k1, k2, k3, h5⟩
    · exact h5.bad.elim
  · exact h5.bad.elim
end
end Reck
