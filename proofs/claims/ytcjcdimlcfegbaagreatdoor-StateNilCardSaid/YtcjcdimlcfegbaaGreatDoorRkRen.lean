/- A reckoner of calls: a state told anew stands for the same world. No condition. -/
import Derived.Test.YtcjcdimlcfegbaaGreatDoorRkRun
set_option linter.unusedVariables false
set_option linter.unusedSimpArgs false
namespace Reck
open Go Ost

theorem place_get : ∀ {l : List Nat} {b p : Nat}, place l b = some p → l[p]? = some b
  | [], b, p, h => by simp [place] at h
  | x :: l, b, p, h => by
    simp only [place] at h
    split at h
    · rename_i hx; simp at h hx; subst h; subst hx; rfl
    · split at h
      · rename_i q hq; simp at h; subst h; simpa using place_get hq
      · cases h
theorem place_none : ∀ {l : List Nat} {b : Nat}, place l b = none → b ∉ l
  | [], b, h => by simp
  | x :: l, b, h => by
    simp only [place] at h
    split at h
    · cases h
    · rename_i hx
      split at h
      · cases h
      · rename_i hq
        simp at hx
        simp [hx, place_none hq]
theorem nodupN_ok : ∀ {l : List Nat}, nodupN l = true → l.Nodup
  | [], _ => by simp
  | x :: l, h => by
    simp only [nodupN, Bool.and_eq_true, Option.isNone_iff_eq_none] at h
    exact List.nodup_cons.2 ⟨place_none h.1, nodupN_ok h.2⟩

section
variable {P : Program} {w0 w : World} {e : Env} {σ : St} {tm : List AV} {a : Act}

/-- A row of places told anew. -/
def rowN {α : Type} (n : Nat) (m : List Nat) (l : List α) (d : α) : List α := l.take n ++ m.map fun b => l.getD b d
theorem rowN_get {α : Type} {n : Nat} {m : List Nat} {l : List α} {d x : α} {b b' : Nat} (hn : n ≤ l.length) (h : renN n m b = some b') (hx : l[b]? = some x) : (rowN n m l d)[b']? = some x := by
  unfold renN at h
  unfold rowN
  split at h
  · rename_i p hp
    simp at h; subst h
    have := place_get hp
    rw [List.getElem?_append_right (by rw [List.length_take]; omega), List.length_take, Nat.min_eq_left hn, Nat.add_sub_cancel_left, List.getElem?_map, this]
    simp [List.getD_eq_getElem?_getD, hx]
  · split at h
    · rename_i hb
      simp [Nat.blt_eq] at h hb; subst h
      rw [List.getElem?_append_left (by rw [List.length_take]; omega), List.getElem?_take, if_pos hb, hx]
    · cases h

def renE (R : Ren) (e : Env) (a : Act) : Env := ⟨rowN R.nb R.mb e.blk (0, 0), e.int.take R.ni, e.opq.take R.no, rowN R.na R.ma e.arr (.inl none), e.S, e.junk.take R.nj ++ a.tmps.toList, e.Z⟩

structure RenOk (R : Ren) (e : Env) (σ : St) : Prop where
  nb : R.nb ≤ σ.heap.length
  ni : R.ni ≤ σ.ints.length
  no : R.no ≤ σ.opqs
  na : R.na ≤ σ.arrs.length
  nj : R.nj ≤ σ.junks
  mb : ∀ b ∈ R.mb, b < σ.heap.length
  ma : ∀ b ∈ R.ma, b < σ.arrs.length
  db : R.mb.Nodup
  da : R.ma.Nodup
theorem renOk_ok {R : Ren} (h : renOk R σ = true) : RenOk R e σ := by
  simp only [renOk, Bool.and_eq_true, List.all_eq_true, Nat.blt_eq, Nat.ble_eq] at h
  obtain ⟨⟨⟨⟨⟨⟨⟨⟨h1, h2⟩, h3⟩, h4⟩, h5⟩, h6⟩, h7⟩, h8⟩, h9⟩ := h
  exact ⟨h1, h2, h3, h4, h5, h6, h7, nodupN_ok h8, nodupN_ok h9⟩

theorem renP_ptrV {R : Ren} (hk : Ok w0 e σ w) (hr : RenOk R e σ) (p : Nat × Nat) (p' : Nat × Nat) (v : Value) (h : renP R p = some p') (hv : ptrV e p = some v) : ptrV (renE R e a) p' = some v := by
  unfold renP at h
  split at h
  · rename_i b hb
    simp at h; subst h
    unfold ptrV at hv ⊢
    split at hv
    · rename_i q hq
      have := rowN_get (d := ((0, 0) : Nat × Nat)) (by rw [hk.blks]; exact hr.nb) hb hq
      dsimp only [renE]; rw [this]; exact hv
    · cases hv
  · cases h

theorem capv_ren {R : Ren} {j : Option Nat} {c n : Nat} (hj : jOk R j = true) (h : capv e j c = some n) : capv (renE R e a) j c = some n := by
  cases j with
  | none => exact h
  | some j =>
    simp only [jOk, Nat.blt_eq] at hj
    simp only [capv, renE, List.getElem?_take, if_pos hj] at h ⊢
    exact h

theorem seqO_ren {α β : Type} {f : α → Option α} {g g' : α → Option β} (h : ∀ x y v, f x = some y → g x = some v → g' y = some v) : ∀ {l l' : List α} {vs : List β}, l.map f = l'.map some → l.map g = vs.map some → l'.map g' = vs.map some
  | [], l', vs, h1, h2 => by cases l' <;> cases vs <;> simp at h1 h2 ⊢
  | x :: l, [], vs, h1, h2 => by simp at h1
  | x :: l, y :: l', [], h1, h2 => by simp at h2
  | x :: l, y :: l', v :: vs, h1, h2 => by
    simp only [List.map_cons, List.cons.injEq] at h1 h2 ⊢
    exact ⟨h x y v h1.1 h2.1, seqO_ren h h1.2 h2.2⟩

theorem renC_cv {R : Ren} (hk : Ok w0 e σ w) (hr : RenOk R e σ) (c c' : Cell) (v : Value) (h : renC R c = some c') (hv : cv e c = some v) : cv (renE R e a) c' = some v := by
  rcases c with x | p | s | ⟨k, i⟩ | ⟨f, l⟩ | i | ⟨k, n⟩ | s | ⟨b, j⟩ | j | l | s | p | q | y <;> simp only [renC] at h
  · simp at h; subst h; exact hv
  · split at h
    · rename_i p' hp
      simp at h; subst h; exact renP_ptrV hk hr p p' v hp hv
    · cases h
  · split at h
    · rename_i b hb
      split at h
      · rename_i hj
        simp at h; subst h
        simp only [cv] at hv ⊢
        split at hv
        · rename_i q c hq hc
          have := rowN_get (d := ((0, 0) : Nat × Nat)) (by rw [hk.blks]; exact hr.nb) hb hq
          rw [capv_ren hj hc]
          simp only [renE, this]; exact hv
        · cases hv
      · cases h
    · cases h
  · split at h
    · rename_i hi
      simp only [Nat.blt_eq] at hi
      simp at h; subst h
      simp only [cv, intC, renE, List.getElem?_take, if_pos hi] at hv ⊢; exact hv
    · cases h
  · split at h
    · rename_i l' hl
      simp at h; subst h
      simp only [cv] at hv ⊢
      split at hv
      · rename_i vs hvs
        rw [seqO_some.2 (seqO_ren (renP_ptrV hk hr) (seqO_some.1 hl) (seqO_some.1 hvs))]; exact hv
      · cases hv
    · cases h
  · split at h
    · rename_i hi
      simp only [Nat.blt_eq] at hi
      simp at h; subst h
      simp only [cv, opqC, renE, List.getElem?_take, if_pos hi] at hv ⊢; exact hv
    · cases h
  · simp at h; subst h; exact hv
  · split at h
    · rename_i b hb
      simp at h; subst h
      simp only [cv, aslC] at hv ⊢
      cases hq : e.arr[s.a]? with
      | none => simp [hq] at hv
      | some q =>
        have := rowN_get (d := (.inl none : Option Addr ⊕ (Nat × Nat))) (by rw [hk.arrs.len]; exact hr.na) hb hq
        rw [hq] at hv
        simp only [renE, this]; exact hv
    · cases h
  · split at h
    · rename_i b' hb
      simp at h; subst h
      simp only [cv, aptrC] at hv ⊢
      cases hq : e.arr[b]? with
      | none => simp [hq] at hv
      | some q =>
        have := rowN_get (d := (.inl none : Option Addr ⊕ (Nat × Nat))) (by rw [hk.arrs.len]; exact hr.na) hb hq
        rw [hq] at hv
        simp only [renE, this]; exact hv
    · cases h
  · split at h
    · rename_i hi
      simp only [Nat.blt_eq] at hi
      simp at h; subst h
      simp only [cv, junkC, renE] at hv ⊢
      have hlt := (List.getElem?_eq_some_iff.1 hv).1
      rw [List.getElem?_append_left (by rw [List.length_take]; omega), List.getElem?_take, if_pos hi]; exact hv
    · cases h
  · simp at h; subst h; exact hv
  · split at h
    · rename_i b hb
      simp at h; subst h
      simp only [cv, rslC] at hv ⊢
      cases hq : e.arr[s.a]? with
      | none => simp [hq] at hv
      | some q =>
        have := rowN_get (d := (.inl none : Option Addr ⊕ (Nat × Nat))) (by rw [hk.arrs.len]; exact hr.na) hb hq
        rw [hq] at hv
        simp only [renE, this]; exact hv
    · cases h
  · split at h
    · rename_i b hb
      simp at h; subst h
      simp only [cv, rptC] at hv ⊢
      cases hq : e.arr[p.a]? with
      | none => simp [hq] at hv
      | some q =>
        have := rowN_get (d := (.inl none : Option Addr ⊕ (Nat × Nat))) (by rw [hk.arrs.len]; exact hr.na) hb hq
        rw [hq] at hv
        simp only [renE, this]; exact hv
    · cases h
  · simp at h; subst h; exact hv
  · simp at h; subst h; exact hv
theorem ren1_v1 {R : Ren} (hk : Ok w0 e σ w) (hr : RenOk R e σ) (x x' : V1) (v : Value) (h : ren1 R x = some x') (hv : v1 e x = some v) : v1 (renE R e a) x' = some v := by
  rcases x with c | l <;> simp only [ren1] at h
  · split at h
    · rename_i c' hc; simp at h; subst h; exact renC_cv hk hr c c' v hc hv
    · cases h
  · split at h
    · rename_i l' hl
      simp at h; subst h
      simp only [v1] at hv ⊢
      split at hv
      · rename_i vs hvs
        rw [seqO_some.2 (seqO_ren (renC_cv hk hr) (seqO_some.1 hl) (seqO_some.1 hvs))]; exact hv
      · cases hv
    · cases h
theorem renV_av {R : Ren} (hk : Ok w0 e σ w) (hr : RenOk R e σ) (x x' : AV) (v : Value) (h : renV R x = some x') (hv : av e x = some v) : av (renE R e a) x' = some v := by
  rcases x with c | l <;> simp only [renV] at h
  · split at h
    · rename_i c' hc; simp at h; subst h; exact ren1_v1 hk hr c c' v hc hv
    · cases h
  · split at h
    · rename_i l' hl
      simp at h; subst h
      simp only [av] at hv ⊢
      split at hv
      · rename_i vs hvs
        rw [seqO_some.2 (seqO_ren (ren1_v1 hk hr) (seqO_some.1 hl) (seqO_some.1 hvs))]; exact hv
      · cases hv
    · cases h

theorem renTm_av {R : Ren} (hk : Ok w0 e σ w) (hr : RenOk R e σ) (hj : R.nj ≤ e.junk.length) : ∀ (l : List AV) (vs : List Value) (t : Nat), l.map (av e) = vs.map some → (∀ (i : Nat) v, vs[i]? = some v → a.tmps.toList[t + i]? = some v) → (renTm R t l).map (av (renE R e a)) = vs.map some
  | [], vs, t, h, _ => by cases vs <;> simp [renTm] at h ⊢
  | x :: l, [], t, h, _ => by simp at h
  | x :: l, v :: vs, t, h, hg => by
    simp only [List.map_cons, List.cons.injEq] at h
    have hjv : av (renE R e a) (cell (junkC (R.nj + t))) = some v := by
      have := hg 0 v rfl
      simp only [cell, junkC, av, v1, cv, renE]
      rw [List.getElem?_append_right (by rw [List.length_take]; omega), List.length_take, Nat.min_eq_left hj, Nat.add_sub_cancel_left]; simpa using this
    simp only [renTm, List.map_cons, List.cons.injEq]
    refine ⟨?_, renTm_av hk hr hj l vs (t + 1) h.2 (fun i u hu => by have := hg (i + 1) u (by simpa using hu); rw [← this]; congr 1; omega)⟩
    split
    · exact hjv
    · split
      · rename_i y hy; exact renV_av hk hr x y v hy h.1
      · exact hjv

theorem heldBack_len {α : Type} (m : List Nat) : ∀ (i : Nat) (l : List (Option α)), (heldBack m i l).length = l.length
  | _, [] => rfl
  | i, x :: l => by simp [heldBack, heldBack_len m (i + 1) l]
theorem heldBack_get {α : Type} (m : List Nat) : ∀ (i : Nat) (l : List (Option α)) (b : Nat) (x : α), (heldBack m i l)[b]? = some (some x) → l[b]? = some (some x) ∧ (i + b) ∉ m
  | _, [], b, x, h => by simp [heldBack] at h
  | i, y :: l, 0, x, h => by
    simp only [heldBack, List.getElem?_cons_zero, Option.some.injEq] at h
    split at h
    · cases h
    · rename_i hp; simp [h, place_none hp]
  | i, y :: l, b + 1, x, h => by
    simp only [heldBack, List.getElem?_cons_succ] at h
    have := heldBack_get m (i + 1) l b x h
    exact ⟨by simpa using this.1, by rw [show i + (b + 1) = i + 1 + b by omega]; exact this.2⟩
theorem heldBack_at {α : Type} (m : List Nat) : ∀ (i : Nat) (l : List (Option α)) (b : Nat), b < l.length → (i + b) ∉ m → (heldBack m i l)[b]? = l[b]?
  | _, [], b, h, _ => by simp at h
  | i, y :: l, 0, _, h => by
    simp only [heldBack, List.getElem?_cons_zero, Option.some.injEq]
    split
    · rename_i p hp; exact absurd (List.mem_of_getElem? (place_get hp)) (by simpa using h)
    · rfl
  | i, y :: l, b + 1, hb, h => by
    simp only [heldBack, List.getElem?_cons_succ]
    exact heldBack_at m (i + 1) l b (by simpa using hb) (by rw [show i + 1 + b = i + (b + 1) by omega]; exact h)

/-- Where a thing of the new row stood. -/
theorem row_old {α β : Type} {n : Nat} {m : List Nat} {l : List (Option α)} {p : List β} {d : β} {b : Nat} {x : α} {q : β} (hnl : n ≤ l.length) (hpl : p.length = l.length) (hm : ∀ b ∈ m, b < l.length)
    (h : (heldBack m 0 (l.take n) ++ m.map fun b => l.getD b none)[b]? = some (some x)) (hq : (rowN n m p d)[b]? = some q) : ∃ b', l[b']? = some (some x) ∧ p[b']? = some q ∧ ((b < n ∧ b' = b ∧ b ∉ m) ∨ (n ≤ b ∧ m[b - n]? = some b')) := by
  unfold rowN at hq
  have hl1 : (heldBack m 0 (l.take n)).length = n := by rw [heldBack_len, List.length_take]; omega
  have hl2 : (p.take n).length = n := by rw [List.length_take]; omega
  by_cases hb : b < n
  · rw [List.getElem?_append_left (by omega)] at h hq
    obtain ⟨h1, h2⟩ := heldBack_get m 0 _ b x h
    rw [List.getElem?_take, if_pos hb] at h1 hq
    exact ⟨b, h1, hq, .inl ⟨hb, rfl, by simpa using h2⟩⟩
  · rw [List.getElem?_append_right (by omega), hl1, List.getElem?_map] at h
    rw [List.getElem?_append_right (by omega), hl2, List.getElem?_map] at hq
    cases hmb : m[b - n]? with
    | none => simp [hmb] at h
    | some b' =>
      rw [hmb] at h hq
      simp only [Option.map_some, Option.some.injEq, List.getD_eq_getElem?_getD] at h hq
      have hlt := hm b' (List.mem_of_getElem? hmb)
      rw [List.getElem?_eq_getElem hlt] at h
      rw [List.getElem?_eq_getElem (by omega)] at hq
      refine ⟨b', ?_, ?_, .inr ⟨by omega, rfl⟩⟩
      · rw [List.getElem?_eq_getElem hlt]; simpa using h
      · rw [List.getElem?_eq_getElem (by omega)]; simpa using hq
theorem row_apart {n : Nat} {m : List Nat} (hd : m.Nodup) {b1 b2 c1 c2 : Nat} (hne : b1 ≠ b2) (h1 : (b1 < n ∧ c1 = b1 ∧ b1 ∉ m) ∨ (n ≤ b1 ∧ m[b1 - n]? = some c1)) (h2 : (b2 < n ∧ c2 = b2 ∧ b2 ∉ m) ∨ (n ≤ b2 ∧ m[b2 - n]? = some c2)) : c1 ≠ c2 := by
  rcases h1 with ⟨a1, rfl, a2⟩ | ⟨a1, a2⟩ <;> rcases h2 with ⟨d1, rfl, d2⟩ | ⟨d1, d2⟩
  · exact hne
  · rintro rfl; exact a2 (List.mem_of_getElem? d2)
  · rintro rfl; exact d2 (List.mem_of_getElem? a2)
  · rintro rfl
    have g1 := (List.getElem?_eq_some_iff.1 a2)
    have g2 := (List.getElem?_eq_some_iff.1 d2)
    obtain ⟨g1, g1'⟩ := g1
    obtain ⟨g2, g2'⟩ := g2
    have := (List.getElem_inj hd).1 (g1'.trans g2'.symm)
    omega

theorem renK_some {R : Ren} {y : Option Blk} {x : Blk} (h : renK R y = some x) : ∃ z, y = some z ∧ z.cells.map (renC R) = x.cells.map some ∧ jOk R z.j = true ∧ x.elem = z.elem ∧ x.j = z.j ∧ x.c = z.c ∧ x.z = z.z := by
  cases y with
  | none => simp [renK] at h
  | some z =>
    simp only [renK] at h
    split at h
    · rename_i l hl
      split at h
      · rename_i hj; simp at h; subst h; exact ⟨z, rfl, seqO_some.1 hl, hj, rfl, rfl, rfl, rfl⟩
      · cases h
    · cases h

theorem renSt_ok {R : Ren} (hk : Ok w0 e σ w) (hr : RenOk R e σ) (ht : Tm e tm a) : Ok w0 (renE R e a) (renSt R tm.length σ) w ∧ Tm (renE R e a) (renTm R 0 tm) a := by
  have hblk : ∀ (b : Nat) x q, (renSt R tm.length σ).heap[b]? = some (some x) → (renE R e a).blk[b]? = some q → ∃ b' z, σ.heap[b']? = some (some z) ∧ e.blk[b']? = some q ∧ renK R (some z) = some x ∧ ((b < R.nb ∧ b' = b ∧ b ∉ R.mb) ∨ (R.nb ≤ b ∧ R.mb[b - R.nb]? = some b')) := by
    intro b x q h1 h2
    have e1 : (renSt R tm.length σ).heap = (heldBack R.mb 0 (σ.heap.take R.nb) ++ R.mb.map fun b => σ.heap.getD b none).map (renK R) := by simp [renSt, List.map_append, List.map_map, Function.comp_def]
    rw [e1, List.getElem?_map] at h1
    cases h3 : (heldBack R.mb 0 (σ.heap.take R.nb) ++ R.mb.map fun b => σ.heap.getD b none)[b]? with
    | none => rw [h3] at h1; simp at h1
    | some y =>
      rw [h3] at h1
      simp only [Option.map_some, Option.some.injEq] at h1
      obtain ⟨z, rfl, _⟩ := renK_some h1
      obtain ⟨b', g1, g2, g3⟩ := row_old hr.nb hk.blks hr.mb h3 h2
      exact ⟨b', z, g1, g2, h1, g3⟩
  have harr : ∀ (b : Nat) x q, (renSt R tm.length σ).arrs[b]? = some (some x) → (renE R e a).arr[b]? = some q → ∃ b', σ.arrs[b']? = some (some x) ∧ e.arr[b']? = some q ∧ ((b < R.na ∧ b' = b ∧ b ∉ R.ma) ∨ (R.na ≤ b ∧ R.ma[b - R.na]? = some b')) :=
    fun b x q h1 h2 => row_old hr.na hk.arrs.len hr.ma h1 h2
  have hj : R.nj ≤ e.junk.length := by rw [hk.junks]; exact hr.nj
  refine ⟨⟨hk.only, ?_, ?_, ?_, ?_, ?_, ?_, ?_, ⟨?_, ?_, ?_, ?_⟩, ?_, ?_⟩, ?_, ht.2⟩
  · have := hk.blks; have := hr.nb
    simp [renE, rowN, renSt, heldBack_len]; omega
  · simp [renE, renSt, hk.ints]
  · have := hr.no; have := hk.opqs; simp [renE, renSt]; omega
  · intro i b n h1 h2
    simp only [renE, renSt, List.getElem?_take] at h1 h2
    split at h1
    · rename_i hi; rw [if_pos hi] at h2; exact hk.bnd i b n h1 h2
    · cases h1
  · intro v hv; exact hk.opq v (List.mem_of_mem_take hv)
  · intro b x q h1 h2
    obtain ⟨b', z, g1, g2, g3, g4⟩ := hblk b x q h1 h2
    obtain ⟨z', hz, k1, k2, k3, k4, k5, k6⟩ := renK_some g3
    simp at hz; subst hz
    obtain ⟨m1, cur, fz, m2, m3, ⟨N, m4, m5⟩, m6, m7, m8⟩ := hk.blk b' z q g1 g2
    refine ⟨m1, cur, fz, by rw [k3]; exact m2, ?_, ⟨N, by unfold b0 at m4 ⊢; rw [k4, k5]; exact capv_ren k2 m4, by unfold bu at m5 ⊢; rw [k4, k5]; exact m5⟩, m6, by rw [k6]; exact m7, m8⟩
    intro j c hc
    have h4 : (z.cells.map (renC R))[j]? = (x.cells.map some)[j]? := by rw [k1]
    rw [List.getElem?_map, List.getElem?_map, hc] at h4
    cases hz : z.cells[j]? with
    | none => simp [hz] at h4
    | some c' =>
      rw [hz] at h4
      simp only [Option.map_some, Option.some.injEq] at h4
      obtain ⟨v, n1, n2⟩ := m3 j c' hz
      exact ⟨v, renC_cv hk hr c' c v h4 n1, n2⟩
  · intro b1 b2 x1 x2 q1 q2 hne h1 h2 h3 h4
    obtain ⟨c1, z1, g1, g2, g3, g4⟩ := hblk b1 x1 q1 h1 h3
    obtain ⟨c2, z2, k1, k2, k3, k4⟩ := hblk b2 x2 q2 h2 h4
    exact hk.apart c1 c2 z1 z2 q1 q2 (row_apart hr.db hne g4 k4) g1 k1 g2 k2
  · have := hk.arrs.len; have := hr.na
    simp [renE, rowN, renSt, heldBack_len]; omega
  · intro b x q h1 h2
    obtain ⟨b', g1, g2, g3⟩ := harr b x q h1 h2
    have := hk.arrs.ok b' x q g1 g2
    cases q with
    | inl A => exact this
    | inr q => exact this
  · intro b x q b2 y q' h1 h2 h3 h4 h5
    obtain ⟨b', g1, g2, g3⟩ := harr b x _ h1 h3
    obtain ⟨c2, z2, k1, k2, k3, k4⟩ := hblk b2 y q' h4 h5
    exact hk.arrs.off b' x q c2 z2 q' g1 h2 g2 k1 k2
  · intro b1 b2 x1 x2 q1 q2 hne h1 h2 h3 h4 h5 h6
    obtain ⟨c1, g1, g2, g3⟩ := harr b1 x1 _ h1 h5
    obtain ⟨c2, k1, k2, k3⟩ := harr b2 x2 _ h2 h6
    exact hk.arrs.apart c1 c2 x1 x2 q1 q2 (row_apart hr.da hne g3 k3) g1 k1 h3 h4 g2 k2
  · have := ht.len
    simp [renE, renSt, Nat.min_eq_left hj, this]
  · have hL : (renE R e a).arr.length = (renSt R tm.length σ).arrs.length := by
      have := hk.arrs.len; have := hr.na
      simp [renE, rowN, renSt, heldBack_len]; omega
    refine hk.froz.mv (fun b x h1 h2 => ?_) rfl rfl (fun g _ _ hg ho => hg ?_)
    · obtain ⟨b', g1, _⟩ := harr b x _ h1 (List.getElem?_eq_getElem (by rw [hL]; exact (List.getElem?_eq_some_iff.1 h1).1))
      exact ⟨b', g1⟩
    · rcases ho with ⟨b, x, q, h1, h2, h3⟩ | ⟨b, x, q, h1, hro, h2, h3⟩
      · obtain ⟨b', z, g1, g2, _⟩ := hblk b x q h1 h2
        exact .inl ⟨b', z, q, g1, g2, h3⟩
      · obtain ⟨b', g1, g2, _⟩ := harr b x _ h1 h2
        exact .inr ⟨b', x, q, g1, hro, g2, h3⟩
  · exact renTm_av hk hr hj tm a.tmps.toList 0 ht.1 (fun i v hv => by simpa using hv)

theorem renE_le {R : Ren} {e0 : Env} (hl : e0.le e) (hb : R.nb = e0.blk.length) (hi : R.ni = e0.int.length) (ho : R.no = e0.opq.length) (ha : R.na = e0.arr.length) (hj : R.nj = e0.junk.length) : e0.le (renE R e a) := by
  have tk : ∀ {α : Type} {l l' : List α} {n : Nat}, l <+: l' → n = l.length → l'.take n = l := by
    rintro α l l' n ⟨t, rfl⟩ rfl; simp
  refine ⟨?_, ?_, ?_, ?_, hl.S, ?_, hl.Z⟩
  · simp only [renE, rowN, tk hl.blk hb]; exact List.prefix_append _ _
  · simp only [renE, tk hl.int hi]; exact List.prefix_rfl
  · simp only [renE, tk hl.opq ho]; exact List.prefix_rfl
  · simp only [renE, rowN, tk hl.arr ha]; exact List.prefix_append _ _
  · simp only [renE, tk hl.junk hj]; exact List.prefix_append _ _
end
end Reck
