/- A reckoner of calls: rows with slices in them are loaded, and their slices told as arrays that are read. No condition. -/
import Derived.Test.YtcjcdimlcfegbaaGreatDoorRkWI
import Derived.Test.YtcjcdimlcfegbaaGreatDoorRkB
set_option linter.unusedVariables false
set_option linter.unusedSimpArgs false
namespace Reck
open Go Ost

/-- The types of a type's cells, structs laid flat. -/
def tyFields (P : Program) (K : TypeId → Option (List TypeId)) : List Field → Option (List TypeId)
  | [] => some []
  | f :: l => match K f.type, tyFields P K l with
    | some a, some b => some (a ++ b)
    | _, _ => none
def tyOf (P : Program) : Nat → TypeId → Option (List TypeId)
  | 0, _ => none
  | d + 1, t => match P.underlying t with
    | some (.struct fs) => tyFields P (tyOf P d) fs.toList
    | some _ => some [t]
    | none => none
/-- What a slice of that type holds: of which type; numbers of a kind, or rows. -/
def shOf (P : Program) (t : TypeId) : Option (TypeId × (IntKind ⊕ List CK)) :=
  match P.underlying t with
  | some (.slice e) => match P.underlying e with
    | some (.int k) => some (e, .inl k)
    | _ => match kOfV P 6 e with
      | some ks => some (e, .inr ks)
      | none => none
  | _ => none
def opnX : Cell → Option Value
  | .inr (.inr (.inr (.inr (.inr (.inr (.inr (.inr (.inr (.inr (.inr (.inr (.inr (.inr x))))))))))))) => some x
  | _ => none
theorem opnX_eq {c : Cell} {x : Value} (h : opnX c = some x) : c = opnC x := by
  unfold opnX at h
  split at h
  · simp only [Option.some.injEq] at h; subst h; rfl
  · cases h
/-- Cells one by one: each slice as an array of its own. -/
def adR (P : Program) (F : Value → FB → Prop) (K : List Cell → St → Prop) : List (Cell × TypeId) → List Cell → St → Prop
  | [], acc, σ => K acc σ
  | (c, t) :: l, acc, σ => match opnX c with
    | none => adR P F K l (acc ++ [c]) σ
    | some x => match shOf P t with
      | none => adR P F K l (acc ++ [c]) σ
      | some (e, .inl k) => ∃ zs : List Int, F x (.n k zs) ∧ ∀ c' : Nat, zs.length ≤ c' → adR P F K l (acc ++ [aslC ⟨σ.arrs.length, 0, zs.length, c'⟩]) (addArr σ ⟨e, .n k, zs, 0, true⟩)
      | some (e, .inr ks) => ∃ L : List (List CV), F x (.r ks L) ∧ ∀ c' : Nat, L.length ≤ c' → adR P F K l (acc ++ [rslC ⟨σ.arrs.length, ks.length, 0, L.length, c'⟩]) (addArr σ ⟨e, .o (.rows ks L), [], 0, true⟩)
def adV (P : Program) (F : Value → FB → Prop) (t : TypeId) (σ : St) (K : AV → St → Prop) (v : AV) : Prop :=
  match v with
  | .inl (.inl c) => adR P F (fun cs σ' => match cs with
    | [c] => K (cell c) σ'
    | _ => Err [172]) [(c, t)] [] σ
  | .inl (.inr cs) => match tyOf P 6 t with
    | some ts => if Nat.beq ts.length cs.length then adR P F (fun cs σ' => K (.inl (.inr cs)) σ') (cs.zip ts) [] σ else Err [171]
    | none => Err [171]
  | _ => Err [173]
def loadAd (P : Program) (t : TypeId) (x : AV) (σ : St) : Option MT :=
  match rptX x, oldAt σ.arrs with
  | some p, some F => match loadH0 P t p σ with
    | some T => some fun K => T fun v _ => adV P F t σ K v
    | none => none
  | _, _ => none
/-- With rows whose slices are told. -/
def opMA (P : Program) (opM : OpM) : OpM := fun tm o σ =>
  match o.op with
  | .load t x => match loadAd P t (evalA tm x) σ with
    | some T => some T
    | none => opM tm o σ
  | _ => opM tm o σ

section
variable {P : Program} {w0 w : World} {e : Env} {σ : St} {tm : List AV} {a : Act}
theorem oldAt_some {F : Value → FB → Prop} : ∀ {l : List (Option ABlk)}, oldAt l = some F → ∃ (i : Nat) (x : ABlk), l[i]? = some (some x) ∧ isOld x F
  | [], h => by simp [oldAt] at h
  | some x :: l, h => by
    unfold oldAt at h
    split at h
    · rename_i F' hk
      split at h
      · obtain ⟨i, y, h1, h2⟩ := oldAt_some h
        exact ⟨i + 1, y, by simpa using h1, h2⟩
      · rename_i hr
        simp only [Option.some.injEq] at h; subst h
        exact ⟨0, x, rfl, by simpa using hr, hk⟩
    · obtain ⟨i, y, h1, h2⟩ := oldAt_some h
      exact ⟨i + 1, y, by simpa using h1, h2⟩
  | none :: l, h => by
    unfold oldAt at h
    obtain ⟨i, y, h1, h2⟩ := oldAt_some h
    exact ⟨i + 1, y, by simpa using h1, h2⟩
theorem oldAt_add {F : Value → FB → Prop} {x : ABlk} : ∀ {l : List (Option ABlk)}, oldAt l = some F → oldAt (l ++ [some x]) = some F
  | [], h => by simp [oldAt] at h
  | some y :: l, h => by
    simp only [List.cons_append]
    unfold oldAt at h ⊢
    split at h
    · rename_i F' hk
      split at h
      · rename_i hr; rw [if_pos hr]; exact oldAt_add h
      · rename_i hr; rw [if_neg hr]; exact h
    · exact oldAt_add h
  | none :: l, h => by
    simp only [List.cons_append]
    unfold oldAt at h ⊢
    exact oldAt_add h
/-- What is frozen from the beginning on is told as an array that is read. -/
theorem Ok.adoptOld (hk : Ok w0 e σ w) {a : Nat} {x : ABlk} {F : Value → FB → Prop} (ha : σ.arrs[a]? = some (some x)) (hx : isOld x F) {v : Value} {B : FB} (hF : F v B) (el : TypeId) :
    ∃ (c : Nat) (q : Option Addr ⊕ (Nat × Nat)), B.len ≤ c ∧ Ok w0 ⟨e.blk, e.int, e.opq, e.arr ++ [q], e.S, e.junk, e.Z⟩ (addArr σ (B.blk el)) w ∧ cv ⟨e.blk, e.int, e.opq, e.arr ++ [q], e.S, e.junk, e.Z⟩ (B.cell σ.arrs.length c) = some v := by
  obtain ⟨A, c, rfl, h0, h1⟩ := (hk.froz a x ha).2 F hx v B hF
  have hl := hk.arrs.len
  by_cases hc : c = 0
  · subst hc
    have hB := h0 rfl
    refine ⟨0, .inl A, by omega, hk.arrAddRo ?_ (B.blk_ro el), ?_⟩
    · cases B with
      | n k l => exact ⟨List.eq_nil_of_length_eq_zero hB, .inl ⟨k, rfl⟩⟩
      | r ks L => exact ⟨rfl, .inr (.inl ⟨ks, by rw [show L = [] from List.eq_nil_of_length_eq_zero hB]; rfl⟩)⟩
    · cases B with
      | n k l => rw [hB]; exact asl_nil (s := ⟨σ.arrs.length, 0, l.length, 0⟩) (by simp [← hl]) hB rfl
      | r ks L => rw [hB]; exact rsl_nil (s := ⟨σ.arrs.length, ks.length, 0, L.length, 0⟩) (by simp [← hl]) hB rfl
  · obtain ⟨g, o, rfl, h2, h3, h4⟩ := h1 hc
    refine ⟨c, .inr (g, o), h2, hk.arrAddRo ?_ (B.blk_ro el), ?_⟩
    · cases B with
      | n k l =>
        obtain ⟨cur, el', fz, k1, k2⟩ := h3
        exact ⟨⟨_, k1, cur, el', fz, rfl, k2, by intro h; cases h⟩, .inl ⟨rfl, h4⟩⟩
      | r ks L =>
        obtain ⟨k0, cur, el', fz, k1, k2⟩ := h3
        exact ⟨⟨_, k1, k0, cur, el', fz, rfl, k2, by intro h; cases h⟩, .inl ⟨rfl, h4⟩⟩
    · cases B with
      | n k l =>
        have := asl_av (e := ⟨e.blk, e.int, e.opq, e.arr ++ [.inr (g, o)], e.S, e.junk, e.Z⟩) (s := ⟨σ.arrs.length, 0, l.length, c⟩) (q := (g, o)) (by simp [← hl]) h2
        simp only [Nat.zero_mul, Nat.add_zero] at this
        exact this
      | r ks L =>
        have := rsl_av (e := ⟨e.blk, e.int, e.opq, e.arr ++ [.inr (g, o)], e.S, e.junk, e.Z⟩) (s := ⟨σ.arrs.length, ks.length, 0, L.length, c⟩) (q := (g, o)) (by simp [← hl]) h2
        simp only [Nat.zero_mul, Nat.add_zero] at this
        exact this
theorem adR_ok {F : Value → FB → Prop} {K : List Cell → St → Prop} : ∀ {l : List (Cell × TypeId)} {acc : List Cell} {σ : St} {e : Env} {vs us : List Value}, adR P F K l acc σ → oldAt σ.arrs = some F → Ok w0 e σ w → acc.map (cv e) = us.map some → (l.map (·.1)).map (cv e) = vs.map some →
    ∃ cs σ' e', K cs σ' ∧ e.le e' ∧ Ok w0 e' σ' w ∧ cs.map (cv e') = (us ++ vs).map some
  | [], acc, σ, e, vs, us, h, ho, hk, hu, hv => by
    cases vs with
    | nil => exact ⟨acc, σ, e, h, Env.le.refl e, hk, by simpa using hu⟩
    | cons v vs => simp at hv
  | (c, t) :: l, acc, σ, e, [], us, h, ho, hk, hu, hv => by simp at hv
  | (c, t) :: l, acc, σ, e, v :: vs, us, h, ho, hk, hu, hv => by
    simp only [List.map_cons, List.cons.injEq] at hv
    obtain ⟨hv1, hv2⟩ := hv
    have same : ∀ {h' : adR P F K l (acc ++ [c]) σ}, ∃ cs σ' e', K cs σ' ∧ e.le e' ∧ Ok w0 e' σ' w ∧ cs.map (cv e') = (us ++ v :: vs).map some := by
      intro h'
      obtain ⟨cs, σ', e', k1, k2, k3, k4⟩ := adR_ok (us := us ++ [v]) h' ho hk (by rw [List.map_append, hu, List.map_append]; simp [hv1]) hv2
      exact ⟨cs, σ', e', k1, k2, k3, by rw [k4]; simp⟩
    unfold adR at h
    split at h
    · exact same (h' := h)
    · rename_i x hx
      obtain rfl := opnX_eq hx
      have hvx : v = x := by
        simp only [opnC, cv] at hv1
        split at hv1
        · simp at hv1; exact hv1.symm
        · cases hv1
      subst hvx
      obtain ⟨i, y, hy, hyo⟩ := oldAt_some ho
      have step : ∀ (B : FB) (el : TypeId), F v B → (∀ c', B.len ≤ c' → adR P F K l (acc ++ [B.cell σ.arrs.length c']) (addArr σ (B.blk el))) → ∃ cs σ' e', K cs σ' ∧ e.le e' ∧ Ok w0 e' σ' w ∧ cs.map (cv e') = (us ++ v :: vs).map some := by
        intro B el hF hn
        obtain ⟨c', q, g1, g2, g3⟩ := hk.adoptOld hy hyo hF el
        have hle := le_arr e q
        obtain ⟨cs, σ', e', k1, k2, k3, k4⟩ := adR_ok (us := us ++ [v]) (vs := vs) (hn c' g1) (oldAt_add ho) g2 (by
          rw [List.map_append, List.map_append, map_some_mono (fun c v h => cv_mono hle c v h) hu]; simp [g3]) (map_some_mono (fun c v h => cv_mono hle c v h) hv2)
        exact ⟨cs, σ', e', k1, hle.trans k2, k3, by rw [k4]; simp⟩
      split at h
      · exact same (h' := h)
      · rename_i el k _
        obtain ⟨zs, h1, h2⟩ := h
        exact step (.n k zs) el h1 h2
      · rename_i el ks _
        obtain ⟨L, h1, h2⟩ := h
        exact step (.r ks L) el h1 h2
theorem loadAd_ok (hk : Ok w0 e σ w) (ht : Tm e tm a) {t : TypeId} {x : Operand} {T : MT} {K : AV → St → Prop} (h : loadAd P t (evalA tm x) σ = some T) (hK : T K) :
    ∃ v σ' e' u, K v σ' ∧ e.le e' ∧ av e' v = some u ∧ Ok w0 e' σ' w ∧ (Instr.loadAt t (a.eval x)).run P w = .ok u w := by
  unfold loadAd at h
  split at h
  · rename_i p F hp ho
    split at h
    · rename_i T' hT
      simp only [Option.some.injEq] at h; subst h
      have hx := evalA_ok ht x
      rw [rptX_eq hp] at hx
      obtain ⟨q, hq, hv⟩ := rpt_ok hx
      rw [hv]
      obtain ⟨v, hs, k1, k2, u, k3, k4⟩ := loadH0_ok hk hT hK hq
      have hr := k4 w (heldS_of hk k2)
      unfold adV at k1
      split at k1
      · rename_i c
        have hc : cv e c = some u := k3
        obtain ⟨cs, σ', e', m1, m2, m3, m4⟩ := adR_ok (us := []) (vs := [u]) k1 ho hk rfl (by simp [hc])
        split at m1
        · rename_i c'
          simp at m4
          exact ⟨_, σ', e', u, m1, m2, m4, m3, hr⟩
        · exact m1.bad.elim
      · rename_i cs
        split at k1
        · rename_i ts hts
          split at k1
          · rename_i hlen
            have hlen : ts.length = cs.length := by simpa using hlen
            simp only [av, v1] at k3
            split at k3
            · rename_i vs hvs
              simp only [Option.some.injEq] at k3; subst k3
              have hvs := seqO_some.1 hvs
              obtain ⟨cs', σ', e', m1, m2, m3, m4⟩ := adR_ok (us := []) (vs := vs) k1 ho hk rfl (by rw [List.map_fst_zip (by omega)]; exact hvs)
              refine ⟨_, σ', e', _, m1, m2, ?_, m3, hr⟩
              simp only [av, v1]
              rw [seqO_some.2 m4]; rfl
            · cases k3
          · exact k1.bad.elim
        · exact k1.bad.elim
      · exact k1.bad.elim
    · cases h
  · cases h
theorem opMA_ok {opM : OpM} (hM : OpMOk P opM) : OpMOk P (opMA P opM) := by
  intro tm o σ T h
  unfold opMA at h
  split at h
  · rename_i t x ho
    split at h
    · rename_i T' hT
      simp only [Option.some.injEq] at h; subst h
      intro K hK w0 e w a hk ht
      obtain ⟨v, σ', e', u, k1, k2, k3, k4, k5⟩ := loadAd_ok hk ht hT hK
      refine ⟨v, σ', e', u, w, k1, k2, k3, k4, .inl ?_⟩
      simp [execOp, ho, k5]
    · exact hM tm o σ T h
  · exact hM tm o σ T h
/-- In a call all that is frozen was frozen from its beginning on. -/
theorem Ok.addOld (hk : Ok w e σ w) (hS : ∀ g, e.S g → owned e σ g) {a : Nat} {x : ABlk} {F : Value → FB → Prop} (ha : σ.arrs[a]? = some (some x)) (hx : isFrz x F) :
    Ok w ⟨e.blk, e.int, e.opq, e.arr ++ [.inl none], e.S, e.junk, e.Z⟩ (addArr σ (oldB F)) w := by
  have hle := le_arr e (.inl none)
  have hl := hk.arrs.len
  have old : ∀ (j : Nat) z q', (σ.arrs ++ [some (oldB F)])[j]? = some (some z) → (e.arr ++ [.inl none])[j]? = some (.inr q') → σ.arrs[j]? = some (some z) ∧ e.arr[j]? = some (.inr q') := by
    intro j z q' h1 h3
    rcases get_snoc h1 with ⟨g1, g2⟩ | ⟨g1, g2⟩ <;> rcases get_snoc h3 with ⟨k1, k2⟩ | ⟨k1, k2⟩ <;> try omega
    · exact ⟨g2, k2⟩
    · cases k2
  have own : ∀ g, owned ⟨e.blk, e.int, e.opq, e.arr ++ [.inl none], e.S, e.junk, e.Z⟩ (addArr σ (oldB F)) g → owned e σ g := by
    rintro g (h | ⟨j, z, q1, h1, h2, h3, h4⟩)
    · exact .inl h
    · obtain ⟨g1, g2⟩ := old j z q1 h1 h3
      exact .inr ⟨j, z, q1, g1, h2, g2, h4⟩
  refine ⟨hk.only, hk.blks, hk.ints, hk.opqs, hk.bnd, hk.opq, fun b z q' h1 h2 => (hk.blk b z q' h1 h2).mono hle, hk.apart, ⟨by simp [addArr, hl], ?_, ?_, ?_⟩, hk.junks, fun j z h1 => ?_⟩
  · intro j z q' h1 h2
    dsimp only [addArr] at h1 h2
    rcases get_snoc h1 with ⟨g1, g2⟩ | ⟨g1, g2⟩ <;> rcases get_snoc h2 with ⟨k1, k2⟩ | ⟨k1, k2⟩ <;> try omega
    · exact (hk.arrs.ok j z q' g2 k2).mono hle
    · simp at g2; subst g2; subst k2; exact ⟨rfl, .inr (.inr (.inr ⟨F, rfl⟩))⟩
  · intro j z q1 b v q' h1 h2 h3 h4 h5
    obtain ⟨g1, g2⟩ := old j z _ h1 h3
    exact hk.arrs.off j z q1 b v q' g1 h2 g2 h4 h5
  · intro j1 j2 z1 z2 q1 q2 hne h1 h2 h3 h4 h5 h6
    obtain ⟨g1, g2⟩ := old j1 z1 _ h1 h5
    obtain ⟨k1, k2⟩ := old j2 z2 _ h2 h6
    exact hk.arrs.apart j1 j2 z1 z2 q1 q2 hne g1 k1 h3 h4 g2 k2
  · dsimp only [addArr] at h1
    rcases get_snoc h1 with ⟨g1, g2⟩ | ⟨g1, g2⟩
    · exact ⟨fun G h2 u C hu => ((hk.froz j z g2).1 G h2 u C hu).mv fun g _ _ hg => ⟨⟨hg.1, fun ho => hg.2 (own g ho)⟩, rfl⟩, fun G h2 u C hu => (hk.froz j z g2).2 G h2 u C hu⟩
    · simp at g2; subst g2
      refine ⟨fun G h2 => by have := h2.2; simp [oldB] at this, fun G h2 u C hu => ?_⟩
      have hG : G = F := by have := h2.2; simp [oldB] at this; exact this.symm
      subst hG
      exact ((hk.froz a x ha).1 G hx u C hu).mv fun g _ hlt hg => ⟨⟨hlt, fun hs => hg.2 (hS g hs)⟩, rfl⟩
end
end Reck
