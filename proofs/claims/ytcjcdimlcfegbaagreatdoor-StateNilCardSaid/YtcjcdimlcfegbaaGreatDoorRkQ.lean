/- A reckoner of calls: quiet operations on open numbers and arrays are the model's. No condition. -/
import Derived.Test.YtcjcdimlcfegbaaGreatDoorRkGo
set_option linter.unusedVariables false
set_option linter.unusedSimpArgs false
namespace Reck
open Go Ost

/-- The held cells are in the state. -/
def HeldIn (σ : St) (hs : Held) : Prop := ∀ h ∈ hs, match h with
  | .inl (b, i, c) => ∃ x, getBlk σ b = some x ∧ x.cells[i]? = some c
  | .inr (.inl (a, j, k, z)) => ∃ x, getArr σ a = some x ∧ x.k = .n k ∧ x.l[j]? = some z
  | .inr (.inr (a, u, m, f, k, v)) => ∃ x ks L, getArr σ a = some x ∧ x.k = .o (.rows ks L) ∧ ks.length = u ∧ ks[f]? = some k ∧ U.cellAt L m f v
/-- The world has the held cells. -/
def heldS (e : Env) (hs : Held) (w : World) : Prop := ∀ h ∈ hs, match h with
  | .inl (b, i, c) => ∀ q v, e.blk[b]? = some q → cv e c = some v → w.cell? ⟨q.1, q.2 + i, none⟩ = some v
  | .inr (.inl (a, j, k, z)) => ∀ q, e.arr[a]? = some (.inr q) → w.cell? ⟨q.1, q.2 + j, none⟩ = some (.int k z)
  | .inr (.inr (a, u, m, f, k, v)) => ∀ q y, e.arr[a]? = some (.inr q) → cvV k v = some y → w.cell? ⟨q.1, q.2 + (m * u + f), none⟩ = some y

section
variable {P : Program} {w0 w : World} {e : Env} {σ : St} {tm : List AV} {a : Act}

theorem getArr_some {σ : St} {a : Nat} {x : ABlk} (h : getArr σ a = some x) : σ.arrs[a]? = some (some x) := by
  unfold getArr at h
  split at h
  · rename_i y hy; simp at h; rw [hy, h]
  · cases h
theorem Ok.arrAt (h : Ok w0 e σ w) {a : Nat} {x : ABlk} (hb : getArr σ a = some x) : ∃ q, e.arr[a]? = some q ∧ AOk w0 w e x q := by
  have h1 := getArr_some hb
  have hlt : a < e.arr.length := by rw [h.arrs.len]; exact (List.getElem?_eq_some_iff.1 h1).1
  exact ⟨_, List.getElem?_eq_getElem hlt, h.arrs.ok a x _ h1 (List.getElem?_eq_getElem hlt)⟩

theorem heldS_of (hk : Ok w0 e σ w) {hs : Held} (h : HeldIn σ hs) : heldS e hs w := by
  intro p hp
  have hh := h p hp
  rcases p with ⟨b, i, c⟩ | ⟨a, j, k, z⟩ | ⟨a, u, m, f, k, v⟩
  · obtain ⟨x, hx, hc⟩ := hh
    have := heldS0_of hk (hs := [(b, i, c)]) (by intro p hp; simp at hp; subst hp; exact ⟨x, hx, hc⟩)
    exact fun q v hq hv => this (b, i, c) (by simp) q v hq hv
  · obtain ⟨x, hx, hxk, hz⟩ := hh
    intro q hq
    obtain ⟨q', hq', h1⟩ := hk.arrAt hx
    rw [hq] at hq'; simp at hq'; subst hq'
    obtain ⟨cur, el, fz, g1, g2, _⟩ := h1.num hxk
    simp [World.cell?, g1, g2 j z hz]
  · obtain ⟨x, ks, L, hx, hxk, hu, hkf, ⟨row, hr1, hr2⟩⟩ := hh
    intro q y hq hy
    obtain ⟨q', hq', h1⟩ := hk.arrAt hx
    rw [hq] at hq'; simp at hq'; subst hq'
    obtain ⟨⟨ob, g1, g2⟩, g3⟩ := h1
    rw [hxk] at g2
    obtain ⟨_, cur, el, fz, rfl, g4, _⟩ := g2
    obtain ⟨_, g5⟩ := g4 m row hr1
    obtain ⟨y', k1, k2⟩ := g5 f k v hkf hr2
    rw [hy] at k1; simp at k1; subst k1
    rw [hu] at k2
    simp only [World.cell?, g1]
    simpa using k2

theorem heldS_le {e' : Env} (hl : e.le e') {hs : Held} {w : World} (h : heldS e' hs w) : heldS e hs w := by
  intro p hp
  have hh := h p hp
  rcases p with ⟨b, i, c⟩ | ⟨a, j, k, z⟩ | ⟨a, u, m, f, k, v⟩
  · exact fun q v hq hv => hh q v (pre_get hl.blk hq) (cv_mono hl _ _ hv)
  · exact fun q hq => hh q (pre_get hl.arr hq)
  · exact fun q y hq hy => hh q y (pre_get hl.arr hq) hy

/-- What a quiet operation yields. -/
def QOk (P : Program) (e : Env) (σ : St) (s : Sem Value) (K : AV → Held → Prop) : Prop :=
  ∃ v hs, K v hs ∧ HeldIn σ hs ∧ ∃ u, av e v = some u ∧ ∀ w', heldS e hs w' → s.run P w' = .ok u w'
theorem QOk.nil {s : Sem Value} {K : AV → Held → Prop} {v : AV} (hK : K v []) (u : Value) (hu : av e v = some u) (hs : ∀ w', s.run P w' = .ok u w') : QOk P e σ s K :=
  ⟨v, [], hK, by intro p hp; simp at hp, u, hu, fun w' _ => hs w'⟩

theorem intX_ok {x : AV} {k : IntKind} {n : Int} {v : Value} (h : intX x = some (k, n)) (hv : av e x = some v) : v = .int k n := by
  unfold intX at h
  split at h
  · simp at h; obtain ⟨rfl, rfl⟩ := h; exact av_lit hv
  · simp at h; obtain ⟨rfl, rfl⟩ := h; simpa [av, v1, cv] using hv.symm
  · cases h
theorem aslX_ok {x : AV} {s : ASl} {v : Value} (h : aslX x = some s) (hv : av e x = some v) :
    (∃ A, e.arr[s.a]? = some (.inl A) ∧ s.n = 0 ∧ s.c = 0 ∧ v = .slice A 0 0) ∨ ∃ q, e.arr[s.a]? = some (.inr q) ∧ s.n ≤ s.c ∧ v = .slice (some ⟨q.1, q.2 + s.o, none⟩) s.n s.c := by
  unfold aslX at h
  split at h
  · simp at h; subst h
    simp only [av, v1, cv] at hv
    split at hv
    · rename_i hq
      split at hv
      · rename_i hn; simp at hv; exact .inl ⟨_, hq, hn.1, hn.2, hv.symm⟩
      · cases hv
    · rename_i q hq
      split at hv
      · rename_i hn; simp at hv; exact .inr ⟨q, hq, hn, hv.symm⟩
      · cases hv
    · cases hv
  · cases h
theorem aptrX_ok {x : AV} {p : Nat × Nat} {v : Value} (h : aptrX x = some p) (hv : av e x = some v) : ∃ q, e.arr[p.1]? = some (.inr q) ∧ v = .pointer (some ⟨q.1, q.2 + p.2, none⟩) := by
  unfold aptrX at h
  split at h
  · simp at h; subst h
    simp only [av, v1, cv] at hv
    split at hv
    · rename_i q hq; simp at hv; exact ⟨q, hq, hv.symm⟩
    · cases hv
  · cases h
theorem xint_av (e : Env) (k : IntKind) (z : Int) : av e (cell (xintC k z)) = some (.int k z) := rfl
theorem aptr_av {e : Env} {a j : Nat} {q : Nat × Nat} (h : e.arr[a]? = some (.inr q)) : av e (cell (aptrC a j)) = some (.pointer (some ⟨q.1, q.2 + j, none⟩)) := by
  simp only [cell, aptrC, av, v1, cv, h]
theorem asl_av {e : Env} {s : ASl} {q : Nat × Nat} (h : e.arr[s.a]? = some (.inr q)) (hn : s.n ≤ s.c) : av e (cell (aslC s)) = some (.slice (some ⟨q.1, q.2 + s.o, none⟩) s.n s.c) := by
  simp only [cell, aslC, av, v1, cv, h, if_pos hn]
theorem asl_nil {e : Env} {s : ASl} {A : Option Addr} (h : e.arr[s.a]? = some (.inl A)) (hn : s.n = 0) (hc : s.c = 0) : av e (cell (aslC s)) = some (.slice A 0 0) := by
  simp only [cell, aslC, av, v1, cv, h, if_pos (show s.n = 0 ∧ s.c = 0 from ⟨hn, hc⟩)]

theorem newI_ok {k : IntKind} {r : Int} {s : Sem Value} {K : AV → Held → Prop} (h : newI k r K) (hs : ∀ w', s.run P w' = .ok (.int k r) w') : QOk P e σ s K :=
  QOk.nil (h r rfl) _ (xint_av e k r) hs
theorem splitI_ok {c : Prop} {s : Sem Value} {K : AV → Held → Prop} (h : splitI c K) (b : Bool) (hb : b = true ↔ c) (hs : ∀ w', s.run P w' = .ok (.bool b) w') : QOk P e σ s K := by
  cases b with
  | true => exact QOk.nil (h.1 (hb.1 rfl)) _ (lit_av e _) hs
  | false => exact QOk.nil (h.2 (fun hc => by have := hb.2 hc; cases this)) _ (lit_av e _) hs

theorem binX_ok {op : BinOp} {k k' : IntKind} {a b : Int} {T : QT} {K : AV → Held → Prop} (h : binX op k k' a b = some T) (hK : T K) (t : TypeId) : QOk P e σ (binOp op t (.int k a) (.int k' b)) K := by
  unfold binX at h
  split at h
  · rename_i r hr
    simp only [Option.some.injEq] at h; subst h
    obtain ⟨h0, hK⟩ := hK
    have hb : ¬ b < 0 := by omega
    unfold shiftX at hr
    split at hr <;> simp at hr <;> subst hr
    · exact newI_ok hK (fun w' => by simp [binOp, Op.shift, hb, shlI])
    · exact newI_ok hK (fun w' => by simp [binOp, Op.shift, hb, shrI])
  · split at h
    · rename_i hsh hkk
      subst hkk
      split at h
      · rename_i r hr
        simp only [Option.some.injEq] at h; subst h
        unfold numX at hr
        split at hr <;> simp at hr <;> subst hr <;> refine newI_ok hK (fun w' => ?_)
        · simp [binOp, Op.intArith]
        · simp [binOp, Op.intArith]
        · simp [binOp, Op.intArith]
        · simp [binOp, Op.intBits, andI]
        · simp [binOp, Op.intBits, orI]
        · simp [binOp, Op.intBits, xorI]
        · simp [binOp, Op.intBits, andNotI]
      · split at h
        · rename_i r hr
          simp only [Option.some.injEq] at h; subst h
          obtain ⟨h0, hK⟩ := hK
          unfold divX at hr
          split at hr <;> simp at hr <;> subst hr <;> refine newI_ok hK (fun w' => ?_)
          · simp [binOp, Op.intDiv, h0]
          · simp [binOp, Op.intDiv, h0]
        · split at h
          · rename_i c hc
            simp only [Option.some.injEq] at h; subst h
            unfold cmpX at hc
            split at hc <;> simp only [Option.some.injEq, reduceCtorEq] at hc <;> subst hc
            · exact splitI_ok hK (a == b) (by simp) (fun w' => by simp [binOp, Op.intCmp])
            · exact splitI_ok hK (a != b) (by simp) (fun w' => by simp [binOp, Op.intCmp])
            · exact splitI_ok hK (decide (a < b)) (by simp) (fun w' => by simp [binOp, Op.intCmp])
            · exact splitI_ok hK (decide (a ≤ b)) (by simp) (fun w' => by simp [binOp, Op.intCmp])
            · exact splitI_ok hK (decide (a > b)) (by simp) (fun w' => by simp [binOp, Op.intCmp])
            · exact splitI_ok hK (decide (a ≥ b)) (by simp) (fun w' => by simp [binOp, Op.intCmp])
          · cases h
    · cases h

theorem unX_ok {op : UnOp} {k : IntKind} {a : Int} {T : QT} {K : AV → Held → Prop} (h : unX op k a = some T) (hK : T K) : QOk P e σ (Op.unary op (.int k a)) K := by
  unfold unX at h
  split at h
  · simp only [Option.some.injEq] at h; subst h
    exact newI_ok hK (fun w' => by simp [Op.unary, Op.intArith])
  · simp only [Option.some.injEq] at h; subst h
    exact newI_ok hK (fun w' => by simp [Op.unary, Op.intBits, xorI])
  · cases h

theorem loadX_ok (hk : Ok w0 e σ w) {t : TypeId} {p : Nat × Nat} {q : Nat × Nat} {T : QT} {K : AV → Held → Prop} (h : loadX P t p σ = some T) (hK : T K) (hq : e.arr[p.1]? = some (.inr q)) :
    QOk P e σ (Instr.loadAt t (.pointer (some ⟨q.1, q.2 + p.2, none⟩))) K := by
  unfold loadX at h
  split at h
  · rename_i b n hb ha hs
    split at h
    · rename_i k hbk
      simp only [Option.some.injEq] at h; subst h
      obtain ⟨h1, hK⟩ := hK
      have hget : b.l[p.2]? = some (b.l.getD p.2 0) := by rw [List.getD_eq_getElem?_getD, List.getElem?_eq_getElem h1]; rfl
      refine ⟨_, _, hK _ rfl, ?_, _, xint_av e k _, ?_⟩
      · intro x hx
        simp at hx; subst hx
        exact ⟨b, hb, hbk, hget⟩
      · intro w' hS
        have := hS (.inr (.inl (p.1, p.2, k, b.l.getD p.2 0))) (by simp)
        have hc := this q hq
        simp [Instr.loadAt, Instr.sureAddr, loadVar, run_isAggT ha, hc]
    · cases h
  · cases h

theorem indexX_ok {t : TypeId} {s : ASl} {i : Int} {k : IntKind} {v : Value} {T : QT} {K : AV → Held → Prop} (h : indexX P t s i = some T) (hK : T K) (hv : av e (cell (aslC s)) = some v) :
    QOk P e σ (Instr.indexAt t v (.int k i)) K := by
  unfold indexX at h
  split at h
  · rename_i el hu
    split at h
    · rename_i hs
      simp only [Option.some.injEq] at h; subst h
      obtain ⟨⟨h1, h2⟩, hK⟩ := hK
      rcases aslX_ok (x := cell (aslC s)) rfl hv with ⟨A, _, hn, _⟩ | ⟨q, hq, hn, rfl⟩
      · rw [hn] at h2; omega
      · refine QOk.nil (hK (s.o + i.toNat) (by omega)) _ (aptr_av hq) (fun w' => ?_)
        simp [Instr.indexAt, asIntOf, run_underlying hu, h1, h2, run_sizeT hs, Addr.add_lit, Nat.add_assoc]
    · cases h
  · cases h

theorem bndX_ok {x : Option AV} {y : Option Int} {v : Option Value} (h : bndX x = some y) (hx : OptOk e x v) : (y = none ∧ v = none) ∨ ∃ i k, y = some i ∧ v = some (.int k i) := by
  rcases hx with ⟨rfl, rfl⟩ | ⟨u, z, rfl, rfl, hz⟩
  · simp [bndX] at h; exact .inl ⟨h.symm, rfl⟩
  · simp only [bndX] at h
    split at h
    · rename_i k i hi
      simp at h
      exact .inr ⟨i, k, h.symm, by rw [intX_ok hi hz]⟩
    · cases h

theorem none_of {v : Option Value} (h : ((none : Option Int) = none ∧ v = none) ∨ ∃ (i : Int) (k : IntKind), (none : Option Int) = some i ∧ v = some (.int k i)) : v = none := by
  rcases h with ⟨_, h⟩ | ⟨_, _, h, _⟩
  · exact h
  · cases h
theorem some_of {x : Int} {v : Option Value} (h : (some x = none ∧ v = none) ∨ ∃ (i : Int) (k : IntKind), some x = some i ∧ v = some (.int k i)) : ∃ k, v = some (.int k x) := by
  rcases h with ⟨h, _⟩ | ⟨i, k, h, h2⟩
  · cases h
  · simp at h; subst h; exact ⟨k, h2⟩
theorem run_cut {t el : TypeId} (hu : P.underlying t = some (.slice el)) (hs : sizeT P el = some 1) (A : Option Addr) (n c l h : Nat) {vlo vhi : Option Value} (hc : h ≤ c) (hl : l ≤ h) (hn : n ≤ c)
    (hlo : (vlo = none ∧ l = 0) ∨ ∃ k, vlo = some (.int k (l : Int))) (hhi : (vhi = none ∧ h = n) ∨ ∃ k, vhi = some (.int k (h : Int))) (w : World) :
    (Instr.sliceAt t (.slice A n c) vlo vhi none).run P w = .ok (.slice (if c = l then A else A.map (·.add l)) (h - l) (c - l)) w := by
  have sb : ∀ (w : World) (k : IntKind) (i y : Nat) (code : BoundsCode), i ≤ y → (Instr.sliceBound (.int k (i : Int)) y code).run P w = .ok i w := by
    intro w k i y code hi
    have : (i : Int) ≤ (y : Int) := by omega
    simp [Instr.sliceBound, asIntOf, this]
  rcases hhi with ⟨rfl, rfl⟩ | ⟨k, rfl⟩ <;> rcases hlo with ⟨rfl, rfl⟩ | ⟨k', rfl⟩
  · simp [Instr.sliceAt, run_underlying hu, Instr.slice, Instr.sliceBounds, run_sizeT hs]
  · simp [Instr.sliceAt, run_underlying hu, Instr.slice, Instr.sliceBounds, run_sizeT hs, sb w k' l _ _ hl]
  · simp [Instr.sliceAt, run_underlying hu, Instr.slice, Instr.sliceBounds, run_sizeT hs, sb w k h _ _ hc]
  · simp [Instr.sliceAt, run_underlying hu, Instr.slice, Instr.sliceBounds, run_sizeT hs, sb w k h _ _ hc, sb w k' l _ _ hl]

theorem cutX_ok {t : TypeId} {s : ASl} {lo hi : Option Int} {vlo vhi : Option Value} {v : Value} {T : QT} {K : AV → Held → Prop} (h : cutX P t s lo hi = some T) (hK : T K) (hv : av e (cell (aslC s)) = some v)
    (hlo : (lo = none ∧ vlo = none) ∨ ∃ i k, lo = some i ∧ vlo = some (.int k i)) (hhi : (hi = none ∧ vhi = none) ∨ ∃ i k, hi = some i ∧ vhi = some (.int k i)) :
    QOk P e σ (Instr.sliceAt t v vlo vhi none) K := by
  unfold cutX at h
  split at h
  · rename_i el hu
    split at h
    · rename_i hs
      have fin : ∀ (l hh o n c : Nat), hh ≤ s.c → l ≤ hh → ((vlo = none ∧ l = 0) ∨ ∃ k, vlo = some (.int k (l : Int))) → ((vhi = none ∧ hh = s.n) ∨ ∃ k, vhi = some (.int k (hh : Int))) →
          o = (if s.c = l then s.o else s.o + l) → n = hh - l → c = s.c - l → K (cell (aslC ⟨s.a, o, n, c⟩)) [] → QOk P e σ (Instr.sliceAt t v vlo vhi none) K := by
        intro l hh o n c h1 h2 h3 h4 ho hn hc hK
        rcases aslX_ok (x := cell (aslC s)) rfl hv with ⟨A, hq, g1, g2, rfl⟩ | ⟨q, hq, g1, rfl⟩
        · have e1 : hh = 0 := by omega
          have e2 : l = 0 := by omega
          subst e1; subst e2
          refine QOk.nil hK (.slice A 0 0) (asl_nil hq (by simpa using hn) (by simp [hc, g2])) (fun w' => ?_)
          have := run_cut (P := P) hu hs A 0 0 0 0 (by omega) (by omega) (by omega) h3 (by rw [g1] at h4; exact h4) w'
          simpa using this
        · refine QOk.nil hK _ (asl_av hq (by dsimp only; omega)) (fun w' => ?_)
          have := run_cut (P := P) hu hs (some ⟨q.1, q.2 + s.o, none⟩) s.n s.c l hh h1 h2 g1 h3 h4 w'
          rw [this]
          dsimp only
          subst ho; subst hn; subst hc
          congr 2
          by_cases hcl : s.c = l <;> simp [hcl, Addr.add_lit, Nat.add_assoc]
      split at h <;> (simp only [Option.some.injEq] at h; subst h)
      · have hn : s.n ≤ s.c := by rcases aslX_ok (x := cell (aslC s)) rfl hv with ⟨A, _, g1, g2, _⟩ | ⟨_, _, g, _⟩ <;> omega
        obtain rfl := none_of hlo
        obtain rfl := none_of hhi
        exact fin 0 s.n s.o s.n s.c hn (Nat.zero_le _) (.inl ⟨rfl, rfl⟩) (.inl ⟨rfl, rfl⟩) (by split <;> omega) (by omega) (by omega) hK
      · rename_i hh
        obtain ⟨⟨h1, h2⟩, hK⟩ := hK
        obtain rfl := none_of hlo
        obtain ⟨k', rfl⟩ := some_of hhi
        obtain ⟨m, rfl⟩ : ∃ m : Nat, hh = m := ⟨hh.toNat, by omega⟩
        exact fin 0 m s.o m s.c (by omega) (Nat.zero_le _) (.inl ⟨rfl, rfl⟩) (.inr ⟨k', rfl⟩) (by split <;> omega) (by omega) (by omega) (hK m rfl)
      · rename_i ll
        obtain ⟨⟨h1, h2⟩, hK⟩ := hK
        obtain ⟨k, rfl⟩ := some_of hlo
        obtain rfl := none_of hhi
        have hn : s.n ≤ s.c := by rcases aslX_ok (x := cell (aslC s)) rfl hv with ⟨A, _, g1, g2, _⟩ | ⟨_, _, g, _⟩ <;> omega
        obtain ⟨m, rfl⟩ : ∃ m : Nat, ll = m := ⟨ll.toNat, by omega⟩
        exact fin m s.n (if s.c = m then s.o else s.o + m) (s.n - m) (s.c - m) hn (by omega) (.inr ⟨k, rfl⟩) (.inl ⟨rfl, rfl⟩) rfl rfl rfl
          (hK _ _ _ (by split <;> split <;> omega) (by omega) (by omega))
      · rename_i ll hh
        obtain ⟨⟨h1, h2, h3⟩, hK⟩ := hK
        obtain ⟨k, rfl⟩ := some_of hlo
        obtain ⟨k', rfl⟩ := some_of hhi
        obtain ⟨m, rfl⟩ : ∃ m : Nat, ll = m := ⟨ll.toNat, by omega⟩
        obtain ⟨m', rfl⟩ : ∃ m : Nat, hh = m := ⟨hh.toNat, by omega⟩
        exact fin m m' (if s.c = m then s.o else s.o + m) (m' - m) (s.c - m) (by omega) (by omega) (.inr ⟨k, rfl⟩) (.inr ⟨k', rfl⟩) rfl rfl rfl
          (hK _ _ _ (by split <;> split <;> omega) (by omega) (by omega))
    · cases h
  · cases h
end
end Reck
