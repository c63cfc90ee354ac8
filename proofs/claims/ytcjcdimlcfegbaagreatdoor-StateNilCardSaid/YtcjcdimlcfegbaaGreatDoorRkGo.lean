/- A reckoner of calls: whatever it answers, the model's run does. No condition. -/
import Derived.Test.YtcjcdimlcfegbaaGreatDoorRkRunOk
import Derived.Test.YtcjcdimlcfegbaaGreatDoorRkX
set_option linter.unusedVariables false
set_option linter.unusedSimpArgs false
namespace Reck
open Go Ost

abbrev Held0 := List (Nat × Nat × Cell)
def sameV : Value → Value → Bool
  | .bool a, .bool b => a == b
  | .int k a, .int l b => decide (k = l) && decide (a = b)
  | .string a, .string b => decide (a.data.toList = b.data.toList)
  | .pointer none, .pointer none => true
  | .slice none n c, .slice none m d => n == m && c == d
  | .nilFunc, .nilFunc => true
  | .nilIface, .nilIface => true
  | _, _ => false
def sameC : Cell → Cell → Bool
  | .inl v, .inl u => sameV v u
  | .inr (.inl p), .inr (.inl q) => p.1 == q.1 && p.2 == q.2
  | .inr (.inr (.inl s)), .inr (.inr (.inl t)) => s.b == t.b && s.o == t.o && s.n == t.n && decide (s.j = t.j) && s.c == t.c
  | .inr (.inr (.inr (.inl p))), .inr (.inr (.inr (.inl q))) => decide (p.1 = q.1) && p.2 == q.2
  | .inr (.inr (.inr (.inr (.inr (.inl i))))), .inr (.inr (.inr (.inr (.inr (.inl j))))) => i == j
  | _, _ => false

theorem sameV_eq {x y : Value} (h : sameV x y = true) : x = y := by
  unfold sameV at h
  split at h
  · simp at h; rw [h]
  · simp at h; rw [h.1, h.2]
  · rename_i a b
    simp at h
    obtain ⟨⟨a⟩⟩ := a
    obtain ⟨⟨b⟩⟩ := b
    simp at h; subst h; rfl
  · rfl
  · simp at h; rw [h.1, h.2]
  · rfl
  · rfl
  · cases h
theorem sameC_eq {x y : Cell} (h : sameC x y = true) : x = y := by
  unfold sameC at h
  split at h
  · rw [sameV_eq h]
  · rename_i p q; obtain ⟨a, b⟩ := p; obtain ⟨c, d⟩ := q; simp at h; rw [h.1, h.2]
  · rename_i s t; obtain ⟨a, b, c, d, e⟩ := s; obtain ⟨a', b', c', d', e'⟩ := t; simp at h; obtain ⟨⟨⟨⟨rfl, rfl⟩, rfl⟩, rfl⟩, rfl⟩ := h; rfl
  · rename_i p q; obtain ⟨a, b⟩ := p; obtain ⟨c, d⟩ := q; simp at h; rw [h.1, h.2]
  · simp at h; rw [h]
  · cases h

/-- The held cells are in the state. -/
def HeldIn0 (σ : St) (hs : Held0) : Prop := ∀ h ∈ hs, ∃ x, getBlk σ h.1 = some x ∧ x.cells[h.2.1]? = some h.2.2
/-- The world has the held cells. -/
def heldS0 (e : Env) (hs : Held0) (w : World) : Prop := ∀ h ∈ hs, ∀ q v, e.blk[h.1]? = some q → cv e h.2.2 = some v → w.cell? ⟨q.1, q.2 + h.2.1, none⟩ = some v

section
variable {P : Program} {w0 w : World} {e : Env} {σ : St} {tm : List AV} {a : Act}

theorem heldS0_of (hk : Ok w0 e σ w) {hs : Held0} (h : HeldIn0 σ hs) : heldS0 e hs w := by
  intro p hp q v hq hv
  obtain ⟨x, hx, hc⟩ := h p hp
  obtain ⟨_, cur, fz, g2, g3, _, _⟩ := hk.blk _ _ _ (getBlk_some hx) hq
  obtain ⟨u, h1, h2⟩ := g3 _ _ hc
  rw [hv] at h1; simp at h1; subst h1
  simp [World.cell?, g2, h2]

theorem heldS0_le {e' : Env} (hl : e.le e') {hs : Held0} {w : World} (h : heldS0 e' hs w) : heldS0 e hs w :=
  fun p hp q v hq hv => h p hp q v (pre_get hl.blk hq) (cv_mono hl _ _ hv)

theorem Tm.args {vs : List Value} {tm : List AV} (h : tm.map (av e) = vs.map some) (k : Nat) : Tm e (tm ++ List.replicate k (lit undef)) { tmps := vs.toArray ++ Array.replicate k undef, defers := [] } := by
  refine ⟨?_, rfl⟩
  simp only [List.map_append, h, List.map_replicate, lit_av, Array.toList_append, Array.toList_replicate]

theorem goA_ok {g : FuncId} {args r : List AV} {f : FuncId} (h : goA P g args = some (f, r)) : f = g ∧ r = args ∧ ∃ fn c, P.funcs[g]? = some fn ∧ fn.body = some c := by
  unfold goA at h
  split at h
  · rename_i fn hfn
    split at h
    · rename_i hb
      obtain ⟨c, hc⟩ := Option.isSome_iff_exists.1 hb
      simp at h; exact ⟨h.1.symm, h.2.symm, fn, c, hfn, hc⟩
    · cases h
  · cases h

theorem callA_ok (ht : Tm e tm a) (hN : ∀ (f : FuncId) fn, P.funcs[f]? = some fn → (fn.name == "runtime.NumGoroutine") = false) {o : Oper} {f : FuncId} {args : List AV} (h : callA P tm o = some (f, args)) (w : World) :
    ∃ vs : List Value, args.map (av e) = vs.map some ∧ (execOp a.eval o).run P w = .ok (.enter f vs.toArray) w := by
  have call : ∀ (g : FuncId) (vs : Array Value), (∃ fn c, P.funcs[g]? = some fn ∧ fn.body = some c) → (callFunc g vs).run P w = .ok (.enter g vs) w := by
    rintro g vs ⟨fn, c, h1, h2⟩
    have h3 : ¬ (fn.name = "runtime.NumGoroutine") := by simpa using hN g fn h1
    simp [callFunc, h1, h2, h3]
  unfold callA at h
  split at h
  · rename_i c ho
    obtain ⟨callee, as, ts⟩ := c
    dsimp only at h
    split at h
    · rename_i f'
      have hf := evalA_ok ht f'
      split at h
      · rename_i g fi ca heq
        split at h
        · rename_i hz
          obtain ⟨rfl, rfl, hfn⟩ := goA_ok h
          rw [heq] at hf
          have hv := av_lit hf
          obtain rfl : fi = #[] := by simpa using hz.1
          obtain rfl : ca = #[] := by simpa using hz.2
          refine ⟨as.toList.map a.eval, evs_ok ht _, ?_⟩
          simp only [execOp, ho, resolve, Sem.run_bind, Sem.run_pure, Result.andThen_ok, hv, Deferred.ofValue, invoke]
          rw [call _ _ hfn, arr_map]
          simp
        · cases h
      · rename_i g l heq
        rw [heq] at hf
        obtain ⟨vs, h1, h2⟩ := av_func hf
        have hpp : (l.map fun p => ptr p.1 p.2).map (av e) = l.map (ptrV e) := by rw [List.map_map]; rfl
        split at h
        · rename_i hg
          obtain ⟨rfl, rfl, hfn⟩ := goA_ok h
          rw [funcV, if_pos hg] at h2
          refine ⟨as.toList.map a.eval ++ vs, ?_, ?_⟩
          · rw [List.map_append, List.map_append, evs_ok ht, ← h1, hpp]
          · simp only [execOp, ho, resolve, Sem.run_bind, Sem.run_pure, Result.andThen_ok, h2, Deferred.ofValue, invoke]
            rw [call _ _ hfn]
            congr 2
            apply Array.ext'
            simp
        · rename_i hg
          rw [funcV, if_neg hg] at h2
          generalize g - 1048576 = g' at h h2
          obtain ⟨rfl, rfl, hfn⟩ := goA_ok h
          refine ⟨vs ++ as.toList.map a.eval, ?_, ?_⟩
          · rw [List.map_append, List.map_append, evs_ok ht, ← h1, hpp]
          · simp only [execOp, ho, resolve, Sem.run_bind, Sem.run_pure, Result.andThen_ok, h2, Deferred.ofValue, invoke]
            rw [call _ _ hfn]
            congr 2
            apply Array.ext'
            simp
      · rename_i p heq
        rw [heq] at hf
        obtain ⟨vs, h1, h2⟩ := av_bf hf
        obtain ⟨rfl, rfl, hfn⟩ := goA_ok h
        have hb : v1 e (.inr (p.l.map bvC)) = some (.agg vs.toArray) := by
          simp only [v1]
          rw [seqO_some.2 (show (p.l.map bvC).map (cv e) = vs.map some by rw [List.map_map, ← h1]; exact List.map_congr_left fun b _ => bvC_cv e b)]
        refine ⟨.agg vs.toArray :: as.toList.map a.eval, ?_, ?_⟩
        · rw [List.map_cons, List.map_cons, evs_ok ht]
          exact congrArg (· :: _) hb
        · simp only [execOp, ho, resolve, Sem.run_bind, Sem.run_pure, Result.andThen_ok, h2, Deferred.ofValue, invoke]
          rw [call _ _ hfn]
          congr 2
          apply Array.ext'
          simp
      · cases h
    · cases h
  · cases h

theorem yieldedA_ok (ht : Tm e tm a) {ops : Array Oper} {j : Nat} {y : Option Bool} (h : yieldedA ops tm j = some y) : yielded ops a.tmps j = y := by
  unfold yieldedA at h
  unfold yielded
  cases hd : (ops[j]?).bind (·.dst) with
  | none => rw [hd] at h; simp at h; subst h; rfl
  | some t =>
    rw [hd] at h
    dsimp only at h
    have h1 : (tm.map (av e))[t]? = (a.tmps.toList.map some)[t]? := by rw [ht.1]
    rw [List.getElem?_map, List.getElem?_map, Array.getElem?_toList (xs := a.tmps)] at h1
    simp only [Option.bind_some]
    split at h
    · rename_i b hb
      rw [hb] at h1
      simp [av, v1, cv] at h1
      simp at h; subst h
      cases ha : a.tmps[t]? with
      | none => rw [ha] at h1; simp at h1
      | some v => rw [ha] at h1; simp at h1; subst h1; rfl
    · rename_i v hne hb
      rw [hb] at h1
      simp [av, v1, cv] at h1
      simp at h; subst h
      cases ha : a.tmps[t]? with
      | none => rfl
      | some u =>
        rw [ha] at h1; simp at h1; subst h1
        cases v <;> first | rfl | exact (hne _ rfl).elim
    · rename_i l hb
      rw [hb] at h1
      simp at h; subst h
      cases ha : a.tmps[t]? with
      | none => rfl
      | some u =>
        rw [ha] at h1
        simp at h1
        obtain ⟨vs, _, rfl⟩ := av_tup h1
        rfl
    · rename_i l hb
      rw [hb] at h1
      simp at h; subst h
      cases ha : a.tmps[t]? with
      | none => rfl
      | some u =>
        rw [ha] at h1
        simp at h1
        obtain ⟨vs, _, rfl⟩ := av_agg h1
        rfl
    · cases h
    · rename_i hb
      rw [hb] at h1
      simp at h; subst h
      cases ha : a.tmps[t]? with
      | none => rfl
      | some u => rw [ha] at h1; simp at h1

theorem wantedA_ok (ht : Tm e tm a) {ops : Array Oper} {o : Oper} {b : Bool} (h : wantedA ops tm o = some b) : Region.wanted o (yielded ops a.tmps) = b := by
  unfold wantedA at h
  unfold Region.wanted
  split at h
  · rename_i hg; simp at h; rw [hg, h]
  · rename_i j want hg
    split at h
    · rename_i y hy
      simp at h
      rw [hg]
      dsimp only
      rw [yieldedA_ok ht hy, ← h]
    · cases h

theorem still_take {o : Oper} {s : Sem Value} {res : List (AV × St)} {v : AV} {σ' : St} (h : Still P e σ res s) (hr : res = [(v, σ')]) (hs : ∀ w u w', s.run P w = .ok u w' → (execOp a.eval o).run P w = .ok (.value u) w') :
    ∃ u, av e v = some u ∧ ∀ w, (execOp a.eval o).run P w = .ok (.value u) w := by
  obtain ⟨y, u, rfl, h1, h2⟩ := h
  simp at hr
  obtain ⟨rfl, rfl⟩ := hr
  exact ⟨u, h1, fun w => hs _ _ _ (h2 w)⟩

theorem takeA_ok (hk : Ok w0 e σ w) (ht : Tm e tm a) {o : Oper} {v : AV} {hs : Held0} (h : takeA P tm o σ = some (v, hs)) :
    HeldIn0 σ hs ∧ ∃ u, av e v = some u ∧ ∀ w', heldS0 e hs w' → (execOp a.eval o).run P w' = .ok (.value u) w' := by
  have nil : ∀ {Q : Prop}, hs = [] → (∃ u, av e v = some u ∧ ∀ w', (execOp a.eval o).run P w' = .ok (.value u) w') → HeldIn0 σ hs ∧ ∃ u, av e v = some u ∧ ∀ w', heldS0 e hs w' → (execOp a.eval o).run P w' = .ok (.value u) w' := by
    rintro Q rfl ⟨u, h1, h2⟩
    exact ⟨by intro p hp; simp at hp, u, h1, fun w' _ => h2 w'⟩
  unfold takeA at h
  split at h
  · rename_i u hp
    simp at h; obtain ⟨rfl, rfl⟩ := h
    exact nil (Q := True) rfl ⟨u, lit_av e u, fun w' => pureOp_ok ht hp w'⟩
  · split at h
    · rename_i x ho
      simp at h; obtain ⟨rfl, rfl⟩ := h
      exact nil (Q := True) rfl ⟨_, evalA_ok ht x, fun w' => by simp [execOp, ho]⟩
    · rename_i x ho
      simp at h; obtain ⟨rfl, rfl⟩ := h
      exact nil (Q := True) rfl ⟨_, evalA_ok ht x, fun w' => by simp [execOp, ho]⟩
    · rename_i t x ho
      split at h
      · rename_i b o' n hp ha hz
        obtain ⟨hx, hpv⟩ := ptrOf_ok hp (evalA_ok ht x)
        simp only [ptrV] at hpv
        split at hpv
        · rename_i q hq
          simp at hpv
          split at h
          · rename_i cs hl
            simp at h; obtain ⟨rfl, rfl⟩ := h
            obtain ⟨vs, h1, h2, h3, h4⟩ := hk.load hl hq
            refine ⟨?_, _, av_agg_mk h1, ?_⟩
            · intro p hp
              obtain ⟨⟨c, j⟩, hj, rfl⟩ := List.mem_map.1 hp
              rw [List.mem_zipIdx_iff_getElem?] at hj
              dsimp only at hj ⊢
              unfold loadA at hl
              split at hl
              · rename_i bk hbk
                split at hl
                · simp at hl; subst hl
                  refine ⟨bk, hbk, ?_⟩
                  rw [List.getElem?_take] at hj
                  split at hj
                  · rw [List.getElem?_drop] at hj; exact hj
                  · cases hj
                · cases hl
              · cases hl
            · intro w' hS
              have hc : ∀ (j : Nat) u, vs[j]? = some u → w'.cell? ⟨q.1, q.2 + o' + j, none⟩ = some u := by
                intro j u hj
                have hjl : j < cs.length := by rw [map_len h1]; exact (List.getElem?_eq_some_iff.1 hj).1
                obtain ⟨u', g1, g2⟩ := map_get h1 (List.getElem?_eq_getElem hjl)
                rw [hj] at g1; simp at g1; subst g1
                have := hS (b, o' + j, cs[j]) (List.mem_map.2 ⟨(cs[j], j), by rw [List.mem_zipIdx_iff_getElem?]; exact List.getElem?_eq_getElem hjl, rfl⟩) q u hq g2
                rw [show q.2 + o' + j = q.2 + (o' + j) by omega]; exact this
              have hrun := run_loadCells_list (P := P) w' ⟨q.1, q.2 + o', none⟩ vs (fun j u hj => by rw [Addr.add_lit]; exact hc j u hj)
              rw [h2] at hrun
              simp [execOp, ho, ← hpv, Instr.loadAt, Instr.sureAddr, loadVar, run_isAggT ha, run_sizeT hz, hrun]
          · cases h
        · cases hpv
      · rename_i b o' n hp ha hz
        obtain ⟨hx, hpv⟩ := ptrOf_ok hp (evalA_ok ht x)
        simp only [ptrV] at hpv
        split at hpv
        · rename_i q hq
          simp at hpv
          split at h
          · rename_i c hl
            simp at h; obtain ⟨rfl, rfl⟩ := h
            obtain ⟨vs, h1, h2, h3, h4⟩ := hk.load hl hq
            obtain ⟨u, rfl⟩ : ∃ u, vs = [u] := by
              match vs, h2 with
              | [u], _ => exact ⟨u, rfl⟩
            simp at h1
            refine ⟨?_, u, by simpa [av, v1, cell] using h1, ?_⟩
            · intro p hp
              simp at hp; subst hp
              unfold loadA at hl
              split at hl
              · rename_i bk hbk
                split at hl
                · rename_i hle
                  simp at hl
                  refine ⟨bk, hbk, ?_⟩
                  have : ((bk.cells.drop o').take 1)[0]? = some c := by rw [hl]; rfl
                  rw [List.getElem?_take, if_pos (by omega), List.getElem?_drop] at this
                  simpa using this
                · cases hl
              · cases hl
            · intro w' hS
              have := hS (b, o', c) (by simp) q u hq h1
              simp at this
              simp [execOp, ho, ← hpv, Instr.loadAt, Instr.sureAddr, loadVar, run_isAggT ha, this]
          · cases h
        · cases hpv
      · cases h
    · rename_i x ho
      split at h
      · rename_i p hp
        obtain ⟨h1, h2⟩ := ptrOf_ok hp (evalA_ok ht x)
        have h3 := h2
        simp only [ptrV] at h3
        split at h3
        · rename_i q hq
          simp at h3
          simp at h; obtain ⟨rfl, rfl⟩ := h
          exact nil (Q := True) rfl ⟨_, evalA_ok ht x, fun w' => by simp [execOp, ho, ← h3]⟩
        · cases h3
      · cases h
    · rename_i t x f ho
      split at h
      · rename_i v' σ' hr
        simp at h; obtain ⟨rfl, rfl⟩ := h
        exact nil (Q := True) rfl (still_take (opFieldAddr_ok hr (evalA_ok ht x)) rfl (fun w u w' hr => by simp [execOp, ho, hr]))
      · cases h
    · rename_i t x f ho
      split at h
      · rename_i v' σ' hr
        simp at h; obtain ⟨rfl, rfl⟩ := h
        exact nil (Q := True) rfl (still_take (opField_ok hr (evalA_ok ht x)) rfl (fun w u w' hr => by simp [execOp, ho, hr]))
      · cases h
    · rename_i t x i ho
      split at h
      · rename_i v' σ' hr
        simp at h; obtain ⟨rfl, rfl⟩ := h
        exact nil (Q := True) rfl (still_take (opIndexAddr_ok hr (evalA_ok ht x) (evalA_ok ht i)) rfl (fun w u w' hr => by simp [execOp, ho, hr]))
      · cases h
    · rename_i x i ho
      split at h
      · rename_i v' σ' hr
        simp at h; obtain ⟨rfl, rfl⟩ := h
        exact nil (Q := True) rfl (still_take (opExtract_ok hr (evalA_ok ht x)) rfl (fun w u w' hr => by simp [execOp, ho, hr]))
      · cases h
    · rename_i t x lo hi mx ho
      split at h
      · rename_i v' b n hr
        obtain ⟨u, h1, h2⟩ := sliceV_ok hk hr (evalA_ok ht x) (opt_ok ht lo) (opt_ok ht hi) (opt_ok ht mx)
        split at h
        · split at h
          · simp at h; obtain ⟨rfl, rfl⟩ := h
            exact nil (Q := True) rfl ⟨u, h1, fun w' => by simp [execOp, ho, h2 w']⟩
          · cases h
        · cases h
      · cases h
    · rename_i t ps ho
      split at h
      · rename_i v' σ' hr
        simp at h; obtain ⟨rfl, rfl⟩ := h
        exact nil (Q := True) rfl (still_take (opBuild_ok hk hr (evp_ok ht ps)) rfl (fun w u w' hr => by simp [execOp, ho, hr]))
      · cases h
    · rename_i c ho
      obtain ⟨callee, args, ts⟩ := c
      dsimp only at h
      split at h
      · split at h
        · rename_i v' σ' hr
          simp at h; obtain ⟨rfl, rfl⟩ := h
          unfold opBuiltin at hr
          split at hr
          all_goals (try (cases hr; done))
          all_goals (rename_i hb hts hxs)
          all_goals (try (cases hb; done))
          rename_i t l x
          split at hr
          · rename_i el s hu
            simp only [one, Except.ok.injEq, List.cons.injEq, Prod.mk.injEq, and_true] at hr
            obtain ⟨rfl, rfl⟩ := hr
            obtain ⟨vs, hvs⟩ : ∃ vs : List Value, args.toList.map a.eval = vs := ⟨_, rfl⟩
            have hev := evs_ok ht args.toList
            rw [hxs, hvs] at hev
            obtain ⟨z, rfl⟩ : ∃ z, vs = [z] := by
              match vs, map_len hev with
              | [z], _ => exact ⟨z, rfl⟩
            simp at hev
            obtain ⟨q, c, hq, hc, hn, rfl⟩ := av_sl hev
            refine nil (Q := True) rfl ⟨goInt s.n, lit_av e _, fun w' => ?_⟩
            have hts0 : ts[0]? = some t := by rw [← Array.getElem?_toList, hts]; rfl
            have harr : args.map a.eval = #[.slice (some ⟨q.1, q.2 + s.o, none⟩) s.n c] := by rw [← arr_map, hvs]
            simp only [execOp, ho, resolve, Sem.run_bind, Sem.run_pure, Result.andThen_ok, invoke, harr]
            simp [builtin, Builtin.len_, hts0, run_underlying hu]
          · cases hr
        · cases h
      · cases h
    · cases h
end
end Reck
