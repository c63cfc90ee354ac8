/- A reckoner of calls: operations, and those that may be taken first. No condition. -/
import Derived.Test.YtcjcdimlcfegbaaGreatDoorRkOps7
import Derived.Deep.RegionHeld3
set_option linter.unusedVariables false
set_option linter.unusedSimpArgs false
namespace Reck
open Go Ost

section
variable {P : Program} {w0 w : World} {e : Env} {σ : St} {tm : List AV} {a : Act}

theorem arr_map (f : Operand → Value) (A : Array Operand) : (A.toList.map f).toArray = A.map f := by apply Array.ext'; simp

theorem sem_of {o : Oper} {res : List (AV × St)} {s : Sem Value} (h : SemOk P w0 e w res s) (hs : ∀ w v w', s.run P w = .ok v w' → (execOp a.eval o).run P w = .ok (.value v) w') :
    ∃ r ∈ res, ∃ e' v w', e.le e' ∧ av e' r.1 = some v ∧ Ok w0 e' r.2 w' ∧ ((execOp a.eval o).run P w = .ok (.value v) w' ∨ ((execOp a.eval o).run P w = .ok .skip w' ∧ v = undef)) := by
  obtain ⟨r, hr, e', v, w', h1, h2, h3, h4⟩ := h
  exact ⟨r, hr, e', v, w', h1, h2, h3, .inl (hs _ _ _ h4)⟩

theorem evp_ok (ht : Tm e tm a) (ps : Array (Nat × Operand)) : Parts e (evp tm ps.toList) (ps.map fun (i, x) => (i, a.eval x)).toList := by
  simp [Parts, evp, Function.comp_def, evalA_ok ht]
theorem opt_ok (ht : Tm e tm a) (x : Option Operand) : OptOk e (x.map (evalA tm)) (x.map a.eval) := by
  cases x with
  | none => exact .inl ⟨rfl, rfl⟩
  | some x => exact .inr ⟨_, _, rfl, rfl, evalA_ok ht x⟩
theorem ptrOf_ok {x : AV} {p : Nat × Nat} {v : Value} (h : ptrOf x = some p) (hv : av e x = some v) : x = ptr p.1 p.2 ∧ ptrV e p = some v := by
  unfold ptrOf at h
  split at h
  · rename_i q
    simp at h; subst h
    exact ⟨rfl, hv⟩
  · cases h

/-- slices.overlaps, its rows in the model's table. -/
theorem ov_lookup : Extern.allTypedRows.lookup "slices.overlaps" = some Extern.SlicesOverlaps.overlaps := by kernel_rfl
theorem ov_generic : (Extern.allGenericRows.lookup "slices.overlaps").isNone = true := by kernel_rfl

theorem run_overlapsT (ps rs : Array TypeId) {tS el : TypeId} {i : TypeInfo} (hp : ps[0]? = some tS) (ht : P.underlying tS = some (.slice el)) (hi : P.info? el = some i) (a b : Addr) (la ca lb cb : Nat) (hne : a.block ≠ b.block)
    {tA tB : TypeId} {cA cB : Array Value} (ha : w.heap[a.block]? = some (.cells cA tA (0, 0))) (hb : w.heap[b.block]? = some (.cells cB tB (0, 0))) :
    (Extern.SlicesOverlaps.overlaps ps rs #[.slice (some a) la ca, .slice (some b) lb cb]).run P w = .ok (.bool false) w := by
  have hnb : (a.block != b.block) = true := by simpa using hne
  have hnb' : (a.block == b.block) = false := by simpa using hne
  have hsa : w.shape? a.block = some (tA, cA.size) := by simp [World.shape?, ha]
  have hsb : w.shape? b.block = some (tB, cB.size) := by simp [World.shape?, hb]
  have hfa : ∀ o s, w.frozen? ⟨a.block, o, s⟩ = false := by intro o s; simp [World.frozen?, ha]
  have hfb : ∀ o s, w.frozen? ⟨b.block, o, s⟩ = false := by intro o s; simp [World.frozen?, hb]
  change Sem.run P (α := Value) (do
    let some t := ps[0]? | stuck "slices.overlaps: no parameter types"
    let .slice elem ← underlying t | stuck "slices.overlaps: slice type expected"
    let size ← sizeOf elem
    match (some a : Option Addr), (some b : Option Addr) with
    | some a, some b =>
      if la = 0 ∨ lb = 0 ∨ size = 0 then pure (Value.bool false)
      else if a.block != b.block && (← frozen a) && (← frozen b) then unsupported .addressObserved
      else do
        if a.block != b.block then do
          noView a; noView b
          if ← mayBeOne a b then return Value.bool ((← choose (.extern "sameAddr.stringBytes" 2)) == 1)
        pure (Value.bool (a.block == b.block && a.off < b.off + lb * size && b.off < a.off + la * size))
    | _, _ => pure (Value.bool false)) w = _
  obtain ⟨ab, ao, as⟩ := a
  obtain ⟨bb, bo, bs⟩ := b
  dsimp only at *
  have hz : (Go.sizeOf el).run P w = .ok i.size w := run_sizeT (by simp [sizeT, hi]) w
  by_cases h0 : la = 0 ∨ lb = 0 ∨ i.size = 0
  · simp [hp, run_underlying ht, hz, h0]
  · simp [hp, run_underlying ht, hz, h0, hnb, hnb', frozen, noView, viewAt, mayBeOne, stringish, shape, Sem.run, hsa, hsb, hfa, hfb]

theorem overlaps_call {g : FuncId} (hov : isOverlaps P g = true) : ∃ (ps rs : Array TypeId) (tS el : TypeId) (i : TypeInfo), ps[0]? = some tS ∧ P.underlying tS = some (.slice el) ∧ P.info? el = some i ∧
    ∀ (w w' : World) (args : Array Value) (v : Value), (Extern.SlicesOverlaps.overlaps ps rs args).run P w = .ok v w' → (callFunc g args).run P w = .ok (.value v) w' := by
  unfold isOverlaps at hov
  split at hov
  · rename_i fn hfn
    simp only [Bool.and_eq_true] at hov
    obtain ⟨⟨⟨⟨⟨⟨⟨h1, h2⟩, h3⟩, h4⟩, h5⟩, h6⟩, h7⟩, h8⟩ := hov
    split at h8
    · rename_i el hel
      obtain ⟨i, hi⟩ := Option.isSome_iff_exists.1 h8
      cases hp : fn.params[0]? with
      | none => simp [hp] at hel
      | some tS =>
        simp [hp] at hel
        refine ⟨fn.params, fn.resultTypes, tS, el, i, hp, hel, hi, fun w w' args v hr => ?_⟩
        have ho : fn.origin = "slices.overlaps" := eq_of_beq h2
        have hn : (fn.name == "runtime.NumGoroutine") = false := by simpa using h4
        have hfind : Extern.find fn = some (Extern.SlicesOverlaps.overlaps fn.params fn.resultTypes) := by
          have g1 : Extern.allGenericRows.lookup fn.name = none := by simpa using h5
          have g2 : Extern.allTypedRows.lookup fn.name = none := by simpa using h6
          have g3 : Extern.allRows.lookup fn.name = none := by simpa using h7
          have g4 : Extern.allGenericRows.lookup "slices.overlaps" = none := by simpa using ov_generic
          simp only [Extern.find, g1, g2, g3, ho, g4, ov_lookup]
          rfl
        have hfn2 : Extern.findNext fn = none := by simpa using h3
        have hn2 : ¬ (fn.name = "runtime.NumGoroutine") := by simpa using hn
        have hb : fn.body = none := by simpa using h1
        simp [callFunc, hfn, hn2, hb, hfn2, hfind, hr]
    · cases h8
  · cases hov

theorem opOverlaps_ok (hk : Ok w0 e σ w) {ov : List FuncId} {g : FuncId} {x y : AV} {vx vy : Value} {res : List (AV × St)} (hov : ∀ g ∈ ov, isOverlaps P g = true) (h : opOverlaps ov g x y σ = .ok res) (hx : av e x = some vx) (hy : av e y = some vy) :
    ∃ r ∈ res, ∃ v, av e r.1 = some v ∧ Ok w0 e r.2 w ∧ (callFunc g #[vx, vy]).run P w = .ok (.value v) w := by
  unfold opOverlaps at h
  split at h
  · rename_i hg
    obtain ⟨ps, rs, tS, el, i, hp, ht, hi, hr⟩ := overlaps_call (hov g (by simpa using hg))
    split at h
    · rename_i s r
      obtain ⟨q1, c1, hq1, hc1, hn1, rfl⟩ := av_sl hx
      obtain ⟨q2, c2, hq2, hc2, hn2, rfl⟩ := av_sl hy
      split at h
      · cases h
      · rename_i hne
        split at h
        · rename_i b1 b2 hb1 hb2
          have k1 := hk.blk _ _ _ (getBlk_some hb1) hq1
          have k2 := hk.blk _ _ _ (getBlk_some hb2) hq2
          split at h
          · cases h
          rename_i hzz
          simp only [Bool.or_eq_true, not_or, Bool.not_eq_true] at hzz
          obtain ⟨_, cA, fA, hA, _, _, _, zA, _⟩ := k1
          obtain ⟨_, cB, fB, hB, _, _, _, zB, _⟩ := k2
          rw [zA hzz.1] at hA
          rw [zB hzz.2] at hB
          have hap := hk.apart _ _ _ _ _ _ hne (getBlk_some hb1) (getBlk_some hb2) hq1 hq2
          simp only [one, Except.ok.injEq] at h; subst h
          exact ⟨_, List.mem_singleton_self _, .bool false, lit_av e (.bool false), hk, hr _ _ _ _ (run_overlapsT ps rs hp ht hi _ _ _ _ _ _ hap hA hB)⟩
        · cases h
    · cases h
  · cases h

theorem opA_ok (hk : Ok w0 e σ w) (ht : Tm e tm a) {ov : List FuncId} (hov : ∀ g ∈ ov, isOverlaps P g = true) {o : Oper} {res : List (AV × St)} (h : opA P ov tm o σ = .ok res) :
    ∃ r ∈ res, ∃ e' v w', e.le e' ∧ av e' r.1 = some v ∧ Ok w0 e' r.2 w' ∧ ((execOp a.eval o).run P w = .ok (.value v) w' ∨ ((execOp a.eval o).run P w = .ok .skip w' ∧ v = undef)) := by
  unfold opA at h
  split at h
  · rename_i v hp
    simp only [one, Except.ok.injEq] at h; subst h
    exact ⟨_, List.mem_singleton_self _, e, v, w, Env.le.refl e, lit_av e v, hk, .inl (pureOp_ok ht hp w)⟩
  · split at h
    · rename_i x ho
      exact sem_of (SemOk.one h _ (evalA_ok ht x) hk (s := pure (a.eval x)) rfl) (fun w v w' hr => by simp at hr; obtain ⟨rfl, rfl⟩ := hr; simp [execOp, ho])
    · rename_i x ho
      exact sem_of (SemOk.one h _ (evalA_ok ht x) hk (s := pure (a.eval x)) rfl) (fun w v w' hr => by simp at hr; obtain ⟨rfl, rfl⟩ := hr; simp [execOp, ho])
    · rename_i el ho
      split at h
      · rename_i z hz
        obtain ⟨i, v, g1, g2, rfl, hp⟩ := zeroCs_some hz
        exact sem_of (opNew_ok hk h (vs := v.cells) (map_inl _) (plain_inl hp) (Instr.alloc el true (.tuple #[])) (by simp [Instr.alloc, run_zeroT g1 g2, newVar, run_newRowT])) (fun w v w' hr => by simp [execOp, ho, hr])
      · cases h
    · rename_i el x ho
      split at h
      · rename_i cs hcs
        obtain ⟨g1, g2⟩ := cellsOf_ok hk hcs (evalA_ok ht x)
        exact sem_of (opNew_ok hk h (vs := (a.eval x).cells) g1 g2 (Instr.box el (a.eval x)) (by simp [Instr.box, newVar, run_newRowT])) (fun w v w' hr => by simp [execOp, ho, hr])
      · cases h
    · rename_i t ps ho
      exact sem_of ((opBuild_ok hk h (evp_ok ht ps)).ok hk) (fun w v w' hr => by simp [execOp, ho, hr])
    · rename_i t n ps ho
      exact sem_of (opBuildSlice_ok hk h (evp_ok ht ps)) (fun w v w' hr => by simp [execOp, ho, hr])
    · rename_i t x ho
      exact sem_of (opLoad_ok hk h (evalA_ok ht x)) (fun w v w' hr => by simp [execOp, ho, hr])
    · rename_i t x v ho
      obtain ⟨r, hr, w', h1, h2, h3⟩ := opStore_ok hk h (evalA_ok ht x) (evalA_ok ht v)
      exact ⟨r, hr, e, undef, w', Env.le.refl e, by rw [h1]; exact lit_av e _, h2, .inr ⟨by simp [execOp, ho, h3], rfl⟩⟩
    · rename_i x ho
      split at h
      · rename_i p hp
        obtain ⟨h1, h2⟩ := ptrOf_ok hp (evalA_ok ht x)
        have h3 := h2
        simp only [ptrV] at h3
        split at h3
        · rename_i q hq
          simp at h3
          refine sem_of (SemOk.one h _ (evalA_ok ht x) hk (s := pure (a.eval x)) rfl) (fun w v w' hr => by simp at hr; obtain ⟨rfl, rfl⟩ := hr; simp [execOp, ho, ← h3])
        · cases h3
      · cases h
    · rename_i op t x y yt ho
      exact sem_of (opBin_ok hk h (evalA_ok ht x) (evalA_ok ht y) x y) (fun w v w' hr => by simp only [execOp, ho]; simp only [Sem.run_bind] at hr ⊢; rw [hr]; rfl)
    · rename_i s d x ho
      exact sem_of (opConvert_ok hk h (evalA_ok ht x)) (fun w v w' hr => by simp [execOp, ho, hr])
    · rename_i fn first cs ho
      unfold opFunc at h
      split at h
      · rename_i f
        have key : ∀ (xs : List Operand) (l : List (Nat × Nat)), xs.map (fun x => ptrOf (evalA tm x)) = l.map some → l.map (ptrV e) = (xs.map a.eval).map some := by
          intro xs
          induction xs with
          | nil => intro l h; cases l <;> simp at h ⊢
          | cons x xs ih =>
            intro l h
            cases l with
            | nil => simp at h
            | cons p l =>
              simp at h
              simp [ih l h.2, (ptrOf_ok h.1 (evalA_ok ht x)).2]
        split at h
        · rename_i hb
          split at h
          · rename_i hf0
            obtain rfl : first = #[] := by simpa using hf0
            split at h
            · rename_i l hl
              have h2 := key _ _ (seqO_some.1 hl)
              refine sem_of (SemOk.one h (.func (.func f) #[] (cs.map a.eval)) ?_ hk (s := Instr.makeFunc (.func f) #[] (cs.map a.eval)) rfl) (fun w v w' hr => by simp [execOp, ho, hr])
              simp only [cell, av, v1, cv, seqO_some.2 h2, funcV, if_pos hb, arr_map]
            · cases h
          · split at h
            · rename_i hc0
              obtain rfl : cs = #[] := by simpa using hc0
              split at h
              · rename_i l hl
                have h2 := key _ _ (seqO_some.1 hl)
                have hb2 : ¬ (Nat.blt (f + 1048576) 1048576 = true) := fun hx => by
                  have hy := Nat.blt_eq.mp hx
                  omega
                refine sem_of (SemOk.one h (.func (.func f) (first.map a.eval) #[]) ?_ hk (s := Instr.makeFunc (.func f) (first.map a.eval) #[]) rfl) (fun w v w' hr => by simp [execOp, ho, hr])
                simp only [cell, av, v1, cv, seqO_some.2 h2, funcV, if_neg hb2, Nat.add_sub_cancel, arr_map]
              · split at h
                · rename_i cs hcs
                  split at h
                  · rename_i l hl
                    obtain ⟨x, hx⟩ : ∃ x, first = #[x] := by
                      have hl1 := congrArg List.length hcs
                      rw [List.length_map] at hl1
                      obtain ⟨x, hx⟩ := List.length_eq_one_iff.1 hl1
                      exact ⟨x, Array.ext' hx⟩
                    subst hx
                    have hev : evalA tm x = .inl (.inr cs) := by simpa using hcs
                    have hxv := evalA_ok ht x
                    rw [hev] at hxv
                    have hcb : ∀ {cs : List Cell} {l : List BV}, cs.map bvOf = l.map some → cs = l.map bvC := by
                      intro cs
                      induction cs with
                      | nil => intro l h; cases l <;> simp at h ⊢
                      | cons c cs ih =>
                        intro l h
                        cases l with
                        | nil => simp at h
                        | cons b l =>
                          simp only [List.map_cons, List.cons.injEq] at h ⊢
                          exact ⟨bvOf_eq h.1, ih h.2⟩
                    obtain rfl := hcb (seqO_some.1 hl)
                    simp only [av, v1] at hxv
                    split at hxv
                    · rename_i vs hvs
                      have hvs' : l.map bvV = vs.map some := by
                        rw [← seqO_some.1 hvs, List.map_map]
                        exact List.map_congr_left fun b _ => (bvC_cv e b).symm
                      simp only [Option.some.injEq] at hxv
                      refine sem_of (SemOk.one h (.func (.func f) #[a.eval x] #[]) ?_ hk (s := Instr.makeFunc (.func f) #[a.eval x] #[]) rfl) (fun w v w' hr => by simp [execOp, ho, hr])
                      simp only [cell, av, v1, bfC, cv, bfV, seqO_some.2 hvs', ← hxv]
                    · cases hxv
                  · cases h
                · cases h
            · cases h
        · cases h
      · cases h
    · rename_i t l c ho
      exact sem_of (opMakeSlice_ok hk h (evalA_ok ht l) (evalA_ok ht c)) (fun w v w' hr => by simp [execOp, ho, hr])
    · rename_i t x lo hi mx ho
      exact sem_of (opSlice_ok hk h (evalA_ok ht x) (opt_ok ht lo) (opt_ok ht hi) (opt_ok ht mx)) (fun w v w' hr => by simp [execOp, ho, hr])
    · rename_i t x f ho
      exact sem_of ((opFieldAddr_ok h (evalA_ok ht x)).ok hk) (fun w v w' hr => by simp [execOp, ho, hr])
    · rename_i t x f ho
      exact sem_of ((opField_ok h (evalA_ok ht x)).ok hk) (fun w v w' hr => by simp [execOp, ho, hr])
    · rename_i t x i ho
      exact sem_of ((opIndexAddr_ok h (evalA_ok ht x) (evalA_ok ht i)).ok hk) (fun w v w' hr => by simp [execOp, ho, hr])
    · rename_i t x i ho
      exact sem_of ((opIndex_ok h (evalA_ok ht x) (evalA_ok ht i)).ok hk) (fun w v w' hr => by simp [execOp, ho, hr])
    · rename_i x i ho
      exact sem_of ((opExtract_ok h (evalA_ok ht x)).ok hk) (fun w v w' hr => by simp [execOp, ho, hr])
    · rename_i c ho
      obtain ⟨callee, args, ts⟩ := c
      unfold opCall at h
      dsimp only at h
      split at h
      · rename_i b
        obtain ⟨s, h1, h2⟩ := opBuiltin_ok (ty := o.type) (cst := args.map fun | .const _ => true | _ => false) hk h (evs_ok ht args.toList)
        refine sem_of h1 (fun w v w' hr => ?_)
        have := h2 w v w' hr
        simp only [execOp, ho, resolve, Sem.run_bind, Sem.run_pure, Result.andThen_ok, invoke]
        rw [arr_map] at this
        exact this
      · split at h
        · rename_i g
          split at h
          · rename_i x y hxy
            obtain rfl : args = #[x, y] := Array.toList_inj.1 hxy
            obtain ⟨r, hr, v, h1, h2, h3⟩ := opOverlaps_ok hk hov h (evalA_ok ht x) (evalA_ok ht y)
            refine ⟨r, hr, e, v, w, Env.le.refl e, h1, h2, .inl ?_⟩
            simp only [execOp, ho, resolve, Sem.run_bind, Sem.run_pure, Result.andThen_ok, invoke, Deferred.ofValue, Act.eval]
            simpa using h3
          · cases h
        · cases h
      · cases h
    · cases h
end
end Reck
