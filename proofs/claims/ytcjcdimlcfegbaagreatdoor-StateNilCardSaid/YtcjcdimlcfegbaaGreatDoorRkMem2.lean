/- A reckoner of calls: operations on arrays, all of them. No condition. -/
import Derived.Test.YtcjcdimlcfegbaaGreatDoorRkP
import Derived.Test.YtcjcdimlcfegbaaGreatDoorRkJ
set_option linter.unusedVariables false
set_option linter.unusedSimpArgs false
namespace Reck
open Go Ost

/-- A literal of bytes, made out of a constant text. -/
def markX (P : Program) (src dst : TypeId) (x : AV) (σ : St) : Option MT :=
  match x with
  | .inl (.inl (.inr (.inr (.inl s)))) => if src == dst then match P.underlying src with
      | some (.slice el) => match P.underlying el with
        | some (.int .u8) => match getBlk σ s.b with
          | some bk => some fun K => K (sl s) (putBlk σ s.b (some ⟨bk.elem, bk.cells, bk.j, bk.c, true⟩))
          | none => none
        | _ => none
      | _ => none
    else none
  | _ => none

section
variable {P : Program} {w0 w w' : World} {e : Env} {σ : St} {tm : List AV} {a : Act}
theorem freeze_at (w : World) (g n : Nat) {cur : Array Value} {el : TypeId} {fz : Nat × Nat} (h : w.heap[g]? = some (.cells cur el fz)) :
    (w.freeze ⟨g, n, none⟩ 1).heap[g]? = some (.cells cur el (if fz.1 == fz.2 then (n, n + 1) else (min fz.1 n, max fz.2 (n + 1)))) ∧ Only (fun k => k = g) w (w.freeze ⟨g, n, none⟩ 1) := by
  unfold World.freeze
  rw [if_neg (by decide)]
  refine ⟨?_, rfl, rfl, rfl, by simp, fun k hk hne => ?_⟩
  · simp [Array.getElem?_modify, h]
  · simp only [Array.getElem?_modify]
    rw [if_neg (fun he => hne he.symm)]
theorem markX_ok (hk : Ok w0 e σ w) {src dst : TypeId} {x : AV} {v : Value} {T : MT} {K : AV → St → Prop} (h : markX P src dst x σ = some T) (hK : T K) (hx : av e x = some v) :
    ∃ y σ' w', K y σ' ∧ av e y = some v ∧ Ok w0 e σ' w' ∧ (convert src dst v).run P w = .ok v w' := by
  unfold markX at h
  split at h
  · rename_i s
    split at h
    · rename_i hsd
      have hsd : src = dst := by simpa using hsd
      subst hsd
      split at h
      · rename_i el hu
        split at h
        · rename_i hel
          split at h
          · rename_i bk hbk
            simp only [Option.some.injEq] at h; subst h
            obtain ⟨q, c, hq, hc, hn, rfl⟩ := av_sl hx
            have hbl := getBlk_some hbk
            obtain ⟨g1, cur, fz, g2, g3, g4, g5, g6, g7⟩ := hk.blk _ _ _ hbl hq
            obtain ⟨f1, f2⟩ := freeze_at w q.1 cur.size g2
            have hsh : w.shape? q.1 = some (bk.elem, cur.size) := by simp [World.shape?, g2]
            refine ⟨_, _, w.freeze ⟨q.1, cur.size, none⟩ 1, hK, hx, hk.put hbl hq f2 ⟨g1, cur, _, f1, g3, g4, g5, (fun h => by cases h), ?_⟩, ?_⟩
            · right
              split
              · exact Nat.le_refl _
              · rename_i hne
                rcases g7 with rfl | g7
                · simp at hne
                · dsimp only; omega
            · simp [convert, run_underlying hu, run_underlying hel, markStringish, shape, Sem.run, hsh, freeze]
          · cases h
        · cases h
      · cases h
    · cases h
  · cases h
end

def opMem0 (P : Program) : OpM := fun tm o σ =>
  match o.op with
  | .store t x v => match aptrX (evalA tm x), intX (evalA tm v) with
    | some p, some (k, z) => storeX P t p k z σ
    | _, _ => none
  | .convert s d x => match markX P s d (evalA tm x) σ with
    | some T => some T
    | none => match strOfX P s d (evalA tm x) σ with
      | some T => some T
      | none => bytesX P s d (evalA tm x) σ
  | .load t x => match loadG P t (evalA tm x) σ with
    | some y => some fun K => K y σ
    | none => none
  | .range t x => rangeX P t (evalA tm x) σ
  | .next x isS => nextX (evalA tm x) isS σ
  | .makeSlice t l c => makeX P t (evalA tm l) (evalA tm c) σ
  | .buildSlice t n ps => buildX P t n (evp tm ps.toList) σ
  | .call c => match c.callee, c.argTypes.toList, c.args.toList with
    | .builtin .append, t :: u :: _, [x, y] => appendX P t u (evalA tm x) (evalA tm y) σ
    | .builtin .copy, t :: _, [x, y] => copyX P t (evalA tm x) (evalA tm y) σ
    | .builtin .clear, t :: _, [x] => clearX P t (evalA tm x) σ
    | _, _, _ => none
  | _ => none

theorem opMem0_ok (P : Program) : OpMOk P (opMem0 P) := by
  intro tm o σ T h K hK w0 e w a hk ht
  unfold opMem0 at h
  split at h
  · rename_i t x v ho
    split at h
    · rename_i p k z hp hz
      obtain ⟨q, hq, e1⟩ := aptrX_ok hp (evalA_ok ht x)
      have e2 := intX_ok hz (evalA_ok ht v)
      obtain ⟨σ', w', h1, h2, h3⟩ := storeX_ok hk h hK hq
      exact ⟨_, σ', e, undef, w', h1, Env.le.refl e, lit_av e _, h2, .inr ⟨by simp [execOp, ho, e1, e2, h3], rfl⟩⟩
    · cases h
  · rename_i s d x ho
    split at h
    · rename_i T' hT
      simp only [Option.some.injEq] at h; subst h
      obtain ⟨y, σ', w', h1, h2, h3, h4⟩ := markX_ok hk hT hK (evalA_ok ht x)
      exact ⟨y, σ', e, _, w', h1, Env.le.refl e, h2, h3, .inl (by simp [execOp, ho, h4])⟩
    · split at h
      · rename_i T' hT
        simp only [Option.some.injEq] at h; subst h
        obtain ⟨y, u, h1, h2, h3⟩ := strOfX_ok hk hT hK (evalA_ok ht x)
        exact ⟨y, σ, e, u, w, h1, Env.le.refl e, h2, hk, .inl (by simp [execOp, ho, h3])⟩
      · obtain ⟨y, σ', e', u, w', h1, h2, h3, h4, h5⟩ := bytesX_ok hk h hK (evalA_ok ht x)
        exact ⟨y, σ', e', u, w', h1, h2, h3, h4, .inl (by simp [execOp, ho, h5])⟩
  · rename_i t x ho
    split at h
    · rename_i y hy
      simp only [Option.some.injEq] at h; subst h
      obtain ⟨u, h1, h2⟩ := loadG_ok (P := P) hk hy (evalA_ok ht x)
      exact ⟨y, σ, e, u, w, hK, Env.le.refl e, h1, hk, .inl (by simp [execOp, ho, h2])⟩
    · cases h
  · rename_i t x ho
    obtain ⟨v, σ', e', r, w', h1, h2, h3, h4, h5⟩ := rangeX_ok hk h hK (evalA_ok ht x)
    exact ⟨v, σ', e', r, w', h1, h2, h3, h4, .inl (by simp [execOp, ho, h5])⟩
  · rename_i x isS ho
    obtain ⟨v, σ', r, w', h1, h2, h3, h4⟩ := nextX_ok (P := P) (ty := o.type) hk h hK (evalA_ok ht x)
    exact ⟨v, σ', e, r, w', h1, Env.le.refl e, h2, h3, .inl (by simp [execOp, ho, h4])⟩
  · rename_i t l c ho
    obtain ⟨v, σ', e', r, w', h1, h2, h3, h4, h5⟩ := makeX_ok hk h hK (evalA_ok ht l) (evalA_ok ht c)
    exact ⟨v, σ', e', r, w', h1, h2, h3, h4, .inl (by simp [execOp, ho, h5])⟩
  · rename_i t n ps ho
    obtain ⟨v, σ', e', r, w', h1, h2, h3, h4, h5⟩ := buildX_ok hk h hK (evp_ok ht ps)
    exact ⟨v, σ', e', r, w', h1, h2, h3, h4, .inl (by simp [execOp, ho, h5])⟩
  · rename_i c ho
    obtain ⟨callee, args, ts⟩ := c
    dsimp only at h
    split at h
    · rename_i t u l x y hts hxs
      obtain rfl : args = #[x, y] := Array.toList_inj.1 hxs
      have hts0 : ts[0]? = some t := by rw [← Array.getElem?_toList, hts]; rfl
      have hts1 : ts[1]? = some u := by rw [← Array.getElem?_toList, hts]; rfl
      obtain ⟨v, σ', e', r, w', h1, h2, h3, h4, h5⟩ := appendX_ok (ty := o.type) (xs := #[a.eval x, a.eval y]) hk h hK (evalA_ok ht x) (evalA_ok ht y) hts0 hts1 rfl rfl
      refine ⟨v, σ', e', r, w', h1, h2, h3, h4, .inl ?_⟩
      simp only [execOp, ho, resolve, Sem.run_bind, Sem.run_pure, Result.andThen_ok, invoke, List.map_toArray, List.map_cons, List.map_nil]
      simp [builtin, h5]
    · rename_i t l x y hts hxs
      obtain rfl : args = #[x, y] := Array.toList_inj.1 hxs
      have hts0 : ts[0]? = some t := by rw [← Array.getElem?_toList, hts]; rfl
      obtain ⟨v, σ', r, w', h1, h2, h3, h4⟩ := copyX_ok (ty := o.type) (xs := #[a.eval x, a.eval y]) hk h hK (evalA_ok ht x) (evalA_ok ht y) hts0 rfl rfl
      refine ⟨v, σ', e, r, w', h1, Env.le.refl e, h2, h3, .inl ?_⟩
      simp only [execOp, ho, resolve, Sem.run_bind, Sem.run_pure, Result.andThen_ok, invoke, List.map_toArray, List.map_cons, List.map_nil]
      simp [builtin, h4]
    · rename_i t l x hts hxs
      obtain rfl : args = #[x] := Array.toList_inj.1 hxs
      have hts0 : ts[0]? = some t := by rw [← Array.getElem?_toList, hts]; rfl
      obtain ⟨v, σ', r, w', h1, h2, h3, h4⟩ := clearX_ok (ty := o.type) (xs := #[a.eval x]) hk h hK (evalA_ok ht x) hts0 rfl
      refine ⟨v, σ', e, r, w', h1, Env.le.refl e, h2, h3, .inl ?_⟩
      simp only [execOp, ho, resolve, Sem.run_bind, Sem.run_pure, Result.andThen_ok, invoke, List.map_toArray, List.map_cons, List.map_nil]
      simp [builtin, h4]
    · cases h
  · cases h

/-- With rows. -/
def opMem (P : Program) : OpM := fun tm o σ => match opRow P tm o σ with
  | some T => some T
  | none => opMem0 P tm o σ
theorem opMem_ok (P : Program) : OpMOk P (opMem P) := by
  intro tm o σ T h
  unfold opMem at h
  split at h
  · rename_i T' hT
    simp only [Option.some.injEq] at h; subst h
    exact opRow_ok P tm o σ _ hT
  · exact opMem0_ok P tm o σ T h

/-- What a statement asks of its inputs, as open numbers and old arrays. -/
theorem call_true {P : Program} {ov : List FuncId} {R : Orc} (hov : ov.all (isOverlaps P) = true) (hN : namesOk P = true) (hC : ConOk P R) {n f : Nat} {args : List AV} {σ : St} (h : goT P ov R (opMem P) n (.inr (.inr (.inr (.inr f)))) args σ isTrue)
    {w0 w : World} {e : Env} (hk : Ok w0 e σ w) {vs : List Value} (hvs : args.map (av e) = vs.map some) : Calls P f vs.toArray w fun en w' => en = .returned (.bool true) ∧ Only e.S w0 w' :=
  true_ok (ovs_of hov) (names_of hN) (opMem_ok P) hC h hk hvs
end Reck
