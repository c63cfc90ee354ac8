/- A reckoner of calls: what may be taken first. No condition. -/
import Derived.Test.YtcjcdimlcfegbaaGreatDoorRkH
set_option linter.unusedVariables false
set_option linter.unusedSimpArgs false
namespace Reck
open Go Ost

section
variable {P : Program} {w0 w : World} {e : Env} {σ : St} {tm : List AV} {a : Act}

theorem eq_nil6 (d : Nat) {t el : TypeId} (hu : P.underlying t = some (.slice el)) (n c : Nat) : (Op.equalIn (d + 1) t (.slice none 0 0) (.slice none n c)).run P w = .ok true w := by simp [Op.equalIn, run_underlying hu]
theorem nilX_ok {op : BinOp} {t el : TypeId} {s : ASl} {v : Value} {T : QT} {K : AV → Held → Prop} (h : nilX op s = some T) (hK : T K) (hu : P.underlying t = some (.slice el)) (hv : av e (cell (aslC s)) = some v) (n c : Nat) :
    QOk P e σ (binOp op t v (.slice none n c)) K := by
  have eqd : ∀ (x : Value) (b : Bool), (∃ B k l, x = .slice B k l) → (∀ w, (Op.equal t x (.slice none n c)).run P w = .ok b w) → ∀ w, (binOp .eql t x (.slice none n c)).run P w = .ok (.bool b) w ∧ (binOp .neq t x (.slice none n c)).run P w = .ok (.bool !b) w := by
    rintro x b ⟨B, k, l, rfl⟩ hb w
    exact ⟨by simp [binOp, hb w], by simp [binOp, hb w]⟩
  have r1 := eqd (.slice none 0 0) true ⟨_, _, _, rfl⟩ (fun w => eq_nil6 9999 hu n c)
  have r2 := fun (q : Addr) k l => eqd (.slice (some q) k l) false ⟨_, _, _, rfl⟩ (fun w => eq_nil3 9999 hu q k l n c)
  unfold nilX at h
  split at h
  · simp only [Option.some.injEq] at h; subst h
    rcases aslX_ok (x := cell (aslC s)) rfl hv with ⟨A, _, hn, _, rfl⟩ | ⟨q, _, _, rfl⟩
    · cases A with
      | none => exact QOk.nil (hK.1 hn) _ (lit_av e _) (fun w => (r1 w).1)
      | some q => exact QOk.nil hK.2 _ (lit_av e _) (fun w => (r2 _ _ _ w).1)
    · exact QOk.nil hK.2 _ (lit_av e _) (fun w => (r2 _ _ _ w).1)
  · simp only [Option.some.injEq] at h; subst h
    rcases aslX_ok (x := cell (aslC s)) rfl hv with ⟨A, _, hn, _, rfl⟩ | ⟨q, _, _, rfl⟩
    · cases A with
      | none => exact QOk.nil (hK.1 hn) _ (lit_av e _) (fun w => (r1 w).2)
      | some q => exact QOk.nil hK.2 _ (lit_av e _) (fun w => (r2 _ _ _ w).2)
    · exact QOk.nil hK.2 _ (lit_av e _) (fun w => (r2 _ _ _ w).2)
  · cases h
theorem isNilSl_ok {x : AV} {v : Value} (h : isNilSl x = true) (hv : av e x = some v) : ∃ n c, v = .slice none n c := by
  unfold isNilSl at h
  split at h
  · exact ⟨_, _, av_lit hv⟩
  · cases h
theorem aslX_eq {x : AV} {s : ASl} (h : aslX x = some s) : x = cell (aslC s) := by
  unfold aslX at h
  split at h
  · simp at h; subst h; rfl
  · cases h
theorem aptrX_eq {x : AV} {p : Nat × Nat} (h : aptrX x = some p) : x = cell (aptrC p.1 p.2) := by
  unfold aptrX at h
  split at h
  · simp at h; subst h; rfl
  · cases h
theorem slice_plain {v : Value} {s : ASl} (hv : av e (cell (aslC s)) = some v) : v.oneCell' = true ∧ v ≠ .nilIface := by
  rcases aslX_ok (x := cell (aslC s)) rfl hv with ⟨A, _, _, _, rfl⟩ | ⟨q, _, _, rfl⟩ <;> exact ⟨rfl, by simp⟩

theorem takeX_ok (hk : Ok w0 e σ w) (ht : Tm e tm a) {o : Oper} {T : QT} {K : AV → Held → Prop} (h : takeX P tm o σ = some T) (hK : T K) : QOp P e σ a o K := by
  unfold takeX at h
  split at h
  · rename_i op t x y yt ho
    have hx := evalA_ok ht x
    have hy := evalA_ok ht y
    have fin : ∀ {vx vy : Value}, a.eval x = vx → a.eval y = vy → vx.oneCell' = true → vx ≠ .nilIface → QOk P e σ (binOp op t vx vy) K → QOp P e σ a o K := by
      intro vx vy e1 e2 h1 h2 hq
      refine hq.op (fun w u w' hr => ?_)
      simp only [execOp, ho, e1, e2, Sem.run_bind, run_eqGuard op t x y vx vy h1 h2, Result.andThen_ok]
      rw [hr]; rfl
    split at h
    · rename_i k a' k' b hxa hyb
      have e1 := intX_ok hxa hx
      have e2 := intX_ok hyb hy
      exact fin e1 e2 rfl (by simp) (binX_ok h hK t)
    · split at h
      · rename_i el hu
        split at h
        · rename_i s hs
          split at h
          · rename_i hn
            obtain ⟨n, c, e2⟩ := isNilSl_ok hn hy
            rw [aslX_eq hs] at hx
            obtain ⟨p1, p2⟩ := slice_plain hx
            exact fin rfl e2 p1 p2 (nilX_ok h hK hu hx n c)
          · cases h
        · cases h
      · cases h
  · rename_i op t x ho
    split at h
    · rename_i k a' hxa
      have e1 := intX_ok hxa (evalA_ok ht x)
      exact (unX_ok h hK).op (fun w u w' hr => by simp [execOp, ho, e1, hr])
    · cases h
  · rename_i s d x ho
    split at h
    · rename_i ds k k' n hs hd hxa
      have e1 := intX_ok hxa (evalA_ok ht x)
      simp only [Option.some.injEq] at h; subst h
      exact (newI_ok (P := P) (e := e) (σ := σ) (s := convert s d (.int k' n)) hK (fun w' => by simp [convert, run_underlying hs, run_underlying hd, Conv.intToInt])).op (fun w u w' hr => by simp [execOp, ho, e1, hr])
    · cases h
  · rename_i t x ho
    split at h
    · rename_i p hp
      obtain ⟨q, hq, e1⟩ := aptrX_ok hp (evalA_ok ht x)
      exact (loadX_ok hk h hK hq).op (fun w u w' hr => by simp [execOp, ho, e1, hr])
    · cases h
  · rename_i x ho
    split at h
    · rename_i p hp
      obtain ⟨q, hq, e1⟩ := aptrX_ok hp (evalA_ok ht x)
      simp only [Option.some.injEq] at h; subst h
      exact ⟨_, [], hK, by intro p hp; simp at hp, _, aptr_av hq, fun w' _ => by simp [execOp, ho, e1]⟩
    · cases h
  · rename_i t x i ho
    split at h
    · rename_i s k i' hs hi
      have e1 := intX_ok hi (evalA_ok ht i)
      have hx := evalA_ok ht x
      rw [aslX_eq hs] at hx
      exact (indexX_ok (k := k) h hK hx).op (fun w u w' hr => by simp [execOp, ho, e1, hr])
    · cases h
  · rename_i t x lo hi mx ho
    split at h
    · rename_i s l hh hs hl hhi
      have hx := evalA_ok ht x
      rw [aslX_eq hs] at hx
      exact (cutX_ok h hK hx (bndX_ok hl (opt_ok ht lo)) (bndX_ok hhi (opt_ok ht hi))).op (fun w u w' hr => by simp [execOp, ho, hr])
    · cases h
  · rename_i c ho
    obtain ⟨callee, args, ts⟩ := c
    dsimp only at h
    split at h
    · rename_i t l x hts hxs
      split at h
      · rename_i el s hu hs
        simp only [Option.some.injEq] at h; subst h
        have hx := evalA_ok ht x
        obtain rfl : args = #[x] := Array.toList_inj.1 hxs
        have hts0 : ts[0]? = some t := by rw [← Array.getElem?_toList, hts]; rfl
        refine ⟨_, [], hK (s.n : Int) rfl, by intro p hp; simp at hp, _, xint_av e .i64 _, fun w' _ => ?_⟩
        rw [aslX_eq hs] at hx
        rcases aslX_ok (x := cell (aslC s)) rfl hx with ⟨A, _, hn, _, hv⟩ | ⟨q, _, _, hv⟩
        · simp only [execOp, ho, resolve, Sem.run_bind, Sem.run_pure, Result.andThen_ok, invoke, List.map_toArray, List.map_cons, List.map_nil, hv]
          simp [builtin, Builtin.len_, hts0, run_underlying hu, hn, goInt]
        · simp only [execOp, ho, resolve, Sem.run_bind, Sem.run_pure, Result.andThen_ok, invoke, List.map_toArray, List.map_cons, List.map_nil, hv]
          simp [builtin, Builtin.len_, hts0, run_underlying hu, goInt]
      · cases h
    · rename_i t l x hts hxs
      split at h
      · rename_i el s hu hs
        simp only [Option.some.injEq] at h; subst h
        have hx := evalA_ok ht x
        obtain rfl : args = #[x] := Array.toList_inj.1 hxs
        have hts0 : ts[0]? = some t := by rw [← Array.getElem?_toList, hts]; rfl
        refine ⟨_, [], hK (s.c : Int) rfl, by intro p hp; simp at hp, _, xint_av e .i64 _, fun w' _ => ?_⟩
        rw [aslX_eq hs] at hx
        rcases aslX_ok (x := cell (aslC s)) rfl hx with ⟨A, _, _, hn, hv⟩ | ⟨q, _, _, hv⟩
        · simp only [execOp, ho, resolve, Sem.run_bind, Sem.run_pure, Result.andThen_ok, invoke, List.map_toArray, List.map_cons, List.map_nil, hv]
          simp [builtin, Builtin.cap_, hts0, run_underlying hu, hn, goInt]
        · simp only [execOp, ho, resolve, Sem.run_bind, Sem.run_pure, Result.andThen_ok, invoke, List.map_toArray, List.map_cons, List.map_nil, hv]
          simp [builtin, Builtin.cap_, hts0, run_underlying hu, goInt]
      · cases h
    · cases h
  · cases h

theorem takeS_ok (ht : Tm e tm a) {o : Oper} {T : QT} {K : AV → Held → Prop} (h : takeS P tm o = some T) (hK : T K) : QOp P e σ a o K := by
  unfold takeS at h
  split at h
  · rename_i op t x y yt ho
    have hx := evalA_ok ht x
    have hy := evalA_ok ht y
    split at h
    · rename_i l m hl hm
      obtain ⟨e1, b1⟩ := strX_ok hl hx
      obtain ⟨e2, b2⟩ := strX_ok hm hy
      refine (strOp_ok h hK b1 b2 t).op (fun w u w' hr => ?_)
      simp only [execOp, ho, e1, e2, Sem.run_bind, run_eqGuard op t x y (.string (strZ l)) (.string (strZ m)) rfl (by simp), Result.andThen_ok]
      rw [hr]; rfl
    · obtain ⟨h1, h2⟩ := aggOp_ok (ox := x) (oy := y) h hK hx hy
      refine h2.op (fun w u w' hr => ?_)
      simp only [execOp, ho, Sem.run_bind, h1, Result.andThen_ok]
      rw [hr]; rfl
  · rename_i s d x ho
    split at h
    · rename_i l hl hs hd
      obtain ⟨e1, b1⟩ := strX_ok hl (evalA_ok ht x)
      simp only [Option.some.injEq] at h; subst h
      exact (newS_ok (P := P) (e := e) (σ := σ) (s := convert s d (.string (strZ l))) hK b1 (fun w' => by simp [convert, run_underlying hs, run_underlying hd])).op (fun w u w' hr => by simp [execOp, ho, e1, hr])
    · cases h
  · rename_i t x i ho
    split at h
    · rename_i l k i' hl hi hu
      obtain ⟨e1, b1⟩ := strX_ok hl (evalA_ok ht x)
      have e2 := intX_ok hi (evalA_ok ht i)
      simp only [Option.some.injEq] at h; subst h
      obtain ⟨⟨h1, h2⟩, hK⟩ := hK
      have hlt : i'.toNat < l.length := by omega
      have hmem : byteZ (l.getD i'.toNat 0) = true := by
        rw [List.getD_eq_getElem?_getD, List.getElem?_eq_getElem hlt]
        exact List.all_eq_true.1 b1 _ (List.getElem_mem hlt)
      have hmem' := hmem
      simp only [byteZ, decide_eq_true_eq] at hmem'
      refine ⟨_, [], hK _ rfl hmem'.1 hmem'.2, by intro p hp; simp at hp, _, xint_av e .u8 _, fun w' _ => ?_⟩
      have hg := strZ_get l i'.toNat hlt
      have hn : ((UInt8.ofNat (l.getD i'.toNat 0).toNat).toNat : Int) = l.getD i'.toNat 0 := by
        simp only [UInt8.toNat_ofNat']
        have : (l.getD i'.toNat 0).toNat % 2 ^ 8 = (l.getD i'.toNat 0).toNat := Nat.mod_eq_of_lt (by omega)
        omega
      simp only [execOp, ho, e1, e2, Instr.index, asIntOf, Sem.run_bind, Sem.run_pure, Result.andThen_ok, run_underlying hu, if_pos h1, hg, hn]
    · cases h
  · rename_i t x lo hi mx ho
    split at h
    · rename_i l vl vh hl h1 h2 hu
      obtain ⟨e1, b1⟩ := strX_ok hl (evalA_ok ht x)
      simp only [Option.some.injEq] at h; subst h
      obtain ⟨⟨g1, g2, g3⟩, hK⟩ := hK
      have l1 := bndX_ok h1 (opt_ok ht lo)
      have l2 := bndX_ok h2 (opt_ok ht hi)
      obtain ⟨A, hA⟩ : ∃ A : Nat, (A : Int) = vl.getD 0 := ⟨(vl.getD 0).toNat, by omega⟩
      obtain ⟨B, hB⟩ : ∃ B : Nat, (B : Int) = vh.getD l.length := ⟨(vh.getD l.length).toNat, by omega⟩
      have sb : ∀ (w : World) (k : IntKind) (i y : Nat) (code : BoundsCode), i ≤ y → (Instr.sliceBound (.int k (i : Int)) y code).run P w = .ok i w := by
        intro w k i y code hi
        have : (i : Int) ≤ (y : Int) := by omega
        simp [Instr.sliceBound, asIntOf, this]
      have hAB : A ≤ B := by omega
      have hBl : B ≤ l.length := by omega
      have hr : ∀ w', (Instr.slice t (.string (strZ l)) (lo.map a.eval) (hi.map a.eval) none).run P w' = .ok (.string (strZ ((l.drop A).take (B - A)))) w' := by
        intro w'
        have q1 : (lo.map a.eval = none ∧ A = 0) ∨ ∃ k, lo.map a.eval = some (.int k (A : Int)) := by
          rcases l1 with ⟨p1, p2⟩ | ⟨i, k, p1, p2⟩
          · rw [p1] at hA; simp at hA; exact .inl ⟨p2, hA⟩
          · rw [p1] at hA; simp at hA; exact .inr ⟨k, by rw [p2, hA]⟩
        have q2 : (hi.map a.eval = none ∧ B = l.length) ∨ ∃ k, hi.map a.eval = some (.int k (B : Int)) := by
          rcases l2 with ⟨p1, p2⟩ | ⟨i, k, p1, p2⟩
          · rw [p1] at hB; simp at hB; exact .inl ⟨p2, by omega⟩
          · rw [p1] at hB; simp at hB; exact .inr ⟨k, by rw [p2, hB]⟩
        have hx : (strZ l).extract A B = strZ ((l.drop A).take (B - A)) := strZ_extract l A B hBl
        rcases q2 with ⟨p2, rfl⟩ | ⟨k2, p2⟩ <;> rcases q1 with ⟨p1, rfl⟩ | ⟨k1, p1⟩ <;> rw [p1, p2]
        · have hx' : (strZ l).extract 0 l.length = strZ l := by have := strZ_extract l 0 l.length (Nat.le_refl _); simpa using this
          simp [Instr.slice, run_underlying hu, Instr.sliceBounds, strZ_size, hx']
        · simp [Instr.slice, run_underlying hu, Instr.sliceBounds, strZ_size, sb _ k1 A _ _ hAB, hx]
        · simp [Instr.slice, run_underlying hu, Instr.sliceBounds, strZ_size, sb _ k2 B _ _ hBl, hx]
        · simp [Instr.slice, run_underlying hu, Instr.sliceBounds, strZ_size, sb _ k2 B _ _ hBl, sb _ k1 A _ _ hAB, hx]
      have hb : ((l.drop A).take (B - A)).all byteZ = true := all_byte_sub b1 (fun x hx => List.mem_of_mem_drop (List.mem_of_mem_take hx))
      have hK' := hK A (B - A) (by omega) (by omega)
      exact (newS_ok (P := P) (e := e) (σ := σ) (s := Instr.slice t (.string (strZ l)) (lo.map a.eval) (hi.map a.eval) none) hK' hb hr).op (fun w u w' hr => by
        simp only [execOp, ho, e1, Instr.sliceAt, Sem.run_bind, Option.map_none]
        first | (rw [hr]; rfl) | (simp [hr, run_underlying hu]))
    · cases h
  · rename_i c ho
    obtain ⟨callee, args, ts⟩ := c
    dsimp only at h
    split at h
    · rename_i t l x hts hxs
      split at h
      · rename_i l' hl hu
        obtain ⟨e1, b1⟩ := strX_ok hl (evalA_ok ht x)
        simp only [Option.some.injEq] at h; subst h
        obtain rfl : args = #[x] := Array.toList_inj.1 hxs
        have hts0 : ts[0]? = some t := by rw [← Array.getElem?_toList, hts]; rfl
        refine ⟨_, [], hK _ rfl, by intro p hp; simp at hp, _, xint_av e .i64 _, fun w' _ => ?_⟩
        simp only [execOp, ho, resolve, Sem.run_bind, Sem.run_pure, Result.andThen_ok, invoke, List.map_toArray, List.map_cons, List.map_nil, e1]
        simp [builtin, Builtin.len_, hts0, run_underlying hu, goInt, strZ_size]
      · cases h
    · rename_i l
      obtain ⟨vs, hvs⟩ : ∃ vs : List Value, args.toList.map a.eval = vs := ⟨_, rfl⟩
      have hev : (args.toList.map (evalA tm)).map (av e) = vs.map some := by rw [← hvs]; exact evs_ok ht args.toList
      unfold mostX at h
      split at h
      · cases h
      · rename_i x l' hl
        split at h
        · rename_i k a' ha
          split at h
          · rename_i r hr
            simp only [Option.some.injEq] at h; subst h
            rw [hl] at hev
            obtain ⟨v, vs', rfl⟩ : ∃ v vs', vs = v :: vs' := by cases vs with
              | nil => simp at hev
              | cons v vs' => exact ⟨v, vs', rfl⟩
            simp only [List.map_cons, List.cons.injEq] at hev
            have e1 := intX_ok ha hev.1
            have hf := foldX_ok (P := P) Builtin.max2 (fun x y => max x y) (fun k x y w => by simp only [Builtin.max2, Sem.run_pure]; congr 2; rw [Int.max_def]; split <;> split <;> omega) hr hev.2
            refine ⟨_, [], hK _ rfl, by intro p hp; simp at hp, _, xint_av e k _, fun w' _ => ?_⟩
            have harr : args.map a.eval = (v :: vs').toArray := by rw [← arr_map, hvs]
            subst e1
            simp only [execOp, ho, resolve, Sem.run_bind, Sem.run_pure, Result.andThen_ok, invoke, harr]
            simp [builtin, Builtin.max_, hf]
          · cases h
        · cases h
    · rename_i l
      obtain ⟨vs, hvs⟩ : ∃ vs : List Value, args.toList.map a.eval = vs := ⟨_, rfl⟩
      have hev : (args.toList.map (evalA tm)).map (av e) = vs.map some := by rw [← hvs]; exact evs_ok ht args.toList
      unfold mostX at h
      split at h
      · cases h
      · rename_i x l' hl
        split at h
        · rename_i k a' ha
          split at h
          · rename_i r hr
            simp only [Option.some.injEq] at h; subst h
            rw [hl] at hev
            obtain ⟨v, vs', rfl⟩ : ∃ v vs', vs = v :: vs' := by cases vs with
              | nil => simp at hev
              | cons v vs' => exact ⟨v, vs', rfl⟩
            simp only [List.map_cons, List.cons.injEq] at hev
            have e1 := intX_ok ha hev.1
            have hf := foldX_ok (P := P) Builtin.min2 (fun x y => min x y) (fun k x y w => by simp only [Builtin.min2, Sem.run_pure]; congr 2; rw [Int.min_def]; split <;> split <;> omega) hr hev.2
            refine ⟨_, [], hK _ rfl, by intro p hp; simp at hp, _, xint_av e k _, fun w' _ => ?_⟩
            have harr : args.map a.eval = (v :: vs').toArray := by rw [← arr_map, hvs]
            subst e1
            simp only [execOp, ho, resolve, Sem.run_bind, Sem.run_pure, Result.andThen_ok, invoke, harr]
            simp [builtin, Builtin.min_, hf]
          · cases h
        · cases h
    · cases h
  · cases h

/-- What may be taken first: a load of a cell or of an array, an operation that changes nothing. -/
def takeQ (P : Program) (tm : List AV) (o : Oper) (σ : St) : Option QT :=
  match takeA P tm o σ with
  | some (v, hs) => some fun K => K v (hs.map .inl)
  | none => match takeX P tm o σ with
    | some T => some T
    | none => match takeS P tm o with
      | some T => some T
      | none => takeH P tm o σ

theorem takeQ_ok (hk : Ok w0 e σ w) (ht : Tm e tm a) {o : Oper} {T : QT} {K : AV → Held → Prop} (h : takeQ P tm o σ = some T) (hK : T K) : QOp P e σ a o K := by
  unfold takeQ at h
  split at h
  · rename_i v hs htk
    simp only [Option.some.injEq] at h; subst h
    obtain ⟨h1, u, h2, h3⟩ := takeA_ok hk ht htk
    refine ⟨v, _, hK, ?_, u, h2, fun w' hS => h3 w' ?_⟩
    · intro p hp
      obtain ⟨p', hp', rfl⟩ := List.mem_map.1 hp
      exact h1 p' hp'
    · intro p hp q v hq hv
      exact hS (.inl p) (List.mem_map.2 ⟨p, hp, rfl⟩) q v hq hv
  · split at h
    · rename_i T' hT
      simp only [Option.some.injEq] at h; subst h
      exact takeX_ok hk ht hT hK
    · split at h
      · rename_i T' hT
        simp only [Option.some.injEq] at h; subst h
        exact takeS_ok ht hT hK
      · exact takeH_ok hk ht h hK
end
end Reck
