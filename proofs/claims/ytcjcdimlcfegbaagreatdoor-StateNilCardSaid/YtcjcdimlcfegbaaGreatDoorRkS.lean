/- A reckoner of calls: open texts; structs held against one another; the least and the greatest. No condition. -/
import Derived.Test.YtcjcdimlcfegbaaGreatDoorRkQ
import Derived.Laws.StructEq
set_option linter.unusedVariables false
set_option linter.unusedSimpArgs false
namespace Reck
open Go Ost

/-! ### Texts -/
def strX : AV → Option (List Int)
  | .inl (.inl (.inl (.string s))) => some (s.data.toList.map fun b => (b.toNat : Int))
  | .inl (.inl (.inr (.inr (.inr (.inr (.inr (.inr (.inr (.inr (.inr (.inr (.inl l))))))))))))  => some l
  | _ => none
def ltL : List Int → List Int → Bool
  | _, [] => false
  | [], _ :: _ => true
  | a :: x, b :: y => decide (a < b) || (decide (a = b) && ltL x y)
structure LtS (a b : List Int) : Prop where
  out : ltL a b = true
structure ByteL (l : List Int) : Prop where
  out : l.all byteZ = true

def newS (l : List Int) : QT := fun K => ∀ l' : List Int, l' = l → K (cell (strC l')) []

def strOp (op : BinOp) (a b : List Int) : Option QT :=
  match op with
  | .add => some fun K => a.length + b.length ≤ 1000000000000 ∧ newS (a ++ b) K
  | .eql => some (splitI (a = b))
  | .neq => some (splitI (¬ a = b))
  | .lss => some (splitI (LtS a b))
  | .leq => some (splitI (¬ LtS b a))
  | .gtr => some (splitI (LtS b a))
  | .geq => some (splitI (¬ LtS a b))
  | _ => none

def strCut (l : List Int) (lo hi : Option Int) : QT := fun K =>
  (0 ≤ lo.getD 0 ∧ lo.getD 0 ≤ hi.getD l.length ∧ hi.getD l.length ≤ l.length) ∧ ∀ a b : Nat, (a : Int) = lo.getD 0 → (b : Int) = hi.getD l.length - lo.getD 0 → newS ((l.drop a).take b) K

/-! ### Structs -/
def cellsV1 : AV → Option (List Cell)
  | .inl (.inr l) => some l
  | _ => none
def eqX (P : Program) : Nat → TypeId → AV → AV → Option Prop
  | 0, _, _, _ => none
  | d + 1, t, x, y => match P.underlying t with
    | some (.int _) => match intX x, intX y with
      | some (k, a), some (k', b) => if decide (k = k') then some (a = b) else none
      | _, _ => none
    | some .bool => match x, y with
      | .inl (.inl (.inl (.bool a))), .inl (.inl (.inl (.bool b))) => some ((a == b) = true)
      | _, _ => none
    | some .string => match strX x, strX y with
      | some a, some b => some (a = b)
      | _, _ => none
    | some (.struct fs) => if P.stoodInHeld t then none else match cellsV1 x, cellsV1 y with
      | some cs, some ds => fs.toList.foldr (fun f r => match r, f.name == "_", isAggT P f.type, sizeT P f.type with
          | some p, false, some true, some n => (match eqX P d f.type (.inl (.inr ((cs.drop f.offset).take n))) (.inl (.inr ((ds.drop f.offset).take n))) with
            | some q => some (q ∧ p)
            | none => none)
          | some p, false, some false, some _ => (match cs[f.offset]?, ds[f.offset]? with
            | some c, some c' => (match eqX P d f.type (cell c) (cell c') with
              | some q => some (q ∧ p)
              | none => none)
            | _, _ => none)
          | _, _, _, _ => none) (some True)
      | _, _ => none
    | _ => none

def aggOp (P : Program) (op : BinOp) (t : TypeId) (x y : AV) : Option QT :=
  match cellsV1 x, cellsV1 y with
  | some _, some _ => if P.eqGuardType P.depth t then none else match eqX P 30 t x y with
    | some p => match op with
      | .eql => some (splitI p)
      | .neq => some (splitI (¬ p))
      | _ => none
    | none => none
  | _, _ => none

/-! ### The least and the greatest -/
def foldX (f : Int → Int → Int) (k : IntKind) : Int → List AV → Option Int
  | a, [] => some a
  | a, x :: l => match intX x with
    | some (k', b) => if decide (k' = k) then foldX f k (f a b) l else none
    | none => none
def mostX (f : Int → Int → Int) : List AV → Option QT
  | [] => none
  | x :: l => match intX x with
    | some (k, a) => match foldX f k a l with
      | some r => some (newI k r)
      | none => none
    | none => none

/-- Quiet operations on texts, structs, and the least and the greatest of numbers. -/
def takeS (P : Program) (tm : List AV) (o : Oper) : Option QT :=
  match o.op with
  | .binOp op t x y _ => match strX (evalA tm x), strX (evalA tm y) with
    | some a, some b => strOp op a b
    | _, _ => aggOp P op t (evalA tm x) (evalA tm y)
  | .convert s d x => match strX (evalA tm x), P.underlying s, P.underlying d with
    | some l, some .string, some .string => some (newS l)
    | _, _, _ => none
  | .index t x i => match strX (evalA tm x), intX (evalA tm i), P.underlying t with
    | some l, some (_, i), some .string => some fun K => (0 ≤ i ∧ i < l.length) ∧ ∀ z : Int, z = l.getD i.toNat 0 → 0 ≤ z → z < 256 → K (cell (xintC .u8 z)) []
    | _, _, _ => none
  | .slice t x lo hi mx => match strX (evalA tm x), bndX (lo.map (evalA tm)), bndX (hi.map (evalA tm)), mx, P.underlying t with
    | some l, some lo, some hi, none, some .string => some (strCut l lo hi)
    | _, _, _, _, _ => none
  | .call c => match c.callee, c.argTypes.toList, c.args.toList with
    | .builtin .len, t :: _, [x] => match strX (evalA tm x), P.underlying t with
      | some l, some .string => some (newI .i64 l.length)
      | _, _ => none
    | .builtin .max, _, l => mostX (fun x y => max x y) (l.map (evalA tm))
    | .builtin .min, _, l => mostX (fun x y => min x y) (l.map (evalA tm))
    | _, _, _ => none
  | _ => none

section
variable {P : Program} {w0 w : World} {e : Env} {σ : St} {tm : List AV} {a : Act}

theorem strZ_lit (s : ByteArray) : strZ (s.data.toList.map fun b => (b.toNat : Int)) = s := by
  obtain ⟨⟨l⟩⟩ := s
  simp [strZ, Function.comp_def]
theorem byteZ_lit (s : ByteArray) : (s.data.toList.map fun b => (b.toNat : Int)).all byteZ = true := by
  simp only [List.all_eq_true, List.mem_map, forall_exists_index, and_imp]
  rintro z b _ rfl
  simp only [byteZ, decide_eq_true_eq]
  have := b.toNat_lt
  omega
theorem strX_ok {x : AV} {l : List Int} {v : Value} (h : strX x = some l) (hv : av e x = some v) : v = .string (strZ l) ∧ l.all byteZ = true := by
  unfold strX at h
  split at h
  · simp only [Option.some.injEq] at h; subst h
    refine ⟨?_, byteZ_lit _⟩
    rw [strZ_lit]; exact av_lit hv
  · simp only [Option.some.injEq] at h; subst h
    simp only [av, v1, cv] at hv
    split at hv
    · rename_i hb; simp at hv; exact ⟨hv.symm, hb⟩
    · cases hv
  · cases h
theorem strC_av {l : List Int} (h : l.all byteZ = true) (e : Env) : av e (cell (strC l)) = some (.string (strZ l)) := by
  simp only [cell, strC, av, v1, cv, h, if_true]

theorem strZ_toList (l : List Int) : (strZ l).toList = l.map fun z => UInt8.ofNat z.toNat := by
  rw [ByteArray.toList_eq]; simp [strZ]
theorem strZ_size (l : List Int) : (strZ l).size = l.length := by simp [strZ, ByteArray.size]
theorem strZ_append (a b : List Int) : strZ a ++ strZ b = strZ (a ++ b) := by
  apply ByteArray.ext
  simp [strZ]
theorem byteZ_inj {a b : Int} (ha : byteZ a = true) (hb : byteZ b = true) (h : UInt8.ofNat a.toNat = UInt8.ofNat b.toNat) : a = b := by
  simp only [byteZ, decide_eq_true_eq] at ha hb
  have := congrArg UInt8.toNat h
  simp only [UInt8.toNat_ofNat'] at this
  have e1 : a.toNat % 2 ^ 8 = a.toNat := Nat.mod_eq_of_lt (by omega)
  have e2 : b.toNat % 2 ^ 8 = b.toNat := Nat.mod_eq_of_lt (by omega)
  omega
theorem byteZ_lt {a b : Int} (ha : byteZ a = true) (hb : byteZ b = true) : (UInt8.ofNat a.toNat < UInt8.ofNat b.toNat) ↔ a < b := by
  simp only [byteZ, decide_eq_true_eq] at ha hb
  rw [UInt8.lt_iff_toNat_lt]
  simp only [UInt8.toNat_ofNat']
  have e1 : a.toNat % 2 ^ 8 = a.toNat := Nat.mod_eq_of_lt (by omega)
  have e2 : b.toNat % 2 ^ 8 = b.toNat := Nat.mod_eq_of_lt (by omega)
  omega
theorem map_byte_inj : ∀ {a b : List Int}, a.all byteZ = true → b.all byteZ = true → (a.map fun z => UInt8.ofNat z.toNat) = (b.map fun z => UInt8.ofNat z.toNat) → a = b
  | [], [], _, _, _ => rfl
  | [], _ :: _, _, _, h => by simp at h
  | _ :: _, [], _, _, h => by simp at h
  | x :: a, y :: b, ha, hb, h => by
    simp only [List.all_cons, Bool.and_eq_true] at ha hb
    simp only [List.map_cons, List.cons.injEq] at h
    rw [byteZ_inj ha.1 hb.1 h.1, map_byte_inj ha.2 hb.2 h.2]
theorem strZ_eq {a b : List Int} (ha : a.all byteZ = true) (hb : b.all byteZ = true) : ((strZ a).toList == (strZ b).toList) = decide (a = b) := by
  rw [strZ_toList, strZ_toList]
  rw [Bool.eq_iff_iff]
  simp only [beq_iff_eq, decide_eq_true_eq]
  exact ⟨map_byte_inj ha hb, fun h => by rw [h]⟩
theorem bytesLess_map : ∀ {a b : List Int}, a.all byteZ = true → b.all byteZ = true → Op.bytesLess (a.map fun z => UInt8.ofNat z.toNat) (b.map fun z => UInt8.ofNat z.toNat) = ltL a b
  | _, [], _, _ => by simp [Op.bytesLess, ltL]
  | [], _ :: _, _, _ => by simp [Op.bytesLess, ltL]
  | x :: a, y :: b, ha, hb => by
    simp only [List.all_cons, Bool.and_eq_true] at ha hb
    simp only [List.map_cons, Op.bytesLess, ltL, bytesLess_map ha.2 hb.2]
    congr 1
    · rw [Bool.eq_iff_iff]; simp only [decide_eq_true_eq]; exact byteZ_lt ha.1 hb.1
    · congr 1
      rw [Bool.eq_iff_iff]; simp only [beq_iff_eq, decide_eq_true_eq]
      exact ⟨byteZ_inj ha.1 hb.1, fun h => by rw [h]⟩
theorem ltL_total : ∀ (a b : List Int), (ltL a b || decide (a = b)) = !(ltL b a)
  | [], [] => by simp [ltL]
  | [], _ :: _ => by simp [ltL]
  | _ :: _, [] => by simp [ltL]
  | x :: a, y :: b => by
    have ih := ltL_total a b
    simp only [ltL]
    rcases Int.lt_trichotomy x y with h | h | h
    · simp [h, show ¬ y < x by omega, show ¬ y = x by omega]
    · subst h
      simp only [Int.lt_irrefl, decide_false, Bool.false_or, decide_true, Bool.true_and, List.cons.injEq, true_and]
      exact ih
    · simp [h, show ¬ x < y by omega, show ¬ x = y by omega]
theorem lts_iff {a b : List Int} : ltL a b = true ↔ LtS a b := ⟨fun h => ⟨h⟩, fun h => h.out⟩
theorem all_byte_append {a b : List Int} (ha : a.all byteZ = true) (hb : b.all byteZ = true) : (a ++ b).all byteZ = true := by rw [List.all_append, ha, hb]; rfl
theorem all_byte_sub {a b : List Int} (h : a.all byteZ = true) (hs : ∀ x ∈ b, x ∈ a) : b.all byteZ = true := by
  rw [List.all_eq_true] at h ⊢
  exact fun x hx => h x (hs x hx)

theorem newS_ok {l : List Int} {s : Sem Value} {K : AV → Held → Prop} (h : newS l K) (hb : l.all byteZ = true) (hs : ∀ w', s.run P w' = .ok (.string (strZ l)) w') : QOk P e σ s K :=
  QOk.nil (h l rfl) _ (strC_av hb e) hs

theorem strOp_ok {op : BinOp} {a b : List Int} {T : QT} {K : AV → Held → Prop} (h : strOp op a b = some T) (hK : T K) (ha : a.all byteZ = true) (hb : b.all byteZ = true) (t : TypeId) :
    QOk P e σ (binOp op t (.string (strZ a)) (.string (strZ b))) K := by
  have l1 : Op.bytesLess (strZ a).toList (strZ b).toList = ltL a b := by rw [strZ_toList, strZ_toList]; exact bytesLess_map ha hb
  have e1 := strZ_eq ha hb
  unfold strOp at h
  split at h <;> simp only [Option.some.injEq, reduceCtorEq] at h <;> subst h
  · obtain ⟨h1, hK⟩ := hK
    refine newS_ok hK (all_byte_append ha hb) (fun w' => ?_)
    have : ¬ (((strZ a).size + (strZ b).size : Nat) : Int) > IntKind.i64.max := by
      rw [strZ_size, strZ_size]
      have : IntKind.i64.max = 9223372036854775807 := by decide
      omega
    simp only [binOp, Op.stringOp, if_neg this, strZ_append, Sem.run_pure]
  · exact splitI_ok hK (decide (a = b)) (by simp) (fun w' => by simp [binOp, Op.stringOp, e1])
  · exact splitI_ok hK (!decide (a = b)) (by simp) (fun w' => by simp [binOp, Op.stringOp, e1])
  · exact splitI_ok hK (ltL a b) lts_iff (fun w' => by simp [binOp, Op.stringOp, l1])
  · refine splitI_ok hK (!ltL b a) (by rw [Bool.not_eq_true', ← Bool.not_eq_true, lts_iff]) (fun w' => ?_)
    simp only [binOp, Op.stringOp, l1, e1, ltL_total, Sem.run_pure]
  · refine splitI_ok hK (ltL b a) lts_iff (fun w' => ?_)
    simp only [binOp, Op.stringOp, l1, e1, ltL_total, Sem.run_pure, Bool.not_not]
  · exact splitI_ok hK (!ltL a b) (by rw [Bool.not_eq_true', ← Bool.not_eq_true, lts_iff]) (fun w' => by simp [binOp, Op.stringOp, l1])

theorem strZ_extract (l : List Int) (a b : Nat) (hb : b ≤ l.length) : (strZ l).extract a b = strZ ((l.drop a).take (b - a)) := by
  apply ByteArray.ext
  rw [ByteArray.data_extract]
  apply Array.ext'
  simp [strZ, List.map_drop, List.map_take, List.extract_eq_take_drop]
theorem strZ_get (l : List Int) (i : Nat) (h : i < l.length) : (strZ l)[i]? = some (UInt8.ofNat (l.getD i 0).toNat) := by
  have hs : i < (strZ l).size := by rw [strZ_size]; exact h
  have : (strZ l)[i]? = some (strZ l)[i] := getElem?_pos (strZ l) i hs
  rw [this]
  congr 1
  show (strZ l).data[i] = _
  simp [strZ, List.getD_eq_getElem?_getD, List.getElem?_eq_getElem h]

theorem foldX_ok (f2 : Value → Value → Sem Value) (f : Int → Int → Int) (hf : ∀ k x y (w : World), (f2 (.int k x) (.int k y)).run P w = .ok (.int k (f x y)) w) {k : IntKind} : ∀ {l : List AV} {vs : List Value} {a r : Int}, foldX f k a l = some r → l.map (av e) = vs.map some →
    ∀ w, (vs.foldlM f2 (.int k a)).run P w = .ok (.int k r) w
  | [], [], a, r, h, _, w => by simp [foldX] at h; subst h; rfl
  | [], _ :: _, a, r, _, hv, w => by simp at hv
  | _ :: _, [], a, r, _, hv, w => by simp at hv
  | x :: l, v :: vs, a, r, h, hv, w => by
    simp only [foldX] at h
    simp only [List.map_cons, List.cons.injEq] at hv
    split at h
    · rename_i k' b hb
      split at h
      · rename_i hk
        simp at hk; subst hk
        have := intX_ok hb hv.1
        subst this
        simp only [List.foldlM_cons, Sem.run_bind, hf, Result.andThen_ok]
        exact foldX_ok f2 f hf h hv.2 w
      · cases h
    · cases h

theorem cellsV1_ok {x : AV} {cs : List Cell} {v : Value} (h : cellsV1 x = some cs) (hv : av e x = some v) : ∃ vs : List Value, cs.map (cv e) = vs.map some ∧ v = .agg vs.toArray ∧ x = .inl (.inr cs) := by
  unfold cellsV1 at h
  split at h
  · simp at h; subst h
    obtain ⟨vs, h1, h2⟩ := av_agg hv
    exact ⟨vs, h1, h2, rfl⟩
  · cases h

theorem part_agg {t : TypeId} {n : Nat} (ha : isAggT P t = some true) (hs : sizeT P t = some n) (vs : List Value) (off : Nat) (w : World) : (part t vs.toArray off).run P w = .ok (.agg ((vs.drop off).take n).toArray) w := by
  simp only [part, Sem.run_bind, run_isAggT ha, Result.andThen_ok, if_true, run_sizeT hs, Sem.run_pure]
  congr 2
  apply Array.ext'
  simp [List.extract_eq_take_drop]
theorem part_one {t : TypeId} (ha : isAggT P t = some false) (vs : List Value) (off : Nat) {v : Value} (hv : vs[off]? = some v) (w : World) : (part t vs.toArray off).run P w = .ok v w := by
  have : vs.toArray[off]? = some v := by simpa using hv
  simp only [part, Sem.run_bind, run_isAggT ha, Result.andThen_ok, Bool.false_eq_true, if_false, this, Sem.run_pure]

theorem eqX_ok : ∀ (n d : Nat) (t : TypeId) (x y : AV) (p : Prop) (vx vy : Value), n ≤ d → eqX P n t x y = some p → av e x = some vx → av e y = some vy → ∃ b : Bool, (b = true ↔ p) ∧ ∀ w, (Op.equalIn d t vx vy).run P w = .ok b w
  | 0, _, _, _, _, _, _, _, _, h, _, _ => by simp [eqX] at h
  | n + 1, 0, _, _, _, _, _, _, hd, _, _, _ => by omega
  | n + 1, d + 1, t, x, y, p, vx, vy, hd, h, hx, hy => by
    simp only [eqX] at h
    split at h
    · rename_i k0 hu
      split at h
      · rename_i k a k' b ha hb
        split at h
        · rename_i hk
          simp at hk; subst hk
          simp only [Option.some.injEq] at h; subst h
          rw [intX_ok ha hx, intX_ok hb hy]
          exact ⟨a == b, by simp, fun w => run_equalIn_int w d t k k0 a b hu⟩
        · cases h
      · cases h
    · rename_i hu
      split at h
      · simp only [Option.some.injEq] at h; subst h
        rw [av_lit hx, av_lit hy]
        exact ⟨_, Iff.rfl, fun w => run_equalIn_bool' w d t _ _ hu⟩
      · cases h
    · rename_i hu
      split at h
      · rename_i a b ha hb
        simp only [Option.some.injEq] at h; subst h
        obtain ⟨rfl, h1⟩ := strX_ok ha hx
        obtain ⟨rfl, h2⟩ := strX_ok hb hy
        exact ⟨decide (a = b), by simp, fun w => by rw [run_equalIn_string w d t _ _ hu, strZ_eq h1 h2]⟩
      · cases h
    · rename_i fs hu
      split at h
      · cases h
      · rename_i hst
        split at h
        · rename_i cs ds hcs hds
          obtain ⟨us, u1, rfl, rfl⟩ := cellsV1_ok hcs hx
          obtain ⟨vs, v1, rfl, rfl⟩ := cellsV1_ok hds hy
          have hfo : P.fieldsOf t = fs := by simp [Program.fieldsOf, hu]
          have hst : P.stoodInHeld t = false := by simpa using hst
          have key : ∀ (l : List Field) (p : Prop), l.foldr (fun f r => match r, f.name == "_", isAggT P f.type, sizeT P f.type with
              | some p, false, some true, some n' => (match eqX P n f.type (.inl (.inr ((cs.drop f.offset).take n'))) (.inl (.inr ((ds.drop f.offset).take n'))) with
                | some q => some (q ∧ p)
                | none => none)
              | some p, false, some false, some _ => (match cs[f.offset]?, ds[f.offset]? with
                | some c, some c' => (match eqX P n f.type (cell c) (cell c') with
                  | some q => some (q ∧ p)
                  | none => none)
                | _, _ => none)
              | _, _, _, _ => none) (some True) = some p → ∃ b : Bool, (b = true ↔ p) ∧ ∀ w, (Op.eqFields d us.toArray vs.toArray l).run P w = .ok b w := by
            intro l
            induction l with
            | nil => intro p h; simp only [List.foldr_nil, Option.some.injEq] at h; subst h; exact ⟨true, by simp, fun w => rfl⟩
            | cons f l ih =>
              intro p h
              simp only [List.foldr_cons] at h
              have step : ∀ (va vb : Value) (b1 b2 : Bool), (f.name == "_") = false → (∀ w, (part f.type us.toArray f.offset).run P w = .ok va w) → (∀ w, (part f.type vs.toArray f.offset).run P w = .ok vb w) →
                  (∀ w, (Op.equalIn d f.type va vb).run P w = .ok b1 w) → (∀ w, (Op.eqFields d us.toArray vs.toArray l).run P w = .ok b2 w) → ∀ w, (Op.eqFields d us.toArray vs.toArray (f :: l)).run P w = .ok (b1 && b2) w := by
                intro va vb b1 b2 hn h1 h2 h3 h4 w
                have hn' : f.name ≠ "_" := by simpa using hn
                simp only [Op.eqFields, if_pos hn', Sem.run_bind, h1, Result.andThen_ok, h2, h3]
                cases b1
                · simp
                · simp [h4]
              split at h
              · rename_i p' n' hr hn ha hs
                split at h
                · rename_i q hq
                  simp only [Option.some.injEq] at h; subst h
                  obtain ⟨b2, hb2, r2⟩ := ih p' hr
                  have hx' : av e (.inl (.inr ((cs.drop f.offset).take n'))) = some (.agg ((us.drop f.offset).take n').toArray) := av_agg_mk (by rw [List.map_take, List.map_drop, u1]; simp)
                  have hy' : av e (.inl (.inr ((ds.drop f.offset).take n'))) = some (.agg ((vs.drop f.offset).take n').toArray) := av_agg_mk (by rw [List.map_take, List.map_drop, v1]; simp)
                  obtain ⟨b1, hb1, r1⟩ := eqX_ok n d f.type _ _ q _ _ (by omega) hq hx' hy'
                  exact ⟨b1 && b2, by rw [Bool.and_eq_true, hb1, hb2], step _ _ b1 b2 hn (part_agg ha hs us f.offset) (part_agg ha hs vs f.offset) r1 r2⟩
                · cases h
              · rename_i p' n' hr hn ha hs
                split at h
                · rename_i c c' hc hc'
                  split at h
                  · rename_i q hq
                    simp only [Option.some.injEq] at h; subst h
                    obtain ⟨b2, hb2, r2⟩ := ih p' hr
                    obtain ⟨va, g1, g2⟩ := map_get u1 hc
                    obtain ⟨vb, g3, g4⟩ := map_get v1 hc'
                    obtain ⟨b1, hb1, r1⟩ := eqX_ok n d f.type (cell c) (cell c') q va vb (by omega) hq g2 g4
                    exact ⟨b1 && b2, by rw [Bool.and_eq_true, hb1, hb2], step _ _ b1 b2 hn (part_one ha us f.offset g1) (part_one ha vs f.offset g3) r1 r2⟩
                  · cases h
                · cases h
              · cases h
          obtain ⟨b, hb, hr⟩ := key fs.toList p h
          refine ⟨b, hb, fun w => ?_⟩
          rw [run_equalIn_struct w d t us.toArray vs.toArray (by rw [hfo]; exact hu) hst, hfo]
          exact hr w
        · cases h
    · cases h

theorem aggOp_ok {op : BinOp} {t : TypeId} {x y : AV} {ox oy : Operand} {vx vy : Value} {T : QT} {K : AV → Held → Prop} (h : aggOp P op t x y = some T) (hK : T K) (hx : av e x = some vx) (hy : av e y = some vy) :
    (∀ w, (eqGuard op t ox oy vx vy).run P w = .ok () w) ∧ QOk P e σ (binOp op t vx vy) K := by
  unfold aggOp at h
  split at h
  · rename_i cs ds hcs hds
    obtain ⟨us, u1, rfl, rfl⟩ := cellsV1_ok hcs hx
    obtain ⟨vs, v1, rfl, rfl⟩ := cellsV1_ok hds hy
    split at h
    · cases h
    · rename_i hg
      have hg : P.eqGuardType P.depth t = false := by simpa using hg
      refine ⟨fun w => run_eqGuard_agg w op t ox oy _ _ hg, ?_⟩
      split at h
      · rename_i p hp
        obtain ⟨b, hb, hr⟩ := eqX_ok 30 10000 t _ _ p _ _ (by omega) hp hx hy
        split at h <;> simp only [Option.some.injEq, reduceCtorEq] at h <;> subst h
        · exact splitI_ok hK b hb (fun w' => by rw [run_eql_struct, hr]; rfl)
        · exact splitI_ok hK (!b) (by rw [Bool.not_eq_true', ← Bool.not_eq_true, hb]) (fun w' => by rw [run_neq_struct, hr]; rfl)
      · cases h
  · cases h
end
end Reck
