/- Parts of a proof, one behind the other: H0 SC LS0 LS1 LS2 LS3. No condition. -/
import Derived.Test.YtdlmiebiineabaaDoorRkN
import Derived.Test.YtdlmiebiineabaaDoorRkO
import Derived.Test.YtdlmiebiineabaaDoorProg
import Derived.Shelf.Pu.Clone
section
set_option linter.unusedVariables false
namespace Go.Proofs.YtdlmiebiineabaaDoor
open Go Reck

theorem names : namesOk Tryd.prog = true := by kernel_rfl
def slotS (tm : List AV) (t : Nat) : ASl :=
  match aslX (tm.getD t (lit undef)) with
  | some s => s
  | none => ⟨0, 0, 0, 0⟩
def slotA (tm : List AV) (t : Nat) (σ : St) : List Int :=
  match getArr σ (slotS tm t).a with
  | some b => b.l
  | none => []
def isAsl (v : AV) : Bool := (aslX v).isSome
def isXint (v : AV) : Bool :=
  match v with
  | .inl (.inl (.inr (.inr (.inr (.inr (.inr (.inr (.inl _)))))))) => true
  | _ => false
def xiX : AV → Option (IntKind × Int)
  | .inl (.inl (.inr (.inr (.inr (.inr (.inr (.inr (.inl p)))))))) => some p
  | _ => none
theorem xiX_eq {x : AV} {k : IntKind} {n : Int} (h : xiX x = some (k, n)) : x = xi k n := by
  unfold xiX at h
  split at h
  · simp only [Option.some.injEq] at h; subst h; rfl
  · cases h
def tbl0 : Tbl := fun _ _ _ => none
theorem tbl0_ok : TblOk Tryd.prog tbl0 := by intro f tm σ C h; cases h
abbrev InvF := Code → List AV → St → Option Inv
def inv0 : InvF := fun _ _ _ => none
abbrev runI (inv : InvF) (tbl : Tbl) (f : Nat) (args : List AV) (σ : St) (K : AV → St → Prop) : Prop := goT Tryd.prog [] (orcOf inv tbl) (opMem Tryd.prog) 3000 (.inr (.inr (.inr (.inr f)))) args σ (retC σ K)
abbrev runL (inv : InvF) (tbl : Tbl) (f : Nat) (args : List AV) (σ : St) : Prop := goT Tryd.prog [] (orcOf inv tbl) (opMem Tryd.prog) 3000 (.inr (.inr (.inr (.inr f)))) args σ isTrue
def bs (L : List Int) (cap : Nat) (ro : Bool) : ABlk := ⟨5, .n .u8, L, cap, ro⟩
def ar (l : List ABlk) : St := ⟨[], [], 0, l.map some, 0⟩
theorem noOv : ([] : List FuncId).all (isOverlaps Tryd.prog) = true := rfl
def tblOr (a b : Tbl) : Tbl := fun f args σ => match a f args σ with
  | some c => some c
  | none => b f args σ
theorem tblOr_ok {P : Program} {a b : Tbl} (ha : TblOk P a) (hb : TblOk P b) : TblOk P (tblOr a b) := by
  intro f tm σ C h
  unfold tblOr at h
  split at h
  · rename_i c hc; simp only [Option.some.injEq] at h; subst h; exact ha f tm σ c hc
  · exact hb f tm σ C h
theorem bytes_wf {zs : List Int} (h : ∀ n ∈ zs, (Lit.int .u8 n).wf = true) : ∀ n ∈ zs, 0 ≤ n ∧ n < 256 := fun n hn => by
  have := h n hn
  simp [Lit.wf, IntKind.min, IntKind.max, IntKind.signed, IntKind.bits] at this
  omega
end Go.Proofs.YtdlmiebiineabaaDoor
end

section
set_option linter.unusedVariables false
set_option maxRecDepth 100000
namespace Go.Proofs.YtdlmiebiineabaaDoor
open Go Reck Ost
def cloneRen : Go.Shelf.Ren := ⟨fun _ => 23, fun t => match t with
  | 0 => 0
  | 3 => 3
  | 4 => 4
  | 5 => 5
  | 9 => 9
  | 37 => 52
  | 47 => 55
  | t => t, fun g => g⟩
theorem cloneLays : LaysPu.n25 Tryd.prog cloneRen := by
  refine ⟨?_, ?_, ?_, ?_, ?_, ?_, ?_, ?_, ?_, ?_, ?_, ?_, ?_, ?_, ?_, ?_, ?_, ?_, ?_, ?_, ?_, ?_, ?_, ?_, ?_, ?_, ?_, ?_, ?_, ?_, ?_, ?_, ?_, ?_, ?_, ?_, ?_⟩
  all_goals (first | (intro w; kernel_rfl) | kernel_rfl)
def bigStr : Nat := 281474976710656
def tClone : Tbl := fun f args σ => if f == 23 then match args with
    | [.inl (.inl (.inl (.string s)))] => if Nat.ble s.size bigStr then some fun K => K (.inl (.inl (.inl (.string s)))) σ else none
    | [.inl (.inl (.inr (.inr (.inr (.inr (.inr (.inr (.inr (.inr (.inr (.inr (.inl l))))))))))))] => some fun K => l.length ≤ 281474976710656 ∧ K (cell (strC l)) σ
    | _ => none
  else none
theorem tClone_ok : TblOk Tryd.prog tClone := by
  intro f tm σ C h K hK w0 e w hk vs hvs
  unfold tClone at h
  split at h
  · rename_i hf
    obtain rfl : f = 23 := by simpa using hf
    have go : ∀ (s : ByteArray), s.size ≤ 281474976710656 → Calls Tryd.prog 23 #[.string s] w fun en w' => en = .returned (.string s) ∧ Only (fun _ => False) w w' := by
      intro s hs
      refine (AnyPu.stringslite_Clone cloneLays s w hs).mono ?_
      rintro en w' ⟨h1, h2⟩
      exact ⟨h1, ⟨h2.os, h2.tape, h2.output, h2.size, fun k hk _ => h2.block k hk⟩⟩
    split at h
    · rename_i s
      split at h
      · rename_i hb
        simp only [Option.some.injEq] at h; subst h
        have hb : s.size ≤ 281474976710656 := by simpa [bigStr] using hb
        obtain ⟨v, rfl⟩ : ∃ v, vs = [v] := by
          match vs, map_len hvs with
          | [v], _ => exact ⟨v, rfl⟩
        simp only [List.map_cons, List.map_nil, List.cons.injEq, and_true] at hvs
        obtain rfl := av_lit hvs
        refine (go s hb).mono ?_
        rintro en w' ⟨rfl, h2⟩
        exact ⟨_, _, e, _, rfl, Env.le.refl e, hvs, hk.world h2, hK⟩
      · cases h
    · rename_i l
      simp only [Option.some.injEq] at h; subst h
      obtain ⟨v, rfl⟩ : ∃ v, vs = [v] := by
        match vs, map_len hvs with
        | [v], _ => exact ⟨v, rfl⟩
      simp only [List.map_cons, List.map_nil, List.cons.injEq, and_true] at hvs
      obtain ⟨rfl, hb⟩ := strX_ok (l := l) rfl hvs
      refine (go (strZ l) (by rw [strZ_size]; exact hK.1)).mono ?_
      rintro en w' ⟨rfl, h2⟩
      exact ⟨_, _, e, _, rfl, Env.le.refl e, hvs, hk.world h2, hK.2⟩
    · cases h
  · cases h
end Go.Proofs.YtdlmiebiineabaaDoor
end

section
set_option linter.unusedVariables false
set_option linter.unusedSimpArgs false
namespace Go.Proofs.YtdlmiebiineabaaDoor
open Go Reck
def U.alnum (c : Int) : Bool := decide ((97 ≤ c ∧ c ≤ 122) ∨ (48 ≤ c ∧ c ≤ 57))
def U.dig (c : Int) : Bool := decide (48 ≤ c ∧ c ≤ 57)
def U.blank (c : Int) : Bool := decide (c = 32 ∨ c = 9 ∨ c = 10 ∨ c = 13)
def U.sign1 (c : Int) : Bool := decide (c = 61 ∨ c = 44 ∨ c = 59 ∨ c = 38 ∨ c = 33 ∨ c = 58 ∨ c = 45)
def U.runN (l : List Int) : Nat := (l.takeWhile U.alnum).length
def U.alld (l : List Int) : Bool := l.all U.dig
/-- How many bytes the sign has with which a text begins, 0 if it begins with none. -/
def U.signN (l : List Int) : Nat :=
  match l with
  | c :: d :: _ => if c = 45 ∧ d = 62 then 2 else if U.sign1 c then 1 else 0
  | [c] => if U.sign1 c then 1 else 0
  | [] => 0
def U.num (l : List Int) : Int := l.foldl (fun a c => a * 10 + (c - 48)) 0
/-- What a run is: 1, 2, or 0; or why it is none. -/
def U.kind (w : List Int) : Int × Int :=
  if w = [] then (0, 20) else if ¬ U.dig (w.getD 0 0) then (if 16 < w.length then (0, 6) else (1, 0))
  else if ¬ U.alld w then (0, 20) else if 6 < w.length then (0, 6) else if w.getD 0 0 = 48 ∧ 1 < w.length then (0, 20) else (2, 0)
/-- What stands where no blank is: why nothing does, how many bytes, which kind, which number. -/
structure TK where
  e : Int
  n : Nat
  k : Int
  z : Int
def U.tk (l : List Int) : TK :=
  if U.signN l ≠ 0 then ⟨0, U.signN l, 3, 0⟩ else
  let w := l.takeWhile U.alnum
  if (U.kind w).2 ≠ 0 then ⟨(U.kind w).2, 0, 0, 0⟩ else ⟨0, w.length, (U.kind w).1, if (U.kind w).1 = 2 then U.num w else 0⟩
/-- A text with blanks in place of its remarks; o: it begins within one. -/
def U.bare : Bool → List Int → List Int
  | _, [] => []
  | o, c :: l => if c = 10 then 10 :: U.bare false l else if c = 35 ∨ o then 32 :: U.bare true l else c :: U.bare false l
/-- The tokens from a place on, behind those that are there. -/
inductive U.Lexed : Nat → List Int → List (List CV) → List (List CV) → Int → Int → Prop
  | stop (i : Nat) (acc : List (List CV)) : U.Lexed i [] acc acc 0 0
  | skip (i : Nat) (c : Int) (l : List Int) (acc R : List (List CV)) (p e : Int) : U.blank c = true → U.Lexed (i + 1) l acc R p e → U.Lexed i (c :: l) acc R p e
  | tok (i : Nat) (c : Int) (l : List Int) (acc R : List (List CV)) (p e : Int) : U.blank c = false → (U.tk (c :: l)).e = 0 →
      U.Lexed (i + (U.tk (c :: l)).n) ((c :: l).drop (U.tk (c :: l)).n) (acc ++ [[.i (U.tk (c :: l)).k, .s ((c :: l).take (U.tk (c :: l)).n), .i (U.tk (c :: l)).z, .i i]]) R p e → U.Lexed i (c :: l) acc R p e
  | bad (i : Nat) (c : Int) (l : List Int) (acc : List (List CV)) : U.blank c = false → (U.tk (c :: l)).e ≠ 0 → U.Lexed i (c :: l) acc [] i (U.tk (c :: l)).e

theorem Lexed.det {i : Nat} {l : List Int} {acc R R' : List (List CV)} {p e p' e' : Int} (h : U.Lexed i l acc R p e) (h' : U.Lexed i l acc R' p' e') : R = R' ∧ p = p' ∧ e = e' := by
  induction h with
  | stop i acc => cases h'; exact ⟨rfl, rfl, rfl⟩
  | skip i c l acc R p e hb _ ih =>
    cases h' with
    | skip _ _ _ _ _ _ _ _ h => exact ih h
    | tok _ _ _ _ _ _ _ hb' => rw [hb] at hb'; cases hb'
    | bad _ _ _ _ hb' => rw [hb] at hb'; cases hb'
  | tok i c l acc R p e hb he _ ih =>
    cases h' with
    | skip _ _ _ _ _ _ _ hb' => rw [hb] at hb'; cases hb'
    | tok _ _ _ _ _ _ _ _ _ h => exact ih h
    | bad _ _ _ _ _ he' => exact absurd he he'
  | bad i c l acc hb he =>
    cases h' with
    | skip _ _ _ _ _ _ _ hb' => rw [hb] at hb'; cases hb'
    | tok _ _ _ _ _ _ _ _ he' => exact absurd he' he
    | bad => exact ⟨rfl, rfl, rfl⟩

theorem getD_cons_zero (c : Int) (l : List Int) : (c :: l).getD 0 0 = c := rfl
theorem runN_cons (c : Int) (l : List Int) : U.runN (c :: l) = if U.alnum c then U.runN l + 1 else 0 := by
  unfold U.runN
  rw [List.takeWhile_cons]
  split <;> simp
theorem runN_le (l : List Int) : U.runN l ≤ l.length := by
  induction l with
  | nil => simp [U.runN]
  | cons c l ih => rw [runN_cons]; split <;> simp <;> omega
theorem takeW_eq (l : List Int) : l.takeWhile U.alnum = l.take (U.runN l) := by
  induction l with
  | nil => rfl
  | cons c l ih => rw [runN_cons, List.takeWhile_cons]; split <;> simp [ih]
/-- Where a run ends. -/
theorem runN_of : ∀ (l : List Int) (n : Nat), n ≤ l.length → (∀ j, j < n → U.alnum (l.getD j 0) = true) → (n = l.length ∨ U.alnum (l.getD n 0) = false) → U.runN l = n
  | [], n, h, _, _ => by simp at h; subst h; rfl
  | c :: l, 0, _, _, h => by
    rw [runN_cons]
    rcases h with h | h
    · simp at h
    · rw [getD_cons_zero] at h; rw [h]; rfl
  | c :: l, n + 1, hn, ha, h => by
    rw [runN_cons]
    have h0 := ha 0 (by omega)
    rw [getD_cons_zero] at h0
    rw [h0, if_pos rfl, runN_of l n (by simpa using hn) (fun j hj => by simpa using ha (j + 1) (by omega)) (by simpa using h)]

/-! ### Remarks -/
theorem bare_len : ∀ (o : Bool) (l : List Int), (U.bare o l).length = l.length
  | _, [] => rfl
  | o, c :: l => by
    unfold U.bare
    split
    · simp [bare_len false l]
    · split <;> simp [bare_len _ l]
theorem bare_cons (o : Bool) (c : Int) (l : List Int) : U.bare o (c :: l) = if c = 10 then 10 :: U.bare false l else if c = 35 ∨ o then 32 :: U.bare true l else c :: U.bare false l := rfl
theorem bare_head (c : Int) (l : List Int) (h : c ≠ 35) : U.bare false (c :: l) = c :: U.bare false l := by
  rw [bare_cons]
  split
  · rename_i hc; rw [hc]
  · rw [if_neg (by simp [h])]
theorem bare_run : ∀ (l : List Int), (U.bare false l).takeWhile U.alnum = l.takeWhile U.alnum ∧ (U.bare false l).drop (U.runN l) = U.bare false (l.drop (U.runN l))
  | [] => ⟨rfl, rfl⟩
  | c :: l => by
    rw [runN_cons]
    by_cases h35 : c = 35
    · subst h35
      have h1 : U.alnum 35 = false := by decide
      have h2 : U.alnum 32 = false := by decide
      rw [bare_cons, if_neg (by decide), if_pos (Or.inl rfl), List.takeWhile_cons, List.takeWhile_cons, h1, h2]
      refine ⟨rfl, ?_⟩
      simp only [Bool.false_eq_true, if_false, List.drop_zero]
      rw [bare_cons, if_neg (by decide), if_pos (Or.inl rfl)]
    · rw [bare_head c l h35, List.takeWhile_cons, List.takeWhile_cons]
      obtain ⟨g1, g2⟩ := bare_run l
      by_cases ha : U.alnum c = true
      · simp only [ha, if_true, g1]
        exact ⟨trivial, by rw [List.drop_succ_cons, List.drop_succ_cons]; exact g2⟩
      · have ha : U.alnum c = false := by simpa using ha
        simp only [ha]
        refine ⟨rfl, ?_⟩
        simp only [Bool.false_eq_true, if_false, List.drop_zero]
        rw [bare_head c l h35]
/-- What stands at a place is the same with blanks for remarks, but where one begins. -/
theorem signN_bare (c : Int) (l : List Int) (h : c ≠ 35) : U.signN (U.bare false (c :: l)) = U.signN (c :: l) := by
  rw [bare_head c l h]
  cases l with
  | nil => rfl
  | cons d l =>
    rw [bare_cons]
    by_cases h10 : d = 10
    · subst h10; simp [U.signN]
    · rw [if_neg h10]
      by_cases h35 : d = 35
      · subst h35; simp [U.signN]
      · rw [if_neg (by simp [h35])]; rfl
theorem tk_bare (c : Int) (l : List Int) (h : c ≠ 35) : U.tk (U.bare false (c :: l)) = U.tk (c :: l) := by
  unfold U.tk
  rw [signN_bare c l h, (bare_run (c :: l)).1]
/-- A token's bytes are no remark. -/
theorem tok_bare (c : Int) (l : List Int) (h : c ≠ 35) (he : (U.tk (c :: l)).e = 0) : (U.bare false (c :: l)).take (U.tk (c :: l)).n = (c :: l).take (U.tk (c :: l)).n ∧ (U.bare false (c :: l)).drop (U.tk (c :: l)).n = U.bare false ((c :: l).drop (U.tk (c :: l)).n) := by
  by_cases hs : U.signN (c :: l) ≠ 0
  · have hn : (U.tk (c :: l)).n = U.signN (c :: l) := by unfold U.tk; rw [if_pos hs]
    rw [hn, bare_head c l h]
    cases l with
    | nil =>
      have : U.signN [c] = 1 := by unfold U.signN at hs ⊢; dsimp only at hs ⊢; split at hs <;> simp_all
      rw [this]; simp [U.bare]
    | cons d l =>
      unfold U.signN at hs ⊢
      dsimp only at hs ⊢
      by_cases h2 : c = 45 ∧ d = 62
      · obtain ⟨rfl, rfl⟩ := h2
        rw [if_pos (by simp), bare_head 62 l (by decide)]
        simp
      · rw [if_neg h2] at hs ⊢
        split at hs
        · rename_i h3; rw [if_pos h3]; simp
        · simp at hs
  · have hs' : U.signN (c :: l) = 0 := by omega
    have hn : (U.tk (c :: l)).n = U.runN (c :: l) := by
      unfold U.tk at he ⊢
      rw [if_neg hs] at he ⊢
      dsimp only at he ⊢
      split at he
      · rename_i h1; exact absurd he h1
      · rename_i h1; rw [if_neg h1]; rfl
    rw [hn, ← takeW_eq (c :: l)]
    obtain ⟨g1, g2⟩ := bare_run (c :: l)
    refine ⟨?_, g2⟩
    rw [← g1, takeW_eq (U.bare false (c :: l))]
    congr 1
    unfold U.runN; rw [g1]
end Go.Proofs.YtdlmiebiineabaaDoor
end

section
namespace Go.Proofs.YtdlmiebiineabaaDoor
open Go Reck
set_option linter.unusedVariables false
def slotT (tm : List AV) (t : Nat) : List Int :=
  match strX (tm.getD t (lit undef)) with
  | some l => l
  | none => []
structure U.runI (l : List Int) (n : Int) : Prop where
  lo : 0 ≤ n ∧ n ≤ l.length
  al : ∀ j : Nat, (j : Int) < n → U.alnum (l.getD j 0) = true
structure U.digI (l : List Int) (n : Int) : Prop where
  lo : 0 ≤ n ∧ n ≤ l.length
  al : ∀ j : Nat, (j : Int) < n → U.dig (l.getD j 0) = true
structure U.inI (c : Int) (l : List Int) (n : Int) : Prop where
  lo : 0 ≤ n ∧ n ≤ l.length
  al : ∀ j : Nat, (j : Int) < n → ¬ l.getD j 0 = c
structure U.passI (s : List Int) (a0 : Int) (t : Nat) (n : Int) : Prop where
  lo : a0 ≤ n ∧ n ≤ s.length
  go : ∀ (acc R : List (List CV)) (p e : Int), U.Lexed n.toNat (U.bare (Nat.beq t 1) (s.drop n.toNat)) acc R p e → U.Lexed a0.toNat (U.bare false (s.drop a0.toNat)) acc R p e
def oneInv (c : Code) (tm : List AV) (t : Nat) (I : Int → Prop) (L : Nat) : Inv where
  X := Int
  tags := [0]
  tag _ _ := 0
  J := wrBut [t] c
  val _ x := [(t, xi .i64 x)]
  st _ _ σ' := σ'
  I _ x := I x
  m _ x := L - x.toNat
  ren := noRen
def passInv (c : Code) (tm : List AV) : Inv where
  X := Int
  tags := [0, 1]
  tag := boolAt 5
  J := wrBut [1, 5] c
  val t x := [(1, xi .i64 x), (5, tagB t)]
  st _ _ σ' := σ'
  I t x := U.passI (slotT tm 0) (slotI tm 1) t x
  m _ x := (slotT tm 0).length - x.toNat
  ren := noRen
def invLS1 : InvF := fun c tm σ => match tm.length, firstReg c with
  | 27, some 2 => some (passInv c tm)
  | 23, some 2 => some (oneInv c tm 3 (U.runI (slotT tm 0)) (slotT tm 0).length)
  | 16, some 2 => some (oneInv c tm 8 (U.digI (slotL tm 6 σ)) (slotL tm 6 σ).length)
  | 17, some 2 => some (oneInv c tm 5 (U.inI (slotI tm 0) (slotT tm 1)) (slotT tm 1).length)
  | _, _ => none
set_option maxRecDepth 100000
--PLAIN
theorem pass_vc (K : AV → St → Prop) (s : List Int) (a : Int) : (runI invLS1 tbl0 13 [cell (strC s), xi .i64 a] emptySt K) = ((∃ (y0 : Int), s = s ∧ a = y0 ∧ U.passI s a ((0 : Nat)) y0) ∧ (∀ (x1 : Int), U.passI s a (0 : Nat) x1 → ∀ (z2 : Int), z2 = (↑(List.length s) : Int) → (x1 < z2 → ((0 : Int) ≤ x1 ∧ x1 < (↑(List.length s) : Int)) ∧ ∀ (z3 : Int), z3 = List.getD s (Int.toNat x1) (0 : Int) → (0 : Int) ≤ z3 → z3 < (256 : Int) → (z3 = (32 : Int) → ∀ (z4 : Int), z4 = IntKind.wrap IntKind.i64 (x1 + (1 : Int)) → ∃ (y5 : Int), s = s ∧ z4 = y5 ∧ U.passI s a ((0 : Nat)) y5 ∧ List.length s - Int.toNat y5 < List.length s - Int.toNat x1) ∧ (¬z3 = (32 : Int) → (z3 = (9 : Int) → ∀ (z6 : Int), z6 = IntKind.wrap IntKind.i64 (x1 + (1 : Int)) → ∃ (y7 : Int), s = s ∧ z6 = y7 ∧ U.passI s a ((0 : Nat)) y7 ∧ List.length s - Int.toNat y7 < List.length s - Int.toNat x1) ∧ (¬z3 = (9 : Int) → (z3 = (13 : Int) → ∀ (z8 : Int), z8 = IntKind.wrap IntKind.i64 (x1 + (1 : Int)) → ∃ (y9 : Int), s = s ∧ z8 = y9 ∧ U.passI s a ((0 : Nat)) y9 ∧ List.length s - Int.toNat y9 < List.length s - Int.toNat x1) ∧ (¬z3 = (13 : Int) → (z3 = (10 : Int) → ∀ (z10 : Int), z10 = IntKind.wrap IntKind.i64 (x1 + (1 : Int)) → ∃ (y11 : Int), s = s ∧ z10 = y11 ∧ U.passI s a ((0 : Nat)) y11 ∧ List.length s - Int.toNat y11 < List.length s - Int.toNat x1) ∧ (¬z3 = (10 : Int) → (z3 = (35 : Int) → ∀ (z12 : Int), z12 = IntKind.wrap IntKind.i64 (x1 + (1 : Int)) → ∃ (y13 : Int), s = s ∧ z12 = y13 ∧ U.passI s a ((1 : Nat)) y13 ∧ List.length s - Int.toNat y13 < List.length s - Int.toNat x1) ∧ (¬z3 = (35 : Int) → K (Sum.inl (Sum.inl (Sum.inr (Sum.inr (Sum.inr (Sum.inr (Sum.inr (Sum.inr (Sum.inl (IntKind.i64, x1)))))))))) { heap := [], ints := [], opqs := (0 : Nat), arrs := [], junks := (0 : Nat) })))))) ∧ (¬x1 < z2 → K (Sum.inl (Sum.inl (Sum.inr (Sum.inr (Sum.inr (Sum.inr (Sum.inr (Sum.inr (Sum.inl (IntKind.i64, x1)))))))))) { heap := [], ints := [], opqs := (0 : Nat), arrs := [], junks := (0 : Nat) })) ∧ ∀ (x14 : Int), U.passI s a (1 : Nat) x14 → ∀ (z15 : Int), z15 = (↑(List.length s) : Int) → (x14 < z15 → ((0 : Int) ≤ x14 ∧ x14 < (↑(List.length s) : Int)) ∧ ∀ (z16 : Int), z16 = List.getD s (Int.toNat x14) (0 : Int) → (0 : Int) ≤ z16 → z16 < (256 : Int) → (z16 = (32 : Int) → ∀ (z17 : Int), z17 = IntKind.wrap IntKind.i64 (x14 + (1 : Int)) → ∃ (y18 : Int), s = s ∧ z17 = y18 ∧ U.passI s a ((1 : Nat)) y18 ∧ List.length s - Int.toNat y18 < List.length s - Int.toNat x14) ∧ (¬z16 = (32 : Int) → (z16 = (9 : Int) → ∀ (z19 : Int), z19 = IntKind.wrap IntKind.i64 (x14 + (1 : Int)) → ∃ (y20 : Int), s = s ∧ z19 = y20 ∧ U.passI s a ((1 : Nat)) y20 ∧ List.length s - Int.toNat y20 < List.length s - Int.toNat x14) ∧ (¬z16 = (9 : Int) → (z16 = (13 : Int) → ∀ (z21 : Int), z21 = IntKind.wrap IntKind.i64 (x14 + (1 : Int)) → ∃ (y22 : Int), s = s ∧ z21 = y22 ∧ U.passI s a ((1 : Nat)) y22 ∧ List.length s - Int.toNat y22 < List.length s - Int.toNat x14) ∧ (¬z16 = (13 : Int) → (z16 = (10 : Int) → ∀ (z23 : Int), z23 = IntKind.wrap IntKind.i64 (x14 + (1 : Int)) → ∃ (y24 : Int), s = s ∧ z23 = y24 ∧ U.passI s a ((0 : Nat)) y24 ∧ List.length s - Int.toNat y24 < List.length s - Int.toNat x14) ∧ (¬z16 = (10 : Int) → (z16 = (35 : Int) → ∀ (z25 : Int), z25 = IntKind.wrap IntKind.i64 (x14 + (1 : Int)) → ∃ (y26 : Int), s = s ∧ z25 = y26 ∧ U.passI s a ((1 : Nat)) y26 ∧ List.length s - Int.toNat y26 < List.length s - Int.toNat x14) ∧ (¬z16 = (35 : Int) → ∀ (z27 : Int), z27 = IntKind.wrap IntKind.i64 (x14 + (1 : Int)) → ∃ (y28 : Int), s = s ∧ z27 = y28 ∧ U.passI s a ((1 : Nat)) y28 ∧ List.length s - Int.toNat y28 < List.length s - Int.toNat x14)))))) ∧ (¬x14 < z15 → K (Sum.inl (Sum.inl (Sum.inr (Sum.inr (Sum.inr (Sum.inr (Sum.inr (Sum.inr (Sum.inl (IntKind.i64, x14)))))))))) { heap := [], ints := [], opqs := (0 : Nat), arrs := [], junks := (0 : Nat) })) := by kernel_rfl
theorem runLen_vc (K : AV → St → Prop) (s : List Int) : (runI invLS1 tbl0 19 [cell (strC s)] emptySt K) = ((∃ (y0 : Int), s = s ∧ (0 : Int) = y0 ∧ U.runI s y0) ∧ ∀ (x1 : Int), U.runI s x1 → ∀ (z2 : Int), z2 = (↑(List.length s) : Int) → (x1 < z2 → ((0 : Int) ≤ x1 ∧ x1 < (↑(List.length s) : Int)) ∧ ∀ (z3 : Int), z3 = List.getD s (Int.toNat x1) (0 : Int) → (0 : Int) ≤ z3 → z3 < (256 : Int) → ((97 : Int) ≤ z3 → (z3 ≤ (122 : Int) → ∀ (z4 : Int), z4 = IntKind.wrap IntKind.i64 (x1 + (1 : Int)) → ∃ (y5 : Int), s = s ∧ z4 = y5 ∧ U.runI s y5 ∧ List.length s - Int.toNat y5 < List.length s - Int.toNat x1) ∧ (¬z3 ≤ (122 : Int) → ((0 : Int) ≤ x1 ∧ x1 < (↑(List.length s) : Int)) ∧ ∀ (z6 : Int), z6 = List.getD s (Int.toNat x1) (0 : Int) → (0 : Int) ≤ z6 → z6 < (256 : Int) → ((48 : Int) ≤ z6 → (z6 ≤ (57 : Int) → ∀ (z7 : Int), z7 = IntKind.wrap IntKind.i64 (x1 + (1 : Int)) → ∃ (y8 : Int), s = s ∧ z7 = y8 ∧ U.runI s y8 ∧ List.length s - Int.toNat y8 < List.length s - Int.toNat x1) ∧ (¬z6 ≤ (57 : Int) → K (Sum.inl (Sum.inl (Sum.inr (Sum.inr (Sum.inr (Sum.inr (Sum.inr (Sum.inr (Sum.inl (IntKind.i64, x1)))))))))) { heap := [], ints := [], opqs := (0 : Nat), arrs := [], junks := (0 : Nat) })) ∧ (¬(48 : Int) ≤ z6 → K (Sum.inl (Sum.inl (Sum.inr (Sum.inr (Sum.inr (Sum.inr (Sum.inr (Sum.inr (Sum.inl (IntKind.i64, x1)))))))))) { heap := [], ints := [], opqs := (0 : Nat), arrs := [], junks := (0 : Nat) }))) ∧ (¬(97 : Int) ≤ z3 → ((0 : Int) ≤ x1 ∧ x1 < (↑(List.length s) : Int)) ∧ ∀ (z9 : Int), z9 = List.getD s (Int.toNat x1) (0 : Int) → (0 : Int) ≤ z9 → z9 < (256 : Int) → ((48 : Int) ≤ z9 → (z9 ≤ (57 : Int) → ∀ (z10 : Int), z10 = IntKind.wrap IntKind.i64 (x1 + (1 : Int)) → ∃ (y11 : Int), s = s ∧ z10 = y11 ∧ U.runI s y11 ∧ List.length s - Int.toNat y11 < List.length s - Int.toNat x1) ∧ (¬z9 ≤ (57 : Int) → K (Sum.inl (Sum.inl (Sum.inr (Sum.inr (Sum.inr (Sum.inr (Sum.inr (Sum.inr (Sum.inl (IntKind.i64, x1)))))))))) { heap := [], ints := [], opqs := (0 : Nat), arrs := [], junks := (0 : Nat) })) ∧ (¬(48 : Int) ≤ z9 → K (Sum.inl (Sum.inl (Sum.inr (Sum.inr (Sum.inr (Sum.inr (Sum.inr (Sum.inr (Sum.inl (IntKind.i64, x1)))))))))) { heap := [], ints := [], opqs := (0 : Nat), arrs := [], junks := (0 : Nat) }))) ∧ (¬x1 < z2 → K (Sum.inl (Sum.inl (Sum.inr (Sum.inr (Sum.inr (Sum.inr (Sum.inr (Sum.inr (Sum.inl (IntKind.i64, x1)))))))))) { heap := [], ints := [], opqs := (0 : Nat), arrs := [], junks := (0 : Nat) })) := by kernel_rfl
theorem digits_vc (K : AV → St → Prop) (s : List Int) : (runI invLS1 tbl0 26 [cell (strC s)] emptySt K) = (∀ (n0 c1 : Nat) (l'2 : List Int), l'2 = s → n0 = List.length s → n0 ≤ c1 → ∀ (z3 : Int), z3 = (↑n0 : Int) → (∃ (y4 : Int), s = s ∧ s = s ∧ ((0 : Nat) = (0 : Nat) ∧ n0 = n0 ∧ c1 = c1) ∧ z3 = z3 ∧ (0 : Int) = y4 ∧ (l'2 = l'2 ∧ c1 = c1 ∧ false = false) ∧ U.digI (List.take n0 (List.drop ((0 : Nat)) l'2)) y4) ∧ ∀ (x5 : Int), U.digI (List.take n0 (List.drop ((0 : Nat)) l'2)) x5 → (x5 < z3 → ((0 : Int) ≤ x5 ∧ x5 < (↑n0 : Int)) ∧ ∀ (j6 : Nat), (↑j6 : Int) = (↑((0 : Nat)) : Int) + x5 → j6 < List.length l'2 ∧ ∀ (z7 : Int), z7 = List.getD l'2 j6 (0 : Int) → ((48 : Int) ≤ z7 → (z7 ≤ (57 : Int) → ∀ (z8 : Int), z8 = IntKind.wrap IntKind.i64 (x5 + (1 : Int)) → ∃ (y9 : Int), s = s ∧ s = s ∧ ((0 : Nat) = (0 : Nat) ∧ n0 = n0 ∧ c1 = c1) ∧ z3 = z3 ∧ z8 = y9 ∧ (l'2 = l'2 ∧ c1 = c1 ∧ false = false) ∧ U.digI (List.take n0 (List.drop ((0 : Nat)) l'2)) y9 ∧ List.length (List.take n0 (List.drop ((0 : Nat)) l'2)) - Int.toNat y9 < List.length (List.take n0 (List.drop ((0 : Nat)) l'2)) - Int.toNat x5) ∧ (¬z7 ≤ (57 : Int) → K (Sum.inl (Sum.inl (Sum.inl (Value.bool false)))) { heap := [], ints := [], opqs := (0 : Nat), arrs := [], junks := (0 : Nat) })) ∧ (¬(48 : Int) ≤ z7 → K (Sum.inl (Sum.inl (Sum.inl (Value.bool false)))) { heap := [], ints := [], opqs := (0 : Nat), arrs := [], junks := (0 : Nat) })) ∧ (¬x5 < z3 → K (Sum.inl (Sum.inl (Sum.inl (Value.bool true)))) { heap := [], ints := [], opqs := (0 : Nat), arrs := [], junks := (0 : Nat) })) := by kernel_rfl
theorem in_vc (K : AV → St → Prop) (c : Int) (s : List Int) : (runI invLS1 tbl0 16 [xi .u8 c, cell (strC s)] emptySt K) = ((∃ (y0 : Int), c = c ∧ s = s ∧ (0 : Int) = y0 ∧ U.inI c s y0) ∧ ∀ (x1 : Int), U.inI c s x1 → ∀ (z2 : Int), z2 = (↑(List.length s) : Int) → (x1 < z2 → ((0 : Int) ≤ x1 ∧ x1 < (↑(List.length s) : Int)) ∧ ∀ (z3 : Int), z3 = List.getD s (Int.toNat x1) (0 : Int) → (0 : Int) ≤ z3 → z3 < (256 : Int) → (z3 = c → K (Sum.inl (Sum.inl (Sum.inl (Value.bool true)))) { heap := [], ints := [], opqs := (0 : Nat), arrs := [], junks := (0 : Nat) }) ∧ (¬z3 = c → ∀ (z4 : Int), z4 = IntKind.wrap IntKind.i64 (x1 + (1 : Int)) → ∃ (y5 : Int), c = c ∧ s = s ∧ z4 = y5 ∧ U.inI c s y5 ∧ List.length s - Int.toNat y5 < List.length s - Int.toNat x1)) ∧ (¬x1 < z2 → K (Sum.inl (Sum.inl (Sum.inl (Value.bool false)))) { heap := [], ints := [], opqs := (0 : Nat), arrs := [], junks := (0 : Nat) })) := by kernel_rfl
theorem signLen_vc (K : AV → St → Prop) (s : List Int) : (runI inv0 tbl0 17 [cell (strC s)] emptySt K) = (((0 : Int) ≤ (0 : Int) ∧ (0 : Int) < (↑(List.length s) : Int)) ∧ ∀ (z0 : Int), z0 = List.getD s (0 : Nat) (0 : Int) → (0 : Int) ≤ z0 → z0 < (256 : Int) → (z0 = (45 : Int) → ∀ (z1 : Int), z1 = (↑(List.length s) : Int) → ((2 : Int) ≤ z1 → ((0 : Int) ≤ (0 : Int) ∧ (0 : Int) ≤ (↑(2 : Nat) : Int) ∧ (↑(2 : Nat) : Int) ≤ (↑(List.length s) : Int)) ∧ ∀ (a2 b3 : Nat), (↑a2 : Int) = (0 : Int) → (↑b3 : Int) = (↑(2 : Nat) : Int) - (0 : Int) → ∀ (l'4 : List Int), l'4 = List.take b3 (List.drop a2 s) → (l'4 = [(45 : Int), (62 : Int)] → K (Sum.inl (Sum.inl (Sum.inr (Sum.inr (Sum.inr (Sum.inr (Sum.inr (Sum.inr (Sum.inl (IntKind.i64, (2 : Int))))))))))) { heap := [], ints := [], opqs := (0 : Nat), arrs := [], junks := (0 : Nat) }) ∧ (¬l'4 = [(45 : Int), (62 : Int)] → K (Sum.inl (Sum.inl (Sum.inr (Sum.inr (Sum.inr (Sum.inr (Sum.inr (Sum.inr (Sum.inl (IntKind.i64, (1 : Int))))))))))) { heap := [], ints := [], opqs := (0 : Nat), arrs := [], junks := (0 : Nat) })) ∧ (¬(2 : Int) ≤ z1 → K (Sum.inl (Sum.inl (Sum.inr (Sum.inr (Sum.inr (Sum.inr (Sum.inr (Sum.inr (Sum.inl (IntKind.i64, (1 : Int))))))))))) { heap := [], ints := [], opqs := (0 : Nat), arrs := [], junks := (0 : Nat) })) ∧ (¬z0 = (45 : Int) → (z0 = (61 : Int) → K (Sum.inl (Sum.inl (Sum.inr (Sum.inr (Sum.inr (Sum.inr (Sum.inr (Sum.inr (Sum.inl (IntKind.i64, (1 : Int))))))))))) { heap := [], ints := [], opqs := (0 : Nat), arrs := [], junks := (0 : Nat) }) ∧ (¬z0 = (61 : Int) → (z0 = (44 : Int) → K (Sum.inl (Sum.inl (Sum.inr (Sum.inr (Sum.inr (Sum.inr (Sum.inr (Sum.inr (Sum.inl (IntKind.i64, (1 : Int))))))))))) { heap := [], ints := [], opqs := (0 : Nat), arrs := [], junks := (0 : Nat) }) ∧ (¬z0 = (44 : Int) → (z0 = (59 : Int) → K (Sum.inl (Sum.inl (Sum.inr (Sum.inr (Sum.inr (Sum.inr (Sum.inr (Sum.inr (Sum.inl (IntKind.i64, (1 : Int))))))))))) { heap := [], ints := [], opqs := (0 : Nat), arrs := [], junks := (0 : Nat) }) ∧ (¬z0 = (59 : Int) → (z0 = (38 : Int) → K (Sum.inl (Sum.inl (Sum.inr (Sum.inr (Sum.inr (Sum.inr (Sum.inr (Sum.inr (Sum.inl (IntKind.i64, (1 : Int))))))))))) { heap := [], ints := [], opqs := (0 : Nat), arrs := [], junks := (0 : Nat) }) ∧ (¬z0 = (38 : Int) → (z0 = (33 : Int) → K (Sum.inl (Sum.inl (Sum.inr (Sum.inr (Sum.inr (Sum.inr (Sum.inr (Sum.inr (Sum.inl (IntKind.i64, (1 : Int))))))))))) { heap := [], ints := [], opqs := (0 : Nat), arrs := [], junks := (0 : Nat) }) ∧ (¬z0 = (33 : Int) → (z0 = (58 : Int) → K (Sum.inl (Sum.inl (Sum.inr (Sum.inr (Sum.inr (Sum.inr (Sum.inr (Sum.inr (Sum.inl (IntKind.i64, (1 : Int))))))))))) { heap := [], ints := [], opqs := (0 : Nat), arrs := [], junks := (0 : Nat) }) ∧ (¬z0 = (58 : Int) → K (Sum.inl (Sum.inl (Sum.inr (Sum.inr (Sum.inr (Sum.inr (Sum.inr (Sum.inr (Sum.inl (IntKind.i64, (0 : Int))))))))))) { heap := [], ints := [], opqs := (0 : Nat), arrs := [], junks := (0 : Nat) })))))))) := by kernel_rfl
end Go.Proofs.YtdlmiebiineabaaDoor
end

section
set_option linter.unusedVariables false
set_option linter.unusedSimpArgs false
namespace Go.Proofs.YtdlmiebiineabaaDoor
open Go Reck Ost
theorem w64 (x : Int) (h : 0 ≤ x ∧ x ≤ 9000000000000000000) : IntKind.wrap .i64 x = x := IntWalk.i64_in _ (by omega)
theorem alnum_of {c : Int} : U.alnum c = true ↔ (97 ≤ c ∧ c ≤ 122) ∨ (48 ≤ c ∧ c ≤ 57) := by simp [U.alnum]
theorem alnum_no {c : Int} : U.alnum c = false ↔ ¬ ((97 ≤ c ∧ c ≤ 122) ∨ (48 ≤ c ∧ c ≤ 57)) := by simp [U.alnum]
theorem dig_of {c : Int} : U.dig c = true ↔ 48 ≤ c ∧ c ≤ 57 := by simp [U.dig]
theorem dig_no {c : Int} : U.dig c = false ↔ ¬ (48 ≤ c ∧ c ≤ 57) := by simp only [U.dig, decide_eq_false_iff_not]
def big : Int := 1000000000000
/-! ### A run's length -/
theorem run_step {s : List Int} {x z : Int} (hl : s.length ≤ 1000000000000) (h : U.runI s x) (hx : x < s.length) (ha : U.alnum (s.getD x.toNat 0) = true) (hz : z = IntKind.wrap .i64 (x + 1)) :
    ∃ y : Int, s = s ∧ z = y ∧ U.runI s y ∧ s.length - y.toNat < s.length - x.toNat := by
  have h0 := h.lo
  rw [w64 _ (by omega)] at hz
  refine ⟨z, rfl, rfl, ⟨by omega, fun j hj => ?_⟩, by omega⟩
  by_cases hjx : (j : Int) < x
  · exact h.al j hjx
  · have : j = x.toNat := by omega
    rw [this]; exact ha
theorem run_end {s : List Int} {x : Int} (h : U.runI s x) (he : x = s.length ∨ U.alnum (s.getD x.toNat 0) = false) : x = (U.runN s : Nat) := by
  have h0 := h.lo
  have := runN_of s x.toNat (by omega) (fun j hj => h.al j (by omega)) (by rcases he with he | he; exact .inl (by omega); exact .inr he)
  omega
theorem runLen_run (K : AV → St → Prop) (s : List Int) (hl : s.length ≤ 1000000000000) (hK : K (xi .i64 (U.runN s : Nat)) emptySt) : runI invLS1 tbl0 19 [cell (strC s)] emptySt K := by
  rw [runLen_vc]
  refine ⟨⟨0, rfl, rfl, ⟨by omega, fun j hj => by omega⟩⟩, fun x hx z hz => ⟨fun h1 => ⟨by have := hx.lo; omega, fun c hc c0 c1 => ⟨fun g1 => ⟨fun g2 y hy => ?_, fun g2 => ⟨by have := hx.lo; omega, fun d hd d0 d1 => ⟨fun g3 => ⟨fun g4 y hy => ?_, fun g4 => ?_⟩, fun g3 => ?_⟩⟩⟩, fun g1 => ⟨by have := hx.lo; omega, fun d hd d0 d1 => ⟨fun g3 => ⟨fun g4 y hy => ?_, fun g4 => ?_⟩, fun g3 => ?_⟩⟩⟩⟩, fun h1 => ?_⟩⟩
  · exact run_step hl hx (by omega) (by rw [← hc]; exact alnum_of.2 (by omega)) hy
  · exact run_step hl hx (by omega) (by rw [← hc]; exact alnum_of.2 (by omega)) hy
  · have := run_end hx (.inr (by rw [← hc]; exact alnum_no.2 (by omega))); subst this; exact hK
  · have := run_end hx (.inr (by rw [← hc]; exact alnum_no.2 (by omega))); subst this; exact hK
  · exact run_step hl hx (by omega) (by rw [← hc]; exact alnum_of.2 (by omega)) hy
  · have := run_end hx (.inr (by rw [← hc]; exact alnum_no.2 (by omega))); subst this; exact hK
  · have := run_end hx (.inr (by rw [← hc]; exact alnum_no.2 (by omega))); subst this; exact hK
  · have := run_end hx (.inl (by have := hx.lo; omega)); subst this; exact hK

/-! ### Digits alone -/
theorem dig_step {s t : List Int} {n c : Nat} {x z : Int} (hs : s = t) (hn : n = t.length) (hl : t.length ≤ 1000000000000) (h : U.digI t x) (hx : x < t.length) (ha : U.dig (t.getD x.toNat 0) = true) (hz : z = IntKind.wrap .i64 (x + 1)) : U.digI t z ∧ t.length - z.toNat < t.length - x.toNat := by
  have h0 := h.lo
  rw [w64 _ (by omega)] at hz
  refine ⟨⟨by omega, fun j hj => ?_⟩, by omega⟩
  by_cases hjx : (j : Int) < x
  · exact h.al j hjx
  · have : j = x.toNat := by omega
    rw [this]; exact ha
theorem alld_iff (s : List Int) : U.alld s = true ↔ ∀ j, j < s.length → U.dig (s.getD j 0) = true := by
  unfold U.alld
  rw [List.all_eq_true]
  constructor
  · intro h j hj
    rw [List.getD_eq_getElem?_getD, List.getElem?_eq_getElem hj]
    exact h _ (List.getElem_mem hj)
  · intro h c hc
    obtain ⟨j, hj, rfl⟩ := List.getElem_of_mem hc
    have := h j hj
    rwa [List.getD_eq_getElem?_getD, List.getElem?_eq_getElem hj] at this
theorem digits_run (K : AV → St → Prop) (s : List Int) (hl : s.length ≤ 1000000000000) (hT : U.alld s = true → K (lit (.bool true)) emptySt) (hF : U.alld s = false → K (lit (.bool false)) emptySt) : runI invLS1 tbl0 26 [cell (strC s)] emptySt K := by
  rw [digits_vc]
  intro n c t ht hn hc z hz
  subst ht
  have e0 : List.take n (List.drop (OfNat.ofNat 0) t) = t := by rw [hn]; simp
  rw [e0]
  refine ⟨⟨0, rfl, rfl, ⟨rfl, rfl, rfl⟩, rfl, rfl, ⟨rfl, rfl, rfl⟩, ⟨by omega, fun j hj => by omega⟩⟩, fun x hx => ⟨fun h1 => ⟨by have := hx.lo; omega, fun j hj => ⟨by have := hx.lo; simp at hj; omega, fun d hd => ⟨fun g1 => ⟨fun g2 y hy => ?_, fun g2 => ?_⟩, fun g1 => ?_⟩⟩⟩, fun h1 => ?_⟩⟩
  · have hjx : j = x.toNat := by have := hx.lo; simp at hj; omega
    obtain ⟨a, b⟩ := dig_step (c := c) (s := t) (n := n) rfl hn hl hx (by omega) (by rw [← hjx, ← hd]; exact dig_of.2 ⟨g1, g2⟩) hy
    exact ⟨_, rfl, rfl, ⟨rfl, rfl, rfl⟩, rfl, rfl, ⟨rfl, rfl, rfl⟩, a, b⟩
  all_goals have h0 := hx.lo
  · refine hF ?_
    cases hq : U.alld t with
    | false => rfl
    | true => have := (alld_iff t).1 hq j (by simp at hj; omega); rw [← hd, dig_of] at this; omega
  · refine hF ?_
    cases hq : U.alld t with
    | false => rfl
    | true => have := (alld_iff t).1 hq j (by simp at hj; omega); rw [← hd, dig_of] at this; omega
  · exact hT ((alld_iff t).2 fun j hj => hx.al j (by omega))

/-! ### One of some bytes -/
def U.inS (c : Int) (l : List Int) : Bool := l.contains c
theorem inS_iff (c : Int) (l : List Int) : U.inS c l = true ↔ ∃ j, j < l.length ∧ l.getD j 0 = c := by
  unfold U.inS
  rw [List.contains_iff_mem]
  constructor
  · intro h
    obtain ⟨j, hj, rfl⟩ := List.getElem_of_mem h
    exact ⟨j, hj, by rw [List.getD_eq_getElem?_getD, List.getElem?_eq_getElem hj]; rfl⟩
  · rintro ⟨j, hj, rfl⟩
    rw [List.getD_eq_getElem?_getD, List.getElem?_eq_getElem hj]
    exact List.getElem_mem hj
theorem in_run (K : AV → St → Prop) (c : Int) (s : List Int) (hl : s.length ≤ 1000000000000) (hT : U.inS c s = true → K (lit (.bool true)) emptySt) (hF : U.inS c s = false → K (lit (.bool false)) emptySt) : runI invLS1 tbl0 16 [xi .u8 c, cell (strC s)] emptySt K := by
  rw [in_vc]
  refine ⟨⟨0, rfl, rfl, rfl, ⟨by omega, fun j hj => by omega⟩⟩, fun x hx z hz => ⟨fun h1 => ⟨by have := hx.lo; omega, fun d hd d0 d1 => ⟨fun g => ?_, fun g y hy => ?_⟩⟩, fun h1 => ?_⟩⟩
  all_goals have h0 := hx.lo
  · exact hT ((inS_iff c s).2 ⟨x.toNat, by omega, by rw [← hd]; exact g⟩)
  · rw [w64 _ (by omega)] at hy
    refine ⟨y, rfl, rfl, rfl, ⟨by omega, fun j hj => ?_⟩, by omega⟩
    by_cases hjx : (j : Int) < x
    · exact hx.al j hjx
    · have : j = x.toNat := by omega
      rw [this, ← hd]; exact g
  · refine hF ?_
    cases hq : U.inS c s with
    | false => rfl
    | true =>
      obtain ⟨j, hj, he⟩ := (inS_iff c s).1 hq
      exact absurd he (hx.al j (by omega))

/-! ### A sign's length -/
theorem signLen_run (K : AV → St → Prop) (s : List Int) (h0 : s ≠ []) (hK : K (xi .i64 (U.signN s : Nat)) emptySt) : runI inv0 tbl0 17 [cell (strC s)] emptySt K := by
  rw [signLen_vc]
  obtain ⟨c, l, rfl⟩ : ∃ c l, s = c :: l := by cases s with
    | nil => exact absurd rfl h0
    | cons c l => exact ⟨c, l, rfl⟩
  have key : ∀ n : Int, n = (U.signN (c :: l) : Nat) → K (Sum.inl (Sum.inl (Sum.inr (Sum.inr (Sum.inr (Sum.inr (Sum.inr (Sum.inr (Sum.inl (IntKind.i64, n)))))))))) { heap := [], ints := [], opqs := (0 : Nat), arrs := [], junks := (0 : Nat) } := by
    rintro n rfl; exact hK
  refine ⟨by simp, fun z hz z0 z1 => ?_⟩
  rw [getD_cons_zero] at hz
  subst hz
  refine ⟨fun g1 y hy => ⟨fun g2 => ⟨by simp at hy; simp; omega, fun a b ha hb t ht => ⟨fun g3 => key _ ?_, fun g3 => key _ ?_⟩⟩, fun g2 => key _ ?_⟩, fun g1 => ⟨fun g2 => key _ ?_, fun g2 => ⟨fun g3 => key _ ?_, fun g3 => ⟨fun g4 => key _ ?_, fun g4 => ⟨fun g5 => key _ ?_, fun g5 => ⟨fun g6 => key _ ?_, fun g6 => ⟨fun g7 => key _ ?_, fun g7 => key _ ?_⟩⟩⟩⟩⟩⟩⟩
  · have ea : a = 0 := by omega
    have eb : b = 2 := by omega
    subst ea; subst eb
    rw [List.drop_zero] at ht
    rw [ht] at g3
    cases l with
    | nil => simp at g3
    | cons d l => simp at g3; obtain ⟨rfl, rfl⟩ := g3; rfl
  · have ea : a = 0 := by omega
    have eb : b = 2 := by omega
    subst ea; subst eb; subst g1
    rw [List.drop_zero] at ht
    rw [ht] at g3
    cases l with
    | nil => rfl
    | cons d l =>
      simp at g3
      simp [U.signN, g3, U.sign1]
  · subst g1
    cases l with
    | nil => rfl
    | cons d l => simp at hy; omega
  all_goals (cases l <;> simp [U.signN, U.sign1, *])
end Go.Proofs.YtdlmiebiineabaaDoor
end

section
set_option linter.unusedVariables false
set_option linter.unusedSimpArgs false
namespace Go.Proofs.YtdlmiebiineabaaDoor
open Go Reck Ost
abbrev Pat := List AV → St → Option ((AV → St → Prop) → Prop)
def tblIf (f0 : Nat) (p : Pat) : Tbl := fun f args σ => if f == f0 then p args σ else none
def PatOk (f0 : Nat) (p : Pat) : Prop := ∀ tm σ C, p tm σ = some C → ∀ K : AV → St → Prop, C K → ∀ (w0 : World) (e : Env) (w : World), Ok w0 e σ w → ∀ vs : List Value, tm.map (Reck.av e) = vs.map some →
  Calls Tryd.prog f0 vs.toArray w fun en w' => ∃ x σ' e' v, en = .returned v ∧ e.le e' ∧ Reck.av e' x = some v ∧ Ok w0 e' σ' w' ∧ K x σ'
theorem tblIf_ok {f0 : Nat} {p : Pat} (h : PatOk f0 p) : TblOk Tryd.prog (tblIf f0 p) := by
  intro f tm σ C hC
  unfold tblIf at hC
  split at hC
  · rename_i hf
    obtain rfl : f = f0 := by simpa using hf
    exact h tm σ C hC
  · cases hC
theorem as_str {e : Env} {x : AV} {l : List Int} {v : Value} (h : strX x = some l) (hv : Reck.av e x = some v) : Reck.av e (cell (strC l)) = some v := by
  obtain ⟨rfl, hb⟩ := strX_ok h hv
  exact strC_av hb e
theorem as_int {e : Env} {x : AV} {k : IntKind} {n : Int} {v : Value} (h : intX x = some (k, n)) (hv : Reck.av e x = some v) : Reck.av e (xi k n) = some v := by
  rw [intX_ok h hv]; rfl
theorem ones {e : Env} {x : AV} {vs : List Value} (h : [x].map (Reck.av e) = vs.map some) : ∃ v, vs = [v] ∧ Reck.av e x = some v := by
  match vs, map_len h with
  | [v], _ => simp at h; exact ⟨v, rfl, h⟩
theorem twos {e : Env} {x y : AV} {vs : List Value} (h : [x, y].map (Reck.av e) = vs.map some) : ∃ v u, vs = [v, u] ∧ Reck.av e x = some v ∧ Reck.av e y = some u := by
  match vs, map_len h with
  | [v, u], _ => simp at h; exact ⟨v, u, rfl, h.1, h.2⟩
def pRunLen : Pat := fun args σ => match args, σ with
  | [x], ⟨[], [], 0, [], 0⟩ => match strX x with
    | some s => some fun K => s.length ≤ 1000000000000 ∧ ∀ z : Int, z = (U.runN s : Nat) → K (xi .i64 z) emptySt
    | none => none
  | _, _ => none
theorem pRunLen_ok : PatOk 19 pRunLen := by
  intro tm σ C h K hK w0 e w hk vs hvs
  unfold pRunLen at h
  split at h
  · split at h
    · rename_i s hs
      simp only [Option.some.injEq] at h; subst h
      obtain ⟨v, rfl, hv⟩ := ones hvs
      exact knownC noOv names (conOk_of tbl0_ok) (runLen_run K s hK.1 (hK.2 _ rfl)) w0 e w hk [v] (by simp [as_str hs hv])
    · cases h
  · cases h
def pDigits : Pat := fun args σ => match args, σ with
  | [x], ⟨[], [], 0, [], 0⟩ => match strX x with
    | some s => some fun K => s.length ≤ 1000000000000 ∧ (U.alld s = true → K (lit (.bool true)) emptySt) ∧ (U.alld s = false → K (lit (.bool false)) emptySt)
    | none => none
  | _, _ => none
theorem pDigits_ok : PatOk 26 pDigits := by
  intro tm σ C h K hK w0 e w hk vs hvs
  unfold pDigits at h
  split at h
  · split at h
    · rename_i s hs
      simp only [Option.some.injEq] at h; subst h
      obtain ⟨v, rfl, hv⟩ := ones hvs
      exact knownC noOv names (conOk_of tbl0_ok) (digits_run K s hK.1 hK.2.1 hK.2.2) w0 e w hk [v] (by simp [as_str hs hv])
    · cases h
  · cases h
def pSignLen : Pat := fun args σ => match args, σ with
  | [x], ⟨[], [], 0, [], 0⟩ => match strX x with
    | some s => some fun K => ¬ s = [] ∧ ∀ z : Int, z = (U.signN s : Nat) → K (xi .i64 z) emptySt
    | none => none
  | _, _ => none
theorem pSignLen_ok : PatOk 17 pSignLen := by
  intro tm σ C h K hK w0 e w hk vs hvs
  unfold pSignLen at h
  split at h
  · split at h
    · rename_i s hs
      simp only [Option.some.injEq] at h; subst h
      obtain ⟨v, rfl, hv⟩ := ones hvs
      exact knownC noOv names (conOk_of tbl0_ok) (signLen_run K s hK.1 (hK.2 _ rfl)) w0 e w hk [v] (by simp [as_str hs hv])
    · cases h
  · cases h
def pIn : Pat := fun args σ => match args, σ with
  | [c, x], ⟨[], [], 0, [], 0⟩ => match intX c, strX x with
    | some (.u8, c), some s => some fun K => s.length ≤ 1000000000000 ∧ (U.inS c s = true → K (lit (.bool true)) emptySt) ∧ (U.inS c s = false → K (lit (.bool false)) emptySt)
    | _, _ => none
  | _, _ => none
theorem pIn_ok : PatOk 16 pIn := by
  intro tm σ C h K hK w0 e w hk vs hvs
  unfold pIn at h
  split at h
  · split at h
    · rename_i c s hc hs
      simp only [Option.some.injEq] at h; subst h
      obtain ⟨v, u, rfl, hv, hu⟩ := twos hvs
      exact knownC noOv names (conOk_of tbl0_ok) (in_run K c s hK.1 hK.2.1 hK.2.2) w0 e w hk [v, u] (by simp [as_str hs hu, as_int hc hv])
    · cases h
  · cases h
/-! ### The next place that is not blank -/
theorem drop_at {s : List Int} {i : Nat} (h : i < s.length) : s.drop i = s.getD i 0 :: s.drop (i + 1) := by
  rw [List.drop_eq_getElem_cons h, List.getD_eq_getElem?_getD, List.getElem?_eq_getElem h]; rfl
structure U.Pass (s : List Int) (a z : Int) : Prop where
  lo : a ≤ z ∧ z ≤ s.length
  go : ∀ (acc R : List (List CV)) (p e : Int), U.Lexed z.toNat (U.bare false (s.drop z.toNat)) acc R p e → U.Lexed a.toNat (U.bare false (s.drop a.toNat)) acc R p e
  no : z < s.length → U.blank (s.getD z.toNat 0) = false ∧ ¬ s.getD z.toNat 0 = 35
theorem pass_step {s : List Int} {a x y c : Int} {t t' : Nat} (hl : s.length ≤ 1000000000000) (ha : 0 ≤ a) (hx : U.passI s a t x) (h1 : x < s.length) (hc : c = s.getD x.toNat 0) (hy : y = IntKind.wrap .i64 (x + 1))
    (hb : ∃ d, U.blank d = true ∧ U.bare (Nat.beq t 1) (c :: s.drop (x.toNat + 1)) = d :: U.bare (Nat.beq t' 1) (s.drop (x.toNat + 1))) : ∃ z : Int, s = s ∧ y = z ∧ U.passI s a t' z ∧ s.length - z.toNat < s.length - x.toNat := by
  have h0 := hx.lo
  rw [w64 _ (by omega)] at hy
  refine ⟨y, rfl, rfl, ⟨by omega, fun acc R p e h => hx.go acc R p e ?_⟩, by omega⟩
  obtain ⟨d, hd, hb⟩ := hb
  rw [drop_at (by omega), ← hc, hb]
  refine U.Lexed.skip _ d _ acc R p e hd ?_
  rw [show x.toNat + 1 = y.toNat by omega]; exact h
theorem pass_run (K : AV → St → Prop) (s : List Int) (a : Int) (hl : s.length ≤ 1000000000000) (ha : 0 ≤ a ∧ a ≤ s.length) (hK : ∀ z, U.Pass s a z → K (xi .i64 z) emptySt) : runI invLS1 tbl0 13 [cell (strC s), xi .i64 a] emptySt K := by
  rw [pass_vc]
  have k3 : ∀ (c : Int) (l : List Int), (c = 32 ∨ c = 9 ∨ c = 13) → ∃ d, U.blank d = true ∧ U.bare (Nat.beq 0 1) (c :: l) = d :: U.bare (Nat.beq 0 1) l := by
    intro c l hc
    exact ⟨c, by rcases hc with rfl | rfl | rfl <;> decide, by rw [bare_cons, if_neg (by omega), if_neg (by rcases hc with rfl | rfl | rfl <;> decide)]; rfl⟩
  have k10 : ∀ (l : List Int) (t : Nat), ∃ d, U.blank d = true ∧ U.bare (Nat.beq t 1) (10 :: l) = d :: U.bare (Nat.beq 0 1) l := fun l t => ⟨10, by decide, by rw [bare_cons]; rfl⟩
  have k35 : ∀ (l : List Int) (t : Nat), ∃ d, U.blank d = true ∧ U.bare (Nat.beq t 1) (35 :: l) = d :: U.bare (Nat.beq 1 1) l := fun l t => ⟨32, by decide, by rw [bare_cons, if_neg (by decide), if_pos (Or.inl rfl)]; rfl⟩
  have kr : ∀ (c : Int) (l : List Int), ¬ c = 10 → ∃ d, U.blank d = true ∧ U.bare (Nat.beq 1 1) (c :: l) = d :: U.bare (Nat.beq 1 1) l := fun c l h => ⟨32, by decide, by rw [bare_cons, if_neg h, if_pos (Or.inr (by decide))]; rfl⟩
  refine ⟨⟨a, rfl, rfl, ⟨by omega, fun acc R p e h => h⟩⟩, ?_, ?_⟩
  · intro x hx z hz
    have h0 := hx.lo
    refine ⟨fun h1 => ⟨by omega, fun c hc c0 c1 => ⟨fun g1 y hy => ?_, fun g1 => ⟨fun g2 y hy => ?_, fun g2 => ⟨fun g3 y hy => ?_, fun g3 => ⟨fun g4 y hy => ?_, fun g4 => ⟨fun g5 y hy => ?_, fun g5 => ?_⟩⟩⟩⟩⟩⟩, fun h1 => hK x ⟨by omega, hx.go, fun h => by omega⟩⟩
    · exact pass_step hl ha.1 hx (by omega) hc hy (k3 _ _ (by omega))
    · exact pass_step hl ha.1 hx (by omega) hc hy (k3 _ _ (by omega))
    · exact pass_step hl ha.1 hx (by omega) hc hy (k3 _ _ (by omega))
    · exact pass_step (t' := 0) hl ha.1 hx (by omega) hc hy (by rw [g4]; exact k10 _ _)
    · exact pass_step (t' := 1) hl ha.1 hx (by omega) hc hy (by rw [g5]; exact k35 _ _)
    · refine hK x ⟨by omega, hx.go, fun _ => ?_⟩
      rw [← hc]
      exact ⟨by simp only [U.blank, decide_eq_false_iff_not]; omega, g5⟩
  · intro x hx z hz
    have h0 := hx.lo
    refine ⟨fun h1 => ⟨by omega, fun c hc c0 c1 => ⟨fun g1 y hy => ?_, fun g1 => ⟨fun g2 y hy => ?_, fun g2 => ⟨fun g3 y hy => ?_, fun g3 => ⟨fun g4 y hy => ?_, fun g4 => ⟨fun g5 y hy => ?_, fun g5 y hy => ?_⟩⟩⟩⟩⟩⟩, fun h1 => hK x ⟨by omega, fun acc R p e h => hx.go acc R p e ?_, fun h => by omega⟩⟩
    · exact pass_step (t' := 1) hl ha.1 hx (by omega) hc hy (kr _ _ (by omega))
    · exact pass_step (t' := 1) hl ha.1 hx (by omega) hc hy (kr _ _ (by omega))
    · exact pass_step (t' := 1) hl ha.1 hx (by omega) hc hy (kr _ _ (by omega))
    · exact pass_step (t' := 0) hl ha.1 hx (by omega) hc hy (by rw [g4]; exact k10 _ _)
    · exact pass_step (t' := 1) hl ha.1 hx (by omega) hc hy (kr _ _ (by omega))
    · exact pass_step (t' := 1) hl ha.1 hx (by omega) hc hy (kr _ _ (by omega))
    · rw [List.drop_of_length_le (by omega)] at h ⊢; exact h
def pPass : Pat := fun args σ => match args, σ with
  | [x, a], ⟨[], [], 0, [], 0⟩ => match strX x, intX a with
    | some s, some (.i64, a) => some fun K => (s.length ≤ 1000000000000 ∧ 0 ≤ a ∧ a ≤ s.length) ∧ ∀ z : Int, U.Pass s a z → K (xi .i64 z) emptySt
    | _, _ => none
  | _, _ => none
theorem pPass_ok : PatOk 13 pPass := by
  intro tm σ C h K hK w0 e w hk vs hvs
  unfold pPass at h
  split at h
  · split at h
    · rename_i s a hs ha
      simp only [Option.some.injEq] at h; subst h
      obtain ⟨v, u, rfl, hv, hu⟩ := twos hvs
      exact knownC noOv names (conOk_of tbl0_ok) (pass_run K s a hK.1.1 hK.1.2 hK.2) w0 e w hk [v, u] (by simp [as_str hs hv, as_int ha hu])
    · cases h
  · cases h
def tLS3 : Tbl := tblOr (tblIf 19 pRunLen) (tblOr (tblIf 26 pDigits) (tblOr (tblIf 17 pSignLen) (tblOr (tblIf 16 pIn) (tblOr (tblIf 13 pPass) tClone))))
theorem tLS3_ok : TblOk Tryd.prog tLS3 := tblOr_ok (tblIf_ok pRunLen_ok) (tblOr_ok (tblIf_ok pDigits_ok) (tblOr_ok (tblIf_ok pSignLen_ok) (tblOr_ok (tblIf_ok pIn_ok) (tblOr_ok (tblIf_ok pPass_ok) tClone_ok))))
end Go.Proofs.YtdlmiebiineabaaDoor
end
