/- Parts of a proof, one behind the other: LT0 LA LT1. No condition. -/
import Derived.Test.YtdlmiebiineabaaDoorGB
import Derived.Test.YtdlmiebiineabaaDoorGA
import Derived.Test.YtdlmiebiineabaaDoorRkV
section
namespace Go.Proofs.YtdlmiebiineabaaDoor
open Go Reck Ost
set_option linter.unusedVariables false
structure U.smI (n : Nat) (i : Int) : Prop where
  lo : 0 ≤ i ∧ i ≤ n
def smInv (c : Code) (tm : List AV) : Inv where
  X := Int
  tags := [0]
  tag _ _ := 0
  J := wrBut [16] c
  val _ x := [(16, xi .i64 x)]
  st _ _ σ' := σ'
  I _ x := U.smI (slotI tm 15).toNat x
  m _ x := (slotI tm 15).toNat - x.toNat
  ren := noRen
def invLT0 : InvF := fun c tm σ => match tm.length, firstReg c with
  | 62, some 4 => some (smInv c tm)
  | _, _ => none
set_option maxRecDepth 100000
--PLAIN
theorem same_vc (K : AV → St → Prop) (L M : List (List CV)) (n c n' c' : Nat) (b : Int) : (runR invLT0 tbl0 9 [cell (rslC ⟨0, 4, 0, n, c⟩), cell (rslC ⟨1, 4, 0, n', c'⟩), xi .i64 b] ⟨[], [], 0, [tokB 33 L c, tokB 37 M c'], 0⟩ K) = (∀ (z0 : Int), z0 = (↑n : Int) → ∀ (z1 : Int), z1 = (↑n' : Int) → (¬z0 = z1 → K (Sum.inl (Sum.inl (Sum.inl (Value.bool false)))) { heap := [], ints := [], opqs := (0 : Nat), arrs := [some { elem := (33 : Nat), k := AK.o (Obj.rows [CK.n IntKind.i64, CK.s, CK.n IntKind.i64, CK.n IntKind.i64] L), l := [], cap := c, ro := false }, some { elem := (37 : Nat), k := AK.o (Obj.rows [CK.n IntKind.i64, CK.s, CK.n IntKind.i64, CK.n IntKind.i64] M), l := [], cap := c', ro := false }], junks := (0 : Nat) }) ∧ (¬¬z0 = z1 → ∀ (z2 : Int), z2 = (↑n' : Int) → (∃ (y3 : Int), ((0 : Nat) = (0 : Nat) ∧ n = n ∧ c = c) ∧ ((0 : Nat) = (0 : Nat) ∧ n' = n' ∧ c' = c') ∧ b = b ∧ ((0 : Nat) = (0 : Nat) ∧ n = n ∧ c = c) ∧ z0 = z0 ∧ ((0 : Nat) = (0 : Nat) ∧ n' = n' ∧ c' = c') ∧ z1 = z1 ∧ ((0 : Nat) = (0 : Nat) ∧ n' = n' ∧ c' = c') ∧ z2 = z2 ∧ (0 : Int) = y3 ∧ (L = L ∧ c = c ∧ false = false) ∧ (M = M ∧ c' = c' ∧ false = false) ∧ U.smI (Int.toNat z2) y3) ∧ ∀ (x4 : Int), U.smI (Int.toNat z2) x4 → (x4 < z2 → ((0 : Int) ≤ x4 ∧ x4 < (↑n' : Int)) ∧ ∀ (j5 : Nat), (↑j5 : Int) = (↑((0 : Nat)) : Int) + x4 → j5 < List.length M ∧ ∀ (z6 : Int), z6 = U.fi M j5 ((0 : Nat)) → ∀ (z7 : List Int), z7 = U.fs M j5 ((0 : Nat) + (1 : Nat)) → ∀ (z8 : Int), z8 = U.fi M j5 ((0 : Nat) + (1 : Nat) + (1 : Nat)) → ∀ (z9 : Int), z9 = U.fi M j5 ((0 : Nat) + (1 : Nat) + (1 : Nat) + (1 : Nat)) → ((0 : Int) ≤ x4 ∧ x4 < (↑n : Int)) ∧ ∀ (j10 : Nat), (↑j10 : Int) = (↑((0 : Nat)) : Int) + x4 → j10 < List.length L ∧ ∀ (z11 : Int), z11 = U.fi L j10 ((0 : Nat) + (0 : Nat)) → (¬z11 = z6 → K (Sum.inl (Sum.inl (Sum.inl (Value.bool false)))) { heap := [], ints := [], opqs := (0 : Nat), arrs := [some { elem := (33 : Nat), k := AK.o (Obj.rows [CK.n IntKind.i64, CK.s, CK.n IntKind.i64, CK.n IntKind.i64] L), l := [], cap := c, ro := false }, some { elem := (37 : Nat), k := AK.o (Obj.rows [CK.n IntKind.i64, CK.s, CK.n IntKind.i64, CK.n IntKind.i64] M), l := [], cap := c', ro := false }], junks := (0 : Nat) }) ∧ (¬¬z11 = z6 → ((0 : Int) ≤ x4 ∧ x4 < (↑n : Int)) ∧ ∀ (j12 : Nat), (↑j12 : Int) = (↑((0 : Nat)) : Int) + x4 → j12 < List.length L ∧ ∀ (z13 : List Int), z13 = U.fs L j12 ((0 : Nat) + (1 : Nat)) → (¬z13 = z7 → K (Sum.inl (Sum.inl (Sum.inl (Value.bool false)))) { heap := [], ints := [], opqs := (0 : Nat), arrs := [some { elem := (33 : Nat), k := AK.o (Obj.rows [CK.n IntKind.i64, CK.s, CK.n IntKind.i64, CK.n IntKind.i64] L), l := [], cap := c, ro := false }, some { elem := (37 : Nat), k := AK.o (Obj.rows [CK.n IntKind.i64, CK.s, CK.n IntKind.i64, CK.n IntKind.i64] M), l := [], cap := c', ro := false }], junks := (0 : Nat) }) ∧ (¬¬z13 = z7 → ((0 : Int) ≤ x4 ∧ x4 < (↑n : Int)) ∧ ∀ (j14 : Nat), (↑j14 : Int) = (↑((0 : Nat)) : Int) + x4 → j14 < List.length L ∧ ∀ (z15 : Int), z15 = U.fi L j14 ((0 : Nat) + (2 : Nat)) → (¬z15 = z8 → K (Sum.inl (Sum.inl (Sum.inl (Value.bool false)))) { heap := [], ints := [], opqs := (0 : Nat), arrs := [some { elem := (33 : Nat), k := AK.o (Obj.rows [CK.n IntKind.i64, CK.s, CK.n IntKind.i64, CK.n IntKind.i64] L), l := [], cap := c, ro := false }, some { elem := (37 : Nat), k := AK.o (Obj.rows [CK.n IntKind.i64, CK.s, CK.n IntKind.i64, CK.n IntKind.i64] M), l := [], cap := c', ro := false }], junks := (0 : Nat) }) ∧ (¬¬z15 = z8 → ((0 : Int) ≤ x4 ∧ x4 < (↑n : Int)) ∧ ∀ (j16 : Nat), (↑j16 : Int) = (↑((0 : Nat)) : Int) + x4 → j16 < List.length L ∧ ∀ (z17 : Int), z17 = U.fi L j16 ((0 : Nat) + (3 : Nat)) → ∀ (z18 : Int), z18 = IntKind.wrap IntKind.i64 (z9 + b) → (¬z17 = z18 → K (Sum.inl (Sum.inl (Sum.inl (Value.bool false)))) { heap := [], ints := [], opqs := (0 : Nat), arrs := [some { elem := (33 : Nat), k := AK.o (Obj.rows [CK.n IntKind.i64, CK.s, CK.n IntKind.i64, CK.n IntKind.i64] L), l := [], cap := c, ro := false }, some { elem := (37 : Nat), k := AK.o (Obj.rows [CK.n IntKind.i64, CK.s, CK.n IntKind.i64, CK.n IntKind.i64] M), l := [], cap := c', ro := false }], junks := (0 : Nat) }) ∧ (¬¬z17 = z18 → ∀ (z19 : Int), z19 = IntKind.wrap IntKind.i64 (x4 + (1 : Int)) → ∃ (y20 : Int), ((0 : Nat) = (0 : Nat) ∧ n = n ∧ c = c) ∧ ((0 : Nat) = (0 : Nat) ∧ n' = n' ∧ c' = c') ∧ b = b ∧ ((0 : Nat) = (0 : Nat) ∧ n = n ∧ c = c) ∧ z0 = z0 ∧ ((0 : Nat) = (0 : Nat) ∧ n' = n' ∧ c' = c') ∧ z1 = z1 ∧ ((0 : Nat) = (0 : Nat) ∧ n' = n' ∧ c' = c') ∧ z2 = z2 ∧ z19 = y20 ∧ (L = L ∧ c = c ∧ false = false) ∧ (M = M ∧ c' = c' ∧ false = false) ∧ U.smI (Int.toNat z2) y20 ∧ Int.toNat z2 - Int.toNat y20 < Int.toNat z2 - Int.toNat x4))))) ∧ (¬x4 < z2 → K (Sum.inl (Sum.inl (Sum.inl (Value.bool true)))) { heap := [], ints := [], opqs := (0 : Nat), arrs := [some { elem := (33 : Nat), k := AK.o (Obj.rows [CK.n IntKind.i64, CK.s, CK.n IntKind.i64, CK.n IntKind.i64] L), l := [], cap := c, ro := false }, some { elem := (37 : Nat), k := AK.o (Obj.rows [CK.n IntKind.i64, CK.s, CK.n IntKind.i64, CK.n IntKind.i64] M), l := [], cap := c', ro := false }], junks := (0 : Nat) }))) := by kernel_rfl
end Go.Proofs.YtdlmiebiineabaaDoor
end

section
namespace Go.Proofs.YtdlmiebiineabaaDoor
open Go Reck
set_option linter.unusedVariables false
set_option maxRecDepth 100000
theorem awake12_vc (K : AV → St → Prop) : (goT Tryd.prog [] (orcOf inv0 tClone) (opCl Tryd.prog) 6000 (.inr (.inr (.inr (.inr 10)))) [] emptySt (retC emptySt K)) = (K (Sum.inl (Sum.inl (Sum.inl (Value.bool true)))) { heap := [], ints := [], opqs := (0 : Nat), arrs := [], junks := (0 : Nat) }) := by kernel_rfl
end Go.Proofs.YtdlmiebiineabaaDoor
end

section
set_option linter.unusedVariables false
set_option linter.unusedSimpArgs false
namespace Go.Proofs.YtdlmiebiineabaaDoor
open Go Reck Ost
/-- Tokens stand within a text. -/
structure U.AtOk (L : List (List CV)) : Prop where
  out : ∀ m : Nat, 0 ≤ Reck.U.fi L m 3 ∧ Reck.U.fi L m 3 ≤ 9000
theorem same_run (K : AV → St → Prop) (L : List (List CV)) (n c c' : Nat) (hn : L.length = n) (hb : n ≤ 9000) (hA : U.AtOk L) (hK : K (lit (.bool true)) ⟨[], [], 0, [tokB 33 L c, tokB 37 L c'], 0⟩) :
    runR invLT0 tbl0 9 [cell (rslC ⟨0, 4, 0, n, c⟩), cell (rslC ⟨1, 4, 0, n, c'⟩), xi .i64 0] ⟨[], [], 0, [tokB 33 L c, tokB 37 L c'], 0⟩ K := by
  rw [same_vc]
  intro z0 h0 z1 h1
  refine ⟨fun h => absurd (h0.trans h1.symm) h, fun _ z2 h2 => ⟨⟨0, ⟨rfl, rfl, rfl⟩, ⟨rfl, rfl, rfl⟩, rfl, ⟨rfl, rfl, rfl⟩, rfl, ⟨rfl, rfl, rfl⟩, rfl, ⟨rfl, rfl, rfl⟩, rfl, rfl, ⟨rfl, rfl, rfl⟩, ⟨rfl, rfl, rfl⟩, ⟨by omega⟩⟩, fun x hx => ⟨fun g => ?_, fun g => hK⟩⟩⟩
  have hlo := hx.lo
  refine ⟨by omega, fun j5 h5 => ⟨by simp at h5; omega, fun z6 h6 z7 h7 z8 h8 z9 h9 => ⟨by omega, fun j10 h10 => ?_⟩⟩⟩
  have e : j10 = j5 := by omega
  subst e
  refine ⟨by simp at h5; omega, fun z11 h11 => ⟨fun q => absurd (h11.trans h6.symm) q, fun _ => ⟨by omega, fun j12 h12 => ?_⟩⟩⟩
  have e : j12 = j10 := by omega
  subst e
  refine ⟨by simp at h5; omega, fun z13 h13 => ⟨fun q => absurd (h13.trans h7.symm) q, fun _ => ⟨by omega, fun j14 h14 => ?_⟩⟩⟩
  have e : j14 = j12 := by omega
  subst e
  refine ⟨by simp at h5; omega, fun z15 h15 => ⟨fun q => absurd (h15.trans h8.symm) q, fun _ => ⟨by omega, fun j16 h16 => ?_⟩⟩⟩
  have e : j16 = j14 := by omega
  subst e
  refine ⟨by simp at h5; omega, fun z17 h17 z18 h18 => ?_⟩
  have hA := hA.out j16
  have h9' : z9 = Reck.U.fi L j16 3 := h9
  have h17' : z17 = Reck.U.fi L j16 3 := h17
  have e9 : z18 = z9 + 0 := by rw [h18]; exact w64 _ (by omega)
  refine ⟨fun q => absurd (by omega) q, fun _ z19 h19 => ?_⟩
  have e19 : z19 = x + 1 := by rw [h19]; exact w64 _ (by omega)
  exact ⟨z19, ⟨rfl, rfl, rfl⟩, ⟨rfl, rfl, rfl⟩, rfl, ⟨rfl, rfl, rfl⟩, rfl, ⟨rfl, rfl, rfl⟩, rfl, ⟨rfl, rfl, rfl⟩, rfl, rfl, ⟨rfl, rfl, rfl⟩, ⟨rfl, rfl, rfl⟩, ⟨by omega⟩, by omega⟩
theorem rsl_cell {x : AV} {s : RSl} (h : rslX x = some s) : x = cell (rslC s) := rslX_eq h
def rowsB (el : TypeId) : Option ABlk → Option (List (List CV) × Nat)
  | some ⟨e, .o (.rows [.n .i64, .s, .n .i64, .n .i64] L), [], c, false⟩ => if e == el then some (L, c) else none
  | _ => none
theorem rowsB_eq {el : TypeId} {b : Option ABlk} {L : List (List CV)} {c : Nat} (h : rowsB el b = some (L, c)) : b = tokB el L c := by
  unfold rowsB at h
  split at h
  · split at h
    · rename_i he
      have he := beq_iff_eq.1 he
      simp only [Option.some.injEq, Prod.mk.injEq] at h
      obtain ⟨rfl, rfl⟩ := h
      rw [he]; rfl
    · cases h
  · cases h
def pSame : Pat := fun args σ => match args, σ with
  | [x, y, b], ⟨[], [], 0, [p, q], 0⟩ => match rslX x, rslX y, intX b, rowsB 33 p, rowsB 37 q with
    | some ⟨0, 4, 0, n, c⟩, some ⟨1, 4, 0, n', c'⟩, some (.i64, b), some (L, d), some (M, d') => some fun K => (M = L ∧ n' = n ∧ b = 0 ∧ d = c ∧ d' = c' ∧ L.length = n ∧ n ≤ 9000 ∧ U.AtOk L) ∧ K (lit (.bool true)) ⟨[], [], 0, [p, q], 0⟩
    | _, _, _, _, _ => none
  | _, _ => none
theorem threes {e : Env} {x y z : AV} {vs : List Value} (h : [x, y, z].map (Reck.av e) = vs.map some) : ∃ v u t, vs = [v, u, t] ∧ Reck.av e x = some v ∧ Reck.av e y = some u ∧ Reck.av e z = some t := by
  match vs, map_len h with
  | [v, u, t], _ => simp at h; exact ⟨v, u, t, rfl, h.1, h.2.1, h.2.2⟩
theorem pSame_ok : PatOk 9 pSame := by
  intro tm σ C h K hK w0 e w hk vs hvs
  unfold pSame at h
  split at h
  · split at h
    · rename_i n c n' c' b L d M d' hx hy hb hp hq
      simp only [Option.some.injEq] at h; subst h
      obtain ⟨⟨rfl, rfl, rfl, rfl, rfl, h1, h2, h3⟩, hK⟩ := hK
      obtain rfl := rowsB_eq hp
      obtain rfl := rowsB_eq hq
      obtain ⟨v, u, t, rfl, hv, hu, ht⟩ := threes hvs
      rw [rslX_eq hx] at hv
      rw [rslX_eq hy] at hu
      exact knownC (R := orcR invLT0 (fun _ _ _ => none) tbl0) (n := 3000) noOv names (conOk_ofR tbl0_ok) (same_run K _ _ _ _ h1 h2 h3 hK) w0 e w hk [v, u, t] (by simp [hv, hu, as_int hb ht])
    · cases h
  · cases h
/-! ### Where tokens stand -/
theorem lexed_at {i : Nat} {l : List Int} {acc R : List (List CV)} {p e : Int} (h : U.Lexed i l acc R p e) (hi : i + l.length ≤ 5000) (ha : ∀ row ∈ acc, ∃ k t z a, row = [CV.i k, CV.s t, CV.i z, CV.i a] ∧ 0 ≤ a ∧ a ≤ 5000) : ∀ row ∈ R, ∃ k t z a, row = [CV.i k, CV.s t, CV.i z, CV.i a] ∧ 0 ≤ a ∧ a ≤ 5000 := by
  induction h with
  | stop i acc => exact ha
  | skip i c l acc R p e hb _ ih => exact ih (by simp at hi; omega) ha
  | tok i c l acc R p e hb he _ ih =>
    refine ih ?_ ?_
    · rw [List.length_drop]
      have := tk_le (c :: l)
      omega
    · intro row hr
      rcases List.mem_append.1 hr with hr | hr
      · exact ha row hr
      · simp only [List.mem_singleton] at hr
        exact ⟨_, _, _, _, hr, by omega, by omega⟩
  | bad i c l acc hb he => intro row hr; simp at hr
theorem Split.at_ {s : List Int} {L : List (List CV)} {p e : Int} (h : U.Split s L p e) : U.AtOk L := by
  have key : ∀ row ∈ L, ∃ k t z a, row = [CV.i k, CV.s t, CV.i z, CV.i a] ∧ 0 ≤ a ∧ a ≤ 5000 := by
    rcases Nat.lt_or_ge 4096 s.length with hl | hl
    · rw [(h.long hl).1]; intro row hr; simp at hr
    · exact lexed_at (h.short hl) (by rw [bare_len]; omega) (by intro row hr; simp at hr)
  refine ⟨fun m => ?_⟩
  unfold Reck.U.fi
  rw [List.getD_eq_getElem?_getD]
  cases hm : L[m]? with
  | none => simp
  | some row =>
    obtain ⟨k, t, z, a, rfl, h1, h2⟩ := key row (List.mem_of_getElem? hm)
    simp; omega
/-! ### The chapter's example -/
def pAwake : Pat := fun args σ => match args, σ with
  | [], ⟨[], [], 0, [], 0⟩ => some fun K => K (lit (.bool true)) emptySt
  | _, _ => none
theorem pAwake_ok : PatOk 10 pAwake := by
  intro tm σ C h K hK w0 e w hk vs hvs
  unfold pAwake at h
  split at h
  · simp only [Option.some.injEq] at h; subst h
    exact knownD (R := orcOf inv0 tClone) (n := 6000) noOv names (opCl_ok _) (conOk_of tClone_ok) (show goT Tryd.prog [] (orcOf inv0 tClone) (opCl Tryd.prog) 6000 (.inr (.inr (.inr (.inr 10)))) [] emptySt (retC emptySt K) from by rw [awake12_vc]; exact hK) w0 e w hk vs hvs
  · cases h
end Go.Proofs.YtdlmiebiineabaaDoor
end
