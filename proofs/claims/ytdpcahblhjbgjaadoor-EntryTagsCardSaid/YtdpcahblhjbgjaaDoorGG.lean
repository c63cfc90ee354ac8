/- Parts of a proof, one behind the other: E4 E5 E6 E7. No condition. -/
import Derived.Test.YtdpcahblhjbgjaaDoorGF
section
namespace Go.Proofs.YtdpcahblhjbgjaaDoor
open Go Reck Ost
set_option linter.unusedVariables false
set_option maxRecDepth 100000
def pLessS : Pat := fun args σ => match args, σ with
  | [a, b], ⟨[], [], 0, [], 0⟩ => match strX a, strX b with
    | some a, some b => some fun K => (LtS a b → K (lit (.bool true)) emptySt) ∧ (¬ LtS a b → K (lit (.bool false)) emptySt)
    | _, _ => none
  | _, _ => none
def tLess : Tbl := tblIf 70 pLessS
def slotR (tm : List AV) (t : Nat) : RSl :=
  match rslX (tm.getD t (lit undef)) with
  | some s => s
  | none => ⟨0, 0, 0, 0, 0⟩
def rowsAt (σ : St) (a : Nat) : Rws :=
  match getArr σ a with
  | some b => match b.k with
    | .o (.rows _ L) => L
    | _ => []
  | none => []
def slotSt (tm : List AV) (t : Nat) : List Int := (strX (tm.getD t (lit undef))).getD []
structure U.bsR (L : Rws) (n : Nat) (k : List Int) (i j : Int) : Prop where
  out : 0 ≤ i ∧ i ≤ j ∧ j ≤ n ∧ (∀ m : Nat, (m : Int) < i → LtS (U.fs L m 0) k) ∧ (∀ m : Nat, j ≤ (m : Int) → m < n → ¬ LtS (U.fs L m 0) k)
def bsInv (c : Code) (tm : List AV) (σ : St) : Inv where
  X := Int × Int
  tags := [0]
  tag _ _ := 0
  J := wrBut [7, 8] c
  val _ x := [(7, xi .i64 x.1), (8, xi .i64 x.2)]
  st _ _ σ' := σ'
  I _ x := U.bsR (rowsAt σ (slotR tm 0).a) (slotR tm 0).n (slotSt tm 1) x.1 x.2
  m _ x := (x.2 - x.1).toNat
  ren := noRen
def invBS : InvF := fun c tm σ => match tm.length, firstReg c with
  | 54, some 3 => some (bsInv c tm σ)
  | _, _ => none
--PLAIN
theorem less_vc (K : AV → St → Prop) (a b : List Int) : (runR inv0 tbl0 70 [cell (strC a), cell (strC b)] emptySt K) = ((¬a = a → (¬b = b → (LtS a b → K (Sum.inl (Sum.inl (Sum.inl (Value.bool true)))) { heap := [], ints := [], opqs := (0 : Nat), arrs := [], junks := (0 : Nat) }) ∧ (¬LtS a b → K (Sum.inl (Sum.inl (Sum.inl (Value.bool false)))) { heap := [], ints := [], opqs := (0 : Nat), arrs := [], junks := (0 : Nat) })) ∧ (¬¬b = b → K (Sum.inl (Sum.inl (Sum.inl (Value.bool true)))) { heap := [], ints := [], opqs := (0 : Nat), arrs := [], junks := (0 : Nat) })) ∧ (¬¬a = a → (LtS a b → K (Sum.inl (Sum.inl (Sum.inl (Value.bool true)))) { heap := [], ints := [], opqs := (0 : Nat), arrs := [], junks := (0 : Nat) }) ∧ (¬LtS a b → K (Sum.inl (Sum.inl (Sum.inl (Value.bool false)))) { heap := [], ints := [], opqs := (0 : Nat), arrs := [], junks := (0 : Nat) }))) := by kernel_rfl
theorem bs_vc (K : AV → St → Prop) (L : Rws) (n c : Nat) (k : List Int) : (runR invBS tLess 57 [cell (rslC ⟨0, 1, 0, n, c⟩), cell (strC k)] ⟨[], [], 0, [some (sB L c)], 0⟩ K) = (∀ (z0 : Int), z0 = (↑n : Int) → (∃ (y1 : Int × Int), ((0 : Nat) = (0 : Nat) ∧ n = n ∧ c = c) ∧ k = k ∧ false = false ∧ z0 = z0 ∧ (0 : Int) = Prod.fst y1 ∧ z0 = Prod.snd y1 ∧ ((0 : Nat) = (0 : Nat) ∧ n = n ∧ c = c) ∧ z0 = z0 ∧ z0 = z0 ∧ (L = L ∧ c = c ∧ false = false) ∧ U.bsR L n k (Prod.fst y1) (Prod.snd y1)) ∧ ∀ (x2 : Int × Int), U.bsR L n k (Prod.fst x2) (Prod.snd x2) → (Prod.fst x2 < Prod.snd x2 → ∀ (z3 : Int), z3 = IntKind.wrap IntKind.i64 (Prod.fst x2 + Prod.snd x2) → ∀ (z4 : Int), z4 = IntKind.wrap IntKind.u64 z3 → (0 : Int) ≤ (1 : Int) ∧ ∀ (z5 : Int), z5 = shrI IntKind.u64 z4 (1 : Int) → ∀ (z6 : Int), z6 = IntKind.wrap IntKind.i64 z5 → ((0 : Int) ≤ z6 ∧ z6 < (↑n : Int)) ∧ ∀ (j7 : Nat), (↑j7 : Int) = (↑((0 : Nat)) : Int) + z6 → j7 < List.length L ∧ ∀ (z8 : List Int), z8 = U.fs L j7 ((0 : Nat)) → (LtS z8 k → ∀ (z9 : Int), z9 = IntKind.wrap IntKind.i64 (z6 + (1 : Int)) → ∃ (y10 : Int × Int), ((0 : Nat) = (0 : Nat) ∧ n = n ∧ c = c) ∧ k = k ∧ false = false ∧ z0 = z0 ∧ z9 = Prod.fst y10 ∧ Prod.snd x2 = Prod.snd y10 ∧ ((0 : Nat) = (0 : Nat) ∧ n = n ∧ c = c) ∧ z0 = z0 ∧ z0 = z0 ∧ (L = L ∧ c = c ∧ false = false) ∧ U.bsR L n k (Prod.fst y10) (Prod.snd y10) ∧ Int.toNat (Prod.snd y10 - Prod.fst y10) < Int.toNat (Prod.snd x2 - Prod.fst x2)) ∧ (¬LtS z8 k → ∃ (y11 : Int × Int), ((0 : Nat) = (0 : Nat) ∧ n = n ∧ c = c) ∧ k = k ∧ false = false ∧ z0 = z0 ∧ Prod.fst x2 = Prod.fst y11 ∧ z6 = Prod.snd y11 ∧ ((0 : Nat) = (0 : Nat) ∧ n = n ∧ c = c) ∧ z0 = z0 ∧ z0 = z0 ∧ (L = L ∧ c = c ∧ false = false) ∧ U.bsR L n k (Prod.fst y11) (Prod.snd y11) ∧ Int.toNat (Prod.snd y11 - Prod.fst y11) < Int.toNat (Prod.snd x2 - Prod.fst x2))) ∧ (¬Prod.fst x2 < Prod.snd x2 → (Prod.fst x2 < z0 → ((0 : Int) ≤ Prod.fst x2 ∧ Prod.fst x2 < (↑n : Int)) ∧ ∀ (j12 : Nat), (↑j12 : Int) = (↑((0 : Nat)) : Int) + Prod.fst x2 → j12 < List.length L ∧ ∀ (z13 : List Int), z13 = U.fs L j12 ((0 : Nat)) → (z13 = k → K (Sum.inr [Sum.inl (Sum.inr (Sum.inr (Sum.inr (Sum.inr (Sum.inr (Sum.inr (Sum.inl (IntKind.i64, Prod.fst x2)))))))), Sum.inl (Sum.inl (Value.bool true))]) { heap := [], ints := [], opqs := (0 : Nat), arrs := [some { elem := (9 : Nat), k := AK.o (Obj.rows [CK.s] L), l := [], cap := c, ro := false }], junks := (0 : Nat) }) ∧ (¬z13 = k → ((0 : Int) ≤ Prod.fst x2 ∧ Prod.fst x2 < (↑n : Int)) ∧ ∀ (j14 : Nat), (↑j14 : Int) = (↑((0 : Nat)) : Int) + Prod.fst x2 → j14 < List.length L ∧ ∀ (z15 : List Int), z15 = U.fs L j14 ((0 : Nat)) → (¬z15 = z15 → (¬k = k → K (Sum.inr [Sum.inl (Sum.inr (Sum.inr (Sum.inr (Sum.inr (Sum.inr (Sum.inr (Sum.inl (IntKind.i64, Prod.fst x2)))))))), Sum.inl (Sum.inl (Value.bool true))]) { heap := [], ints := [], opqs := (0 : Nat), arrs := [some { elem := (9 : Nat), k := AK.o (Obj.rows [CK.s] L), l := [], cap := c, ro := false }], junks := (0 : Nat) }) ∧ (¬¬k = k → K (Sum.inr [Sum.inl (Sum.inr (Sum.inr (Sum.inr (Sum.inr (Sum.inr (Sum.inr (Sum.inl (IntKind.i64, Prod.fst x2)))))))), Sum.inl (Sum.inl (Value.bool false))]) { heap := [], ints := [], opqs := (0 : Nat), arrs := [some { elem := (9 : Nat), k := AK.o (Obj.rows [CK.s] L), l := [], cap := c, ro := false }], junks := (0 : Nat) })) ∧ (¬¬z15 = z15 → K (Sum.inr [Sum.inl (Sum.inr (Sum.inr (Sum.inr (Sum.inr (Sum.inr (Sum.inr (Sum.inl (IntKind.i64, Prod.fst x2)))))))), Sum.inl (Sum.inl (Value.bool false))]) { heap := [], ints := [], opqs := (0 : Nat), arrs := [some { elem := (9 : Nat), k := AK.o (Obj.rows [CK.s] L), l := [], cap := c, ro := false }], junks := (0 : Nat) }))) ∧ (¬Prod.fst x2 < z0 → K (Sum.inr [Sum.inl (Sum.inr (Sum.inr (Sum.inr (Sum.inr (Sum.inr (Sum.inr (Sum.inl (IntKind.i64, Prod.fst x2)))))))), Sum.inl (Sum.inl (Value.bool false))]) { heap := [], ints := [], opqs := (0 : Nat), arrs := [some { elem := (9 : Nat), k := AK.o (Obj.rows [CK.s] L), l := [], cap := c, ro := false }], junks := (0 : Nat) }))) := by kernel_rfl
end Go.Proofs.YtdpcahblhjbgjaaDoor
end

section
set_option linter.unusedVariables false
set_option linter.unusedSimpArgs false
set_option maxRecDepth 10000
namespace Go.Proofs.YtdpcahblhjbgjaaDoor
open Go Reck Ost
theorem ltL_irr : ∀ a : List Int, ltL a a = false
  | [] => rfl
  | x :: a => by simp [ltL, ltL_irr a]
theorem ltL_tr : ∀ a b c : List Int, ltL a b = true → ltL b c = true → ltL a c = true
  | _, [], _, h, _ => by cases ‹List Int› <;> simp [ltL] at h
  | _, _ :: _, [], _, h => by simp [ltL] at h
  | [], _ :: _, _ :: _, _, _ => rfl
  | x :: a, y :: b, z :: c, h1, h2 => by
    simp only [ltL, Bool.or_eq_true, Bool.and_eq_true, decide_eq_true_eq] at h1 h2 ⊢
    rcases h1 with h1 | ⟨rfl, h1⟩ <;> rcases h2 with h2 | ⟨rfl, h2⟩
    · left; omega
    · left; omega
    · left; omega
    · right; exact ⟨rfl, ltL_tr a b c h1 h2⟩
theorem ltL_tri : ∀ a b : List Int, ltL a b = false → ltL b a = false → a = b
  | [], [], _, _ => rfl
  | [], _ :: _, h, _ => by simp [ltL] at h
  | _ :: _, [], _, h => by simp [ltL] at h
  | x :: a, y :: b, h1, h2 => by
    simp only [ltL, Bool.or_eq_false_iff, Bool.and_eq_false_iff, decide_eq_false_iff_not] at h1 h2
    obtain rfl : x = y := by omega
    rw [ltL_tri a b (by rcases h1.2 with h | h <;> simp_all) (by rcases h2.2 with h | h <;> simp_all)]
theorem ltS_irr {a : List Int} (h : LtS a a) : False := by have := h.out; rw [ltL_irr] at this; cases this
theorem ltS_tr {a b c : List Int} (h : LtS a b) (k : LtS b c) : LtS a c := ⟨ltL_tr _ _ _ h.out k.out⟩
theorem ltS_tri {a b : List Int} (h : ¬ LtS a b) (k : ¬ LtS b a) : a = b := ltL_tri a b (by
  cases hx : ltL a b with
  | false => rfl
  | true => exact (h ⟨hx⟩).elim) (by
  cases hx : ltL b a with
  | false => rfl
  | true => exact (k ⟨hx⟩).elim)
theorem less_run (K : AV → St → Prop) (a b : List Int) (h1 : LtS a b → K (lit (.bool true)) emptySt) (h2 : ¬ LtS a b → K (lit (.bool false)) emptySt) : runR inv0 tbl0 70 [cell (strC a), cell (strC b)] emptySt K := by
  rw [less_vc]
  exact ⟨fun h => absurd rfl h, fun _ => ⟨h1, h2⟩⟩
theorem pLessS_ok : PatOk 70 pLessS := by
  intro tm σ C h K hK w0 e w hk vs hvs
  unfold pLessS at h
  split at h
  · split at h
    · rename_i a b ha hb
      simp only [Option.some.injEq] at h; subst h
      obtain ⟨v, u, rfl, hv, hu⟩ := twos hvs
      exact knownC noOv names (conOk_ofR tbl0_ok) (less_run K a b hK.1 hK.2) w0 e w hk [v, u] (two_map (as_str ha hv) (as_str hb hu))
    · cases h
  · cases h
/-- Texts that rise. -/
structure U.SrtR (L : Rws) (n : Nat) : Prop where
  out : ∀ i j : Nat, i < j → j < n → LtS (U.fs L i 0) (U.fs L j 0)
/-- Where a text stands, or would stand. -/
structure U.At (L : Rws) (n : Nat) (k : List Int) (z : Int) : Prop where
  b : 0 ≤ z ∧ z ≤ n
  lo : ∀ m : Nat, (m : Int) < z → LtS (U.fs L m 0) k
  hi : ∀ m : Nat, z ≤ (m : Int) → m < n → ¬ LtS (U.fs L m 0) k
structure U.HasAt (L : Rws) (n : Nat) (k : List Int) (z : Int) : Prop where
  out : z < n ∧ U.fs L z.toNat 0 = k
abbrev zbA (z : Int) (b : Bool) : AV := .inr [.inl (xintC .i64 z), .inl (.inl (.bool b))]
set_option maxHeartbeats 1000000 in
theorem bs_run (K : AV → St → Prop) (L : Rws) (n c : Nat) (k : List Int) (hl : n ≤ L.length) (hsm : n ≤ 1000000) (hs : U.SrtR L n)
    (hK : ∀ z : Int, U.At L n k z → (U.HasAt L n k z → K (zbA z true) ⟨[], [], 0, [some (sB L c)], 0⟩) ∧ (¬ U.HasAt L n k z → K (zbA z false) ⟨[], [], 0, [some (sB L c)], 0⟩)) :
    runR invBS tLess 57 [cell (rslC ⟨0, 1, 0, n, c⟩), cell (strC k)] ⟨[], [], 0, [some (sB L c)], 0⟩ K := by
  rw [bs_vc]
  intro z0 h0
  refine ⟨⟨(0, z0), ?_⟩, ?_⟩
  · repeat' (first | exact rfl | with_reducible apply And.intro)
    exact ⟨Int.le_refl _, by dsimp only; omega, by dsimp only; omega, fun m hm => by dsimp only at hm; omega, fun m hm hm2 => by dsimp only at hm; omega⟩
  rintro ⟨i, j⟩ ⟨b1, b2, b3, b4, b5⟩
  dsimp only at b1 b2 b3 b4 b5 ⊢
  refine ⟨fun hij z3 h3 z4 h4 => ⟨by decide, fun z5 h5 z6 h6 => ?_⟩, fun hij => ?_⟩
  · have e3 := iw h3 (by omega)
    have e4 : z4 = i + j := by
      rw [h4, e3]; show IntKind.wrap .u64 _ = _
      rw [IntKind.wrap]; simp [IntKind.signed, IntKind.bits]; omega
    have e5 : z5 = (i + j) / 2 := by
      rw [h5, e4]
      unfold shrI
      rw [show min (1 : Int).toNat (IntKind.bits .u64) = 1 from rfl, Int.fdiv_eq_ediv_of_nonneg _ (by decide)]
      rfl
    clear h3 h4 h5
    replace h6 := iw h6 (by omega)
    refine ⟨by omega, fun j7 h7 => ⟨by omega, fun z8 h8 => ?_⟩⟩
    obtain ⟨p, hp⟩ : ∃ p : Nat, z6 = p := ⟨z6.toNat, by omega⟩
    obtain rfl : j7 = p := by omega
    refine ⟨fun hlt z9 h9 => ⟨(z9, j), ?_⟩, fun hge => ⟨(i, z6), ?_⟩⟩
    · replace h9 := iw h9 (by omega)
      repeat' (first | exact rfl | with_reducible apply And.intro)
      · refine ⟨by dsimp only; omega, by dsimp only; omega, b3, fun m hm => ?_, b5⟩
        dsimp only at hm
        rw [h8] at hlt
        by_cases hmp : m = j7
        · rw [hmp]; exact hlt
        · exact ltS_tr (hs.out m j7 (by omega) (by omega)) hlt
      · dsimp only; omega
    · repeat' (first | exact rfl | with_reducible apply And.intro)
      · refine ⟨b1, by dsimp only; omega, by dsimp only; omega, b4, fun m hm hm2 => ?_⟩
        dsimp only at hm
        rw [h8] at hge
        by_cases hmp : m = j7
        · rw [hmp]; exact hge
        · exact fun hx => hge (ltS_tr (hs.out j7 m (by omega) hm2) hx)
      · dsimp only; omega
  · obtain rfl : i = j := by omega
    obtain ⟨p, rfl⟩ : ∃ p : Nat, i = p := ⟨i.toNat, by omega⟩
    have hK := hK p ⟨⟨b1, b3⟩, b4, b5⟩
    refine ⟨fun hlt => ⟨by omega, fun j12 h12 => ⟨by omega, fun z13 h13 => ?_⟩⟩, fun hge => hK.2 (fun hx => by have := hx.out.1; omega)⟩
    obtain rfl : j12 = p := by omega
    refine ⟨fun heq => hK.1 ⟨by omega, by rw [Int.toNat_natCast, ← h13]; exact heq⟩, fun hne => ?_⟩
    have hno : ¬ U.HasAt L n k j12 := fun hx => hne (by have := hx.out.2; rw [Int.toNat_natCast] at this; rw [h13]; exact this)
    repeat' (first | with_reducible apply And.intro | intro _)
    all_goals (first | exact hK.2 hno | omega | (exfalso; rename_i hx; exact hx rfl) | (exfalso; rename_i hx _; exact hx rfl))
end Go.Proofs.YtdpcahblhjbgjaaDoor
end

section
namespace Go.Proofs.YtdpcahblhjbgjaaDoor
open Go Reck Ost
set_option linter.unusedVariables false
set_option maxRecDepth 100000
def pBSS : Pat := fun args σ => match args, σ with
  | [s, k], ⟨[], [], 0, [some ⟨9, .o (.rows [.s] L), [], c0, false⟩], 0⟩ => match rslX s, strX k with
    | some ⟨0, 1, 0, n, c⟩, some k => some fun K => (c0 = c ∧ n ≤ L.length ∧ n ≤ 1000000 ∧ U.SrtR L n) ∧ ∀ z : Int, U.At L n k z → (U.HasAt L n k z → K (zbA z true) ⟨[], [], 0, [some (sB L c)], 0⟩) ∧ (¬ U.HasAt L n k z → K (zbA z false) ⟨[], [], 0, [some (sB L c)], 0⟩)
    | _, _ => none
  | _, _ => none
theorem pBSS_ok : PatOk 57 pBSS := by
  intro tm σ C h K hK w0 e w hk vs hvs
  unfold pBSS at h
  split at h
  · split at h
    · rename_i n c k hs hk'
      obtain rfl := rslX_eq hs
      simp only [Option.some.injEq] at h; subst h
      obtain ⟨⟨rfl, h1, h2, h3⟩, h4⟩ := hK
      obtain ⟨v, u, rfl, hv, hu⟩ := twos hvs
      exact knownC noOv names (conOk_ofR (tblIf_ok pLessS_ok)) (bs_run K _ _ _ k h1 h2 h3 h4) w0 e w hk _ (two_map hv (as_str hk' hu))
    · cases h
  · cases h
def tSh : Tbl := tblOr tIns (tblIf 57 pBSS)
theorem tSh_ok : TblOk Tryd.prog tSh := tblOr_ok tIns_ok (tblIf_ok pBSS_ok)
def shB (a b : Cell) (m : Int) : Option Blk := some ⟨79, [a, b, xintC .i64 m], none, 3, false⟩
def shSt (n c : Nat) (L : Rws) (d : Nat) (M : Rws) (m : Int) : St := ⟨[shB (rslC ⟨0, 1, 0, n, c⟩) (rslC ⟨1, 16, 0, n, d⟩) m], [], 0, [some (sB L c), some (eB M d)], 0⟩
--PLAIN
theorem newSh_vc (K : AV → St → Prop) (m : Int) : (runV ovI inv0 tbl0 23 [xi .i64 m] emptySt K) = (K (Sum.inl (Sum.inl (Sum.inr (Sum.inl ((0 : Nat), (0 : Nat)))))) { heap := [some { elem := nat_lit 79, cells := [Sum.inl (Value.slice none (0 : Nat) (0 : Nat)), Sum.inl (Value.slice none (0 : Nat) (0 : Nat)), Sum.inr (Sum.inr (Sum.inr (Sum.inr (Sum.inr (Sum.inr (Sum.inl (IntKind.i64, m)))))))], j := none, c := (0 : Nat) + (1 : Nat) + (1 : Nat) + (1 : Nat), z := false }], ints := [], opqs := (0 : Nat), arrs := [], junks := (0 : Nat) }) := by kernel_rfl
theorem shLen_vc (K : AV → St → Prop) (L M : Rws) (n c d : Nat) (m : Int) : (runV ovI inv0 tbl0 28 [ptr 0 0] (shSt n c L d M m) K) = (∀ (z0 : Int), z0 = (↑n : Int) → K (Sum.inl (Sum.inl (Sum.inr (Sum.inr (Sum.inr (Sum.inr (Sum.inr (Sum.inr (Sum.inl (IntKind.i64, z0)))))))))) { heap := [some { elem := nat_lit 79, cells := [Sum.inr (Sum.inr (Sum.inr (Sum.inr (Sum.inr (Sum.inr (Sum.inr (Sum.inr (Sum.inr (Sum.inr (Sum.inr (Sum.inl { a := (0 : Nat), u := (1 : Nat), o := (0 : Nat), n := n, c := c }))))))))))), Sum.inr (Sum.inr (Sum.inr (Sum.inr (Sum.inr (Sum.inr (Sum.inr (Sum.inr (Sum.inr (Sum.inr (Sum.inr (Sum.inl { a := (1 : Nat), u := (16 : Nat), o := (0 : Nat), n := n, c := d }))))))))))), Sum.inr (Sum.inr (Sum.inr (Sum.inr (Sum.inr (Sum.inr (Sum.inl (IntKind.i64, m)))))))], j := none, c := (3 : Nat), z := false }], ints := [], opqs := (0 : Nat), arrs := [some { elem := (9 : Nat), k := AK.o (Obj.rows [CK.s] L), l := [], cap := c, ro := false }, some { elem := (50 : Nat), k := AK.o (Obj.rows [CK.n IntKind.i64, CK.n IntKind.u64, CK.n IntKind.u64, CK.n IntKind.u32, CK.n IntKind.u32, CK.n IntKind.i64, CK.n IntKind.i64, CK.n IntKind.i64, CK.b, CK.b, CK.n IntKind.i64, CK.n IntKind.u32, CK.n IntKind.i64, CK.n IntKind.i64, CK.n IntKind.i64, CK.n IntKind.i64] M), l := [], cap := d, ro := false }], junks := (0 : Nat) }) := by kernel_rfl
theorem shSetTT_vc (K : AV → St → Prop) (L M : Rws) (n c d : Nat) (m : Int) (k : List Int) (p a b cc dd x s t : Int) (o ep id h bo us : Int) : (runV ovI inv0 tSh 32 [ptr 0 0, cell (strC k), .inl (.inr (eC p a b cc dd x s t true true o ep id h bo us))] (shSt n c L d M m) K) = ((c = c ∧ n ≤ List.length L ∧ n ≤ (1000000 : Nat) ∧ U.SrtR L n) ∧ ∀ (z0 : Int), U.At L n k z0 → (U.HasAt L n k z0 → ((0 : Int) ≤ z0 ∧ z0 < (↑n : Int)) ∧ ∀ (j1 : Nat), (↑j1 : Int) = (↑((0 : Nat)) : Int) + z0 → j1 < List.length M ∧ ∀ (L'2 : List (List CV)), L'2 = U.put M j1 ((0 : Nat)) [CV.i p, CV.i a, CV.i b, CV.i cc, CV.i dd, CV.i x, CV.i s, CV.i t, CV.b true, CV.b true, CV.i o, CV.i ep, CV.i id, CV.i h, CV.i bo, CV.i us] → K (Sum.inl (Sum.inl (Sum.inr (Sum.inr (Sum.inr (Sum.inr (Sum.inr (Sum.inr (Sum.inl (IntKind.i64, (0 : Int))))))))))) { heap := [some { elem := nat_lit 79, cells := [Sum.inr (Sum.inr (Sum.inr (Sum.inr (Sum.inr (Sum.inr (Sum.inr (Sum.inr (Sum.inr (Sum.inr (Sum.inr (Sum.inl { a := (0 : Nat), u := (1 : Nat), o := (0 : Nat), n := n, c := c }))))))))))), Sum.inr (Sum.inr (Sum.inr (Sum.inr (Sum.inr (Sum.inr (Sum.inr (Sum.inr (Sum.inr (Sum.inr (Sum.inr (Sum.inl { a := (1 : Nat), u := (16 : Nat), o := (0 : Nat), n := n, c := d }))))))))))), Sum.inr (Sum.inr (Sum.inr (Sum.inr (Sum.inr (Sum.inr (Sum.inl (IntKind.i64, m)))))))], j := none, c := (3 : Nat), z := false }], ints := [], opqs := (0 : Nat), arrs := [some { elem := (9 : Nat), k := AK.o (Obj.rows [CK.s] L), l := [], cap := c, ro := false }, some { elem := nat_lit 50, k := AK.o (Obj.rows [CK.n IntKind.i64, CK.n IntKind.u64, CK.n IntKind.u64, CK.n IntKind.u32, CK.n IntKind.u32, CK.n IntKind.i64, CK.n IntKind.i64, CK.n IntKind.i64, CK.b, CK.b, CK.n IntKind.i64, CK.n IntKind.u32, CK.n IntKind.i64, CK.n IntKind.i64, CK.n IntKind.i64, CK.n IntKind.i64] L'2), l := [], cap := d, ro := false }], junks := (0 : Nat) }) ∧ (¬U.HasAt L n k z0 → ∀ (z3 : Int), z3 = (↑n : Int) → (m ≤ z3 → K (Sum.inl (Sum.inl (Sum.inr (Sum.inr (Sum.inr (Sum.inr (Sum.inr (Sum.inr (Sum.inl (IntKind.i64, (4 : Int))))))))))) { heap := [some { elem := nat_lit 79, cells := [Sum.inr (Sum.inr (Sum.inr (Sum.inr (Sum.inr (Sum.inr (Sum.inr (Sum.inr (Sum.inr (Sum.inr (Sum.inr (Sum.inl { a := (0 : Nat), u := (1 : Nat), o := (0 : Nat), n := n, c := c }))))))))))), Sum.inr (Sum.inr (Sum.inr (Sum.inr (Sum.inr (Sum.inr (Sum.inr (Sum.inr (Sum.inr (Sum.inr (Sum.inr (Sum.inl { a := (1 : Nat), u := (16 : Nat), o := (0 : Nat), n := n, c := d }))))))))))), Sum.inr (Sum.inr (Sum.inr (Sum.inr (Sum.inr (Sum.inr (Sum.inl (IntKind.i64, m)))))))], j := none, c := (3 : Nat), z := false }], ints := [], opqs := (0 : Nat), arrs := [some { elem := (9 : Nat), k := AK.o (Obj.rows [CK.s] L), l := [], cap := c, ro := false }, some { elem := (50 : Nat), k := AK.o (Obj.rows [CK.n IntKind.i64, CK.n IntKind.u64, CK.n IntKind.u64, CK.n IntKind.u32, CK.n IntKind.u32, CK.n IntKind.i64, CK.n IntKind.i64, CK.n IntKind.i64, CK.b, CK.b, CK.n IntKind.i64, CK.n IntKind.u32, CK.n IntKind.i64, CK.n IntKind.i64, CK.n IntKind.i64, CK.n IntKind.i64] M), l := [], cap := d, ro := false }], junks := (0 : Nat) }) ∧ (¬m ≤ z3 → ∃ (y4 : Rws), (c = c ∧ U.Fu L n c y4 ∧ ((0 : Int) ≤ z0 ∧ z0 ≤ (↑n : Int)) ∧ n + (1 : Nat) ≤ (1000000 : Nat)) ∧ ∀ (n'5 c'6 : Nat) (L'7 : Rws), n'5 = n + (1 : Nat) → U.Fu L'7 n'5 c'6 (U.insR y4 z0 [CV.s k]) → p = p ∧ a = a ∧ b = b ∧ cc = cc ∧ dd = dd ∧ x = x ∧ s = s ∧ t = t ∧ true = true ∧ true = true ∧ o = o ∧ ep = ep ∧ id = id ∧ h = h ∧ bo = bo ∧ us = us ∧ ((0 : Nat) = (0 : Nat) ∧ n = n ∧ d = d) ∧ ∃ (y8 : Rws), (d = d ∧ U.Fu M n d y8 ∧ ((0 : Int) ≤ z0 ∧ z0 ≤ (↑n : Int)) ∧ n + (1 : Nat) ≤ (1000000 : Nat)) ∧ ∀ (n'9 c'10 : Nat) (L'11 : Rws), n'9 = n + (1 : Nat) → U.Fu L'11 n'9 c'10 (U.insR y8 z0 [CV.i p, CV.i a, CV.i b, CV.i cc, CV.i dd, CV.i x, CV.i s, CV.i t, CV.b true, CV.b true, CV.i o, CV.i ep, CV.i id, CV.i h, CV.i bo, CV.i us]) → p = p ∧ a = a ∧ b = b ∧ cc = cc ∧ dd = dd ∧ x = x ∧ s = s ∧ t = t ∧ true = true ∧ true = true ∧ o = o ∧ ep = ep ∧ id = id ∧ h = h ∧ bo = bo ∧ us = us ∧ ((0 : Nat) = (0 : Nat) ∧ n = n ∧ d = d) ∧ K (Sum.inl (Sum.inl (Sum.inr (Sum.inr (Sum.inr (Sum.inr (Sum.inr (Sum.inr (Sum.inl (IntKind.i64, (0 : Int))))))))))) { heap := [some { elem := nat_lit 79, cells := [Sum.inr (Sum.inr (Sum.inr (Sum.inr (Sum.inr (Sum.inr (Sum.inr (Sum.inr (Sum.inr (Sum.inr (Sum.inr (Sum.inl { a := (2 : Nat), u := (1 : Nat), o := (0 : Nat), n := n'5, c := c'6 }))))))))))), Sum.inr (Sum.inr (Sum.inr (Sum.inr (Sum.inr (Sum.inr (Sum.inr (Sum.inr (Sum.inr (Sum.inr (Sum.inr (Sum.inl { a := (3 : Nat), u := (16 : Nat), o := (0 : Nat), n := n'9, c := c'10 }))))))))))), Sum.inr (Sum.inr (Sum.inr (Sum.inr (Sum.inr (Sum.inr (Sum.inl (IntKind.i64, m)))))))], j := none, c := (3 : Nat), z := false }], ints := [], opqs := (0 : Nat), arrs := [none, none, some { elem := (9 : Nat), k := AK.o (Obj.rows [CK.s] L'7), l := [], cap := c'6, ro := false }, some { elem := (50 : TypeId), k := AK.o (Obj.rows [CK.n IntKind.i64, CK.n IntKind.u64, CK.n IntKind.u64, CK.n IntKind.u32, CK.n IntKind.u32, CK.n IntKind.i64, CK.n IntKind.i64, CK.n IntKind.i64, CK.b, CK.b, CK.n IntKind.i64, CK.n IntKind.u32, CK.n IntKind.i64, CK.n IntKind.i64, CK.n IntKind.i64, CK.n IntKind.i64] L'11), l := [], cap := c'10, ro := false }], junks := (0 : Nat) }))) := by kernel_rfl
theorem shSetTF_vc (K : AV → St → Prop) (L M : Rws) (n c d : Nat) (m : Int) (k : List Int) (p a b cc dd x s t : Int) (o ep id h bo us : Int) : (runV ovI inv0 tSh 32 [ptr 0 0, cell (strC k), .inl (.inr (eC p a b cc dd x s t true false o ep id h bo us))] (shSt n c L d M m) K) = ((c = c ∧ n ≤ List.length L ∧ n ≤ (1000000 : Nat) ∧ U.SrtR L n) ∧ ∀ (z0 : Int), U.At L n k z0 → (U.HasAt L n k z0 → ((0 : Int) ≤ z0 ∧ z0 < (↑n : Int)) ∧ ∀ (j1 : Nat), (↑j1 : Int) = (↑((0 : Nat)) : Int) + z0 → j1 < List.length M ∧ ∀ (L'2 : List (List CV)), L'2 = U.put M j1 ((0 : Nat)) [CV.i p, CV.i a, CV.i b, CV.i cc, CV.i dd, CV.i x, CV.i s, CV.i t, CV.b true, CV.b false, CV.i o, CV.i ep, CV.i id, CV.i h, CV.i bo, CV.i us] → K (Sum.inl (Sum.inl (Sum.inr (Sum.inr (Sum.inr (Sum.inr (Sum.inr (Sum.inr (Sum.inl (IntKind.i64, (0 : Int))))))))))) { heap := [some { elem := nat_lit 79, cells := [Sum.inr (Sum.inr (Sum.inr (Sum.inr (Sum.inr (Sum.inr (Sum.inr (Sum.inr (Sum.inr (Sum.inr (Sum.inr (Sum.inl { a := (0 : Nat), u := (1 : Nat), o := (0 : Nat), n := n, c := c }))))))))))), Sum.inr (Sum.inr (Sum.inr (Sum.inr (Sum.inr (Sum.inr (Sum.inr (Sum.inr (Sum.inr (Sum.inr (Sum.inr (Sum.inl { a := (1 : Nat), u := (16 : Nat), o := (0 : Nat), n := n, c := d }))))))))))), Sum.inr (Sum.inr (Sum.inr (Sum.inr (Sum.inr (Sum.inr (Sum.inl (IntKind.i64, m)))))))], j := none, c := (3 : Nat), z := false }], ints := [], opqs := (0 : Nat), arrs := [some { elem := (9 : TypeId), k := AK.o (Obj.rows [CK.s] L), l := [], cap := c, ro := false }, some { elem := nat_lit 50, k := AK.o (Obj.rows [CK.n IntKind.i64, CK.n IntKind.u64, CK.n IntKind.u64, CK.n IntKind.u32, CK.n IntKind.u32, CK.n IntKind.i64, CK.n IntKind.i64, CK.n IntKind.i64, CK.b, CK.b, CK.n IntKind.i64, CK.n IntKind.u32, CK.n IntKind.i64, CK.n IntKind.i64, CK.n IntKind.i64, CK.n IntKind.i64] L'2), l := [], cap := d, ro := false }], junks := (0 : Nat) }) ∧ (¬U.HasAt L n k z0 → ∀ (z3 : Int), z3 = (↑n : Int) → (m ≤ z3 → K (Sum.inl (Sum.inl (Sum.inr (Sum.inr (Sum.inr (Sum.inr (Sum.inr (Sum.inr (Sum.inl (IntKind.i64, (4 : Int))))))))))) { heap := [some { elem := nat_lit 79, cells := [Sum.inr (Sum.inr (Sum.inr (Sum.inr (Sum.inr (Sum.inr (Sum.inr (Sum.inr (Sum.inr (Sum.inr (Sum.inr (Sum.inl { a := (0 : Nat), u := (1 : Nat), o := (0 : Nat), n := n, c := c }))))))))))), Sum.inr (Sum.inr (Sum.inr (Sum.inr (Sum.inr (Sum.inr (Sum.inr (Sum.inr (Sum.inr (Sum.inr (Sum.inr (Sum.inl { a := (1 : Nat), u := (16 : Nat), o := (0 : Nat), n := n, c := d }))))))))))), Sum.inr (Sum.inr (Sum.inr (Sum.inr (Sum.inr (Sum.inr (Sum.inl (IntKind.i64, m)))))))], j := none, c := (3 : Nat), z := false }], ints := [], opqs := (0 : Nat), arrs := [some { elem := (9 : TypeId), k := AK.o (Obj.rows [CK.s] L), l := [], cap := c, ro := false }, some { elem := (50 : TypeId), k := AK.o (Obj.rows [CK.n IntKind.i64, CK.n IntKind.u64, CK.n IntKind.u64, CK.n IntKind.u32, CK.n IntKind.u32, CK.n IntKind.i64, CK.n IntKind.i64, CK.n IntKind.i64, CK.b, CK.b, CK.n IntKind.i64, CK.n IntKind.u32, CK.n IntKind.i64, CK.n IntKind.i64, CK.n IntKind.i64, CK.n IntKind.i64] M), l := [], cap := d, ro := false }], junks := (0 : Nat) }) ∧ (¬m ≤ z3 → ∃ (y4 : Rws), (c = c ∧ U.Fu L n c y4 ∧ ((0 : Int) ≤ z0 ∧ z0 ≤ (↑n : Int)) ∧ n + (1 : Nat) ≤ (1000000 : Nat)) ∧ ∀ (n'5 c'6 : Nat) (L'7 : Rws), n'5 = n + (1 : Nat) → U.Fu L'7 n'5 c'6 (U.insR y4 z0 [CV.s k]) → p = p ∧ a = a ∧ b = b ∧ cc = cc ∧ dd = dd ∧ x = x ∧ s = s ∧ t = t ∧ true = true ∧ false = false ∧ o = o ∧ ep = ep ∧ id = id ∧ h = h ∧ bo = bo ∧ us = us ∧ ((0 : Nat) = (0 : Nat) ∧ n = n ∧ d = d) ∧ ∃ (y8 : Rws), (d = d ∧ U.Fu M n d y8 ∧ ((0 : Int) ≤ z0 ∧ z0 ≤ (↑n : Int)) ∧ n + (1 : Nat) ≤ (1000000 : Nat)) ∧ ∀ (n'9 c'10 : Nat) (L'11 : Rws), n'9 = n + (1 : Nat) → U.Fu L'11 n'9 c'10 (U.insR y8 z0 [CV.i p, CV.i a, CV.i b, CV.i cc, CV.i dd, CV.i x, CV.i s, CV.i t, CV.b true, CV.b false, CV.i o, CV.i ep, CV.i id, CV.i h, CV.i bo, CV.i us]) → p = p ∧ a = a ∧ b = b ∧ cc = cc ∧ dd = dd ∧ x = x ∧ s = s ∧ t = t ∧ true = true ∧ false = false ∧ o = o ∧ ep = ep ∧ id = id ∧ h = h ∧ bo = bo ∧ us = us ∧ ((0 : Nat) = (0 : Nat) ∧ n = n ∧ d = d) ∧ K (Sum.inl (Sum.inl (Sum.inr (Sum.inr (Sum.inr (Sum.inr (Sum.inr (Sum.inr (Sum.inl (IntKind.i64, (0 : Int))))))))))) { heap := [some { elem := nat_lit 79, cells := [Sum.inr (Sum.inr (Sum.inr (Sum.inr (Sum.inr (Sum.inr (Sum.inr (Sum.inr (Sum.inr (Sum.inr (Sum.inr (Sum.inl { a := (2 : Nat), u := (1 : Nat), o := (0 : Nat), n := n'5, c := c'6 }))))))))))), Sum.inr (Sum.inr (Sum.inr (Sum.inr (Sum.inr (Sum.inr (Sum.inr (Sum.inr (Sum.inr (Sum.inr (Sum.inr (Sum.inl { a := (3 : Nat), u := (16 : Nat), o := (0 : Nat), n := n'9, c := c'10 }))))))))))), Sum.inr (Sum.inr (Sum.inr (Sum.inr (Sum.inr (Sum.inr (Sum.inl (IntKind.i64, m)))))))], j := none, c := (3 : Nat), z := false }], ints := [], opqs := (0 : Nat), arrs := [none, none, some { elem := (9 : TypeId), k := AK.o (Obj.rows [CK.s] L'7), l := [], cap := c'6, ro := false }, some { elem := (50 : TypeId), k := AK.o (Obj.rows [CK.n IntKind.i64, CK.n IntKind.u64, CK.n IntKind.u64, CK.n IntKind.u32, CK.n IntKind.u32, CK.n IntKind.i64, CK.n IntKind.i64, CK.n IntKind.i64, CK.b, CK.b, CK.n IntKind.i64, CK.n IntKind.u32, CK.n IntKind.i64, CK.n IntKind.i64, CK.n IntKind.i64, CK.n IntKind.i64] L'11), l := [], cap := c'10, ro := false }], junks := (0 : Nat) }))) := by kernel_rfl
theorem shSetFT_vc (K : AV → St → Prop) (L M : Rws) (n c d : Nat) (m : Int) (k : List Int) (p a b cc dd x s t : Int) (o ep id h bo us : Int) : (runV ovI inv0 tSh 32 [ptr 0 0, cell (strC k), .inl (.inr (eC p a b cc dd x s t false true o ep id h bo us))] (shSt n c L d M m) K) = ((c = c ∧ n ≤ List.length L ∧ n ≤ (1000000 : Nat) ∧ U.SrtR L n) ∧ ∀ (z0 : Int), U.At L n k z0 → (U.HasAt L n k z0 → ((0 : Int) ≤ z0 ∧ z0 < (↑n : Int)) ∧ ∀ (j1 : Nat), (↑j1 : Int) = (↑((0 : Nat)) : Int) + z0 → j1 < List.length M ∧ ∀ (L'2 : List (List CV)), L'2 = U.put M j1 ((0 : Nat)) [CV.i p, CV.i a, CV.i b, CV.i cc, CV.i dd, CV.i x, CV.i s, CV.i t, CV.b false, CV.b true, CV.i o, CV.i ep, CV.i id, CV.i h, CV.i bo, CV.i us] → K (Sum.inl (Sum.inl (Sum.inr (Sum.inr (Sum.inr (Sum.inr (Sum.inr (Sum.inr (Sum.inl (IntKind.i64, (0 : Int))))))))))) { heap := [some { elem := nat_lit 79, cells := [Sum.inr (Sum.inr (Sum.inr (Sum.inr (Sum.inr (Sum.inr (Sum.inr (Sum.inr (Sum.inr (Sum.inr (Sum.inr (Sum.inl { a := (0 : Nat), u := (1 : Nat), o := (0 : Nat), n := n, c := c }))))))))))), Sum.inr (Sum.inr (Sum.inr (Sum.inr (Sum.inr (Sum.inr (Sum.inr (Sum.inr (Sum.inr (Sum.inr (Sum.inr (Sum.inl { a := (1 : Nat), u := (16 : Nat), o := (0 : Nat), n := n, c := d }))))))))))), Sum.inr (Sum.inr (Sum.inr (Sum.inr (Sum.inr (Sum.inr (Sum.inl (IntKind.i64, m)))))))], j := none, c := (3 : Nat), z := false }], ints := [], opqs := (0 : Nat), arrs := [some { elem := (9 : TypeId), k := AK.o (Obj.rows [CK.s] L), l := [], cap := c, ro := false }, some { elem := nat_lit 50, k := AK.o (Obj.rows [CK.n IntKind.i64, CK.n IntKind.u64, CK.n IntKind.u64, CK.n IntKind.u32, CK.n IntKind.u32, CK.n IntKind.i64, CK.n IntKind.i64, CK.n IntKind.i64, CK.b, CK.b, CK.n IntKind.i64, CK.n IntKind.u32, CK.n IntKind.i64, CK.n IntKind.i64, CK.n IntKind.i64, CK.n IntKind.i64] L'2), l := [], cap := d, ro := false }], junks := (0 : Nat) }) ∧ (¬U.HasAt L n k z0 → ∀ (z3 : Int), z3 = (↑n : Int) → (m ≤ z3 → K (Sum.inl (Sum.inl (Sum.inr (Sum.inr (Sum.inr (Sum.inr (Sum.inr (Sum.inr (Sum.inl (IntKind.i64, (4 : Int))))))))))) { heap := [some { elem := nat_lit 79, cells := [Sum.inr (Sum.inr (Sum.inr (Sum.inr (Sum.inr (Sum.inr (Sum.inr (Sum.inr (Sum.inr (Sum.inr (Sum.inr (Sum.inl { a := (0 : Nat), u := (1 : Nat), o := (0 : Nat), n := n, c := c }))))))))))), Sum.inr (Sum.inr (Sum.inr (Sum.inr (Sum.inr (Sum.inr (Sum.inr (Sum.inr (Sum.inr (Sum.inr (Sum.inr (Sum.inl { a := (1 : Nat), u := (16 : Nat), o := (0 : Nat), n := n, c := d }))))))))))), Sum.inr (Sum.inr (Sum.inr (Sum.inr (Sum.inr (Sum.inr (Sum.inl (IntKind.i64, m)))))))], j := none, c := (3 : Nat), z := false }], ints := [], opqs := (0 : Nat), arrs := [some { elem := (9 : TypeId), k := AK.o (Obj.rows [CK.s] L), l := [], cap := c, ro := false }, some { elem := (50 : TypeId), k := AK.o (Obj.rows [CK.n IntKind.i64, CK.n IntKind.u64, CK.n IntKind.u64, CK.n IntKind.u32, CK.n IntKind.u32, CK.n IntKind.i64, CK.n IntKind.i64, CK.n IntKind.i64, CK.b, CK.b, CK.n IntKind.i64, CK.n IntKind.u32, CK.n IntKind.i64, CK.n IntKind.i64, CK.n IntKind.i64, CK.n IntKind.i64] M), l := [], cap := d, ro := false }], junks := (0 : Nat) }) ∧ (¬m ≤ z3 → ∃ (y4 : Rws), (c = c ∧ U.Fu L n c y4 ∧ ((0 : Int) ≤ z0 ∧ z0 ≤ (↑n : Int)) ∧ n + (1 : Nat) ≤ (1000000 : Nat)) ∧ ∀ (n'5 c'6 : Nat) (L'7 : Rws), n'5 = n + (1 : Nat) → U.Fu L'7 n'5 c'6 (U.insR y4 z0 [CV.s k]) → p = p ∧ a = a ∧ b = b ∧ cc = cc ∧ dd = dd ∧ x = x ∧ s = s ∧ t = t ∧ false = false ∧ true = true ∧ o = o ∧ ep = ep ∧ id = id ∧ h = h ∧ bo = bo ∧ us = us ∧ ((0 : Nat) = (0 : Nat) ∧ n = n ∧ d = d) ∧ ∃ (y8 : Rws), (d = d ∧ U.Fu M n d y8 ∧ ((0 : Int) ≤ z0 ∧ z0 ≤ (↑n : Int)) ∧ n + (1 : Nat) ≤ (1000000 : Nat)) ∧ ∀ (n'9 c'10 : Nat) (L'11 : Rws), n'9 = n + (1 : Nat) → U.Fu L'11 n'9 c'10 (U.insR y8 z0 [CV.i p, CV.i a, CV.i b, CV.i cc, CV.i dd, CV.i x, CV.i s, CV.i t, CV.b false, CV.b true, CV.i o, CV.i ep, CV.i id, CV.i h, CV.i bo, CV.i us]) → p = p ∧ a = a ∧ b = b ∧ cc = cc ∧ dd = dd ∧ x = x ∧ s = s ∧ t = t ∧ false = false ∧ true = true ∧ o = o ∧ ep = ep ∧ id = id ∧ h = h ∧ bo = bo ∧ us = us ∧ ((0 : Nat) = (0 : Nat) ∧ n = n ∧ d = d) ∧ K (Sum.inl (Sum.inl (Sum.inr (Sum.inr (Sum.inr (Sum.inr (Sum.inr (Sum.inr (Sum.inl (IntKind.i64, (0 : Int))))))))))) { heap := [some { elem := nat_lit 79, cells := [Sum.inr (Sum.inr (Sum.inr (Sum.inr (Sum.inr (Sum.inr (Sum.inr (Sum.inr (Sum.inr (Sum.inr (Sum.inr (Sum.inl { a := (2 : Nat), u := (1 : Nat), o := (0 : Nat), n := n'5, c := c'6 }))))))))))), Sum.inr (Sum.inr (Sum.inr (Sum.inr (Sum.inr (Sum.inr (Sum.inr (Sum.inr (Sum.inr (Sum.inr (Sum.inr (Sum.inl { a := (3 : Nat), u := (16 : Nat), o := (0 : Nat), n := n'9, c := c'10 }))))))))))), Sum.inr (Sum.inr (Sum.inr (Sum.inr (Sum.inr (Sum.inr (Sum.inl (IntKind.i64, m)))))))], j := none, c := (3 : Nat), z := false }], ints := [], opqs := (0 : Nat), arrs := [none, none, some { elem := (9 : TypeId), k := AK.o (Obj.rows [CK.s] L'7), l := [], cap := c'6, ro := false }, some { elem := (50 : TypeId), k := AK.o (Obj.rows [CK.n IntKind.i64, CK.n IntKind.u64, CK.n IntKind.u64, CK.n IntKind.u32, CK.n IntKind.u32, CK.n IntKind.i64, CK.n IntKind.i64, CK.n IntKind.i64, CK.b, CK.b, CK.n IntKind.i64, CK.n IntKind.u32, CK.n IntKind.i64, CK.n IntKind.i64, CK.n IntKind.i64, CK.n IntKind.i64] L'11), l := [], cap := c'10, ro := false }], junks := (0 : Nat) }))) := by kernel_rfl
theorem shSetFF_vc (K : AV → St → Prop) (L M : Rws) (n c d : Nat) (m : Int) (k : List Int) (p a b cc dd x s t : Int) (o ep id h bo us : Int) : (runV ovI inv0 tSh 32 [ptr 0 0, cell (strC k), .inl (.inr (eC p a b cc dd x s t false false o ep id h bo us))] (shSt n c L d M m) K) = ((c = c ∧ n ≤ List.length L ∧ n ≤ (1000000 : Nat) ∧ U.SrtR L n) ∧ ∀ (z0 : Int), U.At L n k z0 → (U.HasAt L n k z0 → ((0 : Int) ≤ z0 ∧ z0 < (↑n : Int)) ∧ ∀ (j1 : Nat), (↑j1 : Int) = (↑((0 : Nat)) : Int) + z0 → j1 < List.length M ∧ ∀ (L'2 : List (List CV)), L'2 = U.put M j1 ((0 : Nat)) [CV.i p, CV.i a, CV.i b, CV.i cc, CV.i dd, CV.i x, CV.i s, CV.i t, CV.b false, CV.b false, CV.i o, CV.i ep, CV.i id, CV.i h, CV.i bo, CV.i us] → K (Sum.inl (Sum.inl (Sum.inr (Sum.inr (Sum.inr (Sum.inr (Sum.inr (Sum.inr (Sum.inl (IntKind.i64, (0 : Int))))))))))) { heap := [some { elem := nat_lit 79, cells := [Sum.inr (Sum.inr (Sum.inr (Sum.inr (Sum.inr (Sum.inr (Sum.inr (Sum.inr (Sum.inr (Sum.inr (Sum.inr (Sum.inl { a := (0 : Nat), u := (1 : Nat), o := (0 : Nat), n := n, c := c }))))))))))), Sum.inr (Sum.inr (Sum.inr (Sum.inr (Sum.inr (Sum.inr (Sum.inr (Sum.inr (Sum.inr (Sum.inr (Sum.inr (Sum.inl { a := (1 : Nat), u := (16 : Nat), o := (0 : Nat), n := n, c := d }))))))))))), Sum.inr (Sum.inr (Sum.inr (Sum.inr (Sum.inr (Sum.inr (Sum.inl (IntKind.i64, m)))))))], j := none, c := (3 : Nat), z := false }], ints := [], opqs := (0 : Nat), arrs := [some { elem := (9 : TypeId), k := AK.o (Obj.rows [CK.s] L), l := [], cap := c, ro := false }, some { elem := nat_lit 50, k := AK.o (Obj.rows [CK.n IntKind.i64, CK.n IntKind.u64, CK.n IntKind.u64, CK.n IntKind.u32, CK.n IntKind.u32, CK.n IntKind.i64, CK.n IntKind.i64, CK.n IntKind.i64, CK.b, CK.b, CK.n IntKind.i64, CK.n IntKind.u32, CK.n IntKind.i64, CK.n IntKind.i64, CK.n IntKind.i64, CK.n IntKind.i64] L'2), l := [], cap := d, ro := false }], junks := (0 : Nat) }) ∧ (¬U.HasAt L n k z0 → ∀ (z3 : Int), z3 = (↑n : Int) → (m ≤ z3 → K (Sum.inl (Sum.inl (Sum.inr (Sum.inr (Sum.inr (Sum.inr (Sum.inr (Sum.inr (Sum.inl (IntKind.i64, (4 : Int))))))))))) { heap := [some { elem := nat_lit 79, cells := [Sum.inr (Sum.inr (Sum.inr (Sum.inr (Sum.inr (Sum.inr (Sum.inr (Sum.inr (Sum.inr (Sum.inr (Sum.inr (Sum.inl { a := (0 : Nat), u := (1 : Nat), o := (0 : Nat), n := n, c := c }))))))))))), Sum.inr (Sum.inr (Sum.inr (Sum.inr (Sum.inr (Sum.inr (Sum.inr (Sum.inr (Sum.inr (Sum.inr (Sum.inr (Sum.inl { a := (1 : Nat), u := (16 : Nat), o := (0 : Nat), n := n, c := d }))))))))))), Sum.inr (Sum.inr (Sum.inr (Sum.inr (Sum.inr (Sum.inr (Sum.inl (IntKind.i64, m)))))))], j := none, c := (3 : Nat), z := false }], ints := [], opqs := (0 : Nat), arrs := [some { elem := (9 : TypeId), k := AK.o (Obj.rows [CK.s] L), l := [], cap := c, ro := false }, some { elem := (50 : TypeId), k := AK.o (Obj.rows [CK.n IntKind.i64, CK.n IntKind.u64, CK.n IntKind.u64, CK.n IntKind.u32, CK.n IntKind.u32, CK.n IntKind.i64, CK.n IntKind.i64, CK.n IntKind.i64, CK.b, CK.b, CK.n IntKind.i64, CK.n IntKind.u32, CK.n IntKind.i64, CK.n IntKind.i64, CK.n IntKind.i64, CK.n IntKind.i64] M), l := [], cap := d, ro := false }], junks := (0 : Nat) }) ∧ (¬m ≤ z3 → ∃ (y4 : Rws), (c = c ∧ U.Fu L n c y4 ∧ ((0 : Int) ≤ z0 ∧ z0 ≤ (↑n : Int)) ∧ n + (1 : Nat) ≤ (1000000 : Nat)) ∧ ∀ (n'5 c'6 : Nat) (L'7 : Rws), n'5 = n + (1 : Nat) → U.Fu L'7 n'5 c'6 (U.insR y4 z0 [CV.s k]) → p = p ∧ a = a ∧ b = b ∧ cc = cc ∧ dd = dd ∧ x = x ∧ s = s ∧ t = t ∧ false = false ∧ false = false ∧ o = o ∧ ep = ep ∧ id = id ∧ h = h ∧ bo = bo ∧ us = us ∧ ((0 : Nat) = (0 : Nat) ∧ n = n ∧ d = d) ∧ ∃ (y8 : Rws), (d = d ∧ U.Fu M n d y8 ∧ ((0 : Int) ≤ z0 ∧ z0 ≤ (↑n : Int)) ∧ n + (1 : Nat) ≤ (1000000 : Nat)) ∧ ∀ (n'9 c'10 : Nat) (L'11 : Rws), n'9 = n + (1 : Nat) → U.Fu L'11 n'9 c'10 (U.insR y8 z0 [CV.i p, CV.i a, CV.i b, CV.i cc, CV.i dd, CV.i x, CV.i s, CV.i t, CV.b false, CV.b false, CV.i o, CV.i ep, CV.i id, CV.i h, CV.i bo, CV.i us]) → p = p ∧ a = a ∧ b = b ∧ cc = cc ∧ dd = dd ∧ x = x ∧ s = s ∧ t = t ∧ false = false ∧ false = false ∧ o = o ∧ ep = ep ∧ id = id ∧ h = h ∧ bo = bo ∧ us = us ∧ ((0 : Nat) = (0 : Nat) ∧ n = n ∧ d = d) ∧ K (Sum.inl (Sum.inl (Sum.inr (Sum.inr (Sum.inr (Sum.inr (Sum.inr (Sum.inr (Sum.inl (IntKind.i64, (0 : Int))))))))))) { heap := [some { elem := nat_lit 79, cells := [Sum.inr (Sum.inr (Sum.inr (Sum.inr (Sum.inr (Sum.inr (Sum.inr (Sum.inr (Sum.inr (Sum.inr (Sum.inr (Sum.inl { a := (2 : Nat), u := (1 : Nat), o := (0 : Nat), n := n'5, c := c'6 }))))))))))), Sum.inr (Sum.inr (Sum.inr (Sum.inr (Sum.inr (Sum.inr (Sum.inr (Sum.inr (Sum.inr (Sum.inr (Sum.inr (Sum.inl { a := (3 : Nat), u := (16 : Nat), o := (0 : Nat), n := n'9, c := c'10 }))))))))))), Sum.inr (Sum.inr (Sum.inr (Sum.inr (Sum.inr (Sum.inr (Sum.inl (IntKind.i64, m)))))))], j := none, c := (3 : Nat), z := false }], ints := [], opqs := (0 : Nat), arrs := [none, none, some { elem := (9 : TypeId), k := AK.o (Obj.rows [CK.s] L'7), l := [], cap := c'6, ro := false }, some { elem := (50 : TypeId), k := AK.o (Obj.rows [CK.n IntKind.i64, CK.n IntKind.u64, CK.n IntKind.u64, CK.n IntKind.u32, CK.n IntKind.u32, CK.n IntKind.i64, CK.n IntKind.i64, CK.n IntKind.i64, CK.b, CK.b, CK.n IntKind.i64, CK.n IntKind.u32, CK.n IntKind.i64, CK.n IntKind.i64, CK.n IntKind.i64, CK.n IntKind.i64] L'11), l := [], cap := c'10, ro := false }], junks := (0 : Nat) }))) := by kernel_rfl
theorem shGet_vc (K : AV → St → Prop) (L M : Rws) (n c d : Nat) (m : Int) (k : List Int) : (runV ovI inv0 tSh 35 [ptr 0 0, cell (strC k)] (shSt n c L d M m) K) = ((c = c ∧ n ≤ List.length L ∧ n ≤ (1000000 : Nat) ∧ U.SrtR L n) ∧ ∀ (z0 : Int), U.At L n k z0 → (U.HasAt L n k z0 → ((0 : Int) ≤ z0 ∧ z0 < (↑n : Int)) ∧ ∀ (j1 : Nat), (↑j1 : Int) = (↑((0 : Nat)) : Int) + z0 → j1 < List.length M ∧ ∀ (z2 : Int), z2 = U.fi M j1 ((0 : Nat)) → ∀ (z3 : Int), z3 = U.fi M j1 ((0 : Nat) + (1 : Nat)) → ∀ (z4 : Int), z4 = U.fi M j1 ((0 : Nat) + (1 : Nat) + (1 : Nat)) → ∀ (z5 : Int), z5 = U.fi M j1 ((0 : Nat) + (1 : Nat) + (1 : Nat) + (1 : Nat)) → ∀ (z6 : Int), z6 = U.fi M j1 ((0 : Nat) + (1 : Nat) + (1 : Nat) + (1 : Nat) + (1 : Nat)) → ∀ (z7 : Int), z7 = U.fi M j1 ((0 : Nat) + (1 : Nat) + (1 : Nat) + (1 : Nat) + (1 : Nat) + (1 : Nat)) → ∀ (z8 : Int), z8 = U.fi M j1 ((0 : Nat) + (1 : Nat) + (1 : Nat) + (1 : Nat) + (1 : Nat) + (1 : Nat) + (1 : Nat)) → ∀ (z9 : Int), z9 = U.fi M j1 ((0 : Nat) + (1 : Nat) + (1 : Nat) + (1 : Nat) + (1 : Nat) + (1 : Nat) + (1 : Nat) + (1 : Nat)) → (U.fb M j1 ((0 : Nat) + (1 : Nat) + (1 : Nat) + (1 : Nat) + (1 : Nat) + (1 : Nat) + (1 : Nat) + (1 : Nat) + (1 : Nat)) = true → (U.fb M j1 ((0 : Nat) + (1 : Nat) + (1 : Nat) + (1 : Nat) + (1 : Nat) + (1 : Nat) + (1 : Nat) + (1 : Nat) + (1 : Nat) + (1 : Nat)) = true → ∀ (z10 : Int), z10 = U.fi M j1 ((0 : Nat) + (1 : Nat) + (1 : Nat) + (1 : Nat) + (1 : Nat) + (1 : Nat) + (1 : Nat) + (1 : Nat) + (1 : Nat) + (1 : Nat) + (1 : Nat)) → ∀ (z11 : Int), z11 = U.fi M j1 ((0 : Nat) + (1 : Nat) + (1 : Nat) + (1 : Nat) + (1 : Nat) + (1 : Nat) + (1 : Nat) + (1 : Nat) + (1 : Nat) + (1 : Nat) + (1 : Nat) + (1 : Nat)) → ∀ (z12 : Int), z12 = U.fi M j1 ((0 : Nat) + (1 : Nat) + (1 : Nat) + (1 : Nat) + (1 : Nat) + (1 : Nat) + (1 : Nat) + (1 : Nat) + (1 : Nat) + (1 : Nat) + (1 : Nat) + (1 : Nat) + (1 : Nat)) → ∀ (z13 : Int), z13 = U.fi M j1 ((0 : Nat) + (1 : Nat) + (1 : Nat) + (1 : Nat) + (1 : Nat) + (1 : Nat) + (1 : Nat) + (1 : Nat) + (1 : Nat) + (1 : Nat) + (1 : Nat) + (1 : Nat) + (1 : Nat) + (1 : Nat)) → ∀ (z14 : Int), z14 = U.fi M j1 ((0 : Nat) + (1 : Nat) + (1 : Nat) + (1 : Nat) + (1 : Nat) + (1 : Nat) + (1 : Nat) + (1 : Nat) + (1 : Nat) + (1 : Nat) + (1 : Nat) + (1 : Nat) + (1 : Nat) + (1 : Nat) + (1 : Nat)) → ∀ (z15 : Int), z15 = U.fi M j1 ((0 : Nat) + (1 : Nat) + (1 : Nat) + (1 : Nat) + (1 : Nat) + (1 : Nat) + (1 : Nat) + (1 : Nat) + (1 : Nat) + (1 : Nat) + (1 : Nat) + (1 : Nat) + (1 : Nat) + (1 : Nat) + (1 : Nat) + (1 : Nat)) → K (Sum.inr [Sum.inr [Sum.inr (Sum.inr (Sum.inr (Sum.inr (Sum.inr (Sum.inr (Sum.inl (IntKind.i64, z2))))))), Sum.inr (Sum.inr (Sum.inr (Sum.inr (Sum.inr (Sum.inr (Sum.inl (IntKind.u64, z3))))))), Sum.inr (Sum.inr (Sum.inr (Sum.inr (Sum.inr (Sum.inr (Sum.inl (IntKind.u64, z4))))))), Sum.inr (Sum.inr (Sum.inr (Sum.inr (Sum.inr (Sum.inr (Sum.inl (IntKind.u32, z5))))))), Sum.inr (Sum.inr (Sum.inr (Sum.inr (Sum.inr (Sum.inr (Sum.inl (IntKind.u32, z6))))))), Sum.inr (Sum.inr (Sum.inr (Sum.inr (Sum.inr (Sum.inr (Sum.inl (IntKind.i64, z7))))))), Sum.inr (Sum.inr (Sum.inr (Sum.inr (Sum.inr (Sum.inr (Sum.inl (IntKind.i64, z8))))))), Sum.inr (Sum.inr (Sum.inr (Sum.inr (Sum.inr (Sum.inr (Sum.inl (IntKind.i64, z9))))))), Sum.inl (Value.bool true), Sum.inl (Value.bool true), Sum.inr (Sum.inr (Sum.inr (Sum.inr (Sum.inr (Sum.inr (Sum.inl (IntKind.i64, z10))))))), Sum.inr (Sum.inr (Sum.inr (Sum.inr (Sum.inr (Sum.inr (Sum.inl (IntKind.u32, z11))))))), Sum.inr (Sum.inr (Sum.inr (Sum.inr (Sum.inr (Sum.inr (Sum.inl (IntKind.i64, z12))))))), Sum.inr (Sum.inr (Sum.inr (Sum.inr (Sum.inr (Sum.inr (Sum.inl (IntKind.i64, z13))))))), Sum.inr (Sum.inr (Sum.inr (Sum.inr (Sum.inr (Sum.inr (Sum.inl (IntKind.i64, z14))))))), Sum.inr (Sum.inr (Sum.inr (Sum.inr (Sum.inr (Sum.inr (Sum.inl (IntKind.i64, z15)))))))], Sum.inl (Sum.inl (Value.bool true))]) { heap := [some { elem := nat_lit 79, cells := [Sum.inr (Sum.inr (Sum.inr (Sum.inr (Sum.inr (Sum.inr (Sum.inr (Sum.inr (Sum.inr (Sum.inr (Sum.inr (Sum.inl { a := (0 : Nat), u := (1 : Nat), o := (0 : Nat), n := n, c := c }))))))))))), Sum.inr (Sum.inr (Sum.inr (Sum.inr (Sum.inr (Sum.inr (Sum.inr (Sum.inr (Sum.inr (Sum.inr (Sum.inr (Sum.inl { a := (1 : Nat), u := (16 : Nat), o := (0 : Nat), n := n, c := d }))))))))))), Sum.inr (Sum.inr (Sum.inr (Sum.inr (Sum.inr (Sum.inr (Sum.inl (IntKind.i64, m)))))))], j := none, c := (3 : Nat), z := false }], ints := [], opqs := (0 : Nat), arrs := [some { elem := (9 : TypeId), k := AK.o (Obj.rows [CK.s] L), l := [], cap := c, ro := false }, some { elem := (50 : TypeId), k := AK.o (Obj.rows [CK.n IntKind.i64, CK.n IntKind.u64, CK.n IntKind.u64, CK.n IntKind.u32, CK.n IntKind.u32, CK.n IntKind.i64, CK.n IntKind.i64, CK.n IntKind.i64, CK.b, CK.b, CK.n IntKind.i64, CK.n IntKind.u32, CK.n IntKind.i64, CK.n IntKind.i64, CK.n IntKind.i64, CK.n IntKind.i64] M), l := [], cap := d, ro := false }], junks := (0 : Nat) }) ∧ (U.fb M j1 ((0 : Nat) + (1 : Nat) + (1 : Nat) + (1 : Nat) + (1 : Nat) + (1 : Nat) + (1 : Nat) + (1 : Nat) + (1 : Nat) + (1 : Nat)) = false → ∀ (z16 : Int), z16 = U.fi M j1 ((0 : Nat) + (1 : Nat) + (1 : Nat) + (1 : Nat) + (1 : Nat) + (1 : Nat) + (1 : Nat) + (1 : Nat) + (1 : Nat) + (1 : Nat) + (1 : Nat)) → ∀ (z17 : Int), z17 = U.fi M j1 ((0 : Nat) + (1 : Nat) + (1 : Nat) + (1 : Nat) + (1 : Nat) + (1 : Nat) + (1 : Nat) + (1 : Nat) + (1 : Nat) + (1 : Nat) + (1 : Nat) + (1 : Nat)) → ∀ (z18 : Int), z18 = U.fi M j1 ((0 : Nat) + (1 : Nat) + (1 : Nat) + (1 : Nat) + (1 : Nat) + (1 : Nat) + (1 : Nat) + (1 : Nat) + (1 : Nat) + (1 : Nat) + (1 : Nat) + (1 : Nat) + (1 : Nat)) → ∀ (z19 : Int), z19 = U.fi M j1 ((0 : Nat) + (1 : Nat) + (1 : Nat) + (1 : Nat) + (1 : Nat) + (1 : Nat) + (1 : Nat) + (1 : Nat) + (1 : Nat) + (1 : Nat) + (1 : Nat) + (1 : Nat) + (1 : Nat) + (1 : Nat)) → ∀ (z20 : Int), z20 = U.fi M j1 ((0 : Nat) + (1 : Nat) + (1 : Nat) + (1 : Nat) + (1 : Nat) + (1 : Nat) + (1 : Nat) + (1 : Nat) + (1 : Nat) + (1 : Nat) + (1 : Nat) + (1 : Nat) + (1 : Nat) + (1 : Nat) + (1 : Nat)) → ∀ (z21 : Int), z21 = U.fi M j1 ((0 : Nat) + (1 : Nat) + (1 : Nat) + (1 : Nat) + (1 : Nat) + (1 : Nat) + (1 : Nat) + (1 : Nat) + (1 : Nat) + (1 : Nat) + (1 : Nat) + (1 : Nat) + (1 : Nat) + (1 : Nat) + (1 : Nat) + (1 : Nat)) → K (Sum.inr [Sum.inr [Sum.inr (Sum.inr (Sum.inr (Sum.inr (Sum.inr (Sum.inr (Sum.inl (IntKind.i64, z2))))))), Sum.inr (Sum.inr (Sum.inr (Sum.inr (Sum.inr (Sum.inr (Sum.inl (IntKind.u64, z3))))))), Sum.inr (Sum.inr (Sum.inr (Sum.inr (Sum.inr (Sum.inr (Sum.inl (IntKind.u64, z4))))))), Sum.inr (Sum.inr (Sum.inr (Sum.inr (Sum.inr (Sum.inr (Sum.inl (IntKind.u32, z5))))))), Sum.inr (Sum.inr (Sum.inr (Sum.inr (Sum.inr (Sum.inr (Sum.inl (IntKind.u32, z6))))))), Sum.inr (Sum.inr (Sum.inr (Sum.inr (Sum.inr (Sum.inr (Sum.inl (IntKind.i64, z7))))))), Sum.inr (Sum.inr (Sum.inr (Sum.inr (Sum.inr (Sum.inr (Sum.inl (IntKind.i64, z8))))))), Sum.inr (Sum.inr (Sum.inr (Sum.inr (Sum.inr (Sum.inr (Sum.inl (IntKind.i64, z9))))))), Sum.inl (Value.bool true), Sum.inl (Value.bool false), Sum.inr (Sum.inr (Sum.inr (Sum.inr (Sum.inr (Sum.inr (Sum.inl (IntKind.i64, z16))))))), Sum.inr (Sum.inr (Sum.inr (Sum.inr (Sum.inr (Sum.inr (Sum.inl (IntKind.u32, z17))))))), Sum.inr (Sum.inr (Sum.inr (Sum.inr (Sum.inr (Sum.inr (Sum.inl (IntKind.i64, z18))))))), Sum.inr (Sum.inr (Sum.inr (Sum.inr (Sum.inr (Sum.inr (Sum.inl (IntKind.i64, z19))))))), Sum.inr (Sum.inr (Sum.inr (Sum.inr (Sum.inr (Sum.inr (Sum.inl (IntKind.i64, z20))))))), Sum.inr (Sum.inr (Sum.inr (Sum.inr (Sum.inr (Sum.inr (Sum.inl (IntKind.i64, z21)))))))], Sum.inl (Sum.inl (Value.bool true))]) { heap := [some { elem := nat_lit 79, cells := [Sum.inr (Sum.inr (Sum.inr (Sum.inr (Sum.inr (Sum.inr (Sum.inr (Sum.inr (Sum.inr (Sum.inr (Sum.inr (Sum.inl { a := (0 : Nat), u := (1 : Nat), o := (0 : Nat), n := n, c := c }))))))))))), Sum.inr (Sum.inr (Sum.inr (Sum.inr (Sum.inr (Sum.inr (Sum.inr (Sum.inr (Sum.inr (Sum.inr (Sum.inr (Sum.inl { a := (1 : Nat), u := (16 : Nat), o := (0 : Nat), n := n, c := d }))))))))))), Sum.inr (Sum.inr (Sum.inr (Sum.inr (Sum.inr (Sum.inr (Sum.inl (IntKind.i64, m)))))))], j := none, c := (3 : Nat), z := false }], ints := [], opqs := (0 : Nat), arrs := [some { elem := (9 : TypeId), k := AK.o (Obj.rows [CK.s] L), l := [], cap := c, ro := false }, some { elem := (50 : TypeId), k := AK.o (Obj.rows [CK.n IntKind.i64, CK.n IntKind.u64, CK.n IntKind.u64, CK.n IntKind.u32, CK.n IntKind.u32, CK.n IntKind.i64, CK.n IntKind.i64, CK.n IntKind.i64, CK.b, CK.b, CK.n IntKind.i64, CK.n IntKind.u32, CK.n IntKind.i64, CK.n IntKind.i64, CK.n IntKind.i64, CK.n IntKind.i64] M), l := [], cap := d, ro := false }], junks := (0 : Nat) })) ∧ (U.fb M j1 ((0 : Nat) + (1 : Nat) + (1 : Nat) + (1 : Nat) + (1 : Nat) + (1 : Nat) + (1 : Nat) + (1 : Nat) + (1 : Nat)) = false → (U.fb M j1 ((0 : Nat) + (1 : Nat) + (1 : Nat) + (1 : Nat) + (1 : Nat) + (1 : Nat) + (1 : Nat) + (1 : Nat) + (1 : Nat) + (1 : Nat)) = true → ∀ (z22 : Int), z22 = U.fi M j1 ((0 : Nat) + (1 : Nat) + (1 : Nat) + (1 : Nat) + (1 : Nat) + (1 : Nat) + (1 : Nat) + (1 : Nat) + (1 : Nat) + (1 : Nat) + (1 : Nat)) → ∀ (z23 : Int), z23 = U.fi M j1 ((0 : Nat) + (1 : Nat) + (1 : Nat) + (1 : Nat) + (1 : Nat) + (1 : Nat) + (1 : Nat) + (1 : Nat) + (1 : Nat) + (1 : Nat) + (1 : Nat) + (1 : Nat)) → ∀ (z24 : Int), z24 = U.fi M j1 ((0 : Nat) + (1 : Nat) + (1 : Nat) + (1 : Nat) + (1 : Nat) + (1 : Nat) + (1 : Nat) + (1 : Nat) + (1 : Nat) + (1 : Nat) + (1 : Nat) + (1 : Nat) + (1 : Nat)) → ∀ (z25 : Int), z25 = U.fi M j1 ((0 : Nat) + (1 : Nat) + (1 : Nat) + (1 : Nat) + (1 : Nat) + (1 : Nat) + (1 : Nat) + (1 : Nat) + (1 : Nat) + (1 : Nat) + (1 : Nat) + (1 : Nat) + (1 : Nat) + (1 : Nat)) → ∀ (z26 : Int), z26 = U.fi M j1 ((0 : Nat) + (1 : Nat) + (1 : Nat) + (1 : Nat) + (1 : Nat) + (1 : Nat) + (1 : Nat) + (1 : Nat) + (1 : Nat) + (1 : Nat) + (1 : Nat) + (1 : Nat) + (1 : Nat) + (1 : Nat) + (1 : Nat)) → ∀ (z27 : Int), z27 = U.fi M j1 ((0 : Nat) + (1 : Nat) + (1 : Nat) + (1 : Nat) + (1 : Nat) + (1 : Nat) + (1 : Nat) + (1 : Nat) + (1 : Nat) + (1 : Nat) + (1 : Nat) + (1 : Nat) + (1 : Nat) + (1 : Nat) + (1 : Nat) + (1 : Nat)) → K (Sum.inr [Sum.inr [Sum.inr (Sum.inr (Sum.inr (Sum.inr (Sum.inr (Sum.inr (Sum.inl (IntKind.i64, z2))))))), Sum.inr (Sum.inr (Sum.inr (Sum.inr (Sum.inr (Sum.inr (Sum.inl (IntKind.u64, z3))))))), Sum.inr (Sum.inr (Sum.inr (Sum.inr (Sum.inr (Sum.inr (Sum.inl (IntKind.u64, z4))))))), Sum.inr (Sum.inr (Sum.inr (Sum.inr (Sum.inr (Sum.inr (Sum.inl (IntKind.u32, z5))))))), Sum.inr (Sum.inr (Sum.inr (Sum.inr (Sum.inr (Sum.inr (Sum.inl (IntKind.u32, z6))))))), Sum.inr (Sum.inr (Sum.inr (Sum.inr (Sum.inr (Sum.inr (Sum.inl (IntKind.i64, z7))))))), Sum.inr (Sum.inr (Sum.inr (Sum.inr (Sum.inr (Sum.inr (Sum.inl (IntKind.i64, z8))))))), Sum.inr (Sum.inr (Sum.inr (Sum.inr (Sum.inr (Sum.inr (Sum.inl (IntKind.i64, z9))))))), Sum.inl (Value.bool false), Sum.inl (Value.bool true), Sum.inr (Sum.inr (Sum.inr (Sum.inr (Sum.inr (Sum.inr (Sum.inl (IntKind.i64, z22))))))), Sum.inr (Sum.inr (Sum.inr (Sum.inr (Sum.inr (Sum.inr (Sum.inl (IntKind.u32, z23))))))), Sum.inr (Sum.inr (Sum.inr (Sum.inr (Sum.inr (Sum.inr (Sum.inl (IntKind.i64, z24))))))), Sum.inr (Sum.inr (Sum.inr (Sum.inr (Sum.inr (Sum.inr (Sum.inl (IntKind.i64, z25))))))), Sum.inr (Sum.inr (Sum.inr (Sum.inr (Sum.inr (Sum.inr (Sum.inl (IntKind.i64, z26))))))), Sum.inr (Sum.inr (Sum.inr (Sum.inr (Sum.inr (Sum.inr (Sum.inl (IntKind.i64, z27)))))))], Sum.inl (Sum.inl (Value.bool true))]) { heap := [some { elem := nat_lit 79, cells := [Sum.inr (Sum.inr (Sum.inr (Sum.inr (Sum.inr (Sum.inr (Sum.inr (Sum.inr (Sum.inr (Sum.inr (Sum.inr (Sum.inl { a := (0 : Nat), u := (1 : Nat), o := (0 : Nat), n := n, c := c }))))))))))), Sum.inr (Sum.inr (Sum.inr (Sum.inr (Sum.inr (Sum.inr (Sum.inr (Sum.inr (Sum.inr (Sum.inr (Sum.inr (Sum.inl { a := (1 : Nat), u := (16 : Nat), o := (0 : Nat), n := n, c := d }))))))))))), Sum.inr (Sum.inr (Sum.inr (Sum.inr (Sum.inr (Sum.inr (Sum.inl (IntKind.i64, m)))))))], j := none, c := (3 : Nat), z := false }], ints := [], opqs := (0 : Nat), arrs := [some { elem := (9 : TypeId), k := AK.o (Obj.rows [CK.s] L), l := [], cap := c, ro := false }, some { elem := (50 : TypeId), k := AK.o (Obj.rows [CK.n IntKind.i64, CK.n IntKind.u64, CK.n IntKind.u64, CK.n IntKind.u32, CK.n IntKind.u32, CK.n IntKind.i64, CK.n IntKind.i64, CK.n IntKind.i64, CK.b, CK.b, CK.n IntKind.i64, CK.n IntKind.u32, CK.n IntKind.i64, CK.n IntKind.i64, CK.n IntKind.i64, CK.n IntKind.i64] M), l := [], cap := d, ro := false }], junks := (0 : Nat) }) ∧ (U.fb M j1 ((0 : Nat) + (1 : Nat) + (1 : Nat) + (1 : Nat) + (1 : Nat) + (1 : Nat) + (1 : Nat) + (1 : Nat) + (1 : Nat) + (1 : Nat)) = false → ∀ (z28 : Int), z28 = U.fi M j1 ((0 : Nat) + (1 : Nat) + (1 : Nat) + (1 : Nat) + (1 : Nat) + (1 : Nat) + (1 : Nat) + (1 : Nat) + (1 : Nat) + (1 : Nat) + (1 : Nat)) → ∀ (z29 : Int), z29 = U.fi M j1 ((0 : Nat) + (1 : Nat) + (1 : Nat) + (1 : Nat) + (1 : Nat) + (1 : Nat) + (1 : Nat) + (1 : Nat) + (1 : Nat) + (1 : Nat) + (1 : Nat) + (1 : Nat)) → ∀ (z30 : Int), z30 = U.fi M j1 ((0 : Nat) + (1 : Nat) + (1 : Nat) + (1 : Nat) + (1 : Nat) + (1 : Nat) + (1 : Nat) + (1 : Nat) + (1 : Nat) + (1 : Nat) + (1 : Nat) + (1 : Nat) + (1 : Nat)) → ∀ (z31 : Int), z31 = U.fi M j1 ((0 : Nat) + (1 : Nat) + (1 : Nat) + (1 : Nat) + (1 : Nat) + (1 : Nat) + (1 : Nat) + (1 : Nat) + (1 : Nat) + (1 : Nat) + (1 : Nat) + (1 : Nat) + (1 : Nat) + (1 : Nat)) → ∀ (z32 : Int), z32 = U.fi M j1 ((0 : Nat) + (1 : Nat) + (1 : Nat) + (1 : Nat) + (1 : Nat) + (1 : Nat) + (1 : Nat) + (1 : Nat) + (1 : Nat) + (1 : Nat) + (1 : Nat) + (1 : Nat) + (1 : Nat) + (1 : Nat) + (1 : Nat)) → ∀ (z33 : Int), z33 = U.fi M j1 ((0 : Nat) + (1 : Nat) + (1 : Nat) + (1 : Nat) + (1 : Nat) + (1 : Nat) + (1 : Nat) + (1 : Nat) + (1 : Nat) + (1 : Nat) + (1 : Nat) + (1 : Nat) + (1 : Nat) + (1 : Nat) + (1 : Nat) + (1 : Nat)) → K (Sum.inr [Sum.inr [Sum.inr (Sum.inr (Sum.inr (Sum.inr (Sum.inr (Sum.inr (Sum.inl (IntKind.i64, z2))))))), Sum.inr (Sum.inr (Sum.inr (Sum.inr (Sum.inr (Sum.inr (Sum.inl (IntKind.u64, z3))))))), Sum.inr (Sum.inr (Sum.inr (Sum.inr (Sum.inr (Sum.inr (Sum.inl (IntKind.u64, z4))))))), Sum.inr (Sum.inr (Sum.inr (Sum.inr (Sum.inr (Sum.inr (Sum.inl (IntKind.u32, z5))))))), Sum.inr (Sum.inr (Sum.inr (Sum.inr (Sum.inr (Sum.inr (Sum.inl (IntKind.u32, z6))))))), Sum.inr (Sum.inr (Sum.inr (Sum.inr (Sum.inr (Sum.inr (Sum.inl (IntKind.i64, z7))))))), Sum.inr (Sum.inr (Sum.inr (Sum.inr (Sum.inr (Sum.inr (Sum.inl (IntKind.i64, z8))))))), Sum.inr (Sum.inr (Sum.inr (Sum.inr (Sum.inr (Sum.inr (Sum.inl (IntKind.i64, z9))))))), Sum.inl (Value.bool false), Sum.inl (Value.bool false), Sum.inr (Sum.inr (Sum.inr (Sum.inr (Sum.inr (Sum.inr (Sum.inl (IntKind.i64, z28))))))), Sum.inr (Sum.inr (Sum.inr (Sum.inr (Sum.inr (Sum.inr (Sum.inl (IntKind.u32, z29))))))), Sum.inr (Sum.inr (Sum.inr (Sum.inr (Sum.inr (Sum.inr (Sum.inl (IntKind.i64, z30))))))), Sum.inr (Sum.inr (Sum.inr (Sum.inr (Sum.inr (Sum.inr (Sum.inl (IntKind.i64, z31))))))), Sum.inr (Sum.inr (Sum.inr (Sum.inr (Sum.inr (Sum.inr (Sum.inl (IntKind.i64, z32))))))), Sum.inr (Sum.inr (Sum.inr (Sum.inr (Sum.inr (Sum.inr (Sum.inl (IntKind.i64, z33)))))))], Sum.inl (Sum.inl (Value.bool true))]) { heap := [some { elem := nat_lit 79, cells := [Sum.inr (Sum.inr (Sum.inr (Sum.inr (Sum.inr (Sum.inr (Sum.inr (Sum.inr (Sum.inr (Sum.inr (Sum.inr (Sum.inl { a := (0 : Nat), u := (1 : Nat), o := (0 : Nat), n := n, c := c }))))))))))), Sum.inr (Sum.inr (Sum.inr (Sum.inr (Sum.inr (Sum.inr (Sum.inr (Sum.inr (Sum.inr (Sum.inr (Sum.inr (Sum.inl { a := (1 : Nat), u := (16 : Nat), o := (0 : Nat), n := n, c := d }))))))))))), Sum.inr (Sum.inr (Sum.inr (Sum.inr (Sum.inr (Sum.inr (Sum.inl (IntKind.i64, m)))))))], j := none, c := (3 : Nat), z := false }], ints := [], opqs := (0 : Nat), arrs := [some { elem := (9 : TypeId), k := AK.o (Obj.rows [CK.s] L), l := [], cap := c, ro := false }, some { elem := (50 : TypeId), k := AK.o (Obj.rows [CK.n IntKind.i64, CK.n IntKind.u64, CK.n IntKind.u64, CK.n IntKind.u32, CK.n IntKind.u32, CK.n IntKind.i64, CK.n IntKind.i64, CK.n IntKind.i64, CK.b, CK.b, CK.n IntKind.i64, CK.n IntKind.u32, CK.n IntKind.i64, CK.n IntKind.i64, CK.n IntKind.i64, CK.n IntKind.i64] M), l := [], cap := d, ro := false }], junks := (0 : Nat) }))) ∧ (¬U.HasAt L n k z0 → K (Sum.inr [Sum.inr [Sum.inr (Sum.inr (Sum.inr (Sum.inr (Sum.inr (Sum.inr (Sum.inl (IntKind.i64, (0 : Int)))))))), Sum.inr (Sum.inr (Sum.inr (Sum.inr (Sum.inr (Sum.inr (Sum.inl (IntKind.u64, (0 : Int)))))))), Sum.inr (Sum.inr (Sum.inr (Sum.inr (Sum.inr (Sum.inr (Sum.inl (IntKind.u64, (0 : Int)))))))), Sum.inr (Sum.inr (Sum.inr (Sum.inr (Sum.inr (Sum.inr (Sum.inl (IntKind.u32, (0 : Int)))))))), Sum.inr (Sum.inr (Sum.inr (Sum.inr (Sum.inr (Sum.inr (Sum.inl (IntKind.u32, (0 : Int)))))))), Sum.inr (Sum.inr (Sum.inr (Sum.inr (Sum.inr (Sum.inr (Sum.inl (IntKind.i64, (0 : Int)))))))), Sum.inr (Sum.inr (Sum.inr (Sum.inr (Sum.inr (Sum.inr (Sum.inl (IntKind.i64, (0 : Int)))))))), Sum.inr (Sum.inr (Sum.inr (Sum.inr (Sum.inr (Sum.inr (Sum.inl (IntKind.i64, (0 : Int)))))))), Sum.inl (Value.bool false), Sum.inl (Value.bool false), Sum.inr (Sum.inr (Sum.inr (Sum.inr (Sum.inr (Sum.inr (Sum.inl (IntKind.i64, (0 : Int)))))))), Sum.inr (Sum.inr (Sum.inr (Sum.inr (Sum.inr (Sum.inr (Sum.inl (IntKind.u32, (0 : Int)))))))), Sum.inr (Sum.inr (Sum.inr (Sum.inr (Sum.inr (Sum.inr (Sum.inl (IntKind.i64, (0 : Int)))))))), Sum.inr (Sum.inr (Sum.inr (Sum.inr (Sum.inr (Sum.inr (Sum.inl (IntKind.i64, (0 : Int)))))))), Sum.inr (Sum.inr (Sum.inr (Sum.inr (Sum.inr (Sum.inr (Sum.inl (IntKind.i64, (0 : Int)))))))), Sum.inr (Sum.inr (Sum.inr (Sum.inr (Sum.inr (Sum.inr (Sum.inl (IntKind.i64, (0 : Int))))))))], Sum.inl (Sum.inl (Value.bool false))]) { heap := [some { elem := nat_lit 79, cells := [Sum.inr (Sum.inr (Sum.inr (Sum.inr (Sum.inr (Sum.inr (Sum.inr (Sum.inr (Sum.inr (Sum.inr (Sum.inr (Sum.inl { a := (0 : Nat), u := (1 : Nat), o := (0 : Nat), n := n, c := c }))))))))))), Sum.inr (Sum.inr (Sum.inr (Sum.inr (Sum.inr (Sum.inr (Sum.inr (Sum.inr (Sum.inr (Sum.inr (Sum.inr (Sum.inl { a := (1 : Nat), u := (16 : Nat), o := (0 : Nat), n := n, c := d }))))))))))), Sum.inr (Sum.inr (Sum.inr (Sum.inr (Sum.inr (Sum.inr (Sum.inl (IntKind.i64, m)))))))], j := none, c := (3 : Nat), z := false }], ints := [], opqs := (0 : Nat), arrs := [some { elem := (9 : TypeId), k := AK.o (Obj.rows [CK.s] L), l := [], cap := c, ro := false }, some { elem := (50 : TypeId), k := AK.o (Obj.rows [CK.n IntKind.i64, CK.n IntKind.u64, CK.n IntKind.u64, CK.n IntKind.u32, CK.n IntKind.u32, CK.n IntKind.i64, CK.n IntKind.i64, CK.n IntKind.i64, CK.b, CK.b, CK.n IntKind.i64, CK.n IntKind.u32, CK.n IntKind.i64, CK.n IntKind.i64, CK.n IntKind.i64, CK.n IntKind.i64] M), l := [], cap := d, ro := false }], junks := (0 : Nat) })) := by kernel_rfl
theorem shVals_vc (K : AV → St → Prop) (L M : Rws) (n c d : Nat) (m : Int) : (runV ovI inv0 tSh 29 [ptr 0 0] (shSt n c L d M m) K) = ((n = (0 : Nat) → K (Sum.inl (Sum.inl (Sum.inr (Sum.inr (Sum.inr (Sum.inr (Sum.inr (Sum.inr (Sum.inr (Sum.inr (Sum.inr (Sum.inr (Sum.inr (Sum.inl { a := (2 : Nat), u := (15 : Nat) + (1 : Nat), o := (0 : Nat), n := (0 : Nat), c := (0 : Nat) })))))))))))))) { heap := [some { elem := nat_lit 79, cells := [Sum.inr (Sum.inr (Sum.inr (Sum.inr (Sum.inr (Sum.inr (Sum.inr (Sum.inr (Sum.inr (Sum.inr (Sum.inr (Sum.inl { a := (0 : Nat), u := (1 : Nat), o := (0 : Nat), n := n, c := c }))))))))))), Sum.inr (Sum.inr (Sum.inr (Sum.inr (Sum.inr (Sum.inr (Sum.inr (Sum.inr (Sum.inr (Sum.inr (Sum.inr (Sum.inl { a := (1 : Nat), u := (16 : Nat), o := (0 : Nat), n := n, c := d }))))))))))), Sum.inr (Sum.inr (Sum.inr (Sum.inr (Sum.inr (Sum.inr (Sum.inl (IntKind.i64, m)))))))], j := none, c := (3 : Nat), z := false }], ints := [], opqs := (0 : Nat), arrs := [some { elem := (9 : TypeId), k := AK.o (Obj.rows [CK.s] L), l := [], cap := c, ro := false }, some { elem := (50 : TypeId), k := AK.o (Obj.rows [CK.n IntKind.i64, CK.n IntKind.u64, CK.n IntKind.u64, CK.n IntKind.u32, CK.n IntKind.u32, CK.n IntKind.i64, CK.n IntKind.i64, CK.n IntKind.i64, CK.b, CK.b, CK.n IntKind.i64, CK.n IntKind.u32, CK.n IntKind.i64, CK.n IntKind.i64, CK.n IntKind.i64, CK.n IntKind.i64] M), l := [], cap := d, ro := false }, some { elem := (50 : Nat), k := AK.o (Obj.rows [CK.n IntKind.i64, CK.n IntKind.u64, CK.n IntKind.u64, CK.n IntKind.u32, CK.n IntKind.u32, CK.n IntKind.i64, CK.n IntKind.i64, CK.n IntKind.i64, CK.b, CK.b, CK.n IntKind.i64, CK.n IntKind.u32, CK.n IntKind.i64, CK.n IntKind.i64, CK.n IntKind.i64, CK.n IntKind.i64] U.nilL), l := [], cap := (0 : Nat), ro := false }], junks := (0 : Nat) }) ∧ True ∧ Nat.le ((0 : Nat) + n) (List.length M) ∧ (0 : Nat) ≤ (16777216 : Nat) ∧ n ≤ (16777216 : Nat) ∧ ∀ (L'0 : List (List CV)) (n'1 c'2 : Nat), L'0 = U.nilL ++ List.take n (List.drop ((0 : Nat)) M) → n'1 = (0 : Nat) + n → n'1 ≤ c'2 → K (Sum.inl (Sum.inl (Sum.inr (Sum.inr (Sum.inr (Sum.inr (Sum.inr (Sum.inr (Sum.inr (Sum.inr (Sum.inr (Sum.inr (Sum.inr (Sum.inl { a := (2 : Nat), u := (15 : Nat) + (1 : Nat), o := (0 : Nat), n := n'1, c := c'2 })))))))))))))) { heap := [some { elem := nat_lit 79, cells := [Sum.inr (Sum.inr (Sum.inr (Sum.inr (Sum.inr (Sum.inr (Sum.inr (Sum.inr (Sum.inr (Sum.inr (Sum.inr (Sum.inl { a := (0 : Nat), u := (1 : Nat), o := (0 : Nat), n := n, c := c }))))))))))), Sum.inr (Sum.inr (Sum.inr (Sum.inr (Sum.inr (Sum.inr (Sum.inr (Sum.inr (Sum.inr (Sum.inr (Sum.inr (Sum.inl { a := (1 : Nat), u := (16 : Nat), o := (0 : Nat), n := n, c := d }))))))))))), Sum.inr (Sum.inr (Sum.inr (Sum.inr (Sum.inr (Sum.inr (Sum.inl (IntKind.i64, m)))))))], j := none, c := (3 : Nat), z := false }], ints := [], opqs := (0 : Nat), arrs := [some { elem := (9 : TypeId), k := AK.o (Obj.rows [CK.s] L), l := [], cap := c, ro := false }, some { elem := (50 : TypeId), k := AK.o (Obj.rows [CK.n IntKind.i64, CK.n IntKind.u64, CK.n IntKind.u64, CK.n IntKind.u32, CK.n IntKind.u32, CK.n IntKind.i64, CK.n IntKind.i64, CK.n IntKind.i64, CK.b, CK.b, CK.n IntKind.i64, CK.n IntKind.u32, CK.n IntKind.i64, CK.n IntKind.i64, CK.n IntKind.i64, CK.n IntKind.i64] M), l := [], cap := d, ro := false }, some { elem := (50 : Nat), k := AK.o (Obj.rows [CK.n IntKind.i64, CK.n IntKind.u64, CK.n IntKind.u64, CK.n IntKind.u32, CK.n IntKind.u32, CK.n IntKind.i64, CK.n IntKind.i64, CK.n IntKind.i64, CK.b, CK.b, CK.n IntKind.i64, CK.n IntKind.u32, CK.n IntKind.i64, CK.n IntKind.i64, CK.n IntKind.i64, CK.n IntKind.i64] L'0), l := [], cap := c'2, ro := false }], junks := (0 : Nat) }) := by kernel_rfl
theorem shKeys_vc (K : AV → St → Prop) (L M : Rws) (n c d : Nat) (m : Int) : (runV ovI inv0 tSh 66 [ptr 0 0] (shSt n c L d M m) K) = ((n = (0 : Nat) → K (Sum.inl (Sum.inl (Sum.inr (Sum.inr (Sum.inr (Sum.inr (Sum.inr (Sum.inr (Sum.inr (Sum.inr (Sum.inr (Sum.inr (Sum.inr (Sum.inl { a := (2 : Nat), u := (0 : Nat) + (1 : Nat), o := (0 : Nat), n := (0 : Nat), c := (0 : Nat) })))))))))))))) { heap := [some { elem := nat_lit 79, cells := [Sum.inr (Sum.inr (Sum.inr (Sum.inr (Sum.inr (Sum.inr (Sum.inr (Sum.inr (Sum.inr (Sum.inr (Sum.inr (Sum.inl { a := (0 : Nat), u := (1 : Nat), o := (0 : Nat), n := n, c := c }))))))))))), Sum.inr (Sum.inr (Sum.inr (Sum.inr (Sum.inr (Sum.inr (Sum.inr (Sum.inr (Sum.inr (Sum.inr (Sum.inr (Sum.inl { a := (1 : Nat), u := (16 : Nat), o := (0 : Nat), n := n, c := d }))))))))))), Sum.inr (Sum.inr (Sum.inr (Sum.inr (Sum.inr (Sum.inr (Sum.inl (IntKind.i64, m)))))))], j := none, c := (3 : Nat), z := false }], ints := [], opqs := (0 : Nat), arrs := [some { elem := (9 : TypeId), k := AK.o (Obj.rows [CK.s] L), l := [], cap := c, ro := false }, some { elem := (50 : TypeId), k := AK.o (Obj.rows [CK.n IntKind.i64, CK.n IntKind.u64, CK.n IntKind.u64, CK.n IntKind.u32, CK.n IntKind.u32, CK.n IntKind.i64, CK.n IntKind.i64, CK.n IntKind.i64, CK.b, CK.b, CK.n IntKind.i64, CK.n IntKind.u32, CK.n IntKind.i64, CK.n IntKind.i64, CK.n IntKind.i64, CK.n IntKind.i64] M), l := [], cap := d, ro := false }, some { elem := (9 : Nat), k := AK.o (Obj.rows [CK.s] U.nilL), l := [], cap := (0 : Nat), ro := false }], junks := (0 : Nat) }) ∧ True ∧ Nat.le ((0 : Nat) + n) (List.length L) ∧ (0 : Nat) ≤ (16777216 : Nat) ∧ n ≤ (16777216 : Nat) ∧ ∀ (L'0 : List (List CV)) (n'1 c'2 : Nat), L'0 = U.nilL ++ List.take n (List.drop ((0 : Nat)) L) → n'1 = (0 : Nat) + n → n'1 ≤ c'2 → K (Sum.inl (Sum.inl (Sum.inr (Sum.inr (Sum.inr (Sum.inr (Sum.inr (Sum.inr (Sum.inr (Sum.inr (Sum.inr (Sum.inr (Sum.inr (Sum.inl { a := (2 : Nat), u := (0 : Nat) + (1 : Nat), o := (0 : Nat), n := n'1, c := c'2 })))))))))))))) { heap := [some { elem := nat_lit 79, cells := [Sum.inr (Sum.inr (Sum.inr (Sum.inr (Sum.inr (Sum.inr (Sum.inr (Sum.inr (Sum.inr (Sum.inr (Sum.inr (Sum.inl { a := (0 : Nat), u := (1 : Nat), o := (0 : Nat), n := n, c := c }))))))))))), Sum.inr (Sum.inr (Sum.inr (Sum.inr (Sum.inr (Sum.inr (Sum.inr (Sum.inr (Sum.inr (Sum.inr (Sum.inr (Sum.inl { a := (1 : Nat), u := (16 : Nat), o := (0 : Nat), n := n, c := d }))))))))))), Sum.inr (Sum.inr (Sum.inr (Sum.inr (Sum.inr (Sum.inr (Sum.inl (IntKind.i64, m)))))))], j := none, c := (3 : Nat), z := false }], ints := [], opqs := (0 : Nat), arrs := [some { elem := (9 : TypeId), k := AK.o (Obj.rows [CK.s] L), l := [], cap := c, ro := false }, some { elem := (50 : TypeId), k := AK.o (Obj.rows [CK.n IntKind.i64, CK.n IntKind.u64, CK.n IntKind.u64, CK.n IntKind.u32, CK.n IntKind.u32, CK.n IntKind.i64, CK.n IntKind.i64, CK.n IntKind.i64, CK.b, CK.b, CK.n IntKind.i64, CK.n IntKind.u32, CK.n IntKind.i64, CK.n IntKind.i64, CK.n IntKind.i64, CK.n IntKind.i64] M), l := [], cap := d, ro := false }, some { elem := (9 : Nat), k := AK.o (Obj.rows [CK.s] L'0), l := [], cap := c'2, ro := false }], junks := (0 : Nat) }) := by kernel_rfl
end Go.Proofs.YtdpcahblhjbgjaaDoor
end

section
set_option linter.unusedVariables false
set_option linter.unusedSimpArgs false
set_option maxRecDepth 10000
namespace Go.Proofs.YtdpcahblhjbgjaaDoor
open Go Reck Ost
abbrev Prs := List (List Int × En)
def U.ks (P : Prs) : Rws := P.map fun p => [.s p.1]
def U.vs (P : Prs) : Rws := P.map fun p => p.2.row
structure U.Srt (P : Prs) : Prop where
  out : P.Pairwise fun a b => LtS a.1 b.1
structure U.HasK (P : Prs) (k : List Int) : Prop where
  out : ∃ e, (k, e) ∈ P
/-- P' is P with an entry put in. -/
structure U.Put (P : Prs) (k : List Int) (e : En) (P' : Prs) : Prop where
  srt : U.Srt P'
  mem : ∀ x y, (x, y) ∈ P' ↔ (x = k ∧ y = e) ∨ ((x, y) ∈ P ∧ x ≠ k)
  has : U.HasK P k → P'.length = P.length
  non : ¬ U.HasK P k → P'.length = P.length + 1
/-- What a shelf has. -/
structure U.shI (n c : Nat) (L : Rws) (d : Nat) (M : Rws) (P : Prs) : Prop where
  kf : U.Fu L n c (U.ks P)
  vf : U.Fu M n d (U.vs P)
  srt : U.Srt P
theorem shI_n {n c d : Nat} {L M : Rws} {P : Prs} (h : U.shI n c L d M P) : P.length = n := by
  have := h.kf.n; simpa [U.ks] using this
theorem fu_get {L A : Rws} {n c : Nat} (h : U.Fu L n c A) {m : Nat} (hm : m < n) : L[m]? = A[m]? := by
  rw [h.eq, List.getElem?_take, if_pos hm]
theorem key_at {n c d : Nat} {L M : Rws} {P : Prs} (h : U.shI n c L d M P) {m : Nat} {p : List Int × En} (hp : P[m]? = some p) : U.fs L m 0 = p.1 := by
  have hm : m < n := by rw [← shI_n h]; exact (List.getElem?_eq_some_iff.1 hp).1
  have := fu_get h.kf hm
  unfold U.fs
  rw [List.getD_eq_getElem?_getD, this]
  simp [U.ks, hp]
theorem row_at {n c d : Nat} {L M : Rws} {P : Prs} (h : U.shI n c L d M P) {m : Nat} {p : List Int × En} (hp : P[m]? = some p) : M.getD m [] = p.2.row := by
  have hm : m < n := by rw [← shI_n h]; exact (List.getElem?_eq_some_iff.1 hp).1
  have := fu_get h.vf hm
  rw [List.getD_eq_getElem?_getD, this]
  simp [U.vs, hp]
theorem srt_R {n c d : Nat} {L M : Rws} {P : Prs} (h : U.shI n c L d M P) : U.SrtR L n := by
  refine ⟨fun i j hij hj => ?_⟩
  have hn := shI_n h
  rw [key_at h (List.getElem?_eq_getElem (show i < P.length by omega)), key_at h (List.getElem?_eq_getElem (show j < P.length by omega))]
  exact List.pairwise_iff_getElem.1 h.srt.out i j (by omega) (by omega) hij
theorem at_lo {n c d : Nat} {L M : Rws} {P : Prs} (h : U.shI n c L d M P) {k : List Int} {z : Nat} (ha : U.At L n k z) {p : List Int × En} (hp : p ∈ P.take z) : LtS p.1 k := by
  obtain ⟨m, hm⟩ := List.getElem?_of_mem hp
  rw [List.getElem?_take] at hm
  split at hm
  · rename_i hlt
    have := ha.lo m (by omega)
    rwa [key_at h hm] at this
  · cases hm
theorem at_hi {n c d : Nat} {L M : Rws} {P : Prs} (h : U.shI n c L d M P) {k : List Int} {z : Nat} (ha : U.At L n k z) {p : List Int × En} (hp : p ∈ P.drop z) : ¬ LtS p.1 k := by
  obtain ⟨m, hm⟩ := List.getElem?_of_mem hp
  rw [List.getElem?_drop] at hm
  have hl := (List.getElem?_eq_some_iff.1 hm).1
  have := ha.hi (z + m) (by omega) (by rw [← shI_n h]; exact hl)
  rwa [key_at h hm] at this
theorem has_iff {n c d : Nat} {L M : Rws} {P : Prs} (h : U.shI n c L d M P) {k : List Int} {z : Nat} (ha : U.At L n k z) : U.HasAt L n k z ↔ U.HasK P k := by
  have hn := shI_n h
  constructor
  · rintro ⟨h1, h2⟩
    have hz : z < P.length := by omega
    refine ⟨P[z].2, ?_⟩
    rw [Int.toNat_natCast, key_at h (List.getElem?_eq_getElem hz)] at h2
    rw [← h2]; exact List.getElem_mem hz
  · rintro ⟨e, he⟩
    obtain ⟨m, hm⟩ := List.getElem?_of_mem he
    have hl := (List.getElem?_eq_some_iff.1 hm).1
    have hk := key_at h hm
    have h1 : ¬ (m < z) := fun hlt => by
      have := ha.lo m (by omega)
      rw [hk] at this; exact ltS_irr this
    have h2 : ¬ (z < m) := fun hlt => by
      have a := ha.hi z (by omega) (by omega)
      have b := (srt_R h).out z m hlt (by omega)
      rw [hk] at b; exact a b
    obtain rfl : m = z := by omega
    exact ⟨by omega, by rw [Int.toNat_natCast]; exact hk⟩
theorem put_non {n c d : Nat} {L M : Rws} {P : Prs} (h : U.shI n c L d M P) {k : List Int} {z : Nat} (ha : U.At L n k z) (hk : ¬ U.HasK P k) (e : En) :
    U.Put P k e (P.take z ++ [(k, e)] ++ P.drop z) ∧ U.ks (P.take z ++ [(k, e)] ++ P.drop z) = U.insR (U.ks P) z [.s k] ∧ U.vs (P.take z ++ [(k, e)] ++ P.drop z) = U.insR (U.vs P) z e.row := by
  have hne : ∀ p ∈ P, p.1 ≠ k := fun p hp he => hk ⟨p.2, he ▸ hp⟩
  have hgt : ∀ p ∈ P.drop z, LtS k p.1 := fun p hp => by
    by_cases hx : LtS k p.1
    · exact hx
    · exact (hne p (List.mem_of_mem_drop hp) (ltS_tri (at_hi h ha hp) hx)).elim
  have hs := h.srt.out
  refine ⟨⟨⟨?_⟩, fun x y => ?_, fun hx => (hk hx).elim, fun _ => ?_⟩, ?_, ?_⟩
  · rw [← List.take_append_drop z P, List.pairwise_append] at hs
    rw [List.append_assoc, List.pairwise_append]
    refine ⟨hs.1, ?_, ?_⟩
    · rw [List.singleton_append, List.pairwise_cons]
      exact ⟨hgt, hs.2.1⟩
    · intro a ha' b hb
      rcases List.mem_cons.1 hb with rfl | hb
      · exact at_lo h ha ha'
      · exact hs.2.2 a ha' b hb
  · have hm : (x, y) ∈ P ↔ (x, y) ∈ P.take z ∨ (x, y) ∈ P.drop z := by
      rw [← List.mem_append, List.take_append_drop]
    simp only [List.mem_append, List.mem_singleton, Prod.mk.injEq]
    constructor
    · rintro ((hx | hx) | hx)
      · exact .inr ⟨hm.2 (.inl hx), hne _ (hm.2 (.inl hx))⟩
      · exact .inl hx
      · exact .inr ⟨hm.2 (.inr hx), hne _ (hm.2 (.inr hx))⟩
    · rintro (hx | ⟨hx, _⟩)
      · exact .inl (.inr hx)
      · rcases hm.1 hx with hx | hx
        · exact .inl (.inl hx)
        · exact .inr hx
  · have := ha.b
    have hn := shI_n h
    simp; omega
  · simp [U.ks, U.insR, List.map_take, List.map_drop]
  · simp [U.vs, U.insR, List.map_take, List.map_drop]
theorem put_has {n c d : Nat} {L M : Rws} {P : Prs} (h : U.shI n c L d M P) {k : List Int} {z : Nat} (ha : U.At L n k z) (hk : U.HasAt L n k z) (e : En) :
    U.Put P k e (P.set z (k, e)) ∧ U.ks (P.set z (k, e)) = U.ks P ∧ U.vs (P.set z (k, e)) = (U.vs P).set z e.row := by
  have hn := shI_n h
  obtain ⟨h1, h2⟩ := hk.out
  have hz : z < P.length := by omega
  have hkz : P[z].1 = k := by
    rw [Int.toNat_natCast, key_at h (List.getElem?_eq_getElem hz)] at h2; exact h2
  have hks : U.ks (P.set z (k, e)) = U.ks P := by
    apply List.ext_getElem?
    intro m
    simp only [U.ks, List.getElem?_map, List.getElem?_set]
    by_cases hm : z = m
    · subst hm
      rw [if_pos rfl, if_pos hz, List.getElem?_eq_getElem hz]; simp [hkz]
    · rw [if_neg hm]
  have hlk : ∀ i (hi : i < P.length) (hi' : i < (P.set z (k, e)).length), ((P.set z (k, e))[i]).1 = (P[i]).1 := fun i hi hi' => by
    rw [List.getElem_set]
    split
    · rename_i hzi; subst hzi; exact hkz.symm
    · rfl
  refine ⟨⟨⟨?_⟩, fun x y => ?_, fun _ => List.length_set, fun hx => (hx ((has_iff h ha).1 hk)).elim⟩, hks, ?_⟩
  · rw [List.pairwise_iff_getElem]
    intro i j hi hj hij
    rw [List.length_set] at hi hj
    rw [hlk i hi, hlk j hj]
    exact List.pairwise_iff_getElem.1 h.srt.out i j hi hj hij
  · constructor
    · intro hx
      obtain ⟨m, hm⟩ := List.getElem?_of_mem hx
      rw [List.getElem?_set] at hm
      split at hm
      · try rw [if_pos hz] at hm
        simp only [Option.some.injEq, Prod.mk.injEq] at hm
        exact .inl ⟨hm.1.symm, hm.2.symm⟩
      · rename_i hne
        refine .inr ⟨List.mem_of_getElem? hm, fun he => ?_⟩
        have hl := (List.getElem?_eq_some_iff.1 hm).1
        have e1 := key_at h hm
        have e2 := key_at h (List.getElem?_eq_getElem hz)
        rw [hkz] at e2
        dsimp only at e1
        rcases Nat.lt_or_gt_of_ne hne with hlt | hlt
        · have := (srt_R h).out z m hlt (by omega)
          rw [e1, e2, he] at this; exact ltS_irr this
        · have := (srt_R h).out m z hlt (by omega)
          rw [e1, e2, he] at this; exact ltS_irr this
    · rintro (⟨rfl, rfl⟩ | ⟨hx, hne⟩)
      · exact List.mem_of_getElem? (i := z) (by rw [List.getElem?_set, if_pos rfl, if_pos hz])
      · obtain ⟨m, hm⟩ := List.getElem?_of_mem hx
        refine List.mem_of_getElem? (i := m) ?_
        rw [List.getElem?_set]
        by_cases hmz : z = m
        · subst hmz
          rw [List.getElem?_eq_getElem hz] at hm
          simp only [Option.some.injEq] at hm
          exact (hne (by rw [hm] at hkz; exact hkz)).elim
        · rw [if_neg hmz]; exact hm
  · apply List.ext_getElem?
    intro m
    simp only [U.vs, List.getElem?_map, List.getElem?_set, List.length_map]
    by_cases hm : z = m
    · subst hm
      rw [if_pos rfl, if_pos rfl, if_pos hz, if_pos hz]; rfl
    · rw [if_neg hm, if_neg hm]
theorem put_row {n c d : Nat} {L M M' : Rws} {P : Prs} (h : U.shI n c L d M P) {z : Nat} (hz : z < n) (e : En) {r : List CV} (hr : r = e.row) (hM : M' = U.put M z 0 r) : U.Fu M' n d ((U.vs P).set z e.row) := by
  subst hr
  have hn := shI_n h
  have hrow := row_at h (List.getElem?_eq_getElem (show z < P.length by omega))
  have hp1 : put1 (M.getD z []) 0 e.row = e.row := by
    rw [hrow]
    simp [put1, En.row, U.eR]
  unfold U.put at hM
  rw [hp1] at hM
  obtain ⟨v1, v2, v3, v4⟩ := h.vf
  exact ⟨by rw [hM, v1, List.take_set], by rw [hM, List.length_set]; exact v2, v3, v4⟩
def shNw (n c : Nat) (L : Rws) (d : Nat) (M : Rws) (m : Int) : St := ⟨[shB (rslC ⟨2, 1, 0, n, c⟩) (rslC ⟨3, 16, 0, n, d⟩) m], [], 0, [none, none, some (sB L c), some (eB M d)], 0⟩
theorem shSet_run (K : AV → St → Prop) (L M : Rws) (n c d : Nat) (m : Int) (k : List Int) (e : En) (P : Prs) (h : U.shI n c L d M P) (hn : n ≤ 100000)
    (h1 : U.HasK P k → ∀ (M' : Rws) (P' : Prs), U.Put P k e P' → U.shI n c L d M' P' → K (xi .i64 0) (shSt n c L d M' m))
    (h2 : ¬ U.HasK P k → m ≤ n → K (xi .i64 4) (shSt n c L d M m))
    (h3 : ¬ U.HasK P k → (n : Int) < m → ∀ (L' : Rws) (n' c' : Nat) (M' : Rws) (d' : Nat) (P' : Prs), n' = n + 1 → U.Put P k e P' → U.shI n' c' L' d' M' P' → K (xi .i64 0) (shNw n' c' L' d' M' m)) :
    runV ovI inv0 tSh 32 [ptr 0 0, cell (strC k), .inl (.inr e.cells)] (shSt n c L d M m) K := by
  obtain ⟨p, a, b, cc, dd, x, s, t, en, la, o, ep, id, hh, bo, us⟩ := e
  have hPn := shI_n h
  have hl := h.kf.len
  have hle := h.kf.le
  have hl2 := h.vf.len
  have hle2 := h.vf.le
  have G : ∀ (z : Nat), U.At L n k z → (U.HasAt L n k z ↔ U.HasK P k) := fun z ha => has_iff h ha
  cases en <;> cases la <;> dsimp only [En.cells] at h1 h2 h3 ⊢ <;> (first | rw [shSetTT_vc] | rw [shSetTF_vc] | rw [shSetFT_vc] | rw [shSetFF_vc])
  all_goals
    refine ⟨⟨rfl, by omega, by omega, srt_R h⟩, fun z hz => ?_⟩
    have hb := hz.b
    obtain ⟨z, rfl⟩ : ∃ y : Nat, z = y := ⟨z.toNat, by omega⟩
    refine ⟨fun hx => ⟨by have := hx.out.1; omega, fun j1 hj1 => ⟨by have := hx.out.1; omega, fun M' hM => ?_⟩⟩, fun hx z3 h3' => ⟨fun hfull => ?_, fun hroom => ⟨U.ks P, ⟨rfl, h.kf, by omega, by omega⟩, fun n5 c6 L7 e5 e7 => ?_⟩⟩⟩
    · obtain rfl : j1 = z := by omega
      obtain ⟨q1, q2, q3⟩ := put_has h hz hx ⟨p, a, b, cc, dd, x, s, t, _, _, o, ep, id, hh, bo, us⟩
      exact h1 ((G j1 hz).1 hx) M' _ q1 ⟨by rw [q2]; exact h.kf, by rw [q3]; exact put_row h (by have := hx.out.1; omega) _ rfl hM, q1.srt⟩
    · exact h2 (fun hy => hx ((G z hz).2 hy)) (by omega)
    · repeat (first | refine ⟨rfl, ?_⟩ | refine ⟨⟨rfl, rfl, rfl⟩, ?_⟩)
      refine ⟨U.vs P, ⟨rfl, h.vf, by omega, by omega⟩, fun n9 d10 M11 e9 e11 => ?_⟩
      obtain rfl : n9 = n5 := by omega
      obtain ⟨q1, q2, q3⟩ := put_non h hz (fun hy => hx ((G z hz).2 hy)) ⟨p, a, b, cc, dd, x, s, t, _, _, o, ep, id, hh, bo, us⟩
      repeat' (first | exact rfl | with_reducible apply And.intro)
      exact h3 (fun hy => hx ((G z hz).2 hy)) (by omega) _ _ _ _ _ _ e5 q1 ⟨by rw [q2]; exact e7, by rw [q3]; exact e11, q1.srt⟩
end Go.Proofs.YtdpcahblhjbgjaaDoor
end
