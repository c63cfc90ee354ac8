/- Parts of a proof, one behind the other: CS3 CS4 CS5 CS6 CS7 CS8. No condition. -/
import Derived.Test.YtmahbhoblhhamaaGB
import Derived.Test.YtmahbhoblhhamaaGA
section
set_option linter.unusedVariables false
set_option linter.unusedSimpArgs false
set_option maxRecDepth 10000
namespace Go.Proofs.Ytmahbhoblhhamaa
open Go Reck Ost
/-- A thing of the shelf. -/
structure CSv where
  (v0 v1 v2 v3 : Int)
def CSv.cells (e : CSv) : List Cell := csC e.v0 e.v1 e.v2 e.v3
def CSv.row (e : CSv) : List CV := csR e.v0 e.v1 e.v2 e.v3
def csX (l : List Cell) : Option CSv :=
  match l with
  | [v0, v1, v2, v3] => match xiX (cell v0), xiX (cell v1), xiX (cell v2), xiX (cell v3) with
    | some (.i64, v0), some (.i64, v1), some (.i64, v2), some (.i64, v3) => some ⟨v0, v1, v2, v3⟩
    | _, _, _, _ => none
  | _ => none
theorem csX_eq {l : List Cell} {e : CSv} (h : csX l = some e) : l = e.cells := by
  unfold csX at h
  split at h
  · split at h
    · rename_i h0 h1 h2 h3
      simp only [Option.some.injEq] at h; subst h
      rw [cInj (xiX_eq h0), cInj (xiX_eq h1), cInj (xiX_eq h2), cInj (xiX_eq h3)]; rfl
    · cases h
  · cases h
def cssV (k : Int) : Option Blk := some ⟨3, [xintC .i64 k], none, 1, false⟩
def cseV (e : CSv) : Option Blk := some ⟨36, e.cells, none, 4, false⟩
def cspInsK : Pat := fun args σ => match args, σ with
  | [s, i, .inl (.inl (.inr (.inr (.inl ⟨0, 0, 1, none, 1⟩))))], ⟨[some ⟨3, [v], none, 1, false⟩], [], 0, [some ⟨3, .o (.rows [.n .i64] L), [], c0, false⟩], 0⟩ => match rslX s, intX i, cInt v with
    | some ⟨0, 1, 0, n, c⟩, some (.i64, i), some k => some fun K => ∃ A, (c0 = c ∧ U.Fu L n c A ∧ (0 ≤ i ∧ i ≤ n) ∧ n + 1 ≤ 1000000) ∧ ∀ (n' c' : Nat) (L' : Rws), n' = n + 1 → U.Fu L' n' c' (U.insR A i [.i k]) → K (cell (rslC ⟨1, 1, 0, n', c'⟩)) ⟨[cssV k], [], 0, [none, some (cskB L' c')], 0⟩
    | _, _, _ => none
  | _, _ => none
theorem cspInsK_ok : PatOk 41 cspInsK := by
  intro tm σ C h K hK w0 e w hk vs hvs
  unfold cspInsK at h
  split at h
  · rename_i s i v L c0
    split at h
    · rename_i n c i' k hs hi hv
      obtain rfl := rslX_eq hs
      obtain rfl := cInt_eq hv
      simp only [Option.some.injEq] at h; subst h
      obtain ⟨A, ⟨rfl, h1, h2, h3⟩, hK⟩ := hK
      obtain ⟨x, y, z, rfl, q1, q2, q3⟩ := threes hvs
      refine ins_fin (old := some (cskB L c0)) (u := 1) (Q := fun n' c' L' => n' = n + 1 ∧ U.Fu L' n' c' (U.insR A i' [.i k])) (knownD noOv names (opMV_ok csovOk) (conOk_ofR tbl0_ok) (csinsK_run _ L A n c0 i' k h1 h2 h3 ?_ ?_ ?_) w0 e w hk _ (map3 q1 (as_int hi q2) q3)) (fun n' c' L' hq => hK n' c' L' hq.1 hq.2)
      · exact fun L' c' hF => ⟨n + 1, c', L', ⟨rfl, hF⟩, .inl ⟨rfl, rfl⟩⟩
      · exact fun L' c' hF => ⟨n + 1, c', L', ⟨rfl, hF⟩, .inr (.inl ⟨rfl, rfl⟩)⟩
      · exact fun L' c' hF => ⟨n + 1, c', L', ⟨rfl, hF⟩, .inr (.inr ⟨rfl, rfl⟩)⟩
    · cases h
  · cases h
def cspInsV : Pat := fun args σ => match args, σ with
  | [s, i, .inl (.inl (.inr (.inr (.inl ⟨0, 0, 1, none, 1⟩))))], ⟨[some ⟨36, l, none, 4, false⟩], [], 0, [some ⟨36, .o (.rows ks L), [], c0, false⟩], 0⟩ => match rslX s, intX i, csX l, sameK ks csvK with
    | some ⟨0, 4, 0, n, c⟩, some (.i64, i), some e, true => some fun K => ∃ A, (c0 = c ∧ U.Fu L n c A ∧ (0 ≤ i ∧ i ≤ n) ∧ n + 1 ≤ 1000000) ∧ ∀ (n' c' : Nat) (L' : Rws), n' = n + 1 → U.Fu L' n' c' (U.insR A i e.row) → K (cell (rslC ⟨1, 4, 0, n', c'⟩)) ⟨[cseV e], [], 0, [none, some (csvB L' c')], 0⟩
    | _, _, _, _ => none
  | _, _ => none
theorem cspInsV_ok : PatOk 42 cspInsV := by
  intro tm σ C h K hK w0 e w hk vs hvs
  unfold cspInsV at h
  split at h
  · rename_i s i l ks L c0
    split at h
    · rename_i n c i' en hs hi hv hks
      obtain rfl := rslX_eq hs
      obtain rfl := csX_eq hv
      obtain rfl := sameK_eq hks
      simp only [Option.some.injEq] at h; subst h
      obtain ⟨A, ⟨rfl, h1, h2, h3⟩, hK⟩ := hK
      obtain ⟨x, y, z, rfl, q1, q2, q3⟩ := threes hvs
      refine ins_fin (old := some (csvB L c0)) (u := 4) (Q := fun n' c' L' => n' = n + 1 ∧ U.Fu L' n' c' (U.insR A i' en.row)) (knownD noOv names (opMV_ok csovOk) (conOk_ofR tbl0_ok) (csinsV_run _ L A n c0 i' en.v0 en.v1 en.v2 en.v3 h1 h2 h3 ?_ ?_ ?_) w0 e w hk _ (map3 q1 (as_int hi q2) q3)) (fun n' c' L' hq => hK n' c' L' hq.1 hq.2)
      · exact fun L' c' hF => ⟨n + 1, c', L', ⟨rfl, hF⟩, .inl ⟨rfl, rfl⟩⟩
      · exact fun L' c' hF => ⟨n + 1, c', L', ⟨rfl, hF⟩, .inr (.inl ⟨rfl, rfl⟩)⟩
      · exact fun L' c' hF => ⟨n + 1, c', L', ⟨rfl, hF⟩, .inr (.inr ⟨rfl, rfl⟩)⟩
    · cases h
  · cases h
def cspDelK : Pat := fun args σ => match args, σ with
  | [s, i, j], ⟨[], [], 0, [some ⟨3, .o (.rows ks L), [], c0, false⟩], 0⟩ => match rslX s, intX i, intX j, sameK ks [.n .i64] with
    | some ⟨0, 1, 0, n, c⟩, some (.i64, i), some (.i64, j), true => some fun K => ∃ A, (c0 = c ∧ U.Fu L n c A ∧ (0 ≤ i ∧ i < n) ∧ j = i + 1) ∧ ∀ (n' : Nat) (L' : Rws), n' + 1 = n → U.Fu L' n' c (U.erR A i) → K (cell (rslC ⟨1, 1, 0, n', c⟩)) ⟨[], [], 0, [none, some (cskB L' c)], 0⟩
    | _, _, _, _ => none
  | _, _ => none
theorem cspDelK_ok : PatOk 39 cspDelK := by
  intro tm σ C h K hK w0 e w hk vs hvs
  unfold cspDelK at h
  split at h
  · rename_i s i j ks L c0
    split at h
    · rename_i n c i' j' hs hi hj hks
      obtain rfl := rslX_eq hs
      obtain rfl := sameK_eq hks
      simp only [Option.some.injEq] at h; subst h
      obtain ⟨A, ⟨rfl, h1, h2, h3⟩, hK⟩ := hK
      obtain ⟨x, y, z, rfl, q1, q2, q3⟩ := threes hvs
      exact knownD noOv names (opMW_ok csovOk) (conOk_ofR tbl0_ok) (csdelK_run _ L A n c0 i' j' h1 h2 h3 hK) w0 e w hk _ (map3 q1 (as_int hi q2) (as_int hj q3))
    · cases h
  · cases h
def cspDelV : Pat := fun args σ => match args, σ with
  | [s, i, j], ⟨[], [], 0, [some ⟨36, .o (.rows ks L), [], c0, false⟩], 0⟩ => match rslX s, intX i, intX j, sameK ks csvK with
    | some ⟨0, 4, 0, n, c⟩, some (.i64, i), some (.i64, j), true => some fun K => ∃ A, (c0 = c ∧ U.Fu L n c A ∧ (0 ≤ i ∧ i < n) ∧ j = i + 1) ∧ ∀ (n' : Nat) (L' : Rws), n' + 1 = n → U.Fu L' n' c (U.erR A i) → K (cell (rslC ⟨1, 4, 0, n', c⟩)) ⟨[], [], 0, [none, some (csvB L' c)], 0⟩
    | _, _, _, _ => none
  | _, _ => none
theorem cspDelV_ok : PatOk 40 cspDelV := by
  intro tm σ C h K hK w0 e w hk vs hvs
  unfold cspDelV at h
  split at h
  · rename_i s i j ks L c0
    split at h
    · rename_i n c i' j' hs hi hj hks
      obtain rfl := rslX_eq hs
      obtain rfl := sameK_eq hks
      simp only [Option.some.injEq] at h; subst h
      obtain ⟨A, ⟨rfl, h1, h2, h3⟩, hK⟩ := hK
      obtain ⟨x, y, z, rfl, q1, q2, q3⟩ := threes hvs
      exact knownD noOv names (opMW_ok csovOk) (conOk_ofR tbl0_ok) (csdelV_run _ L A n c0 i' j' h1 h2 h3 hK) w0 e w hk _ (map3 q1 (as_int hi q2) (as_int hj q3))
    · cases h
  · cases h
def cstID : Tbl := tblOr (tblIf 41 cspInsK) (tblOr (tblIf 42 cspInsV) (tblOr (tblIf 39 cspDelK) (tblIf 40 cspDelV)))
theorem cstID_ok : TblOk Try.prog cstID := tblOr_ok (tblIf_ok cspInsK_ok) (tblOr_ok (tblIf_ok cspInsV_ok) (tblOr_ok (tblIf_ok cspDelK_ok) (tblIf_ok cspDelV_ok)))
end Go.Proofs.Ytmahbhoblhhamaa
end

section
namespace Go.Proofs.Ytmahbhoblhhamaa
open Go Reck Ost
set_option linter.unusedVariables false
set_option maxRecDepth 100000
def cspLess : Pat := fun args σ => match args, σ with
  | [a, b], ⟨[], [], 0, [], 0⟩ => match aInt a, aInt b with
    | some a, some b => some fun K => (a < b → K (lit (.bool true)) emptySt) ∧ (¬ a < b → K (lit (.bool false)) emptySt)
    | _, _ => none
  | _, _ => none
def cstLess : Tbl := tblIf 48 cspLess
structure U.csbsR (L : Rws) (n : Nat) (k : Int) (i j : Int) : Prop where
  out : 0 ≤ i ∧ i ≤ j ∧ j ≤ n ∧ (∀ m : Nat, (m : Int) < i → U.fi L m 0 < k) ∧ (∀ m : Nat, j ≤ (m : Int) → m < n → ¬ U.fi L m 0 < k)
def csbsInv (c : Code) (tm : List AV) (σ : St) : Inv where
  X := Int × Int
  tags := [0]
  tag _ _ := 0
  J := wrBut [7, 8] c
  val _ x := [(7, xi .i64 x.1), (8, xi .i64 x.2)]
  st _ _ σ' := σ'
  I _ x := U.csbsR (rowsAt σ (slotR tm 0).a) (slotR tm 0).n (slotI tm 1) x.1 x.2
  m _ x := (x.2 - x.1).toNat
  ren := noRen
def csinvBS : InvF := fun c tm σ => match tm.length, firstReg c with
  | 54, some 3 => some (csbsInv c tm σ)
  | _, _ => none
--PLAIN
theorem csless_vc (K : AV → St → Prop) (a b : Int) : (runR inv0 tbl0 48 [xi .i64 a, xi .i64 b] emptySt K) = ((¬a = a → (¬b = b → (a < b → K (Sum.inl (Sum.inl (Sum.inl (Value.bool true)))) { heap := [], ints := [], opqs := (0 : Nat), arrs := [], junks := (0 : Nat) }) ∧ (¬a < b → K (Sum.inl (Sum.inl (Sum.inl (Value.bool false)))) { heap := [], ints := [], opqs := (0 : Nat), arrs := [], junks := (0 : Nat) })) ∧ (¬¬b = b → K (Sum.inl (Sum.inl (Sum.inl (Value.bool true)))) { heap := [], ints := [], opqs := (0 : Nat), arrs := [], junks := (0 : Nat) })) ∧ (¬¬a = a → (a < b → K (Sum.inl (Sum.inl (Sum.inl (Value.bool true)))) { heap := [], ints := [], opqs := (0 : Nat), arrs := [], junks := (0 : Nat) }) ∧ (¬a < b → K (Sum.inl (Sum.inl (Sum.inl (Value.bool false)))) { heap := [], ints := [], opqs := (0 : Nat), arrs := [], junks := (0 : Nat) }))) := by kernel_rfl
theorem csbs_vc (K : AV → St → Prop) (L : Rws) (n c : Nat) (k : Int) : (runR csinvBS cstLess 43 [cell (rslC ⟨0, 1, 0, n, c⟩), xi .i64 k] ⟨[], [], 0, [some (cskB L c)], 0⟩ K) = (∀ (z0 : Int), z0 = (↑n : Int) → (∃ (y1 : Int × Int), ((0 : Nat) = (0 : Nat) ∧ n = n ∧ c = c) ∧ k = k ∧ false = false ∧ z0 = z0 ∧ (0 : Int) = Prod.fst y1 ∧ z0 = Prod.snd y1 ∧ ((0 : Nat) = (0 : Nat) ∧ n = n ∧ c = c) ∧ z0 = z0 ∧ z0 = z0 ∧ (L = L ∧ c = c ∧ false = false) ∧ U.csbsR L n k (Prod.fst y1) (Prod.snd y1)) ∧ ∀ (x2 : Int × Int), U.csbsR L n k (Prod.fst x2) (Prod.snd x2) → (Prod.fst x2 < Prod.snd x2 → ∀ (z3 : Int), z3 = IntKind.wrap IntKind.i64 (Prod.fst x2 + Prod.snd x2) → ∀ (z4 : Int), z4 = IntKind.wrap IntKind.u64 z3 → (0 : Int) ≤ (1 : Int) ∧ ∀ (z5 : Int), z5 = shrI IntKind.u64 z4 (1 : Int) → ∀ (z6 : Int), z6 = IntKind.wrap IntKind.i64 z5 → ((0 : Int) ≤ z6 ∧ z6 < (↑n : Int)) ∧ ∀ (j7 : Nat), (↑j7 : Int) = (↑((0 : Nat)) : Int) + z6 → j7 < List.length L ∧ ∀ (z8 : Int), z8 = U.fi L j7 ((0 : Nat)) → (z8 < k → ∀ (z9 : Int), z9 = IntKind.wrap IntKind.i64 (z6 + (1 : Int)) → ∃ (y10 : Int × Int), ((0 : Nat) = (0 : Nat) ∧ n = n ∧ c = c) ∧ k = k ∧ false = false ∧ z0 = z0 ∧ z9 = Prod.fst y10 ∧ Prod.snd x2 = Prod.snd y10 ∧ ((0 : Nat) = (0 : Nat) ∧ n = n ∧ c = c) ∧ z0 = z0 ∧ z0 = z0 ∧ (L = L ∧ c = c ∧ false = false) ∧ U.csbsR L n k (Prod.fst y10) (Prod.snd y10) ∧ Int.toNat (Prod.snd y10 - Prod.fst y10) < Int.toNat (Prod.snd x2 - Prod.fst x2)) ∧ (¬z8 < k → ∃ (y11 : Int × Int), ((0 : Nat) = (0 : Nat) ∧ n = n ∧ c = c) ∧ k = k ∧ false = false ∧ z0 = z0 ∧ Prod.fst x2 = Prod.fst y11 ∧ z6 = Prod.snd y11 ∧ ((0 : Nat) = (0 : Nat) ∧ n = n ∧ c = c) ∧ z0 = z0 ∧ z0 = z0 ∧ (L = L ∧ c = c ∧ false = false) ∧ U.csbsR L n k (Prod.fst y11) (Prod.snd y11) ∧ Int.toNat (Prod.snd y11 - Prod.fst y11) < Int.toNat (Prod.snd x2 - Prod.fst x2))) ∧ (¬Prod.fst x2 < Prod.snd x2 → (Prod.fst x2 < z0 → ((0 : Int) ≤ Prod.fst x2 ∧ Prod.fst x2 < (↑n : Int)) ∧ ∀ (j12 : Nat), (↑j12 : Int) = (↑((0 : Nat)) : Int) + Prod.fst x2 → j12 < List.length L ∧ ∀ (z13 : Int), z13 = U.fi L j12 ((0 : Nat)) → (z13 = k → K (Sum.inr [Sum.inl (Sum.inr (Sum.inr (Sum.inr (Sum.inr (Sum.inr (Sum.inr (Sum.inl (IntKind.i64, Prod.fst x2)))))))), Sum.inl (Sum.inl (Value.bool true))]) { heap := [], ints := [], opqs := (0 : Nat), arrs := [some { elem := (3 : Nat), k := AK.o (Obj.rows [CK.n IntKind.i64] L), l := [], cap := c, ro := false }], junks := (0 : Nat) }) ∧ (¬z13 = k → ((0 : Int) ≤ Prod.fst x2 ∧ Prod.fst x2 < (↑n : Int)) ∧ ∀ (j14 : Nat), (↑j14 : Int) = (↑((0 : Nat)) : Int) + Prod.fst x2 → j14 < List.length L ∧ ∀ (z15 : Int), z15 = U.fi L j14 ((0 : Nat)) → (¬z15 = z15 → (¬k = k → K (Sum.inr [Sum.inl (Sum.inr (Sum.inr (Sum.inr (Sum.inr (Sum.inr (Sum.inr (Sum.inl (IntKind.i64, Prod.fst x2)))))))), Sum.inl (Sum.inl (Value.bool true))]) { heap := [], ints := [], opqs := (0 : Nat), arrs := [some { elem := (3 : Nat), k := AK.o (Obj.rows [CK.n IntKind.i64] L), l := [], cap := c, ro := false }], junks := (0 : Nat) }) ∧ (¬¬k = k → K (Sum.inr [Sum.inl (Sum.inr (Sum.inr (Sum.inr (Sum.inr (Sum.inr (Sum.inr (Sum.inl (IntKind.i64, Prod.fst x2)))))))), Sum.inl (Sum.inl (Value.bool false))]) { heap := [], ints := [], opqs := (0 : Nat), arrs := [some { elem := (3 : Nat), k := AK.o (Obj.rows [CK.n IntKind.i64] L), l := [], cap := c, ro := false }], junks := (0 : Nat) })) ∧ (¬¬z15 = z15 → K (Sum.inr [Sum.inl (Sum.inr (Sum.inr (Sum.inr (Sum.inr (Sum.inr (Sum.inr (Sum.inl (IntKind.i64, Prod.fst x2)))))))), Sum.inl (Sum.inl (Value.bool false))]) { heap := [], ints := [], opqs := (0 : Nat), arrs := [some { elem := (3 : Nat), k := AK.o (Obj.rows [CK.n IntKind.i64] L), l := [], cap := c, ro := false }], junks := (0 : Nat) }))) ∧ (¬Prod.fst x2 < z0 → K (Sum.inr [Sum.inl (Sum.inr (Sum.inr (Sum.inr (Sum.inr (Sum.inr (Sum.inr (Sum.inl (IntKind.i64, Prod.fst x2)))))))), Sum.inl (Sum.inl (Value.bool false))]) { heap := [], ints := [], opqs := (0 : Nat), arrs := [some { elem := (3 : Nat), k := AK.o (Obj.rows [CK.n IntKind.i64] L), l := [], cap := c, ro := false }], junks := (0 : Nat) }))) := by kernel_rfl
end Go.Proofs.Ytmahbhoblhhamaa
end

section
set_option linter.unusedVariables false
set_option linter.unusedSimpArgs false
set_option maxRecDepth 10000
namespace Go.Proofs.Ytmahbhoblhhamaa
open Go Reck Ost
theorem cspLess_ok : PatOk 48 cspLess := by
  intro tm σ C h K hK w0 e w hk vs hvs
  unfold cspLess at h
  split at h
  · split at h
    · rename_i a b ha hb
      simp only [Option.some.injEq] at h; subst h
      obtain ⟨v, u, rfl, hv, hu⟩ := twos hvs
      refine knownC noOv names (conOk_ofR tbl0_ok) (show runR inv0 tbl0 48 [xi .i64 a, xi .i64 b] emptySt K from ?_) w0 e w hk [v, u] (map2 (as_aInt ha hv) (as_aInt hb hu))
      rw [csless_vc]
      exact ⟨fun h => absurd rfl h, fun _ => hK⟩
    · cases h
  · cases h
/-- Keys that rise. -/
structure U.csSrtR (L : Rws) (n : Nat) : Prop where
  out : ∀ i j : Nat, i < j → j < n → U.fi L i 0 < (U.fi L j 0)
/-- Where a key stands, or would stand. -/
structure U.csAt (L : Rws) (n : Nat) (k : Int) (z : Int) : Prop where
  b : 0 ≤ z ∧ z ≤ n
  lo : ∀ m : Nat, (m : Int) < z → U.fi L m 0 < k
  hi : ∀ m : Nat, z ≤ (m : Int) → m < n → ¬ U.fi L m 0 < k
structure U.csHasAt (L : Rws) (n : Nat) (k : Int) (z : Int) : Prop where
  out : z < n ∧ U.fi L z.toNat 0 = k
set_option maxHeartbeats 1000000 in
theorem csbs_run (K : AV → St → Prop) (L : Rws) (n c : Nat) (k : Int) (hl : n ≤ L.length) (hsm : n ≤ 1000000) (hs : U.csSrtR L n)
    (hK : ∀ z : Int, U.csAt L n k z → (U.csHasAt L n k z → K (zbA z true) ⟨[], [], 0, [some (cskB L c)], 0⟩) ∧ (¬ U.csHasAt L n k z → K (zbA z false) ⟨[], [], 0, [some (cskB L c)], 0⟩)) :
    runR csinvBS cstLess 43 [cell (rslC ⟨0, 1, 0, n, c⟩), xi .i64 k] ⟨[], [], 0, [some (cskB L c)], 0⟩ K := by
  rw [csbs_vc]
  intro z0 h0
  refine ⟨⟨(0, z0), ?_⟩, ?_⟩
  · repeat' (first | exact rfl | with_reducible apply And.intro)
    exact ⟨Int.le_refl _, by dsimp only; omega, by dsimp only; omega, fun m hm => by dsimp only at hm; omega, fun m hm hm2 => by dsimp only at hm; omega⟩
  rintro ⟨i, j⟩ ⟨b1, b2, b3, b4, b5⟩
  dsimp only at b1 b2 b3 b4 b5 ⊢
  refine ⟨fun hij z3 h3 z4 h4 => ⟨by decide, fun z5 h5 z6 h6 => ?_⟩, fun hij => ?_⟩
  · have e3 := iw h3 (by omega)
    have e4 : z4 = i + j := by
      rw [h4, e3]; show IntKind.wrap .u64 _ = _
      rw [IntKind.wrap]; simp [IntKind.signed, IntKind.bits]; omega
    have e5 : z5 = (i + j) / 2 := by
      rw [h5, e4]
      unfold shrI
      rw [show min (1 : Int).toNat (IntKind.bits .u64) = 1 from rfl, Int.fdiv_eq_ediv_of_nonneg _ (by decide)]
      rfl
    clear h3 h4 h5
    replace h6 := iw h6 (by omega)
    refine ⟨by omega, fun j7 h7 => ⟨by omega, fun z8 h8 => ?_⟩⟩
    obtain ⟨p, hp⟩ : ∃ p : Nat, z6 = p := ⟨z6.toNat, by omega⟩
    obtain rfl : j7 = p := by omega
    refine ⟨fun hlt z9 h9 => ⟨(z9, j), ?_⟩, fun hge => ⟨(i, z6), ?_⟩⟩
    · replace h9 := iw h9 (by omega)
      repeat' (first | exact rfl | with_reducible apply And.intro)
      · refine ⟨by dsimp only; omega, by dsimp only; omega, b3, fun m hm => ?_, b5⟩
        dsimp only at hm
        rw [h8] at hlt
        by_cases hmp : m = j7
        · rw [hmp]; exact hlt
        · exact Int.lt_trans (hs.out m j7 (by omega) (by omega)) hlt
      · dsimp only; omega
    · repeat' (first | exact rfl | with_reducible apply And.intro)
      · refine ⟨b1, by dsimp only; omega, by dsimp only; omega, b4, fun m hm hm2 => ?_⟩
        dsimp only at hm
        rw [h8] at hge
        by_cases hmp : m = j7
        · rw [hmp]; exact hge
        · exact fun hx => hge (Int.lt_trans (hs.out j7 m (by omega) hm2) hx)
      · dsimp only; omega
  · obtain rfl : i = j := by omega
    obtain ⟨p, rfl⟩ : ∃ p : Nat, i = p := ⟨i.toNat, by omega⟩
    have hK := hK p ⟨⟨b1, b3⟩, b4, b5⟩
    refine ⟨fun hlt => ⟨by omega, fun j12 h12 => ⟨by omega, fun z13 h13 => ?_⟩⟩, fun hge => hK.2 (fun hx => by have := hx.out.1; omega)⟩
    obtain rfl : j12 = p := by omega
    refine ⟨fun heq => hK.1 ⟨by omega, by rw [Int.toNat_natCast, ← h13]; exact heq⟩, fun hne => ?_⟩
    have hno : ¬ U.csHasAt L n k j12 := fun hx => hne (by have := hx.out.2; rw [Int.toNat_natCast] at this; rw [h13]; exact this)
    repeat' (first | with_reducible apply And.intro | intro _)
    all_goals (first | exact hK.2 hno | omega | (exfalso; rename_i hx; exact hx rfl) | (exfalso; rename_i hx _; exact hx rfl))
end Go.Proofs.Ytmahbhoblhhamaa
end

section
namespace Go.Proofs.Ytmahbhoblhhamaa
open Go Reck Ost
set_option linter.unusedVariables false
set_option maxRecDepth 100000
def cspBS : Pat := fun args σ => match args, σ with
  | [s, k], ⟨[], [], 0, [some ⟨3, .o (.rows [.n .i64] L), [], c0, false⟩], 0⟩ => match rslX s, aInt k with
    | some ⟨0, 1, 0, n, c⟩, some k => some fun K => (c0 = c ∧ n ≤ L.length ∧ n ≤ 1000000 ∧ U.csSrtR L n) ∧ ∀ z : Int, U.csAt L n k z → (U.csHasAt L n k z → K (zbA z true) ⟨[], [], 0, [some (cskB L c)], 0⟩) ∧ (¬ U.csHasAt L n k z → K (zbA z false) ⟨[], [], 0, [some (cskB L c)], 0⟩)
    | _, _ => none
  | _, _ => none
theorem cspBS_ok : PatOk 43 cspBS := by
  intro tm σ C h K hK w0 e w hk vs hvs
  unfold cspBS at h
  split at h
  · split at h
    · rename_i n c k hs hk'
      obtain rfl := rslX_eq hs
      simp only [Option.some.injEq] at h; subst h
      obtain ⟨⟨rfl, h1, h2, h3⟩, h4⟩ := hK
      obtain ⟨v, u, rfl, hv, hu⟩ := twos hvs
      exact knownC noOv names (conOk_ofR (tblIf_ok cspLess_ok)) (csbs_run K _ _ _ k h1 h2 h3 h4) w0 e w hk _ (map2 hv (as_aInt hk' hu))
    · cases h
  · cases h
def cstSh : Tbl := tblOr cstID (tblIf 43 cspBS)
theorem cstSh_ok : TblOk Try.prog cstSh := tblOr_ok cstID_ok (tblIf_ok cspBS_ok)
def csB (a b : Cell) (m : Int) : Option Blk := some ⟨75, [a, b, xintC .i64 m], none, 3, false⟩
def csSt (n c : Nat) (L : Rws) (d : Nat) (M : Rws) (m : Int) : St := ⟨[csB (rslC ⟨0, 1, 0, n, c⟩) (rslC ⟨1, 4, 0, n, d⟩) m], [], 0, [some (cskB L c), some (csvB M d)], 0⟩
--PLAIN
theorem csNew_vc (K : AV → St → Prop) (m : Int) : (runV csov inv0 tbl0 17 [xi .i64 m] emptySt K) = (K (Sum.inl (Sum.inl (Sum.inr (Sum.inl ((0 : Nat), (0 : Nat)))))) { heap := [some { elem := nat_lit 75, cells := [Sum.inl (Value.slice none (0 : Nat) (0 : Nat)), Sum.inl (Value.slice none (0 : Nat) (0 : Nat)), Sum.inr (Sum.inr (Sum.inr (Sum.inr (Sum.inr (Sum.inr (Sum.inl (IntKind.i64, m)))))))], j := none, c := (0 : Nat) + (1 : Nat) + (1 : Nat) + (1 : Nat), z := false }], ints := [], opqs := (0 : Nat), arrs := [], junks := (0 : Nat) }) := by kernel_rfl
theorem csSet_vc (K : AV → St → Prop) (L M : Rws) (n c d : Nat) (m : Int) (k : Int) (v0 v1 v2 v3 : Int) : (runV csov inv0 cstSh 34 [ptr 0 0, xi .i64 k, .inl (.inr (csC v0 v1 v2 v3))] (csSt n c L d M m) K) = ((c = c ∧ n ≤ List.length L ∧ n ≤ (1000000 : Nat) ∧ U.csSrtR L n) ∧ ∀ (z0 : Int), U.csAt L n k z0 → (U.csHasAt L n k z0 → ((0 : Int) ≤ z0 ∧ z0 < (↑n : Int)) ∧ ∀ (j1 : Nat), (↑j1 : Int) = (↑((0 : Nat)) : Int) + z0 → j1 < List.length M ∧ ∀ (L'2 : List (List CV)), L'2 = U.put M j1 ((0 : Nat)) [CV.i v0, CV.i v1, CV.i v2, CV.i v3] → K (Sum.inl (Sum.inl (Sum.inr (Sum.inr (Sum.inr (Sum.inr (Sum.inr (Sum.inr (Sum.inl (IntKind.i64, (0 : Int))))))))))) { heap := [some { elem := nat_lit 75, cells := [Sum.inr (Sum.inr (Sum.inr (Sum.inr (Sum.inr (Sum.inr (Sum.inr (Sum.inr (Sum.inr (Sum.inr (Sum.inr (Sum.inl { a := (0 : Nat), u := (1 : Nat), o := (0 : Nat), n := n, c := c }))))))))))), Sum.inr (Sum.inr (Sum.inr (Sum.inr (Sum.inr (Sum.inr (Sum.inr (Sum.inr (Sum.inr (Sum.inr (Sum.inr (Sum.inl { a := (1 : Nat), u := (4 : Nat), o := (0 : Nat), n := n, c := d }))))))))))), Sum.inr (Sum.inr (Sum.inr (Sum.inr (Sum.inr (Sum.inr (Sum.inl (IntKind.i64, m)))))))], j := none, c := (3 : Nat), z := false }], ints := [], opqs := (0 : Nat), arrs := [some { elem := (3 : Nat), k := AK.o (Obj.rows [CK.n IntKind.i64] L), l := [], cap := c, ro := false }, some { elem := nat_lit 36, k := AK.o (Obj.rows [CK.n IntKind.i64, CK.n IntKind.i64, CK.n IntKind.i64, CK.n IntKind.i64] L'2), l := [], cap := d, ro := false }], junks := (0 : Nat) }) ∧ (¬U.csHasAt L n k z0 → ∀ (z3 : Int), z3 = (↑n : Int) → (m ≤ z3 → K (Sum.inl (Sum.inl (Sum.inr (Sum.inr (Sum.inr (Sum.inr (Sum.inr (Sum.inr (Sum.inl (IntKind.i64, (4 : Int))))))))))) { heap := [some { elem := nat_lit 75, cells := [Sum.inr (Sum.inr (Sum.inr (Sum.inr (Sum.inr (Sum.inr (Sum.inr (Sum.inr (Sum.inr (Sum.inr (Sum.inr (Sum.inl { a := (0 : Nat), u := (1 : Nat), o := (0 : Nat), n := n, c := c }))))))))))), Sum.inr (Sum.inr (Sum.inr (Sum.inr (Sum.inr (Sum.inr (Sum.inr (Sum.inr (Sum.inr (Sum.inr (Sum.inr (Sum.inl { a := (1 : Nat), u := (4 : Nat), o := (0 : Nat), n := n, c := d }))))))))))), Sum.inr (Sum.inr (Sum.inr (Sum.inr (Sum.inr (Sum.inr (Sum.inl (IntKind.i64, m)))))))], j := none, c := (3 : Nat), z := false }], ints := [], opqs := (0 : Nat), arrs := [some { elem := (3 : Nat), k := AK.o (Obj.rows [CK.n IntKind.i64] L), l := [], cap := c, ro := false }, some { elem := (36 : Nat), k := AK.o (Obj.rows [CK.n IntKind.i64, CK.n IntKind.i64, CK.n IntKind.i64, CK.n IntKind.i64] M), l := [], cap := d, ro := false }], junks := (0 : Nat) }) ∧ (¬m ≤ z3 → ∃ (y4 : Rws), (c = c ∧ U.Fu L n c y4 ∧ ((0 : Int) ≤ z0 ∧ z0 ≤ (↑n : Int)) ∧ n + (1 : Nat) ≤ (1000000 : Nat)) ∧ ∀ (n'5 c'6 : Nat) (L'7 : Rws), n'5 = n + (1 : Nat) → U.Fu L'7 n'5 c'6 (U.insR y4 z0 [CV.i k]) → v0 = v0 ∧ v1 = v1 ∧ v2 = v2 ∧ v3 = v3 ∧ ((0 : Nat) = (0 : Nat) ∧ n = n ∧ d = d) ∧ ∃ (y8 : Rws), (d = d ∧ U.Fu M n d y8 ∧ ((0 : Int) ≤ z0 ∧ z0 ≤ (↑n : Int)) ∧ n + (1 : Nat) ≤ (1000000 : Nat)) ∧ ∀ (n'9 c'10 : Nat) (L'11 : Rws), n'9 = n + (1 : Nat) → U.Fu L'11 n'9 c'10 (U.insR y8 z0 [CV.i v0, CV.i v1, CV.i v2, CV.i v3]) → v0 = v0 ∧ v1 = v1 ∧ v2 = v2 ∧ v3 = v3 ∧ ((0 : Nat) = (0 : Nat) ∧ n = n ∧ d = d) ∧ K (Sum.inl (Sum.inl (Sum.inr (Sum.inr (Sum.inr (Sum.inr (Sum.inr (Sum.inr (Sum.inl (IntKind.i64, (0 : Int))))))))))) { heap := [some { elem := nat_lit 75, cells := [Sum.inr (Sum.inr (Sum.inr (Sum.inr (Sum.inr (Sum.inr (Sum.inr (Sum.inr (Sum.inr (Sum.inr (Sum.inr (Sum.inl { a := (2 : Nat), u := (1 : Nat), o := (0 : Nat), n := n'5, c := c'6 }))))))))))), Sum.inr (Sum.inr (Sum.inr (Sum.inr (Sum.inr (Sum.inr (Sum.inr (Sum.inr (Sum.inr (Sum.inr (Sum.inr (Sum.inl { a := (3 : Nat), u := (4 : Nat), o := (0 : Nat), n := n'9, c := c'10 }))))))))))), Sum.inr (Sum.inr (Sum.inr (Sum.inr (Sum.inr (Sum.inr (Sum.inl (IntKind.i64, m)))))))], j := none, c := (3 : Nat), z := false }], ints := [], opqs := (0 : Nat), arrs := [none, none, some { elem := (3 : Nat), k := AK.o (Obj.rows [CK.n IntKind.i64] L'7), l := [], cap := c'6, ro := false }, some { elem := (36 : TypeId), k := AK.o (Obj.rows [CK.n IntKind.i64, CK.n IntKind.i64, CK.n IntKind.i64, CK.n IntKind.i64] L'11), l := [], cap := c'10, ro := false }], junks := (0 : Nat) }))) := by kernel_rfl
theorem csGet_vc (K : AV → St → Prop) (L M : Rws) (n c d : Nat) (m : Int) (k : Int) : (runV csov inv0 cstSh 27 [ptr 0 0, xi .i64 k] (csSt n c L d M m) K) = ((c = c ∧ n ≤ List.length L ∧ n ≤ (1000000 : Nat) ∧ U.csSrtR L n) ∧ ∀ (z0 : Int), U.csAt L n k z0 → (U.csHasAt L n k z0 → ((0 : Int) ≤ z0 ∧ z0 < (↑n : Int)) ∧ ∀ (j1 : Nat), (↑j1 : Int) = (↑((0 : Nat)) : Int) + z0 → j1 < List.length M ∧ ∀ (z2 : Int), z2 = U.fi M j1 ((0 : Nat)) → ∀ (z3 : Int), z3 = U.fi M j1 ((0 : Nat) + (1 : Nat)) → ∀ (z4 : Int), z4 = U.fi M j1 ((0 : Nat) + (1 : Nat) + (1 : Nat)) → ∀ (z5 : Int), z5 = U.fi M j1 ((0 : Nat) + (1 : Nat) + (1 : Nat) + (1 : Nat)) → K (Sum.inr [Sum.inr [Sum.inr (Sum.inr (Sum.inr (Sum.inr (Sum.inr (Sum.inr (Sum.inl (IntKind.i64, z2))))))), Sum.inr (Sum.inr (Sum.inr (Sum.inr (Sum.inr (Sum.inr (Sum.inl (IntKind.i64, z3))))))), Sum.inr (Sum.inr (Sum.inr (Sum.inr (Sum.inr (Sum.inr (Sum.inl (IntKind.i64, z4))))))), Sum.inr (Sum.inr (Sum.inr (Sum.inr (Sum.inr (Sum.inr (Sum.inl (IntKind.i64, z5)))))))], Sum.inl (Sum.inl (Value.bool true))]) { heap := [some { elem := nat_lit 75, cells := [Sum.inr (Sum.inr (Sum.inr (Sum.inr (Sum.inr (Sum.inr (Sum.inr (Sum.inr (Sum.inr (Sum.inr (Sum.inr (Sum.inl { a := (0 : Nat), u := (1 : Nat), o := (0 : Nat), n := n, c := c }))))))))))), Sum.inr (Sum.inr (Sum.inr (Sum.inr (Sum.inr (Sum.inr (Sum.inr (Sum.inr (Sum.inr (Sum.inr (Sum.inr (Sum.inl { a := (1 : Nat), u := (4 : Nat), o := (0 : Nat), n := n, c := d }))))))))))), Sum.inr (Sum.inr (Sum.inr (Sum.inr (Sum.inr (Sum.inr (Sum.inl (IntKind.i64, m)))))))], j := none, c := (3 : Nat), z := false }], ints := [], opqs := (0 : Nat), arrs := [some { elem := (3 : TypeId), k := AK.o (Obj.rows [CK.n IntKind.i64] L), l := [], cap := c, ro := false }, some { elem := (36 : TypeId), k := AK.o (Obj.rows [CK.n IntKind.i64, CK.n IntKind.i64, CK.n IntKind.i64, CK.n IntKind.i64] M), l := [], cap := d, ro := false }], junks := (0 : Nat) }) ∧ (¬U.csHasAt L n k z0 → K (Sum.inr [Sum.inr [Sum.inr (Sum.inr (Sum.inr (Sum.inr (Sum.inr (Sum.inr (Sum.inl (IntKind.i64, (0 : Int)))))))), Sum.inr (Sum.inr (Sum.inr (Sum.inr (Sum.inr (Sum.inr (Sum.inl (IntKind.i64, (0 : Int)))))))), Sum.inr (Sum.inr (Sum.inr (Sum.inr (Sum.inr (Sum.inr (Sum.inl (IntKind.i64, (0 : Int)))))))), Sum.inr (Sum.inr (Sum.inr (Sum.inr (Sum.inr (Sum.inr (Sum.inl (IntKind.i64, (0 : Int))))))))], Sum.inl (Sum.inl (Value.bool false))]) { heap := [some { elem := nat_lit 75, cells := [Sum.inr (Sum.inr (Sum.inr (Sum.inr (Sum.inr (Sum.inr (Sum.inr (Sum.inr (Sum.inr (Sum.inr (Sum.inr (Sum.inl { a := (0 : Nat), u := (1 : Nat), o := (0 : Nat), n := n, c := c }))))))))))), Sum.inr (Sum.inr (Sum.inr (Sum.inr (Sum.inr (Sum.inr (Sum.inr (Sum.inr (Sum.inr (Sum.inr (Sum.inr (Sum.inl { a := (1 : Nat), u := (4 : Nat), o := (0 : Nat), n := n, c := d }))))))))))), Sum.inr (Sum.inr (Sum.inr (Sum.inr (Sum.inr (Sum.inr (Sum.inl (IntKind.i64, m)))))))], j := none, c := (3 : Nat), z := false }], ints := [], opqs := (0 : Nat), arrs := [some { elem := (3 : TypeId), k := AK.o (Obj.rows [CK.n IntKind.i64] L), l := [], cap := c, ro := false }, some { elem := (36 : TypeId), k := AK.o (Obj.rows [CK.n IntKind.i64, CK.n IntKind.i64, CK.n IntKind.i64, CK.n IntKind.i64] M), l := [], cap := d, ro := false }], junks := (0 : Nat) })) := by kernel_rfl
theorem csDel_vc (K : AV → St → Prop) (L M : Rws) (n c d : Nat) (m : Int) (k : Int) : (runV csov inv0 cstSh 32 [ptr 0 0, sl ⟨1, 0, 1, none, 1⟩] ⟨[csB (rslC ⟨0, 1, 0, n, c⟩) (rslC ⟨1, 4, 0, n, d⟩) m, cssV k], [], 0, [some (cskB L c), some (csvB M d)], 0⟩ K) = ((c = c ∧ n ≤ List.length L ∧ n ≤ (1000000 : Nat) ∧ U.csSrtR L n) ∧ ∀ (z0 : Int), U.csAt L n k z0 → (U.csHasAt L n k z0 → ∀ (z1 : Int), z1 = IntKind.wrap IntKind.i64 (z0 + (1 : Int)) → ∃ (y2 : Rws), (c = c ∧ U.Fu L n c y2 ∧ ((0 : Int) ≤ z0 ∧ z0 < (↑n : Int)) ∧ z1 = z0 + (1 : Int)) ∧ ∀ (n'3 : Nat) (L'4 : Rws), n'3 + (1 : Nat) = n → U.Fu L'4 n'3 c (U.erR y2 z0) → ∀ (z5 : Int), z5 = IntKind.wrap IntKind.i64 (z0 + (1 : Int)) → ∃ (y6 : Rws), (d = d ∧ U.Fu M n d y6 ∧ ((0 : Int) ≤ z0 ∧ z0 < (↑n : Int)) ∧ z5 = z0 + (1 : Int)) ∧ ∀ (n'7 : Nat) (L'8 : Rws), n'7 + (1 : Nat) = n → U.Fu L'8 n'7 d (U.erR y6 z0) → K (Sum.inl (Sum.inl (Sum.inr (Sum.inr (Sum.inr (Sum.inr (Sum.inr (Sum.inr (Sum.inl (IntKind.i64, (1 : Int))))))))))) { heap := [some { elem := nat_lit 75, cells := [Sum.inr (Sum.inr (Sum.inr (Sum.inr (Sum.inr (Sum.inr (Sum.inr (Sum.inr (Sum.inr (Sum.inr (Sum.inr (Sum.inl { a := (2 : Nat), u := (1 : Nat), o := (0 : Nat), n := n'3, c := c }))))))))))), Sum.inr (Sum.inr (Sum.inr (Sum.inr (Sum.inr (Sum.inr (Sum.inr (Sum.inr (Sum.inr (Sum.inr (Sum.inr (Sum.inl { a := (3 : Nat), u := (4 : Nat), o := (0 : Nat), n := n'7, c := d }))))))))))), Sum.inr (Sum.inr (Sum.inr (Sum.inr (Sum.inr (Sum.inr (Sum.inl (IntKind.i64, m)))))))], j := none, c := (3 : Nat), z := false }, some { elem := nat_lit 3, cells := [Sum.inr (Sum.inr (Sum.inr (Sum.inr (Sum.inr (Sum.inr (Sum.inl (IntKind.i64, k)))))))], j := none, c := (1 : Nat), z := false }], ints := [], opqs := (0 : Nat), arrs := [none, none, some { elem := (3 : TypeId), k := AK.o (Obj.rows [CK.n IntKind.i64] L'4), l := [], cap := c, ro := false }, some { elem := (36 : TypeId), k := AK.o (Obj.rows [CK.n IntKind.i64, CK.n IntKind.i64, CK.n IntKind.i64, CK.n IntKind.i64] L'8), l := [], cap := d, ro := false }], junks := (0 : Nat) }) ∧ (¬U.csHasAt L n k z0 → K (Sum.inl (Sum.inl (Sum.inr (Sum.inr (Sum.inr (Sum.inr (Sum.inr (Sum.inr (Sum.inl (IntKind.i64, (0 : Int))))))))))) { heap := [some { elem := nat_lit 75, cells := [Sum.inr (Sum.inr (Sum.inr (Sum.inr (Sum.inr (Sum.inr (Sum.inr (Sum.inr (Sum.inr (Sum.inr (Sum.inr (Sum.inl { a := (0 : Nat), u := (1 : Nat), o := (0 : Nat), n := n, c := c }))))))))))), Sum.inr (Sum.inr (Sum.inr (Sum.inr (Sum.inr (Sum.inr (Sum.inr (Sum.inr (Sum.inr (Sum.inr (Sum.inr (Sum.inl { a := (1 : Nat), u := (4 : Nat), o := (0 : Nat), n := n, c := d }))))))))))), Sum.inr (Sum.inr (Sum.inr (Sum.inr (Sum.inr (Sum.inr (Sum.inl (IntKind.i64, m)))))))], j := none, c := (3 : Nat), z := false }, some { elem := nat_lit 3, cells := [Sum.inr (Sum.inr (Sum.inr (Sum.inr (Sum.inr (Sum.inr (Sum.inl (IntKind.i64, k)))))))], j := none, c := (1 : Nat), z := false }], ints := [], opqs := (0 : Nat), arrs := [some { elem := (3 : TypeId), k := AK.o (Obj.rows [CK.n IntKind.i64] L), l := [], cap := c, ro := false }, some { elem := (36 : TypeId), k := AK.o (Obj.rows [CK.n IntKind.i64, CK.n IntKind.i64, CK.n IntKind.i64, CK.n IntKind.i64] M), l := [], cap := d, ro := false }], junks := (0 : Nat) })) := by kernel_rfl
theorem csVals_vc (K : AV → St → Prop) (L M : Rws) (n c d : Nat) (m : Int) : (runV csov inv0 cstSh 29 [ptr 0 0] (csSt n c L d M m) K) = ((n = (0 : Nat) → K (Sum.inl (Sum.inl (Sum.inr (Sum.inr (Sum.inr (Sum.inr (Sum.inr (Sum.inr (Sum.inr (Sum.inr (Sum.inr (Sum.inr (Sum.inr (Sum.inl { a := (2 : Nat), u := (3 : Nat) + (1 : Nat), o := (0 : Nat), n := (0 : Nat), c := (0 : Nat) })))))))))))))) { heap := [some { elem := nat_lit 75, cells := [Sum.inr (Sum.inr (Sum.inr (Sum.inr (Sum.inr (Sum.inr (Sum.inr (Sum.inr (Sum.inr (Sum.inr (Sum.inr (Sum.inl { a := (0 : Nat), u := (1 : Nat), o := (0 : Nat), n := n, c := c }))))))))))), Sum.inr (Sum.inr (Sum.inr (Sum.inr (Sum.inr (Sum.inr (Sum.inr (Sum.inr (Sum.inr (Sum.inr (Sum.inr (Sum.inl { a := (1 : Nat), u := (4 : Nat), o := (0 : Nat), n := n, c := d }))))))))))), Sum.inr (Sum.inr (Sum.inr (Sum.inr (Sum.inr (Sum.inr (Sum.inl (IntKind.i64, m)))))))], j := none, c := (3 : Nat), z := false }], ints := [], opqs := (0 : Nat), arrs := [some { elem := (3 : TypeId), k := AK.o (Obj.rows [CK.n IntKind.i64] L), l := [], cap := c, ro := false }, some { elem := (36 : TypeId), k := AK.o (Obj.rows [CK.n IntKind.i64, CK.n IntKind.i64, CK.n IntKind.i64, CK.n IntKind.i64] M), l := [], cap := d, ro := false }, some { elem := (36 : Nat), k := AK.o (Obj.rows [CK.n IntKind.i64, CK.n IntKind.i64, CK.n IntKind.i64, CK.n IntKind.i64] U.nilL), l := [], cap := (0 : Nat), ro := false }], junks := (0 : Nat) }) ∧ True ∧ Nat.le ((0 : Nat) + n) (List.length M) ∧ (0 : Nat) ≤ (16777216 : Nat) ∧ n ≤ (16777216 : Nat) ∧ ∀ (L'0 : List (List CV)) (n'1 c'2 : Nat), L'0 = U.nilL ++ List.take n (List.drop ((0 : Nat)) M) → n'1 = (0 : Nat) + n → n'1 ≤ c'2 → K (Sum.inl (Sum.inl (Sum.inr (Sum.inr (Sum.inr (Sum.inr (Sum.inr (Sum.inr (Sum.inr (Sum.inr (Sum.inr (Sum.inr (Sum.inr (Sum.inl { a := (2 : Nat), u := (3 : Nat) + (1 : Nat), o := (0 : Nat), n := n'1, c := c'2 })))))))))))))) { heap := [some { elem := nat_lit 75, cells := [Sum.inr (Sum.inr (Sum.inr (Sum.inr (Sum.inr (Sum.inr (Sum.inr (Sum.inr (Sum.inr (Sum.inr (Sum.inr (Sum.inl { a := (0 : Nat), u := (1 : Nat), o := (0 : Nat), n := n, c := c }))))))))))), Sum.inr (Sum.inr (Sum.inr (Sum.inr (Sum.inr (Sum.inr (Sum.inr (Sum.inr (Sum.inr (Sum.inr (Sum.inr (Sum.inl { a := (1 : Nat), u := (4 : Nat), o := (0 : Nat), n := n, c := d }))))))))))), Sum.inr (Sum.inr (Sum.inr (Sum.inr (Sum.inr (Sum.inr (Sum.inl (IntKind.i64, m)))))))], j := none, c := (3 : Nat), z := false }], ints := [], opqs := (0 : Nat), arrs := [some { elem := (3 : TypeId), k := AK.o (Obj.rows [CK.n IntKind.i64] L), l := [], cap := c, ro := false }, some { elem := (36 : TypeId), k := AK.o (Obj.rows [CK.n IntKind.i64, CK.n IntKind.i64, CK.n IntKind.i64, CK.n IntKind.i64] M), l := [], cap := d, ro := false }, some { elem := (36 : Nat), k := AK.o (Obj.rows [CK.n IntKind.i64, CK.n IntKind.i64, CK.n IntKind.i64, CK.n IntKind.i64] L'0), l := [], cap := c'2, ro := false }], junks := (0 : Nat) }) := by kernel_rfl
theorem csKeys_vc (K : AV → St → Prop) (L M : Rws) (n c d : Nat) (m : Int) : (runQ inv0 tbl0 30 [ptr 0 0] (csSt n c L d M m) K) = ((n = (0 : Nat) → K (Sum.inl (Sum.inl (Sum.inr (Sum.inr (Sum.inr (Sum.inr (Sum.inr (Sum.inr (Sum.inr (Sum.inr (Sum.inr (Sum.inr (Sum.inr (Sum.inl { a := (2 : Nat), u := (0 : Nat) + (1 : Nat), o := (0 : Nat), n := (0 : Nat), c := (0 : Nat) })))))))))))))) { heap := [some { elem := nat_lit 75, cells := [Sum.inr (Sum.inr (Sum.inr (Sum.inr (Sum.inr (Sum.inr (Sum.inr (Sum.inr (Sum.inr (Sum.inr (Sum.inr (Sum.inl { a := (0 : Nat), u := (1 : Nat), o := (0 : Nat), n := n, c := c }))))))))))), Sum.inr (Sum.inr (Sum.inr (Sum.inr (Sum.inr (Sum.inr (Sum.inr (Sum.inr (Sum.inr (Sum.inr (Sum.inr (Sum.inl { a := (1 : Nat), u := (4 : Nat), o := (0 : Nat), n := n, c := d }))))))))))), Sum.inr (Sum.inr (Sum.inr (Sum.inr (Sum.inr (Sum.inr (Sum.inl (IntKind.i64, m)))))))], j := none, c := (3 : Nat), z := false }], ints := [], opqs := (0 : Nat), arrs := [some { elem := (3 : TypeId), k := AK.o (Obj.rows [CK.n IntKind.i64] L), l := [], cap := c, ro := false }, some { elem := (36 : TypeId), k := AK.o (Obj.rows [CK.n IntKind.i64, CK.n IntKind.i64, CK.n IntKind.i64, CK.n IntKind.i64] M), l := [], cap := d, ro := false }, some { elem := (3 : Nat), k := AK.o (Obj.rows [CK.n IntKind.i64] U.nilL), l := [], cap := (0 : Nat), ro := false }], junks := (0 : Nat) }) ∧ True ∧ Nat.le ((0 : Nat) + n) (List.length L) ∧ (0 : Nat) ≤ (16777216 : Nat) ∧ n ≤ (16777216 : Nat) ∧ ∀ (L'0 : List (List CV)) (n'1 c'2 : Nat), L'0 = U.nilL ++ List.take n (List.drop ((0 : Nat)) L) → n'1 = (0 : Nat) + n → n'1 ≤ c'2 → K (Sum.inl (Sum.inl (Sum.inr (Sum.inr (Sum.inr (Sum.inr (Sum.inr (Sum.inr (Sum.inr (Sum.inr (Sum.inr (Sum.inr (Sum.inr (Sum.inl { a := (2 : Nat), u := (0 : Nat) + (1 : Nat), o := (0 : Nat), n := n'1, c := c'2 })))))))))))))) { heap := [some { elem := nat_lit 75, cells := [Sum.inr (Sum.inr (Sum.inr (Sum.inr (Sum.inr (Sum.inr (Sum.inr (Sum.inr (Sum.inr (Sum.inr (Sum.inr (Sum.inl { a := (0 : Nat), u := (1 : Nat), o := (0 : Nat), n := n, c := c }))))))))))), Sum.inr (Sum.inr (Sum.inr (Sum.inr (Sum.inr (Sum.inr (Sum.inr (Sum.inr (Sum.inr (Sum.inr (Sum.inr (Sum.inl { a := (1 : Nat), u := (4 : Nat), o := (0 : Nat), n := n, c := d }))))))))))), Sum.inr (Sum.inr (Sum.inr (Sum.inr (Sum.inr (Sum.inr (Sum.inl (IntKind.i64, m)))))))], j := none, c := (3 : Nat), z := false }], ints := [], opqs := (0 : Nat), arrs := [some { elem := (3 : TypeId), k := AK.o (Obj.rows [CK.n IntKind.i64] L), l := [], cap := c, ro := false }, some { elem := (36 : TypeId), k := AK.o (Obj.rows [CK.n IntKind.i64, CK.n IntKind.i64, CK.n IntKind.i64, CK.n IntKind.i64] M), l := [], cap := d, ro := false }, some { elem := (3 : Nat), k := AK.o (Obj.rows [CK.n IntKind.i64] L'0), l := [], cap := c'2, ro := false }], junks := (0 : Nat) }) := by kernel_rfl
end Go.Proofs.Ytmahbhoblhhamaa
end

section
set_option linter.unusedVariables false
set_option linter.unusedSimpArgs false
set_option maxRecDepth 10000
namespace Go.Proofs.Ytmahbhoblhhamaa
open Go Reck Ost
theorem csirr {a : Int} (h : a < a) : False := Int.lt_irrefl _ h
theorem cstri {a b : Int} (h : ¬ a < b) (k : ¬ b < a) : a = b := by omega
abbrev CSP := List (Int × CSv)
def U.csks (P : CSP) : Rws := P.map fun p => [.i p.1]
def U.csvs (P : CSP) : Rws := P.map fun p => p.2.row
structure U.csSrt (P : CSP) : Prop where
  out : P.Pairwise fun a b => a.1 < b.1
structure U.csHasK (P : CSP) (k : Int) : Prop where
  out : ∃ e, (k, e) ∈ P
/-- P' is P with an entry put in. -/
structure U.csPut (P : CSP) (k : Int) (e : CSv) (P' : CSP) : Prop where
  srt : U.csSrt P'
  mem : ∀ x y, (x, y) ∈ P' ↔ (x = k ∧ y = e) ∨ ((x, y) ∈ P ∧ x ≠ k)
  has : U.csHasK P k → P'.length = P.length
  non : ¬ U.csHasK P k → P'.length = P.length + 1
/-- What a shelf has. -/
structure U.csshI (n c : Nat) (L : Rws) (d : Nat) (M : Rws) (P : CSP) : Prop where
  kf : U.Fu L n c (U.csks P)
  vf : U.Fu M n d (U.csvs P)
  srt : U.csSrt P
theorem csshI_n {n c d : Nat} {L M : Rws} {P : CSP} (h : U.csshI n c L d M P) : P.length = n := by
  have := h.kf.n; simpa [U.csks] using this
theorem cskey_at {n c d : Nat} {L M : Rws} {P : CSP} (h : U.csshI n c L d M P) {m : Nat} {p : Int × CSv} (hp : P[m]? = some p) : U.fi L m 0 = p.1 := by
  have hm : m < n := by rw [← csshI_n h]; exact (List.getElem?_eq_some_iff.1 hp).1
  have := fuGet h.kf hm
  unfold U.fi
  rw [List.getD_eq_getElem?_getD, this]
  simp [U.csks, hp]
theorem csrow_at {n c d : Nat} {L M : Rws} {P : CSP} (h : U.csshI n c L d M P) {m : Nat} {p : Int × CSv} (hp : P[m]? = some p) : M.getD m [] = p.2.row := by
  have hm : m < n := by rw [← csshI_n h]; exact (List.getElem?_eq_some_iff.1 hp).1
  have := fuGet h.vf hm
  rw [List.getD_eq_getElem?_getD, this]
  simp [U.csvs, hp]
theorem cssrt_R {n c d : Nat} {L M : Rws} {P : CSP} (h : U.csshI n c L d M P) : U.csSrtR L n := by
  refine ⟨fun i j hij hj => ?_⟩
  have hn := csshI_n h
  rw [cskey_at h (List.getElem?_eq_getElem (show i < P.length by omega)), cskey_at h (List.getElem?_eq_getElem (show j < P.length by omega))]
  exact List.pairwise_iff_getElem.1 h.srt.out i j (by omega) (by omega) hij
theorem csat_lo {n c d : Nat} {L M : Rws} {P : CSP} (h : U.csshI n c L d M P) {k : Int} {z : Nat} (ha : U.csAt L n k z) {p : Int × CSv} (hp : p ∈ P.take z) : p.1 < k := by
  obtain ⟨m, hm⟩ := List.getElem?_of_mem hp
  rw [List.getElem?_take] at hm
  split at hm
  · rename_i hlt
    have := ha.lo m (by omega)
    rwa [cskey_at h hm] at this
  · cases hm
theorem csat_hi {n c d : Nat} {L M : Rws} {P : CSP} (h : U.csshI n c L d M P) {k : Int} {z : Nat} (ha : U.csAt L n k z) {p : Int × CSv} (hp : p ∈ P.drop z) : ¬ p.1 < k := by
  obtain ⟨m, hm⟩ := List.getElem?_of_mem hp
  rw [List.getElem?_drop] at hm
  have hl := (List.getElem?_eq_some_iff.1 hm).1
  have := ha.hi (z + m) (by omega) (by rw [← csshI_n h]; exact hl)
  rwa [cskey_at h hm] at this
theorem cshas_iff {n c d : Nat} {L M : Rws} {P : CSP} (h : U.csshI n c L d M P) {k : Int} {z : Nat} (ha : U.csAt L n k z) : U.csHasAt L n k z ↔ U.csHasK P k := by
  have hn := csshI_n h
  constructor
  · rintro ⟨h1, h2⟩
    have hz : z < P.length := by omega
    refine ⟨P[z].2, ?_⟩
    rw [Int.toNat_natCast, cskey_at h (List.getElem?_eq_getElem hz)] at h2
    rw [← h2]; exact List.getElem_mem hz
  · rintro ⟨e, he⟩
    obtain ⟨m, hm⟩ := List.getElem?_of_mem he
    have hl := (List.getElem?_eq_some_iff.1 hm).1
    have hk := cskey_at h hm
    have h1 : ¬ (m < z) := fun hlt => by
      have := ha.lo m (by omega)
      rw [hk] at this; exact csirr this
    have h2 : ¬ (z < m) := fun hlt => by
      have a := ha.hi z (by omega) (by omega)
      have b := (cssrt_R h).out z m hlt (by omega)
      rw [hk] at b; exact a b
    obtain rfl : m = z := by omega
    exact ⟨by omega, by rw [Int.toNat_natCast]; exact hk⟩
theorem csput_non {n c d : Nat} {L M : Rws} {P : CSP} (h : U.csshI n c L d M P) {k : Int} {z : Nat} (ha : U.csAt L n k z) (hk : ¬ U.csHasK P k) (e : CSv) :
    U.csPut P k e (P.take z ++ [(k, e)] ++ P.drop z) ∧ U.csks (P.take z ++ [(k, e)] ++ P.drop z) = U.insR (U.csks P) z [.i k] ∧ U.csvs (P.take z ++ [(k, e)] ++ P.drop z) = U.insR (U.csvs P) z e.row := by
  have hne : ∀ p ∈ P, p.1 ≠ k := fun p hp he => hk ⟨p.2, he ▸ hp⟩
  have hgt : ∀ p ∈ P.drop z, k < p.1 := fun p hp => by
    by_cases hx : k < p.1
    · exact hx
    · exact (hne p (List.mem_of_mem_drop hp) (cstri (csat_hi h ha hp) hx)).elim
  have hs := h.srt.out
  refine ⟨⟨⟨?_⟩, fun x y => ?_, fun hx => (hk hx).elim, fun _ => ?_⟩, ?_, ?_⟩
  · rw [← List.take_append_drop z P, List.pairwise_append] at hs
    rw [List.append_assoc, List.pairwise_append]
    refine ⟨hs.1, ?_, ?_⟩
    · rw [List.singleton_append, List.pairwise_cons]
      exact ⟨hgt, hs.2.1⟩
    · intro a ha' b hb
      rcases List.mem_cons.1 hb with rfl | hb
      · exact csat_lo h ha ha'
      · exact hs.2.2 a ha' b hb
  · have hm : (x, y) ∈ P ↔ (x, y) ∈ P.take z ∨ (x, y) ∈ P.drop z := by
      rw [← List.mem_append, List.take_append_drop]
    simp only [List.mem_append, List.mem_singleton, Prod.mk.injEq]
    constructor
    · rintro ((hx | hx) | hx)
      · exact .inr ⟨hm.2 (.inl hx), hne _ (hm.2 (.inl hx))⟩
      · exact .inl hx
      · exact .inr ⟨hm.2 (.inr hx), hne _ (hm.2 (.inr hx))⟩
    · rintro (hx | ⟨hx, _⟩)
      · exact .inl (.inr hx)
      · rcases hm.1 hx with hx | hx
        · exact .inl (.inl hx)
        · exact .inr hx
  · have := ha.b
    have hn := csshI_n h
    simp; omega
  · simp [U.csks, U.insR, List.map_take, List.map_drop]
  · simp [U.csvs, U.insR, List.map_take, List.map_drop]
theorem csput_has {n c d : Nat} {L M : Rws} {P : CSP} (h : U.csshI n c L d M P) {k : Int} {z : Nat} (ha : U.csAt L n k z) (hk : U.csHasAt L n k z) (e : CSv) :
    U.csPut P k e (P.set z (k, e)) ∧ U.csks (P.set z (k, e)) = U.csks P ∧ U.csvs (P.set z (k, e)) = (U.csvs P).set z e.row := by
  have hn := csshI_n h
  obtain ⟨h1, h2⟩ := hk.out
  have hz : z < P.length := by omega
  have hkz : P[z].1 = k := by
    rw [Int.toNat_natCast, cskey_at h (List.getElem?_eq_getElem hz)] at h2; exact h2
  have hks : U.csks (P.set z (k, e)) = U.csks P := by
    apply List.ext_getElem?
    intro m
    simp only [U.csks, List.getElem?_map, List.getElem?_set]
    by_cases hm : z = m
    · subst hm
      rw [if_pos rfl, if_pos hz, List.getElem?_eq_getElem hz]; simp [hkz]
    · rw [if_neg hm]
  have hlk : ∀ i (hi : i < P.length) (hi' : i < (P.set z (k, e)).length), ((P.set z (k, e))[i]).1 = (P[i]).1 := fun i hi hi' => by
    rw [List.getElem_set]
    split
    · rename_i hzi; subst hzi; exact hkz.symm
    · rfl
  refine ⟨⟨⟨?_⟩, fun x y => ?_, fun _ => List.length_set, fun hx => (hx ((cshas_iff h ha).1 hk)).elim⟩, hks, ?_⟩
  · rw [List.pairwise_iff_getElem]
    intro i j hi hj hij
    rw [List.length_set] at hi hj
    rw [hlk i hi, hlk j hj]
    exact List.pairwise_iff_getElem.1 h.srt.out i j hi hj hij
  · constructor
    · intro hx
      obtain ⟨m, hm⟩ := List.getElem?_of_mem hx
      rw [List.getElem?_set] at hm
      split at hm
      · try rw [if_pos hz] at hm
        simp only [Option.some.injEq, Prod.mk.injEq] at hm
        exact .inl ⟨hm.1.symm, hm.2.symm⟩
      · rename_i hne
        refine .inr ⟨List.mem_of_getElem? hm, fun he => ?_⟩
        have hl := (List.getElem?_eq_some_iff.1 hm).1
        have e1 := cskey_at h hm
        have e2 := cskey_at h (List.getElem?_eq_getElem hz)
        rw [hkz] at e2
        dsimp only at e1
        rcases Nat.lt_or_gt_of_ne hne with hlt | hlt
        · have := (cssrt_R h).out z m hlt (by omega)
          rw [e1, e2, he] at this; exact csirr this
        · have := (cssrt_R h).out m z hlt (by omega)
          rw [e1, e2, he] at this; exact csirr this
    · rintro (⟨rfl, rfl⟩ | ⟨hx, hne⟩)
      · exact List.mem_of_getElem? (i := z) (by rw [List.getElem?_set, if_pos rfl, if_pos hz])
      · obtain ⟨m, hm⟩ := List.getElem?_of_mem hx
        refine List.mem_of_getElem? (i := m) ?_
        rw [List.getElem?_set]
        by_cases hmz : z = m
        · subst hmz
          rw [List.getElem?_eq_getElem hz] at hm
          simp only [Option.some.injEq] at hm
          exact (hne (by rw [hm] at hkz; exact hkz)).elim
        · rw [if_neg hmz]; exact hm
  · apply List.ext_getElem?
    intro m
    simp only [U.csvs, List.getElem?_map, List.getElem?_set, List.length_map]
    by_cases hm : z = m
    · subst hm
      rw [if_pos rfl, if_pos rfl, if_pos hz, if_pos hz]; rfl
    · rw [if_neg hm, if_neg hm]
theorem csput_row {n c d : Nat} {L M M' : Rws} {P : CSP} (h : U.csshI n c L d M P) {z : Nat} (hz : z < n) (e : CSv) {r : List CV} (hr : r = e.row) (hM : M' = U.put M z 0 r) : U.Fu M' n d ((U.csvs P).set z e.row) := by
  subst hr
  have hn := csshI_n h
  have hrow := csrow_at h (List.getElem?_eq_getElem (show z < P.length by omega))
  have hp1 : put1 (M.getD z []) 0 e.row = e.row := by
    rw [hrow]
    simp [put1, CSv.row, csR]
  unfold U.put at hM
  rw [hp1] at hM
  obtain ⟨v1, v2, v3, v4⟩ := h.vf
  exact ⟨by rw [hM, v1, List.take_set], by rw [hM, List.length_set]; exact v2, v3, v4⟩
def csshNw (n c : Nat) (L : Rws) (d : Nat) (M : Rws) (m : Int) : St := ⟨[csB (rslC ⟨2, 1, 0, n, c⟩) (rslC ⟨3, 4, 0, n, d⟩) m], [], 0, [none, none, some (cskB L c), some (csvB M d)], 0⟩
/-- P' is P with a key taken out. -/
structure U.csRem (P : CSP) (k : Int) (P' : CSP) : Prop where
  srt : U.csSrt P'
  mem : ∀ x y, (x, y) ∈ P' ↔ (x, y) ∈ P ∧ x ≠ k
  len : P'.length + 1 = P.length
theorem csrem_has {n c d : Nat} {L M : Rws} {P : CSP} (h : U.csshI n c L d M P) {k : Int} {z : Nat} (ha : U.csAt L n k z) (hk : U.csHasAt L n k z) :
    U.csRem P k (P.eraseIdx z) ∧ U.csks (P.eraseIdx z) = U.erR (U.csks P) z ∧ U.csvs (P.eraseIdx z) = U.erR (U.csvs P) z := by
  have hn := csshI_n h
  obtain ⟨h1, h2⟩ := hk.out
  have hz : z < P.length := by omega
  have hkz : P[z].1 = k := by
    rw [Int.toNat_natCast, cskey_at h (List.getElem?_eq_getElem hz)] at h2; exact h2
  have hlt : ∀ i j (hi : i < P.length) (hj : j < P.length), i < j → (P[i]).1 < (P[j]).1 := fun i j hi hj hij => List.pairwise_iff_getElem.1 h.srt.out i j hi hj hij
  refine ⟨⟨⟨List.Pairwise.sublist (List.eraseIdx_sublist _ _) h.srt.out⟩, fun x y => ?_, by rw [List.length_eraseIdx_of_lt hz]; omega⟩, ?_, ?_⟩
  · rw [List.mem_eraseIdx_iff_getElem?]
    constructor
    · rintro ⟨i, hi, hx⟩
      refine ⟨List.mem_of_getElem? hx, fun he => ?_⟩
      obtain ⟨hl, hx⟩ := List.getElem?_eq_some_iff.1 hx
      have e1 : (P[i]).1 = k := by rw [hx]; exact he
      rcases Nat.lt_or_gt_of_ne hi with g | g
      · have := hlt i z hl hz g
        rw [e1, hkz] at this; exact csirr this
      · have := hlt z i hz hl g
        rw [e1, hkz] at this; exact csirr this
    · rintro ⟨hx, hne⟩
      obtain ⟨i, hi⟩ := List.getElem?_of_mem hx
      refine ⟨i, fun he => hne ?_, hi⟩
      subst he
      rw [List.getElem?_eq_getElem hz] at hi
      simp only [Option.some.injEq] at hi
      rw [hi] at hkz; exact hkz
  · unfold U.erR U.csks
    rw [Int.toNat_natCast]; simp [List.eraseIdx_eq_take_drop_succ, List.map_take, List.map_drop]
  · unfold U.erR U.csvs
    rw [Int.toNat_natCast]; simp [List.eraseIdx_eq_take_drop_succ, List.map_take, List.map_drop]
theorem csSet_run (K : AV → St → Prop) (L M : Rws) (n c d : Nat) (m : Int) (k : Int) (e : CSv) (P : CSP) (h : U.csshI n c L d M P) (hn : n ≤ 100000)
    (h1 : U.csHasK P k → ∀ (M' : Rws) (P' : CSP), U.csPut P k e P' → U.csshI n c L d M' P' → K (xi .i64 0) (csSt n c L d M' m))
    (h2 : ¬ U.csHasK P k → m ≤ n → K (xi .i64 4) (csSt n c L d M m))
    (h3 : ¬ U.csHasK P k → (n : Int) < m → ∀ (L' : Rws) (n' c' : Nat) (M' : Rws) (d' : Nat) (P' : CSP), n' = n + 1 → U.csPut P k e P' → U.csshI n' c' L' d' M' P' → K (xi .i64 0) (csshNw n' c' L' d' M' m)) :
    runV csov inv0 cstSh 34 [ptr 0 0, xi .i64 k, .inl (.inr e.cells)] (csSt n c L d M m) K := by
  obtain ⟨v0, v1, v2, v3⟩ := e
  have hPn := csshI_n h
  have hl := h.kf.len
  have hle := h.kf.le
  have hl2 := h.vf.len
  have hle2 := h.vf.le
  have G : ∀ (z : Nat), U.csAt L n k z → (U.csHasAt L n k z ↔ U.csHasK P k) := fun z ha => cshas_iff h ha
  show runV csov inv0 cstSh 34 [ptr 0 0, xi .i64 k, .inl (.inr (csC v0 v1 v2 v3))] (csSt n c L d M m) K
  rw [csSet_vc]
  refine ⟨⟨rfl, by omega, by omega, cssrt_R h⟩, fun z hz => ?_⟩
  have hb := hz.b
  obtain ⟨z, rfl⟩ : ∃ y : Nat, z = y := ⟨z.toNat, by omega⟩
  refine ⟨fun hx => ⟨by have := hx.out.1; omega, fun j1 hj1 => ⟨by have := hx.out.1; omega, fun M' hM => ?_⟩⟩, fun hx z3 h3' => ⟨fun hfull => ?_, fun hroom => ⟨U.csks P, ⟨rfl, h.kf, by omega, by omega⟩, fun n5 c6 L7 e5 e7 => ?_⟩⟩⟩
  · obtain rfl : j1 = z := by omega
    obtain ⟨q1, q2, q3⟩ := csput_has h hz hx ⟨v0, v1, v2, v3⟩
    exact h1 ((G j1 hz).1 hx) M' _ q1 ⟨by rw [q2]; exact h.kf, by rw [q3]; exact csput_row h (by have := hx.out.1; omega) _ rfl hM, q1.srt⟩
  · exact h2 (fun hy => hx ((G z hz).2 hy)) (by omega)
  · repeat (first | refine ⟨rfl, ?_⟩ | refine ⟨⟨rfl, rfl, rfl⟩, ?_⟩)
    refine ⟨U.csvs P, ⟨rfl, h.vf, by omega, by omega⟩, fun n9 d10 M11 e9 e11 => ?_⟩
    obtain rfl : n9 = n5 := by omega
    obtain ⟨q1, q2, q3⟩ := csput_non h hz (fun hy => hx ((G z hz).2 hy)) ⟨v0, v1, v2, v3⟩
    repeat' (first | exact rfl | with_reducible apply And.intro)
    exact h3 (fun hy => hx ((G z hz).2 hy)) (by omega) _ _ _ _ _ _ e5 q1 ⟨by rw [q2]; exact e7, by rw [q3]; exact e11, q1.srt⟩
/-- This thing is there by this key. -/
structure U.csHasE (P : CSP) (k : Int) (v0 v1 v2 v3 : Int) : Prop where
  out : (k, (⟨v0, v1, v2, v3⟩ : CSv)) ∈ P
theorem csof {M : Rws} {j : Nat} {e : CSv} (h : M.getD j [] = e.row) : (⟨U.fi M j 0, U.fi M j 1, U.fi M j 2, U.fi M j 3⟩ : CSv) = e := by
  unfold U.fi
  rw [h]
  rfl
abbrev csge (v0 v1 v2 v3 : Int) (ok : Bool) : AV := .inr [.inr (csC v0 v1 v2 v3), .inl (.inl (.bool ok))]
theorem csGet_run (K : AV → St → Prop) (L M : Rws) (n c d : Nat) (m : Int) (k : Int) (P : CSP) (h : U.csshI n c L d M P) (hn : n ≤ 100000)
    (hT : ∀ v0 v1 v2 v3 : Int, U.csHasE P k v0 v1 v2 v3 → K (csge v0 v1 v2 v3 true) (csSt n c L d M m)) (hF : ¬ U.csHasK P k → K (csge 0 0 0 0 false) (csSt n c L d M m)) :
    runV csov inv0 cstSh 27 [ptr 0 0, xi .i64 k] (csSt n c L d M m) K := by
  rw [csGet_vc]
  have hPn := csshI_n h
  have hl := h.kf.len
  have hle := h.kf.le
  have hl2 := h.vf.len
  have hle2 := h.vf.le
  refine ⟨⟨rfl, by omega, by omega, cssrt_R h⟩, fun z hz => ?_⟩
  have hb := hz.b
  obtain ⟨z, rfl⟩ : ∃ y : Nat, z = y := ⟨z.toNat, by omega⟩
  refine ⟨fun hx => ⟨by have := hx.out.1; omega, fun j1 hj1 => ⟨by have := hx.out.1; omega, ?_⟩⟩, fun hx => hF (fun hy => hx ((cshas_iff h hz).2 hy))⟩
  obtain rfl : j1 = z := by omega
  obtain ⟨g1, g2⟩ := hx.out
  have hzl : j1 < P.length := by omega
  have hP := List.getElem?_eq_getElem hzl
  have hrow := csrow_at h hP
  have hkz := cskey_at h hP
  rw [Int.toNat_natCast, hkz] at g2
  have hmem : (k, P[j1].2) ∈ P := by rw [← g2]; exact List.getElem_mem hzl
  have hT := hT (U.fi M j1 0) (U.fi M j1 1) (U.fi M j1 2) (U.fi M j1 3) ⟨by rw [csof hrow]; exact hmem⟩
  rintro _ rfl _ rfl _ rfl _ rfl
  exact hT
theorem csDel_run (K : AV → St → Prop) (L M : Rws) (n c d : Nat) (m : Int) (k : Int) (P : CSP) (h : U.csshI n c L d M P) (hn : n ≤ 100000)
    (h1 : U.csHasK P k → ∀ (L' : Rws) (n' : Nat) (M' : Rws) (P' : CSP), n' + 1 = n → U.csRem P k P' → U.csshI n' c L' d M' P' → K (xi .i64 1) ⟨[csB (rslC ⟨2, 1, 0, n', c⟩) (rslC ⟨3, 4, 0, n', d⟩) m, cssV k], [], 0, [none, none, some (cskB L' c), some (csvB M' d)], 0⟩)
    (h0 : ¬ U.csHasK P k → K (xi .i64 0) ⟨[csB (rslC ⟨0, 1, 0, n, c⟩) (rslC ⟨1, 4, 0, n, d⟩) m, cssV k], [], 0, [some (cskB L c), some (csvB M d)], 0⟩) :
    runV csov inv0 cstSh 32 [ptr 0 0, sl ⟨1, 0, 1, none, 1⟩] ⟨[csB (rslC ⟨0, 1, 0, n, c⟩) (rslC ⟨1, 4, 0, n, d⟩) m, cssV k], [], 0, [some (cskB L c), some (csvB M d)], 0⟩ K := by
  rw [csDel_vc]
  have hPn := csshI_n h
  have hl := h.kf.len
  have hle := h.kf.le
  have hl2 := h.vf.len
  have hle2 := h.vf.le
  refine ⟨⟨rfl, by omega, by omega, cssrt_R h⟩, fun z hz => ?_⟩
  have hb := hz.b
  obtain ⟨z, rfl⟩ : ∃ y : Nat, z = y := ⟨z.toNat, by omega⟩
  refine ⟨fun hx z1 hz1 => ?_, fun hx => h0 (fun hy => hx ((cshas_iff h hz).2 hy))⟩
  have hlt := hx.out.1
  have e1 := iw hz1 (by omega)
  obtain ⟨q1, q2, q3⟩ := csrem_has h hz hx
  refine ⟨U.csks P, ⟨rfl, h.kf, by omega, e1⟩, fun n3 L4 e3 f4 z5 h5 => ⟨U.csvs P, ⟨rfl, h.vf, by omega, iw h5 (by omega)⟩, fun n7 L8 e7 f8 => ?_⟩⟩
  obtain rfl : n7 = n3 := by omega
  exact h1 ((cshas_iff h hz).1 hx) L4 n7 L8 _ e3 q1 ⟨by rw [q2]; exact f4, by rw [q3]; exact f8, q1.srt⟩
theorem csVals_run (K : AV → St → Prop) (L M : Rws) (n c d : Nat) (m : Int) (P : CSP) (h : U.csshI n c L d M P)
    (hK : ∀ (L' : Rws) (n' c' : Nat), n' = n → n' ≤ c' → L' = U.csvs P → K (cell (rslC ⟨2, 4, 0, n', c'⟩)) ⟨[csB (rslC ⟨0, 1, 0, n, c⟩) (rslC ⟨1, 4, 0, n, d⟩) m], [], 0, [some (cskB L c), some (csvB M d), some (csvB L' c')], 0⟩) :
    runV csov inv0 cstSh 29 [ptr 0 0] (csSt n c L d M m) K := by
  rw [csVals_vc]
  have hPn := csshI_n h
  have hv := h.vf.n
  have hl2 := h.vf.len
  have hle2 := h.vf.le
  have hsm := h.vf.sm
  refine ⟨fun h0 => hK [] 0 0 h0.symm (Nat.le_refl _) (List.eq_nil_of_length_eq_zero (by omega)).symm, trivial, (by omega : 0 + n ≤ M.length), by omega, by omega, fun L0 n1 c2 e0 e1 e2 => ?_⟩
  obtain rfl : n1 = n := by omega
  refine hK L0 n1 c2 rfl e2 ?_
  rw [e0, List.drop_zero, h.vf.eq]; rfl
theorem csKeys_run (K : AV → St → Prop) (L M : Rws) (n c d : Nat) (m : Int) (P : CSP) (h : U.csshI n c L d M P)
    (hK : ∀ (L' : Rws) (n' c' : Nat), n' = n → n' ≤ c' → L' = U.csks P → K (cell (rslC ⟨2, 1, 0, n', c'⟩)) ⟨[csB (rslC ⟨0, 1, 0, n, c⟩) (rslC ⟨1, 4, 0, n, d⟩) m], [], 0, [some (cskB L c), some (csvB M d), some (cskB L' c')], 0⟩) :
    runQ inv0 tbl0 30 [ptr 0 0] (csSt n c L d M m) K := by
  rw [csKeys_vc]
  have hPn := csshI_n h
  have hv := h.kf.n
  have hl2 := h.kf.len
  have hle2 := h.kf.le
  have hsm := h.kf.sm
  refine ⟨fun h0 => hK [] 0 0 h0.symm (Nat.le_refl _) (List.eq_nil_of_length_eq_zero (by omega)).symm, trivial, (by omega : 0 + n ≤ L.length), by omega, by omega, fun L0 n1 c2 e0 e1 e2 => ?_⟩
  obtain rfl : n1 = n := by omega
  refine hK L0 n1 c2 rfl e2 ?_
  rw [e0, List.drop_zero, h.kf.eq]; rfl
end Go.Proofs.Ytmahbhoblhhamaa
end

section
set_option linter.unusedVariables false
set_option linter.unusedSimpArgs false
set_option maxRecDepth 10000
namespace Go.Proofs.Ytmahbhoblhhamaa
open Go Reck Ost
/-- The state of a shelf. -/
def csshC (p : Option Blk) (a1 a2 : Option ABlk) : Option (Nat × Nat × Rws × Nat × Rws × Int) :=
  match p, a1, a2 with
  | some ⟨75, [a, b, m], none, 3, false⟩, some ⟨3, .o (.rows [.n .i64] L), [], c0, false⟩, some ⟨36, .o (.rows ks M), [], d0, false⟩ => match cRsl a, cRsl b, cInt m, sameK ks csvK with
    | some ⟨0, 1, 0, n, c⟩, some ⟨1, 4, 0, n2, d⟩, some m, true => some (n, c0, L, d0, M, m)
    | _, _, _, _ => none
  | _, _, _ => none
/-- Its slices tell the same. -/
def csshD (p : Option Blk) (a1 a2 : Option ABlk) : Prop :=
  match p, a1, a2 with
  | some ⟨_, [a, b, _], _, _, _⟩, some ⟨_, _, _, c0, _⟩, some ⟨_, _, _, d0, _⟩ => match cRsl a, cRsl b with
    | some ⟨_, _, _, n, c⟩, some ⟨_, _, _, n2, d⟩ => c = c0 ∧ d = d0 ∧ n2 = n
    | _, _ => False
  | _, _, _ => False
theorem csshC_eq {p : Option Blk} {a1 a2 : Option ABlk} {n c d : Nat} {L M : Rws} {m : Int} (h : csshC p a1 a2 = some (n, c, L, d, M, m)) (hy : csshD p a1 a2) : p = csB (rslC ⟨0, 1, 0, n, c⟩) (rslC ⟨1, 4, 0, n, d⟩) m ∧ a1 = some (cskB L c) ∧ a2 = some (csvB M d) := by
  unfold csshC at h
  split at h
  · split at h
    · rename_i h1 h2 h3 h4
      simp only [Option.some.injEq, Prod.mk.injEq] at h
      obtain ⟨rfl, rfl, rfl, rfl, rfl, rfl⟩ := h
      simp only [csshD, h1, h2] at hy
      obtain ⟨rfl, rfl, rfl⟩ := hy
      rw [cRsl_eq h1, cRsl_eq h2, cInt_eq h3, sameK_eq h4]
      exact ⟨rfl, rfl, rfl⟩
    · cases h
  · cases h
theorem csmv {w0 w : World} {e : Env} {n c d : Nat} {L M : Rws} {m : Int} {H : List (Option Blk)} (h : Ok w0 e ⟨csB (rslC ⟨0, 1, 0, n, c⟩) (rslC ⟨1, 4, 0, n, d⟩) m :: H, [], 0, [some (cskB L c), some (csvB M d)], 0⟩ w) :
    ∃ e', e.le e' ∧ Ok w0 e' ⟨csB (rslC ⟨2, 1, 0, n, c⟩) (rslC ⟨3, 4, 0, n, d⟩) m :: H, [], 0, [none, none, some (cskB L c), some (csvB M d)], 0⟩ w := by
  have hb : ∃ q, e.blk[0]? = some q := by
    have := h.blks
    exact ⟨_, List.getElem?_eq_getElem (by rw [this]; exact Nat.succ_pos _)⟩
  obtain ⟨q, hq⟩ := hb
  obtain ⟨_, cur, fz, _, hc, _⟩ := h.blk 0 _ q rfl hq
  obtain ⟨v0, a0, _⟩ := hc 0 _ rfl
  obtain ⟨v1, a1, _⟩ := hc 1 _ rfl
  have b0 : Reck.av e (cell (rslC ⟨0, 1, 0, n, c⟩)) = some v0 := a0
  obtain ⟨q1, m1, k1⟩ := h.mvRows (i := 0) (b := cskB L c) rfl rfl rfl b0
  have b1 := av_mono (le_arr e q1) (cell (rslC ⟨1, 4, 0, n, d⟩)) v1 a1
  obtain ⟨q2, m2, k2⟩ := k1.mvRows (i := 1) (b := csvB M d) rfl rfl rfl b1
  have l2 := le_arr ⟨e.blk, e.int, e.opq, e.arr ++ [q1], e.S, e.junk⟩ q2
  have m1 := av_mono l2 _ _ m1
  have le := (le_arr e q1).trans l2
  refine ⟨_, le, ?_⟩
  exact k2.reCell (i := 0) (cells' := [rslC ⟨2, 1, 0, n, c⟩, rslC ⟨3, 4, 0, n, d⟩, xintC .i64 m]) rfl (by
    intro j c' hc'
    match j, hc' with
    | 0, hc' => simp at hc'; subst hc'; exact ⟨_, _, rfl, cv_mono le _ _ a0, m1⟩
    | 1, hc' => simp at hc'; subst hc'; exact ⟨_, _, rfl, cv_mono le _ _ a1, m2⟩
    | 2, hc' => simp at hc'; subst hc'; exact ⟨_, _, rfl, rfl, rfl⟩
    | n + 3, hc' => simp at hc')
def U.cslen (P : CSP) : Nat := P.length
/-- There is room for a key. -/
structure U.csRoom (P : CSP) (k : Int) (m : Int) : Prop where
  out : U.csHasK P k ∨ (P.length : Int) < m
def cspNew : Pat := fun args σ => match args, σ with
  | [m], ⟨[], [], 0, [], 0⟩ => match aInt m with
    | some m => some fun K => K (ptr 0 0) ⟨[csB (rslC ⟨0, 1, 0, 0, 0⟩) (rslC ⟨1, 4, 0, 0, 0⟩) m], [], 0, [some (cskB [] 0), some (csvB [] 0)], 0⟩
    | _ => none
  | _, _ => none
theorem cspNew_ok : PatOk 17 cspNew := by
  intro tm σ C h K hK w0 e w hk vs hvs
  unfold cspNew at h
  split at h
  · split at h
    · rename_i m hm
      simp only [Option.some.injEq] at h; subst h
      obtain ⟨v, rfl, hv⟩ := ones hvs
      refine (knownD noOv names (opMV_ok csovOk) (conOk_ofR tbl0_ok) (show runV csov inv0 tbl0 17 [xi .i64 m] emptySt (fun x σ' => x = ptr 0 0 ∧ σ' = ⟨[csB (.inl (.slice none 0 0)) (.inl (.slice none 0 0)) m], [], 0, [], 0⟩) by rw [csNew_vc]; exact ⟨rfl, rfl⟩) w0 e w hk _ (map1 (as_aInt hm hv))).mono ?_
      rintro en w' ⟨x, σ', e', v', h1, h2, h3, h4, rfl, rfl⟩
      obtain ⟨k1, c1⟩ := h4.addNone 3 [.n .i64] 1
      obtain ⟨k2, c2⟩ := k1.addNone 36 csvK 4
      have l2 := le_arr ⟨e'.blk, e'.int, e'.opq, e'.arr ++ [.inl none], e'.S, e'.junk⟩ (.inl none)
      have c1 := cv_mono l2 _ _ c1
      have k3 := k2.reCell (i := 0) (cells' := [rslC ⟨0, 1, 0, 0, 0⟩, rslC ⟨1, 4, 0, 0, 0⟩, xintC .i64 m]) rfl (by
        intro j c' hc'
        match j, hc' with
        | 0, hc' => simp at hc'; subst hc'; exact ⟨_, _, rfl, rfl, c1⟩
        | 1, hc' => simp at hc'; subst hc'; exact ⟨_, _, rfl, rfl, c2⟩
        | 2, hc' => simp at hc'; subst hc'; exact ⟨_, _, rfl, rfl, rfl⟩
        | n + 3, hc' => simp at hc')
      exact ⟨_, _, _, v', h1, h2.trans ((le_arr e' (.inl none)).trans l2), av_mono ((le_arr e' (.inl none)).trans l2) _ _ h3, k3, hK⟩
    · cases h
  · cases h
def cspSet : Pat := fun args σ => match args, σ with
  | [.inl (.inl (.inr (.inl (0, 0)))), k, .inl (.inr l)], ⟨[p], [], 0, [a1, a2], 0⟩ => match aInt k, csX l, csshC p a1 a2 with
    | some k, some e, some (n, c, L, d, M, m) => some fun K => ∃ P, (csshD p a1 a2 ∧ U.csshI n c L d M P ∧ n ≤ 100000) ∧
      (U.csRoom P k m → ∀ (L' : Rws) (n' c' : Nat) (M' : Rws) (d' : Nat) (P' : CSP), n' = U.cslen P' → U.csPut P k e P' → U.csshI n' c' L' d' M' P' → K (xi .i64 0) (csshNw n' c' L' d' M' m)) ∧
      (¬ U.csRoom P k m → K (xi .i64 4) (csSt n c L d M m))
    | _, _, _ => none
  | _, _ => none
theorem cspSet_ok : PatOk 34 cspSet := by
  intro tm σ C h K hK w0 e w hk vs hvs
  unfold cspSet at h
  split at h
  · split at h
    · rename_i k en n c L d M m hkk hl hσ
      simp only [Option.some.injEq] at h; subst h
      obtain ⟨P, ⟨hy, h1, h2⟩, h3, h4⟩ := hK
      obtain ⟨rfl, rfl, rfl⟩ := csshC_eq hσ hy
      obtain rfl := csX_eq hl
      obtain ⟨x, y, z, rfl, q1, q2, q3⟩ := threes hvs
      have hn := csshI_n h1
      refine (knownD noOv names (opMV_ok csovOk) (conOk_ofR cstSh_ok) (csSet_run (fun x σ' => (x = xi .i64 0 ∧ U.csRoom P k m ∧ ∃ (L' : Rws) (n' c' : Nat) (M' : Rws) (d' : Nat) (P' : CSP), n' = P'.length ∧ U.csPut P k en P' ∧ U.csshI n' c' L' d' M' P' ∧ (σ' = csSt n' c' L' d' M' m ∨ σ' = csshNw n' c' L' d' M' m)) ∨ (x = xi .i64 4 ∧ ¬ U.csRoom P k m ∧ σ' = csSt n c L d M m)) L M n c d m k en P h1 h2 ?_ ?_ ?_) w0 e w hk _ (map3 q1 (as_aInt hkk q2) q3)).mono ?_
      · exact fun hh M' P' hp hi => .inl ⟨rfl, ⟨.inl hh⟩, L, n, c, M', d, P', by rw [hp.has hh, hn], hp, hi, .inl rfl⟩
      · exact fun hh hm => .inr ⟨rfl, fun ⟨hx⟩ => hx.elim hh (fun h => by omega), rfl⟩
      · exact fun hh hm L' n' c' M' d' P' he hp hi => .inl ⟨rfl, ⟨.inr (by omega)⟩, L', n', c', M', d', P', by rw [hp.non hh]; omega, hp, hi, .inr rfl⟩
      · rintro en' w' ⟨x, σ', e', v, g1, g2, g3, g4, hw⟩
        rcases hw with ⟨rfl, hr, L', n', c', M', d', P', f1, f2, f3, rfl | rfl⟩ | ⟨rfl, hr, rfl⟩
        · obtain ⟨e2, l2, k2⟩ := csmv g4
          exact ⟨_, _, e2, v, g1, g2.trans l2, av_mono l2 _ _ g3, k2, h3 hr L' n' c' M' d' P' f1 f2 f3⟩
        · exact ⟨_, _, e', v, g1, g2, g3, g4, h3 hr L' n' c' M' d' P' f1 f2 f3⟩
        · exact ⟨_, _, e', v, g1, g2, g3, g4, h4 hr⟩
    · cases h
  · cases h
def cspGet : Pat := fun args σ => match args, σ with
  | [.inl (.inl (.inr (.inl (0, 0)))), k], ⟨[p], [], 0, [a1, a2], 0⟩ => match aInt k, csshC p a1 a2 with
    | some k, some (n, c, L, d, M, m) => some fun K => ∃ P, (csshD p a1 a2 ∧ U.csshI n c L d M P ∧ n ≤ 100000) ∧ (∀ v0 v1 v2 v3 : Int, U.csHasE P k v0 v1 v2 v3 → K (csge v0 v1 v2 v3 true) (csSt n c L d M m)) ∧ (¬ U.csHasK P k → K (csge 0 0 0 0 false) (csSt n c L d M m))
    | _, _ => none
  | _, _ => none
theorem cspGet_ok : PatOk 27 cspGet := by
  intro tm σ C h K hK w0 e w hk vs hvs
  unfold cspGet at h
  split at h
  · split at h
    · rename_i hkk hσ
      simp only [Option.some.injEq] at h; subst h
      obtain ⟨P, ⟨hy, h1, h2⟩, h3, h4⟩ := hK
      obtain ⟨rfl, rfl, rfl⟩ := csshC_eq hσ hy
      obtain ⟨x, y, rfl, q1, q2⟩ := twos hvs
      exact knownD noOv names (opMV_ok csovOk) (conOk_ofR cstSh_ok) (csGet_run K _ _ _ _ _ _ _ P h1 h2 h3 h4) w0 e w hk _ (map2 q1 (as_aInt hkk q2))
    · cases h
  · cases h
/-- P' is P without a key. -/
structure U.csRm (P : CSP) (k : Int) (P' : CSP) : Prop where
  srt : U.csSrt P'
  mem : ∀ x y, (x, y) ∈ P' ↔ (x, y) ∈ P ∧ x ≠ k
  len : P'.length ≤ P.length
structure U.csRmN (P : CSP) (k : Int) (z : Int) : Prop where
  yes : U.csHasK P k → z = 1
  no : ¬ U.csHasK P k → z = 0
theorem csrm_of {P P' : CSP} {k : Int} (h : U.csRem P k P') : U.csRm P k P' := ⟨h.srt, h.mem, by have := h.len; omega⟩
theorem csrm_non {P : CSP} {k : Int} (hs : U.csSrt P) (h : ¬ U.csHasK P k) : U.csRm P k P :=
  ⟨hs, fun x y => ⟨fun hx => ⟨hx, fun he => h ⟨y, he ▸ hx⟩⟩, fun hx => hx.1⟩, Nat.le_refl _⟩
def cspDel : Pat := fun args σ => match args, σ with
  | [.inl (.inl (.inr (.inl (0, 0)))), .inl (.inl (.inr (.inr (.inl ⟨1, 0, 1, none, 1⟩))))], ⟨[p, some ⟨3, [v], none, 1, false⟩], [], 0, [a1, a2], 0⟩ => match cInt v, csshC p a1 a2 with
    | some k, some (n, c, L, d, M, m) => some fun K => ∃ P, (csshD p a1 a2 ∧ U.csshI n c L d M P ∧ n ≤ 100000) ∧ ∀ (z : Int) (L' : Rws) (n' : Nat) (M' : Rws) (P' : CSP), n' = U.cslen P' → U.csRmN P k z → U.csRm P k P' → U.csshI n' c L' d M' P' → K (xi .i64 z) ⟨[csB (rslC ⟨2, 1, 0, n', c⟩) (rslC ⟨3, 4, 0, n', d⟩) m, cssV k], [], 0, [none, none, some (cskB L' c), some (csvB M' d)], 0⟩
    | _, _ => none
  | _, _ => none
theorem cspDel_ok : PatOk 32 cspDel := by
  intro tm σ C h K hK w0 e w hk vs hvs
  unfold cspDel at h
  split at h
  · split at h
    · rename_i k n c L d M m hkk hσ
      simp only [Option.some.injEq] at h; subst h
      obtain ⟨P, ⟨hy, h1, h2⟩, h3⟩ := hK
      obtain ⟨rfl, rfl, rfl⟩ := csshC_eq hσ hy
      obtain rfl := cInt_eq hkk
      obtain ⟨x, y, rfl, q1, q2⟩ := twos hvs
      have hn := csshI_n h1
      refine (knownD noOv names (opMV_ok csovOk) (conOk_ofR cstSh_ok) (csDel_run (fun x σ' => ∃ (z : Int) (L' : Rws) (n' : Nat) (M' : Rws) (P' : CSP), x = xi .i64 z ∧ n' = U.cslen P' ∧ U.csRmN P k z ∧ U.csRm P k P' ∧ U.csshI n' c L' d M' P' ∧ (σ' = ⟨[csB (rslC ⟨0, 1, 0, n', c⟩) (rslC ⟨1, 4, 0, n', d⟩) m, cssV k], [], 0, [some (cskB L' c), some (csvB M' d)], 0⟩ ∨ σ' = ⟨[csB (rslC ⟨2, 1, 0, n', c⟩) (rslC ⟨3, 4, 0, n', d⟩) m, cssV k], [], 0, [none, none, some (cskB L' c), some (csvB M' d)], 0⟩)) L M n c d m k P h1 h2 ?_ ?_) w0 e w hk _ (map2 q1 q2)).mono ?_
      · exact fun hh L' n' M' P' he hr hi => ⟨1, L', n', M', P', rfl, by have := csshI_n hi; exact this.symm, ⟨fun _ => rfl, fun g => (g hh).elim⟩, csrm_of hr, hi, .inr rfl⟩
      · exact fun hh => ⟨0, L, n, M, P, rfl, hn.symm, ⟨fun g => (hh g).elim, fun _ => rfl⟩, csrm_non h1.srt hh, h1, .inl rfl⟩
      · rintro en' w' ⟨x, σ', e', v, g1, g2, g3, g4, z, L', n', M', P', rfl, f1, f2, f3, f4, rfl | rfl⟩
        · obtain ⟨e2, l2, k2⟩ := csmv g4
          exact ⟨_, _, e2, v, g1, g2.trans l2, av_mono l2 _ _ g3, k2, h3 z L' n' M' P' f1 f2 f3 f4⟩
        · exact ⟨_, _, e', v, g1, g2, g3, g4, h3 z L' n' M' P' f1 f2 f3 f4⟩
    · cases h
  · cases h
def cspVals : Pat := fun args σ => match args, σ with
  | [.inl (.inl (.inr (.inl (0, 0))))], ⟨[p], [], 0, [a1, a2], 0⟩ => match csshC p a1 a2 with
    | some (n, c, L, d, M, m) => some fun K => ∃ P, (csshD p a1 a2 ∧ U.csshI n c L d M P) ∧ ∀ (L' : Rws) (n' c' : Nat), n' = n → n' ≤ c' → L' = U.csvs P → K (cell (rslC ⟨2, 4, 0, n', c'⟩)) ⟨[csB (rslC ⟨0, 1, 0, n, c⟩) (rslC ⟨1, 4, 0, n, d⟩) m], [], 0, [some (cskB L c), some (csvB M d), some (csvB L' c')], 0⟩
    | _ => none
  | _, _ => none
theorem cspVals_ok : PatOk 29 cspVals := by
  intro tm σ C h K hK w0 e w hk vs hvs
  unfold cspVals at h
  split at h
  · split at h
    · rename_i hσ
      simp only [Option.some.injEq] at h; subst h
      obtain ⟨P, ⟨hy, h1⟩, h2⟩ := hK
      obtain ⟨rfl, rfl, rfl⟩ := csshC_eq hσ hy
      exact knownD noOv names (opMV_ok csovOk) (conOk_ofR cstSh_ok) (csVals_run K _ _ _ _ _ _ P h1 h2) w0 e w hk vs hvs
    · cases h
  · cases h
def cspKeys : Pat := fun args σ => match args, σ with
  | [.inl (.inl (.inr (.inl (0, 0))))], ⟨[p], [], 0, [a1, a2], 0⟩ => match csshC p a1 a2 with
    | some (n, c, L, d, M, m) => some fun K => ∃ P, (csshD p a1 a2 ∧ U.csshI n c L d M P) ∧ ∀ (L' : Rws) (n' c' : Nat), n' = n → n' ≤ c' → L' = U.csks P → K (cell (rslC ⟨2, 1, 0, n', c'⟩)) ⟨[csB (rslC ⟨0, 1, 0, n, c⟩) (rslC ⟨1, 4, 0, n, d⟩) m], [], 0, [some (cskB L c), some (csvB M d), some (cskB L' c')], 0⟩
    | _ => none
  | _, _ => none
theorem cspKeys_ok : PatOk 30 cspKeys := by
  intro tm σ C h K hK w0 e w hk vs hvs
  unfold cspKeys at h
  split at h
  · split at h
    · rename_i hσ
      simp only [Option.some.injEq] at h; subst h
      obtain ⟨P, ⟨hy, h1⟩, h2⟩ := hK
      obtain ⟨rfl, rfl, rfl⟩ := csshC_eq hσ hy
      exact knownD noOv names opMK_ok (conOk_ofR tbl0_ok) (csKeys_run K _ _ _ _ _ _ P h1 h2) w0 e w hk vs hvs
    · cases h
  · cases h
def cstS : Tbl := tblOr (tblIf 17 cspNew) (tblOr (tblIf 34 cspSet) (tblOr (tblIf 27 cspGet) (tblOr (tblIf 32 cspDel) (tblOr (tblIf 29 cspVals) (tblIf 30 cspKeys)))))
theorem cstS_ok : TblOk Try.prog cstS := tblOr_ok (tblIf_ok cspNew_ok) (tblOr_ok (tblIf_ok cspSet_ok) (tblOr_ok (tblIf_ok cspGet_ok) (tblOr_ok (tblIf_ok cspDel_ok) (tblOr_ok (tblIf_ok cspVals_ok) (tblIf_ok cspKeys_ok)))))
end Go.Proofs.Ytmahbhoblhhamaa
end
