/- Parts of a proof, one behind the other: XT3 XT4 XU0 XU2. No condition. -/
import Derived.Test.YtmahbhoblhhamaaGF
section
namespace Go.Proofs.Ytmahbhoblhhamaa
open Go Reck Ost
set_option linter.unusedVariables false
set_option maxRecDepth 100000
/-- The state of a net and cables. -/
def nrC (l : AV) (σ : St) : Option (Nat × Nat × Rws × Nat × Rws × Int × Rws × Nat × Nat) := match rslX l, σ with
  | some ⟨2, 6, 0, q, _⟩, ⟨[some ⟨52, [.inr (.inl (1, 0))], none, 1, false⟩, p], [], 0, [a1, a2, some ⟨77, .o (.rows ks R), [], rc, false⟩], 0⟩ => if sameK ks caK then (match csshC p a1 a2 with
    | some (n, c, L, d, M, m) => some (n, c, L, d, M, m, R, q, rc)
    | none => none) else none
  | _, _ => none
def nrD (l : AV) (σ : St) (rc : Nat) : Prop := caC l = rc ∧ match σ with
  | ⟨[_, p], _, _, [a1, a2, _], _⟩ => csshD p a1 a2
  | _ => False
theorem nrC_eq {l : AV} {σ : St} {n c d q rc : Nat} {L M R : Rws} {m : Int} (h : nrC l σ = some (n, c, L, d, M, m, R, q, rc)) (hy : nrD l σ rc) : l = cell (rslC ⟨2, 6, 0, q, rc⟩) ∧ σ = nrSt n c L d M m R rc := by
  unfold nrC at h
  split at h
  · rename_i hl
    split at h
    · rename_i hks
      split at h
      · rename_i hs
        simp only [Option.some.injEq, Prod.mk.injEq] at h
        obtain ⟨rfl, rfl, rfl, rfl, rfl, rfl, rfl, rfl, rfl⟩ := h
        obtain ⟨h1, h2⟩ := hy
        obtain ⟨rfl, rfl, rfl⟩ := csshC_eq hs h2
        simp only [caC, hl] at h1
        subst h1
        rw [rslX_eq hl, sameK_eq hks]
        exact ⟨rfl, rfl⟩
      · cases h
    · cases h
  · cases h
def aOp (x : AV) : Option (Int × Int × Int × Int × Int × Int) := match x with
  | .inl (.inr [k, a, b, a', b', h]) => match cInt k, cInt a, cInt b, cInt a', cInt b', cInt h with
    | some k, some a, some b, some a', some b', some h => some (k, a, b, a', b', h)
    | _, _, _, _, _, _ => none
  | _ => none
theorem aOp_eq {x : AV} {k a b a' b' h : Int} (e : aOp x = some (k, a, b, a', b', h)) : x = opA k a b a' b' h := by
  unfold aOp at e
  split at e
  · split at e
    · rename_i h1 h2 h3 h4 h5 h6
      simp only [Option.some.injEq, Prod.mk.injEq] at e
      obtain ⟨rfl, rfl, rfl, rfl, rfl, rfl⟩ := e
      rw [cInt_eq h1, cInt_eq h2, cInt_eq h3, cInt_eq h4, cInt_eq h5, cInt_eq h6]; rfl
    · cases e
  · cases e
def pStep : Pat := fun args σ => match args with
  | [.inl (.inl (.inr (.inl (0, 0)))), l, o] => match nrC l σ, aOp o with
    | some (n, c, L, d, M, m, R, q, rc), some (k, a, b, a', b', h) => some fun K => (nrD l σ rc ∧ U.NR n c L d M R q ∧ q ≤ 99999 ∧ m = 64) ∧ K (okA ⟨2, 6, 0, q, rc⟩ true) (nrSt n c L d M m R rc) ∧
      (∀ (n' c' : Nat) (L' : Rws) (d' : Nat) (M' O : Rws) (q' oc : Nat), U.NR n' c' L' d' M' O q' → q' ≤ q + 1 → q' ≤ oc → K (okA ⟨3, 6, 0, q', oc⟩ true) (nr3 n' c' L' d' M' m R rc O oc)) ∧
      (∀ (O : Rws) (q' oc : Nat), U.NR n c L d M O q' → q' ≤ q → q' ≤ oc → K (okA ⟨3, 6, 0, q', oc⟩ true) (nr4 n c L d M m R rc O oc))
    | _, _ => none
  | _ => none
theorem pStep_ok : PatOk 8 pStep := by
  intro tm σ C h K hK w0 e w hk vs hvs
  unfold pStep at h
  split at h
  · split at h
    · rename_i n c L d M m R q rc k a b a' b' hh hx ho
      simp only [Option.some.injEq] at h; subst h
      obtain ⟨⟨hy, h1, h2, h3⟩, h4, h5, h6⟩ := hK
      obtain ⟨rfl, rfl⟩ := nrC_eq hx hy
      obtain rfl := aOp_eq ho
      exact knownC noOv names (conOk_ofR tN2_ok) (step_run K L M n c d m R q rc k a b a' b' hh h1 h2 h3 h4 h5 h6) w0 e w hk vs hvs
    · cases h
  · cases h
structure U.ixI (lo hi x : Int) : Prop where
  out : lo ≤ x ∧ x ≤ hi
def ixInv (J : List Nat) (t : Nat) (lo hi : Int) : Inv where
  X := Int
  tags := [0]
  tag _ _ := 0
  J := J
  val _ x := [(t, xi .i64 x)]
  st _ _ σ' := σ'
  I _ x := U.ixI lo hi x
  m _ x := (hi - x).toNat
  ren := noRen
def invSa : InvF := fun c tm σ => match tm.length, firstReg c with
  | 90, some 2 => some (ixInv [2, 3, 4, 6, 7, 8, 9, 10, 11, 12, 13, 14, 15, 16, 17, 18, 19, 20, 21, 22, 23, 24, 25, 26, 27, 28, 29, 30, 31, 32, 33, 34, 35, 36, 37, 38, 39, 40, 41, 42, 43, 44, 45, 46, 47, 48, 49, 50, 51, 52, 53, 54, 55, 56, 57, 58, 59, 60, 61, 62, 63, 64, 65, 66, 67, 68, 69, 70, 71, 72, 73, 74, 75, 76, 77, 78, 79, 80, 81, 82, 83, 84, 85, 86, 87, 88, 89] 5 0 10)
  | 90, some 5 => some (ixInv [2, 3, 4, 7, 8, 9, 10, 11, 12, 13, 14, 15, 16, 17, 18, 19, 20, 21, 22, 23, 24, 25, 26, 27, 28, 29, 30, 31, 32, 33, 34, 35, 36, 37, 38, 39, 40, 41, 42, 43, 44, 45, 46, 47, 48, 49, 50, 51, 52, 53, 54, 55, 56, 57, 58, 59, 60, 61, 62, 63, 64, 65, 66, 67, 68, 69, 70, 71, 72, 73, 74, 75, 76, 77, 78, 79, 80, 81, 82, 83, 84, 85, 86, 87, 88, 89] 6 0 10)
  | 90, some 11 => some (ixInv [2, 3, 4, 5, 6, 7, 9, 10, 11, 12, 13, 14, 15, 16, 17, 18, 19, 20, 21, 22, 23, 24, 25, 26, 27, 28, 29, 30, 31, 32, 33, 34, 35, 36, 37, 38, 39, 40, 41, 42, 43, 44, 45, 46, 47, 48, 49, 50, 51, 52, 53, 54, 55, 56, 57, 58, 59, 60, 61, 62, 63, 64, 65, 66, 67, 68, 69, 70, 71, 72, 73, 74, 75, 76, 77, 78, 79, 80, 81, 82, 83, 84, 85, 86, 87, 88, 89] 8 (-1) 17)
  | 90, some 21 => some (ixInv [2, 3, 4, 5, 6, 7, 8, 9, 10, 11, 12, 15, 16, 17, 18, 19, 20, 21, 22, 23, 24, 25, 26, 27, 28, 29, 30, 31, 32, 33, 34, 35, 36, 37, 38, 39, 40, 41, 42, 43, 44, 45, 46, 47, 48, 49, 50, 51, 52, 53, 54, 55, 56, 57, 58, 59, 60, 61, 62, 63, 64, 65, 66, 67, 68, 69, 70, 71, 72, 73, 74, 75, 78, 79, 80, 81, 82, 83, 84, 85, 86, 87, 88, 89] 77 0 (slotI tm 76))
  | _, _ => none
--PLAIN
theorem same_vc (K : AV → St → Prop) (L M : Rws) (n c d : Nat) (m : Int) (R : Rws) (q rc : Nat) : (runR invSa tN2 9 [ptr 0 0, cell (rslC ⟨2, 6, 0, q, rc⟩)] (nrSt n c L d M m R rc) K) = ((∃ (y0 : Int), ((0 : Nat) = (0 : Nat) ∧ q = q ∧ rc = rc) ∧ (0 : Int) = y0 ∧ ((0 : Nat) = (0 : Nat) ∧ n = n ∧ c = c) ∧ ((0 : Nat) = (0 : Nat) ∧ n = n ∧ d = d) ∧ m = m ∧ (L = L ∧ c = c ∧ false = false) ∧ (M = M ∧ d = d ∧ false = false) ∧ (R = R ∧ rc = rc ∧ false = false) ∧ U.ixI (0 : Int) (10 : Int) y0) ∧ ∀ (x1 : Int), U.ixI (0 : Int) (10 : Int) x1 → (x1 ≤ (9 : Int) → (∃ (y2 : Int), ((0 : Nat) = (0 : Nat) ∧ q = q ∧ rc = rc) ∧ x1 = x1 ∧ (0 : Int) = y2 ∧ ((0 : Nat) = (0 : Nat) ∧ n = n ∧ c = c) ∧ ((0 : Nat) = (0 : Nat) ∧ n = n ∧ d = d) ∧ m = m ∧ (L = L ∧ c = c ∧ false = false) ∧ (M = M ∧ d = d ∧ false = false) ∧ (R = R ∧ rc = rc ∧ false = false) ∧ U.ixI (0 : Int) (10 : Int) y2) ∧ ∀ (x3 : Int), U.ixI (0 : Int) (10 : Int) x3 → (x3 ≤ (9 : Int) → ∃ (y4 : CSP), ((c = c ∧ d = d ∧ n = n) ∧ U.csshI n c L d M y4 ∧ n ≤ (64 : Nat)) ∧ ∀ (k5 x6 y7 h8 : Int), U.Oth y4 x1 x3 k5 x6 y7 h8 → x1 = x1 ∧ x3 = x3 ∧ x1 = x1 ∧ x3 = x3 ∧ x1 = x1 ∧ x3 = x3 ∧ x1 = x1 ∧ x3 = x3 ∧ (rc = rc ∧ q = List.length R ∧ q ≤ (100000 : Nat)) ∧ ∀ (k9 u10 v11 h12 : Int), U.isV (U.rO R x1 x3) k9 u10 v11 h12 → x1 = x1 ∧ x3 = x3 ∧ x1 = x1 ∧ x3 = x3 ∧ (¬(k5 = k9 ∧ (x6 = u10 ∧ y7 = v11 ∧ True) ∧ h8 = h12 ∧ True) → K (Sum.inl (Sum.inl (Sum.inl (Value.bool false)))) { heap := [some { elem := nat_lit 52, cells := [Sum.inr (Sum.inl ((1 : Nat), (0 : Nat)))], j := none, c := (1 : Nat), z := false }, some { elem := nat_lit 75, cells := [Sum.inr (Sum.inr (Sum.inr (Sum.inr (Sum.inr (Sum.inr (Sum.inr (Sum.inr (Sum.inr (Sum.inr (Sum.inr (Sum.inl { a := (0 : Nat), u := (1 : Nat), o := (0 : Nat), n := n, c := c }))))))))))), Sum.inr (Sum.inr (Sum.inr (Sum.inr (Sum.inr (Sum.inr (Sum.inr (Sum.inr (Sum.inr (Sum.inr (Sum.inr (Sum.inl { a := (1 : Nat), u := (4 : Nat), o := (0 : Nat), n := n, c := d }))))))))))), Sum.inr (Sum.inr (Sum.inr (Sum.inr (Sum.inr (Sum.inr (Sum.inl (IntKind.i64, m)))))))], j := none, c := (3 : Nat), z := false }], ints := [], opqs := (0 : Nat), arrs := [some { elem := (3 : Nat), k := AK.o (Obj.rows [CK.n IntKind.i64] L), l := [], cap := c, ro := false }, some { elem := (36 : Nat), k := AK.o (Obj.rows [CK.n IntKind.i64, CK.n IntKind.i64, CK.n IntKind.i64, CK.n IntKind.i64] M), l := [], cap := d, ro := false }, some { elem := (77 : Nat), k := AK.o (Obj.rows [CK.n IntKind.i64, CK.n IntKind.i64, CK.n IntKind.i64, CK.n IntKind.i64, CK.n IntKind.i64, CK.b] R), l := [], cap := rc, ro := false }], junks := (0 : Nat) }) ∧ (¬¬(k5 = k9 ∧ (x6 = u10 ∧ y7 = v11 ∧ True) ∧ h8 = h12 ∧ True) → (U.Gd x1 x3 → x1 = x1 ∧ x3 = x3 ∧ x1 = x1 ∧ x3 = x3 ∧ x1 = x1 ∧ x3 = x3 ∧ x1 = x1 ∧ x3 = x3 ∧ (U.Gd x1 x3 → x1 = x1 ∧ x3 = x3 ∧ x1 = x1 ∧ x3 = x3 ∧ x1 = x1 ∧ x3 = x3 ∧ x1 = x1 ∧ x3 = x3 ∧ ∀ (z13 : Int), z13 = IntKind.wrap IntKind.i64 (x3 + (1 : Int)) → ∃ (y14 : Int), ((0 : Nat) = (0 : Nat) ∧ q = q ∧ rc = rc) ∧ x1 = x1 ∧ z13 = y14 ∧ ((0 : Nat) = (0 : Nat) ∧ n = n ∧ c = c) ∧ ((0 : Nat) = (0 : Nat) ∧ n = n ∧ d = d) ∧ m = m ∧ (L = L ∧ c = c ∧ false = false) ∧ (M = M ∧ d = d ∧ false = false) ∧ (R = R ∧ rc = rc ∧ false = false) ∧ U.ixI (0 : Int) (10 : Int) y14 ∧ Int.toNat ((10 : Int) - y14) < Int.toNat ((10 : Int) - x3)) ∧ (¬U.Gd x1 x3 → x1 = x1 ∧ x3 = x3 ∧ x1 = x1 ∧ x3 = x3 ∧ x1 = x1 ∧ x3 = x3 ∧ x1 = x1 ∧ x3 = x3 ∧ K (Sum.inl (Sum.inl (Sum.inl (Value.bool false)))) { heap := [some { elem := nat_lit 52, cells := [Sum.inr (Sum.inl ((1 : Nat), (0 : Nat)))], j := none, c := (1 : Nat), z := false }, some { elem := nat_lit 75, cells := [Sum.inr (Sum.inr (Sum.inr (Sum.inr (Sum.inr (Sum.inr (Sum.inr (Sum.inr (Sum.inr (Sum.inr (Sum.inr (Sum.inl { a := (0 : Nat), u := (1 : Nat), o := (0 : Nat), n := n, c := c }))))))))))), Sum.inr (Sum.inr (Sum.inr (Sum.inr (Sum.inr (Sum.inr (Sum.inr (Sum.inr (Sum.inr (Sum.inr (Sum.inr (Sum.inl { a := (1 : Nat), u := (4 : Nat), o := (0 : Nat), n := n, c := d }))))))))))), Sum.inr (Sum.inr (Sum.inr (Sum.inr (Sum.inr (Sum.inr (Sum.inl (IntKind.i64, m)))))))], j := none, c := (3 : Nat), z := false }], ints := [], opqs := (0 : Nat), arrs := [some { elem := (3 : Nat), k := AK.o (Obj.rows [CK.n IntKind.i64] L), l := [], cap := c, ro := false }, some { elem := (36 : Nat), k := AK.o (Obj.rows [CK.n IntKind.i64, CK.n IntKind.i64, CK.n IntKind.i64, CK.n IntKind.i64] M), l := [], cap := d, ro := false }, some { elem := (77 : Nat), k := AK.o (Obj.rows [CK.n IntKind.i64, CK.n IntKind.i64, CK.n IntKind.i64, CK.n IntKind.i64, CK.n IntKind.i64, CK.b] R), l := [], cap := rc, ro := false }], junks := (0 : Nat) })) ∧ (¬U.Gd x1 x3 → x1 = x1 ∧ x3 = x3 ∧ x1 = x1 ∧ x3 = x3 ∧ x1 = x1 ∧ x3 = x3 ∧ x1 = x1 ∧ x3 = x3 ∧ (U.Gd x1 x3 → x1 = x1 ∧ x3 = x3 ∧ x1 = x1 ∧ x3 = x3 ∧ x1 = x1 ∧ x3 = x3 ∧ x1 = x1 ∧ x3 = x3 ∧ K (Sum.inl (Sum.inl (Sum.inl (Value.bool false)))) { heap := [some { elem := nat_lit 52, cells := [Sum.inr (Sum.inl ((1 : Nat), (0 : Nat)))], j := none, c := (1 : Nat), z := false }, some { elem := nat_lit 75, cells := [Sum.inr (Sum.inr (Sum.inr (Sum.inr (Sum.inr (Sum.inr (Sum.inr (Sum.inr (Sum.inr (Sum.inr (Sum.inr (Sum.inl { a := (0 : Nat), u := (1 : Nat), o := (0 : Nat), n := n, c := c }))))))))))), Sum.inr (Sum.inr (Sum.inr (Sum.inr (Sum.inr (Sum.inr (Sum.inr (Sum.inr (Sum.inr (Sum.inr (Sum.inr (Sum.inl { a := (1 : Nat), u := (4 : Nat), o := (0 : Nat), n := n, c := d }))))))))))), Sum.inr (Sum.inr (Sum.inr (Sum.inr (Sum.inr (Sum.inr (Sum.inl (IntKind.i64, m)))))))], j := none, c := (3 : Nat), z := false }], ints := [], opqs := (0 : Nat), arrs := [some { elem := (3 : Nat), k := AK.o (Obj.rows [CK.n IntKind.i64] L), l := [], cap := c, ro := false }, some { elem := (36 : Nat), k := AK.o (Obj.rows [CK.n IntKind.i64, CK.n IntKind.i64, CK.n IntKind.i64, CK.n IntKind.i64] M), l := [], cap := d, ro := false }, some { elem := (77 : Nat), k := AK.o (Obj.rows [CK.n IntKind.i64, CK.n IntKind.i64, CK.n IntKind.i64, CK.n IntKind.i64, CK.n IntKind.i64, CK.b] R), l := [], cap := rc, ro := false }], junks := (0 : Nat) }) ∧ (¬U.Gd x1 x3 → x1 = x1 ∧ x3 = x3 ∧ x1 = x1 ∧ x3 = x3 ∧ x1 = x1 ∧ x3 = x3 ∧ x1 = x1 ∧ x3 = x3 ∧ ∀ (z15 : Int), z15 = IntKind.wrap IntKind.i64 (x3 + (1 : Int)) → ∃ (y16 : Int), ((0 : Nat) = (0 : Nat) ∧ q = q ∧ rc = rc) ∧ x1 = x1 ∧ z15 = y16 ∧ ((0 : Nat) = (0 : Nat) ∧ n = n ∧ c = c) ∧ ((0 : Nat) = (0 : Nat) ∧ n = n ∧ d = d) ∧ m = m ∧ (L = L ∧ c = c ∧ false = false) ∧ (M = M ∧ d = d ∧ false = false) ∧ (R = R ∧ rc = rc ∧ false = false) ∧ U.ixI (0 : Int) (10 : Int) y16 ∧ Int.toNat ((10 : Int) - y16) < Int.toNat ((10 : Int) - x3))))) ∧ (¬x3 ≤ (9 : Int) → ∀ (z17 : Int), z17 = IntKind.wrap IntKind.i64 (x1 + (1 : Int)) → ∃ (y18 : Int), ((0 : Nat) = (0 : Nat) ∧ q = q ∧ rc = rc) ∧ z17 = y18 ∧ ((0 : Nat) = (0 : Nat) ∧ n = n ∧ c = c) ∧ ((0 : Nat) = (0 : Nat) ∧ n = n ∧ d = d) ∧ m = m ∧ (L = L ∧ c = c ∧ false = false) ∧ (M = M ∧ d = d ∧ false = false) ∧ (R = R ∧ rc = rc ∧ false = false) ∧ U.ixI (0 : Int) (10 : Int) y18 ∧ Int.toNat ((10 : Int) - y18) < Int.toNat ((10 : Int) - x1))) ∧ (¬x1 ≤ (9 : Int) → (∃ (y19 : Int), ((0 : Nat) = (0 : Nat) ∧ q = q ∧ rc = rc) ∧ (-1 : Int) = y19 ∧ ((0 : Nat) = (0 : Nat) ∧ n = n ∧ c = c) ∧ ((0 : Nat) = (0 : Nat) ∧ n = n ∧ d = d) ∧ m = m ∧ (L = L ∧ c = c ∧ false = false) ∧ (M = M ∧ d = d ∧ false = false) ∧ (R = R ∧ rc = rc ∧ false = false) ∧ U.ixI (-1 : Int) (17 : Int) y19) ∧ ∀ (x20 : Int), U.ixI (-1 : Int) (17 : Int) x20 → (x20 ≤ (16 : Int) → ∃ (y21 : CSP), ((c = c ∧ d = d ∧ n = n) ∧ U.csshI n c L d M y21 ∧ n ≤ (64 : Nat) ∧ U.NetI y21) ∧ (∀ (k22 : Int), U.csHasE y21 k22 (2 : Int) (0 : Int) (0 : Int) x20 → ∀ (a23 b24 : Int), a23 = U.sw k22 → b24 = U.po k22 → (rc = rc ∧ q = List.length R ∧ q ≤ (100000 : Nat)) ∧ (∀ (a25 b26 : Int), U.isW R x20 a25 b26 → (¬(a23 = a25 ∧ b24 = b26 ∧ True) → K (Sum.inl (Sum.inl (Sum.inl (Value.bool false)))) { heap := [some { elem := nat_lit 52, cells := [Sum.inr (Sum.inl ((1 : Nat), (0 : Nat)))], j := none, c := (1 : Nat), z := false }, some { elem := nat_lit 75, cells := [Sum.inr (Sum.inr (Sum.inr (Sum.inr (Sum.inr (Sum.inr (Sum.inr (Sum.inr (Sum.inr (Sum.inr (Sum.inr (Sum.inl { a := (0 : Nat), u := (1 : Nat), o := (0 : Nat), n := n, c := c }))))))))))), Sum.inr (Sum.inr (Sum.inr (Sum.inr (Sum.inr (Sum.inr (Sum.inr (Sum.inr (Sum.inr (Sum.inr (Sum.inr (Sum.inl { a := (1 : Nat), u := (4 : Nat), o := (0 : Nat), n := n, c := d }))))))))))), Sum.inr (Sum.inr (Sum.inr (Sum.inr (Sum.inr (Sum.inr (Sum.inl (IntKind.i64, m)))))))], j := none, c := (3 : Nat), z := false }], ints := [], opqs := (0 : Nat), arrs := [some { elem := (3 : Nat), k := AK.o (Obj.rows [CK.n IntKind.i64] L), l := [], cap := c, ro := false }, some { elem := (36 : Nat), k := AK.o (Obj.rows [CK.n IntKind.i64, CK.n IntKind.i64, CK.n IntKind.i64, CK.n IntKind.i64] M), l := [], cap := d, ro := false }, some { elem := (77 : Nat), k := AK.o (Obj.rows [CK.n IntKind.i64, CK.n IntKind.i64, CK.n IntKind.i64, CK.n IntKind.i64, CK.n IntKind.i64, CK.b] R), l := [], cap := rc, ro := false }], junks := (0 : Nat) }) ∧ (¬¬(a23 = a25 ∧ b24 = b26 ∧ True) → ∀ (z27 : Int), z27 = IntKind.wrap IntKind.i64 (x20 + (1 : Int)) → ∃ (y28 : Int), ((0 : Nat) = (0 : Nat) ∧ q = q ∧ rc = rc) ∧ z27 = y28 ∧ ((0 : Nat) = (0 : Nat) ∧ n = n ∧ c = c) ∧ ((0 : Nat) = (0 : Nat) ∧ n = n ∧ d = d) ∧ m = m ∧ (L = L ∧ c = c ∧ false = false) ∧ (M = M ∧ d = d ∧ false = false) ∧ (R = R ∧ rc = rc ∧ false = false) ∧ U.ixI (-1 : Int) (17 : Int) y28 ∧ Int.toNat ((17 : Int) - y28) < Int.toNat ((17 : Int) - x20))) ∧ (U.noW R x20 → (¬(a23 = (0 : Int) ∧ b24 = (0 : Int) ∧ True) → K (Sum.inl (Sum.inl (Sum.inl (Value.bool false)))) { heap := [some { elem := nat_lit 52, cells := [Sum.inr (Sum.inl ((1 : Nat), (0 : Nat)))], j := none, c := (1 : Nat), z := false }, some { elem := nat_lit 75, cells := [Sum.inr (Sum.inr (Sum.inr (Sum.inr (Sum.inr (Sum.inr (Sum.inr (Sum.inr (Sum.inr (Sum.inr (Sum.inr (Sum.inl { a := (0 : Nat), u := (1 : Nat), o := (0 : Nat), n := n, c := c }))))))))))), Sum.inr (Sum.inr (Sum.inr (Sum.inr (Sum.inr (Sum.inr (Sum.inr (Sum.inr (Sum.inr (Sum.inr (Sum.inr (Sum.inl { a := (1 : Nat), u := (4 : Nat), o := (0 : Nat), n := n, c := d }))))))))))), Sum.inr (Sum.inr (Sum.inr (Sum.inr (Sum.inr (Sum.inr (Sum.inl (IntKind.i64, m)))))))], j := none, c := (3 : Nat), z := false }], ints := [], opqs := (0 : Nat), arrs := [some { elem := (3 : Nat), k := AK.o (Obj.rows [CK.n IntKind.i64] L), l := [], cap := c, ro := false }, some { elem := (36 : Nat), k := AK.o (Obj.rows [CK.n IntKind.i64, CK.n IntKind.i64, CK.n IntKind.i64, CK.n IntKind.i64] M), l := [], cap := d, ro := false }, some { elem := (77 : Nat), k := AK.o (Obj.rows [CK.n IntKind.i64, CK.n IntKind.i64, CK.n IntKind.i64, CK.n IntKind.i64, CK.n IntKind.i64, CK.b] R), l := [], cap := rc, ro := false }], junks := (0 : Nat) }) ∧ (¬¬(a23 = (0 : Int) ∧ b24 = (0 : Int) ∧ True) → K (Sum.inl (Sum.inl (Sum.inl (Value.bool false)))) { heap := [some { elem := nat_lit 52, cells := [Sum.inr (Sum.inl ((1 : Nat), (0 : Nat)))], j := none, c := (1 : Nat), z := false }, some { elem := nat_lit 75, cells := [Sum.inr (Sum.inr (Sum.inr (Sum.inr (Sum.inr (Sum.inr (Sum.inr (Sum.inr (Sum.inr (Sum.inr (Sum.inr (Sum.inl { a := (0 : Nat), u := (1 : Nat), o := (0 : Nat), n := n, c := c }))))))))))), Sum.inr (Sum.inr (Sum.inr (Sum.inr (Sum.inr (Sum.inr (Sum.inr (Sum.inr (Sum.inr (Sum.inr (Sum.inr (Sum.inl { a := (1 : Nat), u := (4 : Nat), o := (0 : Nat), n := n, c := d }))))))))))), Sum.inr (Sum.inr (Sum.inr (Sum.inr (Sum.inr (Sum.inr (Sum.inl (IntKind.i64, m)))))))], j := none, c := (3 : Nat), z := false }], ints := [], opqs := (0 : Nat), arrs := [some { elem := (3 : Nat), k := AK.o (Obj.rows [CK.n IntKind.i64] L), l := [], cap := c, ro := false }, some { elem := (36 : Nat), k := AK.o (Obj.rows [CK.n IntKind.i64, CK.n IntKind.i64, CK.n IntKind.i64, CK.n IntKind.i64] M), l := [], cap := d, ro := false }, some { elem := (77 : Nat), k := AK.o (Obj.rows [CK.n IntKind.i64, CK.n IntKind.i64, CK.n IntKind.i64, CK.n IntKind.i64, CK.n IntKind.i64, CK.b] R), l := [], cap := rc, ro := false }], junks := (0 : Nat) }))) ∧ ((∀ (k29 : Int), ¬U.csHasE y21 k29 (2 : Int) (0 : Int) (0 : Int) x20) → (rc = rc ∧ q = List.length R ∧ q ≤ (100000 : Nat)) ∧ (∀ (a30 b31 : Int), U.isW R x20 a30 b31 → (¬((0 : Int) = a30 ∧ (0 : Int) = b31 ∧ True) → K (Sum.inl (Sum.inl (Sum.inl (Value.bool false)))) { heap := [some { elem := nat_lit 52, cells := [Sum.inr (Sum.inl ((1 : Nat), (0 : Nat)))], j := none, c := (1 : Nat), z := false }, some { elem := nat_lit 75, cells := [Sum.inr (Sum.inr (Sum.inr (Sum.inr (Sum.inr (Sum.inr (Sum.inr (Sum.inr (Sum.inr (Sum.inr (Sum.inr (Sum.inl { a := (0 : Nat), u := (1 : Nat), o := (0 : Nat), n := n, c := c }))))))))))), Sum.inr (Sum.inr (Sum.inr (Sum.inr (Sum.inr (Sum.inr (Sum.inr (Sum.inr (Sum.inr (Sum.inr (Sum.inr (Sum.inl { a := (1 : Nat), u := (4 : Nat), o := (0 : Nat), n := n, c := d }))))))))))), Sum.inr (Sum.inr (Sum.inr (Sum.inr (Sum.inr (Sum.inr (Sum.inl (IntKind.i64, m)))))))], j := none, c := (3 : Nat), z := false }], ints := [], opqs := (0 : Nat), arrs := [some { elem := (3 : Nat), k := AK.o (Obj.rows [CK.n IntKind.i64] L), l := [], cap := c, ro := false }, some { elem := (36 : Nat), k := AK.o (Obj.rows [CK.n IntKind.i64, CK.n IntKind.i64, CK.n IntKind.i64, CK.n IntKind.i64] M), l := [], cap := d, ro := false }, some { elem := (77 : Nat), k := AK.o (Obj.rows [CK.n IntKind.i64, CK.n IntKind.i64, CK.n IntKind.i64, CK.n IntKind.i64, CK.n IntKind.i64, CK.b] R), l := [], cap := rc, ro := false }], junks := (0 : Nat) }) ∧ (¬¬((0 : Int) = a30 ∧ (0 : Int) = b31 ∧ True) → K (Sum.inl (Sum.inl (Sum.inl (Value.bool false)))) { heap := [some { elem := nat_lit 52, cells := [Sum.inr (Sum.inl ((1 : Nat), (0 : Nat)))], j := none, c := (1 : Nat), z := false }, some { elem := nat_lit 75, cells := [Sum.inr (Sum.inr (Sum.inr (Sum.inr (Sum.inr (Sum.inr (Sum.inr (Sum.inr (Sum.inr (Sum.inr (Sum.inr (Sum.inl { a := (0 : Nat), u := (1 : Nat), o := (0 : Nat), n := n, c := c }))))))))))), Sum.inr (Sum.inr (Sum.inr (Sum.inr (Sum.inr (Sum.inr (Sum.inr (Sum.inr (Sum.inr (Sum.inr (Sum.inr (Sum.inl { a := (1 : Nat), u := (4 : Nat), o := (0 : Nat), n := n, c := d }))))))))))), Sum.inr (Sum.inr (Sum.inr (Sum.inr (Sum.inr (Sum.inr (Sum.inl (IntKind.i64, m)))))))], j := none, c := (3 : Nat), z := false }], ints := [], opqs := (0 : Nat), arrs := [some { elem := (3 : Nat), k := AK.o (Obj.rows [CK.n IntKind.i64] L), l := [], cap := c, ro := false }, some { elem := (36 : Nat), k := AK.o (Obj.rows [CK.n IntKind.i64, CK.n IntKind.i64, CK.n IntKind.i64, CK.n IntKind.i64] M), l := [], cap := d, ro := false }, some { elem := (77 : Nat), k := AK.o (Obj.rows [CK.n IntKind.i64, CK.n IntKind.i64, CK.n IntKind.i64, CK.n IntKind.i64, CK.n IntKind.i64, CK.b] R), l := [], cap := rc, ro := false }], junks := (0 : Nat) })) ∧ (U.noW R x20 → (¬((0 : Int) = (0 : Int) ∧ (0 : Int) = (0 : Int) ∧ True) → K (Sum.inl (Sum.inl (Sum.inl (Value.bool false)))) { heap := [some { elem := nat_lit 52, cells := [Sum.inr (Sum.inl ((1 : Nat), (0 : Nat)))], j := none, c := (1 : Nat), z := false }, some { elem := nat_lit 75, cells := [Sum.inr (Sum.inr (Sum.inr (Sum.inr (Sum.inr (Sum.inr (Sum.inr (Sum.inr (Sum.inr (Sum.inr (Sum.inr (Sum.inl { a := (0 : Nat), u := (1 : Nat), o := (0 : Nat), n := n, c := c }))))))))))), Sum.inr (Sum.inr (Sum.inr (Sum.inr (Sum.inr (Sum.inr (Sum.inr (Sum.inr (Sum.inr (Sum.inr (Sum.inr (Sum.inl { a := (1 : Nat), u := (4 : Nat), o := (0 : Nat), n := n, c := d }))))))))))), Sum.inr (Sum.inr (Sum.inr (Sum.inr (Sum.inr (Sum.inr (Sum.inl (IntKind.i64, m)))))))], j := none, c := (3 : Nat), z := false }], ints := [], opqs := (0 : Nat), arrs := [some { elem := (3 : Nat), k := AK.o (Obj.rows [CK.n IntKind.i64] L), l := [], cap := c, ro := false }, some { elem := (36 : Nat), k := AK.o (Obj.rows [CK.n IntKind.i64, CK.n IntKind.i64, CK.n IntKind.i64, CK.n IntKind.i64] M), l := [], cap := d, ro := false }, some { elem := (77 : Nat), k := AK.o (Obj.rows [CK.n IntKind.i64, CK.n IntKind.i64, CK.n IntKind.i64, CK.n IntKind.i64, CK.n IntKind.i64, CK.b] R), l := [], cap := rc, ro := false }], junks := (0 : Nat) }) ∧ (¬¬((0 : Int) = (0 : Int) ∧ (0 : Int) = (0 : Int) ∧ True) → ∀ (z32 : Int), z32 = IntKind.wrap IntKind.i64 (x20 + (1 : Int)) → ∃ (y33 : Int), ((0 : Nat) = (0 : Nat) ∧ q = q ∧ rc = rc) ∧ z32 = y33 ∧ ((0 : Nat) = (0 : Nat) ∧ n = n ∧ c = c) ∧ ((0 : Nat) = (0 : Nat) ∧ n = n ∧ d = d) ∧ m = m ∧ (L = L ∧ c = c ∧ false = false) ∧ (M = M ∧ d = d ∧ false = false) ∧ (R = R ∧ rc = rc ∧ false = false) ∧ U.ixI (-1 : Int) (17 : Int) y33 ∧ Int.toNat ((17 : Int) - y33) < Int.toNat ((17 : Int) - x20))))) ∧ (¬x20 ≤ (16 : Int) → ∃ (y34 : CSP), ((c = c ∧ d = d ∧ n = n) ∧ U.csshI n c L d M y34 ∧ n ≤ (64 : Nat) ∧ U.NetI y34) ∧ ∀ (O35 : Rws) (q36 c'37 : Nat), O35 = U.lnk (U.csks y34) (U.csvs y34) n → q36 = List.length O35 → q36 ≤ c'37 → q36 ≤ (64 : Nat) → (rc = rc ∧ q = List.length R ∧ q ≤ (100000 : Nat)) ∧ ∀ (O38 : Rws) (q39 c'40 : Nat), O38 = U.rL R (64 : Nat) → q39 = List.length O38 → q39 ≤ c'40 → ∀ (z41 : Int), z41 = (↑q36 : Int) → ∀ (z42 : Int), z42 = (↑q39 : Int) → (¬z41 = z42 → K (Sum.inl (Sum.inl (Sum.inl (Value.bool false)))) { heap := [some { elem := nat_lit 52, cells := [Sum.inr (Sum.inl ((1 : Nat), (0 : Nat)))], j := none, c := (1 : Nat), z := false }, some { elem := nat_lit 75, cells := [Sum.inr (Sum.inr (Sum.inr (Sum.inr (Sum.inr (Sum.inr (Sum.inr (Sum.inr (Sum.inr (Sum.inr (Sum.inr (Sum.inl { a := (0 : Nat), u := (1 : Nat), o := (0 : Nat), n := n, c := c }))))))))))), Sum.inr (Sum.inr (Sum.inr (Sum.inr (Sum.inr (Sum.inr (Sum.inr (Sum.inr (Sum.inr (Sum.inr (Sum.inr (Sum.inl { a := (1 : Nat), u := (4 : Nat), o := (0 : Nat), n := n, c := d }))))))))))), Sum.inr (Sum.inr (Sum.inr (Sum.inr (Sum.inr (Sum.inr (Sum.inl (IntKind.i64, m)))))))], j := none, c := (3 : Nat), z := false }], ints := [], opqs := (0 : Nat), arrs := [some { elem := (3 : Nat), k := AK.o (Obj.rows [CK.n IntKind.i64] L), l := [], cap := c, ro := false }, some { elem := (36 : Nat), k := AK.o (Obj.rows [CK.n IntKind.i64, CK.n IntKind.i64, CK.n IntKind.i64, CK.n IntKind.i64] M), l := [], cap := d, ro := false }, some { elem := (77 : Nat), k := AK.o (Obj.rows [CK.n IntKind.i64, CK.n IntKind.i64, CK.n IntKind.i64, CK.n IntKind.i64, CK.n IntKind.i64, CK.b] R), l := [], cap := rc, ro := false }], junks := (0 : Nat) }) ∧ (¬¬z41 = z42 → ∀ (z43 : Int), z43 = (↑q36 : Int) → (∃ (y44 : Int), ((0 : Nat) = (0 : Nat) ∧ q = q ∧ rc = rc) ∧ ((0 : Nat) = (0 : Nat) ∧ q36 = q36 ∧ c'37 = c'37) ∧ ((0 : Nat) = (0 : Nat) ∧ q39 = q39 ∧ c'40 = c'40) ∧ z43 = z43 ∧ (0 : Int) = y44 ∧ ((0 : Nat) = (0 : Nat) ∧ n = n ∧ c = c) ∧ ((0 : Nat) = (0 : Nat) ∧ n = n ∧ d = d) ∧ m = m ∧ (L = L ∧ c = c ∧ false = false) ∧ (M = M ∧ d = d ∧ false = false) ∧ (R = R ∧ rc = rc ∧ false = false) ∧ (O35 = O35 ∧ c'37 = c'37 ∧ false = false) ∧ (O38 = O38 ∧ c'40 = c'40 ∧ false = false) ∧ U.ixI (0 : Int) z43 y44) ∧ ∀ (x45 : Int), U.ixI (0 : Int) z43 x45 → (x45 < z43 → ((0 : Int) ≤ x45 ∧ x45 < (↑q36 : Int)) ∧ ∀ (j46 : Nat), (↑j46 : Int) = (↑((0 : Nat)) : Int) + x45 → j46 < List.length O35 ∧ ∀ (z47 : Int), z47 = U.fi O35 j46 ((0 : Nat)) → ∀ (z48 : Int), z48 = U.fi O35 j46 ((0 : Nat) + (1 : Nat)) → ∀ (z49 : Int), z49 = U.fi O35 j46 ((0 : Nat) + (1 : Nat) + (1 : Nat)) → ∀ (z50 : Int), z50 = U.fi O35 j46 ((0 : Nat) + (1 : Nat) + (1 : Nat) + (1 : Nat)) → ((0 : Int) ≤ x45 ∧ x45 < (↑q39 : Int)) ∧ ∀ (j51 : Nat), (↑j51 : Int) = (↑((0 : Nat)) : Int) + x45 → j51 < List.length O38 ∧ ∀ (z52 : Int), z52 = U.fi O38 j51 ((0 : Nat)) → ∀ (z53 : Int), z53 = U.fi O38 j51 ((0 : Nat) + (1 : Nat)) → ∀ (z54 : Int), z54 = U.fi O38 j51 ((0 : Nat) + (1 : Nat) + (1 : Nat)) → ∀ (z55 : Int), z55 = U.fi O38 j51 ((0 : Nat) + (1 : Nat) + (1 : Nat) + (1 : Nat)) → (¬((z47 = z52 ∧ z48 = z53 ∧ True) ∧ (z49 = z54 ∧ z50 = z55 ∧ True) ∧ True) → K (Sum.inl (Sum.inl (Sum.inl (Value.bool false)))) { heap := [some { elem := nat_lit 52, cells := [Sum.inr (Sum.inl ((1 : Nat), (0 : Nat)))], j := none, c := (1 : Nat), z := false }, some { elem := nat_lit 75, cells := [Sum.inr (Sum.inr (Sum.inr (Sum.inr (Sum.inr (Sum.inr (Sum.inr (Sum.inr (Sum.inr (Sum.inr (Sum.inr (Sum.inl { a := (0 : Nat), u := (1 : Nat), o := (0 : Nat), n := n, c := c }))))))))))), Sum.inr (Sum.inr (Sum.inr (Sum.inr (Sum.inr (Sum.inr (Sum.inr (Sum.inr (Sum.inr (Sum.inr (Sum.inr (Sum.inl { a := (1 : Nat), u := (4 : Nat), o := (0 : Nat), n := n, c := d }))))))))))), Sum.inr (Sum.inr (Sum.inr (Sum.inr (Sum.inr (Sum.inr (Sum.inl (IntKind.i64, m)))))))], j := none, c := (3 : Nat), z := false }], ints := [], opqs := (0 : Nat), arrs := [some { elem := (3 : Nat), k := AK.o (Obj.rows [CK.n IntKind.i64] L), l := [], cap := c, ro := false }, some { elem := (36 : Nat), k := AK.o (Obj.rows [CK.n IntKind.i64, CK.n IntKind.i64, CK.n IntKind.i64, CK.n IntKind.i64] M), l := [], cap := d, ro := false }, some { elem := (77 : Nat), k := AK.o (Obj.rows [CK.n IntKind.i64, CK.n IntKind.i64, CK.n IntKind.i64, CK.n IntKind.i64, CK.n IntKind.i64, CK.b] R), l := [], cap := rc, ro := false }], junks := (0 : Nat) }) ∧ (¬¬((z47 = z52 ∧ z48 = z53 ∧ True) ∧ (z49 = z54 ∧ z50 = z55 ∧ True) ∧ True) → ∀ (z56 : Int), z56 = IntKind.wrap IntKind.i64 (x45 + (1 : Int)) → ∃ (y57 : Int), ((0 : Nat) = (0 : Nat) ∧ q = q ∧ rc = rc) ∧ ((0 : Nat) = (0 : Nat) ∧ q36 = q36 ∧ c'37 = c'37) ∧ ((0 : Nat) = (0 : Nat) ∧ q39 = q39 ∧ c'40 = c'40) ∧ z43 = z43 ∧ z56 = y57 ∧ ((0 : Nat) = (0 : Nat) ∧ n = n ∧ c = c) ∧ ((0 : Nat) = (0 : Nat) ∧ n = n ∧ d = d) ∧ m = m ∧ (L = L ∧ c = c ∧ false = false) ∧ (M = M ∧ d = d ∧ false = false) ∧ (R = R ∧ rc = rc ∧ false = false) ∧ (O35 = O35 ∧ c'37 = c'37 ∧ false = false) ∧ (O38 = O38 ∧ c'40 = c'40 ∧ false = false) ∧ U.ixI (0 : Int) z43 y57 ∧ Int.toNat (z43 - y57) < Int.toNat (z43 - x45))) ∧ (¬x45 < z43 → K (Sum.inl (Sum.inl (Sum.inl (Value.bool true)))) { heap := [some { elem := nat_lit 52, cells := [Sum.inr (Sum.inl ((1 : Nat), (0 : Nat)))], j := none, c := (1 : Nat), z := false }, some { elem := nat_lit 75, cells := [Sum.inr (Sum.inr (Sum.inr (Sum.inr (Sum.inr (Sum.inr (Sum.inr (Sum.inr (Sum.inr (Sum.inr (Sum.inr (Sum.inl { a := (0 : Nat), u := (1 : Nat), o := (0 : Nat), n := n, c := c }))))))))))), Sum.inr (Sum.inr (Sum.inr (Sum.inr (Sum.inr (Sum.inr (Sum.inr (Sum.inr (Sum.inr (Sum.inr (Sum.inr (Sum.inl { a := (1 : Nat), u := (4 : Nat), o := (0 : Nat), n := n, c := d }))))))))))), Sum.inr (Sum.inr (Sum.inr (Sum.inr (Sum.inr (Sum.inr (Sum.inl (IntKind.i64, m)))))))], j := none, c := (3 : Nat), z := false }], ints := [], opqs := (0 : Nat), arrs := [some { elem := (3 : Nat), k := AK.o (Obj.rows [CK.n IntKind.i64] L), l := [], cap := c, ro := false }, some { elem := (36 : Nat), k := AK.o (Obj.rows [CK.n IntKind.i64, CK.n IntKind.i64, CK.n IntKind.i64, CK.n IntKind.i64] M), l := [], cap := d, ro := false }, some { elem := (77 : Nat), k := AK.o (Obj.rows [CK.n IntKind.i64, CK.n IntKind.i64, CK.n IntKind.i64, CK.n IntKind.i64, CK.n IntKind.i64, CK.b] R), l := [], cap := rc, ro := false }], junks := (0 : Nat) }))))) := by kernel_rfl
end Go.Proofs.Ytmahbhoblhhamaa
end

section
set_option linter.unusedVariables false
set_option linter.unusedSimpArgs false
set_option maxRecDepth 10000
namespace Go.Proofs.Ytmahbhoblhhamaa
open Go Reck Ost
theorem rel_where {P : CSP} {R : Rws} (hR : U.Rel P R) (hP : U.NetI P) {k h a b a' b' : Int} (h1 : U.csHasE P k 2 0 0 h) (ha : a = U.sw k) (hb : b = U.po k) (hw : U.isW R h a' b') : a = a' ∧ b = b' ∧ True := by
  obtain ⟨g, h2⟩ := rel_isW hR hw
  have hk := hP.host _ _ _ _ _ _ _ h1.out h2.out
  have := sp_num g
  subst ha; subst hb; subst hk
  exact ⟨this.1, this.2, trivial⟩
set_option maxHeartbeats 4000000 in
theorem same_run (K : AV → St → Prop) (L M : Rws) (n c d : Nat) (m : Int) (R : Rws) (q rc : Nat) (hN : U.NR n c L d M R q) (hq : q ≤ 100000) (hK : K (lit (.bool true)) (nrSt n c L d M m R rc)) :
    runR invSa tN2 9 [ptr 0 0, cell (rslC ⟨2, 6, 0, q, rc⟩)] (nrSt n c L d M m R rc) K := by
  have hn := nr_le hN
  obtain ⟨P, hsh, hP, hR, hlen⟩ := hN.out
  have hs := hsh.srt
  have hPn := csshI_n hsh
  rw [same_vc]
  constructor
  · refine ⟨0, ?_⟩
    repeat' (first | exact rfl | with_reducible apply And.intro)
    exact ⟨by decide, by decide⟩
  rintro s ⟨s1, s2⟩
  refine ⟨fun hs9 => ⟨?_, ?_⟩, fun hs9 => ⟨?_, ?_⟩⟩
  · refine ⟨0, ?_⟩
    repeat' (first | exact rfl | with_reducible apply And.intro)
    exact ⟨by decide, by decide⟩
  · rintro p ⟨p1, p2⟩
    refine ⟨fun hp9 => ?_, fun hp9 z17 h17 => ?_⟩
    · repeat' (first | exact rfl | exact trivial | exact hsh | exact hn | exact hlen | exact hq | with_reducible apply And.intro | (with_reducible refine Exists.intro P ?_) | intro _)
      all_goals first
        | exact absurd (oth_eq3 hR hs hP (by assumption) (by assumption)) (by assumption)
        | exact absurd (by assumption : U.Gd s p) (by assumption)
        | (rename_i z hz
           have e := iw hz (by omega)
           refine ⟨z, ?_⟩
           repeat' (first | exact rfl | exact ⟨by omega, by omega⟩ | with_reducible apply And.intro)
           omega)
        | fail
    · have e := iw h17 (by omega)
      refine ⟨z17, ?_⟩
      repeat' (first | exact rfl | exact ⟨by omega, by omega⟩ | with_reducible apply And.intro)
      omega
  · refine ⟨-1, ?_⟩
    repeat' (first | exact rfl | with_reducible apply And.intro)
    exact ⟨by decide, by decide⟩
  · rintro h ⟨h1, h2⟩
    refine ⟨fun hh => ⟨P, ⟨⟨rfl, rfl, rfl⟩, hsh, hn, hP⟩, fun k hk a b ha hb => ⟨⟨rfl, hlen, hq⟩, fun a' b' hw => ⟨fun hne => absurd (rel_where hR hP hk ha hb hw) hne, fun _ z27 h27 => ?_⟩, fun hw => absurd hk (rel_noW hR hw k)⟩, fun hno => ⟨⟨rfl, hlen, hq⟩, fun a' b' hw => absurd (rel_isW hR hw).2 (hno _), fun hw => ⟨fun hne => absurd (by repeat' (first | exact rfl | exact trivial | with_reducible apply And.intro)) hne, fun _ z32 h32 => ?_⟩⟩⟩, fun hh => ⟨P, ⟨⟨rfl, rfl, rfl⟩, hsh, hn, hP⟩, fun O q1 c1 e1 e2 e3 e4 => ⟨⟨rfl, hlen, hq⟩, fun O' q2 c2 f1 f2 f3 z41 h41 z42 h42 => ?_⟩⟩⟩
    · have e := iw h27 (by omega)
      refine ⟨z27, ?_⟩
      repeat' (first | exact rfl | exact ⟨by omega, by omega⟩ | with_reducible apply And.intro)
      omega
    · have e := iw h32 (by omega)
      refine ⟨z32, ?_⟩
      repeat' (first | exact rfl | exact ⟨by omega, by omega⟩ | with_reducible apply And.intro)
      omega
    · have hO : O = O' := by rw [e1, f1, ← hPn]; exact links_eq hR hs hP
      subst hO
      refine ⟨fun hne => absurd (by omega) hne, fun _ z43 h43 => ⟨?_, ?_⟩⟩
      · refine ⟨0, ?_⟩
        repeat' (first | exact rfl | with_reducible apply And.intro)
        exact ⟨by decide, by omega⟩
      · rintro i ⟨i1, i2⟩
        refine ⟨fun hi => ⟨by omega, fun j hj => ⟨by omega, ?_⟩⟩, fun hi => hK⟩
        rintro _ rfl _ rfl _ rfl _ rfl
        refine ⟨by omega, fun j2 hj2 => ⟨by omega, ?_⟩⟩
        obtain rfl : j2 = j := by omega
        rintro _ rfl _ rfl _ rfl _ rfl
        refine ⟨fun hne => absurd (by repeat' (first | exact rfl | exact trivial | with_reducible apply And.intro)) hne, fun _ z56 h56 => ?_⟩
        have e := iw h56 (by omega)
        refine ⟨z56, ?_⟩
        repeat' (first | exact rfl | exact ⟨by omega, by omega⟩ | with_reducible apply And.intro)
        omega
def pSame : Pat := fun args σ => match args with
  | [.inl (.inl (.inr (.inl (0, 0)))), l] => match nrC l σ with
    | some (n, c, L, d, M, m, R, q, rc) => some fun K => (nrD l σ rc ∧ U.NR n c L d M R q ∧ q ≤ 100000) ∧ K (lit (.bool true)) (nrSt n c L d M m R rc)
    | _ => none
  | _ => none
theorem pSame_ok : PatOk 9 pSame := by
  intro tm σ C h K hK w0 e w hk vs hvs
  unfold pSame at h
  split at h
  · split at h
    · rename_i n c L d M m R q rc hx
      simp only [Option.some.injEq] at h; subst h
      obtain ⟨⟨hy, h1, h2⟩, h3⟩ := hK
      obtain ⟨rfl, rfl⟩ := nrC_eq hx hy
      exact knownC noOv names (conOk_ofR tN2_ok) (same_run K L M n c d m R q rc h1 h2 h3) w0 e w hk vs hvs
    · cases h
  · cases h
def pNewN : Pat := fun args σ => match args, σ with
  | [], ⟨[], [], 0, [], 0⟩ => some fun K => K (ptr 0 0) (nbSt 0 0 [] 0 [] 64)
  | _, _ => none
theorem pNewN_ok : PatOk 7 pNewN := by
  intro tm σ C h K hK w0 e w hk vs hvs
  unfold pNewN at h
  split at h
  · simp only [Option.some.injEq] at h; subst h
    exact knownC noOv names (conOk_ofR tPS_ok) (show runR inv0 tPS 7 [] emptySt K by rw [newN_vc]; exact hK) w0 e w hk vs hvs
  · cases h
def tN3 : Tbl := tblOr (tblIf 8 pStep) (tblOr (tblIf 9 pSame) (tblOr (tblIf 7 pNewN) tN2))
theorem tN3_ok : TblOk Try.prog tN3 := tblOr_ok (tblIf_ok pStep_ok) (tblOr_ok (tblIf_ok pSame_ok) (tblOr_ok (tblIf_ok pNewN_ok) tN2_ok))
end Go.Proofs.Ytmahbhoblhhamaa
end

section
namespace Go.Proofs.Ytmahbhoblhhamaa
open Go Reck Ost
set_option linter.unusedVariables false
set_option maxRecDepth 100000
def tAw19 : Tbl := fun f args σ => if f == 10 then match args, σ with
    | [], ⟨[], [], 0, [], 0⟩ => some fun K => K (lit (.bool true)) emptySt
    | _, _ => none
  else none
abbrev runP (inv : InvF) (tbl : Tbl) (f : Nat) (args : List AV) (σ : St) : Prop := goT Try.prog [] (orcR inv nmt tbl) (opMem Try.prog) 3000 (.inr (.inr (.inr (.inr f)))) args σ isTrue
--PLAIN
theorem awake19_vc (K : AV → St → Prop) : (runR inv0 tN3 10 [] emptySt K) = (∃ (y0 : CSP), (((0 : Nat) = (0 : Nat) ∧ (0 : Nat) = (0 : Nat) ∧ (0 : Nat) = (0 : Nat)) ∧ U.csshI (0 : Nat) (0 : Nat) U.nilL (0 : Nat) U.nilL y0 ∧ (0 : Nat) ≤ (64 : Nat) ∧ U.NetI y0 ∧ (64 : Int) = (64 : Int)) ∧ (∀ (z1 : Int), U.noJ y0 (3 : Int) (4 : Int) (1 : Int) (2 : Int) z1 → ∃ (y2 : CSP), (((0 : Nat) = (0 : Nat) ∧ (0 : Nat) = (0 : Nat) ∧ (0 : Nat) = (0 : Nat)) ∧ U.csshI (0 : Nat) (0 : Nat) U.nilL (0 : Nat) U.nilL y2 ∧ (0 : Nat) ≤ (64 : Nat)) ∧ ∀ (k3 x4 y5 h6 : Int), U.Oth y2 (3 : Int) (4 : Int) k3 x4 y5 h6 → ∃ (y7 : CSP), (((0 : Nat) = (0 : Nat) ∧ (0 : Nat) = (0 : Nat) ∧ (0 : Nat) = (0 : Nat)) ∧ U.csshI (0 : Nat) (0 : Nat) U.nilL (0 : Nat) U.nilL y7 ∧ (0 : Nat) ≤ (64 : Nat) ∧ U.NetI y7) ∧ ∀ (O8 : Rws) (q9 c'10 : Nat), O8 = U.lnk (U.csks y7) (U.csvs y7) (0 : Nat) → q9 = List.length O8 → q9 ≤ c'10 → q9 ≤ (64 : Nat) → (z1 = (0 : Int) → (k3 = (1 : Int) → (x4 = (1 : Int) ∧ y5 = (2 : Int) ∧ True → ∀ (z11 : Int), z11 = (↑q9 : Int) → (z11 = (1 : Int) → ((0 : Int) ≤ (0 : Int) ∧ (0 : Int) < (↑q9 : Int)) ∧ ∀ (j12 : Nat), (↑j12 : Int) = (↑((0 : Nat)) : Int) + (0 : Int) → j12 < List.length O8 ∧ ∀ (z13 : Int), z13 = U.fi O8 j12 ((0 : Nat) + (0 : Nat)) → ∀ (z14 : Int), z14 = U.fi O8 j12 ((0 : Nat) + (0 : Nat) + (1 : Nat)) → (z13 = (1 : Int) ∧ z14 = (2 : Int) ∧ True → (U.Gd (1 : Int) (2 : Int) → U.cellAt O8 j12 ((0 : Nat) + (0 : Nat)) (CV.i z13) ∧ U.cellAt O8 j12 ((0 : Nat) + (0 : Nat) + (1 : Nat)) (CV.i z14) ∧ x4 = x4 ∧ y5 = y5 ∧ k3 = k3 ∧ K (Sum.inl (Sum.inl (Sum.inl (Value.bool true)))) { heap := [], ints := [], opqs := (0 : Nat), arrs := [], junks := (0 : Nat) }) ∧ (¬U.Gd (1 : Int) (2 : Int) → U.cellAt O8 j12 ((0 : Nat) + (0 : Nat)) (CV.i z13) ∧ U.cellAt O8 j12 ((0 : Nat) + (0 : Nat) + (1 : Nat)) (CV.i z14) ∧ x4 = x4 ∧ y5 = y5 ∧ k3 = k3 ∧ K (Sum.inl (Sum.inl (Sum.inl (Value.bool false)))) { heap := [], ints := [], opqs := (0 : Nat), arrs := [], junks := (0 : Nat) })) ∧ (¬(z13 = (1 : Int) ∧ z14 = (2 : Int) ∧ True) → K (Sum.inl (Sum.inl (Sum.inl (Value.bool false)))) { heap := [], ints := [], opqs := (0 : Nat), arrs := [], junks := (0 : Nat) })) ∧ (¬z11 = (1 : Int) → K (Sum.inl (Sum.inl (Sum.inl (Value.bool false)))) { heap := [], ints := [], opqs := (0 : Nat), arrs := [], junks := (0 : Nat) })) ∧ (¬(x4 = (1 : Int) ∧ y5 = (2 : Int) ∧ True) → K (Sum.inl (Sum.inl (Sum.inl (Value.bool false)))) { heap := [], ints := [], opqs := (0 : Nat), arrs := [], junks := (0 : Nat) })) ∧ (¬k3 = (1 : Int) → K (Sum.inl (Sum.inl (Sum.inl (Value.bool false)))) { heap := [], ints := [], opqs := (0 : Nat), arrs := [], junks := (0 : Nat) })) ∧ (¬z1 = (0 : Int) → K (Sum.inl (Sum.inl (Sum.inl (Value.bool false)))) { heap := [], ints := [], opqs := (0 : Nat), arrs := [], junks := (0 : Nat) })) ∧ (U.mayJ y0 (3 : Int) (4 : Int) (1 : Int) (2 : Int) → ∀ (L'15 : Rws) (n'16 c'17 : Nat) (M'18 : Rws) (d'19 : Nat) (P'20 : CSP), n'16 = U.cslen P'20 → U.Joined y0 (3 : Int) (4 : Int) (1 : Int) (2 : Int) P'20 → U.csshI n'16 c'17 L'15 d'19 M'18 P'20 → ∃ (y21 : CSP), ((c'17 = c'17 ∧ d'19 = d'19 ∧ n'16 = n'16) ∧ U.csshI n'16 c'17 L'15 d'19 M'18 y21 ∧ n'16 ≤ (64 : Nat)) ∧ ∀ (k22 x23 y24 h25 : Int), U.Oth y21 (3 : Int) (4 : Int) k22 x23 y24 h25 → ∃ (y26 : CSP), ((c'17 = c'17 ∧ d'19 = d'19 ∧ n'16 = n'16) ∧ U.csshI n'16 c'17 L'15 d'19 M'18 y26 ∧ n'16 ≤ (64 : Nat) ∧ U.NetI y26) ∧ ∀ (O27 : Rws) (q28 c'29 : Nat), O27 = U.lnk (U.csks y26) (U.csvs y26) n'16 → q28 = List.length O27 → q28 ≤ c'29 → q28 ≤ (64 : Nat) → ((0 : Int) = (0 : Int) → (k22 = (1 : Int) → (x23 = (1 : Int) ∧ y24 = (2 : Int) ∧ True → ∀ (z30 : Int), z30 = (↑q28 : Int) → (z30 = (1 : Int) → ((0 : Int) ≤ (0 : Int) ∧ (0 : Int) < (↑q28 : Int)) ∧ ∀ (j31 : Nat), (↑j31 : Int) = (↑((0 : Nat)) : Int) + (0 : Int) → j31 < List.length O27 ∧ ∀ (z32 : Int), z32 = U.fi O27 j31 ((0 : Nat) + (0 : Nat)) → ∀ (z33 : Int), z33 = U.fi O27 j31 ((0 : Nat) + (0 : Nat) + (1 : Nat)) → (z32 = (1 : Int) ∧ z33 = (2 : Int) ∧ True → (U.Gd (1 : Int) (2 : Int) → U.cellAt O27 j31 ((0 : Nat) + (0 : Nat)) (CV.i z32) ∧ U.cellAt O27 j31 ((0 : Nat) + (0 : Nat) + (1 : Nat)) (CV.i z33) ∧ x23 = x23 ∧ y24 = y24 ∧ k22 = k22 ∧ K (Sum.inl (Sum.inl (Sum.inl (Value.bool true)))) { heap := [], ints := [], opqs := (0 : Nat), arrs := [], junks := (0 : Nat) }) ∧ (¬U.Gd (1 : Int) (2 : Int) → U.cellAt O27 j31 ((0 : Nat) + (0 : Nat)) (CV.i z32) ∧ U.cellAt O27 j31 ((0 : Nat) + (0 : Nat) + (1 : Nat)) (CV.i z33) ∧ x23 = x23 ∧ y24 = y24 ∧ k22 = k22 ∧ K (Sum.inl (Sum.inl (Sum.inl (Value.bool false)))) { heap := [], ints := [], opqs := (0 : Nat), arrs := [], junks := (0 : Nat) })) ∧ (¬(z32 = (1 : Int) ∧ z33 = (2 : Int) ∧ True) → K (Sum.inl (Sum.inl (Sum.inl (Value.bool false)))) { heap := [], ints := [], opqs := (0 : Nat), arrs := [], junks := (0 : Nat) })) ∧ (¬z30 = (1 : Int) → K (Sum.inl (Sum.inl (Sum.inl (Value.bool false)))) { heap := [], ints := [], opqs := (0 : Nat), arrs := [], junks := (0 : Nat) })) ∧ (¬(x23 = (1 : Int) ∧ y24 = (2 : Int) ∧ True) → K (Sum.inl (Sum.inl (Sum.inl (Value.bool false)))) { heap := [], ints := [], opqs := (0 : Nat), arrs := [], junks := (0 : Nat) })) ∧ (¬k22 = (1 : Int) → K (Sum.inl (Sum.inl (Sum.inl (Value.bool false)))) { heap := [], ints := [], opqs := (0 : Nat), arrs := [], junks := (0 : Nat) })) ∧ (¬(0 : Int) = (0 : Int) → K (Sum.inl (Sum.inl (Sum.inl (Value.bool false)))) { heap := [], ints := [], opqs := (0 : Nat), arrs := [], junks := (0 : Nat) }))) := by kernel_rfl
theorem cableNil_vc (a b h : Int) : (runP inv0 tAw19 5 [plA a b, xi .i64 h] emptySt) = (∀ (z0 : Int), z0 = (↑((0 : Nat)) : Int) → (z0 = (0 : Int) → True) ∧ (¬z0 = (0 : Int) → Err [(200 : Nat)])) := by kernel_rfl
end Go.Proofs.Ytmahbhoblhhamaa
end

section
set_option linter.unusedVariables false
set_option linter.unusedSimpArgs false
set_option maxRecDepth 100000
namespace Go.Proofs.Ytmahbhoblhhamaa
open Go Reck Ost
theorem shI_nil : U.csshI 0 0 [] 0 [] [] := ⟨⟨rfl, rfl, Nat.le_refl _, by decide⟩, ⟨rfl, rfl, Nat.le_refl _, by decide⟩, ⟨List.Pairwise.nil⟩⟩
theorem netI_nil : U.NetI [] := ⟨fun _ _ h => (List.not_mem_nil h).elim, fun _ _ _ _ h => (List.not_mem_nil h).elim, fun _ _ _ _ _ h => (List.not_mem_nil h).elim, fun _ _ _ _ _ _ _ h => (List.not_mem_nil h).elim⟩
theorem rel_nil : U.Rel [] [] := ⟨⟨fun _ h => (List.not_mem_nil h).elim⟩, fun _ _ _ _ _ _ h => (List.not_mem_nil h).elim, fun k e => ⟨fun h => (List.not_mem_nil h).elim, fun ⟨_, _, _, _, _, _, h, _⟩ => (List.not_mem_nil h).elim⟩⟩
theorem nr_nil : U.NR 0 0 [] 0 [] [] 0 := ⟨[], shI_nil, netI_nil, rel_nil, rfl⟩
theorem noJ_nil {z : Int} (h : U.noJ [] 3 4 1 2 z) : False := by
  rcases h.out with ⟨h | h | h, _⟩ | ⟨_, _, _, ⟨e, he⟩ | ⟨e, he⟩, _⟩
  · exact h ⟨by omega, by omega⟩
  · exact h ⟨by omega, by omega⟩
  · exact absurd h.1 (by decide)
  · cases he
  · cases he
theorem rL_ex : U.rL [U.cJ 3 4 1 2] 64 = [[.i 1, .i 2, .i 3, .i 4]] := by kernel_rfl
theorem awake19_run (K : AV → St → Prop) (h : K (lit (.bool true)) emptySt) : runR inv0 tN3 10 [] emptySt K := by
  rw [awake19_vc]
  refine ⟨[], ⟨⟨rfl, rfl, rfl⟩, shI_nil, by decide, netI_nil, rfl⟩, fun z hz => (noJ_nil hz).elim, fun hm L n c M d P e1 hJ hi => ?_⟩
  have hP := netI_join netI_nil hm hJ
  have hR := rel_join rel_nil hm hJ
  have hn := pulled_len (P := P) hi hP
  have hPn := csshI_n hi
  have h34 : U.Gd 3 4 := ⟨by omega, by omega⟩
  have h12 : U.Gd 1 2 := ⟨by omega, by omega⟩
  have hin : (U.num 3 4, (⟨1, 1, 2, 0⟩ : CSv)) ∈ P := (hJ.mem _ _).2 (.inl ⟨rfl, rfl⟩)
  refine ⟨P, ⟨⟨rfl, rfl, rfl⟩, hi, hn⟩, fun k x y q ho => ⟨P, ⟨⟨rfl, rfl, rfl⟩, hi, hn, hP⟩, fun O q1 c1 f1 f2 f3 f4 => ?_⟩⟩
  have he : k = 1 ∧ x = 1 ∧ y = 2 ∧ q = 0 := by
    rcases ho.out with ⟨_, ⟨e⟩⟩ | ⟨g, _⟩
    · exact v_eq (cs_one hi.srt e hin)
    · exact (g h34 ⟨_, hin⟩).elim
  obtain ⟨rfl, rfl, rfl, rfl⟩ := he
  have hO : O = [[.i 1, .i 2, .i 3, .i 4]] := by rw [f1, ← hPn, links_eq hR hi.srt hP]; exact rL_ex
  subst hO
  have hq : q1 = 1 := f2
  subst hq
  refine ⟨fun _ => ⟨fun _ => ⟨fun _ z30 h30 => ⟨fun _ => ⟨by omega, fun j31 h31 => ⟨by simp; omega, ?_⟩⟩, fun g => absurd (by omega) g⟩, fun g => absurd ⟨rfl, rfl, trivial⟩ g⟩, fun g => absurd rfl g⟩, fun g => absurd rfl g⟩
  obtain rfl : j31 = 0 := by omega
  rintro _ rfl _ rfl
  refine ⟨fun _ => ⟨fun _ => ?_, fun g => absurd h12 g⟩, fun g => absurd ⟨rfl, rfl, trivial⟩ g⟩
  exact ⟨⟨_, rfl, rfl⟩, ⟨_, rfl, rfl⟩, rfl, rfl, rfl, h⟩
theorem tAw19_ok : TblOk Try.prog tAw19 := by
  intro f tm σ C h K hK
  unfold tAw19 at h
  split at h
  · rename_i hf
    obtain rfl : f = 10 := by simpa using hf
    split at h
    · simp only [Option.some.injEq] at h; subst h
      exact knownC noOv names (conOk_ofR tN3_ok) (awake19_run K hK)
    · cases h
  · cases h
theorem cableNil_run (a b h : Int) : runP inv0 tAw19 5 [plA a b, xi .i64 h] emptySt := by
  rw [cableNil_vc]
  intro z hz
  exact ⟨fun _ => trivial, fun g => absurd (by omega) g⟩
theorem ok_none19 (w : World) : Ok w (arE []) emptySt w := ok_arrs w (l := []) (bs := []) rfl (by simp) (by intro i x q h; simp at h)
theorem cableNilP_walk (a b h : Int) (w : World) : Calls Try.prog 5 #[.agg #[.int .i64 a, .int .i64 b], .int .i64 h] w fun en w' => en = .returned (.bool true) ∧ Only (fun _ => False) w w' :=
  call_true noOv names (conOk_ofR tAw19_ok) (cableNil_run a b h) (ok_none19 w) (vs := [.agg #[.int .i64 a, .int .i64 b], .int .i64 h]) rfl
end Go.Proofs.Ytmahbhoblhhamaa
end
