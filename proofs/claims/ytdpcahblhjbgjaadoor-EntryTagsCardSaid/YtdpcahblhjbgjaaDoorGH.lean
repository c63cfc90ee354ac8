/- Parts of a proof, one behind the other: E8 E9. No condition. -/
import Derived.Test.YtdpcahblhjbgjaaDoorGG
import Derived.Test.YtdpcahblhjbgjaaDoorGD
import Derived.Test.YtdpcahblhjbgjaaDoorGE
section
set_option linter.unusedVariables false
set_option linter.unusedSimpArgs false
set_option maxRecDepth 10000
namespace Go.Proofs.YtdpcahblhjbgjaaDoor
open Go Reck Ost
/-- This entry is there by this text. -/
structure U.HasE (P : Prs) (k : List Int) (p a b c d x s t : Int) (en la : Bool) (o ep i h bo us : Int) : Prop where
  out : (k, (⟨p, a, b, c, d, x, s, t, en, la, o, ep, i, h, bo, us⟩ : En)) ∈ P
theorem en_of {M : Rws} {j : Nat} {e : En} (h : M.getD j [] = e.row) :
    (⟨U.fi M j 0, U.fi M j 1, U.fi M j 2, U.fi M j 3, U.fi M j 4, U.fi M j 5, U.fi M j 6, U.fi M j 7, U.fb M j 8, U.fb M j 9, U.fi M j 10, U.fi M j 11, U.fi M j 12, U.fi M j 13, U.fi M j 14, U.fi M j 15⟩ : En) = e := by
  unfold U.fi U.fb
  rw [h]
  rfl
abbrev geA (p a b c d x s t : Int) (en la : Bool) (o ep i h bo us : Int) (ok : Bool) : AV := .inr [.inr (eC p a b c d x s t en la o ep i h bo us), .inl (.inl (.bool ok))]
def zeroE : List Cell := eC 0 0 0 0 0 0 0 0 false false 0 0 0 0 0 0
abbrev noA : AV := .inr [.inr zeroE, .inl (.inl (.bool false))]
def GetT (P : Prs) (k : List Int) (K : AV → St → Prop) (σ : St) : Prop :=
  ∀ p a b c d x s t o ep i h bo us : Int, (U.HasE P k p a b c d x s t true true o ep i h bo us → K (geA p a b c d x s t true true o ep i h bo us true) σ) ∧ (U.HasE P k p a b c d x s t true false o ep i h bo us → K (geA p a b c d x s t true false o ep i h bo us true) σ) ∧
    (U.HasE P k p a b c d x s t false true o ep i h bo us → K (geA p a b c d x s t false true o ep i h bo us true) σ) ∧ (U.HasE P k p a b c d x s t false false o ep i h bo us → K (geA p a b c d x s t false false o ep i h bo us true) σ)
set_option maxHeartbeats 2000000 in
theorem shGet_run (K : AV → St → Prop) (L M : Rws) (n c d : Nat) (m : Int) (k : List Int) (P : Prs) (h : U.shI n c L d M P) (hn : n ≤ 100000)
    (hT : GetT P k K (shSt n c L d M m)) (hF : ¬ U.HasK P k → K noA (shSt n c L d M m)) :
    runV ovI inv0 tSh 35 [ptr 0 0, cell (strC k)] (shSt n c L d M m) K := by
  rw [shGet_vc]
  have hPn := shI_n h
  have hl := h.kf.len
  have hle := h.kf.le
  have hl2 := h.vf.len
  have hle2 := h.vf.le
  refine ⟨⟨rfl, by omega, by omega, srt_R h⟩, fun z hz => ?_⟩
  have hb := hz.b
  obtain ⟨z, rfl⟩ : ∃ y : Nat, z = y := ⟨z.toNat, by omega⟩
  refine ⟨fun hx => ⟨by have := hx.out.1; omega, fun j1 hj1 => ⟨by have := hx.out.1; omega, ?_⟩⟩, fun hx => hF (fun hy => hx ((has_iff h hz).2 hy))⟩
  obtain rfl : j1 = z := by omega
  obtain ⟨g1, g2⟩ := hx.out
  have hzl : j1 < P.length := by omega
  have hP := List.getElem?_eq_getElem hzl
  have hrow := row_at h hP
  have hkz := key_at h hP
  rw [Int.toNat_natCast, hkz] at g2
  have hmem : (k, P[j1].2) ∈ P := by rw [← g2]; exact List.getElem_mem hzl
  have key : ∀ b1 b2, U.fb M j1 8 = b1 → U.fb M j1 9 = b2 → (k, (⟨U.fi M j1 0, U.fi M j1 1, U.fi M j1 2, U.fi M j1 3, U.fi M j1 4, U.fi M j1 5, U.fi M j1 6, U.fi M j1 7, b1, b2, U.fi M j1 10, U.fi M j1 11, U.fi M j1 12, U.fi M j1 13, U.fi M j1 14, U.fi M j1 15⟩ : En)) ∈ P := by
    rintro _ _ rfl rfl
    rw [en_of hrow]; exact hmem
  have hT := hT (U.fi M j1 0) (U.fi M j1 1) (U.fi M j1 2) (U.fi M j1 3) (U.fi M j1 4) (U.fi M j1 5) (U.fi M j1 6) (U.fi M j1 7) (U.fi M j1 10) (U.fi M j1 11) (U.fi M j1 12) (U.fi M j1 13) (U.fi M j1 14) (U.fi M j1 15)
  obtain ⟨t1, t2, t3, t4⟩ := hT
  have t1 := fun h1 h2 => t1 ⟨key true true h1 h2⟩
  have t2 := fun h1 h2 => t2 ⟨key true false h1 h2⟩
  have t3 := fun h1 h2 => t3 ⟨key false true h1 h2⟩
  have t4 := fun h1 h2 => t4 ⟨key false false h1 h2⟩
  clear key
  rintro _ rfl _ rfl _ rfl _ rfl _ rfl _ rfl _ rfl _ rfl
  refine ⟨fun b1 => ⟨fun b2 => ?_, fun b2 => ?_⟩, fun b1 => ⟨fun b2 => ?_, fun b2 => ?_⟩⟩
  · rintro _ rfl _ rfl _ rfl _ rfl _ rfl _ rfl
    exact t1 b1 b2
  · rintro _ rfl _ rfl _ rfl _ rfl _ rfl _ rfl
    exact t2 b1 b2
  · rintro _ rfl _ rfl _ rfl _ rfl _ rfl _ rfl
    exact t3 b1 b2
  · rintro _ rfl _ rfl _ rfl _ rfl _ rfl _ rfl
    exact t4 b1 b2
theorem shVals_run (K : AV → St → Prop) (L M : Rws) (n c d : Nat) (m : Int) (P : Prs) (h : U.shI n c L d M P)
    (hK : ∀ (L' : Rws) (n' c' : Nat), n' = n → n' ≤ c' → L' = U.vs P → K (cell (rslC ⟨2, 16, 0, n', c'⟩)) ⟨[shB (rslC ⟨0, 1, 0, n, c⟩) (rslC ⟨1, 16, 0, n, d⟩) m], [], 0, [some (sB L c), some (eB M d), some (eB L' c')], 0⟩) :
    runV ovI inv0 tSh 29 [ptr 0 0] (shSt n c L d M m) K := by
  rw [shVals_vc]
  have hPn := shI_n h
  have hv := h.vf.n
  have hl2 := h.vf.len
  have hle2 := h.vf.le
  have hsm := h.vf.sm
  refine ⟨fun h0 => hK [] 0 0 h0.symm (Nat.le_refl _) (List.eq_nil_of_length_eq_zero (by omega)).symm, trivial, (by omega : 0 + n ≤ M.length), by omega, by omega, fun L0 n1 c2 e0 e1 e2 => ?_⟩
  obtain rfl : n1 = n := by omega
  refine hK L0 n1 c2 rfl e2 ?_
  rw [e0, List.drop_zero, h.vf.eq]; rfl
def rS (c : Cell) : Option RSl := rslX (cell c)
theorem rS_eq {c : Cell} {s : RSl} (h : rS c = some s) : c = rslC s := cell_inj' (rslX_eq h)
/-- The state of a shelf. -/
def shX (σ : St) : Option (Nat × Nat × Rws × Nat × Rws × Int) :=
  match σ with
  | ⟨[some ⟨79, [a, b, m], none, 3, false⟩], [], 0, [some ⟨9, .o (.rows [.s] L), [], c0, false⟩, some ⟨50, .o (.rows ks M), [], d0, false⟩], 0⟩ => match rS a, rS b, xiX (cell m), sameK ks eK with
    | some ⟨0, 1, 0, n, c⟩, some ⟨1, 16, 0, n2, d⟩, some (.i64, m), true => some (n, c0, L, d0, M, m)
    | _, _, _, _ => none
  | _ => none
/-- Its slices tell the same. -/
def shY (σ : St) : Prop :=
  match σ with
  | ⟨[some ⟨_, [a, b, _], _, _, _⟩], _, _, [some ⟨_, _, _, c0, _⟩, some ⟨_, _, _, d0, _⟩], _⟩ => match rS a, rS b with
    | some ⟨_, _, _, n, c⟩, some ⟨_, _, _, n2, d⟩ => c = c0 ∧ d = d0 ∧ n2 = n
    | _, _ => False
  | _ => False
theorem shX_eq {σ : St} {n c d : Nat} {L M : Rws} {m : Int} (h : shX σ = some (n, c, L, d, M, m)) (hy : shY σ) : σ = shSt n c L d M m := by
  unfold shX at h
  split at h
  · split at h
    · rename_i h1 h2 h3 h4
      simp only [Option.some.injEq, Prod.mk.injEq] at h
      obtain ⟨rfl, rfl, rfl, rfl, rfl, rfl⟩ := h
      simp only [shY, h1, h2] at hy
      obtain ⟨rfl, rfl, rfl⟩ := hy
      rw [rS_eq h1, rS_eq h2, cell_inj' (xiX_eq h3), sameK_eq h4]; rfl
    · cases h
  · cases h
def pSet : Pat := fun args σ => match args with
  | [.inl (.inl (.inr (.inl (0, 0)))), k, .inl (.inr l)] => match strX k, eX l, shX σ with
    | some k, some e, some (n, c, L, d, M, m) => some fun K => ∃ P, (shY σ ∧ U.shI n c L d M P ∧ n ≤ 100000) ∧
      (U.HasK P k → ∀ (M' : Rws) (P' : Prs), U.Put P k e P' → U.shI n c L d M' P' → K (xi .i64 0) (shSt n c L d M' m)) ∧
      (¬ U.HasK P k → m ≤ n → K (xi .i64 4) (shSt n c L d M m)) ∧
      (¬ U.HasK P k → (n : Int) < m → ∀ (L' : Rws) (n' c' : Nat) (M' : Rws) (d' : Nat) (P' : Prs), n' = n + 1 → U.Put P k e P' → U.shI n' c' L' d' M' P' → K (xi .i64 0) (shNw n' c' L' d' M' m))
    | _, _, _ => none
  | _ => none
theorem pSet_ok : PatOk 32 pSet := by
  intro tm σ C h K hK w0 e w hk vs hvs
  unfold pSet at h
  split at h
  · split at h
    · rename_i hkk hl hσ
      simp only [Option.some.injEq] at h; subst h
      obtain ⟨P, ⟨hy, h1, h2⟩, h3, h4, h5⟩ := hK
      obtain rfl := shX_eq hσ hy
      obtain rfl := eX_eq hl
      obtain ⟨x, y, z, rfl, q1, q2, q3⟩ := threes hvs
      exact knownD noOv names (opMV_ok ovIs) (conOk_ofR tSh_ok) (shSet_run K _ _ _ _ _ _ _ _ P h1 h2 h3 h4 h5) w0 e w hk _ (three_map q1 (as_str hkk q2) q3)
    · cases h
  · cases h
def pGet : Pat := fun args σ => match args with
  | [.inl (.inl (.inr (.inl (0, 0)))), k] => match strX k, shX σ with
    | some k, some (n, c, L, d, M, m) => some fun K => ∃ P, (shY σ ∧ U.shI n c L d M P ∧ n ≤ 100000) ∧ GetT P k K (shSt n c L d M m) ∧ (¬ U.HasK P k → K noA (shSt n c L d M m))
    | _, _ => none
  | _ => none
theorem pGet_ok : PatOk 35 pGet := by
  intro tm σ C h K hK w0 e w hk vs hvs
  unfold pGet at h
  split at h
  · split at h
    · rename_i hkk hσ
      simp only [Option.some.injEq] at h; subst h
      obtain ⟨P, ⟨hy, h1, h2⟩, h3, h4⟩ := hK
      obtain rfl := shX_eq hσ hy
      obtain ⟨x, y, rfl, q1, q2⟩ := twos hvs
      exact knownD noOv names (opMV_ok ovIs) (conOk_ofR tSh_ok) (shGet_run K _ _ _ _ _ _ _ P h1 h2 h3 h4) w0 e w hk _ (two_map q1 (as_str hkk q2))
    · cases h
  · cases h
def pVals : Pat := fun args σ => match args with
  | [.inl (.inl (.inr (.inl (0, 0))))] => match shX σ with
    | some (n, c, L, d, M, m) => some fun K => ∃ P, (shY σ ∧ U.shI n c L d M P) ∧ ∀ (L' : Rws) (n' c' : Nat), n' = n → n' ≤ c' → L' = U.vs P → K (cell (rslC ⟨2, 16, 0, n', c'⟩)) ⟨[shB (rslC ⟨0, 1, 0, n, c⟩) (rslC ⟨1, 16, 0, n, d⟩) m], [], 0, [some (sB L c), some (eB M d), some (eB L' c')], 0⟩
    | _ => none
  | _ => none
theorem pVals_ok : PatOk 29 pVals := by
  intro tm σ C h K hK w0 e w hk vs hvs
  unfold pVals at h
  split at h
  · split at h
    · rename_i hσ
      simp only [Option.some.injEq] at h; subst h
      obtain ⟨P, ⟨hy, h1⟩, h2⟩ := hK
      obtain rfl := shX_eq hσ hy
      exact knownD noOv names (opMV_ok ovIs) (conOk_ofR tSh_ok) (shVals_run K _ _ _ _ _ _ P h1 h2) w0 e w hk vs hvs
    · cases h
  · cases h
def tShelf : Tbl := tblOr (tblIf 32 pSet) (tblOr (tblIf 35 pGet) (tblIf 29 pVals))
theorem tShelf_ok : TblOk Tryd.prog tShelf := tblOr_ok (tblIf_ok pSet_ok) (tblOr_ok (tblIf_ok pGet_ok) (tblIf_ok pVals_ok))
end Go.Proofs.YtdpcahblhjbgjaaDoor
end

section
namespace Go.Proofs.YtdpcahblhjbgjaaDoor
open Go Reck Ost
set_option linter.unusedVariables false
set_option maxRecDepth 100000
def U.powN : List Int := [1, 10, 100, 1000, 10000, 100000, 1000000, 10000000, 100000000, 1000000000, 10000000000, 100000000000, 1000000000000, 10000000000000, 100000000000000, 1000000000000000, 10000000000000000, 100000000000000000, 1000000000000000000, 10000000000000000000]
def U.pow : List Value := U.powN.map fun z => Value.int .u64 z
def powA : Option ABlk := some ⟨0, .o (.glob 0 U.pow), [], 0, true⟩
def powSt : St := ⟨[], [], 0, [powA], 0⟩
def tTx : Tbl := tblOr tItoa tKBytes
theorem tTx_ok : TblOk Tryd.prog tTx := tblOr_ok tItoa_ok tKBytes_ok
--PLAIN
theorem text_vc (K : AV → St → Prop) (p a b c d x s t : Int) : (runR inv0 tTx 33 [xi .i64 p, kyA a b c d x s t] powSt K) = ((U.isPow U.pow ∧ (-9223372036854775808 : Int) ≤ p ∧ p ≤ (9223372036854775807 : Int)) ∧ ∀ (l0 : List Int), l0 = U.itoa p → a = a ∧ b = b ∧ c = c ∧ d = d ∧ x = x ∧ s = s ∧ t = t ∧ U.KK a b c d x s t ∧ (U.KG a b c d x s t → ∀ (L1 : List Int) (m2 c3 cap4 : Nat), L1 = U.kb a b c d x s t → m2 = (25 : Nat) → m2 ≤ c3 → c3 ≤ cap4 → a = a ∧ b = b ∧ c = c ∧ d = d ∧ x = x ∧ s = s ∧ t = t ∧ (Nat.le ((0 : Nat) + m2) (List.length L1) ∧ ByteL (List.take m2 (List.drop ((0 : Nat)) L1))) ∧ ∀ (l'5 : List Int), l'5 = List.take m2 (List.drop ((0 : Nat)) L1) → a = a ∧ b = b ∧ c = c ∧ d = d ∧ x = x ∧ s = s ∧ t = t ∧ List.length l0 + List.length l'5 ≤ (1000000000000 : Nat) ∧ ∀ (l'6 : List Int), l'6 = l0 ++ l'5 → K (Sum.inl (Sum.inl (Sum.inr (Sum.inr (Sum.inr (Sum.inr (Sum.inr (Sum.inr (Sum.inr (Sum.inr (Sum.inr (Sum.inr (Sum.inl l'6))))))))))))) { heap := [], ints := [], opqs := (0 : Nat), arrs := [some { elem := (0 : Nat), k := AK.o (Obj.glob (0 : Nat) U.pow), l := [], cap := (0 : Nat), ro := true }], junks := (0 : Nat) }) ∧ (¬U.KG a b c d x s t → a = a ∧ b = b ∧ c = c ∧ d = d ∧ x = x ∧ s = s ∧ t = t ∧ List.length l0 + (0 : Nat) ≤ (1000000000000 : Nat) ∧ ∀ (l'7 : List Int), l'7 = l0 ++ [] → K (Sum.inl (Sum.inl (Sum.inr (Sum.inr (Sum.inr (Sum.inr (Sum.inr (Sum.inr (Sum.inr (Sum.inr (Sum.inr (Sum.inr (Sum.inl l'7))))))))))))) { heap := [], ints := [], opqs := (0 : Nat), arrs := [some { elem := (0 : Nat), k := AK.o (Obj.glob (0 : Nat) U.pow), l := [], cap := (0 : Nat), ro := true }], junks := (0 : Nat) })) := by kernel_rfl
theorem may_vc (K : AV → St → Prop) (p a b c d x s t : Int) (en la : Bool) (o ep i h bo us : Int) : (runR inv0 tKG 31 [.inl (.inr (eC p a b c d x s t en la o ep i h bo us))] emptySt K) = (((1 : Int) ≤ p → (p ≤ (8 : Int) → ((1 : Int) ≤ o → (o ≤ (8 : Int) → (U.KG a b c d x s t → ((0 : Int) ≤ i → (i ≤ (65535 : Int) → ((0 : Int) ≤ h → (h ≤ (65535 : Int) → K (Sum.inl (Sum.inl (Sum.inl (Value.bool true)))) { heap := [], ints := [], opqs := (0 : Nat), arrs := [], junks := (0 : Nat) }) ∧ (¬h ≤ (65535 : Int) → K (Sum.inl (Sum.inl (Sum.inl (Value.bool false)))) { heap := [], ints := [], opqs := (0 : Nat), arrs := [], junks := (0 : Nat) })) ∧ (¬(0 : Int) ≤ h → K (Sum.inl (Sum.inl (Sum.inl (Value.bool false)))) { heap := [], ints := [], opqs := (0 : Nat), arrs := [], junks := (0 : Nat) })) ∧ (¬i ≤ (65535 : Int) → K (Sum.inl (Sum.inl (Sum.inl (Value.bool false)))) { heap := [], ints := [], opqs := (0 : Nat), arrs := [], junks := (0 : Nat) })) ∧ (¬(0 : Int) ≤ i → K (Sum.inl (Sum.inl (Sum.inl (Value.bool false)))) { heap := [], ints := [], opqs := (0 : Nat), arrs := [], junks := (0 : Nat) })) ∧ (¬U.KG a b c d x s t → K (Sum.inl (Sum.inl (Sum.inl (Value.bool false)))) { heap := [], ints := [], opqs := (0 : Nat), arrs := [], junks := (0 : Nat) })) ∧ (¬o ≤ (8 : Int) → K (Sum.inl (Sum.inl (Sum.inl (Value.bool false)))) { heap := [], ints := [], opqs := (0 : Nat), arrs := [], junks := (0 : Nat) })) ∧ (¬(1 : Int) ≤ o → K (Sum.inl (Sum.inl (Sum.inl (Value.bool false)))) { heap := [], ints := [], opqs := (0 : Nat), arrs := [], junks := (0 : Nat) })) ∧ (¬p ≤ (8 : Int) → K (Sum.inl (Sum.inl (Sum.inl (Value.bool false)))) { heap := [], ints := [], opqs := (0 : Nat), arrs := [], junks := (0 : Nat) })) ∧ (¬(1 : Int) ≤ p → K (Sum.inl (Sum.inl (Sum.inl (Value.bool false)))) { heap := [], ints := [], opqs := (0 : Nat), arrs := [], junks := (0 : Nat) })) := by kernel_rfl
theorem fitsT_vc (K : AV → St → Prop) (p a b c d x s t : Int) (la : Bool) (o ep i h bo us : Int) (tag : Int) : (runR inv0 tbl0 36 [.inl (.inr (eC p a b c d x s t true la o ep i h bo us)), xi .i64 tag] emptySt K) = ((tag = (-1 : Int) → K (Sum.inl (Sum.inl (Sum.inl (Value.bool true)))) { heap := [], ints := [], opqs := (0 : Nat), arrs := [], junks := (0 : Nat) }) ∧ (¬tag = (-1 : Int) → K (Sum.inl (Sum.inl (Sum.inl (Value.bool false)))) { heap := [], ints := [], opqs := (0 : Nat), arrs := [], junks := (0 : Nat) })) := by kernel_rfl
theorem fitsF_vc (K : AV → St → Prop) (p a b c d x s t : Int) (la : Bool) (o ep i h bo us : Int) (tag : Int) : (runR inv0 tbl0 36 [.inl (.inr (eC p a b c d x s t false la o ep i h bo us)), xi .i64 tag] emptySt K) = (∀ (z0 : Int), z0 = IntKind.wrap IntKind.i64 ep → (tag = z0 → K (Sum.inl (Sum.inl (Sum.inl (Value.bool true)))) { heap := [], ints := [], opqs := (0 : Nat), arrs := [], junks := (0 : Nat) }) ∧ (¬tag = z0 → K (Sum.inl (Sum.inl (Sum.inl (Value.bool false)))) { heap := [], ints := [], opqs := (0 : Nat), arrs := [], junks := (0 : Nat) })) := by kernel_rfl
theorem over_vc (K : AV → St → Prop) (p a b c d x s t : Int) (en la : Bool) (o ep i h bo us : Int) (now : Int) : (runR inv0 tbl0 37 [.inl (.inr (eC p a b c d x s t en la o ep i h bo us)), xi .i64 now] emptySt K) = (∀ (z0 : Int), z0 = IntKind.wrap IntKind.i64 (now - bo) → (¬h = (0 : Int) → (h ≤ z0 → K (Sum.inl (Sum.inl (Sum.inl (Value.bool true)))) { heap := [], ints := [], opqs := (0 : Nat), arrs := [], junks := (0 : Nat) }) ∧ (¬h ≤ z0 → ∀ (z1 : Int), z1 = IntKind.wrap IntKind.i64 (now - us) → (¬i = (0 : Int) → (i ≤ z1 → K (Sum.inl (Sum.inl (Sum.inl (Value.bool true)))) { heap := [], ints := [], opqs := (0 : Nat), arrs := [], junks := (0 : Nat) }) ∧ (¬i ≤ z1 → K (Sum.inl (Sum.inl (Sum.inl (Value.bool false)))) { heap := [], ints := [], opqs := (0 : Nat), arrs := [], junks := (0 : Nat) })) ∧ (¬¬i = (0 : Int) → K (Sum.inl (Sum.inl (Sum.inl (Value.bool false)))) { heap := [], ints := [], opqs := (0 : Nat), arrs := [], junks := (0 : Nat) }))) ∧ (¬¬h = (0 : Int) → ∀ (z2 : Int), z2 = IntKind.wrap IntKind.i64 (now - us) → (¬i = (0 : Int) → (i ≤ z2 → K (Sum.inl (Sum.inl (Sum.inl (Value.bool true)))) { heap := [], ints := [], opqs := (0 : Nat), arrs := [], junks := (0 : Nat) }) ∧ (¬i ≤ z2 → K (Sum.inl (Sum.inl (Sum.inl (Value.bool false)))) { heap := [], ints := [], opqs := (0 : Nat), arrs := [], junks := (0 : Nat) })) ∧ (¬¬i = (0 : Int) → K (Sum.inl (Sum.inl (Sum.inl (Value.bool false)))) { heap := [], ints := [], opqs := (0 : Nat), arrs := [], junks := (0 : Nat) }))) := by kernel_rfl
theorem rmay_vc (K : AV → St → Prop) (p a b c d x s t : Int) (en la : Bool) (o ep i h bo us : Int) : (runR inv0 tKG 18 [.inl (.inr (eC p a b c d x s t en la o ep i h bo us))] emptySt K) = (((1 : Int) ≤ p → (p ≤ (8 : Int) → ((1 : Int) ≤ o → (o ≤ (8 : Int) → (U.KG a b c d x s t → ((0 : Int) ≤ i → (i < (65536 : Int) → ((0 : Int) ≤ h → (h < (65536 : Int) → K (Sum.inl (Sum.inl (Sum.inl (Value.bool true)))) { heap := [], ints := [], opqs := (0 : Nat), arrs := [], junks := (0 : Nat) }) ∧ (¬h < (65536 : Int) → K (Sum.inl (Sum.inl (Sum.inl (Value.bool false)))) { heap := [], ints := [], opqs := (0 : Nat), arrs := [], junks := (0 : Nat) })) ∧ (¬(0 : Int) ≤ h → K (Sum.inl (Sum.inl (Sum.inl (Value.bool false)))) { heap := [], ints := [], opqs := (0 : Nat), arrs := [], junks := (0 : Nat) })) ∧ (¬i < (65536 : Int) → K (Sum.inl (Sum.inl (Sum.inl (Value.bool false)))) { heap := [], ints := [], opqs := (0 : Nat), arrs := [], junks := (0 : Nat) })) ∧ (¬(0 : Int) ≤ i → K (Sum.inl (Sum.inl (Sum.inl (Value.bool false)))) { heap := [], ints := [], opqs := (0 : Nat), arrs := [], junks := (0 : Nat) })) ∧ (¬U.KG a b c d x s t → K (Sum.inl (Sum.inl (Sum.inl (Value.bool false)))) { heap := [], ints := [], opqs := (0 : Nat), arrs := [], junks := (0 : Nat) })) ∧ (¬o ≤ (8 : Int) → K (Sum.inl (Sum.inl (Sum.inl (Value.bool false)))) { heap := [], ints := [], opqs := (0 : Nat), arrs := [], junks := (0 : Nat) })) ∧ (¬(1 : Int) ≤ o → K (Sum.inl (Sum.inl (Sum.inl (Value.bool false)))) { heap := [], ints := [], opqs := (0 : Nat), arrs := [], junks := (0 : Nat) })) ∧ (¬p ≤ (8 : Int) → K (Sum.inl (Sum.inl (Sum.inl (Value.bool false)))) { heap := [], ints := [], opqs := (0 : Nat), arrs := [], junks := (0 : Nat) })) ∧ (¬(1 : Int) ≤ p → K (Sum.inl (Sum.inl (Sum.inl (Value.bool false)))) { heap := [], ints := [], opqs := (0 : Nat), arrs := [], junks := (0 : Nat) })) := by kernel_rfl
theorem new_vc (K : AV → St → Prop) (m : Int) : (runR inv0 tbl0 8 [xi .i64 m] emptySt K) = (∀ (z0 : Int), z0 = max m (1 : Int) → ∀ (z1 : Int), z1 = min z0 (1024 : Int) → K (Sum.inl (Sum.inl (Sum.inr (Sum.inl ((0 : Nat), (0 : Nat)))))) { heap := [some { elem := nat_lit 63, cells := [Sum.inr (Sum.inl ((1 : Nat), (0 : Nat)))], j := none, c := (1 : Nat), z := false }, some { elem := nat_lit 79, cells := [Sum.inl (Value.slice none (0 : Nat) (0 : Nat)), Sum.inl (Value.slice none (0 : Nat) (0 : Nat)), Sum.inr (Sum.inr (Sum.inr (Sum.inr (Sum.inr (Sum.inr (Sum.inl (IntKind.i64, z1)))))))], j := none, c := (0 : Nat) + (1 : Nat) + (1 : Nat) + (1 : Nat), z := false }], ints := [], opqs := (0 : Nat), arrs := [], junks := (0 : Nat) }) := by kernel_rfl
theorem ours_vc (K : AV → St → Prop) (p a b c d x s t : Int) (en la : Bool) (o ep i h bo us : Int) : (runR inv0 tKG 17 [.inl (.inr (eC p a b c d x s t en la o ep i h bo us))] emptySt K) = (K (Sum.inl (Sum.inr [Sum.inr (Sum.inr (Sum.inr (Sum.inr (Sum.inr (Sum.inr (Sum.inl (IntKind.i64, p))))))), Sum.inr (Sum.inr (Sum.inr (Sum.inr (Sum.inr (Sum.inr (Sum.inl (IntKind.u64, a))))))), Sum.inr (Sum.inr (Sum.inr (Sum.inr (Sum.inr (Sum.inr (Sum.inl (IntKind.u64, b))))))), Sum.inr (Sum.inr (Sum.inr (Sum.inr (Sum.inr (Sum.inr (Sum.inl (IntKind.u32, c))))))), Sum.inr (Sum.inr (Sum.inr (Sum.inr (Sum.inr (Sum.inr (Sum.inl (IntKind.u32, d))))))), Sum.inr (Sum.inr (Sum.inr (Sum.inr (Sum.inr (Sum.inr (Sum.inl (IntKind.i64, x))))))), Sum.inr (Sum.inr (Sum.inr (Sum.inr (Sum.inr (Sum.inr (Sum.inl (IntKind.i64, s))))))), Sum.inr (Sum.inr (Sum.inr (Sum.inr (Sum.inr (Sum.inr (Sum.inl (IntKind.i64, t))))))), Sum.inl (Value.bool en), Sum.inl (Value.bool la), Sum.inr (Sum.inr (Sum.inr (Sum.inr (Sum.inr (Sum.inr (Sum.inl (IntKind.i64, o))))))), Sum.inr (Sum.inr (Sum.inr (Sum.inr (Sum.inr (Sum.inr (Sum.inl (IntKind.u32, ep))))))), Sum.inr (Sum.inr (Sum.inr (Sum.inr (Sum.inr (Sum.inr (Sum.inl (IntKind.i64, i))))))), Sum.inr (Sum.inr (Sum.inr (Sum.inr (Sum.inr (Sum.inr (Sum.inl (IntKind.i64, h))))))), Sum.inr (Sum.inr (Sum.inr (Sum.inr (Sum.inr (Sum.inr (Sum.inl (IntKind.i64, bo))))))), Sum.inr (Sum.inr (Sum.inr (Sum.inr (Sum.inr (Sum.inr (Sum.inl (IntKind.i64, us)))))))])) { heap := [], ints := [], opqs := (0 : Nat), arrs := [], junks := (0 : Nat) }) := by kernel_rfl
end Go.Proofs.YtdpcahblhjbgjaaDoor
end
