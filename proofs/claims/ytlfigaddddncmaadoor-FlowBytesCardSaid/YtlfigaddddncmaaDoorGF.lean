/- Parts of a proof, one behind the other: YL YM YN YO. No condition. -/
import Derived.Test.YtlfigaddddncmaaDoorGD
section
namespace Go.Proofs.YtlfigaddddncmaaDoor
open Go Reck
set_option linter.unusedVariables false
set_option maxRecDepth 100000
--PLAIN
theorem cmpM_vc (K : AV → St → Prop) (x y : Int) : (runI inv0 tbl0 38 [xi .u64 x, xi .u64 y] emptySt K) = ((¬x = x → (¬y = y → K (Sum.inl (Sum.inl (Sum.inr (Sum.inr (Sum.inr (Sum.inr (Sum.inr (Sum.inr (Sum.inl (IntKind.i64, (0 : Int))))))))))) { heap := [], ints := [], opqs := (0 : Nat), arrs := [], junks := (0 : Nat) }) ∧ (¬¬y = y → K (Sum.inl (Sum.inl (Sum.inr (Sum.inr (Sum.inr (Sum.inr (Sum.inr (Sum.inr (Sum.inl (IntKind.i64, (-1 : Int))))))))))) { heap := [], ints := [], opqs := (0 : Nat), arrs := [], junks := (0 : Nat) })) ∧ (¬¬x = x → (¬y = y → K (Sum.inl (Sum.inl (Sum.inr (Sum.inr (Sum.inr (Sum.inr (Sum.inr (Sum.inr (Sum.inl (IntKind.i64, (1 : Int))))))))))) { heap := [], ints := [], opqs := (0 : Nat), arrs := [], junks := (0 : Nat) }) ∧ (¬¬y = y → (x < y → K (Sum.inl (Sum.inl (Sum.inr (Sum.inr (Sum.inr (Sum.inr (Sum.inr (Sum.inr (Sum.inl (IntKind.i64, (-1 : Int))))))))))) { heap := [], ints := [], opqs := (0 : Nat), arrs := [], junks := (0 : Nat) }) ∧ (¬x < y → (y < x → K (Sum.inl (Sum.inl (Sum.inr (Sum.inr (Sum.inr (Sum.inr (Sum.inr (Sum.inr (Sum.inl (IntKind.i64, (1 : Int))))))))))) { heap := [], ints := [], opqs := (0 : Nat), arrs := [], junks := (0 : Nat) }) ∧ (¬y < x → K (Sum.inl (Sum.inl (Sum.inr (Sum.inr (Sum.inr (Sum.inr (Sum.inr (Sum.inr (Sum.inl (IntKind.i64, (0 : Int))))))))))) { heap := [], ints := [], opqs := (0 : Nat), arrs := [], junks := (0 : Nat) }))))) := by kernel_rfl
theorem cmpP_vc (K : AV → St → Prop) (x y : Int) : (runI inv0 tbl0 39 [xi .u32 x, xi .u32 y] emptySt K) = ((¬x = x → (¬y = y → K (Sum.inl (Sum.inl (Sum.inr (Sum.inr (Sum.inr (Sum.inr (Sum.inr (Sum.inr (Sum.inl (IntKind.i64, (0 : Int))))))))))) { heap := [], ints := [], opqs := (0 : Nat), arrs := [], junks := (0 : Nat) }) ∧ (¬¬y = y → K (Sum.inl (Sum.inl (Sum.inr (Sum.inr (Sum.inr (Sum.inr (Sum.inr (Sum.inr (Sum.inl (IntKind.i64, (-1 : Int))))))))))) { heap := [], ints := [], opqs := (0 : Nat), arrs := [], junks := (0 : Nat) })) ∧ (¬¬x = x → (¬y = y → K (Sum.inl (Sum.inl (Sum.inr (Sum.inr (Sum.inr (Sum.inr (Sum.inr (Sum.inr (Sum.inl (IntKind.i64, (1 : Int))))))))))) { heap := [], ints := [], opqs := (0 : Nat), arrs := [], junks := (0 : Nat) }) ∧ (¬¬y = y → (x < y → K (Sum.inl (Sum.inl (Sum.inr (Sum.inr (Sum.inr (Sum.inr (Sum.inr (Sum.inr (Sum.inl (IntKind.i64, (-1 : Int))))))))))) { heap := [], ints := [], opqs := (0 : Nat), arrs := [], junks := (0 : Nat) }) ∧ (¬x < y → (y < x → K (Sum.inl (Sum.inl (Sum.inr (Sum.inr (Sum.inr (Sum.inr (Sum.inr (Sum.inr (Sum.inl (IntKind.i64, (1 : Int))))))))))) { heap := [], ints := [], opqs := (0 : Nat), arrs := [], junks := (0 : Nat) }) ∧ (¬y < x → K (Sum.inl (Sum.inl (Sum.inr (Sum.inr (Sum.inr (Sum.inr (Sum.inr (Sum.inr (Sum.inl (IntKind.i64, (0 : Int))))))))))) { heap := [], ints := [], opqs := (0 : Nat), arrs := [], junks := (0 : Nat) }))))) := by kernel_rfl
theorem cmpI_vc (K : AV → St → Prop) (x y : Int) : (runI inv0 tbl0 40 [xi .i64 x, xi .i64 y] emptySt K) = ((¬x = x → (¬y = y → K (Sum.inl (Sum.inl (Sum.inr (Sum.inr (Sum.inr (Sum.inr (Sum.inr (Sum.inr (Sum.inl (IntKind.i64, (0 : Int))))))))))) { heap := [], ints := [], opqs := (0 : Nat), arrs := [], junks := (0 : Nat) }) ∧ (¬¬y = y → K (Sum.inl (Sum.inl (Sum.inr (Sum.inr (Sum.inr (Sum.inr (Sum.inr (Sum.inr (Sum.inl (IntKind.i64, (-1 : Int))))))))))) { heap := [], ints := [], opqs := (0 : Nat), arrs := [], junks := (0 : Nat) })) ∧ (¬¬x = x → (¬y = y → K (Sum.inl (Sum.inl (Sum.inr (Sum.inr (Sum.inr (Sum.inr (Sum.inr (Sum.inr (Sum.inl (IntKind.i64, (1 : Int))))))))))) { heap := [], ints := [], opqs := (0 : Nat), arrs := [], junks := (0 : Nat) }) ∧ (¬¬y = y → (x < y → K (Sum.inl (Sum.inl (Sum.inr (Sum.inr (Sum.inr (Sum.inr (Sum.inr (Sum.inr (Sum.inl (IntKind.i64, (-1 : Int))))))))))) { heap := [], ints := [], opqs := (0 : Nat), arrs := [], junks := (0 : Nat) }) ∧ (¬x < y → (y < x → K (Sum.inl (Sum.inl (Sum.inr (Sum.inr (Sum.inr (Sum.inr (Sum.inr (Sum.inr (Sum.inl (IntKind.i64, (1 : Int))))))))))) { heap := [], ints := [], opqs := (0 : Nat), arrs := [], junks := (0 : Nat) }) ∧ (¬y < x → K (Sum.inl (Sum.inl (Sum.inr (Sum.inr (Sum.inr (Sum.inr (Sum.inr (Sum.inr (Sum.inl (IntKind.i64, (0 : Int))))))))))) { heap := [], ints := [], opqs := (0 : Nat), arrs := [], junks := (0 : Nat) }))))) := by kernel_rfl
end Go.Proofs.YtlfigaddddncmaaDoor
end

section
set_option linter.unusedVariables false
set_option linter.unusedSimpArgs false
namespace Go.Proofs.YtlfigaddddncmaaDoor
open Go Reck
/-- Which of two is less: -1, 0, 1. -/
def U.c1 (x y : Int) : Int := if x < y then -1 else if y < x then 1 else 0
def cmpPost (K : AV → St → Prop) (x y : Int) : Prop := ∀ z : Int, z = U.c1 x y → K (xi .i64 z) emptySt
theorem cmpM_run (K : AV → St → Prop) (x y : Int) (h : cmpPost K x y) : runI inv0 tbl0 38 [xi .u64 x, xi .u64 y] emptySt (opn K) := by
  rw [cmpM_vc]
  unfold cmpPost U.c1 at h
  repeat' (first | with_reducible apply And.intro | intro _)
  all_goals (first | exact absurd rfl (by assumption) | exact h (-1) (by rw [if_pos (by assumption)]) | exact h 1 (by rw [if_neg (by omega), if_pos (by assumption)]) | exact h 0 (by rw [if_neg (by omega), if_neg (by omega)]))
theorem cmpP_run (K : AV → St → Prop) (x y : Int) (h : cmpPost K x y) : runI inv0 tbl0 39 [xi .u32 x, xi .u32 y] emptySt (opn K) := by
  rw [cmpP_vc]
  unfold cmpPost U.c1 at h
  repeat' (first | with_reducible apply And.intro | intro _)
  all_goals (first | exact absurd rfl (by assumption) | exact h (-1) (by rw [if_pos (by assumption)]) | exact h 1 (by rw [if_neg (by omega), if_pos (by assumption)]) | exact h 0 (by rw [if_neg (by omega), if_neg (by omega)]))
theorem cmpI_run (K : AV → St → Prop) (x y : Int) (h : cmpPost K x y) : runI inv0 tbl0 40 [xi .i64 x, xi .i64 y] emptySt (opn K) := by
  rw [cmpI_vc]
  unfold cmpPost U.c1 at h
  repeat' (first | with_reducible apply And.intro | intro _)
  all_goals (first | exact absurd rfl (by assumption) | exact h (-1) (by rw [if_pos (by assumption)]) | exact h 1 (by rw [if_neg (by omega), if_pos (by assumption)]) | exact h 0 (by rw [if_neg (by omega), if_neg (by omega)]))
def tCmp1 : Tbl := fun f args σ => match args, σ with
    | [x, y], ⟨[], [], 0, [], 0⟩ => match xiX x, xiX y with
      | some (k, x), some (k', y) => if f == 38 && decide (k = .u64) && decide (k' = .u64) || f == 39 && decide (k = .u32) && decide (k' = .u32) || f == 40 && decide (k = .i64) && decide (k' = .i64) then some fun K => ∀ z : Int, z = U.c1 x y → K (xi .i64 z) emptySt else none
      | _, _ => none
    | _, _ => none
theorem tCmp1_ok : TblOk Tryd.prog tCmp1 := by
  intro f tm σ C h K hK
  unfold tCmp1 at h
  split at h
  · split at h
    · rename_i k x k' y hx hy
      obtain rfl := xiX_eq hx
      obtain rfl := xiX_eq hy
      split at h
      · rename_i hc
        simp only [Option.some.injEq] at h; subst h
        simp only [Bool.or_eq_true, Bool.and_eq_true, decide_eq_true_eq, beq_iff_eq] at hc
        intro w0 e w hok vs hvs
        rcases hc with (⟨⟨rfl, rfl⟩, rfl⟩ | ⟨⟨rfl, rfl⟩, rfl⟩) | ⟨⟨rfl, rfl⟩, rfl⟩
        · exact calls_open (knownC noOv names (conOk_of tbl0_ok) (cmpM_run K x y hK) w0 e w hok vs hvs)
        · exact calls_open (knownC noOv names (conOk_of tbl0_ok) (cmpP_run K x y hK) w0 e w hok vs hvs)
        · exact calls_open (knownC noOv names (conOk_of tbl0_ok) (cmpI_run K x y hK) w0 e w hok vs hvs)
      · cases h
    · cases h
  · cases h
end Go.Proofs.YtlfigaddddncmaaDoor
end

section
namespace Go.Proofs.YtlfigaddddncmaaDoor
open Go Reck
set_option linter.unusedVariables false
set_option maxRecDepth 100000
--PLAIN
theorem compare_vc (K : AV → St → Prop) (a b c d e f g a' b' c' d' e' f' g' : Int) : (runI inv0 tCmp1 22 [kyA a b c d e f g, kyA a' b' c' d' e' f' g'] emptySt K) = (∀ (z0 : Int), z0 = U.c1 a a' → g' = g' ∧ g = g ∧ f' = f' ∧ f = f ∧ e' = e' ∧ e = e ∧ d' = d' ∧ d = d ∧ c' = c' ∧ c = c ∧ b' = b' ∧ b = b ∧ a' = a' ∧ a = a ∧ ∀ (z1 : Int), z1 = U.c1 b b' → g' = g' ∧ g = g ∧ f' = f' ∧ f = f ∧ e' = e' ∧ e = e ∧ d' = d' ∧ d = d ∧ c' = c' ∧ c = c ∧ b' = b' ∧ b = b ∧ a' = a' ∧ a = a ∧ ∀ (z2 : Int), z2 = U.c1 c c' → g' = g' ∧ g = g ∧ f' = f' ∧ f = f ∧ e' = e' ∧ e = e ∧ d' = d' ∧ d = d ∧ c' = c' ∧ c = c ∧ b' = b' ∧ b = b ∧ a' = a' ∧ a = a ∧ ∀ (z3 : Int), z3 = U.c1 d d' → g' = g' ∧ g = g ∧ f' = f' ∧ f = f ∧ e' = e' ∧ e = e ∧ d' = d' ∧ d = d ∧ c' = c' ∧ c = c ∧ b' = b' ∧ b = b ∧ a' = a' ∧ a = a ∧ ∀ (z4 : Int), z4 = U.c1 e e' → g' = g' ∧ g = g ∧ f' = f' ∧ f = f ∧ e' = e' ∧ e = e ∧ d' = d' ∧ d = d ∧ c' = c' ∧ c = c ∧ b' = b' ∧ b = b ∧ a' = a' ∧ a = a ∧ ∀ (z5 : Int), z5 = U.c1 f f' → g' = g' ∧ g = g ∧ f' = f' ∧ f = f ∧ e' = e' ∧ e = e ∧ d' = d' ∧ d = d ∧ c' = c' ∧ c = c ∧ b' = b' ∧ b = b ∧ a' = a' ∧ a = a ∧ ∀ (z6 : Int), z6 = U.c1 g g' → g' = g' ∧ g = g ∧ f' = f' ∧ f = f ∧ e' = e' ∧ e = e ∧ d' = d' ∧ d = d ∧ c' = c' ∧ c = c ∧ b' = b' ∧ b = b ∧ a' = a' ∧ a = a ∧ g' = g' ∧ g = g ∧ f' = f' ∧ f = f ∧ e' = e' ∧ e = e ∧ d' = d' ∧ d = d ∧ c' = c' ∧ c = c ∧ b' = b' ∧ b = b ∧ a' = a' ∧ a = a ∧ (¬z0 = (0 : Int) → g' = g' ∧ g = g ∧ f' = f' ∧ f = f ∧ e' = e' ∧ e = e ∧ d' = d' ∧ d = d ∧ c' = c' ∧ c = c ∧ b' = b' ∧ b = b ∧ a' = a' ∧ a = a ∧ K (Sum.inl (Sum.inl (Sum.inr (Sum.inr (Sum.inr (Sum.inr (Sum.inr (Sum.inr (Sum.inl (IntKind.i64, z0)))))))))) { heap := [], ints := [], opqs := (0 : Nat), arrs := [], junks := (0 : Nat) }) ∧ (¬¬z0 = (0 : Int) → (¬z1 = (0 : Int) → g' = g' ∧ g = g ∧ f' = f' ∧ f = f ∧ e' = e' ∧ e = e ∧ d' = d' ∧ d = d ∧ c' = c' ∧ c = c ∧ b' = b' ∧ b = b ∧ a' = a' ∧ a = a ∧ K (Sum.inl (Sum.inl (Sum.inr (Sum.inr (Sum.inr (Sum.inr (Sum.inr (Sum.inr (Sum.inl (IntKind.i64, z1)))))))))) { heap := [], ints := [], opqs := (0 : Nat), arrs := [], junks := (0 : Nat) }) ∧ (¬¬z1 = (0 : Int) → (¬z2 = (0 : Int) → g' = g' ∧ g = g ∧ f' = f' ∧ f = f ∧ e' = e' ∧ e = e ∧ d' = d' ∧ d = d ∧ c' = c' ∧ c = c ∧ b' = b' ∧ b = b ∧ a' = a' ∧ a = a ∧ K (Sum.inl (Sum.inl (Sum.inr (Sum.inr (Sum.inr (Sum.inr (Sum.inr (Sum.inr (Sum.inl (IntKind.i64, z2)))))))))) { heap := [], ints := [], opqs := (0 : Nat), arrs := [], junks := (0 : Nat) }) ∧ (¬¬z2 = (0 : Int) → (¬z3 = (0 : Int) → g' = g' ∧ g = g ∧ f' = f' ∧ f = f ∧ e' = e' ∧ e = e ∧ d' = d' ∧ d = d ∧ c' = c' ∧ c = c ∧ b' = b' ∧ b = b ∧ a' = a' ∧ a = a ∧ K (Sum.inl (Sum.inl (Sum.inr (Sum.inr (Sum.inr (Sum.inr (Sum.inr (Sum.inr (Sum.inl (IntKind.i64, z3)))))))))) { heap := [], ints := [], opqs := (0 : Nat), arrs := [], junks := (0 : Nat) }) ∧ (¬¬z3 = (0 : Int) → (¬z4 = (0 : Int) → g' = g' ∧ g = g ∧ f' = f' ∧ f = f ∧ e' = e' ∧ e = e ∧ d' = d' ∧ d = d ∧ c' = c' ∧ c = c ∧ b' = b' ∧ b = b ∧ a' = a' ∧ a = a ∧ K (Sum.inl (Sum.inl (Sum.inr (Sum.inr (Sum.inr (Sum.inr (Sum.inr (Sum.inr (Sum.inl (IntKind.i64, z4)))))))))) { heap := [], ints := [], opqs := (0 : Nat), arrs := [], junks := (0 : Nat) }) ∧ (¬¬z4 = (0 : Int) → (¬z5 = (0 : Int) → g' = g' ∧ g = g ∧ f' = f' ∧ f = f ∧ e' = e' ∧ e = e ∧ d' = d' ∧ d = d ∧ c' = c' ∧ c = c ∧ b' = b' ∧ b = b ∧ a' = a' ∧ a = a ∧ K (Sum.inl (Sum.inl (Sum.inr (Sum.inr (Sum.inr (Sum.inr (Sum.inr (Sum.inr (Sum.inl (IntKind.i64, z5)))))))))) { heap := [], ints := [], opqs := (0 : Nat), arrs := [], junks := (0 : Nat) }) ∧ (¬¬z5 = (0 : Int) → (¬z6 = (0 : Int) → g' = g' ∧ g = g ∧ f' = f' ∧ f = f ∧ e' = e' ∧ e = e ∧ d' = d' ∧ d = d ∧ c' = c' ∧ c = c ∧ b' = b' ∧ b = b ∧ a' = a' ∧ a = a ∧ K (Sum.inl (Sum.inl (Sum.inr (Sum.inr (Sum.inr (Sum.inr (Sum.inr (Sum.inr (Sum.inl (IntKind.i64, z6)))))))))) { heap := [], ints := [], opqs := (0 : Nat), arrs := [], junks := (0 : Nat) }) ∧ (¬¬z6 = (0 : Int) → g' = g' ∧ g = g ∧ f' = f' ∧ f = f ∧ e' = e' ∧ e = e ∧ d' = d' ∧ d = d ∧ c' = c' ∧ c = c ∧ b' = b' ∧ b = b ∧ a' = a' ∧ a = a ∧ K (Sum.inl (Sum.inl (Sum.inr (Sum.inr (Sum.inr (Sum.inr (Sum.inr (Sum.inr (Sum.inl (IntKind.i64, (0 : Int))))))))))) { heap := [], ints := [], opqs := (0 : Nat), arrs := [], junks := (0 : Nat) })))))))) := by kernel_rfl
theorem nums_vc (K : AV → St → Prop) (a b c d e f g : Int) : (runI inv0 tbl0 23 [kyA a b c d e f g] emptySt K) = (∀ (z0 : Int), z0 = IntKind.wrap IntKind.i64 a → ∀ (z1 : Int), z1 = IntKind.wrap IntKind.i64 b → ∀ (z2 : Int), z2 = IntKind.wrap IntKind.i64 c → ∀ (z3 : Int), z3 = IntKind.wrap IntKind.i64 d → K (Sum.inl (Sum.inl (Sum.inr (Sum.inr (Sum.inl { b := (0 : Nat), o := (0 : Nat), n := (7 : Nat), j := none, c := (7 : Nat) }))))) { heap := [some { elem := (2 : Nat), cells := [Sum.inr (Sum.inr (Sum.inr (Sum.inr (Sum.inr (Sum.inr (Sum.inl (IntKind.i64, z0))))))), Sum.inr (Sum.inr (Sum.inr (Sum.inr (Sum.inr (Sum.inr (Sum.inl (IntKind.i64, z1))))))), Sum.inr (Sum.inr (Sum.inr (Sum.inr (Sum.inr (Sum.inr (Sum.inl (IntKind.i64, z2))))))), Sum.inr (Sum.inr (Sum.inr (Sum.inr (Sum.inr (Sum.inr (Sum.inl (IntKind.i64, z3))))))), Sum.inr (Sum.inr (Sum.inr (Sum.inr (Sum.inr (Sum.inr (Sum.inl (IntKind.i64, e))))))), Sum.inr (Sum.inr (Sum.inr (Sum.inr (Sum.inr (Sum.inr (Sum.inl (IntKind.i64, f))))))), Sum.inr (Sum.inr (Sum.inr (Sum.inr (Sum.inr (Sum.inr (Sum.inl (IntKind.i64, g)))))))], j := none, c := (7 : Nat), z := false }], ints := [], opqs := (0 : Nat), arrs := [], junks := (0 : Nat) }) := by kernel_rfl
end Go.Proofs.YtlfigaddddncmaaDoor
end

section
set_option linter.unusedVariables false
set_option linter.unusedSimpArgs false
namespace Go.Proofs.YtlfigaddddncmaaDoor
open Go Reck
/-- The first that is not alike counts. -/
def U.wn (w x y : Int) : Int := if w = 0 then U.c1 x y else w
def U.c7 (a b c d e f g a' b' c' d' e' f' g' : Int) : Int := U.wn (U.wn (U.wn (U.wn (U.wn (U.wn (U.wn 0 a a') b b') c c') d d') e e') f f') g g'
theorem wn_0 (x y : Int) : U.wn 0 x y = U.c1 x y := rfl
theorem wn_z {w x y : Int} (h : w = 0) : U.wn w x y = U.c1 x y := if_pos h
theorem wn_n {w x y : Int} (h : ¬ w = 0) : U.wn w x y = w := if_neg h
theorem not_n {p : Prop} (h : ¬ ¬ p) : p := Classical.byContradiction h
set_option maxHeartbeats 2000000 in
theorem compare_run (K : AV → St → Prop) (a b c d e f g a' b' c' d' e' f' g' : Int) (h : ∀ z : Int, z = U.c7 a b c d e f g a' b' c' d' e' f' g' → K (xi .i64 z) emptySt) :
    runI inv0 tCmp1 22 [kyA a b c d e f g, kyA a' b' c' d' e' f' g'] emptySt (opn K) := by
  rw [compare_vc]
  unfold U.c7 at h
  intro z0 h0
  repeat (first | refine ⟨rfl, ?_⟩)
  intro z1 h1
  repeat (first | refine ⟨rfl, ?_⟩)
  intro z2 h2
  repeat (first | refine ⟨rfl, ?_⟩)
  intro z3 h3
  repeat (first | refine ⟨rfl, ?_⟩)
  intro z4 h4
  repeat (first | refine ⟨rfl, ?_⟩)
  intro z5 h5
  repeat (first | refine ⟨rfl, ?_⟩)
  intro z6 h6
  repeat (first | refine ⟨rfl, ?_⟩)
  rw [wn_0, ← h0] at h
  refine ⟨fun hn => ?_, fun hz => ?_⟩
  · repeat (first | refine ⟨rfl, ?_⟩)
    exact h z0 (by rw [wn_n hn, wn_n hn, wn_n hn, wn_n hn, wn_n hn, wn_n hn])
  rw [wn_z (not_n hz), ← h1] at h
  refine ⟨fun hn => ?_, fun hz => ?_⟩
  · repeat (first | refine ⟨rfl, ?_⟩)
    exact h z1 (by rw [wn_n hn, wn_n hn, wn_n hn, wn_n hn, wn_n hn])
  rw [wn_z (not_n hz), ← h2] at h
  refine ⟨fun hn => ?_, fun hz => ?_⟩
  · repeat (first | refine ⟨rfl, ?_⟩)
    exact h z2 (by rw [wn_n hn, wn_n hn, wn_n hn, wn_n hn])
  rw [wn_z (not_n hz), ← h3] at h
  refine ⟨fun hn => ?_, fun hz => ?_⟩
  · repeat (first | refine ⟨rfl, ?_⟩)
    exact h z3 (by rw [wn_n hn, wn_n hn, wn_n hn])
  rw [wn_z (not_n hz), ← h4] at h
  refine ⟨fun hn => ?_, fun hz => ?_⟩
  · repeat (first | refine ⟨rfl, ?_⟩)
    exact h z4 (by rw [wn_n hn, wn_n hn])
  rw [wn_z (not_n hz), ← h5] at h
  refine ⟨fun hn => ?_, fun hz => ?_⟩
  · repeat (first | refine ⟨rfl, ?_⟩)
    exact h z5 (by rw [wn_n hn])
  rw [wn_z (not_n hz), ← h6] at h
  refine ⟨fun hn => ?_, fun hz => ?_⟩
  · repeat (first | refine ⟨rfl, ?_⟩)
    exact h z6 rfl
  · repeat (first | refine ⟨rfl, ?_⟩)
    exact h 0 (not_n hz).symm
def tKCmp : Tbl := fun f args σ => if f == 22 then match args, σ with
    | [.inl (.inr l), .inl (.inr m)], ⟨[], [], 0, [], 0⟩ => match kyX l, kyX m with
      | some [a, b, c, d, e, f, g], some [a', b', c', d', e', f', g'] => some fun K => ∀ z : Int, z = U.c7 a b c d e f g a' b' c' d' e' f' g' → K (xi .i64 z) emptySt
      | _, _ => none
    | _, _ => none
  else none
theorem tKCmp_ok : TblOk Tryd.prog tKCmp := by
  intro f tm σ C h K hK
  unfold tKCmp at h
  split at h
  · rename_i hf
    obtain rfl : f = 22 := by simpa using hf
    split at h
    · split at h
      · rename_i hl hm
        obtain rfl := kyX_eq hl
        obtain rfl := kyX_eq hm
        simp only [Option.some.injEq] at h; subst h
        intro w0 e w hok vs hvs
        exact calls_open (knownC noOv names (conOk_of tCmp1_ok) (compare_run K _ _ _ _ _ _ _ _ _ _ _ _ _ _ hK) w0 e w hok vs hvs)
      · cases h
    · cases h
  · cases h
def tYO : Tbl := tblOr tYI tKCmp
theorem tYO_ok : TblOk Tryd.prog tYO := tblOr_ok tYI_ok tKCmp_ok
theorem c1_eq (x y : Int) : (U.c1 x y = 0 ↔ x = y) ∧ (U.c1 x y < 0 ↔ x < y) ∧ U.c1 y x = 0 - U.c1 x y := by
  unfold U.c1; refine ⟨?_, ?_, ?_⟩ <;> repeat' split <;> omega
theorem wn_eq (w x y : Int) : (U.wn w x y = 0 ↔ w = 0 ∧ x = y) ∧ (U.wn w x y < 0 ↔ w < 0 ∨ w = 0 ∧ x < y) ∧ U.wn (0 - w) y x = 0 - U.wn w x y := by
  obtain ⟨h1, h2, h3⟩ := c1_eq x y
  by_cases hw : w = 0
  · subst hw
    rw [wn_0, show (0 : Int) - 0 = 0 from rfl, wn_0]
    refine ⟨by rw [h1]; simp, by rw [h2]; simp, h3⟩
  · rw [wn_n hw, wn_n (by omega)]
    refine ⟨by simp [hw], by constructor <;> intro h <;> first | (left; exact h) | (rcases h with h | h <;> omega), rfl⟩
theorem c7_zero {a b c d e f g a' b' c' d' e' f' g' : Int} : U.c7 a b c d e f g a' b' c' d' e' f' g' = 0 ↔ a = a' ∧ b = b' ∧ c = c' ∧ d = d' ∧ e = e' ∧ f = f' ∧ g = g' := by
  unfold U.c7
  simp only [(wn_eq _ _ _).1, and_assoc, true_and]
theorem c7_swap (a b c d e f g a' b' c' d' e' f' g' : Int) : U.c7 a' b' c' d' e' f' g' a b c d e f g = 0 - U.c7 a b c d e f g a' b' c' d' e' f' g' := by
  unfold U.c7
  rw [← (wn_eq _ g g').2.2, ← (wn_eq _ f f').2.2, ← (wn_eq _ e e').2.2, ← (wn_eq _ d d').2.2, ← (wn_eq _ c c').2.2, ← (wn_eq _ b b').2.2, ← (wn_eq _ a a').2.2]
  rfl
theorem c7_neg {a b c d e f g a' b' c' d' e' f' g' : Int} : U.c7 a b c d e f g a' b' c' d' e' f' g' < 0 ↔
    a < a' ∨ a = a' ∧ (b < b' ∨ b = b' ∧ (c < c' ∨ c = c' ∧ (d < d' ∨ d = d' ∧ (e < e' ∨ e = e' ∧ (f < f' ∨ f = f' ∧ g < g'))))) := by
  unfold U.c7
  simp only [(wn_eq _ _ _).1, (wn_eq _ _ _).2.1, Int.lt_irrefl, false_or, true_and]
  constructor
  · rintro ((((((h | h) | h) | h) | h) | h) | h) <;> omega
  · rintro (h | ⟨h1, h | ⟨h2, h | ⟨h3, h | ⟨h4, h | ⟨h5, h | ⟨h6, h⟩⟩⟩⟩⟩⟩) <;> omega
def natAt (tm : List AV) (t : Nat) : Nat := match asNat (tm.getD t (lit undef)) with
  | some n => n
  | none => 0
def slX : AV → Option Sl
  | .inl (.inl (.inr (.inr (.inl s)))) => some s
  | _ => none
def blkI (tm : List AV) (σ : St) (t i : Nat) : Int := match slX (tm.getD t (lit undef)) with
  | some s => match getBlk σ s.b with
    | some x => match intX (cell (x.cells.getD (s.o + i) (.inl undef))) with
      | some (_, z) => z
      | none => 0
    | none => 0
  | none => 0
structure U.stp (w x y z : Int) : Prop where
  out : z = U.wn w x y
/-- A round of the order's loop: all ways through meet behind it. -/
def ordInv (c : Code) (tm : List AV) (σ : St) : Inv where
  X := Int
  tags := [0]
  tag _ _ := 0
  J := wrBut [6] c
  val _ x := [(6, xi .i64 x)]
  st _ _ σ' := σ'
  I _ x := U.stp (slotI tm 6) (blkI tm σ 7 (natAt tm 48)) (blkI tm σ 8 (natAt tm 48)) x
  m _ _ := 0
  ren := noRen
def ordMeet : InvF := fun c tm σ => if Nat.beq tm.length 129 then match c with
    | .block _ _ => match firstReg c with
      | some 8 => some (ordInv c tm σ)
      | _ => none
    | _ => none
  else none
end Go.Proofs.YtlfigaddddncmaaDoor
end
