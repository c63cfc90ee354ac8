/- Parts of a proof, one behind the other: H0 NB NB2 NB3. No condition. -/
import Derived.Test.YthfidldimbgipaaRkN
import Derived.Test.YthfidldimbgipaaRkO
import Derived.Test.YthfidldimbgipaaProg
import Derived.Test.YthfidldimbgipaaRkV
section
set_option linter.unusedVariables false
namespace Go.Proofs.Ythfidldimbgipaa
open Go Reck

theorem names : namesOk Try.prog = true := by kernel_rfl
def slotS (tm : List AV) (t : Nat) : ASl :=
  match aslX (tm.getD t (lit undef)) with
  | some s => s
  | none => ⟨0, 0, 0, 0⟩
def slotA (tm : List AV) (t : Nat) (σ : St) : List Int :=
  match getArr σ (slotS tm t).a with
  | some b => b.l
  | none => []
def isAsl (v : AV) : Bool := (aslX v).isSome
def isXint (v : AV) : Bool :=
  match v with
  | .inl (.inl (.inr (.inr (.inr (.inr (.inr (.inr (.inl _)))))))) => true
  | _ => false
def xiX : AV → Option (IntKind × Int)
  | .inl (.inl (.inr (.inr (.inr (.inr (.inr (.inr (.inl p)))))))) => some p
  | _ => none
theorem xiX_eq {x : AV} {k : IntKind} {n : Int} (h : xiX x = some (k, n)) : x = xi k n := by
  unfold xiX at h
  split at h
  · simp only [Option.some.injEq] at h; subst h; rfl
  · cases h
def tbl0 : Tbl := fun _ _ _ => none
theorem tbl0_ok : TblOk Try.prog tbl0 := by intro f tm σ C h; cases h
abbrev InvF := Code → List AV → St → Option Inv
def inv0 : InvF := fun _ _ _ => none
abbrev runI (inv : InvF) (tbl : Tbl) (f : Nat) (args : List AV) (σ : St) (K : AV → St → Prop) : Prop := goT Try.prog [] (orcOf inv tbl) (opMem Try.prog) 3000 (.inr (.inr (.inr (.inr f)))) args σ (retC σ K)
abbrev runL (inv : InvF) (tbl : Tbl) (f : Nat) (args : List AV) (σ : St) : Prop := goT Try.prog [] (orcOf inv tbl) (opMem Try.prog) 3000 (.inr (.inr (.inr (.inr f)))) args σ isTrue
def bs (L : List Int) (cap : Nat) (ro : Bool) : ABlk := ⟨5, .n .u8, L, cap, ro⟩
def ar (l : List ABlk) : St := ⟨[], [], 0, l.map some, 0⟩
theorem noOv : ([] : List FuncId).all (isOverlaps Try.prog) = true := rfl
def tblOr (a b : Tbl) : Tbl := fun f args σ => match a f args σ with
  | some c => some c
  | none => b f args σ
theorem tblOr_ok {P : Program} {a b : Tbl} (ha : TblOk P a) (hb : TblOk P b) : TblOk P (tblOr a b) := by
  intro f tm σ C h
  unfold tblOr at h
  split at h
  · rename_i c hc; simp only [Option.some.injEq] at h; subst h; exact ha f tm σ c hc
  · exact hb f tm σ C h
theorem bytes_wf {zs : List Int} (h : ∀ n ∈ zs, (Lit.int .u8 n).wf = true) : ∀ n ∈ zs, 0 ≤ n ∧ n < 256 := fun n hn => by
  have := h n hn
  simp [Lit.wf, IntKind.min, IntKind.max, IntKind.signed, IntKind.bits] at this
  omega
end Go.Proofs.Ythfidldimbgipaa
end

section
namespace Go.Proofs.Ythfidldimbgipaa
open Go Reck
set_option linter.unusedVariables false
set_option maxRecDepth 100000
theorem awake9_vc (K : AV → St → Prop) : (goT Try.prog [] (orcOf inv0 tbl0) (opCl Try.prog) 3000 (.inr (.inr (.inr (.inr 12)))) [] emptySt (retC emptySt K)) = (K (Sum.inl (Sum.inl (Sum.inl (Value.bool true)))) { heap := [], ints := [], opqs := (0 : Nat), arrs := [], junks := (0 : Nat) } ∧ K (Sum.inl (Sum.inl (Sum.inl (Value.bool true)))) { heap := [], ints := [], opqs := (0 : Nat), arrs := [], junks := (0 : Nat) }) := by kernel_rfl
end Go.Proofs.Ythfidldimbgipaa
end

section
namespace Go.Proofs.Ythfidldimbgipaa
open Go Reck
set_option linter.unusedVariables false
set_option maxRecDepth 100000
def tAwake9 : Tbl := fun f args σ => if f == 12 then match args, σ with
    | [], ⟨[], [], 0, [], 0⟩ => some fun K => K (lit (.bool true)) emptySt
    | _, _ => none
  else none
theorem blockNil_vc (i n : Int) : (runL inv0 tAwake9 6 [xi .i64 i, xi .i64 n] emptySt) = ((n < (0 : Int) → ((512 : Int) < n → ∀ (z0 : Int), z0 = max n (0 : Int) → ∀ (z1 : Int), z1 = min z0 (512 : Int) → (((0 : Int) ≤ z1 ∧ z1 ≤ z1 ∧ z1 ≤ (16777216 : Int)) ∧ ∀ (n2 m3 : Nat), (↑n2 : Int) = z1 → (↑m3 : Int) = z1 → ((0 : Int) ≤ z1 ∧ z1 ≤ z1 ∧ z1 ≤ (16777216 : Int)) ∧ ∀ (n4 m5 : Nat), (↑n4 : Int) = z1 → (↑m5 : Int) = z1 → ∀ (z6 : Int), z6 = (↑n2 : Int) → (z6 = (512 : Int) → True) ∧ (¬z6 = (512 : Int) → Err [(200 : Nat)])) ∧ ((0 : Int) ≤ z1 ∧ z1 ≤ z1 ∧ z1 ≤ (16777216 : Int)) ∧ ∀ (n7 m8 : Nat), (↑n7 : Int) = z1 → (↑m8 : Int) = z1 → ((0 : Int) ≤ z1 ∧ z1 ≤ z1 ∧ z1 ≤ (16777216 : Int)) ∧ ∀ (n9 m10 : Nat), (↑n9 : Int) = z1 → (↑m10 : Int) = z1 → ∀ (z11 : Int), z11 = (↑n9 : Int) → (z11 = (512 : Int) → True) ∧ (¬z11 = (512 : Int) → Err [(200 : Nat)])) ∧ (¬(512 : Int) < n → ∀ (z12 : Int), z12 = max n (0 : Int) → ∀ (z13 : Int), z13 = min z12 (512 : Int) → (((0 : Int) ≤ z13 ∧ z13 ≤ z13 ∧ z13 ≤ (16777216 : Int)) ∧ ∀ (n14 m15 : Nat), (↑n14 : Int) = z13 → (↑m15 : Int) = z13 → ((0 : Int) ≤ z13 ∧ z13 ≤ z13 ∧ z13 ≤ (16777216 : Int)) ∧ ∀ (n16 m17 : Nat), (↑n16 : Int) = z13 → (↑m17 : Int) = z13 → ∀ (z18 : Int), z18 = (↑n14 : Int) → (z18 = (0 : Int) → True) ∧ (¬z18 = (0 : Int) → Err [(200 : Nat)])) ∧ ((0 : Int) ≤ z13 ∧ z13 ≤ z13 ∧ z13 ≤ (16777216 : Int)) ∧ ∀ (n19 m20 : Nat), (↑n19 : Int) = z13 → (↑m20 : Int) = z13 → ((0 : Int) ≤ z13 ∧ z13 ≤ z13 ∧ z13 ≤ (16777216 : Int)) ∧ ∀ (n21 m22 : Nat), (↑n21 : Int) = z13 → (↑m22 : Int) = z13 → ∀ (z23 : Int), z23 = (↑n21 : Int) → (z23 = (0 : Int) → True) ∧ (¬z23 = (0 : Int) → Err [(200 : Nat)]))) ∧ (¬n < (0 : Int) → ((512 : Int) < n → ∀ (z24 : Int), z24 = max n (0 : Int) → ∀ (z25 : Int), z25 = min z24 (512 : Int) → (((0 : Int) ≤ z25 ∧ z25 ≤ z25 ∧ z25 ≤ (16777216 : Int)) ∧ ∀ (n26 m27 : Nat), (↑n26 : Int) = z25 → (↑m27 : Int) = z25 → ((0 : Int) ≤ z25 ∧ z25 ≤ z25 ∧ z25 ≤ (16777216 : Int)) ∧ ∀ (n28 m29 : Nat), (↑n28 : Int) = z25 → (↑m29 : Int) = z25 → ∀ (z30 : Int), z30 = (↑n26 : Int) → (z30 = (512 : Int) → True) ∧ (¬z30 = (512 : Int) → Err [(200 : Nat)])) ∧ ((0 : Int) ≤ z25 ∧ z25 ≤ z25 ∧ z25 ≤ (16777216 : Int)) ∧ ∀ (n31 m32 : Nat), (↑n31 : Int) = z25 → (↑m32 : Int) = z25 → ((0 : Int) ≤ z25 ∧ z25 ≤ z25 ∧ z25 ≤ (16777216 : Int)) ∧ ∀ (n33 m34 : Nat), (↑n33 : Int) = z25 → (↑m34 : Int) = z25 → ∀ (z35 : Int), z35 = (↑n33 : Int) → (z35 = (512 : Int) → True) ∧ (¬z35 = (512 : Int) → Err [(200 : Nat)])) ∧ (¬(512 : Int) < n → ∀ (z36 : Int), z36 = max n (0 : Int) → ∀ (z37 : Int), z37 = min z36 (512 : Int) → (((0 : Int) ≤ z37 ∧ z37 ≤ z37 ∧ z37 ≤ (16777216 : Int)) ∧ ∀ (n38 m39 : Nat), (↑n38 : Int) = z37 → (↑m39 : Int) = z37 → ((0 : Int) ≤ z37 ∧ z37 ≤ z37 ∧ z37 ≤ (16777216 : Int)) ∧ ∀ (n40 m41 : Nat), (↑n40 : Int) = z37 → (↑m41 : Int) = z37 → ∀ (z42 : Int), z42 = (↑n38 : Int) → (z42 = n → True) ∧ (¬z42 = n → Err [(200 : Nat)])) ∧ ((0 : Int) ≤ z37 ∧ z37 ≤ z37 ∧ z37 ≤ (16777216 : Int)) ∧ ∀ (n43 m44 : Nat), (↑n43 : Int) = z37 → (↑m44 : Int) = z37 → ((0 : Int) ≤ z37 ∧ z37 ≤ z37 ∧ z37 ≤ (16777216 : Int)) ∧ ∀ (n45 m46 : Nat), (↑n45 : Int) = z37 → (↑m46 : Int) = z37 → ∀ (z47 : Int), z47 = (↑n45 : Int) → (z47 = n → True) ∧ (¬z47 = n → Err [(200 : Nat)])))) := by kernel_rfl
end Go.Proofs.Ythfidldimbgipaa
end

section
set_option linter.unusedVariables false
set_option linter.unusedSimpArgs false
set_option maxRecDepth 10000
namespace Go.Proofs.Ythfidldimbgipaa
open Go Reck Ost
theorem awake9_run (K : AV → St → Prop) (h : K (lit (.bool true)) emptySt) : goT Try.prog [] (orcOf inv0 tbl0) (opCl Try.prog) 3000 (.inr (.inr (.inr (.inr 12)))) [] emptySt (retC emptySt K) := by
  rw [awake9_vc]
  exact ⟨h, h⟩
theorem tAwake9_ok : TblOk Try.prog tAwake9 := by
  intro f tm σ C h K hK
  unfold tAwake9 at h
  split at h
  · rename_i hf
    obtain rfl : f = 12 := by simpa using hf
    split at h
    · simp only [Option.some.injEq] at h; subst h
      exact knownD noOv names (opCl_ok _) (conOk_of tbl0_ok) (awake9_run K hK)
    · cases h
  · cases h
theorem blockNil_run (i n : Int) (hn : -9223372036854775808 ≤ n ∧ n ≤ 9223372036854775807) : runL inv0 tAwake9 6 [xi .i64 i, xi .i64 n] emptySt := by
  rw [blockNil_vc]
  repeat' (first | exact trivial | with_reducible apply And.intro | intro _)
  all_goals (first | omega | (exfalso; omega))
theorem ok_none9 (w : World) : Ok w (arE []) emptySt w := ok_arrs w (l := []) (bs := []) rfl (by simp) (by intro i x q h; simp at h)
theorem i64_bd9 {x : Int} (h : (Lit.int .i64 x).wf = true) : -9223372036854775808 ≤ x ∧ x ≤ 9223372036854775807 := by
  simp [Lit.wf, IntKind.min, IntKind.max, IntKind.signed, IntKind.bits] at h; omega
theorem blockNil_walk (i n : Int) (w : World) (hi : (Lit.int .i64 i).wf = true) (hn : (Lit.int .i64 n).wf = true) : Calls Try.prog 6 #[.int .i64 i, .int .i64 n] w fun en w' => en = .returned (.bool true) ∧ Only (fun _ => False) w w' :=
  call_true noOv names (conOk_of tAwake9_ok) (blockNil_run i n (i64_bd9 hn)) (ok_none9 w) (vs := [.int .i64 i, .int .i64 n]) rfl
end Go.Proofs.Ythfidldimbgipaa
end
