/- Layer 3: the tag's statement comes to little. No condition. -/
import Derived.Test.YtpmnioadbkhpoaaG8
namespace Go.Proofs.Ytpmnioadbkhpoaa
open Go Reck
set_option maxRecDepth 100000
set_option linter.unusedVariables false
def tTag : Tbl := fun f args σ => if f == 15 then match args, σ with
    | [x, y, .inl (.inl (.inr (.inr (.inl ⟨0, 0, 1, none, 1⟩))))], ⟨[some ⟨22, [a], none, 1, false⟩], [], 0, [some ⟨5, .u8, L, cap, ro⟩], 0⟩ => match intX x, intX y, aslX (cell a) with
      | some (.u64, p), some (.u64, q), some ⟨0, o, n, c⟩ => some fun K => (U.B L ∧ o + n ≤ L.length ∧ n ≤ 300) ∧ ∀ z : Int, z = U.T p q L o n → K (xi .u64 z) ⟨[pt [aslC ⟨0, o, n, c⟩]], [], 0, [some (bs L cap ro)], 0⟩
      | _, _, _ => none
    | _, _ => none
  else none
def tRTag : Tbl := fun f args σ => if f == 16 then match args, σ with
    | [x, y, a], ⟨[], [], 0, [some ⟨5, .u8, L, cap, ro⟩], 0⟩ => match intX x, intX y, aslX a with
      | some (.u64, p), some (.u64, q), some ⟨0, o, n, c⟩ => some fun K => (U.B L ∧ o + n ≤ L.length ∧ n ≤ 300) ∧ ∀ z : Int, z = U.T p q L o n → K (xi .u64 z) (ar [bs L cap ro])
      | _, _, _ => none
    | _, _ => none
  else none
def tbl5 : Tbl := tblOr tAwake (tblOr tShort (tblOr tTag tRTag))
abbrev run5 (f : Nat) (args : List AV) (σ : St) : Prop := goT Try.prog [] (orcOf inv1 tbl5) (opMem Try.prog) 3000 (.inr (.inr (.inr (.inr f)))) args σ isTrue
theorem sumTag_vc (x y : Int) (L : List Int) (n c : Nat) : (run5 5 [xi .u64 x, xi .u64 y, cell (aslC ⟨0, 0, n, c⟩)] (ar [bs L 0 true])) = (n ≤ c ∧ ∀ (n'0 : Nat), n'0 = U.m3 n → (U.B L ∧ OfNat.ofNat (0 : Nat) + n'0 ≤ List.length L ∧ n'0 ≤ (300 : Nat)) ∧ ∀ (z1 : Int), z1 = U.T x y L (OfNat.ofNat (0 : Nat)) n'0 → (U.B L ∧ OfNat.ofNat (0 : Nat) + n'0 ≤ List.length L ∧ n'0 ≤ (300 : Nat)) ∧ ∀ (z2 : Int), z2 = U.T x y L (OfNat.ofNat (0 : Nat)) n'0 → (z1 = z2 → True) ∧ (¬z1 = z2 → Err [(200 : Nat)])) := by kernel_rfl
end Go.Proofs.Ytpmnioadbkhpoaa
