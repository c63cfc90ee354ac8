/- Layer 3: what is known of its functions; the first statement comes to little. No condition. -/
import Derived.Test.YtpmnioadbkhpoaaS5
namespace Go.Proofs.Ytpmnioadbkhpoaa
open Go Reck
set_option linter.unusedVariables false
structure U.B (L : List Int) : Prop where
  out : byteL L
def U.S (L : List Int) (o n : Nat) : Int := netS (fold (true, 0) ((L.drop o).take n)).2
def U.m3 (n : Nat) : Nat := min n 300
set_option maxRecDepth 100000
theorem noOv : ([] : List FuncId).all (isOverlaps Try.prog) = true := rfl
theorem short_run (K : AV → St → Prop) (L : List Int) (o n c cap : Nat) (ro : Bool) (hc : n ≤ c) (h : K (cell (aslC ⟨0, o, min n 300, c⟩)) (ar [bs L cap ro])) : run0 9 [cell (aslC ⟨0, o, n, c⟩)] (ar [bs L cap ro]) K := by
  rw [short_vc]
  intro z0 hz0
  refine ⟨fun h1 => ⟨by omega, fun n1 hn => ?_⟩, fun h1 => ?_⟩
  · obtain rfl : n1 = min n 300 := by omega
    exact h
  · have : min n 300 = n := by omega
    rw [this] at h; exact h
def tShort : Tbl := fun f args σ => if f == 9 then match args, σ with
    | [a], ⟨[], [], 0, [some ⟨5, .u8, L, cap, ro⟩], 0⟩ => match aslX a with
      | some ⟨0, o, n, c⟩ => some fun K => n ≤ c ∧ ∀ n' : Nat, n' = U.m3 n → K (cell (aslC ⟨0, o, n', c⟩)) (ar [bs L cap ro])
      | _ => none
    | _, _ => none
  else none
def tRefNet : Tbl := fun f args σ => if f == 11 then match args, σ with
    | [a], ⟨[], [], 0, [some ⟨5, .u8, L, cap, ro⟩], 0⟩ => match aslX a with
      | some ⟨0, o, n, c⟩ => some fun K => (U.B L ∧ o + n ≤ L.length ∧ n ≤ 300) ∧ ∀ z : Int, z = U.S L o n → K (xi .u16 z) (ar [bs L cap ro])
      | _ => none
    | _, _ => none
  else none
def tNet1 : Tbl := fun f args σ => if f == 10 then match args, σ with
    | [.inl (.inl (.inr (.inr (.inl ⟨0, 0, 1, none, 1⟩))))], ⟨[some ⟨22, [a], none, 1, false⟩], [], 0, [some ⟨5, .u8, L, cap, ro⟩], 0⟩ => match aslX (cell a) with
      | some ⟨0, o, n, c⟩ => some fun K => (U.B L ∧ o + n ≤ L.length ∧ n ≤ 300) ∧ ∀ z : Int, z = U.S L o n → K (xi .u16 z) ⟨[pt [aslC ⟨0, o, n, c⟩]], [], 0, [some (bs L cap ro)], 0⟩
      | _ => none
    | _, _ => none
  else none
def tAwake : Tbl := fun f args σ => if f == 12 then match args, σ with
    | [], ⟨[], [], 0, [], 0⟩ => some fun K => K (lit (.bool true)) emptySt
    | _, _ => none
  else none
def tblOr (a b : Tbl) : Tbl := fun f args σ => match a f args σ with
  | some c => some c
  | none => b f args σ
def tbl1 : Tbl := tblOr tAwake (tblOr tShort (tblOr tRefNet tNet1))
abbrev run1 (f : Nat) (args : List AV) (σ : St) : Prop := goT Try.prog [] (orcOf inv1 tbl1) (opMem Try.prog) 3000 (.inr (.inr (.inr (.inr f)))) args σ isTrue
theorem awake_vc (K : AV → St → Prop) : (run0 12 [] emptySt K) = (K (Sum.inl (Sum.inl (Sum.inl (Value.bool true)))) { heap := [], ints := [], opqs := (0 : Nat), arrs := [], junks := (0 : Nat) }) := by kernel_rfl
theorem sumNet_vc (L : List Int) (n c : Nat) : (run1 3 [cell (aslC ⟨0, 0, n, c⟩)] (ar [bs L 0 true])) = (n ≤ c ∧ ∀ (n'0 : Nat), n'0 = U.m3 n → (U.B L ∧ OfNat.ofNat (0 : Nat) + n'0 ≤ List.length L ∧ n'0 ≤ (300 : Nat)) ∧ ∀ (z1 : Int), z1 = U.S L (OfNat.ofNat (0 : Nat)) n'0 → (U.B L ∧ OfNat.ofNat (0 : Nat) + n'0 ≤ List.length L ∧ n'0 ≤ (300 : Nat)) ∧ ∀ (z2 : Int), z2 = U.S L (OfNat.ofNat (0 : Nat)) n'0 → (z1 = z2 → True) ∧ (¬z1 = z2 → Err [(200 : Nat)])) := by kernel_rfl
end Go.Proofs.Ytpmnioadbkhpoaa
