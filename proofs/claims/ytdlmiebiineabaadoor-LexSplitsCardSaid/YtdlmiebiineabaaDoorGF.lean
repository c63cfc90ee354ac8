/- Parts of a proof, one behind the other: LT2 LT3. No condition. -/
import Derived.Test.YtdlmiebiineabaaDoorGC
import Derived.Test.YtdlmiebiineabaaDoorGE
section
namespace Go.Proofs.YtdlmiebiineabaaDoor
open Go Reck Ost
set_option linter.unusedVariables false
def tSplits : Tbl := tblOr (tblIf 7 (pSplit 33)) (tblIf 8 (pSplit 37))
def tLT2 : Tbl := tblOr tSplits (tblOr (tblIf 9 pSame) (tblIf 10 pAwake))
set_option maxRecDepth 100000
--PLAIN
theorem lexSplits_vc (s : List Int) : (goT Tryd.prog [] (orcR inv0 (fun _ _ _ => none) tLT2) (opMem Tryd.prog) 3000 (.inr (.inr (.inr (.inr 3)))) [cell (strC s)] emptySt isTrue) = (∀ (z0 : Int), z0 = (↑(List.length s) : Int) → ((4200 : Int) < z0 → ((0 : Int) ≤ (0 : Int) ∧ (0 : Int) ≤ (4200 : Nat) ∧ (4200 : Nat) ≤ (↑(List.length s) : Int)) ∧ ∀ (a1 b2 : Nat), (↑a1 : Int) = (0 : Int) → (↑b2 : Int) = (4200 : Nat) - (0 : Int) → ∀ (l'3 : List Int), l'3 = List.take b2 (List.drop a1 s) → ∀ (L4 : List (List CV)) (n5 c6 : Nat) (p7 e8 : Int), U.Split l'3 L4 p7 e8 → List.length L4 = n5 → n5 ≤ c6 → n5 ≤ (4096 : Nat) → ∀ (L9 : List (List CV)) (n10 c11 : Nat) (p12 e13 : Int), U.Split l'3 L9 p12 e13 → List.length L9 = n10 → n10 ≤ c11 → n10 ≤ (4096 : Nat) → (e8 = e13 → (p7 = p12 → (L9 = L4 ∧ n10 = n5 ∧ (0 : Int) = (0 : Int) ∧ c6 = c6 ∧ c11 = c11 ∧ List.length L4 = n5 ∧ n5 ≤ (9000 : Nat) ∧ U.AtOk L4) ∧ True) ∧ (¬p7 = p12 → Err [(200 : Nat)])) ∧ (¬e8 = e13 → Err [(200 : Nat)])) ∧ (¬(4200 : Int) < z0 → ∀ (L14 : List (List CV)) (n15 c16 : Nat) (p17 e18 : Int), U.Split s L14 p17 e18 → List.length L14 = n15 → n15 ≤ c16 → n15 ≤ (4096 : Nat) → ∀ (L19 : List (List CV)) (n20 c21 : Nat) (p22 e23 : Int), U.Split s L19 p22 e23 → List.length L19 = n20 → n20 ≤ c21 → n20 ≤ (4096 : Nat) → (e18 = e23 → (p17 = p22 → (L19 = L14 ∧ n20 = n15 ∧ (0 : Int) = (0 : Int) ∧ c16 = c16 ∧ c21 = c21 ∧ List.length L14 = n15 ∧ n15 ≤ (9000 : Nat) ∧ U.AtOk L14) ∧ True) ∧ (¬p17 = p22 → Err [(200 : Nat)])) ∧ (¬e18 = e23 → Err [(200 : Nat)]))) := by kernel_rfl
end Go.Proofs.YtdlmiebiineabaaDoor
end

section
set_option linter.unusedVariables false
set_option linter.unusedSimpArgs false
namespace Go.Proofs.YtdlmiebiineabaaDoor
open Go Reck Ost
theorem tSplits_ok : TblOk Tryd.prog tSplits := tblOr_ok (tblIf_ok pSplit_ok) (tblIf_ok pRSplit_ok)
theorem tLT2_ok : TblOk Tryd.prog tLT2 := tblOr_ok tSplits_ok (tblOr_ok (tblIf_ok pSame_ok) (tblIf_ok pAwake_ok))
theorem lexSplits_run (s : List Int) : goT Tryd.prog [] (orcR inv0 (fun _ _ _ => none) tLT2) (opMem Tryd.prog) 3000 (.inr (.inr (.inr (.inr 3)))) [cell (strC s)] emptySt isTrue := by
  rw [lexSplits_vc]
  have fin : ∀ (t : List Int) (L M : List (List CV)) (n m c d : Nat) (p q e f : Int), U.Split t L p e → L.length = n → n ≤ c → n ≤ 4096 → U.Split t M q f → M.length = m → m ≤ d → m ≤ 4096 →
      (e = f → (p = q → (M = L ∧ m = n ∧ (0 : Int) = (0 : Int) ∧ c = c ∧ d = d ∧ List.length L = n ∧ n ≤ (9000 : Nat) ∧ U.AtOk L) ∧ True) ∧ (¬p = q → Err [(200 : Nat)])) ∧ (¬e = f → Err [(200 : Nat)]) := by
    intro t L M n m c d p q e f h1 h2 h3 h4 g1 g2 g3 g4
    obtain ⟨rfl, rfl, rfl⟩ := Split.det h1 g1
    exact ⟨fun _ => ⟨fun _ => ⟨⟨rfl, by omega, rfl, rfl, rfl, h2, by omega, Split.at_ h1⟩, trivial⟩, fun h => absurd rfl h⟩, fun h => absurd rfl h⟩
  intro z hz
  refine ⟨fun hl => ⟨⟨by omega, by decide, by simp; omega⟩, fun a b ha hb t ht L n c p e h1 h2 h3 h4 M m d q f g1 g2 g3 g4 => fin t L M n m c d p q e f h1 h2 h3 h4 g1 g2 g3 g4⟩, fun hl L n c p e h1 h2 h3 h4 M m d q f g1 g2 g3 g4 => fin s L M n m c d p q e f h1 h2 h3 h4 g1 g2 g3 g4⟩
theorem str_av (s : ByteArray) (e : Env) : Reck.av e (cell (strC (s.data.toList.map fun b => (b.toNat : Int)))) = some (.string s) := by
  have h := strC_av (byteZ_lit s) e
  rw [strZ_lit] at h; exact h
theorem lexSplits_walk (s : ByteArray) (w : World) (hs : s.size ≤ maxLen) : Calls Tryd.prog 3 #[.string s] w fun en w' => en = .returned (.bool true) ∧ Only (fun _ => False) w w' :=
  call_true noOv names (conOk_ofR tLT2_ok) (lexSplits_run (s.data.toList.map fun b => (b.toNat : Int))) (ok_empty w) (vs := [.string s]) (by simp only [List.map_cons, List.map_nil, str_av])
end Go.Proofs.YtdlmiebiineabaaDoor
end
