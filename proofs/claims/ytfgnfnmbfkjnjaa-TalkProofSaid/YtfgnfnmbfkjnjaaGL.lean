/- Parts of a proof, one behind the other: TL1 TL2. No condition. -/
import Derived.Test.YtfgnfnmbfkjnjaaGU
import Derived.Test.YtfgnfnmbfkjnjaaGR
import Derived.Test.YtfgnfnmbfkjnjaaGV
section
namespace Go.Proofs.Ytfgnfnmbfkjnjaa
open Go Reck
set_option linter.unusedVariables false
set_option maxRecDepth 100000
--PLAIN
theorem awake_vc (K : AV → St → Prop) : (runI inv0 tTB 15 [] emptySt K) = (U.TKin (0 : Int) (0 : Int) (0 : Int) (0 : Int) (0 : Int) (0 : Int) (0 : Int) ∧ (U.TMay (7 : Int) (0 : Int) (0 : Int) (0 : Int) (0 : Int) (0 : Int) (0 : Int) (0 : Int) [(97 : Int), (110 : Int), (110 : Int)] → ∀ (L0 : List Int) (n1 c2 cap3 : Nat), U.TWr (7 : Int) (0 : Int) (0 : Int) (0 : Int) (0 : Int) (0 : Int) (0 : Int) (0 : Int) [(97 : Int), (110 : Int), (110 : Int)] L0 → n1 = List.length L0 → n1 ≤ (200 : Nat) → n1 ≤ c2 → c2 ≤ cap3 → ((0 : Int) = (0 : Int) → (Nat.le ((0 : Nat) + n1) (List.length L0) ∧ ByteL (List.take n1 (List.drop ((0 : Nat)) L0))) ∧ ∀ (l'4 : List Int), l'4 = List.take n1 (List.drop ((0 : Nat)) L0) → (l'4 = [(79 : Int), (83 : Int), (7 : Int), (3 : Int), (97 : Int), (110 : Int), (110 : Int)] → (U.Nm [(97 : Int), (110 : Int), (110 : Int)] → (U.Nm [(57 : Int), (97 : Int)] → K (Sum.inl (Sum.inl (Sum.inl (Value.bool false)))) { heap := [], ints := [], opqs := (0 : Nat), arrs := [], junks := (0 : Nat) }) ∧ (¬U.Nm [(57 : Int), (97 : Int)] → K (Sum.inl (Sum.inl (Sum.inl (Value.bool true)))) { heap := [], ints := [], opqs := (0 : Nat), arrs := [], junks := (0 : Nat) })) ∧ (¬U.Nm [(97 : Int), (110 : Int), (110 : Int)] → K (Sum.inl (Sum.inl (Sum.inl (Value.bool false)))) { heap := [], ints := [], opqs := (0 : Nat), arrs := [], junks := (0 : Nat) })) ∧ (¬l'4 = [(79 : Int), (83 : Int), (7 : Int), (3 : Int), (97 : Int), (110 : Int), (110 : Int)] → K (Sum.inl (Sum.inl (Sum.inl (Value.bool false)))) { heap := [], ints := [], opqs := (0 : Nat), arrs := [], junks := (0 : Nat) })) ∧ (¬(0 : Int) = (0 : Int) → K (Sum.inl (Sum.inl (Sum.inl (Value.bool false)))) { heap := [], ints := [], opqs := (0 : Nat), arrs := [], junks := (0 : Nat) })) ∧ (¬U.TMay (7 : Int) (0 : Int) (0 : Int) (0 : Int) (0 : Int) (0 : Int) (0 : Int) (0 : Int) [(97 : Int), (110 : Int), (110 : Int)] → ((1 : Int) = (0 : Int) → K (Sum.inl (Sum.inl (Sum.inl (Value.bool false)))) { heap := [], ints := [], opqs := (0 : Nat), arrs := [], junks := (0 : Nat) }) ∧ (¬(1 : Int) = (0 : Int) → K (Sum.inl (Sum.inl (Sum.inl (Value.bool false)))) { heap := [], ints := [], opqs := (0 : Nat), arrs := [], junks := (0 : Nat) }))) := by kernel_rfl
end Go.Proofs.Ytfgnfnmbfkjnjaa
end

section
set_option linter.unusedVariables false
set_option linter.unusedSimpArgs false
namespace Go.Proofs.Ytfgnfnmbfkjnjaa
open Go Reck
theorem nm_ann : U.Nm [97, 110, 110] := ⟨by decide, fun i hi => by
  match i, hi with
  | 0, _ => left; decide
  | 1, _ => left; decide
  | 2, _ => left; decide⟩
theorem nm_9a : ¬ U.Nm [57, 97] := fun h => by
  have := h.all 0 (by decide)
  simp [U.NmB] at this
theorem fit_0 {w : Int} : U.Fit 0 w := ⟨Int.pow_pos (by decide)⟩
theorem awake_run (K : AV → St → Prop) (h : K (lit (.bool true)) emptySt) : runI inv0 tTB 15 [] emptySt K := by
  rw [awake_vc]
  have hM : U.TMay 7 0 0 0 0 0 0 0 [97, 110, 110] := ⟨by decide, fun _ => nm_ann, fun h => absurd ⟨by decide⟩ h, fit_0, fit_0, fit_0, ⟨by decide, fit_0⟩, fit_0, fit_0, ⟨by decide, fit_0⟩⟩
  refine ⟨⟨by decide, by decide, by decide, by decide, by decide, by decide, by decide⟩, fun _ L n c cap hW hn hn2 hc hp => ⟨fun _ => ⟨⟨?_, ⟨?_⟩⟩, fun l' hl' => ⟨fun _ => ⟨fun _ => ⟨fun hh => absurd hh nm_9a, fun _ => h⟩, fun hh => absurd nm_ann hh⟩, fun hh => ?_⟩⟩, fun hh => absurd rfl hh⟩, fun hh => absurd hM hh⟩
  · show 0 + n ≤ L.length; omega
  · have hWb : U.By L := by obtain ⟨N, hN⟩ := hW; exact out_by' hN
    exact all_bytes (by_mem (by_take hWb _))
  · refine absurd ?_ hh
    have e := (tby7 nm_ann).1 hW
    rw [hl', hn, List.drop_zero, List.take_length, e]
    rfl
def tAwake7 : Tbl := fun f args σ => if f == 15 then match args, σ with
    | [], ⟨[], [], 0, [], 0⟩ => some fun K => K (lit (.bool true)) emptySt
    | _, _ => none
  else none
theorem tAwake7_ok : TblOk Try.prog tAwake7 := by
  intro f tm σ C h K hK
  unfold tAwake7 at h
  split at h
  · rename_i hf
    obtain rfl : f = 15 := by simpa using hf
    split at h
    · simp only [Option.some.injEq] at h; subst h
      exact knownC noOv names (conOk_of tTB_ok) (awake_run K hK)
    · cases h
  · cases h
def tTL : Tbl := tblOr tAwake7 tTB
theorem tTL_ok : TblOk Try.prog tTL := tblOr_ok tAwake7_ok tTB_ok
end Go.Proofs.Ytfgnfnmbfkjnjaa
end
