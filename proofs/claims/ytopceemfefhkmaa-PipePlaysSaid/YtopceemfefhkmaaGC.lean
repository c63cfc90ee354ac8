/- Parts of a proof, one behind the other: PN0 PN1 PN2. No condition. -/
import Derived.Test.YtopceemfefhkmaaGB
section
namespace Go.Proofs.Ytopceemfefhkmaa
open Go Reck Ost
set_option linter.unusedVariables false
set_option maxRecDepth 100000
--PLAIN
theorem awake20_vc (K : AV → St → Prop) : (runR inv0 tPp2 14 [] emptySt K) = (∀ (m'0 : Int), m'0 = (2 : Int) → ∃ (y1 : List Int), (U.Rg [] (0 : Nat) (0 : Nat) (0 : Nat) (0 : Nat) y1 ∧ U.sm (0 : Int) ∧ ((0 : Int) ≤ m'0 ∧ m'0 ≤ (4096 : Int)) ∧ (2 : Int) = m'0) ∧ ∀ (s'2 : Int) (L'3 : List Int) (n'4 c'5 : Nat), s'2 = (3 : Int) → n'4 = (2 : Nat) → U.Rg L'3 (0 : Nat) n'4 c'5 c'5 (y1 ++ [(5 : Int), (6 : Int)]) → ∃ (y6 : List Int), (U.Rg L'3 ((0 : Nat)) n'4 c'5 c'5 y6 ∧ U.sm (0 : Int) ∧ ((0 : Int) ≤ m'0 ∧ m'0 ≤ (4096 : Int)) ∧ (↑n'4 : Int) ≤ m'0) ∧ (¬((0 : Int) ≤ (0 : Int) ∧ (0 : Int) < (↑n'4 : Int) ∧ (↑n'4 : Int) < m'0) → ∃ (y7 : List Int), U.Rg L'3 ((0 : Nat)) n'4 c'5 c'5 y7 ∧ ∀ (k8 : Int) (L'9 : List Int) (o'10 n'11 c'12 : Nat), k8 = U.lc y7 (0 : Int) → U.Rg L'9 o'10 n'11 c'12 c'5 (U.ls y7 (0 : Int)) → ∃ (y13 : List Int), (U.Rg L'9 o'10 n'11 c'12 c'5 y13 ∧ U.sm (0 : Int)) ∧ (¬((0 : Int) ≤ (0 : Int) ∧ (0 : Int) < (↑n'11 : Int)) → (U.sm s'2 ∧ U.sm (0 : Int) ∧ U.sm (0 : Int) ∧ n'11 ≤ (16777216 : Nat)) ∧ ∀ (z14 : Int), z14 = s'2 + (0 : Int) - (0 : Int) - (↑n'11 : Int) → ((2 : Int) = (2 : Int) → (k8 = (1 : Int) → ((0 : Int) = (6 : Int) → K (Sum.inl (Sum.inl (Sum.inl (Value.bool false)))) { heap := [], ints := [], opqs := (0 : Nat), arrs := [], junks := (0 : Nat) }) ∧ (¬(0 : Int) = (6 : Int) → K (Sum.inl (Sum.inl (Sum.inl (Value.bool false)))) { heap := [], ints := [], opqs := (0 : Nat), arrs := [], junks := (0 : Nat) })) ∧ (¬k8 = (1 : Int) → K (Sum.inl (Sum.inl (Sum.inl (Value.bool false)))) { heap := [], ints := [], opqs := (0 : Nat), arrs := [], junks := (0 : Nat) })) ∧ (¬(2 : Int) = (2 : Int) → K (Sum.inl (Sum.inl (Sum.inl (Value.bool false)))) { heap := [], ints := [], opqs := (0 : Nat), arrs := [], junks := (0 : Nat) })) ∧ ((0 : Int) ≤ (0 : Int) ∧ (0 : Int) < (↑n'11 : Int) → ∀ (z15 e'16 : Int) (L'17 : List Int) (o'18 n'19 c'20 : Nat), z15 = U.at y13 (0 : Int) → e'16 = (1 : Int) → U.Rg L'17 o'18 n'19 c'20 c'5 (U.er y13 (0 : Int)) → (U.sm s'2 ∧ U.sm e'16 ∧ U.sm (0 : Int) ∧ n'19 ≤ (16777216 : Nat)) ∧ ∀ (z21 : Int), z21 = s'2 + (0 : Int) - e'16 - (↑n'19 : Int) → ((2 : Int) = (2 : Int) → (k8 = (1 : Int) → (z15 = (6 : Int) → (s'2 = (3 : Int) → (e'16 = (1 : Int) → ((0 : Int) = (0 : Int) → (z21 = (2 : Int) → K (Sum.inl (Sum.inl (Sum.inl (Value.bool true)))) { heap := [], ints := [], opqs := (0 : Nat), arrs := [], junks := (0 : Nat) }) ∧ (¬z21 = (2 : Int) → K (Sum.inl (Sum.inl (Sum.inl (Value.bool false)))) { heap := [], ints := [], opqs := (0 : Nat), arrs := [], junks := (0 : Nat) })) ∧ (¬(0 : Int) = (0 : Int) → K (Sum.inl (Sum.inl (Sum.inl (Value.bool false)))) { heap := [], ints := [], opqs := (0 : Nat), arrs := [], junks := (0 : Nat) })) ∧ (¬e'16 = (1 : Int) → K (Sum.inl (Sum.inl (Sum.inl (Value.bool false)))) { heap := [], ints := [], opqs := (0 : Nat), arrs := [], junks := (0 : Nat) })) ∧ (¬s'2 = (3 : Int) → K (Sum.inl (Sum.inl (Sum.inl (Value.bool false)))) { heap := [], ints := [], opqs := (0 : Nat), arrs := [], junks := (0 : Nat) })) ∧ (¬z15 = (6 : Int) → K (Sum.inl (Sum.inl (Sum.inl (Value.bool false)))) { heap := [], ints := [], opqs := (0 : Nat), arrs := [], junks := (0 : Nat) })) ∧ (¬k8 = (1 : Int) → K (Sum.inl (Sum.inl (Sum.inl (Value.bool false)))) { heap := [], ints := [], opqs := (0 : Nat), arrs := [], junks := (0 : Nat) })) ∧ (¬(2 : Int) = (2 : Int) → K (Sum.inl (Sum.inl (Sum.inl (Value.bool false)))) { heap := [], ints := [], opqs := (0 : Nat), arrs := [], junks := (0 : Nat) }))) ∧ ((0 : Int) ≤ (0 : Int) ∧ (0 : Int) < (↑n'4 : Int) ∧ (↑n'4 : Int) < m'0 → ∀ (d'22 : Int) (L'23 : List Int) (n'24 c'25 : Nat), d'22 = (1 : Int) → n'24 = n'4 + (1 : Nat) → U.Rg L'23 (0 : Nat) n'24 c'25 c'25 (y6 ++ [U.at y6 (0 : Int)]) → ∃ (y26 : List Int), U.Rg L'23 ((0 : Nat)) n'24 c'25 c'25 y26 ∧ ∀ (k27 : Int) (L'28 : List Int) (o'29 n'30 c'31 : Nat), k27 = U.lc y26 (0 : Int) → U.Rg L'28 o'29 n'30 c'31 c'25 (U.ls y26 (0 : Int)) → ∃ (y32 : List Int), (U.Rg L'28 o'29 n'30 c'31 c'25 y32 ∧ U.sm (0 : Int)) ∧ (¬((0 : Int) ≤ (0 : Int) ∧ (0 : Int) < (↑n'30 : Int)) → (U.sm s'2 ∧ U.sm (0 : Int) ∧ U.sm d'22 ∧ n'30 ≤ (16777216 : Nat)) ∧ ∀ (z33 : Int), z33 = s'2 + d'22 - (0 : Int) - (↑n'30 : Int) → ((2 : Int) = (2 : Int) → K (Sum.inl (Sum.inl (Sum.inl (Value.bool false)))) { heap := [], ints := [], opqs := (0 : Nat), arrs := [], junks := (0 : Nat) }) ∧ (¬(2 : Int) = (2 : Int) → K (Sum.inl (Sum.inl (Sum.inl (Value.bool false)))) { heap := [], ints := [], opqs := (0 : Nat), arrs := [], junks := (0 : Nat) })) ∧ ((0 : Int) ≤ (0 : Int) ∧ (0 : Int) < (↑n'30 : Int) → ∀ (z34 e'35 : Int) (L'36 : List Int) (o'37 n'38 c'39 : Nat), z34 = U.at y32 (0 : Int) → e'35 = (1 : Int) → U.Rg L'36 o'37 n'38 c'39 c'25 (U.er y32 (0 : Int)) → (U.sm s'2 ∧ U.sm e'35 ∧ U.sm d'22 ∧ n'38 ≤ (16777216 : Nat)) ∧ ∀ (z40 : Int), z40 = s'2 + d'22 - e'35 - (↑n'38 : Int) → ((2 : Int) = (2 : Int) → K (Sum.inl (Sum.inl (Sum.inl (Value.bool false)))) { heap := [], ints := [], opqs := (0 : Nat), arrs := [], junks := (0 : Nat) }) ∧ (¬(2 : Int) = (2 : Int) → K (Sum.inl (Sum.inl (Sum.inl (Value.bool false)))) { heap := [], ints := [], opqs := (0 : Nat), arrs := [], junks := (0 : Nat) })))) := by kernel_rfl
end Go.Proofs.Ytopceemfefhkmaa
end

section
namespace Go.Proofs.Ytopceemfefhkmaa
open Go Reck Ost
set_option linter.unusedVariables false
set_option maxRecDepth 100000
def tAw20 : Tbl := fun f args σ => if f == 14 then match args, σ with
    | [], ⟨[], [], 0, [], 0⟩ => some fun K => K (lit (.bool true)) emptySt
    | _, _ => none
  else none
abbrev runP (inv : InvF) (tbl : Tbl) (f : Nat) (args : List AV) (σ : St) : Prop := goT Try.prog [] (orcR inv nmt tbl) (opMem Try.prog) 3000 (.inr (.inr (.inr (.inr f)))) args σ isTrue
def tPp3 : Tbl := tblOr tAw20 tPp2
--PLAIN
theorem pipeNil_vc (i : Int) : (runP inv0 tAw20 5 [xi .i64 i] emptySt) = (∀ (z0 : Int), z0 = (↑((0 : Nat)) : Int) → (z0 = (0 : Int) → True) ∧ (¬z0 = (0 : Int) → Err [(200 : Nat)])) := by kernel_rfl
end Go.Proofs.Ytopceemfefhkmaa
end

section
set_option linter.unusedVariables false
set_option linter.unusedSimpArgs false
set_option maxRecDepth 10000
namespace Go.Proofs.Ytopceemfefhkmaa
open Go Reck Ost
theorem awake20_run (K : AV → St → Prop) (h : K (lit (.bool true)) emptySt) : runR inv0 tPp2 14 [] emptySt K := by
  rw [awake20_vc]
  have s0 : U.sm 0 := ⟨by omega⟩
  intro m0 e0
  refine ⟨[], ⟨U.Rg.all rfl (Nat.le_refl _) (Nat.le_refl _) (by decide), s0, by omega, by omega⟩, fun s2 L3 n4 c5 e2 e4 r5 => ⟨_, ⟨r5, s0, by omega, by omega⟩, fun _ => ⟨_, r5, fun k8 L9 o10 n11 c12 e8 r9 => ⟨_, ⟨r9, s0⟩, fun g => ?_, fun g z15 e16 L17 o18 n19 c20 h15 h16 r17 => ⟨⟨⟨by omega⟩, ⟨by omega⟩, s0, by have := r17.sm; omega⟩, fun z21 h21 => ?_⟩⟩⟩, fun g => absurd g (by omega)⟩⟩
  · have : n11 = 1 := r9.n.symm.trans rfl
    exact absurd g (by omega)
  · have h19 : n19 = 0 := r17.n.symm.trans rfl
    have a8 : k8 = 1 := e8.trans rfl
    have a15 : z15 = 6 := h15.trans rfl
    refine ⟨fun _ => ⟨fun _ => ⟨fun _ => ⟨fun _ => ⟨fun _ => ⟨fun _ => ⟨fun _ => h, fun g => absurd (by omega) g⟩, fun g => absurd rfl g⟩, fun g => absurd h16 g⟩, fun g => absurd e2 g⟩, fun g => absurd a15 g⟩, fun g => absurd a8 g⟩, fun g => absurd rfl g⟩
theorem tAw20_ok : TblOk Try.prog tAw20 := by
  intro f tm σ C h K hK
  unfold tAw20 at h
  split at h
  · rename_i hf
    obtain rfl : f = 14 := by simpa using hf
    split at h
    · simp only [Option.some.injEq] at h; subst h
      exact knownC noOv names (conOk_ofR tPp2_ok) (awake20_run K hK)
    · cases h
  · cases h
theorem tPp3_ok : TblOk Try.prog tPp3 := tblOr_ok tAw20_ok tPp2_ok
theorem pipeNil_run (i : Int) : runP inv0 tAw20 5 [xi .i64 i] emptySt := by
  rw [pipeNil_vc]
  intro z hz
  exact ⟨fun _ => trivial, fun g => absurd (by omega) g⟩
theorem ok_none20 (w : World) : Ok w (arE []) emptySt w := ok_arrs w (l := []) (bs := []) rfl (by simp) (by intro i x q h; simp at h)
theorem pipeNil_walk (i : Int) (w : World) (hi : (Lit.int .i64 i).wf = true) : Calls Try.prog 5 #[.int .i64 i] w fun en w' => en = .returned (.bool true) ∧ Only (fun _ => False) w w' :=
  call_true noOv names (conOk_ofR tAw20_ok) (pipeNil_run i) (ok_none20 w) (vs := [.int .i64 i]) rfl
end Go.Proofs.Ytopceemfefhkmaa
end
