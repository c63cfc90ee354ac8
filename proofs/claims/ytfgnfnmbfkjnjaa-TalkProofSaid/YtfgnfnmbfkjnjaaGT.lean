/- Parts of a proof, one behind the other: T1 T2 T3 T4 T5 T6. No condition. -/
import Derived.Test.YtfgnfnmbfkjnjaaGB
section
namespace Go.Proofs.Ytfgnfnmbfkjnjaa
open Go Reck
set_option linter.unusedVariables false
def U.NmB (i : Nat) (c : Int) : Prop := (97 ≤ c ∧ c ≤ 122) ∨ (i ≠ 0 ∧ 48 ≤ c ∧ c ≤ 57)
/-- A text that is a name. -/
structure U.Nm (l : List Int) : Prop where
  len : 1 ≤ l.length ∧ l.length ≤ 8
  all : ∀ i, i < l.length → U.NmB i (l.getD i 0)
structure U.NmI (l : List Int) (p : Nat) : Prop where
  len : p ≤ l.length
  all : ∀ i, i < p → U.NmB i (l.getD i 0)
structure U.NmJ (l : List Int) (z : Int) : Prop where
  out : ∃ p : Nat, z = p ∧ U.NmI l p
def iterS (tm : List AV) (t : Nat) (σ : St) : List Int :=
  match aptrX (tm.getD t (lit undef)) with
  | some (a, _) => match getObjX σ a with
    | some (.iter s _, _) => s
    | _ => []
  | none => []
def slotT (tm : List AV) (t : Nat) : List Int :=
  match strX (tm.getD t (lit undef)) with
  | some l => l
  | none => []
def nameInv (c : Code) (t : Nat) (tm : List AV) (σ : St) : Inv where
  X := Nat
  tags := [0]
  tag _ _ := 0
  J := wrBut [] c
  val _ _ := []
  st _ x σ' := match aptrX (tm.getD t (lit undef)) with
    | some (a, _) => setArr σ' a (some (obj (.iter (iterS tm t σ) x)))
    | none => σ'
  I _ x := U.NmI (iterS tm t σ) x
  m _ x := (iterS tm t σ).length - x
  ren := noRen
def rnameInv (c : Code) (tm : List AV) (σ : St) : Inv where
  X := Int
  tags := [0]
  tag _ _ := 0
  J := wrBut [3] c
  val _ x := [(3, xi .i64 x)]
  st _ _ σ' := σ'
  I _ x := U.NmJ (slotT tm 0) x
  m _ x := ((slotT tm 0).length - x).toNat
  ren := noRen
def invT1 : InvF := fun c tm σ => match tm.length, firstReg c with
  | 31, some 4 => some (nameInv c 14 tm σ)
  | 42, some 4 => some (rnameInv c tm σ)
  | _, _ => none
set_option maxRecDepth 100000
theorem name_vc (K : AV → St → Prop) (l : List Int) : (runI invT1 tbl0 12 [cell (strC l)] emptySt K) = (∀ (z0 : Int), z0 = (↑(List.length l) : Int) → (z0 < (1 : Int) → K (Sum.inl (Sum.inl (Sum.inl (Value.bool false)))) { heap := [], ints := [], opqs := (0 : Nat), arrs := [], junks := (0 : Nat) }) ∧ (¬z0 < (1 : Int) → ∀ (z1 : Int), z1 = (↑(List.length l) : Int) → ((8 : Int) < z1 → K (Sum.inl (Sum.inl (Sum.inl (Value.bool false)))) { heap := [], ints := [], opqs := (0 : Nat), arrs := [], junks := (0 : Nat) }) ∧ (¬(8 : Int) < z1 → (∃ (y2 : Nat), l = l ∧ l = l ∧ z0 = z0 ∧ l = l ∧ z1 = z1 ∧ l = l ∧ (0 : Nat) = (0 : Nat) ∧ (l = l ∧ (0 : Nat) = y2) ∧ U.NmI l y2) ∧ ∀ (x3 : Nat), U.NmI l x3 → (x3 < List.length l → ∀ (i4 c5 : Int) (n6 p7 : Nat), i4 = (↑x3 : Int) → RuneAt l x3 c5 n6 → p7 = x3 + n6 → ((97 : Int) ≤ c5 → (c5 ≤ (122 : Int) → ∃ (y8 : Nat), l = l ∧ l = l ∧ z0 = z0 ∧ l = l ∧ z1 = z1 ∧ l = l ∧ (0 : Nat) = (0 : Nat) ∧ (l = l ∧ p7 = y8) ∧ U.NmI l y8 ∧ List.length l - y8 < List.length l - x3) ∧ (¬c5 ≤ (122 : Int) → (i4 = (0 : Int) → K (Sum.inl (Sum.inl (Sum.inl (Value.bool false)))) { heap := [], ints := [], opqs := (0 : Nat), arrs := [], junks := (0 : Nat) }) ∧ (¬i4 = (0 : Int) → ((48 : Int) ≤ c5 → (c5 ≤ (57 : Int) → ∃ (y9 : Nat), l = l ∧ l = l ∧ z0 = z0 ∧ l = l ∧ z1 = z1 ∧ l = l ∧ (0 : Nat) = (0 : Nat) ∧ (l = l ∧ p7 = y9) ∧ U.NmI l y9 ∧ List.length l - y9 < List.length l - x3) ∧ (¬c5 ≤ (57 : Int) → K (Sum.inl (Sum.inl (Sum.inl (Value.bool false)))) { heap := [], ints := [], opqs := (0 : Nat), arrs := [], junks := (0 : Nat) })) ∧ (¬(48 : Int) ≤ c5 → K (Sum.inl (Sum.inl (Sum.inl (Value.bool false)))) { heap := [], ints := [], opqs := (0 : Nat), arrs := [], junks := (0 : Nat) })))) ∧ (¬(97 : Int) ≤ c5 → (i4 = (0 : Int) → K (Sum.inl (Sum.inl (Sum.inl (Value.bool false)))) { heap := [], ints := [], opqs := (0 : Nat), arrs := [], junks := (0 : Nat) }) ∧ (¬i4 = (0 : Int) → ((48 : Int) ≤ c5 → (c5 ≤ (57 : Int) → ∃ (y10 : Nat), l = l ∧ l = l ∧ z0 = z0 ∧ l = l ∧ z1 = z1 ∧ l = l ∧ (0 : Nat) = (0 : Nat) ∧ (l = l ∧ p7 = y10) ∧ U.NmI l y10 ∧ List.length l - y10 < List.length l - x3) ∧ (¬c5 ≤ (57 : Int) → K (Sum.inl (Sum.inl (Sum.inl (Value.bool false)))) { heap := [], ints := [], opqs := (0 : Nat), arrs := [], junks := (0 : Nat) })) ∧ (¬(48 : Int) ≤ c5 → K (Sum.inl (Sum.inl (Sum.inl (Value.bool false)))) { heap := [], ints := [], opqs := (0 : Nat), arrs := [], junks := (0 : Nat) })))) ∧ (¬x3 < List.length l → K (Sum.inl (Sum.inl (Sum.inl (Value.bool true)))) { heap := [], ints := [], opqs := (0 : Nat), arrs := [], junks := (0 : Nat) })))) := by kernel_rfl
theorem rname_vc (K : AV → St → Prop) (l : List Int) : (runI invT1 tbl0 13 [cell (strC l)] emptySt K) = (∀ (z0 : Int), z0 = (↑(List.length l) : Int) → (z0 < (1 : Int) → K (Sum.inl (Sum.inl (Sum.inl (Value.bool false)))) { heap := [], ints := [], opqs := (0 : Nat), arrs := [], junks := (0 : Nat) }) ∧ (¬z0 < (1 : Int) → ∀ (z1 : Int), z1 = (↑(List.length l) : Int) → ((8 : Int) < z1 → K (Sum.inl (Sum.inl (Sum.inl (Value.bool false)))) { heap := [], ints := [], opqs := (0 : Nat), arrs := [], junks := (0 : Nat) }) ∧ (¬(8 : Int) < z1 → (∃ (y2 : Int), l = l ∧ (0 : Int) = y2 ∧ l = l ∧ z0 = z0 ∧ l = l ∧ z1 = z1 ∧ U.NmJ l y2) ∧ ∀ (x3 : Int), U.NmJ l x3 → ∀ (z4 : Int), z4 = (↑(List.length l) : Int) → (x3 < z4 → ((0 : Int) ≤ x3 ∧ x3 < (↑(List.length l) : Int)) ∧ ∀ (z5 : Int), z5 = List.getD l (Int.toNat x3) (0 : Int) → (0 : Int) ≤ z5 → z5 < (256 : Int) → ((97 : Int) ≤ z5 → (z5 ≤ (122 : Int) → ∀ (z6 : Int), z6 = IntKind.wrap IntKind.i64 (x3 + (1 : Int)) → ∃ (y7 : Int), l = l ∧ z6 = y7 ∧ l = l ∧ z0 = z0 ∧ l = l ∧ z1 = z1 ∧ U.NmJ l y7 ∧ Int.toNat ((↑(List.length l) : Int) - y7) < Int.toNat ((↑(List.length l) : Int) - x3)) ∧ (¬z5 ≤ (122 : Int) → ((0 : Int) < x3 → ((48 : Int) ≤ z5 → (z5 ≤ (57 : Int) → ∀ (z8 : Int), z8 = IntKind.wrap IntKind.i64 (x3 + (1 : Int)) → ∃ (y9 : Int), l = l ∧ z8 = y9 ∧ l = l ∧ z0 = z0 ∧ l = l ∧ z1 = z1 ∧ U.NmJ l y9 ∧ Int.toNat ((↑(List.length l) : Int) - y9) < Int.toNat ((↑(List.length l) : Int) - x3)) ∧ (¬z5 ≤ (57 : Int) → K (Sum.inl (Sum.inl (Sum.inl (Value.bool false)))) { heap := [], ints := [], opqs := (0 : Nat), arrs := [], junks := (0 : Nat) })) ∧ (¬(48 : Int) ≤ z5 → K (Sum.inl (Sum.inl (Sum.inl (Value.bool false)))) { heap := [], ints := [], opqs := (0 : Nat), arrs := [], junks := (0 : Nat) })) ∧ (¬(0 : Int) < x3 → K (Sum.inl (Sum.inl (Sum.inl (Value.bool false)))) { heap := [], ints := [], opqs := (0 : Nat), arrs := [], junks := (0 : Nat) }))) ∧ (¬(97 : Int) ≤ z5 → ((0 : Int) < x3 → ((48 : Int) ≤ z5 → (z5 ≤ (57 : Int) → ∀ (z10 : Int), z10 = IntKind.wrap IntKind.i64 (x3 + (1 : Int)) → ∃ (y11 : Int), l = l ∧ z10 = y11 ∧ l = l ∧ z0 = z0 ∧ l = l ∧ z1 = z1 ∧ U.NmJ l y11 ∧ Int.toNat ((↑(List.length l) : Int) - y11) < Int.toNat ((↑(List.length l) : Int) - x3)) ∧ (¬z5 ≤ (57 : Int) → K (Sum.inl (Sum.inl (Sum.inl (Value.bool false)))) { heap := [], ints := [], opqs := (0 : Nat), arrs := [], junks := (0 : Nat) })) ∧ (¬(48 : Int) ≤ z5 → K (Sum.inl (Sum.inl (Sum.inl (Value.bool false)))) { heap := [], ints := [], opqs := (0 : Nat), arrs := [], junks := (0 : Nat) })) ∧ (¬(0 : Int) < x3 → K (Sum.inl (Sum.inl (Sum.inl (Value.bool false)))) { heap := [], ints := [], opqs := (0 : Nat), arrs := [], junks := (0 : Nat) }))) ∧ (¬x3 < z4 → K (Sum.inl (Sum.inl (Sum.inl (Value.bool true)))) { heap := [], ints := [], opqs := (0 : Nat), arrs := [], junks := (0 : Nat) })))) := by kernel_rfl
end Go.Proofs.Ytfgnfnmbfkjnjaa
end

section
set_option linter.unusedVariables false
set_option linter.unusedSimpArgs false
namespace Go.Proofs.Ytfgnfnmbfkjnjaa
open Go Reck

theorem wrapI64 (n : Int) : IntKind.wrap .i64 n = (n + 9223372036854775808) % 18446744073709551616 - 9223372036854775808 := by
  simp [IntKind.wrap, IntKind.signed, IntKind.bits, Int.bmod]
  split <;> omega
theorem nmB_rune {l : List Int} {p n : Nat} {c : Int} (h : RuneAt l p c n) (hb : c < 128) : c = l.getD p 0 ∧ n = 1 := by
  by_cases hh : l.getD p 0 < 128
  · exact h.low hh
  · have := h.high (by omega); omega
theorem nmI_step {l : List Int} {p n q : Nat} {c : Int} (hI : U.NmI l p) (h : RuneAt l p c n) (hq : q = p + n) (hb : U.NmB p c) : U.NmI l q ∧ l.length - q < l.length - p := by
  obtain ⟨e1, e2⟩ := nmB_rune h (by rcases hb with hb | hb <;> omega)
  have := h.fits
  subst hq; subst e2
  refine ⟨⟨by omega, fun i hi => ?_⟩, by omega⟩
  by_cases hip : i = p
  · subst hip; rw [← e1]; exact hb
  · exact hI.all i (by omega)
theorem nm_no {l : List Int} {p n : Nat} {c : Int} (h : RuneAt l p c n) (hb : ¬ U.NmB p c) : ¬ U.Nm l := by
  intro hN
  have h2 := hN.all p (by have := h.fits; have := h.least; omega)
  by_cases hh : l.getD p 0 < 128
  · obtain ⟨e, _⟩ := h.low hh
    exact hb (e ▸ h2)
  · rcases h2 with h2 | h2 <;> omega
theorem name_run (K : AV → St → Prop) (l : List Int) (h1 : U.Nm l → K (lit (.bool true)) emptySt) (h2 : ¬ U.Nm l → K (lit (.bool false)) emptySt) : runI invT1 tbl0 12 [cell (strC l)] emptySt K := by
  rw [name_vc]
  intro z0 e0
  refine ⟨fun h => h2 fun hN => by have := hN.len; omega, fun g0 z1 e1 => ⟨fun h => h2 fun hN => by have := hN.len; omega, fun g1 => ⟨⟨0, ?_⟩, ?_⟩⟩⟩
  · refine ⟨rfl, rfl, rfl, rfl, rfl, rfl, rfl, ⟨rfl, rfl⟩, ⟨Nat.zero_le _, fun i hi => absurd hi (Nat.not_lt_zero _)⟩⟩
  · intro p hI
    refine ⟨fun hp i c n q hi hR hq => ?_, fun hp => h1 ⟨by omega, fun i hi => hI.all i (by omega)⟩⟩
    have yes : U.NmB p c → ∃ y : Nat, l = l ∧ l = l ∧ z0 = z0 ∧ l = l ∧ z1 = z1 ∧ l = l ∧ (0 : Nat) = 0 ∧ (l = l ∧ q = y) ∧ U.NmI l y ∧ l.length - y < l.length - p := fun hb => ⟨q, rfl, rfl, rfl, rfl, rfl, rfl, rfl, ⟨rfl, rfl⟩, nmI_step hI hR hq hb⟩
    have no : ¬ U.NmB p c → K (lit (.bool false)) emptySt := fun hb => h2 (nm_no hR hb)
    refine ⟨fun a1 => ⟨fun a2 => yes (.inl ⟨a1, a2⟩), fun a2 => ⟨fun a3 => no ?_, fun a3 => ⟨fun a4 => ⟨fun a5 => yes (.inr ⟨by omega, a4, a5⟩), fun a5 => no ?_⟩, fun a4 => no ?_⟩⟩⟩, fun a1 => ⟨fun a3 => no ?_, fun a3 => ⟨fun a4 => ⟨fun a5 => yes (.inr ⟨by omega, a4, a5⟩), fun a5 => no ?_⟩, fun a4 => no ?_⟩⟩⟩
    all_goals (rintro (hb | hb) <;> omega)
theorem rname_run (K : AV → St → Prop) (l : List Int) (h1 : U.Nm l → K (lit (.bool true)) emptySt) (h2 : ¬ U.Nm l → K (lit (.bool false)) emptySt) : runI invT1 tbl0 13 [cell (strC l)] emptySt K := by
  rw [rname_vc]
  intro z0 e0
  refine ⟨fun h => h2 fun hN => by have := hN.len; omega, fun g0 z1 e1 => ⟨fun h => h2 fun hN => by have := hN.len; omega, fun g1 => ⟨⟨0, ?_⟩, ?_⟩⟩⟩
  · exact ⟨rfl, rfl, rfl, rfl, rfl, rfl, ⟨0, rfl, Nat.zero_le _, fun i hi => absurd hi (Nat.not_lt_zero _)⟩⟩
  · rintro x ⟨p, hx, hI⟩ z4 e4
    subst hx
    refine ⟨fun hp => ⟨⟨by omega, by omega⟩, fun z5 e5 b1 b2 => ?_⟩, fun hp => h1 ⟨by omega, fun i hi => hI.all i (by omega)⟩⟩
    rw [Int.toNat_natCast] at e5
    have hlt : p < l.length := by omega
    have yes : U.NmB p z5 → ∀ z : Int, z = IntKind.wrap IntKind.i64 ((p : Int) + 1) → ∃ y : Int, l = l ∧ z = y ∧ l = l ∧ z0 = z0 ∧ l = l ∧ z1 = z1 ∧ U.NmJ l y ∧ Int.toNat ((l.length : Int) - y) < Int.toNat ((l.length : Int) - p) := fun hb z hz => by
      rw [wrapI64] at hz
      have hz : z = ((p + 1 : Nat) : Int) := by omega
      refine ⟨z, rfl, rfl, rfl, rfl, rfl, rfl, ⟨p + 1, hz, by omega, fun i hi => ?_⟩, by omega⟩
      by_cases hip : i = p
      · subst hip; rw [← e5]; exact hb
      · exact hI.all i (by omega)
    have no : ¬ U.NmB p z5 → K (lit (.bool false)) emptySt := fun hb => h2 fun hN => hb (e5 ▸ hN.all p hlt)
    refine ⟨fun a1 => ⟨fun a2 => yes (.inl ⟨a1, a2⟩), fun a2 => ⟨fun a3 => ⟨fun a4 => ⟨fun a5 => yes (.inr ⟨by omega, a4, a5⟩), fun a5 => no ?_⟩, fun a4 => no ?_⟩, fun a3 => no ?_⟩⟩, fun a1 => ⟨fun a3 => ⟨fun a4 => ⟨fun a5 => yes (.inr ⟨by omega, a4, a5⟩), fun a5 => no ?_⟩, fun a4 => no ?_⟩, fun a3 => no ?_⟩⟩
    all_goals (rintro (hb | hb) <;> omega)
def tName : Tbl := fun f args σ => if f == 12 || f == 13 then match args, σ with
    | [x], ⟨[], [], 0, [], 0⟩ => match strX x with
      | some l => some fun K => (U.Nm l → K (lit (.bool true)) emptySt) ∧ (¬ U.Nm l → K (lit (.bool false)) emptySt)
      | none => none
    | _, _ => none
  else none
theorem strX_cell {e : Env} {x : AV} {l : List Int} (h : strX x = some l) {vs : List Value} (hv : [x].map (av e) = vs.map some) : [cell (strC l)].map (av e) = vs.map some := by
  cases vs with
  | nil => simp at hv
  | cons v vs =>
    simp only [List.map_cons, List.map_nil, List.cons.injEq] at hv ⊢
    obtain ⟨rfl, hb⟩ := strX_ok h hv.1
    exact ⟨strC_av hb e, hv.2⟩
theorem tName_ok : TblOk Try.prog tName := by
  intro f tm σ C h K hK
  unfold tName at h
  split at h
  · rename_i hf
    split at h
    · split at h
      · rename_i l hl
        simp only [Option.some.injEq] at h; subst h
        intro w0 en w hok vs hvs
        have hvs' := strX_cell hl hvs
        have hf : f = 12 ∨ f = 13 := by simpa using hf
        rcases hf with rfl | rfl
        · exact knownC noOv names (conOk_of tbl0_ok) (name_run K l hK.1 hK.2) w0 en w hok vs hvs'
        · exact knownC noOv names (conOk_of tbl0_ok) (rname_run K l hK.1 hK.2) w0 en w hok vs hvs'
      · cases h
    · cases h
  · cases h
def tT2 : Tbl := tblOr tName tBitsAll
theorem tT2_ok : TblOk Try.prog tT2 := tblOr_ok tName_ok tBitsAll_ok
end Go.Proofs.Ytfgnfnmbfkjnjaa
end

section
namespace Go.Proofs.Ytfgnfnmbfkjnjaa
open Go Reck
set_option linter.unusedVariables false
def msgA (kind xid mac ip ticks : Int) (u : Cell) (nonce tag why : Int) : AV := .inl (.inr [xintC .i64 kind, xintC .u32 xid, xintC .u64 mac, xintC .u32 ip, xintC .i64 ticks, u, xintC .u64 nonce, xintC .u64 tag, xintC .i64 why])
set_option maxRecDepth 100000
theorem shape_vc (K : AV → St → Prop) (k : Int) : (runI inv0 tT2 23 [xi .i64 k] emptySt (opn K)) = ((k = (2 : Int) → K (Sum.inl (Sum.inr [Sum.inr (Sum.inr (Sum.inr (Sum.inr (Sum.inr (Sum.inr (Sum.inl (IntKind.i64, (32 : Int)))))))), Sum.inr (Sum.inr (Sum.inr (Sum.inr (Sum.inr (Sum.inr (Sum.inl (IntKind.i64, (48 : Int)))))))), Sum.inr (Sum.inr (Sum.inr (Sum.inr (Sum.inr (Sum.inr (Sum.inl (IntKind.i64, (32 : Int)))))))), Sum.inr (Sum.inr (Sum.inr (Sum.inr (Sum.inr (Sum.inr (Sum.inl (IntKind.i64, (40 : Int)))))))), Sum.inr (Sum.inr (Sum.inr (Sum.inr (Sum.inr (Sum.inr (Sum.inl (IntKind.i64, (0 : Int)))))))), Sum.inr (Sum.inr (Sum.inr (Sum.inr (Sum.inr (Sum.inr (Sum.inl (IntKind.i64, (0 : Int)))))))), Sum.inr (Sum.inr (Sum.inr (Sum.inr (Sum.inr (Sum.inr (Sum.inl (IntKind.i64, (0 : Int)))))))), Sum.inl (Value.bool false)])) { heap := [], ints := [], opqs := (0 : Nat), arrs := [], junks := (0 : Nat) }) ∧ (¬k = (2 : Int) → (k = (4 : Int) → K (Sum.inl (Sum.inr [Sum.inr (Sum.inr (Sum.inr (Sum.inr (Sum.inr (Sum.inr (Sum.inl (IntKind.i64, (32 : Int)))))))), Sum.inr (Sum.inr (Sum.inr (Sum.inr (Sum.inr (Sum.inr (Sum.inl (IntKind.i64, (48 : Int)))))))), Sum.inr (Sum.inr (Sum.inr (Sum.inr (Sum.inr (Sum.inr (Sum.inl (IntKind.i64, (32 : Int)))))))), Sum.inr (Sum.inr (Sum.inr (Sum.inr (Sum.inr (Sum.inr (Sum.inl (IntKind.i64, (40 : Int)))))))), Sum.inr (Sum.inr (Sum.inr (Sum.inr (Sum.inr (Sum.inr (Sum.inl (IntKind.i64, (0 : Int)))))))), Sum.inr (Sum.inr (Sum.inr (Sum.inr (Sum.inr (Sum.inr (Sum.inl (IntKind.i64, (0 : Int)))))))), Sum.inr (Sum.inr (Sum.inr (Sum.inr (Sum.inr (Sum.inr (Sum.inl (IntKind.i64, (0 : Int)))))))), Sum.inl (Value.bool false)])) { heap := [], ints := [], opqs := (0 : Nat), arrs := [], junks := (0 : Nat) }) ∧ (¬k = (4 : Int) → (k = (3 : Int) → K (Sum.inl (Sum.inr [Sum.inr (Sum.inr (Sum.inr (Sum.inr (Sum.inr (Sum.inr (Sum.inl (IntKind.i64, (32 : Int)))))))), Sum.inr (Sum.inr (Sum.inr (Sum.inr (Sum.inr (Sum.inr (Sum.inl (IntKind.i64, (48 : Int)))))))), Sum.inr (Sum.inr (Sum.inr (Sum.inr (Sum.inr (Sum.inr (Sum.inl (IntKind.i64, (32 : Int)))))))), Sum.inr (Sum.inr (Sum.inr (Sum.inr (Sum.inr (Sum.inr (Sum.inl (IntKind.i64, (0 : Int)))))))), Sum.inr (Sum.inr (Sum.inr (Sum.inr (Sum.inr (Sum.inr (Sum.inl (IntKind.i64, (0 : Int)))))))), Sum.inr (Sum.inr (Sum.inr (Sum.inr (Sum.inr (Sum.inr (Sum.inl (IntKind.i64, (0 : Int)))))))), Sum.inr (Sum.inr (Sum.inr (Sum.inr (Sum.inr (Sum.inr (Sum.inl (IntKind.i64, (0 : Int)))))))), Sum.inl (Value.bool false)])) { heap := [], ints := [], opqs := (0 : Nat), arrs := [], junks := (0 : Nat) }) ∧ (¬k = (3 : Int) → (k = (1 : Int) → K (Sum.inl (Sum.inr [Sum.inr (Sum.inr (Sum.inr (Sum.inr (Sum.inr (Sum.inr (Sum.inl (IntKind.i64, (32 : Int)))))))), Sum.inr (Sum.inr (Sum.inr (Sum.inr (Sum.inr (Sum.inr (Sum.inl (IntKind.i64, (48 : Int)))))))), Sum.inr (Sum.inr (Sum.inr (Sum.inr (Sum.inr (Sum.inr (Sum.inl (IntKind.i64, (0 : Int)))))))), Sum.inr (Sum.inr (Sum.inr (Sum.inr (Sum.inr (Sum.inr (Sum.inl (IntKind.i64, (0 : Int)))))))), Sum.inr (Sum.inr (Sum.inr (Sum.inr (Sum.inr (Sum.inr (Sum.inl (IntKind.i64, (0 : Int)))))))), Sum.inr (Sum.inr (Sum.inr (Sum.inr (Sum.inr (Sum.inr (Sum.inl (IntKind.i64, (0 : Int)))))))), Sum.inr (Sum.inr (Sum.inr (Sum.inr (Sum.inr (Sum.inr (Sum.inl (IntKind.i64, (0 : Int)))))))), Sum.inl (Value.bool false)])) { heap := [], ints := [], opqs := (0 : Nat), arrs := [], junks := (0 : Nat) }) ∧ (¬k = (1 : Int) → (k = (5 : Int) → K (Sum.inl (Sum.inr [Sum.inr (Sum.inr (Sum.inr (Sum.inr (Sum.inr (Sum.inr (Sum.inl (IntKind.i64, (32 : Int)))))))), Sum.inr (Sum.inr (Sum.inr (Sum.inr (Sum.inr (Sum.inr (Sum.inl (IntKind.i64, (48 : Int)))))))), Sum.inr (Sum.inr (Sum.inr (Sum.inr (Sum.inr (Sum.inr (Sum.inl (IntKind.i64, (0 : Int)))))))), Sum.inr (Sum.inr (Sum.inr (Sum.inr (Sum.inr (Sum.inr (Sum.inl (IntKind.i64, (0 : Int)))))))), Sum.inr (Sum.inr (Sum.inr (Sum.inr (Sum.inr (Sum.inr (Sum.inl (IntKind.i64, (0 : Int)))))))), Sum.inr (Sum.inr (Sum.inr (Sum.inr (Sum.inr (Sum.inr (Sum.inl (IntKind.i64, (0 : Int)))))))), Sum.inr (Sum.inr (Sum.inr (Sum.inr (Sum.inr (Sum.inr (Sum.inl (IntKind.i64, (8 : Int)))))))), Sum.inl (Value.bool false)])) { heap := [], ints := [], opqs := (0 : Nat), arrs := [], junks := (0 : Nat) }) ∧ (¬k = (5 : Int) → (k = (6 : Int) → K (Sum.inl (Sum.inr [Sum.inr (Sum.inr (Sum.inr (Sum.inr (Sum.inr (Sum.inr (Sum.inl (IntKind.i64, (0 : Int)))))))), Sum.inr (Sum.inr (Sum.inr (Sum.inr (Sum.inr (Sum.inr (Sum.inl (IntKind.i64, (48 : Int)))))))), Sum.inr (Sum.inr (Sum.inr (Sum.inr (Sum.inr (Sum.inr (Sum.inl (IntKind.i64, (32 : Int)))))))), Sum.inr (Sum.inr (Sum.inr (Sum.inr (Sum.inr (Sum.inr (Sum.inl (IntKind.i64, (0 : Int)))))))), Sum.inr (Sum.inr (Sum.inr (Sum.inr (Sum.inr (Sum.inr (Sum.inl (IntKind.i64, (0 : Int)))))))), Sum.inr (Sum.inr (Sum.inr (Sum.inr (Sum.inr (Sum.inr (Sum.inl (IntKind.i64, (0 : Int)))))))), Sum.inr (Sum.inr (Sum.inr (Sum.inr (Sum.inr (Sum.inr (Sum.inl (IntKind.i64, (0 : Int)))))))), Sum.inl (Value.bool false)])) { heap := [], ints := [], opqs := (0 : Nat), arrs := [], junks := (0 : Nat) }) ∧ (¬k = (6 : Int) → (k = (9 : Int) → K (Sum.inl (Sum.inr [Sum.inr (Sum.inr (Sum.inr (Sum.inr (Sum.inr (Sum.inr (Sum.inl (IntKind.i64, (0 : Int)))))))), Sum.inr (Sum.inr (Sum.inr (Sum.inr (Sum.inr (Sum.inr (Sum.inl (IntKind.i64, (0 : Int)))))))), Sum.inr (Sum.inr (Sum.inr (Sum.inr (Sum.inr (Sum.inr (Sum.inl (IntKind.i64, (0 : Int)))))))), Sum.inr (Sum.inr (Sum.inr (Sum.inr (Sum.inr (Sum.inr (Sum.inl (IntKind.i64, (0 : Int)))))))), Sum.inr (Sum.inr (Sum.inr (Sum.inr (Sum.inr (Sum.inr (Sum.inl (IntKind.i64, (64 : Int)))))))), Sum.inr (Sum.inr (Sum.inr (Sum.inr (Sum.inr (Sum.inr (Sum.inl (IntKind.i64, (64 : Int)))))))), Sum.inr (Sum.inr (Sum.inr (Sum.inr (Sum.inr (Sum.inr (Sum.inl (IntKind.i64, (0 : Int)))))))), Sum.inl (Value.bool true)])) { heap := [], ints := [], opqs := (0 : Nat), arrs := [], junks := (0 : Nat) }) ∧ (¬k = (9 : Int) → (k = (12 : Int) → K (Sum.inl (Sum.inr [Sum.inr (Sum.inr (Sum.inr (Sum.inr (Sum.inr (Sum.inr (Sum.inl (IntKind.i64, (0 : Int)))))))), Sum.inr (Sum.inr (Sum.inr (Sum.inr (Sum.inr (Sum.inr (Sum.inl (IntKind.i64, (0 : Int)))))))), Sum.inr (Sum.inr (Sum.inr (Sum.inr (Sum.inr (Sum.inr (Sum.inl (IntKind.i64, (0 : Int)))))))), Sum.inr (Sum.inr (Sum.inr (Sum.inr (Sum.inr (Sum.inr (Sum.inl (IntKind.i64, (0 : Int)))))))), Sum.inr (Sum.inr (Sum.inr (Sum.inr (Sum.inr (Sum.inr (Sum.inl (IntKind.i64, (64 : Int)))))))), Sum.inr (Sum.inr (Sum.inr (Sum.inr (Sum.inr (Sum.inr (Sum.inl (IntKind.i64, (64 : Int)))))))), Sum.inr (Sum.inr (Sum.inr (Sum.inr (Sum.inr (Sum.inr (Sum.inl (IntKind.i64, (0 : Int)))))))), Sum.inl (Value.bool true)])) { heap := [], ints := [], opqs := (0 : Nat), arrs := [], junks := (0 : Nat) }) ∧ (¬k = (12 : Int) → (k = (8 : Int) → K (Sum.inl (Sum.inr [Sum.inr (Sum.inr (Sum.inr (Sum.inr (Sum.inr (Sum.inr (Sum.inl (IntKind.i64, (0 : Int)))))))), Sum.inr (Sum.inr (Sum.inr (Sum.inr (Sum.inr (Sum.inr (Sum.inl (IntKind.i64, (0 : Int)))))))), Sum.inr (Sum.inr (Sum.inr (Sum.inr (Sum.inr (Sum.inr (Sum.inl (IntKind.i64, (0 : Int)))))))), Sum.inr (Sum.inr (Sum.inr (Sum.inr (Sum.inr (Sum.inr (Sum.inl (IntKind.i64, (0 : Int)))))))), Sum.inr (Sum.inr (Sum.inr (Sum.inr (Sum.inr (Sum.inr (Sum.inl (IntKind.i64, (64 : Int)))))))), Sum.inr (Sum.inr (Sum.inr (Sum.inr (Sum.inr (Sum.inr (Sum.inl (IntKind.i64, (0 : Int)))))))), Sum.inr (Sum.inr (Sum.inr (Sum.inr (Sum.inr (Sum.inr (Sum.inl (IntKind.i64, (0 : Int)))))))), Sum.inl (Value.bool true)])) { heap := [], ints := [], opqs := (0 : Nat), arrs := [], junks := (0 : Nat) }) ∧ (¬k = (8 : Int) → (k = (7 : Int) → K (Sum.inl (Sum.inr [Sum.inr (Sum.inr (Sum.inr (Sum.inr (Sum.inr (Sum.inr (Sum.inl (IntKind.i64, (0 : Int)))))))), Sum.inr (Sum.inr (Sum.inr (Sum.inr (Sum.inr (Sum.inr (Sum.inl (IntKind.i64, (0 : Int)))))))), Sum.inr (Sum.inr (Sum.inr (Sum.inr (Sum.inr (Sum.inr (Sum.inl (IntKind.i64, (0 : Int)))))))), Sum.inr (Sum.inr (Sum.inr (Sum.inr (Sum.inr (Sum.inr (Sum.inl (IntKind.i64, (0 : Int)))))))), Sum.inr (Sum.inr (Sum.inr (Sum.inr (Sum.inr (Sum.inr (Sum.inl (IntKind.i64, (0 : Int)))))))), Sum.inr (Sum.inr (Sum.inr (Sum.inr (Sum.inr (Sum.inr (Sum.inl (IntKind.i64, (0 : Int)))))))), Sum.inr (Sum.inr (Sum.inr (Sum.inr (Sum.inr (Sum.inr (Sum.inl (IntKind.i64, (0 : Int)))))))), Sum.inl (Value.bool true)])) { heap := [], ints := [], opqs := (0 : Nat), arrs := [], junks := (0 : Nat) }) ∧ (¬k = (7 : Int) → (k = (10 : Int) → K (Sum.inl (Sum.inr [Sum.inr (Sum.inr (Sum.inr (Sum.inr (Sum.inr (Sum.inr (Sum.inl (IntKind.i64, (0 : Int)))))))), Sum.inr (Sum.inr (Sum.inr (Sum.inr (Sum.inr (Sum.inr (Sum.inl (IntKind.i64, (0 : Int)))))))), Sum.inr (Sum.inr (Sum.inr (Sum.inr (Sum.inr (Sum.inr (Sum.inl (IntKind.i64, (0 : Int)))))))), Sum.inr (Sum.inr (Sum.inr (Sum.inr (Sum.inr (Sum.inr (Sum.inl (IntKind.i64, (40 : Int)))))))), Sum.inr (Sum.inr (Sum.inr (Sum.inr (Sum.inr (Sum.inr (Sum.inl (IntKind.i64, (0 : Int)))))))), Sum.inr (Sum.inr (Sum.inr (Sum.inr (Sum.inr (Sum.inr (Sum.inl (IntKind.i64, (0 : Int)))))))), Sum.inr (Sum.inr (Sum.inr (Sum.inr (Sum.inr (Sum.inr (Sum.inl (IntKind.i64, (0 : Int)))))))), Sum.inl (Value.bool true)])) { heap := [], ints := [], opqs := (0 : Nat), arrs := [], junks := (0 : Nat) }) ∧ (¬k = (10 : Int) → (k = (11 : Int) → K (Sum.inl (Sum.inr [Sum.inr (Sum.inr (Sum.inr (Sum.inr (Sum.inr (Sum.inr (Sum.inl (IntKind.i64, (0 : Int)))))))), Sum.inr (Sum.inr (Sum.inr (Sum.inr (Sum.inr (Sum.inr (Sum.inl (IntKind.i64, (0 : Int)))))))), Sum.inr (Sum.inr (Sum.inr (Sum.inr (Sum.inr (Sum.inr (Sum.inl (IntKind.i64, (0 : Int)))))))), Sum.inr (Sum.inr (Sum.inr (Sum.inr (Sum.inr (Sum.inr (Sum.inl (IntKind.i64, (0 : Int)))))))), Sum.inr (Sum.inr (Sum.inr (Sum.inr (Sum.inr (Sum.inr (Sum.inl (IntKind.i64, (0 : Int)))))))), Sum.inr (Sum.inr (Sum.inr (Sum.inr (Sum.inr (Sum.inr (Sum.inl (IntKind.i64, (0 : Int)))))))), Sum.inr (Sum.inr (Sum.inr (Sum.inr (Sum.inr (Sum.inr (Sum.inl (IntKind.i64, (8 : Int)))))))), Sum.inl (Value.bool true)])) { heap := [], ints := [], opqs := (0 : Nat), arrs := [], junks := (0 : Nat) }) ∧ (¬k = (11 : Int) → K (Sum.inl (Sum.inr [Sum.inr (Sum.inr (Sum.inr (Sum.inr (Sum.inr (Sum.inr (Sum.inl (IntKind.i64, (0 : Int)))))))), Sum.inr (Sum.inr (Sum.inr (Sum.inr (Sum.inr (Sum.inr (Sum.inl (IntKind.i64, (0 : Int)))))))), Sum.inr (Sum.inr (Sum.inr (Sum.inr (Sum.inr (Sum.inr (Sum.inl (IntKind.i64, (0 : Int)))))))), Sum.inr (Sum.inr (Sum.inr (Sum.inr (Sum.inr (Sum.inr (Sum.inl (IntKind.i64, (0 : Int)))))))), Sum.inr (Sum.inr (Sum.inr (Sum.inr (Sum.inr (Sum.inr (Sum.inl (IntKind.i64, (0 : Int)))))))), Sum.inr (Sum.inr (Sum.inr (Sum.inr (Sum.inr (Sum.inr (Sum.inl (IntKind.i64, (0 : Int)))))))), Sum.inr (Sum.inr (Sum.inr (Sum.inr (Sum.inr (Sum.inr (Sum.inl (IntKind.i64, (0 : Int)))))))), Sum.inl (Value.bool false)])) { heap := [], ints := [], opqs := (0 : Nat), arrs := [], junks := (0 : Nat) }))))))))))))) := by kernel_rfl
theorem fits_vc (K : AV → St → Prop) (v w : Int) : (runI inv0 tT2 25 [xi .u64 v, xi .i64 w] emptySt K) = ((0 : Int) ≤ w ∧ ∀ (z0 : Int), z0 = shrI IntKind.u64 v w → (z0 = (0 : Int) → K (Sum.inl (Sum.inl (Sum.inl (Value.bool true)))) { heap := [], ints := [], opqs := (0 : Nat), arrs := [], junks := (0 : Nat) }) ∧ (¬z0 = (0 : Int) → K (Sum.inl (Sum.inl (Sum.inl (Value.bool false)))) { heap := [], ints := [], opqs := (0 : Nat), arrs := [], junks := (0 : Nat) })) := by kernel_rfl
theorem fitsUserT_vc (K : AV → St → Prop) (l : List Int) : (runI inv0 tT2 24 [cell (strC l), lit (.bool true)] emptySt K) = ((U.Nm l → K (Sum.inl (Sum.inl (Sum.inl (Value.bool true)))) { heap := [], ints := [], opqs := (0 : Nat), arrs := [], junks := (0 : Nat) }) ∧ (¬U.Nm l → K (Sum.inl (Sum.inl (Sum.inl (Value.bool false)))) { heap := [], ints := [], opqs := (0 : Nat), arrs := [], junks := (0 : Nat) })) := by kernel_rfl
theorem fitsUserF_vc (K : AV → St → Prop) (l : List Int) : (runI inv0 tT2 24 [cell (strC l), lit (.bool false)] emptySt K) = ((l = [] → K (Sum.inl (Sum.inl (Sum.inl (Value.bool true)))) { heap := [], ints := [], opqs := (0 : Nat), arrs := [], junks := (0 : Nat) }) ∧ (¬l = [] → K (Sum.inl (Sum.inl (Sum.inl (Value.bool false)))) { heap := [], ints := [], opqs := (0 : Nat), arrs := [], junks := (0 : Nat) })) := by kernel_rfl
theorem leases_vc (K : AV → St → Prop) (k : Int) : (runI inv0 tT2 14 [xi .i64 k] emptySt K) = (((1 : Int) ≤ k → (k ≤ (6 : Int) → K (Sum.inl (Sum.inl (Sum.inl (Value.bool true)))) { heap := [], ints := [], opqs := (0 : Nat), arrs := [], junks := (0 : Nat) }) ∧ (¬k ≤ (6 : Int) → K (Sum.inl (Sum.inl (Sum.inl (Value.bool false)))) { heap := [], ints := [], opqs := (0 : Nat), arrs := [], junks := (0 : Nat) })) ∧ (¬(1 : Int) ≤ k → K (Sum.inl (Sum.inl (Sum.inl (Value.bool false)))) { heap := [], ints := [], opqs := (0 : Nat), arrs := [], junks := (0 : Nat) })) := by kernel_rfl
end Go.Proofs.Ytfgnfnmbfkjnjaa
end

section
set_option linter.unusedVariables false
set_option linter.unusedSimpArgs false
namespace Go.Proofs.Ytfgnfnmbfkjnjaa
open Go Reck

def U.wx (k : Int) : Int := if 1 ≤ k ∧ k ≤ 5 then 32 else 0
def U.wm (k : Int) : Int := if 1 ≤ k ∧ k ≤ 6 then 48 else 0
def U.wi (k : Int) : Int := if k = 2 ∨ k = 3 ∨ k = 4 ∨ k = 6 then 32 else 0
def U.wt (k : Int) : Int := if k = 2 ∨ k = 4 ∨ k = 10 then 40 else 0
def U.wn (k : Int) : Int := if k = 8 ∨ k = 9 ∨ k = 12 then 64 else 0
def U.wg (k : Int) : Int := if k = 9 ∨ k = 12 then 64 else 0
def U.wy (k : Int) : Int := if k = 5 ∨ k = 11 then 8 else 0
structure U.Us (k : Int) : Prop where
  out : 7 ≤ k ∧ k ≤ 12
def shA (a b c d e f g : Int) (u : Bool) : AV := .inl (.inr [xintC .i64 a, xintC .i64 b, xintC .i64 c, xintC .i64 d, xintC .i64 e, xintC .i64 f, xintC .i64 g, .inl (.bool u)])
def shPost (K : AV → St → Prop) (k : Int) : Prop := ∀ a b c d e f g : Int, a = U.wx k → b = U.wm k → c = U.wi k → d = U.wt k → e = U.wn k → f = U.wg k → g = U.wy k → (U.Us k → K (shA a b c d e f g true) emptySt) ∧ (¬ U.Us k → K (shA a b c d e f g false) emptySt)
theorem shPost.no {K : AV → St → Prop} {k : Int} (h : shPost K k) (h1 : ¬ U.Us k) : K (shA (U.wx k) (U.wm k) (U.wi k) (U.wt k) (U.wn k) (U.wg k) (U.wy k) false) emptySt := (h _ _ _ _ _ _ _ rfl rfl rfl rfl rfl rfl rfl).2 h1
theorem shPost.yes {K : AV → St → Prop} {k : Int} (h : shPost K k) (h1 : U.Us k) : K (shA (U.wx k) (U.wm k) (U.wi k) (U.wt k) (U.wn k) (U.wg k) (U.wy k) true) emptySt := (h _ _ _ _ _ _ _ rfl rfl rfl rfl rfl rfl rfl).1 h1
theorem us_no {k : Int} (h : k < 7 ∨ 12 < k) : ¬ U.Us k := fun ⟨h1, h2⟩ => by omega
theorem shape_run (K : AV → St → Prop) (k : Int) (h : shPost K k) : runI inv0 tT2 23 [xi .i64 k] emptySt (opn K) := by
  rw [shape_vc]
  have no : ∀ c : Int, k = c → c < 7 ∨ 12 < c → K (shA (U.wx c) (U.wm c) (U.wi c) (U.wt c) (U.wn c) (U.wg c) (U.wy c) false) emptySt := fun c hc hb => by subst hc; exact h.no (us_no hb)
  have yes : ∀ c : Int, k = c → 7 ≤ c ∧ c ≤ 12 → K (shA (U.wx c) (U.wm c) (U.wi c) (U.wt c) (U.wn c) (U.wg c) (U.wy c) true) emptySt := fun c hc hb => by subst hc; exact h.yes ⟨hb⟩
  refine ⟨fun e => no 2 e (by decide), fun e2 => ⟨fun e => no 4 e (by decide), fun e4 => ⟨fun e => no 3 e (by decide), fun e3 => ⟨fun e => no 1 e (by decide), fun e1 => ⟨fun e => no 5 e (by decide), fun e5 => ⟨fun e => no 6 e (by decide), fun e6 => ?_⟩⟩⟩⟩⟩⟩
  refine ⟨fun e => yes 9 e (by decide), fun e9 => ⟨fun e => yes 12 e (by decide), fun e12 => ⟨fun e => yes 8 e (by decide), fun e8 => ⟨fun e => yes 7 e (by decide), fun e7 => ⟨fun e => yes 10 e (by decide), fun e10 => ⟨fun e => yes 11 e (by decide), fun e11 => ?_⟩⟩⟩⟩⟩⟩
  have hh := h.no (us_no (by omega))
  have w1 : U.wx k = 0 := by unfold U.wx; rw [if_neg (by omega)]
  have w2 : U.wm k = 0 := by unfold U.wm; rw [if_neg (by omega)]
  have w3 : U.wi k = 0 := by unfold U.wi; rw [if_neg (by omega)]
  have w4 : U.wt k = 0 := by unfold U.wt; rw [if_neg (by omega)]
  have w5 : U.wn k = 0 := by unfold U.wn; rw [if_neg (by omega)]
  have w6 : U.wg k = 0 := by unfold U.wg; rw [if_neg (by omega)]
  have w7 : U.wy k = 0 := by unfold U.wy; rw [if_neg (by omega)]
  rw [w1, w2, w3, w4, w5, w6, w7] at hh
  exact hh
/-- A number has room in so many bits. -/
structure U.Fit (v w : Int) : Prop where
  out : v < 2 ^ w.toNat
theorem shr_zero {v w z : Int} (hv : 0 ≤ v ∧ v ≤ 18446744073709551615) (hw : 0 ≤ w ∧ w ≤ 64) (hz : z = shrI .u64 v w) : z = 0 ↔ v < 2 ^ w.toNat := by
  obtain ⟨a, rfl⟩ : ∃ a : Nat, v = a := ⟨v.toNat, by omega⟩
  obtain ⟨j, rfl⟩ : ∃ j : Nat, w = j := ⟨w.toNat, by omega⟩
  rw [shr_nat .u64 a j (by simp [IntKind.bits]; omega) rfl] at hz
  rw [hz, Int.toNat_natCast]
  have h2 : (2 : Int) ^ j = ((2 ^ j : Nat) : Int) := by simp
  rw [h2]
  have hp : 0 < 2 ^ j := Nat.two_pow_pos j
  constructor
  · intro h
    have h : a / 2 ^ j = 0 := by omega
    have := (Nat.div_eq_zero_iff.1 h)
    omega
  · intro h
    have h : a < 2 ^ j := by omega
    have := Nat.div_eq_of_lt h
    omega
theorem fits_run (K : AV → St → Prop) (v w : Int) (hv : 0 ≤ v ∧ v ≤ 18446744073709551615) (hw : 0 ≤ w ∧ w ≤ 64) (h1 : U.Fit v w → K (lit (.bool true)) emptySt) (h2 : ¬ U.Fit v w → K (lit (.bool false)) emptySt) : runI inv0 tT2 25 [xi .u64 v, xi .i64 w] emptySt K := by
  rw [fits_vc]
  refine ⟨hw.1, fun z hz => ⟨fun h => h1 ⟨(shr_zero hv hw hz).1 h⟩, fun h => h2 fun hf => h ((shr_zero hv hw hz).2 hf.out)⟩⟩
structure U.Le (k : Int) : Prop where
  out : 1 ≤ k ∧ k ≤ 6
theorem leases_run (K : AV → St → Prop) (k : Int) (h1 : U.Le k → K (lit (.bool true)) emptySt) (h2 : ¬ U.Le k → K (lit (.bool false)) emptySt) : runI inv0 tT2 14 [xi .i64 k] emptySt K := by
  rw [leases_vc]
  exact ⟨fun a => ⟨fun b => h1 ⟨a, b⟩, fun b => h2 fun hh => b hh.out.2⟩, fun a => h2 fun hh => a hh.out.1⟩
def tShape : Tbl := fun f args σ => if f == 23 then match args, σ with
    | [k], ⟨[], [], 0, [], 0⟩ => match xiX k with
      | some (.i64, k) => some fun K => shPost K k
      | _ => none
    | _, _ => none
  else none
theorem tShape_ok : TblOk Try.prog tShape := by
  intro f tm σ C h K hK
  unfold tShape at h
  split at h
  · rename_i hf
    obtain rfl : f = 23 := by simpa using hf
    split at h
    · split at h
      · rename_i k hk
        obtain rfl := xiX_eq hk
        simp only [Option.some.injEq] at h; subst h
        intro w0 en w hok vs hvs
        exact calls_open (knownC noOv names (conOk_of tT2_ok) (shape_run K k hK)  w0 en w hok vs hvs)
      · cases h
    · cases h
  · cases h
def tFits : Tbl := fun f args σ => if f == 25 then match args, σ with
    | [v, w], ⟨[], [], 0, [], 0⟩ => match xiX v, xiX w with
      | some (.u64, v), some (.i64, w) => some fun K => ((0 ≤ v ∧ v ≤ 18446744073709551615) ∧ 0 ≤ w ∧ w ≤ 64) ∧ (U.Fit v w → K (lit (.bool true)) emptySt) ∧ (¬ U.Fit v w → K (lit (.bool false)) emptySt)
      | _, _ => none
    | _, _ => none
  else none
theorem tFits_ok : TblOk Try.prog tFits := by
  intro f tm σ C h K hK
  unfold tFits at h
  split at h
  · rename_i hf
    obtain rfl : f = 25 := by simpa using hf
    split at h
    · split at h
      · rename_i v w hv hw
        obtain rfl := xiX_eq hv
        obtain rfl := xiX_eq hw
        simp only [Option.some.injEq] at h; subst h
        exact knownC noOv names (conOk_of tT2_ok) (fits_run K v w hK.1.1 hK.1.2 hK.2.1 hK.2.2)
      · cases h
    · cases h
  · cases h
def tLeases : Tbl := fun f args σ => if f == 14 then match args, σ with
    | [k], ⟨[], [], 0, [], 0⟩ => match xiX k with
      | some (.i64, k) => some fun K => (U.Le k → K (lit (.bool true)) emptySt) ∧ (¬ U.Le k → K (lit (.bool false)) emptySt)
      | _ => none
    | _, _ => none
  else none
theorem tLeases_ok : TblOk Try.prog tLeases := by
  intro f tm σ C h K hK
  unfold tLeases at h
  split at h
  · rename_i hf
    obtain rfl : f = 14 := by simpa using hf
    split at h
    · split at h
      · rename_i k hk
        obtain rfl := xiX_eq hk
        simp only [Option.some.injEq] at h; subst h
        exact knownC noOv names (conOk_of tT2_ok) (leases_run K k hK.1 hK.2)
      · cases h
    · cases h
  · cases h
def tT4 : Tbl := tblOr tShape (tblOr tFits (tblOr tLeases tT2))
theorem tT4_ok : TblOk Try.prog tT4 := tblOr_ok tShape_ok (tblOr_ok tFits_ok (tblOr_ok tLeases_ok tT2_ok))
end Go.Proofs.Ytfgnfnmbfkjnjaa
end

section
namespace Go.Proofs.Ytfgnfnmbfkjnjaa
open Go Reck
set_option linter.unusedVariables false
set_option maxRecDepth 100000
theorem may_vc (K : AV → St → Prop) (kind xid mac ip ticks nonce tag why : Int) (l : List Int) : (runI inv0 tT4 10 [msgA kind xid mac ip ticks (strC l) nonce tag why] emptySt K) = (∀ (a0 b1 c2 d3 e4 f5 g6 : Int), a0 = U.wx kind → b1 = U.wm kind → c2 = U.wi kind → d3 = U.wt kind → e4 = U.wn kind → f5 = U.wg kind → g6 = U.wy kind → (U.Us kind → (¬(a0 = (0 : Int) ∧ b1 = (0 : Int) ∧ c2 = (0 : Int) ∧ d3 = (0 : Int) ∧ e4 = (0 : Int) ∧ f5 = (0 : Int) ∧ g6 = (0 : Int) ∧ false = true ∧ True) → (U.Nm l → ∀ (z7 : Int), z7 = IntKind.wrap IntKind.u64 xid → (((0 : Int) ≤ z7 ∧ z7 ≤ (18446744073709551615 : Int)) ∧ (0 : Int) ≤ a0 ∧ a0 ≤ (64 : Int)) ∧ (U.Fit z7 a0 → (((0 : Int) ≤ mac ∧ mac ≤ (18446744073709551615 : Int)) ∧ (0 : Int) ≤ b1 ∧ b1 ≤ (64 : Int)) ∧ (U.Fit mac b1 → ∀ (z8 : Int), z8 = IntKind.wrap IntKind.u64 ip → (((0 : Int) ≤ z8 ∧ z8 ≤ (18446744073709551615 : Int)) ∧ (0 : Int) ≤ c2 ∧ c2 ≤ (64 : Int)) ∧ (U.Fit z8 c2 → ∀ (z9 : Int), z9 = IntKind.wrap IntKind.u64 ticks → (((0 : Int) ≤ z9 ∧ z9 ≤ (18446744073709551615 : Int)) ∧ (0 : Int) ≤ d3 ∧ d3 ≤ (64 : Int)) ∧ (U.Fit z9 d3 → (((0 : Int) ≤ nonce ∧ nonce ≤ (18446744073709551615 : Int)) ∧ (0 : Int) ≤ e4 ∧ e4 ≤ (64 : Int)) ∧ (U.Fit nonce e4 → (((0 : Int) ≤ tag ∧ tag ≤ (18446744073709551615 : Int)) ∧ (0 : Int) ≤ f5 ∧ f5 ≤ (64 : Int)) ∧ (U.Fit tag f5 → ∀ (z10 : Int), z10 = IntKind.wrap IntKind.u64 why → (((0 : Int) ≤ z10 ∧ z10 ≤ (18446744073709551615 : Int)) ∧ (0 : Int) ≤ g6 ∧ g6 ≤ (64 : Int)) ∧ (U.Fit z10 g6 → K (Sum.inl (Sum.inl (Sum.inl (Value.bool true)))) { heap := [], ints := [], opqs := (0 : Nat), arrs := [], junks := (0 : Nat) }) ∧ (¬U.Fit z10 g6 → K (Sum.inl (Sum.inl (Sum.inl (Value.bool false)))) { heap := [], ints := [], opqs := (0 : Nat), arrs := [], junks := (0 : Nat) })) ∧ (¬U.Fit tag f5 → K (Sum.inl (Sum.inl (Sum.inl (Value.bool false)))) { heap := [], ints := [], opqs := (0 : Nat), arrs := [], junks := (0 : Nat) })) ∧ (¬U.Fit nonce e4 → K (Sum.inl (Sum.inl (Sum.inl (Value.bool false)))) { heap := [], ints := [], opqs := (0 : Nat), arrs := [], junks := (0 : Nat) })) ∧ (¬U.Fit z9 d3 → K (Sum.inl (Sum.inl (Sum.inl (Value.bool false)))) { heap := [], ints := [], opqs := (0 : Nat), arrs := [], junks := (0 : Nat) })) ∧ (¬U.Fit z8 c2 → K (Sum.inl (Sum.inl (Sum.inl (Value.bool false)))) { heap := [], ints := [], opqs := (0 : Nat), arrs := [], junks := (0 : Nat) })) ∧ (¬U.Fit mac b1 → K (Sum.inl (Sum.inl (Sum.inl (Value.bool false)))) { heap := [], ints := [], opqs := (0 : Nat), arrs := [], junks := (0 : Nat) })) ∧ (¬U.Fit z7 a0 → K (Sum.inl (Sum.inl (Sum.inl (Value.bool false)))) { heap := [], ints := [], opqs := (0 : Nat), arrs := [], junks := (0 : Nat) })) ∧ (¬U.Nm l → K (Sum.inl (Sum.inl (Sum.inl (Value.bool false)))) { heap := [], ints := [], opqs := (0 : Nat), arrs := [], junks := (0 : Nat) })) ∧ (¬¬(a0 = (0 : Int) ∧ b1 = (0 : Int) ∧ c2 = (0 : Int) ∧ d3 = (0 : Int) ∧ e4 = (0 : Int) ∧ f5 = (0 : Int) ∧ g6 = (0 : Int) ∧ false = true ∧ True) → K (Sum.inl (Sum.inl (Sum.inl (Value.bool false)))) { heap := [], ints := [], opqs := (0 : Nat), arrs := [], junks := (0 : Nat) })) ∧ (¬U.Us kind → (¬(a0 = (0 : Int) ∧ b1 = (0 : Int) ∧ c2 = (0 : Int) ∧ d3 = (0 : Int) ∧ e4 = (0 : Int) ∧ f5 = (0 : Int) ∧ g6 = (0 : Int) ∧ true = true ∧ True) → (l = [] → ∀ (z11 : Int), z11 = IntKind.wrap IntKind.u64 xid → (((0 : Int) ≤ z11 ∧ z11 ≤ (18446744073709551615 : Int)) ∧ (0 : Int) ≤ a0 ∧ a0 ≤ (64 : Int)) ∧ (U.Fit z11 a0 → (((0 : Int) ≤ mac ∧ mac ≤ (18446744073709551615 : Int)) ∧ (0 : Int) ≤ b1 ∧ b1 ≤ (64 : Int)) ∧ (U.Fit mac b1 → ∀ (z12 : Int), z12 = IntKind.wrap IntKind.u64 ip → (((0 : Int) ≤ z12 ∧ z12 ≤ (18446744073709551615 : Int)) ∧ (0 : Int) ≤ c2 ∧ c2 ≤ (64 : Int)) ∧ (U.Fit z12 c2 → ∀ (z13 : Int), z13 = IntKind.wrap IntKind.u64 ticks → (((0 : Int) ≤ z13 ∧ z13 ≤ (18446744073709551615 : Int)) ∧ (0 : Int) ≤ d3 ∧ d3 ≤ (64 : Int)) ∧ (U.Fit z13 d3 → (((0 : Int) ≤ nonce ∧ nonce ≤ (18446744073709551615 : Int)) ∧ (0 : Int) ≤ e4 ∧ e4 ≤ (64 : Int)) ∧ (U.Fit nonce e4 → (((0 : Int) ≤ tag ∧ tag ≤ (18446744073709551615 : Int)) ∧ (0 : Int) ≤ f5 ∧ f5 ≤ (64 : Int)) ∧ (U.Fit tag f5 → ∀ (z14 : Int), z14 = IntKind.wrap IntKind.u64 why → (((0 : Int) ≤ z14 ∧ z14 ≤ (18446744073709551615 : Int)) ∧ (0 : Int) ≤ g6 ∧ g6 ≤ (64 : Int)) ∧ (U.Fit z14 g6 → K (Sum.inl (Sum.inl (Sum.inl (Value.bool true)))) { heap := [], ints := [], opqs := (0 : Nat), arrs := [], junks := (0 : Nat) }) ∧ (¬U.Fit z14 g6 → K (Sum.inl (Sum.inl (Sum.inl (Value.bool false)))) { heap := [], ints := [], opqs := (0 : Nat), arrs := [], junks := (0 : Nat) })) ∧ (¬U.Fit tag f5 → K (Sum.inl (Sum.inl (Sum.inl (Value.bool false)))) { heap := [], ints := [], opqs := (0 : Nat), arrs := [], junks := (0 : Nat) })) ∧ (¬U.Fit nonce e4 → K (Sum.inl (Sum.inl (Sum.inl (Value.bool false)))) { heap := [], ints := [], opqs := (0 : Nat), arrs := [], junks := (0 : Nat) })) ∧ (¬U.Fit z13 d3 → K (Sum.inl (Sum.inl (Sum.inl (Value.bool false)))) { heap := [], ints := [], opqs := (0 : Nat), arrs := [], junks := (0 : Nat) })) ∧ (¬U.Fit z12 c2 → K (Sum.inl (Sum.inl (Sum.inl (Value.bool false)))) { heap := [], ints := [], opqs := (0 : Nat), arrs := [], junks := (0 : Nat) })) ∧ (¬U.Fit mac b1 → K (Sum.inl (Sum.inl (Sum.inl (Value.bool false)))) { heap := [], ints := [], opqs := (0 : Nat), arrs := [], junks := (0 : Nat) })) ∧ (¬U.Fit z11 a0 → K (Sum.inl (Sum.inl (Sum.inl (Value.bool false)))) { heap := [], ints := [], opqs := (0 : Nat), arrs := [], junks := (0 : Nat) })) ∧ (¬l = [] → K (Sum.inl (Sum.inl (Sum.inl (Value.bool false)))) { heap := [], ints := [], opqs := (0 : Nat), arrs := [], junks := (0 : Nat) })) ∧ (¬¬(a0 = (0 : Int) ∧ b1 = (0 : Int) ∧ c2 = (0 : Int) ∧ d3 = (0 : Int) ∧ e4 = (0 : Int) ∧ f5 = (0 : Int) ∧ g6 = (0 : Int) ∧ true = true ∧ True) → K (Sum.inl (Sum.inl (Sum.inl (Value.bool false)))) { heap := [], ints := [], opqs := (0 : Nat), arrs := [], junks := (0 : Nat) }))) := by kernel_rfl
theorem put_vc (K : AV → St → Prop) (w v : Int) (L : List Int) (m c cap : Nat) (N : Int) : (runI inv0 tT4 40 [ptr 0 0, xi .i64 w, xi .u64 v] (outSt L m c cap N) K) = (((0 : Int) < w → ∃ (y0 : List Bool), U.BitsPre L N m c cap y0 w [v] ∧ ∀ (L'1 : List Int) (m'2 c'3 cap'4 : Nat) (N'5 : Int), U.Out L'1 N'5 (U.apps y0 w [v]) → N'5 = N + (↑(List.length [v]) : Int) * w → m'2 = List.length L'1 → c'3 ≤ cap'4 → m'2 ≤ c'3 → K (Sum.inr []) { heap := [some { elem := (85 : Nat), cells := [Sum.inr (Sum.inr (Sum.inr (Sum.inr (Sum.inr (Sum.inr (Sum.inr (Sum.inl { a := (1 : Nat), o := (0 : Nat), n := m'2, c := c'3 }))))))), Sum.inr (Sum.inr (Sum.inr (Sum.inr (Sum.inr (Sum.inr (Sum.inl (IntKind.i64, N'5)))))))], j := none, c := (2 : Nat), z := false }], ints := [], opqs := (0 : Nat), arrs := [none, some { elem := OfNat.ofNat (5 : Nat), k := AK.n IntKind.u8, l := L'1, cap := cap'4, ro := false }], junks := (0 : Nat) }) ∧ (¬(0 : Int) < w → K (Sum.inr []) { heap := [some { elem := (85 : Nat), cells := [Sum.inr (Sum.inr (Sum.inr (Sum.inr (Sum.inr (Sum.inr (Sum.inr (Sum.inl { a := (0 : Nat), o := (0 : Nat), n := m, c := c }))))))), Sum.inr (Sum.inr (Sum.inr (Sum.inr (Sum.inr (Sum.inr (Sum.inl (IntKind.i64, N)))))))], j := none, c := (2 : Nat), z := false }], ints := [], opqs := (0 : Nat), arrs := [some { elem := OfNat.ofNat (5 : Nat), k := AK.n IntKind.u8, l := L, cap := cap, ro := false }], junks := (0 : Nat) })) := by kernel_rfl
theorem take_vc (K : AV → St → Prop) (w : Int) (L : List Int) (m c cap : Nat) (a e : Int) : (runI inv0 tT4 45 [ptr 0 0, xi .i64 w] (inSt L m c cap a e) K) = ((w = (0 : Int) → K (Sum.inl (Sum.inl (Sum.inr (Sum.inr (Sum.inr (Sum.inr (Sum.inr (Sum.inr (Sum.inl (IntKind.u64, (0 : Int))))))))))) { heap := [some { elem := (96 : Nat), cells := [Sum.inr (Sum.inr (Sum.inr (Sum.inr (Sum.inr (Sum.inr (Sum.inr (Sum.inl { a := (0 : Nat), o := (0 : Nat), n := m, c := c }))))))), Sum.inr (Sum.inr (Sum.inr (Sum.inr (Sum.inr (Sum.inr (Sum.inl (IntKind.i64, a))))))), Sum.inr (Sum.inr (Sum.inr (Sum.inr (Sum.inr (Sum.inr (Sum.inl (IntKind.i64, e)))))))], j := none, c := (3 : Nat), z := false }], ints := [], opqs := (0 : Nat), arrs := [some { elem := OfNat.ofNat (5 : Nat), k := AK.n IntKind.u8, l := L, cap := cap, ro := false }], junks := (0 : Nat) }) ∧ (¬w = (0 : Int) → (U.By L ∧ m = List.length L ∧ List.length L ≤ (16777216 : Nat) ∧ ((0 : Int) ≤ a ∧ a ≤ (8 : Int) * (↑(List.length L) : Int)) ∧ (1 : Int) ≤ w ∧ w ≤ (64 : Int)) ∧ ∀ (z0 a'1 e'2 : Int), z0 = U.inV L a e w → a'1 = U.inA L a e w → e'2 = U.inE L a e w → K (Sum.inl (Sum.inl (Sum.inr (Sum.inr (Sum.inr (Sum.inr (Sum.inr (Sum.inr (Sum.inl (IntKind.u64, z0)))))))))) { heap := [some { elem := (96 : Nat), cells := [Sum.inr (Sum.inr (Sum.inr (Sum.inr (Sum.inr (Sum.inr (Sum.inr (Sum.inl { a := (0 : Nat), o := (0 : Nat), n := m, c := c }))))))), Sum.inr (Sum.inr (Sum.inr (Sum.inr (Sum.inr (Sum.inr (Sum.inl (IntKind.i64, a'1))))))), Sum.inr (Sum.inr (Sum.inr (Sum.inr (Sum.inr (Sum.inr (Sum.inl (IntKind.i64, e'2)))))))], j := none, c := (3 : Nat), z := false }], ints := [], opqs := (0 : Nat), arrs := [some { elem := OfNat.ofNat (5 : Nat), k := AK.n IntKind.u8, l := L, cap := cap, ro := false }], junks := (0 : Nat) })) := by kernel_rfl
end Go.Proofs.Ytfgnfnmbfkjnjaa
end

section
set_option linter.unusedVariables false
set_option linter.unusedSimpArgs false
namespace Go.Proofs.Ytfgnfnmbfkjnjaa
open Go Reck

/-! ### A state told with another numbering -/
def mvR (σ0 : St) (mb ma : List Nat) : Ren := ⟨σ0.heap.length, σ0.ints.length, σ0.opqs, σ0.arrs.length, σ0.junks, mb, ma, []⟩
theorem calls_mv {P : Program} {f : FuncId} {vs : Array Value} {w0 w : World} {e : Env} {σ0 : St} {K K' : AV → St → Prop} (hk : Ok w0 e σ0 w)
    (h : Calls P f vs w fun en w' => ∃ x σ' e' v, en = .returned v ∧ e.le e' ∧ Reck.av e' x = some v ∧ Ok w0 e' σ' w' ∧ K' x σ')
    (hK : ∀ x σ', K' x σ' → K x σ' ∨ ∃ mb ma y, renOk (mvR σ0 mb ma) σ' = true ∧ renV (mvR σ0 mb ma) x = some y ∧ K y (renSt (mvR σ0 mb ma) 0 σ')) :
    Calls P f vs w fun en w' => ∃ x σ' e' v, en = .returned v ∧ e.le e' ∧ Reck.av e' x = some v ∧ Ok w0 e' σ' w' ∧ K x σ' := by
  refine h.mono ?_
  rintro en w' ⟨x, σ', e', v, h1, h2, h3, h4, h5⟩
  rcases hK x σ' h5 with h6 | ⟨mb, ma, y, k1, k2, k3⟩
  · exact ⟨x, σ', e', v, h1, h2, h3, h4, h6⟩
  · have hr := renOk_ok (e := e') k1
    exact ⟨y, _, renE (mvR σ0 mb ma) e' ⟨#[], []⟩, v, h1, renE_le h2 hk.blks.symm hk.ints.symm hk.opqs.symm hk.arrs.len.symm hk.junks.symm, renV_av h4 hr x y v k2 h3, renSt_ok0 h4 hr, k3⟩

/-! ### Which messages may be -/
structure U.TMay (kind xid mac ip ticks nonce tag why : Int) (l : List Int) : Prop where
  fk : 1 ≤ kind ∧ kind ≤ 12
  fu : U.Us kind → U.Nm l
  fz : ¬ U.Us kind → l = []
  fx : U.Fit xid (U.wx kind)
  fm : U.Fit mac (U.wm kind)
  fi : U.Fit ip (U.wi kind)
  ft : 0 ≤ ticks ∧ U.Fit ticks (U.wt kind)
  fn : U.Fit nonce (U.wn kind)
  fg : U.Fit tag (U.wg kind)
  fy : 0 ≤ why ∧ U.Fit why (U.wy kind)
/-- The numbers are of their kinds. -/
structure U.TKin (xid mac ip ticks nonce tag why : Int) : Prop where
  xid : 0 ≤ xid ∧ xid ≤ 4294967295
  mac : 0 ≤ mac ∧ mac ≤ 18446744073709551615
  ip : 0 ≤ ip ∧ ip ≤ 4294967295
  ticks : -9223372036854775808 ≤ ticks ∧ ticks ≤ 9223372036854775807
  nonce : 0 ≤ nonce ∧ nonce ≤ 18446744073709551615
  tag : 0 ≤ tag ∧ tag ≤ 18446744073709551615
  why : -9223372036854775808 ≤ why ∧ why ≤ 9223372036854775807
theorem wx_bd (k : Int) : 0 ≤ U.wx k ∧ U.wx k ≤ 64 := by unfold U.wx; split <;> omega
theorem wm_bd (k : Int) : 0 ≤ U.wm k ∧ U.wm k ≤ 64 := by unfold U.wm; split <;> omega
theorem wi_bd (k : Int) : 0 ≤ U.wi k ∧ U.wi k ≤ 64 := by unfold U.wi; split <;> omega
theorem wt_bd (k : Int) : 0 ≤ U.wt k ∧ U.wt k ≤ 64 := by unfold U.wt; split <;> omega
theorem wn_bd (k : Int) : 0 ≤ U.wn k ∧ U.wn k ≤ 64 := by unfold U.wn; split <;> omega
theorem wg_bd (k : Int) : 0 ≤ U.wg k ∧ U.wg k ≤ 64 := by unfold U.wg; split <;> omega
theorem wy_bd (k : Int) : 0 ≤ U.wy k ∧ U.wy k ≤ 64 := by unfold U.wy; split <;> omega
theorem wt_40 (k : Int) : U.wt k ≤ 40 := by unfold U.wt; split <;> omega
theorem wy_8 (k : Int) : U.wy k ≤ 8 := by unfold U.wy; split <;> omega
theorem fit_small {v w : Int} (hw : w ≤ 62) (h : U.Fit v w) : v < 9223372036854775808 := by
  have h1 := h.out
  have h2 : (2 : Int) ^ w.toNat ≤ 2 ^ 62 := by
    have := Nat.pow_le_pow_right (n := 2) (by decide) (show w.toNat ≤ 62 by omega)
    have e : ∀ n : Nat, (2 : Int) ^ n = ((2 ^ n : Nat) : Int) := fun n => by simp
    rw [e, e]; exact Int.ofNat_le.2 this
  have h3 : (2 : Int) ^ 62 = 4611686018427387904 := by decide
  omega
theorem fit_wrap {v z w : Int} (hw : w ≤ 62) (hv : -9223372036854775808 ≤ v ∧ v ≤ 9223372036854775807) (hz : z = v % 18446744073709551616) : U.Fit z w ↔ 0 ≤ v ∧ U.Fit v w := by
  constructor
  · intro h
    have := fit_small hw h
    have e : z = v := by omega
    exact ⟨by omega, e ▸ h⟩
  · rintro ⟨h0, h⟩
    have e : z = v := by omega
    exact e ▸ h
theorem may_run (K : AV → St → Prop) (kind xid mac ip ticks nonce tag why : Int) (l : List Int) (hk : U.TKin xid mac ip ticks nonce tag why) (h1 : U.TMay kind xid mac ip ticks nonce tag why l → K (lit (.bool true)) emptySt) (h2 : ¬ U.TMay kind xid mac ip ticks nonce tag why l → K (lit (.bool false)) emptySt) :
    runI inv0 tT4 10 [msgA kind xid mac ip ticks (strC l) nonce tag why] emptySt K := by
  rw [may_vc]
  intro a b c d e f g ea eb ec ed ee ef eg
  subst ea; subst eb; subst ec; subst ed; subst ee; subst ef; subst eg
  have rest : (1 ≤ kind ∧ kind ≤ 12) → (U.Us kind → U.Nm l) → (¬ U.Us kind → l = []) → ∀ (z7 : Int), z7 = IntKind.wrap IntKind.u64 xid → (((0 : Int) ≤ z7 ∧ z7 ≤ (18446744073709551615 : Int)) ∧ (0 : Int) ≤ U.wx kind ∧ U.wx kind ≤ (64 : Int)) ∧ (U.Fit z7 (U.wx kind) → (((0 : Int) ≤ mac ∧ mac ≤ (18446744073709551615 : Int)) ∧ (0 : Int) ≤ U.wm kind ∧ U.wm kind ≤ (64 : Int)) ∧ (U.Fit mac (U.wm kind) → ∀ (z8 : Int), z8 = IntKind.wrap IntKind.u64 ip → (((0 : Int) ≤ z8 ∧ z8 ≤ (18446744073709551615 : Int)) ∧ (0 : Int) ≤ U.wi kind ∧ U.wi kind ≤ (64 : Int)) ∧ (U.Fit z8 (U.wi kind) → ∀ (z9 : Int), z9 = IntKind.wrap IntKind.u64 ticks → (((0 : Int) ≤ z9 ∧ z9 ≤ (18446744073709551615 : Int)) ∧ (0 : Int) ≤ U.wt kind ∧ U.wt kind ≤ (64 : Int)) ∧ (U.Fit z9 (U.wt kind) → (((0 : Int) ≤ nonce ∧ nonce ≤ (18446744073709551615 : Int)) ∧ (0 : Int) ≤ U.wn kind ∧ U.wn kind ≤ (64 : Int)) ∧ (U.Fit nonce (U.wn kind) → (((0 : Int) ≤ tag ∧ tag ≤ (18446744073709551615 : Int)) ∧ (0 : Int) ≤ U.wg kind ∧ U.wg kind ≤ (64 : Int)) ∧ (U.Fit tag (U.wg kind) → ∀ (z10 : Int), z10 = IntKind.wrap IntKind.u64 why → (((0 : Int) ≤ z10 ∧ z10 ≤ (18446744073709551615 : Int)) ∧ (0 : Int) ≤ U.wy kind ∧ U.wy kind ≤ (64 : Int)) ∧ (U.Fit z10 (U.wy kind) → K (lit (.bool true)) emptySt) ∧ (¬U.Fit z10 (U.wy kind) → K (lit (.bool false)) emptySt)) ∧ (¬U.Fit tag (U.wg kind) → K (lit (.bool false)) emptySt)) ∧ (¬U.Fit nonce (U.wn kind) → K (lit (.bool false)) emptySt)) ∧ (¬U.Fit z9 (U.wt kind) → K (lit (.bool false)) emptySt)) ∧ (¬U.Fit z8 (U.wi kind) → K (lit (.bool false)) emptySt)) ∧ (¬U.Fit mac (U.wm kind) → K (lit (.bool false)) emptySt)) ∧ (¬U.Fit z7 (U.wx kind) → K (lit (.bool false)) emptySt) := by
    intro gk gu gn z7 e7
    obtain ⟨k1, k2, k3, k4, k5, k6, k7⟩ := hk
    rw [wrapU64] at e7
    obtain rfl : z7 = xid := by omega
    refine ⟨⟨by omega, wx_bd _⟩, fun f1 => ⟨⟨by omega, wm_bd _⟩, fun f2 z8 e8 => ?_, fun f2 => h2 fun hM => f2 hM.fm⟩, fun f1 => h2 fun hM => f1 hM.fx⟩
    rw [wrapU64] at e8
    obtain rfl : z8 = ip := by omega
    refine ⟨⟨by omega, wi_bd _⟩, fun f3 z9 e9 => ?_, fun f3 => h2 fun hM => f3 hM.fi⟩
    rw [wrapU64] at e9
    have w9 := fit_wrap (w := U.wt kind) (by have := wt_40 kind; omega) k4 e9
    refine ⟨⟨by omega, wt_bd _⟩, fun f4 => ⟨⟨by omega, wn_bd _⟩, fun f5 => ⟨⟨by omega, wg_bd _⟩, fun f6 z10 e10 => ?_, fun f6 => h2 fun hM => f6 hM.fg⟩, fun f5 => h2 fun hM => f5 hM.fn⟩, fun f4 => h2 fun hM => f4 (w9.2 hM.ft)⟩
    rw [wrapU64] at e10
    have w10 := fit_wrap (w := U.wy kind) (by have := wy_8 kind; omega) k7 e10
    exact ⟨⟨by omega, wy_bd _⟩, fun f7 => h1 ⟨gk, gu, gn, f1, f2, f3, w9.1 f4, f5, f6, w10.1 f7⟩, fun f7 => h2 fun hM => f7 (w10.2 hM.fy)⟩
  refine ⟨fun us => ⟨fun _ => ⟨fun hN => rest ⟨by have := us.out; omega, us.out.2⟩ (fun _ => hN) (fun h => absurd us h), fun hN => h2 fun hM => hN (hM.fu us)⟩, fun hh => absurd (fun h => absurd h.2.2.2.2.2.2.2.1 (by decide)) hh⟩, fun us => ⟨fun hn => ⟨fun hl => rest ?_ (fun h => absurd h us) (fun _ => hl), fun hl => h2 fun hM => hl (hM.fz us)⟩, fun hh => h2 fun hM => hh fun h => ?_⟩⟩
  · refine Classical.byContradiction fun hc => hn ?_
    have hc : kind < 1 ∨ 12 < kind := by omega
    refine ⟨?_, ?_, ?_, ?_, ?_, ?_, ?_, rfl, trivial⟩
    · unfold U.wx; rw [if_neg (by omega)]
    · unfold U.wm; rw [if_neg (by omega)]
    · unfold U.wi; rw [if_neg (by omega)]
    · unfold U.wt; rw [if_neg (by omega)]
    · unfold U.wn; rw [if_neg (by omega)]
    · unfold U.wg; rw [if_neg (by omega)]
    · unfold U.wy; rw [if_neg (by omega)]
  · have h6 : kind ≤ 6 := by
      refine Classical.byContradiction fun hc => us ⟨by omega, hM.fk.2⟩
    have := h.2.1
    unfold U.wm at this
    rw [if_pos ⟨hM.fk.1, h6⟩] at this
    cases this

/-! ### A field that a kind has, or has not -/
def U.putR (w v : Int) : List Bool := if 0 < w then num w.toNat v.toNat else []
def U.putL (l : List Bool) (w v : Int) : List Bool := l ++ U.putR w v
structure U.OP (L : List Int) (N : Int) (m c cap : Nat) (l : List Bool) : Prop where
  out : U.Out L N l ∧ m = L.length ∧ c ≤ cap ∧ m ≤ c
theorem out_len' {L : List Int} {N : Int} {l : List Bool} (h : U.Out L N l) : N = l.length := by
  obtain ⟨_, _, _, h, _⟩ := h; exact h
theorem putR_len (w v : Int) (hw : 0 ≤ w) : ((U.putR w v).length : Int) = w := by
  unfold U.putR
  split
  · rw [num_length]; omega
  · simp; omega
theorem put_run (K : AV → St → Prop) (w v : Int) (L : List Int) (l : List Bool) (m c cap : Nat) (N : Int) (h : U.OP L N m c cap l) (hN : N ≤ 500000) (hw : 0 ≤ w ∧ w ≤ 64) (hv : 0 ≤ v ∧ v ≤ 18446744073709551615)
    (hk : ∀ (L' : List Int) (m' c' cap' : Nat) (N' : Int), U.OP L' N' m' c' cap' (U.putL l w v) → N' = N + w → K (.inr []) (outSt' L' m' c' cap' N')) :
    runI inv0 tT4 40 [ptr 0 0, xi .i64 w, xi .u64 v] (outSt L m c cap N) (fun x σ => K x σ ∨ (x = .inr [] ∧ σ = outSt L m c cap N ∧ K (.inr []) (outSt' L m c cap N))) := by
  rw [put_vc]
  obtain ⟨g1, g2, g3, g4⟩ := h.out
  refine ⟨fun hp => ⟨l, ⟨⟨g1, g2, g3, g4, by omega, by simp; omega, by simpa using hv⟩⟩, fun L' m' c' cap' N' k1 k2 k3 k4 k5 => .inl ?_⟩, fun hp => .inr ⟨rfl, rfl, ?_⟩⟩
  · refine hk L' m' c' cap' N' ⟨?_, k3, k4, k5⟩ (by rw [k2]; simp)
    unfold U.putL U.putR; rw [if_pos hp]; exact k1
  · refine hk L m c cap N ⟨?_, g2, g3, g4⟩ (by omega)
    unfold U.putL U.putR; rw [if_neg hp, List.append_nil]; exact g1
def U.tkV (L : List Int) (a e w : Int) : Int := if w = 0 then 0 else U.inV L a e w
def U.tkA (L : List Int) (a e w : Int) : Int := if w = 0 then a else U.inA L a e w
def U.tkE (L : List Int) (a e w : Int) : Int := if w = 0 then e else U.inE L a e w
theorem take_run (K : AV → St → Prop) (w : Int) (L : List Int) (m c cap : Nat) (a e : Int) (h : U.By L ∧ m = L.length ∧ L.length ≤ 16777216 ∧ (0 ≤ a ∧ a ≤ 8 * L.length) ∧ 0 ≤ w ∧ w ≤ 64)
    (hk : ∀ z a' e' : Int, z = U.tkV L a e w → a' = U.tkA L a e w → e' = U.tkE L a e w → K (xi .u64 z) (inSt L m c cap a' e')) : runI inv0 tT4 45 [ptr 0 0, xi .i64 w] (inSt L m c cap a e) K := by
  rw [take_vc]
  obtain ⟨h1, h2, h3, h4, h5⟩ := h
  refine ⟨fun hw => hk 0 a e ?_ ?_ ?_, fun hw => ⟨⟨h1, h2, h3, h4, by omega⟩, fun z a' e' k1 k2 k3 => hk z a' e' ?_ ?_ ?_⟩⟩
  · unfold U.tkV; rw [if_pos hw]
  · unfold U.tkA; rw [if_pos hw]
  · unfold U.tkE; rw [if_pos hw]
  · unfold U.tkV; rw [if_neg hw]; exact k1
  · unfold U.tkA; rw [if_neg hw]; exact k2
  · unfold U.tkE; rw [if_neg hw]; exact k3
def tPut : Tbl := fun f args σ => if f == 40 then match args, σ with
    | [.inl (.inl (.inr (.inl (0, 0)))), w, v], ⟨[some ⟨85, [s, N], none, 2, false⟩], [], 0, [some ⟨5, .n .u8, L, cap, false⟩], 0⟩ => match aslX (cell s), xiX (cell N), xiX w, xiX v with
      | some ⟨0, 0, m, c⟩, some (.i64, N), some (.i64, w), some (.u64, v) => some fun K => ∃ l, (U.OP L N m c cap l ∧ N ≤ 500000 ∧ (0 ≤ w ∧ w ≤ 64) ∧ 0 ≤ v ∧ v ≤ 18446744073709551615) ∧
          ∀ (L' : List Int) (m' c' cap' : Nat) (N' : Int), U.OP L' N' m' c' cap' (U.putL l w v) → N' = N + w → K (.inr []) (outSt' L' m' c' cap' N')
      | _, _, _, _ => none
    | _, _ => none
  else none
theorem tPut_ok : TblOk Try.prog tPut := by
  intro f tm σ C h K hK
  unfold tPut at h
  split at h
  · rename_i hf
    obtain rfl : f = 40 := by simpa using hf
    split at h
    · split at h
      · rename_i m c N w v hs hN hw hv
        obtain rfl := cell_inj (aslX_eq hs)
        obtain rfl := cell_inj (xiX_eq hN)
        obtain rfl := xiX_eq hw
        obtain rfl := xiX_eq hv
        simp only [Option.some.injEq] at h; subst h
        obtain ⟨l, ⟨h1, h2, h3, h4⟩, hk⟩ := hK
        intro w0 en wd hok vs hvs
        refine calls_mv hok (knownC noOv names (conOk_of tT4_ok) (put_run K w v _ l m c _ N h1 h2 h3 h4 hk) w0 en wd hok vs hvs) ?_
        rintro x σ' (h | ⟨rfl, rfl, h⟩)
        · exact .inl h
        · exact .inr ⟨[], [0], _, rfl, rfl, h⟩
      · cases h
    · cases h
  · cases h
def tTake : Tbl := fun f args σ => if f == 45 then match args, σ with
    | [.inl (.inl (.inr (.inl (0, 0)))), w], ⟨[some ⟨96, [s, a, e], none, 3, false⟩], [], 0, [some ⟨5, .n .u8, L, cap, false⟩], 0⟩ => match aslX (cell s), xiX w, xiX (cell a), xiX (cell e) with
      | some ⟨0, 0, m, c⟩, some (.i64, w), some (.i64, a), some (.i64, e) => some fun K => (U.By L ∧ m = L.length ∧ L.length ≤ 16777216 ∧ (0 ≤ a ∧ a ≤ 8 * L.length) ∧ 0 ≤ w ∧ w ≤ 64) ∧
          ∀ z a' e' : Int, z = U.tkV L a e w → a' = U.tkA L a e w → e' = U.tkE L a e w → K (xi .u64 z) (inSt L m c cap a' e')
      | _, _, _, _ => none
    | _, _ => none
  else none
theorem tTake_ok : TblOk Try.prog tTake := by
  intro f tm σ C h K hK
  unfold tTake at h
  split at h
  · rename_i hf
    obtain rfl : f = 45 := by simpa using hf
    split at h
    · split at h
      · rename_i m c w a e hs hw ha he
        obtain rfl := cell_inj (aslX_eq hs)
        obtain rfl := xiX_eq hw
        obtain rfl := cell_inj (xiX_eq ha)
        obtain rfl := cell_inj (xiX_eq he)
        simp only [Option.some.injEq] at h; subst h
        exact knownC noOv names (conOk_of tT4_ok) (take_run K w _ m c _ a e hK.1 hK.2)
      · cases h
    · cases h
  · cases h
def intsT : List Cell → Option (List Int × List Int)
  | [a, b, c, d, e, u, f, g, h] => match xiX (cell a), xiX (cell b), xiX (cell c), xiX (cell d), xiX (cell e), strX (cell u), xiX (cell f), xiX (cell g), xiX (cell h) with
    | some (.i64, a), some (.u32, b), some (.u64, c), some (.u32, d), some (.i64, e), some u, some (.u64, f), some (.u64, g), some (.i64, h) => some ([a, b, c, d, e, f, g, h], u)
    | _, _, _, _, _, _, _, _, _ => none
  | _ => none
theorem intsT_ok {e : Env} {l : List Cell} {kind xid mac ip ticks nonce tag why : Int} {u : List Int} {v : Value} (h : intsT l = some ([kind, xid, mac, ip, ticks, nonce, tag, why], u)) (hv : av e (.inl (.inr l)) = some v) : av e (msgA kind xid mac ip ticks (strC u) nonce tag why) = some v := by
  unfold intsT at h
  split at h
  · rename_i c1 c2 c3 c4 c5 uc c7 c8 c9
    split at h
    · rename_i h1 h2 h3 h4 h5 h6 h7 h8 h9
      simp only [Option.some.injEq, Prod.mk.injEq, List.cons.injEq, and_true] at h
      obtain ⟨⟨rfl, rfl, rfl, rfl, rfl, rfl, rfl, rfl⟩, hu0⟩ := h
      obtain rfl := cell_inj (xiX_eq h1)
      obtain rfl := cell_inj (xiX_eq h2)
      obtain rfl := cell_inj (xiX_eq h3)
      obtain rfl := cell_inj (xiX_eq h4)
      obtain rfl := cell_inj (xiX_eq h5)
      obtain rfl := cell_inj (xiX_eq h7)
      obtain rfl := cell_inj (xiX_eq h8)
      obtain rfl := cell_inj (xiX_eq h9)
      cases hu : Reck.cv e uc with
      | none =>
        simp only [av, v1, List.map_cons, List.map_nil, hu] at hv
        simp only [xintC, Reck.cv, seqO] at hv
        cases hv
      | some s =>
        have h6' : strX (cell uc) = some u := hu0 ▸ h6
        obtain ⟨rfl, hb⟩ := strX_ok h6' (show av e (cell uc) = some s from hu)
        have e2 : Reck.cv e (strC u) = some (.string (strZ u)) := strC_av hb e
        simp only [msgA, av, v1, List.map_cons, List.map_nil, hu] at hv ⊢
        rw [e2]; exact hv
    · cases h
  · cases h
end Go.Proofs.Ytfgnfnmbfkjnjaa
end
