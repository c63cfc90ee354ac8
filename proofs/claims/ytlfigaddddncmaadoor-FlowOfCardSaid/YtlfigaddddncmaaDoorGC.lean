/- Parts of a proof, one behind the other: YA YB YC YD YE YF YG. No condition. -/
import Derived.Test.YtlfigaddddncmaaDoorGB
section
namespace Go.Proofs.YtlfigaddddncmaaDoor
open Go Reck
set_option linter.unusedVariables false
def kyL (src dst sip dip proto sport dport : Int) : List Cell := [xintC .u64 src, xintC .u64 dst, xintC .u32 sip, xintC .u32 dip, xintC .i64 proto, xintC .i64 sport, xintC .i64 dport]
def kyA (src dst sip dip proto sport dport : Int) : AV := .inl (.inr (kyL src dst sip dip proto sport dport))
set_option maxRecDepth 100000
--PLAIN
theorem good_vc (K : AV → St → Prop) (src dst sip dip proto sport dport : Int) : (runI inv0 tbl0 12 [kyA src dst sip dip proto sport dport] emptySt K) = (∀ (z0 : Int), z0 = max src dst → ((281474976710655 : Int) < z0 → K (Sum.inl (Sum.inl (Sum.inl (Value.bool false)))) { heap := [], ints := [], opqs := (0 : Nat), arrs := [], junks := (0 : Nat) }) ∧ (¬(281474976710655 : Int) < z0 → (proto < (0 : Int) → K (Sum.inl (Sum.inl (Sum.inl (Value.bool false)))) { heap := [], ints := [], opqs := (0 : Nat), arrs := [], junks := (0 : Nat) }) ∧ (¬proto < (0 : Int) → ((255 : Int) < proto → K (Sum.inl (Sum.inl (Sum.inl (Value.bool false)))) { heap := [], ints := [], opqs := (0 : Nat), arrs := [], junks := (0 : Nat) }) ∧ (¬(255 : Int) < proto → (¬proto = (6 : Int) → (¬proto = (17 : Int) → (sport = (0 : Int) → (dport = (0 : Int) → K (Sum.inl (Sum.inl (Sum.inl (Value.bool true)))) { heap := [], ints := [], opqs := (0 : Nat), arrs := [], junks := (0 : Nat) }) ∧ (¬dport = (0 : Int) → K (Sum.inl (Sum.inl (Sum.inl (Value.bool false)))) { heap := [], ints := [], opqs := (0 : Nat), arrs := [], junks := (0 : Nat) })) ∧ (¬sport = (0 : Int) → K (Sum.inl (Sum.inl (Sum.inl (Value.bool false)))) { heap := [], ints := [], opqs := (0 : Nat), arrs := [], junks := (0 : Nat) })) ∧ (¬¬proto = (17 : Int) → ∀ (z1 : Int), z1 = min sport dport → ((0 : Int) ≤ z1 → ∀ (z2 : Int), z2 = max sport dport → (z2 ≤ (65535 : Int) → K (Sum.inl (Sum.inl (Sum.inl (Value.bool true)))) { heap := [], ints := [], opqs := (0 : Nat), arrs := [], junks := (0 : Nat) }) ∧ (¬z2 ≤ (65535 : Int) → K (Sum.inl (Sum.inl (Sum.inl (Value.bool false)))) { heap := [], ints := [], opqs := (0 : Nat), arrs := [], junks := (0 : Nat) })) ∧ (¬(0 : Int) ≤ z1 → K (Sum.inl (Sum.inl (Sum.inl (Value.bool false)))) { heap := [], ints := [], opqs := (0 : Nat), arrs := [], junks := (0 : Nat) }))) ∧ (¬¬proto = (6 : Int) → ∀ (z3 : Int), z3 = min sport dport → ((0 : Int) ≤ z3 → ∀ (z4 : Int), z4 = max sport dport → (z4 ≤ (65535 : Int) → K (Sum.inl (Sum.inl (Sum.inl (Value.bool true)))) { heap := [], ints := [], opqs := (0 : Nat), arrs := [], junks := (0 : Nat) }) ∧ (¬z4 ≤ (65535 : Int) → K (Sum.inl (Sum.inl (Sum.inl (Value.bool false)))) { heap := [], ints := [], opqs := (0 : Nat), arrs := [], junks := (0 : Nat) })) ∧ (¬(0 : Int) ≤ z3 → K (Sum.inl (Sum.inl (Sum.inl (Value.bool false)))) { heap := [], ints := [], opqs := (0 : Nat), arrs := [], junks := (0 : Nat) })))))) := by kernel_rfl
theorem rgood_vc (K : AV → St → Prop) (src dst sip dip proto sport dport : Int) : (runI inv0 tbl0 15 [kyA src dst sip dip proto sport dport] emptySt K) = (((281474976710656 : Int) ≤ src → K (Sum.inl (Sum.inl (Sum.inl (Value.bool false)))) { heap := [], ints := [], opqs := (0 : Nat), arrs := [], junks := (0 : Nat) }) ∧ (¬(281474976710656 : Int) ≤ src → ((281474976710656 : Int) ≤ dst → K (Sum.inl (Sum.inl (Sum.inl (Value.bool false)))) { heap := [], ints := [], opqs := (0 : Nat), arrs := [], junks := (0 : Nat) }) ∧ (¬(281474976710656 : Int) ≤ dst → (proto < (0 : Int) → K (Sum.inl (Sum.inl (Sum.inl (Value.bool false)))) { heap := [], ints := [], opqs := (0 : Nat), arrs := [], junks := (0 : Nat) }) ∧ (¬proto < (0 : Int) → ((256 : Int) ≤ proto → K (Sum.inl (Sum.inl (Sum.inl (Value.bool false)))) { heap := [], ints := [], opqs := (0 : Nat), arrs := [], junks := (0 : Nat) }) ∧ (¬(256 : Int) ≤ proto → (proto = (6 : Int) → ((0 : Int) ≤ sport → (sport ≤ (65535 : Int) → ((0 : Int) ≤ dport → (dport ≤ (65535 : Int) → K (Sum.inl (Sum.inl (Sum.inl (Value.bool true)))) { heap := [], ints := [], opqs := (0 : Nat), arrs := [], junks := (0 : Nat) }) ∧ (¬dport ≤ (65535 : Int) → K (Sum.inl (Sum.inl (Sum.inl (Value.bool false)))) { heap := [], ints := [], opqs := (0 : Nat), arrs := [], junks := (0 : Nat) })) ∧ (¬(0 : Int) ≤ dport → K (Sum.inl (Sum.inl (Sum.inl (Value.bool false)))) { heap := [], ints := [], opqs := (0 : Nat), arrs := [], junks := (0 : Nat) })) ∧ (¬sport ≤ (65535 : Int) → K (Sum.inl (Sum.inl (Sum.inl (Value.bool false)))) { heap := [], ints := [], opqs := (0 : Nat), arrs := [], junks := (0 : Nat) })) ∧ (¬(0 : Int) ≤ sport → K (Sum.inl (Sum.inl (Sum.inl (Value.bool false)))) { heap := [], ints := [], opqs := (0 : Nat), arrs := [], junks := (0 : Nat) })) ∧ (¬proto = (6 : Int) → (proto = (17 : Int) → ((0 : Int) ≤ sport → (sport ≤ (65535 : Int) → ((0 : Int) ≤ dport → (dport ≤ (65535 : Int) → K (Sum.inl (Sum.inl (Sum.inl (Value.bool true)))) { heap := [], ints := [], opqs := (0 : Nat), arrs := [], junks := (0 : Nat) }) ∧ (¬dport ≤ (65535 : Int) → K (Sum.inl (Sum.inl (Sum.inl (Value.bool false)))) { heap := [], ints := [], opqs := (0 : Nat), arrs := [], junks := (0 : Nat) })) ∧ (¬(0 : Int) ≤ dport → K (Sum.inl (Sum.inl (Sum.inl (Value.bool false)))) { heap := [], ints := [], opqs := (0 : Nat), arrs := [], junks := (0 : Nat) })) ∧ (¬sport ≤ (65535 : Int) → K (Sum.inl (Sum.inl (Sum.inl (Value.bool false)))) { heap := [], ints := [], opqs := (0 : Nat), arrs := [], junks := (0 : Nat) })) ∧ (¬(0 : Int) ≤ sport → K (Sum.inl (Sum.inl (Sum.inl (Value.bool false)))) { heap := [], ints := [], opqs := (0 : Nat), arrs := [], junks := (0 : Nat) })) ∧ (¬proto = (17 : Int) → ((0 : Int) ≤ sport → (sport ≤ (0 : Int) → ((0 : Int) ≤ dport → (dport ≤ (0 : Int) → K (Sum.inl (Sum.inl (Sum.inl (Value.bool true)))) { heap := [], ints := [], opqs := (0 : Nat), arrs := [], junks := (0 : Nat) }) ∧ (¬dport ≤ (0 : Int) → K (Sum.inl (Sum.inl (Sum.inl (Value.bool false)))) { heap := [], ints := [], opqs := (0 : Nat), arrs := [], junks := (0 : Nat) })) ∧ (¬(0 : Int) ≤ dport → K (Sum.inl (Sum.inl (Sum.inl (Value.bool false)))) { heap := [], ints := [], opqs := (0 : Nat), arrs := [], junks := (0 : Nat) })) ∧ (¬sport ≤ (0 : Int) → K (Sum.inl (Sum.inl (Sum.inl (Value.bool false)))) { heap := [], ints := [], opqs := (0 : Nat), arrs := [], junks := (0 : Nat) })) ∧ (¬(0 : Int) ≤ sport → K (Sum.inl (Sum.inl (Sum.inl (Value.bool false)))) { heap := [], ints := [], opqs := (0 : Nat), arrs := [], junks := (0 : Nat) })))))))) := by kernel_rfl
theorem back_vc (K : AV → St → Prop) (src dst sip dip proto sport dport : Int) : (runI inv0 tbl0 14 [kyA src dst sip dip proto sport dport] emptySt K) = (K (Sum.inl (Sum.inr [Sum.inr (Sum.inr (Sum.inr (Sum.inr (Sum.inr (Sum.inr (Sum.inl (IntKind.u64, dst))))))), Sum.inr (Sum.inr (Sum.inr (Sum.inr (Sum.inr (Sum.inr (Sum.inl (IntKind.u64, src))))))), Sum.inr (Sum.inr (Sum.inr (Sum.inr (Sum.inr (Sum.inr (Sum.inl (IntKind.u32, dip))))))), Sum.inr (Sum.inr (Sum.inr (Sum.inr (Sum.inr (Sum.inr (Sum.inl (IntKind.u32, sip))))))), Sum.inr (Sum.inr (Sum.inr (Sum.inr (Sum.inr (Sum.inr (Sum.inl (IntKind.i64, proto))))))), Sum.inr (Sum.inr (Sum.inr (Sum.inr (Sum.inr (Sum.inr (Sum.inl (IntKind.i64, dport))))))), Sum.inr (Sum.inr (Sum.inr (Sum.inr (Sum.inr (Sum.inr (Sum.inl (IntKind.i64, sport)))))))])) { heap := [], ints := [], opqs := (0 : Nat), arrs := [], junks := (0 : Nat) }) := by kernel_rfl
end Go.Proofs.YtlfigaddddncmaaDoor
end

section
set_option linter.unusedVariables false
set_option linter.unusedSimpArgs false
namespace Go.Proofs.YtlfigaddddncmaaDoor
open Go Reck
/-- A key that may be. -/
structure U.KG (src dst sip dip proto sport dport : Int) : Prop where
  m : src ≤ 281474976710655 ∧ dst ≤ 281474976710655
  p : 0 ≤ proto ∧ proto ≤ 255
  s : 0 ≤ sport ∧ sport ≤ 65535 ∧ 0 ≤ dport ∧ dport ≤ 65535
  z : proto = 6 ∨ proto = 17 ∨ (sport = 0 ∧ dport = 0)
theorem good_run (K : AV → St → Prop) (src dst sip dip proto sport dport : Int) (hT : U.KG src dst sip dip proto sport dport → K (lit (.bool true)) emptySt) (hF : ¬ U.KG src dst sip dip proto sport dport → K (lit (.bool false)) emptySt) :
    runI inv0 tbl0 12 [kyA src dst sip dip proto sport dport] emptySt K := by
  rw [good_vc]
  repeat' (first | with_reducible apply And.intro | intro _)
  all_goals (first | exact hT ⟨by omega, by omega, by omega, by omega⟩ | exact hF (fun h => by obtain ⟨h1, h2, h3, h4⟩ := h; omega))
theorem rgood_run (K : AV → St → Prop) (src dst sip dip proto sport dport : Int) (hT : U.KG src dst sip dip proto sport dport → K (lit (.bool true)) emptySt) (hF : ¬ U.KG src dst sip dip proto sport dport → K (lit (.bool false)) emptySt) :
    runI inv0 tbl0 15 [kyA src dst sip dip proto sport dport] emptySt K := by
  rw [rgood_vc]
  repeat' (first | with_reducible apply And.intro | intro _)
  all_goals (first | exact hT ⟨by omega, by omega, by omega, by omega⟩ | exact hF (fun h => by obtain ⟨h1, h2, h3, h4⟩ := h; omega))
def kyX (l : List Cell) : Option (List Int) :=
  match l with
  | [a, b, c, d, e, f, g] => match xiX (cell a), xiX (cell b), xiX (cell c), xiX (cell d), xiX (cell e), xiX (cell f), xiX (cell g) with
    | some (.u64, a), some (.u64, b), some (.u32, c), some (.u32, d), some (.i64, e), some (.i64, f), some (.i64, g) => some [a, b, c, d, e, f, g]
    | _, _, _, _, _, _, _ => none
  | _ => none
theorem kyX_eq {l : List Cell} {a b c d e f g : Int} (h : kyX l = some [a, b, c, d, e, f, g]) : l = kyL a b c d e f g := by
  unfold kyX at h
  split at h
  · split at h
    · rename_i h1 h2 h3 h4 h5 h6 h7
      simp only [Option.some.injEq, List.cons.injEq, and_true] at h
      obtain ⟨rfl, rfl, rfl, rfl, rfl, rfl, rfl⟩ := h
      rw [cell_inj (xiX_eq h1), cell_inj (xiX_eq h2), cell_inj (xiX_eq h3), cell_inj (xiX_eq h4), cell_inj (xiX_eq h5), cell_inj (xiX_eq h6), cell_inj (xiX_eq h7)]; rfl
    · cases h
  · cases h
def tGood : Tbl := fun f args σ => if f == 12 then match args, σ with
    | [.inl (.inr l)], ⟨[], [], 0, [], 0⟩ => match kyX l with
      | some [src, dst, sip, dip, proto, sport, dport] => some fun K => (U.KG src dst sip dip proto sport dport → K (lit (.bool true)) emptySt) ∧ (¬ U.KG src dst sip dip proto sport dport → K (lit (.bool false)) emptySt)
      | _ => none
    | _, _ => none
  else none
theorem tGood_ok : TblOk Tryd.prog tGood := by
  intro f tm σ C h K hK
  unfold tGood at h
  split at h
  · rename_i hf
    obtain rfl : f = 12 := by simpa using hf
    split at h
    · split at h
      · rename_i hl
        obtain rfl := kyX_eq hl
        simp only [Option.some.injEq] at h; subst h
        exact knownC noOv names (conOk_of tbl0_ok) (good_run K _ _ _ _ _ _ _ hK.1 hK.2)
      · cases h
    · cases h
  · cases h
def tRGood : Tbl := fun f args σ => if f == 15 then match args, σ with
    | [.inl (.inr l)], ⟨[], [], 0, [], 0⟩ => match kyX l with
      | some [src, dst, sip, dip, proto, sport, dport] => some fun K => (U.KG src dst sip dip proto sport dport → K (lit (.bool true)) emptySt) ∧ (¬ U.KG src dst sip dip proto sport dport → K (lit (.bool false)) emptySt)
      | _ => none
    | _, _ => none
  else none
theorem tRGood_ok : TblOk Tryd.prog tRGood := by
  intro f tm σ C h K hK
  unfold tRGood at h
  split at h
  · rename_i hf
    obtain rfl : f = 15 := by simpa using hf
    split at h
    · split at h
      · rename_i hl
        obtain rfl := kyX_eq hl
        simp only [Option.some.injEq] at h; subst h
        exact knownC noOv names (conOk_of tbl0_ok) (rgood_run K _ _ _ _ _ _ _ hK.1 hK.2)
      · cases h
    · cases h
  · cases h
def tKG : Tbl := tblOr tGood tRGood
theorem tKG_ok : TblOk Tryd.prog tKG := tblOr_ok tGood_ok tRGood_ok
end Go.Proofs.YtlfigaddddncmaaDoor
end

section
namespace Go.Proofs.YtlfigaddddncmaaDoor
open Go Reck
set_option linter.unusedVariables false
def tYB : Tbl := tblOr tBitsAll (tblOr tR2 tKG)
theorem tYB_ok : TblOk Tryd.prog tYB := tblOr_ok tBitsAll_ok (tblOr_ok tR2_ok tKG_ok)
set_option maxRecDepth 100000
--PLAIN
theorem kbytes_vc (K : AV → St → Prop) (src dst sip dip proto sport dport : Int) : (runI inv0 tYB 16 [kyA src dst sip dip proto sport dport] emptySt K) = ((U.KG src dst sip dip proto sport dport → ∀ (L0 : List Int), U.Out L0 (0 : Int) [] → L0 = [] → ∃ (y1 : List Bool), U.BitsPre L0 (0 : Int) (0 : Nat) (0 : Nat) (0 : Nat) y1 (48 : Int) [src, dst] ∧ ∀ (L'2 : List Int) (m'3 c'4 cap'5 : Nat) (N'6 : Int), U.Out L'2 N'6 (U.apps y1 (48 : Int) [src, dst]) → N'6 = (0 : Int) + (↑(List.length [src, dst]) : Int) * (48 : Int) → m'3 = List.length L'2 → c'4 ≤ cap'5 → m'3 ≤ c'4 → ∀ (z7 : Int), z7 = IntKind.wrap IntKind.u64 sip → ∀ (z8 : Int), z8 = IntKind.wrap IntKind.u64 dip → ∃ (y9 : List Bool), U.BitsPre L'2 N'6 m'3 c'4 cap'5 y9 (32 : Int) [z7, z8] ∧ ∀ (L'10 : List Int) (m'11 c'12 cap'13 : Nat) (N'14 : Int), U.Out L'10 N'14 (U.apps y9 (32 : Int) [z7, z8]) → N'14 = N'6 + (↑(List.length [z7, z8]) : Int) * (32 : Int) → m'11 = List.length L'10 → c'12 ≤ cap'13 → m'11 ≤ c'12 → ∀ (z15 : Int), z15 = IntKind.wrap IntKind.u64 proto → ∃ (y16 : List Bool), U.BitsPre L'10 N'14 m'11 c'12 cap'13 y16 (8 : Int) [z15] ∧ ∀ (L'17 : List Int) (m'18 c'19 cap'20 : Nat) (N'21 : Int), U.Out L'17 N'21 (U.apps y16 (8 : Int) [z15]) → N'21 = N'14 + (↑(List.length [z15]) : Int) * (8 : Int) → m'18 = List.length L'17 → c'19 ≤ cap'20 → m'18 ≤ c'19 → ∀ (z22 : Int), z22 = IntKind.wrap IntKind.u64 sport → ∀ (z23 : Int), z23 = IntKind.wrap IntKind.u64 dport → ∃ (y24 : List Bool), U.BitsPre L'17 N'21 m'18 c'19 cap'20 y24 (16 : Int) [z22, z23] ∧ ∀ (L'25 : List Int) (m'26 c'27 cap'28 : Nat) (N'29 : Int), U.Out L'25 N'29 (U.apps y24 (16 : Int) [z22, z23]) → N'29 = N'21 + (↑(List.length [z22, z23]) : Int) * (16 : Int) → m'26 = List.length L'25 → c'27 ≤ cap'28 → m'26 ≤ c'27 → (m'26 = List.length L'25 ∧ m'26 ≤ (16777216 : Nat)) ∧ ∀ (L'30 : List Int) (c'31 cap'32 : Nat), L'30 = L'25 → m'26 ≤ c'31 → c'31 ≤ cap'32 → K (Sum.inl (Sum.inl (Sum.inr (Sum.inr (Sum.inr (Sum.inr (Sum.inr (Sum.inr (Sum.inr (Sum.inl { a := (0 : Nat), o := (0 : Nat), n := m'26, c := c'31 })))))))))) { heap := [], ints := [], opqs := (0 : Nat), arrs := [some { elem := (5 : Nat), k := AK.n IntKind.u8, l := L'30, cap := cap'32, ro := false }], junks := (0 : Nat) }) ∧ (¬U.KG src dst sip dip proto sport dport → K (Sum.inl (Sum.inl (Sum.inl (Value.slice none (0 : Nat) (0 : Nat))))) { heap := [], ints := [], opqs := (0 : Nat), arrs := [], junks := (0 : Nat) })) := by kernel_rfl
theorem rbytes_vc (K : AV → St → Prop) (src dst sip dip proto sport dport : Int) : (runI inv0 tYB 20 [kyA src dst sip dip proto sport dport] emptySt K) = (∀ (z0 : Int), z0 = IntKind.wrap IntKind.i64 src → ∀ (z1 : Int), z1 = IntKind.wrap IntKind.i64 dst → ∀ (z2 : Int), z2 = IntKind.wrap IntKind.i64 sip → ∀ (z3 : Int), z3 = IntKind.wrap IntKind.i64 dip → ∀ (z4 : Int), z4 = IntKind.wrap IntKind.u64 z0 → (((0 : Int) ≤ (6 : Int) ∧ (6 : Int) ≤ (1000 : Int)) ∧ (0 : Int) ≤ z4 ∧ z4 ≤ (18446744073709551615 : Int)) ∧ ∀ (m5 : Nat) (L6 : List Int), (↑m5 : Int) = (6 : Int) → L6 = U.nb (6 : Int) z4 → True ∧ Nat.le ((0 : Nat) + m5) (List.length L6) ∧ (0 : Nat) ≤ (16777216 : Nat) ∧ m5 ≤ (16777216 : Nat) ∧ ∀ (l'7 : List Int) (n'8 c'9 : Nat), l'7 = [] ++ List.take m5 (List.drop ((0 : Nat)) L6) → n'8 = (0 : Nat) + m5 → n'8 ≤ c'9 → ∀ (z10 : Int), z10 = IntKind.wrap IntKind.i64 src → ∀ (z11 : Int), z11 = IntKind.wrap IntKind.i64 dst → ∀ (z12 : Int), z12 = IntKind.wrap IntKind.i64 sip → ∀ (z13 : Int), z13 = IntKind.wrap IntKind.i64 dip → ∀ (z14 : Int), z14 = IntKind.wrap IntKind.u64 z11 → (((0 : Int) ≤ (6 : Int) ∧ (6 : Int) ≤ (1000 : Int)) ∧ (0 : Int) ≤ z14 ∧ z14 ≤ (18446744073709551615 : Int)) ∧ ∀ (m15 : Nat) (L16 : List Int), (↑m15 : Int) = (6 : Int) → L16 = U.nb (6 : Int) z14 → ((0 : Nat) + n'8 ≤ List.length l'7 ∧ (0 : Nat) + c'9 ≤ c'9) ∧ Nat.le ((0 : Nat) + m15) (List.length L16) ∧ n'8 ≤ (16777216 : Nat) ∧ m15 ≤ (16777216 : Nat) ∧ ∀ (l'17 : List Int) (n'18 c'19 : Nat), l'17 = List.take n'8 (List.drop ((0 : Nat)) l'7) ++ List.take m15 (List.drop ((0 : Nat)) L16) → n'18 = n'8 + m15 → n'18 ≤ c'19 → ∀ (z20 : Int), z20 = IntKind.wrap IntKind.i64 src → ∀ (z21 : Int), z21 = IntKind.wrap IntKind.i64 dst → ∀ (z22 : Int), z22 = IntKind.wrap IntKind.i64 sip → ∀ (z23 : Int), z23 = IntKind.wrap IntKind.i64 dip → ∀ (z24 : Int), z24 = IntKind.wrap IntKind.u64 z22 → (((0 : Int) ≤ (4 : Int) ∧ (4 : Int) ≤ (1000 : Int)) ∧ (0 : Int) ≤ z24 ∧ z24 ≤ (18446744073709551615 : Int)) ∧ ∀ (m25 : Nat) (L26 : List Int), (↑m25 : Int) = (4 : Int) → L26 = U.nb (4 : Int) z24 → ((0 : Nat) + n'18 ≤ List.length l'17 ∧ (0 : Nat) + c'19 ≤ c'19) ∧ Nat.le ((0 : Nat) + m25) (List.length L26) ∧ n'18 ≤ (16777216 : Nat) ∧ m25 ≤ (16777216 : Nat) ∧ ∀ (l'27 : List Int) (n'28 c'29 : Nat), l'27 = List.take n'18 (List.drop ((0 : Nat)) l'17) ++ List.take m25 (List.drop ((0 : Nat)) L26) → n'28 = n'18 + m25 → n'28 ≤ c'29 → ∀ (z30 : Int), z30 = IntKind.wrap IntKind.i64 src → ∀ (z31 : Int), z31 = IntKind.wrap IntKind.i64 dst → ∀ (z32 : Int), z32 = IntKind.wrap IntKind.i64 sip → ∀ (z33 : Int), z33 = IntKind.wrap IntKind.i64 dip → ∀ (z34 : Int), z34 = IntKind.wrap IntKind.u64 z33 → (((0 : Int) ≤ (4 : Int) ∧ (4 : Int) ≤ (1000 : Int)) ∧ (0 : Int) ≤ z34 ∧ z34 ≤ (18446744073709551615 : Int)) ∧ ∀ (m35 : Nat) (L36 : List Int), (↑m35 : Int) = (4 : Int) → L36 = U.nb (4 : Int) z34 → ((0 : Nat) + n'28 ≤ List.length l'27 ∧ (0 : Nat) + c'29 ≤ c'29) ∧ Nat.le ((0 : Nat) + m35) (List.length L36) ∧ n'28 ≤ (16777216 : Nat) ∧ m35 ≤ (16777216 : Nat) ∧ ∀ (l'37 : List Int) (n'38 c'39 : Nat), l'37 = List.take n'28 (List.drop ((0 : Nat)) l'27) ++ List.take m35 (List.drop ((0 : Nat)) L36) → n'38 = n'28 + m35 → n'38 ≤ c'39 → ∀ (z40 : Int), z40 = IntKind.wrap IntKind.i64 src → ∀ (z41 : Int), z41 = IntKind.wrap IntKind.i64 dst → ∀ (z42 : Int), z42 = IntKind.wrap IntKind.i64 sip → ∀ (z43 : Int), z43 = IntKind.wrap IntKind.i64 dip → ∀ (z44 : Int), z44 = IntKind.wrap IntKind.u64 proto → (((0 : Int) ≤ (1 : Int) ∧ (1 : Int) ≤ (1000 : Int)) ∧ (0 : Int) ≤ z44 ∧ z44 ≤ (18446744073709551615 : Int)) ∧ ∀ (m45 : Nat) (L46 : List Int), (↑m45 : Int) = (1 : Int) → L46 = U.nb (1 : Int) z44 → ((0 : Nat) + n'38 ≤ List.length l'37 ∧ (0 : Nat) + c'39 ≤ c'39) ∧ Nat.le ((0 : Nat) + m45) (List.length L46) ∧ n'38 ≤ (16777216 : Nat) ∧ m45 ≤ (16777216 : Nat) ∧ ∀ (l'47 : List Int) (n'48 c'49 : Nat), l'47 = List.take n'38 (List.drop ((0 : Nat)) l'37) ++ List.take m45 (List.drop ((0 : Nat)) L46) → n'48 = n'38 + m45 → n'48 ≤ c'49 → ∀ (z50 : Int), z50 = IntKind.wrap IntKind.i64 src → ∀ (z51 : Int), z51 = IntKind.wrap IntKind.i64 dst → ∀ (z52 : Int), z52 = IntKind.wrap IntKind.i64 sip → ∀ (z53 : Int), z53 = IntKind.wrap IntKind.i64 dip → ∀ (z54 : Int), z54 = IntKind.wrap IntKind.u64 sport → (((0 : Int) ≤ (2 : Int) ∧ (2 : Int) ≤ (1000 : Int)) ∧ (0 : Int) ≤ z54 ∧ z54 ≤ (18446744073709551615 : Int)) ∧ ∀ (m55 : Nat) (L56 : List Int), (↑m55 : Int) = (2 : Int) → L56 = U.nb (2 : Int) z54 → ((0 : Nat) + n'48 ≤ List.length l'47 ∧ (0 : Nat) + c'49 ≤ c'49) ∧ Nat.le ((0 : Nat) + m55) (List.length L56) ∧ n'48 ≤ (16777216 : Nat) ∧ m55 ≤ (16777216 : Nat) ∧ ∀ (l'57 : List Int) (n'58 c'59 : Nat), l'57 = List.take n'48 (List.drop ((0 : Nat)) l'47) ++ List.take m55 (List.drop ((0 : Nat)) L56) → n'58 = n'48 + m55 → n'58 ≤ c'59 → ∀ (z60 : Int), z60 = IntKind.wrap IntKind.i64 src → ∀ (z61 : Int), z61 = IntKind.wrap IntKind.i64 dst → ∀ (z62 : Int), z62 = IntKind.wrap IntKind.i64 sip → ∀ (z63 : Int), z63 = IntKind.wrap IntKind.i64 dip → ∀ (z64 : Int), z64 = IntKind.wrap IntKind.u64 dport → (((0 : Int) ≤ (2 : Int) ∧ (2 : Int) ≤ (1000 : Int)) ∧ (0 : Int) ≤ z64 ∧ z64 ≤ (18446744073709551615 : Int)) ∧ ∀ (m65 : Nat) (L66 : List Int), (↑m65 : Int) = (2 : Int) → L66 = U.nb (2 : Int) z64 → ((0 : Nat) + n'58 ≤ List.length l'57 ∧ (0 : Nat) + c'59 ≤ c'59) ∧ Nat.le ((0 : Nat) + m65) (List.length L66) ∧ n'58 ≤ (16777216 : Nat) ∧ m65 ≤ (16777216 : Nat) ∧ ∀ (l'67 : List Int) (n'68 c'69 : Nat), l'67 = List.take n'58 (List.drop ((0 : Nat)) l'57) ++ List.take m65 (List.drop ((0 : Nat)) L66) → n'68 = n'58 + m65 → n'68 ≤ c'69 → K (Sum.inl (Sum.inl (Sum.inr (Sum.inr (Sum.inr (Sum.inr (Sum.inr (Sum.inr (Sum.inr (Sum.inl { a := (0 : Nat), o := (0 : Nat), n := n'68, c := c'69 })))))))))) { heap := [], ints := [], opqs := (0 : Nat), arrs := [some { elem := (5 : Nat), k := AK.n IntKind.u8, l := l'67, cap := c'69, ro := false }], junks := (0 : Nat) }) := by kernel_rfl
theorem kreadT_vc (K : AV → St → Prop) (L : List Int) (o m c cap : Nat) : (runI inv0 tYB 19 [cell (aslC ⟨0, o, m, c⟩)] (ar [bs L cap true]) K) = (∀ (z0 : Int), z0 = (↑m : Int) → (¬z0 = (25 : Int) → K (Sum.inr [Sum.inr [Sum.inr (Sum.inr (Sum.inr (Sum.inr (Sum.inr (Sum.inr (Sum.inl (IntKind.u64, (0 : Int)))))))), Sum.inr (Sum.inr (Sum.inr (Sum.inr (Sum.inr (Sum.inr (Sum.inl (IntKind.u64, (0 : Int)))))))), Sum.inr (Sum.inr (Sum.inr (Sum.inr (Sum.inr (Sum.inr (Sum.inl (IntKind.u32, (0 : Int)))))))), Sum.inr (Sum.inr (Sum.inr (Sum.inr (Sum.inr (Sum.inr (Sum.inl (IntKind.u32, (0 : Int)))))))), Sum.inr (Sum.inr (Sum.inr (Sum.inr (Sum.inr (Sum.inr (Sum.inl (IntKind.i64, (0 : Int)))))))), Sum.inr (Sum.inr (Sum.inr (Sum.inr (Sum.inr (Sum.inr (Sum.inl (IntKind.i64, (0 : Int)))))))), Sum.inr (Sum.inr (Sum.inr (Sum.inr (Sum.inr (Sum.inr (Sum.inl (IntKind.i64, (0 : Int))))))))], Sum.inl (Sum.inr (Sum.inr (Sum.inr (Sum.inr (Sum.inr (Sum.inr (Sum.inl (IntKind.i64, (5 : Int)))))))))]) { heap := [], ints := [], opqs := (0 : Nat), arrs := [some { elem := (5 : Nat), k := AK.n IntKind.u8, l := L, cap := cap, ro := true }], junks := (0 : Nat) }) ∧ (¬¬z0 = (25 : Int) → (o + m ≤ List.length L ∧ m ≤ (16777216 : Nat)) ∧ ∀ (L'1 : List Int) (c'2 cap'3 : Nat), L'1 = List.take m (List.drop o L) → m ≤ c'2 → c'2 ≤ cap'3 → (U.By L'1 ∧ m = List.length L'1 ∧ List.length L'1 ≤ (16777216 : Nat) ∧ ((0 : Int) ≤ (0 : Int) ∧ (0 : Int) ≤ (8 : Int) * (↑(List.length L'1) : Int)) ∧ (1 : Int) ≤ (48 : Int) ∧ (48 : Int) ≤ (64 : Int)) ∧ ∀ (z4 a'5 e'6 : Int), z4 = U.inV L'1 (0 : Int) (0 : Int) (48 : Int) → a'5 = U.inA L'1 (0 : Int) (0 : Int) (48 : Int) → e'6 = U.inE L'1 (0 : Int) (0 : Int) (48 : Int) → (U.By L'1 ∧ m = List.length L'1 ∧ List.length L'1 ≤ (16777216 : Nat) ∧ ((0 : Int) ≤ a'5 ∧ a'5 ≤ (8 : Int) * (↑(List.length L'1) : Int)) ∧ (1 : Int) ≤ (48 : Int) ∧ (48 : Int) ≤ (64 : Int)) ∧ ∀ (z7 a'8 e'9 : Int), z7 = U.inV L'1 a'5 e'6 (48 : Int) → a'8 = U.inA L'1 a'5 e'6 (48 : Int) → e'9 = U.inE L'1 a'5 e'6 (48 : Int) → (U.By L'1 ∧ m = List.length L'1 ∧ List.length L'1 ≤ (16777216 : Nat) ∧ ((0 : Int) ≤ a'8 ∧ a'8 ≤ (8 : Int) * (↑(List.length L'1) : Int)) ∧ (1 : Int) ≤ (32 : Int) ∧ (32 : Int) ≤ (64 : Int)) ∧ ∀ (z10 a'11 e'12 : Int), z10 = U.inV L'1 a'8 e'9 (32 : Int) → a'11 = U.inA L'1 a'8 e'9 (32 : Int) → e'12 = U.inE L'1 a'8 e'9 (32 : Int) → ∀ (z13 : Int), z13 = IntKind.wrap IntKind.u32 z10 → (U.By L'1 ∧ m = List.length L'1 ∧ List.length L'1 ≤ (16777216 : Nat) ∧ ((0 : Int) ≤ a'11 ∧ a'11 ≤ (8 : Int) * (↑(List.length L'1) : Int)) ∧ (1 : Int) ≤ (32 : Int) ∧ (32 : Int) ≤ (64 : Int)) ∧ ∀ (z14 a'15 e'16 : Int), z14 = U.inV L'1 a'11 e'12 (32 : Int) → a'15 = U.inA L'1 a'11 e'12 (32 : Int) → e'16 = U.inE L'1 a'11 e'12 (32 : Int) → ∀ (z17 : Int), z17 = IntKind.wrap IntKind.u32 z14 → (U.By L'1 ∧ m = List.length L'1 ∧ List.length L'1 ≤ (16777216 : Nat) ∧ ((0 : Int) ≤ a'15 ∧ a'15 ≤ (8 : Int) * (↑(List.length L'1) : Int)) ∧ (1 : Int) ≤ (8 : Int) ∧ (8 : Int) ≤ (64 : Int)) ∧ ∀ (z18 a'19 e'20 : Int), z18 = U.inV L'1 a'15 e'16 (8 : Int) → a'19 = U.inA L'1 a'15 e'16 (8 : Int) → e'20 = U.inE L'1 a'15 e'16 (8 : Int) → ∀ (z21 : Int), z21 = IntKind.wrap IntKind.i64 z18 → (U.By L'1 ∧ m = List.length L'1 ∧ List.length L'1 ≤ (16777216 : Nat) ∧ ((0 : Int) ≤ a'19 ∧ a'19 ≤ (8 : Int) * (↑(List.length L'1) : Int)) ∧ (1 : Int) ≤ (16 : Int) ∧ (16 : Int) ≤ (64 : Int)) ∧ ∀ (z22 a'23 e'24 : Int), z22 = U.inV L'1 a'19 e'20 (16 : Int) → a'23 = U.inA L'1 a'19 e'20 (16 : Int) → e'24 = U.inE L'1 a'19 e'20 (16 : Int) → ∀ (z25 : Int), z25 = IntKind.wrap IntKind.i64 z22 → (U.By L'1 ∧ m = List.length L'1 ∧ List.length L'1 ≤ (16777216 : Nat) ∧ ((0 : Int) ≤ a'23 ∧ a'23 ≤ (8 : Int) * (↑(List.length L'1) : Int)) ∧ (1 : Int) ≤ (16 : Int) ∧ (16 : Int) ≤ (64 : Int)) ∧ ∀ (z26 a'27 e'28 : Int), z26 = U.inV L'1 a'23 e'24 (16 : Int) → a'27 = U.inA L'1 a'23 e'24 (16 : Int) → e'28 = U.inE L'1 a'23 e'24 (16 : Int) → ∀ (z29 : Int), z29 = IntKind.wrap IntKind.i64 z26 → (U.KG z4 z7 z13 z17 z21 z25 z29 → K (Sum.inr [Sum.inr [Sum.inr (Sum.inr (Sum.inr (Sum.inr (Sum.inr (Sum.inr (Sum.inl (IntKind.u64, z4))))))), Sum.inr (Sum.inr (Sum.inr (Sum.inr (Sum.inr (Sum.inr (Sum.inl (IntKind.u64, z7))))))), Sum.inr (Sum.inr (Sum.inr (Sum.inr (Sum.inr (Sum.inr (Sum.inl (IntKind.u32, z13))))))), Sum.inr (Sum.inr (Sum.inr (Sum.inr (Sum.inr (Sum.inr (Sum.inl (IntKind.u32, z17))))))), Sum.inr (Sum.inr (Sum.inr (Sum.inr (Sum.inr (Sum.inr (Sum.inl (IntKind.i64, z21))))))), Sum.inr (Sum.inr (Sum.inr (Sum.inr (Sum.inr (Sum.inr (Sum.inl (IntKind.i64, z25))))))), Sum.inr (Sum.inr (Sum.inr (Sum.inr (Sum.inr (Sum.inr (Sum.inl (IntKind.i64, z29)))))))], Sum.inl (Sum.inr (Sum.inr (Sum.inr (Sum.inr (Sum.inr (Sum.inr (Sum.inl (IntKind.i64, (0 : Int)))))))))]) { heap := [], ints := [], opqs := (0 : Nat), arrs := [some { elem := (5 : Nat), k := AK.n IntKind.u8, l := L, cap := cap, ro := true }], junks := (0 : Nat) }) ∧ (¬U.KG z4 z7 z13 z17 z21 z25 z29 → K (Sum.inr [Sum.inr [Sum.inr (Sum.inr (Sum.inr (Sum.inr (Sum.inr (Sum.inr (Sum.inl (IntKind.u64, (0 : Int)))))))), Sum.inr (Sum.inr (Sum.inr (Sum.inr (Sum.inr (Sum.inr (Sum.inl (IntKind.u64, (0 : Int)))))))), Sum.inr (Sum.inr (Sum.inr (Sum.inr (Sum.inr (Sum.inr (Sum.inl (IntKind.u32, (0 : Int)))))))), Sum.inr (Sum.inr (Sum.inr (Sum.inr (Sum.inr (Sum.inr (Sum.inl (IntKind.u32, (0 : Int)))))))), Sum.inr (Sum.inr (Sum.inr (Sum.inr (Sum.inr (Sum.inr (Sum.inl (IntKind.i64, (0 : Int)))))))), Sum.inr (Sum.inr (Sum.inr (Sum.inr (Sum.inr (Sum.inr (Sum.inl (IntKind.i64, (0 : Int)))))))), Sum.inr (Sum.inr (Sum.inr (Sum.inr (Sum.inr (Sum.inr (Sum.inl (IntKind.i64, (0 : Int))))))))], Sum.inl (Sum.inr (Sum.inr (Sum.inr (Sum.inr (Sum.inr (Sum.inr (Sum.inl (IntKind.i64, (5 : Int)))))))))]) { heap := [], ints := [], opqs := (0 : Nat), arrs := [some { elem := (5 : Nat), k := AK.n IntKind.u8, l := L, cap := cap, ro := true }], junks := (0 : Nat) }))) := by kernel_rfl
theorem kreadF_vc (K : AV → St → Prop) (L : List Int) (o m c cap : Nat) : (runI inv0 tYB 19 [cell (aslC ⟨0, o, m, c⟩)] (ar [bs L cap false]) K) = (∀ (z0 : Int), z0 = (↑m : Int) → (¬z0 = (25 : Int) → K (Sum.inr [Sum.inr [Sum.inr (Sum.inr (Sum.inr (Sum.inr (Sum.inr (Sum.inr (Sum.inl (IntKind.u64, (0 : Int)))))))), Sum.inr (Sum.inr (Sum.inr (Sum.inr (Sum.inr (Sum.inr (Sum.inl (IntKind.u64, (0 : Int)))))))), Sum.inr (Sum.inr (Sum.inr (Sum.inr (Sum.inr (Sum.inr (Sum.inl (IntKind.u32, (0 : Int)))))))), Sum.inr (Sum.inr (Sum.inr (Sum.inr (Sum.inr (Sum.inr (Sum.inl (IntKind.u32, (0 : Int)))))))), Sum.inr (Sum.inr (Sum.inr (Sum.inr (Sum.inr (Sum.inr (Sum.inl (IntKind.i64, (0 : Int)))))))), Sum.inr (Sum.inr (Sum.inr (Sum.inr (Sum.inr (Sum.inr (Sum.inl (IntKind.i64, (0 : Int)))))))), Sum.inr (Sum.inr (Sum.inr (Sum.inr (Sum.inr (Sum.inr (Sum.inl (IntKind.i64, (0 : Int))))))))], Sum.inl (Sum.inr (Sum.inr (Sum.inr (Sum.inr (Sum.inr (Sum.inr (Sum.inl (IntKind.i64, (5 : Int)))))))))]) { heap := [], ints := [], opqs := (0 : Nat), arrs := [some { elem := (5 : Nat), k := AK.n IntKind.u8, l := L, cap := cap, ro := false }], junks := (0 : Nat) }) ∧ (¬¬z0 = (25 : Int) → (o + m ≤ List.length L ∧ m ≤ (16777216 : Nat)) ∧ ∀ (L'1 : List Int) (c'2 cap'3 : Nat), L'1 = List.take m (List.drop o L) → m ≤ c'2 → c'2 ≤ cap'3 → (U.By L'1 ∧ m = List.length L'1 ∧ List.length L'1 ≤ (16777216 : Nat) ∧ ((0 : Int) ≤ (0 : Int) ∧ (0 : Int) ≤ (8 : Int) * (↑(List.length L'1) : Int)) ∧ (1 : Int) ≤ (48 : Int) ∧ (48 : Int) ≤ (64 : Int)) ∧ ∀ (z4 a'5 e'6 : Int), z4 = U.inV L'1 (0 : Int) (0 : Int) (48 : Int) → a'5 = U.inA L'1 (0 : Int) (0 : Int) (48 : Int) → e'6 = U.inE L'1 (0 : Int) (0 : Int) (48 : Int) → (U.By L'1 ∧ m = List.length L'1 ∧ List.length L'1 ≤ (16777216 : Nat) ∧ ((0 : Int) ≤ a'5 ∧ a'5 ≤ (8 : Int) * (↑(List.length L'1) : Int)) ∧ (1 : Int) ≤ (48 : Int) ∧ (48 : Int) ≤ (64 : Int)) ∧ ∀ (z7 a'8 e'9 : Int), z7 = U.inV L'1 a'5 e'6 (48 : Int) → a'8 = U.inA L'1 a'5 e'6 (48 : Int) → e'9 = U.inE L'1 a'5 e'6 (48 : Int) → (U.By L'1 ∧ m = List.length L'1 ∧ List.length L'1 ≤ (16777216 : Nat) ∧ ((0 : Int) ≤ a'8 ∧ a'8 ≤ (8 : Int) * (↑(List.length L'1) : Int)) ∧ (1 : Int) ≤ (32 : Int) ∧ (32 : Int) ≤ (64 : Int)) ∧ ∀ (z10 a'11 e'12 : Int), z10 = U.inV L'1 a'8 e'9 (32 : Int) → a'11 = U.inA L'1 a'8 e'9 (32 : Int) → e'12 = U.inE L'1 a'8 e'9 (32 : Int) → ∀ (z13 : Int), z13 = IntKind.wrap IntKind.u32 z10 → (U.By L'1 ∧ m = List.length L'1 ∧ List.length L'1 ≤ (16777216 : Nat) ∧ ((0 : Int) ≤ a'11 ∧ a'11 ≤ (8 : Int) * (↑(List.length L'1) : Int)) ∧ (1 : Int) ≤ (32 : Int) ∧ (32 : Int) ≤ (64 : Int)) ∧ ∀ (z14 a'15 e'16 : Int), z14 = U.inV L'1 a'11 e'12 (32 : Int) → a'15 = U.inA L'1 a'11 e'12 (32 : Int) → e'16 = U.inE L'1 a'11 e'12 (32 : Int) → ∀ (z17 : Int), z17 = IntKind.wrap IntKind.u32 z14 → (U.By L'1 ∧ m = List.length L'1 ∧ List.length L'1 ≤ (16777216 : Nat) ∧ ((0 : Int) ≤ a'15 ∧ a'15 ≤ (8 : Int) * (↑(List.length L'1) : Int)) ∧ (1 : Int) ≤ (8 : Int) ∧ (8 : Int) ≤ (64 : Int)) ∧ ∀ (z18 a'19 e'20 : Int), z18 = U.inV L'1 a'15 e'16 (8 : Int) → a'19 = U.inA L'1 a'15 e'16 (8 : Int) → e'20 = U.inE L'1 a'15 e'16 (8 : Int) → ∀ (z21 : Int), z21 = IntKind.wrap IntKind.i64 z18 → (U.By L'1 ∧ m = List.length L'1 ∧ List.length L'1 ≤ (16777216 : Nat) ∧ ((0 : Int) ≤ a'19 ∧ a'19 ≤ (8 : Int) * (↑(List.length L'1) : Int)) ∧ (1 : Int) ≤ (16 : Int) ∧ (16 : Int) ≤ (64 : Int)) ∧ ∀ (z22 a'23 e'24 : Int), z22 = U.inV L'1 a'19 e'20 (16 : Int) → a'23 = U.inA L'1 a'19 e'20 (16 : Int) → e'24 = U.inE L'1 a'19 e'20 (16 : Int) → ∀ (z25 : Int), z25 = IntKind.wrap IntKind.i64 z22 → (U.By L'1 ∧ m = List.length L'1 ∧ List.length L'1 ≤ (16777216 : Nat) ∧ ((0 : Int) ≤ a'23 ∧ a'23 ≤ (8 : Int) * (↑(List.length L'1) : Int)) ∧ (1 : Int) ≤ (16 : Int) ∧ (16 : Int) ≤ (64 : Int)) ∧ ∀ (z26 a'27 e'28 : Int), z26 = U.inV L'1 a'23 e'24 (16 : Int) → a'27 = U.inA L'1 a'23 e'24 (16 : Int) → e'28 = U.inE L'1 a'23 e'24 (16 : Int) → ∀ (z29 : Int), z29 = IntKind.wrap IntKind.i64 z26 → (U.KG z4 z7 z13 z17 z21 z25 z29 → K (Sum.inr [Sum.inr [Sum.inr (Sum.inr (Sum.inr (Sum.inr (Sum.inr (Sum.inr (Sum.inl (IntKind.u64, z4))))))), Sum.inr (Sum.inr (Sum.inr (Sum.inr (Sum.inr (Sum.inr (Sum.inl (IntKind.u64, z7))))))), Sum.inr (Sum.inr (Sum.inr (Sum.inr (Sum.inr (Sum.inr (Sum.inl (IntKind.u32, z13))))))), Sum.inr (Sum.inr (Sum.inr (Sum.inr (Sum.inr (Sum.inr (Sum.inl (IntKind.u32, z17))))))), Sum.inr (Sum.inr (Sum.inr (Sum.inr (Sum.inr (Sum.inr (Sum.inl (IntKind.i64, z21))))))), Sum.inr (Sum.inr (Sum.inr (Sum.inr (Sum.inr (Sum.inr (Sum.inl (IntKind.i64, z25))))))), Sum.inr (Sum.inr (Sum.inr (Sum.inr (Sum.inr (Sum.inr (Sum.inl (IntKind.i64, z29)))))))], Sum.inl (Sum.inr (Sum.inr (Sum.inr (Sum.inr (Sum.inr (Sum.inr (Sum.inl (IntKind.i64, (0 : Int)))))))))]) { heap := [], ints := [], opqs := (0 : Nat), arrs := [some { elem := (5 : Nat), k := AK.n IntKind.u8, l := L, cap := cap, ro := false }], junks := (0 : Nat) }) ∧ (¬U.KG z4 z7 z13 z17 z21 z25 z29 → K (Sum.inr [Sum.inr [Sum.inr (Sum.inr (Sum.inr (Sum.inr (Sum.inr (Sum.inr (Sum.inl (IntKind.u64, (0 : Int)))))))), Sum.inr (Sum.inr (Sum.inr (Sum.inr (Sum.inr (Sum.inr (Sum.inl (IntKind.u64, (0 : Int)))))))), Sum.inr (Sum.inr (Sum.inr (Sum.inr (Sum.inr (Sum.inr (Sum.inl (IntKind.u32, (0 : Int)))))))), Sum.inr (Sum.inr (Sum.inr (Sum.inr (Sum.inr (Sum.inr (Sum.inl (IntKind.u32, (0 : Int)))))))), Sum.inr (Sum.inr (Sum.inr (Sum.inr (Sum.inr (Sum.inr (Sum.inl (IntKind.i64, (0 : Int)))))))), Sum.inr (Sum.inr (Sum.inr (Sum.inr (Sum.inr (Sum.inr (Sum.inl (IntKind.i64, (0 : Int)))))))), Sum.inr (Sum.inr (Sum.inr (Sum.inr (Sum.inr (Sum.inr (Sum.inl (IntKind.i64, (0 : Int))))))))], Sum.inl (Sum.inr (Sum.inr (Sum.inr (Sum.inr (Sum.inr (Sum.inr (Sum.inl (IntKind.i64, (5 : Int)))))))))]) { heap := [], ints := [], opqs := (0 : Nat), arrs := [some { elem := (5 : Nat), k := AK.n IntKind.u8, l := L, cap := cap, ro := false }], junks := (0 : Nat) }))) := by kernel_rfl
theorem rreadT_vc (K : AV → St → Prop) (L : List Int) (o m c cap : Nat) : (runI inv0 tYB 21 [cell (aslC ⟨0, o, m, c⟩)] (ar [bs L cap true]) K) = (∀ (z0 : Int), z0 = (↑m : Int) → (¬z0 = (25 : Int) → K (Sum.inr [Sum.inr [Sum.inr (Sum.inr (Sum.inr (Sum.inr (Sum.inr (Sum.inr (Sum.inl (IntKind.u64, (0 : Int)))))))), Sum.inr (Sum.inr (Sum.inr (Sum.inr (Sum.inr (Sum.inr (Sum.inl (IntKind.u64, (0 : Int)))))))), Sum.inr (Sum.inr (Sum.inr (Sum.inr (Sum.inr (Sum.inr (Sum.inl (IntKind.u32, (0 : Int)))))))), Sum.inr (Sum.inr (Sum.inr (Sum.inr (Sum.inr (Sum.inr (Sum.inl (IntKind.u32, (0 : Int)))))))), Sum.inr (Sum.inr (Sum.inr (Sum.inr (Sum.inr (Sum.inr (Sum.inl (IntKind.i64, (0 : Int)))))))), Sum.inr (Sum.inr (Sum.inr (Sum.inr (Sum.inr (Sum.inr (Sum.inl (IntKind.i64, (0 : Int)))))))), Sum.inr (Sum.inr (Sum.inr (Sum.inr (Sum.inr (Sum.inr (Sum.inl (IntKind.i64, (0 : Int))))))))], Sum.inl (Sum.inl (Value.bool false))]) { heap := [], ints := [], opqs := (0 : Nat), arrs := [some { elem := (5 : Nat), k := AK.n IntKind.u8, l := L, cap := cap, ro := true }], junks := (0 : Nat) }) ∧ (¬¬z0 = (25 : Int) → ((0 : Int) ≤ (6 : Int) ∧ (6 : Int) ≤ (↑c : Int)) ∧ ∀ (n1 : Nat), (↑n1 : Int) = (6 : Int) → ((0 : Int) ≤ (6 : Int) ∧ (6 : Int) ≤ (12 : Int) ∧ (12 : Int) ≤ (↑c : Int)) ∧ ∀ (o2 n3 c4 : Nat), ((↑o2 : Int) = if (↑(ASl.c { a := (0 : Nat), o := o, n := m, c := c }) : Int) = (6 : Int) then (↑o : Int) else (↑o : Int) + (6 : Int)) → (↑n3 : Int) = (6 : Int) → (↑c4 : Int) = (↑c : Int) - (6 : Int) → ((0 : Int) ≤ (12 : Int) ∧ (12 : Int) ≤ (16 : Int) ∧ (16 : Int) ≤ (↑c : Int)) ∧ ∀ (o5 n6 c7 : Nat), ((↑o5 : Int) = if (↑(ASl.c { a := (0 : Nat), o := o, n := m, c := c }) : Int) = (12 : Int) then (↑o : Int) else (↑o : Int) + (12 : Int)) → (↑n6 : Int) = (4 : Int) → (↑c7 : Int) = (↑c : Int) - (12 : Int) → ((0 : Int) ≤ (16 : Int) ∧ (16 : Int) ≤ (20 : Int) ∧ (20 : Int) ≤ (↑c : Int)) ∧ ∀ (o8 n9 c10 : Nat), ((↑o8 : Int) = if (↑(ASl.c { a := (0 : Nat), o := o, n := m, c := c }) : Int) = (16 : Int) then (↑o : Int) else (↑o : Int) + (16 : Int)) → (↑n9 : Int) = (4 : Int) → (↑c10 : Int) = (↑c : Int) - (16 : Int) → ((0 : Int) ≤ (20 : Int) ∧ (20 : Int) < (↑m : Int)) ∧ ∀ (j11 : Nat), (↑j11 : Int) = (↑o : Int) + (20 : Int) → j11 < List.length L ∧ ∀ (z12 : Int), z12 = List.getD L j11 (0 : Int) → ∀ (z13 : Int), z13 = IntKind.wrap IntKind.i64 z12 → ((0 : Int) ≤ (21 : Int) ∧ (21 : Int) ≤ (23 : Int) ∧ (23 : Int) ≤ (↑c : Int)) ∧ ∀ (o14 n15 c16 : Nat), ((↑o14 : Int) = if (↑(ASl.c { a := (0 : Nat), o := o, n := m, c := c }) : Int) = (21 : Int) then (↑o : Int) else (↑o : Int) + (21 : Int)) → (↑n15 : Int) = (2 : Int) → (↑c16 : Int) = (↑c : Int) - (21 : Int) → ((0 : Int) ≤ (23 : Int) ∧ (23 : Int) ≤ (25 : Int) ∧ (25 : Int) ≤ (↑c : Int)) ∧ ∀ (o17 n18 c19 : Nat), ((↑o17 : Int) = if (↑(ASl.c { a := (0 : Nat), o := o, n := m, c := c }) : Int) = (23 : Int) then (↑o : Int) else (↑o : Int) + (23 : Int)) → (↑n18 : Int) = (2 : Int) → (↑c19 : Int) = (↑c : Int) - (23 : Int) → ((U.By L ∧ o + n1 ≤ List.length L ∧ n1 ≤ (16777216 : Nat)) ∧ ∀ (z20 : Int), z20 = U.vb (List.take n1 (List.drop o L)) → L[j11]? = some z12 ∧ ((U.By L ∧ o2 + n3 ≤ List.length L ∧ n3 ≤ (16777216 : Nat)) ∧ ∀ (z21 : Int), z21 = U.vb (List.take n3 (List.drop o2 L)) → L[j11]? = some z12 ∧ ((U.By L ∧ o5 + n6 ≤ List.length L ∧ n6 ≤ (16777216 : Nat)) ∧ ∀ (z22 : Int), z22 = U.vb (List.take n6 (List.drop o5 L)) → L[j11]? = some z12 ∧ ∀ (z23 : Int), z23 = IntKind.wrap IntKind.u32 z22 → ((U.By L ∧ o8 + n9 ≤ List.length L ∧ n9 ≤ (16777216 : Nat)) ∧ ∀ (z24 : Int), z24 = U.vb (List.take n9 (List.drop o8 L)) → L[j11]? = some z12 ∧ ∀ (z25 : Int), z25 = IntKind.wrap IntKind.u32 z24 → ((U.By L ∧ o14 + n15 ≤ List.length L ∧ n15 ≤ (16777216 : Nat)) ∧ ∀ (z26 : Int), z26 = U.vb (List.take n15 (List.drop o14 L)) → L[j11]? = some z12 ∧ ∀ (z27 : Int), z27 = IntKind.wrap IntKind.i64 z26 → ((U.By L ∧ o17 + n18 ≤ List.length L ∧ n18 ≤ (16777216 : Nat)) ∧ ∀ (z28 : Int), z28 = U.vb (List.take n18 (List.drop o17 L)) → L[j11]? = some z12 ∧ ∀ (z29 : Int), z29 = IntKind.wrap IntKind.i64 z28 → L[j11]? = some z12 ∧ (U.KG z20 z21 z23 z25 z13 z27 z29 → K (Sum.inr [Sum.inr [Sum.inr (Sum.inr (Sum.inr (Sum.inr (Sum.inr (Sum.inr (Sum.inl (IntKind.u64, z20))))))), Sum.inr (Sum.inr (Sum.inr (Sum.inr (Sum.inr (Sum.inr (Sum.inl (IntKind.u64, z21))))))), Sum.inr (Sum.inr (Sum.inr (Sum.inr (Sum.inr (Sum.inr (Sum.inl (IntKind.u32, z23))))))), Sum.inr (Sum.inr (Sum.inr (Sum.inr (Sum.inr (Sum.inr (Sum.inl (IntKind.u32, z25))))))), Sum.inr (Sum.inr (Sum.inr (Sum.inr (Sum.inr (Sum.inr (Sum.inl (IntKind.i64, z13))))))), Sum.inr (Sum.inr (Sum.inr (Sum.inr (Sum.inr (Sum.inr (Sum.inl (IntKind.i64, z27))))))), Sum.inr (Sum.inr (Sum.inr (Sum.inr (Sum.inr (Sum.inr (Sum.inl (IntKind.i64, z29)))))))], Sum.inl (Sum.inl (Value.bool true))]) { heap := [], ints := [], opqs := (0 : Nat), arrs := [some { elem := (5 : Nat), k := AK.n IntKind.u8, l := L, cap := cap, ro := true }], junks := (0 : Nat) }) ∧ (¬U.KG z20 z21 z23 z25 z13 z27 z29 → K (Sum.inr [Sum.inr [Sum.inr (Sum.inr (Sum.inr (Sum.inr (Sum.inr (Sum.inr (Sum.inl (IntKind.u64, (0 : Int)))))))), Sum.inr (Sum.inr (Sum.inr (Sum.inr (Sum.inr (Sum.inr (Sum.inl (IntKind.u64, (0 : Int)))))))), Sum.inr (Sum.inr (Sum.inr (Sum.inr (Sum.inr (Sum.inr (Sum.inl (IntKind.u32, (0 : Int)))))))), Sum.inr (Sum.inr (Sum.inr (Sum.inr (Sum.inr (Sum.inr (Sum.inl (IntKind.u32, (0 : Int)))))))), Sum.inr (Sum.inr (Sum.inr (Sum.inr (Sum.inr (Sum.inr (Sum.inl (IntKind.i64, (0 : Int)))))))), Sum.inr (Sum.inr (Sum.inr (Sum.inr (Sum.inr (Sum.inr (Sum.inl (IntKind.i64, (0 : Int)))))))), Sum.inr (Sum.inr (Sum.inr (Sum.inr (Sum.inr (Sum.inr (Sum.inl (IntKind.i64, (0 : Int))))))))], Sum.inl (Sum.inl (Value.bool false))]) { heap := [], ints := [], opqs := (0 : Nat), arrs := [some { elem := (5 : Nat), k := AK.n IntKind.u8, l := L, cap := cap, ro := true }], junks := (0 : Nat) })) ∧ L[j11]? = some z12 ∧ (U.By L ∧ o17 + n18 ≤ List.length L ∧ n18 ≤ (16777216 : Nat)) ∧ ∀ (z30 : Int), z30 = U.vb (List.take n18 (List.drop o17 L)) → L[j11]? = some z12 ∧ ∀ (z31 : Int), z31 = IntKind.wrap IntKind.i64 z30 → (U.KG z20 z21 z23 z25 z13 z27 z31 → K (Sum.inr [Sum.inr [Sum.inr (Sum.inr (Sum.inr (Sum.inr (Sum.inr (Sum.inr (Sum.inl (IntKind.u64, z20))))))), Sum.inr (Sum.inr (Sum.inr (Sum.inr (Sum.inr (Sum.inr (Sum.inl (IntKind.u64, z21))))))), Sum.inr (Sum.inr (Sum.inr (Sum.inr (Sum.inr (Sum.inr (Sum.inl (IntKind.u32, z23))))))), Sum.inr (Sum.inr (Sum.inr (Sum.inr (Sum.inr (Sum.inr (Sum.inl (IntKind.u32, z25))))))), Sum.inr (Sum.inr (Sum.inr (Sum.inr (Sum.inr (Sum.inr (Sum.inl (IntKind.i64, z13))))))), Sum.inr (Sum.inr (Sum.inr (Sum.inr (Sum.inr (Sum.inr (Sum.inl (IntKind.i64, z27))))))), Sum.inr (Sum.inr (Sum.inr (Sum.inr (Sum.inr (Sum.inr (Sum.inl (IntKind.i64, z31)))))))], Sum.inl (Sum.inl (Value.bool true))]) { heap := [], ints := [], opqs := (0 : Nat), arrs := [some { elem := (5 : Nat), k := AK.n IntKind.u8, l := L, cap := cap, ro := true }], junks := (0 : Nat) }) ∧ (¬U.KG z20 z21 z23 z25 z13 z27 z31 → K (Sum.inr [Sum.inr [Sum.inr (Sum.inr (Sum.inr (Sum.inr (Sum.inr (Sum.inr (Sum.inl (IntKind.u64, (0 : Int)))))))), Sum.inr (Sum.inr (Sum.inr (Sum.inr (Sum.inr (Sum.inr (Sum.inl (IntKind.u64, (0 : Int)))))))), Sum.inr (Sum.inr (Sum.inr (Sum.inr (Sum.inr (Sum.inr (Sum.inl (IntKind.u32, (0 : Int)))))))), Sum.inr (Sum.inr (Sum.inr (Sum.inr (Sum.inr (Sum.inr (Sum.inl (IntKind.u32, (0 : Int)))))))), Sum.inr (Sum.inr (Sum.inr (Sum.inr (Sum.inr (Sum.inr (Sum.inl (IntKind.i64, (0 : Int)))))))), Sum.inr (Sum.inr (Sum.inr (Sum.inr (Sum.inr (Sum.inr (Sum.inl (IntKind.i64, (0 : Int)))))))), Sum.inr (Sum.inr (Sum.inr (Sum.inr (Sum.inr (Sum.inr (Sum.inl (IntKind.i64, (0 : Int))))))))], Sum.inl (Sum.inl (Value.bool false))]) { heap := [], ints := [], opqs := (0 : Nat), arrs := [some { elem := (5 : Nat), k := AK.n IntKind.u8, l := L, cap := cap, ro := true }], junks := (0 : Nat) })) ∧ L[j11]? = some z12 ∧ (U.By L ∧ o14 + n15 ≤ List.length L ∧ n15 ≤ (16777216 : Nat)) ∧ ∀ (z32 : Int), z32 = U.vb (List.take n15 (List.drop o14 L)) → L[j11]? = some z12 ∧ ∀ (z33 : Int), z33 = IntKind.wrap IntKind.i64 z32 → (U.By L ∧ o17 + n18 ≤ List.length L ∧ n18 ≤ (16777216 : Nat)) ∧ ∀ (z34 : Int), z34 = U.vb (List.take n18 (List.drop o17 L)) → L[j11]? = some z12 ∧ ∀ (z35 : Int), z35 = IntKind.wrap IntKind.i64 z34 → (U.KG z20 z21 z23 z25 z13 z33 z35 → K (Sum.inr [Sum.inr [Sum.inr (Sum.inr (Sum.inr (Sum.inr (Sum.inr (Sum.inr (Sum.inl (IntKind.u64, z20))))))), Sum.inr (Sum.inr (Sum.inr (Sum.inr (Sum.inr (Sum.inr (Sum.inl (IntKind.u64, z21))))))), Sum.inr (Sum.inr (Sum.inr (Sum.inr (Sum.inr (Sum.inr (Sum.inl (IntKind.u32, z23))))))), Sum.inr (Sum.inr (Sum.inr (Sum.inr (Sum.inr (Sum.inr (Sum.inl (IntKind.u32, z25))))))), Sum.inr (Sum.inr (Sum.inr (Sum.inr (Sum.inr (Sum.inr (Sum.inl (IntKind.i64, z13))))))), Sum.inr (Sum.inr (Sum.inr (Sum.inr (Sum.inr (Sum.inr (Sum.inl (IntKind.i64, z33))))))), Sum.inr (Sum.inr (Sum.inr (Sum.inr (Sum.inr (Sum.inr (Sum.inl (IntKind.i64, z35)))))))], Sum.inl (Sum.inl (Value.bool true))]) { heap := [], ints := [], opqs := (0 : Nat), arrs := [some { elem := (5 : Nat), k := AK.n IntKind.u8, l := L, cap := cap, ro := true }], junks := (0 : Nat) }) ∧ (¬U.KG z20 z21 z23 z25 z13 z33 z35 → K (Sum.inr [Sum.inr [Sum.inr (Sum.inr (Sum.inr (Sum.inr (Sum.inr (Sum.inr (Sum.inl (IntKind.u64, (0 : Int)))))))), Sum.inr (Sum.inr (Sum.inr (Sum.inr (Sum.inr (Sum.inr (Sum.inl (IntKind.u64, (0 : Int)))))))), Sum.inr (Sum.inr (Sum.inr (Sum.inr (Sum.inr (Sum.inr (Sum.inl (IntKind.u32, (0 : Int)))))))), Sum.inr (Sum.inr (Sum.inr (Sum.inr (Sum.inr (Sum.inr (Sum.inl (IntKind.u32, (0 : Int)))))))), Sum.inr (Sum.inr (Sum.inr (Sum.inr (Sum.inr (Sum.inr (Sum.inl (IntKind.i64, (0 : Int)))))))), Sum.inr (Sum.inr (Sum.inr (Sum.inr (Sum.inr (Sum.inr (Sum.inl (IntKind.i64, (0 : Int)))))))), Sum.inr (Sum.inr (Sum.inr (Sum.inr (Sum.inr (Sum.inr (Sum.inl (IntKind.i64, (0 : Int))))))))], Sum.inl (Sum.inl (Value.bool false))]) { heap := [], ints := [], opqs := (0 : Nat), arrs := [some { elem := (5 : Nat), k := AK.n IntKind.u8, l := L, cap := cap, ro := true }], junks := (0 : Nat) })) ∧ L[j11]? = some z12 ∧ (U.By L ∧ o8 + n9 ≤ List.length L ∧ n9 ≤ (16777216 : Nat)) ∧ ∀ (z36 : Int), z36 = U.vb (List.take n9 (List.drop o8 L)) → L[j11]? = some z12 ∧ ∀ (z37 : Int), z37 = IntKind.wrap IntKind.u32 z36 → (U.By L ∧ o14 + n15 ≤ List.length L ∧ n15 ≤ (16777216 : Nat)) ∧ ∀ (z38 : Int), z38 = U.vb (List.take n15 (List.drop o14 L)) → L[j11]? = some z12 ∧ ∀ (z39 : Int), z39 = IntKind.wrap IntKind.i64 z38 → (U.By L ∧ o17 + n18 ≤ List.length L ∧ n18 ≤ (16777216 : Nat)) ∧ ∀ (z40 : Int), z40 = U.vb (List.take n18 (List.drop o17 L)) → L[j11]? = some z12 ∧ ∀ (z41 : Int), z41 = IntKind.wrap IntKind.i64 z40 → (U.KG z20 z21 z23 z37 z13 z39 z41 → K (Sum.inr [Sum.inr [Sum.inr (Sum.inr (Sum.inr (Sum.inr (Sum.inr (Sum.inr (Sum.inl (IntKind.u64, z20))))))), Sum.inr (Sum.inr (Sum.inr (Sum.inr (Sum.inr (Sum.inr (Sum.inl (IntKind.u64, z21))))))), Sum.inr (Sum.inr (Sum.inr (Sum.inr (Sum.inr (Sum.inr (Sum.inl (IntKind.u32, z23))))))), Sum.inr (Sum.inr (Sum.inr (Sum.inr (Sum.inr (Sum.inr (Sum.inl (IntKind.u32, z37))))))), Sum.inr (Sum.inr (Sum.inr (Sum.inr (Sum.inr (Sum.inr (Sum.inl (IntKind.i64, z13))))))), Sum.inr (Sum.inr (Sum.inr (Sum.inr (Sum.inr (Sum.inr (Sum.inl (IntKind.i64, z39))))))), Sum.inr (Sum.inr (Sum.inr (Sum.inr (Sum.inr (Sum.inr (Sum.inl (IntKind.i64, z41)))))))], Sum.inl (Sum.inl (Value.bool true))]) { heap := [], ints := [], opqs := (0 : Nat), arrs := [some { elem := (5 : Nat), k := AK.n IntKind.u8, l := L, cap := cap, ro := true }], junks := (0 : Nat) }) ∧ (¬U.KG z20 z21 z23 z37 z13 z39 z41 → K (Sum.inr [Sum.inr [Sum.inr (Sum.inr (Sum.inr (Sum.inr (Sum.inr (Sum.inr (Sum.inl (IntKind.u64, (0 : Int)))))))), Sum.inr (Sum.inr (Sum.inr (Sum.inr (Sum.inr (Sum.inr (Sum.inl (IntKind.u64, (0 : Int)))))))), Sum.inr (Sum.inr (Sum.inr (Sum.inr (Sum.inr (Sum.inr (Sum.inl (IntKind.u32, (0 : Int)))))))), Sum.inr (Sum.inr (Sum.inr (Sum.inr (Sum.inr (Sum.inr (Sum.inl (IntKind.u32, (0 : Int)))))))), Sum.inr (Sum.inr (Sum.inr (Sum.inr (Sum.inr (Sum.inr (Sum.inl (IntKind.i64, (0 : Int)))))))), Sum.inr (Sum.inr (Sum.inr (Sum.inr (Sum.inr (Sum.inr (Sum.inl (IntKind.i64, (0 : Int)))))))), Sum.inr (Sum.inr (Sum.inr (Sum.inr (Sum.inr (Sum.inr (Sum.inl (IntKind.i64, (0 : Int))))))))], Sum.inl (Sum.inl (Value.bool false))]) { heap := [], ints := [], opqs := (0 : Nat), arrs := [some { elem := (5 : Nat), k := AK.n IntKind.u8, l := L, cap := cap, ro := true }], junks := (0 : Nat) })) ∧ L[j11]? = some z12 ∧ (U.By L ∧ o5 + n6 ≤ List.length L ∧ n6 ≤ (16777216 : Nat)) ∧ ∀ (z42 : Int), z42 = U.vb (List.take n6 (List.drop o5 L)) → L[j11]? = some z12 ∧ ∀ (z43 : Int), z43 = IntKind.wrap IntKind.u32 z42 → (U.By L ∧ o8 + n9 ≤ List.length L ∧ n9 ≤ (16777216 : Nat)) ∧ ∀ (z44 : Int), z44 = U.vb (List.take n9 (List.drop o8 L)) → L[j11]? = some z12 ∧ ∀ (z45 : Int), z45 = IntKind.wrap IntKind.u32 z44 → (U.By L ∧ o14 + n15 ≤ List.length L ∧ n15 ≤ (16777216 : Nat)) ∧ ∀ (z46 : Int), z46 = U.vb (List.take n15 (List.drop o14 L)) → L[j11]? = some z12 ∧ ∀ (z47 : Int), z47 = IntKind.wrap IntKind.i64 z46 → (U.By L ∧ o17 + n18 ≤ List.length L ∧ n18 ≤ (16777216 : Nat)) ∧ ∀ (z48 : Int), z48 = U.vb (List.take n18 (List.drop o17 L)) → L[j11]? = some z12 ∧ ∀ (z49 : Int), z49 = IntKind.wrap IntKind.i64 z48 → (U.KG z20 z21 z43 z45 z13 z47 z49 → K (Sum.inr [Sum.inr [Sum.inr (Sum.inr (Sum.inr (Sum.inr (Sum.inr (Sum.inr (Sum.inl (IntKind.u64, z20))))))), Sum.inr (Sum.inr (Sum.inr (Sum.inr (Sum.inr (Sum.inr (Sum.inl (IntKind.u64, z21))))))), Sum.inr (Sum.inr (Sum.inr (Sum.inr (Sum.inr (Sum.inr (Sum.inl (IntKind.u32, z43))))))), Sum.inr (Sum.inr (Sum.inr (Sum.inr (Sum.inr (Sum.inr (Sum.inl (IntKind.u32, z45))))))), Sum.inr (Sum.inr (Sum.inr (Sum.inr (Sum.inr (Sum.inr (Sum.inl (IntKind.i64, z13))))))), Sum.inr (Sum.inr (Sum.inr (Sum.inr (Sum.inr (Sum.inr (Sum.inl (IntKind.i64, z47))))))), Sum.inr (Sum.inr (Sum.inr (Sum.inr (Sum.inr (Sum.inr (Sum.inl (IntKind.i64, z49)))))))], Sum.inl (Sum.inl (Value.bool true))]) { heap := [], ints := [], opqs := (0 : Nat), arrs := [some { elem := (5 : Nat), k := AK.n IntKind.u8, l := L, cap := cap, ro := true }], junks := (0 : Nat) }) ∧ (¬U.KG z20 z21 z43 z45 z13 z47 z49 → K (Sum.inr [Sum.inr [Sum.inr (Sum.inr (Sum.inr (Sum.inr (Sum.inr (Sum.inr (Sum.inl (IntKind.u64, (0 : Int)))))))), Sum.inr (Sum.inr (Sum.inr (Sum.inr (Sum.inr (Sum.inr (Sum.inl (IntKind.u64, (0 : Int)))))))), Sum.inr (Sum.inr (Sum.inr (Sum.inr (Sum.inr (Sum.inr (Sum.inl (IntKind.u32, (0 : Int)))))))), Sum.inr (Sum.inr (Sum.inr (Sum.inr (Sum.inr (Sum.inr (Sum.inl (IntKind.u32, (0 : Int)))))))), Sum.inr (Sum.inr (Sum.inr (Sum.inr (Sum.inr (Sum.inr (Sum.inl (IntKind.i64, (0 : Int)))))))), Sum.inr (Sum.inr (Sum.inr (Sum.inr (Sum.inr (Sum.inr (Sum.inl (IntKind.i64, (0 : Int)))))))), Sum.inr (Sum.inr (Sum.inr (Sum.inr (Sum.inr (Sum.inr (Sum.inl (IntKind.i64, (0 : Int))))))))], Sum.inl (Sum.inl (Value.bool false))]) { heap := [], ints := [], opqs := (0 : Nat), arrs := [some { elem := (5 : Nat), k := AK.n IntKind.u8, l := L, cap := cap, ro := true }], junks := (0 : Nat) })) ∧ L[j11]? = some z12 ∧ (U.By L ∧ o2 + n3 ≤ List.length L ∧ n3 ≤ (16777216 : Nat)) ∧ ∀ (z50 : Int), z50 = U.vb (List.take n3 (List.drop o2 L)) → L[j11]? = some z12 ∧ (U.By L ∧ o5 + n6 ≤ List.length L ∧ n6 ≤ (16777216 : Nat)) ∧ ∀ (z51 : Int), z51 = U.vb (List.take n6 (List.drop o5 L)) → L[j11]? = some z12 ∧ ∀ (z52 : Int), z52 = IntKind.wrap IntKind.u32 z51 → (U.By L ∧ o8 + n9 ≤ List.length L ∧ n9 ≤ (16777216 : Nat)) ∧ ∀ (z53 : Int), z53 = U.vb (List.take n9 (List.drop o8 L)) → L[j11]? = some z12 ∧ ∀ (z54 : Int), z54 = IntKind.wrap IntKind.u32 z53 → (U.By L ∧ o14 + n15 ≤ List.length L ∧ n15 ≤ (16777216 : Nat)) ∧ ∀ (z55 : Int), z55 = U.vb (List.take n15 (List.drop o14 L)) → L[j11]? = some z12 ∧ ∀ (z56 : Int), z56 = IntKind.wrap IntKind.i64 z55 → (U.By L ∧ o17 + n18 ≤ List.length L ∧ n18 ≤ (16777216 : Nat)) ∧ ∀ (z57 : Int), z57 = U.vb (List.take n18 (List.drop o17 L)) → L[j11]? = some z12 ∧ ∀ (z58 : Int), z58 = IntKind.wrap IntKind.i64 z57 → (U.KG z20 z50 z52 z54 z13 z56 z58 → K (Sum.inr [Sum.inr [Sum.inr (Sum.inr (Sum.inr (Sum.inr (Sum.inr (Sum.inr (Sum.inl (IntKind.u64, z20))))))), Sum.inr (Sum.inr (Sum.inr (Sum.inr (Sum.inr (Sum.inr (Sum.inl (IntKind.u64, z50))))))), Sum.inr (Sum.inr (Sum.inr (Sum.inr (Sum.inr (Sum.inr (Sum.inl (IntKind.u32, z52))))))), Sum.inr (Sum.inr (Sum.inr (Sum.inr (Sum.inr (Sum.inr (Sum.inl (IntKind.u32, z54))))))), Sum.inr (Sum.inr (Sum.inr (Sum.inr (Sum.inr (Sum.inr (Sum.inl (IntKind.i64, z13))))))), Sum.inr (Sum.inr (Sum.inr (Sum.inr (Sum.inr (Sum.inr (Sum.inl (IntKind.i64, z56))))))), Sum.inr (Sum.inr (Sum.inr (Sum.inr (Sum.inr (Sum.inr (Sum.inl (IntKind.i64, z58)))))))], Sum.inl (Sum.inl (Value.bool true))]) { heap := [], ints := [], opqs := (0 : Nat), arrs := [some { elem := (5 : Nat), k := AK.n IntKind.u8, l := L, cap := cap, ro := true }], junks := (0 : Nat) }) ∧ (¬U.KG z20 z50 z52 z54 z13 z56 z58 → K (Sum.inr [Sum.inr [Sum.inr (Sum.inr (Sum.inr (Sum.inr (Sum.inr (Sum.inr (Sum.inl (IntKind.u64, (0 : Int)))))))), Sum.inr (Sum.inr (Sum.inr (Sum.inr (Sum.inr (Sum.inr (Sum.inl (IntKind.u64, (0 : Int)))))))), Sum.inr (Sum.inr (Sum.inr (Sum.inr (Sum.inr (Sum.inr (Sum.inl (IntKind.u32, (0 : Int)))))))), Sum.inr (Sum.inr (Sum.inr (Sum.inr (Sum.inr (Sum.inr (Sum.inl (IntKind.u32, (0 : Int)))))))), Sum.inr (Sum.inr (Sum.inr (Sum.inr (Sum.inr (Sum.inr (Sum.inl (IntKind.i64, (0 : Int)))))))), Sum.inr (Sum.inr (Sum.inr (Sum.inr (Sum.inr (Sum.inr (Sum.inl (IntKind.i64, (0 : Int)))))))), Sum.inr (Sum.inr (Sum.inr (Sum.inr (Sum.inr (Sum.inr (Sum.inl (IntKind.i64, (0 : Int))))))))], Sum.inl (Sum.inl (Value.bool false))]) { heap := [], ints := [], opqs := (0 : Nat), arrs := [some { elem := (5 : Nat), k := AK.n IntKind.u8, l := L, cap := cap, ro := true }], junks := (0 : Nat) })) ∧ L[j11]? = some z12 ∧ (U.By L ∧ o + n1 ≤ List.length L ∧ n1 ≤ (16777216 : Nat)) ∧ ∀ (z59 : Int), z59 = U.vb (List.take n1 (List.drop o L)) → L[j11]? = some z12 ∧ (U.By L ∧ o2 + n3 ≤ List.length L ∧ n3 ≤ (16777216 : Nat)) ∧ ∀ (z60 : Int), z60 = U.vb (List.take n3 (List.drop o2 L)) → L[j11]? = some z12 ∧ (U.By L ∧ o5 + n6 ≤ List.length L ∧ n6 ≤ (16777216 : Nat)) ∧ ∀ (z61 : Int), z61 = U.vb (List.take n6 (List.drop o5 L)) → L[j11]? = some z12 ∧ ∀ (z62 : Int), z62 = IntKind.wrap IntKind.u32 z61 → (U.By L ∧ o8 + n9 ≤ List.length L ∧ n9 ≤ (16777216 : Nat)) ∧ ∀ (z63 : Int), z63 = U.vb (List.take n9 (List.drop o8 L)) → L[j11]? = some z12 ∧ ∀ (z64 : Int), z64 = IntKind.wrap IntKind.u32 z63 → (U.By L ∧ o14 + n15 ≤ List.length L ∧ n15 ≤ (16777216 : Nat)) ∧ ∀ (z65 : Int), z65 = U.vb (List.take n15 (List.drop o14 L)) → L[j11]? = some z12 ∧ ∀ (z66 : Int), z66 = IntKind.wrap IntKind.i64 z65 → (U.By L ∧ o17 + n18 ≤ List.length L ∧ n18 ≤ (16777216 : Nat)) ∧ ∀ (z67 : Int), z67 = U.vb (List.take n18 (List.drop o17 L)) → L[j11]? = some z12 ∧ ∀ (z68 : Int), z68 = IntKind.wrap IntKind.i64 z67 → (U.KG z59 z60 z62 z64 z13 z66 z68 → K (Sum.inr [Sum.inr [Sum.inr (Sum.inr (Sum.inr (Sum.inr (Sum.inr (Sum.inr (Sum.inl (IntKind.u64, z59))))))), Sum.inr (Sum.inr (Sum.inr (Sum.inr (Sum.inr (Sum.inr (Sum.inl (IntKind.u64, z60))))))), Sum.inr (Sum.inr (Sum.inr (Sum.inr (Sum.inr (Sum.inr (Sum.inl (IntKind.u32, z62))))))), Sum.inr (Sum.inr (Sum.inr (Sum.inr (Sum.inr (Sum.inr (Sum.inl (IntKind.u32, z64))))))), Sum.inr (Sum.inr (Sum.inr (Sum.inr (Sum.inr (Sum.inr (Sum.inl (IntKind.i64, z13))))))), Sum.inr (Sum.inr (Sum.inr (Sum.inr (Sum.inr (Sum.inr (Sum.inl (IntKind.i64, z66))))))), Sum.inr (Sum.inr (Sum.inr (Sum.inr (Sum.inr (Sum.inr (Sum.inl (IntKind.i64, z68)))))))], Sum.inl (Sum.inl (Value.bool true))]) { heap := [], ints := [], opqs := (0 : Nat), arrs := [some { elem := (5 : Nat), k := AK.n IntKind.u8, l := L, cap := cap, ro := true }], junks := (0 : Nat) }) ∧ (¬U.KG z59 z60 z62 z64 z13 z66 z68 → K (Sum.inr [Sum.inr [Sum.inr (Sum.inr (Sum.inr (Sum.inr (Sum.inr (Sum.inr (Sum.inl (IntKind.u64, (0 : Int)))))))), Sum.inr (Sum.inr (Sum.inr (Sum.inr (Sum.inr (Sum.inr (Sum.inl (IntKind.u64, (0 : Int)))))))), Sum.inr (Sum.inr (Sum.inr (Sum.inr (Sum.inr (Sum.inr (Sum.inl (IntKind.u32, (0 : Int)))))))), Sum.inr (Sum.inr (Sum.inr (Sum.inr (Sum.inr (Sum.inr (Sum.inl (IntKind.u32, (0 : Int)))))))), Sum.inr (Sum.inr (Sum.inr (Sum.inr (Sum.inr (Sum.inr (Sum.inl (IntKind.i64, (0 : Int)))))))), Sum.inr (Sum.inr (Sum.inr (Sum.inr (Sum.inr (Sum.inr (Sum.inl (IntKind.i64, (0 : Int)))))))), Sum.inr (Sum.inr (Sum.inr (Sum.inr (Sum.inr (Sum.inr (Sum.inl (IntKind.i64, (0 : Int))))))))], Sum.inl (Sum.inl (Value.bool false))]) { heap := [], ints := [], opqs := (0 : Nat), arrs := [some { elem := (5 : Nat), k := AK.n IntKind.u8, l := L, cap := cap, ro := true }], junks := (0 : Nat) }))) := by kernel_rfl
end Go.Proofs.YtlfigaddddncmaaDoor
end

section
set_option linter.unusedVariables false
set_option linter.unusedSimpArgs false
namespace Go.Proofs.YtlfigaddddncmaaDoor
open Go Reck
/-- Numbers of a key's kinds. -/
structure U.KK (src dst sip dip proto sport dport : Int) : Prop where
  a : 0 ≤ src ∧ src ≤ 18446744073709551615
  b : 0 ≤ dst ∧ dst ≤ 18446744073709551615
  c : 0 ≤ sip ∧ sip ≤ 4294967295
  d : 0 ≤ dip ∧ dip ≤ 4294967295
  e : -9223372036854775808 ≤ proto ∧ proto ≤ 9223372036854775807
  f : -9223372036854775808 ≤ sport ∧ sport ≤ 9223372036854775807
  g : -9223372036854775808 ≤ dport ∧ dport ≤ 9223372036854775807
def U.kb (src dst sip dip proto sport dport : Int) : List Int := U.nb 6 src ++ U.nb 6 dst ++ U.nb 4 sip ++ U.nb 4 dip ++ U.nb 1 proto ++ U.nb 2 sport ++ U.nb 2 dport
theorem kb_length (src dst sip dip proto sport dport : Int) : (U.kb src dst sip dip proto sport dport).length = 25 := by
  simp only [U.kb, List.length_append, nb_length]; rfl
theorem by_app {L M : List Int} (h : U.By L) (k : U.By M) : U.By (L ++ M) := by
  obtain ⟨a, rfl, ha⟩ := h
  obtain ⟨b, rfl, hb⟩ := k
  exact ⟨a ++ b, by simp [nz], fun x hx => by rcases List.mem_append.1 hx with h | h <;> simp_all⟩
theorem kb_by (src dst sip dip proto sport dport : Int) : U.By (U.kb src dst sip dip proto sport dport) := by
  unfold U.kb
  exact by_app (by_app (by_app (by_app (by_app (by_app (nb_by _ _) (nb_by _ _)) (nb_by _ _)) (nb_by _ _)) (nb_by _ _)) (nb_by _ _)) (nb_by _ _)
theorem num_nb (k : Nat) (v : Int) : num (8 * k) v.toNat = nums 8 (be k v.toNat) := num_be k v.toNat
theorem kb_out {L : List Int} {N : Int} {src dst sip dip proto sport dport : Int} (h : U.Out L N (U.apps (U.apps (U.apps (U.apps [] 48 [src, dst]) 32 [sip, dip]) 8 [proto]) 16 [sport, dport])) : L = U.kb src dst sip dip proto sport dport := by
  have e : (U.apps (U.apps (U.apps (U.apps [] 48 [src, dst]) 32 [sip, dip]) 8 [proto]) 16 [sport, dport]) = nums 8 (be 6 src.toNat ++ be 6 dst.toNat ++ be 4 sip.toNat ++ be 4 dip.toNat ++ be 1 proto.toNat ++ be 2 sport.toNat ++ be 2 dport.toNat) := by
    simp only [U.apps, U.app, List.foldl_cons, List.foldl_nil, List.nil_append, nums_app]
    rw [show (48 : Int).toNat = 8 * 6 from rfl, show (32 : Int).toNat = 8 * 4 from rfl, show (8 : Int).toNat = 8 * 1 from rfl, show (16 : Int).toNat = 8 * 2 from rfl]
    simp only [num_nb]
  rw [e] at h
  have h2 := out_bytes h (by
    intro c hc
    simp only [List.mem_append] at hc
    rcases hc with (((((hc | hc) | hc) | hc) | hc) | hc) | hc <;> exact be_lt _ _ _ hc)
  rw [h2]
  simp only [U.kb, U.nb, nz, List.map_append]
  rfl
theorem kbytes_run (K : AV → St → Prop) (src dst sip dip proto sport dport : Int) (kin : U.KK src dst sip dip proto sport dport)
    (hT : U.KG src dst sip dip proto sport dport → ∀ (L : List Int) (m c cap : Nat), L = U.kb src dst sip dip proto sport dport → m = 25 → m ≤ c → c ≤ cap → K (cell (aslC ⟨0, 0, m, c⟩)) (ar [bs L cap false]))
    (hF : ¬ U.KG src dst sip dip proto sport dport → K (cell nilC) emptySt) :
    runI inv0 tYB 16 [kyA src dst sip dip proto sport dport] emptySt K := by
  rw [kbytes_vc]
  obtain ⟨ka, kb, kc, kd, ke, kf, kg⟩ := kin
  refine ⟨fun hg L0 h0 e0 => ?_, hF⟩
  obtain ⟨g1, g2, g3, g4⟩ := hg
  refine ⟨[], ⟨⟨h0, by simp [e0], Nat.le_refl _, Nat.le_refl _, by omega, by simp, ?_⟩⟩, fun L1 m1 c1 p1 N1 a1 a2 a3 a4 a5 z7 h7 z8 h8 => ?_⟩
  · intro v hv; simp at hv; rcases hv with rfl | rfl <;> omega
  simp only [List.length_cons, List.length_nil] at a2
  rw [wrapU64] at h7 h8
  obtain rfl : z7 = sip := by omega
  obtain rfl : z8 = dip := by omega
  refine ⟨_, ⟨⟨a1, a3, a4, a5, by omega, by simp; omega, ?_⟩⟩, fun L2 m2 c2 p2 N2 b1 b2 b3 b4 b5 z15 h15 => ?_⟩
  · intro v hv; simp at hv; rcases hv with rfl | rfl <;> omega
  simp only [List.length_cons, List.length_nil] at b2
  rw [wrapU64] at h15
  obtain rfl : z15 = proto := by omega
  refine ⟨_, ⟨⟨b1, b3, b4, b5, by omega, by simp; omega, ?_⟩⟩, fun L3 m3 c3 p3 N3 c1' c2' c3' c4' c5' z22 h22 z23 h23 => ?_⟩
  · intro v hv; simp at hv; subst hv; omega
  simp only [List.length_cons, List.length_nil] at c2'
  rw [wrapU64] at h22 h23
  obtain rfl : z22 = sport := by omega
  obtain rfl : z23 = dport := by omega
  refine ⟨_, ⟨⟨c1', c3', c4', c5', by omega, by simp; omega, ?_⟩⟩, fun L4 m4 c4 p4 N4 d1 d2 d3 d4 d5 => ?_⟩
  · intro v hv; simp at hv; rcases hv with rfl | rfl <;> omega
  have hL := kb_out d1
  have hl : L4.length = 25 := by rw [hL, kb_length]
  refine ⟨⟨d3, by omega⟩, fun L5 c5 p5 e1 e2 e3 => hT ⟨g1, g2, g3, g4⟩ L5 m4 c5 p5 (e1.trans hL) (by omega) e2 e3⟩
theorem take_all {l : List Int} {n : Nat} (h : l.length = n) : List.take n (List.drop (OfNat.ofNat 0) l) = l := by
  show List.take n (List.drop 0 l) = l
  rw [List.drop_zero, List.take_of_length_le (by omega)]
theorem rbytes_run (K : AV → St → Prop) (src dst sip dip proto sport dport : Int) (kin : U.KK src dst sip dip proto sport dport) (hg : U.KG src dst sip dip proto sport dport)
    (hT : ∀ (L : List Int) (m c cap : Nat), L = U.kb src dst sip dip proto sport dport → m = 25 → m ≤ c → c ≤ cap → K (cell (aslC ⟨0, 0, m, c⟩)) (ar [bs L cap false])) :
    runI inv0 tYB 20 [kyA src dst sip dip proto sport dport] emptySt K := by
  rw [rbytes_vc]
  obtain ⟨ka, kb, kc, kd, ke, kf, kg⟩ := kin
  obtain ⟨g1, g2, g3, g4⟩ := hg
  intro z00 h00 z01 h01 z02 h02 z03 h03 z04 h04
  have e0 : z00 = src := w64 h00 (by omega)
  rw [wrapU64] at h04
  obtain rfl : z04 = src := by omega
  refine ⟨⟨by omega, by omega⟩, fun m0 M0 hm0 hM0 => ?_⟩
  obtain rfl : m0 = 6 := by omega
  have hMl0 : M0.length = 6 := by rw [hM0, nb_length]; rfl
  refine ⟨trivial, by rw [hMl0]; exact Nat.le_refl _, by decide, by decide, fun l0 n0 c0 hl0 hn0 hc0 => ?_⟩
  have hn0' : n0 = 6 := hn0
  rw [take_all hMl0, List.nil_append] at hl0
  have hll0 : l0.length = n0 := by rw [hl0, hMl0, hn0']
  intro z10 h10 z11 h11 z12 h12 z13 h13 z14 h14
  have e1 : z11 = dst := w64 h11 (by omega)
  rw [wrapU64] at h14
  obtain rfl : z14 = dst := by omega
  refine ⟨⟨by omega, by omega⟩, fun m1 M1 hm1 hM1 => ?_⟩
  obtain rfl : m1 = 6 := by omega
  have hMl1 : M1.length = 6 := by rw [hM1, nb_length]; rfl
  refine ⟨⟨by rw [hll0]; show 0 + n0 ≤ n0; omega, by show 0 + c0 ≤ c0; omega⟩, by rw [hMl1]; exact Nat.le_refl _, by omega, by decide, fun l1 n1 c1 hl1 hn1 hc1 => ?_⟩
  have hn1' : n1 = 12 := by omega
  rw [take_all hMl1, take_all hll0] at hl1
  have hll1 : l1.length = n1 := by rw [hl1, List.length_append, hll0, hMl1]; omega
  intro z20 h20 z21 h21 z22 h22 z23 h23 z24 h24
  have e2 : z22 = sip := w64 h22 (by omega)
  rw [wrapU64] at h24
  obtain rfl : z24 = sip := by omega
  refine ⟨⟨by omega, by omega⟩, fun m2 M2 hm2 hM2 => ?_⟩
  obtain rfl : m2 = 4 := by omega
  have hMl2 : M2.length = 4 := by rw [hM2, nb_length]; rfl
  refine ⟨⟨by rw [hll1]; show 0 + n1 ≤ n1; omega, by show 0 + c1 ≤ c1; omega⟩, by rw [hMl2]; exact Nat.le_refl _, by omega, by decide, fun l2 n2 c2 hl2 hn2 hc2 => ?_⟩
  have hn2' : n2 = 16 := by omega
  rw [take_all hMl2, take_all hll1] at hl2
  have hll2 : l2.length = n2 := by rw [hl2, List.length_append, hll1, hMl2]; omega
  intro z30 h30 z31 h31 z32 h32 z33 h33 z34 h34
  have e3 : z33 = dip := w64 h33 (by omega)
  rw [wrapU64] at h34
  obtain rfl : z34 = dip := by omega
  refine ⟨⟨by omega, by omega⟩, fun m3 M3 hm3 hM3 => ?_⟩
  obtain rfl : m3 = 4 := by omega
  have hMl3 : M3.length = 4 := by rw [hM3, nb_length]; rfl
  refine ⟨⟨by rw [hll2]; show 0 + n2 ≤ n2; omega, by show 0 + c2 ≤ c2; omega⟩, by rw [hMl3]; exact Nat.le_refl _, by omega, by decide, fun l3 n3 c3 hl3 hn3 hc3 => ?_⟩
  have hn3' : n3 = 20 := by omega
  rw [take_all hMl3, take_all hll2] at hl3
  have hll3 : l3.length = n3 := by rw [hl3, List.length_append, hll2, hMl3]; omega
  intro z40 h40 z41 h41 z42 h42 z43 h43 z44 h44
  rw [wrapU64] at h44
  obtain rfl : z44 = proto := by omega
  refine ⟨⟨by omega, by omega⟩, fun m4 M4 hm4 hM4 => ?_⟩
  obtain rfl : m4 = 1 := by omega
  have hMl4 : M4.length = 1 := by rw [hM4, nb_length]; rfl
  refine ⟨⟨by rw [hll3]; show 0 + n3 ≤ n3; omega, by show 0 + c3 ≤ c3; omega⟩, by rw [hMl4]; exact Nat.le_refl _, by omega, by decide, fun l4 n4 c4 hl4 hn4 hc4 => ?_⟩
  have hn4' : n4 = 21 := by omega
  rw [take_all hMl4, take_all hll3] at hl4
  have hll4 : l4.length = n4 := by rw [hl4, List.length_append, hll3, hMl4]; omega
  intro z50 h50 z51 h51 z52 h52 z53 h53 z54 h54
  rw [wrapU64] at h54
  obtain rfl : z54 = sport := by omega
  refine ⟨⟨by omega, by omega⟩, fun m5 M5 hm5 hM5 => ?_⟩
  obtain rfl : m5 = 2 := by omega
  have hMl5 : M5.length = 2 := by rw [hM5, nb_length]; rfl
  refine ⟨⟨by rw [hll4]; show 0 + n4 ≤ n4; omega, by show 0 + c4 ≤ c4; omega⟩, by rw [hMl5]; exact Nat.le_refl _, by omega, by decide, fun l5 n5 c5 hl5 hn5 hc5 => ?_⟩
  have hn5' : n5 = 23 := by omega
  rw [take_all hMl5, take_all hll4] at hl5
  have hll5 : l5.length = n5 := by rw [hl5, List.length_append, hll4, hMl5]; omega
  intro z60 h60 z61 h61 z62 h62 z63 h63 z64 h64
  rw [wrapU64] at h64
  obtain rfl : z64 = dport := by omega
  refine ⟨⟨by omega, by omega⟩, fun m6 M6 hm6 hM6 => ?_⟩
  obtain rfl : m6 = 2 := by omega
  have hMl6 : M6.length = 2 := by rw [hM6, nb_length]; rfl
  refine ⟨⟨by rw [hll5]; show 0 + n5 ≤ n5; omega, by show 0 + c5 ≤ c5; omega⟩, by rw [hMl6]; exact Nat.le_refl _, by omega, by decide, fun l6 n6 c6 hl6 hn6 hc6 => ?_⟩
  have hn6' : n6 = 25 := by omega
  rw [take_all hMl6, take_all hll5] at hl6
  have hll6 : l6.length = n6 := by rw [hl6, List.length_append, hll5, hMl6]; omega
  exact hT l6 n6 c6 c6 (by rw [hl6, hl5, hl4, hl3, hl2, hl1, hl0, hM0, hM1, hM2, hM3, hM4, hM5, hM6]; rfl) hn6' hc6 (Nat.le_refl _)
end Go.Proofs.YtlfigaddddncmaaDoor
end

section
set_option linter.unusedVariables false
set_option linter.unusedSimpArgs false
namespace Go.Proofs.YtlfigaddddncmaaDoor
open Go Reck
/-- Bits of whole bytes are those bytes' number. -/
theorem val_bytes (cs : List Nat) (i : Nat) (hc : ∀ c ∈ cs, c < 256) : ∀ k, i + k ≤ cs.length → val (span cs (8 * i) (8 * k)) = ((cs.drop i).take k).foldl (fun a c => a * 256 + c) 0
  | 0, _ => by simp [span, val]
  | k + 1, h => by
    have ih := val_bytes cs i hc k (by omega)
    rw [show 8 * (k + 1) = 8 * k + 8 by omega, span_add, val_append, ih, span_length, show 8 * i + 8 * k = 8 * (i + k) by omega, span_val cs (8 * (i + k)) 8 (by omega), show 8 * (i + k) / 8 = i + k by omega, show 8 - 8 * (i + k) % 8 - 8 = 0 by omega]
    have hlt : i + k < cs.length := by omega
    have hg : (cs.drop i)[k]? = some cs[i + k] := by rw [List.getElem?_drop, List.getElem?_eq_getElem hlt]
    rw [List.take_add_one, hg, List.foldl_append]
    have hb := hc _ (List.getElem_mem hlt)
    simp only [Option.toList_some, List.foldl_cons, List.foldl_nil, Nat.pow_zero, Nat.div_one]
    rw [List.getD_eq_getElem?_getD, List.getElem?_eq_getElem hlt]
    simp only [Option.getD_some]
    rw [show (2 : Nat) ^ 8 = 256 from rfl, Nat.mod_eq_of_lt hb]
theorem loa_vb {L : List Int} (hB : U.By L) (i k : Nat) (hk : k ≤ 8) (hl : i + k ≤ L.length) {a n : Int} (ha : a = 8 * i) (hn : n = 8 * k) : U.loa L a n = U.vb ((L.drop i).take k) := by
  obtain ⟨cs, rfl, hc⟩ := hB
  rw [nz_length] at hl
  unfold U.loa
  rw [nz_back, ha, hn, show (8 * (i : Int)).toNat = 8 * i by omega, show (8 * (k : Int)).toNat = 8 * k by omega, val_bytes cs i hc k hl, nz_drop, nz_take]
  unfold U.vb
  have h := vbN_cast ((cs.drop i).take k) 0
  rw [show ((0 : Nat) : Int) = 0 from rfl] at h
  rw [h]
  have h1 := val_lt (span cs (8 * i) (8 * k))
  rw [span_length, val_bytes cs i hc k hl] at h1
  have h2 : 2 ^ (8 * k) ≤ 2 ^ 64 := Nat.pow_le_pow_right (by decide) (by omega)
  have h3 : (2 : Nat) ^ 64 = 18446744073709551616 := by decide
  omega
theorem in_vb {L : List Int} (hB : U.By L) (i k : Nat) (hk : k ≤ 8) (hl : i + k ≤ L.length) {a e n z a' e' : Int} (ha : a = 8 * i) (he : e = 0) (hn : n = 8 * k) (hz : z = U.inV L a e n) (ha' : a' = U.inA L a e n) (he' : e' = U.inE L a e n) : z = U.vb ((L.drop i).take k) ∧ a' = 8 * ((i + k : Nat) : Int) ∧ e' = 0 := by
  have hf : a + n ≤ 8 * L.length := by omega
  refine ⟨?_, ?_, ?_⟩
  · rw [Rd.inV_of hz he hf]; exact loa_vb hB i k hk hl ha hn
  · rw [Rd.inA_of ha' he hf]; omega
  · rw [he']; unfold U.inE; rw [if_pos he, if_pos hf]
theorem vb_lt {L : List Int} (hB : U.By L) (k : Nat) (hk : k ≤ 8) (hl : L.length = k) : 0 ≤ U.vb L ∧ U.vb L < 256 ^ k := by
  have h := loa_vb hB 0 k hk (by omega) (a := 0) (n := 8 * k) rfl rfl
  rw [List.drop_zero, List.take_of_length_le (by omega)] at h
  rw [← h]
  have := Rd.loa_bnd L 0 (8 * k)
  rw [show (8 * (k : Int)).toNat = 8 * k by omega] at this
  have h2 : (2 : Int) ^ (8 * k) = 256 ^ k := by rw [Int.pow_mul]; rfl
  rw [h2] at this; exact this
theorem by_part {L : List Int} (h : U.By L) (o n : Nat) : U.By ((L.drop o).take n) := by
  obtain ⟨cs, rfl, hc⟩ := h
  exact ⟨(cs.drop o).take n, by simp [nz, List.map_drop, List.map_take], fun c hc' => hc c (List.mem_of_mem_drop (List.mem_of_mem_take hc'))⟩
/-- What a key's bytes say. -/
structure U.RdK (L : List Int) (o : Nat) (src dst sip dip proto sport dport : Int) : Prop where
  a : src = U.vb ((L.drop o).take 6)
  b : dst = U.vb ((L.drop (o + 6)).take 6)
  c : sip = U.vb ((L.drop (o + 12)).take 4)
  d : dip = U.vb ((L.drop (o + 16)).take 4)
  e : proto = U.vb ((L.drop (o + 20)).take 1)
  f : sport = U.vb ((L.drop (o + 21)).take 2)
  g : dport = U.vb ((L.drop (o + 23)).take 2)
def kvA (src dst sip dip proto sport dport : Int) (x : Cell) : AV := .inr [.inr (kyL src dst sip dip proto sport dport), .inl x]
theorem kread_fin {L L1 : List Int} {o m : Nat} (hB : U.By L) (hl : o + m ≤ L.length) (hm : m = 25) (h1 : L1 = (L.drop o).take m) : U.By L1 ∧ L1.length = 25 ∧ ∀ i k, i + k ≤ 25 → (L1.drop i).take k = (L.drop (o + i)).take k := by
  refine ⟨by rw [h1]; exact by_part hB o m, by rw [h1, List.length_take, List.length_drop]; omega, fun i k h => ?_⟩
  rw [h1, List.drop_take, List.drop_drop, List.take_take, Nat.min_eq_left (by omega)]
theorem kread_all {L L1 : List Int} {o m : Nat} (hB : U.By L) (hl : o + m ≤ L.length) (hm : m = 25) (h1 : L1 = (L.drop o).take m) {z4 a5 e6 z7 a8 e9 z10 a11 e12 z13 z14 a15 e16 z17 z18 a19 e20 z21 z22 a23 e24 z25 z26 a27 e28 z29 : Int}
    (i1 : z4 = U.inV L1 0 0 48) (i2 : a5 = U.inA L1 0 0 48) (i3 : e6 = U.inE L1 0 0 48)
    (i4 : z7 = U.inV L1 a5 e6 48) (i5 : a8 = U.inA L1 a5 e6 48) (i6 : e9 = U.inE L1 a5 e6 48)
    (i7 : z10 = U.inV L1 a8 e9 32) (i8 : a11 = U.inA L1 a8 e9 32) (i9 : e12 = U.inE L1 a8 e9 32) (j1 : z13 = IntKind.wrap .u32 z10)
    (k1 : z14 = U.inV L1 a11 e12 32) (k2 : a15 = U.inA L1 a11 e12 32) (k3 : e16 = U.inE L1 a11 e12 32) (j2 : z17 = IntKind.wrap .u32 z14)
    (k4 : z18 = U.inV L1 a15 e16 8) (k5 : a19 = U.inA L1 a15 e16 8) (k6 : e20 = U.inE L1 a15 e16 8) (j3 : z21 = IntKind.wrap .i64 z18)
    (k7 : z22 = U.inV L1 a19 e20 16) (k8 : a23 = U.inA L1 a19 e20 16) (k9 : e24 = U.inE L1 a19 e20 16) (j4 : z25 = IntKind.wrap .i64 z22)
    (l1 : z26 = U.inV L1 a23 e24 16) (l2 : a27 = U.inA L1 a23 e24 16) (l3 : e28 = U.inE L1 a23 e24 16) (j5 : z29 = IntKind.wrap .i64 z26) :
    U.RdK L o z4 z7 z13 z17 z21 z25 z29 := by
  obtain ⟨hB1, hl1, hs⟩ := kread_fin hB hl hm h1
  have p1 := in_vb hB1 0 6 (by omega) (by omega) rfl rfl rfl i1 i2 i3
  have p2 := in_vb hB1 6 6 (by omega) (by omega) p1.2.1 p1.2.2 rfl i4 i5 i6
  have p3 := in_vb hB1 12 4 (by omega) (by omega) p2.2.1 p2.2.2 rfl i7 i8 i9
  have p4 := in_vb hB1 16 4 (by omega) (by omega) p3.2.1 p3.2.2 rfl k1 k2 k3
  have p5 := in_vb hB1 20 1 (by omega) (by omega) p4.2.1 p4.2.2 rfl k4 k5 k6
  have p6 := in_vb hB1 21 2 (by omega) (by omega) p5.2.1 p5.2.2 rfl k7 k8 k9
  have p7 := in_vb hB1 23 2 (by omega) (by omega) p6.2.1 p6.2.2 rfl l1 l2 l3
  have b3 := vb_lt (by_part hB1 12 4) 4 (by omega) (by rw [List.length_take, List.length_drop]; omega)
  have b4 := vb_lt (by_part hB1 16 4) 4 (by omega) (by rw [List.length_take, List.length_drop]; omega)
  have b5 := vb_lt (by_part hB1 20 1) 1 (by omega) (by rw [List.length_take, List.length_drop]; omega)
  have b6 := vb_lt (by_part hB1 21 2) 2 (by omega) (by rw [List.length_take, List.length_drop]; omega)
  have b7 := vb_lt (by_part hB1 23 2) 2 (by omega) (by rw [List.length_take, List.length_drop]; omega)
  rw [← p3.1] at b3; rw [← p4.1] at b4; rw [← p5.1] at b5; rw [← p6.1] at b6; rw [← p7.1] at b7
  have e3 : z13 = z10 := by rw [j1, wrapU32]; omega
  have e4 : z17 = z14 := by rw [j2, wrapU32]; omega
  have e5 : z21 = z18 := w64 j3 (by omega)
  have e6' : z25 = z22 := w64 j4 (by omega)
  have e7 : z29 = z26 := w64 j5 (by omega)
  rw [hs 0 6 (by omega)] at p1; rw [hs 6 6 (by omega)] at p2; rw [hs 12 4 (by omega)] at p3; rw [hs 16 4 (by omega)] at p4; rw [hs 20 1 (by omega)] at p5; rw [hs 21 2 (by omega)] at p6; rw [hs 23 2 (by omega)] at p7
  exact ⟨p1.1, p2.1, e3.trans p3.1, e4.trans p4.1, e5.trans p5.1, e6'.trans p6.1, e7.trans p7.1⟩
theorem inA_b {L : List Int} {a e n a' : Int} (h : a' = U.inA L a e n) (hn : 0 ≤ n) (ha : 0 ≤ a ∧ a ≤ 8 * L.length) : 0 ≤ a' ∧ a' ≤ 8 * L.length := Rd.inA_bnd h hn ha
theorem kreadT_run (K : AV → St → Prop) (L : List Int) (o m c cap : Nat) (hB : U.By L) (hl : o + m ≤ L.length) (hm : m ≤ 16777216)
    (hT : m = 25 → ∀ src dst sip dip proto sport dport : Int, U.RdK L o src dst sip dip proto sport dport → U.KG src dst sip dip proto sport dport → K (kvA src dst sip dip proto sport dport (xintC .i64 0)) (ar [bs L cap true]))
    (hF : (m = 25 → ∀ src dst sip dip proto sport dport : Int, U.RdK L o src dst sip dip proto sport dport → ¬ U.KG src dst sip dip proto sport dport) → K (kvA 0 0 0 0 0 0 0 (xintC .i64 5)) (ar [bs L cap true])) :
    runI inv0 tYB 19 [cell (aslC ⟨0, o, m, c⟩)] (ar [bs L cap true]) K := by
  rw [kreadT_vc]
  intro z0 h0
  refine ⟨fun hne => hF (fun h => by omega), fun he => ⟨⟨hl, hm⟩, fun L1 c2 p3 h1 h2 h3 => ?_⟩⟩
  have hm25 : m = 25 := by omega
  obtain ⟨hB1, hl1, _⟩ := kread_fin hB hl hm25 h1
  refine ⟨⟨hB1, by omega, by omega, ⟨by omega, by omega⟩, by omega, by omega⟩, fun z4 a5 e6 i1 i2 i3 => ?_⟩
  have q1 := inA_b i2 (by omega) ⟨by omega, by omega⟩
  refine ⟨⟨hB1, by omega, by omega, q1, by omega, by omega⟩, fun z7 a8 e9 i4 i5 i6 => ?_⟩
  have q2 := inA_b i5 (by omega) q1
  refine ⟨⟨hB1, by omega, by omega, q2, by omega, by omega⟩, fun z10 a11 e12 i7 i8 i9 z13 j1 => ?_⟩
  have q3 := inA_b i8 (by omega) q2
  refine ⟨⟨hB1, by omega, by omega, q3, by omega, by omega⟩, fun z14 a15 e16 k1 k2 k3 z17 j2 => ?_⟩
  have q4 := inA_b k2 (by omega) q3
  refine ⟨⟨hB1, by omega, by omega, q4, by omega, by omega⟩, fun z18 a19 e20 k4 k5 k6 z21 j3 => ?_⟩
  have q5 := inA_b k5 (by omega) q4
  refine ⟨⟨hB1, by omega, by omega, q5, by omega, by omega⟩, fun z22 a23 e24 k7 k8 k9 z25 j4 => ?_⟩
  have q6 := inA_b k8 (by omega) q5
  refine ⟨⟨hB1, by omega, by omega, q6, by omega, by omega⟩, fun z26 a27 e28 l1 l2 l3 z29 j5 => ?_⟩
  have hR := kread_all hB hl hm25 h1 i1 i2 i3 i4 i5 i6 i7 i8 i9 j1 k1 k2 k3 j2 k4 k5 k6 j3 k7 k8 k9 j4 l1 l2 l3 j5
  refine ⟨fun hg => hT hm25 _ _ _ _ _ _ _ hR hg, fun hn => hF (fun _ s d si di p sp dp hR' hg => ?_)⟩
  obtain ⟨r1, r2, r3, r4, r5, r6, r7⟩ := hR'
  obtain ⟨t1, t2, t3, t4, t5, t6, t7⟩ := hR
  rw [← t1] at r1; rw [← t2] at r2; rw [← t3] at r3; rw [← t4] at r4; rw [← t5] at r5; rw [← t6] at r6; rw [← t7] at r7
  subst r1; subst r2; subst r3; subst r4; subst r5; subst r6; subst r7
  exact hn hg
end Go.Proofs.YtlfigaddddncmaaDoor
end

section
set_option linter.unusedVariables false
set_option linter.unusedSimpArgs false
namespace Go.Proofs.YtlfigaddddncmaaDoor
open Go Reck
theorem kreadF_run (K : AV → St → Prop) (L : List Int) (o m c cap : Nat) (hB : U.By L) (hl : o + m ≤ L.length) (hm : m ≤ 16777216)
    (hT : m = 25 → ∀ src dst sip dip proto sport dport : Int, U.RdK L o src dst sip dip proto sport dport → U.KG src dst sip dip proto sport dport → K (kvA src dst sip dip proto sport dport (xintC .i64 0)) (ar [bs L cap false]))
    (hF : (m = 25 → ∀ src dst sip dip proto sport dport : Int, U.RdK L o src dst sip dip proto sport dport → ¬ U.KG src dst sip dip proto sport dport) → K (kvA 0 0 0 0 0 0 0 (xintC .i64 5)) (ar [bs L cap false])) :
    runI inv0 tYB 19 [cell (aslC ⟨0, o, m, c⟩)] (ar [bs L cap false]) K := by
  rw [kreadF_vc]
  intro z0 h0
  refine ⟨fun hne => hF (fun h => by omega), fun he => ⟨⟨hl, hm⟩, fun L1 c2 p3 h1 h2 h3 => ?_⟩⟩
  have hm25 : m = 25 := by omega
  obtain ⟨hB1, hl1, _⟩ := kread_fin hB hl hm25 h1
  refine ⟨⟨hB1, by omega, by omega, ⟨by omega, by omega⟩, by omega, by omega⟩, fun z4 a5 e6 i1 i2 i3 => ?_⟩
  have q1 := inA_b i2 (by omega) ⟨by omega, by omega⟩
  refine ⟨⟨hB1, by omega, by omega, q1, by omega, by omega⟩, fun z7 a8 e9 i4 i5 i6 => ?_⟩
  have q2 := inA_b i5 (by omega) q1
  refine ⟨⟨hB1, by omega, by omega, q2, by omega, by omega⟩, fun z10 a11 e12 i7 i8 i9 z13 j1 => ?_⟩
  have q3 := inA_b i8 (by omega) q2
  refine ⟨⟨hB1, by omega, by omega, q3, by omega, by omega⟩, fun z14 a15 e16 k1 k2 k3 z17 j2 => ?_⟩
  have q4 := inA_b k2 (by omega) q3
  refine ⟨⟨hB1, by omega, by omega, q4, by omega, by omega⟩, fun z18 a19 e20 k4 k5 k6 z21 j3 => ?_⟩
  have q5 := inA_b k5 (by omega) q4
  refine ⟨⟨hB1, by omega, by omega, q5, by omega, by omega⟩, fun z22 a23 e24 k7 k8 k9 z25 j4 => ?_⟩
  have q6 := inA_b k8 (by omega) q5
  refine ⟨⟨hB1, by omega, by omega, q6, by omega, by omega⟩, fun z26 a27 e28 l1 l2 l3 z29 j5 => ?_⟩
  have hR := kread_all hB hl hm25 h1 i1 i2 i3 i4 i5 i6 i7 i8 i9 j1 k1 k2 k3 j2 k4 k5 k6 j3 k7 k8 k9 j4 l1 l2 l3 j5
  refine ⟨fun hg => hT hm25 _ _ _ _ _ _ _ hR hg, fun hn => hF (fun _ s d si di p sp dp hR' hg => ?_)⟩
  obtain ⟨r1, r2, r3, r4, r5, r6, r7⟩ := hR'
  obtain ⟨t1, t2, t3, t4, t5, t6, t7⟩ := hR
  rw [← t1] at r1; rw [← t2] at r2; rw [← t3] at r3; rw [← t4] at r4; rw [← t5] at r5; rw [← t6] at r6; rw [← t7] at r7
  subst r1; subst r2; subst r3; subst r4; subst r5; subst r6; subst r7
  exact hn hg

theorem rd_kg {L : List Int} {o : Nat} {a b c d e f g a' b' c' d' e' f' g' : Int} (h : U.RdK L o a b c d e f g) (k : U.RdK L o a' b' c' d' e' f' g') (hg : U.KG a b c d e f g) : U.KG a' b' c' d' e' f' g' := by
  obtain ⟨r1, r2, r3, r4, r5, r6, r7⟩ := h
  obtain ⟨t1, t2, t3, t4, t5, t6, t7⟩ := k
  rw [← t1] at r1; rw [← t2] at r2; rw [← t3] at r3; rw [← t4] at r4; rw [← t5] at r5; rw [← t6] at r6; rw [← t7] at r7
  subst r1; subst r2; subst r3; subst r4; subst r5; subst r6; subst r7
  exact hg
theorem rread_all {L : List Int} {o m : Nat} (hB : U.By L) (hl : o + m ≤ L.length) (hm : m = 25) {z20 z21 z22 z23 z24 z25 z12 z13 z26 z27 z28 z29 : Int}
    (j3 : z23 = IntKind.wrap .u32 z22) (j4 : z25 = IntKind.wrap .u32 z24) (j5 : z13 = IntKind.wrap .i64 z12) (j6 : z27 = IntKind.wrap .i64 z26) (j7 : z29 = IntKind.wrap .i64 z28)
    (i1 : z20 = U.vb (List.take 6 (List.drop o L))) (i2 : z21 = U.vb (List.take 6 (List.drop (o + 6) L))) (i3 : z22 = U.vb (List.take 4 (List.drop (o + 12) L))) (i4 : z24 = U.vb (List.take 4 (List.drop (o + 16) L))) (i5 : z12 = List.getD L (o + 20) 0) (i6 : z26 = U.vb (List.take 2 (List.drop (o + 21) L))) (i7 : z28 = U.vb (List.take 2 (List.drop (o + 23) L))) :
    U.RdK L o z20 z21 z23 z25 z13 z27 z29 := by
  have b3 := vb_lt (by_part hB (o + 12) 4) 4 (by omega) (by rw [List.length_take, List.length_drop]; omega)
  have b4 := vb_lt (by_part hB (o + 16) 4) 4 (by omega) (by rw [List.length_take, List.length_drop]; omega)
  have b6 := vb_lt (by_part hB (o + 21) 2) 2 (by omega) (by rw [List.length_take, List.length_drop]; omega)
  have b7 := vb_lt (by_part hB (o + 23) 2) 2 (by omega) (by rw [List.length_take, List.length_drop]; omega)
  rw [← i3] at b3; rw [← i4] at b4; rw [← i6] at b6; rw [← i7] at b7
  have hlt : o + 20 < L.length := by omega
  have hg : L[o + 20]? = some z12 := by rw [i5, List.getD_eq_getElem?_getD, List.getElem?_eq_getElem hlt]; rfl
  have hb := by_mem' hB z12 (List.mem_of_getElem? hg)
  have e5 : U.vb (List.take 1 (List.drop (o + 20) L)) = z12 := by
    have : List.take 1 (List.drop (o + 20) L) = [z12] := by
      rw [List.drop_eq_getElem_cons hlt, List.take_succ_cons, List.take_zero]
      rw [List.getElem?_eq_getElem hlt] at hg
      simp only [Option.some.injEq] at hg
      rw [hg]
    rw [this]; unfold U.vb; simp only [List.foldl_cons, List.foldl_nil]; omega
  have e3 : z23 = z22 := by rw [j3, wrapU32]; omega
  have e4 : z25 = z24 := by rw [j4, wrapU32]; omega
  have e13 : z13 = z12 := w64 j5 (by omega)
  have e6 : z27 = z26 := w64 j6 (by omega)
  have e7 : z29 = z28 := w64 j7 (by omega)
  exact ⟨i1, i2, e3.trans i3, e4.trans i4, by rw [e13, e5], e6.trans i6, e7.trans i7⟩
theorem off_at {o o2 c k : Nat} (h : (o2 : Int) = if (c : Int) = (k : Int) then (o : Int) else (o : Int) + k) (hc : k < c) : o2 = o + k := by
  rw [if_neg (by omega)] at h; omega
theorem rreadT_run (K : AV → St → Prop) (L : List Int) (o m c cap : Nat) (hB : U.By L) (hl : o + m ≤ L.length) (hm : m ≤ 16777216) (hmc : m ≤ c)
    (hT : m = 25 → ∀ src dst sip dip proto sport dport : Int, U.RdK L o src dst sip dip proto sport dport → U.KG src dst sip dip proto sport dport → K (kvA src dst sip dip proto sport dport (.inl (.bool true))) (ar [bs L cap true]))
    (hF : (m = 25 → ∀ src dst sip dip proto sport dport : Int, U.RdK L o src dst sip dip proto sport dport → ¬ U.KG src dst sip dip proto sport dport) → K (kvA 0 0 0 0 0 0 0 (.inl (.bool false))) (ar [bs L cap true])) :
    runI inv0 tYB 21 [cell (aslC ⟨0, o, m, c⟩)] (ar [bs L cap true]) K := by
  rw [rreadT_vc]
  intro z0 h0
  refine ⟨fun hne => hF (fun h => by omega), fun he => ?_⟩
  have hm25 : m = 25 := by omega
  refine ⟨⟨by omega, by omega⟩, fun n1 g1 => ⟨⟨by omega, by omega, by omega⟩, fun o2 n3 c4 g2 g3 g4 => ⟨⟨by omega, by omega, by omega⟩, fun o5 n6 c7 g5 g6 g7 => ⟨⟨by omega, by omega, by omega⟩, fun o8 n9 c10 g8 g9 g10 => ⟨⟨by omega, by omega⟩, fun j11 g11 => ⟨by omega, fun z12 g12 z13 g13 => ⟨⟨by omega, by omega, by omega⟩, fun o14 n15 c16 g14 g15 g16 => ⟨⟨by omega, by omega, by omega⟩, fun o17 n18 c19 g17 g18 g19 => ?_⟩⟩⟩⟩⟩⟩⟩⟩
  obtain rfl := off_at (c := c) (k := 6) g2 (by omega)
  obtain rfl := off_at (c := c) (k := 12) g5 (by omega)
  obtain rfl := off_at (c := c) (k := 16) g8 (by omega)
  obtain rfl := off_at (c := c) (k := 21) g14 (by omega)
  obtain rfl := off_at (c := c) (k := 23) g17 (by omega)
  obtain rfl : n1 = 6 := by omega
  obtain rfl : n3 = 6 := by omega
  obtain rfl : n6 = 4 := by omega
  obtain rfl : n9 = 4 := by omega
  obtain rfl : n15 = 2 := by omega
  obtain rfl : n18 = 2 := by omega
  obtain rfl : j11 = o + 20 := by omega
  have hlt : o + 20 < L.length := by omega
  have hget : L[o + 20]? = some z12 := by rw [g12, List.getD_eq_getElem?_getD, List.getElem?_eq_getElem hlt]; rfl
  repeat' (first | exact hget | exact hB | with_reducible apply And.intro | intro _)
  all_goals (first
    | omega
    | (rename_i hg; exact hT hm25 _ _ _ _ _ _ _ (rread_all hB hl hm25 (by assumption) (by assumption) g13 (by assumption) (by assumption) (by assumption) (by assumption) (by assumption) (by assumption) g12 (by assumption) (by assumption)) hg)
    | (rename_i hn; exact hF (fun _ s d si di p sp dp hR' hg => hn (rd_kg hR' (rread_all hB hl hm25 (by assumption) (by assumption) g13 (by assumption) (by assumption) (by assumption) (by assumption) (by assumption) (by assumption) g12 (by assumption) (by assumption)) hg))))
end Go.Proofs.YtlfigaddddncmaaDoor
end

section
set_option linter.unusedVariables false
set_option linter.unusedSimpArgs false
namespace Go.Proofs.YtlfigaddddncmaaDoor
open Go Reck
def tKBytes : Tbl := fun f args σ => if f == 16 then match args, σ with
    | [.inl (.inr l)], ⟨[], [], 0, [], 0⟩ => match kyX l with
      | some [src, dst, sip, dip, proto, sport, dport] => some fun K => U.KK src dst sip dip proto sport dport ∧
          (U.KG src dst sip dip proto sport dport → ∀ (L : List Int) (m c cap : Nat), L = U.kb src dst sip dip proto sport dport → m = 25 → m ≤ c → c ≤ cap → K (cell (aslC ⟨0, 0, m, c⟩)) (ar [bs L cap false])) ∧
          (¬ U.KG src dst sip dip proto sport dport → K (cell nilC) emptySt)
      | _ => none
    | _, _ => none
  else none
theorem tKBytes_ok : TblOk Tryd.prog tKBytes := by
  intro f tm σ C h K hK
  unfold tKBytes at h
  split at h
  · rename_i hf
    obtain rfl : f = 16 := by simpa using hf
    split at h
    · split at h
      · rename_i hl
        obtain rfl := kyX_eq hl
        simp only [Option.some.injEq] at h; subst h
        exact knownC noOv names (conOk_of tYB_ok) (kbytes_run K _ _ _ _ _ _ _ hK.1 hK.2.1 hK.2.2)
      · cases h
    · cases h
  · cases h
def tRBytes : Tbl := fun f args σ => if f == 20 then match args, σ with
    | [.inl (.inr l)], ⟨[], [], 0, [], 0⟩ => match kyX l with
      | some [src, dst, sip, dip, proto, sport, dport] => some fun K => (U.KK src dst sip dip proto sport dport ∧ U.KG src dst sip dip proto sport dport) ∧
          ∀ (L : List Int) (m c cap : Nat), L = U.kb src dst sip dip proto sport dport → m = 25 → m ≤ c → c ≤ cap → K (cell (aslC ⟨0, 0, m, c⟩)) (ar [bs L cap false])
      | _ => none
    | _, _ => none
  else none
theorem tRBytes_ok : TblOk Tryd.prog tRBytes := by
  intro f tm σ C h K hK
  unfold tRBytes at h
  split at h
  · rename_i hf
    obtain rfl : f = 20 := by simpa using hf
    split at h
    · split at h
      · rename_i hl
        obtain rfl := kyX_eq hl
        simp only [Option.some.injEq] at h; subst h
        exact knownC noOv names (conOk_of tYB_ok) (rbytes_run K _ _ _ _ _ _ _ hK.1.1 hK.1.2 hK.2)
      · cases h
    · cases h
  · cases h
/-- There is a key that may be in these bytes. -/
structure U.RdIs (L : List Int) (o m : Nat) : Prop where
  m : m = 25
  out : ∃ src dst sip dip proto sport dport : Int, U.RdK L o src dst sip dip proto sport dport ∧ U.KG src dst sip dip proto sport dport
theorem rd_no {L : List Int} {o m : Nat} (h : ¬ U.RdIs L o m) : m = 25 → ∀ src dst sip dip proto sport dport : Int, U.RdK L o src dst sip dip proto sport dport → ¬ U.KG src dst sip dip proto sport dport :=
  fun hm s d si di p sp dp hr hg => h ⟨hm, s, d, si, di, p, sp, dp, hr, hg⟩
theorem rd_kin {L : List Int} {o m : Nat} {src dst sip dip proto sport dport : Int} (hB : U.By L) (hl : o + m ≤ L.length) (hm : m = 25) (h : U.RdK L o src dst sip dip proto sport dport) : U.KK src dst sip dip proto sport dport := by
  obtain ⟨r1, r2, r3, r4, r5, r6, r7⟩ := h
  have b1 := vb_lt (by_part hB o 6) 6 (by omega) (by rw [List.length_take, List.length_drop]; omega)
  have b2 := vb_lt (by_part hB (o + 6) 6) 6 (by omega) (by rw [List.length_take, List.length_drop]; omega)
  have b3 := vb_lt (by_part hB (o + 12) 4) 4 (by omega) (by rw [List.length_take, List.length_drop]; omega)
  have b4 := vb_lt (by_part hB (o + 16) 4) 4 (by omega) (by rw [List.length_take, List.length_drop]; omega)
  have b5 := vb_lt (by_part hB (o + 20) 1) 1 (by omega) (by rw [List.length_take, List.length_drop]; omega)
  have b6 := vb_lt (by_part hB (o + 21) 2) 2 (by omega) (by rw [List.length_take, List.length_drop]; omega)
  have b7 := vb_lt (by_part hB (o + 23) 2) 2 (by omega) (by rw [List.length_take, List.length_drop]; omega)
  rw [← r1] at b1; rw [← r2] at b2; rw [← r3] at b3; rw [← r4] at b4; rw [← r5] at b5; rw [← r6] at b6; rw [← r7] at b7
  exact ⟨by omega, by omega, by omega, by omega, by omega, by omega, by omega⟩
def tKRead : Tbl := fun f args σ => if f == 19 then match args, σ with
    | [s], ⟨[], [], 0, [some ⟨5, .n .u8, L, cap, ro⟩], 0⟩ => match aslX s with
      | some ⟨0, o, m, c⟩ => some fun K => (U.By L ∧ o + m ≤ L.length ∧ m ≤ 16777216) ∧
          (U.RdIs L o m → ∀ src dst sip dip proto sport dport : Int, U.RdK L o src dst sip dip proto sport dport → U.KG src dst sip dip proto sport dport → U.KK src dst sip dip proto sport dport → K (kvA src dst sip dip proto sport dport (xintC .i64 0)) (ar [bs L cap ro])) ∧
          (¬ U.RdIs L o m → K (kvA 0 0 0 0 0 0 0 (xintC .i64 5)) (ar [bs L cap ro]))
      | _ => none
    | _, _ => none
  else none
theorem tKRead_ok : TblOk Tryd.prog tKRead := by
  intro f tm σ C h K hK
  unfold tKRead at h
  split at h
  · rename_i hf
    obtain rfl : f = 19 := by simpa using hf
    split at h
    · rename_i s L cap ro
      split at h
      · rename_i o m c hs
        obtain rfl := aslX_eq hs
        simp only [Option.some.injEq] at h; subst h
        obtain ⟨⟨h1, h2, h3⟩, h4, h5⟩ := hK
        by_cases hi : U.RdIs L o m
        · have hF : ∀ {X : Prop}, (m = 25 → ∀ src dst sip dip proto sport dport : Int, U.RdK L o src dst sip dip proto sport dport → ¬ U.KG src dst sip dip proto sport dport) → X := by
            intro X h
            obtain ⟨hm, s, d, si, di, p, sp, dp, hr, hg⟩ := hi
            exact absurd hg (h hm _ _ _ _ _ _ _ hr)
          cases ro with
          | true => exact knownC noOv names (conOk_of tYB_ok) (kreadT_run K L o m c cap h1 h2 h3 (fun hm _ _ _ _ _ _ _ hr hg => h4 hi _ _ _ _ _ _ _ hr hg (rd_kin h1 h2 hm hr)) hF)
          | false => exact knownC noOv names (conOk_of tYB_ok) (kreadF_run K L o m c cap h1 h2 h3 (fun hm _ _ _ _ _ _ _ hr hg => h4 hi _ _ _ _ _ _ _ hr hg (rd_kin h1 h2 hm hr)) hF)
        · cases ro with
          | true => exact knownC noOv names (conOk_of tYB_ok) (kreadT_run K L o m c cap h1 h2 h3 (fun hm _ _ _ _ _ _ _ hr hg => absurd hg (rd_no hi hm _ _ _ _ _ _ _ hr)) (fun _ => h5 hi))
          | false => exact knownC noOv names (conOk_of tYB_ok) (kreadF_run K L o m c cap h1 h2 h3 (fun hm _ _ _ _ _ _ _ hr hg => absurd hg (rd_no hi hm _ _ _ _ _ _ _ hr)) (fun _ => h5 hi))
      · cases h
    · cases h
  · cases h
def tRRead : Tbl := fun f args σ => if f == 21 then match args, σ with
    | [s], ⟨[], [], 0, [some ⟨5, .n .u8, L, cap, true⟩], 0⟩ => match aslX s with
      | some ⟨0, o, m, c⟩ => some fun K => (U.By L ∧ o + m ≤ L.length ∧ m ≤ 16777216 ∧ m ≤ c) ∧
          (U.RdIs L o m → ∀ src dst sip dip proto sport dport : Int, U.RdK L o src dst sip dip proto sport dport → U.KG src dst sip dip proto sport dport → U.KK src dst sip dip proto sport dport → K (kvA src dst sip dip proto sport dport (.inl (.bool true))) (ar [bs L cap true])) ∧
          (¬ U.RdIs L o m → K (kvA 0 0 0 0 0 0 0 (.inl (.bool false))) (ar [bs L cap true]))
      | _ => none
    | _, _ => none
  else none
theorem tRRead_ok : TblOk Tryd.prog tRRead := by
  intro f tm σ C h K hK
  unfold tRRead at h
  split at h
  · rename_i hf
    obtain rfl : f = 21 := by simpa using hf
    split at h
    · rename_i s L cap
      split at h
      · rename_i o m c hs
        obtain rfl := aslX_eq hs
        simp only [Option.some.injEq] at h; subst h
        obtain ⟨⟨h1, h2, h3, h6⟩, h4, h5⟩ := hK
        by_cases hi : U.RdIs L o m
        · have hF : ∀ {X : Prop}, (m = 25 → ∀ src dst sip dip proto sport dport : Int, U.RdK L o src dst sip dip proto sport dport → ¬ U.KG src dst sip dip proto sport dport) → X := by
            intro X h
            obtain ⟨hm, s, d, si, di, p, sp, dp, hr, hg⟩ := hi
            exact absurd hg (h hm _ _ _ _ _ _ _ hr)
          exact knownC noOv names (conOk_of tYB_ok) (rreadT_run K L o m c cap h1 h2 h3 h6 (fun hm _ _ _ _ _ _ _ hr hg => h4 hi _ _ _ _ _ _ _ hr hg (rd_kin h1 h2 hm hr)) hF)
        · exact knownC noOv names (conOk_of tYB_ok) (rreadT_run K L o m c cap h1 h2 h3 h6 (fun hm _ _ _ _ _ _ _ hr hg => absurd hg (rd_no hi hm _ _ _ _ _ _ _ hr)) (fun _ => h5 hi))
      · cases h
    · cases h
  · cases h
def tYG : Tbl := tblOr tKG (tblOr tKBytes (tblOr tRBytes (tblOr tKRead tRRead)))
theorem tYG_ok : TblOk Tryd.prog tYG := tblOr_ok tKG_ok (tblOr_ok tKBytes_ok (tblOr_ok tRBytes_ok (tblOr_ok tKRead_ok tRRead_ok)))
end Go.Proofs.YtlfigaddddncmaaDoor
end
