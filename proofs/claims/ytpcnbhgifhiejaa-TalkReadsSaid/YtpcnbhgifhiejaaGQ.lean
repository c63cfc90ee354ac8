/- Parts of a proof, one behind the other: RC RD TC0 TC1 TC2 TC3 TC4. No condition. -/
import Derived.Test.YtpcnbhgifhiejaaGU
import Derived.Test.YtpcnbhgifhiejaaGR
section
namespace Go.Proofs.Ytpcnbhgifhiejaa
open Go Reck
set_option linter.unusedVariables false
set_option maxRecDepth 100000
theorem cutT_vc (K : AV → St → Prop) (L : List Int) (o m c cap : Nat) (n : Int) : (runI inv0 tbl0 33 [cell (aslC ⟨0, o, m, c⟩), xi .i64 n] (ar [bs L cap true]) K) = (∀ (z0 : Int), z0 = (↑m : Int) → (z0 < n → ∀ (z1 : Int), z1 = (↑m : Int) → ((0 : Int) ≤ z1 ∧ z1 ≤ (↑c : Int)) ∧ ∀ (n2 : Nat), (↑n2 : Int) = z1 → ((0 : Int) ≤ z1 ∧ z1 ≤ (↑m : Int)) ∧ ∀ (o3 n4 c5 : Nat), ((↑o3 : Int) = if (↑(ASl.c { a := (0 : Nat), o := o, n := m, c := c }) : Int) = z1 then (↑o : Int) else (↑o : Int) + z1) → (↑n4 : Int) = (↑m : Int) - z1 → (↑c5 : Int) = (↑c : Int) - z1 → K (Sum.inr [Sum.inl (Sum.inr (Sum.inr (Sum.inr (Sum.inr (Sum.inr (Sum.inr (Sum.inr (Sum.inl { a := OfNat.ofNat (0 : Nat), o := o, n := n2, c := c })))))))), Sum.inl (Sum.inr (Sum.inr (Sum.inr (Sum.inr (Sum.inr (Sum.inr (Sum.inr (Sum.inl { a := OfNat.ofNat (0 : Nat), o := o3, n := n4, c := c5 }))))))))]) { heap := [], ints := [], opqs := (0 : Nat), arrs := [some { elem := OfNat.ofNat (5 : Nat), k := AK.n IntKind.u8, l := L, cap := cap, ro := true }], junks := (0 : Nat) }) ∧ (¬z0 < n → ((0 : Int) ≤ n ∧ n ≤ (↑c : Int)) ∧ ∀ (n6 : Nat), (↑n6 : Int) = n → ((0 : Int) ≤ n ∧ n ≤ (↑m : Int)) ∧ ∀ (o7 n8 c9 : Nat), ((↑o7 : Int) = if (↑(ASl.c { a := (0 : Nat), o := o, n := m, c := c }) : Int) = n then (↑o : Int) else (↑o : Int) + n) → (↑n8 : Int) = (↑m : Int) - n → (↑c9 : Int) = (↑c : Int) - n → K (Sum.inr [Sum.inl (Sum.inr (Sum.inr (Sum.inr (Sum.inr (Sum.inr (Sum.inr (Sum.inr (Sum.inl { a := OfNat.ofNat (0 : Nat), o := o, n := n6, c := c })))))))), Sum.inl (Sum.inr (Sum.inr (Sum.inr (Sum.inr (Sum.inr (Sum.inr (Sum.inr (Sum.inl { a := OfNat.ofNat (0 : Nat), o := o7, n := n8, c := c9 }))))))))]) { heap := [], ints := [], opqs := (0 : Nat), arrs := [some { elem := OfNat.ofNat (5 : Nat), k := AK.n IntKind.u8, l := L, cap := cap, ro := true }], junks := (0 : Nat) })) := by kernel_rfl
theorem cutF_vc (K : AV → St → Prop) (L : List Int) (o m c cap : Nat) (n : Int) : (runI inv0 tbl0 33 [cell (aslC ⟨0, o, m, c⟩), xi .i64 n] (ar [bs L cap false]) K) = (∀ (z0 : Int), z0 = (↑m : Int) → (z0 < n → ∀ (z1 : Int), z1 = (↑m : Int) → ((0 : Int) ≤ z1 ∧ z1 ≤ (↑c : Int)) ∧ ∀ (n2 : Nat), (↑n2 : Int) = z1 → ((0 : Int) ≤ z1 ∧ z1 ≤ (↑m : Int)) ∧ ∀ (o3 n4 c5 : Nat), ((↑o3 : Int) = if (↑(ASl.c { a := (0 : Nat), o := o, n := m, c := c }) : Int) = z1 then (↑o : Int) else (↑o : Int) + z1) → (↑n4 : Int) = (↑m : Int) - z1 → (↑c5 : Int) = (↑c : Int) - z1 → K (Sum.inr [Sum.inl (Sum.inr (Sum.inr (Sum.inr (Sum.inr (Sum.inr (Sum.inr (Sum.inr (Sum.inl { a := OfNat.ofNat (0 : Nat), o := o, n := n2, c := c })))))))), Sum.inl (Sum.inr (Sum.inr (Sum.inr (Sum.inr (Sum.inr (Sum.inr (Sum.inr (Sum.inl { a := OfNat.ofNat (0 : Nat), o := o3, n := n4, c := c5 }))))))))]) { heap := [], ints := [], opqs := (0 : Nat), arrs := [some { elem := OfNat.ofNat (5 : Nat), k := AK.n IntKind.u8, l := L, cap := cap, ro := false }], junks := (0 : Nat) }) ∧ (¬z0 < n → ((0 : Int) ≤ n ∧ n ≤ (↑c : Int)) ∧ ∀ (n6 : Nat), (↑n6 : Int) = n → ((0 : Int) ≤ n ∧ n ≤ (↑m : Int)) ∧ ∀ (o7 n8 c9 : Nat), ((↑o7 : Int) = if (↑(ASl.c { a := (0 : Nat), o := o, n := m, c := c }) : Int) = n then (↑o : Int) else (↑o : Int) + n) → (↑n8 : Int) = (↑m : Int) - n → (↑c9 : Int) = (↑c : Int) - n → K (Sum.inr [Sum.inl (Sum.inr (Sum.inr (Sum.inr (Sum.inr (Sum.inr (Sum.inr (Sum.inr (Sum.inl { a := OfNat.ofNat (0 : Nat), o := o, n := n6, c := c })))))))), Sum.inl (Sum.inr (Sum.inr (Sum.inr (Sum.inr (Sum.inr (Sum.inr (Sum.inr (Sum.inl { a := OfNat.ofNat (0 : Nat), o := o7, n := n8, c := c9 }))))))))]) { heap := [], ints := [], opqs := (0 : Nat), arrs := [some { elem := OfNat.ofNat (5 : Nat), k := AK.n IntKind.u8, l := L, cap := cap, ro := false }], junks := (0 : Nat) })) := by kernel_rfl
end Go.Proofs.Ytpcnbhgifhiejaa
end

section
set_option linter.unusedVariables false
set_option linter.unusedSimpArgs false
namespace Go.Proofs.Ytpcnbhgifhiejaa
open Go Reck
/-- Bytes are cut in two. -/
structure U.CutP (L : List Int) (o m : Nat) (n : Int) (n1 o2 n2 : Nat) : Prop where
  fst : (L.drop o).take n1 = ((L.drop o).take m).take n.toNat
  snd : (L.drop o2).take n2 = ((L.drop o).take m).drop n.toNat
  b1 : o + n1 ≤ L.length ∧ n1 ≤ m
  b2 : o2 + n2 ≤ L.length ∧ n2 ≤ m
theorem cutP {L : List Int} {o m c n1 o2 n2 : Nat} {n : Int} (hn : 0 ≤ n) (hL : o + m ≤ L.length) (hm : m ≤ c) (h1 : n1 = min n.toNat m) (h2 : (n2 = 0 ∧ o2 = o) ∨ o2 = o + n1) (h3 : n2 + n1 = m) : U.CutP L o m n n1 o2 n2 := by
  refine ⟨?_, ?_, by omega, ?_⟩
  · rw [List.take_take, h1]
  · rcases h2 with ⟨h2, _⟩ | h2
    · subst h2
      rw [List.take_zero, List.drop_eq_nil_of_le]
      rw [List.length_take, List.length_drop]; omega
    · rw [h2]
      by_cases hle : n.toNat ≤ m
      · have e : n1 = n.toNat := by omega
        rw [List.drop_take, List.drop_drop, e, show m - n.toNat = n2 by omega]
      · have e : n2 = 0 := by omega
        rw [e, List.take_zero, List.drop_eq_nil_of_le]
        rw [List.length_take, List.length_drop]; omega
  · rcases h2 with ⟨h2, h3⟩ | h2
    · omega
    · omega
theorem cutT_run (K : AV → St → Prop) (L : List Int) (o m c cap : Nat) (n : Int) (hn : 0 ≤ n) (hm : m ≤ c) (hL : o + m ≤ L.length) (hb : m ≤ 16777216)
    (h : ∀ (n1 o2 n2 c2 : Nat), U.CutP L o m n n1 o2 n2 → n2 ≤ c2 → n1 ≤ c → K (.inr [.inl (aslC ⟨0, o, n1, c⟩), .inl (aslC ⟨0, o2, n2, c2⟩)]) (ar [bs L cap true])) :
    runI inv0 tbl0 33 [cell (aslC ⟨0, o, m, c⟩), xi .i64 n] (ar [bs L cap true]) K := by
  rw [cutT_vc]
  intro z0 h0
  refine ⟨fun hlt z1 h1 => ⟨⟨by omega, by omega⟩, fun n1 g1 => ⟨⟨by omega, by omega⟩, fun o2 n2 c2 g2 g3 g4 => h n1 o2 n2 c2 (cutP hn hL hm ?_ ?_ ?_) (by omega) (by omega)⟩⟩, fun hge => ⟨⟨by omega, by omega⟩, fun n1 g1 => ⟨⟨by omega, by omega⟩, fun o2 n2 c2 g2 g3 g4 => h n1 o2 n2 c2 (cutP hn hL hm ?_ ?_ ?_) (by omega) (by omega)⟩⟩⟩
  · omega
  · by_cases hc : (c : Int) = z1
    · rw [if_pos hc] at g2; left; exact ⟨by omega, by omega⟩
    · rw [if_neg hc] at g2; right; omega
  · omega
  · omega
  · by_cases hc : (c : Int) = n
    · rw [if_pos hc] at g2; left; exact ⟨by omega, by omega⟩
    · rw [if_neg hc] at g2; right; omega
  · omega
theorem cutF_run (K : AV → St → Prop) (L : List Int) (o m c cap : Nat) (n : Int) (hn : 0 ≤ n) (hm : m ≤ c) (hL : o + m ≤ L.length) (hb : m ≤ 16777216)
    (h : ∀ (n1 o2 n2 c2 : Nat), U.CutP L o m n n1 o2 n2 → n2 ≤ c2 → n1 ≤ c → K (.inr [.inl (aslC ⟨0, o, n1, c⟩), .inl (aslC ⟨0, o2, n2, c2⟩)]) (ar [bs L cap false])) :
    runI inv0 tbl0 33 [cell (aslC ⟨0, o, m, c⟩), xi .i64 n] (ar [bs L cap false]) K := by
  rw [cutF_vc]
  intro z0 h0
  refine ⟨fun hlt z1 h1 => ⟨⟨by omega, by omega⟩, fun n1 g1 => ⟨⟨by omega, by omega⟩, fun o2 n2 c2 g2 g3 g4 => h n1 o2 n2 c2 (cutP hn hL hm ?_ ?_ ?_) (by omega) (by omega)⟩⟩, fun hge => ⟨⟨by omega, by omega⟩, fun n1 g1 => ⟨⟨by omega, by omega⟩, fun o2 n2 c2 g2 g3 g4 => h n1 o2 n2 c2 (cutP hn hL hm ?_ ?_ ?_) (by omega) (by omega)⟩⟩⟩
  · omega
  · by_cases hc : (c : Int) = z1
    · rw [if_pos hc] at g2; left; exact ⟨by omega, by omega⟩
    · rw [if_neg hc] at g2; right; omega
  · omega
  · omega
  · by_cases hc : (c : Int) = n
    · rw [if_pos hc] at g2; left; exact ⟨by omega, by omega⟩
    · rw [if_neg hc] at g2; right; omega
  · omega

def tCut : Tbl := fun f args σ => if f == 33 then match args, σ with
    | [s, n], ⟨[], [], 0, [some ⟨5, .n .u8, L, cap, ro⟩], 0⟩ => match aslX s, xiX n with
      | some ⟨0, o, m, c⟩, some (.i64, n) => some fun K => (0 ≤ n ∧ m ≤ c ∧ o + m ≤ L.length ∧ m ≤ 16777216) ∧
          ∀ (n1 o2 n2 c2 : Nat), U.CutP L o m n n1 o2 n2 → n2 ≤ c2 → n1 ≤ c → K (.inr [.inl (aslC ⟨0, o, n1, c⟩), .inl (aslC ⟨0, o2, n2, c2⟩)]) (ar [bs L cap ro])
      | _, _ => none
    | _, _ => none
  else none
theorem tCut_ok : TblOk Try.prog tCut := by
  intro f tm σ C h K hK
  unfold tCut at h
  split at h
  · rename_i hf
    obtain rfl : f = 33 := by simpa using hf
    split at h
    · rename_i s n L cap ro
      split at h
      · rename_i o m c n' hs hn
        obtain rfl := aslX_eq hs
        obtain rfl := xiX_eq hn
        simp only [Option.some.injEq] at h; subst h
        obtain ⟨⟨h1, h2, h3, h4⟩, hk⟩ := hK
        cases ro with
        | true => exact knownC noOv names (conOk_of tbl0_ok) (cutT_run K L o m c cap _ h1 h2 h3 h4 hk)
        | false => exact knownC noOv names (conOk_of tbl0_ok) (cutF_run K L o m c cap _ h1 h2 h3 h4 hk)
      · cases h
    · cases h
  · cases h
end Go.Proofs.Ytpcnbhgifhiejaa
end

section
namespace Go.Proofs.Ytpcnbhgifhiejaa
open Go Reck
set_option linter.unusedVariables false
set_option maxRecDepth 100000
theorem fld0_vc (K : AV → St → Prop) (k : Int) : (runI inv0 tbl0 31 [xi .i64 k] emptySt K) = ((k < (1 : Int) → K (Sum.inl (Sum.inl (Sum.inl (Value.string { data := { toList := [] } })))) { heap := [], ints := [], opqs := (0 : Nat), arrs := [], junks := (0 : Nat) }) ∧ (¬k < (1 : Int) → ((12 : Int) < k → K (Sum.inl (Sum.inl (Sum.inl (Value.string { data := { toList := [] } })))) { heap := [], ints := [], opqs := (0 : Nat), arrs := [], junks := (0 : Nat) }) ∧ (¬(12 : Int) < k → Err [(113 : Nat), (2 : Nat), (31 : Nat)]))) := by kernel_rfl
theorem fld1_vc (K : AV → St → Prop) : (runI inv0 tbl0 31 [lit (.int .i64 1)] emptySt K) = (K (Sum.inl (Sum.inl (Sum.inl (Value.string { data := { toList := [OfNat.ofNat (120 : Nat), OfNat.ofNat (109 : Nat)] } })))) { heap := [], ints := [], opqs := (0 : Nat), arrs := [], junks := (0 : Nat) }) := by kernel_rfl
theorem fld2_vc (K : AV → St → Prop) : (runI inv0 tbl0 31 [lit (.int .i64 2)] emptySt K) = (K (Sum.inl (Sum.inl (Sum.inl (Value.string { data := { toList := [OfNat.ofNat (120 : Nat), OfNat.ofNat (109 : Nat), OfNat.ofNat (105 : Nat), OfNat.ofNat (116 : Nat)] } })))) { heap := [], ints := [], opqs := (0 : Nat), arrs := [], junks := (0 : Nat) }) := by kernel_rfl
theorem fld3_vc (K : AV → St → Prop) : (runI inv0 tbl0 31 [lit (.int .i64 3)] emptySt K) = (K (Sum.inl (Sum.inl (Sum.inl (Value.string { data := { toList := [OfNat.ofNat (120 : Nat), OfNat.ofNat (109 : Nat), OfNat.ofNat (105 : Nat)] } })))) { heap := [], ints := [], opqs := (0 : Nat), arrs := [], junks := (0 : Nat) }) := by kernel_rfl
theorem fld4_vc (K : AV → St → Prop) : (runI inv0 tbl0 31 [lit (.int .i64 4)] emptySt K) = (K (Sum.inl (Sum.inl (Sum.inl (Value.string { data := { toList := [OfNat.ofNat (120 : Nat), OfNat.ofNat (109 : Nat), OfNat.ofNat (105 : Nat), OfNat.ofNat (116 : Nat)] } })))) { heap := [], ints := [], opqs := (0 : Nat), arrs := [], junks := (0 : Nat) }) := by kernel_rfl
theorem fld5_vc (K : AV → St → Prop) : (runI inv0 tbl0 31 [lit (.int .i64 5)] emptySt K) = (K (Sum.inl (Sum.inl (Sum.inl (Value.string { data := { toList := [OfNat.ofNat (120 : Nat), OfNat.ofNat (109 : Nat), OfNat.ofNat (119 : Nat)] } })))) { heap := [], ints := [], opqs := (0 : Nat), arrs := [], junks := (0 : Nat) }) := by kernel_rfl
theorem fld6_vc (K : AV → St → Prop) : (runI inv0 tbl0 31 [lit (.int .i64 6)] emptySt K) = (K (Sum.inl (Sum.inl (Sum.inl (Value.string { data := { toList := [OfNat.ofNat (109 : Nat), OfNat.ofNat (105 : Nat)] } })))) { heap := [], ints := [], opqs := (0 : Nat), arrs := [], junks := (0 : Nat) }) := by kernel_rfl
theorem fld7_vc (K : AV → St → Prop) : (runI inv0 tbl0 31 [lit (.int .i64 7)] emptySt K) = (K (Sum.inl (Sum.inl (Sum.inl (Value.string { data := { toList := [OfNat.ofNat (117 : Nat)] } })))) { heap := [], ints := [], opqs := (0 : Nat), arrs := [], junks := (0 : Nat) }) := by kernel_rfl
theorem fld8_vc (K : AV → St → Prop) : (runI inv0 tbl0 31 [lit (.int .i64 8)] emptySt K) = (K (Sum.inl (Sum.inl (Sum.inl (Value.string { data := { toList := [OfNat.ofNat (117 : Nat), OfNat.ofNat (110 : Nat)] } })))) { heap := [], ints := [], opqs := (0 : Nat), arrs := [], junks := (0 : Nat) }) := by kernel_rfl
theorem fld9_vc (K : AV → St → Prop) : (runI inv0 tbl0 31 [lit (.int .i64 9)] emptySt K) = (K (Sum.inl (Sum.inl (Sum.inl (Value.string { data := { toList := [OfNat.ofNat (117 : Nat), OfNat.ofNat (110 : Nat), OfNat.ofNat (103 : Nat)] } })))) { heap := [], ints := [], opqs := (0 : Nat), arrs := [], junks := (0 : Nat) }) := by kernel_rfl
theorem fld10_vc (K : AV → St → Prop) : (runI inv0 tbl0 31 [lit (.int .i64 10)] emptySt K) = (K (Sum.inl (Sum.inl (Sum.inl (Value.string { data := { toList := [OfNat.ofNat (116 : Nat), OfNat.ofNat (117 : Nat)] } })))) { heap := [], ints := [], opqs := (0 : Nat), arrs := [], junks := (0 : Nat) }) := by kernel_rfl
theorem fld11_vc (K : AV → St → Prop) : (runI inv0 tbl0 31 [lit (.int .i64 11)] emptySt K) = (K (Sum.inl (Sum.inl (Sum.inl (Value.string { data := { toList := [OfNat.ofNat (117 : Nat), OfNat.ofNat (119 : Nat)] } })))) { heap := [], ints := [], opqs := (0 : Nat), arrs := [], junks := (0 : Nat) }) := by kernel_rfl
theorem fld12_vc (K : AV → St → Prop) : (runI inv0 tbl0 31 [lit (.int .i64 12)] emptySt K) = (K (Sum.inl (Sum.inl (Sum.inl (Value.string { data := { toList := [OfNat.ofNat (117 : Nat), OfNat.ofNat (110 : Nat), OfNat.ofNat (103 : Nat)] } })))) { heap := [], ints := [], opqs := (0 : Nat), arrs := [], junks := (0 : Nat) }) := by kernel_rfl
end Go.Proofs.Ytpcnbhgifhiejaa
end

section
namespace Go.Proofs.Ytpcnbhgifhiejaa
open Go Reck
set_option linter.unusedVariables false
def strV (l : List Nat) : Value := .string ⟨(l.map UInt8.ofNat).toArray⟩
/-- The document's fields of a kind. -/
def fld (k : Int) : List Int :=
  if k = 1 then [120, 109] else if k = 2 then [120, 109, 105, 116] else if k = 3 then [120, 109, 105] else if k = 4 then [120, 109, 105, 116] else if k = 5 then [120, 109, 119] else if k = 6 then [109, 105] else if k = 7 then [117] else if k = 8 then [117, 110] else if k = 9 then [117, 110, 103] else if k = 10 then [116, 117] else if k = 11 then [117, 119] else if k = 12 then [117, 110, 103] else []
def fldPost (K : AV → St → Prop) (k : Int) : Prop := (¬ (1 ≤ k ∧ k ≤ 12) → K (lit (strV [])) emptySt) ∧ (k = 1 → K (lit (strV [120, 109])) emptySt) ∧ (k = 2 → K (lit (strV [120, 109, 105, 116])) emptySt) ∧ (k = 3 → K (lit (strV [120, 109, 105])) emptySt) ∧ (k = 4 → K (lit (strV [120, 109, 105, 116])) emptySt) ∧ (k = 5 → K (lit (strV [120, 109, 119])) emptySt) ∧ (k = 6 → K (lit (strV [109, 105])) emptySt) ∧ (k = 7 → K (lit (strV [117])) emptySt) ∧ (k = 8 → K (lit (strV [117, 110])) emptySt) ∧ (k = 9 → K (lit (strV [117, 110, 103])) emptySt) ∧ (k = 10 → K (lit (strV [116, 117])) emptySt) ∧ (k = 11 → K (lit (strV [117, 119])) emptySt) ∧ (k = 12 → K (lit (strV [117, 110, 103])) emptySt)
def tFld : Tbl := fun f args σ => if f == 31 then match args, σ with
    | [k], ⟨[], [], 0, [], 0⟩ => match xiX k with
      | some (.i64, k) => some fun K => fldPost K k
      | _ => none
    | _, _ => none
  else none
theorem fld0_run (K : AV → St → Prop) (k : Int) (hk : ¬ (1 ≤ k ∧ k ≤ 12)) (h : K (lit (strV [])) emptySt) : runI inv0 tbl0 31 [xi .i64 k] emptySt K := by
  rw [fld0_vc]
  exact ⟨fun _ => h, fun h1 => ⟨fun _ => h, fun h2 => absurd ⟨by omega, by omega⟩ hk⟩⟩
theorem fld1_run (K : AV → St → Prop) (h : K (lit (strV [120, 109])) emptySt) : runI inv0 tbl0 31 [lit (.int .i64 1)] emptySt K := by
  rw [fld1_vc]; exact h
theorem fld2_run (K : AV → St → Prop) (h : K (lit (strV [120, 109, 105, 116])) emptySt) : runI inv0 tbl0 31 [lit (.int .i64 2)] emptySt K := by
  rw [fld2_vc]; exact h
theorem fld3_run (K : AV → St → Prop) (h : K (lit (strV [120, 109, 105])) emptySt) : runI inv0 tbl0 31 [lit (.int .i64 3)] emptySt K := by
  rw [fld3_vc]; exact h
theorem fld4_run (K : AV → St → Prop) (h : K (lit (strV [120, 109, 105, 116])) emptySt) : runI inv0 tbl0 31 [lit (.int .i64 4)] emptySt K := by
  rw [fld4_vc]; exact h
theorem fld5_run (K : AV → St → Prop) (h : K (lit (strV [120, 109, 119])) emptySt) : runI inv0 tbl0 31 [lit (.int .i64 5)] emptySt K := by
  rw [fld5_vc]; exact h
theorem fld6_run (K : AV → St → Prop) (h : K (lit (strV [109, 105])) emptySt) : runI inv0 tbl0 31 [lit (.int .i64 6)] emptySt K := by
  rw [fld6_vc]; exact h
theorem fld7_run (K : AV → St → Prop) (h : K (lit (strV [117])) emptySt) : runI inv0 tbl0 31 [lit (.int .i64 7)] emptySt K := by
  rw [fld7_vc]; exact h
theorem fld8_run (K : AV → St → Prop) (h : K (lit (strV [117, 110])) emptySt) : runI inv0 tbl0 31 [lit (.int .i64 8)] emptySt K := by
  rw [fld8_vc]; exact h
theorem fld9_run (K : AV → St → Prop) (h : K (lit (strV [117, 110, 103])) emptySt) : runI inv0 tbl0 31 [lit (.int .i64 9)] emptySt K := by
  rw [fld9_vc]; exact h
theorem fld10_run (K : AV → St → Prop) (h : K (lit (strV [116, 117])) emptySt) : runI inv0 tbl0 31 [lit (.int .i64 10)] emptySt K := by
  rw [fld10_vc]; exact h
theorem fld11_run (K : AV → St → Prop) (h : K (lit (strV [117, 119])) emptySt) : runI inv0 tbl0 31 [lit (.int .i64 11)] emptySt K := by
  rw [fld11_vc]; exact h
theorem fld12_run (K : AV → St → Prop) (h : K (lit (strV [117, 110, 103])) emptySt) : runI inv0 tbl0 31 [lit (.int .i64 12)] emptySt K := by
  rw [fld12_vc]; exact h
theorem tFld_ok : TblOk Try.prog tFld := by
  intro f tm σ C h K hK
  unfold tFld at h
  split at h
  · rename_i hf
    obtain rfl : f = 31 := by simpa using hf
    split at h
    · split at h
      · rename_i k hk
        obtain rfl := xiX_eq hk
        simp only [Option.some.injEq] at h; subst h
        obtain ⟨h0, h1, h2, h3, h4, h5, h6, h7, h8, h9, h10, h11, h12⟩ := hK
        by_cases hr : 1 ≤ k ∧ k ≤ 12
        · obtain rfl | rfl | rfl | rfl | rfl | rfl | rfl | rfl | rfl | rfl | rfl | rfl : k = 1 ∨ k = 2 ∨ k = 3 ∨ k = 4 ∨ k = 5 ∨ k = 6 ∨ k = 7 ∨ k = 8 ∨ k = 9 ∨ k = 10 ∨ k = 11 ∨ k = 12 := by omega
          · exact fun w0 en w hok vs hvs => knownC noOv names (conOk_of tbl0_ok) (fld1_run K (h1 rfl)) w0 en w hok vs hvs
          · exact fun w0 en w hok vs hvs => knownC noOv names (conOk_of tbl0_ok) (fld2_run K (h2 rfl)) w0 en w hok vs hvs
          · exact fun w0 en w hok vs hvs => knownC noOv names (conOk_of tbl0_ok) (fld3_run K (h3 rfl)) w0 en w hok vs hvs
          · exact fun w0 en w hok vs hvs => knownC noOv names (conOk_of tbl0_ok) (fld4_run K (h4 rfl)) w0 en w hok vs hvs
          · exact fun w0 en w hok vs hvs => knownC noOv names (conOk_of tbl0_ok) (fld5_run K (h5 rfl)) w0 en w hok vs hvs
          · exact fun w0 en w hok vs hvs => knownC noOv names (conOk_of tbl0_ok) (fld6_run K (h6 rfl)) w0 en w hok vs hvs
          · exact fun w0 en w hok vs hvs => knownC noOv names (conOk_of tbl0_ok) (fld7_run K (h7 rfl)) w0 en w hok vs hvs
          · exact fun w0 en w hok vs hvs => knownC noOv names (conOk_of tbl0_ok) (fld8_run K (h8 rfl)) w0 en w hok vs hvs
          · exact fun w0 en w hok vs hvs => knownC noOv names (conOk_of tbl0_ok) (fld9_run K (h9 rfl)) w0 en w hok vs hvs
          · exact fun w0 en w hok vs hvs => knownC noOv names (conOk_of tbl0_ok) (fld10_run K (h10 rfl)) w0 en w hok vs hvs
          · exact fun w0 en w hok vs hvs => knownC noOv names (conOk_of tbl0_ok) (fld11_run K (h11 rfl)) w0 en w hok vs hvs
          · exact fun w0 en w hok vs hvs => knownC noOv names (conOk_of tbl0_ok) (fld12_run K (h12 rfl)) w0 en w hok vs hvs
        · exact knownC noOv names (conOk_of tbl0_ok) (fld0_run K k hr (h0 hr))
      · cases h
    · cases h
  · cases h
set_option maxRecDepth 100000
theorem has_vc (K : AV → St → Prop) (k z : Int) : (runI inv0 tFld 26 [xi .i64 k, xi .u8 z] emptySt K) = ((¬((1 : Int) ≤ k ∧ k ≤ (12 : Int)) → K (Sum.inl (Sum.inl (Sum.inl (Value.bool false)))) { heap := [], ints := [], opqs := (0 : Nat), arrs := [], junks := (0 : Nat) }) ∧ (k = (1 : Int) → ((120 : Int) = z → K (Sum.inl (Sum.inl (Sum.inl (Value.bool true)))) { heap := [], ints := [], opqs := (0 : Nat), arrs := [], junks := (0 : Nat) }) ∧ (¬(120 : Int) = z → ((109 : Int) = z → K (Sum.inl (Sum.inl (Sum.inl (Value.bool true)))) { heap := [], ints := [], opqs := (0 : Nat), arrs := [], junks := (0 : Nat) }) ∧ (¬(109 : Int) = z → K (Sum.inl (Sum.inl (Sum.inl (Value.bool false)))) { heap := [], ints := [], opqs := (0 : Nat), arrs := [], junks := (0 : Nat) }))) ∧ (k = (2 : Int) → ((120 : Int) = z → K (Sum.inl (Sum.inl (Sum.inl (Value.bool true)))) { heap := [], ints := [], opqs := (0 : Nat), arrs := [], junks := (0 : Nat) }) ∧ (¬(120 : Int) = z → ((109 : Int) = z → K (Sum.inl (Sum.inl (Sum.inl (Value.bool true)))) { heap := [], ints := [], opqs := (0 : Nat), arrs := [], junks := (0 : Nat) }) ∧ (¬(109 : Int) = z → ((105 : Int) = z → K (Sum.inl (Sum.inl (Sum.inl (Value.bool true)))) { heap := [], ints := [], opqs := (0 : Nat), arrs := [], junks := (0 : Nat) }) ∧ (¬(105 : Int) = z → ((116 : Int) = z → K (Sum.inl (Sum.inl (Sum.inl (Value.bool true)))) { heap := [], ints := [], opqs := (0 : Nat), arrs := [], junks := (0 : Nat) }) ∧ (¬(116 : Int) = z → K (Sum.inl (Sum.inl (Sum.inl (Value.bool false)))) { heap := [], ints := [], opqs := (0 : Nat), arrs := [], junks := (0 : Nat) }))))) ∧ (k = (3 : Int) → ((120 : Int) = z → K (Sum.inl (Sum.inl (Sum.inl (Value.bool true)))) { heap := [], ints := [], opqs := (0 : Nat), arrs := [], junks := (0 : Nat) }) ∧ (¬(120 : Int) = z → ((109 : Int) = z → K (Sum.inl (Sum.inl (Sum.inl (Value.bool true)))) { heap := [], ints := [], opqs := (0 : Nat), arrs := [], junks := (0 : Nat) }) ∧ (¬(109 : Int) = z → ((105 : Int) = z → K (Sum.inl (Sum.inl (Sum.inl (Value.bool true)))) { heap := [], ints := [], opqs := (0 : Nat), arrs := [], junks := (0 : Nat) }) ∧ (¬(105 : Int) = z → K (Sum.inl (Sum.inl (Sum.inl (Value.bool false)))) { heap := [], ints := [], opqs := (0 : Nat), arrs := [], junks := (0 : Nat) })))) ∧ (k = (4 : Int) → ((120 : Int) = z → K (Sum.inl (Sum.inl (Sum.inl (Value.bool true)))) { heap := [], ints := [], opqs := (0 : Nat), arrs := [], junks := (0 : Nat) }) ∧ (¬(120 : Int) = z → ((109 : Int) = z → K (Sum.inl (Sum.inl (Sum.inl (Value.bool true)))) { heap := [], ints := [], opqs := (0 : Nat), arrs := [], junks := (0 : Nat) }) ∧ (¬(109 : Int) = z → ((105 : Int) = z → K (Sum.inl (Sum.inl (Sum.inl (Value.bool true)))) { heap := [], ints := [], opqs := (0 : Nat), arrs := [], junks := (0 : Nat) }) ∧ (¬(105 : Int) = z → ((116 : Int) = z → K (Sum.inl (Sum.inl (Sum.inl (Value.bool true)))) { heap := [], ints := [], opqs := (0 : Nat), arrs := [], junks := (0 : Nat) }) ∧ (¬(116 : Int) = z → K (Sum.inl (Sum.inl (Sum.inl (Value.bool false)))) { heap := [], ints := [], opqs := (0 : Nat), arrs := [], junks := (0 : Nat) }))))) ∧ (k = (5 : Int) → ((120 : Int) = z → K (Sum.inl (Sum.inl (Sum.inl (Value.bool true)))) { heap := [], ints := [], opqs := (0 : Nat), arrs := [], junks := (0 : Nat) }) ∧ (¬(120 : Int) = z → ((109 : Int) = z → K (Sum.inl (Sum.inl (Sum.inl (Value.bool true)))) { heap := [], ints := [], opqs := (0 : Nat), arrs := [], junks := (0 : Nat) }) ∧ (¬(109 : Int) = z → ((119 : Int) = z → K (Sum.inl (Sum.inl (Sum.inl (Value.bool true)))) { heap := [], ints := [], opqs := (0 : Nat), arrs := [], junks := (0 : Nat) }) ∧ (¬(119 : Int) = z → K (Sum.inl (Sum.inl (Sum.inl (Value.bool false)))) { heap := [], ints := [], opqs := (0 : Nat), arrs := [], junks := (0 : Nat) })))) ∧ (k = (6 : Int) → ((109 : Int) = z → K (Sum.inl (Sum.inl (Sum.inl (Value.bool true)))) { heap := [], ints := [], opqs := (0 : Nat), arrs := [], junks := (0 : Nat) }) ∧ (¬(109 : Int) = z → ((105 : Int) = z → K (Sum.inl (Sum.inl (Sum.inl (Value.bool true)))) { heap := [], ints := [], opqs := (0 : Nat), arrs := [], junks := (0 : Nat) }) ∧ (¬(105 : Int) = z → K (Sum.inl (Sum.inl (Sum.inl (Value.bool false)))) { heap := [], ints := [], opqs := (0 : Nat), arrs := [], junks := (0 : Nat) }))) ∧ (k = (7 : Int) → ((117 : Int) = z → K (Sum.inl (Sum.inl (Sum.inl (Value.bool true)))) { heap := [], ints := [], opqs := (0 : Nat), arrs := [], junks := (0 : Nat) }) ∧ (¬(117 : Int) = z → K (Sum.inl (Sum.inl (Sum.inl (Value.bool false)))) { heap := [], ints := [], opqs := (0 : Nat), arrs := [], junks := (0 : Nat) })) ∧ (k = (8 : Int) → ((117 : Int) = z → K (Sum.inl (Sum.inl (Sum.inl (Value.bool true)))) { heap := [], ints := [], opqs := (0 : Nat), arrs := [], junks := (0 : Nat) }) ∧ (¬(117 : Int) = z → ((110 : Int) = z → K (Sum.inl (Sum.inl (Sum.inl (Value.bool true)))) { heap := [], ints := [], opqs := (0 : Nat), arrs := [], junks := (0 : Nat) }) ∧ (¬(110 : Int) = z → K (Sum.inl (Sum.inl (Sum.inl (Value.bool false)))) { heap := [], ints := [], opqs := (0 : Nat), arrs := [], junks := (0 : Nat) }))) ∧ (k = (9 : Int) → ((117 : Int) = z → K (Sum.inl (Sum.inl (Sum.inl (Value.bool true)))) { heap := [], ints := [], opqs := (0 : Nat), arrs := [], junks := (0 : Nat) }) ∧ (¬(117 : Int) = z → ((110 : Int) = z → K (Sum.inl (Sum.inl (Sum.inl (Value.bool true)))) { heap := [], ints := [], opqs := (0 : Nat), arrs := [], junks := (0 : Nat) }) ∧ (¬(110 : Int) = z → ((103 : Int) = z → K (Sum.inl (Sum.inl (Sum.inl (Value.bool true)))) { heap := [], ints := [], opqs := (0 : Nat), arrs := [], junks := (0 : Nat) }) ∧ (¬(103 : Int) = z → K (Sum.inl (Sum.inl (Sum.inl (Value.bool false)))) { heap := [], ints := [], opqs := (0 : Nat), arrs := [], junks := (0 : Nat) })))) ∧ (k = (10 : Int) → ((116 : Int) = z → K (Sum.inl (Sum.inl (Sum.inl (Value.bool true)))) { heap := [], ints := [], opqs := (0 : Nat), arrs := [], junks := (0 : Nat) }) ∧ (¬(116 : Int) = z → ((117 : Int) = z → K (Sum.inl (Sum.inl (Sum.inl (Value.bool true)))) { heap := [], ints := [], opqs := (0 : Nat), arrs := [], junks := (0 : Nat) }) ∧ (¬(117 : Int) = z → K (Sum.inl (Sum.inl (Sum.inl (Value.bool false)))) { heap := [], ints := [], opqs := (0 : Nat), arrs := [], junks := (0 : Nat) }))) ∧ (k = (11 : Int) → ((117 : Int) = z → K (Sum.inl (Sum.inl (Sum.inl (Value.bool true)))) { heap := [], ints := [], opqs := (0 : Nat), arrs := [], junks := (0 : Nat) }) ∧ (¬(117 : Int) = z → ((119 : Int) = z → K (Sum.inl (Sum.inl (Sum.inl (Value.bool true)))) { heap := [], ints := [], opqs := (0 : Nat), arrs := [], junks := (0 : Nat) }) ∧ (¬(119 : Int) = z → K (Sum.inl (Sum.inl (Sum.inl (Value.bool false)))) { heap := [], ints := [], opqs := (0 : Nat), arrs := [], junks := (0 : Nat) }))) ∧ (k = (12 : Int) → ((117 : Int) = z → K (Sum.inl (Sum.inl (Sum.inl (Value.bool true)))) { heap := [], ints := [], opqs := (0 : Nat), arrs := [], junks := (0 : Nat) }) ∧ (¬(117 : Int) = z → ((110 : Int) = z → K (Sum.inl (Sum.inl (Sum.inl (Value.bool true)))) { heap := [], ints := [], opqs := (0 : Nat), arrs := [], junks := (0 : Nat) }) ∧ (¬(110 : Int) = z → ((103 : Int) = z → K (Sum.inl (Sum.inl (Sum.inl (Value.bool true)))) { heap := [], ints := [], opqs := (0 : Nat), arrs := [], junks := (0 : Nat) }) ∧ (¬(103 : Int) = z → K (Sum.inl (Sum.inl (Sum.inl (Value.bool false)))) { heap := [], ints := [], opqs := (0 : Nat), arrs := [], junks := (0 : Nat) }))))) := by kernel_rfl
end Go.Proofs.Ytpcnbhgifhiejaa
end

section
namespace Go.Proofs.Ytpcnbhgifhiejaa
open Go Reck
set_option linter.unusedVariables false
theorem has_run (K : AV → St → Prop) (k z : Int) (h : K (lit (.bool (decide (z ∈ fld k)))) emptySt) : runI inv0 tFld 26 [xi .i64 k, xi .u8 z] emptySt K := by
  have ht : z ∈ fld k → K (lit (.bool true)) emptySt := fun hz => by rw [decide_eq_true hz] at h; exact h
  have hf : ¬ z ∈ fld k → K (lit (.bool false)) emptySt := fun hz => by rw [decide_eq_false hz] at h; exact h
  clear h
  rw [has_vc]
  refine ⟨fun hr => hf ?_, ?_⟩
  · unfold fld
    repeat rw [if_neg (by omega)]
    simp
  refine ⟨?_, ?_, ?_, ?_, ?_, ?_, ?_, ?_, ?_, ?_, ?_, ?_⟩
  all_goals
    intro hk
    subst hk
    repeat' (first | intro _ | with_reducible apply And.intro)
  all_goals first
    | exact ht (by simp only [fld]; simp; omega)
    | exact hf (by simp only [fld]; simp; omega)
def tHasL : Tbl := fun f args σ => if f == 26 then match args, σ with
    | [k, z], ⟨[], [], 0, [], 0⟩ => match xiX k, xiX z with
      | some (.i64, k), some (.u8, z) => some fun K => K (lit (.bool (decide (z ∈ fld k)))) emptySt
      | _, _ => none
    | _, _ => none
  else none
theorem tHasL_ok : TblOk Try.prog tHasL := by
  intro f tm σ C h K hK
  unfold tHasL at h
  split at h
  · rename_i hf
    obtain rfl : f = 26 := by simpa using hf
    split at h
    · split at h
      · rename_i k z hk hz
        obtain rfl := xiX_eq hk
        obtain rfl := xiX_eq hz
        simp only [Option.some.injEq] at h; subst h
        exact knownC noOv names (conOk_of tFld_ok) (has_run K k z hK)
      · cases h
    · cases h
  · cases h
def tTC : Tbl := tblOr tHasL (tblOr tR2 tTB)
theorem tTC_ok : TblOk Try.prog tTC := tblOr_ok tHasL_ok (tblOr_ok tR2_ok tTB_ok)
def msgK (kind : Int) (xid mac ip ticks : Int) (u : Cell) (nonce tag why : Int) : AV := .inl (.inr [.inl (.int .i64 kind), xintC .u32 xid, xintC .u64 mac, xintC .u32 ip, xintC .i64 ticks, u, xintC .u64 nonce, xintC .u64 tag, xintC .i64 why])
set_option maxRecDepth 100000
theorem rmay0_vc (K : AV → St → Prop) (kind xid mac ip ticks nonce tag why : Int) (l : List Int) : (runI inv0 (fun _ _ _ => some fun _ => False) 11 [msgA kind xid mac ip ticks (strC l) nonce tag why] emptySt K) = (False) := by kernel_rfl
theorem rmay1_vc (K : AV → St → Prop) (xid mac ip ticks nonce tag why : Int) (l : List Int) : (runI inv0 tTC 11 [msgK 1 xid mac ip ticks (strC l) nonce tag why] emptySt K) = ((¬ip = (0 : Int) → K (Sum.inl (Sum.inl (Sum.inl (Value.bool false)))) { heap := [], ints := [], opqs := (0 : Nat), arrs := [], junks := (0 : Nat) }) ∧ (¬¬ip = (0 : Int) → (¬ticks = (0 : Int) → K (Sum.inl (Sum.inl (Sum.inl (Value.bool false)))) { heap := [], ints := [], opqs := (0 : Nat), arrs := [], junks := (0 : Nat) }) ∧ (¬¬ticks = (0 : Int) → (¬nonce = (0 : Int) → K (Sum.inl (Sum.inl (Sum.inl (Value.bool false)))) { heap := [], ints := [], opqs := (0 : Nat), arrs := [], junks := (0 : Nat) }) ∧ (¬¬nonce = (0 : Int) → (¬tag = (0 : Int) → K (Sum.inl (Sum.inl (Sum.inl (Value.bool false)))) { heap := [], ints := [], opqs := (0 : Nat), arrs := [], junks := (0 : Nat) }) ∧ (¬¬tag = (0 : Int) → (¬why = (0 : Int) → K (Sum.inl (Sum.inl (Sum.inl (Value.bool false)))) { heap := [], ints := [], opqs := (0 : Nat), arrs := [], junks := (0 : Nat) }) ∧ (¬¬why = (0 : Int) → (¬l = [] → K (Sum.inl (Sum.inl (Sum.inl (Value.bool false)))) { heap := [], ints := [], opqs := (0 : Nat), arrs := [], junks := (0 : Nat) }) ∧ (¬¬l = [] → (mac < (281474976710656 : Int) → ((0 : Int) ≤ ticks → (ticks < (1099511627776 : Int) → ((0 : Int) ≤ why → (why < (256 : Int) → K (Sum.inl (Sum.inl (Sum.inl (Value.bool true)))) { heap := [], ints := [], opqs := (0 : Nat), arrs := [], junks := (0 : Nat) }) ∧ (¬why < (256 : Int) → K (Sum.inl (Sum.inl (Sum.inl (Value.bool false)))) { heap := [], ints := [], opqs := (0 : Nat), arrs := [], junks := (0 : Nat) })) ∧ (¬(0 : Int) ≤ why → K (Sum.inl (Sum.inl (Sum.inl (Value.bool false)))) { heap := [], ints := [], opqs := (0 : Nat), arrs := [], junks := (0 : Nat) })) ∧ (¬ticks < (1099511627776 : Int) → K (Sum.inl (Sum.inl (Sum.inl (Value.bool false)))) { heap := [], ints := [], opqs := (0 : Nat), arrs := [], junks := (0 : Nat) })) ∧ (¬(0 : Int) ≤ ticks → K (Sum.inl (Sum.inl (Sum.inl (Value.bool false)))) { heap := [], ints := [], opqs := (0 : Nat), arrs := [], junks := (0 : Nat) })) ∧ (¬mac < (281474976710656 : Int) → K (Sum.inl (Sum.inl (Sum.inl (Value.bool false)))) { heap := [], ints := [], opqs := (0 : Nat), arrs := [], junks := (0 : Nat) })))))))) := by kernel_rfl
theorem rmay2_vc (K : AV → St → Prop) (xid mac ip ticks nonce tag why : Int) (l : List Int) : (runI inv0 tTC 11 [msgK 2 xid mac ip ticks (strC l) nonce tag why] emptySt K) = ((¬nonce = (0 : Int) → K (Sum.inl (Sum.inl (Sum.inl (Value.bool false)))) { heap := [], ints := [], opqs := (0 : Nat), arrs := [], junks := (0 : Nat) }) ∧ (¬¬nonce = (0 : Int) → (¬tag = (0 : Int) → K (Sum.inl (Sum.inl (Sum.inl (Value.bool false)))) { heap := [], ints := [], opqs := (0 : Nat), arrs := [], junks := (0 : Nat) }) ∧ (¬¬tag = (0 : Int) → (¬why = (0 : Int) → K (Sum.inl (Sum.inl (Sum.inl (Value.bool false)))) { heap := [], ints := [], opqs := (0 : Nat), arrs := [], junks := (0 : Nat) }) ∧ (¬¬why = (0 : Int) → (¬l = [] → K (Sum.inl (Sum.inl (Sum.inl (Value.bool false)))) { heap := [], ints := [], opqs := (0 : Nat), arrs := [], junks := (0 : Nat) }) ∧ (¬¬l = [] → (mac < (281474976710656 : Int) → ((0 : Int) ≤ ticks → (ticks < (1099511627776 : Int) → ((0 : Int) ≤ why → (why < (256 : Int) → K (Sum.inl (Sum.inl (Sum.inl (Value.bool true)))) { heap := [], ints := [], opqs := (0 : Nat), arrs := [], junks := (0 : Nat) }) ∧ (¬why < (256 : Int) → K (Sum.inl (Sum.inl (Sum.inl (Value.bool false)))) { heap := [], ints := [], opqs := (0 : Nat), arrs := [], junks := (0 : Nat) })) ∧ (¬(0 : Int) ≤ why → K (Sum.inl (Sum.inl (Sum.inl (Value.bool false)))) { heap := [], ints := [], opqs := (0 : Nat), arrs := [], junks := (0 : Nat) })) ∧ (¬ticks < (1099511627776 : Int) → K (Sum.inl (Sum.inl (Sum.inl (Value.bool false)))) { heap := [], ints := [], opqs := (0 : Nat), arrs := [], junks := (0 : Nat) })) ∧ (¬(0 : Int) ≤ ticks → K (Sum.inl (Sum.inl (Sum.inl (Value.bool false)))) { heap := [], ints := [], opqs := (0 : Nat), arrs := [], junks := (0 : Nat) })) ∧ (¬mac < (281474976710656 : Int) → K (Sum.inl (Sum.inl (Sum.inl (Value.bool false)))) { heap := [], ints := [], opqs := (0 : Nat), arrs := [], junks := (0 : Nat) })))))) := by kernel_rfl
theorem rmay3_vc (K : AV → St → Prop) (xid mac ip ticks nonce tag why : Int) (l : List Int) : (runI inv0 tTC 11 [msgK 3 xid mac ip ticks (strC l) nonce tag why] emptySt K) = ((¬ticks = (0 : Int) → K (Sum.inl (Sum.inl (Sum.inl (Value.bool false)))) { heap := [], ints := [], opqs := (0 : Nat), arrs := [], junks := (0 : Nat) }) ∧ (¬¬ticks = (0 : Int) → (¬nonce = (0 : Int) → K (Sum.inl (Sum.inl (Sum.inl (Value.bool false)))) { heap := [], ints := [], opqs := (0 : Nat), arrs := [], junks := (0 : Nat) }) ∧ (¬¬nonce = (0 : Int) → (¬tag = (0 : Int) → K (Sum.inl (Sum.inl (Sum.inl (Value.bool false)))) { heap := [], ints := [], opqs := (0 : Nat), arrs := [], junks := (0 : Nat) }) ∧ (¬¬tag = (0 : Int) → (¬why = (0 : Int) → K (Sum.inl (Sum.inl (Sum.inl (Value.bool false)))) { heap := [], ints := [], opqs := (0 : Nat), arrs := [], junks := (0 : Nat) }) ∧ (¬¬why = (0 : Int) → (¬l = [] → K (Sum.inl (Sum.inl (Sum.inl (Value.bool false)))) { heap := [], ints := [], opqs := (0 : Nat), arrs := [], junks := (0 : Nat) }) ∧ (¬¬l = [] → (mac < (281474976710656 : Int) → ((0 : Int) ≤ ticks → (ticks < (1099511627776 : Int) → ((0 : Int) ≤ why → (why < (256 : Int) → K (Sum.inl (Sum.inl (Sum.inl (Value.bool true)))) { heap := [], ints := [], opqs := (0 : Nat), arrs := [], junks := (0 : Nat) }) ∧ (¬why < (256 : Int) → K (Sum.inl (Sum.inl (Sum.inl (Value.bool false)))) { heap := [], ints := [], opqs := (0 : Nat), arrs := [], junks := (0 : Nat) })) ∧ (¬(0 : Int) ≤ why → K (Sum.inl (Sum.inl (Sum.inl (Value.bool false)))) { heap := [], ints := [], opqs := (0 : Nat), arrs := [], junks := (0 : Nat) })) ∧ (¬ticks < (1099511627776 : Int) → K (Sum.inl (Sum.inl (Sum.inl (Value.bool false)))) { heap := [], ints := [], opqs := (0 : Nat), arrs := [], junks := (0 : Nat) })) ∧ (¬(0 : Int) ≤ ticks → K (Sum.inl (Sum.inl (Sum.inl (Value.bool false)))) { heap := [], ints := [], opqs := (0 : Nat), arrs := [], junks := (0 : Nat) })) ∧ (¬mac < (281474976710656 : Int) → K (Sum.inl (Sum.inl (Sum.inl (Value.bool false)))) { heap := [], ints := [], opqs := (0 : Nat), arrs := [], junks := (0 : Nat) }))))))) := by kernel_rfl
theorem rmay4_vc (K : AV → St → Prop) (xid mac ip ticks nonce tag why : Int) (l : List Int) : (runI inv0 tTC 11 [msgK 4 xid mac ip ticks (strC l) nonce tag why] emptySt K) = ((¬nonce = (0 : Int) → K (Sum.inl (Sum.inl (Sum.inl (Value.bool false)))) { heap := [], ints := [], opqs := (0 : Nat), arrs := [], junks := (0 : Nat) }) ∧ (¬¬nonce = (0 : Int) → (¬tag = (0 : Int) → K (Sum.inl (Sum.inl (Sum.inl (Value.bool false)))) { heap := [], ints := [], opqs := (0 : Nat), arrs := [], junks := (0 : Nat) }) ∧ (¬¬tag = (0 : Int) → (¬why = (0 : Int) → K (Sum.inl (Sum.inl (Sum.inl (Value.bool false)))) { heap := [], ints := [], opqs := (0 : Nat), arrs := [], junks := (0 : Nat) }) ∧ (¬¬why = (0 : Int) → (¬l = [] → K (Sum.inl (Sum.inl (Sum.inl (Value.bool false)))) { heap := [], ints := [], opqs := (0 : Nat), arrs := [], junks := (0 : Nat) }) ∧ (¬¬l = [] → (mac < (281474976710656 : Int) → ((0 : Int) ≤ ticks → (ticks < (1099511627776 : Int) → ((0 : Int) ≤ why → (why < (256 : Int) → K (Sum.inl (Sum.inl (Sum.inl (Value.bool true)))) { heap := [], ints := [], opqs := (0 : Nat), arrs := [], junks := (0 : Nat) }) ∧ (¬why < (256 : Int) → K (Sum.inl (Sum.inl (Sum.inl (Value.bool false)))) { heap := [], ints := [], opqs := (0 : Nat), arrs := [], junks := (0 : Nat) })) ∧ (¬(0 : Int) ≤ why → K (Sum.inl (Sum.inl (Sum.inl (Value.bool false)))) { heap := [], ints := [], opqs := (0 : Nat), arrs := [], junks := (0 : Nat) })) ∧ (¬ticks < (1099511627776 : Int) → K (Sum.inl (Sum.inl (Sum.inl (Value.bool false)))) { heap := [], ints := [], opqs := (0 : Nat), arrs := [], junks := (0 : Nat) })) ∧ (¬(0 : Int) ≤ ticks → K (Sum.inl (Sum.inl (Sum.inl (Value.bool false)))) { heap := [], ints := [], opqs := (0 : Nat), arrs := [], junks := (0 : Nat) })) ∧ (¬mac < (281474976710656 : Int) → K (Sum.inl (Sum.inl (Sum.inl (Value.bool false)))) { heap := [], ints := [], opqs := (0 : Nat), arrs := [], junks := (0 : Nat) })))))) := by kernel_rfl
theorem rmay5_vc (K : AV → St → Prop) (xid mac ip ticks nonce tag why : Int) (l : List Int) : (runI inv0 tTC 11 [msgK 5 xid mac ip ticks (strC l) nonce tag why] emptySt K) = ((¬ip = (0 : Int) → K (Sum.inl (Sum.inl (Sum.inl (Value.bool false)))) { heap := [], ints := [], opqs := (0 : Nat), arrs := [], junks := (0 : Nat) }) ∧ (¬¬ip = (0 : Int) → (¬ticks = (0 : Int) → K (Sum.inl (Sum.inl (Sum.inl (Value.bool false)))) { heap := [], ints := [], opqs := (0 : Nat), arrs := [], junks := (0 : Nat) }) ∧ (¬¬ticks = (0 : Int) → (¬nonce = (0 : Int) → K (Sum.inl (Sum.inl (Sum.inl (Value.bool false)))) { heap := [], ints := [], opqs := (0 : Nat), arrs := [], junks := (0 : Nat) }) ∧ (¬¬nonce = (0 : Int) → (¬tag = (0 : Int) → K (Sum.inl (Sum.inl (Sum.inl (Value.bool false)))) { heap := [], ints := [], opqs := (0 : Nat), arrs := [], junks := (0 : Nat) }) ∧ (¬¬tag = (0 : Int) → (¬l = [] → K (Sum.inl (Sum.inl (Sum.inl (Value.bool false)))) { heap := [], ints := [], opqs := (0 : Nat), arrs := [], junks := (0 : Nat) }) ∧ (¬¬l = [] → (mac < (281474976710656 : Int) → ((0 : Int) ≤ ticks → (ticks < (1099511627776 : Int) → ((0 : Int) ≤ why → (why < (256 : Int) → K (Sum.inl (Sum.inl (Sum.inl (Value.bool true)))) { heap := [], ints := [], opqs := (0 : Nat), arrs := [], junks := (0 : Nat) }) ∧ (¬why < (256 : Int) → K (Sum.inl (Sum.inl (Sum.inl (Value.bool false)))) { heap := [], ints := [], opqs := (0 : Nat), arrs := [], junks := (0 : Nat) })) ∧ (¬(0 : Int) ≤ why → K (Sum.inl (Sum.inl (Sum.inl (Value.bool false)))) { heap := [], ints := [], opqs := (0 : Nat), arrs := [], junks := (0 : Nat) })) ∧ (¬ticks < (1099511627776 : Int) → K (Sum.inl (Sum.inl (Sum.inl (Value.bool false)))) { heap := [], ints := [], opqs := (0 : Nat), arrs := [], junks := (0 : Nat) })) ∧ (¬(0 : Int) ≤ ticks → K (Sum.inl (Sum.inl (Sum.inl (Value.bool false)))) { heap := [], ints := [], opqs := (0 : Nat), arrs := [], junks := (0 : Nat) })) ∧ (¬mac < (281474976710656 : Int) → K (Sum.inl (Sum.inl (Sum.inl (Value.bool false)))) { heap := [], ints := [], opqs := (0 : Nat), arrs := [], junks := (0 : Nat) }))))))) := by kernel_rfl
theorem rmay6_vc (K : AV → St → Prop) (xid mac ip ticks nonce tag why : Int) (l : List Int) : (runI inv0 tTC 11 [msgK 6 xid mac ip ticks (strC l) nonce tag why] emptySt K) = ((¬xid = (0 : Int) → K (Sum.inl (Sum.inl (Sum.inl (Value.bool false)))) { heap := [], ints := [], opqs := (0 : Nat), arrs := [], junks := (0 : Nat) }) ∧ (¬¬xid = (0 : Int) → (¬ticks = (0 : Int) → K (Sum.inl (Sum.inl (Sum.inl (Value.bool false)))) { heap := [], ints := [], opqs := (0 : Nat), arrs := [], junks := (0 : Nat) }) ∧ (¬¬ticks = (0 : Int) → (¬nonce = (0 : Int) → K (Sum.inl (Sum.inl (Sum.inl (Value.bool false)))) { heap := [], ints := [], opqs := (0 : Nat), arrs := [], junks := (0 : Nat) }) ∧ (¬¬nonce = (0 : Int) → (¬tag = (0 : Int) → K (Sum.inl (Sum.inl (Sum.inl (Value.bool false)))) { heap := [], ints := [], opqs := (0 : Nat), arrs := [], junks := (0 : Nat) }) ∧ (¬¬tag = (0 : Int) → (¬why = (0 : Int) → K (Sum.inl (Sum.inl (Sum.inl (Value.bool false)))) { heap := [], ints := [], opqs := (0 : Nat), arrs := [], junks := (0 : Nat) }) ∧ (¬¬why = (0 : Int) → (¬l = [] → K (Sum.inl (Sum.inl (Sum.inl (Value.bool false)))) { heap := [], ints := [], opqs := (0 : Nat), arrs := [], junks := (0 : Nat) }) ∧ (¬¬l = [] → (mac < (281474976710656 : Int) → ((0 : Int) ≤ ticks → (ticks < (1099511627776 : Int) → ((0 : Int) ≤ why → (why < (256 : Int) → K (Sum.inl (Sum.inl (Sum.inl (Value.bool true)))) { heap := [], ints := [], opqs := (0 : Nat), arrs := [], junks := (0 : Nat) }) ∧ (¬why < (256 : Int) → K (Sum.inl (Sum.inl (Sum.inl (Value.bool false)))) { heap := [], ints := [], opqs := (0 : Nat), arrs := [], junks := (0 : Nat) })) ∧ (¬(0 : Int) ≤ why → K (Sum.inl (Sum.inl (Sum.inl (Value.bool false)))) { heap := [], ints := [], opqs := (0 : Nat), arrs := [], junks := (0 : Nat) })) ∧ (¬ticks < (1099511627776 : Int) → K (Sum.inl (Sum.inl (Sum.inl (Value.bool false)))) { heap := [], ints := [], opqs := (0 : Nat), arrs := [], junks := (0 : Nat) })) ∧ (¬(0 : Int) ≤ ticks → K (Sum.inl (Sum.inl (Sum.inl (Value.bool false)))) { heap := [], ints := [], opqs := (0 : Nat), arrs := [], junks := (0 : Nat) })) ∧ (¬mac < (281474976710656 : Int) → K (Sum.inl (Sum.inl (Sum.inl (Value.bool false)))) { heap := [], ints := [], opqs := (0 : Nat), arrs := [], junks := (0 : Nat) })))))))) := by kernel_rfl
theorem rmay7_vc (K : AV → St → Prop) (xid mac ip ticks nonce tag why : Int) (l : List Int) : (runI inv0 tTC 11 [msgK 7 xid mac ip ticks (strC l) nonce tag why] emptySt K) = ((¬xid = (0 : Int) → K (Sum.inl (Sum.inl (Sum.inl (Value.bool false)))) { heap := [], ints := [], opqs := (0 : Nat), arrs := [], junks := (0 : Nat) }) ∧ (¬¬xid = (0 : Int) → (¬mac = (0 : Int) → K (Sum.inl (Sum.inl (Sum.inl (Value.bool false)))) { heap := [], ints := [], opqs := (0 : Nat), arrs := [], junks := (0 : Nat) }) ∧ (¬¬mac = (0 : Int) → (¬ip = (0 : Int) → K (Sum.inl (Sum.inl (Sum.inl (Value.bool false)))) { heap := [], ints := [], opqs := (0 : Nat), arrs := [], junks := (0 : Nat) }) ∧ (¬¬ip = (0 : Int) → (¬ticks = (0 : Int) → K (Sum.inl (Sum.inl (Sum.inl (Value.bool false)))) { heap := [], ints := [], opqs := (0 : Nat), arrs := [], junks := (0 : Nat) }) ∧ (¬¬ticks = (0 : Int) → (¬nonce = (0 : Int) → K (Sum.inl (Sum.inl (Sum.inl (Value.bool false)))) { heap := [], ints := [], opqs := (0 : Nat), arrs := [], junks := (0 : Nat) }) ∧ (¬¬nonce = (0 : Int) → (¬tag = (0 : Int) → K (Sum.inl (Sum.inl (Sum.inl (Value.bool false)))) { heap := [], ints := [], opqs := (0 : Nat), arrs := [], junks := (0 : Nat) }) ∧ (¬¬tag = (0 : Int) → (¬why = (0 : Int) → K (Sum.inl (Sum.inl (Sum.inl (Value.bool false)))) { heap := [], ints := [], opqs := (0 : Nat), arrs := [], junks := (0 : Nat) }) ∧ (¬¬why = (0 : Int) → (U.Nm l → (mac < (281474976710656 : Int) → ((0 : Int) ≤ ticks → (ticks < (1099511627776 : Int) → ((0 : Int) ≤ why → (why < (256 : Int) → K (Sum.inl (Sum.inl (Sum.inl (Value.bool true)))) { heap := [], ints := [], opqs := (0 : Nat), arrs := [], junks := (0 : Nat) }) ∧ (¬why < (256 : Int) → K (Sum.inl (Sum.inl (Sum.inl (Value.bool false)))) { heap := [], ints := [], opqs := (0 : Nat), arrs := [], junks := (0 : Nat) })) ∧ (¬(0 : Int) ≤ why → K (Sum.inl (Sum.inl (Sum.inl (Value.bool false)))) { heap := [], ints := [], opqs := (0 : Nat), arrs := [], junks := (0 : Nat) })) ∧ (¬ticks < (1099511627776 : Int) → K (Sum.inl (Sum.inl (Sum.inl (Value.bool false)))) { heap := [], ints := [], opqs := (0 : Nat), arrs := [], junks := (0 : Nat) })) ∧ (¬(0 : Int) ≤ ticks → K (Sum.inl (Sum.inl (Sum.inl (Value.bool false)))) { heap := [], ints := [], opqs := (0 : Nat), arrs := [], junks := (0 : Nat) })) ∧ (¬mac < (281474976710656 : Int) → K (Sum.inl (Sum.inl (Sum.inl (Value.bool false)))) { heap := [], ints := [], opqs := (0 : Nat), arrs := [], junks := (0 : Nat) })) ∧ (¬U.Nm l → K (Sum.inl (Sum.inl (Sum.inl (Value.bool false)))) { heap := [], ints := [], opqs := (0 : Nat), arrs := [], junks := (0 : Nat) }))))))))) := by kernel_rfl
theorem rmay8_vc (K : AV → St → Prop) (xid mac ip ticks nonce tag why : Int) (l : List Int) : (runI inv0 tTC 11 [msgK 8 xid mac ip ticks (strC l) nonce tag why] emptySt K) = ((¬xid = (0 : Int) → K (Sum.inl (Sum.inl (Sum.inl (Value.bool false)))) { heap := [], ints := [], opqs := (0 : Nat), arrs := [], junks := (0 : Nat) }) ∧ (¬¬xid = (0 : Int) → (¬mac = (0 : Int) → K (Sum.inl (Sum.inl (Sum.inl (Value.bool false)))) { heap := [], ints := [], opqs := (0 : Nat), arrs := [], junks := (0 : Nat) }) ∧ (¬¬mac = (0 : Int) → (¬ip = (0 : Int) → K (Sum.inl (Sum.inl (Sum.inl (Value.bool false)))) { heap := [], ints := [], opqs := (0 : Nat), arrs := [], junks := (0 : Nat) }) ∧ (¬¬ip = (0 : Int) → (¬ticks = (0 : Int) → K (Sum.inl (Sum.inl (Sum.inl (Value.bool false)))) { heap := [], ints := [], opqs := (0 : Nat), arrs := [], junks := (0 : Nat) }) ∧ (¬¬ticks = (0 : Int) → (¬tag = (0 : Int) → K (Sum.inl (Sum.inl (Sum.inl (Value.bool false)))) { heap := [], ints := [], opqs := (0 : Nat), arrs := [], junks := (0 : Nat) }) ∧ (¬¬tag = (0 : Int) → (¬why = (0 : Int) → K (Sum.inl (Sum.inl (Sum.inl (Value.bool false)))) { heap := [], ints := [], opqs := (0 : Nat), arrs := [], junks := (0 : Nat) }) ∧ (¬¬why = (0 : Int) → (U.Nm l → (mac < (281474976710656 : Int) → ((0 : Int) ≤ ticks → (ticks < (1099511627776 : Int) → ((0 : Int) ≤ why → (why < (256 : Int) → K (Sum.inl (Sum.inl (Sum.inl (Value.bool true)))) { heap := [], ints := [], opqs := (0 : Nat), arrs := [], junks := (0 : Nat) }) ∧ (¬why < (256 : Int) → K (Sum.inl (Sum.inl (Sum.inl (Value.bool false)))) { heap := [], ints := [], opqs := (0 : Nat), arrs := [], junks := (0 : Nat) })) ∧ (¬(0 : Int) ≤ why → K (Sum.inl (Sum.inl (Sum.inl (Value.bool false)))) { heap := [], ints := [], opqs := (0 : Nat), arrs := [], junks := (0 : Nat) })) ∧ (¬ticks < (1099511627776 : Int) → K (Sum.inl (Sum.inl (Sum.inl (Value.bool false)))) { heap := [], ints := [], opqs := (0 : Nat), arrs := [], junks := (0 : Nat) })) ∧ (¬(0 : Int) ≤ ticks → K (Sum.inl (Sum.inl (Sum.inl (Value.bool false)))) { heap := [], ints := [], opqs := (0 : Nat), arrs := [], junks := (0 : Nat) })) ∧ (¬mac < (281474976710656 : Int) → K (Sum.inl (Sum.inl (Sum.inl (Value.bool false)))) { heap := [], ints := [], opqs := (0 : Nat), arrs := [], junks := (0 : Nat) })) ∧ (¬U.Nm l → K (Sum.inl (Sum.inl (Sum.inl (Value.bool false)))) { heap := [], ints := [], opqs := (0 : Nat), arrs := [], junks := (0 : Nat) })))))))) := by kernel_rfl
theorem rmay9_vc (K : AV → St → Prop) (xid mac ip ticks nonce tag why : Int) (l : List Int) : (runI inv0 tTC 11 [msgK 9 xid mac ip ticks (strC l) nonce tag why] emptySt K) = ((¬xid = (0 : Int) → K (Sum.inl (Sum.inl (Sum.inl (Value.bool false)))) { heap := [], ints := [], opqs := (0 : Nat), arrs := [], junks := (0 : Nat) }) ∧ (¬¬xid = (0 : Int) → (¬mac = (0 : Int) → K (Sum.inl (Sum.inl (Sum.inl (Value.bool false)))) { heap := [], ints := [], opqs := (0 : Nat), arrs := [], junks := (0 : Nat) }) ∧ (¬¬mac = (0 : Int) → (¬ip = (0 : Int) → K (Sum.inl (Sum.inl (Sum.inl (Value.bool false)))) { heap := [], ints := [], opqs := (0 : Nat), arrs := [], junks := (0 : Nat) }) ∧ (¬¬ip = (0 : Int) → (¬ticks = (0 : Int) → K (Sum.inl (Sum.inl (Sum.inl (Value.bool false)))) { heap := [], ints := [], opqs := (0 : Nat), arrs := [], junks := (0 : Nat) }) ∧ (¬¬ticks = (0 : Int) → (¬why = (0 : Int) → K (Sum.inl (Sum.inl (Sum.inl (Value.bool false)))) { heap := [], ints := [], opqs := (0 : Nat), arrs := [], junks := (0 : Nat) }) ∧ (¬¬why = (0 : Int) → (U.Nm l → (mac < (281474976710656 : Int) → ((0 : Int) ≤ ticks → (ticks < (1099511627776 : Int) → ((0 : Int) ≤ why → (why < (256 : Int) → K (Sum.inl (Sum.inl (Sum.inl (Value.bool true)))) { heap := [], ints := [], opqs := (0 : Nat), arrs := [], junks := (0 : Nat) }) ∧ (¬why < (256 : Int) → K (Sum.inl (Sum.inl (Sum.inl (Value.bool false)))) { heap := [], ints := [], opqs := (0 : Nat), arrs := [], junks := (0 : Nat) })) ∧ (¬(0 : Int) ≤ why → K (Sum.inl (Sum.inl (Sum.inl (Value.bool false)))) { heap := [], ints := [], opqs := (0 : Nat), arrs := [], junks := (0 : Nat) })) ∧ (¬ticks < (1099511627776 : Int) → K (Sum.inl (Sum.inl (Sum.inl (Value.bool false)))) { heap := [], ints := [], opqs := (0 : Nat), arrs := [], junks := (0 : Nat) })) ∧ (¬(0 : Int) ≤ ticks → K (Sum.inl (Sum.inl (Sum.inl (Value.bool false)))) { heap := [], ints := [], opqs := (0 : Nat), arrs := [], junks := (0 : Nat) })) ∧ (¬mac < (281474976710656 : Int) → K (Sum.inl (Sum.inl (Sum.inl (Value.bool false)))) { heap := [], ints := [], opqs := (0 : Nat), arrs := [], junks := (0 : Nat) })) ∧ (¬U.Nm l → K (Sum.inl (Sum.inl (Sum.inl (Value.bool false)))) { heap := [], ints := [], opqs := (0 : Nat), arrs := [], junks := (0 : Nat) }))))))) := by kernel_rfl
theorem rmay10_vc (K : AV → St → Prop) (xid mac ip ticks nonce tag why : Int) (l : List Int) : (runI inv0 tTC 11 [msgK 10 xid mac ip ticks (strC l) nonce tag why] emptySt K) = ((¬xid = (0 : Int) → K (Sum.inl (Sum.inl (Sum.inl (Value.bool false)))) { heap := [], ints := [], opqs := (0 : Nat), arrs := [], junks := (0 : Nat) }) ∧ (¬¬xid = (0 : Int) → (¬mac = (0 : Int) → K (Sum.inl (Sum.inl (Sum.inl (Value.bool false)))) { heap := [], ints := [], opqs := (0 : Nat), arrs := [], junks := (0 : Nat) }) ∧ (¬¬mac = (0 : Int) → (¬ip = (0 : Int) → K (Sum.inl (Sum.inl (Sum.inl (Value.bool false)))) { heap := [], ints := [], opqs := (0 : Nat), arrs := [], junks := (0 : Nat) }) ∧ (¬¬ip = (0 : Int) → (¬nonce = (0 : Int) → K (Sum.inl (Sum.inl (Sum.inl (Value.bool false)))) { heap := [], ints := [], opqs := (0 : Nat), arrs := [], junks := (0 : Nat) }) ∧ (¬¬nonce = (0 : Int) → (¬tag = (0 : Int) → K (Sum.inl (Sum.inl (Sum.inl (Value.bool false)))) { heap := [], ints := [], opqs := (0 : Nat), arrs := [], junks := (0 : Nat) }) ∧ (¬¬tag = (0 : Int) → (¬why = (0 : Int) → K (Sum.inl (Sum.inl (Sum.inl (Value.bool false)))) { heap := [], ints := [], opqs := (0 : Nat), arrs := [], junks := (0 : Nat) }) ∧ (¬¬why = (0 : Int) → (U.Nm l → (mac < (281474976710656 : Int) → ((0 : Int) ≤ ticks → (ticks < (1099511627776 : Int) → ((0 : Int) ≤ why → (why < (256 : Int) → K (Sum.inl (Sum.inl (Sum.inl (Value.bool true)))) { heap := [], ints := [], opqs := (0 : Nat), arrs := [], junks := (0 : Nat) }) ∧ (¬why < (256 : Int) → K (Sum.inl (Sum.inl (Sum.inl (Value.bool false)))) { heap := [], ints := [], opqs := (0 : Nat), arrs := [], junks := (0 : Nat) })) ∧ (¬(0 : Int) ≤ why → K (Sum.inl (Sum.inl (Sum.inl (Value.bool false)))) { heap := [], ints := [], opqs := (0 : Nat), arrs := [], junks := (0 : Nat) })) ∧ (¬ticks < (1099511627776 : Int) → K (Sum.inl (Sum.inl (Sum.inl (Value.bool false)))) { heap := [], ints := [], opqs := (0 : Nat), arrs := [], junks := (0 : Nat) })) ∧ (¬(0 : Int) ≤ ticks → K (Sum.inl (Sum.inl (Sum.inl (Value.bool false)))) { heap := [], ints := [], opqs := (0 : Nat), arrs := [], junks := (0 : Nat) })) ∧ (¬mac < (281474976710656 : Int) → K (Sum.inl (Sum.inl (Sum.inl (Value.bool false)))) { heap := [], ints := [], opqs := (0 : Nat), arrs := [], junks := (0 : Nat) })) ∧ (¬U.Nm l → K (Sum.inl (Sum.inl (Sum.inl (Value.bool false)))) { heap := [], ints := [], opqs := (0 : Nat), arrs := [], junks := (0 : Nat) })))))))) := by kernel_rfl
theorem rmay11_vc (K : AV → St → Prop) (xid mac ip ticks nonce tag why : Int) (l : List Int) : (runI inv0 tTC 11 [msgK 11 xid mac ip ticks (strC l) nonce tag why] emptySt K) = ((¬xid = (0 : Int) → K (Sum.inl (Sum.inl (Sum.inl (Value.bool false)))) { heap := [], ints := [], opqs := (0 : Nat), arrs := [], junks := (0 : Nat) }) ∧ (¬¬xid = (0 : Int) → (¬mac = (0 : Int) → K (Sum.inl (Sum.inl (Sum.inl (Value.bool false)))) { heap := [], ints := [], opqs := (0 : Nat), arrs := [], junks := (0 : Nat) }) ∧ (¬¬mac = (0 : Int) → (¬ip = (0 : Int) → K (Sum.inl (Sum.inl (Sum.inl (Value.bool false)))) { heap := [], ints := [], opqs := (0 : Nat), arrs := [], junks := (0 : Nat) }) ∧ (¬¬ip = (0 : Int) → (¬ticks = (0 : Int) → K (Sum.inl (Sum.inl (Sum.inl (Value.bool false)))) { heap := [], ints := [], opqs := (0 : Nat), arrs := [], junks := (0 : Nat) }) ∧ (¬¬ticks = (0 : Int) → (¬nonce = (0 : Int) → K (Sum.inl (Sum.inl (Sum.inl (Value.bool false)))) { heap := [], ints := [], opqs := (0 : Nat), arrs := [], junks := (0 : Nat) }) ∧ (¬¬nonce = (0 : Int) → (¬tag = (0 : Int) → K (Sum.inl (Sum.inl (Sum.inl (Value.bool false)))) { heap := [], ints := [], opqs := (0 : Nat), arrs := [], junks := (0 : Nat) }) ∧ (¬¬tag = (0 : Int) → (U.Nm l → (mac < (281474976710656 : Int) → ((0 : Int) ≤ ticks → (ticks < (1099511627776 : Int) → ((0 : Int) ≤ why → (why < (256 : Int) → K (Sum.inl (Sum.inl (Sum.inl (Value.bool true)))) { heap := [], ints := [], opqs := (0 : Nat), arrs := [], junks := (0 : Nat) }) ∧ (¬why < (256 : Int) → K (Sum.inl (Sum.inl (Sum.inl (Value.bool false)))) { heap := [], ints := [], opqs := (0 : Nat), arrs := [], junks := (0 : Nat) })) ∧ (¬(0 : Int) ≤ why → K (Sum.inl (Sum.inl (Sum.inl (Value.bool false)))) { heap := [], ints := [], opqs := (0 : Nat), arrs := [], junks := (0 : Nat) })) ∧ (¬ticks < (1099511627776 : Int) → K (Sum.inl (Sum.inl (Sum.inl (Value.bool false)))) { heap := [], ints := [], opqs := (0 : Nat), arrs := [], junks := (0 : Nat) })) ∧ (¬(0 : Int) ≤ ticks → K (Sum.inl (Sum.inl (Sum.inl (Value.bool false)))) { heap := [], ints := [], opqs := (0 : Nat), arrs := [], junks := (0 : Nat) })) ∧ (¬mac < (281474976710656 : Int) → K (Sum.inl (Sum.inl (Sum.inl (Value.bool false)))) { heap := [], ints := [], opqs := (0 : Nat), arrs := [], junks := (0 : Nat) })) ∧ (¬U.Nm l → K (Sum.inl (Sum.inl (Sum.inl (Value.bool false)))) { heap := [], ints := [], opqs := (0 : Nat), arrs := [], junks := (0 : Nat) })))))))) := by kernel_rfl
theorem rmay12_vc (K : AV → St → Prop) (xid mac ip ticks nonce tag why : Int) (l : List Int) : (runI inv0 tTC 11 [msgK 12 xid mac ip ticks (strC l) nonce tag why] emptySt K) = ((¬xid = (0 : Int) → K (Sum.inl (Sum.inl (Sum.inl (Value.bool false)))) { heap := [], ints := [], opqs := (0 : Nat), arrs := [], junks := (0 : Nat) }) ∧ (¬¬xid = (0 : Int) → (¬mac = (0 : Int) → K (Sum.inl (Sum.inl (Sum.inl (Value.bool false)))) { heap := [], ints := [], opqs := (0 : Nat), arrs := [], junks := (0 : Nat) }) ∧ (¬¬mac = (0 : Int) → (¬ip = (0 : Int) → K (Sum.inl (Sum.inl (Sum.inl (Value.bool false)))) { heap := [], ints := [], opqs := (0 : Nat), arrs := [], junks := (0 : Nat) }) ∧ (¬¬ip = (0 : Int) → (¬ticks = (0 : Int) → K (Sum.inl (Sum.inl (Sum.inl (Value.bool false)))) { heap := [], ints := [], opqs := (0 : Nat), arrs := [], junks := (0 : Nat) }) ∧ (¬¬ticks = (0 : Int) → (¬why = (0 : Int) → K (Sum.inl (Sum.inl (Sum.inl (Value.bool false)))) { heap := [], ints := [], opqs := (0 : Nat), arrs := [], junks := (0 : Nat) }) ∧ (¬¬why = (0 : Int) → (U.Nm l → (mac < (281474976710656 : Int) → ((0 : Int) ≤ ticks → (ticks < (1099511627776 : Int) → ((0 : Int) ≤ why → (why < (256 : Int) → K (Sum.inl (Sum.inl (Sum.inl (Value.bool true)))) { heap := [], ints := [], opqs := (0 : Nat), arrs := [], junks := (0 : Nat) }) ∧ (¬why < (256 : Int) → K (Sum.inl (Sum.inl (Sum.inl (Value.bool false)))) { heap := [], ints := [], opqs := (0 : Nat), arrs := [], junks := (0 : Nat) })) ∧ (¬(0 : Int) ≤ why → K (Sum.inl (Sum.inl (Sum.inl (Value.bool false)))) { heap := [], ints := [], opqs := (0 : Nat), arrs := [], junks := (0 : Nat) })) ∧ (¬ticks < (1099511627776 : Int) → K (Sum.inl (Sum.inl (Sum.inl (Value.bool false)))) { heap := [], ints := [], opqs := (0 : Nat), arrs := [], junks := (0 : Nat) })) ∧ (¬(0 : Int) ≤ ticks → K (Sum.inl (Sum.inl (Sum.inl (Value.bool false)))) { heap := [], ints := [], opqs := (0 : Nat), arrs := [], junks := (0 : Nat) })) ∧ (¬mac < (281474976710656 : Int) → K (Sum.inl (Sum.inl (Sum.inl (Value.bool false)))) { heap := [], ints := [], opqs := (0 : Nat), arrs := [], junks := (0 : Nat) })) ∧ (¬U.Nm l → K (Sum.inl (Sum.inl (Sum.inl (Value.bool false)))) { heap := [], ints := [], opqs := (0 : Nat), arrs := [], junks := (0 : Nat) }))))))) := by kernel_rfl
end Go.Proofs.Ytpcnbhgifhiejaa
end

section
set_option linter.unusedVariables false
set_option linter.unusedSimpArgs false
namespace Go.Proofs.Ytpcnbhgifhiejaa
open Go Reck
theorem fit_of {v w B : Int} (h : (2 : Int) ^ w.toNat = B) : U.Fit v w ↔ v < B := by
  subst h
  exact ⟨fun h => h.out, fun h => ⟨h⟩⟩
theorem tmay1 {xid mac ip ticks nonce tag why : Int} {l : List Int} : U.TMay 1 xid mac ip ticks nonce tag why l ↔ (xid < 4294967296 ∧ mac < 281474976710656 ∧ ip < 1 ∧ (0 ≤ ticks ∧ ticks < 1) ∧ nonce < 1 ∧ tag < 1 ∧ (0 ≤ why ∧ why < 1) ∧ l = []) := by
  have f1 := fit_of (v := xid) (w := U.wx 1) (B := 4294967296) (by decide)
  have f2 := fit_of (v := mac) (w := U.wm 1) (B := 281474976710656) (by decide)
  have f3 := fit_of (v := ip) (w := U.wi 1) (B := 1) (by decide)
  have f4 := fit_of (v := ticks) (w := U.wt 1) (B := 1) (by decide)
  have f5 := fit_of (v := nonce) (w := U.wn 1) (B := 1) (by decide)
  have f6 := fit_of (v := tag) (w := U.wg 1) (B := 1) (by decide)
  have f7 := fit_of (v := why) (w := U.wy 1) (B := 1) (by decide)
  constructor
  · rintro ⟨_, h1, h2, h3, h4, h5, ⟨h6, h7⟩, h8, h9, ⟨h10, h11⟩⟩
    exact ⟨f1.1 h3, f2.1 h4, f3.1 h5, ⟨h6, f4.1 h7⟩, f5.1 h8, f6.1 h9, ⟨h10, f7.1 h11⟩, h2 (us_no (by decide))⟩
  · rintro ⟨h3, h4, h5, ⟨h6, h7⟩, h8, h9, ⟨h10, h11⟩, hu⟩
    exact ⟨by decide, fun h => absurd h (us_no (by decide)), fun _ => hu, f1.2 h3, f2.2 h4, f3.2 h5, ⟨h6, f4.2 h7⟩, f5.2 h8, f6.2 h9, ⟨h10, f7.2 h11⟩⟩
theorem rmay1_run (K : AV → St → Prop) (xid mac ip ticks nonce tag why : Int) (l : List Int) (hk : U.TKin xid mac ip ticks nonce tag why) (h1 : U.TMay 1 xid mac ip ticks nonce tag why l → K (lit (.bool true)) emptySt) (h2 : ¬ U.TMay 1 xid mac ip ticks nonce tag why l → K (lit (.bool false)) emptySt) :
    runI inv0 tTC 11 [msgK 1 xid mac ip ticks (strC l) nonce tag why] emptySt K := by
  rw [rmay1_vc]
  rw [tmay1] at h1 h2
  obtain ⟨k1, k2, k3, k4, k5, k6, k7⟩ := hk
  repeat' (first | intro _ | with_reducible apply And.intro)
  all_goals first
    | exact h1 ⟨by omega, by omega, by omega, ⟨by omega, by omega⟩, by omega, by omega, ⟨by omega, by omega⟩, by first | assumption | exact Classical.not_not.1 (by assumption)⟩
    | exact h2 (by rintro ⟨g1, g2, g3, ⟨g4, g5⟩, g6, g7, ⟨g8, g9⟩, g10⟩; first | omega | contradiction)
theorem tmay2 {xid mac ip ticks nonce tag why : Int} {l : List Int} : U.TMay 2 xid mac ip ticks nonce tag why l ↔ (xid < 4294967296 ∧ mac < 281474976710656 ∧ ip < 4294967296 ∧ (0 ≤ ticks ∧ ticks < 1099511627776) ∧ nonce < 1 ∧ tag < 1 ∧ (0 ≤ why ∧ why < 1) ∧ l = []) := by
  have f1 := fit_of (v := xid) (w := U.wx 2) (B := 4294967296) (by decide)
  have f2 := fit_of (v := mac) (w := U.wm 2) (B := 281474976710656) (by decide)
  have f3 := fit_of (v := ip) (w := U.wi 2) (B := 4294967296) (by decide)
  have f4 := fit_of (v := ticks) (w := U.wt 2) (B := 1099511627776) (by decide)
  have f5 := fit_of (v := nonce) (w := U.wn 2) (B := 1) (by decide)
  have f6 := fit_of (v := tag) (w := U.wg 2) (B := 1) (by decide)
  have f7 := fit_of (v := why) (w := U.wy 2) (B := 1) (by decide)
  constructor
  · rintro ⟨_, h1, h2, h3, h4, h5, ⟨h6, h7⟩, h8, h9, ⟨h10, h11⟩⟩
    exact ⟨f1.1 h3, f2.1 h4, f3.1 h5, ⟨h6, f4.1 h7⟩, f5.1 h8, f6.1 h9, ⟨h10, f7.1 h11⟩, h2 (us_no (by decide))⟩
  · rintro ⟨h3, h4, h5, ⟨h6, h7⟩, h8, h9, ⟨h10, h11⟩, hu⟩
    exact ⟨by decide, fun h => absurd h (us_no (by decide)), fun _ => hu, f1.2 h3, f2.2 h4, f3.2 h5, ⟨h6, f4.2 h7⟩, f5.2 h8, f6.2 h9, ⟨h10, f7.2 h11⟩⟩
theorem rmay2_run (K : AV → St → Prop) (xid mac ip ticks nonce tag why : Int) (l : List Int) (hk : U.TKin xid mac ip ticks nonce tag why) (h1 : U.TMay 2 xid mac ip ticks nonce tag why l → K (lit (.bool true)) emptySt) (h2 : ¬ U.TMay 2 xid mac ip ticks nonce tag why l → K (lit (.bool false)) emptySt) :
    runI inv0 tTC 11 [msgK 2 xid mac ip ticks (strC l) nonce tag why] emptySt K := by
  rw [rmay2_vc]
  rw [tmay2] at h1 h2
  obtain ⟨k1, k2, k3, k4, k5, k6, k7⟩ := hk
  repeat' (first | intro _ | with_reducible apply And.intro)
  all_goals first
    | exact h1 ⟨by omega, by omega, by omega, ⟨by omega, by omega⟩, by omega, by omega, ⟨by omega, by omega⟩, by first | assumption | exact Classical.not_not.1 (by assumption)⟩
    | exact h2 (by rintro ⟨g1, g2, g3, ⟨g4, g5⟩, g6, g7, ⟨g8, g9⟩, g10⟩; first | omega | contradiction)
theorem tmay3 {xid mac ip ticks nonce tag why : Int} {l : List Int} : U.TMay 3 xid mac ip ticks nonce tag why l ↔ (xid < 4294967296 ∧ mac < 281474976710656 ∧ ip < 4294967296 ∧ (0 ≤ ticks ∧ ticks < 1) ∧ nonce < 1 ∧ tag < 1 ∧ (0 ≤ why ∧ why < 1) ∧ l = []) := by
  have f1 := fit_of (v := xid) (w := U.wx 3) (B := 4294967296) (by decide)
  have f2 := fit_of (v := mac) (w := U.wm 3) (B := 281474976710656) (by decide)
  have f3 := fit_of (v := ip) (w := U.wi 3) (B := 4294967296) (by decide)
  have f4 := fit_of (v := ticks) (w := U.wt 3) (B := 1) (by decide)
  have f5 := fit_of (v := nonce) (w := U.wn 3) (B := 1) (by decide)
  have f6 := fit_of (v := tag) (w := U.wg 3) (B := 1) (by decide)
  have f7 := fit_of (v := why) (w := U.wy 3) (B := 1) (by decide)
  constructor
  · rintro ⟨_, h1, h2, h3, h4, h5, ⟨h6, h7⟩, h8, h9, ⟨h10, h11⟩⟩
    exact ⟨f1.1 h3, f2.1 h4, f3.1 h5, ⟨h6, f4.1 h7⟩, f5.1 h8, f6.1 h9, ⟨h10, f7.1 h11⟩, h2 (us_no (by decide))⟩
  · rintro ⟨h3, h4, h5, ⟨h6, h7⟩, h8, h9, ⟨h10, h11⟩, hu⟩
    exact ⟨by decide, fun h => absurd h (us_no (by decide)), fun _ => hu, f1.2 h3, f2.2 h4, f3.2 h5, ⟨h6, f4.2 h7⟩, f5.2 h8, f6.2 h9, ⟨h10, f7.2 h11⟩⟩
theorem rmay3_run (K : AV → St → Prop) (xid mac ip ticks nonce tag why : Int) (l : List Int) (hk : U.TKin xid mac ip ticks nonce tag why) (h1 : U.TMay 3 xid mac ip ticks nonce tag why l → K (lit (.bool true)) emptySt) (h2 : ¬ U.TMay 3 xid mac ip ticks nonce tag why l → K (lit (.bool false)) emptySt) :
    runI inv0 tTC 11 [msgK 3 xid mac ip ticks (strC l) nonce tag why] emptySt K := by
  rw [rmay3_vc]
  rw [tmay3] at h1 h2
  obtain ⟨k1, k2, k3, k4, k5, k6, k7⟩ := hk
  repeat' (first | intro _ | with_reducible apply And.intro)
  all_goals first
    | exact h1 ⟨by omega, by omega, by omega, ⟨by omega, by omega⟩, by omega, by omega, ⟨by omega, by omega⟩, by first | assumption | exact Classical.not_not.1 (by assumption)⟩
    | exact h2 (by rintro ⟨g1, g2, g3, ⟨g4, g5⟩, g6, g7, ⟨g8, g9⟩, g10⟩; first | omega | contradiction)
theorem tmay4 {xid mac ip ticks nonce tag why : Int} {l : List Int} : U.TMay 4 xid mac ip ticks nonce tag why l ↔ (xid < 4294967296 ∧ mac < 281474976710656 ∧ ip < 4294967296 ∧ (0 ≤ ticks ∧ ticks < 1099511627776) ∧ nonce < 1 ∧ tag < 1 ∧ (0 ≤ why ∧ why < 1) ∧ l = []) := by
  have f1 := fit_of (v := xid) (w := U.wx 4) (B := 4294967296) (by decide)
  have f2 := fit_of (v := mac) (w := U.wm 4) (B := 281474976710656) (by decide)
  have f3 := fit_of (v := ip) (w := U.wi 4) (B := 4294967296) (by decide)
  have f4 := fit_of (v := ticks) (w := U.wt 4) (B := 1099511627776) (by decide)
  have f5 := fit_of (v := nonce) (w := U.wn 4) (B := 1) (by decide)
  have f6 := fit_of (v := tag) (w := U.wg 4) (B := 1) (by decide)
  have f7 := fit_of (v := why) (w := U.wy 4) (B := 1) (by decide)
  constructor
  · rintro ⟨_, h1, h2, h3, h4, h5, ⟨h6, h7⟩, h8, h9, ⟨h10, h11⟩⟩
    exact ⟨f1.1 h3, f2.1 h4, f3.1 h5, ⟨h6, f4.1 h7⟩, f5.1 h8, f6.1 h9, ⟨h10, f7.1 h11⟩, h2 (us_no (by decide))⟩
  · rintro ⟨h3, h4, h5, ⟨h6, h7⟩, h8, h9, ⟨h10, h11⟩, hu⟩
    exact ⟨by decide, fun h => absurd h (us_no (by decide)), fun _ => hu, f1.2 h3, f2.2 h4, f3.2 h5, ⟨h6, f4.2 h7⟩, f5.2 h8, f6.2 h9, ⟨h10, f7.2 h11⟩⟩
theorem rmay4_run (K : AV → St → Prop) (xid mac ip ticks nonce tag why : Int) (l : List Int) (hk : U.TKin xid mac ip ticks nonce tag why) (h1 : U.TMay 4 xid mac ip ticks nonce tag why l → K (lit (.bool true)) emptySt) (h2 : ¬ U.TMay 4 xid mac ip ticks nonce tag why l → K (lit (.bool false)) emptySt) :
    runI inv0 tTC 11 [msgK 4 xid mac ip ticks (strC l) nonce tag why] emptySt K := by
  rw [rmay4_vc]
  rw [tmay4] at h1 h2
  obtain ⟨k1, k2, k3, k4, k5, k6, k7⟩ := hk
  repeat' (first | intro _ | with_reducible apply And.intro)
  all_goals first
    | exact h1 ⟨by omega, by omega, by omega, ⟨by omega, by omega⟩, by omega, by omega, ⟨by omega, by omega⟩, by first | assumption | exact Classical.not_not.1 (by assumption)⟩
    | exact h2 (by rintro ⟨g1, g2, g3, ⟨g4, g5⟩, g6, g7, ⟨g8, g9⟩, g10⟩; first | omega | contradiction)
theorem tmay5 {xid mac ip ticks nonce tag why : Int} {l : List Int} : U.TMay 5 xid mac ip ticks nonce tag why l ↔ (xid < 4294967296 ∧ mac < 281474976710656 ∧ ip < 1 ∧ (0 ≤ ticks ∧ ticks < 1) ∧ nonce < 1 ∧ tag < 1 ∧ (0 ≤ why ∧ why < 256) ∧ l = []) := by
  have f1 := fit_of (v := xid) (w := U.wx 5) (B := 4294967296) (by decide)
  have f2 := fit_of (v := mac) (w := U.wm 5) (B := 281474976710656) (by decide)
  have f3 := fit_of (v := ip) (w := U.wi 5) (B := 1) (by decide)
  have f4 := fit_of (v := ticks) (w := U.wt 5) (B := 1) (by decide)
  have f5 := fit_of (v := nonce) (w := U.wn 5) (B := 1) (by decide)
  have f6 := fit_of (v := tag) (w := U.wg 5) (B := 1) (by decide)
  have f7 := fit_of (v := why) (w := U.wy 5) (B := 256) (by decide)
  constructor
  · rintro ⟨_, h1, h2, h3, h4, h5, ⟨h6, h7⟩, h8, h9, ⟨h10, h11⟩⟩
    exact ⟨f1.1 h3, f2.1 h4, f3.1 h5, ⟨h6, f4.1 h7⟩, f5.1 h8, f6.1 h9, ⟨h10, f7.1 h11⟩, h2 (us_no (by decide))⟩
  · rintro ⟨h3, h4, h5, ⟨h6, h7⟩, h8, h9, ⟨h10, h11⟩, hu⟩
    exact ⟨by decide, fun h => absurd h (us_no (by decide)), fun _ => hu, f1.2 h3, f2.2 h4, f3.2 h5, ⟨h6, f4.2 h7⟩, f5.2 h8, f6.2 h9, ⟨h10, f7.2 h11⟩⟩
theorem rmay5_run (K : AV → St → Prop) (xid mac ip ticks nonce tag why : Int) (l : List Int) (hk : U.TKin xid mac ip ticks nonce tag why) (h1 : U.TMay 5 xid mac ip ticks nonce tag why l → K (lit (.bool true)) emptySt) (h2 : ¬ U.TMay 5 xid mac ip ticks nonce tag why l → K (lit (.bool false)) emptySt) :
    runI inv0 tTC 11 [msgK 5 xid mac ip ticks (strC l) nonce tag why] emptySt K := by
  rw [rmay5_vc]
  rw [tmay5] at h1 h2
  obtain ⟨k1, k2, k3, k4, k5, k6, k7⟩ := hk
  repeat' (first | intro _ | with_reducible apply And.intro)
  all_goals first
    | exact h1 ⟨by omega, by omega, by omega, ⟨by omega, by omega⟩, by omega, by omega, ⟨by omega, by omega⟩, by first | assumption | exact Classical.not_not.1 (by assumption)⟩
    | exact h2 (by rintro ⟨g1, g2, g3, ⟨g4, g5⟩, g6, g7, ⟨g8, g9⟩, g10⟩; first | omega | contradiction)
theorem tmay6 {xid mac ip ticks nonce tag why : Int} {l : List Int} : U.TMay 6 xid mac ip ticks nonce tag why l ↔ (xid < 1 ∧ mac < 281474976710656 ∧ ip < 4294967296 ∧ (0 ≤ ticks ∧ ticks < 1) ∧ nonce < 1 ∧ tag < 1 ∧ (0 ≤ why ∧ why < 1) ∧ l = []) := by
  have f1 := fit_of (v := xid) (w := U.wx 6) (B := 1) (by decide)
  have f2 := fit_of (v := mac) (w := U.wm 6) (B := 281474976710656) (by decide)
  have f3 := fit_of (v := ip) (w := U.wi 6) (B := 4294967296) (by decide)
  have f4 := fit_of (v := ticks) (w := U.wt 6) (B := 1) (by decide)
  have f5 := fit_of (v := nonce) (w := U.wn 6) (B := 1) (by decide)
  have f6 := fit_of (v := tag) (w := U.wg 6) (B := 1) (by decide)
  have f7 := fit_of (v := why) (w := U.wy 6) (B := 1) (by decide)
  constructor
  · rintro ⟨_, h1, h2, h3, h4, h5, ⟨h6, h7⟩, h8, h9, ⟨h10, h11⟩⟩
    exact ⟨f1.1 h3, f2.1 h4, f3.1 h5, ⟨h6, f4.1 h7⟩, f5.1 h8, f6.1 h9, ⟨h10, f7.1 h11⟩, h2 (us_no (by decide))⟩
  · rintro ⟨h3, h4, h5, ⟨h6, h7⟩, h8, h9, ⟨h10, h11⟩, hu⟩
    exact ⟨by decide, fun h => absurd h (us_no (by decide)), fun _ => hu, f1.2 h3, f2.2 h4, f3.2 h5, ⟨h6, f4.2 h7⟩, f5.2 h8, f6.2 h9, ⟨h10, f7.2 h11⟩⟩
theorem rmay6_run (K : AV → St → Prop) (xid mac ip ticks nonce tag why : Int) (l : List Int) (hk : U.TKin xid mac ip ticks nonce tag why) (h1 : U.TMay 6 xid mac ip ticks nonce tag why l → K (lit (.bool true)) emptySt) (h2 : ¬ U.TMay 6 xid mac ip ticks nonce tag why l → K (lit (.bool false)) emptySt) :
    runI inv0 tTC 11 [msgK 6 xid mac ip ticks (strC l) nonce tag why] emptySt K := by
  rw [rmay6_vc]
  rw [tmay6] at h1 h2
  obtain ⟨k1, k2, k3, k4, k5, k6, k7⟩ := hk
  repeat' (first | intro _ | with_reducible apply And.intro)
  all_goals first
    | exact h1 ⟨by omega, by omega, by omega, ⟨by omega, by omega⟩, by omega, by omega, ⟨by omega, by omega⟩, by first | assumption | exact Classical.not_not.1 (by assumption)⟩
    | exact h2 (by rintro ⟨g1, g2, g3, ⟨g4, g5⟩, g6, g7, ⟨g8, g9⟩, g10⟩; first | omega | contradiction)
theorem tmay7 {xid mac ip ticks nonce tag why : Int} {l : List Int} : U.TMay 7 xid mac ip ticks nonce tag why l ↔ (xid < 1 ∧ mac < 1 ∧ ip < 1 ∧ (0 ≤ ticks ∧ ticks < 1) ∧ nonce < 1 ∧ tag < 1 ∧ (0 ≤ why ∧ why < 1) ∧ U.Nm l) := by
  have f1 := fit_of (v := xid) (w := U.wx 7) (B := 1) (by decide)
  have f2 := fit_of (v := mac) (w := U.wm 7) (B := 1) (by decide)
  have f3 := fit_of (v := ip) (w := U.wi 7) (B := 1) (by decide)
  have f4 := fit_of (v := ticks) (w := U.wt 7) (B := 1) (by decide)
  have f5 := fit_of (v := nonce) (w := U.wn 7) (B := 1) (by decide)
  have f6 := fit_of (v := tag) (w := U.wg 7) (B := 1) (by decide)
  have f7 := fit_of (v := why) (w := U.wy 7) (B := 1) (by decide)
  constructor
  · rintro ⟨_, h1, h2, h3, h4, h5, ⟨h6, h7⟩, h8, h9, ⟨h10, h11⟩⟩
    exact ⟨f1.1 h3, f2.1 h4, f3.1 h5, ⟨h6, f4.1 h7⟩, f5.1 h8, f6.1 h9, ⟨h10, f7.1 h11⟩, h1 ⟨by decide⟩⟩
  · rintro ⟨h3, h4, h5, ⟨h6, h7⟩, h8, h9, ⟨h10, h11⟩, hu⟩
    exact ⟨by decide, fun _ => hu, fun h => absurd ⟨by decide⟩ h, f1.2 h3, f2.2 h4, f3.2 h5, ⟨h6, f4.2 h7⟩, f5.2 h8, f6.2 h9, ⟨h10, f7.2 h11⟩⟩
theorem rmay7_run (K : AV → St → Prop) (xid mac ip ticks nonce tag why : Int) (l : List Int) (hk : U.TKin xid mac ip ticks nonce tag why) (h1 : U.TMay 7 xid mac ip ticks nonce tag why l → K (lit (.bool true)) emptySt) (h2 : ¬ U.TMay 7 xid mac ip ticks nonce tag why l → K (lit (.bool false)) emptySt) :
    runI inv0 tTC 11 [msgK 7 xid mac ip ticks (strC l) nonce tag why] emptySt K := by
  rw [rmay7_vc]
  rw [tmay7] at h1 h2
  obtain ⟨k1, k2, k3, k4, k5, k6, k7⟩ := hk
  repeat' (first | intro _ | with_reducible apply And.intro)
  all_goals first
    | exact h1 ⟨by omega, by omega, by omega, ⟨by omega, by omega⟩, by omega, by omega, ⟨by omega, by omega⟩, by first | assumption | exact Classical.not_not.1 (by assumption)⟩
    | exact h2 (by rintro ⟨g1, g2, g3, ⟨g4, g5⟩, g6, g7, ⟨g8, g9⟩, g10⟩; first | omega | contradiction)
theorem tmay8 {xid mac ip ticks nonce tag why : Int} {l : List Int} : U.TMay 8 xid mac ip ticks nonce tag why l ↔ (xid < 1 ∧ mac < 1 ∧ ip < 1 ∧ (0 ≤ ticks ∧ ticks < 1) ∧ nonce < 18446744073709551616 ∧ tag < 1 ∧ (0 ≤ why ∧ why < 1) ∧ U.Nm l) := by
  have f1 := fit_of (v := xid) (w := U.wx 8) (B := 1) (by decide)
  have f2 := fit_of (v := mac) (w := U.wm 8) (B := 1) (by decide)
  have f3 := fit_of (v := ip) (w := U.wi 8) (B := 1) (by decide)
  have f4 := fit_of (v := ticks) (w := U.wt 8) (B := 1) (by decide)
  have f5 := fit_of (v := nonce) (w := U.wn 8) (B := 18446744073709551616) (by decide)
  have f6 := fit_of (v := tag) (w := U.wg 8) (B := 1) (by decide)
  have f7 := fit_of (v := why) (w := U.wy 8) (B := 1) (by decide)
  constructor
  · rintro ⟨_, h1, h2, h3, h4, h5, ⟨h6, h7⟩, h8, h9, ⟨h10, h11⟩⟩
    exact ⟨f1.1 h3, f2.1 h4, f3.1 h5, ⟨h6, f4.1 h7⟩, f5.1 h8, f6.1 h9, ⟨h10, f7.1 h11⟩, h1 ⟨by decide⟩⟩
  · rintro ⟨h3, h4, h5, ⟨h6, h7⟩, h8, h9, ⟨h10, h11⟩, hu⟩
    exact ⟨by decide, fun _ => hu, fun h => absurd ⟨by decide⟩ h, f1.2 h3, f2.2 h4, f3.2 h5, ⟨h6, f4.2 h7⟩, f5.2 h8, f6.2 h9, ⟨h10, f7.2 h11⟩⟩
theorem rmay8_run (K : AV → St → Prop) (xid mac ip ticks nonce tag why : Int) (l : List Int) (hk : U.TKin xid mac ip ticks nonce tag why) (h1 : U.TMay 8 xid mac ip ticks nonce tag why l → K (lit (.bool true)) emptySt) (h2 : ¬ U.TMay 8 xid mac ip ticks nonce tag why l → K (lit (.bool false)) emptySt) :
    runI inv0 tTC 11 [msgK 8 xid mac ip ticks (strC l) nonce tag why] emptySt K := by
  rw [rmay8_vc]
  rw [tmay8] at h1 h2
  obtain ⟨k1, k2, k3, k4, k5, k6, k7⟩ := hk
  repeat' (first | intro _ | with_reducible apply And.intro)
  all_goals first
    | exact h1 ⟨by omega, by omega, by omega, ⟨by omega, by omega⟩, by omega, by omega, ⟨by omega, by omega⟩, by first | assumption | exact Classical.not_not.1 (by assumption)⟩
    | exact h2 (by rintro ⟨g1, g2, g3, ⟨g4, g5⟩, g6, g7, ⟨g8, g9⟩, g10⟩; first | omega | contradiction)
theorem tmay9 {xid mac ip ticks nonce tag why : Int} {l : List Int} : U.TMay 9 xid mac ip ticks nonce tag why l ↔ (xid < 1 ∧ mac < 1 ∧ ip < 1 ∧ (0 ≤ ticks ∧ ticks < 1) ∧ nonce < 18446744073709551616 ∧ tag < 18446744073709551616 ∧ (0 ≤ why ∧ why < 1) ∧ U.Nm l) := by
  have f1 := fit_of (v := xid) (w := U.wx 9) (B := 1) (by decide)
  have f2 := fit_of (v := mac) (w := U.wm 9) (B := 1) (by decide)
  have f3 := fit_of (v := ip) (w := U.wi 9) (B := 1) (by decide)
  have f4 := fit_of (v := ticks) (w := U.wt 9) (B := 1) (by decide)
  have f5 := fit_of (v := nonce) (w := U.wn 9) (B := 18446744073709551616) (by decide)
  have f6 := fit_of (v := tag) (w := U.wg 9) (B := 18446744073709551616) (by decide)
  have f7 := fit_of (v := why) (w := U.wy 9) (B := 1) (by decide)
  constructor
  · rintro ⟨_, h1, h2, h3, h4, h5, ⟨h6, h7⟩, h8, h9, ⟨h10, h11⟩⟩
    exact ⟨f1.1 h3, f2.1 h4, f3.1 h5, ⟨h6, f4.1 h7⟩, f5.1 h8, f6.1 h9, ⟨h10, f7.1 h11⟩, h1 ⟨by decide⟩⟩
  · rintro ⟨h3, h4, h5, ⟨h6, h7⟩, h8, h9, ⟨h10, h11⟩, hu⟩
    exact ⟨by decide, fun _ => hu, fun h => absurd ⟨by decide⟩ h, f1.2 h3, f2.2 h4, f3.2 h5, ⟨h6, f4.2 h7⟩, f5.2 h8, f6.2 h9, ⟨h10, f7.2 h11⟩⟩
theorem rmay9_run (K : AV → St → Prop) (xid mac ip ticks nonce tag why : Int) (l : List Int) (hk : U.TKin xid mac ip ticks nonce tag why) (h1 : U.TMay 9 xid mac ip ticks nonce tag why l → K (lit (.bool true)) emptySt) (h2 : ¬ U.TMay 9 xid mac ip ticks nonce tag why l → K (lit (.bool false)) emptySt) :
    runI inv0 tTC 11 [msgK 9 xid mac ip ticks (strC l) nonce tag why] emptySt K := by
  rw [rmay9_vc]
  rw [tmay9] at h1 h2
  obtain ⟨k1, k2, k3, k4, k5, k6, k7⟩ := hk
  repeat' (first | intro _ | with_reducible apply And.intro)
  all_goals first
    | exact h1 ⟨by omega, by omega, by omega, ⟨by omega, by omega⟩, by omega, by omega, ⟨by omega, by omega⟩, by first | assumption | exact Classical.not_not.1 (by assumption)⟩
    | exact h2 (by rintro ⟨g1, g2, g3, ⟨g4, g5⟩, g6, g7, ⟨g8, g9⟩, g10⟩; first | omega | contradiction)
theorem tmay10 {xid mac ip ticks nonce tag why : Int} {l : List Int} : U.TMay 10 xid mac ip ticks nonce tag why l ↔ (xid < 1 ∧ mac < 1 ∧ ip < 1 ∧ (0 ≤ ticks ∧ ticks < 1099511627776) ∧ nonce < 1 ∧ tag < 1 ∧ (0 ≤ why ∧ why < 1) ∧ U.Nm l) := by
  have f1 := fit_of (v := xid) (w := U.wx 10) (B := 1) (by decide)
  have f2 := fit_of (v := mac) (w := U.wm 10) (B := 1) (by decide)
  have f3 := fit_of (v := ip) (w := U.wi 10) (B := 1) (by decide)
  have f4 := fit_of (v := ticks) (w := U.wt 10) (B := 1099511627776) (by decide)
  have f5 := fit_of (v := nonce) (w := U.wn 10) (B := 1) (by decide)
  have f6 := fit_of (v := tag) (w := U.wg 10) (B := 1) (by decide)
  have f7 := fit_of (v := why) (w := U.wy 10) (B := 1) (by decide)
  constructor
  · rintro ⟨_, h1, h2, h3, h4, h5, ⟨h6, h7⟩, h8, h9, ⟨h10, h11⟩⟩
    exact ⟨f1.1 h3, f2.1 h4, f3.1 h5, ⟨h6, f4.1 h7⟩, f5.1 h8, f6.1 h9, ⟨h10, f7.1 h11⟩, h1 ⟨by decide⟩⟩
  · rintro ⟨h3, h4, h5, ⟨h6, h7⟩, h8, h9, ⟨h10, h11⟩, hu⟩
    exact ⟨by decide, fun _ => hu, fun h => absurd ⟨by decide⟩ h, f1.2 h3, f2.2 h4, f3.2 h5, ⟨h6, f4.2 h7⟩, f5.2 h8, f6.2 h9, ⟨h10, f7.2 h11⟩⟩
theorem rmay10_run (K : AV → St → Prop) (xid mac ip ticks nonce tag why : Int) (l : List Int) (hk : U.TKin xid mac ip ticks nonce tag why) (h1 : U.TMay 10 xid mac ip ticks nonce tag why l → K (lit (.bool true)) emptySt) (h2 : ¬ U.TMay 10 xid mac ip ticks nonce tag why l → K (lit (.bool false)) emptySt) :
    runI inv0 tTC 11 [msgK 10 xid mac ip ticks (strC l) nonce tag why] emptySt K := by
  rw [rmay10_vc]
  rw [tmay10] at h1 h2
  obtain ⟨k1, k2, k3, k4, k5, k6, k7⟩ := hk
  repeat' (first | intro _ | with_reducible apply And.intro)
  all_goals first
    | exact h1 ⟨by omega, by omega, by omega, ⟨by omega, by omega⟩, by omega, by omega, ⟨by omega, by omega⟩, by first | assumption | exact Classical.not_not.1 (by assumption)⟩
    | exact h2 (by rintro ⟨g1, g2, g3, ⟨g4, g5⟩, g6, g7, ⟨g8, g9⟩, g10⟩; first | omega | contradiction)
theorem tmay11 {xid mac ip ticks nonce tag why : Int} {l : List Int} : U.TMay 11 xid mac ip ticks nonce tag why l ↔ (xid < 1 ∧ mac < 1 ∧ ip < 1 ∧ (0 ≤ ticks ∧ ticks < 1) ∧ nonce < 1 ∧ tag < 1 ∧ (0 ≤ why ∧ why < 256) ∧ U.Nm l) := by
  have f1 := fit_of (v := xid) (w := U.wx 11) (B := 1) (by decide)
  have f2 := fit_of (v := mac) (w := U.wm 11) (B := 1) (by decide)
  have f3 := fit_of (v := ip) (w := U.wi 11) (B := 1) (by decide)
  have f4 := fit_of (v := ticks) (w := U.wt 11) (B := 1) (by decide)
  have f5 := fit_of (v := nonce) (w := U.wn 11) (B := 1) (by decide)
  have f6 := fit_of (v := tag) (w := U.wg 11) (B := 1) (by decide)
  have f7 := fit_of (v := why) (w := U.wy 11) (B := 256) (by decide)
  constructor
  · rintro ⟨_, h1, h2, h3, h4, h5, ⟨h6, h7⟩, h8, h9, ⟨h10, h11⟩⟩
    exact ⟨f1.1 h3, f2.1 h4, f3.1 h5, ⟨h6, f4.1 h7⟩, f5.1 h8, f6.1 h9, ⟨h10, f7.1 h11⟩, h1 ⟨by decide⟩⟩
  · rintro ⟨h3, h4, h5, ⟨h6, h7⟩, h8, h9, ⟨h10, h11⟩, hu⟩
    exact ⟨by decide, fun _ => hu, fun h => absurd ⟨by decide⟩ h, f1.2 h3, f2.2 h4, f3.2 h5, ⟨h6, f4.2 h7⟩, f5.2 h8, f6.2 h9, ⟨h10, f7.2 h11⟩⟩
theorem rmay11_run (K : AV → St → Prop) (xid mac ip ticks nonce tag why : Int) (l : List Int) (hk : U.TKin xid mac ip ticks nonce tag why) (h1 : U.TMay 11 xid mac ip ticks nonce tag why l → K (lit (.bool true)) emptySt) (h2 : ¬ U.TMay 11 xid mac ip ticks nonce tag why l → K (lit (.bool false)) emptySt) :
    runI inv0 tTC 11 [msgK 11 xid mac ip ticks (strC l) nonce tag why] emptySt K := by
  rw [rmay11_vc]
  rw [tmay11] at h1 h2
  obtain ⟨k1, k2, k3, k4, k5, k6, k7⟩ := hk
  repeat' (first | intro _ | with_reducible apply And.intro)
  all_goals first
    | exact h1 ⟨by omega, by omega, by omega, ⟨by omega, by omega⟩, by omega, by omega, ⟨by omega, by omega⟩, by first | assumption | exact Classical.not_not.1 (by assumption)⟩
    | exact h2 (by rintro ⟨g1, g2, g3, ⟨g4, g5⟩, g6, g7, ⟨g8, g9⟩, g10⟩; first | omega | contradiction)
theorem tmay12 {xid mac ip ticks nonce tag why : Int} {l : List Int} : U.TMay 12 xid mac ip ticks nonce tag why l ↔ (xid < 1 ∧ mac < 1 ∧ ip < 1 ∧ (0 ≤ ticks ∧ ticks < 1) ∧ nonce < 18446744073709551616 ∧ tag < 18446744073709551616 ∧ (0 ≤ why ∧ why < 1) ∧ U.Nm l) := by
  have f1 := fit_of (v := xid) (w := U.wx 12) (B := 1) (by decide)
  have f2 := fit_of (v := mac) (w := U.wm 12) (B := 1) (by decide)
  have f3 := fit_of (v := ip) (w := U.wi 12) (B := 1) (by decide)
  have f4 := fit_of (v := ticks) (w := U.wt 12) (B := 1) (by decide)
  have f5 := fit_of (v := nonce) (w := U.wn 12) (B := 18446744073709551616) (by decide)
  have f6 := fit_of (v := tag) (w := U.wg 12) (B := 18446744073709551616) (by decide)
  have f7 := fit_of (v := why) (w := U.wy 12) (B := 1) (by decide)
  constructor
  · rintro ⟨_, h1, h2, h3, h4, h5, ⟨h6, h7⟩, h8, h9, ⟨h10, h11⟩⟩
    exact ⟨f1.1 h3, f2.1 h4, f3.1 h5, ⟨h6, f4.1 h7⟩, f5.1 h8, f6.1 h9, ⟨h10, f7.1 h11⟩, h1 ⟨by decide⟩⟩
  · rintro ⟨h3, h4, h5, ⟨h6, h7⟩, h8, h9, ⟨h10, h11⟩, hu⟩
    exact ⟨by decide, fun _ => hu, fun h => absurd ⟨by decide⟩ h, f1.2 h3, f2.2 h4, f3.2 h5, ⟨h6, f4.2 h7⟩, f5.2 h8, f6.2 h9, ⟨h10, f7.2 h11⟩⟩
theorem rmay12_run (K : AV → St → Prop) (xid mac ip ticks nonce tag why : Int) (l : List Int) (hk : U.TKin xid mac ip ticks nonce tag why) (h1 : U.TMay 12 xid mac ip ticks nonce tag why l → K (lit (.bool true)) emptySt) (h2 : ¬ U.TMay 12 xid mac ip ticks nonce tag why l → K (lit (.bool false)) emptySt) :
    runI inv0 tTC 11 [msgK 12 xid mac ip ticks (strC l) nonce tag why] emptySt K := by
  rw [rmay12_vc]
  rw [tmay12] at h1 h2
  obtain ⟨k1, k2, k3, k4, k5, k6, k7⟩ := hk
  repeat' (first | intro _ | with_reducible apply And.intro)
  all_goals first
    | exact h1 ⟨by omega, by omega, by omega, ⟨by omega, by omega⟩, by omega, by omega, ⟨by omega, by omega⟩, by first | assumption | exact Classical.not_not.1 (by assumption)⟩
    | exact h2 (by rintro ⟨g1, g2, g3, ⟨g4, g5⟩, g6, g7, ⟨g8, g9⟩, g10⟩; first | omega | contradiction)
end Go.Proofs.Ytpcnbhgifhiejaa
end

section
namespace Go.Proofs.Ytpcnbhgifhiejaa
open Go Reck
set_option linter.unusedVariables false
set_option maxRecDepth 100000
--PLAIN
theorem renc1_vc (K : AV → St → Prop) (xid mac ip ticks nonce tag why : Int) (l : List Int) : (runI inv0 tTC 17 [msgK 1 xid mac ip ticks (strC l) nonce tag why] emptySt K) = (∀ (l'0 : List Int), l'0 = [(79 : Int), (83 : Int), (1 : Int)] → ∀ (z1 : Int), z1 = IntKind.wrap IntKind.u64 xid → (((0 : Int) ≤ (4 : Int) ∧ (4 : Int) ≤ (1000 : Int)) ∧ (0 : Int) ≤ z1 ∧ z1 ≤ (18446744073709551615 : Int)) ∧ ∀ (m2 : Nat) (L3 : List Int), (↑m2 : Int) = (4 : Int) → L3 = U.nb (4 : Int) z1 → ((3 : Nat) ≤ List.length l'0 ∧ (3 : Nat) ≤ (3 : Nat)) ∧ Nat.le ((0 : Nat) + m2) (List.length L3) ∧ (3 : Nat) ≤ (16777216 : Nat) ∧ m2 ≤ (16777216 : Nat) ∧ ∀ (l'4 : List Int) (n'5 c'6 : Nat), l'4 = List.take (3 : Nat) (List.drop (0 : Nat) l'0) ++ List.take m2 (List.drop ((0 : Nat)) L3) → n'5 = (3 : Nat) + m2 → n'5 ≤ c'6 → (((0 : Int) ≤ (6 : Int) ∧ (6 : Int) ≤ (1000 : Int)) ∧ (0 : Int) ≤ mac ∧ mac ≤ (18446744073709551615 : Int)) ∧ ∀ (m7 : Nat) (L8 : List Int), (↑m7 : Int) = (6 : Int) → L8 = U.nb (6 : Int) mac → ((0 : Nat) + n'5 ≤ List.length l'4 ∧ (0 : Nat) + c'6 ≤ c'6) ∧ Nat.le ((0 : Nat) + m7) (List.length L8) ∧ n'5 ≤ (16777216 : Nat) ∧ m7 ≤ (16777216 : Nat) ∧ ∀ (l'9 : List Int) (n'10 c'11 : Nat), l'9 = List.take n'5 (List.drop ((0 : Nat)) l'4) ++ List.take m7 (List.drop ((0 : Nat)) L8) → n'10 = n'5 + m7 → n'10 ≤ c'11 → K (Sum.inl (Sum.inl (Sum.inr (Sum.inr (Sum.inr (Sum.inr (Sum.inr (Sum.inr (Sum.inr (Sum.inl { a := (0 : Nat), o := (0 : Nat), n := n'10, c := c'11 })))))))))) { heap := [], ints := [], opqs := (0 : Nat), arrs := [some { elem := (5 : Nat), k := AK.n IntKind.u8, l := l'9, cap := c'11, ro := false }], junks := (0 : Nat) }) := by kernel_rfl
theorem renc2_vc (K : AV → St → Prop) (xid mac ip ticks nonce tag why : Int) (l : List Int) : (runI inv0 tTC 17 [msgK 2 xid mac ip ticks (strC l) nonce tag why] emptySt K) = (∀ (l'0 : List Int), l'0 = [(79 : Int), (83 : Int), (2 : Int)] → ∀ (z1 : Int), z1 = IntKind.wrap IntKind.u64 xid → (((0 : Int) ≤ (4 : Int) ∧ (4 : Int) ≤ (1000 : Int)) ∧ (0 : Int) ≤ z1 ∧ z1 ≤ (18446744073709551615 : Int)) ∧ ∀ (m2 : Nat) (L3 : List Int), (↑m2 : Int) = (4 : Int) → L3 = U.nb (4 : Int) z1 → ((3 : Nat) ≤ List.length l'0 ∧ (3 : Nat) ≤ (3 : Nat)) ∧ Nat.le ((0 : Nat) + m2) (List.length L3) ∧ (3 : Nat) ≤ (16777216 : Nat) ∧ m2 ≤ (16777216 : Nat) ∧ ∀ (l'4 : List Int) (n'5 c'6 : Nat), l'4 = List.take (3 : Nat) (List.drop (0 : Nat) l'0) ++ List.take m2 (List.drop ((0 : Nat)) L3) → n'5 = (3 : Nat) + m2 → n'5 ≤ c'6 → (((0 : Int) ≤ (6 : Int) ∧ (6 : Int) ≤ (1000 : Int)) ∧ (0 : Int) ≤ mac ∧ mac ≤ (18446744073709551615 : Int)) ∧ ∀ (m7 : Nat) (L8 : List Int), (↑m7 : Int) = (6 : Int) → L8 = U.nb (6 : Int) mac → ((0 : Nat) + n'5 ≤ List.length l'4 ∧ (0 : Nat) + c'6 ≤ c'6) ∧ Nat.le ((0 : Nat) + m7) (List.length L8) ∧ n'5 ≤ (16777216 : Nat) ∧ m7 ≤ (16777216 : Nat) ∧ ∀ (l'9 : List Int) (n'10 c'11 : Nat), l'9 = List.take n'5 (List.drop ((0 : Nat)) l'4) ++ List.take m7 (List.drop ((0 : Nat)) L8) → n'10 = n'5 + m7 → n'10 ≤ c'11 → ∀ (z12 : Int), z12 = IntKind.wrap IntKind.u64 ip → (((0 : Int) ≤ (4 : Int) ∧ (4 : Int) ≤ (1000 : Int)) ∧ (0 : Int) ≤ z12 ∧ z12 ≤ (18446744073709551615 : Int)) ∧ ∀ (m13 : Nat) (L14 : List Int), (↑m13 : Int) = (4 : Int) → L14 = U.nb (4 : Int) z12 → ((0 : Nat) + n'10 ≤ List.length l'9 ∧ (0 : Nat) + c'11 ≤ c'11) ∧ Nat.le ((0 : Nat) + m13) (List.length L14) ∧ n'10 ≤ (16777216 : Nat) ∧ m13 ≤ (16777216 : Nat) ∧ ∀ (l'15 : List Int) (n'16 c'17 : Nat), l'15 = List.take n'10 (List.drop ((0 : Nat)) l'9) ++ List.take m13 (List.drop ((0 : Nat)) L14) → n'16 = n'10 + m13 → n'16 ≤ c'17 → ∀ (z18 : Int), z18 = IntKind.wrap IntKind.u64 ticks → (((0 : Int) ≤ (5 : Int) ∧ (5 : Int) ≤ (1000 : Int)) ∧ (0 : Int) ≤ z18 ∧ z18 ≤ (18446744073709551615 : Int)) ∧ ∀ (m19 : Nat) (L20 : List Int), (↑m19 : Int) = (5 : Int) → L20 = U.nb (5 : Int) z18 → ((0 : Nat) + n'16 ≤ List.length l'15 ∧ (0 : Nat) + c'17 ≤ c'17) ∧ Nat.le ((0 : Nat) + m19) (List.length L20) ∧ n'16 ≤ (16777216 : Nat) ∧ m19 ≤ (16777216 : Nat) ∧ ∀ (l'21 : List Int) (n'22 c'23 : Nat), l'21 = List.take n'16 (List.drop ((0 : Nat)) l'15) ++ List.take m19 (List.drop ((0 : Nat)) L20) → n'22 = n'16 + m19 → n'22 ≤ c'23 → K (Sum.inl (Sum.inl (Sum.inr (Sum.inr (Sum.inr (Sum.inr (Sum.inr (Sum.inr (Sum.inr (Sum.inl { a := (0 : Nat), o := (0 : Nat), n := n'22, c := c'23 })))))))))) { heap := [], ints := [], opqs := (0 : Nat), arrs := [some { elem := (5 : Nat), k := AK.n IntKind.u8, l := l'21, cap := c'23, ro := false }], junks := (0 : Nat) }) := by kernel_rfl
theorem renc3_vc (K : AV → St → Prop) (xid mac ip ticks nonce tag why : Int) (l : List Int) : (runI inv0 tTC 17 [msgK 3 xid mac ip ticks (strC l) nonce tag why] emptySt K) = (∀ (l'0 : List Int), l'0 = [(79 : Int), (83 : Int), (3 : Int)] → ∀ (z1 : Int), z1 = IntKind.wrap IntKind.u64 xid → (((0 : Int) ≤ (4 : Int) ∧ (4 : Int) ≤ (1000 : Int)) ∧ (0 : Int) ≤ z1 ∧ z1 ≤ (18446744073709551615 : Int)) ∧ ∀ (m2 : Nat) (L3 : List Int), (↑m2 : Int) = (4 : Int) → L3 = U.nb (4 : Int) z1 → ((3 : Nat) ≤ List.length l'0 ∧ (3 : Nat) ≤ (3 : Nat)) ∧ Nat.le ((0 : Nat) + m2) (List.length L3) ∧ (3 : Nat) ≤ (16777216 : Nat) ∧ m2 ≤ (16777216 : Nat) ∧ ∀ (l'4 : List Int) (n'5 c'6 : Nat), l'4 = List.take (3 : Nat) (List.drop (0 : Nat) l'0) ++ List.take m2 (List.drop ((0 : Nat)) L3) → n'5 = (3 : Nat) + m2 → n'5 ≤ c'6 → (((0 : Int) ≤ (6 : Int) ∧ (6 : Int) ≤ (1000 : Int)) ∧ (0 : Int) ≤ mac ∧ mac ≤ (18446744073709551615 : Int)) ∧ ∀ (m7 : Nat) (L8 : List Int), (↑m7 : Int) = (6 : Int) → L8 = U.nb (6 : Int) mac → ((0 : Nat) + n'5 ≤ List.length l'4 ∧ (0 : Nat) + c'6 ≤ c'6) ∧ Nat.le ((0 : Nat) + m7) (List.length L8) ∧ n'5 ≤ (16777216 : Nat) ∧ m7 ≤ (16777216 : Nat) ∧ ∀ (l'9 : List Int) (n'10 c'11 : Nat), l'9 = List.take n'5 (List.drop ((0 : Nat)) l'4) ++ List.take m7 (List.drop ((0 : Nat)) L8) → n'10 = n'5 + m7 → n'10 ≤ c'11 → ∀ (z12 : Int), z12 = IntKind.wrap IntKind.u64 ip → (((0 : Int) ≤ (4 : Int) ∧ (4 : Int) ≤ (1000 : Int)) ∧ (0 : Int) ≤ z12 ∧ z12 ≤ (18446744073709551615 : Int)) ∧ ∀ (m13 : Nat) (L14 : List Int), (↑m13 : Int) = (4 : Int) → L14 = U.nb (4 : Int) z12 → ((0 : Nat) + n'10 ≤ List.length l'9 ∧ (0 : Nat) + c'11 ≤ c'11) ∧ Nat.le ((0 : Nat) + m13) (List.length L14) ∧ n'10 ≤ (16777216 : Nat) ∧ m13 ≤ (16777216 : Nat) ∧ ∀ (l'15 : List Int) (n'16 c'17 : Nat), l'15 = List.take n'10 (List.drop ((0 : Nat)) l'9) ++ List.take m13 (List.drop ((0 : Nat)) L14) → n'16 = n'10 + m13 → n'16 ≤ c'17 → K (Sum.inl (Sum.inl (Sum.inr (Sum.inr (Sum.inr (Sum.inr (Sum.inr (Sum.inr (Sum.inr (Sum.inl { a := (0 : Nat), o := (0 : Nat), n := n'16, c := c'17 })))))))))) { heap := [], ints := [], opqs := (0 : Nat), arrs := [some { elem := (5 : Nat), k := AK.n IntKind.u8, l := l'15, cap := c'17, ro := false }], junks := (0 : Nat) }) := by kernel_rfl
theorem renc4_vc (K : AV → St → Prop) (xid mac ip ticks nonce tag why : Int) (l : List Int) : (runI inv0 tTC 17 [msgK 4 xid mac ip ticks (strC l) nonce tag why] emptySt K) = (∀ (l'0 : List Int), l'0 = [(79 : Int), (83 : Int), (4 : Int)] → ∀ (z1 : Int), z1 = IntKind.wrap IntKind.u64 xid → (((0 : Int) ≤ (4 : Int) ∧ (4 : Int) ≤ (1000 : Int)) ∧ (0 : Int) ≤ z1 ∧ z1 ≤ (18446744073709551615 : Int)) ∧ ∀ (m2 : Nat) (L3 : List Int), (↑m2 : Int) = (4 : Int) → L3 = U.nb (4 : Int) z1 → ((3 : Nat) ≤ List.length l'0 ∧ (3 : Nat) ≤ (3 : Nat)) ∧ Nat.le ((0 : Nat) + m2) (List.length L3) ∧ (3 : Nat) ≤ (16777216 : Nat) ∧ m2 ≤ (16777216 : Nat) ∧ ∀ (l'4 : List Int) (n'5 c'6 : Nat), l'4 = List.take (3 : Nat) (List.drop (0 : Nat) l'0) ++ List.take m2 (List.drop ((0 : Nat)) L3) → n'5 = (3 : Nat) + m2 → n'5 ≤ c'6 → (((0 : Int) ≤ (6 : Int) ∧ (6 : Int) ≤ (1000 : Int)) ∧ (0 : Int) ≤ mac ∧ mac ≤ (18446744073709551615 : Int)) ∧ ∀ (m7 : Nat) (L8 : List Int), (↑m7 : Int) = (6 : Int) → L8 = U.nb (6 : Int) mac → ((0 : Nat) + n'5 ≤ List.length l'4 ∧ (0 : Nat) + c'6 ≤ c'6) ∧ Nat.le ((0 : Nat) + m7) (List.length L8) ∧ n'5 ≤ (16777216 : Nat) ∧ m7 ≤ (16777216 : Nat) ∧ ∀ (l'9 : List Int) (n'10 c'11 : Nat), l'9 = List.take n'5 (List.drop ((0 : Nat)) l'4) ++ List.take m7 (List.drop ((0 : Nat)) L8) → n'10 = n'5 + m7 → n'10 ≤ c'11 → ∀ (z12 : Int), z12 = IntKind.wrap IntKind.u64 ip → (((0 : Int) ≤ (4 : Int) ∧ (4 : Int) ≤ (1000 : Int)) ∧ (0 : Int) ≤ z12 ∧ z12 ≤ (18446744073709551615 : Int)) ∧ ∀ (m13 : Nat) (L14 : List Int), (↑m13 : Int) = (4 : Int) → L14 = U.nb (4 : Int) z12 → ((0 : Nat) + n'10 ≤ List.length l'9 ∧ (0 : Nat) + c'11 ≤ c'11) ∧ Nat.le ((0 : Nat) + m13) (List.length L14) ∧ n'10 ≤ (16777216 : Nat) ∧ m13 ≤ (16777216 : Nat) ∧ ∀ (l'15 : List Int) (n'16 c'17 : Nat), l'15 = List.take n'10 (List.drop ((0 : Nat)) l'9) ++ List.take m13 (List.drop ((0 : Nat)) L14) → n'16 = n'10 + m13 → n'16 ≤ c'17 → ∀ (z18 : Int), z18 = IntKind.wrap IntKind.u64 ticks → (((0 : Int) ≤ (5 : Int) ∧ (5 : Int) ≤ (1000 : Int)) ∧ (0 : Int) ≤ z18 ∧ z18 ≤ (18446744073709551615 : Int)) ∧ ∀ (m19 : Nat) (L20 : List Int), (↑m19 : Int) = (5 : Int) → L20 = U.nb (5 : Int) z18 → ((0 : Nat) + n'16 ≤ List.length l'15 ∧ (0 : Nat) + c'17 ≤ c'17) ∧ Nat.le ((0 : Nat) + m19) (List.length L20) ∧ n'16 ≤ (16777216 : Nat) ∧ m19 ≤ (16777216 : Nat) ∧ ∀ (l'21 : List Int) (n'22 c'23 : Nat), l'21 = List.take n'16 (List.drop ((0 : Nat)) l'15) ++ List.take m19 (List.drop ((0 : Nat)) L20) → n'22 = n'16 + m19 → n'22 ≤ c'23 → K (Sum.inl (Sum.inl (Sum.inr (Sum.inr (Sum.inr (Sum.inr (Sum.inr (Sum.inr (Sum.inr (Sum.inl { a := (0 : Nat), o := (0 : Nat), n := n'22, c := c'23 })))))))))) { heap := [], ints := [], opqs := (0 : Nat), arrs := [some { elem := (5 : Nat), k := AK.n IntKind.u8, l := l'21, cap := c'23, ro := false }], junks := (0 : Nat) }) := by kernel_rfl
theorem renc5_vc (K : AV → St → Prop) (xid mac ip ticks nonce tag why : Int) (l : List Int) : (runI inv0 tTC 17 [msgK 5 xid mac ip ticks (strC l) nonce tag why] emptySt K) = (∀ (l'0 : List Int), l'0 = [(79 : Int), (83 : Int), (5 : Int)] → ∀ (z1 : Int), z1 = IntKind.wrap IntKind.u64 xid → (((0 : Int) ≤ (4 : Int) ∧ (4 : Int) ≤ (1000 : Int)) ∧ (0 : Int) ≤ z1 ∧ z1 ≤ (18446744073709551615 : Int)) ∧ ∀ (m2 : Nat) (L3 : List Int), (↑m2 : Int) = (4 : Int) → L3 = U.nb (4 : Int) z1 → ((3 : Nat) ≤ List.length l'0 ∧ (3 : Nat) ≤ (3 : Nat)) ∧ Nat.le ((0 : Nat) + m2) (List.length L3) ∧ (3 : Nat) ≤ (16777216 : Nat) ∧ m2 ≤ (16777216 : Nat) ∧ ∀ (l'4 : List Int) (n'5 c'6 : Nat), l'4 = List.take (3 : Nat) (List.drop (0 : Nat) l'0) ++ List.take m2 (List.drop ((0 : Nat)) L3) → n'5 = (3 : Nat) + m2 → n'5 ≤ c'6 → (((0 : Int) ≤ (6 : Int) ∧ (6 : Int) ≤ (1000 : Int)) ∧ (0 : Int) ≤ mac ∧ mac ≤ (18446744073709551615 : Int)) ∧ ∀ (m7 : Nat) (L8 : List Int), (↑m7 : Int) = (6 : Int) → L8 = U.nb (6 : Int) mac → ((0 : Nat) + n'5 ≤ List.length l'4 ∧ (0 : Nat) + c'6 ≤ c'6) ∧ Nat.le ((0 : Nat) + m7) (List.length L8) ∧ n'5 ≤ (16777216 : Nat) ∧ m7 ≤ (16777216 : Nat) ∧ ∀ (l'9 : List Int) (n'10 c'11 : Nat), l'9 = List.take n'5 (List.drop ((0 : Nat)) l'4) ++ List.take m7 (List.drop ((0 : Nat)) L8) → n'10 = n'5 + m7 → n'10 ≤ c'11 → ∀ (z12 : Int), z12 = IntKind.wrap IntKind.u8 why → ∀ (l'13 : List Int), l'13 = [z12] → ((0 : Nat) + n'10 ≤ List.length l'9 ∧ (0 : Nat) + c'11 ≤ c'11) ∧ Nat.le (1 : Nat) (List.length l'13) ∧ n'10 ≤ (16777216 : Nat) ∧ (1 : Nat) ≤ (16777216 : Nat) ∧ ∀ (l'14 : List Int) (n'15 c'16 : Nat), l'14 = List.take n'10 (List.drop ((0 : Nat)) l'9) ++ List.take (1 : Nat) (List.drop (0 : Nat) l'13) → n'15 = n'10 + (1 : Nat) → n'15 ≤ c'16 → K (Sum.inl (Sum.inl (Sum.inr (Sum.inr (Sum.inr (Sum.inr (Sum.inr (Sum.inr (Sum.inr (Sum.inl { a := (0 : Nat), o := (0 : Nat), n := n'15, c := c'16 })))))))))) { heap := [], ints := [], opqs := (0 : Nat), arrs := [some { elem := (5 : Nat), k := AK.n IntKind.u8, l := l'14, cap := c'16, ro := false }], junks := (0 : Nat) }) := by kernel_rfl
theorem renc6_vc (K : AV → St → Prop) (xid mac ip ticks nonce tag why : Int) (l : List Int) : (runI inv0 tTC 17 [msgK 6 xid mac ip ticks (strC l) nonce tag why] emptySt K) = (∀ (l'0 : List Int), l'0 = [(79 : Int), (83 : Int), (6 : Int)] → (((0 : Int) ≤ (6 : Int) ∧ (6 : Int) ≤ (1000 : Int)) ∧ (0 : Int) ≤ mac ∧ mac ≤ (18446744073709551615 : Int)) ∧ ∀ (m1 : Nat) (L2 : List Int), (↑m1 : Int) = (6 : Int) → L2 = U.nb (6 : Int) mac → ((3 : Nat) ≤ List.length l'0 ∧ (3 : Nat) ≤ (3 : Nat)) ∧ Nat.le ((0 : Nat) + m1) (List.length L2) ∧ (3 : Nat) ≤ (16777216 : Nat) ∧ m1 ≤ (16777216 : Nat) ∧ ∀ (l'3 : List Int) (n'4 c'5 : Nat), l'3 = List.take (3 : Nat) (List.drop (0 : Nat) l'0) ++ List.take m1 (List.drop ((0 : Nat)) L2) → n'4 = (3 : Nat) + m1 → n'4 ≤ c'5 → ∀ (z6 : Int), z6 = IntKind.wrap IntKind.u64 ip → (((0 : Int) ≤ (4 : Int) ∧ (4 : Int) ≤ (1000 : Int)) ∧ (0 : Int) ≤ z6 ∧ z6 ≤ (18446744073709551615 : Int)) ∧ ∀ (m7 : Nat) (L8 : List Int), (↑m7 : Int) = (4 : Int) → L8 = U.nb (4 : Int) z6 → ((0 : Nat) + n'4 ≤ List.length l'3 ∧ (0 : Nat) + c'5 ≤ c'5) ∧ Nat.le ((0 : Nat) + m7) (List.length L8) ∧ n'4 ≤ (16777216 : Nat) ∧ m7 ≤ (16777216 : Nat) ∧ ∀ (l'9 : List Int) (n'10 c'11 : Nat), l'9 = List.take n'4 (List.drop ((0 : Nat)) l'3) ++ List.take m7 (List.drop ((0 : Nat)) L8) → n'10 = n'4 + m7 → n'10 ≤ c'11 → K (Sum.inl (Sum.inl (Sum.inr (Sum.inr (Sum.inr (Sum.inr (Sum.inr (Sum.inr (Sum.inr (Sum.inl { a := (0 : Nat), o := (0 : Nat), n := n'10, c := c'11 })))))))))) { heap := [], ints := [], opqs := (0 : Nat), arrs := [some { elem := (5 : Nat), k := AK.n IntKind.u8, l := l'9, cap := c'11, ro := false }], junks := (0 : Nat) }) := by kernel_rfl
theorem renc7_vc (K : AV → St → Prop) (xid mac ip ticks nonce tag why : Int) (l : List Int) : (runI inv0 tTC 17 [msgK 7 xid mac ip ticks (strC l) nonce tag why] emptySt K) = (∀ (l'0 : List Int), l'0 = [(79 : Int), (83 : Int), (7 : Int)] → ∀ (z1 : Int), z1 = (↑(List.length l) : Int) → ∀ (z2 : Int), z2 = IntKind.wrap IntKind.u8 z1 → ∀ (l'3 : List Int), l'3 = [z2] → l = l ∧ l = l ∧ ((3 : Nat) ≤ List.length l'0 ∧ (3 : Nat) ≤ (3 : Nat)) ∧ Nat.le (1 : Nat) (List.length l'3) ∧ (3 : Nat) ≤ (16777216 : Nat) ∧ (1 : Nat) ≤ (16777216 : Nat) ∧ ∀ (l'4 : List Int) (n'5 c'6 : Nat), l'4 = List.take (3 : Nat) (List.drop (0 : Nat) l'0) ++ List.take (1 : Nat) (List.drop (0 : Nat) l'3) → n'5 = (3 : Nat) + (1 : Nat) → n'5 ≤ c'6 → l = l ∧ l = l ∧ ((0 : Nat) + n'5 ≤ List.length l'4 ∧ (0 : Nat) + c'6 ≤ c'6) ∧ True ∧ n'5 ≤ (16777216 : Nat) ∧ List.length l ≤ (16777216 : Nat) ∧ ∀ (l'7 : List Int) (n'8 c'9 : Nat), l'7 = List.take n'5 (List.drop ((0 : Nat)) l'4) ++ l → n'8 = n'5 + List.length l → n'8 ≤ c'9 → l = l ∧ l = l ∧ K (Sum.inl (Sum.inl (Sum.inr (Sum.inr (Sum.inr (Sum.inr (Sum.inr (Sum.inr (Sum.inr (Sum.inl { a := (0 : Nat), o := (0 : Nat), n := n'8, c := c'9 })))))))))) { heap := [], ints := [], opqs := (0 : Nat), arrs := [some { elem := (5 : Nat), k := AK.n IntKind.u8, l := l'7, cap := c'9, ro := false }], junks := (0 : Nat) }) := by kernel_rfl
theorem renc8_vc (K : AV → St → Prop) (xid mac ip ticks nonce tag why : Int) (l : List Int) : (runI inv0 tTC 17 [msgK 8 xid mac ip ticks (strC l) nonce tag why] emptySt K) = (∀ (l'0 : List Int), l'0 = [(79 : Int), (83 : Int), (8 : Int)] → ∀ (z1 : Int), z1 = (↑(List.length l) : Int) → ∀ (z2 : Int), z2 = IntKind.wrap IntKind.u8 z1 → ∀ (l'3 : List Int), l'3 = [z2] → l = l ∧ l = l ∧ ((3 : Nat) ≤ List.length l'0 ∧ (3 : Nat) ≤ (3 : Nat)) ∧ Nat.le (1 : Nat) (List.length l'3) ∧ (3 : Nat) ≤ (16777216 : Nat) ∧ (1 : Nat) ≤ (16777216 : Nat) ∧ ∀ (l'4 : List Int) (n'5 c'6 : Nat), l'4 = List.take (3 : Nat) (List.drop (0 : Nat) l'0) ++ List.take (1 : Nat) (List.drop (0 : Nat) l'3) → n'5 = (3 : Nat) + (1 : Nat) → n'5 ≤ c'6 → l = l ∧ l = l ∧ ((0 : Nat) + n'5 ≤ List.length l'4 ∧ (0 : Nat) + c'6 ≤ c'6) ∧ True ∧ n'5 ≤ (16777216 : Nat) ∧ List.length l ≤ (16777216 : Nat) ∧ ∀ (l'7 : List Int) (n'8 c'9 : Nat), l'7 = List.take n'5 (List.drop ((0 : Nat)) l'4) ++ l → n'8 = n'5 + List.length l → n'8 ≤ c'9 → l = l ∧ l = l ∧ (((0 : Int) ≤ (8 : Int) ∧ (8 : Int) ≤ (1000 : Int)) ∧ (0 : Int) ≤ nonce ∧ nonce ≤ (18446744073709551615 : Int)) ∧ ∀ (m10 : Nat) (L11 : List Int), (↑m10 : Int) = (8 : Int) → L11 = U.nb (8 : Int) nonce → ((0 : Nat) + n'8 ≤ List.length l'7 ∧ (0 : Nat) + c'9 ≤ c'9) ∧ Nat.le ((0 : Nat) + m10) (List.length L11) ∧ n'8 ≤ (16777216 : Nat) ∧ m10 ≤ (16777216 : Nat) ∧ ∀ (l'12 : List Int) (n'13 c'14 : Nat), l'12 = List.take n'8 (List.drop ((0 : Nat)) l'7) ++ List.take m10 (List.drop ((0 : Nat)) L11) → n'13 = n'8 + m10 → n'13 ≤ c'14 → K (Sum.inl (Sum.inl (Sum.inr (Sum.inr (Sum.inr (Sum.inr (Sum.inr (Sum.inr (Sum.inr (Sum.inl { a := (0 : Nat), o := (0 : Nat), n := n'13, c := c'14 })))))))))) { heap := [], ints := [], opqs := (0 : Nat), arrs := [some { elem := (5 : Nat), k := AK.n IntKind.u8, l := l'12, cap := c'14, ro := false }], junks := (0 : Nat) }) := by kernel_rfl
theorem renc9_vc (K : AV → St → Prop) (xid mac ip ticks nonce tag why : Int) (l : List Int) : (runI inv0 tTC 17 [msgK 9 xid mac ip ticks (strC l) nonce tag why] emptySt K) = (∀ (l'0 : List Int), l'0 = [(79 : Int), (83 : Int), (9 : Int)] → ∀ (z1 : Int), z1 = (↑(List.length l) : Int) → ∀ (z2 : Int), z2 = IntKind.wrap IntKind.u8 z1 → ∀ (l'3 : List Int), l'3 = [z2] → l = l ∧ l = l ∧ ((3 : Nat) ≤ List.length l'0 ∧ (3 : Nat) ≤ (3 : Nat)) ∧ Nat.le (1 : Nat) (List.length l'3) ∧ (3 : Nat) ≤ (16777216 : Nat) ∧ (1 : Nat) ≤ (16777216 : Nat) ∧ ∀ (l'4 : List Int) (n'5 c'6 : Nat), l'4 = List.take (3 : Nat) (List.drop (0 : Nat) l'0) ++ List.take (1 : Nat) (List.drop (0 : Nat) l'3) → n'5 = (3 : Nat) + (1 : Nat) → n'5 ≤ c'6 → l = l ∧ l = l ∧ ((0 : Nat) + n'5 ≤ List.length l'4 ∧ (0 : Nat) + c'6 ≤ c'6) ∧ True ∧ n'5 ≤ (16777216 : Nat) ∧ List.length l ≤ (16777216 : Nat) ∧ ∀ (l'7 : List Int) (n'8 c'9 : Nat), l'7 = List.take n'5 (List.drop ((0 : Nat)) l'4) ++ l → n'8 = n'5 + List.length l → n'8 ≤ c'9 → l = l ∧ l = l ∧ (((0 : Int) ≤ (8 : Int) ∧ (8 : Int) ≤ (1000 : Int)) ∧ (0 : Int) ≤ nonce ∧ nonce ≤ (18446744073709551615 : Int)) ∧ ∀ (m10 : Nat) (L11 : List Int), (↑m10 : Int) = (8 : Int) → L11 = U.nb (8 : Int) nonce → ((0 : Nat) + n'8 ≤ List.length l'7 ∧ (0 : Nat) + c'9 ≤ c'9) ∧ Nat.le ((0 : Nat) + m10) (List.length L11) ∧ n'8 ≤ (16777216 : Nat) ∧ m10 ≤ (16777216 : Nat) ∧ ∀ (l'12 : List Int) (n'13 c'14 : Nat), l'12 = List.take n'8 (List.drop ((0 : Nat)) l'7) ++ List.take m10 (List.drop ((0 : Nat)) L11) → n'13 = n'8 + m10 → n'13 ≤ c'14 → (((0 : Int) ≤ (8 : Int) ∧ (8 : Int) ≤ (1000 : Int)) ∧ (0 : Int) ≤ tag ∧ tag ≤ (18446744073709551615 : Int)) ∧ ∀ (m15 : Nat) (L16 : List Int), (↑m15 : Int) = (8 : Int) → L16 = U.nb (8 : Int) tag → ((0 : Nat) + n'13 ≤ List.length l'12 ∧ (0 : Nat) + c'14 ≤ c'14) ∧ Nat.le ((0 : Nat) + m15) (List.length L16) ∧ n'13 ≤ (16777216 : Nat) ∧ m15 ≤ (16777216 : Nat) ∧ ∀ (l'17 : List Int) (n'18 c'19 : Nat), l'17 = List.take n'13 (List.drop ((0 : Nat)) l'12) ++ List.take m15 (List.drop ((0 : Nat)) L16) → n'18 = n'13 + m15 → n'18 ≤ c'19 → K (Sum.inl (Sum.inl (Sum.inr (Sum.inr (Sum.inr (Sum.inr (Sum.inr (Sum.inr (Sum.inr (Sum.inl { a := (0 : Nat), o := (0 : Nat), n := n'18, c := c'19 })))))))))) { heap := [], ints := [], opqs := (0 : Nat), arrs := [some { elem := (5 : Nat), k := AK.n IntKind.u8, l := l'17, cap := c'19, ro := false }], junks := (0 : Nat) }) := by kernel_rfl
theorem renc10_vc (K : AV → St → Prop) (xid mac ip ticks nonce tag why : Int) (l : List Int) : (runI inv0 tTC 17 [msgK 10 xid mac ip ticks (strC l) nonce tag why] emptySt K) = (∀ (l'0 : List Int), l'0 = [(79 : Int), (83 : Int), (10 : Int)] → ∀ (z1 : Int), z1 = IntKind.wrap IntKind.u64 ticks → (((0 : Int) ≤ (5 : Int) ∧ (5 : Int) ≤ (1000 : Int)) ∧ (0 : Int) ≤ z1 ∧ z1 ≤ (18446744073709551615 : Int)) ∧ ∀ (m2 : Nat) (L3 : List Int), (↑m2 : Int) = (5 : Int) → L3 = U.nb (5 : Int) z1 → ((3 : Nat) ≤ List.length l'0 ∧ (3 : Nat) ≤ (3 : Nat)) ∧ Nat.le ((0 : Nat) + m2) (List.length L3) ∧ (3 : Nat) ≤ (16777216 : Nat) ∧ m2 ≤ (16777216 : Nat) ∧ ∀ (l'4 : List Int) (n'5 c'6 : Nat), l'4 = List.take (3 : Nat) (List.drop (0 : Nat) l'0) ++ List.take m2 (List.drop ((0 : Nat)) L3) → n'5 = (3 : Nat) + m2 → n'5 ≤ c'6 → ∀ (z7 : Int), z7 = (↑(List.length l) : Int) → ∀ (z8 : Int), z8 = IntKind.wrap IntKind.u8 z7 → ∀ (l'9 : List Int), l'9 = [z8] → l = l ∧ l = l ∧ ((0 : Nat) + n'5 ≤ List.length l'4 ∧ (0 : Nat) + c'6 ≤ c'6) ∧ Nat.le (1 : Nat) (List.length l'9) ∧ n'5 ≤ (16777216 : Nat) ∧ (1 : Nat) ≤ (16777216 : Nat) ∧ ∀ (l'10 : List Int) (n'11 c'12 : Nat), l'10 = List.take n'5 (List.drop ((0 : Nat)) l'4) ++ List.take (1 : Nat) (List.drop (0 : Nat) l'9) → n'11 = n'5 + (1 : Nat) → n'11 ≤ c'12 → l = l ∧ l = l ∧ ((0 : Nat) + n'11 ≤ List.length l'10 ∧ (0 : Nat) + c'12 ≤ c'12) ∧ True ∧ n'11 ≤ (16777216 : Nat) ∧ List.length l ≤ (16777216 : Nat) ∧ ∀ (l'13 : List Int) (n'14 c'15 : Nat), l'13 = List.take n'11 (List.drop ((0 : Nat)) l'10) ++ l → n'14 = n'11 + List.length l → n'14 ≤ c'15 → l = l ∧ l = l ∧ K (Sum.inl (Sum.inl (Sum.inr (Sum.inr (Sum.inr (Sum.inr (Sum.inr (Sum.inr (Sum.inr (Sum.inl { a := (0 : Nat), o := (0 : Nat), n := n'14, c := c'15 })))))))))) { heap := [], ints := [], opqs := (0 : Nat), arrs := [some { elem := (5 : Nat), k := AK.n IntKind.u8, l := l'13, cap := c'15, ro := false }], junks := (0 : Nat) }) := by kernel_rfl
theorem renc11_vc (K : AV → St → Prop) (xid mac ip ticks nonce tag why : Int) (l : List Int) : (runI inv0 tTC 17 [msgK 11 xid mac ip ticks (strC l) nonce tag why] emptySt K) = (∀ (l'0 : List Int), l'0 = [(79 : Int), (83 : Int), (11 : Int)] → ∀ (z1 : Int), z1 = (↑(List.length l) : Int) → ∀ (z2 : Int), z2 = IntKind.wrap IntKind.u8 z1 → ∀ (l'3 : List Int), l'3 = [z2] → l = l ∧ l = l ∧ ((3 : Nat) ≤ List.length l'0 ∧ (3 : Nat) ≤ (3 : Nat)) ∧ Nat.le (1 : Nat) (List.length l'3) ∧ (3 : Nat) ≤ (16777216 : Nat) ∧ (1 : Nat) ≤ (16777216 : Nat) ∧ ∀ (l'4 : List Int) (n'5 c'6 : Nat), l'4 = List.take (3 : Nat) (List.drop (0 : Nat) l'0) ++ List.take (1 : Nat) (List.drop (0 : Nat) l'3) → n'5 = (3 : Nat) + (1 : Nat) → n'5 ≤ c'6 → l = l ∧ l = l ∧ ((0 : Nat) + n'5 ≤ List.length l'4 ∧ (0 : Nat) + c'6 ≤ c'6) ∧ True ∧ n'5 ≤ (16777216 : Nat) ∧ List.length l ≤ (16777216 : Nat) ∧ ∀ (l'7 : List Int) (n'8 c'9 : Nat), l'7 = List.take n'5 (List.drop ((0 : Nat)) l'4) ++ l → n'8 = n'5 + List.length l → n'8 ≤ c'9 → l = l ∧ l = l ∧ ∀ (z10 : Int), z10 = IntKind.wrap IntKind.u8 why → ∀ (l'11 : List Int), l'11 = [z10] → ((0 : Nat) + n'8 ≤ List.length l'7 ∧ (0 : Nat) + c'9 ≤ c'9) ∧ Nat.le (1 : Nat) (List.length l'11) ∧ n'8 ≤ (16777216 : Nat) ∧ (1 : Nat) ≤ (16777216 : Nat) ∧ ∀ (l'12 : List Int) (n'13 c'14 : Nat), l'12 = List.take n'8 (List.drop ((0 : Nat)) l'7) ++ List.take (1 : Nat) (List.drop (0 : Nat) l'11) → n'13 = n'8 + (1 : Nat) → n'13 ≤ c'14 → K (Sum.inl (Sum.inl (Sum.inr (Sum.inr (Sum.inr (Sum.inr (Sum.inr (Sum.inr (Sum.inr (Sum.inl { a := (0 : Nat), o := (0 : Nat), n := n'13, c := c'14 })))))))))) { heap := [], ints := [], opqs := (0 : Nat), arrs := [some { elem := (5 : Nat), k := AK.n IntKind.u8, l := l'12, cap := c'14, ro := false }], junks := (0 : Nat) }) := by kernel_rfl
theorem renc12_vc (K : AV → St → Prop) (xid mac ip ticks nonce tag why : Int) (l : List Int) : (runI inv0 tTC 17 [msgK 12 xid mac ip ticks (strC l) nonce tag why] emptySt K) = (∀ (l'0 : List Int), l'0 = [(79 : Int), (83 : Int), (12 : Int)] → ∀ (z1 : Int), z1 = (↑(List.length l) : Int) → ∀ (z2 : Int), z2 = IntKind.wrap IntKind.u8 z1 → ∀ (l'3 : List Int), l'3 = [z2] → l = l ∧ l = l ∧ ((3 : Nat) ≤ List.length l'0 ∧ (3 : Nat) ≤ (3 : Nat)) ∧ Nat.le (1 : Nat) (List.length l'3) ∧ (3 : Nat) ≤ (16777216 : Nat) ∧ (1 : Nat) ≤ (16777216 : Nat) ∧ ∀ (l'4 : List Int) (n'5 c'6 : Nat), l'4 = List.take (3 : Nat) (List.drop (0 : Nat) l'0) ++ List.take (1 : Nat) (List.drop (0 : Nat) l'3) → n'5 = (3 : Nat) + (1 : Nat) → n'5 ≤ c'6 → l = l ∧ l = l ∧ ((0 : Nat) + n'5 ≤ List.length l'4 ∧ (0 : Nat) + c'6 ≤ c'6) ∧ True ∧ n'5 ≤ (16777216 : Nat) ∧ List.length l ≤ (16777216 : Nat) ∧ ∀ (l'7 : List Int) (n'8 c'9 : Nat), l'7 = List.take n'5 (List.drop ((0 : Nat)) l'4) ++ l → n'8 = n'5 + List.length l → n'8 ≤ c'9 → l = l ∧ l = l ∧ (((0 : Int) ≤ (8 : Int) ∧ (8 : Int) ≤ (1000 : Int)) ∧ (0 : Int) ≤ nonce ∧ nonce ≤ (18446744073709551615 : Int)) ∧ ∀ (m10 : Nat) (L11 : List Int), (↑m10 : Int) = (8 : Int) → L11 = U.nb (8 : Int) nonce → ((0 : Nat) + n'8 ≤ List.length l'7 ∧ (0 : Nat) + c'9 ≤ c'9) ∧ Nat.le ((0 : Nat) + m10) (List.length L11) ∧ n'8 ≤ (16777216 : Nat) ∧ m10 ≤ (16777216 : Nat) ∧ ∀ (l'12 : List Int) (n'13 c'14 : Nat), l'12 = List.take n'8 (List.drop ((0 : Nat)) l'7) ++ List.take m10 (List.drop ((0 : Nat)) L11) → n'13 = n'8 + m10 → n'13 ≤ c'14 → (((0 : Int) ≤ (8 : Int) ∧ (8 : Int) ≤ (1000 : Int)) ∧ (0 : Int) ≤ tag ∧ tag ≤ (18446744073709551615 : Int)) ∧ ∀ (m15 : Nat) (L16 : List Int), (↑m15 : Int) = (8 : Int) → L16 = U.nb (8 : Int) tag → ((0 : Nat) + n'13 ≤ List.length l'12 ∧ (0 : Nat) + c'14 ≤ c'14) ∧ Nat.le ((0 : Nat) + m15) (List.length L16) ∧ n'13 ≤ (16777216 : Nat) ∧ m15 ≤ (16777216 : Nat) ∧ ∀ (l'17 : List Int) (n'18 c'19 : Nat), l'17 = List.take n'13 (List.drop ((0 : Nat)) l'12) ++ List.take m15 (List.drop ((0 : Nat)) L16) → n'18 = n'13 + m15 → n'18 ≤ c'19 → K (Sum.inl (Sum.inl (Sum.inr (Sum.inr (Sum.inr (Sum.inr (Sum.inr (Sum.inr (Sum.inr (Sum.inl { a := (0 : Nat), o := (0 : Nat), n := n'18, c := c'19 })))))))))) { heap := [], ints := [], opqs := (0 : Nat), arrs := [some { elem := (5 : Nat), k := AK.n IntKind.u8, l := l'17, cap := c'19, ro := false }], junks := (0 : Nat) }) := by kernel_rfl
end Go.Proofs.Ytpcnbhgifhiejaa
end
