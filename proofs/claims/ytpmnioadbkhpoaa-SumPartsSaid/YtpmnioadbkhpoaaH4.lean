/- Layer 3: the statement of the parts comes to little. No condition. -/
import Derived.Test.YtpmnioadbkhpoaaH3
namespace Go.Proofs.Ytpmnioadbkhpoaa
open Go Reck
set_option maxRecDepth 100000
set_option linter.unusedVariables false
structure U.POk (L : List Int) (o n : Nat) : Prop where
  out : byteL L ∧ o + n ≤ L.length ∧ n ≤ 300
def sb (L : List Int) (o n : Nat) : List Int := (L.drop o).take n
def U.NP (L : List Int) (o n : Nat) (L2 : List Int) (o2 n2 : Nat) (L3 : List Int) (o3 n3 : Nat) : Int := netS (fold (true, 0) (sb L o n ++ sb L2 o2 n2 ++ sb L3 o3 n3)).2
def U.CP (L : List Int) (o n : Nat) (L2 : List Int) (o2 n2 : Nat) (L3 : List Int) (o3 n3 : Nat) : Int := 4294967295 - (crcF 4294967295 (sb L o n ++ sb L2 o2 n2 ++ sb L3 o3 n3) : Nat)
def U.TP (a b : Int) (L : List Int) (o n : Nat) (L2 : List Int) (o2 n2 : Nat) (L3 : List Int) (o3 n3 : Nat) : Int := TL a b (sb L o n ++ sb L2 o2 n2 ++ sb L3 o3 n3)
/-- Three slices over three arrays. -/
def three (σ : St) : Option (P3 × P3 × P3) := match σ with
  | ⟨[some ⟨22, [a, b, c], none, 3, false⟩], [], 0, [some ⟨5, .u8, L, cap, ro⟩, some ⟨5, .u8, L2, cap2, ro2⟩, some ⟨5, .u8, L3, cap3, ro3⟩], 0⟩ => match aslX (cell a), aslX (cell b), aslX (cell c) with
    | some ⟨0, o, n, c⟩, some ⟨1, o2, n2, c2⟩, some ⟨2, o3, n3, c3⟩ => some (⟨o, n, c, cap, ro, L⟩, ⟨o2, n2, c2, cap2, ro2, L2⟩, ⟨o3, n3, c3, cap3, ro3, L3⟩)
    | _, _, _ => none
  | _ => none
def one (σ : St) : Option P3 := match σ with
  | ⟨[some ⟨22, [a], none, 1, false⟩], [], 0, [some ⟨5, .u8, L, cap, ro⟩], 0⟩ => match aslX (cell a) with
    | some ⟨0, o, n, c⟩ => some ⟨o, n, c, cap, ro, L⟩
    | _ => none
  | _ => none
def st1 (p : P3) : St := ⟨[pt [aslC ⟨0, p.o, p.n, p.c⟩]], [], 0, [some (bs p.L p.cap p.ro)], 0⟩
def isSl (k : Nat) (a : AV) : Bool := match a with
  | .inl (.inl (.inr (.inr (.inl ⟨0, 0, m, none, c⟩)))) => Nat.beq m k && Nat.beq c k
  | _ => false
def tPart3 : Tbl := fun f args σ => match args with
  | [s] => if isSl 3 s then match three σ with
      | some (p, q, r) => if f == 10 then some fun K => (U.POk p.L p.o p.n ∧ U.POk q.L q.o q.n ∧ U.POk r.L r.o r.n) ∧ ∀ z : Int, z = U.NP p.L p.o p.n q.L q.o q.n r.L r.o r.n → K (xi .u16 z) (st3 p q r)
          else if f == 13 then some fun K => (U.POk p.L p.o p.n ∧ U.POk q.L q.o q.n ∧ U.POk r.L r.o r.n) ∧ ∀ z : Int, z = U.CP p.L p.o p.n q.L q.o q.n r.L r.o r.n → K (xi .u32 z) (st3 p q r)
          else none
      | none => none
    else none
  | [x, y, s] => if isSl 3 s && f == 15 then match three σ, intX x, intX y with
      | some (p, q, r), some (.u64, a), some (.u64, b) => some fun K => (U.POk p.L p.o p.n ∧ U.POk q.L q.o q.n ∧ U.POk r.L r.o r.n) ∧ ∀ z : Int, z = U.TP a b p.L p.o p.n q.L q.o q.n r.L r.o r.n → K (xi .u64 z) (st3 p q r)
      | _, _, _ => none
    else none
  | _ => none
def tPart1 : Tbl := fun f args σ => match args with
  | [s] => if isSl 1 s then match one σ with
      | some p => if f == 10 then some fun K => (U.B p.L ∧ p.o + p.n ≤ p.L.length ∧ p.n ≤ 900) ∧ ∀ z : Int, z = U.S p.L p.o p.n → K (xi .u16 z) (st1 p)
          else if f == 13 then some fun K => (U.B p.L ∧ p.o + p.n ≤ p.L.length ∧ p.n ≤ 900) ∧ ∀ z : Int, z = U.C p.L p.o p.n → K (xi .u32 z) (st1 p)
          else none
      | none => none
    else none
  | [x, y, s] => if isSl 1 s && f == 15 then match one σ, intX x, intX y with
      | some p, some (.u64, a), some (.u64, b) => some fun K => (U.B p.L ∧ p.o + p.n ≤ p.L.length ∧ p.n ≤ 900) ∧ ∀ z : Int, z = U.T a b p.L p.o p.n → K (xi .u64 z) (st1 p)
      | _, _, _ => none
    else none
  | _ => none
def tbl6 : Tbl := tblOr tAwake (tblOr tShort (tblOr tPart3 tPart1))
abbrev run6 (f : Nat) (args : List AV) (σ : St) : Prop := goT Try.prog [] (orcOf inv1 tbl6) (opMem Try.prog) 3000 (.inr (.inr (.inr (.inr f)))) args σ isTrue
theorem sumParts_vc (x y : Int) (L L2 L3 : List Int) (n c n2 c2 n3 c3 : Nat) : (run6 6 [xi .u64 x, xi .u64 y, cell (aslC ⟨0, 0, n, c⟩), cell (aslC ⟨1, 0, n2, c2⟩), cell (aslC ⟨2, 0, n3, c3⟩)] (ar [bs L 0 true, bs L2 0 true, bs L3 0 true])) = (n ≤ c ∧ ∀ (n'0 : Nat), n'0 = U.m3 n → n2 ≤ c2 ∧ ∀ (n'1 : Nat), n'1 = U.m3 n2 → n3 ≤ c3 ∧ ∀ (n'2 : Nat), n'2 = U.m3 n3 → True ∧ Nat.le (OfNat.ofNat (0 : Nat) + n'0) (List.length L) ∧ OfNat.ofNat (0 : Nat) ≤ (16777216 : Nat) ∧ n'0 ≤ (16777216 : Nat) ∧ ∀ (l'3 : List Int) (n'4 c'5 : Nat), l'3 = [] ++ List.take n'0 (List.drop (OfNat.ofNat (0 : Nat)) L) → n'4 = OfNat.ofNat (0 : Nat) + n'0 → n'4 ≤ c'5 → (OfNat.ofNat (0 : Nat) + n'4 ≤ List.length l'3 ∧ OfNat.ofNat (0 : Nat) + c'5 ≤ c'5) ∧ Nat.le (OfNat.ofNat (0 : Nat) + n'1) (List.length L2) ∧ n'4 ≤ (16777216 : Nat) ∧ n'1 ≤ (16777216 : Nat) ∧ ∀ (l'6 : List Int) (n'7 c'8 : Nat), l'6 = List.take n'4 (List.drop (OfNat.ofNat (0 : Nat)) l'3) ++ List.take n'1 (List.drop (OfNat.ofNat (0 : Nat)) L2) → n'7 = n'4 + n'1 → n'7 ≤ c'8 → (OfNat.ofNat (0 : Nat) + n'7 ≤ List.length l'6 ∧ OfNat.ofNat (0 : Nat) + c'8 ≤ c'8) ∧ Nat.le (OfNat.ofNat (0 : Nat) + n'2) (List.length L3) ∧ n'7 ≤ (16777216 : Nat) ∧ n'2 ≤ (16777216 : Nat) ∧ ∀ (l'9 : List Int) (n'10 c'11 : Nat), l'9 = List.take n'7 (List.drop (OfNat.ofNat (0 : Nat)) l'6) ++ List.take n'2 (List.drop (OfNat.ofNat (0 : Nat)) L3) → n'10 = n'7 + n'2 → n'10 ≤ c'11 → (U.POk L (OfNat.ofNat (0 : Nat)) n'0 ∧ U.POk L2 (OfNat.ofNat (0 : Nat)) n'1 ∧ U.POk L3 (OfNat.ofNat (0 : Nat)) n'2) ∧ ∀ (z12 : Int), z12 = U.NP L (OfNat.ofNat (0 : Nat)) n'0 L2 (OfNat.ofNat (0 : Nat)) n'1 L3 (OfNat.ofNat (0 : Nat)) n'2 → (U.B l'9 ∧ OfNat.ofNat (0 : Nat) + n'10 ≤ List.length l'9 ∧ n'10 ≤ (900 : Nat)) ∧ ∀ (z13 : Int), z13 = U.S l'9 (OfNat.ofNat (0 : Nat)) n'10 → (z12 = z13 → (U.POk L (OfNat.ofNat (0 : Nat)) n'0 ∧ U.POk L2 (OfNat.ofNat (0 : Nat)) n'1 ∧ U.POk L3 (OfNat.ofNat (0 : Nat)) n'2) ∧ ∀ (z14 : Int), z14 = U.CP L (OfNat.ofNat (0 : Nat)) n'0 L2 (OfNat.ofNat (0 : Nat)) n'1 L3 (OfNat.ofNat (0 : Nat)) n'2 → (U.B l'9 ∧ OfNat.ofNat (0 : Nat) + n'10 ≤ List.length l'9 ∧ n'10 ≤ (900 : Nat)) ∧ ∀ (z15 : Int), z15 = U.C l'9 (OfNat.ofNat (0 : Nat)) n'10 → (z14 = z15 → (U.POk L (OfNat.ofNat (0 : Nat)) n'0 ∧ U.POk L2 (OfNat.ofNat (0 : Nat)) n'1 ∧ U.POk L3 (OfNat.ofNat (0 : Nat)) n'2) ∧ ∀ (z16 : Int), z16 = U.TP x y L (OfNat.ofNat (0 : Nat)) n'0 L2 (OfNat.ofNat (0 : Nat)) n'1 L3 (OfNat.ofNat (0 : Nat)) n'2 → (U.B l'9 ∧ OfNat.ofNat (0 : Nat) + n'10 ≤ List.length l'9 ∧ n'10 ≤ (900 : Nat)) ∧ ∀ (z17 : Int), z17 = U.T x y l'9 (OfNat.ofNat (0 : Nat)) n'10 → (z16 = z17 → True) ∧ (¬z16 = z17 → Err [(200 : Nat)])) ∧ (¬z14 = z15 → Err [(200 : Nat)])) ∧ (¬z12 = z13 → Err [(200 : Nat)])) := by kernel_rfl
end Go.Proofs.Ytpmnioadbkhpoaa
