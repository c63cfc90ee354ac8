/- Plain facts on bytes and their bits, the highest first: what a store of a number's bits does, bit by bit; that bytes are determined by their bits. No condition. -/
import Derived.WalkKit
set_option linter.unusedSimpArgs false
set_option linter.unusedVariables false
namespace Ost

/-- Bit i of bytes, the highest of each byte first. -/
def bitOf (cs : List Nat) (i : Nat) : Bool := (cs.getD (i / 8) 0).testBit (7 - i % 8)

/-- The number of bits, the highest first. -/
def val (l : List Bool) : Nat := l.foldl (fun a b => 2 * a + b.toNat) 0

/-- The n lowest bits of v, the highest first. -/
def num (n v : Nat) : List Bool := (List.range n).map fun i => v.testBit (n - 1 - i)

theorem num_length (n v : Nat) : (num n v).length = n := by simp [num]

theorem val_snoc (l : List Bool) (b : Bool) : val (l ++ [b]) = 2 * val l + b.toNat := by simp [val]

theorem val_nil : val [] = 0 := rfl

theorem foldl_lt (l : List Bool) : ∀ a : Nat, l.foldl (fun a b => 2 * a + b.toNat) a < (a + 1) * 2 ^ l.length := by
  induction l with
  | nil => intro a; simp
  | cons b l ih =>
    intro a
    rw [List.foldl_cons, List.length_cons, Nat.pow_succ]
    have h := ih (2 * a + b.toNat)
    have hb : b.toNat ≤ 1 := Bool.toNat_le b
    have h2 : (2 * a + b.toNat + 1) * 2 ^ l.length ≤ (a + 1) * (2 ^ l.length * 2) := by
      rw [Nat.mul_comm (2 ^ l.length) 2, ← Nat.mul_assoc]
      exact Nat.mul_le_mul_right _ (by omega)
    omega

theorem val_lt (l : List Bool) : val l < 2 ^ l.length := by have := foldl_lt l 0; simpa [val] using this

theorem byte_ext {a b : Nat} (ha : a < 256) (hb : b < 256) (h : ∀ p, p < 8 → a.testBit p = b.testBit p) : a = b := by
  apply Nat.eq_of_testBit_eq
  intro i
  by_cases hi : i < 8
  · exact h i hi
  · rw [Nat.testBit_lt_two_pow (Nat.lt_of_lt_of_le ha (by have := Nat.pow_le_pow_right (n := 2) (by omega) (show 8 ≤ i by omega); simpa using this)),
      Nat.testBit_lt_two_pow (Nat.lt_of_lt_of_le hb (by have := Nat.pow_le_pow_right (n := 2) (by omega) (show 8 ≤ i by omega); simpa using this))]

theorem bytes_ext {cs ds : List Nat} (hl : cs.length = ds.length) (hc : ∀ c ∈ cs, c < 256) (hd : ∀ c ∈ ds, c < 256) (h : ∀ i, i < 8 * cs.length → bitOf cs i = bitOf ds i) : cs = ds := by
  apply List.ext_getElem hl
  intro j h1 h2
  apply byte_ext (hc _ (List.getElem_mem _)) (hd _ (List.getElem_mem _))
  intro p hp
  have := h (8 * j + (7 - p)) (by omega)
  unfold bitOf at this
  rw [show (8 * j + (7 - p)) / 8 = j by omega, show 7 - (8 * j + (7 - p)) % 8 = p by omega] at this
  simpa [List.getD, h1, h2] using this

/-- One byte, m bits from bit k on (the lowest) taken out of x. -/
theorem store_byte (c x k m : Nat) (hc : c < 256) (hk : k + m ≤ 8) :
    Go.bits .or .u8 (Go.bits .andNot .u8 (c : Int) ((255 / 2 ^ (8 - m) * 2 ^ k % 256 : Nat) : Int)) (Go.bits .and .u8 ((x % 256 * 2 ^ k % 256 : Nat) : Int) ((255 / 2 ^ (8 - m) * 2 ^ k % 256 : Nat) : Int))
      = (((c &&& (255 - 255 / 2 ^ (8 - m) * 2 ^ k % 256)) ||| ((x % 256 * 2 ^ k % 256) &&& (255 / 2 ^ (8 - m) * 2 ^ k % 256)) : Nat) : Int) := by
  have h1 : 255 / 2 ^ (8 - m) * 2 ^ k % 256 < 256 := Nat.mod_lt _ (by omega)
  have h2 : x % 256 * 2 ^ k % 256 < 256 := Nat.mod_lt _ (by omega)
  rw [Go.u8_andNot_nat _ _ hc h1, Go.u8_and_nat _ _ h2 h1, Go.u8_or_nat]
  · exact Nat.lt_of_le_of_lt Nat.and_le_left hc
  · exact Nat.lt_of_le_of_lt Nat.and_le_right h1

theorem mask_testBit (k m p : Nat) (hk : k + m ≤ 8) (hp : p < 8) : (255 / 2 ^ (8 - m) * 2 ^ k % 256).testBit p = (decide (k ≤ p) && decide (p < k + m)) := by
  have h255 : 255 / 2 ^ (8 - m) = 2 ^ m - 1 := by
    have : m ≤ 8 := by omega
    match m, this with
    | 0, _ | 1, _ | 2, _ | 3, _ | 4, _ | 5, _ | 6, _ | 7, _ | 8, _ => rfl
  rw [h255, show (256 : Nat) = 2 ^ 8 by rfl, Nat.testBit_mod_two_pow, Nat.testBit_mul_two_pow, Nat.testBit_two_pow_sub_one]
  simp [hp]
  by_cases h : k ≤ p
  · simp [h]; omega
  · simp [h]

theorem not255_testBit (x p : Nat) (hx : x < 256) (hp : p < 8) : (255 - x).testBit p = !x.testBit p := by
  have := Nat.testBit_two_pow_sub_succ (n := 8) (x := x) (by simpa using hx) p
  rw [show 2 ^ 8 - (x + 1) = 255 - x by omega] at this
  simpa [hp] using this

theorem store_byte_testBit (c x k m p : Nat) (hk : k + m ≤ 8) (hp : p < 8) :
    ((c &&& (255 - 255 / 2 ^ (8 - m) * 2 ^ k % 256)) ||| ((x % 256 * 2 ^ k % 256) &&& (255 / 2 ^ (8 - m) * 2 ^ k % 256))).testBit p
      = if k ≤ p ∧ p < k + m then x.testBit (p - k) else c.testBit p := by
  rw [Nat.testBit_or, Nat.testBit_and, Nat.testBit_and, not255_testBit _ _ (Nat.mod_lt _ (by omega)) hp, mask_testBit k m p hk hp,
    show (256 : Nat) = 2 ^ 8 by rfl, Nat.testBit_mod_two_pow, Nat.testBit_mul_two_pow, Nat.testBit_mod_two_pow]
  by_cases h1 : k ≤ p <;> by_cases h2 : p < k + m <;> simp [h1, h2, hp]
  omega

theorem store_byte_lt (c x k m : Nat) (hc : c < 256) : ((c &&& (255 - 255 / 2 ^ (8 - m) * 2 ^ k % 256)) ||| ((x % 256 * 2 ^ k % 256) &&& (255 / 2 ^ (8 - m) * 2 ^ k % 256))) < 256 := by
  have : (256 : Nat) = 2 ^ 8 := rfl
  rw [this]
  exact Nat.or_lt_two_pow (Nat.lt_of_le_of_lt Nat.and_le_left (by simpa using hc)) (Nat.lt_of_le_of_lt Nat.and_le_right (Nat.mod_lt _ (by omega)))

/-- Bytes with one of them another. -/
theorem bitOf_set (cs : List Nat) (j y i : Nat) (hj : j < cs.length) : bitOf (cs.set j y) i = if i / 8 = j then y.testBit (7 - i % 8) else bitOf cs i := by
  unfold bitOf
  by_cases h : i / 8 = j
  · simp [h, hj]
  · simp [h, List.getD, List.getElem?_set, show ¬ j = i / 8 by omega]

/-- The bits of bytes from one on. -/
def span (cs : List Nat) (at_ k : Nat) : List Bool := (List.range k).map fun i => bitOf cs (at_ + i)

theorem span_length (cs : List Nat) (a k : Nat) : (span cs a k).length = k := by simp [span]

theorem span_succ (cs : List Nat) (a k : Nat) : span cs a (k + 1) = span cs a k ++ [bitOf cs (a + k)] := by
  simp [span, List.range_succ]

theorem span_add (cs : List Nat) (a k m : Nat) : span cs a (k + m) = span cs a k ++ span cs (a + k) m := by
  induction m with
  | zero => simp [span]
  | succ m ih => rw [← Nat.add_assoc, span_succ, ih, span_succ, List.append_assoc, Nat.add_assoc]

theorem val_foldl (l : List Bool) : ∀ a : Nat, l.foldl (fun a b => 2 * a + b.toNat) a = a * 2 ^ l.length + val l := by
  induction l with
  | nil => intro a; simp [val]
  | cons b l ih =>
    intro a
    unfold val
    rw [List.foldl_cons, ih, List.foldl_cons, ih, List.length_cons, Nat.pow_succ]
    simp only [Nat.mul_zero, Nat.zero_add, Nat.add_mul]
    rw [show a * (2 ^ l.length * 2) = 2 * a * 2 ^ l.length by rw [Nat.mul_comm (2 ^ l.length) 2, ← Nat.mul_assoc, Nat.mul_comm a 2]]
    omega

theorem val_append (l m : List Bool) : val (l ++ m) = val l * 2 ^ m.length + val m := by
  have := val_foldl m (val l)
  unfold val at this ⊢
  rw [List.foldl_append]; exact this

theorem span_val (cs : List Nat) (A m : Nat) (h : m ≤ 8 - A % 8) : val (span cs A m) = cs.getD (A / 8) 0 / 2 ^ (8 - A % 8 - m) % 2 ^ m := by
  induction m with
  | zero => simp [span, val, Nat.mod_one]
  | succ m ih =>
    rw [span_succ, val_snoc, ih (by omega), bitOf, Nat.toNat_testBit, show (A + m) / 8 = A / 8 by omega, show 7 - (A + m) % 8 = 8 - A % 8 - (m + 1) by omega,
      show 8 - A % 8 - m = (8 - A % 8 - (m + 1)) + 1 by omega, Nat.pow_succ 2 (8 - A % 8 - (m + 1)), ← Nat.div_div_eq_div_mul, Nat.pow_succ 2 m, Nat.mul_comm (2 ^ m) 2]
    rw [Nat.mod_mul]
    omega

theorem load_byte (c k m : Nat) (hc : c < 256) (hm : m ≤ 8) : Go.bits .and .u8 ((c / 2 ^ k : Nat) : Int) ((255 / 2 ^ (8 - m) : Nat) : Int) = ((c / 2 ^ k % 2 ^ m : Nat) : Int) := by
  have h1 : c / 2 ^ k < 256 := Nat.lt_of_le_of_lt (Nat.div_le_self _ _) hc
  have h255 : 255 / 2 ^ (8 - m) = 2 ^ m - 1 := by
    match m, hm with
    | 0, _ | 1, _ | 2, _ | 3, _ | 4, _ | 5, _ | 6, _ | 7, _ | 8, _ => rfl
  have h2 : 255 / 2 ^ (8 - m) < 256 := Nat.lt_of_le_of_lt (Nat.div_le_self _ _) (by omega)
  rw [Go.u8_and_nat _ _ h1 h2, h255, Nat.and_two_pow_sub_one_eq_mod]

theorem join_u64 (v p m k : Nat) (hv : v < 2 ^ k) (hp : p < 2 ^ m) (hk : k + m ≤ 64) : Go.bits .or .u64 (((v * 2 ^ m) % 18446744073709551616 : Nat) : Int) (p : Int) = ((v * 2 ^ m + p : Nat) : Int) := by
  have h0 : v * 2 ^ m + p < 2 ^ (k + m) := by
    rw [Nat.pow_add]
    have : (v + 1) * 2 ^ m ≤ 2 ^ k * 2 ^ m := Nat.mul_le_mul_right _ hv
    rw [Nat.add_mul] at this
    omega
  have h1 : 2 ^ (k + m) ≤ 2 ^ 64 := Nat.pow_le_pow_right (by omega) hk
  have h2 : (2 : Nat) ^ 64 = 18446744073709551616 := by decide
  rw [Nat.mod_eq_of_lt (by omega), Go.u64_or_nat _ _ (by omega) (by omega), Go.nat_join m _ _ (by simp) hp]

theorem load_step (c x p m k : Nat) (hc : c < 256) (hx : x < 2 ^ k) (hm : m ≤ 8) (hk : k + m ≤ 64) :
    Go.bits .or .u64 (Go.IntKind.u64.wrap ((x : Int) * 2 ^ m)) (Go.IntKind.u64.wrap (Go.bits .and .u8 ((c : Int) / 2 ^ p) (255 / 2 ^ (8 - m)))) = ((x * 2 ^ m + c / 2 ^ p % 2 ^ m : Nat) : Int) := by
  have h1 := load_byte c p m hc hm
  have h2 : c / 2 ^ p % 2 ^ m < 2 ^ m := Nat.mod_lt _ (Nat.two_pow_pos m)
  have h3 : (2 : Nat) ^ m ≤ 2 ^ 8 := Nat.pow_le_pow_right (by omega) hm
  have h4 : (2 : Nat) ^ 8 = 256 := by decide
  have h := join_u64 x (c / 2 ^ p % 2 ^ m) m k hx h2 hk
  simp only [Int.natCast_ediv, Int.natCast_pow, Int.cast_ofNat_Int] at h1
  rw [h1, ← h, Go.IntKind.wrap_u64, Go.IntKind.wrap_u64]
  generalize c / 2 ^ p % 2 ^ m = y at *
  rw [show (y : Int) % 18446744073709551616 = y by omega]
  simp

end Ost
